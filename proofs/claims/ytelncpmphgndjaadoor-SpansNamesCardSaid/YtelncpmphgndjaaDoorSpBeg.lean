/- What begins of package spans hands back: the numbers at which pieces begin, rising, in new memory. Under the conditions that it names. -/
import Derived.Test.YtelncpmphgndjaaDoorSpMerge
namespace Go.Proofs.YtelncpmphgndjaaDoor
open Go.RowKit
/-- How the world stands between two cuts: the box of most, the box of the list. -/
structure BJ (g0 n most : Nat) (A B : List Nat) (w W0 : World) (i j y : Nat) (D : List Nat) (mv : Value) (W : World) : Prop where
  rising : D.Pairwise (· < ·)
  mem : ∀ c, c ∈ D ↔ (c ∈ A.take i ∨ c ∈ B.take j) ∧ c ≤ most
  len : D.length ≤ i + j
  own : OwnN 35 .u64 W0.heap.size W mv D
  b0 : W.heap[g0]? = some (.cells #[.int .u32 most] 30 (0, 0))
  b1 : W.heap[n]? = some (.cells #[mv] 49 (0, 0))
  old : ∀ g, g < W0.heap.size → g ≠ n → W.heap[g]? = W0.heap[g]?
  os : W.os = W0.os
  tape : W.tape = W0.tape
  output : W.output = W0.output
  size : W0.heap.size ≤ W.heap.size
theorem next_take {A B : List Nat} {i j c i' j' : Nat} (h : Next A B i j c i' j') : ∀ d, (d ∈ A.take i' ∨ d ∈ B.take j') ↔ (d ∈ A.take i ∨ d ∈ B.take j) ∨ d = c := by
  intro d
  cases h with
  | left hi hb => rw [take_one hi]; constructor <;> intro h <;> rcases h with (h | h) | h <;> simp [h]
  | right hj ha => rw [take_one hj]; constructor <;> intro h <;> first | (rcases h with h | h | h <;> simp [h]) | (rcases h with (h | h) | h <;> simp [h])
  | both hi hj e => rw [take_one hi, take_one hj, ← e]; constructor <;> intro h <;> first | (rcases h with (h | h) | h | h <;> simp [h]) | (rcases h with (h | h) | h <;> simp [h])
theorem next_low {A B : List Nat} {i j y : Nat} (h : Split A B i j y) : ∀ d, (d ∈ A.take i ∨ d ∈ B.take j) → d < y := fun d hd => hd.elim (h.lowA d) (h.lowB d)
set_option maxRecDepth 100000 in
set_option maxHeartbeats 2000000 in
theorem beg_ask (g0 n most : Nat) (A B : List Nat) (hA : A.Pairwise (· < ·)) (hB : B.Pairwise (· < ·)) (w W0 : World) (hg0 : g0 < W0.heap.size) (hn : n < W0.heap.size) (hgn : g0 ≠ n) (hmt : most < top) (i j y c i' j' : Nat) (D : List Nat) (mv : Value) (W : World)
    (hJ : BJ g0 n most A B w W0 i j y D mv W) (hs : Split A B i j y) (hnx : Next A B i j c i' j') (hct : c ≤ top) (hij : i + j ≤ 1000000000) (p q : Bool) :
    Calls Tryd.prog 43 #[.int .u64 c, .bool p, .bool q, .pointer (some ⟨g0, 0, none⟩), .pointer (some ⟨n, 0, none⟩)] W
      fun e W' => e = .returned (.tuple #[]) ∧ ∃ D' mv', BJ g0 n most A B w W0 i' j' (c + 1) D' mv' W' := by
  have hsp := hnx.split hA hB hs
  have hyc := hsp.2.1
  have hlt := hsp.2.2.2.1
  have hlow := next_low hs
  have htk := next_take hnx
  obtain ⟨ci, hci⟩ : ∃ z : Int, z = (c : Int) := ⟨_, rfl⟩
  obtain ⟨mi, hmi⟩ : ∃ z : Int, z = (most : Int) := ⟨_, rfl⟩
  rw [← hci]
  obtain ⟨rising, mem, len, own, b0, b1, old, hos, htp, hou, size⟩ := hJ
  have b0' := b0
  rw [← hmi] at b0'
  have c0 : W.cell? ⟨g0, 0, none⟩ = some (.int .u32 mi) := cell_of_heap b0'
  have c1 : W.cell? ⟨n, 0, none⟩ = some mv := cell_of_heap b1
  have f1 : W.frozen? ⟨n, 0, none⟩ = false := frozen_of_heap b1
  rw [top_def] at hct hmt
  have hc0 : 0 ≤ ci := by omega
  have hc1 : ci ≤ 4294967296 := by omega
  have hm0 : 0 ≤ mi := by omega
  have hm1 : mi < 4294967296 := by omega
  have HCI := Lib.hid hci; have HMI := Lib.hid hmi
  have B0 := Lib.hid b0; have B1 := Lib.hid b1; have HOLD := Lib.hid old; have HMEM := Lib.hid mem; have HRI := Lib.hid rising
  have HLOW := Lib.hid hlow; have HTK := Lib.hid htk; have HOWN := Lib.hid own
  have HEQ := Lib.hid (And.intro hos (And.intro htp hou))
  have hown' : World.ownsRow W W0.heap.size 35 1 mv D.length (D.map (numV .u64)) := own
  have HW := Lib.hid hown'
  clear b0 b0' b1 old mem rising own hos htp hou hlow htk hci hmi hs hnx hsp hown'
  by_cases hle : ci ≤ mi
  · have d1 : decide (ci ≤ mi) = true := by simpa using hle
    obtain ⟨i0, hi0, hz0, hz1, hz2⟩ := info_parts infoU64
    go_enter Tryd.func43, Tryd.ntmps43
    go_wp2_with (at_builtin; refine wpList_append_own _ rfl _ _ 49 rfl W0.heap.size 35 i0 (.int .u64 0) 1 8 Tryd.underlying49 hi0 hz0 hz1 hz2 rfl (by decide) _ _ _ rfl (World.ownsRow.alloc HW.out _) ⟨W.heap.size, 0, none⟩ 1 1 [.int .u64 ci] rfl rfl (cell_one_new _ _ _) (fun x hx => by simp at hx; subst hx; rfl) (by unfold maxLen; omega) (by omega) (by simp; omega) ?_; intro v3 w3 hown3 hgr3 hnil3; obtain ⟨g3, cap3, rfl⟩ := own_succ hown3; have hbk : ∀ g, g < W0.heap.size → w3.heap[g]? = W.heap[g]? := (fun g hg => (hgr3.block g (by simp; omega) (fun h => by have := (World.ownsRow.lt HW.out g h.symm).1; omega)).trans (heap_alloc _ (by omega))); have HBK := Lib.hid hbk; clear hbk; have y1 : w3.cell? ⟨n, 0, none⟩ = some mv := cell_of_heap ((HBK.out _ hn).trans B1.out); have y2 : w3.frozen? ⟨n, 0, none⟩ = false := frozen_of_heap ((HBK.out _ hn).trans B1.out); have hz3 := hgr3.size)
    go_end0
    simp at hz3
    refine ⟨rfl, D ++ [c], .slice (some ⟨g3, 0, none⟩) (D.length + 1) cap3, ?_, ?_, by simp; omega, ?_, ?_, ?_, ?_, ?_, ?_, ?_, by simp; omega⟩
    · refine List.pairwise_append.2 ⟨HRI.out, by simp, fun a ha b hb => ?_⟩
      simp at hb; subst hb
      have := HLOW.out a ((HMEM.out a).1 ha).1
      omega
    · intro d
      rw [HTK.out, List.mem_append, HMEM.out, List.mem_singleton]
      have := HCI.out; have := HMI.out
      constructor
      · rintro (⟨h, h2⟩ | rfl)
        · exact ⟨.inl h, h2⟩
        · exact ⟨.inr rfl, by omega⟩
      · rintro ⟨h | rfl, h2⟩
        · exact .inl ⟨h, h2⟩
        · exact .inr rfl
    · refine ownsRow_of (w := w3) ?_ fun x _ hx _ => by rw [heap_setCell_ne _ (by omega)]
      rw [List.length_append, List.map_append]
      rw [HCI.out] at hown3
      exact hown3
    · rw [heap_setCell_ne _ (Ne.symm hgn), HBK.out _ hg0]; exact B0.out
    · exact heap_setCell _ ((HBK.out _ hn).trans B1.out)
    · intro g h1 h2; rw [heap_setCell_ne _ (Ne.symm h2), HBK.out g h1]; exact HOLD.out g h1 h2
    · exact hgr3.os.trans HEQ.out.1
    · exact hgr3.tape.trans HEQ.out.2.1
    · exact hgr3.output.trans HEQ.out.2.2
  · have d1 : decide (ci ≤ mi) = false := by simpa using hle
    go_enter Tryd.func43, Tryd.ntmps43
    go_wp2
    go_end0
    refine ⟨rfl, D, mv, HRI.out, fun d => ?_, by omega, HOWN.out, B0.out, B1.out, HOLD.out, HEQ.out.1, HEQ.out.2.1, HEQ.out.2.2, size⟩
    rw [HTK.out, HMEM.out]
    have := HCI.out; have := HMI.out
    constructor
    · rintro ⟨h, h2⟩; exact ⟨.inl h, h2⟩
    · rintro ⟨h | rfl, h2⟩
      · exact ⟨h, h2⟩
      · omega
end Go.Proofs.YtelncpmphgndjaaDoor
