/- slices.Compact at uint32, Normal of package lists: communities in form. Under the conditions that they name. -/
import Derived.Test.YtkkhmdiffddllaaDoorUsK
import Derived.Shelf.SlicesE.Compact
namespace Go.Proofs.YtkkhmdiffddllaaDoor
open Go.Shelf Go.RowKit Go.Lib Go.Sort
theorem infoU : (Tryd.prog.info? 23).map (fun i => (i.zero, i.size, i.bytes)) = some (some (.int .u32 0), 1, 4) := by kernel_rfl
theorem compact_nil (w : World) : Calls Tryd.prog 18 #[.slice none 0 0] w fun e w' => e = .returned (.slice none 0 0) ∧ w' = w := by
  go_enter Tryd.func18, Tryd.ntmps18
  go_wp2
  go_ret
  exact ⟨rfl, rfl⟩
theorem compact_zero (p : Option Addr) (c : Nat) (w : World) : Calls Tryd.prog 18 #[.slice p 0 c] w fun e w' => e = .returned (.slice p 0 c) ∧ w' = w := by
  go_enter Tryd.func18, Tryd.ntmps18
  go_wp2
  go_ret
  exact ⟨rfl, rfl⟩
/-- A list of numbers of one's own. -/
abbrev OwnU (B : Nat) (w : World) (v : Value) (l : List Int) : Prop := w.ownsRow B 23 1 v l.length (flatK encU l)
theorem flatE (l : List Int) : flatK encU l = l.map encW := flatU l
/-- A row that was written over from its beginning. -/
theorem own_part {w : World} {B g cap : Nat} {cur : Array Value} {d : Array Int} {r : List Int} (hg : w.heap[g]? = some (.cells (putCells encW 0 d cur) 23 (0, 0))) (hB : B ≤ g) (hd : d.size ≤ cur.size) (hr : r.length ≤ d.size) (hp : d.toList.take r.length = r) (hc : d.size ≤ cap) (hm : cap ≤ maxLen) (hs : cur.size = cap) :
    OwnU B w (.slice (some ⟨g, 0, none⟩) r.length cap) r := by
  refine ⟨by rw [flatK_length encU_len, Nat.mul_one], .inr ⟨g, cap, _, rfl, hB, hg, by omega, hm, by simp [putCells, hs], ?_⟩⟩
  rw [Nat.mul_one, flatE]
  have h := take_put cur d hd
  have h2 : (putCells encW 0 d cur).toList.take r.length = ((putCells encW 0 d cur).toList.take d.size).take r.length := by rw [List.take_take, Nat.min_eq_left hr]
  rw [h2, h, ← List.map_take, hp]
set_option maxRecDepth 100000 in
set_option maxHeartbeats 1000000 in
theorem normal_is (v : Value) (l : List Int) (w : World) (hv : RdK encU 1 w v l) (hl : l.length ≤ 35184372087808) : Calls Tryd.prog 5 #[v] w fun e w' =>
    ∃ v' r, e = .returned v' ∧ OwnU w.heap.size w' v' r ∧ IsForm l r ∧ r.length ≤ l.length ∧ Below w.heap.size w w' := by
  have HV := Lib.hid hv
  obtain ⟨p, c, rfl, h2, h3, h4⟩ := hv
  clear h4
  go_enter Tryd.func5, Tryd.ntmps5
  go_wp2_with (first
    | (at_builtin; refine wpList_append_rdk encU_len (by decide) encU_one rfl _ _ 22 23 rfl (.int .u32 0) 4 Tryd.underlying22 rfl infoU w.heap.size (.slice none 0 0) 0 [] rfl (World.ownsRow_nil w w.heap.size 23 1) _ l rfl HV.out (by unfold maxLen; omega) (by omega) (Nat.le_refl _) ?_
       intro v1 W1 O1 R1 E1
       have B1 : Hid (Below w.heap.size w W1) := Lib.hid ((Below.refl _ _).grown R1 (Nat.le_refl _) (fun j hj => by cases hj))
       have O2 : Hid (W1.ownsRow w.heap.size 23 1 v1 l.length (flatK encU l)) := Lib.hid (by simpa using O1)
       clear O1 R1 E1))
  rcases O2.out.2 with ⟨rfl, hz⟩ | ⟨g, cap, cur, rfl, hg, hb, hle, hm, hsz, hc⟩
  · have C1 := Lib.hid (sort_zero none 0 W1)
    have C2 := Lib.hid (compact_nil W1)
    (with_reducible refine C1.out.mono ?_)
    rintro e w1 ⟨rfl, rfl⟩
    go_wp2_with fail
    go_at_call 18
    (with_reducible refine C2.out.mono ?_)
    rintro e w2 ⟨rfl, rfl⟩
    go_wp2
    go_ret
    obtain rfl := List.eq_nil_of_length_eq_zero hz
    exact ⟨_, [], rfl, World.ownsRow_nil _ _ _ _, ⟨List.Pairwise.nil, fun x => by simp⟩, Nat.le_refl _, B1.out⟩
  · rw [Nat.mul_one, flatE] at hc
    by_cases h0 : l.length = 0
    · obtain rfl := List.eq_nil_of_length_eq_zero h0
      have C1 : Hid (Calls Tryd.prog 17 #[.slice (some ⟨g, 0, none⟩) ([] : List Int).length cap] W1 fun e w' => e = .returned (.tuple #[]) ∧ w' = W1) := Lib.hid (sort_zero (some ⟨g, 0, none⟩) cap W1)
      have hcp : Hid (Calls Tryd.prog 18 #[.slice (some ⟨g, 0, none⟩) 0 cap] W1 fun e w' => e = .returned (.slice (some ⟨g, 0, none⟩) 0 cap) ∧ w' = W1) := Lib.hid (compact_zero _ _ W1)
      (with_reducible refine C1.out.mono ?_)
      rintro e w1 ⟨rfl, rfl⟩
      go_wp2_with fail
      go_at_call 18
      (with_reducible refine hcp.out.mono ?_)
      rintro e w2 ⟨rfl, rfl⟩
      go_wp2
      go_ret
      exact ⟨_, [], rfl, O2.out, ⟨List.Pairwise.nil, fun x => by simp⟩, Nat.le_refl _, B1.out⟩
    · have C1 := Lib.hid (sort_row g cap cur l W1 (by omega) hb hc (by omega))
      have hgl : g < W1.heap.size := (Array.getElem?_eq_some_iff.1 hb).1
      (with_reducible refine C1.out.mono ?_)
      rintro e W2 ⟨rfl, R, hw2, hD⟩
      have hRs : R.size = l.length := by have := hD.1.1; simpa using this
      have HB2 := Lib.hid (sw_block hb hw2)
      have B2 : Hid (Go.RowKit.Below w.heap.size w W2) := Lib.hid (B1.out.grown (sw_grown hw2) B1.out.size (fun j hj => by cases hj; exact hg))
      have HF := Lib.hid (sorted_form hD.1 hD.2)
      have hH2 : Holds encW W2 g 0 R := by
        have := holds_block hb hc
        exact SW.holds hw2 hgl this (by simpa using hRs)
      have hcs : R.size ≤ cur.size := by omega
      obtain ⟨r, hr⟩ : ∃ r, compactUpTo R R.size = r := ⟨_, rfl⟩
      have hrl : r.length ≤ R.size := by
        rw [← hr]; unfold compactUpTo
        rw [List.length_map]
        exact Nat.le_trans (List.length_filter_le _ _) (by simp)
      have C2 := Lib.hid (AnyE.slices_Compact Tryd.compL encW oneW (EqlAt.intD _ _ _) (NeqAt.intD _ _ _) (0 : Int) (fun w => by kernel_rfl) g 0 cap R W2 hH2 (by omega) (by omega))
      rw [hr, hRs] at C2
      change Hid (Calls Tryd.prog 18 _ _ _) at C2
      rw [hr] at HF
      have HR2 := Lib.hid hr
      clear hr hw2 hD hH2
      go_wp2_with fail
      go_at_call 18
      (with_reducible refine C2.out.mono ?_)
      rintro e W3 ⟨rfl, q, hq⟩
      have S3 : SW encW W2 g 0 (r ++ List.replicate (l.length - r.length) (0 : Int)).toArray W3 := ⟨q, #[], by unfold sortWorld; rw [grow_empty]; exact hq⟩
      have HB3 := Lib.hid (sw_block HB2.out S3)
      have B3 : Hid (Go.RowKit.Below w.heap.size w W3) := Lib.hid (B2.out.grown (sw_grown S3) B2.out.size (fun j hj => by cases hj; exact hg))
      clear S3 hq
      have hd : (r ++ List.replicate (l.length - r.length) (0 : Int)).toArray.size = l.length := by simp; omega
      have O3 : Hid (OwnU w.heap.size W3 (.slice (some ⟨g, 0, none⟩) r.length cap) r) := Lib.hid (own_part HB3.out hg (by rw [hd]; simp [putCells]; omega) (by rw [hd]; omega) (by simp) (by rw [hd]; omega) hm (by simp [putCells]; omega))
      have hrl2 : r.length ≤ l.length := by omega
      clear hd
      go_wp2
      go_ret
      exact ⟨_, r, rfl, O3.out, HF.out, hrl2, B3.out⟩
end Go.Proofs.YtkkhmdiffddllaaDoor
