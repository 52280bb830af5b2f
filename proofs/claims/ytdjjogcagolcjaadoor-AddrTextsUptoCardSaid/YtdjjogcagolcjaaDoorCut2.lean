/- What Cut of package addr hands back: the one list of prefixes that the range is cut into, in new memory; ErrArg where lo is above hi. The table of package math/bits is asked to be what its text says. -/
import Derived.Test.YtdjjogcagolcjaaDoorCut1
namespace Go.Proofs.YtdjjogcagolcjaaDoor
open Go.RowKit
theorem infoP : (Tryd.prog.info? 30).map (fun i => (i.zero, i.size, i.bytes)) = some (some (.agg #[.int .u32 0, .int .i64 0]), 2, 16) := by kernel_rfl
/-- What is handed back where lo is not above hi. -/
def CutPost (lo hi : Int) (w : World) (e : Ending) (w' : World) : Prop := ∃ (v : Value) (l : List (Int × Int)), e = .returned (.tuple #[v, .int .i64 0]) ∧ Cuts (hi + 1) lo l ∧ w'.ownsRow w.heap.size 30 2 v l.length (flat l) ∧ Below w.heap.size w w'
theorem ownsRow_base {w : World} {b b' : Nat} {e : TypeId} {k : Nat} {v : Value} {n : Nat} {xs : List Value} (h : w.ownsRow b e k v n xs) (hb : b' ≤ b) : w.ownsRow b' e k v n xs := by
  refine ⟨h.1, ?_⟩
  rcases h.2 with hn | ⟨g, cap, cur, rfl, hg, rest⟩
  · exact .inl hn
  · exact .inr ⟨g, cap, cur, rfl, Nat.le_trans hb hg, rest⟩
theorem ownsRow_of {w w' : World} {b : Nat} {e : TypeId} {k : Nat} {v : Value} {n : Nat} {xs : List Value} (h : w.ownsRow b e k v n xs) (hk : ∀ g, v.ownBlock = some g → b ≤ g → g < w.heap.size → w'.heap[g]? = w.heap[g]?) : w'.ownsRow b e k v n xs := by
  have hlt := h.lt
  refine ⟨h.1, ?_⟩
  rcases h.2 with hn | ⟨g, cap, cur, rfl, hg, hh, rest⟩
  · exact .inl hn
  · have := hlt g rfl
    exact .inr ⟨g, cap, cur, rfl, hg, by rw [hk g rfl this.1 this.2]; exact hh, rest⟩
/-- Where the cutting stands: d is done up to a; the next one is of n bits, or none is left. -/
def St (lo E : Int) (d : List (Int × Int)) (f a n : Int) (more : Bool) : Prop := lo ≤ a ∧ (d.length : Int) ≤ a - lo ∧ Done E lo a d ∧ ((more = true ∧ a < E ∧ Step E a n ∧ f = a + pw n) ∨ (more = false ∧ a = E ∧ f = E))
def moreOf : Value → Nat | .bool true => 1 | _ => 0
/-- What the loop keeps. -/
def Loop (w : World) (lo E : Int) (s6 s8 s9 : Value) (wr : World) : Prop := ∃ (d : List (Int × Int)) (f a n : Int) (v : Value) (bp : Nat) (more : Bool), s6 = v ∧ s8 = .pointer (some ⟨bp, 0, none⟩) ∧ s9 = .bool more ∧ wr.ownsRow (w.heap.size + 2) 30 2 v d.length (flat d) ∧ Below w.heap.size w wr ∧
    wr.cell? ⟨w.heap.size, 0, none⟩ = some (.int .u64 f) ∧ wr.cell? ⟨w.heap.size + 1, 0, none⟩ = some (.int .u64 E) ∧ wr.frozen? ⟨w.heap.size, 0, none⟩ = false ∧ wr.cell? ⟨bp, 0, none⟩ = some (.int .u32 a) ∧ wr.cell? ⟨bp, 1, none⟩ = some (.int .i64 n) ∧
    wr.frozen? ⟨bp, 0, none⟩ = false ∧ wr.frozen? ⟨bp, 1, none⟩ = false ∧ bp < wr.heap.size ∧ w.heap.size + 1 < bp ∧ v.ownBlock ≠ some bp ∧ (more = true → St lo E d f a n more) ∧ (more = false → St lo E d f E n more)
set_option maxHeartbeats 400000 in
theorem cut_no (lo hi : Int) (w : World) (h : hi < lo) :
    Calls Tryd.prog 17 #[.int .u32 lo, .int .u32 hi] w fun e w' => e = .returned (.tuple #[.slice none 0 0, .int .i64 1]) ∧ w = w' := by
  go_enter Tryd.func17, Tryd.ntmps17
  go_wp2_with fail
  go_ret2
  exact ⟨rfl, rfl⟩
set_option maxRecDepth 100000 in
set_option maxHeartbeats 400000 in
theorem cut_ok (lo hi : Int) (w : World) (h0 : 0 ≤ lo) (h1 : lo ≤ hi) (h2 : hi < 4294967296) (hT : Tab w) :
    Calls Tryd.prog 17 #[.int .u32 lo, .int .u32 hi] w (CutPost lo hi w) := by
  have h3 : lo < 4294967296 := by omega
  have h6 : 0 ≤ hi := by omega
  have h4 : lo < hi + 1 := by omega
  have h5 : hi + 1 ≤ 4294967296 := by omega
  have hd : decide (hi < lo) = false := by simp; omega
  go_enter Tryd.func17, Tryd.ntmps17
  go_wp2_with (first | (go_at_call 35; (with_reducible refine (cutter_is lo hi _ h0 h3 h6 h2).mono ?_); rintro e w' ⟨rfl, rfl⟩))
  go_at_call 46
  refine (next_step lo (hi + 1) _ _ _ (by go_simp) (by go_simp) (by go_simp) (by simp; try omega) (by simp; try omega) h0 h4 h5 (hT.on (by go_grown))).mono ?_
  rintro e w1 ⟨rfl, hb⟩
  obtain ⟨n0, hn0⟩ : ∃ n, stp lo (hi + 1) = n := ⟨_, rfl⟩
  have hst0 := (stp_step lo (hi + 1) h0 h4 h5).1
  rw [hn0] at hb hst0 ⊢
  clear hn0
  have hz := hb.size
  simp at hz
  have k0 : w1.cell? ⟨w.heap.size, 0, none⟩ = some (.int .u64 (lo + pw n0)) := (hb.cell (p := ⟨w.heap.size, 0, none⟩) (by simp; try omega)).trans (by go_simp)
  have k1 : w1.cell? ⟨w.heap.size + 1, 0, none⟩ = some (.int .u64 (hi + 1)) := (hb.cell (p := ⟨w.heap.size + 1, 0, none⟩) (by simp)).trans (by go_simp)
  have k2 : w1.frozen? ⟨w.heap.size, 0, none⟩ = false := (hb.frozen (p := ⟨w.heap.size, 0, none⟩) (by simp; try omega)).trans (by go_simp)
  have hB : Below w.heap.size w w1 := ((((Below.refl _ _).alloc (by simp) _).alloc (by simp) _).setCell (by simp) _).trans (hb.mono (by simp; try omega))
  have hz0 : w.heap.size < w1.heap.size := by omega
  have hz1 : w.heap.size + 1 < w1.heap.size := by omega
  clear hb
  go_wp2_with fail
  go_loopw [6, 8, 9] (fun s6 s8 s9 wr => Loop w lo (hi + 1) s6 s8 s9 wr) (fun _ _ s9 wr => (hi + 1 - intOf ((wr.cell? ⟨w.heap.size, 0, none⟩).getD undef)).toNat + moreOf s9)
  case atStart =>
    refine ⟨[], lo + pw n0, lo, n0, _, w1.heap.size, true, rfl, rfl, rfl, World.ownsRow_nil _ _ _ _, hB.alloc (by omega) _, by go_simp, by go_simp, by go_simp, by go_simp, by go_simp, by go_simp, by go_simp, by simp, by omega, by simp [Value.ownBlock], fun _ => ?_, fun h => by simp at h⟩
    exact ⟨by omega, by simp, Done.start _ _, .inl ⟨rfl, h4, hst0, rfl⟩⟩
  case round =>
    obtain ⟨d, f, a, n, v, bp, more, rfl, rfl, rfl, hown, hbw, c0, c1, f0, p0, p1, q0, q1, hbp, hbp2, hne, hS, hE⟩ := hrel
    cases more with
    | false =>
      obtain ⟨_, _, hdone, _⟩ := hE rfl
      clear hS hE
      have HD := Lib.hid hdone.all
      clear hdone
      go_wp2
      go_ret2
      exact ⟨_, d, rfl, HD.out, ownsRow_base hown (by omega), hbw⟩
    | true =>
      obtain ⟨ha, hlen, hdone, hcase⟩ := hS rfl
      obtain ⟨haE, hst, hf⟩ : a < hi + 1 ∧ Step (hi + 1) a n ∧ f = a + pw n := by
        rcases hcase with ⟨_, h1, h2, h3⟩ | ⟨h, _⟩
        · exact ⟨h1, h2, h3⟩
        · simp at h
      have hp := pw_pos n
      have hfE : f ≤ hi + 1 := by rw [hf]; exact hst.2.2.2.1
      have hf0 : 0 ≤ f := by omega
      have hsn := hdone.snoc haE hst
      rw [← hf] at hsn
      have hfa : a + 1 ≤ f := by omega
      have HSN := Lib.hid hsn
      have HF := Lib.hid hf
      clear hS hE hcase hdone hst hsn hf
      obtain ⟨i0, hi0, hz0, hz1, hz2⟩ := info_parts infoP
      have hsz0 : w.heap.size < wr.heap.size := by omega
      have hsz1 : w.heap.size + 1 < wr.heap.size := by omega
      have HC0 := Lib.hid c0
      go_wp2_with (first
        | (at_builtin; refine wpList_append_own _ rfl _ _ 40 rfl (w.heap.size + 2) 30 i0 (.agg #[.int .u32 0, .int .i64 0]) 2 16 Tryd.underlying40 hi0 hz0 hz1 hz2 rfl (by decide) _ _ _ rfl (hown.alloc _) ⟨wr.heap.size, 0, none⟩ 1 1 [.int .u32 a, .int .i64 n] rfl rfl (cell_two_new _ _ _ _) (fun x hx => by simp at hx; rcases hx with rfl | rfl <;> rfl) (by unfold maxLen; omega) (by omega) (by simp; omega) ?_; intro v' w3 hown' hgrow3 hnil3
           have m0 : w3.cell? ⟨w.heap.size, 0, none⟩ = some (.int .u64 f) := hgrow3.cell (by go_simp) (fun h => by have h9 : w.heap.size + 2 ≤ w.heap.size := (hown.lt _ h.symm).1; omega)
           have m1 : w3.cell? ⟨w.heap.size + 1, 0, none⟩ = some (.int .u64 (hi + 1)) := hgrow3.cell (by go_simp) (fun h => by have h9 : w.heap.size + 2 ≤ w.heap.size + 1 := (hown.lt _ h.symm).1; omega)
           have m2 : w3.frozen? ⟨w.heap.size, 0, none⟩ = false := (World.frozen?_of_block (hgrow3.block w.heap.size (by simp; omega) (fun h => by have := (hown.lt _ h.symm).1; omega))).trans (by go_simp)
           have m3 : w3.cell? ⟨bp, 0, none⟩ = some (.int .u32 a) := hgrow3.cell (by go_simp) (fun h => hne h.symm)
           have m4 : w3.cell? ⟨bp, 1, none⟩ = some (.int .i64 n) := hgrow3.cell (by go_simp) (fun h => hne h.symm)
           have hbw3 : Below w.heap.size w w3 := Below.grown (hbw.alloc (by omega) _) hgrow3 (by simp; omega) (fun j hj => by have := (hown.lt _ hj).1; omega)
           have hg3 := hgrow3.size
           simp at hg3
           have hs3 : w.heap.size < w3.heap.size := (by omega)
           have hs4 : w.heap.size + 1 < w3.heap.size := (by omega)
           clear hgrow3 hnil3 c0 c1 f0 p0 p1 q0 q1 hown hbw))
      by_cases hfe : f < hi + 1
      · go_at_call 46
        refine (next_step f (hi + 1) _ _ _ (by go_simp) (by go_simp) (by go_simp) (by simp; omega) (by simp; omega) hf0 hfe h5 (hT.on (hbw3.alloc (by omega) _))).mono ?_
        rintro e w5 ⟨rfl, hb5⟩
        obtain ⟨m, hm⟩ : ∃ m, stp f (hi + 1) = m := ⟨_, rfl⟩
        have hst5 := (stp_step f (hi + 1) hf0 hfe h5).1
        rw [hm] at hb5 hst5 ⊢
        clear hm
        have HST := Lib.hid hst5
        have hle5 : f + pw m ≤ hi + 1 := hst5.2.2.2.1
        have hpm := pw_pos m
        clear hst5
        have n0' : w5.cell? ⟨w3.heap.size, 0, none⟩ = some (.int .u32 a) := (hb5.cell (p := ⟨w3.heap.size, 0, none⟩) (by simp)).trans (by go_simp)
        have n1' : w5.cell? ⟨w3.heap.size, 1, none⟩ = some (.int .i64 n) := (hb5.cell (p := ⟨w3.heap.size, 1, none⟩) (by simp)).trans (by go_simp)
        have n2' : w5.frozen? ⟨w3.heap.size, 0, none⟩ = false := (hb5.frozen (p := ⟨w3.heap.size, 0, none⟩) (by simp)).trans (by go_simp)
        have n3' : w5.frozen? ⟨w3.heap.size, 1, none⟩ = false := (hb5.frozen (p := ⟨w3.heap.size, 1, none⟩) (by simp)).trans (by go_simp)
        have n5' : w5.cell? ⟨w.heap.size + 1, 0, none⟩ = some (.int .u64 (hi + 1)) := (hb5.cell (p := ⟨w.heap.size + 1, 0, none⟩) (by simp; omega)).trans (by go_simp)
        have n6' : w5.frozen? ⟨w.heap.size, 0, none⟩ = false := (hb5.frozen (p := ⟨w.heap.size, 0, none⟩) (by simp; omega)).trans (by go_simp)
        have hz5 := hb5.size
        simp at hz5
        have hs5 : w3.heap.size < w5.heap.size := (by omega)
        have hs6 : w.heap.size < w5.heap.size := (by omega)
        have hs7 : w.heap.size + 1 < w5.heap.size := (by omega)
        have n4' : w5.cell? ⟨w.heap.size, 0, none⟩ = some (.int .u64 (f + pw m)) := (hb5.cell (p := ⟨w.heap.size, 0, none⟩) (by simp; omega)).trans (by go_simp)
        have hbw5 : Below w.heap.size w w5 := ((hbw3.alloc (by omega) _).setCell (by simp) _).trans (hb5.mono (by simp; omega))
        have hblk : ∀ k, w.heap.size + 2 ≤ k → k < w3.heap.size → w5.heap[k]? = w3.heap[k]? := fun k hk1 hk2 => by
          rw [hb5.block k (by simp; omega), Below.heap_setCell _ _ _ _ (by simp; omega)]
          exact Below.heap_alloc _ _ _ hk2
        have HBLK := Lib.hid hblk
        clear hb5 hblk
        go_wp2_with fail
        go_roundw
        case rel =>
          have hblk := HBLK.out
          refine ⟨d ++ [(a, n)], f + pw m, f, m, v', w3.heap.size, true, rfl, rfl, rfl, ?_, ?_, by go_simp, by go_simp, by go_simp, by go_simp, by go_simp, by go_simp, by go_simp, by simp; omega, by omega, fun h => by have h9 := (hown'.lt _ h).2; omega, ?_, ?_⟩
          · have e9 : flat (d ++ [(a, n)]) = flat d ++ [.int .u32 a, .int .i64 n] := flat_snoc d a n
            rw [e9, List.length_append]
            exact ownsRow_of hown' (fun k _ hk1 hk2 => by rw [Below.heap_setCell _ _ _ _ (by simp; omega), Below.heap_setCell _ _ _ _ (by simp; omega)]; exact hblk k hk1 hk2)
          · exact ((hbw5.setCell (by simp; omega) _).setCell (by simp; omega) _)
          · exact fun _ => ⟨by omega, by simp; omega, HSN.out, .inl ⟨rfl, hfe, HST.out, rfl⟩⟩
          · intro h; simp at h
        case measure =>
          have e8 : ((w5.setCell ⟨w3.heap.size, 0, none⟩ (.int .u32 f)).setCell ⟨w3.heap.size, 1, none⟩ (.int .i64 m)).cell? ⟨w.heap.size, 0, none⟩ = some (.int .u64 (f + pw m)) := by go_simp
          rw [e8, HC0.out]
          simp [intOf, moreOf]
          omega
      · have hfe2 : f = hi + 1 := by omega
        go_at_call 46
        refine (next_end f _ _ _ (by go_simp) (by rw [hfe2]; go_simp) (by simp; omega) (by simp; omega)).mono ?_
        rintro e w5 ⟨rfl, hb5⟩
        have n0' : w5.cell? ⟨w3.heap.size, 0, none⟩ = some (.int .u32 a) := (hb5.cell (p := ⟨w3.heap.size, 0, none⟩) (by simp)).trans (by go_simp)
        have n1' : w5.cell? ⟨w3.heap.size, 1, none⟩ = some (.int .i64 n) := (hb5.cell (p := ⟨w3.heap.size, 1, none⟩) (by simp)).trans (by go_simp)
        have n2' : w5.frozen? ⟨w3.heap.size, 0, none⟩ = false := (hb5.frozen (p := ⟨w3.heap.size, 0, none⟩) (by simp)).trans (by go_simp)
        have n3' : w5.frozen? ⟨w3.heap.size, 1, none⟩ = false := (hb5.frozen (p := ⟨w3.heap.size, 1, none⟩) (by simp)).trans (by go_simp)
        have n5' : w5.cell? ⟨w.heap.size + 1, 0, none⟩ = some (.int .u64 (hi + 1)) := (hb5.cell (p := ⟨w.heap.size + 1, 0, none⟩) (by simp; omega)).trans (by go_simp)
        have n6' : w5.frozen? ⟨w.heap.size, 0, none⟩ = false := (hb5.frozen (p := ⟨w.heap.size, 0, none⟩) (by simp; omega)).trans (by go_simp)
        have hz5 := hb5.size
        simp at hz5
        have hs5 : w3.heap.size < w5.heap.size := (by omega)
        have hs6 : w.heap.size < w5.heap.size := (by omega)
        have hs7 : w.heap.size + 1 < w5.heap.size := (by omega)
        have n4' : w5.cell? ⟨w.heap.size, 0, none⟩ = some (.int .u64 f) := (hb5.cell (p := ⟨w.heap.size, 0, none⟩) (by simp; omega)).trans (by go_simp)
        have hbw5 : Below w.heap.size w w5 := (hbw3.alloc (by omega) _).trans (hb5.mono (by simp; omega))
        have hblk : ∀ k, w.heap.size + 2 ≤ k → k < w3.heap.size → w5.heap[k]? = w3.heap[k]? := fun k hk1 hk2 => by
          rw [hb5.block k (by simp; omega)]
          exact Below.heap_alloc _ _ _ hk2
        have HBLK := Lib.hid hblk
        have HFE := Lib.hid hfe2
        clear hb5 hblk hfe2 hfe
        go_wp2_with fail
        go_roundw
        case rel =>
          have hblk := HBLK.out
          refine ⟨d ++ [(a, n)], f, 0, 0, v', w3.heap.size, false, rfl, rfl, rfl, ?_, ?_, by go_simp, by go_simp, by go_simp, by go_simp, by go_simp, by go_simp, by go_simp, by simp; omega, by omega, fun h => by have h9 := (hown'.lt _ h).2; omega, ?_, ?_⟩
          · have e9 : flat (d ++ [(a, n)]) = flat d ++ [.int .u32 a, .int .i64 n] := flat_snoc d a n
            rw [e9, List.length_append]
            exact ownsRow_of hown' (fun k _ hk1 hk2 => by rw [Below.heap_setCell _ _ _ _ (by simp; omega), Below.heap_setCell _ _ _ _ (by simp; omega)]; exact hblk k hk1 hk2)
          · exact ((hbw5.setCell (by simp; omega) _).setCell (by simp; omega) _)
          · intro h; simp at h
          · exact fun _ => ⟨by omega, by have := HFE.out; simp; omega, by have := HSN.out; rw [HFE.out] at this; exact this, .inr ⟨rfl, rfl, HFE.out⟩⟩
        case measure =>
          have e8 : ((w5.setCell ⟨w3.heap.size, 0, none⟩ (.int .u32 0)).setCell ⟨w3.heap.size, 1, none⟩ (.int .i64 0)).cell? ⟨w.heap.size, 0, none⟩ = some (.int .u64 f) := by go_simp
          rw [e8, HC0.out]
          simp [moreOf]
end Go.Proofs.YtdjjogcagolcjaaDoor
