/- What cuts of package waymarkref02 hands back: a rising list with 0 in which each number stands, up to most, at which a span begins, or one more than at which it ends. Under the conditions that it names. -/
import Derived.Test.YtbplkeopdfciiaaDoorSpPut
namespace Go.Proofs.YtbplkeopdfciiaaDoor
open Go.RowKit
/-- A slice of slices that reads as these lists of spans. -/
def RdS (w : World) (v : Value) (ls : List (List (Nat × Nat))) : Prop := ∃ p c, v = .slice p ls.length c ∧ ls.length ≤ c ∧ c ≤ maxLen ∧
  ∀ i l, ls[i]? = some l → ∃ b o u, p = some ⟨b, o, none⟩ ∧ b < w.heap.size ∧ w.cell? ⟨b, o + i, none⟩ = some u ∧ Rd w u l
theorem RdS.below {w w' : World} {v : Value} {ls : List (List (Nat × Nat))} (h : RdS w v ls) (hb : Below w.heap.size w w') : RdS w' v ls := by
  obtain ⟨p, c, e, h1, h2, h3⟩ := h
  refine ⟨p, c, e, h1, h2, fun i l hi => ?_⟩
  obtain ⟨b, o, u, k1, k2, k3, k4⟩ := h3 i l hi
  exact ⟨b, o, u, k1, by have := hb.size; omega, (hb.cell (p := ⟨b, _, none⟩) k2).trans k3, k4.below hb⟩
/-- The numbers at which something may begin, of the spans that have been looked at. -/
structure Cov (most : Nat) (done : List (Nat × Nat)) (R : List Nat) : Prop where
  rising : R.Pairwise (· < ·)
  nought : 0 ∈ R
  le : ∀ c ∈ R, c ≤ most
  lo : ∀ s ∈ done, s.1 ≤ s.2 → s.1 ≤ most → s.1 ∈ R
  hi : ∀ s ∈ done, s.1 ≤ s.2 → s.2 < most → s.2 + 1 ∈ R
  len : R.length ≤ 1 + 2 * done.length
theorem Cov.start (most : Nat) : Cov most [] [0] := ⟨by simp, by simp, by simp, by simp, by simp, by simp⟩
theorem Cov.empty {most : Nat} {done : List (Nat × Nat)} {R : List Nat} {s : Nat × Nat} (h : Cov most done R) (hs : s.2 < s.1) : Cov most (done ++ [s]) R := by
  refine ⟨h.rising, h.nought, h.le, fun t ht h1 => ?_, fun t ht h1 => ?_, by have := h.len; simp; omega⟩
  · rcases List.mem_append.1 ht with ht | ht
    · exact h.lo t ht h1
    · simp at ht; subst ht; omega
  · rcases List.mem_append.1 ht with ht | ht
    · exact h.hi t ht h1
    · simp at ht; subst ht; omega
theorem Cov.one {most : Nat} {done : List (Nat × Nat)} {R S : List Nat} {s : Nat × Nat} (h : Cov most done R) (hm : most ≤ s.2) (h1 : S.Pairwise (· < ·)) (h2 : ∀ c, c ∈ S ↔ c ∈ R ∨ (c = s.1 ∧ s.1 ≤ most)) (h3 : S.length ≤ R.length + 1) : Cov most (done ++ [s]) S := by
  refine ⟨h1, (h2 0).2 (.inl h.nought), fun c hc => ?_, fun t ht a b => ?_, fun t ht a b => ?_, by have := h.len; simp; omega⟩
  · rcases (h2 c).1 hc with hc | hc
    · exact h.le c hc
    · omega
  · rcases List.mem_append.1 ht with ht | ht
    · exact (h2 _).2 (.inl (h.lo t ht a b))
    · simp at ht; subst ht; exact (h2 _).2 (.inr ⟨rfl, b⟩)
  · rcases List.mem_append.1 ht with ht | ht
    · exact (h2 _).2 (.inl (h.hi t ht a b))
    · simp at ht; subst ht; omega
theorem Cov.two {most : Nat} {done : List (Nat × Nat)} {R S T : List Nat} {s : Nat × Nat} (h : Cov most done R) (hm : s.2 < most) (h2 : ∀ c, c ∈ S ↔ c ∈ R ∨ (c = s.1 ∧ s.1 ≤ most)) (h3 : S.length ≤ R.length + 1)
    (k1 : T.Pairwise (· < ·)) (k2 : ∀ c, c ∈ T ↔ c ∈ S ∨ (c = s.2 + 1 ∧ s.2 + 1 ≤ most)) (k3 : T.length ≤ S.length + 1) : Cov most (done ++ [s]) T := by
  refine ⟨k1, (k2 0).2 (.inl ((h2 0).2 (.inl h.nought))), fun c hc => ?_, fun t ht a b => ?_, fun t ht a b => ?_, by have := h.len; simp; omega⟩
  · rcases (k2 c).1 hc with hc | hc
    · rcases (h2 c).1 hc with hc | hc
      · exact h.le c hc
      · omega
    · omega
  · refine (k2 _).2 (.inl ?_)
    rcases List.mem_append.1 ht with ht | ht
    · exact (h2 _).2 (.inl (h.lo t ht a b))
    · simp at ht; subst ht; exact (h2 _).2 (.inr ⟨rfl, b⟩)
  · rcases List.mem_append.1 ht with ht | ht
    · exact (k2 _).2 (.inl ((h2 _).2 (.inl (h.hi t ht a b))))
    · simp at ht; subst ht; exact (k2 _).2 (.inr ⟨rfl, by omega⟩)
theorem take_flat {ls : List (List (Nat × Nat))} {i : Nat} {l : List (Nat × Nat)} (h : ls[i]? = some l) : (ls.take (i + 1)).flatten = (ls.take i).flatten ++ l := by
  rw [List.take_add_one, h]; simp
theorem flat_len {ls : List (List (Nat × Nat))} {i : Nat} {l : List (Nat × Nat)} (h : ls[i]? = some l) : (ls.take i).flatten.length + l.length ≤ ls.flatten.length := by
  have h1 : (ls.take (i + 1)).flatten.length ≤ ls.flatten.length := by
    have : ls.flatten = (ls.take (i + 1)).flatten ++ (ls.drop (i + 1)).flatten := by rw [← List.flatten_append, List.take_append_drop]
    rw [this, List.length_append]; omega
  rw [take_flat h] at h1
  simpa using h1
/-- What cuts hands back. -/
def CutsPost (most : Nat) (ls : List (List (Nat × Nat))) (w : World) (e : Ending) (w' : World) : Prop :=
  ∃ v R, e = .returned v ∧ Cov most ls.flatten R ∧ OwnN 31 .u32 w.heap.size w' v R ∧ Below w.heap.size w w'
set_option maxRecDepth 100000 in
set_option maxHeartbeats 1000000 in
theorem rcuts_is (ls : List (List (Nat × Nat))) (v : Value) (most : Nat) (w : World) (hr : RdS w v ls) (hmt : most < top) (hlen : ls.flatten.length ≤ 400000000) :
    Calls Tryd.prog 42 #[.int .u32 most, v] w (CutsPost most ls w) := by
  obtain ⟨p, c, rfl, hlc, hcm, hp⟩ := hr
  have HP := Lib.hid hp
  clear hp
  have hmx : ls.length ≤ 9223372036854775807 := by unfold maxLen at hcm; omega
  obtain ⟨mi, hmi⟩ : ∃ mi : Int, mi = (most : Int) := ⟨_, rfl⟩
  rw [← hmi]
  have HM := Lib.hid hmi
  have hm0 : 0 ≤ mi := by omega
  rw [top_def] at hmt
  have hm1 : mi < 4294967296 := by omega
  clear hmi
  go_enter Tryd.func42, Tryd.ntmps42
  go_wp2
  go_loopw [5, 6] (fun v i wr => ∃ (k : Nat) (R : List Nat), k ≤ ls.length ∧ i = .int .i64 k ∧ OwnN 31 .u32 w.heap.size wr v R ∧ Hid (Cov most (ls.take k).flatten R) ∧ Below w.heap.size w wr) (fun _ i _ => ls.length - (intOf i).toNat)
  case atStart =>
    refine ⟨0, [0], Nat.zero_le _, rfl, ?_, Lib.hid (Cov.start most), (Below.refl _ _).alloc (Nat.le_refl _) _⟩
    exact OwnN.of (heap_new _ _) (Nat.le_refl _) rfl (by unfold maxLen; omega) rfl (Nat.le_refl _) rfl
  case round =>
    obtain ⟨k, R, hk, rfl, hown, HC, hbw⟩ := hrel
    by_cases hlt : k < ls.length
    · obtain ⟨l, hl⟩ : ∃ l, ls[k]? = some l := ⟨_, List.getElem?_eq_getElem hlt⟩
      obtain ⟨b, o, u, rfl, hb, hcu, hru⟩ := HP.out k l hl
      have hfl := flat_len hl
      have HTF := Lib.hid (take_flat hl)
      have hcu1 := (hbw.cell (p := ⟨b, _, none⟩) hb).trans hcu
      obtain ⟨q, d, rfl, _, _, hq⟩ := hru.sl
      have HQ := Lib.hid hq
      have e1 : (0 : Int) ≤ (k : Int) := by omega
      have e2 : (k : Int) < (ls.length : Int) := by omega
      have hll : l.length ≤ 400000000 := by omega
      have HL := Lib.hid hl
      have HCU := Lib.hid hcu
      clear hl hcu hru hq
      obtain ⟨wo, rfl⟩ : ∃ wo : World, wo = wr := ⟨_, rfl⟩
      go_wp2
      go_loopw [5, 7] (fun v i wr => ∃ (j : Nat) (S : List Nat), j ≤ l.length ∧ i = .int .i64 j ∧ OwnN 31 .u32 w.heap.size wr v S ∧ Hid (Cov most ((ls.take k).flatten ++ l.take j) S) ∧ Below w.heap.size w wr) (fun _ i _ => l.length - (intOf i).toNat)
      case atStart => exact ⟨0, R, Nat.zero_le _, rfl, hown, Lib.hid (by simpa using HC.out), hbw⟩
      case round =>
        obtain ⟨j, S, hj, rfl, howS, HS, hbs⟩ := hrel
        have hcu2 := (hbs.cell (p := ⟨b, _, none⟩) hb).trans HCU.out
        by_cases hjl : j < l.length
        · obtain ⟨s, hs⟩ : ∃ s, l[j]? = some s := ⟨_, List.getElem?_eq_getElem hjl⟩
          obtain ⟨g, oo, rfl, hg, ht1, ht2, hc⟩ := HQ.out j s hs
          obtain ⟨c1, c2⟩ := hc wr hbs
          have HT : Hid (l.take (j + 1) = l.take j ++ [s]) := Lib.hid (by rw [List.take_add_one, hs]; rfl)
          obtain ⟨lo, hlo⟩ : ∃ x : Int, x = (s.1 : Int) := ⟨_, rfl⟩
          obtain ⟨hi, hhi⟩ : ∃ x : Int, x = (s.2 : Int) := ⟨_, rfl⟩
          rw [← hlo] at c1; rw [← hhi] at c2
          rw [top_def] at ht1 ht2
          have b0 : 0 ≤ lo := by omega
          have b1 : lo < 4294967296 := by omega
          have b2 : 0 ≤ hi := by omega
          have b3 : hi < 4294967296 := by omega
          have HLO := Lib.hid hlo; have HHI := Lib.hid hhi
          have hz := hbs.size
          have f1 : (0 : Int) ≤ (j : Int) := by omega
          have f2 : (j : Int) < (l.length : Int) := by omega
          have hSl := HS.out.len
          have hSn : S ≠ [] := fun e => by have := HS.out.nought; rw [e] at this; cases this
          have HSN := Lib.hid hSn
          have hSb : S.length ≤ 1000000000 := by
            have h1 : ((ls.take k).flatten ++ l.take j).length ≤ 400000000 := by
              rw [List.length_append, List.length_take]; omega
            omega
          have hlen1 : ((ls.take k).flatten ++ l.take j).length < 400000000 := by
            rw [List.length_append, List.length_take]; omega
          clear hs hc hlo hhi ht1 ht2 hSn
          by_cases he : hi < lo
          · have hd : decide (hi < lo) = true := by simpa using he
            go_wp2
            go_roundw
            case rel =>
              refine ⟨j + 1, S, by omega, by go_num, howS.below ((Below.refl _ _).alloc (Nat.le_refl _) _), Lib.hid ?_, hbs.alloc hz _⟩
              rw [HT.out, ← List.append_assoc]
              exact HS.out.empty (by have := HLO.out; have := HHI.out; omega)
            case measure => simp [intOf]; omega
          · have hd : decide (hi < lo) = false := by simpa using he
            have HRS := HS.out.rising
            have HRS' := Lib.hid HRS
            clear HRS
            rcases howS.row with ⟨rfl, h⟩ | ⟨g5, cap5, cur5, rfl, hg5, _, _, _, _, hlt5, _, _⟩
            · exact absurd h HSN.out
            go_wp2_with fail
            go_at_call 60
            refine (put_is w.heap.size S _ lo mi _ (howS.below ((Below.refl _ _).alloc (Nat.le_refl _) _)) HSN.out HRS'.out b0 hSb).mono ?_
            rintro e w1 ⟨v1, T, rfl, how1, hr1, hmm1, hl1, hgr1⟩
            have y1 : w1.cell? ⟨wr.heap.size, 1, none⟩ = some (.int .u32 hi) := hgr1.cell (by go_simp) (by show some wr.heap.size ≠ some g5; simp; omega)
            have hbx : Below w.heap.size w w1 := Below.grown (hbs.alloc hz _) hgr1 (by simp; omega) (fun x hx => by cases hx; exact hg5)
            by_cases hh : hi < mi
            · have hd2 : decide (hi < mi) = true := by simpa using hh
              have hT0 : T ≠ [] := fun e => by have := (hmm1 0).2 (.inl HS.out.nought); rw [e] at this; cases this
              have HT0 := Lib.hid hT0; have HR1 := Lib.hid hr1; have HM1 := Lib.hid hmm1; have HG1 := Lib.hid hgr1
              clear hT0 hr1 hmm1 hgr1
              go_wp2_with fail
              go_at_call 60
              refine (put_is w.heap.size T _ (hi + 1) mi _ how1 HT0.out HR1.out (by omega) (by omega)).mono ?_
              rintro e w2 ⟨v2, U, rfl, how2, hr2, hmm2, hl2, hgr2⟩
              have hb2 : Below w.heap.size w w2 := Below.grown hbx hgr2 hbx.size (fun x hx => (World.ownsRow.lt how1 x hx).1)
              have HR2 := Lib.hid hr2; have HM2 := Lib.hid hmm2
              clear hr2 hmm2 hgr2
              go_wp2
              go_roundw
              case rel =>
                refine ⟨j + 1, U, by omega, by go_num, how2, Lib.hid ?_, hb2⟩
                rw [HT.out, ← List.append_assoc]
                have := HLO.out; have := HHI.out; have := HM.out
                exact HS.out.two (by omega) (fun c => (HM1.out c).trans ⟨fun h => h.imp id (fun h => by omega), fun h => h.imp id (fun h => by omega)⟩) hl1 HR2.out (fun c => (HM2.out c).trans ⟨fun h => h.imp id (fun h => by omega), fun h => h.imp id (fun h => by omega)⟩) hl2
              case measure => simp [intOf]; omega
            · have hd2 : decide (hi < mi) = false := by simpa using hh
              have HR1 := Lib.hid hr1; have HM1 := Lib.hid hmm1; have HG1 := Lib.hid hgr1
              clear hr1 hmm1 hgr1
              go_wp2
              go_roundw
              case rel =>
                refine ⟨j + 1, T, by omega, by go_num, how1, Lib.hid ?_, hbx⟩
                rw [HT.out, ← List.append_assoc]
                have := HLO.out; have := HHI.out; have := HM.out
                exact HS.out.one (by omega) HR1.out (fun c => (HM1.out c).trans ⟨fun h => h.imp id (fun h => by omega), fun h => h.imp id (fun h => by omega)⟩) hl1
              case measure => simp [intOf]; omega
        · obtain rfl : j = l.length := by omega
          have hS2 := HS.out
          rw [List.take_length, ← HTF.out] at hS2
          have HS3 := Lib.hid hS2
          clear hS2
          go_wp2
          go_roundw
          case rel => exact ⟨k + 1, S, by omega, by go_num, howS, HS3, hbs⟩
          case measure => simp [intOf]; omega
    · go_wp2
      go_ret
      have h := HC.out
      rw [List.take_of_length_le (by omega)] at h
      exact ⟨_, R, rfl, h, hown, hbw⟩
end Go.Proofs.YtbplkeopdfciiaaDoor
