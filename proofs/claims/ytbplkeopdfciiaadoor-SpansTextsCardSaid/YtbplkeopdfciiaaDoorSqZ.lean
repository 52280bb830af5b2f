/- Parse of waymarkref02: the set of a text. Conditions: the text is not longer than a hundred thousand bytes, the table of package strconv is what its text says. -/
import Derived.Test.YtbplkeopdfciiaaDoorSqX
import Derived.Test.YtbplkeopdfciiaaDoorSqY
import Derived.Test.YtbplkeopdfciiaaDoorSqP0
namespace Go.Proofs.YtbplkeopdfciiaaDoor
open Go.RowKit
theorem rdAll_append : ∀ (ps qs : List (List UInt8)) (M : List (Nat × Nat)), rdAll ps = some M → rdAll (ps ++ qs) = (rdAll qs).map (M ++ ·)
  | [], qs, M, h => by simp only [rdAll, Option.some.injEq] at h; subst h; cases h : rdAll qs <;> simp [h]
  | p :: ps, qs, M, h => by
    simp only [rdAll, List.cons_append] at h ⊢
    cases hs : rdS p with
    | none => rw [hs] at h; cases h
    | some s =>
      rw [hs] at h
      simp only [Option.bind_some] at h ⊢
      cases hr : rdAll ps with
      | none => rw [hr] at h; cases h
      | some R =>
        rw [hr] at h
        simp only [Option.map_some, Option.some.injEq] at h
        rw [rdAll_append ps qs R hr]
        subst h
        cases rdAll qs <;> simp
theorem rdAll_one {ps : List (List UInt8)} {p : List UInt8} {M : List (Nat × Nat)} {t : Nat × Nat} (h : rdAll ps = some M) (ht : rdS p = some t) : rdAll (ps ++ [p]) = some (M ++ [t]) := by
  rw [rdAll_append ps [p] M h]
  simp [rdAll, ht]
theorem rdAll_none {ps qs : List (List UInt8)} {p : List UInt8} {M : List (Nat × Nat)} (h : rdAll ps = some M) (hp : rdS p = none) : rdAll (ps ++ p :: qs) = none := by
  rw [rdAll_append ps _ M h]
  simp [rdAll, hp]
/-- Where the reading stands: so many bytes looked at, what was read, where the part begins. -/
def St (L : List UInt8) (k f : Nat) (M : List (Nat × Nat)) : Prop :=
  ∃ done, rdAll done = some M ∧ ((k ≤ L.length ∧ f ≤ k ∧ parts L = done ++ parts (L.drop f) ∧ (44 : UInt8) ∉ (L.drop f).take (k - f)) ∨ (k = L.length + 1 ∧ parts L = done))
theorem St.start (L : List UInt8) : St L 0 0 [] := ⟨[], rfl, .inl ⟨Nat.zero_le _, Nat.le_refl _, by simp, by simp⟩⟩
theorem St.le {L : List UInt8} {k f : Nat} {M : List (Nat × Nat)} (h : St L k f M) (hk : k ≤ L.length) : f ≤ k := by
  obtain ⟨_, _, h | h⟩ := h
  · exact h.2.1
  · omega
theorem St.pass {L : List UInt8} {k f : Nat} {M : List (Nat × Nat)} (h : St L k f M) (hk : k < L.length) (hc : L[k] ≠ 44) : St L (k + 1) f M := by
  obtain ⟨done, h1, ⟨h2, h3, h4, h5⟩ | ⟨h2, _⟩⟩ := h
  · refine ⟨done, h1, .inl ⟨hk, by omega, h4, ?_⟩⟩
    have hl : k - f < (L.drop f).length := by rw [List.length_drop]; omega
    rw [show k + 1 - f = (k - f) + 1 by omega, List.take_succ_eq_append_getElem hl]
    intro hm
    rcases List.mem_append.1 hm with hm | hm
    · exact h5 hm
    · simp only [List.mem_singleton, List.getElem_drop] at hm
      exact hc (by rw [hm]; congr 1; omega)
  · omega
/-- What stands between where the part begins and where one looks. -/
def partAt (L : List UInt8) (f k : Nat) : List UInt8 := (L.drop f).take (k - f)
theorem St.cut {L : List UInt8} {k f : Nat} {M : List (Nat × Nat)} (h : St L k f M) (hk : k ≤ L.length) (hc : ∀ hl : k < L.length, L[k] = 44) : ∃ done rest, rdAll done = some M ∧ parts L = done ++ partAt L f k :: rest ∧ ((k < L.length ∧ rest = parts (L.drop (k + 1))) ∨ (k = L.length ∧ rest = [])) := by
  obtain ⟨done, h1, ⟨h2, h3, h4, h5⟩ | ⟨h2, _⟩⟩ := h
  · refine ⟨done, ?_⟩
    by_cases hl : k < L.length
    · have hsp : L.drop f = partAt L f k ++ 44 :: L.drop (k + 1) := by
        have e1 : L.drop f = (L.drop f).take (k - f) ++ (L.drop f).drop (k - f) := (List.take_append_drop _ _).symm
        rw [List.drop_drop, show f + (k - f) = k by omega, List.drop_eq_getElem_cons hl, hc hl] at e1
        exact e1
      have hcut := cut1_mk (partAt L f k) (L.drop (k + 1)) 44 h5
      rw [← hsp] at hcut
      have hp := parts_yes (L.drop f) (by rw [hcut])
      rw [hcut] at hp
      exact ⟨_, h1, by rw [h4, hp], .inl ⟨hl, rfl⟩⟩
    · have hkl : k = L.length := by omega
      have hfull : partAt L f k = L.drop f := List.take_of_length_le (by rw [List.length_drop]; omega)
      have hp := parts_no (L.drop f) (by rw [cut1_none]; rw [← hfull]; exact h5)
      exact ⟨[], h1, by rw [h4, hp, hfull], .inr ⟨hkl, rfl⟩⟩
  · omega
theorem St.part {L : List UInt8} {k f : Nat} {M : List (Nat × Nat)} {t : Nat × Nat} (h : St L k f M) (hk : k ≤ L.length) (hc : ∀ hl : k < L.length, L[k] = 44) (ht : rdS (partAt L f k) = some t) : St L (k + 1) (k + 1) (M ++ [t]) := by
  obtain ⟨done, rest, h1, h2, h3⟩ := h.cut hk hc
  refine ⟨done ++ [partAt L f k], rdAll_one h1 ht, ?_⟩
  rcases h3 with ⟨hl, rfl⟩ | ⟨hl, rfl⟩
  · exact .inl ⟨hl, Nat.le_refl _, by rw [h2]; simp, by simp⟩
  · exact .inr ⟨by omega, by rw [h2]⟩
theorem St.bad {L : List UInt8} {k f : Nat} {M : List (Nat × Nat)} (h : St L k f M) (hk : k ≤ L.length) (hc : ∀ hl : k < L.length, L[k] = 44) (ht : rdS (partAt L f k) = none) : rdAll (parts L) = none := by
  obtain ⟨done, rest, h1, h2, _⟩ := h.cut hk hc
  rw [h2]
  exact rdAll_none h1 ht
theorem St.all {L : List UInt8} {k f : Nat} {M : List (Nat × Nat)} (h : St L k f M) (hk : ¬ k ≤ L.length) : rdAll (parts L) = some M := by
  obtain ⟨done, h1, ⟨h2, _⟩ | ⟨_, h3⟩⟩ := h
  · exact absurd h2 hk
  · rw [h3]; exact h1
theorem ext_mid (s : ByteArray) (f k : Nat) : (s.extract f k).data.toList = partAt s.data.toList f k := by
  unfold partAt
  simp [ByteArray.data_extract, List.take_drop]
  try (rw [List.drop_take])
theorem readP_ref {L : List UInt8} (h0 : L ≠ [45]) : readP L = (rdAll (parts L)).bind fun M => if txt (Cn (has M)) = L then some (Cn (has M)) else none := by
  rw [← refP_eq]
  unfold refP
  rw [if_neg h0]
set_option maxRecDepth 100000 in
set_option maxHeartbeats 1000000 in
theorem rparse_is (s : ByteArray) (w : World) (hs : s.size ≤ 100000) (ht : Tab10 w) : Calls Tryd.prog 8 #[.string s] w (ParsePost (readP s.data.toList) w) := by
  obtain ⟨L, hL⟩ : ∃ L, s.data.toList = L := ⟨_, rfl⟩
  have hlen : L.length = s.size := by rw [← hL, str_toList]
  rw [hL]
  have HT := Lib.hid ht; have HL := Lib.hid hL
  clear ht
  by_cases h0 : L = [45]
  · have hE : (s.toList == [45]) = true := by rw [Lib.toList_data, hL, h0]; rfl
    have HR : Hid (readP L = some []) := Lib.hid (by unfold readP; rw [if_pos h0])
    clear h0 hL hlen
    go_enter Tryd.func8, Tryd.ntmps8
    go_wp2_with fail
    go_ret2
    exact ⟨_, _, rfl, by rw [HR.out]; rfl, by rw [HR.out]; exact ⟨fun _ h => (by cases h), World.ownsRow_nil _ _ _ _⟩, fun _ => rfl, Below.refl _ _⟩
  have hE : (s.toList == [45]) = false := by rw [Lib.toList_data, hL]; simpa using h0
  have HR := Lib.hid (readP_ref h0)
  clear h0 hL
  go_enter Tryd.func8, Tryd.ntmps8
  go_wp2_with fail
  go_loopw [4, 5, 6] (fun v fv i wr => ∃ (k f : Nat) (M : List (Nat × Nat)) (u : Value), k ≤ s.size + 1 ∧ i = .int .i64 k ∧ fv = .int .i64 f ∧ v = u ∧ Hid (St L k f M) ∧ M.length ≤ k ∧ f ≤ 100001 ∧ Hid (Own w.heap.size wr u M) ∧ Below w.heap.size w wr) (fun _ _ i _ => s.size + 1 - (intOf i).toNat)
  case atStart => exact ⟨0, 0, [], _, Nat.zero_le _, rfl, rfl, rfl, Lib.hid (St.start L), Nat.le_refl _, Nat.zero_le _, Lib.hid ⟨fun _ h => (by cases h), World.ownsRow_nil _ _ _ _⟩, Below.refl _ _⟩
  case round =>
    obtain ⟨k, f, M, u, hk, rfl, rfl, rfl, HS, hM, hf1, HO, hbw⟩ := hrel
    have HB := Lib.hid hbw
    obtain ⟨p, c, hu, _, _, _⟩ := HO.out.rd.sl
    subst hu
    have hzw := hbw.size
    clear hbw
    by_cases hend : k ≤ s.size
    · have hfk : f ≤ k := HS.out.le (by omega)
      have i1 : (k : Int) ≤ (s.size : Int) := by omega
      have i2 : (0 : Int) ≤ (k : Int) := by omega
      by_cases hlt : k < s.size
      · have i3 : (k : Int) < (s.size : Int) := by omega
        have hkl : k < L.length := by omega
        have hget : L[k]'hkl = s[k]'hlt := by
          have := get_at s k hlt (by rw [str_toList]; exact hlt)
          simp only [HL.out] at this
          exact this
        have hb := (s[k]'hlt).toNat_lt
        by_cases hd : (s[k]'hlt) = 44
        · have hcc : (((s[k]'hlt).toNat : Int) == 44) = true := by rw [hd]; rfl
          have hcn : (((s[k]'hlt).toNat : Int) != 44) = false := by rw [hd]; rfl
          have HC : Hid (∀ hl : k < L.length, L[k] = 44) := Lib.hid (fun hl => by rw [hget, hd])
          clear hget hd hb
          obtain ⟨sp, hsp⟩ : ∃ x : ByteArray, s.extract f k = x := ⟨_, rfl⟩
          have hspl : sp.data.toList = partAt L f k := by rw [← hsp, ext_mid, HL.out]
          have hspz : sp.size ≤ 9223372036854775807 := by rw [← str_toList, hspl]; unfold partAt; rw [List.length_take, List.length_drop]; omega
          have hcs := rspan_is sp wr hspz (HT.out.on HB.out)
          rw [hspl] at hcs
          have HCS := Lib.hid hcs
          have j1 : (f : Int) ≤ (k : Int) := by omega
          have j2 : (0 : Int) ≤ (f : Int) := by omega
          clear hspl hspz hcs
          go_wp2_with fail
          go_at_call 19
          (with_reducible refine HCS.out.mono ?_)
          rintro e w2 ⟨a, b, ha0, ha1, hb0, hb1, hab, rfl, hb2⟩
          have HAB := Lib.hid hab; have HB2 := Lib.hid (Below.step HB.out hb2)
          have HO2 : Hid (Own w.heap.size w2 (.slice p M.length c) M) := Lib.hid (HO.out.same (fun g cs e h1 h2 => hb2.block g (Array.getElem?_eq_some_iff.1 h2).1))
          have hz2 := hb2.size
          clear hab hb2
          obtain ⟨o, ho⟩ : ∃ o, rdS (partAt L f k) = o := ⟨_, rfl⟩
          cases o with
          | none =>
            rw [show (rdS (partAt L f k)).isSome = false by rw [ho]; rfl]
            have HRR : Hid (readP L = none) := Lib.hid (by rw [HR.out, HS.out.bad (by omega) HC.out ho]; rfl)
            clear ho HR
            go_wp2_with fail
            go_ret2
            exact ⟨_, _, rfl, by rw [HRR.out]; rfl, by rw [HRR.out]; exact ⟨fun _ h => (by cases h), World.ownsRow_nil _ _ _ _⟩, fun _ => rfl, HB2.out.alloc (by have := HB2.out.size; omega) _⟩
          | some t =>
            rw [show (rdS (partAt L f k)).isSome = true by rw [ho]; rfl]
            have HAT := Lib.hid (HAB.out t ho)
            obtain ⟨_, ht1, ht2⟩ := rdS_some ho
            have HTT : Hid (t.1 < top ∧ t.2 < top) := Lib.hid ⟨by omega, ht2⟩
            have HS2 : Hid (St L (k + 1) (k + 1) (M ++ [t])) := Lib.hid (HS.out.part (by omega) HC.out ho)
            obtain ⟨W3, hW3⟩ : ∃ W3, w2.alloc (.cells #[.int .u32 a, .int .u32 b] 33) = W3 := ⟨_, rfl⟩
            obtain ⟨X, hX⟩ : ∃ X, w2.heap.size = X := ⟨_, rfl⟩
            have hx3 : W3.heap[X]? = some (.cells #[.int .u32 a, .int .u32 b] 33 (0, 0)) := by rw [← hW3, ← hX]; exact heap_new _ _
            have x0 := (cell_of_row _ _ 0 _ _ (0, 0) hx3).trans (rfl : _ = some (Value.int .u32 a))
            have x1 := (cell_of_row _ _ 1 _ _ (0, 0) hx3).trans (rfl : _ = some (Value.int .u32 b))
            have HB3 : Hid (Below w.heap.size w W3) := Lib.hid (by rw [← hW3]; exact HB2.out.alloc (by have := HB2.out.size; omega) _)
            have HO3 : Hid (Own w.heap.size W3 (.slice p M.length c) M) := Lib.hid (by rw [← hW3]; exact HO2.out.same (fun g cs e h1 h2 => heap_alloc _ (Array.getElem?_eq_some_iff.1 h2).1))
            have hz3 : w.heap.size ≤ W3.heap.size := HB3.out.size
            obtain ⟨i0, hi0, hz0, hzz1, hzz2⟩ := info_parts infoS
            clear ho ht1 ht2 hx3
            go_wp2_with (at_builtin; go_loud (refine wpList_append_own _ rfl _ _ 22 rfl w.heap.size 33 i0 (.agg #[.int .u32 0, .int .u32 0]) 2 8 Tryd.underlying22 hi0 hz0 hzz1 hzz2 rfl (by decide) _ _ _ rfl (HO3.out.2.alloc _) ⟨W3.heap.size, 0, none⟩ 1 1 [.int .u32 a, .int .u32 b] rfl rfl (cell_two_new _ _ _ _) (fun x hx => by simp at hx; rcases hx with rfl | rfl <;> rfl) (by unfold maxLen; omega) (by omega) (by simp; omega) ?_; intro v6 w6 hown6 hgrow6 hnil6; (have HO6 := Lib.hid (own_push (t := t) HO3.out.1 HTT.out HAT.out.1 HAT.out.2 hown6)); (have hlt6 := (HO3.out.2.alloc (.cells #[.int .u32 a, .int .u32 b] 33)).lt); (have HB6 : Hid (Below w.heap.size w w6) := Lib.hid (Below.grown (HB3.out.alloc hz3 _) hgrow6 (by simp; omega) (fun j hj => (hlt6 _ hj).1))); clear hown6 hgrow6 hnil6 hlt6))
            go_roundw
            case rel => exact ⟨k + 1, k + 1, M ++ [t], _, by omega, by go_num, by go_num, rfl, HS2, by simp; omega, by omega, HO6, HB6.out⟩
            case measure => simp [intOf]; omega
        · have hcc : (((s[k]'hlt).toNat : Int) == 44) = false := by
            simp only [beq_eq_false_iff_ne, ne_eq]
            exact fun h => hd (UInt8.toNat_inj.mp (by have h44 : (44 : UInt8).toNat = 44 := rfl; omega))
          have hcn : (((s[k]'hlt).toNat : Int) != 44) = true := by simp only [bne, hcc]; rfl
          have HS2 : Hid (St L (k + 1) f M) := Lib.hid (HS.out.pass hkl (by rw [hget]; exact hd))
          clear hget hd hb
          go_wp2_with fail
          go_roundw
          case rel => exact ⟨k + 1, f, M, _, by omega, by go_num, rfl, rfl, HS2, by omega, by omega, HO, HB.out⟩
          case measure => simp [intOf]; omega
      · have i3 : ¬ (k : Int) < (s.size : Int) := by omega
        have HC : Hid (∀ hl : k < L.length, L[k] = 44) := Lib.hid (fun hl => by omega)
        obtain ⟨sp, hsp⟩ : ∃ x : ByteArray, s.extract f k = x := ⟨_, rfl⟩
        have hspl : sp.data.toList = partAt L f k := by rw [← hsp, ext_mid, HL.out]
        have hspz : sp.size ≤ 9223372036854775807 := by rw [← str_toList, hspl]; unfold partAt; rw [List.length_take, List.length_drop]; omega
        have hcs := rspan_is sp wr hspz (HT.out.on HB.out)
        rw [hspl] at hcs
        have HCS := Lib.hid hcs
        have j1 : (f : Int) ≤ (k : Int) := by omega
        have j2 : (0 : Int) ≤ (f : Int) := by omega
        clear hspl hspz hcs
        go_wp2_with fail
        go_at_call 19
        (with_reducible refine HCS.out.mono ?_)
        rintro e w2 ⟨a, b, ha0, ha1, hb0, hb1, hab, rfl, hb2⟩
        have HAB := Lib.hid hab; have HB2 := Lib.hid (Below.step HB.out hb2)
        have HO2 : Hid (Own w.heap.size w2 (.slice p M.length c) M) := Lib.hid (HO.out.same (fun g cs e h1 h2 => hb2.block g (Array.getElem?_eq_some_iff.1 h2).1))
        have hz2 := hb2.size
        clear hab hb2
        obtain ⟨o, ho⟩ : ∃ o, rdS (partAt L f k) = o := ⟨_, rfl⟩
        cases o with
        | none =>
          rw [show (rdS (partAt L f k)).isSome = false by rw [ho]; rfl]
          have HRR : Hid (readP L = none) := Lib.hid (by rw [HR.out, HS.out.bad (by omega) HC.out ho]; rfl)
          clear ho HR
          go_wp2_with fail
          go_ret2
          exact ⟨_, _, rfl, by rw [HRR.out]; rfl, by rw [HRR.out]; exact ⟨fun _ h => (by cases h), World.ownsRow_nil _ _ _ _⟩, fun _ => rfl, HB2.out.alloc (by have := HB2.out.size; omega) _⟩
        | some t =>
          rw [show (rdS (partAt L f k)).isSome = true by rw [ho]; rfl]
          have HAT := Lib.hid (HAB.out t ho)
          obtain ⟨_, ht1, ht2⟩ := rdS_some ho
          have HTT : Hid (t.1 < top ∧ t.2 < top) := Lib.hid ⟨by omega, ht2⟩
          have HS2 : Hid (St L (k + 1) (k + 1) (M ++ [t])) := Lib.hid (HS.out.part (by omega) HC.out ho)
          obtain ⟨W3, hW3⟩ : ∃ W3, w2.alloc (.cells #[.int .u32 a, .int .u32 b] 33) = W3 := ⟨_, rfl⟩
          obtain ⟨X, hX⟩ : ∃ X, w2.heap.size = X := ⟨_, rfl⟩
          have hx3 : W3.heap[X]? = some (.cells #[.int .u32 a, .int .u32 b] 33 (0, 0)) := by rw [← hW3, ← hX]; exact heap_new _ _
          have x0 := (cell_of_row _ _ 0 _ _ (0, 0) hx3).trans (rfl : _ = some (Value.int .u32 a))
          have x1 := (cell_of_row _ _ 1 _ _ (0, 0) hx3).trans (rfl : _ = some (Value.int .u32 b))
          have HB3 : Hid (Below w.heap.size w W3) := Lib.hid (by rw [← hW3]; exact HB2.out.alloc (by have := HB2.out.size; omega) _)
          have HO3 : Hid (Own w.heap.size W3 (.slice p M.length c) M) := Lib.hid (by rw [← hW3]; exact HO2.out.same (fun g cs e h1 h2 => heap_alloc _ (Array.getElem?_eq_some_iff.1 h2).1))
          have hz3 : w.heap.size ≤ W3.heap.size := HB3.out.size
          obtain ⟨i0, hi0, hz0, hzz1, hzz2⟩ := info_parts infoS
          clear ho ht1 ht2 hx3
          go_wp2_with (at_builtin; go_loud (refine wpList_append_own _ rfl _ _ 22 rfl w.heap.size 33 i0 (.agg #[.int .u32 0, .int .u32 0]) 2 8 Tryd.underlying22 hi0 hz0 hzz1 hzz2 rfl (by decide) _ _ _ rfl (HO3.out.2.alloc _) ⟨W3.heap.size, 0, none⟩ 1 1 [.int .u32 a, .int .u32 b] rfl rfl (cell_two_new _ _ _ _) (fun x hx => by simp at hx; rcases hx with rfl | rfl <;> rfl) (by unfold maxLen; omega) (by omega) (by simp; omega) ?_; intro v6 w6 hown6 hgrow6 hnil6; (have HO6 := Lib.hid (own_push (t := t) HO3.out.1 HTT.out HAT.out.1 HAT.out.2 hown6)); (have hlt6 := (HO3.out.2.alloc (.cells #[.int .u32 a, .int .u32 b] 33)).lt); (have HB6 : Hid (Below w.heap.size w w6) := Lib.hid (Below.grown (HB3.out.alloc hz3 _) hgrow6 (by simp; omega) (fun j hj => (hlt6 _ hj).1))); clear hown6 hgrow6 hnil6 hlt6))
          go_roundw
          case rel => exact ⟨k + 1, k + 1, M ++ [t], _, by omega, by go_num, by go_num, rfl, HS2, by simp; omega, by omega, HO6, HB6.out⟩
          case measure => simp [intOf]; omega
    · have i1 : ¬ (k : Int) ≤ (s.size : Int) := by omega
      have hall := HS.out.all (by omega)
      have HA := Lib.hid hall
      have hr := HR.out
      rw [hall] at hr
      simp only [Option.bind_some] at hr
      have hml : M.length ≤ 1000000 := by omega
      have hct := rtext_is M _ wr HO.out.rd hml (HT.out.on HB.out)
      have HCT := Lib.hid hct
      have HLL : Hid (s.toList = L) := Lib.hid (by rw [Lib.toList_data, HL.out])
      obtain ⟨A, hA⟩ : ∃ A : ByteArray, A = ⟨(txt (Cn (has M))).toArray⟩ := ⟨_, rfl⟩
      rw [← hA] at HCT
      have hAl : A.toList = txt (Cn (has M)) := by rw [Lib.toList_data, hA]
      clear hall hct
      by_cases heq : txt (Cn (has M)) = L
      · have hc1 : (A.toList == s.toList) = true := by rw [hAl, heq, HLL.out]; simp
        have hc2 : (A.toList != s.toList) = false := by simp only [bne, hc1]; rfl
        rw [if_pos heq] at hr
        have HRR := Lib.hid hr
        clear hr heq hAl hA HR
        go_wp2_with fail
        go_at_call 10
        (with_reducible refine HCT.out.mono ?_)
        rintro e w2 ⟨rfl, hb2⟩
        have hrd2 := HO.out.rd.below hb2
        have hform := rform_is M _ w2 hrd2 (by omega)
        unfold NewSet at hform
        have HFM := Lib.hid hform
        have HB2 := Lib.hid (Below.step HB.out hb2)
        clear hb2 hrd2 hform
        go_wp2_with fail
        go_at_call 20
        (with_reducible refine HFM.out.mono ?_)
        rintro e w3 ⟨v3, rfl, ho3, hb3⟩
        have HO3 := Lib.hid ho3; have HB3 := Lib.hid (Below.step HB2.out hb3)
        clear ho3 hb3
        go_wp2_with fail
        go_ret2
        exact ⟨_, _, rfl, by rw [HRR.out]; rfl, by rw [HRR.out]; exact HO3.out.down (by have := HB2.out.size; omega), (fun h => by rw [HRR.out] at h; cases h), HB3.out⟩
      · have hc1 : (A.toList == s.toList) = false := by rw [hAl, HLL.out]; simpa using heq
        have hc2 : (A.toList != s.toList) = true := by simp only [bne, hc1]; rfl
        rw [if_neg heq] at hr
        have HRR := Lib.hid hr
        clear hr heq hAl hA HR
        go_wp2_with fail
        go_at_call 10
        (with_reducible refine HCT.out.mono ?_)
        rintro e w2 ⟨rfl, hb2⟩
        have HB2 := Lib.hid (Below.step HB.out hb2)
        clear hb2
        go_wp2_with fail
        go_ret2
        exact ⟨_, _, rfl, by rw [HRR.out]; rfl, by rw [HRR.out]; exact ⟨fun _ h => (by cases h), World.ownsRow_nil _ _ _ _⟩, fun _ => rfl, HB2.out⟩
end Go.Proofs.YtbplkeopdfciiaaDoor
