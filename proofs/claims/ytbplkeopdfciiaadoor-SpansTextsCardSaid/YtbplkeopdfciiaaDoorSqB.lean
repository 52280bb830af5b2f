/- The law SpansBack: whatever list and text it is handed it answers true; what was there stands. Conditions: the list reads, the table of package strconv is what its text says. -/
import Derived.Test.YtbplkeopdfciiaaDoorSqP
import Derived.Test.YtbplkeopdfciiaaDoorSpTb
import Derived.Test.YtbplkeopdfciiaaDoorSpR2
namespace Go.Proofs.YtbplkeopdfciiaaDoor
open Go.RowKit
attribute [local irreducible] wpQuiet
theorem canon_next {F : List (Nat × Nat)} (h : Canon F) {k : Nat} {s t : Nat × Nat} (hs : F[k]? = some s) (ht : F[k + 1]? = some t) : s.2 + 2 ≤ t.1 := by
  obtain ⟨h1, e1⟩ := List.getElem?_eq_some_iff.1 hs
  obtain ⟨h2, e2⟩ := List.getElem?_eq_some_iff.1 ht
  have := List.pairwise_iff_getElem.1 h.apart k (k + 1) h1 h2 (by omega)
  rw [e1, e2] at this
  omega
theorem str_back {l : List UInt8} {s : ByteArray} (h : l = s.data.toList) : (⟨l.toArray⟩ : ByteArray) = s := by rw [h]
set_option maxRecDepth 100000 in
set_option maxHeartbeats 1000000 in
theorem back_law (HS : Sorts) (l : List (Nat × Nat)) (va : Value) (s : ByteArray) (w : World) (hr : Rd w va l) (ht : Tab10 w) :
    Calls Tryd.prog 4 #[va, .string s] w fun e w' => e = .returned (.bool true) ∧ Below w.heap.size w w' := by
  obtain ⟨p, c, rfl, _, _, _⟩ := hr.sl
  have HR := Lib.hid hr; have HT := Lib.hid ht
  clear hr ht
  by_cases hbig : 200 < l.length
  · have HLY := Lib.hid (large_yes p none l.length 0 c 0 w (.inl hbig))
    clear hbig
    go_enter Tryd.func4, Tryd.ntmps4
    go_wp2_with (first
      | (go_at_call 5; (with_reducible refine HLY.out.mono ?_); rintro e w1 ⟨rfl, rfl⟩)
      | (go_at_call 6; (with_reducible refine (awake_is _).mono ?_); rintro e w2 ⟨rfl, hb2⟩))
    go_ret
    exact ⟨rfl, hb2⟩
  have hl : l.length ≤ 200 := by omega
  have HLN := Lib.hid (large_no p none l.length 0 c 0 w hl (Nat.zero_le _))
  clear hbig
  by_cases hlong : 2000 < s.size
  · have hdi : decide ((2000 : Int) < (s.size : Int)) = true := decide_eq_true (by omega)
    clear HR HT
    go_enter Tryd.func4, Tryd.ntmps4
    go_wp2_with (first
      | (go_at_call 5; (with_reducible refine HLN.out.mono ?_); rintro e w1 ⟨rfl, rfl⟩)
      | (go_at_call 6; (with_reducible refine (awake_is _).mono ?_); rintro e w2 ⟨rfl, hb2⟩))
    go_ret
    exact ⟨rfl, hb2⟩
  obtain ⟨F, hF⟩ : ∃ F, Cn (has l) = F := ⟨_, rfl⟩
  have hFc : Canon F := hF ▸ Cn_canon _
  have hFs : Small F := hF ▸ Cn_small _
  have hFl : F.length ≤ 200 := by rw [← hF]; exact Nat.le_trans (CnHas_length HR.out.1.two) hl
  have hFF : Cn (has F) = F := Cn_self hFc (fun t h => (hFs t h).2)
  have hRF : readP (txt F) = some F := readP_txt hFc (fun t h => (hFs t h).2)
  have htl : (txt F).length ≤ 5000 := by
    unfold txt
    split
    · simp
    · have := txs_len hFs; omega
  have HF := Lib.hid hF; have HFC := Lib.hid hFc; have HFS := Lib.hid hFs; have HFF := Lib.hid hFF; have HRF := Lib.hid hRF; have HTL := Lib.hid htl
  have hs2 : s.size ≤ 2000 := by omega
  have hdi : decide ((2000 : Int) < (s.size : Int)) = false := decide_eq_false (by omega)
  clear hF hFc hFs hFF hRF htl hlong
  go_enter Tryd.func4, Tryd.ntmps4
  go_wp2_with (first
    | (go_at_call 5; (with_reducible refine HLN.out.mono ?_); rintro e w0 ⟨rfl, rfl⟩)
    | (go_at_call 6; (with_reducible refine (awake_is _).mono ?_); rintro e w1 ⟨rfl, hb1⟩))
  have HB1 := Lib.hid hb1
  have HR1 := Lib.hid (HR.out.below hb1); have HT1 := Lib.hid (HT.out.on hb1)
  clear hb1
  go_at_call 9
  refine (text_is HS l _ w1 HR1.out (by omega) HT1.out).mono ?_
  rintro e w2 ⟨rfl, hb2⟩
  rw [HF.out]
  have HB2 := Lib.hid (Below.step HB1.out hb2)
  have HR2 := Lib.hid (HR1.out.below hb2); have HT2 := Lib.hid (HT1.out.on hb2)
  clear hb2
  go_wp2_with fail
  go_at_call 7
  refine (parse_is _ w2 (by rw [bytes_size]; have := HTL.out; unfold longP; omega)).mono ?_
  rw [bytes_toList, HRF.out]
  rintro e w3 ⟨v3, k3, rfl, hk3, ho3, _, hb3⟩
  rw [show (some F : Option (List (Nat × Nat))).isSome = true from rfl, if_pos rfl] at hk3
  subst hk3
  rw [show (some F : Option (List (Nat × Nat))).getD [] = F from rfl] at ho3
  have HB3 := Lib.hid (Below.step HB2.out hb3)
  have HR3 := Lib.hid (HR2.out.below hb3); have HT3 := Lib.hid (HT2.out.on hb3); have HL3 := Lib.hid ho3.rd
  clear hb3 ho3
  go_wp2_with fail
  go_at_call 12
  refine (form_any HS l _ w3 HR3.out (by omega)).mono ?_
  rw [HF.out]
  rintro e w4 ⟨v4, rfl, ho4, hb4⟩
  have HB4 := Lib.hid (Below.step HB3.out hb4)
  have HR4 := Lib.hid (HR3.out.below hb4); have HT4 := Lib.hid (HT3.out.on hb4); have HL4 := Lib.hid (HL3.out.below hb4); have HM4 := Lib.hid ho4.rd
  clear hb4 ho4
  go_wp2_with fail
  go_at_call 11
  refine (spans_is F F _ _ w4 HL4.out HM4.out (by omega) (by omega)).mono ?_
  rw [decide_eq_true (rfl : F = F)]
  rintro e w5 ⟨rfl, hb5⟩
  have HB5 := Lib.hid (Below.step HB4.out hb5)
  have HR5 := Lib.hid (HR4.out.below hb5); have HT5 := Lib.hid (HT4.out.on hb5); have HM5 := Lib.hid (HM4.out.below hb5)
  clear hb5
  go_wp2_with fail
  go_at_call 13
  refine (same_is l F _ _ w5 HR5.out HM5.out (by omega) (by omega)).mono ?_
  rw [decide_eq_true (HF.out.trans HFF.out.symm)]
  rintro e w6 ⟨rfl, hb6⟩
  have HB6 := Lib.hid (Below.step HB5.out hb6)
  have HT6 := Lib.hid (HT5.out.on hb6)
  have hm6 := HM5.out.below hb6
  obtain ⟨p4, c4, rfl, _, _, hcell⟩ := hm6.sl
  have HC := Lib.hid hcell
  clear hb6 hm6 hcell HR HR1 HR2 HR3 HR4 HR5 HL3 HL4 HM4 HM5 HT HT1 HT2 HT3 HT4 HT5 HB1 HB2 HB3 HB4 HB5
  go_wp2_with fail
  go_loopw [8] (fun s8 wr => ∃ k : Nat, k ≤ F.length ∧ s8 = .int .i64 k ∧ Below w6.heap.size w6 wr) (fun s8 _ => F.length - (intOf s8).toNat)
  case atStart => exact ⟨0, Nat.zero_le _, rfl, Below.refl _ _⟩
  case round =>
    obtain ⟨k, hk, rfl, hbw⟩ := hrel
    have HBW := Lib.hid hbw
    clear hbw
    by_cases hlt : k < F.length
    · obtain ⟨⟨lo, hi⟩, hsp⟩ : ∃ t, F[k]? = some t := ⟨_, List.getElem?_eq_getElem hlt⟩
      obtain ⟨g, q, hq, hgl, hl1, hl2, hcc⟩ := HC.out k _ hsp
      obtain ⟨d0, d1⟩ := hcc wr HBW.out
      have hle := HFC.out.some _ (List.mem_of_getElem? hsp)
      simp only at d0 d1 hl1 hl2 hle
      rw [top_def] at hl1 hl2
      subst hq
      obtain ⟨a, ha⟩ : ∃ z : Int, z = (lo : Int) := ⟨_, rfl⟩
      obtain ⟨b, hb⟩ : ∃ z : Int, z = (hi : Int) := ⟨_, rfl⟩
      rw [← ha] at d0
      rw [← hb] at d1
      have i0 : 0 ≤ a := by omega
      have i1 : a < 4294967296 := by omega
      have i2 : ¬ b < a := by omega
      have i3 : (0 : Int) ≤ (k : Int) := by omega
      have i4 : (k : Int) < (F.length : Int) := by omega
      have HSP := Lib.hid hsp; have HA := Lib.hid ha; have HHB := Lib.hid hb
      cases k with
      | zero =>
        simp only [Nat.zero_mul, Nat.add_zero] at d0 d1
        clear hcc ha hb hl1 hl2 hle hsp i3
        go_wp2_with fail
        go_quiet (fail)
        go_wp2_with fail
        go_roundw
        case rel => exact ⟨0 + 1, by omega, by go_num, Below.draws HBW.out _⟩
        case measure => simp [intOf]; omega
      | succ j =>
        obtain ⟨⟨lo2, hi2⟩, hsp2⟩ : ∃ t, F[j]? = some t := ⟨_, List.getElem?_eq_getElem (by omega)⟩
        obtain ⟨g2, q2, hq2, hgl2, hm1, hm2, hcc2⟩ := HC.out j _ hsp2
        obtain ⟨e0, e1⟩ := hcc2 wr HBW.out
        have hgap := canon_next HFC.out hsp2 hsp
        obtain ⟨rfl, rfl⟩ : g = g2 ∧ q = q2 := by simpa using hq2
        simp only at e0 e1 hm1 hm2 hgap
        rw [top_def] at hm1 hm2
        obtain ⟨b2, hb2⟩ : ∃ z : Int, z = (hi2 : Int) := ⟨_, rfl⟩
        rw [← hb2] at e1
        have i5 : 0 ≤ b2 := by omega
        have i6 : b2 < 4294967296 := by omega
        have i7 : ¬ a < b2 + 2 := by omega
        have i3 : (0 : Int) ≤ (j : Int) + 1 := by omega
        have i4 : (j : Int) + 1 < (F.length : Int) := by omega
        have i10 : decide ((0 : Int) < (j : Int) + 1) = true := decide_eq_true (by omega)
        have i8 : (0 : Int) ≤ (j : Int) := by omega
        have i11 : j < F.length := by omega
        have i12 : IntKind.i64.wrap (j : Int) = (j : Int) := IntWalk.i64_in _ ⟨by omega, by omega⟩
        have i13 : IntKind.i64.wrap ((j : Int) + 1 - 1) = (j : Int) := by rw [show (j : Int) + 1 - 1 = (j : Int) by omega]; exact i12
        have i9 : (j : Int) < (F.length : Int) := by omega
        have i14 : IntKind.u64.wrap (b2 + 2) = b2 + 2 := IntWalk.u64_in _ ⟨by omega, by omega⟩
        have iw : IntKind.u64.wrap a = a := IntWalk.u64_in _ ⟨by omega, by omega⟩
        have iv : IntKind.u64.wrap b2 = b2 := IntWalk.u64_in _ ⟨by omega, by omega⟩
        clear hcc hcc2 ha hb hb2 hl1 hl2 hle hsp hsp2 hm1 hm2 hgap hq2 e0
        go_wp2_with fail
        go_quiet (fail)
        go_wp2_with fail
        refine ⟨⟨j + 1 + 1, by omega, by go_num, Below.draws HBW.out _⟩, ?_⟩
        simp [intOf]
        omega
    · have i4 : ¬ (k : Int) < (F.length : Int) := by omega
      have HB7 := Lib.hid (Below.step HB6.out HBW.out)
      have HT7 := Lib.hid (HT6.out.on HBW.out)
      clear HC hlt
      go_wp2_with fail
      go_at_call 7
      refine (parse_is s wr (by unfold longP; omega)).mono ?_
      obtain ⟨o, ho⟩ : ∃ o, readP s.data.toList = o := ⟨_, rfl⟩
      rw [ho]
      rintro e w8 ⟨v8, k8, rfl, hk8, ho8, hn8, hb8⟩
      have HB8 := Lib.hid (Below.step HB7.out hb8)
      have HT8 := Lib.hid (HT7.out.on hb8)
      clear hb8
      cases o with
      | none =>
        obtain rfl := hn8 rfl
        rw [show (none : Option (List (Nat × Nat))).isSome = false from rfl, if_neg (by simp)] at hk8
        subst hk8
        clear hn8 ho8 ho
        go_wp2_with fail
        go_ret
        exact ⟨rfl, HB8.out⟩
      | some M =>
        rw [show (some M : Option (List (Nat × Nat))).isSome = true from rfl, if_pos rfl] at hk8
        subst hk8
        rw [show (some M : Option (List (Nat × Nat))).getD [] = M from rfl] at ho8
        have hself := readP_self ho
        have htx := (readP_some ho).2.2
        have hml : M.length ≤ 1000000 := by
          have h0 := ho
          unfold readP at h0
          by_cases hz : s.data.toList = [45]
          · rw [if_pos hz] at h0; cases h0; simp
          · rw [if_neg hz] at h0
            have h1 := goP_length _ _ _ h0
            have h2 := len_parts s.data.toList
            rw [str_toList] at h2
            simp at h1
            omega
        have hcall := text_is HS M v8 w8 ho8.rd hml HT8.out
        rw [hself, htx] at hcall
        have hstr : (⟨s.data.toList.toArray⟩ : ByteArray) = s := str_back rfl
        rw [hstr] at hcall
        have HCALL := Lib.hid hcall
        obtain ⟨p8, c8, rfl, _, _, _⟩ := ho8.rd.sl
        clear hn8 ho8 ho hself htx hml hcall hstr
        go_wp2_with fail
        go_at_call 9
        refine HCALL.out.mono ?_
        rintro e w9 ⟨rfl, hb9⟩
        have HB9 := Lib.hid (Below.step HB8.out hb9)
        clear hb9
        go_wp2_with fail
        go_ret
        exact ⟨rfl, HB9.out⟩
end Go.Proofs.YtbplkeopdfciiaaDoor
