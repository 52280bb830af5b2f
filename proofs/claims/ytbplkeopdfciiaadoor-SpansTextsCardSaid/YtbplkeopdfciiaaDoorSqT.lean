/- The law SpansTexts: whatever list and text it is handed it answers true; what was there stands. Conditions: the list reads, the table of package strconv is what its text says. -/
import Derived.Test.YtbplkeopdfciiaaDoorSqB
import Derived.Test.YtbplkeopdfciiaaDoorSqZ
namespace Go.Proofs.YtbplkeopdfciiaaDoor
open Go.RowKit
set_option maxRecDepth 100000 in
set_option maxHeartbeats 1000000 in
theorem texts_law (HS : Sorts) (l : List (Nat × Nat)) (va : Value) (s : ByteArray) (w : World) (hr : Rd w va l) (ht : Tab10 w) :
    Calls Tryd.prog 3 #[va, .string s] w fun e w' => e = .returned (.bool true) ∧ Below w.heap.size w w' := by
  obtain ⟨p, c, rfl, _, _, _⟩ := hr.sl
  have HR := Lib.hid hr; have HT := Lib.hid ht
  clear hr ht
  by_cases hbig : 200 < l.length
  · have HLY := Lib.hid (large_yes p none l.length 0 c 0 w (.inl hbig))
    clear hbig
    go_enter Tryd.func3, Tryd.ntmps3
    go_wp2_with (first
      | (go_at_call 5; (with_reducible refine HLY.out.mono ?_); rintro e w1 ⟨rfl, rfl⟩)
      | (go_at_call 6; (with_reducible refine (awake_is _).mono ?_); rintro e w2 ⟨rfl, hb2⟩))
    go_ret
    exact ⟨rfl, hb2⟩
  have hl : l.length ≤ 200 := by omega
  have HLN := Lib.hid (large_no p none l.length 0 c 0 w hl (Nat.zero_le _))
  clear hbig
  by_cases hlong : 2000 < s.size
  · have hdi : decide ((2000 : Int) < (s.size : Int)) = true := decide_eq_true (by omega)
    clear HR HT
    go_enter Tryd.func3, Tryd.ntmps3
    go_wp2_with (first
      | (go_at_call 5; (with_reducible refine HLN.out.mono ?_); rintro e w1 ⟨rfl, rfl⟩)
      | (go_at_call 6; (with_reducible refine (awake_is _).mono ?_); rintro e w2 ⟨rfl, hb2⟩))
    go_ret
    exact ⟨rfl, hb2⟩
  have hs2 : s.size ≤ 2000 := by omega
  have hdi : decide ((2000 : Int) < (s.size : Int)) = false := decide_eq_false (by omega)
  clear hlong
  obtain ⟨o, ho⟩ : ∃ o, readP s.data.toList = o := ⟨_, rfl⟩
  have hml : (o.getD []).length ≤ 1000000 := by
    cases o with
    | none => simp
    | some M =>
      have h0 := ho
      unfold readP at h0
      by_cases hz : s.data.toList = [45]
      · rw [if_pos hz] at h0; cases h0; simp
      · rw [if_neg hz] at h0
        have h1 := goP_length _ _ _ h0
        have h2 := len_parts s.data.toList
        rw [str_toList] at h2
        simp at h1 ⊢
        omega
  have hp1 := fun W => parse_is s W (by unfold longP; omega)
  have hp2 := fun W => rparse_is s W (by omega)
  rw [ho] at hp1 hp2
  obtain ⟨T, hTx⟩ : ∃ T : ByteArray, T = ⟨(txt (Cn (has l))).toArray⟩ := ⟨_, rfl⟩
  have ht1 := fun W hr ht => text_is HS l (.slice p l.length c) W hr (by omega) ht
  have ht2 := fun W hr ht => rtext_is l (.slice p l.length c) W hr (by omega) ht
  rw [← hTx] at ht1 ht2
  have HP1 := Lib.hid hp1; have HP2 := Lib.hid hp2; have HT1 := Lib.hid ht1; have HT2 := Lib.hid ht2; have HML := Lib.hid hml
  clear hp1 hp2 ht1 ht2 hTx ho hml
  go_enter Tryd.func3, Tryd.ntmps3
  go_wp2_with (first
    | (go_at_call 5; (with_reducible refine HLN.out.mono ?_); rintro e w0 ⟨rfl, rfl⟩))
  go_at_call 7
  refine (HP1.out _).mono ?_
  rintro e w1 ⟨v1, k1, rfl, hk1, ho1, _, hb1⟩
  have HB1 := Lib.hid hb1
  have HR1 := Lib.hid (HR.out.below hb1); have HTA := Lib.hid (HT.out.on hb1); have HL1 := Lib.hid ho1.rd; have HK1 := Lib.hid hk1
  clear hb1 ho1 hk1
  go_wp2_with fail
  go_at_call 8
  refine (HP2.out _ HTA.out).mono ?_
  rintro e w2 ⟨v2, k2, rfl, hk2, ho2, _, hb2⟩
  obtain rfl : k1 = k2 := HK1.out.trans hk2.symm
  have HB2 := Lib.hid (Below.step HB1.out hb2)
  have HR2 := Lib.hid (HR1.out.below hb2); have HTB := Lib.hid (HTA.out.on hb2); have HL2 := Lib.hid (HL1.out.below hb2); have HM2 := Lib.hid ho2.rd
  clear hb2 ho2 HK1 hk2
  go_wp2_with fail
  go_at_call 9
  refine (HT1.out _ HR2.out HTB.out).mono ?_
  rintro e w3 ⟨rfl, hb3⟩
  have HB3 := Lib.hid (Below.step HB2.out hb3)
  have HR3 := Lib.hid (HR2.out.below hb3); have HTC := Lib.hid (HTB.out.on hb3); have HL3 := Lib.hid (HL2.out.below hb3); have HM3 := Lib.hid (HM2.out.below hb3)
  clear hb3
  go_wp2_with fail
  go_at_call 10
  refine (HT2.out _ HR3.out HTC.out).mono ?_
  rintro e w4 ⟨rfl, hb4⟩
  have HB4 := Lib.hid (Below.step HB3.out hb4)
  have HL4 := Lib.hid (HL3.out.below hb4); have HM4 := Lib.hid (HM3.out.below hb4)
  clear hb4 HP1 HP2 HT1 HT2 HR HR1 HR2 HR3 HT HTA HTB HTC HL1 HL2 HL3 HM2 HM3 HB1 HB2 HB3 HLN
  go_wp2_with fail
  go_at_call 11
  refine (spans_is (o.getD []) (o.getD []) _ _ w4 HL4.out HM4.out (by have := HML.out; omega) (by have := HML.out; omega)).mono ?_
  rw [decide_eq_true (rfl : o.getD [] = o.getD [])]
  rintro e w5 ⟨rfl, hb5⟩
  have HB5 := Lib.hid (Below.step HB4.out hb5)
  clear hb5
  go_wp2_with fail
  go_ret
  exact ⟨rfl, HB5.out⟩
end Go.Proofs.YtbplkeopdfciiaaDoor
