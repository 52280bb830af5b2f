/- Text of waymarkref02: a set's text. Condition: the table of package strconv is what its text says. -/
import Derived.Test.YtbplkeopdfciiaaDoorSqU
import Derived.Test.YtbplkeopdfciiaaDoorSpR2
namespace Go.Proofs.YtbplkeopdfciiaaDoor
open Go.RowKit
attribute [local irreducible] wpQuiet
theorem str_eq {a b : ByteArray} (h : a.data.toList = b.data.toList) : Value.string a = .string b := by
  have : a = b := by
    cases a; cases b
    congr 1
    exact Array.toList_inj.1 h
  rw [this]
set_option maxRecDepth 100000 in
set_option maxHeartbeats 1000000 in
theorem rtext_is (l : List (Nat × Nat)) (v : Value) (w : World) (hr : Rd w v l) (hlen : l.length ≤ 1000000) (ht : Tab10 w) : Calls Tryd.prog 10 #[v] w fun e w' => e = .returned (.string ⟨(txt (Cn (has l))).toArray⟩) ∧ Below w.heap.size w w' := by
  obtain ⟨F, hF⟩ : ∃ F, Cn (has l) = F := ⟨_, rfl⟩
  have hFl : F.length ≤ 1000000 := by rw [← hF]; exact Nat.le_trans (CnHas_length hr.1.two) hlen
  have hform := rform_is l v w hr (by omega)
  unfold NewSet at hform
  rw [hF] at hform ⊢
  have HFM := Lib.hid hform
  have HTA := Lib.hid ht
  clear hform hr ht hlen
  go_enter Tryd.func10, Tryd.ntmps10
  go_wp2_with fail
  go_at_call 20
  refine HFM.out.mono ?_
  rintro e w1 ⟨v1, rfl, ho1, hb1⟩
  obtain ⟨p, c, rfl, hlc, hcm, hcell⟩ := ho1.rd.sl
  have HSM := Lib.hid ho1.1
  have HBW := Lib.hid hb1
  have HT := Lib.hid (HTA.out.on hb1)
  have HC := Lib.hid hcell
  clear ho1 hb1 hcell HFM HTA
  go_wp2_with fail
  go_loopw [4, 5] (fun v i wr => ∃ (k : Nat) (vv : List UInt8), k ≤ F.length ∧ i = .int .i64 k ∧ v = .string ⟨vv.toArray⟩ ∧ Hid (vv = txs (F.take k)) ∧ Below w1.heap.size w1 wr) (fun _ i _ => F.length - (intOf i).toNat)
  case atStart => exact ⟨0, [], Nat.zero_le _, rfl, rfl, Lib.hid (by simp [txs, txb]), Below.refl _ _⟩
  case round =>
    obtain ⟨k, vv, hk, rfl, rfl, HV, hbw⟩ := hrel
    have HB0 := Lib.hid hbw
    have hvl : vv.length ≤ 22000000 := by
      rw [HV.out]
      have := txs_len (l := F.take k) (fun s hs => HSM.out s (List.mem_of_mem_take hs))
      rw [List.length_take] at this
      omega
    clear hbw
    by_cases hlt : k < F.length
    · obtain ⟨⟨s1, s2⟩, hs⟩ : ∃ s, F[k]? = some s := ⟨_, List.getElem?_eq_getElem hlt⟩
      obtain ⟨bb, oo, rfl, hbb, hs1, hs2, hc⟩ := HC.out k _ hs
      obtain ⟨c0, c1⟩ := hc wr HB0.out
      simp only at c0 c1 hs1 hs2
      have hd1 := dgt_top hs1
      have hd2 := dgt_top hs2
      rw [top_def] at hs1 hs2
      obtain ⟨lo, hlo⟩ : ∃ lo : Int, lo = (s1 : Int) := ⟨_, rfl⟩
      obtain ⟨hi, hhi⟩ : ∃ hi : Int, hi = (s2 : Int) := ⟨_, rfl⟩
      rw [← hlo] at c0
      rw [← hhi] at c1
      have lo1 : IntKind.u64.wrap lo = lo := IntWalk.u64_in _ ⟨by omega, by omega⟩
      have hi1 : IntKind.u64.wrap hi = hi := IntWalk.u64_in _ ⟨by omega, by omega⟩
      have hf1 := fun W => fmt_is s1 (by omega) W
      have hf2 := fun W => fmt_is s2 (by omega) W
      rw [← hlo] at hf1
      rw [← hhi] at hf2
      obtain ⟨a1, ha1⟩ : ∃ a, Lib.decDigits s1 = a := ⟨_, rfl⟩
      obtain ⟨a2, ha2⟩ : ∃ a, Lib.decDigits s2 = a := ⟨_, rfl⟩
      rw [ha1] at hf1 hd1
      rw [ha2] at hf2 hd2
      have HF1 := Lib.hid hf1; have HF2 := Lib.hid hf2; have HA1 := Lib.hid ha1; have HA2 := Lib.hid ha2
      have HS := Lib.hid hs; have HCC := Lib.hid hc
      have i1 : (0 : Int) ≤ (k : Int) := by omega
      have i2 : (k : Int) < (F.length : Int) := by omega
      clear hf1 hf2 ha1 ha2 hs hc
      by_cases heq : s1 = s2
      · have HQ : Hid (oneT (s1, s2) = a1) := Lib.hid (by unfold oneT; rw [if_pos heq, HA1.out, List.append_nil])
        have hne : (hi != lo) = false := by rw [hlo, hhi, heq]; simp
        have HLO := Lib.hid hlo; have HHI := Lib.hid hhi
        clear heq hlo hhi
        cases k with
        | zero =>
          simp only [Nat.zero_mul, Nat.add_zero] at c0 c1
          go_wp2_with fail
          all_goals first | (exfalso; omega) | skip
          go_at_call 22
          (with_reducible refine (HF1.out _ (HT.out.on HB0.out)).mono ?_)
          rintro e w2 ⟨rfl, hb2⟩
          have HB2 : Hid (Below w1.heap.size w1 w2) := Lib.hid (Below.step HB0.out hb2)
          have d01 := HCC.out w2 HB2.out
          obtain ⟨d0, d1⟩ := d01
          simp only [Nat.zero_mul, Nat.add_zero] at d0 d1
          simp only [← HLO.out, ← HHI.out] at d0 d1
          clear c0 c1 hb2
          go_wp2_with fail
          all_goals first | (exfalso; omega) | skip
          go_quiet (fail)
          go_wp2_with fail
          all_goals first | (exfalso; omega) | skip
          refine ⟨⟨0 + 1, vv ++ a1, by omega, by go_num, str_eq (by simp), Lib.hid (by rw [show 0 + 1 = 1 from rfl, txs_first HS.out, HQ.out, show vv = [] by rw [HV.out]; simp [txs, txb]]; simp), (Below.draws HB2.out _)⟩, ?_⟩
          simp [intOf]
          omega
        | succ j =>
          have hj : (0 : Int) < (j : Int) + 1 := by omega
          have i3 : (0 : Int) ≤ (j : Int) + 1 := by omega
          have i4 : (j : Int) + 1 < (F.length : Int) := by omega
          go_wp2_with fail
          all_goals first | (exfalso; omega) | skip
          go_at_call 22
          (with_reducible refine (HF1.out _ (HT.out.on HB0.out)).mono ?_)
          rintro e w2 ⟨rfl, hb2⟩
          have HB2 : Hid (Below w1.heap.size w1 w2) := Lib.hid (Below.step HB0.out hb2)
          have d01 := HCC.out w2 HB2.out
          obtain ⟨d0, d1⟩ := d01
          simp only [← HLO.out, ← HHI.out] at d0 d1
          clear c0 c1 hb2
          go_wp2_with fail
          all_goals first | (exfalso; omega) | skip
          go_quiet (fail)
          go_wp2_with fail
          all_goals first | (exfalso; omega) | skip
          refine ⟨⟨j + 1 + 1, vv ++ [44] ++ a1, by omega, by go_num, str_eq (by simp), Lib.hid (by rw [txs_next (by omega) HS.out, ← HV.out, HQ.out]; simp), (Below.draws HB2.out _)⟩, ?_⟩
          simp [intOf]
          omega
      · have HQ : Hid (oneT (s1, s2) = a1 ++ 45 :: a2) := Lib.hid (by unfold oneT; rw [if_neg heq, HA1.out, HA2.out])
        have hne : (hi != lo) = true := by rw [hlo, hhi]; simp; omega
        have HLO := Lib.hid hlo; have HHI := Lib.hid hhi
        clear heq hlo hhi
        cases k with
        | zero =>
          simp only [Nat.zero_mul, Nat.add_zero] at c0 c1
          go_wp2_with fail
          all_goals first | (exfalso; omega) | skip
          go_at_call 22
          (with_reducible refine (HF1.out _ (HT.out.on HB0.out)).mono ?_)
          rintro e w2 ⟨rfl, hb2⟩
          have HB2 : Hid (Below w1.heap.size w1 w2) := Lib.hid (Below.step HB0.out hb2)
          have d01 := HCC.out w2 HB2.out
          obtain ⟨d0, d1⟩ := d01
          simp only [Nat.zero_mul, Nat.add_zero] at d0 d1
          simp only [← HLO.out, ← HHI.out] at d0 d1
          clear c0 c1 hb2
          go_wp2_with fail
          all_goals first | (exfalso; omega) | skip
          go_quiet (fail)
          obtain ⟨W3, hW3⟩ : ∃ X, w2.drewN nq = X := ⟨_, rfl⟩
          have HB3 : Hid (Below w1.heap.size w1 W3) := Lib.hid (by rw [← hW3]; exact Below.draws HB2.out _)
          rw [hW3]
          clear d0 d1 hW3
          obtain ⟨d0, d1⟩ := HCC.out W3 HB3.out
          simp only [Nat.zero_mul, Nat.add_zero] at d0 d1
          simp only [← HLO.out, ← HHI.out] at d0 d1
          go_wp2_with fail
          all_goals first | (exfalso; omega) | skip
          go_at_call 22
          (with_reducible refine (HF2.out _ (HT.out.on HB3.out)).mono ?_)
          rintro e w4 ⟨rfl, hb4⟩
          have HB4 : Hid (Below w1.heap.size w1 w4) := Lib.hid (Below.step HB3.out hb4)
          clear hb4
          go_wp2_with fail
          all_goals first | (exfalso; omega) | skip
          refine ⟨⟨0 + 1, vv ++ a1 ++ [45] ++ a2, by omega, by go_num, str_eq (by simp), Lib.hid (by rw [show 0 + 1 = 1 from rfl, txs_first HS.out, HQ.out, show vv = [] by rw [HV.out]; simp [txs, txb]]; simp), HB4.out⟩, ?_⟩
          simp [intOf]
          omega
        | succ j =>
          have hj : (0 : Int) < (j : Int) + 1 := by omega
          have i3 : (0 : Int) ≤ (j : Int) + 1 := by omega
          have i4 : (j : Int) + 1 < (F.length : Int) := by omega
          go_wp2_with fail
          all_goals first | (exfalso; omega) | skip
          go_at_call 22
          (with_reducible refine (HF1.out _ (HT.out.on HB0.out)).mono ?_)
          rintro e w2 ⟨rfl, hb2⟩
          have HB2 : Hid (Below w1.heap.size w1 w2) := Lib.hid (Below.step HB0.out hb2)
          have d01 := HCC.out w2 HB2.out
          obtain ⟨d0, d1⟩ := d01
          simp only [← HLO.out, ← HHI.out] at d0 d1
          clear c0 c1 hb2
          go_wp2_with fail
          all_goals first | (exfalso; omega) | skip
          go_quiet (fail)
          obtain ⟨W3, hW3⟩ : ∃ X, w2.drewN nq = X := ⟨_, rfl⟩
          have HB3 : Hid (Below w1.heap.size w1 W3) := Lib.hid (by rw [← hW3]; exact Below.draws HB2.out _)
          rw [hW3]
          clear d0 d1 hW3
          obtain ⟨d0, d1⟩ := HCC.out W3 HB3.out
          simp only [← HLO.out, ← HHI.out] at d0 d1
          go_wp2_with fail
          all_goals first | (exfalso; omega) | skip
          go_at_call 22
          (with_reducible refine (HF2.out _ (HT.out.on HB3.out)).mono ?_)
          rintro e w4 ⟨rfl, hb4⟩
          have HB4 : Hid (Below w1.heap.size w1 w4) := Lib.hid (Below.step HB3.out hb4)
          clear hb4
          go_wp2_with fail
          all_goals first | (exfalso; omega) | skip
          refine ⟨⟨j + 1 + 1, vv ++ [44] ++ a1 ++ [45] ++ a2, by omega, by go_num, str_eq (by simp), Lib.hid (by rw [txs_next (by omega) HS.out, ← HV.out, HQ.out]; simp), HB4.out⟩, ?_⟩
          simp [intOf]
          omega
    · have hkl : k = F.length := by omega
      have i2 : ¬ (k : Int) < (F.length : Int) := by omega
      have hv := HV.out
      rw [hkl, List.take_length] at hv
      obtain ⟨S, hS⟩ : ∃ S : ByteArray, S = ⟨vv.toArray⟩ := ⟨_, rfl⟩
      rw [← hS]
      have hSl : S.toList = vv := by rw [Lib.toList_data, hS]
      by_cases h0 : F = []
      · have hE : S.toList.isEmpty = true := by rw [hSl, hv, h0]; rfl
        have HX : Hid (txt F = [45]) := Lib.hid (by rw [h0]; rfl)
        clear hS hSl hv h0 hlt
        go_wp2_with fail
        go_ret
        exact ⟨by rw [HX.out]; rfl, HBW.out.trans (HB0.out.mono (by have := HBW.out.size; omega))⟩
      · have hE : S.toList.isEmpty = false := by
          rw [hSl, hv]
          obtain ⟨s, m, rfl⟩ := List.exists_cons_of_ne_nil h0
          obtain ⟨b, q, hq⟩ := List.exists_cons_of_ne_nil (oneT_ne s)
          simp [txs, txb, hq]
        have HX : Hid (S = ⟨(txt F).toArray⟩) := Lib.hid (by rw [hS, hv]; unfold txt; rw [if_neg h0])
        clear hS hSl hv h0 hlt
        go_wp2_with fail
        go_ret
        exact ⟨by rw [HX.out]; rfl, HBW.out.trans (HB0.out.mono (by have := HBW.out.size; omega))⟩
end Go.Proofs.YtbplkeopdfciiaaDoor
