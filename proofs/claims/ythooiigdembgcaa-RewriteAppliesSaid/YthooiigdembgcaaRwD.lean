/- What Check of package rewrite and of waymarkref11 does. Under the condition that filters and rewrites read. -/
import Derived.Test.YthooiigdembgcaaRwC
namespace Go.Proofs.Ythooiigdembgcaa
open Go.RowKit
theorem ckWs_long {ws : List RewD} {fs : List FilD} (h : 256 < ws.length) : ckWs ws fs = 1 := by unfold ckWs; rw [if_pos h]
theorem ckWs_ok {ws : List RewD} {fs : List FilD} (h : ¬ 256 < ws.length) (ha : ∀ (i : Nat) (r : RewD), ws[i]? = some r → ckS fs r.flt = 0) : ckWs ws fs = 0 := by
  have e : ws.find? (fun r => ckS fs r.flt != 0) = none := by
    rw [List.find?_eq_none]
    intro r hr
    obtain ⟨i, hi, e⟩ := List.mem_iff_getElem.1 hr
    simp [ha i r (by rw [List.getElem?_eq_getElem hi, e])]
  unfold ckWs; rw [if_neg h, e]
theorem ckWs_at {ws : List RewD} {fs : List FilD} {k : Nat} {r : RewD} {c : Int} (h : ¬ 256 < ws.length) (ha : ∀ (i : Nat) (r : RewD), i < k → ws[i]? = some r → ckS fs r.flt = 0) (hk : ws[k]? = some r) (hc : ckS fs r.flt = c) (hn : c ≠ 0) : ckWs ws fs = c := by
  have e : ws.find? (fun r => ckS fs r.flt != 0) = some r := by
    rw [List.find?_eq_some_iff_getElem]
    obtain ⟨hk2, e2⟩ := List.getElem?_eq_some_iff.1 hk
    refine ⟨by rw [hc]; simpa using hn, k, hk2, e2, fun j hj => ?_⟩
    simp [ha j _ hj (List.getElem?_eq_getElem (by omega))]
  unfold ckWs; rw [if_neg h, e]; exact hc
theorem ckS_some {fs : List FilD} {s : ByteArray} {l : List RuleD} (h : rulesO fs s = some l) : ckS fs s = ckF l := by unfold ckS; rw [h]
theorem ckS_none {fs : List FilD} {s : ByteArray} (h : rulesO fs s = none) : ckS fs s = 120 := by unfold ckS; rw [h]
theorem ckS_empty {fs : List FilD} {s : ByteArray} (h : sEq s ⟨#[]⟩ = true) : ckS fs s = 0 := by rw [ckS_some (rulesO_empty h)]; exact any_ck
theorem step_lt {α : Type} {l : List α} {k : Nat} {P : α → Prop} {s : α} (ha : ∀ (i : Nat) (r : α), i < k → l[i]? = some r → P r) (hk : l[k]? = some s) (hs : P s) : ∀ (i : Nat) (r : α), i < k + 1 → l[i]? = some r → P r := fun i r hi h => by
  rcases Nat.lt_succ_iff_lt_or_eq.1 hi with h2 | rfl
  · exact ha i r h2 h
  · rw [hk] at h
    cases h
    exact hs
theorem all_lt {α : Type} {l : List α} {k : Nat} {P : α → Prop} (ha : ∀ (i : Nat) (r : α), i < k → l[i]? = some r → P r) (hk : ¬ k < l.length) : ∀ (i : Nat) (r : α), l[i]? = some r → P r := fun i r h => ha i r (by have := (List.getElem?_eq_some_iff.1 h).1; omega) h
theorem ckF_two (l : List RuleD) : ckF l = 0 ∨ ckF l = 121 := by unfold ckF; split <;> simp
set_option maxHeartbeats 2000000 in
theorem chk_is (ws : List RewD) (fs : List FilD) (v u : Value) (w : World) (hr : RdK encW 3 w v ws) (hf : RdF w u fs) : Calls Try.prog 19 #[v, u] w fun e w' => e = .returned (.int .i64 (ckWs ws fs)) ∧ Below w.heap.size w w' := by
  obtain ⟨p, c, rfl, hlc, hcm, hp⟩ := hr.sl
  obtain ⟨up, un, uc, rfl⟩ : ∃ p n c, u = .slice p n c := by obtain ⟨p, c, e, _⟩ := hf.rd; exact ⟨_, _, _, e⟩
  have HP := Lib.hid hp
  have HF := Lib.hid hf
  clear hp hr hf
  unfold maxLen at hcm
  by_cases hlong : 256 < ws.length
  · have HE := Lib.hid (ckWs_long (fs := fs) hlong)
    go_enter Try.func19, Try.ntmps19
    go_wp2
    go_ret
    exact ⟨ret_int HE.out.symm, Below.refl _ _⟩
  · have HL := Lib.hid hlong
    go_enter Try.func19, Try.ntmps19
    go_wp2
    go_loopw [15] (fun i wr => ∃ k : Nat, k ≤ ws.length ∧ i = .int .i64 k ∧ Hid (∀ (i : Nat) (r : RewD), i < k → ws[i]? = some r → ckS fs r.flt = 0) ∧ Below w.heap.size w wr) (fun i _ => ws.length - (intOf i).toNat)
    case atStart => exact ⟨0, Nat.zero_le _, rfl, Lib.hid (fun i r h => by omega), Below.refl _ _⟩
    case round =>
      obtain ⟨k, hk, rfl, HA, hbw⟩ := hrel
      have HW := Lib.hid hbw
      clear hbw
      by_cases hlt : k < ws.length
      · obtain ⟨r, hs⟩ : ∃ r, ws[k]? = some r := ⟨_, List.getElem?_eq_getElem hlt⟩
        obtain ⟨b, o, rfl, hbs, hc⟩ := HP.out k r hs
        have hc := hc wr HW.out
        have e1 : (0 : Int) ≤ (k : Int) := by omega
        have e2 : (k : Int) < (ws.length : Int) := by omega
        have HS := Lib.hid hs
        have hz := HW.out.size
        clear hs
        obtain ⟨dest, flt, aim⟩ := r
        simp only [encW] at hc
        have c0 : wr.cell? ⟨b, o + k * 3, none⟩ = some (.bool dest) := hc 0 _ rfl
        have c1 : wr.cell? ⟨b, o + k * 3 + 1, none⟩ = some (.string flt) := hc 1 _ rfl
        have c2 : wr.cell? ⟨b, o + k * 3 + 2, none⟩ = some (.int .u32 aim) := hc 2 _ rfl
        have HB1 : Hid (Below w.heap.size w (wr.alloc (.cells #[.bool dest, .string flt, .int .u32 aim] 57))) := Lib.hid (HW.out.alloc hz _)
        have HN := Lib.hid (named_is fs flt _ (wr.alloc (.cells #[.bool dest, .string flt, .int .u32 aim] 57)) (HF.out.below HB1.out))
        clear hc
        go_wp2_with fail
        go_at_call 31
        (with_reducible refine HN.out.mono ?_)
        rintro e w1 ⟨nm1, p1, n1, c1', b1, rfl, hb1, hor⟩
        have HB2 := Lib.hid (Below.step HB1.out hb1)
        clear hb1 HN
        rcases hor with ⟨rfl, ho⟩ | ⟨rfl, l, ho, hr1⟩
        · have HE := Lib.hid (ckWs_at HL.out HA.out HS.out (ckS_none ho) (by decide))
          clear ho
          go_wp2_with fail
          go_ret
          exact ⟨ret_int HE.out.symm, HB2.out.alloc HB2.out.size _⟩
        · obtain ⟨q, hq⟩ : ∃ q, ckF l = q := ⟨_, rfl⟩
          have hks := (ckS_some ho).trans hq
          have HKS := Lib.hid hks
          have HRA := Lib.hid (hr1.below ((Below.refl _ w1).alloc (Nat.le_refl _) (.cells #[.string nm1, .slice p1 n1 c1'] 24)))
          have HC := Lib.hid (hq ▸ check_f nm1 _ l _ HRA.out)
          have HB3 := Lib.hid (HB2.out.alloc HB2.out.size (.cells #[.string nm1, .slice p1 n1 c1'] 24))
          have hq2 := ckF_two l
          rw [hq] at hq2
          clear hks hq ho hr1
          rcases hq2 with rfl | rfl
          · go_wp2_with (go_at_call 6; (with_reducible refine HC.out.mono ?_); rintro e w2 ⟨rfl, hb2⟩; have HB4 := Lib.hid (Below.step HB3.out hb2); clear hb2)
            go_roundw
            case rel => exact ⟨k + 1, by omega, by go_num, Lib.hid (step_lt HA.out HS.out HKS.out), HB4.out⟩
            case measure => simp [intOf]; omega
          · have HE := Lib.hid (ckWs_at HL.out HA.out HS.out HKS.out (by decide))
            go_wp2_with (go_at_call 6; (with_reducible refine HC.out.mono ?_); rintro e w2 ⟨rfl, hb2⟩; have HB4 := Lib.hid (Below.step HB3.out hb2); clear hb2)
            go_ret
            exact ⟨ret_int HE.out.symm, HB4.out⟩
      · have HE := Lib.hid (ckWs_ok (fs := fs) HL.out (all_lt HA.out hlt))
        go_wp2
        go_ret
        exact ⟨ret_int HE.out.symm, HW.out⟩
set_option maxHeartbeats 2000000 in
theorem rchk_is (ws : List RewD) (fs : List FilD) (v u : Value) (w : World) (hr : RdK encW 3 w v ws) (hf : RdF w u fs) : Calls Try.prog 20 #[v, u] w fun e w' => e = .returned (.int .i64 (ckWs ws fs)) ∧ Below w.heap.size w w' := by
  obtain ⟨p, c, rfl, hlc, hcm, hp⟩ := hr.sl
  obtain ⟨up, uc, rfl, hulc, hucm, hup⟩ := hf.rd.sl
  have HP := Lib.hid hp
  have HUP := Lib.hid hup
  have HF := Lib.hid hf
  clear hp hr hf hup
  unfold maxLen at hcm hucm
  by_cases hlong : 256 < ws.length
  · have HE := Lib.hid (ckWs_long (fs := fs) hlong)
    go_enter Try.func20, Try.ntmps20
    go_wp2
    go_ret
    exact ⟨ret_int HE.out.symm, Below.refl _ _⟩
  · have HL := Lib.hid hlong
    go_enter Try.func20, Try.ntmps20
    go_wp2
    go_loopw [5] (fun i wr => ∃ k : Nat, k ≤ ws.length ∧ i = .int .i64 k ∧ Hid (∀ (i : Nat) (r : RewD), i < k → ws[i]? = some r → ckS fs r.flt = 0) ∧ Below w.heap.size w wr) (fun i _ => ws.length - (intOf i).toNat)
    case atStart => exact ⟨0, Nat.zero_le _, rfl, Lib.hid (fun i r h => by omega), Below.refl _ _⟩
    case round =>
      obtain ⟨k, hk, rfl, HA, hbw⟩ := hrel
      have HW := Lib.hid hbw
      clear hbw
      by_cases hlt : k < ws.length
      · obtain ⟨r, hs⟩ : ∃ r, ws[k]? = some r := ⟨_, List.getElem?_eq_getElem hlt⟩
        obtain ⟨b, o, rfl, hbs, hc⟩ := HP.out k r hs
        have hc := hc wr HW.out
        have e1 : (0 : Int) ≤ (k : Int) := by omega
        have e2 : (k : Int) < (ws.length : Int) := by omega
        have HS := Lib.hid hs
        have hz := HW.out.size
        clear hs
        obtain ⟨dest, flt, aim⟩ := r
        simp only [encW] at hc
        have c1 : wr.cell? ⟨b, o + k * 3 + 1, none⟩ = some (.string flt) := hc 1 _ rfl
        clear hc
        obtain ⟨q, hq⟩ : ∃ q, sEq flt ⟨#[]⟩ = q := ⟨_, rfl⟩
        have HQ := Lib.hid hq
        have hqq : (flt.toList == (⟨#[]⟩ : ByteArray).toList) = q := hq
        have hqe : (flt.toList == []) = q := by rw [← hqq, show (⟨#[]⟩ : ByteArray).toList = [] by decide +kernel]
        clear hq
        cases q with
        | true =>
          go_wp2
          go_roundw
          case rel => exact ⟨k + 1, by omega, by go_num, Lib.hid (step_lt HA.out HS.out (ckS_empty HQ.out)), HW.out⟩
          case measure => simp [intOf]; omega
        | false =>
          cases hno : nmO fs flt with
          | none =>
            have hI : nmI fs flt = -1 := by unfold nmI; rw [hno]
            have HN := Lib.hid (hI ▸ rnamed_is fs flt _ wr (HF.out.below HW.out))
            have HE := Lib.hid (ckWs_at HL.out HA.out HS.out (ckS_none (rulesO_none HQ.out hno)) (by decide))
            clear hno hI
            go_wp2_with (go_at_call 32; (with_reducible refine HN.out.mono ?_); rintro e w2 ⟨rfl, hb2⟩; have HB2 := Lib.hid (Below.step HW.out hb2); clear hb2)
            go_ret
            exact ⟨ret_int HE.out.symm, HB2.out⟩
          | some m =>
            have hI : nmI fs flt = m := by unfold nmI; rw [hno]
            have HN := Lib.hid (hI ▸ rnamed_is fs flt _ wr (HF.out.below HW.out))
            obtain ⟨f, hfm⟩ := nmO_at hno
            have hmlt := (List.getElem?_eq_some_iff.1 hfm).1
            obtain ⟨fb, fo, hup2, hfb, hfc⟩ := HUP.out m f hfm
            subst hup2
            have hro := HF.out.ok f (List.mem_of_getElem? hfm)
            have hks := ckS_some (rulesO_some HQ.out hno hfm)
            obtain ⟨fn, fv, fl⟩ := f
            simp only [encF] at hfc hks hro
            obtain ⟨fp, fc, rfl⟩ := hro.1.slice
            have HFC := Lib.hid hfc
            obtain ⟨q2, hq2⟩ : ∃ q, ckF fl = q := ⟨_, rfl⟩
            have HRO := Lib.hid hro.1
            have HC : Hid (∀ W, Below w.heap.size w W → Calls Try.prog 5 #[.agg #[.string fn, .slice fp fl.length fc]] W fun e w' => e = .returned (.int .i64 q2) ∧ Below W.heap.size W w') := Lib.hid fun W hb => by rw [← hq2]; exact rcheck_f fn _ fl W (HRO.out.below hb)
            have hk2 := ckF_two fl
            rw [hq2] at hk2 hks
            have HKS := Lib.hid hks
            have m1 : (0 : Int) ≤ (m : Int) := by omega
            have m2 : (m : Int) < (fs.length : Int) := by omega
            have m3 : ¬ (m : Int) < 0 := by omega
            clear hno hI hfm hfc hro hks hq2
            rcases hk2 with rfl | rfl
            · go_wp2_with (go_at_call 32; (with_reducible refine HN.out.mono ?_); rintro e w2 ⟨rfl, hb2⟩; have HB2 := Lib.hid (Below.step HW.out hb2); have d0 := HFC.out w2 HB2.out 0 _ rfl; have d1 := HFC.out w2 HB2.out 1 _ rfl; simp only [Nat.add_zero] at d0; clear hb2)
              go_at_call 5
              (with_reducible refine (HC.out _ HB2.out).mono ?_)
              rintro e w3 ⟨rfl, hb3⟩
              have HB3 := Lib.hid (Below.step HB2.out hb3)
              clear hb3
              go_wp2
              go_roundw
              case rel => exact ⟨k + 1, by omega, by go_num, Lib.hid (step_lt HA.out HS.out HKS.out), HB3.out⟩
              case measure => simp [intOf]; omega
            · have HE := Lib.hid (ckWs_at HL.out HA.out HS.out HKS.out (by decide))
              go_wp2_with (go_at_call 32; (with_reducible refine HN.out.mono ?_); rintro e w2 ⟨rfl, hb2⟩; have HB2 := Lib.hid (Below.step HW.out hb2); have d0 := HFC.out w2 HB2.out 0 _ rfl; have d1 := HFC.out w2 HB2.out 1 _ rfl; simp only [Nat.add_zero] at d0; clear hb2)
              go_at_call 5
              (with_reducible refine (HC.out _ HB2.out).mono ?_)
              rintro e w3 ⟨rfl, hb3⟩
              have HB3 := Lib.hid (Below.step HB2.out hb3)
              clear hb3
              go_wp2
              go_ret
              exact ⟨ret_int HE.out.symm, HB3.out⟩
      · have HE := Lib.hid (ckWs_ok (fs := fs) HL.out (all_lt HA.out hlt))
        go_wp2
        go_ret
        exact ⟨ret_int HE.out.symm, HW.out⟩
end Go.Proofs.Ythooiigdembgcaa
