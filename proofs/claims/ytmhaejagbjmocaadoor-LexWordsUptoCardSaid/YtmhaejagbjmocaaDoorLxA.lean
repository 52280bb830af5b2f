/- Numbers: what Number of package lex, and big and Number of package waymarkref07, hand back. Conditions: the variables ErrSyntax and ErrRange of package strconv hold errors, the table of powers of ten is what its text says; texts of at most 2^48 bytes. -/
import Derived.Test.YtmhaejagbjmocaaDoorLxM
import Derived.Test.YtmhaejagbjmocaaDoorRText
import Derived.Lib.AtoiErrMem
namespace Go.Proofs.YtmhaejagbjmocaaDoor
open Go.RowKit
/-- The variables ErrSyntax and ErrRange of package strconv hold something. -/
def ErrV (w : World) : Prop := (∃ te pe, w.cell? ⟨0, 0, none⟩ = some (.iface te pe)) ∧ (∃ te pe, w.cell? ⟨1, 0, none⟩ = some (.iface te pe))
theorem ErrV.on {w w' : World} (h : ErrV w) (hb : Below w.heap.size w w') : ErrV w' := by
  obtain ⟨⟨a, b, h1⟩, c, d, h2⟩ := h
  exact ⟨⟨a, b, (hb.cell (p := ⟨_, _, none⟩) (block_lt_of_cell h1)).trans h1⟩, c, d, (hb.cell (p := ⟨_, _, none⟩) (block_lt_of_cell h2)).trans h2⟩
/-- What Atoi hands back: a number, or 0 or the like and an error that is not nil. -/
def AtPost (l : List UInt8) (w : World) (e : Ending) (w' : World) : Prop := Below w.heap.size w w' ∧ ((∃ v, Lib.atoiAll l = .ok v ∧ e = .returned (.tuple #[.int .i64 v, .nilIface])) ∨ ((∀ v, Lib.atoiAll l ≠ .ok v) ∧ ∃ x t p, e = .returned (.tuple #[.int .i64 x, .iface t p])))
theorem atoi_is (s : ByteArray) (hs : s.size ≤ 281474976710656) (w : World) (hE : ErrV w) : Calls Tryd.prog 8 #[.string s] w (AtPost s.data.toList w) := by
  obtain ⟨⟨ts, ps, h1⟩, tr, pr, h2⟩ := hE
  cases h : Lib.atoiAll s.data.toList
  · rename_i v
    refine (Tryd.strconv_Atoi_ok s (by omega) v h w).mono fun e w' ⟨he, hw⟩ => ⟨?_, .inl ⟨v, h, he⟩⟩
    rcases hw with rfl | ⟨t, rfl⟩
    · exact Below.refl _ _
    · exact Lib.bytesWorld_below _ _ _
  · exact (Tryd.strconv_Atoi_syntax s hs h _ w h1 (.inr ⟨ts, ps, rfl⟩)).mono fun e w' ⟨N, he, _, _, hb⟩ => ⟨hb, .inr ⟨fun u hu => (by rw [h] at hu; cases hu), _, _, _, he⟩⟩
  · exact (Tryd.strconv_Atoi_range s hs h _ w h2 (.inr ⟨tr, pr, rfl⟩)).mono fun e w' ⟨N, he, _, _, hb⟩ => ⟨hb, .inr ⟨fun u hu => (by rw [h] at hu; cases hu), _, _, _, he⟩⟩
theorem same_list (l : List UInt8) (s : ByteArray) : (l == s.toList) = decide (l = s.data.toList) := by
  rw [Lib.toList_data, Bool.eq_iff_iff]
  simp
set_option maxRecDepth 100000 in
set_option maxHeartbeats 4000000 in
theorem number_is (s : ByteArray) (most : Int) (hs : s.size ≤ 281474976710656) (w : World) (hE : ErrV w) (hT : Tab10 w) :
    Calls Tryd.prog 4 #[.string s, .int .i64 most] w fun e w' => e = .returned (NVal (numOf s.data.toList most)) ∧ Below w.heap.size w w' := by
  have HA := Lib.hid (atoi_is s hs w hE)
  have HT := Lib.hid hT
  clear hE hT
  go_enter Tryd.func4, Tryd.ntmps4
  go_wp2_with fail
  go_at_call 8
  refine HA.out.mono ?_
  rintro e w1 ⟨hb1, hc⟩
  rcases hc with ⟨v, hv, rfl⟩ | ⟨hno, x, t, p, rfl⟩
  · by_cases h0 : v < 0
    · have H := Lib.hid (numOf_no (most := most) hv (.inl h0))
      clear hv
      go_wp2_with fail
      go_ret2
      exact ⟨nv_none H.out, hb1⟩
    · have h0' : 0 ≤ v := by omega
      by_cases h1 : most < v
      · have H := Lib.hid (numOf_no (most := most) hv (.inr (.inl h1)))
        clear hv
        go_wp2_with fail
        go_ret2
        exact ⟨nv_none H.out, hb1⟩
      · have hbd := Lib.atoiAll_bounds hv
        have HI : Hid (Calls Tryd.prog 9 #[.int .i64 v] w1 fun e w' => e = .returned (.string ⟨(Lib.itoa v).toArray⟩) ∧ Below w1.heap.size w1 w') := Lib.hid (itoa_is v w1 hbd.1 hbd.2 (HT.out.on hb1))
        have hsl := same_list (Lib.itoa v) s
        have hd0 : decide (v < 0) = false := by simp; omega
        have hd1 : decide (most < v) = false := by simp; omega
        by_cases h2 : Lib.itoa v = s.data.toList
        · have H := Lib.hid (numOf_yes (most := most) hv h0' (by omega) h2)
          rw [decide_eq_true h2] at hsl
          have hv2 : ((v.toNat : Nat) : Int) = v := Int.toNat_of_nonneg h0'
          have HV := Lib.hid hv2
          clear hv h2 hbd hv2
          go_wp2_with (go_at_call 9; (refine HI.out.mono ?_); rintro e w2 ⟨rfl, hb2⟩)
          go_ret2
          exact ⟨nv_some H.out HV.out.symm, Below.step hb1 hb2⟩
        · have H := Lib.hid (numOf_no (most := most) hv (.inr (.inr h2)))
          rw [decide_eq_false h2] at hsl
          clear hv h2 hbd
          go_wp2_with (go_at_call 9; (refine HI.out.mono ?_); rintro e w2 ⟨rfl, hb2⟩)
          go_ret2
          exact ⟨nv_none H.out, Below.step hb1 hb2⟩
  · have H := Lib.hid (numOf_err (most := most) hno)
    clear hno
    go_wp2_with fail
    go_ret2
    exact ⟨nv_none H.out, hb1⟩
theorem max_num (w : World) : Calls Tryd.prog 16 #[.int .i64 9223372036854775807] w fun e w' => e = .returned (.string ⟨maxL.toArray⟩) ∧ Below w.heap.size w w' := by
  have h := rnumber_is 9223372036854775807 w (by omega) (by omega)
  have e : Lib.itoa 9223372036854775807 = maxL := by
    unfold Lib.itoa
    rw [if_neg (by omega)]
    exact maxL_dec
  rwa [e] at h
/-- How far the digits have been read. -/
def DigRel (s : ByteArray) (k : Nat) (v : Int) : Prop := v = (val (s.data.toList.take k) 0 : Int) ∧ ((s.data.toList.take k).all dig) = true
theorem take_lt {l : List UInt8} {k : Nat} (hk : k ≤ l.length) (h : (l.take k).all dig = true) : val (l.take k) 0 < 10 ^ k := by
  have := val_lt10 (l.take k) h
  rwa [List.length_take, Nat.min_eq_left hk] at this
set_option maxRecDepth 100000 in
set_option maxHeartbeats 8000000 in
theorem big_is (s : ByteArray) (most : Int) (hbig : 18 < s.size ∨ s.size = 0 ∨ lead s.data.toList = true) (hs : s.size ≤ 281474976710656) (w : World) :
    Calls Tryd.prog 10 #[.string s, .int .i64 most] w fun e w' => e = .returned (NVal (numOf s.data.toList most)) ∧ Below w.heap.size w w' := by
  by_cases h19 : s.size = 19
  · have hpos : 0 < s.size := by omega
    have hlen : s.data.toList.length = 19 := by rw [str_toList]; exact h19
    have hsz : ((s.size : Int) == 19) = true := by simp; omega
    have hnsz : ((s.size : Int) != 19) = false := by simp; omega
    by_cases h48 : (s[0]'hpos) = 48
    · have H : Hid (numOf s.data.toList most = none) := Lib.hid (numOf_lead (by unfold lead; rw [head_at s hpos, h48, hlen]; rfl))
      have hl2 : (((s[0]'hpos).toNat : Int) == 48) = true := by rw [h48]; rfl
      clear h48
      go_enter Tryd.func10, Tryd.ntmps10
      go_wp2_with fail
      go_ret2
      exact ⟨nv_none H.out, Below.refl _ _⟩
    · have hl2 : (((s[0]'hpos).toNat : Int) == 48) = false := by
        simp only [beq_eq_false_iff_ne, ne_eq]
        exact fun h => h48 (UInt8.toNat_inj.mp (by have h48 : (48 : UInt8).toNat = 48 := rfl; omega))
      have HLEAD : Hid (lead s.data.toList = false) := Lib.hid (by
        unfold lead
        rw [head_at s hpos]
        simp [h48])
      have HNE : Hid (s.data.toList ≠ []) := Lib.hid (fun h => by rw [h] at hlen; simp at hlen)
      have HM := Lib.hid max_num
      obtain ⟨B1, hB1⟩ : ∃ B, Op.bytesLess s.data.toList maxL = B := ⟨_, rfl⟩
      obtain ⟨B2, hB2⟩ : ∃ B, (s.data.toList == maxL) = B := ⟨_, rfl⟩
      have hc1 : Op.bytesLess s.toList maxL = B1 := by rw [Lib.toList_data]; exact hB1
      have hc2 : (s.toList == maxL) = B2 := by rw [Lib.toList_data]; exact hB2
      have hmax : (B1 || B2) = true → ∀ k, k ≤ 19 → ((s.data.toList.take k).all dig) = true → val (s.data.toList.take k) 0 ≤ 9223372036854775807 := fun hB k hk ha => by
        by_cases hk18 : k ≤ 18
        · have h := take_lt (by omega) ha
          have h2 : 10 ^ k ≤ 10 ^ 18 := Nat.pow_le_pow_right (by omega) hk18
          omega
        · have e : s.data.toList.take k = s.data.toList := List.take_of_length_le (by omega)
          rw [e] at ha ⊢
          exact val_19 hlen ha (by rw [hB1, hB2]; exact hB)
      have hno : (B1 || B2) = false → numOf s.data.toList most = none := fun hB => numOf_big hlen (by rw [hB1, hB2]; exact hB)
      have HMX := Lib.hid hmax
      have HNO := Lib.hid hno
      clear hmax hno hB1 hB2 h48 hlen
      cases B1 with
      | false =>
        cases B2 with
        | false =>
          have H := Lib.hid (HNO.out rfl)
          go_enter Tryd.func10, Tryd.ntmps10
          go_wp2_with (go_at_call 16; (with_reducible refine (HM.out _).mono ?_); rintro e w1 ⟨rfl, hb1⟩)
          go_ret2
          exact ⟨nv_none H.out, hb1⟩
        | true =>
          have HMAX := Lib.hid (HMX.out rfl)
          go_enter Tryd.func10, Tryd.ntmps10
          go_wp2_with (go_at_call 16; (with_reducible refine (HM.out _).mono ?_); rintro e w1 ⟨rfl, hb1⟩)
          have HBE := Lib.hid hb1
          go_loop [6, 7] (fun s6 s7 => ∃ (k : Nat) (v : Int), k ≤ 19 ∧ s7 = .int .i64 k ∧ s6 = .int .i64 v ∧ Hid (DigRel s k v)) (fun _ s7 => 19 - (intOf s7).toNat)
          case atStart => exact ⟨0, 0, by omega, rfl, rfl, Lib.hid ⟨by simp [val], by simp⟩⟩
          case round =>
            obtain ⟨k, v, hk, rfl, rfl, HD⟩ := hrel
            by_cases hlt : k < 19
            · have hlts : k < s.size := by omega
              have hkl : k < s.data.toList.length := by rw [str_toList]; exact hlts
              have hget := get_at s k hlts hkl
              have hb := (s[k]'hlts).toNat_lt
              have hk19 : (k : Int) < 19 := by omega
              by_cases hd1 : (s[k]'hlts).toNat < 48
              · have H : Hid (numOf s.data.toList most = none) := Lib.hid (numOf_nodig hkl (by rw [hget]; simp [dig]; omega))
                clear hget hb
                go_wp2_with fail
                go_ret2
                exact ⟨nv_none H.out, HBE.out⟩
              · by_cases hd2 : 57 < (s[k]'hlts).toNat
                · have H : Hid (numOf s.data.toList most = none) := Lib.hid (numOf_nodig hkl (by rw [hget]; simp [dig]; omega))
                  clear hget hb
                  go_wp2_with fail
                  go_ret2
                  exact ⟨nv_none H.out, HBE.out⟩
                · have hw : IntKind.u8.wrap (((s[k]'hlts).toNat : Int) - 48) = ((s[k]'hlts).toNat : Int) - 48 := by rw [IntKind.wrap_u8']; omega
                  have hda : dig (s.data.toList[k]) = true := by rw [hget]; simp [dig]; omega
                  have hall : ((s.data.toList.take (k + 1)).all dig) = true := by rw [all_take _ _ hkl, HD.out.2, hda]; rfl
                  have hval := val_take s.data.toList k hkl
                  rw [hget] at hval
                  have hv0 : 0 ≤ v := by rw [HD.out.1]; omega
                  have hle : val (s.data.toList.take (k + 1)) 0 ≤ 9223372036854775807 := HMAX.out (k + 1) (by omega) hall
                  have hv1 : 10 * v + (((s[k]'hlts).toNat : Int) - 48) ≤ 9223372036854775807 := by rw [HD.out.1]; omega
                  have hv2 : 10 * v ≤ 9223372036854775807 := by omega
                  have HD2 : Hid (DigRel s (k + 1) (10 * v + (((s[k]'hlts).toNat : Int) - 48))) := Lib.hid ⟨by rw [hval, HD.out.1]; omega, hall⟩
                  clear hget hda hall hval hle
                  go_wp2_with fail
                  go_round
                  case rel => exact ⟨k + 1, _, by omega, by go_num, by go_num, HD2⟩
                  case measure => first | (simp [intOf]; done) | (simp [intOf]; omega)
            · obtain rfl : k = 19 := by omega
              have hfull : s.data.toList.take 19 = s.data.toList := List.take_of_length_le (by rw [str_toList]; omega)
              have hall := HD.out.2
              have hvv := HD.out.1
              rw [hfull] at hall hvv
              have hle : val s.data.toList 0 ≤ 9223372036854775807 := by have := HMAX.out 19 (by omega) (by rw [hfull]; exact hall); rwa [hfull] at this
              have hnum := numOf_val (most := most) HNE.out HLEAD.out hall hle
              rw [← hvv] at hnum
              by_cases hm : most < v
              · have H : Hid (numOf s.data.toList most = none) := Lib.hid (by rw [hnum, if_pos hm])
                clear hlt hfull hall hvv hle hnum
                go_wp2_with fail
                go_ret2
                exact ⟨nv_none H.out, HBE.out⟩
              · have H : Hid (numOf s.data.toList most = some (val s.data.toList 0)) := Lib.hid (by rw [hnum, if_neg hm])
                have HV := Lib.hid hvv
                clear hlt hfull hall hvv hle hnum
                go_wp2_with fail
                go_ret2
                exact ⟨nv_some H.out HV.out, HBE.out⟩
      | true =>
        have HMAX := Lib.hid (HMX.out rfl)
        go_enter Tryd.func10, Tryd.ntmps10
        go_wp2_with (go_at_call 16; (with_reducible refine (HM.out _).mono ?_); rintro e w1 ⟨rfl, hb1⟩)
        have HBE := Lib.hid hb1
        go_loop [6, 7] (fun s6 s7 => ∃ (k : Nat) (v : Int), k ≤ 19 ∧ s7 = .int .i64 k ∧ s6 = .int .i64 v ∧ Hid (DigRel s k v)) (fun _ s7 => 19 - (intOf s7).toNat)
        case atStart => exact ⟨0, 0, by omega, rfl, rfl, Lib.hid ⟨by simp [val], by simp⟩⟩
        case round =>
          obtain ⟨k, v, hk, rfl, rfl, HD⟩ := hrel
          by_cases hlt : k < 19
          · have hlts : k < s.size := by omega
            have hkl : k < s.data.toList.length := by rw [str_toList]; exact hlts
            have hget := get_at s k hlts hkl
            have hb := (s[k]'hlts).toNat_lt
            have hk19 : (k : Int) < 19 := by omega
            by_cases hd1 : (s[k]'hlts).toNat < 48
            · have H : Hid (numOf s.data.toList most = none) := Lib.hid (numOf_nodig hkl (by rw [hget]; simp [dig]; omega))
              clear hget hb
              go_wp2_with fail
              go_ret2
              exact ⟨nv_none H.out, HBE.out⟩
            · by_cases hd2 : 57 < (s[k]'hlts).toNat
              · have H : Hid (numOf s.data.toList most = none) := Lib.hid (numOf_nodig hkl (by rw [hget]; simp [dig]; omega))
                clear hget hb
                go_wp2_with fail
                go_ret2
                exact ⟨nv_none H.out, HBE.out⟩
              · have hw : IntKind.u8.wrap (((s[k]'hlts).toNat : Int) - 48) = ((s[k]'hlts).toNat : Int) - 48 := by rw [IntKind.wrap_u8']; omega
                have hda : dig (s.data.toList[k]) = true := by rw [hget]; simp [dig]; omega
                have hall : ((s.data.toList.take (k + 1)).all dig) = true := by rw [all_take _ _ hkl, HD.out.2, hda]; rfl
                have hval := val_take s.data.toList k hkl
                rw [hget] at hval
                have hv0 : 0 ≤ v := by rw [HD.out.1]; omega
                have hle : val (s.data.toList.take (k + 1)) 0 ≤ 9223372036854775807 := HMAX.out (k + 1) (by omega) hall
                have hv1 : 10 * v + (((s[k]'hlts).toNat : Int) - 48) ≤ 9223372036854775807 := by rw [HD.out.1]; omega
                have hv2 : 10 * v ≤ 9223372036854775807 := by omega
                have HD2 : Hid (DigRel s (k + 1) (10 * v + (((s[k]'hlts).toNat : Int) - 48))) := Lib.hid ⟨by rw [hval, HD.out.1]; omega, hall⟩
                clear hget hda hall hval hle
                go_wp2_with fail
                go_round
                case rel => exact ⟨k + 1, _, by omega, by go_num, by go_num, HD2⟩
                case measure => first | (simp [intOf]; done) | (simp [intOf]; omega)
          · obtain rfl : k = 19 := by omega
            have hfull : s.data.toList.take 19 = s.data.toList := List.take_of_length_le (by rw [str_toList]; omega)
            have hall := HD.out.2
            have hvv := HD.out.1
            rw [hfull] at hall hvv
            have hle : val s.data.toList 0 ≤ 9223372036854775807 := by have := HMAX.out 19 (by omega) (by rw [hfull]; exact hall); rwa [hfull] at this
            have hnum := numOf_val (most := most) HNE.out HLEAD.out hall hle
            rw [← hvv] at hnum
            by_cases hm : most < v
            · have H : Hid (numOf s.data.toList most = none) := Lib.hid (by rw [hnum, if_pos hm])
              clear hlt hfull hall hvv hle hnum
              go_wp2_with fail
              go_ret2
              exact ⟨nv_none H.out, HBE.out⟩
            · have H : Hid (numOf s.data.toList most = some (val s.data.toList 0)) := Lib.hid (by rw [hnum, if_neg hm])
              have HV := Lib.hid hvv
              clear hlt hfull hall hvv hle hnum
              go_wp2_with fail
              go_ret2
              exact ⟨nv_some H.out HV.out, HBE.out⟩
  · have hnsz : ((s.size : Int) != 19) = true := by simp; omega
    have H : Hid (numOf s.data.toList most = none) := Lib.hid (by
      rcases hbig with h | h | h
      · exact numOf_long (by rw [str_toList]; omega)
      · have e : s.data.toList = [] := List.eq_nil_of_length_eq_zero (by rw [str_toList]; exact h)
        rw [e]; exact numOf_nil
      · exact numOf_lead h)
    clear hbig
    go_enter Tryd.func10, Tryd.ntmps10
    go_wp2_with fail
    go_ret2
    exact ⟨nv_none H.out, Below.refl _ _⟩
set_option maxRecDepth 100000 in
set_option maxHeartbeats 8000000 in
theorem rnum_loop (s : ByteArray) (most : Int) (h18 : s.size ≤ 18) (hpos : 0 < s.size) (hE : s.toList.isEmpty = false) (hl : lead s.data.toList = false)
    (hlead : s.size ≤ 1 ∨ (1 < s.size ∧ (((s[0]'hpos).toNat : Int) == 48) = false)) (w : World) :
    Calls Tryd.prog 5 #[.string s, .int .i64 most] w fun e w' => e = .returned (NVal (numOf s.data.toList most)) ∧ Below w.heap.size w w' := by
  have HLEAD := Lib.hid hl
  have HNE : Hid (s.data.toList ≠ []) := Lib.hid (fun h => by have := str_toList s; rw [h] at this; simp at this; omega)
  have HMAX : Hid (∀ k, k ≤ s.size → ((s.data.toList.take k).all dig) = true → val (s.data.toList.take k) 0 ≤ 9223372036854775807) := Lib.hid fun k hk ha => by
    have h := take_lt (by rw [str_toList]; exact hk) ha
    have h2 : 10 ^ k ≤ 10 ^ 18 := Nat.pow_le_pow_right (by omega) (by omega)
    omega
  have HBE := Lib.hid (Below.refl w.heap.size w)
  have hd : decide ((18 : Int) < (s.size : Int)) = false := by simp; omega
  clear hl
  rcases hlead with h1 | ⟨h1, hl2⟩
  · have hd1 : decide ((1 : Int) < (s.size : Int)) = false := by simp; omega
    go_enter Tryd.func5, Tryd.ntmps5
    go_wp2_with fail
    go_loop [6, 7] (fun s6 s7 => ∃ (k : Nat) (v : Int), k ≤ s.size ∧ s7 = .int .i64 k ∧ s6 = .int .i64 v ∧ Hid (DigRel s k v)) (fun _ s7 => s.size - (intOf s7).toNat)
    case atStart => exact ⟨0, 0, by omega, rfl, rfl, Lib.hid ⟨by simp [val], by simp⟩⟩
    case round =>
      obtain ⟨k, v, hk, rfl, rfl, HD⟩ := hrel
      by_cases hlt : k < s.size
      · have hlts : k < s.size := by omega
        have hkl : k < s.data.toList.length := by rw [str_toList]; exact hlts
        have hget := get_at s k hlts hkl
        have hb := (s[k]'hlts).toNat_lt
        have hk19 : (k : Int) < (s.size : Int) := by omega
        by_cases hd1 : (s[k]'hlts).toNat < 48
        · have H : Hid (numOf s.data.toList most = none) := Lib.hid (numOf_nodig hkl (by rw [hget]; simp [dig]; omega))
          clear hget hb
          go_wp2_with fail
          go_ret2
          exact ⟨nv_none H.out, HBE.out⟩
        · by_cases hd2 : 57 < (s[k]'hlts).toNat
          · have H : Hid (numOf s.data.toList most = none) := Lib.hid (numOf_nodig hkl (by rw [hget]; simp [dig]; omega))
            clear hget hb
            go_wp2_with fail
            go_ret2
            exact ⟨nv_none H.out, HBE.out⟩
          · have hw : IntKind.u8.wrap (((s[k]'hlts).toNat : Int) - 48) = ((s[k]'hlts).toNat : Int) - 48 := by rw [IntKind.wrap_u8']; omega
            have hda : dig (s.data.toList[k]) = true := by rw [hget]; simp [dig]; omega
            have hall : ((s.data.toList.take (k + 1)).all dig) = true := by rw [all_take _ _ hkl, HD.out.2, hda]; rfl
            have hval := val_take s.data.toList k hkl
            rw [hget] at hval
            have hv0 : 0 ≤ v := by rw [HD.out.1]; omega
            have hle : val (s.data.toList.take (k + 1)) 0 ≤ 9223372036854775807 := HMAX.out (k + 1) (by omega) hall
            have hv1 : 10 * v + (((s[k]'hlts).toNat : Int) - 48) ≤ 9223372036854775807 := by rw [HD.out.1]; omega
            have hv2 : 10 * v ≤ 9223372036854775807 := by omega
            have HD2 : Hid (DigRel s (k + 1) (10 * v + (((s[k]'hlts).toNat : Int) - 48))) := Lib.hid ⟨by rw [hval, HD.out.1]; omega, hall⟩
            clear hget hda hall hval hle
            go_wp2_with fail
            go_round
            case rel => exact ⟨k + 1, _, by omega, by go_num, by go_num, HD2⟩
            case measure => first | (simp [intOf]; done) | (simp [intOf]; omega)
      · obtain rfl : k = s.size := by omega
        have hfull : s.data.toList.take s.size = s.data.toList := List.take_of_length_le (by rw [str_toList]; omega)
        have hall := HD.out.2
        have hvv := HD.out.1
        rw [hfull] at hall hvv
        have hle : val s.data.toList 0 ≤ 9223372036854775807 := by have := HMAX.out s.size (by omega) (by rw [hfull]; exact hall); rwa [hfull] at this
        have hnum := numOf_val (most := most) HNE.out HLEAD.out hall hle
        rw [← hvv] at hnum
        by_cases hm : most < v
        · have H : Hid (numOf s.data.toList most = none) := Lib.hid (by rw [hnum, if_pos hm])
          clear hlt hfull hall hvv hle hnum
          go_wp2_with fail
          go_ret2
          exact ⟨nv_none H.out, HBE.out⟩
        · have H : Hid (numOf s.data.toList most = some (val s.data.toList 0)) := Lib.hid (by rw [hnum, if_neg hm])
          have HV := Lib.hid hvv
          clear hlt hfull hall hvv hle hnum
          go_wp2_with fail
          go_ret2
          exact ⟨nv_some H.out HV.out, HBE.out⟩
  · have hd1 : decide ((1 : Int) < (s.size : Int)) = true := by simp; omega
    go_enter Tryd.func5, Tryd.ntmps5
    go_wp2_with fail
    go_loop [6, 7] (fun s6 s7 => ∃ (k : Nat) (v : Int), k ≤ s.size ∧ s7 = .int .i64 k ∧ s6 = .int .i64 v ∧ Hid (DigRel s k v)) (fun _ s7 => s.size - (intOf s7).toNat)
    case atStart => exact ⟨0, 0, by omega, rfl, rfl, Lib.hid ⟨by simp [val], by simp⟩⟩
    case round =>
      obtain ⟨k, v, hk, rfl, rfl, HD⟩ := hrel
      by_cases hlt : k < s.size
      · have hlts : k < s.size := by omega
        have hkl : k < s.data.toList.length := by rw [str_toList]; exact hlts
        have hget := get_at s k hlts hkl
        have hb := (s[k]'hlts).toNat_lt
        have hk19 : (k : Int) < (s.size : Int) := by omega
        by_cases hd1 : (s[k]'hlts).toNat < 48
        · have H : Hid (numOf s.data.toList most = none) := Lib.hid (numOf_nodig hkl (by rw [hget]; simp [dig]; omega))
          clear hget hb
          go_wp2_with fail
          go_ret2
          exact ⟨nv_none H.out, HBE.out⟩
        · by_cases hd2 : 57 < (s[k]'hlts).toNat
          · have H : Hid (numOf s.data.toList most = none) := Lib.hid (numOf_nodig hkl (by rw [hget]; simp [dig]; omega))
            clear hget hb
            go_wp2_with fail
            go_ret2
            exact ⟨nv_none H.out, HBE.out⟩
          · have hw : IntKind.u8.wrap (((s[k]'hlts).toNat : Int) - 48) = ((s[k]'hlts).toNat : Int) - 48 := by rw [IntKind.wrap_u8']; omega
            have hda : dig (s.data.toList[k]) = true := by rw [hget]; simp [dig]; omega
            have hall : ((s.data.toList.take (k + 1)).all dig) = true := by rw [all_take _ _ hkl, HD.out.2, hda]; rfl
            have hval := val_take s.data.toList k hkl
            rw [hget] at hval
            have hv0 : 0 ≤ v := by rw [HD.out.1]; omega
            have hle : val (s.data.toList.take (k + 1)) 0 ≤ 9223372036854775807 := HMAX.out (k + 1) (by omega) hall
            have hv1 : 10 * v + (((s[k]'hlts).toNat : Int) - 48) ≤ 9223372036854775807 := by rw [HD.out.1]; omega
            have hv2 : 10 * v ≤ 9223372036854775807 := by omega
            have HD2 : Hid (DigRel s (k + 1) (10 * v + (((s[k]'hlts).toNat : Int) - 48))) := Lib.hid ⟨by rw [hval, HD.out.1]; omega, hall⟩
            clear hget hda hall hval hle
            go_wp2_with fail
            go_round
            case rel => exact ⟨k + 1, _, by omega, by go_num, by go_num, HD2⟩
            case measure => first | (simp [intOf]; done) | (simp [intOf]; omega)
      · obtain rfl : k = s.size := by omega
        have hfull : s.data.toList.take s.size = s.data.toList := List.take_of_length_le (by rw [str_toList]; omega)
        have hall := HD.out.2
        have hvv := HD.out.1
        rw [hfull] at hall hvv
        have hle : val s.data.toList 0 ≤ 9223372036854775807 := by have := HMAX.out s.size (by omega) (by rw [hfull]; exact hall); rwa [hfull] at this
        have hnum := numOf_val (most := most) HNE.out HLEAD.out hall hle
        rw [← hvv] at hnum
        by_cases hm : most < v
        · have H : Hid (numOf s.data.toList most = none) := Lib.hid (by rw [hnum, if_pos hm])
          clear hlt hfull hall hvv hle hnum
          go_wp2_with fail
          go_ret2
          exact ⟨nv_none H.out, HBE.out⟩
        · have H : Hid (numOf s.data.toList most = some (val s.data.toList 0)) := Lib.hid (by rw [hnum, if_neg hm])
          have HV := Lib.hid hvv
          clear hlt hfull hall hvv hle hnum
          go_wp2_with fail
          go_ret2
          exact ⟨nv_some H.out HV.out, HBE.out⟩

set_option maxHeartbeats 2000000 in
theorem rnum_is (s : ByteArray) (most : Int) (hs : s.size ≤ 281474976710656) (w : World) :
    Calls Tryd.prog 5 #[.string s, .int .i64 most] w fun e w' => e = .returned (NVal (numOf s.data.toList most)) ∧ Below w.heap.size w w' := by
  by_cases h0 : s.size = 0
  · have e : s.data.toList = [] := List.eq_nil_of_length_eq_zero (by rw [str_toList]; exact h0)
    have hE : s.toList.isEmpty = true := by rw [Lib.toList_data, e]; rfl
    have HB := Lib.hid (big_is s most (.inr (.inl h0)) hs w)
    have hd : decide ((18 : Int) < (s.size : Int)) = false := by simp; omega
    obtain ⟨X, hX⟩ : ∃ X, numOf s.data.toList most = X := ⟨_, rfl⟩
    rw [hX] at HB ⊢
    clear e h0 hX
    go_enter Tryd.func5, Tryd.ntmps5
    unfold NVal at HB
    go_wp2_with (go_at_call 10; (refine HB.out.mono ?_); rintro e w1 ⟨rfl, hb1⟩)
    go_ret2
    exact ⟨rfl, hb1⟩
  · have hpos : 0 < s.size := by omega
    have hne : s.data.toList ≠ [] := fun h => by have := str_toList s; rw [h] at this; simp at this; omega
    have hE : s.toList.isEmpty = false := by rw [Lib.toList_data]; simpa using hne
    by_cases h18 : 18 < s.size
    · have HB := Lib.hid (big_is s most (.inl h18) hs w)
      have hd : decide ((18 : Int) < (s.size : Int)) = true := by simp; omega
      obtain ⟨X, hX⟩ : ∃ X, numOf s.data.toList most = X := ⟨_, rfl⟩
      rw [hX] at HB ⊢
      clear h0 hne hX
      go_enter Tryd.func5, Tryd.ntmps5
      unfold NVal at HB
      go_wp2_with (go_at_call 10; (refine HB.out.mono ?_); rintro e w1 ⟨rfl, hb1⟩)
      go_ret2
      exact ⟨rfl, hb1⟩
    · by_cases h1 : 1 < s.size
      · by_cases h2 : (s[0]'hpos) = 48
        · have hlead : lead s.data.toList = true := by
            unfold lead
            rw [head_at s hpos, h2, str_toList]
            simpa using h1
          have HB := Lib.hid (big_is s most (.inr (.inr hlead)) hs w)
          have hl2 : (((s[0]'hpos).toNat : Int) == 48) = true := by rw [h2]; rfl
          have hd : decide ((18 : Int) < (s.size : Int)) = false := by simp; omega
          have hd1 : decide ((1 : Int) < (s.size : Int)) = true := by simp; omega
          obtain ⟨X, hX⟩ : ∃ X, numOf s.data.toList most = X := ⟨_, rfl⟩
          rw [hX] at HB ⊢
          clear h0 hne hX h2 hlead
          go_enter Tryd.func5, Tryd.ntmps5
          unfold NVal at HB
          go_wp2_with (go_at_call 10; (refine HB.out.mono ?_); rintro e w1 ⟨rfl, hb1⟩)
          go_ret2
          exact ⟨rfl, hb1⟩
        · exact rnum_loop s most (by omega) hpos hE (by unfold lead; rw [head_at s hpos]; simp [h2]) (.inr ⟨h1, by
            simp only [beq_eq_false_iff_ne, ne_eq]
            exact fun h => h2 (UInt8.toNat_inj.mp (by have h48 : (48 : UInt8).toNat = 48 := rfl; omega))⟩) w
      · exact rnum_loop s most (by omega) hpos hE (by unfold lead; rw [str_toList]; simp; omega) (.inl (by omega)) w
end Go.Proofs.YtmhaejagbjmocaaDoor
