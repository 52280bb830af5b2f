/- The document's own answer for a community's text: how it is written, what a text is read as. Under the conditions that they name. -/
import Derived.Test.YtkkhmdiffddllaaDoorUvB
import Derived.Test.YtkkhmdiffddllaaDoorRRead
import Derived.Test.YtkkhmdiffddllaaDoorRText
namespace Go.Proofs.YtkkhmdiffddllaaDoor
open Go.Shelf Go.RowKit Go.Lib
theorem ext_lr (s : ByteArray) (f k : Nat) : s.extract f k = ⟨((s.data.toList.drop f).take (k - f)).toArray⟩ := by
  apply WideShapes.bytes_inj
  simp only [ByteArray.data_extract]
  simp [Array.toList_extract, List.extract_eq_take_drop]
theorem ext_l (s : ByteArray) (f k : Nat) : (s.extract f k).data.toList = (s.data.toList.drop f).take (k - f) := by rw [ext_lr]
theorem rtxC_is (c : Nat) (hc : c < 4294967296) (w : World) : Calls Tryd.prog 13 #[.int .u32 c] w fun e w' => e = .returned (.string ⟨(txC c).toArray⟩) ∧ Below w.heap.size w w' := by
  unfold txC
  obtain ⟨q, hq⟩ : ∃ q, c / 65536 = q := ⟨_, rfl⟩
  obtain ⟨r, hr⟩ : ∃ r, c % 65536 = r := ⟨_, rfl⟩
  rw [hq, hr]
  have H1 := Lib.hid (rnumber_is (q : Int) w (by omega) (by omega))
  have H2 := Lib.hid fun W => rnumber_is (r : Int) W (by omega) (by omega)
  have hq2 : (c : Int) / 65536 = (q : Int) := by omega
  have hr2 : (c : Int) % 65536 = (r : Int) := by omega
  have hq3 : Int.tdiv (c : Int) 65536 = (q : Int) := by rw [← hq]; exact Int.ofNat_tdiv _ _
  have hr3 : Int.tmod (c : Int) 65536 = (r : Int) := by rw [← hr]; exact Int.ofNat_tmod _ _
  have h5 : ∀ n : Nat, Lib.itoa (n : Int) = Lib.decDigits n := fun n => by unfold Lib.itoa; rw [if_neg (by omega)]; rfl
  simp only [h5] at H1 H2
  obtain ⟨d1, hd1⟩ : ∃ d, Lib.decDigits q = d := ⟨_, rfl⟩
  obtain ⟨d2, hd2⟩ : ∃ d, Lib.decDigits r = d := ⟨_, rfl⟩
  have l1 : d1.length ≤ 4294967296 := by have := dec_len q; rw [hd1] at this; omega
  have l2 : d2.length ≤ 4294967296 := by have := dec_len r; rw [hd2] at this; omega
  have n1 : ¬ 9223372036854775807 < d1.length + 1 := by omega
  have n2 : ¬ 9223372036854775807 < d1.length + 1 + d2.length := by omega
  rw [hd1] at H1
  simp only [hd2] at H2
  rw [hd1, hd2]
  clear hd1 hd2 h5 hq hr
  go_enter Tryd.func13, Tryd.ntmps13
  go_wp2_with fail
  go_at_call 25
  (with_reducible refine H1.out.mono ?_)
  rintro e w1 ⟨rfl, hb1⟩
  have B1 := Lib.hid hb1
  clear hb1
  go_wp2_with fail
  go_at_call 25
  (with_reducible refine (H2.out _).mono ?_)
  rintro e w2 ⟨rfl, hb2⟩
  have B2 := Lib.hid (Below.step B1.out hb2)
  clear hb2
  go_wp2
  go_ret
  have e1 : (⟨d1.toArray⟩ : ByteArray) ++ ⟨#[58]⟩ = ⟨(d1 ++ [58]).toArray⟩ := bytes_app d1 [58]
  refine ⟨?_, B2.out⟩
  show Ending.returned (.string (((⟨d1.toArray⟩ : ByteArray) ++ ⟨#[58]⟩) ++ ⟨d2.toArray⟩)) = _
  rw [e1, bytes_app]
theorem cut1_atk {l : List UInt8} {k : Nat} (h : k < l.length) (hk : l[k] = 58) (hn : 58 ∉ l.take k) : cut1 l 58 = (l.take k, l.drop (k + 1), true) := by
  have e : l = l.take k ++ 58 :: l.drop (k + 1) := by
    rw [← hk, ← List.drop_eq_getElem_cons h, List.take_append_drop]
  conv => lhs; rw [e]
  exact cut1_mk _ _ _ hn
theorem parV_no {l : List UInt8} (hn : 58 ∉ l) : parV l = none := by
  unfold parV
  rw [cut1_none l 58 hn, numE]
  cases num l 65535 <;> rfl
theorem parV_at {l : List UInt8} {k : Nat} (h : k < l.length) (hk : l[k] = 58) (hn : 58 ∉ l.take k) : parV l = match num (l.take k) 65535, num (l.drop (k + 1)) 65535 with | some a, some b => some (a * 65536 + b) | _, _ => none := by
  unfold parV
  rw [cut1_atk h hk hn]
  rfl
theorem take_58 {l : List UInt8} {k : Nat} (h : k < l.length) (hk : ¬ l[k] = 58) (hn : 58 ∉ l.take k) : 58 ∉ l.take (k + 1) := by
  rw [List.take_succ_eq_append_getElem h]
  simp only [List.mem_append, List.mem_singleton, not_or]
  exact ⟨hn, fun h => hk h.symm⟩
set_option maxRecDepth 100000 in
set_option maxHeartbeats 1000000 in
theorem rparC_is (s : ByteArray) (hs : s.size ≤ 9223372036854775806) (w : World) : Calls Tryd.prog 8 #[.string s] w fun e w' =>
    e = .returned (.tuple #[.int .u32 (parE (parV s.data.toList)).1, .int .i64 (parE (parV s.data.toList)).2]) ∧ w = w' := by
  obtain ⟨pv, hpv⟩ : ∃ pv, parV s.data.toList = pv := ⟨_, rfl⟩
  have HPV := Lib.hid hpv
  rw [hpv]
  clear hpv
  have CR : Hid (∀ t : ByteArray, t.size ≤ 9223372036854775807 → ∀ W, Calls Tryd.prog 22 #[.string t, .int .i64 65535] W fun e w' => e = .returned (.int .i64 (numR (num t.data.toList 65535))) ∧ W = w') := Lib.hid fun t ht W => read_is t 65535 W (by omega) ht
  go_enter Tryd.func8, Tryd.ntmps8
  go_wp2_with fail
  go_loop [4] (fun i => ∃ k : Nat, k ≤ s.size ∧ i = .int .i64 k ∧ Hid (58 ∉ s.data.toList.take k)) (fun i => s.size - (intOf i).toNat)
  case atStart => exact ⟨0, by omega, rfl, Lib.hid (by simp)⟩
  case round =>
    obtain ⟨k, hk, rfl, HN⟩ := hrel
    by_cases hlt : k < s.size
    · have hkl : k < s.data.toList.length := by rw [str_toList]; exact hlt
      have hltz : (k : Int) < (s.size : Int) := by omega
      have hget := get_at s k hlt hkl
      by_cases hc : s[k]'hlt = 58
      · have hc2 : (((s[k]'hlt).toNat : Int) == 58) = true := by rw [hc]; rfl
        have HP := Lib.hid (parV_at hkl (hget.trans hc) HN.out)
        have D1 := CR.out (s.extract 0 k) (by simp; omega)
        have D2 := CR.out (s.extract (k + 1) s.size) (by simp; omega)
        simp only [ext_l, List.drop_zero, Nat.sub_zero] at D1
        simp only [ext_l] at D2
        rw [show (List.drop (k + 1) s.data.toList).take (s.size - (k + 1)) = s.data.toList.drop (k + 1) by rw [List.take_of_length_le]; simp] at D2
        obtain ⟨o1, ho1⟩ : ∃ o, num (s.data.toList.take k) 65535 = o := ⟨_, rfl⟩
        obtain ⟨o2, ho2⟩ : ∃ o, num (s.data.toList.drop (k + 1)) 65535 = o := ⟨_, rfl⟩
        rw [HPV.out, ho1, ho2] at HP
        rw [ho1] at D1
        rw [ho2] at D2
        have K1 := Lib.hid D1
        have K2 := Lib.hid D2
        have HO1 := Lib.hid ho1
        have HO2 := Lib.hid ho2
        clear hget hc D1 D2 ho1 ho2 HPV HN
        go_wp2_with fail
        go_at_call 22
        (with_reducible refine (K1.out _).mono ?_)
        rintro e w1 ⟨rfl, rfl⟩
        go_wp2_with fail
        go_at_call 22
        (with_reducible refine (K2.out _).mono ?_)
        rintro e w1 ⟨rfl, rfl⟩
        cases o1 with
        | none =>
          have e : pv = none := HP.out
          simp only [show numR none = (-1 : Int) from rfl]
          have HQ := Lib.hid e
          clear e
          go_wp2
          go_ret2
          exact ⟨by rw [HQ.out]; rfl, rfl⟩
        | some m =>
          have m1 := (num_some HO1.out).2.2.2.1
          cases o2 with
          | none =>
            have e : pv = none := HP.out
            simp only [show numR none = (-1 : Int) from rfl, show numR (some m) = (m : Int) from rfl]
            have HQ := Lib.hid e
            clear e
            have h0 : ¬ (m : Int) < 0 := by omega
            go_wp2
            go_ret2
            exact ⟨by rw [HQ.out]; rfl, rfl⟩
          | some n =>
            have n1 := (num_some HO2.out).2.2.2.1
            have e : pv = some (m * 65536 + n) := HP.out
            simp only [show numR (some n) = (n : Int) from rfl, show numR (some m) = (m : Int) from rfl]
            have HQ := Lib.hid e
            clear e
            have h0 : ¬ (m : Int) < 0 := by omega
            have h1 : ¬ (n : Int) < 0 := by omega
            go_wp2
            go_ret2
            exact ⟨by rw [HQ.out]; simp only [parE]; congr 3; simp; omega, rfl⟩
      · have hc2 : (((s[k]'hlt).toNat : Int) == 58) = false := by
          simp only [beq_eq_false_iff_ne, ne_eq]
          intro h
          exact hc (UInt8.toNat_inj.1 (by show _ = 58; omega))
        have HN2 := Lib.hid (take_58 hkl (fun h => hc (hget.symm.trans h)) HN.out)
        clear hget hc
        go_wp2
        go_round
        case rel => exact ⟨k + 1, by omega, by go_num, HN2⟩
        case measure => simp [intOf] <;> omega
    · have hge : ¬ (k : Int) < (s.size : Int) := by omega
      have hq : pv = none := HPV.out.symm.trans (parV_no (by have := HN.out; rwa [List.take_of_length_le (by rw [str_toList]; omega)] at this))
      have HQ := Lib.hid hq
      clear hq
      go_wp2
      go_ret2
      exact ⟨by rw [HQ.out]; rfl, rfl⟩
end Go.Proofs.YtkkhmdiffddllaaDoor
