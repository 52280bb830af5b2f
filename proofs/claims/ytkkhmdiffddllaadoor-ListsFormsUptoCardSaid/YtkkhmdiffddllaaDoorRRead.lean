/- What Read of package waymarkref01 answers of a text: its number, or -1. No condition but that the greatest number asked for is at most 1000000. -/
import Derived.Test.YtkkhmdiffddllaaDoorNum
import Derived.Test.YtkkhmdiffddllaaDoorText
namespace Go.Proofs.YtkkhmdiffddllaaDoor
open Go.RowKit
/-- A number that may be none, as Read hands it back. -/
def numR : Option Nat → Int | some n => (n : Int) | none => -1
theorem rnum_none {o : Option Nat} (h : o = none) : Ending.returned (.int .i64 (-1)) = .returned (.int .i64 (numR o)) := by rw [h]; rfl
theorem rnum_some {o : Option Nat} {n : Nat} (h : o = some n) : Ending.returned (.int .i64 (n : Int)) = .returned (.int .i64 (numR o)) := by rw [h]; rfl
theorem dig_le {c : UInt8} (h : dig c = true) : c.toNat - 48 ≤ 9 := by
  simp [dig] at h; omega
theorem val_lt : ∀ (l : List UInt8) (n : Nat), l.all dig = true → val l n < (n + 1) * 10 ^ l.length
  | [], n, _ => by simp [val]
  | c :: l, n, h => by
    simp only [List.all_cons, Bool.and_eq_true] at h
    have h1 := dig_le h.1
    have h2 := val_lt l (n * 10 + (c.toNat - 48)) h.2
    simp only [val, List.length_cons, Nat.pow_succ]
    have h3 : (n * 10 + (c.toNat - 48) + 1) * 10 ^ l.length ≤ ((n + 1) * 10) * 10 ^ l.length := Nat.mul_le_mul_right _ (by omega)
    have h4 : ((n + 1) * 10) * 10 ^ l.length = (n + 1) * (10 ^ l.length * 10) := by rw [Nat.mul_assoc, Nat.mul_comm 10]
    omega
theorem val_12 {l : List UInt8} (h : l.all dig = true) (hl : l.length ≤ 12) : val l 0 ≤ 999999999999 := by
  have h1 := val_lt l 0 h
  have h2 : 10 ^ l.length ≤ 10 ^ 12 := Nat.pow_le_pow_right (by omega) hl
  omega
theorem num_long {l : List UInt8} {top : Nat} (h : 12 < l.length) (ht : top ≤ 1000000) : num l top = none := by
  cases hn : num l top with
  | none => rfl
  | some n =>
    have h1 := dec_num hn
    have h2 := (num_some hn).2.2.2.1
    have h3 := dec_short 6 n (by omega)
    rw [h1] at h3
    omega
set_option maxRecDepth 100000 in
set_option maxHeartbeats 400000 in
theorem read_loop (s : ByteArray) (top : Nat) (w : World) (_htop : top ≤ 1000000) (hs : s.size ≤ 12) (hpos : 0 < s.size) (hE : s.toList.isEmpty = false)
    (hlead : s.size ≤ 1 ∨ (1 < s.size ∧ (((s[0]'hpos).toNat : Int) == 48) = false)) :
    Calls Tryd.prog 22 #[.string s, .int .i64 top] w fun e w' => e = .returned (.int .i64 (numR (num s.data.toList top))) ∧ w = w' := by
  have hln : s.data.toList ≠ [] := fun h => by have := str_toList s; rw [h] at this; simp at this; omega
  have hll : Hid (lead s.data.toList = false) := Lib.hid (by
    unfold lead
    rcases hlead with h | ⟨h, h2⟩
    · have e : decide (1 < s.data.toList.length) = false := by rw [str_toList]; simp; omega
      rw [e]; rfl
    · rw [head_at s hpos]
      have h3 : ¬ (s[0]'hpos) = 48 := fun h4 => by rw [h4] at h2; simp at h2
      simp [h3])
  have HLN := Lib.hid hln
  have h12 : decide ((12 : Int) < (s.size : Int)) = false := by simp; omega
  clear hln
  rcases hlead with hlead | ⟨hlead, hl2⟩
  all_goals
    go_enter Tryd.func22, Tryd.ntmps22
    go_wp2_with fail
    go_loop [5, 6] (fun o i => ∃ k : Nat, k ≤ s.size ∧ i = .int .i64 k ∧ o = .int .i64 (val (s.data.toList.take k) 0) ∧ Hid ((s.data.toList.take k).all dig = true)) (fun _ i => s.size - (intOf i).toNat)
    case atStart => exact ⟨0, by omega, rfl, rfl, Lib.hid rfl⟩
    case round =>
      obtain ⟨k, hk, rfl, rfl, HA⟩ := hrel
      have hv : val (s.data.toList.take k) 0 ≤ 999999999999 := val_12 HA.out (by rw [List.length_take, str_toList]; omega)
      by_cases hlt : k < s.size
      · have hkl : k < s.data.toList.length := by rw [str_toList]; exact hlt
        have hget := get_at s k hlt hkl
        have ha := all_take s.data.toList k hkl
        have hv2 := val_take s.data.toList k hkl
        rw [hget] at ha hv2
        obtain ⟨v, hvv⟩ : ∃ v, val (s.data.toList.take k) 0 = v := ⟨_, rfl⟩
        rw [hvv] at hv hv2 ⊢
        have HV2 := Lib.hid hv2
        have HA2 := Lib.hid ha
        have HG := Lib.hid hget
        have hb := (s[k]'hlt).toNat_lt
        clear ha hv2 hvv hget
        by_cases hd1 : (s[k]'hlt).toNat < 48
        · have H : Hid (num s.data.toList top = none) := Lib.hid (num_nodig hkl (by rw [HG.out]; simp [dig]; omega))
          go_wp2_with fail
          go_ret
          exact ⟨rnum_none H.out, rfl⟩
        · by_cases hd2 : 57 < (s[k]'hlt).toNat
          · have H : Hid (num s.data.toList top = none) := Lib.hid (num_nodig hkl (by rw [HG.out]; simp [dig]; omega))
            go_wp2_with fail
            go_ret
            exact ⟨rnum_none H.out, rfl⟩
          · have hw : IntKind.u8.wrap (((s[k]'hlt).toNat : Int) - 48) = ((s[k]'hlt).toNat : Int) - 48 := by rw [IntKind.wrap_u8']; omega
            go_wp2_with fail
            go_round
            case rel =>
              refine ⟨k + 1, by omega, by go_num, ?_, Lib.hid ?_⟩
              · rw [HV2.out]; go_num
              · rw [HA2.out, HA.out, Bool.true_and]; simp [dig]; omega
            case measure => simp [intOf]; omega
      · have hks : k = s.size := by omega
        have hfull : s.data.toList.take k = s.data.toList := List.take_of_length_le (by rw [str_toList]; omega)
        rw [hfull] at HA hv ⊢
        clear hlt hfull
        by_cases hbig : top < val s.data.toList 0
        · have H : Hid (num s.data.toList top = none) := Lib.hid (num_big (k := s.data.toList.length) (by rw [List.take_length]; exact hbig))
          subst hks
          generalize val s.data.toList 0 = v at *
          have hd : decide ((top : Int) < (v : Int)) = true := by simp; omega
          go_wp2_with fail
          go_ret
          exact ⟨rnum_none H.out, rfl⟩
        · have HN : Hid (num s.data.toList top = some (val s.data.toList 0)) := Lib.hid (num_mk HLN.out hll.out HA.out (by omega))
          subst hks
          generalize val s.data.toList 0 = v at *
          have hd : decide ((top : Int) < (v : Int)) = false := by simp; omega
          go_wp2_with fail
          go_ret
          exact ⟨rnum_some HN.out, rfl⟩
set_option maxHeartbeats 400000 in
theorem read_is (s : ByteArray) (top : Nat) (w : World) (htop : top ≤ 1000000) (hs : s.size ≤ 9223372036854775807) :
    Calls Tryd.prog 22 #[.string s, .int .i64 top] w fun e w' => e = .returned (.int .i64 (numR (num s.data.toList top))) ∧ w = w' := by
  by_cases h0 : s.size = 0
  · have e : s.data.toList = [] := List.eq_nil_of_length_eq_zero (by rw [str_toList]; exact h0)
    have H : Hid (num s.data.toList top = none) := Lib.hid (by rw [e]; rfl)
    have hE : s.toList.isEmpty = true := by rw [Lib.toList_data, e]; rfl
    clear e h0
    go_enter Tryd.func22, Tryd.ntmps22
    go_wp2_with fail
    go_ret
    exact ⟨rnum_none H.out, rfl⟩
  · have hpos : 0 < s.size := by omega
    have hne : s.data.toList ≠ [] := fun h => by have := str_toList s; rw [h] at this; simp at this; omega
    have hE : s.toList.isEmpty = false := by rw [Lib.toList_data]; simpa using hne
    by_cases h12 : 12 < s.size
    · have H : Hid (num s.data.toList top = none) := Lib.hid (num_long (by rw [str_toList]; exact h12) htop)
      have hd : decide ((12 : Int) < (s.size : Int)) = true := by simp; omega
      clear h0 hne
      go_enter Tryd.func22, Tryd.ntmps22
      go_wp2_with fail
      go_ret
      exact ⟨rnum_none H.out, rfl⟩
    · by_cases h1 : 1 < s.size
      · by_cases h2 : (s[0]'hpos) = 48
        · have H : Hid (num s.data.toList top = none) := Lib.hid (by
            unfold num
            rw [if_pos]
            refine .inr (.inl ?_)
            unfold lead
            rw [head_at s hpos, h2, str_toList]
            simpa using h1)
          have hl2 : (((s[0]'hpos).toNat : Int) == 48) = true := by rw [h2]; rfl
          have hd : decide ((12 : Int) < (s.size : Int)) = false := by simp; omega
          clear h2 h0 hne
          go_enter Tryd.func22, Tryd.ntmps22
          go_wp2_with fail
          go_ret
          exact ⟨rnum_none H.out, rfl⟩
        · exact read_loop s top w htop (by omega) hpos hE (.inr ⟨h1, by
            simp only [beq_eq_false_iff_ne, ne_eq]
            exact fun h => h2 (UInt8.toNat_inj.mp (by have h48 : (48 : UInt8).toNat = 48 := rfl; omega))⟩)
      · exact read_loop s top w htop (by omega) hpos hE (.inl (by omega))
end Go.Proofs.YtkkhmdiffddllaaDoor
