/- number of waymarkref02: the number below 2^32 that a text is. Conditions: the text is one that can be, the table of package strconv is what its text says. -/
import Derived.Test.YtbplkeopdfciiaaDoorSqS
import Derived.Test.YtbplkeopdfciiaaDoorSpTa
import Derived.Test.YtbplkeopdfciiaaDoorSpTm
namespace Go.Proofs.YtbplkeopdfciiaaDoor
open Go.RowKit
theorem vsplit : ∀ (l : List UInt8) (n : Nat), val l n = n * 10 ^ l.length + val l 0
  | [], n => by simp [val]
  | c :: l, n => by
    simp only [val, List.length_cons, Nat.zero_mul, Nat.zero_add]
    rw [vsplit l (n * 10 + (c.toNat - 48)), vsplit l (c.toNat - 48), Nat.pow_succ, Nat.add_mul, Nat.mul_assoc, Nat.mul_comm 10]
    omega
theorem vlt10 : ∀ (l : List UInt8), l.all dig = true → val l 0 < 10 ^ l.length
  | [], _ => by simp [val]
  | c :: l, h => by
    simp only [List.all_cons, Bool.and_eq_true] at h
    have h1 : c.toNat - 48 ≤ 9 := by have := h.1; simp [dig] at this; omega
    have h2 := vlt10 l h.2
    simp only [val, List.length_cons, Nat.pow_succ, Nat.zero_mul, Nat.zero_add]
    rw [vsplit]
    have h3 : (c.toNat - 48) * 10 ^ l.length ≤ 9 * 10 ^ l.length := Nat.mul_le_mul_right _ h1
    omega
theorem rdN_val {l : List UInt8} {n : Nat} (h : rdN l = some n) : n = val l 0 := (num_some h).2.2.2.2
theorem rdN_long {l : List UInt8} (h : 11 ≤ l.length) : rdN l = none := by
  cases hr : rdN l with
  | none => rfl
  | some n =>
    obtain ⟨h1, h2⟩ := rdN_some hr
    have := dgt_top h2
    rw [h1] at this
    omega
theorem rdN_over {l : List UInt8} (h : 4294967295 < val l 0) : rdN l = none := by
  cases hr : rdN l with
  | none => rfl
  | some n => have h1 := rdN_val hr; have h2 := rdN_lt hr; omega
theorem rdN_same {l : List UInt8} {n : Nat} (h : Lib.decDigits n = l) (hn : n ≤ 4294967295) : rdN l = some n := by rw [← h]; exact rdN_dec (by unfold top; omega)
theorem rdN_other {l : List UInt8} {n : Nat} (h : Lib.decDigits n ≠ l) (hn : n = val l 0) : rdN l = none := by
  cases hr : rdN l with
  | none => rfl
  | some m => exact absurd (by rw [hn, ← rdN_val hr]; exact (rdN_some hr).1) h
/-- What number of waymarkref02 hands back. -/
def RNum (l : List UInt8) (w : World) (e : Ending) (w' : World) : Prop :=
  ∃ x : Int, 0 ≤ x ∧ x < 4294967296 ∧ (∀ n : Nat, rdN l = some n → x = n) ∧ e = .returned (.tuple #[.int .u32 x, .bool (rdN l).isSome]) ∧ Below w.heap.size w w'
theorem rnum_no {l : List UInt8} {w w' : World} {x : Int} (h0 : 0 ≤ x) (h1 : x < 4294967296) (h : rdN l = none) (hw : Below w.heap.size w w') : RNum l w (.returned (.tuple #[.int .u32 x, .bool false])) w' :=
  ⟨x, h0, h1, fun n hn => by rw [h] at hn; (cases hn), by rw [h]; rfl, hw⟩
theorem rnum_yes {l : List UInt8} {w w' : World} {x : Int} {n : Nat} (h : rdN l = some n) (hx : x = n) (hw : Below w.heap.size w w') : RNum l w (.returned (.tuple #[.int .u32 x, .bool true])) w' :=
  ⟨x, by omega, by have := rdN_lt h; omega, fun m hm => by rw [h] at hm; cases hm; exact hx, by rw [h]; rfl, hw⟩
set_option maxRecDepth 100000 in
set_option maxHeartbeats 1000000 in
theorem rnumber_is (s : ByteArray) (w : World) (hs : s.size ≤ 9223372036854775807) (ht : Tab10 w) : Calls Tryd.prog 31 #[.string s] w (RNum s.data.toList w) := by
  have HT := Lib.hid ht
  clear ht
  go_enter Tryd.func31, Tryd.ntmps31
  go_wp2_with fail
  go_loop [4, 5] (fun o i => ∃ k : Nat, k ≤ s.size ∧ k ≤ 11 ∧ i = .int .i64 k ∧ o = .int .u64 (val (s.data.toList.take k) 0) ∧ Hid ((s.data.toList.take k).all dig = true)) (fun _ i => s.size - (intOf i).toNat)
  case atStart => exact ⟨0, by omega, by omega, rfl, rfl, Lib.hid rfl⟩
  case round =>
    obtain ⟨k, hk, hk11, rfl, rfl, HA⟩ := hrel
    have hvl : val (s.data.toList.take k) 0 < 100000000000 := by
      have h1 := vlt10 _ HA.out
      have h2 : (s.data.toList.take k).length ≤ 11 := by rw [List.length_take]; omega
      exact Nat.lt_of_lt_of_le h1 (Nat.pow_le_pow_right (n := 10) (by decide) h2)
    by_cases hlt : k < s.size
    · have hkl : k < s.data.toList.length := by rw [str_toList]; exact hlt
      have hget := get_at s k hlt hkl
      have ha := all_take s.data.toList k hkl
      have hv2 := val_take s.data.toList k hkl
      rw [hget] at ha hv2
      obtain ⟨v, hvv⟩ : ∃ v, val (s.data.toList.take k) 0 = v := ⟨_, rfl⟩
      rw [hvv] at hvl hv2 ⊢
      have HV2 := Lib.hid hv2
      have HA2 := Lib.hid ha
      have HG := Lib.hid hget
      have hb := (s[k]'hlt).toNat_lt
      clear ha hv2 hvv hget
      by_cases hd1 : (s[k]'hlt).toNat < 48
      · have H : Hid (rdN s.data.toList = none) := Lib.hid (rdN_nodig hkl (by rw [HG.out]; simp [dig]; omega))
        go_wp2_with fail
        go_ret2
        exact rnum_no (by omega) (by omega) H.out (Below.refl _ _)
      · by_cases hd2 : 57 < (s[k]'hlt).toNat
        · have H : Hid (rdN s.data.toList = none) := Lib.hid (rdN_nodig hkl (by rw [HG.out]; simp [dig]; omega))
          go_wp2_with fail
          go_ret2
          exact rnum_no (by omega) (by omega) H.out (Below.refl _ _)
        · by_cases hlong : 10 < k
          · have H : Hid (rdN s.data.toList = none) := Lib.hid (rdN_long (by rw [str_toList]; omega))
            go_wp2_with fail
            go_ret2
            exact rnum_no (by omega) (by omega) H.out (Below.refl _ _)
          · have hw : IntKind.u8.wrap (((s[k]'hlt).toNat : Int) - 48) = ((s[k]'hlt).toNat : Int) - 48 := by rw [IntKind.wrap_u8']; omega
            have hw2 : IntKind.u64.wrap (((s[k]'hlt).toNat : Int) - 48) = ((s[k]'hlt).toNat : Int) - 48 := IntWalk.u64_in _ ⟨by omega, by omega⟩
            go_wp2_with fail
            go_round
            case rel =>
              refine ⟨k + 1, by omega, by omega, by go_num, ?_, Lib.hid ?_⟩
              · rw [HV2.out]; go_num
              · rw [HA2.out, HA.out, Bool.true_and]; simp [dig]; omega
            case measure => simp [intOf]; omega
    · have hks : k = s.size := by omega
      have hfull : s.data.toList.take k = s.data.toList := List.take_of_length_le (by rw [str_toList]; omega)
      rw [hfull] at hvl HA ⊢
      obtain ⟨v, hvv⟩ : ∃ v, val s.data.toList 0 = v := ⟨_, rfl⟩
      rw [hvv] at hvl ⊢
      have HVV := Lib.hid hvv
      subst hks
      clear hlt hfull hvv
      obtain ⟨V, hV⟩ : ∃ V : Int, V = (v : Int) := ⟨_, rfl⟩
      rw [← hV]
      have v0 : 0 ≤ V := by omega
      have v1 : V < 100000000000 := by omega
      have HV := Lib.hid hV
      clear hV hvl
      by_cases h0 : s.size = 0
      · have e : s.data.toList = [] := List.eq_nil_of_length_eq_zero (by rw [str_toList]; exact h0)
        have hE : s.toList.isEmpty = true := by rw [Lib.toList_data, e]; rfl
        have H : Hid (rdN s.data.toList = none) := Lib.hid (by rw [e]; rfl)
        have hx := IntKind.wrap_u32' V
        clear e h0
        go_wp2_with fail
        go_ret2
        exact rnum_no (by omega) (by omega) H.out (Below.refl _ _)
      · have hne : s.data.toList ≠ [] := fun h => by have := str_toList s; rw [h] at this; simp at this; omega
        have hE : s.toList.isEmpty = false := by rw [Lib.toList_data]; simpa using hne
        clear hne h0
        by_cases hbig : 4294967295 < V
        · have H : Hid (rdN s.data.toList = none) := Lib.hid (rdN_over (by rw [HVV.out]; have := HV.out; omega))
          go_wp2_with fail
          go_ret2
          exact rnum_no (by omega) (by omega) H.out (Below.refl _ _)
        · have hw : IntKind.u32.wrap V = V := IntWalk.u32_in _ ⟨by omega, by omega⟩
          have hf := fun W => fmt_is v (by have := HV.out; omega) W
          obtain ⟨A, hA⟩ : ∃ A : ByteArray, A = ⟨(Lib.decDigits v).toArray⟩ := ⟨_, rfl⟩
          rw [← hA, ← HV.out] at hf
          have hAl : A.toList = Lib.decDigits v := by rw [Lib.toList_data, hA]
          have HF := Lib.hid hf
          clear hf
          by_cases heq : Lib.decDigits v = s.data.toList
          · have hc : (A.toList == s.toList) = true := by rw [hAl, Lib.toList_data, heq]; simp
            have H : Hid (rdN s.data.toList = some v) := Lib.hid (rdN_same heq (by have := HV.out; omega))
            clear heq hAl hA
            go_wp2_with ((go_at_call 22; (with_reducible refine (HF.out _ HT.out).mono ?_); rintro e w2 ⟨rfl, hb2⟩))
            go_ret2
            exact rnum_yes H.out HV.out hb2
          · have hc : (A.toList == s.toList) = false := by rw [hAl, Lib.toList_data]; simpa using heq
            have H : Hid (rdN s.data.toList = none) := Lib.hid (rdN_other heq HVV.out.symm)
            clear heq hAl hA
            go_wp2_with ((go_at_call 22; (with_reducible refine (HF.out _ HT.out).mono ?_); rintro e w2 ⟨rfl, hb2⟩))
            go_ret2
            exact rnum_no (by omega) (by omega) H.out hb2
end Go.Proofs.YtbplkeopdfciiaaDoor
