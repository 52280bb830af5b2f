/- What the calls of package waymarkref01 write: digits, Number, Text, PrefixText. No condition but that addresses are 32 bits, numbers 64. -/
import Derived.Test.YtkkhmdiffddllaaDoorText
namespace Go.Proofs.YtkkhmdiffddllaaDoor
open Go.RowKit
theorem conv_one (c : UInt8) (x : Int) (h : x = (c.toNat : Int)) (w : World) :
    (convert 89 9 (.slice (some ⟨w.heap.size, 0, none⟩) 1 1)).run Tryd.prog (w.alloc (.cells #[.int .u8 x] 5)) = .ok (.string ⟨#[c]⟩) (w.alloc (.cells #[.int .u8 x] 5)) := by
  have e : strOfNums [x] = ⟨#[c]⟩ := by
    unfold strOfNums
    simp [h]
  rw [← e]
  refine run_convert_bytes_arg _ 89 5 Tryd.underlying89 Tryd.underlying5 w.heap.size 0 1 1 [x] (by simp) (fun i hi => ?_) 9 Tryd.underlying9
  have h0 : i = 0 := by simp at hi; omega
  subst h0
  go_simp
theorem cat_one (c : UInt8) (t : List UInt8) : (⟨#[c]⟩ : ByteArray) ++ ⟨t.toArray⟩ = ⟨(c :: t).toArray⟩ := by
  apply ByteArray.ext
  simp
theorem cat_two (a b : List UInt8) : (⟨a.toArray⟩ : ByteArray) ++ ⟨b.toArray⟩ = ⟨(a ++ b).toArray⟩ := by
  apply ByteArray.ext
  simp
theorem dig_nat (m : Nat) (h : m < 10) : (48 : Int) + (m : Int) = ((UInt8.ofNat (48 + m)).toNat : Int) := by
  rw [ofNat_toNat _ (by omega)]; omega
set_option maxRecDepth 100000 in
set_option maxHeartbeats 400000 in
theorem digits_is (u : Nat) (w : World) (hu : u < 18446744073709551616) :
    Calls Tryd.prog 35 #[.int .u64 u] w fun e w' => e = .returned (.string ⟨(Lib.decDigits u).toArray⟩) ∧ Below w.heap.size w w' := by
  have h20 := dec_short 19 u (by omega)
  go_enter Tryd.func35, Tryd.ntmps35
  go_wp2_with fail
  go_loopw [0, 3] (fun n s wr => ∃ (m : Nat) (t : List UInt8), n = .int .u64 m ∧ s = .string ⟨t.toArray⟩ ∧ m ≤ u ∧ t.length ≤ 20 ∧ Hid (Lib.decDigits u = Lib.decDigits m ++ t) ∧ Below w.heap.size w wr) (fun n _ _ => (intOf n).toNat)
  case atStart => exact ⟨u, [], rfl, rfl, Nat.le_refl _, by simp, Lib.hid (by simp), Below.refl _ _⟩
  case round =>
    obtain ⟨m, t, rfl, rfl, hm, ht, HD, hbw⟩ := hrel
    have hle := hbw.size
    by_cases hlt : 9 < m
    · have hcv := conv_one (UInt8.ofNat (48 + m % 10)) (48 + (m : Int) % 10) (by rw [← dig_nat (m % 10) (by omega)]; omega) wr
      have hct := cat_one (UInt8.ofNat (48 + m % 10)) t
      have HD2 : Hid (Lib.decDigits u = Lib.decDigits (m / 10) ++ (UInt8.ofNat (48 + m % 10) :: t)) := Lib.hid (by
        rw [HD.out, dec_big (by omega), List.append_assoc]; rfl)
      have ht2 : (UInt8.ofNat (48 + m % 10) :: t).length ≤ 20 := by
        have h := HD2.out
        have h2 := congrArg List.length h
        rw [List.length_append] at h2
        omega
      generalize UInt8.ofNat (48 + m % 10) = c at *
      have hmx : (9223372036854775807 < 1 + t.length) = False := by simp; omega
      go_wp2_with fail
      go_roundw
      case rel => exact ⟨m / 10, c :: t, by go_num, rfl, by omega, ht2, HD2, hbw.alloc hle _⟩
      case measure => simp [intOf]; omega
    · have hcv := conv_one (UInt8.ofNat (48 + m)) (48 + (m : Int)) (dig_nat m (by omega)) wr
      have hct := cat_one (UInt8.ofNat (48 + m)) t
      have HD2 : Hid (Lib.decDigits u = UInt8.ofNat (48 + m) :: t) := Lib.hid (by
        rw [HD.out, dec_small (by omega)]; rfl)
      generalize UInt8.ofNat (48 + m) = c at *
      have hmx : (9223372036854775807 < 1 + t.length) = False := by simp; omega
      go_wp2_with fail
      go_ret
      exact ⟨ret_str (by rw [HD2.out]), hbw.alloc hle _⟩
set_option maxRecDepth 100000 in
set_option maxHeartbeats 400000 in
theorem rnumber_is (n : Int) (w : World) (h0 : -9223372036854775808 ≤ n) (h1 : n ≤ 9223372036854775807) :
    Calls Tryd.prog 25 #[.int .i64 n] w fun e w' => e = .returned (.string ⟨(Lib.itoa n).toArray⟩) ∧ Below w.heap.size w w' := by
  by_cases h : n < 0
  · have HI : Hid (Lib.itoa n = 45 :: Lib.decDigits (-n).toNat) := Lib.hid (by
      unfold Lib.itoa; rw [if_pos h, show n.natAbs = (-n).toNat by omega])
    have h20 := dec_short 19 (-n).toNat (by omega)
    have e2 : IntKind.i64.wrap (n + 1) = n + 1 := IntWalk.i64_in _ ⟨by omega, by omega⟩
    have e3 : IntKind.i64.wrap (-(n + 1)) = -(n + 1) := IntWalk.i64_in _ ⟨by omega, by omega⟩
    have hD := fun w => digits_is (-n).toNat w (by omega)
    rw [show (((-n).toNat : Nat) : Int) = -(n + 1) + 1 by omega] at hD
    have HD := Lib.hid hD
    clear hD
    have hct := cat_one 45 (Lib.decDigits (-n).toNat)
    have hmx : (9223372036854775807 < 1 + (Lib.decDigits (-n).toNat).length) = False := by simp; omega
    go_enter Tryd.func25, Tryd.ntmps25
    go_wp2_with (go_at_call 35; (with_reducible refine (HD.out _).mono ?_); rintro e w1 ⟨rfl, hb1⟩)
    go_ret
    exact ⟨ret_str (by rw [HI.out]), hb1⟩
  · have HI : Hid (Lib.itoa n = Lib.decDigits n.toNat) := Lib.hid (by unfold Lib.itoa; rw [if_neg h])
    have hD := fun w => digits_is n.toNat w (by omega)
    rw [Int.toNat_of_nonneg (by omega)] at hD
    have HD := Lib.hid hD
    have h' : 0 ≤ n := by omega
    clear hD
    go_enter Tryd.func25, Tryd.ntmps25
    go_wp2_with (go_at_call 35; (with_reducible refine (HD.out _).mono ?_); rintro e w1 ⟨rfl, hb1⟩)
    go_ret
    exact ⟨ret_str (by rw [HI.out]), hb1⟩
theorem rnum_nat (x : Int) (u : Nat) (w : World) (h : x = (u : Int)) (hu : u < 256) :
    Calls Tryd.prog 25 #[.int .i64 x] w fun e w' => e = .returned (.string ⟨(Lib.decDigits u).toArray⟩) ∧ Below w.heap.size w w' := by
  have hc := rnumber_is x w (by omega) (by omega)
  have e : Lib.itoa x = Lib.decDigits u := by unfold Lib.itoa; rw [if_neg (by omega)]; congr 1; omega
  rwa [e] at hc
end Go.Proofs.YtkkhmdiffddllaaDoor
