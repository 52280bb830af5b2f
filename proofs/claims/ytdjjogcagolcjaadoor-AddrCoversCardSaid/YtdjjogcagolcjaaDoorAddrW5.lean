/- What the calls of packages addr and waymarkref01 do that find what two prefixes have in common, and of how many bits a mask is. Each under the conditions that it names. -/
import Derived.Test.YtdjjogcagolcjaaDoorAddrW4
namespace Go.Proofs.YtdjjogcagolcjaaDoor
open Go.RowKit
set_option maxHeartbeats 400000 in
theorem bits_yes (n : Int) (w : World) (h0 : 0 ≤ n) (h1 : n ≤ 32) :
    Calls Tryd.prog 28 #[.int .u32 (mk n)] w fun e w' => e = .returned (.tuple #[.int .i64 n, .int .i64 0]) ∧ w = w' := by
  have h4 := mk_nonneg n h0
  have h5 := mk_lt n
  have hq : bits .xor .u32 IntKind.u32.max (mk n) = 4294967295 - mk n := bxor_mk n h0
  have B1 : 0 ≤ 4294967295 - mk n := by omega
  have B2 : 4294967295 - mk n ≤ 4294967295 := by omega
  have HL : Hid (32 - (Lib.bitLen (4294967295 - mk n).toNat : Int) = n) := by
    have hp := pw_pos n
    have hl := pw_le n h0
    have e : (4294967295 - mk n).toNat = 2 ^ (32 - n).toNat - 1 := by unfold mk; rw [pw_nat] at *; omega
    refine Lib.hid ?_
    rw [e, bitLen_ones _ (by omega)]
    omega
  go_enter Tryd.func28, Tryd.ntmps28
  go_wp2_with (first | (go_at_call 42; (with_reducible refine (Tryd.bits_LeadingZeros32 _ _ B1 B2).mono ?_); rintro e w' ⟨rfl, rfl⟩; rw [HL.out]) | (go_at_call 12; (with_reducible refine (mask_ok n _ h0 h1).mono ?_); rintro e w' ⟨rfl, rfl⟩))
  go_ret2
  exact ⟨rfl, rfl⟩
set_option maxHeartbeats 400000 in
theorem bits_no (m : Int) (w : World) (h0 : 0 ≤ m) (h1 : m < 4294967296) (h : ∀ k, 0 ≤ k → k ≤ 32 → mk k ≠ m) :
    Calls Tryd.prog 28 #[.int .u32 m] w fun e w' => e = .returned (.tuple #[.int .i64 0, .int .i64 10]) ∧ w = w' := by
  have hq : bits .xor .u32 IntKind.u32.max m = 4294967295 - m := bxor_all m h0 h1
  have B1 : 0 ≤ 4294967295 - m := by omega
  have B2 : 4294967295 - m ≤ 4294967295 := by omega
  obtain ⟨k, hk⟩ : ∃ k, 32 - (Lib.bitLen (4294967295 - m).toNat : Int) = k := ⟨_, rfl⟩
  have hr := Lib.bitLen_le (4294967295 - m).toNat 32 (by omega) (by omega)
  have k0 : 0 ≤ k := by omega
  have k1 : k ≤ 32 := by omega
  have hd : (mk k != m) = true := by simpa using h k k0 k1
  have HL := Lib.hid hk
  clear hk hr h
  go_enter Tryd.func28, Tryd.ntmps28
  go_wp2_with (first | (go_at_call 42; (with_reducible refine (Tryd.bits_LeadingZeros32 _ _ B1 B2).mono ?_); rintro e w' ⟨rfl, rfl⟩; rw [HL.out]) | (go_at_call 12; (with_reducible refine (mask_ok k _ k0 k1).mono ?_); rintro e w' ⟨rfl, rfl⟩))
  go_ret2
  exact ⟨rfl, rfl⟩
end Go.Proofs.YtdjjogcagolcjaaDoor
