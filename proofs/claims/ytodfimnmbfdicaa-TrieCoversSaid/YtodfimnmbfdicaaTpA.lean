/- What a node's side is. Under the conditions that it names. -/
import Derived.Test.YtodfimnmbfdicaaTpO
namespace Go.Proofs.Ytodfimnmbfdicaa
open Go.RowKit
theorem sd_calc (a n : Int) (ha : 0 ≤ a) (ha2 : a < 4294967296) (h0 : 0 ≤ n) (h1 : n ≤ 32) : a * 2 ^ n.toNat % 4294967296 / 2147483648 = sd a n := by
  obtain ⟨k, rfl⟩ : ∃ k : Nat, n = k := ⟨n.toNat, by omega⟩
  obtain ⟨x, rfl⟩ : ∃ x : Nat, a = x := ⟨a.toNat, by omega⟩
  unfold sd
  simp only [Int.toNat_natCast]
  split
  · rename_i hn
    have hp : pw ((k : Int) + 1) = ((2 ^ (31 - k) : Nat) : Int) := by
      rw [pw_nat, show (32 - ((k : Int) + 1)).toNat = 31 - k by omega]
    rw [hp]
    have e1 : 4294967296 = 2 ^ (32 - k) * 2 ^ k := by rw [← Nat.pow_add, show 32 - k + k = 32 by omega]
    have e2 : 2147483648 = 2 ^ (31 - k) * 2 ^ k := by rw [← Nat.pow_add, show 31 - k + k = 31 by omega]
    have e3 : 2 ^ (32 - k) = 2 ^ (31 - k) * 2 := by rw [← Nat.pow_succ, show (31 - k).succ = 32 - k by omega]
    have key : x * 2 ^ k % 4294967296 / 2147483648 = x / 2 ^ (31 - k) % 2 := by
      conv => lhs; rw [e1, e2]
      rw [Nat.mul_mod_mul_right, Nat.mul_div_mul_right _ _ (Nat.two_pow_pos k), e3, Nat.mod_mul_right_div_self]
    generalize 2 ^ (31 - k) = P at key ⊢
    have h := congrArg (fun z : Nat => (z : Int)) key
    simp only [Int.natCast_ediv, Int.natCast_emod, Int.natCast_mul, Int.natCast_pow] at h
    exact h
  · rename_i hn
    have hk : k = 32 := by omega
    subst hk
    omega
theorem side_is (a n : Int) (w : World) (ha : 0 ≤ a) (ha2 : a < 4294967296) (h0 : 0 ≤ n) (h1 : n ≤ 32) : Calls Try.prog 55 #[.int .u32 a, .int .i64 n] w fun e w' => e = .returned (.int .i64 (sd a n)) ∧ w = w' := by
  go_enter Try.func55, Try.ntmps55
  go_wp2
  go_returns
  exact ⟨ret_int (sd_calc a n ha ha2 h0 h1), rfl⟩
end Go.Proofs.Ytodfimnmbfdicaa
