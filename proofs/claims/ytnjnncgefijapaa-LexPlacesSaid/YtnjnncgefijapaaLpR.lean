/- What row and stands of the statements hand back. Under the conditions that they name. -/
import Derived.Test.YtnjnncgefijapaaLpM
import Derived.Test.YtnjnncgefijapaaLxY
namespace Go.Proofs.Ytnjnncgefijapaa
open Go.RowKit
theorem nE_at {l : List UInt8} {i : Nat} (h : i < l.length) (hb : l[i] = 10) : nE (l.drop i) = 0 := by
  rw [List.drop_eq_getElem_cons h, nE_cons, if_pos hb]
theorem nE_step {l : List UInt8} {i : Nat} (h : i < l.length) (hb : l[i] ≠ 10) : nE (l.drop i) = nE (l.drop (i + 1)) + 1 := by
  rw [List.drop_eq_getElem_cons h, nE_cons, if_neg hb]
theorem nE_none {l : List UInt8} {i : Nat} (h : l.length ≤ i) : nE (l.drop i) = 0 := by
  rw [List.drop_of_length_le h]; rfl
set_option maxRecDepth 100000 in
set_option maxHeartbeats 4000000 in
theorem row_is (l : List UInt8) (n : Nat) (W : World) (hl : l.length ≤ 9223372036854775000) (hn : n ≤ 1000000000000) :
    Calls Try.prog 15 #[.string ⟨l.toArray⟩, .int .i64 ((n : Int) + 1)] W fun e w' => e = .returned (.string ⟨(rowN l n).toArray⟩) ∧ W = w' := by
  have hsz := mk_size l
  obtain ⟨R, hR⟩ : ∃ R, rowN l n = R := ⟨_, rfl⟩
  rw [hR]
  have HR := Lib.hid hR
  clear hR
  go_enter Try.func15, Try.ntmps15
  go_wp2_with fail
  go_loop [1, 5, 6] (fun s1 s5 s6 => ∃ (M : Int) (m f i : Nat), Hid (M = (m : Int) + 1) ∧ 1 ≤ M ∧ M ≤ 1000000000001 ∧ m ≤ n ∧ f ≤ i ∧ i ≤ l.length ∧ s1 = .int .i64 M ∧ s5 = .int .i64 f ∧ s6 = .int .i64 i ∧ Hid (rowN (l.drop f) m = R) ∧ Hid (i + nE (l.drop i) = f + nE (l.drop f))) (fun _ _ s6 => l.length - (intOf s6).toNat)
  case atStart => exact ⟨(n : Int) + 1, n, 0, 0, Lib.hid rfl, by omega, by omega, by omega, by omega, by omega, rfl, rfl, rfl, HR, Lib.hid rfl⟩
  case round =>
    obtain ⟨M, m, f, i, HMM, hM1, hM2, hm, hfi, hi, rfl, rfl, rfl, HM, HJ⟩ := hrel
    have hf0 : (0 : Int) ≤ (f : Int) := by omega
    have hfi2 : (f : Int) ≤ (i : Int) := by omega
    have hil2 : (i : Int) ≤ (l.length : Int) := by omega
    have hm0 : (0 : Int) ≤ (m : Int) := by omega
    by_cases hlt : i < l.length
    · have hi1 : i < (⟨l.toArray⟩ : ByteArray).size := by rw [mk_size]; exact hlt
      have hii : (i : Int) < (l.length : Int) := by omega
      have f10 := byte_eq l i hi1 hlt 10 10 rfl
      by_cases h10 : l[i] = 10
      · rw [beq_iff_eq.2 h10] at f10
        have hiE : i = f + nE (l.drop f) := by have := HJ.out; rw [nE_at hlt h10] at this; omega
        cases m with
        | zero =>
          have hx := ext_mid l f i
          have hxR : (l.drop f).take (i - f) = R := by rw [← HM.out]; simp only [rowN]; congr 1; omega
          rw [hxR] at hx
          have h1 : (M == 1) = true := by rw [HMM.out]; decide
          clear h10 hiE hxR HJ
          go_wp2_with fail
          go_ret
          exact ⟨rfl, rfl⟩
        | succ m =>
          have h1 : (M == 1) = false := by have := HMM.out; simp; omega
          have hdr : (l.drop f).drop (nE (l.drop f)) = l.drop i := by rw [List.drop_drop, ← hiE]
          have HM2 : Hid (rowN (l.drop (i + 1)) m = R) := Lib.hid (by
            rw [← HM.out]
            simp only [rowN]
            rw [hdr, if_neg (by rw [List.drop_eq_getElem_cons hlt]; exact List.cons_ne_nil _ _), List.drop_drop])
          clear h10 hiE hdr HJ HM
          go_wp2_with fail
          go_round
          case rel => exact ⟨M - 1, m, i + 1, i + 1, Lib.hid (by have := HMM.out; omega), by have := HMM.out; omega, by omega, by omega, by omega, by omega, by first | rfl | go_num, by go_num, by go_num, HM2, Lib.hid rfl⟩
          case measure => first | (simp [intOf]; done) | (simp [intOf]; omega)
      · rw [beq_eq_false_iff_ne.2 h10] at f10
        have HJ2 : Hid (i + 1 + nE (l.drop (i + 1)) = f + nE (l.drop f)) := Lib.hid (by have := HJ.out; rw [nE_step hlt h10] at this; omega)
        clear h10 HJ
        go_wp2_with fail
        go_round
        case rel => exact ⟨M, m, f, i + 1, HMM, hM1, hM2, by omega, by omega, by omega, rfl, rfl, by go_num, HM, HJ2⟩
        case measure => first | (simp [intOf]; done) | (simp [intOf]; omega)
    · have hii : ¬ (i : Int) < (l.length : Int) := by omega
      have hiE : i = f + nE (l.drop f) := by have := HJ.out; rw [nE_none (by omega)] at this; omega
      cases m with
      | zero =>
        have hx := ext_mid l f l.length
        have hxR : (l.drop f).take (l.length - f) = R := by rw [← HM.out]; simp only [rowN]; congr 1; omega
        rw [hxR] at hx
        have h1 : (M == 1) = true := by rw [HMM.out]; decide
        have hfl : (f : Int) ≤ (l.length : Int) := by omega
        clear hiE hxR HJ hlt
        go_wp2_with fail
        go_ret
        exact ⟨rfl, rfl⟩
      | succ m =>
        have h1 : (M == 1) = false := by have := HMM.out; simp; omega
        have HE : Hid (R = []) := Lib.hid (by
          rw [← HM.out]
          simp only [rowN]
          rw [if_pos (by rw [List.drop_drop, ← hiE]; exact List.drop_of_length_le (by omega))])
        clear hiE HJ HM hlt
        go_wp2_with fail
        go_ret
        exact ⟨by rw [HE.out]; rfl, rfl⟩
set_option maxRecDepth 100000 in
set_option maxHeartbeats 4000000 in
theorem stands_is (l w : List UInt8) (n c : Nat) (W : World) (hl : l.length ≤ 1000000) (hw : w.length ≤ 1000000) (hn : n ≤ 1000000) (hc : c ≤ 1000000) :
    Calls Try.prog 7 #[.string ⟨l.toArray⟩, .string ⟨w.toArray⟩, .agg #[.int .i64 ((n : Int) + 1), .int .i64 ((c : Int) + 1)]] W fun e w' => e = .returned (.bool (standsB l w ((n : Int) + 1, (c : Int) + 1))) ∧ Below W.heap.size W w' := by
  have HR := Lib.hid (fun W => row_is l n W (by omega) (by omega))
  have hst : standsB l w ((n : Int) + 1, (c : Int) + 1) = (decide (c + w.length ≤ (rowN l n).length) && (((rowN l n).drop c).take w.length == w)) := by
    unfold standsB
    simp only
    rw [show ((n : Int) + 1 - 1).toNat = n by omega, show ((c : Int) + 1 - 1).toNat = c by omega]
    have h1 : decide (1 ≤ (c : Int) + 1) = true := by simp only [decide_eq_true_eq]; omega
    rw [h1, Bool.true_and]
    congr 1
    simp only [decide_eq_decide]
    omega
  rw [hst]
  clear hst
  obtain ⟨R, hR⟩ : ∃ R, rowN l n = R := ⟨_, rfl⟩
  rw [hR] at HR ⊢
  have hrs := mk_size R
  have hws := mk_size w
  by_cases hle : c + w.length ≤ R.length
  · have hx := ext_mid R c (c + w.length)
    rw [show c + w.length - c = w.length by omega] at hx
    obtain ⟨t, ht⟩ : ∃ t, (R.drop c).take w.length = t := ⟨_, rfl⟩
    rw [ht] at hx ⊢
    have hd : decide (c + w.length ≤ R.length) = true := decide_eq_true hle
    rw [hd, Bool.true_and]
    have hle2 : (c : Int) + (w.length : Int) ≤ (R.length : Int) := by omega
    have hlo : (0 : Int) ≤ (c : Int) := by omega
    obtain ⟨y, hy⟩ : ∃ y, (t == w) = y := ⟨_, rfl⟩
    rw [hy]
    clear hR ht hd hle
    go_enter Try.func7, Try.ntmps7
    go_wp2_with (go_at_call 15; (with_reducible refine (HR.out _).mono ?_); rintro e w1 ⟨rfl, rfl⟩)
    go_ret
    exact ⟨rfl, (Below.refl _ _).alloc (Nat.le_refl _) _⟩
  · have hd : decide (c + w.length ≤ R.length) = false := decide_eq_false hle
    rw [hd, Bool.false_and]
    have hle2 : ¬ (c : Int) + (w.length : Int) ≤ (R.length : Int) := by omega
    clear hR hd
    go_enter Try.func7, Try.ntmps7
    go_wp2_with (go_at_call 15; (with_reducible refine (HR.out _).mono ?_); rintro e w1 ⟨rfl, rfl⟩)
    go_ret
    exact ⟨rfl, (Below.refl _ _).alloc (Nat.le_refl _) _⟩
end Go.Proofs.Ytnjnncgefijapaa
