/- Plain facts: what the check says of a few long texts. No condition. -/
import Derived.Test.YtidcipefoplncaaLwk
namespace Go.Proofs.Ytidcipefoplncaa
open Go.RowKit
theorem pF_a (r : List UInt8) : pF (97 :: r) 1 = false := rfl
theorem cnt_a : ∀ (n : Nat) (c : Int), cntU pF (List.replicate n 97) (1, c) = n
  | 0, _ => rfl
  | n + 1, c => by
    rw [List.replicate_succ]
    simp only [cntU]
    rw [if_neg (by rw [pF_a]; simp), show stp 97 (1, c) = (1, c + 1) from rfl, cnt_a n (c + 1)]
theorem pF_nl (r : List UInt8) (ln : Int) (h : ln ≤ 4096) : pF (10 :: r) ln = false := by
  unfold pF
  simp only
  rw [show bad ((10 : UInt8).toNat : Int) = false from by decide]
  simp; omega
theorem cnt_nl (r : List UInt8) : ∀ (n : Nat) (ln : Int), ln + n ≤ 4097 → cntU pF (List.replicate n 10 ++ r) (ln, 1) = n + cntU pF r (ln + n, 1)
  | 0, ln, _ => by simp
  | n + 1, ln, h => by
    rw [List.replicate_succ, List.cons_append]
    simp only [cntU]
    rw [if_neg (by rw [pF_nl _ _ (by omega)]; simp), show stp 10 (ln, 1) = (ln + 1, 1) from rfl, cnt_nl r n (ln + 1) (by omega)]
    have : ln + 1 + (n : Int) = ln + ((n + 1 : Nat) : Int) := by omega
    rw [this]; omega
theorem adv_nl : ∀ (n : Nat) (ln : Int), adv (List.replicate n 10) (ln, 1) = (ln + n, 1)
  | 0, ln => by simp [adv]
  | n + 1, ln => by
    rw [List.replicate_succ]
    simp only [adv, if_true]
    rw [adv_nl n (ln + 1)]
    simp; omega
theorem chk_a : ChkV (List.replicate 65536 97) = .tuple #[.agg #[.int .i64 0, .int .i64 0], .int .i64 0] := by
  unfold ChkV
  rw [cnt_a, List.length_replicate, if_neg (by decide), if_pos rfl]
theorem chk_long : ChkV (List.replicate 65537 97) = .tuple #[.agg #[.int .i64 0, .int .i64 0], .int .i64 3] := by
  unfold ChkV
  rw [List.length_replicate, if_pos (by decide)]
theorem chk_nl : ChkV (List.replicate 4096 10) = .tuple #[.agg #[.int .i64 0, .int .i64 0], .int .i64 0] := by
  unfold ChkV
  have := cnt_nl [] 4096 1 (by decide)
  rw [List.append_nil] at this
  rw [this, List.length_replicate, if_neg (by decide), if_pos (by rfl)]
theorem chk_far (b : UInt8) : ChkV (List.replicate 4096 10 ++ [b]) = .tuple #[.agg #[.int .i64 4097, .int .i64 1], .int .i64 3] := by
  unfold ChkV
  have h1 := cnt_nl [b] 4096 1 (by decide)
  have h2 : cntU pF [b] (1 + ((4096 : Nat) : Int), 1) = 0 := by
    simp only [cntU]
    rw [if_pos]
    unfold pF
    simp
  rw [h2] at h1
  have hl : (List.replicate 4096 10 ++ [b]).length = 4097 := by rw [List.length_append, List.length_replicate]; rfl
  have ht : (List.replicate 4096 (10 : UInt8) ++ [b]).take (4096 + 0) = List.replicate 4096 10 := by
    rw [Nat.add_zero, List.take_append_of_le_length (Nat.le_of_eq List.length_replicate.symm), List.take_of_length_le (Nat.le_of_eq List.length_replicate)]
  rw [h1, hl, if_neg (by decide), if_neg (by decide), ht, adv_nl, if_pos (by decide)]
  rfl
theorem chk_del : ChkV [97, 98, 10, 32, 127] = .tuple #[.agg #[.int .i64 2, .int .i64 2], .int .i64 70] := by kernel_rfl
theorem nE_a : ∀ n : Nat, nE (List.replicate n 97) = n
  | 0 => rfl
  | n + 1 => by rw [List.replicate_succ, nE_cons, if_neg (by decide), nE_a n]
theorem lnk_a : (lnk (List.replicate 65536 97) 1).length = 1 := by
  have hn := nE_a 65536
  obtain ⟨t, ht⟩ : ∃ t : List UInt8, List.replicate 65536 97 = 97 :: t := ⟨List.replicate 65535 97, List.replicate_succ⟩
  have hl : (97 :: t : List UInt8).length = 65536 := by rw [← ht, List.length_replicate]
  rw [ht] at hn ⊢
  have hnl : noNl (97 :: t) := by rw [← ht]; intro b hb; rw [(List.mem_replicate.1 hb).2]; decide
  have hlr := (lineR_is (97 :: t)).1
  rw [hn, List.take_of_length_le (by omega)] at hlr
  have hw : wds (97 :: t) ≠ [] := by
    rw [← wk_all, wk_word (by simp) hnl (by simp)]
    simp
  have hb : bang (97 :: t) = false := by
    unfold bang
    rw [nS_cons, if_neg (by decide), List.drop_zero, one_cons]
    rfl
  rw [hb, if_neg (by simp)] at hlr
  rw [lnk_step, hlr, if_neg hw, hn, List.drop_of_length_le (l := 97 :: t) (by omega)]
  rfl
end Go.Proofs.Ytidcipefoplncaa
