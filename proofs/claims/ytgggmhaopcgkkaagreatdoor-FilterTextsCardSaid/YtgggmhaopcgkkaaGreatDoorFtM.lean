/- A text cut at its blanks; nothing here speaks of the program. No condition. -/
import Derived.Test.YtgggmhaopcgkkaaGreatDoorFbM
namespace Go.Proofs.YtgggmhaopcgkkaaGreatDoor
open Go.RowKit
def sp32 : List UInt8 → List (List UInt8)
  | [] => [[]]
  | c :: l => if c = 32 then [] :: sp32 l else match sp32 l with
    | p :: ps => (c :: p) :: ps
    | [] => [[c]]
theorem sp32_ne : ∀ l, sp32 l ≠ []
  | [] => by simp [sp32]
  | c :: l => by
    unfold sp32
    by_cases h : c = 32
    · rw [if_pos h]; simp
    · rw [if_neg h]; split <;> simp
theorem sp32_dot : ∀ (p r : List UInt8), 32 ∉ p → sp32 (p ++ 32 :: r) = p :: sp32 r
  | [], r, _ => by simp [sp32]
  | c :: p, r, h => by
    have h1 : ¬ c = 32 := fun e => h (by rw [e]; simp)
    have h2 := sp32_dot p r (fun hm => h (by simp [hm]))
    simp only [List.cons_append, sp32]
    rw [if_neg h1, h2]
theorem sp32_none : ∀ (p : List UInt8), 32 ∉ p → sp32 p = [p]
  | [], _ => by simp [sp32]
  | c :: p, h => by
    have h1 : ¬ c = 32 := fun e => h (by rw [e]; simp)
    have h2 := sp32_none p (fun hm => h (by simp [hm]))
    simp only [sp32]
    rw [if_neg h1, h2]
theorem sp32_len : ∀ (l : List UInt8) (p : List UInt8), p ∈ sp32 l → p.length ≤ l.length
  | [], p, h => by simp [sp32] at h; simp [h]
  | c :: l, p, h => by
    unfold sp32 at h
    by_cases hc : c = 32
    · rw [if_pos hc] at h
      rcases List.mem_cons.mp h with h | h
      · simp [h]
      · have := sp32_len l p h; simp; omega
    · rw [if_neg hc] at h
      cases hs : sp32 l with
      | nil => exact absurd hs (sp32_ne l)
      | cons q qs =>
        rw [hs] at h
        rcases List.mem_cons.mp h with h | h
        · have := sp32_len l q (by rw [hs]; simp)
          rw [h]; simp; omega
        · have := sp32_len l p (by rw [hs]; simp [h])
          simp; omega
theorem proto_num255 {n : Int} (h0 : -1 ≤ n) (h1 : n ≤ 255) {l : List UInt8} (h : protoT n = l) (hl : l ≠ anyW) : num l 255 = some n.toNat := by
  unfold protoT at h
  split at h
  · exact absurd h.symm hl
  · rename_i hn
    rw [← h, itoa_nat (by omega)]; exact num_dec _ _ (by omega)
theorem sp32_join : ∀ (r : List (List UInt8)) (x : List UInt8), (∀ y ∈ x :: r, (32 : UInt8) ∉ y) → sp32 (Lib.join (x :: r) [32]) = x :: r
  | [], x, h => by
    rw [Lib.join_one]
    exact sp32_none x (h x (by simp))
  | y :: r, x, h => by
    have e : Lib.join (x :: y :: r) [32] = x ++ 32 :: Lib.join (y :: r) [32] := by
      rw [Lib.join_cons, Lib.join_cons]; simp [Lib.joinTail]
    rw [e, sp32_dot _ _ (h x (by simp)), sp32_join r y (fun z hz => h z (by simp at hz ⊢; right; exact hz))]
theorem sp32_text {r : RuleD} (hp : PortsOk r) (hm : MayP r) {l : List UInt8} (h : rtext r = l) : sp32 l = rwords r := by
  subst h
  exact sp32_join _ _ (no_blank hp hm)
end Go.Proofs.YtgggmhaopcgkkaaGreatDoor
