/- Plain facts: the places of tokens rise. No condition but those named. -/
import Derived.Test.YtnjnncgefijapaaLpT
namespace Go.Proofs.Ytnjnncgefijapaa
/-- Ahead of another place. -/
def Ahead (q r : Int × Int) : Prop := q.1 < r.1 ∨ (q.1 = r.1 ∧ q.2 < r.2)
theorem adv_rise : ∀ (b : UInt8) (t : List UInt8) (q : Int × Int), Ahead q (adv (b :: t) q)
  | b, [], q => by
    simp only [adv]
    split
    · exact .inl (by simp only; omega)
    · exact .inr ⟨rfl, by simp only; omega⟩
  | b, c :: t, q => by
    rw [show adv (b :: c :: t) q = adv (c :: t) (if b = 10 then (q.1 + 1, 1) else (q.1, q.2 + 1)) from rfl]
    have := adv_rise c t (if b = 10 then (q.1 + 1, 1) else (q.1, q.2 + 1))
    revert this
    split
    · rintro (h | ⟨h, _⟩)
      · exact .inl (by simp only at h; omega)
      · exact .inl (by simp only at h; omega)
    · rintro (h | ⟨h, h2⟩)
      · exact .inl h
      · exact .inr ⟨h, by simp only at h2; omega⟩
theorem at_rise (l : List UInt8) (j j' : Nat) (h : j < j') (hl : j' ≤ l.length) : Ahead (adv (l.take j) (1, 1)) (adv (l.take j') (1, 1)) := by
  have hd : l.take j' = l.take j ++ (l.drop j).take (j' - j) := by rw [← List.take_add]; congr 1; omega
  rw [hd, adv_app]
  have hlt : j < l.length := by omega
  rw [drop_cons hlt, show j' - j = (j' - j - 1) + 1 by omega, List.take_succ_cons]
  exact adv_rise _ _ _
def TokUp (l : List UInt8) (a b : Int × List UInt8 × (Int × Int)) : Prop := Ahead a.2.2 b.2.2 
theorem tk_rise (l : List UInt8) : ∀ (m k : Nat), l.length ≤ k + m → (tk l k).1.Pairwise (TokUp l)
  | 0, k, h => by rw [tk_end (by omega)]; exact List.Pairwise.nil
  | m + 1, k, h => by
    by_cases hk : l.length ≤ k
    · rw [tk_end hk]; exact List.Pairwise.nil
    have hlt : k < l.length := by omega
    have put : ∀ (E : Nat) (x : Int × List UInt8 × (Int × Int)), k < E → x.2.2 = adv (l.take k) (1, 1) → ([x] ++ (tk l E).1).Pairwise (TokUp l) := fun E x hE hx => by
      rw [List.pairwise_append]
      refine ⟨by simp, tk_rise l m E (by omega), fun a ha b hb => ?_⟩
      rw [List.mem_singleton] at ha
      obtain ⟨j, h1, hj, h2, _⟩ := tk_place l l.length E (by omega) b hb
      unfold TokUp
      rw [ha, hx, h2]
      exact at_rise l k j (by omega) (by omega)
    by_cases h32 : l[k] = 32
    · rw [tk_blank hlt (.inl h32)]; exact tk_rise l m _ (by omega)
    by_cases h10 : l[k] = 10
    · rw [tk_blank hlt (.inr h10)]; exact tk_rise l m _ (by omega)
    by_cases h35 : l[k] = 35
    · obtain ⟨h1, h2⟩ := tk_note hlt h35
      have := cntE_step hlt h10
      rw [h1]; exact tk_rise l m _ (by omega)
    by_cases h34 : l[k] = 34
    · rcases tk_quo hlt h34 with ⟨_, h1⟩ | ⟨E, h0, h1, h2, h3⟩
      · rw [h1]; exact List.Pairwise.nil
      · rw [h3]; exact put E _ (by omega) rfl
    by_cases hc : [47, 42].isPrefixOf (l.drop k) = true
    · rcases tk_com hlt hc with ⟨_, h1⟩ | ⟨E, _, h1, _, h3⟩
      · rw [h1]; exact List.Pairwise.nil
      · rw [h3]; exact tk_rise l m _ (by omega)
    by_cases hs : sgn (l[k]).toNat ≠ 0
    · rw [tk_sign hlt hs]; exact put _ _ (by omega) rfl
    · have hw : pWord (l.drop k) = false := by
        have hs0 : sgn (l[k]).toNat = 0 := by simpa using hs
        have hc0 : [47, 42].isPrefixOf (l.drop k) = false := Bool.eq_false_iff.2 hc
        rw [drop_cons hlt, pWord_cons]
        simp [h32, h10, h34, h35, hs0, hc0]
      obtain ⟨h1, h2, h3⟩ := tk_word hlt hw
      rw [h1]; exact put _ _ h3 rfl
end Go.Proofs.Ytnjnncgefijapaa
