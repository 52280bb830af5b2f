/- Plain facts: where the tokens of a text of braces stand. No condition but those named. -/
import Derived.Test.YtnjnncgefijapaaLpM
namespace Go.Proofs.Ytnjnncgefijapaa
/-- A token stands at byte j. -/
def TokAt (l : List UInt8) (x : Int × List UInt8 × (Int × Int)) (j : Nat) : Prop := ∃ h : j < l.length, x.2.2 = adv (l.take j) (1, 1) ∧ l[j] ≠ 10 ∧ (l[j] = 34 → x.2.1.isPrefixOf ((l.drop (j + 1)).take (nE (l.drop (j + 1)))) = true) ∧ (l[j] ≠ 34 → x.2.1 ≠ [] ∧ x.2.1.isPrefixOf ((l.drop j).take (nE (l.drop j))) = true)
theorem pre_line {r : List UInt8} {n : Nat} (hn : n ≤ r.length) (h : noNl (r.take n)) : (r.take n).isPrefixOf (r.take (nE r)) = true := by
  have : n ≤ nE r := by
    by_cases hle : n ≤ nE r
    · exact hle
    · exfalso
      rcases drop_nE r with h0 | ⟨u, h0⟩
      · have := congrArg List.length h0
        rw [List.length_drop, List.length_nil] at this
        omega
      · have hlt : nE r < r.length := by omega
        rw [List.drop_eq_getElem_cons hlt] at h0
        have hb := (List.cons.inj h0).1
        exact h r[nE r] (List.mem_take_iff_getElem.2 ⟨nE r, by omega, rfl⟩) hb
  rw [List.isPrefixOf_iff_prefix]
  exact List.take_prefix_take_left this
theorem cnt_noNl (p : List UInt8 → Int → Bool) (hp : ∀ r x, p (10 :: r) x = true) : ∀ (l : List UInt8) (q : Int × Int), noNl (l.take (cntU p l q))
  | [], _ => by intro b hb; simp at hb
  | b :: r, q => by
    simp only [cntU]
    split
    · intro x hx; simp at hx
    · rename_i h
      intro x hx
      rw [List.take_succ_cons] at hx
      rcases List.mem_cons.1 hx with rfl | hx
      · intro e
        rw [e] at h
        exact h (hp r q.1)
      · exact cnt_noNl p hp r _ x hx
theorem quo_noNl {l : List UInt8} {k E : Nat} (h : clQ l k = (E : Int)) : noNl ((l.drop k).take (E - 1 - k)) ∧ E - 1 - k ≤ (l.drop k).length := by
  unfold clQ at h
  split at h
  · have : E - 1 - k = cntU pQuo (l.drop k) (0, 0) := by omega
    rw [this]
    exact ⟨cnt_noNl pQuo (fun r x => by rw [pQuo_cons]; rfl) _ _, cntU_le _ _ _⟩
  · omega
theorem tk_place (l : List UInt8) : ∀ (m k : Nat), l.length ≤ k + m → ∀ x ∈ (tk l k).1, ∃ j, k ≤ j ∧ TokAt l x j
  | 0, k, h, x, hx => by rw [tk_end (by omega)] at hx; cases hx
  | m + 1, k, h, x, hx => by
    by_cases hk : l.length ≤ k
    · rw [tk_end hk] at hx; cases hx
    have hlt : k < l.length := by omega
    have go : ∀ E, k < E → ∀ x ∈ (tk l E).1, ∃ j, k ≤ j ∧ TokAt l x j := fun E hE x hx => by
      obtain ⟨j, h1, h2⟩ := tk_place l m E (by omega) x hx
      exact ⟨j, by omega, h2⟩
    by_cases h32 : l[k] = 32
    · rw [tk_blank hlt (.inl h32)] at hx; exact go _ (by omega) x hx
    by_cases h10 : l[k] = 10
    · rw [tk_blank hlt (.inr h10)] at hx; exact go _ (by omega) x hx
    by_cases h35 : l[k] = 35
    · obtain ⟨h1, h2⟩ := tk_note hlt h35
      have := cntE_step hlt h10
      rw [h1] at hx; exact go _ (by omega) x hx
    by_cases h34 : l[k] = 34
    · rcases tk_quo hlt h34 with ⟨_, h1⟩ | ⟨E, h0, h1, h2, h3⟩
      · rw [h1] at hx; cases hx
      · rw [h3] at hx
        rcases List.mem_append.1 hx with hx | hx
        · rw [List.mem_singleton] at hx
          refine ⟨k, Nat.le_refl _, hlt, by rw [hx], h10, fun _ => ?_, fun h => absurd h34 h⟩
          rw [hx]
          have hq := quo_noNl h0
          exact pre_line hq.2 hq.1
        · exact go _ (by omega) x hx
    by_cases hc : [47, 42].isPrefixOf (l.drop k) = true
    · rcases tk_com hlt hc with ⟨_, h1⟩ | ⟨E, _, h1, _, h3⟩
      · rw [h1] at hx; cases hx
      · rw [h3] at hx; exact go _ h1 x hx
    by_cases hs : sgn (l[k]).toNat ≠ 0
    · rw [tk_sign hlt hs] at hx
      rcases List.mem_append.1 hx with hx | hx
      · rw [List.mem_singleton] at hx
        refine ⟨k, Nat.le_refl _, hlt, by rw [hx], h10, fun h => absurd h h34, fun _ => ⟨by rw [hx]; simp, ?_⟩⟩
        rw [hx]
        have : [l[k]] = (l.drop k).take 1 := by rw [drop_cons hlt]; rfl
        simp only
        rw [this]
        refine pre_line (by rw [List.length_drop]; omega) ?_
        rw [← this]
        intro b hb
        rw [List.mem_singleton] at hb
        rw [hb]; exact h10
      · exact go _ (by omega) x hx
    · have hw : pWord (l.drop k) = false := by
        have hs0 : sgn (l[k]).toNat = 0 := by simpa using hs
        have hc0 : [47, 42].isPrefixOf (l.drop k) = false := Bool.eq_false_iff.2 hc
        rw [drop_cons hlt, pWord_cons]
        simp [h32, h10, h34, h35, hs0, hc0]
      obtain ⟨h1, h2, h3⟩ := tk_word hlt hw
      rw [h1] at hx
      rcases List.mem_append.1 hx with hx | hx
      · rw [List.mem_singleton] at hx
        refine ⟨k, Nat.le_refl _, hlt, by rw [hx], h10, fun h => absurd h h34, fun _ => ⟨?_, ?_⟩⟩
        · rw [hx]
          simp only
          intro e
          have := congrArg List.length e
          rw [List.length_take, List.length_drop] at this
          simp at this
          omega
        · rw [hx]
          refine pre_line (by rw [List.length_drop]; omega) ?_
          exact cnt_noNl pW (fun r x => by unfold pW; rw [pWord_cons]; rfl) _ _
      · exact go _ h3 x hx
end Go.Proofs.Ytnjnncgefijapaa
