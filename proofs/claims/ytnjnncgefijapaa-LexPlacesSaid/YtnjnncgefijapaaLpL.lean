/- Plain facts: where the words of a text of lines stand. No condition but those named. -/
import Derived.Test.YtnjnncgefijapaaLpM
namespace Go.Proofs.Ytnjnncgefijapaa
theorem lnk_place : ∀ (m : Nat) (l : List UInt8) (n : Int), l.length ≤ m → ∀ x ∈ lnk l n, ∃ r : Nat, x.1 = n + r ∧ r ≤ l.length ∧ noNl (rowN l r) ∧ x.2.2 = wds (rowN l r) ∧ x.2.1 = nS (rowN l r) ∧ wds (rowN l r) ≠ []
  | 0, l, n, h, x, hx => by
    have : l = [] := List.length_eq_zero_iff.1 (by omega)
    subst this
    simp [lnk_nil] at hx
  | m + 1, l, n, h, x, hx => by
    rw [lnk_step] at hx
    rcases List.mem_append.1 hx with hx | hx
    · split at hx
      · cases hx
      · rename_i hne
        rw [List.mem_singleton] at hx
        subst hx
        obtain ⟨h1, _, h3⟩ := lineR_is l
        have hb : bang (l.take (nE l)) ≠ true := fun e => hne (by rw [h1, if_pos e])
        rw [if_neg hb] at h1
        refine ⟨0, by simp, by omega, take_nE l, ?_, ?_, ?_⟩
        · simp only [rowN]; exact h1
        · simp only [rowN]; exact h3
        · simp only [rowN]; rw [← h1]; exact hne
    · have hl := rest_len l
      by_cases he : l.drop (nE l) = []
      · rw [he] at hx
        simp [lnk_nil] at hx
      · have h0 : 0 < l.length := by
          rcases Nat.eq_zero_or_pos l.length with h | h
          · exact absurd (by rw [List.length_eq_zero_iff.1 h]; rfl) he
          · exact h
        obtain ⟨r, a1, a2, a3, a4, a5, a6⟩ := lnk_place m ((l.drop (nE l)).drop 1) (n + 1) (by omega) x hx
        have hr : rowN l (r + 1) = rowN ((l.drop (nE l)).drop 1) r := by
          simp only [rowN]
          rw [if_neg he]
        refine ⟨r + 1, by omega, by omega, by rw [hr]; exact a3, by rw [hr]; exact a4, by rw [hr]; exact a5, by rw [hr]; exact a6⟩
theorem lnk_rise : ∀ (m : Nat) (l : List UInt8) (n : Int), l.length ≤ m → (lnk l n).Pairwise (fun a b => a.1 < b.1)
  | 0, l, n, h => by
    have : l = [] := List.length_eq_zero_iff.1 (by omega)
    subst this
    simp [lnk_nil]
  | m + 1, l, n, h => by
    by_cases h0 : l = []
    · subst h0; simp [lnk_nil]
    have hlen : 0 < l.length := List.length_pos_iff.2 h0
    have hl := rest_len l
    rw [lnk_step, List.pairwise_append]
    refine ⟨?_, lnk_rise m _ _ (by omega), ?_⟩
    · split <;> simp
    · intro a ha b hb
      split at ha
      · cases ha
      · rw [List.mem_singleton] at ha
        obtain ⟨r, h1, _⟩ := lnk_place m _ _ (by omega) b hb
        rw [ha]
        simp only
        omega
/-- The words of a line from byte a on stand where they say, one behind the other. -/
def Placed (t : List UInt8) : Nat → List (List UInt8 × Int) → Prop
  | _, [] => True
  | a, (x, c) :: ws => x ≠ [] ∧ ∃ k : Nat, a ≤ k ∧ c = 1 + (k : Int) ∧ k + x.length ≤ t.length ∧ (t.drop k).take x.length = x ∧ Placed t (k + x.length + 1) ws
theorem drop_nB : ∀ l : List UInt8, l.drop (nB l) = [] ∨ ∃ b r, l.drop (nB l) = b :: r ∧ (b = 32 ∨ b = 10)
  | [] => .inl rfl
  | b :: r => by
    rw [nB_cons]
    split
    · rename_i h; exact .inr ⟨b, r, rfl, h⟩
    · rw [List.drop_succ_cons]; exact drop_nB r
theorem wk_next (t : List UInt8) (ht : noNl t) (a : Nat) : wk t (a + nB (t.drop a)) = wk t (a + nB (t.drop a) + 1) := by
  obtain ⟨j, hj⟩ : ∃ j, a + nB (t.drop a) = j := ⟨_, rfl⟩
  have hd := drop_nB (t.drop a)
  rw [List.drop_drop, hj] at hd
  rw [hj]
  by_cases hl : t.length ≤ j
  · rw [wk_end hl, wk_end (by omega)]
  · have hlt : j < t.length := by omega
    rw [List.drop_eq_getElem_cons hlt] at hd
    rcases hd with h | ⟨b, r, h, hb⟩
    · cases h
    · have hb2 : t[j] = b := (List.cons.inj h).1
      have h32 : t[j] = 32 := by
        rcases hb with h | h
        · rw [hb2, h]
        · exact absurd (by rw [hb2, h]) (ht t[j] (List.getElem_mem hlt))
      exact wk_sp hlt h32
theorem wk_placed (t : List UInt8) (ht : noNl t) : ∀ (m a : Nat), t.length ≤ a + m → Placed t a (wk t a)
  | 0, a, h => by rw [wk_end (by omega)]; exact trivial
  | m + 1, a, h => by
    by_cases ha : t.length ≤ a
    · rw [wk_end ha]; exact trivial
    · have hlt : a < t.length := by omega
      by_cases hb : t[a] = 32
      · rw [wk_sp hlt hb]
        have := wk_placed t ht m (a + 1) (by omega)
        revert this
        cases wk t (a + 1) with
        | nil => exact fun _ => trivial
        | cons y ws =>
          obtain ⟨x, c⟩ := y
          rintro ⟨h1, k, h2, h3⟩
          exact ⟨h1, k, by omega, h3⟩
      · rw [wk_word hlt ht hb]
        have hs := nB_step hlt ht hb
        have hle := nB_le (t.drop a)
        rw [List.length_drop] at hle
        have hl : ((t.drop a).take (nB (t.drop a))).length = nB (t.drop a) := by rw [List.length_take, List.length_drop]; omega
        refine ⟨?_, a, Nat.le_refl _, rfl, by rw [hl]; omega, by rw [hl], ?_⟩
        · intro e
          rw [e] at hl
          simp at hl
          omega
        · rw [hl, wk_next t ht a]
          exact wk_placed t ht m (a + nB (t.drop a) + 1) (by omega)
end Go.Proofs.Ytnjnncgefijapaa
