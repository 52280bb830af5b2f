/- Plain facts: what LexPlaces asks of lines and of tokens holds. No condition but those named. -/
import Derived.Test.YtnjnncgefijapaaLpL
import Derived.Test.YtnjnncgefijapaaLpU
import Derived.Test.YtnjnncgefijapaaLpR
import Derived.Test.YtnjnncgefijapaaLwk
import Derived.Test.YtnjnncgefijapaaLnS
import Derived.Test.YtnjnncgefijapaaLxST
namespace Go.Proofs.Ytnjnncgefijapaa
open Go.RowKit
theorem rowN_len : ∀ (l : List UInt8) (n : Nat), (rowN l n).length ≤ l.length
  | l, 0 => by simp only [rowN]; rw [List.length_take]; omega
  | l, n + 1 => by
    simp only [rowN]
    split
    · simp
    · have h1 := rowN_len ((l.drop (nE l)).drop 1) n
      have h2 := rest_len l
      omega
theorem wdsR_first {f : Nat} {l : List UInt8} {c c' : Int} {x : List UInt8} {ws : List (List UInt8 × Int)} (h : (wdsR f l c).1 = (x, c') :: ws) : c' = c := by
  cases f with
  | zero => simp [wdsR] at h
  | succ f =>
    unfold wdsR at h
    split at h
    · cases h
    · simp only [List.cons.injEq, Prod.mk.injEq] at h
      exact h.1.2.symm
theorem placed_bound (t : List UInt8) : ∀ (ws : List (List UInt8 × Int)) (a : Nat), Placed t a ws → ws.length ≤ t.length
  | ws, a, h => by
    have : ∀ (ws : List (List UInt8 × Int)) (a : Nat), Placed t a ws → ws ≠ [] → a + ws.length ≤ t.length := by
      intro ws
      induction ws with
      | nil => intro a _ h; exact absurd rfl h
      | cons y ws ih =>
        intro a h _
        obtain ⟨x, c⟩ := y
        obtain ⟨h1, k, h2, _, h4, _, h6⟩ := h
        have hx : 1 ≤ x.length := List.length_pos_iff.2 h1
        cases ws with
        | nil => simp only [List.length_cons, List.length_nil]; omega
        | cons z ws =>
          have := ih _ h6 (by simp)
          simp only [List.length_cons] at this ⊢
          omega
    cases ws with
    | nil => simp
    | cons y ws => have := this _ a h (by simp); omega
/-- What is asked of a line. -/
def LineOK (l : List UInt8) (x : Ln) : Prop := ∃ (r : Nat) (fw : List UInt8) (ws : List (List UInt8 × Int)), x.1 = (r : Int) + 1 ∧ r ≤ 65536 ∧ (rowN l r).length ≤ 65536 ∧ x.2.2 = (fw, (x.2.1 : Int) + 1) :: ws ∧ x.2.2.length ≤ 65536 ∧ x.2.1 ≤ 65536 ∧ Placed (rowN l r) 0 x.2.2
theorem line_ok (l : List UInt8) (hl : l.length ≤ 65536) : ∀ x ∈ lnk l 1, LineOK l x := by
  intro x hx
  obtain ⟨r, a1, a2, a3, a4, a5, a6⟩ := lnk_place l.length l 1 (Nat.le_refl _) x hx
  have hr := rowN_len l r
  have hp := wk_placed (rowN l r) a3 (rowN l r).length 0 (by omega)
  rw [wk_all, ← a4] at hp
  have hb := placed_bound _ _ _ hp
  have hn := nS_le (rowN l r)
  obtain ⟨⟨fw, c⟩, ws, hw⟩ : ∃ y ws, x.2.2 = y :: ws := by
    cases h : x.2.2 with
    | nil => rw [h] at a4; exact absurd a4.symm a6
    | cons y ws => exact ⟨y, ws, rfl⟩
  have hc : c = 1 + (nS (rowN l r) : Int) := by
    rw [a4] at hw
    unfold wds at hw
    exact wdsR_first hw
  refine ⟨r, fw, ws, by omega, by omega, by omega, ?_, by omega, by omega, hp⟩
  rw [hw, hc, a5, Int.add_comm]
/-- The words of a line from one on. -/
theorem placed_head {l x : List UInt8} {r a : Nat} {c : Int} {ws : List (List UInt8 × Int)} (h : Placed (rowN l r) a ((x, c) :: ws)) (hl : (rowN l r).length ≤ 65536) :
    ∃ k : Nat, x ≠ [] ∧ a ≤ k ∧ c = (k : Int) + 1 ∧ k + x.length ≤ 65536 ∧ standsB l x ((r : Int) + 1, (k : Int) + 1) = true ∧ Placed (rowN l r) (k + x.length + 1) ws := by
  obtain ⟨h1, k, h2, h3, h4, h5, h6⟩ := h
  refine ⟨k, h1, h2, by omega, by omega, ?_, h6⟩
  unfold standsB
  simp only
  rw [show ((r : Int) + 1 - 1).toNat = r by omega, show ((k : Int) + 1 - 1).toNat = k by omega, h5]
  simp
  omega
theorem lnk_rise_at {l : List UInt8} {i j : Nat} (hij : i < j) (hj : j < (lnk l 1).length) : (lnk l 1)[i].1 < (lnk l 1)[j].1 :=
  List.pairwise_iff_getElem.1 (lnk_rise l.length l 1 (Nat.le_refl _)) i j (by omega) hj hij
theorem adv_line : ∀ (t : List UInt8) (ln c : Int), (adv t (ln, c)).1 ≤ ln + t.length
  | [], ln, c => by simp [adv]
  | b :: t, ln, c => by
    simp only [adv, List.length_cons]
    split
    · have := adv_line t (ln + 1) 1; omega
    · have := adv_line t ln (c + 1); omega
/-- What is asked of a token: its place, and what stands there. -/
def TokOK (l : List UInt8) (x : Int × List UInt8 × (Int × Int)) : Prop := ∃ r c : Nat, x.2.2 = ((r : Int) + 1, (c : Int) + 1) ∧ r ≤ 65536 ∧ c ≤ 65536 ∧ x.2.1.length ≤ 65536 ∧
  ((standsB l [34] ((r : Int) + 1, (c : Int) + 1) = true ∧ standsB l x.2.1 ((r : Int) + 1, ((c + 1 : Nat) : Int) + 1) = true) ∨
   (standsB l [34] ((r : Int) + 1, (c : Int) + 1) = false ∧ standsB l x.2.1 ((r : Int) + 1, (c : Int) + 1) = true ∧ x.2.1 ≠ []))
theorem pre_one (b : UInt8) (t : List UInt8) (n : Nat) (hn : 1 ≤ n) : [34].isPrefixOf ((b :: t).take n) = (b == 34) := by
  obtain ⟨m, rfl⟩ : ∃ m, n = m + 1 := ⟨n - 1, by omega⟩
  rw [List.take_succ_cons]
  exact one_cons 34 b _
theorem tok_ok (l : List UInt8) (hl : l.length ≤ 65536) (x : Int × List UInt8 × (Int × Int)) (j : Nat) (h : TokAt l x j) : TokOK l x := by
  obtain ⟨hj, h1, h2, h3, h4⟩ := h
  obtain ⟨n, c, hp, hc, hd⟩ := row_place l j (by omega)
  have hr := rowN_len l n
  have hn : n ≤ 65536 := by
    have := adv_line (l.take j) 1 1
    rw [hp] at this
    rw [List.length_take] at this
    simp only at this
    omega
  have hE : 1 ≤ nE (l.drop j) := by rw [drop_cons hj, nE_cons, if_neg h2]; omega
  have hq : standsB l [34] (1 + (n : Int), 1 + (c : Int)) = (l[j] == 34) := by
    rw [← hp, stands_at l _ j (by omega), drop_cons hj, pre_one _ _ _ (by rw [← drop_cons hj]; exact hE)]
  have hxl : ∀ w : List UInt8, ∀ k, k ≤ l.length → w.isPrefixOf ((l.drop k).take (nE (l.drop k))) = true → w.length ≤ 65536 := by
    intro w k hk hw
    have := List.IsPrefix.length_le (List.isPrefixOf_iff_prefix.1 hw)
    rw [List.length_take, List.length_drop] at this
    omega
  by_cases hb : l[j] = 34
  · have hx := h3 hb
    have hnext : adv (l.take (j + 1)) (1, 1) = (1 + (n : Int), 1 + (c : Int) + 1) := by
      rw [List.take_succ_eq_append_getElem hj, adv_app, hp]
      simp [adv, h2]
    have hs : standsB l x.2.1 (1 + (n : Int), 1 + (c : Int) + 1) = true := by
      rw [← hnext, stands_at l _ (j + 1) (by omega)]; exact hx
    refine ⟨n, c, by rw [h1, hp]; simp only [Prod.mk.injEq]; omega, hn, by omega, hxl _ _ (by omega) hx, .inl ⟨?_, ?_⟩⟩
    · rw [show ((n : Int) + 1, (c : Int) + 1) = (1 + (n : Int), 1 + (c : Int)) by simp only [Prod.mk.injEq]; omega, hq, hb]; rfl
    · rw [show ((n : Int) + 1, ((c + 1 : Nat) : Int) + 1) = (1 + (n : Int), 1 + (c : Int) + 1) by simp only [Prod.mk.injEq]; omega]; exact hs
  · obtain ⟨hne, hx⟩ := h4 hb
    have hs : standsB l x.2.1 (1 + (n : Int), 1 + (c : Int)) = true := by
      rw [← hp, stands_at l _ j (by omega)]; exact hx
    refine ⟨n, c, by rw [h1, hp]; simp only [Prod.mk.injEq]; omega, hn, by omega, hxl _ _ (by omega) hx, .inr ⟨?_, ?_, hne⟩⟩
    · rw [show ((n : Int) + 1, (c : Int) + 1) = (1 + (n : Int), 1 + (c : Int)) by simp only [Prod.mk.injEq]; omega, hq]; simpa using hb
    · rw [show ((n : Int) + 1, (c : Int) + 1) = (1 + (n : Int), 1 + (c : Int)) by simp only [Prod.mk.injEq]; omega]; exact hs
theorem toks_len : ∀ (f : Nat) (l : List UInt8) (q : Int × Int), (toks f l q).1.length ≤ l.length
  | 0, _, _ => by simp [toks]
  | _ + 1, [], _ => by simp [toks]
  | f + 1, b :: r, q => by
    simp only [toks]
    have hlt := (part_off b r q).lt
    have ih := toks_len f (partR (b :: r) q).rest (partR (b :: r) q).at'
    split
    · simp
    · simp only [List.length_append]
      split
      · simp only [List.length_nil]; omega
      · simp only [List.length_singleton]; omega
theorem own_form {W : World} {B n k : Nat} {e : TypeId} {v : Value} {xs : List Value} (h : W.ownsRow B e k v n xs) : ∃ p c, v = .slice p n c ∧ (0 < n → ∃ g, p = some ⟨g, 0, none⟩ ∧ B ≤ g ∧ g < W.heap.size) := by
  rcases h.2 with ⟨rfl, rfl⟩ | ⟨g, cap, cur, rfl, hg, hh, _⟩
  · exact ⟨_, _, rfl, fun h => by omega⟩
  · exact ⟨_, _, rfl, fun _ => ⟨g, rfl, hg, (Array.getElem?_eq_some_iff.1 hh).1⟩⟩
end Go.Proofs.Ytnjnncgefijapaa
