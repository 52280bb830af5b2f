/- LexPlaces returns true, and nothing that was there changes. Under the condition that it names. -/
import Derived.Test.YtnjnncgefijapaaLpA
import Derived.BigQuiet
namespace Go.Proofs.Ytnjnncgefijapaa
open Go.RowKit
/-- What Lines says of a text: the lines are as they should be, one behind the other. -/
theorem line_way (l : List UInt8) (hs : l.length ≤ 9223372036854775807) : ∃ (u v E : Int) (ls : List Ln), ls.length ≤ 65536 ∧ (∀ x ∈ ls, E = 0 ∧ l.length ≤ 65536 ∧ LineOK l x) ∧ (∀ i j, (hij : i < j) → (hj : j < ls.length) → ls[i].1 < ls[j].1) ∧
    (∀ W, Calls Try.prog 6 #[.string ⟨l.toArray⟩] W fun e w' => ∃ x L, e = .returned (.tuple #[x, .agg #[.int .i64 u, .int .i64 v], .int .i64 E]) ∧ L.map Prod.fst = ls ∧ LinesAt w' W.heap.size 31 33 x L ∧ Below W.heap.size W w') := by
  have h1 := fun W => lines_is ⟨l.toArray⟩ W (by rw [mk_size]; exact hs)
  have hd : (⟨l.toArray⟩ : ByteArray).data.toList = l := by simp
  rw [hd] at h1
  rcases chk_form l with ⟨u, v, E, hE, hck⟩ | ⟨hck, h65⟩
  · refine ⟨u, v, E, [], by simp, (fun _ h => by cases h), (fun _ j _ h => by simp at h), fun W => (h1 W).mono fun e w' h => ?_⟩
    obtain ⟨hb, ⟨u', v', E', hE', hc', he⟩ | ⟨x, L, hc', he, hL, ho⟩⟩ := h
    · rw [hck] at hc'
      simp at hc'
      obtain ⟨⟨rfl, rfl⟩, rfl⟩ := hc'
      exact ⟨_, [], he, rfl, LinesAt.nil _ _ _ _, hb⟩
    · rw [hck] at hc'; simp at hc'; omega
  · refine ⟨0, 0, 0, lnk l 1, ?_, fun x hx => ⟨rfl, h65, line_ok l h65 x hx⟩, fun i j hij hj => lnk_rise_at hij hj, fun W => (h1 W).mono fun e w' h => ?_⟩
    · have := lnk_len l.length l 1 (Nat.le_refl _)
      omega
    obtain ⟨hb, ⟨u', v', E', hE', hc', he⟩ | ⟨x, L, hc', he, hL, ho⟩⟩ := h
    · rw [hck] at hc'; simp at hc'; omega
    · exact ⟨x, L, he, hL, ho, hb⟩
/-- What Tokens says of a text. -/
theorem tok_way (l : List UInt8) (hs : l.length ≤ 9223372036854775807) : ∃ (u v E : Int) (d : List (Int × List UInt8 × (Int × Int))), d.length ≤ 65536 ∧ (∀ x ∈ d, E = 0 ∧ l.length ≤ 65536 ∧ TokOK l x) ∧ (∀ i j, (hij : i < j) → (hj : j < d.length) → Ahead d[i].2.2 d[j].2.2) ∧
    (∀ W, Calls Try.prog 8 #[.string ⟨l.toArray⟩] W fun e w' => ∃ x, e = .returned (.tuple #[x, .agg #[.int .i64 u, .int .i64 v], .int .i64 E]) ∧ w'.ownsRow W.heap.size 39 4 x d.length (d.flatMap tokC) ∧ Below W.heap.size W w') := by
  have h1 := fun W => tokens_is ⟨l.toArray⟩ W (by rw [mk_size]; exact hs)
  have hd : (⟨l.toArray⟩ : ByteArray).data.toList = l := by simp
  rw [hd] at h1
  rcases chk_form l with ⟨u, v, E, hE, hck⟩ | ⟨hck, h65⟩
  · refine ⟨u, v, E, [], by simp, (fun _ h => by cases h), (fun _ j _ h => by simp at h), fun W => (h1 W).mono fun e w' h => ?_⟩
    obtain ⟨hb, ⟨u', v', E', hE', hc', he⟩ | ⟨u', v', hc', ht, he⟩ | ⟨x, hc', ht, he, ho⟩⟩ := h
    · rw [hck] at hc'
      simp at hc'
      obtain ⟨⟨rfl, rfl⟩, rfl⟩ := hc'
      exact ⟨_, he, World.ownsRow_nil _ _ _ _, hb⟩
    · rw [hck] at hc'; simp at hc'; omega
    · rw [hck] at hc'; simp at hc'; omega
  · cases ht : (tk l 0).2 with
    | some q =>
      obtain ⟨u, v⟩ := q
      refine ⟨u, v, 71, [], by simp, (fun _ h => by cases h), (fun _ j _ h => by simp at h), fun W => (h1 W).mono fun e w' h => ?_⟩
      obtain ⟨hb, ⟨u', v', E', hE', hc', he⟩ | ⟨u', v', hc', ht', he⟩ | ⟨x, hc', ht', he, ho⟩⟩ := h
      · rw [hck] at hc'; simp at hc'; omega
      · rw [tk_all, ht] at ht'
        simp at ht'
        obtain ⟨rfl, rfl⟩ := ht'
        exact ⟨_, he, World.ownsRow_nil _ _ _ _, hb⟩
      · rw [tk_all, ht] at ht'; cases ht'
    | none =>
      refine ⟨0, 0, 0, (tk l 0).1, ?_, fun x hx => ?_, fun i j hij hj => ?_, fun W => (h1 W).mono fun e w' h => ?_⟩
      · have := toks_len l.length l (1, 1)
        rw [tk_all] at this; omega
      · obtain ⟨j, _, h⟩ := tk_place l l.length 0 (by omega) x hx
        exact ⟨rfl, h65, tok_ok l h65 x j h⟩
      · exact List.pairwise_iff_getElem.1 (tk_rise l l.length 0 (by omega)) i j (by omega) hj hij
      · obtain ⟨hb, ⟨u', v', E', hE', hc', he⟩ | ⟨u', v', hc', ht', he⟩ | ⟨x, hc', ht', he, ho⟩⟩ := h
        · rw [hck] at hc'; simp at hc'; omega
        · rw [tk_all, ht] at ht'; cases ht'
        · rw [tk_all] at ho; exact ⟨_, he, ho, hb⟩
end Go.Proofs.Ytnjnncgefijapaa
