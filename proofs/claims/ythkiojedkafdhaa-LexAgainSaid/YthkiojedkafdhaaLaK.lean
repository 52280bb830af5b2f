/- What Tokens says, two ways; bytes put together. Under the conditions that they name. -/
import Derived.Test.YthkiojedkafdhaaLxY
import Derived.Laws.OwnMore
namespace Go.Proofs.Ythkiojedkafdhaa
open Go.RowKit
theorem own_form {W : World} {B n k : Nat} {e : TypeId} {v : Value} {xs : List Value} (h : W.ownsRow B e k v n xs) : ∃ p c, v = .slice p n c ∧ (0 < n → ∃ g, p = some ⟨g, 0, none⟩ ∧ B ≤ g ∧ g < W.heap.size) := by
  rcases h.2 with ⟨rfl, rfl⟩ | ⟨g, cap, cur, rfl, hg, hh, _⟩
  · exact ⟨_, _, rfl, fun h => by omega⟩
  · exact ⟨_, _, rfl, fun _ => ⟨g, rfl, hg, (Array.getElem?_eq_some_iff.1 hh).1⟩⟩
theorem tok_at (d : List (Int × List UInt8 × (Int × Int))) (k : Nat) (hk : k < d.length) (o : Nat) (ho : o < 4) : (d.flatMap tokC)[k * 4 + o]? = (tokC d[k])[o]? := by
  induction d generalizing k with
  | nil => simp at hk
  | cons t r ih =>
    have ht : (tokC t).length = 4 := rfl
    rw [List.flatMap_cons]
    cases k with
    | zero => rw [List.getElem?_append_left (by omega)]; simp
    | succ k =>
      rw [List.getElem?_append_right (by omega), ht, show (k + 1) * 4 + o - 4 = k * 4 + o by omega, ih k (by simpa using hk)]
      simp
theorem tok_cells {W : World} {B g cap : Nat} {e : TypeId} {d : List (Int × List UInt8 × (Int × Int))} (h : W.ownsRow B e 4 (.slice (some ⟨g, 0, none⟩) d.length cap) d.length (d.flatMap tokC)) {k : Nat} (hk : k < d.length) :
    W.cell? ⟨g, k * 4, none⟩ = some (.int .u8 d[k].1) ∧ W.cell? ⟨g, k * 4 + 1, none⟩ = some (.string ⟨d[k].2.1.toArray⟩) ∧ W.cell? ⟨g, k * 4 + 2, none⟩ = some (.int .i64 d[k].2.2.1) ∧ W.cell? ⟨g, k * 4 + 3, none⟩ = some (.int .i64 d[k].2.2.2) := by
  refine ⟨?_, ?_, ?_, ?_⟩
  · rw [h.cellAt (k * 4) (by omega)]; exact tok_at d k hk 0 (by omega)
  · rw [h.cellAt (k * 4 + 1) (by omega)]; exact tok_at d k hk 1 (by omega)
  · rw [h.cellAt (k * 4 + 2) (by omega)]; exact tok_at d k hk 2 (by omega)
  · rw [h.cellAt (k * 4 + 3) (by omega)]; exact tok_at d k hk 3 (by omega)
theorem take_flat {α : Type} {l : List α} {k : Nat} {x : α} {f : α → List UInt8} (h : l[k]? = some x) : (l.take (k + 1)).flatMap f = (l.take k).flatMap f ++ f x := by
  obtain ⟨hl, e⟩ := List.getElem?_eq_some_iff.1 h
  rw [List.take_succ_eq_append_getElem hl, e, List.flatMap_append]
  simp
theorem str_eq {a b : ByteArray} (h : a.data.toList = b.data.toList) : Value.string a = .string b := by
  rw [WideShapes.bytes_inj h]
theorem tk_way (l : List UInt8) (w : World) (hl : l.length ≤ 9223372036854775807) : Calls Try.prog 8 #[.string ⟨l.toArray⟩] w fun e w' => Below w.heap.size w w' ∧
    ((∃ u v E : Int, E ≠ 0 ∧ (ChkV l ≠ .tuple #[.agg #[.int .i64 0, .int .i64 0], .int .i64 0] ∨ (toks l.length l (1, 1)).2 ≠ none) ∧ e = .returned (.tuple #[.slice none 0 0, .agg #[.int .i64 u, .int .i64 v], .int .i64 E])) ∨
     (∃ s : Value, ChkV l = .tuple #[.agg #[.int .i64 0, .int .i64 0], .int .i64 0] ∧ e = .returned (.tuple #[s, .agg #[.int .i64 0, .int .i64 0], .int .i64 0]) ∧ w'.ownsRow w.heap.size 40 4 s (toks l.length l (1, 1)).1.length ((toks l.length l (1, 1)).1.flatMap tokC))) := by
  have h := tokens_is ⟨l.toArray⟩ w (by rw [mk_size]; exact hl)
  rw [show (⟨l.toArray⟩ : ByteArray).data.toList = l from rfl] at h
  refine h.mono fun e w' h => ?_
  obtain ⟨hb, ⟨u, v, E, hE, hc, he⟩ | ⟨u, v, hc, ht, he⟩ | ⟨x, hc, ht, he, ho⟩⟩ := h
  · exact ⟨hb, .inl ⟨u, v, E, hE, .inl (by rw [hc]; simp; omega), he⟩⟩
  · exact ⟨hb, .inl ⟨u, v, 71, by decide, .inr (by rw [ht]; simp), he⟩⟩
  · exact ⟨hb, .inr ⟨x, hc, he, ho⟩⟩
end Go.Proofs.Ythkiojedkafdhaa
