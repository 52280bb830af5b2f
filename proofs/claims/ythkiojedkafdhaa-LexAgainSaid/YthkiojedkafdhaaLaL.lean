/- What Lines says, two ways; how long lines are. Under the conditions that they name. -/
import Derived.Test.YthkiojedkafdhaaLaC
import Derived.Test.YthkiojedkafdhaaLaK
import Derived.Test.YthkiojedkafdhaaLnP
namespace Go.Proofs.Ythkiojedkafdhaa
open Go.RowKit
theorem flat_at {α β : Type} (f : α → List β) (m : Nat) (hf : ∀ x, (f x).length = m) : ∀ (d : List α) (k : Nat) (hk : k < d.length) (o : Nat), o < m → (d.flatMap f)[k * m + o]? = (f d[k])[o]?
  | [], k, hk, _, _ => by simp at hk
  | t :: r, k, hk, o, ho => by
    rw [List.flatMap_cons]
    cases k with
    | zero => rw [List.getElem?_append_left (by rw [hf]; omega)]; simp
    | succ k =>
      rw [List.getElem?_append_right (by rw [hf, Nat.add_mul]; omega), hf, show (k + 1) * m + o - m = k * m + o by rw [Nat.add_mul]; omega, flat_at f m hf r k (by simpa using hk) o ho]
      simp
theorem ln_cells {W : World} {B g cap : Nat} {e : TypeId} {L : List (Ln × Value)} (h : W.ownsRow B e 2 (.slice (some ⟨g, 0, none⟩) L.length cap) L.length (L.flatMap lnC)) {k : Nat} (hk : k < L.length) :
    W.cell? ⟨g, k * 2, none⟩ = some (.int .i64 L[k].1.2.1) ∧ W.cell? ⟨g, k * 2 + 1, none⟩ = some L[k].2 := by
  refine ⟨?_, ?_⟩
  · rw [h.cellAt (k * 2) (by omega)]; exact flat_at lnC 2 (fun _ => rfl) L k hk 0 (by omega)
  · rw [h.cellAt (k * 2 + 1) (by omega)]; exact flat_at lnC 2 (fun _ => rfl) L k hk 1 (by omega)
theorem wd_cells {W : World} {B g cap : Nat} {e : TypeId} {num : Int} {d : List (List UInt8 × Int)} (h : W.ownsRow B e 3 (.slice (some ⟨g, 0, none⟩) d.length cap) d.length (d.flatMap (wdC num))) {k : Nat} (hk : k < d.length) :
    W.cell? ⟨g, k * 3, none⟩ = some (.string ⟨d[k].1.toArray⟩) ∧ W.cell? ⟨g, k * 3 + 1, none⟩ = some (.int .i64 num) ∧ W.cell? ⟨g, k * 3 + 2, none⟩ = some (.int .i64 d[k].2) := by
  refine ⟨?_, ?_, ?_⟩
  · rw [h.cellAt (k * 3) (by omega)]; exact flat_at (wdC num) 3 (fun _ => rfl) d k hk 0 (by omega)
  · rw [h.cellAt (k * 3 + 1) (by omega)]; exact flat_at (wdC num) 3 (fun _ => rfl) d k hk 1 (by omega)
  · rw [h.cellAt (k * 3 + 2) (by omega)]; exact flat_at (wdC num) 3 (fun _ => rfl) d k hk 2 (by omega)
theorem ln_way (l : List UInt8) (w : World) (hl : l.length ≤ 9223372036854775807) : Calls Try.prog 7 #[.string ⟨l.toArray⟩] w fun e w' => Below w.heap.size w w' ∧
    ((∃ u v E : Int, E ≠ 0 ∧ ChkV l ≠ chk0 ∧ e = .returned (.tuple #[.slice none 0 0, .agg #[.int .i64 u, .int .i64 v], .int .i64 E])) ∨
     (∃ (s : Value) (L : List (Ln × Value)), ChkV l = chk0 ∧ e = .returned (.tuple #[s, .agg #[.int .i64 0, .int .i64 0], .int .i64 0]) ∧ L.map Prod.fst = lnk l 1 ∧ LinesAt w' w.heap.size 36 38 s L)) := by
  have h := lines_is ⟨l.toArray⟩ w (by rw [mk_size]; exact hl)
  rw [show (⟨l.toArray⟩ : ByteArray).data.toList = l from rfl] at h
  refine h.mono fun e w' h => ?_
  obtain ⟨hb, ⟨u, v, E, hE, hc, he⟩ | ⟨x, L, hc, he, hL, ho⟩⟩ := h
  · exact ⟨hb, .inl ⟨u, v, E, hE, by rw [hc]; simp; omega, he⟩⟩
  · exact ⟨hb, .inr ⟨x, L, hc, he, hL, ho⟩⟩
theorem wdsR_wl : ∀ (f : Nat) (l : List UInt8) (c : Int), ∀ w ∈ (wdsR f l c).1, w.1.length ≤ l.length
  | 0, l, c, w, hw => by simp [wdsR] at hw
  | f + 1, l, c, w, hw => by
    unfold wdsR at hw
    split at hw
    · simp at hw
    · simp only at hw
      rcases List.mem_cons.1 hw with rfl | hw
      · simp only [List.length_take]; omega
      · have := wdsR_wl f _ _ w hw
        simp only [List.length_drop] at this
        omega
theorem lnk_bounds : ∀ (m : Nat) (l : List UInt8) (n : Int), l.length ≤ m → ∀ x ∈ lnk l n, x.2.1 ≤ l.length ∧ x.2.2.length ≤ l.length ∧ ∀ w ∈ x.2.2, w.1.length ≤ l.length
  | 0, l, n, h, x, hx => by
    have : l = [] := List.length_eq_zero_iff.1 (by omega)
    subst this
    simp [lnk_nil] at hx
  | m + 1, l, n, h, x, hx => by
    cases l with
    | nil => simp [lnk_nil] at hx
    | cons b r =>
      rw [lnk_step] at hx
      have h1 := rest_len (b :: r)
      simp only [List.length_cons] at h1 h
      rcases List.mem_append.1 hx with hx | hx
      · split at hx
        · cases hx
        · rw [List.mem_singleton] at hx
          rw [hx]
          have h2 : ((b :: r).take (nE (b :: r))).length ≤ (b :: r).length := by rw [List.length_take]; omega
          refine ⟨nS_le _, ?_, ?_⟩
          · show (lineR (b :: r)).1.length ≤ _
            rw [(lineR_is (b :: r)).1]
            have h1 := wds_len ((b :: r).take (nE (b :: r)))
            split
            · simp
            · omega
          · intro w hw
            have hw : w ∈ (lineR (b :: r)).1 := hw
            rw [(lineR_is (b :: r)).1] at hw
            split at hw
            · simp at hw
            · unfold wds at hw
              have := wdsR_wl _ _ _ w hw
              simp only [List.length_drop] at this
              omega
      · obtain ⟨a1, a2, a3⟩ := lnk_bounds m _ _ (by omega) x hx
        simp only [List.length_cons]
        exact ⟨by omega, by omega, fun w hw => by have := a3 w hw; omega⟩
theorem rowT_le {g : List UInt8} (hg : g.length ≤ 3) (ws : List (List UInt8)) (h : ∀ w ∈ ws, w.length ≤ 65536) : (rowT g ws).length ≤ ws.length * 65539 :=
  flat_le ws fun w hw => by have := h w hw; rw [List.length_append]; omega
theorem blk_le {g c : List UInt8} (h : Put g c) {x : Li} (h1 : x.1 ≤ 65536) (h2 : x.2.length ≤ 65536) (h3 : ∀ w ∈ x.2, w.length ≤ 65536) : (blk g c x).length ≤ 5000000000 := by
  have h4 := rowT_le h.gl x.2 h3
  have h5 : x.2.length * 65539 ≤ 65536 * 65539 := Nat.mul_le_mul_right _ h2
  have h6 := h.cl
  simp only [blk, rowI, tailL, List.length_append, List.length_replicate, List.length_cons, List.length_nil]
  omega
end Go.Proofs.Ythkiojedkafdhaa
