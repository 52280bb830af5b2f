/- How a slice of sets that is handed in reads, and that it holds no more spans than the reading has values. No condition. -/
import Derived.Test.YtdjlbenjbhkfiaaSpOpenS
namespace Go.Proofs.Ytdjlbenjbhkfiaa
open Go.ChangeShapes Go.WideShapes Go.ChangeAt Go.RowKit Go.Joins Go.Deep
theorem bulk_one {H : Type} (d : DataW H) : 1 ≤ Rows.uptoBulk d := by
  cases d with
  | lit l => cases l <;> simp [Rows.uptoBulk]
  | nil => simp [Rows.uptoBulk]
  | ptr d => simp [Rows.uptoBulk]
  | slice elems spare => simp [Rows.uptoBulk]
  | agg parts => simp [Rows.uptoBulk]
  | iface t d => simp [Rows.uptoBulk]
  | map entries => simp [Rows.uptoBulk]
  | held h => simp [Rows.uptoBulk]
theorem bulk_length {H : Type} (l : List (DataW H)) : l.length ≤ Rows.uptoBulkAll l := by
  induction l with
  | nil => simp [Rows.uptoBulkAll]
  | cons x r ih => have := bulk_one x; simp only [Rows.uptoBulkAll, List.length_cons]; omega
theorem bulk_slice {H : Type} (elems spare : List (DataW H)) : Rows.uptoBulkAll elems + 1 ≤ Rows.uptoBulk (.slice elems spare) := by
  simp only [Rows.uptoBulk]
  omega
/-- Lists no longer than parts are bulky hold together no more than the parts. -/
theorem bulk_parts {H : Type} {α : Type} (D : Nat → DataW H) (S : Nat → List α) : ∀ (l : List Nat), (∀ i ∈ l, (S i).length ≤ Rows.uptoBulk (D i)) → (l.map S).flatten.length ≤ Rows.uptoBulkAll (l.map D) := by
  intro l
  induction l with
  | nil => intro _; simp
  | cons a l ih =>
    intro h
    have h1 := h a List.mem_cons_self
    have h2 := ih fun i hi => h i (List.mem_cons_of_mem _ hi)
    simp only [List.map_cons, List.flatten_cons, List.length_append, Rows.uptoBulkAll]
    omega
section
variable {H : Type} {enc : TypeId × Value → H} {w w' : World} {base : Nat} {spare : Nat → Bool} {held : Bool}
theorem rdb_of {fuel : Nat} {v : Value} {x : DataW H × List MemPlace} (h : DataW.trod enc Try.prog w base spare held fuel 22 [v] = some x) : ∃ l, Rd w v l ∧ l.length ≤ Rows.uptoBulk x.1 := by
  obtain ⟨l, hl⟩ := rd_of h
  refine ⟨l, hl, ?_⟩
  rcases open_slice_pairs Try.underlying22 (by rw [Try.underlying27]) (by kernel_rfl) rfl rfl (by kernel_rfl) (by kernel_rfl) h with ⟨hc, hx⟩ | ⟨a, len, cap, m, n, V0, V1, D0, D1, P0, P1, hc, hb, hll, hm, hmm, hxx, hx⟩
  · simp at hc; subst hc
    obtain ⟨p, c, e, _⟩ := hl.sl
    simp only [Value.slice.injEq] at e
    omega
  · simp at hc; subst hc
    obtain ⟨p, c, e, _⟩ := hl.sl
    simp only [Value.slice.injEq] at e
    have h1 : ∀ (A B : List (DataW H)), A.length = len → x.1 = .slice A B → l.length ≤ Rows.uptoBulk x.1 := fun A B hA hxe => by
      rw [hxe]
      have := bulk_slice A B
      have := bulk_length A
      omega
    subst hxx
    exact h1 _ _ (by simp) rfl
theorem rdsb_of {fuel : Nat} {v : Value} {x : DataW H × List MemPlace} (h : DataW.trod enc Try.prog w base spare held fuel 31 [v] = some x) : ∃ l, RdS w v l ∧ l.flatten.length ≤ Rows.uptoBulk x.1 := by
  rcases open_slice1 Try.underlying31 (by kernel_rfl) h with ⟨hc, _⟩ | ⟨a, len, cap, m, n, V, D, Pl, hc, hb, hl, hm, hmm, hxx, hx⟩
  · simp at hc; subst hc
    exact ⟨[], ⟨none, 0, rfl, Nat.le_refl _, Nat.zero_le _, fun i l hi => by simp at hi⟩, by simp⟩
  · simp at hc; subst hc
    have hlm : len ≤ m := by rw [hmm]; split <;> omega
    have hnum : ∀ i, i < m → ∃ l, Rd w (V i) l ∧ l.length ≤ Rows.uptoBulk (D i) := fun i hi => rdb_of (hx i hi).2
    obtain ⟨S, hS⟩ := choose_lt hnum
    by_cases h0 : len = 0
    · subst h0
      exact ⟨[], ⟨some a, cap, rfl, hl, hm, fun i l hi => by simp at hi⟩, by simp⟩
    have hsp : a.spot = none := World.cell?_spot (hx 0 (by omega)).1 |> fun this => by
      unfold Addr.add at this
      split at this
      · exact this
      · simp at *
    obtain ⟨b, o, sp⟩ := a
    simp only at hsp
    subst hsp
    have hbs : b < w.heap.size := by
      have := World.block_lt_of_cell? w _ (hx 0 (by omega)).1
      rw [addr_addr] at this
      exact this
    refine ⟨(List.range len).map S, ⟨some ⟨b, o, none⟩, cap, by simp, by simpa using hl, hm, fun i s hi => ?_⟩, ?_⟩
    · rw [List.getElem?_map] at hi
      cases hr : (List.range len)[i]? with
      | none => rw [hr] at hi; simp at hi
      | some j =>
        rw [hr] at hi
        have hij := (List.getElem?_eq_some_iff.1 hr).2
        have hil := (List.getElem?_eq_some_iff.1 hr).1
        simp at hij hil hi
        subst hij hi
        have h1 := (hx i (by omega)).1
        rw [addr_addr] at h1
        exact ⟨b, o, V i, rfl, hbs, h1, (hS i (by omega)).1⟩
    · subst hxx
      have h1 := bulk_parts D S (List.range len) fun i hi => (hS i (by have := List.mem_range.1 hi; omega)).2
      exact Nat.le_trans h1 (by have := bulk_slice ((List.range len).map D) ((List.range (m - len)).map fun j => D (len + j)); show _ ≤ Rows.uptoBulk (DataW.slice _ _); omega)
end
end Go.Proofs.Ytdjlbenjbhkfiaa
