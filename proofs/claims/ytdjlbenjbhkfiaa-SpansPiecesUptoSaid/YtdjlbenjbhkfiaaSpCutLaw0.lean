/- How a slice of sets reads; how many spans so many sets have. -/
import Derived.Test.YtdjlbenjbhkfiaaSpPcs
import Derived.Test.YtdjlbenjbhkfiaaSpCutM
import Derived.Test.YtdjlbenjbhkfiaaSpR2
namespace Go.Proofs.Ytdjlbenjbhkfiaa
open Go.RowKit
theorem RdS.at {w : World} {p : Option Addr} {n c : Nat} {ls : List (List (Nat × Nat))} (h : RdS w (.slice p n c) ls) {k : Nat} {l : List (Nat × Nat)} (hk : ls[k]? = some l) : ∃ b o q d, p = some ⟨b, o, none⟩ ∧ b < w.heap.size ∧ (∀ w', Below w.heap.size w w' → w'.cell? ⟨b, o + k, none⟩ = some (.slice q l.length d) ∧ Rd w' (.slice q l.length d) l) := by
  obtain ⟨p', c', e, _, _, h3⟩ := h
  simp only [Value.slice.injEq] at e
  obtain ⟨rfl, _, _⟩ := e
  obtain ⟨b, o, u, rfl, h4, h5, h6⟩ := h3 k l hk
  obtain ⟨q, d, hu, _⟩ := h6.sl
  subst hu
  exact ⟨b, o, q, d, rfl, h4, fun w' hb => ⟨(hb.cell (p := ⟨b, _, none⟩) h4).trans h5, h6.below hb⟩⟩
theorem flat_40 : ∀ ls : List (List (Nat × Nat)), (∀ l ∈ ls, l.length ≤ 40) → ls.flatten.length ≤ 40 * ls.length := by
  intro ls
  induction ls with
  | nil => intro _; simp
  | cons a ls ih =>
    intro h
    have h1 := h a List.mem_cons_self
    have h2 := ih fun l hl => h l (List.mem_cons_of_mem _ hl)
    simp only [List.flatten_cons, List.length_append, List.length_cons]
    omega
end Go.Proofs.Ytdjlbenjbhkfiaa
