/- How lists of spans lie in memory, and small laws of results. No condition; nothing here speaks of the program. -/
import Derived.Test.YtbplkeopdfciiaaDoorKit
import Derived.Test.YtbplkeopdfciiaaDoorSpGlue
import Derived.IntWalk
import Derived.Deep.RegionHeld3
import Derived.Deep.DeepCutAuto
namespace Go.Proofs.YtbplkeopdfciiaaDoor
open Go.RowKit
theorem top_def : top = 4294967296 := rfl
/-- A span's two cells. -/
def encS (s : Nat × Nat) : List Value := [.int .u32 s.1, .int .u32 s.2]
def flatS (l : List (Nat × Nat)) : List Value := l.flatMap encS
theorem flatS_length (l : List (Nat × Nat)) : (flatS l).length = 2 * l.length := by
  induction l with
  | nil => rfl
  | cons s l ih => simp [flatS, encS] at *; omega
theorem flatS_append (a b : List (Nat × Nat)) : flatS (a ++ b) = flatS a ++ flatS b := by simp [flatS]
theorem flatS_at {l : List (Nat × Nat)} {i : Nat} {s : Nat × Nat} (h : l[i]? = some s) : (flatS l)[2 * i]? = some (.int .u32 s.1) ∧ (flatS l)[2 * i + 1]? = some (.int .u32 s.2) := by
  induction l generalizing i with
  | nil => simp at h
  | cons t l ih =>
    cases i with
    | zero => simp at h; subst h; exact ⟨rfl, rfl⟩
    | succ i =>
      have := ih (i := i) (by simpa using h)
      have e : flatS (t :: l) = .int .u32 t.1 :: .int .u32 t.2 :: flatS l := rfl
      rw [e, show 2 * (i + 1) = 2 * i + 1 + 1 from by omega]
      simpa using this
/-- All numbers are below 2^32. -/
def Small (l : List (Nat × Nat)) : Prop := ∀ s ∈ l, s.1 < top ∧ s.2 < top
theorem Small.two {l : List (Nat × Nat)} (h : Small l) : ∀ s ∈ l, s.2 < top := fun s hs => (h s hs).2
theorem Cn_small (p : Nat → Bool) : Small (Cn p) := fun s hs => ⟨by have := Cn_lt p s hs; have := (Cn_canon p).some s hs; omega, Cn_lt p s hs⟩
/-- A slice that reads as these spans. -/
def Rd (w : World) (v : Value) (l : List (Nat × Nat)) : Prop :=
  Small l ∧ ((∃ p c, v = .slice p 0 c ∧ c ≤ maxLen ∧ l = []) ∨ ∃ b o cap, v = .slice (some ⟨b, o, none⟩) l.length cap ∧ l.length ≤ cap ∧ cap ≤ maxLen ∧ b < w.heap.size ∧
    ∀ i s, l[i]? = some s → w.cell? ⟨b, o + i * 2, none⟩ = some (.int .u32 s.1) ∧ w.cell? ⟨b, o + i * 2 + 1, none⟩ = some (.int .u32 s.2))
theorem Rd.below {w w' : World} {v : Value} {l : List (Nat × Nat)} (h : Rd w v l) (hb : Below w.heap.size w w') : Rd w' v l := by
  refine ⟨h.1, ?_⟩
  rcases h.2 with h | ⟨b, o, cap, e, h1, h2, h3, h4⟩
  · exact .inl h
  · refine .inr ⟨b, o, cap, e, h1, h2, by have := hb.size; omega, fun i s hs => ?_⟩
    exact ⟨(hb.cell (p := ⟨b, _, none⟩) h3).trans (h4 i s hs).1, (hb.cell (p := ⟨b, _, none⟩) h3).trans (h4 i s hs).2⟩
theorem Rd.below' {n : Nat} {w w' : World} {v : Value} {l : List (Nat × Nat)} (h : Rd w v l) (hv : ∀ b o c k, v = .slice (some ⟨b, o, k⟩) l.length c → b < n) (hb : Below n w w') : Rd w' v l := by
  refine ⟨h.1, ?_⟩
  rcases h.2 with h | ⟨b, o, cap, e, h1, h2, h3, h4⟩
  · exact .inl h
  · have hn := hv b o cap none e
    refine .inr ⟨b, o, cap, e, h1, h2, by have := hb.size; omega, fun i s hs => ?_⟩
    exact ⟨(hb.cell (p := ⟨b, _, none⟩) hn).trans (h4 i s hs).1, (hb.cell (p := ⟨b, _, none⟩) hn).trans (h4 i s hs).2⟩
/-- The slice's value, and its cells where there are any. -/
theorem Rd.sl {w : World} {v : Value} {l : List (Nat × Nat)} (h : Rd w v l) : ∃ p c, v = .slice p l.length c ∧ l.length ≤ c ∧ c ≤ maxLen ∧ ∀ i s, l[i]? = some s → ∃ b o, p = some ⟨b, o, none⟩ ∧ b < w.heap.size ∧ s.1 < top ∧ s.2 < top ∧
    ∀ w', Below w.heap.size w w' → w'.cell? ⟨b, o + i * 2, none⟩ = some (.int .u32 s.1) ∧ w'.cell? ⟨b, o + i * 2 + 1, none⟩ = some (.int .u32 s.2) := by
  rcases h.2 with ⟨p, c, rfl, hc, rfl⟩ | ⟨b, o, cap, rfl, h1, h2, h3, h4⟩
  · exact ⟨p, c, rfl, Nat.zero_le _, hc, fun i s hi => by simp at hi⟩
  · refine ⟨_, cap, rfl, h1, h2, fun i s hi => ⟨b, o, rfl, h3, (h.1 s (List.mem_of_getElem? hi)).1, (h.1 s (List.mem_of_getElem? hi)).2, fun w' hb => ?_⟩⟩
    exact ⟨(hb.cell (p := ⟨b, _, none⟩) h3).trans (h4 i s hi).1, (hb.cell (p := ⟨b, _, none⟩) h3).trans (h4 i s hi).2⟩
theorem Rd.nil (w : World) : Rd w (.slice none 0 0) [] := ⟨fun _ h => (by cases h), .inl ⟨none, 0, rfl, Nat.zero_le _, rfl⟩⟩
/-- New memory that holds these spans. -/
def Own (b : Nat) (w : World) (v : Value) (l : List (Nat × Nat)) : Prop := Small l ∧ w.ownsRow b 33 2 v l.length (flatS l)
theorem addr_add (g k : Nat) : (⟨g, 0, none⟩ : Addr).add k = ⟨g, k, none⟩ := by
  unfold Addr.add
  split <;> simp_all
theorem Own.rd {b : Nat} {w : World} {v : Value} {l : List (Nat × Nat)} (h : Own b w v l) : Rd w v l := by
  refine ⟨h.1, ?_⟩
  rcases h.2.2 with ⟨rfl, hx⟩ | ⟨g, cap, cur, rfl, hg, hh, hle, hm, hsz, hc⟩
  · exact .inl ⟨none, 0, rfl, Nat.zero_le _, List.eq_nil_of_length_eq_zero hx⟩
  · refine .inr ⟨g, 0, cap, rfl, hle, hm, (h.2.lt g rfl).2, fun i s hs => ?_⟩
    have h1 := h.2.cells (g := g) rfl (2 * i) _ (flatS_at hs).1
    have h2 := h.2.cells (g := g) rfl (2 * i + 1) _ (flatS_at hs).2
    rw [addr_add] at h1 h2
    rw [show 0 + i * 2 = 2 * i from by omega]
    exact ⟨h1, h2⟩
theorem ownsRow_base {w : World} {b b' : Nat} {e : TypeId} {k : Nat} {v : Value} {n : Nat} {xs : List Value} (h : w.ownsRow b e k v n xs) (hb : b' ≤ b) : w.ownsRow b' e k v n xs := by
  refine ⟨h.1, ?_⟩
  rcases h.2 with hn | ⟨g, cap, cur, rfl, hg, rest⟩
  · exact .inl hn
  · exact .inr ⟨g, cap, cur, rfl, Nat.le_trans hb hg, rest⟩
theorem ownsRow_of {w w' : World} {b : Nat} {e : TypeId} {k : Nat} {v : Value} {n : Nat} {xs : List Value} (h : w.ownsRow b e k v n xs) (hk : ∀ g, v.ownBlock = some g → b ≤ g → g < w.heap.size → w'.heap[g]? = w.heap[g]?) : w'.ownsRow b e k v n xs := by
  have hlt := h.lt
  refine ⟨h.1, ?_⟩
  rcases h.2 with hn | ⟨g, cap, cur, rfl, hg, hh, rest⟩
  · exact .inl hn
  · have := hlt g rfl
    exact .inr ⟨g, cap, cur, rfl, hg, by rw [hk g rfl this.1 this.2]; exact hh, rest⟩
theorem Own.below {b : Nat} {w w' : World} {v : Value} {l : List (Nat × Nat)} (h : Own b w v l) (hb : Below w.heap.size w w') : Own b w' v l :=
  ⟨h.1, ownsRow_of h.2 fun g _ _ hg => hb.block g hg⟩
theorem Own.base {b b' : Nat} {w : World} {v : Value} {l : List (Nat × Nat)} (h : Own b w v l) (hb : b' ≤ b) : Own b' w v l := ⟨h.1, ownsRow_base h.2 hb⟩
end Go.Proofs.YtbplkeopdfciiaaDoor
