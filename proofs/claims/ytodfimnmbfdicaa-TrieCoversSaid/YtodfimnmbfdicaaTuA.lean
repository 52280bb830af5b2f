/- Rows of the reference's tables, as data and in memory; what its Put, Drop, At, Over and Within make of them, as math. No condition. -/
import Derived.Test.YtodfimnmbfdicaaTpP
import Derived.Test.YtodfimnmbfdicaaTpG
import Derived.Test.YtodfimnmbfdicaaTpR
namespace Go.Proofs.Ytodfimnmbfdicaa
open Go.RowKit Go.Shelf
def encRow (x : Kv) : List Value := [.int .u32 x.1.1, .int .i64 x.1.2, .int .i64 x.2]
theorem encRow_len : ∀ s, (encRow s).length = 3 := fun _ => rfl
theorem encRow_one : ∀ s, ∀ u ∈ encRow s, u.oneCell' = true := fun s u hu => by
  simp only [encRow, List.mem_cons, List.not_mem_nil, or_false] at hu
  rcases hu with rfl | rfl | rfl <;> rfl
theorem infoRow : (Try.prog.info? 77).map (fun i => (i.zero, i.size, i.bytes)) = some (some (.agg #[.int .u32 0, .int .i64 0, .int .i64 0]), 3, 24) := by kernel_rfl
theorem rd_row {w : World} {v : Value} {L : List Kv} (h : RdK encRow 3 w v L) {i : Nat} {x : Kv} (hx : L[i]? = some x) : ∃ b o c, v = .slice (some ⟨b, o, none⟩) L.length c ∧ b < w.heap.size ∧ ∀ W, Below w.heap.size w W → W.cell? ⟨b, o + i * 3, none⟩ = some (.int .u32 x.1.1) ∧ W.cell? ⟨b, o + i * 3 + 1, none⟩ = some (.int .i64 x.1.2) ∧ W.cell? ⟨b, o + i * 3 + 2, none⟩ = some (.int .i64 x.2) := by
  obtain ⟨p, c, h1, _, _, h4⟩ := h.sl
  obtain ⟨b, o, rfl, hb, hc⟩ := h4 i x hx
  exact ⟨b, o, c, h1, hb, fun W hW => ⟨hc W hW 0 _ rfl, hc W hW 1 _ rfl, hc W hW 2 _ rfl⟩⟩
theorem own_row1 (w : World) (a n v : Int) : RdK encRow 3 (w.alloc (.cells #[.int .u32 a, .int .i64 n, .int .i64 v] 77)) (.slice (some ⟨w.heap.size, 0, none⟩) 1 1) [((a, n), v)] :=
  RdK.of_own encRow_len (b := w.heap.size) (e := 77) ⟨by simp [flatK, encRow], .inr ⟨w.heap.size, 1, #[.int .u32 a, .int .i64 n, .int .i64 v], rfl, Nat.le_refl _, heap_alloc_new w _, Nat.le_refl _, by unfold maxLen; omega, by simp, by simp [flatK, encRow]⟩⟩
theorem own_none (w : World) (B : Nat) {e : TypeId} {k : Nat} : w.ownsRow B e k (.slice none 0 0) 0 [] := ⟨by simp, .inl ⟨rfl, rfl⟩⟩
/-- One step of Put. -/
def stR (p : Int × Int) (v : Int) (s : List Kv × Bool) (x : Kv) : List Kv × Bool :=
  let c := cmpI p.1 p.2 x.1.1 x.1.2
  let s' := if c ≤ 0 ∧ s.2 = false then (s.1 ++ [(p, v)], true) else s
  (if c = 0 then s'.1 else s'.1 ++ [x], s'.2)
def foR (p : Int × Int) (v : Int) (L : List Kv) : List Kv × Bool := L.foldl (stR p v) ([], false)
def putF (p : Int × Int) (v : Int) (L : List Kv) : List Kv := if (foR p v L).2 then (foR p v L).1 else (foR p v L).1 ++ [(p, v)]
def putC (p : Int × Int) (v : Int) (L : List Kv) : List Kv := if ck p.1 p.2 = 0 then putF p v L else L
theorem foR_step {p : Int × Int} {v : Int} {L : List Kv} {j : Nat} {x : Kv} (h : L[j]? = some x) : foR p v (L.take (j + 1)) = stR p v (foR p v (L.take j)) x := by
  rw [List.take_add_one, h]
  simp [foR]
theorem foR_len (p : Int × Int) (v : Int) (L : List Kv) : (foR p v L).1.length ≤ L.length + (foR p v L).2.toNat := by
  have key : ∀ (L : List Kv) (s : List Kv × Bool) (n : Nat), s.1.length ≤ n + s.2.toNat → (L.foldl (stR p v) s).1.length ≤ n + L.length + (L.foldl (stR p v) s).2.toNat := by
    intro L
    induction L with
    | nil => intro s n h; simpa using h
    | cons x L ih =>
      intro s n h
      have := ih (stR p v s x) (n + 1) (by
        obtain ⟨o, d⟩ := s
        simp only at h
        unfold stR
        cases d <;> by_cases h1 : cmpI p.1 p.2 x.1.1 x.1.2 ≤ 0 <;> by_cases h2 : cmpI p.1 p.2 x.1.1 x.1.2 = 0 <;> simp [h1, h2] at * <;> omega)
      simp only [List.foldl_cons, List.length_cons]
      omega
  simpa [foR] using key L ([], false) 0 (by simp)
theorem putC_len (p : Int × Int) (v : Int) (L : List Kv) : (putC p v L).length ≤ L.length + 1 := by
  unfold putC putF
  have := foR_len p v L
  split
  · split
    · rename_i h; rw [h] at this; simpa using this
    · rename_i h; rw [Bool.not_eq_true] at h; rw [h] at this; simp at this ⊢; omega
  · omega
end Go.Proofs.Ytodfimnmbfdicaa
