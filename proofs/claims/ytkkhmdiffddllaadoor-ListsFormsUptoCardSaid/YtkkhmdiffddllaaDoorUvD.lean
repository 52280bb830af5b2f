/- ListsFirst: the first line that fits decides, whatever stands behind it; lines ahead that do not fit change nothing. Where no list has more than 1048576 lines; the variables of package strconv are asked to hold what their text says. -/
import Derived.Test.YtkkhmdiffddllaaDoorUvC
namespace Go.Proofs.YtkkhmdiffddllaaDoor
open Go.Shelf Go.RowKit Go.Lib
def orI (o : Option Nat) (k : Nat) (o2 : Option Nat) : Option Nat := match o with | some i => some i | none => o2.map (· + k)
def orL (o : Option Nat) (a b : Bool) : Bool := match o with | some _ => a | none => b
theorem fst_app {α : Type} (p : α → Bool) (a b : List α) : fstI p (a ++ b) = orI (fstI p a) a.length (fstI p b) := by
  unfold orI
  induction a with
  | nil => simp [fstI]
  | cons x a ih =>
    rw [List.cons_append, fstI, fstI]
    by_cases h : p x = true
    · rw [if_pos h, if_pos h]
    · rw [if_neg h, if_neg h, ih]
      cases fstI p a with
      | some i => rfl
      | none => cases fstI p b with
        | none => rfl
        | some j => simp; omega
theorem lets_app {α : Type} (p f : α → Bool) (a b : List α) : lets p f (a ++ b) = orL (fstI p a) (lets p f a) (lets p f b) := by
  unfold lets orL
  rw [fst_app]
  unfold orI
  cases h : fstI p a with
  | some i =>
    obtain ⟨y, hy, _⟩ := fstI_some h
    have hl := (List.getElem?_eq_some_iff.1 hy).1
    simp only []
    rw [List.getElem?_append_left hl]
  | none =>
    cases h2 : fstI p b with
    | none => rfl
    | some j => simp only [Option.map_some]; rw [List.getElem?_append_right (by omega)]; simp
theorem encE_len (e : EntD) : (encE e).length = 5 := rfl
theorem encE_one : ∀ x, ∀ u ∈ encE x, u.oneCell' = true := fun x u hu => by
  simp only [encE, List.mem_cons, List.not_mem_nil, or_false] at hu
  rcases hu with rfl | rfl | rfl | rfl | rfl <;> rfl
theorem encM_len (e : MemD) : (encM e).length = 2 := rfl
theorem encM_one : ∀ x, ∀ u ∈ encM x, u.oneCell' = true := fun x u hu => by
  simp only [encM, List.mem_cons, List.not_mem_nil, or_false] at hu
  rcases hu with rfl | rfl <;> rfl
theorem infoE : (Tryd.prog.info? 51).map (fun i => (i.zero, i.size, i.bytes)) = some (some (.agg #[.bool false, .int .u32 0, .int .i64 0, .int .i64 0, .int .i64 0]), 5, 40) := by kernel_rfl
theorem infoM : (Tryd.prog.info? 56).map (fun i => (i.zero, i.size, i.bytes)) = some (some (.agg #[.bool false, .slice none 0 0]), 2, 32) := by kernel_rfl
theorem flat_app {α : Type} (enc : α → List Value) (a b : List α) : flatK enc (a ++ b) = flatK enc a ++ flatK enc b := by simp [flatK]
end Go.Proofs.YtkkhmdiffddllaaDoor
