/- Parse of package filter: what it hands back for whatever text. Conditions: the tables, numbers and errors of packages strconv and bytealg are what their text says. -/
import Derived.Test.YtgggmhaopcgkkaaGreatDoorFbR
namespace Go.Proofs.YtgggmhaopcgkkaaGreatDoor
open Go.RowKit
theorem split_len : ∀ (k : Nat) (l : List UInt8) (x : List UInt8), x ∈ Lib.splitK [32] 0 k l → x.length ≤ l.length
  | 0, l, x, h => by simp [Lib.splitK] at h; subst h; exact Nat.le_refl _
  | k + 1, l, x, h => by
    unfold Lib.splitK at h
    split at h
    · simp at h; subst h; exact Nat.le_refl _
    · simp only [List.mem_cons] at h
      rcases h with rfl | h
      · simp; omega
      · have := split_len k _ x h
        simp at this
        omega
/-- The variable MaxLen of package bytealg holds a number. -/
def MaxL (w : World) : Prop := ∃ m, w.cell? ⟨0, 0, none⟩ = some (.int .i64 m)
theorem MaxL.on {w w' : World} (h : MaxL w) (hb : Below w.heap.size w w') : MaxL w' := by
  obtain ⟨m, h1⟩ := h
  exact ⟨m, (hb.cell (p := ⟨_, _, none⟩) (block_lt_of_cell h1)).trans h1⟩
/-- The pieces of a text, up to seven. -/
def pcs (s : ByteArray) : List ByteArray := Lib.splitB ⟨#[32]⟩ 0 (min 7 (s.size + 1) - 1) s
theorem pcs_data (s : ByteArray) : (pcs s).map (·.data.toList) = Lib.splitK [32] 0 (min 7 (s.data.toList.length + 1) - 1) s.data.toList := by
  unfold pcs
  rw [Lib.splitB_data]
  simp
theorem pcs_len (s : ByteArray) : (pcs s).length ≤ min 7 (s.size + 1) := by
  have := Lib.splitB_length_le ⟨#[32]⟩ 0 (min 7 (s.size + 1) - 1) s
  unfold pcs
  omega
theorem pcs_size (s x : ByteArray) (h : x ∈ pcs s) : x.size ≤ s.size := by
  have h1 : x.data.toList ∈ (pcs s).map (·.data.toList) := List.mem_map.2 ⟨x, h, rfl⟩
  rw [pcs_data] at h1
  have := split_len _ _ _ h1
  simpa using this
/-- What SplitN hands back: a new list of the pieces. -/
theorem split_is (s : ByteArray) (w : World) (hs : s.size ≤ 1048576) (hm : MaxL w) : Calls Tryz.prog 23 #[.string s, .string ⟨#[32]⟩, .int .i64 7] w fun e w' => e = .returned (.slice (some ⟨w.heap.size, 0, none⟩) (pcs s).length (min 7 (s.size + 1))) ∧ Below w.heap.size w w' ∧ w'.heap[w.heap.size]? = some (.cells (Lib.cellsOf (pcs s) (min 7 (s.size + 1))) 9 (0, 0)) := by
  obtain ⟨m, hm⟩ := hm
  refine (Tryz.strings_SplitN s ⟨#[32]⟩ 7 m w (by omega) hm (by decide) (by omega) (by omega)).mono fun e w' ⟨he, hw⟩ => ⟨he, ?_, ?_⟩
  · rw [hw]; exact (Below.refl _ _).alloc (Nat.le_refl _) _
  · rw [hw]; exact heap_new' _ _
theorem six_of {α : Type} : ∀ (l : List α), l.length = 6 → ∃ a b c d e f, l = [a, b, c, d, e, f]
  | [a, b, c, d, e, f], _ => ⟨a, b, c, d, e, f, rfl⟩
/-- What Parse hands back: the rule of which this is the text, or an error, if there is none. -/
def ParseP (l : List UInt8) (w : World) (e : Ending) (w' : World) : Prop := Below w.heap.size w w' ∧
  ((∃ r : RuleD, Good r ∧ rtext r = l ∧ e = .returned (.tuple #[vR r, .int .i64 0]) ∧ ∀ q : RuleD, Good q → rtext q = l → r = q) ∨
   ((∀ q : RuleD, Good q → rtext q ≠ l) ∧ e = .returned (.tuple #[.agg #[.bool false, .int .i64 0, .int .u32 0, .int .i64 0, .int .u32 0, .int .i64 0, .int .u32 0, .int .u32 0, .int .u32 0, .int .u32 0], .int .i64 4])))
theorem parse_no (s : ByteArray) (w : World) (hs : s.size ≤ 1048576) (hm : MaxL w) (hn : (pcs s).length ≠ 6) : Calls Tryz.prog 7 #[.string s] w (ParseP s.data.toList w) := by
  have HNO : Hid (∀ q : RuleD, Good q → rtext q ≠ s.data.toList) := Lib.hid fun q hq e => by
    have h := split_text hq.pt (may_p hq.may) e
    rw [← pcs_data] at h
    have := congrArg List.length h
    rw [List.length_map] at this
    exact hn this
  obtain ⟨W1, hW1⟩ : ∃ X, w.alloc (.cells #[.bool false, .int .i64 0, .int .u32 0, .int .i64 0, .int .u32 0, .int .i64 0, .int .u32 0, .int .u32 0, .int .u32 0, .int .u32 0] 29) = X := ⟨_, rfl⟩
  have S1 : Hid (Bx w W1 w.heap.size 29 [.bool false, .int .i64 0, .int .u32 0, .int .i64 0, .int .u32 0, .int .i64 0, .int .u32 0, .int .u32 0, .int .u32 0, .int .u32 0]) := Lib.hid (by rw [← hW1]; exact Bx.mk1 _ _ _)
  have HC := Lib.hid (split_is s W1 hs (hm.on S1.out.bel))
  obtain ⟨N, hN⟩ : ∃ X, (pcs s).length = X := ⟨_, rfl⟩
  obtain ⟨C, hC⟩ : ∃ X, min 7 (s.size + 1) = X := ⟨_, rfl⟩
  rw [hN, hC] at HC
  have hne : ((N : Int) == 6) = false := by rw [hN] at hn; simpa using (by omega : ¬ ((N : Int) = 6))
  clear hN hC hn hm hs
  go_enter Tryz.func7, Tryz.ntmps7
  go_wp2_with fail
  go_at_call 23
  refine HC.out.mono ?_
  rintro e w2 ⟨rfl, hb2, _⟩
  have S2 := Lib.hid (S1.out.on hb2)
  clear hb2
  have c0 : w2.cell? ⟨w.heap.size, 0, none⟩ = some (.bool false) := S2.out.cells 0
  have c1 : w2.cell? ⟨w.heap.size, 1, none⟩ = some (.int .i64 0) := S2.out.cells 1
  have c2 : w2.cell? ⟨w.heap.size, 2, none⟩ = some (.int .u32 0) := S2.out.cells 2
  have c3 : w2.cell? ⟨w.heap.size, 3, none⟩ = some (.int .i64 0) := S2.out.cells 3
  have c4 : w2.cell? ⟨w.heap.size, 4, none⟩ = some (.int .u32 0) := S2.out.cells 4
  have c5 : w2.cell? ⟨w.heap.size, 5, none⟩ = some (.int .i64 0) := S2.out.cells 5
  have c6 : w2.cell? ⟨w.heap.size, 6, none⟩ = some (.int .u32 0) := S2.out.cells 6
  have c7 : w2.cell? ⟨w.heap.size, 7, none⟩ = some (.int .u32 0) := S2.out.cells 7
  have c8 : w2.cell? ⟨w.heap.size, 8, none⟩ = some (.int .u32 0) := S2.out.cells 8
  have c9 : w2.cell? ⟨w.heap.size, 9, none⟩ = some (.int .u32 0) := S2.out.cells 9
  have g0 := S2.out.free 0
  have g1 := S2.out.free 1
  have g2 := S2.out.free 2
  have g3 := S2.out.free 3
  have g4 := S2.out.free 4
  have g5 := S2.out.free 5
  have g6 := S2.out.free 6
  have g7 := S2.out.free 7
  have g8 := S2.out.free 8
  have g9 := S2.out.free 9
  go_wp2
  obtain ⟨w9, hw9⟩ : ∃ X, ((((((((((w2.setCell ⟨w.heap.size, 0, none⟩ (.bool false)).setCell ⟨w.heap.size, 1, none⟩ (.int .i64 0)).setCell ⟨w.heap.size, 2, none⟩ (.int .u32 0)).setCell ⟨w.heap.size, 3, none⟩ (.int .i64 0)).setCell ⟨w.heap.size, 4, none⟩ (.int .u32 0)).setCell ⟨w.heap.size, 5, none⟩ (.int .i64 0)).setCell ⟨w.heap.size, 6, none⟩ (.int .u32 0)).setCell ⟨w.heap.size, 7, none⟩ (.int .u32 0)).setCell ⟨w.heap.size, 8, none⟩ (.int .u32 0)).setCell ⟨w.heap.size, 9, none⟩ (.int .u32 0)) = X := ⟨_, rfl⟩
  have U9 : Hid (Bx w w9 w.heap.size 29 [.bool false, .int .i64 0, .int .u32 0, .int .i64 0, .int .u32 0, .int .i64 0, .int .u32 0, .int .u32 0, .int .u32 0, .int .u32 0]) := Lib.hid (by rw [← hw9]; exact (((((((((S2.out.st 0 (.bool false)).st 1 (.int .i64 0)).st 2 (.int .u32 0)).st 3 (.int .i64 0)).st 4 (.int .u32 0)).st 5 (.int .i64 0)).st 6 (.int .u32 0)).st 7 (.int .u32 0)).st 8 (.int .u32 0)).st 9 (.int .u32 0))
  rw [hw9]
  clear hw9 c0 g0 c1 g1 c2 g2 c3 g3 c4 g4 c5 g5 c6 g6 c7 g7 c8 g8 c9 g9
  have c0 : w9.cell? ⟨w.heap.size, 0, none⟩ = some (.bool false) := U9.out.cells 0
  have c1 : w9.cell? ⟨w.heap.size, 1, none⟩ = some (.int .i64 0) := U9.out.cells 1
  have c2 : w9.cell? ⟨w.heap.size, 2, none⟩ = some (.int .u32 0) := U9.out.cells 2
  have c3 : w9.cell? ⟨w.heap.size, 3, none⟩ = some (.int .i64 0) := U9.out.cells 3
  have c4 : w9.cell? ⟨w.heap.size, 4, none⟩ = some (.int .u32 0) := U9.out.cells 4
  have c5 : w9.cell? ⟨w.heap.size, 5, none⟩ = some (.int .i64 0) := U9.out.cells 5
  have c6 : w9.cell? ⟨w.heap.size, 6, none⟩ = some (.int .u32 0) := U9.out.cells 6
  have c7 : w9.cell? ⟨w.heap.size, 7, none⟩ = some (.int .u32 0) := U9.out.cells 7
  have c8 : w9.cell? ⟨w.heap.size, 8, none⟩ = some (.int .u32 0) := U9.out.cells 8
  have c9 : w9.cell? ⟨w.heap.size, 9, none⟩ = some (.int .u32 0) := U9.out.cells 9
  refine bodyPost_ret (v := .tuple #[.agg #[.bool false, .int .i64 0, .int .u32 0, .int .i64 0, .int .u32 0, .int .i64 0, .int .u32 0, .int .u32 0, .int .u32 0, .int .u32 0], .int .i64 4]) (by simp [results, Tryz.results7, go_sem, c0, c1, c2, c3, c4, c5, c6, c7, c8, c9]) rfl ⟨U9.out.bel, .inr ⟨HNO.out, rfl⟩⟩
end Go.Proofs.YtgggmhaopcgkkaaGreatDoor
