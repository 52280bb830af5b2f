/- The sequences of nobody's table, and what all of a node hands back. No condition. -/
import Derived.Test.YtfnakobkibljiaaTrA
import Derived.Deep.RegionHeld3
import Derived.RangeFuncFrom
import Derived.RangeFuncWrites
import Derived.RangeFuncNested
import Derived.RangeFuncBound
import Derived.RangeFuncCalls
import Derived.RangeFuncLeaves
import Derived.Shelf.Abstract
import Derived.Shelf.RegionOpen
import Derived.WalkKit
import Derived.OwnWalkIn
import Derived.TacticsInMore
import Derived.LoopNIn
import Derived.LoopIn
namespace Go.Proofs.Ytfnakobkibljiaa
open Go.RowKit Go.Shelf
/-- A prefix and a text. -/
abbrev Kv := (Int × Int) × ByteArray
abbrev encKv (x : Kv) : Array Value := #[.agg #[.int .u32 x.1.1, .int .i64 x.1.2], .string x.2]
/-- The sequence that all of a node hands back: b: where the node is kept; behind it what leads on. -/
abbrev seqV (b : Nat) : Value := .func (.func 24) #[] #[.pointer (some ⟨b, 0, none⟩), .pointer (some ⟨b + 1, 0, none⟩)]
theorem all_is (q : Option Addr) (fn : Fn) (cs : Array Value) (w : World) : Calls Try.prog 15 #[.pointer q, .func fn #[] cs] w fun e w' => e = .returned (seqV w.heap.size) ∧ w' = (w.alloc (.cells #[.pointer q] 45)).alloc (.cells #[.func fn #[] cs] 50) := by
  go_enter Try.func15, Try.ntmps15
  go_wp2_with fail
  go_ret
  exact ⟨rfl, rfl⟩
theorem rows4 (w : World) (o0 o1 o2 o3 : Obj) : ((((w.alloc o0).alloc o1).alloc o2).alloc o3).heap[w.heap.size]? = some o0 ∧ ((((w.alloc o0).alloc o1).alloc o2).alloc o3).heap[w.heap.size + 1]? = some o1 ∧ ((((w.alloc o0).alloc o1).alloc o2).alloc o3).heap[w.heap.size + 1 + 1]? = some o2 ∧ ((((w.alloc o0).alloc o1).alloc o2).alloc o3).heap[w.heap.size + 1 + 1 + 1]? = some o3 := by
  have h0 := heap_alloc_new w o0
  have h1 := heap_alloc_new (w.alloc o0) o1
  have h2 := heap_alloc_new ((w.alloc o0).alloc o1) o2
  have h3 := heap_alloc_new (((w.alloc o0).alloc o1).alloc o2) o3
  simp only [World.size_alloc] at h1 h2 h3
  exact ⟨(Below.heap_alloc _ _ _ (by simp only [World.size_alloc]; omega)).trans ((Below.heap_alloc _ _ _ (by simp only [World.size_alloc]; omega)).trans ((Below.heap_alloc _ _ _ (by simp only [World.size_alloc]; omega)).trans h0)), (Below.heap_alloc _ _ _ (by simp only [World.size_alloc]; omega)).trans ((Below.heap_alloc _ _ _ (by simp only [World.size_alloc]; omega)).trans h1), (Below.heap_alloc _ _ _ (by simp only [World.size_alloc]; omega)).trans h2, h3⟩
/-- A sequence of nobody's table. -/
def NilSeq (w : World) (e : Ending) (w' : World) : Prop := ∃ (b : Nat) (fn : Fn) (cs : Array Value), e = .returned (seqV b) ∧ w.heap.size ≤ b ∧ b + 1 < w'.heap.size ∧ w'.cell? ⟨b, 0, none⟩ = some (.pointer none) ∧ w'.cell? ⟨b + 1, 0, none⟩ = some (.func fn #[] cs) ∧ Below w.heap.size w w'
theorem two_cells (w : World) (x y : Value) (s t : TypeId) : ((w.alloc (.cells #[x] s)).alloc (.cells #[y] t)).cell? ⟨w.heap.size, 0, none⟩ = some x ∧ ((w.alloc (.cells #[x] s)).alloc (.cells #[y] t)).cell? ⟨w.heap.size + 1, 0, none⟩ = some y := by
  have h1 := heap_alloc_new w (.cells #[x] s)
  have h2 := heap_alloc_new (w.alloc (.cells #[x] s)) (.cells #[y] t)
  rw [World.size_alloc] at h2
  refine ⟨(cell_of_row _ _ 0 _ _ (0, 0) ((Below.heap_alloc (w.alloc (.cells #[x] s)) (.cells #[y] t) w.heap.size (by simp)).trans h1)).trans rfl, (cell_of_row _ _ 0 _ _ (0, 0) h2).trans rfl⟩
theorem nil_seq {w w1 w2 : World} {fn : Fn} {cs : Array Value} (hb : Below w.heap.size w w1) (h : w2 = (w1.alloc (.cells #[.pointer none] 45)).alloc (.cells #[.func fn #[] cs] 50)) : NilSeq w (.returned (seqV w1.heap.size)) w2 := by
  subst h
  obtain ⟨h1, h2⟩ := two_cells w1 (.pointer none) (.func fn #[] cs) 45 50
  exact ⟨_, fn, cs, rfl, hb.size, by simp, h1, h2, (hb.alloc hb.size _).alloc (by have := hb.size; simp; omega) _⟩
theorem seqAll_nil (w : World) : Calls Try.prog 6 #[.pointer none] w (NilSeq w) := by
  have HT := Lib.hid (fun w => top_nil w); have HA := Lib.hid (fun q fn cs w => all_is q fn cs w)
  go_enter Try.func6, Try.ntmps6
  go_wp2_with fail
  go_at_call 14
  (with_reducible refine (HT.out _).mono ?_)
  rintro e w1 ⟨rfl, rfl⟩
  go_wp2_with fail
  go_at_call 15
  (with_reducible refine (HA.out _ _ _ _).mono ?_)
  rintro e w2 ⟨rfl, hw2⟩
  have HW := Lib.hid hw2
  clear hw2
  go_wp2_with fail
  go_ret
  exact nil_seq (Below.refl _ _) HW.out
theorem seqOver_nil (a : Int) (w : World) : Calls Try.prog 7 #[.pointer none, .int .u32 a] w (NilSeq w) := by
  have HT := Lib.hid (fun w => top_nil w); have HA := Lib.hid (fun q fn cs w => all_is q fn cs w)
  go_enter Try.func7, Try.ntmps7
  go_wp2_with fail
  go_at_call 14
  (with_reducible refine (HT.out _).mono ?_)
  rintro e w1 ⟨rfl, rfl⟩
  go_wp2_with fail
  go_at_call 15
  (with_reducible refine (HA.out _ _ _ _).mono ?_)
  rintro e w2 ⟨rfl, hw2⟩
  have HW := Lib.hid hw2
  clear hw2
  go_wp2_with fail
  go_ret
  have h := nil_seq ((Below.refl w.heap.size w).alloc (Nat.le_refl _) (.cells #[.int .u32 a] 26)) HW.out
  rw [World.size_alloc] at h
  exact h
theorem seqWithin_nil (a b : Int) (w : World) : Calls Try.prog 8 #[.pointer none, .agg #[.int .u32 a, .int .i64 b]] w (NilSeq w) := by
  have HT := Lib.hid (fun w => top_nil w); have HA := Lib.hid (fun q fn cs w => all_is q fn cs w); have HU := Lib.hid (fun w => under_nil a b w)
  go_enter Try.func8, Try.ntmps8
  go_wp2_with fail
  obtain ⟨Z, hZ⟩ : ∃ Z, w.alloc (.cells #[.int .u32 a, .int .i64 b] 28) = Z := ⟨_, rfl⟩
  have hB : Below w.heap.size w Z := by rw [← hZ]; exact (Below.refl _ _).alloc (Nat.le_refl _) _
  have hq : Z.heap[w.heap.size]? = some (.cells #[.int .u32 a, .int .i64 b] 28 (0, 0)) := by rw [← hZ]; exact heap_alloc_new w _
  rw [hZ]
  clear hZ
  obtain ⟨g, hg⟩ : ∃ g, w.heap.size = g := ⟨_, rfl⟩
  rw [hg] at hq ⊢
  have hgz : g < Z.heap.size := (Array.getElem?_eq_some_iff.1 hq).1
  have c0 : Z.cell? ⟨g, 0, none⟩ = some (.int .u32 a) := (cell_of_row _ _ 0 _ _ (0, 0) hq).trans rfl
  have c1 : Z.cell? ⟨g, 1, none⟩ = some (.int .i64 b) := (cell_of_row _ _ 1 _ _ (0, 0) hq).trans rfl
  have HC0 := Lib.hid c0; have HC1 := Lib.hid c1; have HB := Lib.hid hB
  have HG := Lib.hid hg
  clear hq hB hg
  go_region_held3 (fun w' => w'.cell? ⟨g, 0, none⟩ = some (.int .u32 a) ∧ w'.cell? ⟨g, 1, none⟩ = some (.int .i64 b)) (first | go_keep | (simp [*, World.cell?_alloc_some]; done) | (trace_state; fail)) (first
    | (go_at_call 14; (with_reducible refine (HT.out _).mono ?_); rintro e wx ⟨rfl, rfl⟩)
    | (go_at_call 19; (with_reducible refine (HU.out _).mono ?_); rintro e wu ⟨rfl, hbu⟩; (have hbz : Below Z.heap.size Z wu := Below.step ((Below.refl _ _).drew) hbu); (have zc0 : wu.cell? ⟨g, 0, none⟩ = some (.int .u32 a) := (hbz.cell (p := ⟨g, 0, none⟩) hgz).trans HC0.out); (have zc1 : wu.cell? ⟨g, 1, none⟩ = some (.int .i64 b) := (hbz.cell (p := ⟨g, 1, none⟩) hgz).trans HC1.out); (have HBZ := Lib.hid hbz); clear hbu hbz)
    | (go_at_call 15; (with_reducible refine (HA.out _ _ _ _).mono ?_); rintro e wa ⟨rfl, hwa⟩; (have HW := Lib.hid hwa); (obtain ⟨h1, h2⟩ := two_cells wu (.pointer none) (.func (.func 16) #[] #[]) 45 50); (have zc0 : wa.cell? ⟨g, 0, none⟩ = some (.int .u32 a) := by rw [hwa]; exact ((((Below.refl wu.heap.size wu).alloc (Nat.le_refl _) _).alloc (by simp) _).cell (p := ⟨g, 0, none⟩) (by show g < wu.heap.size; have := HBZ.out.size; omega)).trans zc0); (have zc1 : wa.cell? ⟨g, 1, none⟩ = some (.int .i64 b) := by rw [hwa]; exact ((((Below.refl wu.heap.size wu).alloc (Nat.le_refl _) _).alloc (by simp) _).cell (p := ⟨g, 1, none⟩) (by show g < wu.heap.size; have := HBZ.out.size; omega)).trans zc1); clear hwa h1 h2))
  go_wp2_with fail
  go_ret
  have hbu : Below w.heap.size w wu := HB.out.trans (HBZ.out.mono HB.out.size)
  exact nil_seq hbu HW.out
/-- Nobody's sequence gives nothing. -/
theorem nil_stops {α : Type} (encs : α → Array Value) (n b : Nat) (fn : Fn) (cs : Array Value) (Kp : World → World → Prop) (w0 : World) (hlt : b + 1 < w0.heap.size) (h1 : w0.cell? ⟨b, 0, none⟩ = some (.pointer none)) (h2 : w0.cell? ⟨b + 1, 0, none⟩ = some (.func fn #[] cs)) :
    SeqStopsK Fence.wide n Try.prog 24 #[.pointer (some ⟨b, 0, none⟩), .pointer (some ⟨b + 1, 0, none⟩)] encs Kp (fun xs => xs = []) (fun _ => False) 0 w0 := by
  intro l J Jx W hW hJ hJx hY h0
  have g1 := (hW.cell (p := ⟨b, 0, none⟩) (by show b < _; omega)).trans h1
  have g2 := (hW.cell (p := ⟨b + 1, 0, none⟩) hlt).trans h2
  have HV := Lib.hid (fun ld y w => visit_nil ld y w)
  have H0 := Lib.hid h0
  refine callsIn_wide.2 ?_
  clear hY hJ hJx h0 hW h1 h2
  go_enter Try.func24, Try.ntmps24
  go_wp2_with fail
  go_at_call 25
  (with_reducible refine (HV.out _ _ _).mono ?_)
  rintro e w2 ⟨rfl, rfl⟩
  go_wp2_with fail
  trace_state
  go_end0
  exact ⟨⟨_, rfl⟩, .inl ⟨[], rfl, H0.out⟩⟩
end Go.Proofs.Ytfnakobkibljiaa
