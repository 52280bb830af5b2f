/- The readers of package routes at the words of awake's text. Condition: the words of package routes are what their text says. -/
import Derived.Test.YtmbkkjofikijiaaGreatDoorRaT
import Derived.Test.YtmbkkjofikijiaaGreatDoorParse
namespace Go.Proofs.YtmbkkjofikijiaaGreatDoor
open Go.RowKit
theorem heap_set1 (w : World) (g o : Nat) (v : Value) (cur : Array Value) (e : TypeId) (f : Nat × Nat) (h : w.heap[g]? = some (.cells cur e f)) : (w.setCell ⟨g, o, none⟩ v).heap[g]? = some (.cells (cur.setIfInBounds o v) e f) := by
  unfold World.setCell
  simp [Array.getElem?_modify, h]
theorem taker_is (s : ByteArray) (w : World) : Calls Tryz.prog 68 #[.string s] w fun e w' => e = .returned (.func (.func 125) #[] #[.pointer (some ⟨w.heap.size, 0, none⟩)]) ∧ w' = w.alloc (.cells #[.string s] 9) := by
  go_enter Tryz.func68, Tryz.ntmps68
  go_wp2
  go_ret
  exact ⟨rfl, rfl⟩
/-- What stands where a text's rest stands. -/
def At1 (W : World) (g : Nat) (s : ByteArray) : Prop := W.heap[g]? = some (.cells #[.string s] 9 (0, 0))
theorem tk_is (s : ByteArray) (g : Nat) (w : World) (h : At1 w g s) (hs : s.size ≤ 1000000) (word rest : ByteArray) (hw : (⟨(cut1 s.data.toList 32).1.toArray⟩ : ByteArray) = word) (hr : (⟨(cut1 s.data.toList 32).2.1.toArray⟩ : ByteArray) = rest) :
    Calls Tryz.prog 125 #[.pointer (some ⟨g, 0, none⟩)] w fun e w' => e = .returned (.string word) ∧ At1 w' g rest ∧ Below g w w' := by
  have hg : g < w.heap.size := (Array.getElem?_eq_some_iff.1 h).1
  have x0 : w.cell? ⟨g, 0, none⟩ = some (.string s) := by unfold At1 at h; simp only [World.cell?, h]; rfl
  have hc := scut_is s 32 w (by omega)
  rw [hw, hr] at hc
  have HC := Lib.hid hc; have HA := Lib.hid h; have HG := Lib.hid hg
  clear hc h hs hg
  go_enter Tryz.func125, Tryz.ntmps125
  go_wp2_with fail
  go_at_call 126
  refine HC.out.mono ?_
  rintro e w1 ⟨rfl, hb⟩
  have HB := Lib.hid hb
  clear hb
  have h1 : At1 w1 g s := (HB.out.block g HG.out).trans HA.out
  have x1 : w1.cell? ⟨g, 0, none⟩ = some (.string s) := by unfold At1 at h1; simp only [World.cell?, h1]; rfl
  have x2 : w1.frozen? ⟨g, 0, none⟩ = false := by unfold At1 at h1; simp [World.frozen?, h1]
  have H1 := Lib.hid h1
  clear h1
  go_wp2
  go_ret
  exact ⟨rfl, heap_set1 _ _ _ _ _ _ _ H1.out, (HB.out.mono (Nat.le_of_lt HG.out)).trans ((Below.refl g w1).setCell (p := ⟨g, 0, none⟩) (Nat.le_refl _) _)⟩
theorem num_w (s : ByteArray) (n : Int) (hs : s.size ≤ 18) (h : Lib.atoi s.data.toList = some n) (w : World) : Calls Tryz.prog 71 #[.string s] w fun e w' => e = .returned (.int .i64 n) ∧ Below w.heap.size w w' := by
  have HC := Lib.hid (Tryz.strconv_Atoi s n hs h w)
  clear hs h
  go_enter Tryz.func71, Tryz.ntmps71
  go_wp2_with fail
  go_at_call 128
  refine HC.out.mono ?_
  rintro e w1 ⟨rfl, t, rfl⟩
  have hb : Below w.heap.size w (Lib.bytesWorld w 5 t) := Lib.bytesWorld_below w _ t
  have HB := Lib.hid hb
  clear hb
  obtain ⟨W1, hW1⟩ : ∃ X, Lib.bytesWorld w 5 t = X := ⟨_, rfl⟩
  rw [hW1] at HB ⊢
  go_wp2
  go_ret
  exact ⟨rfl, HB.out⟩
theorem adr_w (w : World) : Calls Tryz.prog 72 #[.string ⟨#[49, 48, 46, 49, 46, 48, 46, 49]⟩] w fun e w' => e = .returned (.int .u32 167837697) ∧ Below w.heap.size w w' := by
  have hc := parse_is ⟨#[49, 48, 46, 49, 46, 48, 46, 49]⟩ w (by decide)
  rw [show adrI (parse (⟨#[49, 48, 46, 49, 46, 48, 46, 49]⟩ : ByteArray).data.toList) = (167837697, 0) by decide +kernel] at hc
  have HC := Lib.hid hc
  clear hc
  go_enter Tryz.func72, Tryz.ntmps72
  go_wp2_with fail
  go_at_call 129
  refine HC.out.mono ?_
  rintro e w1 ⟨rfl, hb⟩
  have HB := Lib.hid hb
  clear hb
  go_wp2
  go_ret
  exact ⟨rfl, HB.out⟩
theorem clone_w (s : ByteArray) (hs : s.size ≤ 1000000) (w : World) : Calls Tryz.prog 73 #[.string s] w fun e w' => e = .returned (.string s) ∧ Below w.heap.size w w' := by
  have HC := Lib.hid (Tryz.stringslite_Clone s w (by omega))
  clear hs
  go_enter Tryz.func73, Tryz.ntmps73
  go_wp2_with fail
  go_at_call 130
  refine HC.out.mono ?_
  rintro e w1 ⟨rfl, hb⟩
  have HB := Lib.hid hb
  clear hb
  go_wp2
  go_ret
  exact ⟨rfl, HB.out⟩
theorem pfx_w (w : World) : Calls Tryz.prog 69 #[.string ⟨#[49, 48, 46, 48, 46, 48, 46, 48, 47, 56]⟩] w fun e w' => e = .returned (.agg #[.int .u32 167772160, .int .i64 8]) ∧ Below w.heap.size w w' := by
  obtain ⟨W1, hW1⟩ : ∃ X, w.alloc (.cells #[.int .u32 0, .int .i64 0] 25) = X := ⟨_, rfl⟩
  have HB1 : Hid (Below w.heap.size w W1) := Lib.hid (by rw [← hW1]; exact (Below.refl _ _).alloc (Nat.le_refl _) _)
  have HX1 : Hid (W1.heap[w.heap.size]? = some (.cells #[.int .u32 0, .int .i64 0] 25 (0, 0))) := Lib.hid (by rw [← hW1]; exact heap_new' _ _)
  have HZ1 : Hid (w.heap.size < W1.heap.size) := Lib.hid (Array.getElem?_eq_some_iff.1 HX1.out).1
  have hc := pparse_is ⟨#[49, 48, 46, 48, 46, 48, 46, 48, 47, 56]⟩ W1 (by decide)
  rw [show pparse (⟨#[49, 48, 46, 48, 46, 48, 46, 48, 47, 56]⟩ : ByteArray).data.toList = (167772160, 8, 0) by decide +kernel] at hc
  have HC := Lib.hid hc
  clear hc
  go_enter Tryz.func69, Tryz.ntmps69
  go_wp2_with fail
  go_at_call 127
  refine HC.out.mono ?_
  rintro e w1 ⟨rfl, hb⟩
  have HB := Lib.hid (HB1.out.trans (hb.mono (Nat.le_of_lt HZ1.out)))
  have h1 : w1.heap[w.heap.size]? = some (.cells #[.int .u32 0, .int .i64 0] 25 (0, 0)) := (hb.block _ HZ1.out).trans HX1.out
  have x1 : w1.cell? ⟨w.heap.size, 0, none⟩ = some (.int .u32 0) := by simp only [World.cell?, h1]; rfl
  have x2 : w1.cell? ⟨w.heap.size, 1, none⟩ = some (.int .i64 0) := by simp only [World.cell?, h1]; rfl
  have x3 : ∀ o, w1.frozen? ⟨w.heap.size, o, none⟩ = false := fun o => by simp [World.frozen?, h1]
  have hz : w.heap.size < w1.heap.size := (Array.getElem?_eq_some_iff.1 h1).1
  have HZ := Lib.hid hz
  have hne : w.heap.size ≠ w1.heap.size := by omega
  have x4 := x3 0; have x5 := x3 1
  clear hb h1 x3
  go_wp2
  refine bodyPost_ret (by simp [results, Tryz.results69, go_sem, x1, x2, hz, hne]; try rfl) rfl ?_
  exact ⟨rfl, by
    refine Below.trans HB.out ?_
    exact Below.alloc (Below.setCell (p := ⟨w.heap.size, 1, none⟩) (Below.setCell (p := ⟨w.heap.size, 0, none⟩) (Below.refl _ w1) (Nat.le_refl _) _) (Nat.le_refl _) _) (by simp [World.setCell]; exact Nat.le_of_lt HZ.out) _⟩
set_option maxRecDepth 100000 in
set_option maxHeartbeats 2000000 in
theorem src_w (w : World) (hs : Src9 w) : Calls Tryz.prog 70 #[.string ⟨#[105, 110, 116, 114, 97]⟩] w fun e w' => e = .returned (.int .u8 3) ∧ w' = w := by
  obtain ⟨⟨y0, y1, y2, y3, y4, y5, y6, y7, y8⟩, _⟩ := hs
  have ix0 : ∀ W : World, (Instr.index 62 (.agg #[.string ⟨#[]⟩, .string ⟨#[99, 111, 110, 110, 101, 99, 116, 101, 100]⟩, .string ⟨#[119, 114, 105, 116, 116, 101, 110]⟩, .string ⟨#[105, 110, 116, 114, 97]⟩, .string ⟨#[105, 110, 116, 101, 114]⟩, .string ⟨#[101, 120, 116, 101, 114, 110, 97, 108, 49]⟩, .string ⟨#[101, 120, 116, 101, 114, 110, 97, 108, 50]⟩, .string ⟨#[101, 98, 103, 112]⟩, .string ⟨#[105, 98, 103, 112]⟩]) (.int .i64 0)).run Tryz.prog W = .ok (.string ⟨#[]⟩) W := fun W => by
    simp [Instr.index, run_underlying Tryz.underlying62, asIntOf, go_sem]
  have ix1 : ∀ W : World, (Instr.index 62 (.agg #[.string ⟨#[]⟩, .string ⟨#[99, 111, 110, 110, 101, 99, 116, 101, 100]⟩, .string ⟨#[119, 114, 105, 116, 116, 101, 110]⟩, .string ⟨#[105, 110, 116, 114, 97]⟩, .string ⟨#[105, 110, 116, 101, 114]⟩, .string ⟨#[101, 120, 116, 101, 114, 110, 97, 108, 49]⟩, .string ⟨#[101, 120, 116, 101, 114, 110, 97, 108, 50]⟩, .string ⟨#[101, 98, 103, 112]⟩, .string ⟨#[105, 98, 103, 112]⟩]) (.int .i64 1)).run Tryz.prog W = .ok (.string ⟨#[99, 111, 110, 110, 101, 99, 116, 101, 100]⟩) W := fun W => by
    simp [Instr.index, run_underlying Tryz.underlying62, asIntOf, go_sem]
  have ix2 : ∀ W : World, (Instr.index 62 (.agg #[.string ⟨#[]⟩, .string ⟨#[99, 111, 110, 110, 101, 99, 116, 101, 100]⟩, .string ⟨#[119, 114, 105, 116, 116, 101, 110]⟩, .string ⟨#[105, 110, 116, 114, 97]⟩, .string ⟨#[105, 110, 116, 101, 114]⟩, .string ⟨#[101, 120, 116, 101, 114, 110, 97, 108, 49]⟩, .string ⟨#[101, 120, 116, 101, 114, 110, 97, 108, 50]⟩, .string ⟨#[101, 98, 103, 112]⟩, .string ⟨#[105, 98, 103, 112]⟩]) (.int .i64 2)).run Tryz.prog W = .ok (.string ⟨#[119, 114, 105, 116, 116, 101, 110]⟩) W := fun W => by
    simp [Instr.index, run_underlying Tryz.underlying62, asIntOf, go_sem]
  have ix3 : ∀ W : World, (Instr.index 62 (.agg #[.string ⟨#[]⟩, .string ⟨#[99, 111, 110, 110, 101, 99, 116, 101, 100]⟩, .string ⟨#[119, 114, 105, 116, 116, 101, 110]⟩, .string ⟨#[105, 110, 116, 114, 97]⟩, .string ⟨#[105, 110, 116, 101, 114]⟩, .string ⟨#[101, 120, 116, 101, 114, 110, 97, 108, 49]⟩, .string ⟨#[101, 120, 116, 101, 114, 110, 97, 108, 50]⟩, .string ⟨#[101, 98, 103, 112]⟩, .string ⟨#[105, 98, 103, 112]⟩]) (.int .i64 3)).run Tryz.prog W = .ok (.string ⟨#[105, 110, 116, 114, 97]⟩) W := fun W => by
    simp [Instr.index, run_underlying Tryz.underlying62, asIntOf, go_sem]
  go_enter Tryz.func70, Tryz.ntmps70
  go_wp2
  refine wp_loop_rounds 4 ?_
  rw [rounds_succ]
  go_wp2
  rw [rounds_succ]
  go_wp2
  rw [rounds_succ]
  go_wp2
  rw [rounds_succ]
  go_wp2
  go_ret
  exact ⟨rfl, rfl⟩
end Go.Proofs.YtmbkkjofikijiaaGreatDoor
