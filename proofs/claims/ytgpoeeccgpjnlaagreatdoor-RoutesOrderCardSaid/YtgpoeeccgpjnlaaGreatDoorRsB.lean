/- The order of routes. Under the conditions that they name. -/
import Derived.Test.YtgpoeeccgpjnlaaGreatDoorRsA
import Derived.Shelf.Abstract
namespace Go.Proofs.YtgpoeeccgpjnlaaGreatDoor
open Go.RowKit Go.Shelf
/-- The first that is not 0. -/
def fst0 : List Int → Int
  | [] => 0
  | x :: l => if x = 0 then fst0 l else x
/-- The order of routes. -/
def cR (r s : RtD) : Int := fst0 (ords r s)
/-- Where the eight orders stand. -/
def OrdAt (W : World) (q h : Nat) : Prop := q < W.heap.size ∧ h < W.heap.size ∧ W.cell? ⟨q, 0, none⟩ = some (.slice (some ⟨h, 0, none⟩) 8 8) ∧ W.cell? ⟨h, 0, none⟩ = some (.func (.func 21) #[] #[]) ∧ W.cell? ⟨h, 1, none⟩ = some (.func (.func 23) #[] #[]) ∧ W.cell? ⟨h, 2, none⟩ = some (.func (.func 25) #[] #[]) ∧ W.cell? ⟨h, 3, none⟩ = some (.func (.func 27) #[] #[]) ∧ W.cell? ⟨h, 4, none⟩ = some (.func (.func 28) #[] #[]) ∧ W.cell? ⟨h, 5, none⟩ = some (.func (.func 29) #[] #[]) ∧ W.cell? ⟨h, 6, none⟩ = some (.func (.func 31) #[] #[]) ∧ W.cell? ⟨h, 7, none⟩ = some (.func (.func 33) #[] #[])
theorem OrdAt.on {W W' : World} {q h : Nat} (h0 : OrdAt W q h) (hb : Below W.heap.size W W') : OrdAt W' q h := by
  obtain ⟨h1, h2, y0, y1, y2, y3, y4, y5, y6, y7, y8⟩ := h0
  have := hb.size
  refine ⟨by omega, by omega, (hb.cell (p := ⟨q, 0, none⟩) h1).trans y0, (hb.cell (p := ⟨h, 0, none⟩) h2).trans y1, (hb.cell (p := ⟨h, 1, none⟩) h2).trans y2, (hb.cell (p := ⟨h, 2, none⟩) h2).trans y3, (hb.cell (p := ⟨h, 3, none⟩) h2).trans y4, (hb.cell (p := ⟨h, 4, none⟩) h2).trans y5, (hb.cell (p := ⟨h, 5, none⟩) h2).trans y6, (hb.cell (p := ⟨h, 6, none⟩) h2).trans y7, (hb.cell (p := ⟨h, 7, none⟩) h2).trans y8⟩
theorem heap_new' (w : World) (x : Obj) : (w.alloc x).heap[w.heap.size]? = some x := by
  show (w.heap.push x)[w.heap.size]? = some x
  simp
theorem heap_old' (w : World) (x : Obj) (i : Nat) (h : i < w.heap.size) : (w.alloc x).heap[i]? = w.heap[i]? := by
  show (w.heap.push x)[i]? = w.heap[i]?
  rw [Array.getElem?_push, if_neg (by omega)]
set_option maxRecDepth 100000 in
set_option maxHeartbeats 8000000 in
theorem turn_is (r s : RtD) (w : World) (q h : Nat) (ho : OrdAt w q h) : Calls Tryz.prog 65 #[.agg (encRt r).toArray, .agg (encRt s).toArray, .pointer (some ⟨q, 0, none⟩)] w fun e w' => e = .returned (.int .i64 (cR r s)) ∧ Below w.heap.size w w' := by
  have H0 := Lib.hid (fun W => ord1 r s W)
  have eg0 : ∀ args w, (callFunc 21 args).run Tryz.prog w = .ok (.enter 21 args) w := enters_of Tryz.func21 (by kernel_rfl) rfl
  have H1 := Lib.hid (fun W => ord2 r s W)
  have eg1 : ∀ args w, (callFunc 23 args).run Tryz.prog w = .ok (.enter 23 args) w := enters_of Tryz.func23 (by kernel_rfl) rfl
  have H2 := Lib.hid (fun W => ord3 r s W)
  have eg2 : ∀ args w, (callFunc 25 args).run Tryz.prog w = .ok (.enter 25 args) w := enters_of Tryz.func25 (by kernel_rfl) rfl
  have H3 := Lib.hid (fun W => ord4 r s W)
  have eg3 : ∀ args w, (callFunc 27 args).run Tryz.prog w = .ok (.enter 27 args) w := enters_of Tryz.func27 (by kernel_rfl) rfl
  have H4 := Lib.hid (fun W => ord5 r s W)
  have eg4 : ∀ args w, (callFunc 28 args).run Tryz.prog w = .ok (.enter 28 args) w := enters_of Tryz.func28 (by kernel_rfl) rfl
  have H5 := Lib.hid (fun W => ord6 r s W)
  have eg5 : ∀ args w, (callFunc 29 args).run Tryz.prog w = .ok (.enter 29 args) w := enters_of Tryz.func29 (by kernel_rfl) rfl
  have H6 := Lib.hid (fun W => ord7 r s W)
  have eg6 : ∀ args w, (callFunc 31 args).run Tryz.prog w = .ok (.enter 31 args) w := enters_of Tryz.func31 (by kernel_rfl) rfl
  have H7 := Lib.hid (fun W => ord8 r s W)
  have eg7 : ∀ args w, (callFunc 33 args).run Tryz.prog w = .ok (.enter 33 args) w := enters_of Tryz.func33 (by kernel_rfl) rfl
  have HV : Hid (cR r s = fst0 (ords r s)) := Lib.hid rfl
  obtain ⟨a, b, fr, di, me, ta, nm, ho, dc⟩ := r
  obtain ⟨a2, b2, fr2, di2, me2, ta2, nm2, ho2, dc2⟩ := s
  simp only [encRt, ords] at *
  obtain ⟨v, hv⟩ : ∃ v, cR ⟨a, b, fr, di, me, ta, nm, ho, dc⟩ ⟨a2, b2, fr2, di2, me2, ta2, nm2, ho2, dc2⟩ = v := ⟨_, rfl⟩
  rw [hv] at HV ⊢
  clear hv
  obtain ⟨c0, hc0⟩ : ∃ x, cP a b a2 b2 = x := ⟨_, rfl⟩
  rw [hc0] at H0 HV
  clear hc0
  obtain ⟨c1, hc1⟩ : ∃ x, cI fr fr2 = x := ⟨_, rfl⟩
  rw [hc1] at H1 HV
  clear hc1
  obtain ⟨c2, hc2⟩ : ∃ x, cI di di2 = x := ⟨_, rfl⟩
  rw [hc2] at H2 HV
  clear hc2
  obtain ⟨c3, hc3⟩ : ∃ x, cI me me2 = x := ⟨_, rfl⟩
  rw [hc3] at H3 HV
  clear hc3
  obtain ⟨c4, hc4⟩ : ∃ x, cI ta ta2 = x := ⟨_, rfl⟩
  rw [hc4] at H4 HV
  clear hc4
  obtain ⟨c5, hc5⟩ : ∃ x, cI ho ho2 = x := ⟨_, rfl⟩
  rw [hc5] at H5 HV
  clear hc5
  obtain ⟨c6, hc6⟩ : ∃ x, cS nm nm2 = x := ⟨_, rfl⟩
  rw [hc6] at H6 HV
  clear hc6
  obtain ⟨c7, hc7⟩ : ∃ x, cB dc dc2 = x := ⟨_, rfl⟩
  rw [hc7] at H7 HV
  clear hc7
  obtain ⟨Z, hZ⟩ : ∃ X, (w.alloc (.cells #[.int .u32 a, .int .i64 b, .int .u8 fr, .int .i64 di, .int .i64 me, .int .i64 ta, .string nm, .int .u32 ho, .bool dc] 27)).alloc (.cells #[.int .u32 a2, .int .i64 b2, .int .u8 fr2, .int .i64 di2, .int .i64 me2, .int .i64 ta2, .string nm2, .int .u32 ho2, .bool dc2] 27) = X := ⟨_, rfl⟩
  have HBZ : Hid (Below w.heap.size w Z) := Lib.hid (by rw [← hZ]; exact ((Below.refl _ _).alloc (Nat.le_refl _) _).alloc (by simp) _)
  have hz : Z.heap.size = w.heap.size + 2 := by rw [← hZ]; simp
  have z1 : Z.heap[w.heap.size]? = some (.cells #[.int .u32 a, .int .i64 b, .int .u8 fr, .int .i64 di, .int .i64 me, .int .i64 ta, .string nm, .int .u32 ho, .bool dc] 27 (0, 0)) := by rw [← hZ, heap_old' _ _ _ (by simp)]; exact heap_new' _ _
  have z2 : Z.heap[w.heap.size + 1]? = some (.cells #[.int .u32 a2, .int .i64 b2, .int .u8 fr2, .int .i64 di2, .int .i64 me2, .int .i64 ta2, .string nm2, .int .u32 ho2, .bool dc2] 27 (0, 0)) := by rw [← hZ]; have := heap_new' (w.alloc (.cells #[.int .u32 a, .int .i64 b, .int .u8 fr, .int .i64 di, .int .i64 me, .int .i64 ta, .string nm, .int .u32 ho, .bool dc] 27)) (.cells #[.int .u32 a2, .int .i64 b2, .int .u8 fr2, .int .i64 di2, .int .i64 me2, .int .i64 ta2, .string nm2, .int .u32 ho2, .bool dc2] 27); simpa using this
  have HX : Hid (∀ W, Below Z.heap.size Z W → W.cell? ⟨w.heap.size, 0, none⟩ = some (.int .u32 a) ∧ W.cell? ⟨w.heap.size, 1, none⟩ = some (.int .i64 b) ∧ W.cell? ⟨w.heap.size, 2, none⟩ = some (.int .u8 fr) ∧ W.cell? ⟨w.heap.size, 3, none⟩ = some (.int .i64 di) ∧ W.cell? ⟨w.heap.size, 4, none⟩ = some (.int .i64 me) ∧ W.cell? ⟨w.heap.size, 5, none⟩ = some (.int .i64 ta) ∧ W.cell? ⟨w.heap.size, 6, none⟩ = some (.string nm) ∧ W.cell? ⟨w.heap.size, 7, none⟩ = some (.int .u32 ho) ∧ W.cell? ⟨w.heap.size, 8, none⟩ = some (.bool dc) ∧ W.cell? ⟨w.heap.size + 1, 0, none⟩ = some (.int .u32 a2) ∧ W.cell? ⟨w.heap.size + 1, 1, none⟩ = some (.int .i64 b2) ∧ W.cell? ⟨w.heap.size + 1, 2, none⟩ = some (.int .u8 fr2) ∧ W.cell? ⟨w.heap.size + 1, 3, none⟩ = some (.int .i64 di2) ∧ W.cell? ⟨w.heap.size + 1, 4, none⟩ = some (.int .i64 me2) ∧ W.cell? ⟨w.heap.size + 1, 5, none⟩ = some (.int .i64 ta2) ∧ W.cell? ⟨w.heap.size + 1, 6, none⟩ = some (.string nm2) ∧ W.cell? ⟨w.heap.size + 1, 7, none⟩ = some (.int .u32 ho2) ∧ W.cell? ⟨w.heap.size + 1, 8, none⟩ = some (.bool dc2)) := Lib.hid fun W hb => by
    have e1 := (hb.block w.heap.size (by omega)).trans z1
    have e2 := (hb.block (w.heap.size + 1) (by omega)).trans z2
    refine ⟨?_, ?_, ?_, ?_, ?_, ?_, ?_, ?_, ?_, ?_, ?_, ?_, ?_, ?_, ?_, ?_, ?_, ?_⟩ <;> first | (simp only [World.cell?, e1]; rfl) | (simp only [World.cell?, e2]; rfl)
  have HY : Hid (∀ W, Below Z.heap.size Z W → OrdAt W q h) := Lib.hid fun W hb => (‹OrdAt w q h›.on HBZ.out).on hb
  clear z1 z2 hz
  obtain ⟨x0, x1, x2, x3, x4, x5, x6, x7, x8, x9, x10, x11, x12, x13, x14, x15, x16, x17⟩ := HX.out Z (Below.refl _ _)
  obtain ⟨_, _, y0, y1, y2, y3, y4, y5, y6, y7, y8⟩ := HY.out Z (Below.refl _ _)
  go_enter Tryz.func65, Tryz.ntmps65
  go_wp2_with fail
  refine wp_loop_rounds 9 ?_
  have hb0 : Below Z.heap.size Z Z := Below.refl _ _
  have HB0 := Lib.hid hb0
  clear hb0
  rw [rounds_succ]
  go_wp2_with fail
  refine (H0.out _).mono ?_
  rintro e w1 ⟨rfl, hb1⟩
  have HB1 := Lib.hid (Below.step HB0.out hb1)
  clear hb1 x0 x1 x2 x3 x4 x5 x6 x7 x8 x9 x10 x11 x12 x13 x14 x15 x16 x17 y0 y1 y2 y3 y4 y5 y6 y7 y8
  obtain ⟨x0, x1, x2, x3, x4, x5, x6, x7, x8, x9, x10, x11, x12, x13, x14, x15, x16, x17⟩ := HX.out w1 HB1.out
  obtain ⟨_, _, y0, y1, y2, y3, y4, y5, y6, y7, y8⟩ := HY.out w1 HB1.out
  by_cases h0 : c0 = 0
  case neg =>
    have e1 : (c0 != 0) = true := by simpa using h0
    have e2 : (c0 == 0) = false := by simpa using h0
    have hv : v = c0 := by rw [HV.out]; simp [fst0, *]
    subst hv
    go_wp2_with fail
    go_ret
    exact ⟨rfl, HBZ.out.trans (HB1.out.mono HBZ.out.size)⟩
  subst h0
  go_wp2_with fail
  rw [rounds_succ]
  go_wp2_with fail
  refine (H1.out _).mono ?_
  rintro e w2 ⟨rfl, hb2⟩
  have HB2 := Lib.hid (Below.step HB1.out hb2)
  clear hb2 x0 x1 x2 x3 x4 x5 x6 x7 x8 x9 x10 x11 x12 x13 x14 x15 x16 x17 y0 y1 y2 y3 y4 y5 y6 y7 y8
  obtain ⟨x0, x1, x2, x3, x4, x5, x6, x7, x8, x9, x10, x11, x12, x13, x14, x15, x16, x17⟩ := HX.out w2 HB2.out
  obtain ⟨_, _, y0, y1, y2, y3, y4, y5, y6, y7, y8⟩ := HY.out w2 HB2.out
  by_cases h1 : c1 = 0
  case neg =>
    have e1 : (c1 != 0) = true := by simpa using h1
    have e2 : (c1 == 0) = false := by simpa using h1
    have hv : v = c1 := by rw [HV.out]; simp [fst0, *]
    subst hv
    go_wp2_with fail
    go_ret
    exact ⟨rfl, HBZ.out.trans (HB2.out.mono HBZ.out.size)⟩
  subst h1
  go_wp2_with fail
  rw [rounds_succ]
  go_wp2_with fail
  refine (H2.out _).mono ?_
  rintro e w3 ⟨rfl, hb3⟩
  have HB3 := Lib.hid (Below.step HB2.out hb3)
  clear hb3 x0 x1 x2 x3 x4 x5 x6 x7 x8 x9 x10 x11 x12 x13 x14 x15 x16 x17 y0 y1 y2 y3 y4 y5 y6 y7 y8
  obtain ⟨x0, x1, x2, x3, x4, x5, x6, x7, x8, x9, x10, x11, x12, x13, x14, x15, x16, x17⟩ := HX.out w3 HB3.out
  obtain ⟨_, _, y0, y1, y2, y3, y4, y5, y6, y7, y8⟩ := HY.out w3 HB3.out
  by_cases h2 : c2 = 0
  case neg =>
    have e1 : (c2 != 0) = true := by simpa using h2
    have e2 : (c2 == 0) = false := by simpa using h2
    have hv : v = c2 := by rw [HV.out]; simp [fst0, *]
    subst hv
    go_wp2_with fail
    go_ret
    exact ⟨rfl, HBZ.out.trans (HB3.out.mono HBZ.out.size)⟩
  subst h2
  go_wp2_with fail
  rw [rounds_succ]
  go_wp2_with fail
  refine (H3.out _).mono ?_
  rintro e w4 ⟨rfl, hb4⟩
  have HB4 := Lib.hid (Below.step HB3.out hb4)
  clear hb4 x0 x1 x2 x3 x4 x5 x6 x7 x8 x9 x10 x11 x12 x13 x14 x15 x16 x17 y0 y1 y2 y3 y4 y5 y6 y7 y8
  obtain ⟨x0, x1, x2, x3, x4, x5, x6, x7, x8, x9, x10, x11, x12, x13, x14, x15, x16, x17⟩ := HX.out w4 HB4.out
  obtain ⟨_, _, y0, y1, y2, y3, y4, y5, y6, y7, y8⟩ := HY.out w4 HB4.out
  by_cases h3 : c3 = 0
  case neg =>
    have e1 : (c3 != 0) = true := by simpa using h3
    have e2 : (c3 == 0) = false := by simpa using h3
    have hv : v = c3 := by rw [HV.out]; simp [fst0, *]
    subst hv
    go_wp2_with fail
    go_ret
    exact ⟨rfl, HBZ.out.trans (HB4.out.mono HBZ.out.size)⟩
  subst h3
  go_wp2_with fail
  rw [rounds_succ]
  go_wp2_with fail
  refine (H4.out _).mono ?_
  rintro e w5 ⟨rfl, hb5⟩
  have HB5 := Lib.hid (Below.step HB4.out hb5)
  clear hb5 x0 x1 x2 x3 x4 x5 x6 x7 x8 x9 x10 x11 x12 x13 x14 x15 x16 x17 y0 y1 y2 y3 y4 y5 y6 y7 y8
  obtain ⟨x0, x1, x2, x3, x4, x5, x6, x7, x8, x9, x10, x11, x12, x13, x14, x15, x16, x17⟩ := HX.out w5 HB5.out
  obtain ⟨_, _, y0, y1, y2, y3, y4, y5, y6, y7, y8⟩ := HY.out w5 HB5.out
  by_cases h4 : c4 = 0
  case neg =>
    have e1 : (c4 != 0) = true := by simpa using h4
    have e2 : (c4 == 0) = false := by simpa using h4
    have hv : v = c4 := by rw [HV.out]; simp [fst0, *]
    subst hv
    go_wp2_with fail
    go_ret
    exact ⟨rfl, HBZ.out.trans (HB5.out.mono HBZ.out.size)⟩
  subst h4
  go_wp2_with fail
  rw [rounds_succ]
  go_wp2_with fail
  refine (H5.out _).mono ?_
  rintro e w6 ⟨rfl, hb6⟩
  have HB6 := Lib.hid (Below.step HB5.out hb6)
  clear hb6 x0 x1 x2 x3 x4 x5 x6 x7 x8 x9 x10 x11 x12 x13 x14 x15 x16 x17 y0 y1 y2 y3 y4 y5 y6 y7 y8
  obtain ⟨x0, x1, x2, x3, x4, x5, x6, x7, x8, x9, x10, x11, x12, x13, x14, x15, x16, x17⟩ := HX.out w6 HB6.out
  obtain ⟨_, _, y0, y1, y2, y3, y4, y5, y6, y7, y8⟩ := HY.out w6 HB6.out
  by_cases h5 : c5 = 0
  case neg =>
    have e1 : (c5 != 0) = true := by simpa using h5
    have e2 : (c5 == 0) = false := by simpa using h5
    have hv : v = c5 := by rw [HV.out]; simp [fst0, *]
    subst hv
    go_wp2_with fail
    go_ret
    exact ⟨rfl, HBZ.out.trans (HB6.out.mono HBZ.out.size)⟩
  subst h5
  go_wp2_with fail
  rw [rounds_succ]
  go_wp2_with fail
  refine (H6.out _).mono ?_
  rintro e w7 ⟨rfl, hb7⟩
  have HB7 := Lib.hid (Below.step HB6.out hb7)
  clear hb7 x0 x1 x2 x3 x4 x5 x6 x7 x8 x9 x10 x11 x12 x13 x14 x15 x16 x17 y0 y1 y2 y3 y4 y5 y6 y7 y8
  obtain ⟨x0, x1, x2, x3, x4, x5, x6, x7, x8, x9, x10, x11, x12, x13, x14, x15, x16, x17⟩ := HX.out w7 HB7.out
  obtain ⟨_, _, y0, y1, y2, y3, y4, y5, y6, y7, y8⟩ := HY.out w7 HB7.out
  by_cases h6 : c6 = 0
  case neg =>
    have e1 : (c6 != 0) = true := by simpa using h6
    have e2 : (c6 == 0) = false := by simpa using h6
    have hv : v = c6 := by rw [HV.out]; simp [fst0, *]
    subst hv
    go_wp2_with fail
    go_ret
    exact ⟨rfl, HBZ.out.trans (HB7.out.mono HBZ.out.size)⟩
  subst h6
  go_wp2_with fail
  rw [rounds_succ]
  go_wp2_with fail
  refine (H7.out _).mono ?_
  rintro e w8 ⟨rfl, hb8⟩
  have HB8 := Lib.hid (Below.step HB7.out hb8)
  clear hb8 x0 x1 x2 x3 x4 x5 x6 x7 x8 x9 x10 x11 x12 x13 x14 x15 x16 x17 y0 y1 y2 y3 y4 y5 y6 y7 y8
  obtain ⟨x0, x1, x2, x3, x4, x5, x6, x7, x8, x9, x10, x11, x12, x13, x14, x15, x16, x17⟩ := HX.out w8 HB8.out
  obtain ⟨_, _, y0, y1, y2, y3, y4, y5, y6, y7, y8⟩ := HY.out w8 HB8.out
  by_cases h7 : c7 = 0
  case neg =>
    have e1 : (c7 != 0) = true := by simpa using h7
    have e2 : (c7 == 0) = false := by simpa using h7
    have hv : v = c7 := by rw [HV.out]; simp [fst0, *]
    subst hv
    go_wp2_with fail
    go_ret
    exact ⟨rfl, HBZ.out.trans (HB8.out.mono HBZ.out.size)⟩
  subst h7
  go_wp2_with fail
  rw [rounds_succ]
  have hv : v = 0 := by rw [HV.out]; simp [fst0]
  subst hv
  go_wp2_with fail
  go_ret
  exact ⟨rfl, HBZ.out.trans (HB8.out.mono HBZ.out.size)⟩
end Go.Proofs.YtgpoeeccgpjnlaaGreatDoor
