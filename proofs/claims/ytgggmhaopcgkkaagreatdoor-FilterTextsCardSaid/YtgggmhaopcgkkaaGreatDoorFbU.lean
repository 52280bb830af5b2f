/- Parse of package filter, at a text of six pieces. Conditions: the tables, numbers and errors of packages strconv and bytealg are what their text says. -/
import Derived.Test.YtgggmhaopcgkkaaGreatDoorFbQ
namespace Go.Proofs.YtgggmhaopcgkkaaGreatDoor
open Go.RowKit
theorem arr_at (b C : Nat) (w : World) : (Instr.arrayAt 56 (.slice (some ⟨b, 0, none⟩) 6 C)).run Tryz.prog w = .ok (.pointer (some ⟨b, 0, none⟩)) w := by
  simp [Instr.arrayAt, run_underlying Tryz.underlying56, go_sem]
set_option maxRecDepth 100000 in
set_option maxHeartbeats 8000000 in
theorem parse_six (s t0 t1 t2 t3 t4 t5 : ByteArray) (w : World) (hs : s.size ≤ 1048576) (hm : MaxL w) (hE : ErrV w) (ht : Tab10 w) (hp : pcs s = [t0, t1, t2, t3, t4, t5]) : Calls Tryz.prog 7 #[.string s] w (ParseP s.data.toList w) := by
  have HW : Hid (∀ q : RuleD, Good q → rtext q = s.data.toList → rwords q = [t0.data.toList, t1.data.toList, t2.data.toList, t3.data.toList, t4.data.toList, t5.data.toList]) := Lib.hid fun q hq e => by
    have h := split_text hq.pt (may_p hq.may) e
    rw [← pcs_data, hp] at h
    exact h.symm
  have z1 := pcs_size s t1 (by rw [hp]; simp)
  have z2 := pcs_size s t2 (by rw [hp]; simp)
  have z3 := pcs_size s t3 (by rw [hp]; simp)
  have z4 := pcs_size s t4 (by rw [hp]; simp)
  have z5 := pcs_size s t5 (by rw [hp]; simp)
  obtain ⟨W1, hW1⟩ : ∃ X, w.alloc (.cells #[.bool false, .int .i64 0, .int .u32 0, .int .i64 0, .int .u32 0, .int .i64 0, .int .u32 0, .int .u32 0, .int .u32 0, .int .u32 0] 29) = X := ⟨_, rfl⟩
  have S1 : Hid (Bx w W1 w.heap.size 29 [.bool false, .int .i64 0, .int .u32 0, .int .i64 0, .int .u32 0, .int .i64 0, .int .u32 0, .int .u32 0, .int .u32 0, .int .u32 0]) := Lib.hid (by rw [← hW1]; exact Bx.mk1 _ _ _)
  have HC := Lib.hid (split_is s W1 hs (hm.on S1.out.bel))
  have hc6 := pcs_len s
  obtain ⟨C, hC⟩ : ∃ X, min 7 (s.size + 1) = X := ⟨_, rfl⟩
  rw [hp, hC] at HC
  rw [hp, hC] at hc6
  have hc6' : 6 ≤ C := by simpa using hc6
  have HC2 : Hid (Calls Tryz.prog 23 #[.string s, .string ⟨#[32]⟩, .int .i64 7] W1 fun e w' => e = .returned (.slice (some ⟨W1.heap.size, 0, none⟩) 6 C) ∧ Below W1.heap.size W1 w' ∧ w'.heap[W1.heap.size]? = some (.cells (Lib.cellsOf [t0, t1, t2, t3, t4, t5] C) 9 (0, 0))) := Lib.hid HC.out
  have HE := Lib.hid (hE.on S1.out.bel)
  have HT := Lib.hid (ht.on S1.out.bel)
  clear hC hm HC hc6 hp hE ht
  go_enter Tryz.func7, Tryz.ntmps7
  go_wp2_with fail
  go_at_call 23
  refine HC2.out.mono ?_
  rintro e w2 ⟨rfl, hb2, hrow⟩
  have S2 := Lib.hid (S1.out.on hb2)
  have HB2 := Lib.hid hb2
  have HCL : ∀ k x, ([t0, t1, t2, t3, t4, t5] : List ByteArray)[k]? = some x → w2.cell? ⟨W1.heap.size, k, none⟩ = some (.string x) := fun k x hx => by
    simp only [World.cell?, hrow, Lib.cellsOf]
    have hk : k < 6 := by
      have := (List.getElem?_eq_some_iff.1 hx).1
      simpa using this
    rw [List.getElem?_toArray, List.getElem?_append_left (by simpa using hk), List.getElem?_map, hx]
    rfl
  have l0 : w2.cell? ⟨W1.heap.size, 0, none⟩ = some (.string t0) := HCL 0 t0 rfl
  have l1 : w2.cell? ⟨W1.heap.size, 1, none⟩ = some (.string t1) := HCL 1 t1 rfl
  have l2 : w2.cell? ⟨W1.heap.size, 2, none⟩ = some (.string t2) := HCL 2 t2 rfl
  have l3 : w2.cell? ⟨W1.heap.size, 3, none⟩ = some (.string t3) := HCL 3 t3 rfl
  have l4 : w2.cell? ⟨W1.heap.size, 4, none⟩ = some (.string t4) := HCL 4 t4 rfl
  have l5 : w2.cell? ⟨W1.heap.size, 5, none⟩ = some (.string t5) := HCL 5 t5 rfl
  clear hb2 hrow HCL
  have har := arr_at W1.heap.size C w2
  go_wp2_with fail
  go_at_call 24
  refine (fread_is t0 t1 t2 t3 t4 t5 _ (by omega) (by omega) (by omega) (by omega) (by omega) (HE.out.on HB2.out)).mono ?_
  rintro e w3 ⟨hb3, r, rfl, hok, hpt, hq⟩
  have S3 := Lib.hid (S2.out.on hb3)
  have HB3 := Lib.hid (Below.step HB2.out hb3)
  have HNO : Hid ((mayB r = true → rtext r ≠ s.data.toList) → ∀ q : RuleD, Good q → rtext q ≠ s.data.toList) := Lib.hid fun hn q hg e => by
    have h := hq q hg (HW.out q hg e)
    subst h
    exact hn hg.may e
  have HYES : Hid (∀ q : RuleD, Good q → rtext q = s.data.toList → r = q) := Lib.hid fun q hg e => hq q hg (HW.out q hg e)
  have HOK := Lib.hid hok
  have HPT := Lib.hid hpt
  have HTN := Lib.hid (fun (W : World) (h : mayB r = false) => text_no r W hok h)
  have HTY := Lib.hid (fun (W : World) (h : mayB r = true) (h10 : Tab10 W) => text_yes r W hok hpt h h10)
  clear hb3 hok hpt hq l0 l1 l2 l3 l4 l5 z1 z2 z3 z4 z5
  have B4 : Hid (Bx w (w3.alloc (.cells (encR r).toArray 29)) w3.heap.size 29 (encR r)) := Lib.hid ⟨S3.out.bel.alloc S3.out.bel.size _, S3.out.bel.size, heap_new' _ _⟩
  have HB4 : Hid (Below w3.heap.size w3 (w3.alloc (.cells (encR r).toArray 29))) := Lib.hid ((Below.refl _ _).alloc (Nat.le_refl _) _)
  obtain ⟨TX, hTX⟩ : ∃ X, rtext r = X := ⟨_, rfl⟩
  have HX := Lib.hid hTX
  obtain ⟨M, hM⟩ : ∃ X, mayB r = X := ⟨_, rfl⟩
  have HM := Lib.hid hM
  have HZ : Hid (Good r ∨ M = false) := Lib.hid (by
    cases M with
    | false => exact .inr rfl
    | true => exact .inl ⟨HOK.out, HPT.out, hM⟩)
  rw [hTX, hM] at HNO
  rw [hM] at HTN
  rw [hM, hTX] at HTY
  have HV : Hid (vR r = .agg #[] → True) := Lib.hid (fun _ => trivial)
  clear hTX hM HV
  have HR : Hid (∀ e : Ending, e = .returned (.tuple #[vR r, .int .i64 0]) → e = .returned (.tuple #[vR r, .int .i64 0])) := Lib.hid fun _ h => h
  obtain ⟨perm, proto, sa, sn, da, dn, sl, sh, dl, dh⟩ := r
  simp only [vR, encR] at HTN HTY B4 HB4 ⊢
  cases M with
  | false =>
    go_wp2_with fail
    obtain ⟨w4, hw4⟩ : ∃ X, w3.alloc (.cells #[.bool perm, .int .i64 proto, .int .u32 sa, .int .i64 sn, .int .u32 da, .int .i64 dn, .int .u32 sl, .int .u32 sh, .int .u32 dl, .int .u32 dh] 29) = X := ⟨_, rfl⟩
    have HB4' := HB4.out
    rw [hw4] at HB4'
    have S4 := Lib.hid (S3.out.on HB4')
    rw [hw4]
    go_at_call 5
    refine (HTN.out w4 trivial).mono ?_
    rintro e w5 ⟨rfl, hb5⟩
    have S5 := Lib.hid (S4.out.on hb5)
    clear hb5 hw4 HB4'
    have c0 : w5.cell? ⟨w.heap.size, 0, none⟩ = some (.bool false) := S5.out.cells 0
    have c1 : w5.cell? ⟨w.heap.size, 1, none⟩ = some (.int .i64 0) := S5.out.cells 1
    have c2 : w5.cell? ⟨w.heap.size, 2, none⟩ = some (.int .u32 0) := S5.out.cells 2
    have c3 : w5.cell? ⟨w.heap.size, 3, none⟩ = some (.int .i64 0) := S5.out.cells 3
    have c4 : w5.cell? ⟨w.heap.size, 4, none⟩ = some (.int .u32 0) := S5.out.cells 4
    have c5 : w5.cell? ⟨w.heap.size, 5, none⟩ = some (.int .i64 0) := S5.out.cells 5
    have c6 : w5.cell? ⟨w.heap.size, 6, none⟩ = some (.int .u32 0) := S5.out.cells 6
    have c7 : w5.cell? ⟨w.heap.size, 7, none⟩ = some (.int .u32 0) := S5.out.cells 7
    have c8 : w5.cell? ⟨w.heap.size, 8, none⟩ = some (.int .u32 0) := S5.out.cells 8
    have c9 : w5.cell? ⟨w.heap.size, 9, none⟩ = some (.int .u32 0) := S5.out.cells 9
    have g0 := S5.out.free 0
    have g1 := S5.out.free 1
    have g2 := S5.out.free 2
    have g3 := S5.out.free 3
    have g4 := S5.out.free 4
    have g5 := S5.out.free 5
    have g6 := S5.out.free 6
    have g7 := S5.out.free 7
    have g8 := S5.out.free 8
    have g9 := S5.out.free 9
    go_wp2
    obtain ⟨w9, hw9⟩ : ∃ X, ((((((((((w5.setCell ⟨w.heap.size, 0, none⟩ (.bool false)).setCell ⟨w.heap.size, 1, none⟩ (.int .i64 0)).setCell ⟨w.heap.size, 2, none⟩ (.int .u32 0)).setCell ⟨w.heap.size, 3, none⟩ (.int .i64 0)).setCell ⟨w.heap.size, 4, none⟩ (.int .u32 0)).setCell ⟨w.heap.size, 5, none⟩ (.int .i64 0)).setCell ⟨w.heap.size, 6, none⟩ (.int .u32 0)).setCell ⟨w.heap.size, 7, none⟩ (.int .u32 0)).setCell ⟨w.heap.size, 8, none⟩ (.int .u32 0)).setCell ⟨w.heap.size, 9, none⟩ (.int .u32 0)) = X := ⟨_, rfl⟩
    have U9 : Hid (Bx w w9 w.heap.size 29 [.bool false, .int .i64 0, .int .u32 0, .int .i64 0, .int .u32 0, .int .i64 0, .int .u32 0, .int .u32 0, .int .u32 0, .int .u32 0]) := Lib.hid (by rw [← hw9]; exact (((((((((S5.out.st 0 (.bool false)).st 1 (.int .i64 0)).st 2 (.int .u32 0)).st 3 (.int .i64 0)).st 4 (.int .u32 0)).st 5 (.int .i64 0)).st 6 (.int .u32 0)).st 7 (.int .u32 0)).st 8 (.int .u32 0)).st 9 (.int .u32 0))
    rw [hw9]
    clear hw9 c0 g0 c1 g1 c2 g2 c3 g3 c4 g4 c5 g5 c6 g6 c7 g7 c8 g8 c9 g9
    have c0 : w9.cell? ⟨w.heap.size, 0, none⟩ = some (.bool false) := U9.out.cells 0
    have c1 : w9.cell? ⟨w.heap.size, 1, none⟩ = some (.int .i64 0) := U9.out.cells 1
    have c2 : w9.cell? ⟨w.heap.size, 2, none⟩ = some (.int .u32 0) := U9.out.cells 2
    have c3 : w9.cell? ⟨w.heap.size, 3, none⟩ = some (.int .i64 0) := U9.out.cells 3
    have c4 : w9.cell? ⟨w.heap.size, 4, none⟩ = some (.int .u32 0) := U9.out.cells 4
    have c5 : w9.cell? ⟨w.heap.size, 5, none⟩ = some (.int .i64 0) := U9.out.cells 5
    have c6 : w9.cell? ⟨w.heap.size, 6, none⟩ = some (.int .u32 0) := U9.out.cells 6
    have c7 : w9.cell? ⟨w.heap.size, 7, none⟩ = some (.int .u32 0) := U9.out.cells 7
    have c8 : w9.cell? ⟨w.heap.size, 8, none⟩ = some (.int .u32 0) := U9.out.cells 8
    have c9 : w9.cell? ⟨w.heap.size, 9, none⟩ = some (.int .u32 0) := U9.out.cells 9
    refine bodyPost_ret (v := .tuple #[.agg #[.bool false, .int .i64 0, .int .u32 0, .int .i64 0, .int .u32 0, .int .i64 0, .int .u32 0, .int .u32 0, .int .u32 0, .int .u32 0], .int .i64 4]) (by simp [results, Tryz.results7, go_sem, c0, c1, c2, c3, c4, c5, c6, c7, c8, c9]) rfl ⟨U9.out.bel, .inr ⟨HNO.out (fun h => by cases h), rfl⟩⟩
  | true =>
    go_wp2_with fail
    obtain ⟨w4, hw4⟩ : ∃ X, w3.alloc (.cells #[.bool perm, .int .i64 proto, .int .u32 sa, .int .i64 sn, .int .u32 da, .int .i64 dn, .int .u32 sl, .int .u32 sh, .int .u32 dl, .int .u32 dh] 29) = X := ⟨_, rfl⟩
    have HB4' := HB4.out
    have HB4q := B4.out
    rw [hw4] at HB4' HB4q
    have S4 := Lib.hid (S3.out.on HB4')
    rw [hw4]
    have h10 := HT.out.on (Below.step HB3.out HB4')
    go_at_call 5
    refine (HTY.out w4 trivial h10).mono ?_
    rintro e w5 ⟨rfl, hb5⟩
    have S5 := Lib.hid (S4.out.on hb5)
    have B5 := Lib.hid (HB4q.on hb5)
    clear hb5 hw4 HB4' HB4q h10
    by_cases hx : TX = s.data.toList
    · have HXX := Lib.hid hx
      have k1 : (TX == s.toList) = true := by rw [hx]; simp [ByteArray.toList_eq]
      have k2 : (TX != s.toList) = false := by rw [hx]; simp [ByteArray.toList_eq]
      clear hx
      have c0 : w5.cell? ⟨w.heap.size, 0, none⟩ = some (.bool false) := S5.out.cells 0
      have c1 : w5.cell? ⟨w.heap.size, 1, none⟩ = some (.int .i64 0) := S5.out.cells 1
      have c2 : w5.cell? ⟨w.heap.size, 2, none⟩ = some (.int .u32 0) := S5.out.cells 2
      have c3 : w5.cell? ⟨w.heap.size, 3, none⟩ = some (.int .i64 0) := S5.out.cells 3
      have c4 : w5.cell? ⟨w.heap.size, 4, none⟩ = some (.int .u32 0) := S5.out.cells 4
      have c5 : w5.cell? ⟨w.heap.size, 5, none⟩ = some (.int .i64 0) := S5.out.cells 5
      have c6 : w5.cell? ⟨w.heap.size, 6, none⟩ = some (.int .u32 0) := S5.out.cells 6
      have c7 : w5.cell? ⟨w.heap.size, 7, none⟩ = some (.int .u32 0) := S5.out.cells 7
      have c8 : w5.cell? ⟨w.heap.size, 8, none⟩ = some (.int .u32 0) := S5.out.cells 8
      have c9 : w5.cell? ⟨w.heap.size, 9, none⟩ = some (.int .u32 0) := S5.out.cells 9
      have g0 := S5.out.free 0
      have g1 := S5.out.free 1
      have g2 := S5.out.free 2
      have g3 := S5.out.free 3
      have g4 := S5.out.free 4
      have g5 := S5.out.free 5
      have g6 := S5.out.free 6
      have g7 := S5.out.free 7
      have g8 := S5.out.free 8
      have g9 := S5.out.free 9
      have d0 : w5.cell? ⟨w3.heap.size, 0, none⟩ = some (.bool perm) := B5.out.cells 0
      have d1 : w5.cell? ⟨w3.heap.size, 1, none⟩ = some (.int .i64 proto) := B5.out.cells 1
      have d2 : w5.cell? ⟨w3.heap.size, 2, none⟩ = some (.int .u32 sa) := B5.out.cells 2
      have d3 : w5.cell? ⟨w3.heap.size, 3, none⟩ = some (.int .i64 sn) := B5.out.cells 3
      have d4 : w5.cell? ⟨w3.heap.size, 4, none⟩ = some (.int .u32 da) := B5.out.cells 4
      have d5 : w5.cell? ⟨w3.heap.size, 5, none⟩ = some (.int .i64 dn) := B5.out.cells 5
      have d6 : w5.cell? ⟨w3.heap.size, 6, none⟩ = some (.int .u32 sl) := B5.out.cells 6
      have d7 : w5.cell? ⟨w3.heap.size, 7, none⟩ = some (.int .u32 sh) := B5.out.cells 7
      have d8 : w5.cell? ⟨w3.heap.size, 8, none⟩ = some (.int .u32 dl) := B5.out.cells 8
      have d9 : w5.cell? ⟨w3.heap.size, 9, none⟩ = some (.int .u32 dh) := B5.out.cells 9
      go_wp2
      clear d0 d1 d2 d3 d4 d5 d6 d7 d8 d9
      obtain ⟨w9, hw9⟩ : ∃ X, ((((((((((w5.setCell ⟨w.heap.size, 0, none⟩ (.bool perm)).setCell ⟨w.heap.size, 1, none⟩ (.int .i64 proto)).setCell ⟨w.heap.size, 2, none⟩ (.int .u32 sa)).setCell ⟨w.heap.size, 3, none⟩ (.int .i64 sn)).setCell ⟨w.heap.size, 4, none⟩ (.int .u32 da)).setCell ⟨w.heap.size, 5, none⟩ (.int .i64 dn)).setCell ⟨w.heap.size, 6, none⟩ (.int .u32 sl)).setCell ⟨w.heap.size, 7, none⟩ (.int .u32 sh)).setCell ⟨w.heap.size, 8, none⟩ (.int .u32 dl)).setCell ⟨w.heap.size, 9, none⟩ (.int .u32 dh)) = X := ⟨_, rfl⟩
      have U9 : Hid (Bx w w9 w.heap.size 29 [.bool perm, .int .i64 proto, .int .u32 sa, .int .i64 sn, .int .u32 da, .int .i64 dn, .int .u32 sl, .int .u32 sh, .int .u32 dl, .int .u32 dh]) := Lib.hid (by rw [← hw9]; exact (((((((((S5.out.st 0 (.bool perm)).st 1 (.int .i64 proto)).st 2 (.int .u32 sa)).st 3 (.int .i64 sn)).st 4 (.int .u32 da)).st 5 (.int .i64 dn)).st 6 (.int .u32 sl)).st 7 (.int .u32 sh)).st 8 (.int .u32 dl)).st 9 (.int .u32 dh))
      rw [hw9]
      clear hw9 c0 g0 c1 g1 c2 g2 c3 g3 c4 g4 c5 g5 c6 g6 c7 g7 c8 g8 c9 g9
      have c0 : w9.cell? ⟨w.heap.size, 0, none⟩ = some (.bool perm) := U9.out.cells 0
      have c1 : w9.cell? ⟨w.heap.size, 1, none⟩ = some (.int .i64 proto) := U9.out.cells 1
      have c2 : w9.cell? ⟨w.heap.size, 2, none⟩ = some (.int .u32 sa) := U9.out.cells 2
      have c3 : w9.cell? ⟨w.heap.size, 3, none⟩ = some (.int .i64 sn) := U9.out.cells 3
      have c4 : w9.cell? ⟨w.heap.size, 4, none⟩ = some (.int .u32 da) := U9.out.cells 4
      have c5 : w9.cell? ⟨w.heap.size, 5, none⟩ = some (.int .i64 dn) := U9.out.cells 5
      have c6 : w9.cell? ⟨w.heap.size, 6, none⟩ = some (.int .u32 sl) := U9.out.cells 6
      have c7 : w9.cell? ⟨w.heap.size, 7, none⟩ = some (.int .u32 sh) := U9.out.cells 7
      have c8 : w9.cell? ⟨w.heap.size, 8, none⟩ = some (.int .u32 dl) := U9.out.cells 8
      have c9 : w9.cell? ⟨w.heap.size, 9, none⟩ = some (.int .u32 dh) := U9.out.cells 9
      refine bodyPost_ret (v := .tuple #[.agg #[.bool perm, .int .i64 proto, .int .u32 sa, .int .i64 sn, .int .u32 da, .int .i64 dn, .int .u32 sl, .int .u32 sh, .int .u32 dl, .int .u32 dh], .int .i64 0]) (by simp [results, Tryz.results7, go_sem, c0, c1, c2, c3, c4, c5, c6, c7, c8, c9]) rfl ⟨U9.out.bel, .inl ⟨_, HZ.out.resolve_right (by simp), HX.out.trans HXX.out, rfl, HYES.out⟩⟩
    · have HXX := Lib.hid hx
      have k1 : (TX == s.toList) = false := by simpa [ByteArray.toList_eq] using hx
      have k2 : (TX != s.toList) = true := by simpa [ByteArray.toList_eq] using hx
      clear hx
      have c0 : w5.cell? ⟨w.heap.size, 0, none⟩ = some (.bool false) := S5.out.cells 0
      have c1 : w5.cell? ⟨w.heap.size, 1, none⟩ = some (.int .i64 0) := S5.out.cells 1
      have c2 : w5.cell? ⟨w.heap.size, 2, none⟩ = some (.int .u32 0) := S5.out.cells 2
      have c3 : w5.cell? ⟨w.heap.size, 3, none⟩ = some (.int .i64 0) := S5.out.cells 3
      have c4 : w5.cell? ⟨w.heap.size, 4, none⟩ = some (.int .u32 0) := S5.out.cells 4
      have c5 : w5.cell? ⟨w.heap.size, 5, none⟩ = some (.int .i64 0) := S5.out.cells 5
      have c6 : w5.cell? ⟨w.heap.size, 6, none⟩ = some (.int .u32 0) := S5.out.cells 6
      have c7 : w5.cell? ⟨w.heap.size, 7, none⟩ = some (.int .u32 0) := S5.out.cells 7
      have c8 : w5.cell? ⟨w.heap.size, 8, none⟩ = some (.int .u32 0) := S5.out.cells 8
      have c9 : w5.cell? ⟨w.heap.size, 9, none⟩ = some (.int .u32 0) := S5.out.cells 9
      have g0 := S5.out.free 0
      have g1 := S5.out.free 1
      have g2 := S5.out.free 2
      have g3 := S5.out.free 3
      have g4 := S5.out.free 4
      have g5 := S5.out.free 5
      have g6 := S5.out.free 6
      have g7 := S5.out.free 7
      have g8 := S5.out.free 8
      have g9 := S5.out.free 9
      go_wp2
      obtain ⟨w9, hw9⟩ : ∃ X, ((((((((((w5.setCell ⟨w.heap.size, 0, none⟩ (.bool false)).setCell ⟨w.heap.size, 1, none⟩ (.int .i64 0)).setCell ⟨w.heap.size, 2, none⟩ (.int .u32 0)).setCell ⟨w.heap.size, 3, none⟩ (.int .i64 0)).setCell ⟨w.heap.size, 4, none⟩ (.int .u32 0)).setCell ⟨w.heap.size, 5, none⟩ (.int .i64 0)).setCell ⟨w.heap.size, 6, none⟩ (.int .u32 0)).setCell ⟨w.heap.size, 7, none⟩ (.int .u32 0)).setCell ⟨w.heap.size, 8, none⟩ (.int .u32 0)).setCell ⟨w.heap.size, 9, none⟩ (.int .u32 0)) = X := ⟨_, rfl⟩
      have U9 : Hid (Bx w w9 w.heap.size 29 [.bool false, .int .i64 0, .int .u32 0, .int .i64 0, .int .u32 0, .int .i64 0, .int .u32 0, .int .u32 0, .int .u32 0, .int .u32 0]) := Lib.hid (by rw [← hw9]; exact (((((((((S5.out.st 0 (.bool false)).st 1 (.int .i64 0)).st 2 (.int .u32 0)).st 3 (.int .i64 0)).st 4 (.int .u32 0)).st 5 (.int .i64 0)).st 6 (.int .u32 0)).st 7 (.int .u32 0)).st 8 (.int .u32 0)).st 9 (.int .u32 0))
      rw [hw9]
      clear hw9 c0 g0 c1 g1 c2 g2 c3 g3 c4 g4 c5 g5 c6 g6 c7 g7 c8 g8 c9 g9
      have c0 : w9.cell? ⟨w.heap.size, 0, none⟩ = some (.bool false) := U9.out.cells 0
      have c1 : w9.cell? ⟨w.heap.size, 1, none⟩ = some (.int .i64 0) := U9.out.cells 1
      have c2 : w9.cell? ⟨w.heap.size, 2, none⟩ = some (.int .u32 0) := U9.out.cells 2
      have c3 : w9.cell? ⟨w.heap.size, 3, none⟩ = some (.int .i64 0) := U9.out.cells 3
      have c4 : w9.cell? ⟨w.heap.size, 4, none⟩ = some (.int .u32 0) := U9.out.cells 4
      have c5 : w9.cell? ⟨w.heap.size, 5, none⟩ = some (.int .i64 0) := U9.out.cells 5
      have c6 : w9.cell? ⟨w.heap.size, 6, none⟩ = some (.int .u32 0) := U9.out.cells 6
      have c7 : w9.cell? ⟨w.heap.size, 7, none⟩ = some (.int .u32 0) := U9.out.cells 7
      have c8 : w9.cell? ⟨w.heap.size, 8, none⟩ = some (.int .u32 0) := U9.out.cells 8
      have c9 : w9.cell? ⟨w.heap.size, 9, none⟩ = some (.int .u32 0) := U9.out.cells 9
      refine bodyPost_ret (v := .tuple #[.agg #[.bool false, .int .i64 0, .int .u32 0, .int .i64 0, .int .u32 0, .int .i64 0, .int .u32 0, .int .u32 0, .int .u32 0, .int .u32 0], .int .i64 4]) (by simp [results, Tryz.results7, go_sem, c0, c1, c2, c3, c4, c5, c6, c7, c8, c9]) rfl ⟨U9.out.bel, .inr ⟨HNO.out (fun _ => HXX.out), rfl⟩⟩
end Go.Proofs.YtgggmhaopcgkkaaGreatDoor
