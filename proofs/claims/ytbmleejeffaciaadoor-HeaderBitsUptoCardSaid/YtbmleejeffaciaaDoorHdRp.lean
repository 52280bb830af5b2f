/- What end and Parse of package waymarkref03 hand back, of texts of at most 1048576 bytes. No other condition. -/
import Derived.Test.YtbmleejeffaciaaDoorHdRt
import Derived.Test.YtbmleejeffaciaaDoorHdM
namespace Go.Proofs.YtbmleejeffaciaaDoor
open Go.RowKit
/-- What end hands back of a text. -/
def REndP (l : List UInt8) (e : Ending) : Prop := (∃ a n : Nat, endOf l = some (a, n) ∧ e = .returned (.tuple #[.int .u32 (a : Int), .int .i64 (n : Int)])) ∨ (endOf l = none ∧ ∃ x : Int, e = .returned (.tuple #[.int .u32 x, .int .i64 (-1)]))
theorem rcut_no {l : List UInt8} {c : UInt8} (h : (rcut l c).2.2 = false) : rcut l c = ([], [], false) ∧ (cut1 l c).2.2 = false := by
  unfold rcut at h ⊢
  by_cases hc : (cut1 l c).2.2 = true
  · rw [if_pos hc] at h; rw [hc] at h; cases h
  · rw [if_neg hc]; exact ⟨rfl, by simpa using hc⟩
theorem rcut_yes {l : List UInt8} {c : UInt8} (h : (rcut l c).2.2 = true) : rcut l c = cut1 l c := by
  unfold rcut at h ⊢
  by_cases hc : (cut1 l c).2.2 = true
  · rw [if_pos hc]
  · rw [if_neg hc] at h; cases h
theorem rcut_len (l : List UInt8) (c : UInt8) : (rcut l c).1.length ≤ l.length ∧ (rcut l c).2.1.length ≤ l.length := by
  unfold rcut
  split
  · exact cut1_len l c
  · simp
set_option maxRecDepth 100000 in
set_option maxHeartbeats 2000000 in
theorem endR_is (l : List UInt8) (hs : l.length ≤ 1048576) (w : World) :
    Calls Tryd.prog 34 #[.string ⟨l.toArray⟩] w fun e w' => REndP l e ∧ Below w.heap.size w w' := by
  have hlen := rcut_len l 58
  have HC : Hid (∀ W, Calls Tryd.prog 33 #[.string ⟨l.toArray⟩, .int .u8 58] W fun e w' => e = .returned (.tuple #[.string ⟨(rcut l 58).1.toArray⟩, .string ⟨(rcut l 58).2.1.toArray⟩, .bool (rcut l 58).2.2]) ∧ Below W.heap.size W w') := Lib.hid fun W => by
    have h := cutR_is ⟨l.toArray⟩ 58 58 rfl W (by rw [mk_size]; omega)
    rw [mk_toList] at h
    exact h
  have hno : (rcut l 58).2.2 = false → endOf l = none := fun h => endOf_noN (by rw [cut1_gone l 58 (rcut_no h).2]; exact num_nil _)
  have hyes : (rcut l 58).2.2 = true → (∀ a n, parse (rcut l 58).1 = some a → num (rcut l 58).2.1 65535 = some n → endOf l = some (a, n)) ∧ (parse (rcut l 58).1 = none → endOf l = none) ∧ (num (rcut l 58).2.1 65535 = none → endOf l = none) := fun h => by
    rw [rcut_yes h]
    exact ⟨fun a n h1 h2 => endOf_some h1 h2, fun h1 => by unfold endOf; rw [h1], fun h1 => endOf_noN h1⟩
  generalize rcut l 58 = r at *
  obtain ⟨x, y, ok⟩ := r
  simp only at HC hno hyes hlen
  have HR : Hid (∀ W, Calls Tryd.prog 35 #[.string ⟨y.toArray⟩, .int .i64 65535] W fun e w' => e = .returned (.int .i64 (numR (num y 65535))) ∧ W = w') := Lib.hid fun W => by
    have h := read_is ⟨y.toArray⟩ 65535 W (by omega) (by rw [mk_size]; omega)
    rw [mk_toList] at h
    exact h
  have HP : Hid (∀ W, Calls Tryd.prog 45 #[.string ⟨x.toArray⟩] W fun e w' => e = .returned (.tuple #[.int .u32 (adrI (parse x)).1, .int .i64 (adrI (parse x)).2]) ∧ Below W.heap.size W w') := Lib.hid fun W => by
    have h := rsplit ⟨x.toArray⟩ W (by rw [mk_size]; omega)
    rw [mk_toList] at h
    exact h
  have HNO := Lib.hid hno
  have HYES := Lib.hid hyes
  clear hno hyes
  cases ok with
  | false =>
    have H := Lib.hid (HNO.out rfl)
    generalize adrI (parse x) = A at HP
    obtain ⟨A1, A2⟩ := A
    generalize numR (num y 65535) = B at HR
    clear HNO HYES hlen
    go_enter Tryd.func34, Tryd.ntmps34
    go_wp2_with (first | (go_at_call 33; (with_reducible refine (HC.out _).mono ?_); rintro e w1 ⟨rfl, hb1⟩) | (go_at_call 45; (with_reducible refine (HP.out _).mono ?_); rintro e w2 ⟨rfl, hb2⟩) | (go_at_call 35; (with_reducible refine (HR.out _).mono ?_); rintro e w3 ⟨rfl, rfl⟩))
    go_ret2
    exact ⟨.inr ⟨H.out, _, rfl⟩, Below.step hb1 hb2⟩
  | true =>
    cases hp : parse x with
    | none =>
      have H := Lib.hid ((HYES.out rfl).2.1 hp)
      rw [hp] at HP
      generalize numR (num y 65535) = B at HR
      simp only [adrI] at HP
      clear HNO HYES hlen hp
      go_enter Tryd.func34, Tryd.ntmps34
      go_wp2_with (first | (go_at_call 33; (with_reducible refine (HC.out _).mono ?_); rintro e w1 ⟨rfl, hb1⟩) | (go_at_call 45; (with_reducible refine (HP.out _).mono ?_); rintro e w2 ⟨rfl, hb2⟩) | (go_at_call 35; (with_reducible refine (HR.out _).mono ?_); rintro e w3 ⟨rfl, rfl⟩))
      go_ret2
      exact ⟨.inr ⟨H.out, _, rfl⟩, Below.step hb1 hb2⟩
    | some a =>
      have H : Hid (REndP l (.returned (.tuple #[.int .u32 (a : Int), .int .i64 (numR (num y 65535))]))) := Lib.hid (by
        cases hn : num y 65535 with
        | none => exact .inr ⟨(HYES.out rfl).2.2 hn, _, rfl⟩
        | some n => exact .inl ⟨a, n, (HYES.out rfl).1 a n hp hn, rfl⟩)
      rw [hp] at HP
      generalize numR (num y 65535) = B at HR H
      simp only [adrI] at HP
      clear HNO HYES hlen hp
      go_enter Tryd.func34, Tryd.ntmps34
      go_wp2_with (first | (go_at_call 33; (with_reducible refine (HC.out _).mono ?_); rintro e w1 ⟨rfl, hb1⟩) | (go_at_call 45; (with_reducible refine (HP.out _).mono ?_); rintro e w2 ⟨rfl, hb2⟩) | (go_at_call 35; (with_reducible refine (HR.out _).mono ?_); rintro e w3 ⟨rfl, rfl⟩))
      go_ret2
      exact ⟨H.out, Below.step hb1 hb2⟩
set_option maxRecDepth 100000 in
set_option maxHeartbeats 8000000 in
theorem parseR_is (l : List UInt8) (hs : l.length ≤ 1048576) (w : World) :
    Calls Tryd.prog 19 #[.string ⟨l.toArray⟩] w fun e w' => e = .returned (HpVal (hparse l)) ∧ Below w.heap.size w w' := by
  have hlen := rcut_len l 32
  have hlen2 := rcut_len (rcut l 32).2.1 32
  have hcutR : ∀ (t : List UInt8), t.length ≤ 1048576 → ∀ W, Calls Tryd.prog 33 #[.string ⟨t.toArray⟩, .int .u8 32] W fun e w' => e = .returned (.tuple #[.string ⟨(rcut t 32).1.toArray⟩, .string ⟨(rcut t 32).2.1.toArray⟩, .bool (rcut t 32).2.2]) ∧ Below W.heap.size W w' := fun t ht W => by
    have h := cutR_is ⟨t.toArray⟩ 32 32 rfl W (by rw [mk_size]; omega)
    rw [mk_toList] at h
    exact h
  have HC := Lib.hid (hcutR l hs)
  have HC2 := Lib.hid (hcutR (rcut l 32).2.1 (by omega))
  clear hcutR
  have hno : (rcut l 32).2.2 = false → hparse l = none := fun h => hparse_no (.inr (.inl (by rw [cut1_gone l 32 (rcut_no h).2, cut1_nil]; exact endOf_nil)))
  have hno2 : (rcut l 32).2.2 = true → (rcut (rcut l 32).2.1 32).2.2 = false → hparse l = none := fun h h2 => hparse_no (.inr (.inr (by
    rw [rcut_yes h] at h2
    rw [cut1_gone _ 32 (rcut_no h2).2]; exact num_nil _)))
  have hyes : (rcut l 32).2.2 = true → (rcut (rcut l 32).2.1 32).2.2 = true → (endOf (rcut l 32).1 = none ∨ endOf (rcut (rcut l 32).2.1 32).1 = none ∨ num (rcut (rcut l 32).2.1 32).2.1 255 = none → hparse l = none) ∧ (∀ a b p, endOf (rcut l 32).1 = some a → endOf (rcut (rcut l 32).2.1 32).1 = some b → num (rcut (rcut l 32).2.1 32).2.1 255 = some p → hparse l = some (a.1, b.1, p, a.2, b.2)) := fun h h2 => by
    rw [rcut_yes h] at h2 ⊢
    rw [rcut_yes h2]
    exact ⟨hparse_no, fun a b p h1 h2 h3 => hparse_yes h1 h2 h3⟩
  generalize rcut l 32 = r at *
  obtain ⟨x, rest, ok⟩ := r
  simp only at HC HC2 hno hno2 hyes hlen hlen2
  generalize rcut rest 32 = r at *
  obtain ⟨y, z, too⟩ := r
  simp only at HC2 hno2 hyes hlen2
  have HE : Hid (∀ W, Calls Tryd.prog 34 #[.string ⟨x.toArray⟩] W fun e w' => REndP x e ∧ Below W.heap.size W w') := Lib.hid fun W => endR_is x (by omega) W
  have HE2 : Hid (∀ W, Calls Tryd.prog 34 #[.string ⟨y.toArray⟩] W fun e w' => REndP y e ∧ Below W.heap.size W w') := Lib.hid fun W => endR_is y (by omega) W
  have HR : Hid (∀ W, Calls Tryd.prog 35 #[.string ⟨z.toArray⟩, .int .i64 255] W fun e w' => e = .returned (.int .i64 (numR (num z 255))) ∧ W = w') := Lib.hid fun W => by
    have h := read_is ⟨z.toArray⟩ 255 W (by omega) (by rw [mk_size]; omega)
    rw [mk_toList] at h
    exact h
  have HNO := Lib.hid hno; have HNO2 := Lib.hid hno2; have HYES := Lib.hid hyes
  obtain ⟨Z, hZ⟩ : ∃ Z, w.alloc (.cells #[.int .u32 0, .int .u32 0, .int .u8 0, .int .u16 0, .int .u16 0] 27) = Z := ⟨_, rfl⟩
  have hb0 : Below w.heap.size w Z := by rw [← hZ]; exact (Below.refl _ _).alloc (Nat.le_refl _) _
  have hRZ : Z.heap[w.heap.size]? = some (.cells #[.int .u32 0, .int .u32 0, .int .u8 0, .int .u16 0, .int .u16 0] 27 (0, 0)) := by rw [← hZ]; exact heap_alloc_new w _
  have hz0 : w.heap.size < Z.heap.size := (Array.getElem?_eq_some_iff.1 hRZ).1
  have HB0 := Lib.hid hb0; have HRZ := Lib.hid hRZ
  clear hno hno2 hyes hb0 hRZ hlen hlen2
  cases ok with
  | false =>
    have H := Lib.hid (HNO.out rfl)
    clear HNO HNO2 HYES
    go_enter Tryd.func19, Tryd.ntmps19
    go_wp2_with fail
    go_at_call 33
    (with_reducible refine (HC.out _).mono ?_)
    rintro e w1 ⟨rfl, hb1⟩
    go_wp2_with fail
    go_at_call 33
    (with_reducible refine (HC2.out _).mono ?_)
    rintro e w2 ⟨rfl, hb2⟩
    have hb02 := Below.step hb1 hb2
    have hR3 := (hb02.block _ hz0).trans HRZ.out
    have HR3 := Lib.hid hR3
    obtain ⟨r0, rf0⟩ := row_cell' (j := 0) hR3 rfl
    obtain ⟨r1, rf1⟩ := row_cell' (j := 1) hR3 rfl
    obtain ⟨r2, rf2⟩ := row_cell' (j := 2) hR3 rfl
    obtain ⟨r3, rf3⟩ := row_cell' (j := 3) hR3 rfl
    obtain ⟨r4, rf4⟩ := row_cell' (j := 4) hR3 rfl
    clear hR3
    go_wp2_with fail
    have hfin := set5 (m0 := 0) (m1 := 0) (m2 := 0) (m3 := 0) (m4 := 0) HR3.out
    have hbf : Below w.heap.size w (((((w2.setCell ⟨w.heap.size, 0, none⟩ (.int .u32 0)).setCell ⟨w.heap.size, 1, none⟩ (.int .u32 0)).setCell ⟨w.heap.size, 2, none⟩ (.int .u8 0)).setCell ⟨w.heap.size, 3, none⟩ (.int .u16 0)).setCell ⟨w.heap.size, 4, none⟩ (.int .u16 0)) := by
      repeat refine Below.setCell ?_ (by simp) _
      exact Below.step HB0.out hb02
    obtain ⟨W9, hW9⟩ : ∃ W9, (((((w2.setCell ⟨w.heap.size, 0, none⟩ (.int .u32 0)).setCell ⟨w.heap.size, 1, none⟩ (.int .u32 0)).setCell ⟨w.heap.size, 2, none⟩ (.int .u8 0)).setCell ⟨w.heap.size, 3, none⟩ (.int .u16 0)).setCell ⟨w.heap.size, 4, none⟩ (.int .u16 0)) = W9 := ⟨_, rfl⟩
    rw [hW9] at hfin hbf ⊢
    clear hW9
    obtain ⟨e0, ef0⟩ := row_cell' (j := 0) hfin rfl
    obtain ⟨e1, ef1⟩ := row_cell' (j := 1) hfin rfl
    obtain ⟨e2, ef2⟩ := row_cell' (j := 2) hfin rfl
    obtain ⟨e3, ef3⟩ := row_cell' (j := 3) hfin rfl
    obtain ⟨e4, ef4⟩ := row_cell' (j := 4) hfin rfl
    exact bodyPost_ret (v := .tuple #[.agg #[.int .u32 0, .int .u32 0, .int .u8 0, .int .u16 0, .int .u16 0], .int .i64 4]) (by simp [results, Tryd.results19, go_sem, e0, e1, e2, e3, e4]) rfl ⟨by rw [H.out]; rfl, hbf⟩
  | true =>
    cases too with
    | false =>
      have H := Lib.hid (HNO2.out rfl rfl)
      clear HNO HNO2 HYES
      go_enter Tryd.func19, Tryd.ntmps19
      go_wp2_with fail
      go_at_call 33
      (with_reducible refine (HC.out _).mono ?_)
      rintro e w1 ⟨rfl, hb1⟩
      go_wp2_with fail
      go_at_call 33
      (with_reducible refine (HC2.out _).mono ?_)
      rintro e w2 ⟨rfl, hb2⟩
      have hb02 := Below.step hb1 hb2
      have hR3 := (hb02.block _ hz0).trans HRZ.out
      have HR3 := Lib.hid hR3
      obtain ⟨r0, rf0⟩ := row_cell' (j := 0) hR3 rfl
      obtain ⟨r1, rf1⟩ := row_cell' (j := 1) hR3 rfl
      obtain ⟨r2, rf2⟩ := row_cell' (j := 2) hR3 rfl
      obtain ⟨r3, rf3⟩ := row_cell' (j := 3) hR3 rfl
      obtain ⟨r4, rf4⟩ := row_cell' (j := 4) hR3 rfl
      clear hR3
      go_wp2_with fail
      have hfin := set5 (m0 := 0) (m1 := 0) (m2 := 0) (m3 := 0) (m4 := 0) HR3.out
      have hbf : Below w.heap.size w (((((w2.setCell ⟨w.heap.size, 0, none⟩ (.int .u32 0)).setCell ⟨w.heap.size, 1, none⟩ (.int .u32 0)).setCell ⟨w.heap.size, 2, none⟩ (.int .u8 0)).setCell ⟨w.heap.size, 3, none⟩ (.int .u16 0)).setCell ⟨w.heap.size, 4, none⟩ (.int .u16 0)) := by
        repeat refine Below.setCell ?_ (by simp) _
        exact Below.step HB0.out hb02
      obtain ⟨W9, hW9⟩ : ∃ W9, (((((w2.setCell ⟨w.heap.size, 0, none⟩ (.int .u32 0)).setCell ⟨w.heap.size, 1, none⟩ (.int .u32 0)).setCell ⟨w.heap.size, 2, none⟩ (.int .u8 0)).setCell ⟨w.heap.size, 3, none⟩ (.int .u16 0)).setCell ⟨w.heap.size, 4, none⟩ (.int .u16 0)) = W9 := ⟨_, rfl⟩
      rw [hW9] at hfin hbf ⊢
      clear hW9
      obtain ⟨e0, ef0⟩ := row_cell' (j := 0) hfin rfl
      obtain ⟨e1, ef1⟩ := row_cell' (j := 1) hfin rfl
      obtain ⟨e2, ef2⟩ := row_cell' (j := 2) hfin rfl
      obtain ⟨e3, ef3⟩ := row_cell' (j := 3) hfin rfl
      obtain ⟨e4, ef4⟩ := row_cell' (j := 4) hfin rfl
      exact bodyPost_ret (v := .tuple #[.agg #[.int .u32 0, .int .u32 0, .int .u8 0, .int .u16 0, .int .u16 0], .int .i64 4]) (by simp [results, Tryd.results19, go_sem, e0, e1, e2, e3, e4]) rfl ⟨by rw [H.out]; rfl, hbf⟩
    | true =>
      have HY := Lib.hid (HYES.out rfl rfl)
      clear HNO HNO2 HYES
      obtain ⟨B, hB⟩ : ∃ B, numR (num z 255) = B := ⟨_, rfl⟩
      have hBz : (num z 255 = none ∧ B = -1) ∨ (∃ p : Nat, num z 255 = some p ∧ B = (p : Int) ∧ p ≤ 255) := by
        cases hn : num z 255 with
        | none => rw [hn] at hB; exact .inl ⟨rfl, hB.symm⟩
        | some p => rw [hn] at hB; exact .inr ⟨p, rfl, hB.symm, (num_some hn).2.2.2.1⟩
      rw [hB] at HR
      clear hB
      go_enter Tryd.func19, Tryd.ntmps19
      go_wp2_with fail
      go_at_call 33
      (with_reducible refine (HC.out _).mono ?_)
      rintro e w1 ⟨rfl, hb1⟩
      go_wp2_with fail
      go_at_call 33
      (with_reducible refine (HC2.out _).mono ?_)
      rintro e w2 ⟨rfl, hb2⟩
      have hb02 := Below.step hb1 hb2
      go_wp2_with fail
      go_at_call 34
      (with_reducible refine (HE.out _).mono ?_)
      rintro e w3 ⟨hE, hb3⟩
      have hb03 := Below.step hb02 hb3
      clear hb1 hb2 hb3 hb02
      rcases hE with ⟨a, m, h1, rfl⟩ | ⟨h1, x1, rfl⟩
      · obtain ⟨_, ha, hm⟩ := endOf_text h1
        have hm1 : (m : Int) < 65536 := by omega
        have hm0 : (0 : Int) ≤ (m : Int) := by omega
        go_wp2_with fail
        go_at_call 34
        (with_reducible refine (HE2.out _).mono ?_)
        rintro e w4 ⟨hE, hb4⟩
        have hb04 := Below.step hb03 hb4
        rcases hE with ⟨b, n, h2, rfl⟩ | ⟨h2, x2, rfl⟩
        · obtain ⟨_, hb, hn⟩ := endOf_text h2
          have hn1 : (n : Int) < 65536 := by omega
          have hn0 : (0 : Int) ≤ (n : Int) := by omega
          rcases hBz with ⟨h3, rfl⟩ | ⟨p, h3, rfl, hp⟩
          · have H := Lib.hid (HY.out.1 (.inr (.inr h3)))
            clear HY h1 h2 h3
            go_wp2_with fail
            go_at_call 35
            (with_reducible refine (HR.out _).mono ?_)
            rintro e w5 ⟨rfl, rfl⟩
            have hR3 := (hb04.block _ hz0).trans HRZ.out
            have HR3 := Lib.hid hR3
            obtain ⟨r0, rf0⟩ := row_cell' (j := 0) hR3 rfl
            obtain ⟨r1, rf1⟩ := row_cell' (j := 1) hR3 rfl
            obtain ⟨r2, rf2⟩ := row_cell' (j := 2) hR3 rfl
            obtain ⟨r3, rf3⟩ := row_cell' (j := 3) hR3 rfl
            obtain ⟨r4, rf4⟩ := row_cell' (j := 4) hR3 rfl
            clear hR3
            go_wp2_with fail
            have hfin := set5 (m0 := 0) (m1 := 0) (m2 := 0) (m3 := 0) (m4 := 0) HR3.out
            have hbf : Below w.heap.size w (((((w4.setCell ⟨w.heap.size, 0, none⟩ (.int .u32 0)).setCell ⟨w.heap.size, 1, none⟩ (.int .u32 0)).setCell ⟨w.heap.size, 2, none⟩ (.int .u8 0)).setCell ⟨w.heap.size, 3, none⟩ (.int .u16 0)).setCell ⟨w.heap.size, 4, none⟩ (.int .u16 0)) := by
              repeat refine Below.setCell ?_ (by simp) _
              exact Below.step HB0.out hb04
            obtain ⟨W9, hW9⟩ : ∃ W9, (((((w4.setCell ⟨w.heap.size, 0, none⟩ (.int .u32 0)).setCell ⟨w.heap.size, 1, none⟩ (.int .u32 0)).setCell ⟨w.heap.size, 2, none⟩ (.int .u8 0)).setCell ⟨w.heap.size, 3, none⟩ (.int .u16 0)).setCell ⟨w.heap.size, 4, none⟩ (.int .u16 0)) = W9 := ⟨_, rfl⟩
            rw [hW9] at hfin hbf ⊢
            clear hW9
            obtain ⟨e0, ef0⟩ := row_cell' (j := 0) hfin rfl
            obtain ⟨e1, ef1⟩ := row_cell' (j := 1) hfin rfl
            obtain ⟨e2, ef2⟩ := row_cell' (j := 2) hfin rfl
            obtain ⟨e3, ef3⟩ := row_cell' (j := 3) hfin rfl
            obtain ⟨e4, ef4⟩ := row_cell' (j := 4) hfin rfl
            exact bodyPost_ret (v := .tuple #[.agg #[.int .u32 0, .int .u32 0, .int .u8 0, .int .u16 0, .int .u16 0], .int .i64 4]) (by simp [results, Tryd.results19, go_sem, e0, e1, e2, e3, e4]) rfl ⟨by rw [H.out]; rfl, hbf⟩
          · have H : Hid (HpVal (hparse l) = .tuple #[.agg #[.int .u32 (a : Int), .int .u32 (b : Int), .int .u8 (p : Int), .int .u16 (m : Int), .int .u16 (n : Int)], .int .i64 0]) := Lib.hid (by rw [HY.out.2 _ _ _ h1 h2 h3]; rfl)
            have hp1 : (p : Int) < 256 := by omega
            have hp0 : (0 : Int) ≤ (p : Int) := by omega
            clear HY h1 h2 h3 ha hm hb hn hp
            generalize (p : Int) = p' at *
            generalize (m : Int) = m' at *
            generalize (n : Int) = n' at *
            generalize (a : Int) = a' at *
            generalize (b : Int) = b' at *
            go_wp2_with fail
            go_at_call 35
            (with_reducible refine (HR.out _).mono ?_)
            rintro e w5 ⟨rfl, rfl⟩
            have hR3 := (hb04.block _ hz0).trans HRZ.out
            have HR3 := Lib.hid hR3
            obtain ⟨r0, rf0⟩ := row_cell' (j := 0) hR3 rfl
            obtain ⟨r1, rf1⟩ := row_cell' (j := 1) hR3 rfl
            obtain ⟨r2, rf2⟩ := row_cell' (j := 2) hR3 rfl
            obtain ⟨r3, rf3⟩ := row_cell' (j := 3) hR3 rfl
            obtain ⟨r4, rf4⟩ := row_cell' (j := 4) hR3 rfl
            clear hR3
            go_wp2_with fail
            have hfin := set5 (m0 := a') (m1 := b') (m2 := p') (m3 := m') (m4 := n') HR3.out
            have hbf : Below w.heap.size w (((((w4.setCell ⟨w.heap.size, 0, none⟩ (.int .u32 a')).setCell ⟨w.heap.size, 1, none⟩ (.int .u32 b')).setCell ⟨w.heap.size, 2, none⟩ (.int .u8 p')).setCell ⟨w.heap.size, 3, none⟩ (.int .u16 m')).setCell ⟨w.heap.size, 4, none⟩ (.int .u16 n')) := by
              repeat refine Below.setCell ?_ (by simp) _
              exact Below.step HB0.out hb04
            obtain ⟨W9, hW9⟩ : ∃ W9, (((((w4.setCell ⟨w.heap.size, 0, none⟩ (.int .u32 a')).setCell ⟨w.heap.size, 1, none⟩ (.int .u32 b')).setCell ⟨w.heap.size, 2, none⟩ (.int .u8 p')).setCell ⟨w.heap.size, 3, none⟩ (.int .u16 m')).setCell ⟨w.heap.size, 4, none⟩ (.int .u16 n')) = W9 := ⟨_, rfl⟩
            rw [hW9] at hfin hbf ⊢
            clear hW9
            obtain ⟨e0, ef0⟩ := row_cell' (j := 0) hfin rfl
            obtain ⟨e1, ef1⟩ := row_cell' (j := 1) hfin rfl
            obtain ⟨e2, ef2⟩ := row_cell' (j := 2) hfin rfl
            obtain ⟨e3, ef3⟩ := row_cell' (j := 3) hfin rfl
            obtain ⟨e4, ef4⟩ := row_cell' (j := 4) hfin rfl
            exact bodyPost_ret (v := .tuple #[.agg #[.int .u32 a', .int .u32 b', .int .u8 p', .int .u16 m', .int .u16 n'], .int .i64 0]) (by simp [results, Tryd.results19, go_sem, e0, e1, e2, e3, e4]) rfl ⟨by rw [H.out], hbf⟩
        · have H := Lib.hid (HY.out.1 (.inr (.inl h2)))
          clear HY h1 h2 hBz
          go_wp2_with fail
          go_at_call 35
          (with_reducible refine (HR.out _).mono ?_)
          rintro e w5 ⟨rfl, rfl⟩
          have hR3 := (hb04.block _ hz0).trans HRZ.out
          have HR3 := Lib.hid hR3
          obtain ⟨r0, rf0⟩ := row_cell' (j := 0) hR3 rfl
          obtain ⟨r1, rf1⟩ := row_cell' (j := 1) hR3 rfl
          obtain ⟨r2, rf2⟩ := row_cell' (j := 2) hR3 rfl
          obtain ⟨r3, rf3⟩ := row_cell' (j := 3) hR3 rfl
          obtain ⟨r4, rf4⟩ := row_cell' (j := 4) hR3 rfl
          clear hR3
          go_wp2_with fail
          have hfin := set5 (m0 := 0) (m1 := 0) (m2 := 0) (m3 := 0) (m4 := 0) HR3.out
          have hbf : Below w.heap.size w (((((w4.setCell ⟨w.heap.size, 0, none⟩ (.int .u32 0)).setCell ⟨w.heap.size, 1, none⟩ (.int .u32 0)).setCell ⟨w.heap.size, 2, none⟩ (.int .u8 0)).setCell ⟨w.heap.size, 3, none⟩ (.int .u16 0)).setCell ⟨w.heap.size, 4, none⟩ (.int .u16 0)) := by
            repeat refine Below.setCell ?_ (by simp) _
            exact Below.step HB0.out hb04
          obtain ⟨W9, hW9⟩ : ∃ W9, (((((w4.setCell ⟨w.heap.size, 0, none⟩ (.int .u32 0)).setCell ⟨w.heap.size, 1, none⟩ (.int .u32 0)).setCell ⟨w.heap.size, 2, none⟩ (.int .u8 0)).setCell ⟨w.heap.size, 3, none⟩ (.int .u16 0)).setCell ⟨w.heap.size, 4, none⟩ (.int .u16 0)) = W9 := ⟨_, rfl⟩
          rw [hW9] at hfin hbf ⊢
          clear hW9
          obtain ⟨e0, ef0⟩ := row_cell' (j := 0) hfin rfl
          obtain ⟨e1, ef1⟩ := row_cell' (j := 1) hfin rfl
          obtain ⟨e2, ef2⟩ := row_cell' (j := 2) hfin rfl
          obtain ⟨e3, ef3⟩ := row_cell' (j := 3) hfin rfl
          obtain ⟨e4, ef4⟩ := row_cell' (j := 4) hfin rfl
          exact bodyPost_ret (v := .tuple #[.agg #[.int .u32 0, .int .u32 0, .int .u8 0, .int .u16 0, .int .u16 0], .int .i64 4]) (by simp [results, Tryd.results19, go_sem, e0, e1, e2, e3, e4]) rfl ⟨by rw [H.out]; rfl, hbf⟩
      · have H := Lib.hid (HY.out.1 (.inl h1))
        clear HY h1 hBz
        go_wp2_with fail
        go_at_call 34
        (with_reducible refine (HE2.out _).mono ?_)
        rintro e w4 ⟨hE, hb4⟩
        have hb04 := Below.step hb03 hb4
        obtain ⟨b1, b2, rfl⟩ : ∃ b1 b2 : Int, e = .returned (.tuple #[.int .u32 b1, .int .i64 b2]) := by
          rcases hE with ⟨b, n, _, rfl⟩ | ⟨_, x2, rfl⟩
          · exact ⟨_, _, rfl⟩
          · exact ⟨_, _, rfl⟩
        clear hE
        go_wp2_with fail
        go_at_call 35
        (with_reducible refine (HR.out _).mono ?_)
        rintro e w5 ⟨rfl, rfl⟩
        have hR3 := (hb04.block _ hz0).trans HRZ.out
        have HR3 := Lib.hid hR3
        obtain ⟨r0, rf0⟩ := row_cell' (j := 0) hR3 rfl
        obtain ⟨r1, rf1⟩ := row_cell' (j := 1) hR3 rfl
        obtain ⟨r2, rf2⟩ := row_cell' (j := 2) hR3 rfl
        obtain ⟨r3, rf3⟩ := row_cell' (j := 3) hR3 rfl
        obtain ⟨r4, rf4⟩ := row_cell' (j := 4) hR3 rfl
        clear hR3
        go_wp2_with fail
        have hfin := set5 (m0 := 0) (m1 := 0) (m2 := 0) (m3 := 0) (m4 := 0) HR3.out
        have hbf : Below w.heap.size w (((((w4.setCell ⟨w.heap.size, 0, none⟩ (.int .u32 0)).setCell ⟨w.heap.size, 1, none⟩ (.int .u32 0)).setCell ⟨w.heap.size, 2, none⟩ (.int .u8 0)).setCell ⟨w.heap.size, 3, none⟩ (.int .u16 0)).setCell ⟨w.heap.size, 4, none⟩ (.int .u16 0)) := by
          repeat refine Below.setCell ?_ (by simp) _
          exact Below.step HB0.out hb04
        obtain ⟨W9, hW9⟩ : ∃ W9, (((((w4.setCell ⟨w.heap.size, 0, none⟩ (.int .u32 0)).setCell ⟨w.heap.size, 1, none⟩ (.int .u32 0)).setCell ⟨w.heap.size, 2, none⟩ (.int .u8 0)).setCell ⟨w.heap.size, 3, none⟩ (.int .u16 0)).setCell ⟨w.heap.size, 4, none⟩ (.int .u16 0)) = W9 := ⟨_, rfl⟩
        rw [hW9] at hfin hbf ⊢
        clear hW9
        obtain ⟨e0, ef0⟩ := row_cell' (j := 0) hfin rfl
        obtain ⟨e1, ef1⟩ := row_cell' (j := 1) hfin rfl
        obtain ⟨e2, ef2⟩ := row_cell' (j := 2) hfin rfl
        obtain ⟨e3, ef3⟩ := row_cell' (j := 3) hfin rfl
        obtain ⟨e4, ef4⟩ := row_cell' (j := 4) hfin rfl
        exact bodyPost_ret (v := .tuple #[.agg #[.int .u32 0, .int .u32 0, .int .u8 0, .int .u16 0, .int .u16 0], .int .i64 4]) (by simp [results, Tryd.results19, go_sem, e0, e1, e2, e3, e4]) rfl ⟨by rw [H.out]; rfl, hbf⟩
end Go.Proofs.YtbmleejeffaciaaDoor
