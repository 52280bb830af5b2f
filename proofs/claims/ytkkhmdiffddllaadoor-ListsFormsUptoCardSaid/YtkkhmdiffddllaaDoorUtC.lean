/- The first line that fits, of entries; which entry decides of a prefix, and whether it permits. Under the conditions that they name. -/
import Derived.Test.YtkkhmdiffddllaaDoorUtB
namespace Go.Proofs.YtkkhmdiffddllaaDoor
open Go.Shelf Go.RowKit Go.Lib
theorem boxE {A B C : World} {v0 v1 v2 v3 v4 : Value} (h5 : A.alloc (.cells #[(.bool false), (.int .u32 0), (.int .i64 0), (.int .i64 0), (.int .i64 0)] 51) = B) (h6 : (((((B.setCell ⟨A.heap.size, 0, none⟩ v0).setCell ⟨A.heap.size, 1, none⟩ v1).setCell ⟨A.heap.size, 2, none⟩ v2).setCell ⟨A.heap.size, 3, none⟩ v3).setCell ⟨A.heap.size, 4, none⟩ v4) = C) : Hid (C.heap[A.heap.size]? = some (.cells #[v0, v1, v2, v3, v4] 51 (0, 0))) ∧ Hid (Below A.heap.size A C) ∧ Hid (C.heap.size = A.heap.size + 1) ∧ Hid (B.heap[A.heap.size]? = some (.cells #[(.bool false), (.int .u32 0), (.int .i64 0), (.int .i64 0), (.int .i64 0)] 51 (0, 0))) := by
  have e := heap_alc h5
  have h : Below A.heap.size A B := by rw [← h5]; exact (Below.refl _ _).alloc (Nat.le_refl _) _
  refine ⟨Lib.hid ?_, Lib.hid ?_, Lib.hid ?_, Lib.hid e⟩
  · rw [← h6]; simpa using (heap_store (o := 4) (v := v4) (heap_store (o := 3) (v := v3) (heap_store (o := 2) (v := v2) (heap_store (o := 1) (v := v1) (heap_store (o := 0) (v := v0) e)))))
  · rw [← h6]; exact (Below.setCell (p := ⟨A.heap.size, 4, none⟩) (Below.setCell (p := ⟨A.heap.size, 3, none⟩) (Below.setCell (p := ⟨A.heap.size, 2, none⟩) (Below.setCell (p := ⟨A.heap.size, 1, none⟩) (Below.setCell (p := ⟨A.heap.size, 0, none⟩) h (Nat.le_refl _) _) (Nat.le_refl _) _) (Nat.le_refl _) _) (Nat.le_refl _) _) (Nat.le_refl _) _)
  · rw [← h6]; simp; rw [← h5]; simp
set_option maxRecDepth 100000 in
set_option maxHeartbeats 1000000 in
theorem firstE_is (k : Nat) (P : EntD → Bool) (v : Value) (es : List EntD) (w : World) (hv : RdK encE 5 w v es) (hl : es.length ≤ 35184372087808)
    (hcl : ∀ W x, Below w.heap.size w W → x ∈ es → Calls Tryd.prog 37 #[.agg (encE x).toArray, .pointer (some ⟨k, 0, none⟩)] W fun e w' => e = .returned (.bool (P x)) ∧ Below W.heap.size W w') :
    Calls Tryd.prog 36 #[v, .func (.func 37) #[] #[.pointer (some ⟨k, 0, none⟩)]] w fun e w' => e = .returned (.tuple #[.int .i64 (outI (fstI P es)).1, .bool (outI (fstI P es)).2]) ∧ Below w.heap.size w w' := by
  have eg : ∀ args w, (callFunc 37 args).run Tryd.prog w = .ok (.enter 37 args) w := enters_of Tryd.func37 (by kernel_rfl) rfl
  obtain ⟨p, c, rfl, h2, h3, h4⟩ := hv.sl
  have H4 := Lib.hid h4
  have HCL := Lib.hid hcl
  obtain ⟨q, hq⟩ : ∃ q, outI (fstI P es) = q := ⟨_, rfl⟩
  have HQ := Lib.hid hq
  rw [hq]
  clear h4 hv h2 h3 hcl hq
  go_enter Tryd.func36, Tryd.ntmps36
  go_wp2
  go_loopw [10] (fun vi wr => ∃ kk : Nat, vi = .int .i64 kk ∧ kk ≤ es.length ∧ Hid (Below w.heap.size w wr) ∧ Hid (∀ (t : Nat) (y : EntD), t < kk → es[t]? = some y → P y = false)) (fun vi _ => es.length - (intOf vi).toNat)
  case atStart => exact ⟨0, rfl, Nat.zero_le _, Lib.hid (Below.refl _ _), Lib.hid fun t y ht => absurd ht (Nat.not_lt_zero _)⟩
  case round =>
    obtain ⟨kk, rfl, hk, HB, HA⟩ := hrel
    by_cases hlt : kk < es.length
    · have hltz : (kk : Int) < (es.length : Int) := by omega
      obtain ⟨s, hs⟩ : ∃ s, es[kk]? = some s := ⟨_, List.getElem?_eq_getElem hlt⟩
      obtain ⟨b, o, rfl, hbs, hc⟩ := H4.out kk s hs
      have hc := hc wr HB.out
      have HS := Lib.hid hs
      obtain ⟨r, hr⟩ : ∃ r, P s = r := ⟨_, rfl⟩
      have HRr := Lib.hid hr
      have HM := Lib.hid (List.mem_of_getElem? hs)
      clear hs hr
      obtain ⟨pm, a, b', ge, le⟩ := s
      simp only [encE] at hc
      have c0 : wr.cell? ⟨b, o + kk * 5, none⟩ = some (.bool pm) := hc 0 _ rfl
      have c1 : wr.cell? ⟨b, o + kk * 5 + 1, none⟩ = some (.int .u32 a) := hc 1 _ rfl
      have c2 : wr.cell? ⟨b, o + kk * 5 + 2, none⟩ = some (.int .i64 b') := hc 2 _ rfl
      have c3 : wr.cell? ⟨b, o + kk * 5 + 3, none⟩ = some (.int .i64 ge) := hc 3 _ rfl
      have c4 : wr.cell? ⟨b, o + kk * 5 + 4, none⟩ = some (.int .i64 le) := hc 4 _ rfl
      clear hc
      obtain ⟨W1, hW1⟩ : ∃ X, wr.alloc (.cells #[(.bool false), (.int .u32 0), (.int .i64 0), (.int .i64 0), (.int .i64 0)] 51) = X := ⟨_, rfl⟩
      obtain ⟨W2, hW2⟩ : ∃ X, (((((W1.setCell ⟨wr.heap.size, 0, none⟩ (.bool pm)).setCell ⟨wr.heap.size, 1, none⟩ (.int .u32 a)).setCell ⟨wr.heap.size, 2, none⟩ (.int .i64 b')).setCell ⟨wr.heap.size, 3, none⟩ (.int .i64 ge)).setCell ⟨wr.heap.size, 4, none⟩ (.int .i64 le)) = X := ⟨_, rfl⟩
      obtain ⟨N2, B2, Z2, Y2⟩ := boxE hW1 hW2
      obtain ⟨y0, y1, y2, y3, y4⟩ : W1.cell? ⟨wr.heap.size, 0, none⟩ = some (.bool false) ∧ W1.cell? ⟨wr.heap.size, 1, none⟩ = some (.int .u32 0) ∧ W1.cell? ⟨wr.heap.size, 2, none⟩ = some (.int .i64 0) ∧ W1.cell? ⟨wr.heap.size, 3, none⟩ = some (.int .i64 0) ∧ W1.cell? ⟨wr.heap.size, 4, none⟩ = some (.int .i64 0) := ⟨cell_heap Y2.out, cell_heap Y2.out, cell_heap Y2.out, cell_heap Y2.out, cell_heap Y2.out⟩
      have fz : ∀ o, W1.frozen? ⟨wr.heap.size, o, none⟩ = false := fun o => frozen_heap Y2.out
      obtain ⟨n_0, n_1, n_2, n_3, n_4⟩ : W2.cell? ⟨wr.heap.size, 0, none⟩ = some (.bool pm) ∧ W2.cell? ⟨wr.heap.size, 1, none⟩ = some (.int .u32 a) ∧ W2.cell? ⟨wr.heap.size, 2, none⟩ = some (.int .i64 b') ∧ W2.cell? ⟨wr.heap.size, 3, none⟩ = some (.int .i64 ge) ∧ W2.cell? ⟨wr.heap.size, 4, none⟩ = some (.int .i64 le) := ⟨cell_heap N2.out, cell_heap N2.out, cell_heap N2.out, cell_heap N2.out, cell_heap N2.out⟩
      have BW := Lib.hid (Below.step HB.out B2.out)
      have C := HCL.out W2 _ BW.out HM.out
      rw [HRr.out] at C
      have HC := Lib.hid C
      clear C
      cases r with
      | true =>
        go_wp2_with (first | (go_at_fn 37; refine HC.out.mono ?_; rintro e w1 ⟨rfl, hb1⟩))
        go_ret2
        have e1 : fstI P es = some kk := fstI_hit HS.out HRr.out HA.out
        exact ⟨by rw [← HQ.out, e1]; rfl, Below.step BW.out hb1⟩
      | false =>
        go_wp2_with (first | (go_at_fn 37; refine HC.out.mono ?_; rintro e w1 ⟨rfl, hb1⟩))
        go_roundw
        case rel => exact ⟨kk + 1, by go_num, by omega, Lib.hid (Below.step BW.out hb1), Lib.hid fun t y ht hy => by
          by_cases e : t = kk
          · subst e; rw [HS.out] at hy; cases hy; exact HRr.out
          · exact HA.out t y (by omega) hy⟩
        case measure => simp [intOf] <;> omega
    · have hge : ¬ (kk : Int) < (es.length : Int) := by omega
      go_wp2
      go_ret2
      have e1 : fstI P es = none := fstI_none fun t y hy => HA.out t y (by have := (List.getElem?_eq_some_iff.1 hy).1; omega) hy
      exact ⟨by rw [← HQ.out, e1]; rfl, HB.out⟩
/-- Entries whose addresses are addresses. -/
def OkE (es : List EntD) : Prop := ∀ e ∈ es, 0 ≤ e.a ∧ e.a < 4294967296
set_option maxRecDepth 100000 in
theorem entry_is (nm : ByteArray) (v : Value) (es : List EntD) (x n : Int) (w : World) (hv : RdK encE 5 w v es) (ho : OkE es) (hx : 0 ≤ x ∧ x < 4294967296) (hl : es.length ≤ 35184372087808) : Calls Tryd.prog 26 #[.agg #[.string nm, v], .agg #[.int .u32 x, .int .i64 n]] w fun e w' =>
    e = .returned (.tuple #[.int .i64 (outI (fstI (fitE x n) es)).1, .bool (outI (fstI (fitE x n) es)).2]) ∧ Below w.heap.size w w' := by
  obtain ⟨vp, vc, hvv, _⟩ := hv.sl
  obtain ⟨W1, hW1⟩ : ∃ X, w.alloc (.cells #[.string nm, v] 54) = X := ⟨_, rfl⟩
  obtain ⟨W2, hW2⟩ : ∃ X, W1.alloc (.cells #[.int .u32 x, .int .i64 n] 49) = X := ⟨_, rfl⟩
  have z1 : W1.heap.size = w.heap.size + 1 := by rw [← hW1]; simp
  have B2 : Hid (Below w.heap.size w W2) := Lib.hid (by rw [← hW2, ← hW1]; exact ((Below.refl _ _).alloc (Nat.le_refl _) _).alloc (by simp) _)
  have HA : Hid (W2.heap[w.heap.size]? = some (.cells #[.string nm, v] 54 (0, 0))) := Lib.hid (heap_old hW2 (heap_alc hW1))
  have HB : Hid (W2.heap[w.heap.size + 1]? = some (.cells #[.int .u32 x, .int .i64 n] 49 (0, 0))) := Lib.hid (by have := heap_alc hW2; rwa [z1] at this)
  have a1 : W2.cell? ⟨w.heap.size, 1, none⟩ = some v := cell_heap HA.out
  have C := Lib.hid (firstE_is (w.heap.size + 1) (fitE x n) v es W2 (hv.below B2.out) hl (fun W e hW he => clos_is (w.heap.size + 1) e x n W (carryH HB.out hW) (ho e he) hx))
  subst hvv
  clear hv ho hx
  go_enter Tryd.func26, Tryd.ntmps26
  go_wp2_with fail
  go_at_call 36
  (with_reducible refine C.out.mono ?_)
  rintro e W3 ⟨rfl, hb3⟩
  have B3 : Hid (Below w.heap.size w W3) := Lib.hid (Below.step B2.out hb3)
  clear hb3
  go_wp2
  go_ret2
  exact ⟨rfl, B3.out⟩
end Go.Proofs.YtkkhmdiffddllaaDoor
