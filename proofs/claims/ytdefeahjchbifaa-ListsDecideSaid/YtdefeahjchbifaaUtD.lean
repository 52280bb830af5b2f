/- Does a list of entries permit a prefix? On both sides. Under the conditions that they name. -/
import Derived.Test.YtdefeahjchbifaaUtC
namespace Go.Proofs.Ytdefeahjchbifaa
open Go.Shelf Go.RowKit Go.Lib
/-- What the first that is so says; no, if none is. -/
def lets {α : Type} (p perm : α → Bool) (l : List α) : Bool :=
  match fstI p l with
  | some i => match l[i]? with
    | some x => perm x
    | none => false
  | none => false
set_option maxRecDepth 100000 in
set_option maxHeartbeats 1000000 in
theorem permits_is (nm : ByteArray) (v : Value) (es : List EntD) (x n : Int) (w : World) (hv : RdK encE 5 w v es) (ho : OkE es) (hx : 0 ≤ x ∧ x < 4294967296) (hl : es.length ≤ 35184372087808) : Calls Try.prog 10 #[.agg #[.string nm, v], .agg #[.int .u32 x, .int .i64 n]] w fun e w' =>
    e = .returned (.bool (lets (fitE x n) EntD.perm es)) ∧ Below w.heap.size w w' := by
  obtain ⟨vp, vc, hvv, g2, g3, h4⟩ := hv.sl
  obtain ⟨W1, hW1⟩ : ∃ X, w.alloc (.cells #[.string nm, v] 30) = X := ⟨_, rfl⟩
  have z1 : W1.heap.size = w.heap.size + 1 := by rw [← hW1]; simp
  obtain ⟨W2, hW2⟩ : ∃ X, W1.alloc (.cells #[.int .u32 x, .int .i64 n] 26) = X := ⟨_, rfl⟩
  have B2 : Hid (Below w.heap.size w W2) := Lib.hid (by rw [← hW2, ← hW1]; exact ((Below.refl _ _).alloc (Nat.le_refl _) _).alloc (by simp) _)
  have HA : Hid (W2.heap[w.heap.size]? = some (.cells #[.string nm, v] 30 (0, 0))) := Lib.hid (heap_old hW2 (heap_alc hW1))
  have HB : Hid (W2.heap[w.heap.size + 1]? = some (.cells #[.int .u32 x, .int .i64 n] 26 (0, 0))) := Lib.hid (by have := heap_alc hW2; rwa [z1] at this)
  have gs : w.heap.size + 1 < W2.heap.size := (Array.getElem?_eq_some_iff.1 HB.out).1
  have gt : w.heap.size < W2.heap.size := Nat.lt_of_succ_lt gs
  obtain ⟨b0, b1⟩ : W2.cell? ⟨w.heap.size + 1, 0, none⟩ = some (.int .u32 x) ∧ W2.cell? ⟨w.heap.size + 1, 1, none⟩ = some (.int .i64 n) := ⟨cell_heap HB.out, cell_heap HB.out⟩
  obtain ⟨a0, a1⟩ : W2.cell? ⟨w.heap.size, 0, none⟩ = some (.string nm) ∧ W2.cell? ⟨w.heap.size, 1, none⟩ = some v := ⟨cell_heap HA.out, cell_heap HA.out⟩
  have H4 := Lib.hid h4
  have C := Lib.hid (entry_is nm v es x n W2 (hv.below B2.out) ho hx hl)
  clear hv ho hx h4 g2 g3
  cases hf : fstI (fitE x n) es with
  | none =>
    have hr : lets (fitE x n) EntD.perm es = false := by simp [lets, hf]
    have C2 : Hid (Calls Try.prog 5 #[.agg #[.string nm, v], .agg #[.int .u32 x, .int .i64 n]] W2 fun e w' => e = .returned (.tuple #[.int .i64 0, .bool false]) ∧ Below W2.heap.size W2 w') := Lib.hid (by have c := C.out; rw [hf] at c; exact c)
    rw [hr]
    clear C hf hr
    subst hvv
    go_enter Try.func10, Try.ntmps10
    go_wp2_with fail
    go_at_call 5
    (with_reducible refine C2.out.mono ?_)
    rintro e W3 ⟨rfl, hb3⟩
    have B3 : Hid (Below w.heap.size w W3) := Lib.hid (Below.step B2.out hb3)
    have HA3 := Lib.hid (carryH HA.out hb3)
    have a3 : W3.cell? ⟨w.heap.size, 1, none⟩ = some (.slice vp es.length vc) := cell_heap HA3.out
    clear hb3
    go_wp2
    go_ret
    exact ⟨rfl, B3.out⟩
  | some k =>
    obtain ⟨y, hy, _⟩ := fstI_some hf
    have hr : lets (fitE x n) EntD.perm es = y.perm := by simp [lets, hf, hy]
    obtain ⟨b, o, rfl, hbs, hc⟩ := H4.out k y hy
    have HC := Lib.hid hc
    have hk := (List.getElem?_eq_some_iff.1 hy).1
    have hkz : (k : Int) < (es.length : Int) := by omega
    have hkn : ¬ (k : Int) < 0 := by omega
    have hkp : (0 : Int) ≤ (k : Int) := by omega
    clear hc hy
    have C2 : Hid (Calls Try.prog 5 #[.agg #[.string nm, v], .agg #[.int .u32 x, .int .i64 n]] W2 fun e w' => e = .returned (.tuple #[.int .i64 ((k : Nat) : Int), .bool true]) ∧ Below W2.heap.size W2 w') := Lib.hid (by have c := C.out; rw [hf] at c; exact c)
    rw [hr]
    clear C hf hr
    subst hvv
    go_enter Try.func10, Try.ntmps10
    go_wp2_with fail
    go_at_call 5
    (with_reducible refine C2.out.mono ?_)
    rintro e W3 ⟨rfl, hb3⟩
    have B3 : Hid (Below w.heap.size w W3) := Lib.hid (Below.step B2.out hb3)
    have HA3 := Lib.hid (carryH HA.out hb3)
    have a3 : W3.cell? ⟨w.heap.size, 1, none⟩ = some (.slice (some ⟨b, o, none⟩) es.length vc) := cell_heap HA3.out
    clear hb3
    have c0 : W3.cell? ⟨b, o + k * 5, none⟩ = some (.bool y.perm) := HC.out W3 B3.out 0 _ rfl
    go_wp2
    go_ret
    exact ⟨rfl, B3.out⟩
set_option maxRecDepth 100000 in
set_option maxHeartbeats 1000000 in
theorem rentry_is (nm : ByteArray) (v : Value) (es : List EntD) (x n : Int) (w : World) (hv : RdK encE 5 w v es) (ho : OkE es) (hx : 0 ≤ x ∧ x < 4294967296) (hl : es.length ≤ 35184372087808) : Calls Try.prog 8 #[.agg #[.string nm, v], .agg #[.int .u32 x, .int .i64 n]] w fun e w' =>
    e = .returned (.int .i64 (outR (fstI (fitE x n) es))) ∧ Below w.heap.size w w' := by
  obtain ⟨vp, vc, hvv, g2, g3, h4⟩ := hv.sl
  obtain ⟨W1, hW1⟩ : ∃ X, w.alloc (.cells #[.string nm, v] 30) = X := ⟨_, rfl⟩
  have z1 : W1.heap.size = w.heap.size + 1 := by rw [← hW1]; simp
  obtain ⟨W2, hW2⟩ : ∃ X, W1.alloc (.cells #[.int .u32 x, .int .i64 n] 26) = X := ⟨_, rfl⟩
  have B2 : Hid (Below w.heap.size w W2) := Lib.hid (by rw [← hW2, ← hW1]; exact ((Below.refl _ _).alloc (Nat.le_refl _) _).alloc (by simp) _)
  have HA : Hid (W2.heap[w.heap.size]? = some (.cells #[.string nm, v] 30 (0, 0))) := Lib.hid (heap_old hW2 (heap_alc hW1))
  have HB : Hid (W2.heap[w.heap.size + 1]? = some (.cells #[.int .u32 x, .int .i64 n] 26 (0, 0))) := Lib.hid (by have := heap_alc hW2; rwa [z1] at this)
  have gs : w.heap.size + 1 < W2.heap.size := (Array.getElem?_eq_some_iff.1 HB.out).1
  have gt : w.heap.size < W2.heap.size := Nat.lt_of_succ_lt gs
  obtain ⟨b0, b1⟩ : W2.cell? ⟨w.heap.size + 1, 0, none⟩ = some (.int .u32 x) ∧ W2.cell? ⟨w.heap.size + 1, 1, none⟩ = some (.int .i64 n) := ⟨cell_heap HB.out, cell_heap HB.out⟩
  obtain ⟨a0, a1⟩ : W2.cell? ⟨w.heap.size, 0, none⟩ = some (.string nm) ∧ W2.cell? ⟨w.heap.size, 1, none⟩ = some v := ⟨cell_heap HA.out, cell_heap HA.out⟩
  have H4 := Lib.hid h4
  obtain ⟨q, hq⟩ : ∃ q, outR (fstI (fitE x n) es) = q := ⟨_, rfl⟩
  have HQ := Lib.hid hq
  rw [hq]
  have HO := Lib.hid ho
  have HX := Lib.hid hx
  clear hv ho hx h4 g2 g3 hq
  subst hvv
  go_enter Try.func8, Try.ntmps8
  go_wp2
  go_loopw [5] (fun vi wr => ∃ k : Nat, vi = .int .i64 k ∧ k ≤ es.length ∧ Hid (Below w.heap.size w wr) ∧ Hid (Below W2.heap.size W2 wr) ∧ Hid (∀ (t : Nat) (y : EntD), t < k → es[t]? = some y → fitE x n y = false)) (fun vi _ => es.length - (intOf vi).toNat)
  case atStart => exact ⟨0, rfl, Nat.zero_le _, B2, Lib.hid (Below.refl _ _), Lib.hid fun t y ht => absurd ht (Nat.not_lt_zero _)⟩
  case round =>
    obtain ⟨k, rfl, hk, HL, HL2, HF⟩ := hrel
    have HA3 := Lib.hid (carryH HA.out HL2.out)
    have HB3 := Lib.hid (carryH HB.out HL2.out)
    have a3 : wr.cell? ⟨w.heap.size, 1, none⟩ = some (.slice vp es.length vc) := cell_heap HA3.out
    obtain ⟨d0, d1⟩ : wr.cell? ⟨w.heap.size + 1, 0, none⟩ = some (.int .u32 x) ∧ wr.cell? ⟨w.heap.size + 1, 1, none⟩ = some (.int .i64 n) := ⟨cell_heap HB3.out, cell_heap HB3.out⟩
    have gs3 : w.heap.size + 1 < wr.heap.size := (Array.getElem?_eq_some_iff.1 HB3.out).1
    have gt3 : w.heap.size < wr.heap.size := Nat.lt_of_succ_lt gs3
    by_cases hlt : k < es.length
    · have hltz : (k : Int) < (es.length : Int) := by omega
      obtain ⟨s, hs⟩ : ∃ s, es[k]? = some s := ⟨_, List.getElem?_eq_getElem hlt⟩
      obtain ⟨b, o, rfl, hbs, hc⟩ := H4.out k s hs
      have hc := hc wr HL.out
      have hbl : b < wr.heap.size := Nat.lt_of_lt_of_le hbs (Nat.le_of_lt gt3)
      have HS := Lib.hid hs
      obtain ⟨r, hr⟩ : ∃ r, fitE x n s = r := ⟨_, rfl⟩
      have HRr := Lib.hid hr
      have CF := Lib.hid fun W => rfits_is s.perm s.a s.b s.ge s.le x n W (HO.out s (List.mem_of_getElem? hs)) HX.out
      have CF : Hid (∀ W, Calls Try.prog 16 #[.agg #[.bool s.perm, .int .u32 s.a, .int .i64 s.b, .int .i64 s.ge, .int .i64 s.le], .agg #[.int .u32 x, .int .i64 n]] W fun e w' => e = .returned (.bool r) ∧ Below W.heap.size W w') := Lib.hid (by have c := CF.out; rw [show fitE x n ⟨s.perm, s.a, s.b, s.ge, s.le⟩ = r from hr] at c; exact c)
      have c0 : wr.cell? ⟨b, o + k * 5, none⟩ = some (.bool s.perm) := hc 0 _ rfl
      have c1 : wr.cell? ⟨b, o + k * 5 + 1, none⟩ = some (.int .u32 s.a) := hc 1 _ rfl
      have c2 : wr.cell? ⟨b, o + k * 5 + 2, none⟩ = some (.int .i64 s.b) := hc 2 _ rfl
      have c3 : wr.cell? ⟨b, o + k * 5 + 3, none⟩ = some (.int .i64 s.ge) := hc 3 _ rfl
      have c4 : wr.cell? ⟨b, o + k * 5 + 4, none⟩ = some (.int .i64 s.le) := hc 4 _ rfl
      clear hc hs hr
      go_wp2_with fail
      refine wp_region_grows (by kernel_rfl) (by kernel_rfl) ?_
      refine grows_fact w.heap.size 1 _ a3 gt3 fun f0 => ?_
      refine grows_fact (w.heap.size + 1) 0 _ d0 gs3 fun f1 => ?_
      refine grows_fact (w.heap.size + 1) 1 _ d1 gs3 fun f2 => ?_
      refine grows_fact b (o + k * 5) _ c0 hbl fun f3 => ?_
      refine grows_fact b (o + k * 5 + 1) _ c1 hbl fun f4 => ?_
      refine grows_fact b (o + k * 5 + 2) _ c2 hbl fun f5 => ?_
      refine grows_fact b (o + k * 5 + 3) _ c3 hbl fun f6 => ?_
      refine grows_fact b (o + k * 5 + 4) _ c4 hbl fun f7 => ?_
      repeat (go_big_quiet_step ((go_at_call 16; with_reducible exact Calls.grows_of (CF.out _))))
      refine wpQuiet_nil ?_
      rintro w2 ⟨⟨_, hb2⟩, rfl⟩
      have K1 := Lib.hid (Below.step HL.out hb2)
      have K2 := Lib.hid (Below.step HL2.out hb2)
      clear hb2 f0 f1 f2 f3 f4 f5 f6 f7 c0 c1 c2 c3 c4
      cases r with
      | true =>
        go_wp2
        go_ret
        have e1 : fstI (fitE x n) es = some k := fstI_hit HS.out HRr.out HF.out
        exact ⟨by rw [← HQ.out, e1]; rfl, K1.out⟩
      | false =>
        go_wp2
        go_roundw
        case rel => exact ⟨k + 1, by go_num, by omega, K1, K2, Lib.hid fun t y ht hy => by
          by_cases e : t = k
          · subst e; rw [HS.out] at hy; cases hy; exact HRr.out
          · exact HF.out t y (by omega) hy⟩
        case measure => simp [intOf] <;> omega
    · have hge : ¬ (k : Int) < (es.length : Int) := by omega
      go_wp2
      go_ret
      have e1 : fstI (fitE x n) es = none := fstI_none fun t y hy => HF.out t y (by have := (List.getElem?_eq_some_iff.1 hy).1; omega) hy
      exact ⟨by rw [← HQ.out, e1]; rfl, HL.out⟩
set_option maxRecDepth 100000 in
set_option maxHeartbeats 1000000 in
theorem rpermits_is (nm : ByteArray) (v : Value) (es : List EntD) (x n : Int) (w : World) (hv : RdK encE 5 w v es) (ho : OkE es) (hx : 0 ≤ x ∧ x < 4294967296) (hl : es.length ≤ 35184372087808) : Calls Try.prog 11 #[.agg #[.string nm, v], .agg #[.int .u32 x, .int .i64 n]] w fun e w' =>
    e = .returned (.bool (lets (fitE x n) EntD.perm es)) ∧ Below w.heap.size w w' := by
  obtain ⟨vp, vc, hvv, g2, g3, h4⟩ := hv.sl
  obtain ⟨W1, hW1⟩ : ∃ X, w.alloc (.cells #[.string nm, v] 30) = X := ⟨_, rfl⟩
  have z1 : W1.heap.size = w.heap.size + 1 := by rw [← hW1]; simp
  obtain ⟨W2, hW2⟩ : ∃ X, W1.alloc (.cells #[.int .u32 x, .int .i64 n] 26) = X := ⟨_, rfl⟩
  have B2 : Hid (Below w.heap.size w W2) := Lib.hid (by rw [← hW2, ← hW1]; exact ((Below.refl _ _).alloc (Nat.le_refl _) _).alloc (by simp) _)
  have HA : Hid (W2.heap[w.heap.size]? = some (.cells #[.string nm, v] 30 (0, 0))) := Lib.hid (heap_old hW2 (heap_alc hW1))
  have HB : Hid (W2.heap[w.heap.size + 1]? = some (.cells #[.int .u32 x, .int .i64 n] 26 (0, 0))) := Lib.hid (by have := heap_alc hW2; rwa [z1] at this)
  have gs : w.heap.size + 1 < W2.heap.size := (Array.getElem?_eq_some_iff.1 HB.out).1
  have gt : w.heap.size < W2.heap.size := Nat.lt_of_succ_lt gs
  obtain ⟨b0, b1⟩ : W2.cell? ⟨w.heap.size + 1, 0, none⟩ = some (.int .u32 x) ∧ W2.cell? ⟨w.heap.size + 1, 1, none⟩ = some (.int .i64 n) := ⟨cell_heap HB.out, cell_heap HB.out⟩
  obtain ⟨a0, a1⟩ : W2.cell? ⟨w.heap.size, 0, none⟩ = some (.string nm) ∧ W2.cell? ⟨w.heap.size, 1, none⟩ = some v := ⟨cell_heap HA.out, cell_heap HA.out⟩
  have H4 := Lib.hid h4
  have C := Lib.hid (rentry_is nm v es x n W2 (hv.below B2.out) ho hx hl)
  clear hv ho hx h4 g2 g3
  cases hf : fstI (fitE x n) es with
  | none =>
    have hr : lets (fitE x n) EntD.perm es = false := by simp [lets, hf]
    have C2 : Hid (Calls Try.prog 8 #[.agg #[.string nm, v], .agg #[.int .u32 x, .int .i64 n]] W2 fun e w' => e = .returned (.int .i64 (-1)) ∧ Below W2.heap.size W2 w') := Lib.hid (by have c := C.out; rw [hf] at c; exact c)
    rw [hr]
    clear C hf hr
    subst hvv
    go_enter Try.func11, Try.ntmps11
    go_wp2_with fail
    go_at_call 8
    (with_reducible refine C2.out.mono ?_)
    rintro e W3 ⟨rfl, hb3⟩
    have B3 : Hid (Below w.heap.size w W3) := Lib.hid (Below.step B2.out hb3)
    have HA3 := Lib.hid (carryH HA.out hb3)
    have a3 : W3.cell? ⟨w.heap.size, 1, none⟩ = some (.slice vp es.length vc) := cell_heap HA3.out
    clear hb3
    go_wp2
    go_ret
    exact ⟨rfl, B3.out⟩
  | some k =>
    obtain ⟨y, hy, _⟩ := fstI_some hf
    have hr : lets (fitE x n) EntD.perm es = y.perm := by simp [lets, hf, hy]
    obtain ⟨b, o, rfl, hbs, hc⟩ := H4.out k y hy
    have HC := Lib.hid hc
    have hk := (List.getElem?_eq_some_iff.1 hy).1
    have hkz : (k : Int) < (es.length : Int) := by omega
    have hkn : ¬ (k : Int) < 0 := by omega
    have hkp : (0 : Int) ≤ (k : Int) := by omega
    clear hc hy
    have C2 : Hid (Calls Try.prog 8 #[.agg #[.string nm, v], .agg #[.int .u32 x, .int .i64 n]] W2 fun e w' => e = .returned (.int .i64 ((k : Nat) : Int)) ∧ Below W2.heap.size W2 w') := Lib.hid (by have c := C.out; rw [hf] at c; exact c)
    rw [hr]
    clear C hf hr
    subst hvv
    go_enter Try.func11, Try.ntmps11
    go_wp2_with fail
    go_at_call 8
    (with_reducible refine C2.out.mono ?_)
    rintro e W3 ⟨rfl, hb3⟩
    have B3 : Hid (Below w.heap.size w W3) := Lib.hid (Below.step B2.out hb3)
    have HA3 := Lib.hid (carryH HA.out hb3)
    have a3 : W3.cell? ⟨w.heap.size, 1, none⟩ = some (.slice (some ⟨b, o, none⟩) es.length vc) := cell_heap HA3.out
    clear hb3
    have c0 : W3.cell? ⟨b, o + k * 5, none⟩ = some (.bool y.perm) := HC.out W3 B3.out 0 _ rfl
    go_wp2
    go_ret
    exact ⟨rfl, B3.out⟩
end Go.Proofs.Ytdefeahjchbifaa
