/- The first member of a community list that fits, and whether it permits. Under the conditions that they name. -/
import Derived.Test.YtkkhmdiffddllaaDoorUtD
namespace Go.Proofs.YtkkhmdiffddllaaDoor
open Go.Shelf Go.RowKit Go.Lib
structure MemD where
  perm : Bool
  p : Option Addr
  c : Nat
  all : List Int
abbrev encM (m : MemD) : List Value := [.bool m.perm, .slice m.p m.all.length m.c]
/-- Members whose lists read as lists. -/
def OkM (w : World) (es : List MemD) : Prop := ∀ m ∈ es, RdK encU 1 w (.slice m.p m.all.length m.c) m.all ∧ m.all.length ≤ 35184372087808
theorem OkM.below {w W : World} {es : List MemD} (h : OkM w es) (hb : Below w.heap.size w W) : OkM W es := fun m hm => ⟨(h m hm).1.below hb, (h m hm).2⟩
/-- Does a member fit communities? -/
def fitM (cs : List Int) (m : MemD) : Bool := hasAll cs m.all
theorem boxM {A B C : World} {v0 v1 : Value} (h5 : A.alloc (.cells #[(.bool false), (.slice none 0 0)] 56) = B) (h6 : ((B.setCell ⟨A.heap.size, 0, none⟩ v0).setCell ⟨A.heap.size, 1, none⟩ v1) = C) : Hid (C.heap[A.heap.size]? = some (.cells #[v0, v1] 56 (0, 0))) ∧ Hid (Below A.heap.size A C) ∧ Hid (C.heap.size = A.heap.size + 1) ∧ Hid (B.heap[A.heap.size]? = some (.cells #[(.bool false), (.slice none 0 0)] 56 (0, 0))) := by
  have e := heap_alc h5
  have h : Below A.heap.size A B := by rw [← h5]; exact (Below.refl _ _).alloc (Nat.le_refl _) _
  refine ⟨Lib.hid ?_, Lib.hid ?_, Lib.hid ?_, Lib.hid e⟩
  · rw [← h6]; simpa using (heap_store (o := 1) (v := v1) (heap_store (o := 0) (v := v0) e))
  · rw [← h6]; exact (Below.setCell (p := ⟨A.heap.size, 1, none⟩) (Below.setCell (p := ⟨A.heap.size, 0, none⟩) h (Nat.le_refl _) _) (Nat.le_refl _) _)
  · rw [← h6]; simp; rw [← h5]; simp
theorem boxF {A B C : World} {v0 : Value} (h5 : A.alloc (.cells #[(.slice none 0 0)] 22) = B) (h6 : (B.setCell ⟨A.heap.size, 0, none⟩ v0) = C) : Hid (C.heap[A.heap.size]? = some (.cells #[v0] 22 (0, 0))) ∧ Hid (Below A.heap.size A C) ∧ Hid (C.heap.size = A.heap.size + 1) ∧ Hid (B.heap[A.heap.size]? = some (.cells #[(.slice none 0 0)] 22 (0, 0))) := by
  have e := heap_alc h5
  have h : Below A.heap.size A B := by rw [← h5]; exact (Below.refl _ _).alloc (Nat.le_refl _) _
  refine ⟨Lib.hid ?_, Lib.hid ?_, Lib.hid ?_, Lib.hid e⟩
  · rw [← h6]; simpa using (heap_store (o := 0) (v := v0) e)
  · rw [← h6]; exact (Below.setCell (p := ⟨A.heap.size, 0, none⟩) h (Nat.le_refl _) _)
  · rw [← h6]; simp; rw [← h5]; simp
set_option maxRecDepth 100000 in
set_option maxHeartbeats 1000000 in
theorem firstM_is (k : Nat) (P : MemD → Bool) (v : Value) (es : List MemD) (w : World) (hv : RdK encM 2 w v es) (hl : es.length ≤ 35184372087808)
    (hcl : ∀ W x, Below w.heap.size w W → x ∈ es → Calls Tryd.prog 40 #[.agg (encM x).toArray, .pointer (some ⟨k, 0, none⟩)] W fun e w' => e = .returned (.bool (P x)) ∧ Below W.heap.size W w') :
    Calls Tryd.prog 39 #[v, .func (.func 40) #[] #[.pointer (some ⟨k, 0, none⟩)]] w fun e w' => e = .returned (.tuple #[.int .i64 (outI (fstI P es)).1, .bool (outI (fstI P es)).2]) ∧ Below w.heap.size w w' := by
  have eg : ∀ args w, (callFunc 40 args).run Tryd.prog w = .ok (.enter 40 args) w := enters_of Tryd.func40 (by kernel_rfl) rfl
  obtain ⟨p, c, rfl, h2, h3, h4⟩ := hv.sl
  have H4 := Lib.hid h4
  have HCL := Lib.hid hcl
  obtain ⟨q, hq⟩ : ∃ q, outI (fstI P es) = q := ⟨_, rfl⟩
  have HQ := Lib.hid hq
  rw [hq]
  clear h4 hv h2 h3 hcl hq
  go_enter Tryd.func39, Tryd.ntmps39
  go_wp2
  go_loopw [10] (fun vi wr => ∃ kk : Nat, vi = .int .i64 kk ∧ kk ≤ es.length ∧ Hid (Below w.heap.size w wr) ∧ Hid (∀ (t : Nat) (y : MemD), t < kk → es[t]? = some y → P y = false)) (fun vi _ => es.length - (intOf vi).toNat)
  case atStart => exact ⟨0, rfl, Nat.zero_le _, Lib.hid (Below.refl _ _), Lib.hid fun t y ht => absurd ht (Nat.not_lt_zero _)⟩
  case round =>
    obtain ⟨kk, rfl, hk, HB, HA⟩ := hrel
    by_cases hlt : kk < es.length
    · have hltz : (kk : Int) < (es.length : Int) := by omega
      obtain ⟨s, hs⟩ : ∃ s, es[kk]? = some s := ⟨_, List.getElem?_eq_getElem hlt⟩
      obtain ⟨b, o, rfl, hbs, hc⟩ := H4.out kk s hs
      have hc := hc wr HB.out
      have HS := Lib.hid hs
      obtain ⟨r, hr⟩ : ∃ r, P s = r := ⟨_, rfl⟩
      have HRr := Lib.hid hr
      have HM := Lib.hid (List.mem_of_getElem? hs)
      clear hs hr
      obtain ⟨pm, mp, mc, al⟩ := s
      simp only [encM] at hc
      have c0 : wr.cell? ⟨b, o + kk * 2, none⟩ = some (.bool pm) := hc 0 _ rfl
      have c1 : wr.cell? ⟨b, o + kk * 2 + 1, none⟩ = some (.slice mp al.length mc) := hc 1 _ rfl
      clear hc
      obtain ⟨W1, hW1⟩ : ∃ X, wr.alloc (.cells #[(.bool false), (.slice none 0 0)] 56) = X := ⟨_, rfl⟩
      obtain ⟨W2, hW2⟩ : ∃ X, ((W1.setCell ⟨wr.heap.size, 0, none⟩ (.bool pm)).setCell ⟨wr.heap.size, 1, none⟩ (.slice mp al.length mc)) = X := ⟨_, rfl⟩
      obtain ⟨N2, B2, Z2, Y2⟩ := boxM hW1 hW2
      obtain ⟨y0, y1⟩ : W1.cell? ⟨wr.heap.size, 0, none⟩ = some (.bool false) ∧ W1.cell? ⟨wr.heap.size, 1, none⟩ = some (.slice none 0 0) := ⟨cell_heap Y2.out, cell_heap Y2.out⟩
      have fz : ∀ o, W1.frozen? ⟨wr.heap.size, o, none⟩ = false := fun o => frozen_heap Y2.out
      obtain ⟨n_0, n_1⟩ : W2.cell? ⟨wr.heap.size, 0, none⟩ = some (.bool pm) ∧ W2.cell? ⟨wr.heap.size, 1, none⟩ = some (.slice mp al.length mc) := ⟨cell_heap N2.out, cell_heap N2.out⟩
      have BW := Lib.hid (Below.step HB.out B2.out)
      have C := HCL.out W2 _ BW.out HM.out
      rw [HRr.out] at C
      have HC := Lib.hid C
      clear C
      cases r with
      | true =>
        go_wp2_with (first | (go_at_fn 40; refine HC.out.mono ?_; rintro e w1 ⟨rfl, hb1⟩))
        go_ret2
        have e1 : fstI P es = some kk := fstI_hit HS.out HRr.out HA.out
        exact ⟨by rw [← HQ.out, e1]; rfl, Below.step BW.out hb1⟩
      | false =>
        go_wp2_with (first | (go_at_fn 40; refine HC.out.mono ?_; rintro e w1 ⟨rfl, hb1⟩))
        go_roundw
        case rel => exact ⟨kk + 1, by go_num, by omega, Lib.hid (Below.step BW.out hb1), Lib.hid fun t y ht hy => by
          by_cases e : t = kk
          · subst e; rw [HS.out] at hy; cases hy; exact HRr.out
          · exact HA.out t y (by omega) hy⟩
        case measure => simp [intOf] <;> omega
    · have hge : ¬ (kk : Int) < (es.length : Int) := by omega
      go_wp2
      go_ret2
      have e1 : fstI P es = none := fstI_none fun t y hy => HA.out t y (by have := (List.getElem?_eq_some_iff.1 hy).1; omega) hy
      exact ⟨by rw [← HQ.out, e1]; rfl, HB.out⟩
set_option maxRecDepth 100000 in
theorem mclos_is (k : Nat) (m : MemD) (vf : Value) (r : List Int) (w : World) (hk : w.heap[k]? = some (.cells #[vf] 22 (0, 0))) (hm : RdK encU 1 w (.slice m.p m.all.length m.c) m.all) (hml : m.all.length ≤ 35184372087808) (hf : RdK encU 1 w vf r) (hr : r.Pairwise (· < ·)) (hl : r.length ≤ 35184372087808) : Calls Tryd.prog 40 #[.agg #[.bool m.perm, .slice m.p m.all.length m.c], .pointer (some ⟨k, 0, none⟩)] w fun e' w' => e' = .returned (.bool (hasAll r m.all)) ∧ Below w.heap.size w w' := by
  obtain ⟨pm, mp, mc, al⟩ := m
  simp only at hm hml ⊢
  obtain ⟨W1, hW1⟩ : ∃ X, w.alloc (.cells #[.bool pm, .slice mp al.length mc] 56) = X := ⟨_, rfl⟩
  have B1 : Hid (Below w.heap.size w W1) := Lib.hid (by rw [← hW1]; exact (Below.refl _ _).alloc (Nat.le_refl _) _)
  have HA := heap_alc hW1
  have HK := heap_old hW1 hk
  obtain ⟨a0, a1⟩ : W1.cell? ⟨w.heap.size, 0, none⟩ = some (.bool pm) ∧ W1.cell? ⟨w.heap.size, 1, none⟩ = some (.slice mp al.length mc) := ⟨cell_heap HA, cell_heap HA⟩
  have k0 : W1.cell? ⟨k, 0, none⟩ = some vf := cell_heap HK
  have HF := Lib.hid (among_is (.slice mp al.length mc) vf al r W1 (hm.below B1.out) (hf.below B1.out) hr hml hl)
  obtain ⟨fp, fc, rfl, _⟩ := hf.sl
  clear HA HK hk hm hml hf hr hl
  go_enter Tryd.func40, Tryd.ntmps40
  go_wp2_with fail
  go_at_call 41
  (with_reducible refine HF.out.mono ?_)
  rintro e W3 ⟨rfl, rfl⟩
  go_wp2
  go_ret
  exact ⟨rfl, B1.out⟩
set_option maxRecDepth 100000 in
set_option maxHeartbeats 1000000 in
theorem member_is (nm : ByteArray) (v : Value) (es : List MemD) (vq : Value) (cs : List Int) (w : World) (hv : RdK encM 2 w v es) (ho : OkM w es) (hq : RdK encU 1 w vq cs) (hc : cs.length ≤ 35184372087808) (hl : es.length ≤ 35184372087808) : Calls Tryd.prog 28 #[.agg #[.string nm, v], vq] w fun e w' =>
    e = .returned (.tuple #[.int .i64 (outI (fstI (fitM cs) es)).1, .bool (outI (fstI (fitM cs) es)).2]) ∧ Below w.heap.size w w' := by
  obtain ⟨vp, vc, hvv, g2, g3, h4⟩ := hv.sl
  obtain ⟨W1, hW1⟩ : ∃ X, w.alloc (.cells #[.string nm, v] 35) = X := ⟨_, rfl⟩
  have z1 : W1.heap.size = w.heap.size + 1 := by rw [← hW1]; simp
  have B1 : Hid (Below w.heap.size w W1) := Lib.hid (by rw [← hW1]; exact (Below.refl _ _).alloc (Nat.le_refl _) _)
  have HA : Hid (W1.heap[w.heap.size]? = some (.cells #[.string nm, v] 35 (0, 0))) := Lib.hid (heap_alc hW1)
  have gt : w.heap.size < W1.heap.size := by rw [z1]; exact Nat.lt_succ_self _
  obtain ⟨a0, a1⟩ : W1.cell? ⟨w.heap.size, 0, none⟩ = some (.string nm) ∧ W1.cell? ⟨w.heap.size, 1, none⟩ = some v := ⟨cell_heap HA.out, cell_heap HA.out⟩
  have H4 := Lib.hid h4
  have CN := Lib.hid (normal_is vq cs W1 (hq.below B1.out) hc)
  have HV := Lib.hid (hv.below B1.out)
  have HO := Lib.hid (ho.below B1.out)
  obtain ⟨qp, qc, rfl, _⟩ := hq.sl
  subst hvv
  clear hv ho hq h4 H4 g2 g3
  go_enter Tryd.func28, Tryd.ntmps28
  go_wp2_with fail
  go_at_call 5
  (with_reducible refine CN.out.mono ?_)
  rintro e W2 ⟨v', r, rfl, ow, fr, hrl, hb2⟩
  have R2 := RdK.of_own encU_len ow
  have R2h := Lib.hid R2
  obtain ⟨fp, fc, rfl, _⟩ := R2.sl
  have BB := Lib.hid hb2
  obtain ⟨W3, hW3⟩ : ∃ X, W2.alloc (.cells #[.slice none 0 0] 22) = X := ⟨_, rfl⟩
  obtain ⟨W4, hW4⟩ : ∃ X, W3.setCell ⟨W2.heap.size, 0, none⟩ (.slice fp r.length fc) = X := ⟨_, rfl⟩
  obtain ⟨N4, B4, Z4, Y4⟩ := boxF hW3 hW4
  have y0 : W3.cell? ⟨W2.heap.size, 0, none⟩ = some (.slice none 0 0) := cell_heap Y4.out
  have fz : ∀ o, W3.frozen? ⟨W2.heap.size, o, none⟩ = false := fun o => frozen_heap Y4.out
  have n0 : W4.cell? ⟨W2.heap.size, 0, none⟩ = some (.slice fp r.length fc) := cell_heap N4.out
  have BW := Lib.hid (Below.step BB.out B4.out)
  have HA3 := Lib.hid (carryH HA.out BW.out)
  have a3 : W4.cell? ⟨w.heap.size, 1, none⟩ = some (.slice vp es.length vc) := cell_heap HA3.out
  have C := Lib.hid (firstM_is W2.heap.size (fun m => hasAll r m.all) (.slice vp es.length vc) es W4 (HV.out.below BW.out) hl (fun W e hW he => mclos_is W2.heap.size e (.slice fp r.length fc) r W (carryH N4.out hW) (((HO.out.below BW.out).below hW e he).1) (HO.out e he).2 ((R2h.out.below B4.out).below hW) fr.1 (Nat.le_trans hrl hc)))
  have hfun : (fun m : MemD => hasAll r m.all) = fitM cs := by funext m; exact hasAll_form fr
  rw [hfun] at C
  clear ow fr R2 hb2 hfun hrl
  go_wp2_with fail
  go_at_call 39
  (with_reducible refine C.out.mono ?_)
  rintro e W5 ⟨rfl, hb5⟩
  have B5 : Hid (Below w.heap.size w W5) := Lib.hid (Below.step B1.out (Below.step BW.out hb5))
  clear hb5
  go_wp2
  go_ret2
  exact ⟨rfl, B5.out⟩
set_option maxRecDepth 100000 in
set_option maxHeartbeats 1000000 in
theorem allows_is (nm : ByteArray) (v : Value) (es : List MemD) (vq : Value) (cs : List Int) (w : World) (hv : RdK encM 2 w v es) (ho : OkM w es) (hq : RdK encU 1 w vq cs) (hc : cs.length ≤ 35184372087808) (hl : es.length ≤ 35184372087808) : Calls Tryd.prog 16 #[.agg #[.string nm, v], vq] w fun e w' =>
    e = .returned (.bool (lets (fitM cs) MemD.perm es)) ∧ Below w.heap.size w w' := by
  obtain ⟨vp, vc, hvv, g2, g3, h4⟩ := hv.sl
  obtain ⟨W1, hW1⟩ : ∃ X, w.alloc (.cells #[.string nm, v] 35) = X := ⟨_, rfl⟩
  have z1 : W1.heap.size = w.heap.size + 1 := by rw [← hW1]; simp
  have B1 : Hid (Below w.heap.size w W1) := Lib.hid (by rw [← hW1]; exact (Below.refl _ _).alloc (Nat.le_refl _) _)
  have HA : Hid (W1.heap[w.heap.size]? = some (.cells #[.string nm, v] 35 (0, 0))) := Lib.hid (heap_alc hW1)
  have gt : w.heap.size < W1.heap.size := by rw [z1]; exact Nat.lt_succ_self _
  obtain ⟨a0, a1⟩ : W1.cell? ⟨w.heap.size, 0, none⟩ = some (.string nm) ∧ W1.cell? ⟨w.heap.size, 1, none⟩ = some v := ⟨cell_heap HA.out, cell_heap HA.out⟩
  have H4 := Lib.hid h4
  have C := Lib.hid (member_is nm v es vq cs W1 (hv.below B1.out) (ho.below B1.out) (hq.below B1.out) hc hl)
  clear hv ho hq hc h4 g2 g3
  cases hf : fstI (fitM cs) es with
  | none =>
    have hr : lets (fitM cs) MemD.perm es = false := by simp [lets, hf]
    have C2 : Hid (Calls Tryd.prog 28 #[.agg #[.string nm, v], vq] W1 fun e w' => e = .returned (.tuple #[.int .i64 0, .bool false]) ∧ Below W1.heap.size W1 w') := Lib.hid (by have c := C.out; rw [hf] at c; exact c)
    rw [hr]
    clear C hf hr
    subst hvv
    go_enter Tryd.func16, Tryd.ntmps16
    go_wp2_with fail
    go_at_call 28
    (with_reducible refine C2.out.mono ?_)
    rintro e W3 ⟨rfl, hb3⟩
    have B3 : Hid (Below w.heap.size w W3) := Lib.hid (Below.step B1.out hb3)
    have HA3 := Lib.hid (carryH HA.out hb3)
    have a3 : W3.cell? ⟨w.heap.size, 1, none⟩ = some (.slice vp es.length vc) := cell_heap HA3.out
    clear hb3
    go_wp2
    go_ret
    exact ⟨rfl, B3.out⟩
  | some k =>
    obtain ⟨y, hy, _⟩ := fstI_some hf
    have hr : lets (fitM cs) MemD.perm es = y.perm := by simp [lets, hf, hy]
    obtain ⟨b, o, rfl, hbs, hc⟩ := H4.out k y hy
    have HC := Lib.hid hc
    have hk := (List.getElem?_eq_some_iff.1 hy).1
    have hkz : (k : Int) < (es.length : Int) := by omega
    have hkn : ¬ (k : Int) < 0 := by omega
    have hkp : (0 : Int) ≤ (k : Int) := by omega
    clear hc hy
    have C2 : Hid (Calls Tryd.prog 28 #[.agg #[.string nm, v], vq] W1 fun e w' => e = .returned (.tuple #[.int .i64 ((k : Nat) : Int), .bool true]) ∧ Below W1.heap.size W1 w') := Lib.hid (by have c := C.out; rw [hf] at c; exact c)
    rw [hr]
    clear C hf hr
    subst hvv
    go_enter Tryd.func16, Tryd.ntmps16
    go_wp2_with fail
    go_at_call 28
    (with_reducible refine C2.out.mono ?_)
    rintro e W3 ⟨rfl, hb3⟩
    have B3 : Hid (Below w.heap.size w W3) := Lib.hid (Below.step B1.out hb3)
    have HA3 := Lib.hid (carryH HA.out hb3)
    have a3 : W3.cell? ⟨w.heap.size, 1, none⟩ = some (.slice (some ⟨b, o, none⟩) es.length vc) := cell_heap HA3.out
    clear hb3
    have c0 : W3.cell? ⟨b, o + k * 2, none⟩ = some (.bool y.perm) := HC.out W3 B3.out 0 _ rfl
    go_wp2
    go_ret
    exact ⟨rfl, B3.out⟩
end Go.Proofs.YtkkhmdiffddllaaDoor
