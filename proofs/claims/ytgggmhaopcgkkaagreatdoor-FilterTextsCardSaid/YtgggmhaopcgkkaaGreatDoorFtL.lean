/- Text and Parse of both sides hand back the same; the law FilterTexts. The document's own Parse is taken as a premise here (rparse10 pays it). -/
import Derived.Test.YtgggmhaopcgkkaaGreatDoorFbU
import Derived.Test.YtgggmhaopcgkkaaGreatDoorFtA
import Derived.Test.YtgggmhaopcgkkaaGreatDoorFtN
import Derived.Test.YtgggmhaopcgkkaaGreatDoorFlQ
namespace Go.Proofs.YtgggmhaopcgkkaaGreatDoor
open Go.RowKit
theorem fparse_is (s : ByteArray) (w : World) (hs : s.size ≤ 1048576) (hm : MaxL w) (hE : ErrV w) (ht : Tab10 w) : Calls Tryz.prog 7 #[.string s] w (ParseP s.data.toList w) := by
  by_cases h : (pcs s).length = 6
  · obtain ⟨a, b, c, d, e, f, h6⟩ := six_of _ h
    exact parse_six s a b c d e f w hs hm hE ht h6
  · exact parse_no s w hs hm h
/-- What the document's own Parse is asked to hand back. -/
def RefP (s : ByteArray) : Prop := ∀ W : World, Calls Tryz.prog 8 #[.string s] W (ParseP s.data.toList W)
theorem both_text (r : RuleD) (hr : r.ok) (hp : PortsOk r) : ∃ (tx : ByteArray) (gg : Int), (∀ W, Tab10 W → Calls Tryz.prog 5 #[vR r] W fun e w' => e = .returned (.tuple #[.string tx, .int .i64 gg]) ∧ Below W.heap.size W w') ∧
    (∀ W, Calls Tryz.prog 6 #[vR r] W fun e w' => e = .returned (.tuple #[.string tx, .int .i64 gg]) ∧ Below W.heap.size W w') := by
  cases h : mayB r with
  | false => exact ⟨_, _, fun W _ => text_no r W hr h, fun W => rtext_no r W hr h⟩
  | true => exact ⟨_, _, fun W ht => text_yes r W hr hp h ht, fun W => rtext_yes r W hr hp h⟩
def zeroR : RuleD := ⟨false, 0, 0, 0, 0, 0, 0, 0, 0, 0⟩
theorem one_parse (s : ByteArray) : ∃ (y : RuleD) (pe : Int), ∀ (W : World) (e : Ending) (w' : World), ParseP s.data.toList W e w' → e = .returned (.tuple #[vR y, .int .i64 pe]) ∧ Below W.heap.size W w' := by
  by_cases h : ∃ q, Good q ∧ rtext q = s.data.toList
  · obtain ⟨q, h1, h2⟩ := h
    refine ⟨q, 0, fun W e w' hh => ?_⟩
    obtain ⟨hb, ⟨r, _, _, he, hu⟩ | ⟨hn, _⟩⟩ := hh
    · have := hu q h1 h2
      subst this
      exact ⟨he, hb⟩
    · exact absurd h2 (hn q h1)
  · refine ⟨zeroR, 4, fun W e w' hh => ?_⟩
    obtain ⟨hb, ⟨r, hg, ht, _, _⟩ | ⟨_, he⟩⟩ := hh
    · exact absurd ⟨r, hg, ht⟩ h
    · exact ⟨he, hb⟩
theorem texts_long (r : RuleD) (s : ByteArray) (v : Value) (nm : ByteArray) (w : World) (hs : 2000 < s.size) : Calls Tryz.prog 3 #[vR r, .string s, v, .string nm] w fun e w' => e = .returned (.bool true) ∧ Below w.heap.size w w' := by
  have hz : (2000 : Int) < (s.size : Int) := by omega
  have HB0 : Hid (Below w.heap.size w (w.alloc (.cells (encR r).toArray 29))) := Lib.hid ((Below.refl _ _).alloc (Nat.le_refl _) _)
  obtain ⟨perm, proto, sa, sn, da, dn, sl, sh, dl, dh⟩ := r
  simp only [vR, encR] at HB0 ⊢
  clear hs
  go_enter Tryz.func3, Tryz.ntmps3
  go_wp2_with fail
  go_at_call 4
  refine (awake_is _).mono ?_
  rintro e w2 ⟨rfl, hb2⟩
  have HB2 := Lib.hid (Below.step HB0.out hb2)
  clear hb2
  go_wp2
  go_ret
  exact ⟨rfl, HB2.out⟩
theorem own_base {w : World} {b b0 : Nat} {e : TypeId} {k : Nat} {v : Value} {n : Nat} {xs : List Value} (h : w.ownsRow b e k v n xs) (hb : b0 ≤ b) : w.ownsRow b0 e k v n xs :=
  ⟨h.1, h.2.imp id fun ⟨g, cap, cur, h1, h2, h3⟩ => ⟨g, cap, cur, h1, Nat.le_trans hb h2, h3⟩⟩
theorem own_new (w : World) (r : RuleD) : (w.alloc (.cells (encR r).toArray 29)).ownsRow w.heap.size 29 10 (.slice (some ⟨w.heap.size, 0, none⟩) 1 1) 1 (flatK encR [r]) :=
  ⟨rfl, .inr ⟨w.heap.size, 1, (encR r).toArray, rfl, Nat.le_refl _, heap_new _ _, Nat.le_refl _, by decide, rfl, rfl⟩⟩
theorem own_store {wr : World} {B g n cap : Nat} {cur : Array Value} (hg : B ≤ g) (hh : wr.heap[g]? = some (.cells cur 29 (0, 0))) (hcap : n ≤ cap) (hmax : cap ≤ maxLen) (hcs : cur.size = cap * 10) (o : Nat) (v : Value) :
    ∃ xs, (wr.setCell ⟨g, o, none⟩ v).ownsRow B 29 10 (.slice (some ⟨g, 0, none⟩) n cap) n xs := by
  refine ⟨(cur.setIfInBounds o v).toList.take (n * 10), ?_, .inr ⟨g, cap, cur.setIfInBounds o v, rfl, hg, heap_setCell v hh, hcap, hmax, ?_, ?_⟩⟩
  · simp; omega
  · simpa using hcs
  · simp
theorem nmO_yes {fs : List FilD} {s : ByteArray} {k : Nat} (h : nmO fs s = some k) : (∀ f, fs[k]? = some f → sEq f.nm s = true) ∧ (∀ (i : Nat) (f : FilD), i < k → fs[i]? = some f → sEq f.nm s = false) := by
  unfold nmO at h
  rw [List.findIdx?_eq_some_iff_getElem] at h
  obtain ⟨hk, h1, h2⟩ := h
  refine ⟨fun f hf => ?_, fun i f hi hf => ?_⟩
  · obtain ⟨_, e⟩ := List.getElem?_eq_some_iff.1 hf
    subst e
    exact h1
  · obtain ⟨_, e⟩ := List.getElem?_eq_some_iff.1 hf
    subst e
    simpa using h2 i hi
theorem nmO_no {fs : List FilD} {s : ByteArray} (h : nmO fs s = none) (i : Nat) (f : FilD) (hf : fs[i]? = some f) : sEq f.nm s = false := by
  unfold nmO at h
  rw [List.findIdx?_eq_none_iff] at h
  simpa using h f (List.mem_of_getElem? hf)
theorem after_app {w w8 wr w12 : World} {B C : Nat} {fn : ByteArray} {p p9 : Option Addr} {c c9 : Nat} {fl : List RuleD} {v11 : Value} {xs : List Value} {o : Obj}
    (SW : Below w.heap.size w wr) (hn : w.heap.size ≤ w8.heap.size) (GR : wr.heap[w8.heap.size]? = some (.cells #[.string fn, .slice p fl.length c] 39 (0, 0)))
    (hgl : ∀ x, (Value.slice p fl.length c).ownBlock = some x → x < w8.heap.size) (hgB : ∀ x, (Value.slice p fl.length c).ownBlock = some x → w.heap.size ≤ x)
    (h12 : w12.ownsRow B 29 10 v11 (fl.length + [zeroR].length) xs) (hg12 : (wr.alloc o).grownBy w12 (Value.slice p fl.length c).ownBlock)
    (OW : wr.ownsRow C 29 10 (.slice p9 fl.length c9) fl.length (flatK encR fl)) (hC : w8.heap.size < C) (hok : ∀ r ∈ fl, r.ok) :
    ∃ p11 c11, v11 = .slice p11 (fl.length + [zeroR].length) c11 ∧ w12.cell? ⟨w8.heap.size, 1, none⟩ = some (.slice p fl.length c) ∧ w12.frozen? ⟨w8.heap.size, 1, none⟩ = false ∧ w8.heap.size < w12.heap.size ∧
      Hid (∀ W13, w12.setCell ⟨w8.heap.size, 1, none⟩ (.slice p11 (fl.length + [zeroR].length) c11) = W13 → Below w.heap.size w W13 ∧ W13.cell? ⟨w8.heap.size, 1, none⟩ = some (.slice p11 (fl.length + [zeroR].length) c11) ∧ RdR W13 (.slice p9 fl.length c9) fl ∧ w8.heap.size < W13.heap.size) := by
  have hgz : w8.heap.size < wr.heap.size := (Array.getElem?_eq_some_iff.1 GR).1
  obtain ⟨p11, c11, rfl⟩ := own_slice h12
  have B12 : Below w.heap.size w w12 := Below.grown (SW.alloc SW.size _) hg12 (by have := SW.size; simp; omega) hgB
  have GR12 : w12.heap[w8.heap.size]? = some (.cells #[.string fn, .slice p fl.length c] 39 (0, 0)) := (hg12.block w8.heap.size (by simp; omega) (fun e => by have := hgl _ e.symm; omega)).trans ((heap_alloc _ hgz).trans GR)
  have O12 : w12.ownsRow C 29 10 (.slice p9 fl.length c9) fl.length (flatK encR fl) := ownsRow_of OW fun x _ h2 h3 => (hg12.block x (by simp; omega) (fun e => by have := hgl _ e.symm; omega)).trans (heap_alloc _ h3)
  have sz12 : w8.heap.size < w12.heap.size := (Array.getElem?_eq_some_iff.1 GR12).1
  refine ⟨p11, c11, rfl, (cell_of_heap GR12).trans rfl, by simp [World.frozen?, GR12], sz12, Lib.hid fun W13 e => ?_⟩
  subst e
  refine ⟨B12.setCell (p := ⟨w8.heap.size, 1, none⟩) hn _, (cell_of_heap (heap_setCell (o := 1) _ GR12)).trans rfl, ⟨RdK.of_own encR_len (ownsRow_of O12 fun x _ h2 h3 => Below.heap_setCell _ _ _ _ (by show x ≠ w8.heap.size; omega)), hok⟩, ?_⟩
  simpa [World.setCell] using sz12
set_option maxRecDepth 100000 in
set_option maxHeartbeats 16000000 in
theorem texts_short (r : RuleD) (s : ByteArray) (v : Value) (fs : List FilD) (nm : ByteArray) (w : World) (hr : r.ok) (hp : PortsOk r) (hs : s.size ≤ 2000) (hf : RdF w v fs) (hm : MaxL w) (hE : ErrV w) (ht : Tab10 w) (hR : RefP s) : Calls Tryz.prog 3 #[vR r, .string s, v, .string nm] w fun e w' => e = .returned (.bool true) ∧ Below w.heap.size w w' := by
  have hz : ¬ (2000 : Int) < (s.size : Int) := by omega
  obtain ⟨fp, fc, rfl, hlc, hcm, hpx⟩ := hf.rd.sl
  have HP := Lib.hid hpx
  clear hpx
  unfold maxLen at hcm
  obtain ⟨W1, hW1⟩ : ∃ X, w.alloc (.cells (encR r).toArray 29) = X := ⟨_, rfl⟩
  have S1 : Hid (Bx w W1 w.heap.size 29 (encR r)) := Lib.hid (by rw [← hW1]; exact Bx.mk1 _ _ _)
  obtain ⟨tx, gg, hT1, hT2⟩ := both_text r hr hp
  obtain ⟨y, pe, hY⟩ := one_parse s
  have HT1 := Lib.hid hT1; have HT2 := Lib.hid hT2
  have HP1 : Hid (∀ W, MaxL W → ErrV W → Tab10 W → Calls Tryz.prog 7 #[.string s] W fun e w' => e = .returned (.tuple #[vR y, .int .i64 pe]) ∧ Below W.heap.size W w') := Lib.hid fun W h1 h2 h3 => (fparse_is s W (by omega) h1 h2 h3).mono fun e w' h => hY W e w' h
  have HP2 : Hid (∀ W, Calls Tryz.prog 8 #[.string s] W fun e w' => e = .returned (.tuple #[vR y, .int .i64 pe]) ∧ Below W.heap.size W w') := Lib.hid fun W => (hR W).mono fun e w' h => hY W e w' h
  have HM := Lib.hid hm; have HE := Lib.hid hE; have HT := Lib.hid ht; have HF := Lib.hid hf
  clear hT1 hT2 hY hm hE ht hf hr hp hR
  obtain ⟨perm, proto, sa, sn, da, dn, sl, sh, dl, dh⟩ := r
  obtain ⟨yp, yq, y2, y3, y4, y5, y6, y7, y8, y9⟩ := y
  simp only [vR, encR] at HT1 HT2 HP1 HP2 hW1 S1 ⊢
  have d0 : W1.cell? ⟨w.heap.size, 0, none⟩ = some (.bool perm) := S1.out.cells 0
  have d1 : W1.cell? ⟨w.heap.size, 1, none⟩ = some (.int .i64 proto) := S1.out.cells 1
  have d2 : W1.cell? ⟨w.heap.size, 2, none⟩ = some (.int .u32 sa) := S1.out.cells 2
  have d3 : W1.cell? ⟨w.heap.size, 3, none⟩ = some (.int .i64 sn) := S1.out.cells 3
  have d4 : W1.cell? ⟨w.heap.size, 4, none⟩ = some (.int .u32 da) := S1.out.cells 4
  have d5 : W1.cell? ⟨w.heap.size, 5, none⟩ = some (.int .i64 dn) := S1.out.cells 5
  have d6 : W1.cell? ⟨w.heap.size, 6, none⟩ = some (.int .u32 sl) := S1.out.cells 6
  have d7 : W1.cell? ⟨w.heap.size, 7, none⟩ = some (.int .u32 sh) := S1.out.cells 7
  have d8 : W1.cell? ⟨w.heap.size, 8, none⟩ = some (.int .u32 dl) := S1.out.cells 8
  have d9 : W1.cell? ⟨w.heap.size, 9, none⟩ = some (.int .u32 dh) := S1.out.cells 9
  go_enter Tryz.func3, Tryz.ntmps3
  go_wp2_with fail
  go_at_call 5
  refine (HT1.out _ (HT.out.on S1.out.bel)).mono ?_
  rintro e w2 ⟨rfl, hb2⟩
  have S2 := Lib.hid (S1.out.on hb2)
  clear hb2 d0 d1 d2 d3 d4 d5 d6 d7 d8 d9
  have d0 : w2.cell? ⟨w.heap.size, 0, none⟩ = some (.bool perm) := S2.out.cells 0
  have d1 : w2.cell? ⟨w.heap.size, 1, none⟩ = some (.int .i64 proto) := S2.out.cells 1
  have d2 : w2.cell? ⟨w.heap.size, 2, none⟩ = some (.int .u32 sa) := S2.out.cells 2
  have d3 : w2.cell? ⟨w.heap.size, 3, none⟩ = some (.int .i64 sn) := S2.out.cells 3
  have d4 : w2.cell? ⟨w.heap.size, 4, none⟩ = some (.int .u32 da) := S2.out.cells 4
  have d5 : w2.cell? ⟨w.heap.size, 5, none⟩ = some (.int .i64 dn) := S2.out.cells 5
  have d6 : w2.cell? ⟨w.heap.size, 6, none⟩ = some (.int .u32 sl) := S2.out.cells 6
  have d7 : w2.cell? ⟨w.heap.size, 7, none⟩ = some (.int .u32 sh) := S2.out.cells 7
  have d8 : w2.cell? ⟨w.heap.size, 8, none⟩ = some (.int .u32 dl) := S2.out.cells 8
  have d9 : w2.cell? ⟨w.heap.size, 9, none⟩ = some (.int .u32 dh) := S2.out.cells 9
  go_wp2_with fail
  go_at_call 6
  refine (HT2.out _).mono ?_
  rintro e w3 ⟨rfl, hb3⟩
  have S3 := Lib.hid (S2.out.on hb3)
  clear hb3 d0 d1 d2 d3 d4 d5 d6 d7 d8 d9
  go_wp2_with fail
  go_at_call 7
  refine (HP1.out _ (HM.out.on S3.out.bel) (HE.out.on S3.out.bel) (HT.out.on S3.out.bel)).mono ?_
  rintro e w4 ⟨rfl, hb4⟩
  have S4 := Lib.hid (S3.out.on hb4)
  clear hb4
  have Y4 : Hid (Bx w4 (w4.alloc (.cells #[.bool yp, .int .i64 yq, .int .u32 y2, .int .i64 y3, .int .u32 y4, .int .i64 y5, .int .u32 y6, .int .u32 y7, .int .u32 y8, .int .u32 y9] 29)) w4.heap.size 29 [.bool yp, .int .i64 yq, .int .u32 y2, .int .i64 y3, .int .u32 y4, .int .i64 y5, .int .u32 y6, .int .u32 y7, .int .u32 y8, .int .u32 y9]) := Lib.hid (Bx.mk1 _ _ _)
  have S5 : Hid (Below w.heap.size w (w4.alloc (.cells #[.bool yp, .int .i64 yq, .int .u32 y2, .int .i64 y3, .int .u32 y4, .int .i64 y5, .int .u32 y6, .int .u32 y7, .int .u32 y8, .int .u32 y9] 29))) := Lib.hid (S4.out.bel.alloc S4.out.bel.size _)
  go_wp2_with fail
  go_at_call 8
  refine (HP2.out _).mono ?_
  rintro e w6 ⟨rfl, hb6⟩
  have S6 := Lib.hid (Below.step S5.out hb6)
  have Y6 := Lib.hid (Y4.out.on hb6)
  clear hb6
  have Y7 : Hid (Bx w4 (w6.alloc (.cells #[.bool yp, .int .i64 yq, .int .u32 y2, .int .i64 y3, .int .u32 y4, .int .i64 y5, .int .u32 y6, .int .u32 y7, .int .u32 y8, .int .u32 y9] 29)) w4.heap.size 29 [.bool yp, .int .i64 yq, .int .u32 y2, .int .i64 y3, .int .u32 y4, .int .i64 y5, .int .u32 y6, .int .u32 y7, .int .u32 y8, .int .u32 y9]) := Lib.hid (Y6.out.on ((Below.refl _ _).alloc (Nat.le_refl _) _))
  have S7 : Hid (Below w.heap.size w (w6.alloc (.cells #[.bool yp, .int .i64 yq, .int .u32 y2, .int .i64 y3, .int .u32 y4, .int .i64 y5, .int .u32 y6, .int .u32 y7, .int .u32 y8, .int .u32 y9] 29))) := Lib.hid (S6.out.alloc S6.out.size _)
  have h0 : (w6.alloc (.cells #[.bool yp, .int .i64 yq, .int .u32 y2, .int .i64 y3, .int .u32 y4, .int .i64 y5, .int .u32 y6, .int .u32 y7, .int .u32 y8, .int .u32 y9] 29)).cell? ⟨w4.heap.size, 0, none⟩ = some (.bool yp) := Y7.out.cells 0
  have h1 : (w6.alloc (.cells #[.bool yp, .int .i64 yq, .int .u32 y2, .int .i64 y3, .int .u32 y4, .int .i64 y5, .int .u32 y6, .int .u32 y7, .int .u32 y8, .int .u32 y9] 29)).cell? ⟨w4.heap.size, 1, none⟩ = some (.int .i64 yq) := Y7.out.cells 1
  have h2 : (w6.alloc (.cells #[.bool yp, .int .i64 yq, .int .u32 y2, .int .i64 y3, .int .u32 y4, .int .i64 y5, .int .u32 y6, .int .u32 y7, .int .u32 y8, .int .u32 y9] 29)).cell? ⟨w4.heap.size, 2, none⟩ = some (.int .u32 y2) := Y7.out.cells 2
  have h3 : (w6.alloc (.cells #[.bool yp, .int .i64 yq, .int .u32 y2, .int .i64 y3, .int .u32 y4, .int .i64 y5, .int .u32 y6, .int .u32 y7, .int .u32 y8, .int .u32 y9] 29)).cell? ⟨w4.heap.size, 3, none⟩ = some (.int .i64 y3) := Y7.out.cells 3
  have h4 : (w6.alloc (.cells #[.bool yp, .int .i64 yq, .int .u32 y2, .int .i64 y3, .int .u32 y4, .int .i64 y5, .int .u32 y6, .int .u32 y7, .int .u32 y8, .int .u32 y9] 29)).cell? ⟨w4.heap.size, 4, none⟩ = some (.int .u32 y4) := Y7.out.cells 4
  have h5 : (w6.alloc (.cells #[.bool yp, .int .i64 yq, .int .u32 y2, .int .i64 y3, .int .u32 y4, .int .i64 y5, .int .u32 y6, .int .u32 y7, .int .u32 y8, .int .u32 y9] 29)).cell? ⟨w4.heap.size, 5, none⟩ = some (.int .i64 y5) := Y7.out.cells 5
  have h6 : (w6.alloc (.cells #[.bool yp, .int .i64 yq, .int .u32 y2, .int .i64 y3, .int .u32 y4, .int .i64 y5, .int .u32 y6, .int .u32 y7, .int .u32 y8, .int .u32 y9] 29)).cell? ⟨w4.heap.size, 6, none⟩ = some (.int .u32 y6) := Y7.out.cells 6
  have h7 : (w6.alloc (.cells #[.bool yp, .int .i64 yq, .int .u32 y2, .int .i64 y3, .int .u32 y4, .int .i64 y5, .int .u32 y6, .int .u32 y7, .int .u32 y8, .int .u32 y9] 29)).cell? ⟨w4.heap.size, 7, none⟩ = some (.int .u32 y7) := Y7.out.cells 7
  have h8 : (w6.alloc (.cells #[.bool yp, .int .i64 yq, .int .u32 y2, .int .i64 y3, .int .u32 y4, .int .i64 y5, .int .u32 y6, .int .u32 y7, .int .u32 y8, .int .u32 y9] 29)).cell? ⟨w4.heap.size, 8, none⟩ = some (.int .u32 y8) := Y7.out.cells 8
  have h9 : (w6.alloc (.cells #[.bool yp, .int .i64 yq, .int .u32 y2, .int .i64 y3, .int .u32 y4, .int .i64 y5, .int .u32 y6, .int .u32 y7, .int .u32 y8, .int .u32 y9] 29)).cell? ⟨w4.heap.size, 9, none⟩ = some (.int .u32 y9) := Y7.out.cells 9
  have hgn := guardR .neq
  have hne := fun W => neqR yp yq y2 y3 y4 y5 y6 y7 y8 y9 W
  go_wp2_with fail
  go_at_call 9
  refine (named_f2 fs nm _ _ (HF.out.below S7.out)).mono ?_
  rintro e w8 ⟨gn, p, n, c, b, rfl, hb8, hcase⟩
  have S8 := Lib.hid (Below.step S7.out hb8)
  have B8 := Lib.hid hb8
  clear hb8 h0 h1 h2 h3 h4 h5 h6 h7 h8 h9 hgn hne
  rcases hcase with ⟨rfl, hno, rfl, rfl, rfl, rfl⟩ | ⟨rfl, k, f, B, hk, hfk, rfl, rfl, hB, hown⟩
  · have HNO := Lib.hid hno
    clear hno
    go_wp2_with fail
    obtain ⟨w9, hw9⟩ : ∃ V, w8.alloc (.cells #[.string ⟨#[]⟩, .slice none 0 0] 39) = V := ⟨_, rfl⟩
    have G9 : Hid (Bx w8 w9 w8.heap.size 39 [.string ⟨#[]⟩, .slice none 0 0]) := Lib.hid (by rw [← hw9]; exact Bx.mk1 _ _ _)
    have S9 := Lib.hid (Below.step S8.out G9.out.bel)
    rw [hw9]
    clear hw9
    have z0 : w9.cell? ⟨w8.heap.size, 0, none⟩ = some (.string ⟨#[]⟩) := G9.out.cells 0
    have z1 : w9.cell? ⟨w8.heap.size, 1, none⟩ = some (.slice none 0 0) := G9.out.cells 1
    go_loop [19] (fun i => ∃ j : Nat, j ≤ fs.length ∧ i = .int .i64 j) (fun i => fs.length - (intOf i).toNat)
    case atStart => exact ⟨0, Nat.zero_le _, rfl⟩
    case round =>
      obtain ⟨j, hj, rfl⟩ := hrel
      by_cases hlt : j < fs.length
      · obtain ⟨f, hf⟩ : ∃ f, fs[j]? = some f := ⟨_, List.getElem?_eq_getElem hlt⟩
        obtain ⟨b, o, rfl, hbs, hc⟩ := HP.out j f hf
        have hc := hc w9 S9.out
        have hq := nmO_no HNO.out j f hf
        have e1 : (0 : Int) ≤ (j : Int) := by omega
        have e2 : (j : Int) < (fs.length : Int) := by omega
        clear hf
        obtain ⟨fn, fv, fl⟩ := f
        simp only [encF] at hc
        have c0 : w9.cell? ⟨b, o + j * 2, none⟩ = some (.string fn) := hc 0 _ rfl
        have q1 : (fn.toList == nm.toList) = false := hq
        have q2 : (fn.toList != nm.toList) = true := by rw [bne, q1]; rfl
        clear hc hq
        go_wp2_with fail
        go_round
        case rel => exact ⟨j + 1, by omega, by go_num⟩
        case measure => simp [intOf]; omega
      · have hdd : decide ((j : Int) < (fs.length : Int)) = false := by simp; omega
        go_wp2_with fail
        go_at_call 4
        refine (awake_is _).mono ?_
        rintro e w10 ⟨rfl, hb10⟩
        have S10 := Lib.hid (Below.step S9.out hb10)
        clear hb10
        go_wp2
        go_ret
        exact ⟨rfl, S10.out⟩
  · obtain ⟨B, hB1, hB2, hown⟩ : ∃ B, w.heap.size ≤ B ∧ B ≤ w.heap.size ∧ w8.ownsRow B 29 10 (.slice p f.l.length c) f.l.length (flatK encR f.l) := ⟨w.heap.size, Nat.le_refl _, Nat.le_refl _, own_base hown (Nat.le_trans S7.out.size hB)⟩
    have HFK := Lib.hid hfk
    have HK := Lib.hid hk
    have HOWN := Lib.hid hown
    clear hk hfk hown
    have HYES := Lib.hid (nmO_yes HK.out)
    obtain ⟨fn, fv, fl⟩ := f
    have hokf := (HF.out.ok _ (List.mem_of_getElem? HFK.out))
    have HOK := Lib.hid hokf
    obtain ⟨rp, rc, hfv⟩ := hokf.1.slice
    simp only at hfv
    subst hfv
    have hl47 : fl.length * 64 ≤ 140737488351232 := hokf.2
    have hkl : k < fs.length := (List.getElem?_eq_some_iff.1 HFK.out).1
    clear hokf
    go_wp2_with fail
    obtain ⟨w9, hw9⟩ : ∃ V, w8.alloc (.cells #[.string fn, .slice p fl.length c] 39) = V := ⟨_, rfl⟩
    have G9 : Hid (Bx w8 w9 w8.heap.size 39 [.string fn, .slice p fl.length c]) := Lib.hid (by rw [← hw9]; exact Bx.mk1 _ _ _)
    have S9 := Lib.hid (Below.step S8.out G9.out.bel)
    have O9 : Hid (w9.ownsRow B 29 10 (.slice p fl.length c) fl.length (flatK encR fl)) := Lib.hid (by rw [← hw9]; exact HOWN.out.alloc _)
    rw [hw9]
    clear hw9
    have z0 : w9.cell? ⟨w8.heap.size, 0, none⟩ = some (.string fn) := G9.out.cells 0
    have z1 : w9.cell? ⟨w8.heap.size, 1, none⟩ = some (.slice p fl.length c) := G9.out.cells 1
    go_loop [19] (fun i => ∃ j : Nat, j ≤ k ∧ i = .int .i64 j) (fun i => fs.length - (intOf i).toNat)
    case atStart => exact ⟨0, Nat.zero_le _, rfl⟩
    case round =>
      obtain ⟨j, hj, rfl⟩ := hrel
      have hlt : j < fs.length := by omega
      have e1 : (0 : Int) ≤ (j : Int) := by omega
      have e2 : (j : Int) < (fs.length : Int) := by omega
      by_cases hjk : j < k
      · obtain ⟨f, hf⟩ : ∃ f, fs[j]? = some f := ⟨_, List.getElem?_eq_getElem hlt⟩
        obtain ⟨b, o, rfl, hbs, hc⟩ := HP.out j f hf
        have hc := hc w9 S9.out
        have hq := HYES.out.2 j f hjk hf
        clear hf
        obtain ⟨gn, gv, gl⟩ := f
        simp only [encF] at hc
        have c0 : w9.cell? ⟨b, o + j * 2, none⟩ = some (.string gn) := hc 0 _ rfl
        have q1 : (gn.toList == nm.toList) = false := hq
        have q2 : (gn.toList != nm.toList) = true := by rw [bne, q1]; rfl
        clear hc hq
        go_wp2_with fail
        go_round
        case rel => exact ⟨j + 1, by omega, by go_num⟩
        case measure => simp [intOf]; omega
      · have hje : j = k := by omega
        subst hje
        clear hjk hj
        obtain ⟨b, o, rfl, hbs, hc⟩ := HP.out j _ HFK.out
        have HC := Lib.hid hc
        have hc9 := hc w9 S9.out
        simp only [encF] at hc9
        have c0 : w9.cell? ⟨b, o + j * 2, none⟩ = some (.string fn) := hc9 0 _ rfl
        have c1 : w9.cell? ⟨b, o + j * 2 + 1, none⟩ = some (.slice rp fl.length rc) := hc9 1 _ rfl
        have hq := (HYES.out.1 _ HFK.out)
        have q1 : (fn.toList == nm.toList) = true := hq
        have q2 : (fn.toList != nm.toList) = false := by rw [bne, q1]; rfl
        have hz9 : w8.heap.size < w9.heap.size := G9.out.sz
        have hb9 : b < w9.heap.size := block_lt_of_cell c0
        have HR1 : Hid (∀ W, Below w9.heap.size w9 W → RdR W (.slice p fl.length c) fl) := Lib.hid fun W hb => RdR.below ⟨RdK.of_own encR_len O9.out, HOK.out.1.ok⟩ hb
        have HR2 : Hid (∀ W, Below w9.heap.size w9 W → RdR W (.slice rp fl.length rc) fl) := Lib.hid fun W hb => (HOK.out.1.below S9.out).below hb
        clear hc hc9 hq
        go_wp2_with fail
        refine wp_region_grows (by kernel_rfl) (by kernel_rfl) ?_
        refine grows_fact w8.heap.size 0 (.string fn) z0 hz9 fun t0 => ?_
        refine grows_fact w8.heap.size 1 (.slice p fl.length c) z1 hz9 fun t1 => ?_
        refine grows_fact b (o + j * 2 + 1) (.slice rp fl.length rc) c1 hb9 fun t2 => ?_
        repeat (go_big_quiet_step ((go_at_call 10; with_reducible exact Calls.grows_of (rules_same fl _ _ _ (HR1.out _ (Grows.below _)) (HR2.out _ (Grows.below _))))))
        refine wpQuiet_nil ?_
        rintro wB ⟨⟨_, hswB⟩, rfl⟩
        clear t0 t1 t2
        have HSB := Lib.hid hswB
        clear hswB
        have c1B : wB.cell? ⟨b, o + j * 2 + 1, none⟩ = some (.slice rp fl.length rc) := (HSB.out.cell (p := ⟨b, o + j * 2 + 1, none⟩) hb9).trans c1
        have GB := Lib.hid (G9.out.on HSB.out)
        have OB : Hid (wB.ownsRow B 29 10 (.slice p fl.length c) fl.length (flatK encR fl)) := Lib.hid (ownsRow_of O9.out fun x _ _ h3 => HSB.out.block x h3)
        have SB := Lib.hid (Below.step S9.out HSB.out)
        have HRD : Hid (RdR (wB.alloc (.cells #[] 29)) (.slice rp fl.length rc) fl) := Lib.hid ((HR2.out wB HSB.out).below ((Below.refl _ _).alloc (Nat.le_refl _) _))
        have c1C : (wB.alloc (.cells #[] 29)).cell? ⟨b, o + j * 2 + 1, none⟩ = some (.slice rp fl.length rc) := (((Below.refl _ _).alloc (Nat.le_refl _) _ : Below wB.heap.size wB _).cell (p := ⟨b, o + j * 2 + 1, none⟩) (by have := HSB.out.size; show b < wB.heap.size; omega)).trans c1B
        clear c0 c1 z0 z1
        go_wp2_with (at_builtin; refine wpList_append_rdk (enc := encR) encR_len (by decide) encR_one rfl (.tmp 102) (.tmp 107) 37 29 rfl _ 64 Tryz.underlying37 rfl infoR wB.heap.size _ 0 [] rfl (own_empty (heap_new _ _) (Nat.le_refl _)) _ fl rfl HRD.out.rd (by unfold maxLen; omega) (by omega) (by simp) ?_; intro v9 w10 hown10 hgr10 hor10; clear hor10; have H10 := Lib.hid hown10; have HG10 := Lib.hid hgr10; clear hown10 hgr10; obtain ⟨p9, c9, rfl⟩ := own_slice H10.out; simp only [Nat.zero_add])
        have BB10 : Hid (Below wB.heap.size wB w10) := Lib.hid (Below.grown ((Below.refl _ _).alloc (Nat.le_refl _) _) HG10.out (by simp) (fun x hx => by have h1 : some wB.heap.size = some x := hx; have h2 := Option.some.inj h1; omega))
        have G10 := Lib.hid (GB.out.on BB10.out)
        have S10 := Lib.hid (Below.step SB.out BB10.out)
        have O10 : Hid (w10.ownsRow B 29 10 (.slice p fl.length c) fl.length (flatK encR fl)) := Lib.hid (ownsRow_of OB.out fun x _ _ h3 => BB10.out.block x h3)
        have R10 : Hid (RdR w10 (.slice p9 fl.length c9) fl) := Lib.hid ⟨RdK.of_own encR_len (by simpa using H10.out), HOK.out.1.ok⟩
        clear c1B c1C
        have z0 : w10.cell? ⟨w8.heap.size, 0, none⟩ = some (.string fn) := G10.out.cells 0
        have z1 : w10.cell? ⟨w8.heap.size, 1, none⟩ = some (.slice p fl.length c) := G10.out.cells 1
        go_loopw [21] (fun i wr => ∃ j2 : Nat, j2 ≤ fl.length ∧ i = .int .i64 j2 ∧ Hid (∃ xs, wr.ownsRow B 29 10 (.slice p fl.length c) fl.length xs) ∧ Hid (w10.grownBy wr (Value.slice p fl.length c).ownBlock)) (fun i _ => fl.length - (intOf i).toNat)
        case atStart => exact ⟨0, Nat.zero_le _, rfl, Lib.hid ⟨_, O10.out⟩, Lib.hid ⟨rfl, rfl, rfl, Nat.le_refl _, fun _ _ _ => rfl⟩⟩
        case round =>
          obtain ⟨j2, hj2, rfl, HO, HG⟩ := hrel
          have hsz := HG.out.size
          have hgl : ∀ x, (Value.slice p fl.length c).ownBlock = some x → x < w8.heap.size := fun x hx => (HOWN.out.lt x hx).2
          have hbx : wr.heap[w8.heap.size]? = w10.heap[w8.heap.size]? := HG.out.block _ G10.out.sz (fun e => by have := hgl _ e.symm; omega)
          have GR : Hid (wr.heap[w8.heap.size]? = some (.cells #[.string fn, .slice p fl.length c] 39 (0, 0))) := Lib.hid (hbx.trans G10.out.row)
          have y1 : wr.cell? ⟨w8.heap.size, 1, none⟩ = some (.slice p fl.length c) := (cell_of_heap GR.out).trans rfl
          clear hbx
          by_cases hlt2 : j2 < fl.length
          · obtain ⟨xs, hxs⟩ := HO.out
            obtain ⟨hxl, hor⟩ := hxs
            rcases hor with ⟨_, hz⟩ | ⟨g, cap, cur, hv, hg, hh, hcap, hmax, hcs, htk⟩
            · exfalso; omega
            · obtain ⟨rfl, rfl⟩ : p = some ⟨g, 0, none⟩ ∧ c = cap := by simpa using hv
              have hin : j2 * 10 + 1 < cur.size := by rw [hcs]; omega
              obtain ⟨old, hold⟩ : ∃ u, cur[j2 * 10 + 1]? = some u := ⟨_, Array.getElem?_eq_getElem hin⟩
              have x0 : wr.cell? ⟨g, j2 * 10 + 1, none⟩ = some old := (cell_of_heap hh).trans hold
              have xf : wr.frozen? ⟨g, j2 * 10 + 1, none⟩ = false := by simp [World.frozen?, hh]
              have HO2 : Hid (∃ xs, (wr.setCell ⟨g, j2 * 10 + 1, none⟩ (.int .i64 77)).ownsRow B 29 10 (.slice (some ⟨g, 0, none⟩) fl.length c) fl.length xs) := Lib.hid (own_store hg hh hcap hmax hcs _ _)
              have HG2 : Hid (w10.grownBy (wr.setCell ⟨g, j2 * 10 + 1, none⟩ (.int .i64 77)) (Value.slice (some ⟨g, 0, none⟩) fl.length c).ownBlock) := Lib.hid ⟨HG.out.os, HG.out.tape, HG.out.output, by have := HG.out.size; simpa [World.setCell] using this, fun x h1 h2 => (Below.heap_setCell _ _ _ _ (fun e => h2 (by subst e; rfl))).trans (HG.out.block x h1 h2)⟩
              have e3 : (0 : Int) ≤ (j2 : Int) := by omega
              have e4 : (j2 : Int) < (fl.length : Int) := by omega
              clear hxl hv hh hcap hmax hcs htk hin hold
              go_wp2_with fail
              go_roundw
              case rel => exact ⟨j2 + 1, by omega, by go_num, HO2, HG2⟩
              case measure => simp [intOf]; omega
          · have hdd : decide ((j2 : Int) < (fl.length : Int)) = false := by simp; omega
            obtain ⟨xs, hxs⟩ := HO.out
            have hwB : w.heap.size ≤ B := hB1
            have hgB : ∀ x, (Value.slice p fl.length c).ownBlock = some x → w.heap.size ≤ x := fun x hx => Nat.le_trans hwB (HOWN.out.lt x hx).1
            have SW := Lib.hid (Below.grown S10.out HG.out S10.out.size hgB)
            have RW1 : Hid (∀ W, Below w.heap.size w W → RdR W (.slice rp fl.length rc) fl) := Lib.hid fun W hb => HOK.out.1.below hb
            have OW2 : Hid (wr.ownsRow wB.heap.size 29 10 (.slice p9 fl.length c9) fl.length (flatK encR fl)) := Lib.hid (by
              have h := H10.out
              simp only [Nat.zero_add, List.nil_append] at h
              have hq : w8.heap.size < wB.heap.size := GB.out.sz
              exact ownsRow_of h fun x h1 h2 h3 => HG.out.block x h3 (fun e => by have := hgl x e.symm; omega))
            have HXS := Lib.hid hxs
            have GN := Lib.hid (own_new wr zeroR)
            have hl1 : fl.length ≤ 2199023255519 := by omega
            have hBw : B ≤ wr.heap.size := Nat.le_trans hB2 SW.out.size
            have hgz : w8.heap.size < wr.heap.size := (Array.getElem?_eq_some_iff.1 GR.out).1
            clear hxs hsz
            go_wp2_with (at_builtin; refine wpList_append_rdk (enc := encR) encR_len (by decide) encR_one rfl (.tmp 122) (.tmp 124) 37 29 rfl _ 64 Tryz.underlying37 rfl infoR B _ fl.length xs rfl (HXS.out.alloc _) _ [zeroR] rfl (RdK.of_own encR_len GN.out) (by unfold maxLen; simp; omega) (by simp; omega) (by first | (simp; done) | (simp; omega)) ?_; intro v11 w12 hown12 hgr12 hor12; clear hor12; obtain ⟨p11, c11, rfl, ya, yf, yz, HH⟩ := after_app SW.out S8.out.size GR.out hgl hgB hown12 hgr12 OW2.out GB.out.sz HOK.out.1.ok; simp only [List.length_cons, List.length_nil, Nat.zero_add] at ya HH ⊢; obtain ⟨B13, g13, R13, z13⟩ := HH.out _ rfl; have HB13 := Lib.hid B13; have HR13 := Lib.hid R13; have HZ13 := Lib.hid z13; clear B13 R13 z13; have hc13 := HC.out _ HB13.out; simp only [encF] at hc13; have c1D : (w12.setCell ⟨w8.heap.size, 1, none⟩ (.slice p11 (fl.length + 1) c11)).cell? ⟨b, o + j * 2 + 1, none⟩ = some (.slice rp fl.length rc) := hc13 1 _ rfl; clear hc13)
            refine (rules_same fl _ _ _ (RW1.out _ HB13.out) HR13.out).mono ?_
            rintro e w14 ⟨rfl, hb14⟩
            have g14 : w14.cell? ⟨w8.heap.size, 1, none⟩ = some (.slice p11 (fl.length + 1) c11) := (hb14.cell (p := ⟨w8.heap.size, 1, none⟩) HZ13.out).trans g13
            have S14 := Lib.hid (Below.step HB13.out hb14)
            clear hb14 g13 c1D ya yf yz
            go_wp2_with fail
            go_at_call 4
            refine (awake_is _).mono ?_
            rintro e w15 ⟨rfl, hb15⟩
            have S15 := Lib.hid (Below.step S14.out hb15)
            clear hb15 g14
            go_wp2
            go_ret
            exact ⟨rfl, S15.out⟩
end Go.Proofs.YtgggmhaopcgkkaaGreatDoor
