/- ListsInForm: only which communities there are counts, not their order nor how often; texts come back. Where no list has more than 1048576 entries; the variables of package strconv are asked to hold what their text says. -/
import Derived.Test.YtkkhmdiffddllaaDoorUvC
import Derived.Test.YtkkhmdiffddllaaDoorVaB
namespace Go.Proofs.YtkkhmdiffddllaaDoor
open Go.Shelf Go.RowKit Go.Lib
set_option maxRecDepth 100000 in
theorem lsame_is (va vb : Value) (l : List Int) (w : World) (ha : RdK encU 1 w va l) (hb : RdK encU 1 w vb l) (hl : l.length ≤ 35184372087808) : Calls Tryd.prog 15 #[va, vb] w fun e w' => e = .returned (.bool true) ∧ Below w.heap.size w w' := by
  obtain ⟨p, cp, rfl, h2, h3, h4⟩ := ha.sl
  obtain ⟨q, cq, rfl, h5, h6, h7⟩ := hb.sl
  have H4 := Lib.hid h4
  have H7 := Lib.hid h7
  clear h4 h7 ha hb h2 h3 h5 h6
  have hnn : ((l.length : Int) != (l.length : Int)) = false := by simp
  go_enter Tryd.func15, Tryd.ntmps15
  go_wp2
  go_loopw [5] (fun vi wr => ∃ k : Nat, vi = .int .i64 k ∧ k ≤ l.length ∧ Hid (Below w.heap.size w wr)) (fun vi _ => l.length - (intOf vi).toNat)
  case atStart => exact ⟨0, rfl, Nat.zero_le _, Lib.hid (Below.refl _ _)⟩
  case round =>
    obtain ⟨k, rfl, hk, HB⟩ := hrel
    by_cases hlt : k < l.length
    · have hltz : (k : Int) < (l.length : Int) := by omega
      obtain ⟨x, hx⟩ : ∃ x, l[k]? = some x := ⟨_, List.getElem?_eq_getElem hlt⟩
      obtain ⟨b1, o1, rfl, g1, c1⟩ := H4.out k x hx
      obtain ⟨b2, o2, rfl, g2, c2⟩ := H7.out k x hx
      have e1 := c1 wr HB.out 0 _ (by rfl : (encU x)[0]? = some (.int .u32 x))
      have e2 := c2 wr HB.out 0 _ (by rfl : (encU x)[0]? = some (.int .u32 x))
      simp only [Nat.mul_one, Nat.add_zero] at e1 e2
      have ht : (x != x) = false := by simp
      have q1 : b1 < wr.heap.size := Nat.lt_of_lt_of_le g1 HB.out.size
      have q2 : b2 < wr.heap.size := Nat.lt_of_lt_of_le g2 HB.out.size
      clear c1 c2 hx
      go_wp2_with fail
      refine wp_region_grows (by kernel_rfl) (by kernel_rfl) ?_
      refine grows_fact b1 (o1 + k) _ e1 q1 fun f0 => ?_
      refine grows_fact b2 (o2 + k) _ e2 q2 fun f1 => ?_
      repeat (go_big_quiet_step (fail))
      refine wpQuiet_nil ?_
      rintro w2 ⟨⟨_, hb2⟩, rfl⟩
      have K1 := Lib.hid (Below.step HB.out hb2)
      clear hb2 f0 f1 e1 e2
      go_wp2
      go_roundw
      case rel => exact ⟨k + 1, by go_num, by omega, K1⟩
      case measure => simp [intOf] <;> omega
    · have hge : ¬ (k : Int) < (l.length : Int) := by omega
      go_wp2
      go_ret
      exact ⟨rfl, HB.out⟩
theorem txC_len (c : Nat) (hc : c < 4294967296) : (⟨(txC c).toArray⟩ : ByteArray).size ≤ 140737488355328 := by
  have h1 := dec_len (c / 65536)
  have h2 := dec_len (c % 65536)
  simp [txC, ByteArray.size]
  omega
theorem lets_form {a r : List Int} (h : IsForm a r) (m : List MemD) : lets (fitM r) MemD.perm m = lets (fitM a) MemD.perm m := by
  have e : fitM r = fitM a := by
    funext x
    unfold fitM hasAll
    congr 1
    funext c
    exact decide_eq_decide.2 (h.2 c)
  rw [e]
theorem form_lt {a r : List Int} (h : IsForm a r) {k : Nat} {x y : Int} (hx : r[k]? = some x) (hy : r[k + 1]? = some y) : x < y := by
  obtain ⟨h1, rfl⟩ := List.getElem?_eq_some_iff.1 hx
  obtain ⟨h2, rfl⟩ := List.getElem?_eq_some_iff.1 hy
  exact List.pairwise_iff_getElem.1 h.1 k (k + 1) h1 h2 (by omega)
set_option maxRecDepth 100000 in
set_option maxHeartbeats 4000000 in
theorem lin_is (v0 v1 v2 : Value) (s : ByteArray) (a b : List Int) (m : List MemD) (w : World) (h0 : RdK encU 1 w v0 a) (h1 : RdK encU 1 w v1 b) (h2 : RdK encM 2 w v2 m) (hm2 : OkM w m) (ho : ∀ x ∈ a, 0 ≤ x ∧ x < 4294967296)
    (b0 : a.length ≤ 1048576) (b1 : b.length ≤ 1048576) (b2 : m.length ≤ 1048576) (b3 : s.size ≤ 1048576) (ht : Tab10 w) (hE : ErrV w) :
    Calls Tryd.prog 4 #[v0, v1, v2, .string s] w fun e w' => e = .returned (.bool true) ∧ Below w.heap.size w w' := by
  have H0 := Lib.hid h0; have H1 := Lib.hid h1; have H2 := Lib.hid h2
  have HM2 := Lib.hid hm2; have HO := Lib.hid ho; have HT := Lib.hid ht; have HE := Lib.hid hE
  have HB0 := Lib.hid b0; have HB1 := Lib.hid b1; have HB2 := Lib.hid b2; have HB3 := Lib.hid b3
  obtain ⟨p0, c0, rfl, _, _, q0⟩ := h0.sl
  have HQ0 := Lib.hid q0
  clear q0
  obtain ⟨p1, c1, rfl, _, _, q1⟩ := h1.sl
  clear q1
  obtain ⟨p2, c2, rfl, _, _, q2⟩ := h2.sl
  clear q2
  have CW := Lib.hid (works_is w ht hE)
  clear h0 h1 h2 hm2 ho ht hE
  go_enter Tryd.func4, Tryd.ntmps4
  go_wp2_with fail
  go_at_call 14
  (with_reducible refine CW.out.mono ?_)
  rintro e W1 ⟨rfl, hb1⟩
  have S1 := Lib.hid hb1
  clear hb1 CW
  obtain ⟨E3, hE3⟩ : ∃ X, W1.alloc (.cells #[.string ⟨#[]⟩, .slice none 0 0] 35) = X := ⟨_, rfl⟩
  obtain ⟨E4, hE4⟩ : ∃ X, (E3.setCell ⟨W1.heap.size, 0, none⟩ (.string ⟨#[]⟩)).setCell ⟨W1.heap.size, 1, none⟩ (.slice p2 m.length c2) = X := ⟨_, rfl⟩
  obtain ⟨N4, C4, Z4, Y4⟩ := boxC hE3 hE4
  obtain ⟨y0, y1⟩ : E3.cell? ⟨W1.heap.size, 0, none⟩ = some (.string ⟨#[]⟩) ∧ E3.cell? ⟨W1.heap.size, 1, none⟩ = some (.slice none 0 0) := ⟨cell_heap Y4.out, cell_heap Y4.out⟩
  have fE : ∀ o, E3.frozen? ⟨W1.heap.size, o, none⟩ = false := fun o => frozen_heap Y4.out
  have S4 : Hid (Below w.heap.size w E4) := Lib.hid (Below.step S1.out C4.out)
  have G0 : Hid (RdK encU 1 E4 (.slice p0 a.length c0) a) := Lib.hid (H0.out.below S4.out)
  have G1 : Hid (RdK encU 1 E4 (.slice p1 b.length c1) b) := Lib.hid (H1.out.below S4.out)
  have C5 := Lib.hid (normal_is _ a E4 G0.out (Nat.le_trans b0 (by decide)))
  go_wp2_with fail
  go_at_call 5
  (with_reducible refine C5.out.mono ?_)
  rintro e W5 ⟨v5, r, rfl, hO5, hf5, hl5, hb5⟩
  have O5 : Hid (RdK encU 1 W5 v5 r) := Lib.hid (RdK.of_own encU_len hO5)
  have F5 := Lib.hid hf5
  have T5 := Lib.hid hb5
  have L5 := Lib.hid hl5
  have hr5 : r.length ≤ 1048576 := Nat.le_trans hl5 b0
  obtain ⟨p5, c5, rfl, _, _, q5⟩ := O5.out.sl
  have HQ5 := Lib.hid q5
  clear q5 hO5 hf5 hb5 hl5 C5 y0 y1 fE hE3 hE4
  go_wp2_with fail
  go_loopw [11] (fun vi wr => ∃ k : Nat, vi = .int .i64 k ∧ k ≤ r.length ∧ Hid (Below W5.heap.size W5 wr)) (fun vi _ => r.length - (intOf vi).toNat)
  case atStart => exact ⟨0, rfl, Nat.zero_le _, Lib.hid (Below.refl _ _)⟩
  case round =>
    obtain ⟨k, rfl, hk, HB⟩ := hrel
    by_cases hlt : k + 1 < r.length
    · have hltz : (k : Int) + 1 < (r.length : Int) := by omega
      obtain ⟨x, hx⟩ : ∃ x, r[k]? = some x := ⟨_, List.getElem?_eq_getElem (by omega)⟩
      obtain ⟨y, hy⟩ : ∃ y, r[k + 1]? = some y := ⟨_, List.getElem?_eq_getElem hlt⟩
      obtain ⟨g1, o1, he1, g1s, d1⟩ := HQ5.out k x hx
      obtain ⟨g2, o2, he2, g2s, d2⟩ := HQ5.out (k + 1) y hy
      have e1 := d1 wr HB.out 0 _ (by rfl : (encU x)[0]? = some (.int .u32 x))
      have e2 := d2 wr HB.out 0 _ (by rfl : (encU y)[0]? = some (.int .u32 y))
      simp only [Nat.mul_one, Nat.add_zero] at e1 e2
      have hge : ¬ y ≤ x := by have := form_lt F5.out hx hy; omega
      rw [he1] at he2
      simp only [Option.some.injEq, Addr.mk.injEq, and_true] at he2
      obtain ⟨rfl, rfl⟩ := he2
      have q1 : g1 < wr.heap.size := Nat.lt_of_lt_of_le g1s HB.out.size
      clear d1 d2 hx hy g1s g2s
      subst he1
      go_wp2_with fail
      refine wp_region_grows (by kernel_rfl) (by kernel_rfl) ?_
      refine grows_fact g1 (o1 + k) _ e1 q1 fun f0 => ?_
      refine grows_fact g1 (o1 + (k + 1)) _ e2 q1 fun f1 => ?_
      repeat (go_big_quiet_step (fail))
      refine wpQuiet_nil ?_
      rintro w2 ⟨⟨_, hb2⟩, rfl⟩
      have K1 := Lib.hid (Below.step HB.out hb2)
      clear hb2 f0 f1 e1 e2
      go_wp2
      go_roundw
      case rel => exact ⟨k + 1, by go_num, by omega, K1⟩
      case measure => simp [intOf] <;> omega
    · have hge : ¬ (k : Int) + 1 < (r.length : Int) := by omega
      go_wp2_with fail
      have T6 := Lib.hid (Below.step T5.out HB.out)
      clear hge hlt hk
      go_at_call 6
      (with_reducible refine (join_is (.slice p0 a.length c0) (.slice p1 b.length c1) a b wr (G0.out.below T6.out) (G1.out.below T6.out) (by omega) (by omega)).mono ?_)
      rintro e W7 ⟨v7, x, rfl, hO7, hf7, hl7, hb7⟩
      have O7 : Hid (RdK encU 1 W7 v7 x) := Lib.hid (RdK.of_own encU_len hO7)
      have F7 := Lib.hid hf7
      have T7 := Lib.hid (Below.step T6.out hb7)
      have U7 := Lib.hid hb7
      have hr7 : x.length ≤ a.length + b.length := by rw [← List.length_append]; exact hl7
      obtain ⟨p7, c7, rfl, _, _, q7⟩ := O7.out.sl
      clear q7 hO7 hf7 hb7 hl7
      go_wp2_with fail
      go_at_call 6
      (with_reducible refine (join_is (.slice p1 b.length c1) (.slice p0 a.length c0) b a W7 (G1.out.below T7.out) (G0.out.below T7.out) (by omega) (by omega)).mono ?_)
      rintro e W8 ⟨v8, y, rfl, hO8, hf8, hl8, hb8⟩
      have O8 : Hid (RdK encU 1 W8 v8 y) := Lib.hid (RdK.of_own encU_len hO8)
      have F8 := Lib.hid hf8
      have T8 := Lib.hid (Below.step T7.out hb8)
      have U8 := Lib.hid hb8
      have hr8 : y.length ≤ b.length + a.length := by rw [← List.length_append]; exact hl8
      obtain ⟨p8, c8, rfl, _, _, q8⟩ := O8.out.sl
      clear q8 hO8 hf8 hb8 hl8
      go_wp2_with fail
      go_at_call 6
      (with_reducible refine (join_is (.slice p7 x.length c7) (.slice p0 a.length c0) x a W8 (O7.out.below U8.out) (G0.out.below T8.out) (by omega) (by omega)).mono ?_)
      rintro e W9 ⟨v9, z, rfl, hO9, hf9, hl9, hb9⟩
      have O9 : Hid (RdK encU 1 W9 v9 z) := Lib.hid (RdK.of_own encU_len hO9)
      have F9 := Lib.hid hf9
      have T9 := Lib.hid (Below.step T8.out hb9)
      have U9 := Lib.hid hb9
      have hr9 : z.length ≤ x.length + a.length := by rw [← List.length_append]; exact hl9
      obtain ⟨p9, c9, rfl, _, _, q9⟩ := O9.out.sl
      clear q9 hO9 hf9 hb9 hl9
      go_wp2_with fail
      have O5b : Hid (RdK encU 1 W9 (.slice p5 r.length c5) r) := Lib.hid (O5.out.below (((HB.out.trans (U7.out.mono HB.out.size)).trans (U8.out.mono (Nat.le_trans HB.out.size U7.out.size))).trans (U9.out.mono (Nat.le_trans (Nat.le_trans HB.out.size U7.out.size) U8.out.size))))
      go_at_call 5
      (with_reducible refine (normal_is _ r W9 O5b.out (Nat.le_trans hr5 (by decide))).mono ?_)
      rintro e W10 ⟨v10, n, rfl, hO10, hf10, hl10, hb10⟩
      have O10 : Hid (RdK encU 1 W10 v10 n) := Lib.hid (RdK.of_own encU_len hO10)
      have F10 := Lib.hid hf10
      have T10 := Lib.hid (Below.step T9.out hb10)
      obtain ⟨p10, c10, rfl, _, _, q10⟩ := O10.out.sl
      have O5c := Lib.hid (O5b.out.below hb10)
      have O7c := Lib.hid (O7.out.below (Below.step (Below.step U8.out U9.out) hb10))
      have O8c := Lib.hid (O8.out.below (Below.step U9.out hb10))
      have O9c := Lib.hid (O9.out.below hb10)
      have e1 : y = x := IsForm.one F8.out F7.out (fun q => by simp [or_comm])
      have e2 : z = x := IsForm.one (l := x ++ a) F9.out F7.out (fun q => by simp only [List.mem_append, F7.out.2]; exact ⟨fun h => h.elim id .inl, .inl⟩)
      have e3 : n = r := IsForm.one F10.out F5.out F5.out.2
      subst e1 e2 e3
      clear q10 hO10 hf10 hb10 hl10
      have k0 : W10.cell? ⟨W1.heap.size, 0, none⟩ = some (.string ⟨#[]⟩) := cell_heap (carryH N4.out T10.out)
      have k1 : W10.cell? ⟨W1.heap.size, 1, none⟩ = some (.slice p2 m.length c2) := cell_heap (carryH N4.out T10.out)
      obtain ⟨qa, hqa⟩ : ∃ o, lets (fitM a) MemD.perm m = o := ⟨_, rfl⟩
      have D1 := Lib.hid fun W (hW : Below W10.heap.size W10 W) => lsame_is (.slice p7 z.length c7) (.slice p8 z.length c8) z W (O7c.out.below hW) (O8c.out.below hW) (by omega)
      have D2 := Lib.hid fun W (hW : Below W10.heap.size W10 W) => lsame_is (.slice p7 z.length c7) (.slice p9 z.length c9) z W (O7c.out.below hW) (O9c.out.below hW) (by omega)
      have D3 := Lib.hid fun W (hW : Below W10.heap.size W10 W) => lsame_is (.slice p5 n.length c5) (.slice p10 n.length c10) n W (O5c.out.below hW) (O10.out.below hW) (by omega)
      have ST := Lib.hid (Below.step S4.out T10.out)
      have D4 := Lib.hid fun W (hW : Below W10.heap.size W10 W) => allows_is ⟨#[]⟩ (.slice p2 m.length c2) m (.slice p0 a.length c0) a W (H2.out.below (Below.step ST.out hW)) (HM2.out.below (Below.step ST.out hW)) (H0.out.below (Below.step ST.out hW)) (by omega) (by omega)
      have D5 := Lib.hid fun W (hW : Below W10.heap.size W10 W) => allows_is ⟨#[]⟩ (.slice p2 m.length c2) m (.slice p5 n.length c5) n W (H2.out.below (Below.step ST.out hW)) (HM2.out.below (Below.step ST.out hW)) (O5c.out.below hW) (by omega) (by omega)
      simp only [lets_form F5.out, hqa] at D4 D5
      have x1 : (qa != qa) = false := by simp
      have x2 : ¬ (a.length : Int) < (n.length : Int) := by have := L5.out; omega
      have x3 : ¬ a.length < n.length := by have := L5.out; omega
      have tk : W1.heap.size < W10.heap.size := (Array.getElem?_eq_some_iff.1 (carryH N4.out T10.out)).1
      clear hqa
      go_wp2_with fail
      refine wp_region_grows (by kernel_rfl) (by kernel_rfl) ?_
      refine grows_fact W1.heap.size 0 _ k0 tk fun f0 => ?_
      refine grows_fact W1.heap.size 1 _ k1 tk fun f1 => ?_
      repeat (go_big_quiet_step (first
        | (go_at_call 15; first | with_reducible exact Calls.grows_of (D1.out _ (Grows.below _)) | with_reducible exact Calls.grows_of (D2.out _ (Grows.below _)) | with_reducible exact Calls.grows_of (D3.out _ (Grows.below _)))
        | (go_at_call 16; first | with_reducible exact Calls.grows_of (D4.out _ (Grows.below _)) | with_reducible exact Calls.grows_of (D5.out _ (Grows.below _)))))
      refine wpQuiet_nil ?_
      rintro w2 ⟨⟨_, hb2⟩, rfl⟩
      have SB := Lib.hid (Below.step ST.out hb2)
      clear hb2 f0 f1 k0 k1 D1 D2 D3 D4 D5 x1
      go_wp2_with fail
      go_loopw [16] (fun vi wr => ∃ k : Nat, vi = .int .i64 k ∧ k ≤ a.length ∧ Hid (Below w.heap.size w wr)) (fun vi _ => a.length - (intOf vi).toNat)
      case atStart => exact ⟨0, rfl, Nat.zero_le _, SB⟩
      case round =>
        obtain ⟨k, rfl, hk, HB⟩ := hrel
        by_cases hlt : k < a.length
        · have hltz : (k : Int) < (a.length : Int) := by omega
          obtain ⟨x, hx⟩ : ∃ x, a[k]? = some x := ⟨_, List.getElem?_eq_getElem hlt⟩
          obtain ⟨g1, o1, rfl, g1s, d1⟩ := HQ0.out k x hx
          have hxr := HO.out x (List.mem_of_getElem? hx)
          obtain ⟨xn, rfl⟩ : ∃ xn : Nat, x = (xn : Int) := ⟨x.toNat, by omega⟩
          have hxn : xn < 4294967296 := by omega
          have e1 := d1 wr HB.out 0 _ (by rfl : (encU (xn : Int))[0]? = some (.int .u32 (xn : Int)))
          simp only [Nat.mul_one, Nat.add_zero] at e1
          have hx2 : ((xn : Int) != (xn : Int)) = false := by simp
          have D6 := Lib.hid (ltext_is xn hxn wr (HT.out.on HB.out))
          have HXN := Lib.hid hxn
          have HD := Lib.hid d1
          clear hx hxr d1 hxn
          go_wp2_with fail
          go_at_call 12
          (with_reducible refine D6.out.mono ?_)
          rintro e w3 ⟨rfl, hb3⟩
          have B3 := Lib.hid (Below.step HB.out hb3)
          clear hb3
          have hts : (⟨(txC xn).toArray⟩ : ByteArray).data.toList = txC xn := by simp
          have D7 := lparse_is ⟨(txC xn).toArray⟩ (txC_len xn HXN.out) w3 (HT.out.on B3.out) (HE.out.on B3.out)
          rw [hts, parV_tx xn HXN.out] at D7
          have D8 := Lib.hid D7
          clear D7 hts D6
          go_wp2_with fail
          go_at_call 7
          (with_reducible refine D8.out.mono ?_)
          rintro e w4 ⟨rfl, hb4⟩
          have B4 := Lib.hid (Below.step B3.out hb4)
          have e4 := HD.out w4 B4.out 0 _ (by rfl : (encU (xn : Int))[0]? = some (.int .u32 (xn : Int)))
          simp only [Nat.mul_one, Nat.add_zero] at e4
          clear hb4 e1
          simp only [show parE (some xn) = ((xn : Int), (0 : Int)) from rfl]
          go_wp2_with fail
          go_roundw
          case rel => exact ⟨k + 1, by go_num, by omega, B4⟩
          case measure => simp [intOf] <;> omega
        · have hge : ¬ (k : Int) < (a.length : Int) := by omega
          have D6 := Lib.hid (lparse_is s (Nat.le_trans b3 (by decide)) wr (HT.out.on HB.out) (HE.out.on HB.out))
          go_wp2_with fail
          go_at_call 7
          (with_reducible refine D6.out.mono ?_)
          rintro e w3 ⟨rfl, hb3⟩
          have B3 := Lib.hid (Below.step HB.out hb3)
          clear hb3
          cases hp : parV s.data.toList with
          | none =>
            simp only [show parE none = ((0 : Int), (4 : Int)) from rfl]
            clear hp D6
            go_wp2_with fail
            go_ret
            exact ⟨rfl, B3.out⟩
          | some c =>
            simp only [show parE (some c) = ((c : Int), (0 : Int)) from rfl]
            obtain ⟨ht1, ht2⟩ := parV_some hp
            have D9 := Lib.hid (ltext_is c ht2 w3 (HT.out.on B3.out))
            rw [ht1] at D9
            have k2 : (s.data.toList == s.toList) = true := by simp [ByteArray.toList_eq]
            obtain ⟨TX, hTX⟩ : ∃ x, s.data.toList = x := ⟨_, rfl⟩
            rw [hTX] at D9 k2
            clear hp D6 ht1 hTX
            go_wp2_with fail
            go_at_call 12
            (with_reducible refine D9.out.mono ?_)
            rintro e w4 ⟨rfl, hb4⟩
            have B4 := Lib.hid (Below.step B3.out hb4)
            go_wp2_with fail
            go_ret
            exact ⟨rfl, B4.out⟩
end Go.Proofs.YtkkhmdiffddllaaDoor
