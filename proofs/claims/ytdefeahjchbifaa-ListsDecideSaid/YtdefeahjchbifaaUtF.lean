/- The document's own: has a list a number, which member fits, whether it permits; a place told as the document's; are two lists the same? Under the conditions that they name. -/
import Derived.Test.YtdefeahjchbifaaUtE
namespace Go.Proofs.Ytdefeahjchbifaa
open Go.Shelf Go.RowKit Go.Lib
theorem hasAll_step {l xs : List Int} {k : Nat} {c : Int} (hk : xs[k]? = some c) : hasAll l (xs.take (k + 1)) = (hasAll l (xs.take k) && decide (c ∈ l)) := by
  unfold hasAll
  rw [List.take_add_one, hk]
  simp [List.all_append]
set_option maxRecDepth 100000 in
theorem has_is (v : Value) (l : List Int) (c : Int) (w : World) (hv : RdK encU 1 w v l) (hl : l.length ≤ 35184372087808) : Calls Try.prog 29 #[v, .int .u32 c] w fun e w' => e = .returned (.bool (decide (c ∈ l))) ∧ w' = w := by
  obtain ⟨p, cp, rfl, h2, h3, h4⟩ := hv.sl
  have H4 := Lib.hid h4
  obtain ⟨t, ht⟩ : ∃ t, decide (c ∈ l) = t := ⟨_, rfl⟩
  have HT := Lib.hid ht
  rw [ht]
  clear h4 hv h2 h3 ht
  go_enter Try.func29, Try.ntmps29
  go_wp2
  go_loopw [5] (fun vi wr => ∃ k : Nat, vi = .int .i64 k ∧ k ≤ l.length ∧ Hid (wr = w) ∧ Hid (∀ (t : Nat) (x : Int), t < k → l[t]? = some x → x ≠ c)) (fun vi _ => l.length - (intOf vi).toNat)
  case atStart => exact ⟨0, rfl, Nat.zero_le _, Lib.hid rfl, Lib.hid fun t x ht => absurd ht (Nat.not_lt_zero _)⟩
  case round =>
    obtain ⟨k, rfl, hk, HW, HA⟩ := hrel
    by_cases hlt : k < l.length
    · have hltz : (k : Int) < (l.length : Int) := by omega
      obtain ⟨x, hx⟩ : ∃ x, l[k]? = some x := ⟨_, List.getElem?_eq_getElem hlt⟩
      obtain ⟨b1, o1, rfl, g1, c1⟩ := H4.out k x hx
      have e1 := c1 wr (by rw [HW.out]; exact Below.refl _ _) 0 _ (by rfl : (encU x)[0]? = some (.int .u32 x))
      simp only [Nat.mul_one, Nat.add_zero] at e1
      have HX := Lib.hid hx
      clear c1 hx
      by_cases e : x = c
      · subst e
        have ht : (x == x) = true := by simp
        go_wp2
        go_ret
        exact ⟨by rw [← HT.out, decide_eq_true (List.mem_of_getElem? HX.out)]; rfl, HW.out⟩
      · have ht : (x == c) = false := by simpa using e
        have HE := Lib.hid e
        clear e
        go_wp2
        go_roundw
        case rel => exact ⟨k + 1, by go_num, by omega, HW, Lib.hid fun t y ht hy => by
          by_cases e : t = k
          · subst e; rw [HX.out] at hy; cases hy; exact HE.out
          · exact HA.out t y (by omega) hy⟩
        case measure => simp [intOf] <;> omega
    · have hge : ¬ (k : Int) < (l.length : Int) := by omega
      go_wp2
      go_ret
      exact ⟨by rw [← HT.out, decide_eq_false (fun hm => by
        obtain ⟨t, h⟩ := List.mem_iff_getElem?.1 hm
        exact HA.out t c (by have := (List.getElem?_eq_some_iff.1 h).1; omega) h rfl)]; rfl, HW.out⟩
set_option maxRecDepth 100000 in
set_option maxHeartbeats 1000000 in
theorem rmember_is (nm : ByteArray) (v : Value) (es : List MemD) (vq : Value) (cs : List Int) (w : World) (hv : RdK encM 2 w v es) (ho : OkM w es) (hq : RdK encU 1 w vq cs) (hc : cs.length ≤ 35184372087808) (hl : es.length ≤ 35184372087808) : Calls Try.prog 9 #[.agg #[.string nm, v], vq] w fun e w' =>
    e = .returned (.int .i64 (outR (fstI (fitM cs) es))) ∧ Below w.heap.size w w' := by
  obtain ⟨vp, vc, hvv, g2, g3, h4⟩ := hv.sl
  obtain ⟨W1, hW1⟩ : ∃ X, w.alloc (.cells #[.string nm, v] 32) = X := ⟨_, rfl⟩
  have z1 : W1.heap.size = w.heap.size + 1 := by rw [← hW1]; simp
  have B1 : Hid (Below w.heap.size w W1) := Lib.hid (by rw [← hW1]; exact (Below.refl _ _).alloc (Nat.le_refl _) _)
  have HA : Hid (W1.heap[w.heap.size]? = some (.cells #[.string nm, v] 32 (0, 0))) := Lib.hid (heap_alc hW1)
  have gt : w.heap.size < W1.heap.size := by rw [z1]; exact Nat.lt_succ_self _
  obtain ⟨a0, a1⟩ : W1.cell? ⟨w.heap.size, 0, none⟩ = some (.string nm) ∧ W1.cell? ⟨w.heap.size, 1, none⟩ = some v := ⟨cell_heap HA.out, cell_heap HA.out⟩
  have H4 := Lib.hid h4
  obtain ⟨q, hq2⟩ : ∃ q, outR (fstI (fitM cs) es) = q := ⟨_, rfl⟩
  have HQ := Lib.hid hq2
  rw [hq2]
  have HO := Lib.hid (ho.below B1.out)
  have HC := Lib.hid fun c W (hW : Below W1.heap.size W1 W) => has_is vq cs c W ((hq.below B1.out).below hW) hc
  obtain ⟨qp, qc, rfl, _⟩ := hq.sl
  subst hvv
  clear hv ho hq hq2 h4 g2 g3 hc
  go_enter Try.func9, Try.ntmps9
  go_wp2
  go_loopw [5] (fun vi wr => ∃ k : Nat, vi = .int .i64 k ∧ k ≤ es.length ∧ Hid (Below W1.heap.size W1 wr) ∧ Hid (∀ (t : Nat) (y : MemD), t < k → es[t]? = some y → fitM cs y = false)) (fun vi _ => es.length - (intOf vi).toNat)
  case atStart => exact ⟨0, rfl, Nat.zero_le _, Lib.hid (Below.refl _ _), Lib.hid fun t y ht => absurd ht (Nat.not_lt_zero _)⟩
  case round =>
    obtain ⟨k, rfl, hk, HL, HF⟩ := hrel
    have BL := Lib.hid (Below.step B1.out HL.out)
    have HA3 := Lib.hid (carryH HA.out HL.out)
    have a3 : wr.cell? ⟨w.heap.size, 1, none⟩ = some (.slice vp es.length vc) := cell_heap HA3.out
    by_cases hlt : k < es.length
    · have hltz : (k : Int) < (es.length : Int) := by omega
      obtain ⟨s, hs⟩ : ∃ s, es[k]? = some s := ⟨_, List.getElem?_eq_getElem hlt⟩
      obtain ⟨b, o, rfl, hbs, hc⟩ := H4.out k s hs
      have HCC := Lib.hid hc
      have hc := hc wr BL.out
      have HS := Lib.hid hs
      obtain ⟨hok, hml⟩ := HO.out s (List.mem_of_getElem? hs)
      obtain ⟨r, hr⟩ : ∃ r, fitM cs s = r := ⟨_, rfl⟩
      have HRr := Lib.hid hr
      have c1 : wr.cell? ⟨b, o + k * 2 + 1, none⟩ = some (.slice s.p s.all.length s.c) := hc 1 _ rfl
      obtain ⟨mp, mc, hme, _, _, m4⟩ := hok.sl
      have M4 := Lib.hid m4
      have HMe := Lib.hid hme
      clear hc hs hr m4 hok hme
      obtain ⟨pm, sp, sc, al⟩ := s
      simp only at c1 hml M4 HMe HRr
      cases HMe.out
      have HCC : Hid (∀ w', Below w.heap.size w w' → ∀ j u, (encM ⟨pm, mp, mc, al⟩)[j]? = some u → w'.cell? ⟨b, o + k * 2 + j, none⟩ = some u) := HCC
      go_wp2
      go_loopw [6, 7] (fun va vi wx => ∃ (j : Nat) (A : Bool), va = .bool A ∧ vi = .int .i64 j ∧ j ≤ al.length ∧ Hid (Below wr.heap.size wr wx) ∧ Hid (hasAll cs (al.take j) = A)) (fun _ vi _ => al.length - (intOf vi).toNat)
      case atStart => exact ⟨0, true, rfl, rfl, Nat.zero_le _, Lib.hid (Below.refl _ _), Lib.hid (by simp [hasAll])⟩
      case round =>
        obtain ⟨j, A, rfl, rfl, hj, HX, HA2⟩ := hrel
        have BX1 := Lib.hid (Below.step HL.out HX.out)
        have BX := Lib.hid (Below.step BL.out HX.out)
        have HA4 := Lib.hid (carryH HA.out BX1.out)
        have a4 : wr.cell? ⟨w.heap.size, 1, none⟩ = some (.slice (some ⟨b, o, none⟩) es.length vc) := cell_heap HA4.out
        have d1 : wr.cell? ⟨b, o + k * 2 + 1, none⟩ = some (.slice mp al.length mc) := HCC.out wr BX.out 1 _ rfl
        by_cases hjt : j < al.length
        · have hjtz : (j : Int) < (al.length : Int) := by omega
          obtain ⟨c, hcj⟩ : ∃ c, al[j]? = some c := ⟨_, List.getElem?_eq_getElem hjt⟩
          obtain ⟨b2, o2, rfl, hb2, hc2⟩ := M4.out j c hcj
          have e2 := hc2 wr BX1.out 0 _ (by rfl : (encU c)[0]? = some (.int .u32 c))
          simp only [Nat.mul_one, Nat.add_zero] at e2
          have HST := Lib.hid (hasAll_step (l := cs) hcj)
          obtain ⟨t, ht⟩ : ∃ t, decide (c ∈ cs) = t := ⟨_, rfl⟩
          have CH := Lib.hid (HC.out c wr BX1.out)
          rw [ht] at CH HST
          clear hc2 hcj ht
          cases A with
          | false =>
            go_wp2_with fail
            go_roundw
            case rel => exact ⟨j + 1, false, rfl, by go_num, by omega, HX, Lib.hid (by rw [HST.out, HA2.out]; rfl)⟩
            case measure => simp [intOf] <;> omega
          | true =>
            go_wp2_with (first | (go_at_call 29; refine CH.out.mono ?_; rintro e w1 ⟨rfl, rfl⟩))
            go_roundw
            case rel => exact ⟨j + 1, t, rfl, by go_num, by omega, HX, Lib.hid (by rw [HST.out, HA2.out]; rfl)⟩
            case measure => simp [intOf] <;> omega
        · have hge : ¬ (j : Int) < (al.length : Int) := by omega
          have hA : A = r := by rw [← HA2.out, ← HRr.out, List.take_of_length_le (by omega)]; rfl
          subst hA
          cases A with
          | true =>
            go_wp2
            go_ret
            have e1 : fstI (fitM cs) es = some k := fstI_hit HS.out HRr.out HF.out
            exact ⟨by rw [← HQ.out, e1]; rfl, BX.out⟩
          | false =>
            go_wp2
            go_roundw
            case rel => exact ⟨k + 1, by go_num, by omega, BX1, Lib.hid fun t y ht hy => by
              by_cases e : t = k
              · subst e; rw [HS.out] at hy; cases hy; exact HRr.out
              · exact HF.out t y (by omega) hy⟩
            case measure => simp [intOf] <;> omega
    · have hge : ¬ (k : Int) < (es.length : Int) := by omega
      go_wp2
      go_ret
      have e1 : fstI (fitM cs) es = none := fstI_none fun t y hy => HF.out t y (by have := (List.getElem?_eq_some_iff.1 hy).1; omega) hy
      exact ⟨by rw [← HQ.out, e1]; rfl, BL.out⟩
set_option maxRecDepth 100000 in
set_option maxHeartbeats 1000000 in
theorem rallows_is (nm : ByteArray) (v : Value) (es : List MemD) (vq : Value) (cs : List Int) (w : World) (hv : RdK encM 2 w v es) (ho : OkM w es) (hq : RdK encU 1 w vq cs) (hc : cs.length ≤ 35184372087808) (hl : es.length ≤ 35184372087808) : Calls Try.prog 13 #[.agg #[.string nm, v], vq] w fun e w' =>
    e = .returned (.bool (lets (fitM cs) MemD.perm es)) ∧ Below w.heap.size w w' := by
  obtain ⟨vp, vc, hvv, g2, g3, h4⟩ := hv.sl
  obtain ⟨W1, hW1⟩ : ∃ X, w.alloc (.cells #[.string nm, v] 32) = X := ⟨_, rfl⟩
  have z1 : W1.heap.size = w.heap.size + 1 := by rw [← hW1]; simp
  have B1 : Hid (Below w.heap.size w W1) := Lib.hid (by rw [← hW1]; exact (Below.refl _ _).alloc (Nat.le_refl _) _)
  have HA : Hid (W1.heap[w.heap.size]? = some (.cells #[.string nm, v] 32 (0, 0))) := Lib.hid (heap_alc hW1)
  have gt : w.heap.size < W1.heap.size := by rw [z1]; exact Nat.lt_succ_self _
  obtain ⟨a0, a1⟩ : W1.cell? ⟨w.heap.size, 0, none⟩ = some (.string nm) ∧ W1.cell? ⟨w.heap.size, 1, none⟩ = some v := ⟨cell_heap HA.out, cell_heap HA.out⟩
  have H4 := Lib.hid h4
  have C := Lib.hid (rmember_is nm v es vq cs W1 (hv.below B1.out) (ho.below B1.out) (hq.below B1.out) hc hl)
  clear hv ho hq hc h4 g2 g3
  cases hf : fstI (fitM cs) es with
  | none =>
    have hr : lets (fitM cs) MemD.perm es = false := by simp [lets, hf]
    have C2 : Hid (Calls Try.prog 9 #[.agg #[.string nm, v], vq] W1 fun e w' => e = .returned (.int .i64 (-1)) ∧ Below W1.heap.size W1 w') := Lib.hid (by have c := C.out; rw [hf] at c; exact c)
    rw [hr]
    clear C hf hr
    subst hvv
    go_enter Try.func13, Try.ntmps13
    go_wp2_with fail
    go_at_call 9
    (with_reducible refine C2.out.mono ?_)
    rintro e W3 ⟨rfl, hb3⟩
    have B3 : Hid (Below w.heap.size w W3) := Lib.hid (Below.step B1.out hb3)
    have HA3 := Lib.hid (carryH HA.out hb3)
    have a3 : W3.cell? ⟨w.heap.size, 1, none⟩ = some (.slice vp es.length vc) := cell_heap HA3.out
    clear hb3
    go_wp2
    go_ret
    exact ⟨rfl, B3.out⟩
  | some k =>
    obtain ⟨y, hy, _⟩ := fstI_some hf
    have hr : lets (fitM cs) MemD.perm es = y.perm := by simp [lets, hf, hy]
    obtain ⟨b, o, rfl, hbs, hc⟩ := H4.out k y hy
    have HC := Lib.hid hc
    have hk := (List.getElem?_eq_some_iff.1 hy).1
    have hkz : (k : Int) < (es.length : Int) := by omega
    have hkn : ¬ (k : Int) < 0 := by omega
    have hkp : (0 : Int) ≤ (k : Int) := by omega
    clear hc hy
    have C2 : Hid (Calls Try.prog 9 #[.agg #[.string nm, v], vq] W1 fun e w' => e = .returned (.int .i64 ((k : Nat) : Int)) ∧ Below W1.heap.size W1 w') := Lib.hid (by have c := C.out; rw [hf] at c; exact c)
    rw [hr]
    clear C hf hr
    subst hvv
    go_enter Try.func13, Try.ntmps13
    go_wp2_with fail
    go_at_call 9
    (with_reducible refine C2.out.mono ?_)
    rintro e W3 ⟨rfl, hb3⟩
    have B3 : Hid (Below w.heap.size w W3) := Lib.hid (Below.step B1.out hb3)
    have HA3 := Lib.hid (carryH HA.out hb3)
    have a3 : W3.cell? ⟨w.heap.size, 1, none⟩ = some (.slice (some ⟨b, o, none⟩) es.length vc) := cell_heap HA3.out
    clear hb3
    have c0 : W3.cell? ⟨b, o + k * 2, none⟩ = some (.bool y.perm) := HC.out W3 B3.out 0 _ rfl
    go_wp2
    go_ret
    exact ⟨rfl, B3.out⟩
set_option maxRecDepth 100000 in
/-- A place is told as the document's is. -/
theorem place_is (o : Option Nat) (w : World) : Calls Try.prog 7 #[.int .i64 (outI o).1, .bool (outI o).2, .int .i64 (outR o)] w fun e w' => e = .returned (.bool true) ∧ w' = w := by
  cases o with
  | none =>
    simp only [outI, outR]
    go_enter Try.func7, Try.ntmps7
    go_wp2
    go_ret
    exact ⟨rfl, rfl⟩
  | some k =>
    simp only [outI, outR]
    have h0 : (0 : Int) ≤ (k : Int) := by omega
    have h1 : max (k : Int) 0 = (k : Int) := by omega
    have h2 : ((k : Int) == (k : Int)) = true := by simp
    go_enter Try.func7, Try.ntmps7
    go_wp2
    go_ret
    exact ⟨rfl, rfl⟩
set_option maxRecDepth 100000 in
theorem same_is (va vb : Value) (l : List Int) (w : World) (ha : RdK encU 1 w va l) (hb : RdK encU 1 w vb l) (hl : l.length ≤ 35184372087808) : Calls Try.prog 14 #[va, vb] w fun e w' => e = .returned (.bool true) ∧ Below w.heap.size w w' := by
  obtain ⟨p, cp, rfl, h2, h3, h4⟩ := ha.sl
  obtain ⟨q, cq, rfl, h5, h6, h7⟩ := hb.sl
  have H4 := Lib.hid h4
  have H7 := Lib.hid h7
  clear h4 h7 ha hb h2 h3 h5 h6
  have hnn : ((l.length : Int) != (l.length : Int)) = false := by simp
  go_enter Try.func14, Try.ntmps14
  go_wp2
  go_loopw [5] (fun vi wr => ∃ k : Nat, vi = .int .i64 k ∧ k ≤ l.length ∧ Hid (Below w.heap.size w wr)) (fun vi _ => l.length - (intOf vi).toNat)
  case atStart => exact ⟨0, rfl, Nat.zero_le _, Lib.hid (Below.refl _ _)⟩
  case round =>
    obtain ⟨k, rfl, hk, HB⟩ := hrel
    by_cases hlt : k < l.length
    · have hltz : (k : Int) < (l.length : Int) := by omega
      obtain ⟨x, hx⟩ : ∃ x, l[k]? = some x := ⟨_, List.getElem?_eq_getElem hlt⟩
      obtain ⟨b1, o1, rfl, g1, c1⟩ := H4.out k x hx
      obtain ⟨b2, o2, rfl, g2, c2⟩ := H7.out k x hx
      have e1 := c1 wr HB.out 0 _ (by rfl : (encU x)[0]? = some (.int .u32 x))
      have e2 := c2 wr HB.out 0 _ (by rfl : (encU x)[0]? = some (.int .u32 x))
      simp only [Nat.mul_one, Nat.add_zero] at e1 e2
      have ht : (x != x) = false := by simp
      have q1 : b1 < wr.heap.size := Nat.lt_of_lt_of_le g1 HB.out.size
      have q2 : b2 < wr.heap.size := Nat.lt_of_lt_of_le g2 HB.out.size
      clear c1 c2 hx
      go_wp2_with fail
      refine wp_region_grows (by kernel_rfl) (by kernel_rfl) ?_
      refine grows_fact b1 (o1 + k) _ e1 q1 fun f0 => ?_
      refine grows_fact b2 (o2 + k) _ e2 q2 fun f1 => ?_
      repeat (go_big_quiet_step (fail))
      refine wpQuiet_nil ?_
      rintro w2 ⟨⟨_, hb2⟩, rfl⟩
      have K1 := Lib.hid (Below.step HB.out hb2)
      clear hb2 f0 f1 e1 e2
      go_wp2
      go_roundw
      case rel => exact ⟨k + 1, by go_num, by omega, K1⟩
      case measure => simp [intOf] <;> omega
    · have hge : ¬ (k : Int) < (l.length : Int) := by omega
      go_wp2
      go_ret
      exact ⟨rfl, HB.out⟩
end Go.Proofs.Ytdefeahjchbifaa
