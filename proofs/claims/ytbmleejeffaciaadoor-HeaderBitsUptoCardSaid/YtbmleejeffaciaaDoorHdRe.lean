/- What Next of package waymarkref03 hands back, and that package header's is the same. Under the condition that the fields are what their types hold. -/
import Derived.Test.YtbmleejeffaciaaDoorHdRd
namespace Go.Proofs.YtbmleejeffaciaaDoor
open Go.RowKit
/-- What Next hands back, of a header's number. -/
def nextV (N : Nat) : Value := if N + 1 = 2 ^ 104 then .tuple #[.agg #[.int .u32 0, .int .u32 0, .int .u8 0, .int .u16 0, .int .u16 0], .int .i64 5] else .tuple #[hdrN (N + 1), .int .i64 0]
theorem next_v {l : List Int} (h : B13 l) {w w' : World} {e : Ending} (hn : NextPost l w e w') : e = .returned (nextV (V l)) := by
  rcases hn.2 with ⟨k, q, y, hk, hq, hf, hy, y0, y1, rfl⟩ | ⟨hall, rfl⟩
  · have hv := V_next h hk hq hf hy y0
    have h13 := nx_13 h hk hq (y := y + 1) (by omega) (by omega)
    have hlt := V_lt104 h13
    unfold nextV
    rw [if_neg (by omega), ← hv, hdrN_V h13]
  · have h1 := fulls_of h.len hall
    have hf := V_fulls 13
    unfold nextV
    rw [if_pos (by rw [h1]; exact hf)]
/-- Bits whose last c are cleared. -/
def nxb (N c : Nat) : List Bool := (List.range 104).map fun j => if 104 - c ≤ j then false else bt N j
theorem nxb_at (N c j : Nat) (h : j < 104) : (nxb N c)[j]? = some (if 104 - c ≤ j then false else bt N j) := by
  simp [nxb, List.getElem?_map, List.getElem?_range h]
theorem nxb_len (N c : Nat) : (nxb N c).length = 104 := by simp [nxb]
theorem nxb_0 (N : Nat) : nxb N 0 = bl N := by
  apply List.ext_getElem?
  intro j
  by_cases hj : j < 104
  · rw [nxb_at _ _ _ hj, bl_at _ _ hj, if_neg (by omega)]
  · rw [List.getElem?_eq_none (by rw [nxb_len]; omega), List.getElem?_eq_none (by rw [bl_len]; omega)]
theorem nxb_clear (N c : Nat) (hc : c < 104) : (nxb N c).set (103 - c) false = nxb N (c + 1) := by
  apply List.ext_getElem?
  intro j
  by_cases hj : j < 104
  · rw [nxb_at _ _ _ hj, List.getElem?_set]
    by_cases e : 103 - c = j
    · rw [if_pos e, if_pos (by rw [nxb_len]; omega), if_pos (by omega)]
    · rw [if_neg e, nxb_at _ _ _ hj]
      by_cases e2 : 104 - c ≤ j
      · rw [if_pos e2, if_pos (by omega)]
      · rw [if_neg e2, if_neg (by omega)]
  · rw [List.getElem?_eq_none (by rw [List.length_set, nxb_len]; omega), List.getElem?_eq_none (by rw [nxb_len]; omega)]
theorem ones_more {N c : Nat} (h : N % 2 ^ c = 2 ^ c - 1) (hb : N / 2 ^ c % 2 = 1) : N % 2 ^ (c + 1) = 2 ^ (c + 1) - 1 := by
  have hp : 0 < 2 ^ c := Nat.pow_pos (by omega)
  rw [Nat.pow_succ, Nat.mod_mul, h, hb]
  omega
theorem bt_next {N c : Nat} (h : N % 2 ^ c = 2 ^ c - 1) (hb : N / 2 ^ c % 2 = 0) (hc : c < 104) : (nxb N c).set (103 - c) true = bl (N + 1) := by
  have hp : 0 < 2 ^ c := Nat.pow_pos (by omega)
  have hN : N + 1 = 2 ^ c * (N / 2 ^ c + 1) := by
    have := Nat.div_add_mod N (2 ^ c)
    rw [Nat.mul_add, Nat.mul_one]; omega
  obtain ⟨K, hK⟩ : ∃ K, N / 2 ^ c = K := ⟨_, rfl⟩
  rw [hK] at hb hN
  apply List.ext_getElem?
  intro j
  by_cases hj : j < 104
  · rw [bl_at _ _ hj, List.getElem?_set]
    by_cases e : 103 - c = j
    · rw [if_pos e, if_pos (by rw [nxb_len]; omega)]
      unfold bt
      rw [show 103 - j = c by omega, hN, Nat.mul_div_cancel_left _ hp]
      simp; omega
    · rw [if_neg e, nxb_at _ _ _ hj]
      by_cases e2 : 104 - c ≤ j
      · rw [if_pos e2]
        unfold bt
        obtain ⟨t, ht⟩ : ∃ t, c = (103 - j) + (t + 1) := ⟨c - (103 - j) - 1, by omega⟩
        have hq : 0 < 2 ^ (103 - j) := Nat.pow_pos (by omega)
        have e3 : N + 1 = 2 ^ (103 - j) * (2 * (2 ^ t * (K + 1))) := by
          rw [hN]
          conv => lhs; rw [ht, Nat.pow_add, Nat.pow_succ]
          rw [Nat.mul_assoc, Nat.mul_assoc (2 ^ t), Nat.mul_left_comm (2 ^ t) 2]
        rw [e3, Nat.mul_div_cancel_left _ hq, Nat.mul_mod_right]
        simp
      · rw [if_neg e2]
        unfold bt
        obtain ⟨t, ht⟩ : ∃ t, 103 - j = c + (t + 1) := ⟨103 - j - c - 1, by omega⟩
        have e3 : N / 2 ^ (103 - j) = K / 2 / 2 ^ t := by
          rw [ht, Nat.pow_add, ← Nat.div_div_eq_div_mul, hK, Nat.pow_succ, Nat.mul_comm (2 ^ t) 2, ← Nat.div_div_eq_div_mul]
        have e4 : (N + 1) / 2 ^ (103 - j) = (K + 1) / 2 / 2 ^ t := by
          rw [hN, ht, Nat.pow_add, Nat.mul_div_mul_left _ _ hp, Nat.pow_succ, Nat.mul_comm (2 ^ t) 2, ← Nat.div_div_eq_div_mul]
        rw [e3, e4, show (K + 1) / 2 = K / 2 by omega]
  · rw [List.getElem?_eq_none (by rw [List.length_set, nxb_len]; omega), List.getElem?_eq_none (by rw [bl_len]; omega)]
set_option maxRecDepth 100000 in
set_option maxHeartbeats 4000000 in
theorem nextR_is (s d p sp dp : Int) (w : World) (h : Hdr s d p sp dp) :
    Calls Tryd.prog 18 #[.agg #[.int .u32 s, .int .u32 d, .int .u8 p, .int .u16 sp, .int .u16 dp]] w fun e w' => e = .returned (nextV (V (byL s d p sp dp))) ∧ Below w.heap.size w w' := by
  have HB : Hid (∀ W, Calls Tryd.prog 30 #[.agg #[.int .u32 s, .int .u32 d, .int .u8 p, .int .u16 sp, .int .u16 dp]] W fun e w' => ∃ v, e = .returned v ∧ w'.ownsRow W.heap.size 4 1 v 104 ((bl (V (byL s d p sp dp))).map .bool) ∧ Below W.heap.size W w') := Lib.hid fun W => bits_is s d p sp dp W h
  have hlt := V_lt104 (byL_13 h)
  clear h
  generalize V (byL s d p sp dp) = N at *
  have HLT := Lib.hid hlt
  obtain ⟨f0, f1, f2, f3, f4, hf⟩ : ∃ f0 f1 f2 f3 f4 : Int, hdrN (N + 1) = .agg #[.int .u32 f0, .int .u32 f1, .int .u8 f2, .int .u16 f3, .int .u16 f4] := ⟨_, _, _, _, _, rfl⟩
  have HF := Lib.hid hf
  obtain ⟨Z, hZ⟩ : ∃ Z, (w.alloc (.cells #[.int .u32 s, .int .u32 d, .int .u8 p, .int .u16 sp, .int .u16 dp] 27)).alloc (.cells #[.int .u32 0, .int .u32 0, .int .u8 0, .int .u16 0, .int .u16 0] 27) = Z := ⟨_, rfl⟩
  have hb0 : Below w.heap.size w Z := by rw [← hZ]; exact ((Below.refl _ _).alloc (Nat.le_refl _) _).alloc (by simp) _
  have hRZ : Z.heap[w.heap.size + 1]? = some (.cells #[.int .u32 0, .int .u32 0, .int .u8 0, .int .u16 0, .int .u16 0] 27 (0, 0)) := by rw [← hZ]; exact heap_alloc2_new w _ _
  have hAZ : Z.heap[w.heap.size]? = some (.cells #[.int .u32 s, .int .u32 d, .int .u8 p, .int .u16 sp, .int .u16 dp] 27 (0, 0)) := by rw [← hZ]; exact heap_alloc2_old w _ _
  have hz1 : w.heap.size + 1 < Z.heap.size := (Array.getElem?_eq_some_iff.1 hRZ).1
  have HB0 := Lib.hid hb0; have HRZ := Lib.hid hRZ
  obtain ⟨k0, kf0⟩ := row_cell' (j := 0) hAZ rfl
  obtain ⟨k1, kf1⟩ := row_cell' (j := 1) hAZ rfl
  obtain ⟨k2, kf2⟩ := row_cell' (j := 2) hAZ rfl
  obtain ⟨k3, kf3⟩ := row_cell' (j := 3) hAZ rfl
  obtain ⟨k4, kf4⟩ := row_cell' (j := 4) hAZ rfl
  clear hb0 hRZ hAZ hlt hf
  go_enter Tryd.func18, Tryd.ntmps18
  go_wp2_with fail
  go_at_call 30
  (with_reducible refine (HB.out _).mono ?_)
  rintro e w1 ⟨v, rfl, hown, hb1⟩
  obtain ⟨g, cap, rfl, hg, hBa⟩ := bools_of hown
  clear k0 k1 k2 k3 k4 kf0 kf1 kf2 kf3 kf4 hown
  rw [← nxb_0] at hBa
  go_wp2_with fail
  go_loopw [5] (fun s5 wr => ∃ c : Nat, c ≤ 104 ∧ s5 = .int .i64 (103 - (c : Int)) ∧ N % 2 ^ c = 2 ^ c - 1 ∧ Bools wr g (nxb N c) ∧ Below Z.heap.size Z wr) (fun s5 _ => (1 + intOf s5).toNat)
  case atStart => exact ⟨0, by omega, by simp, by simp [Nat.mod_one], hBa, hb1⟩
  case round =>
    obtain ⟨c, hc, rfl, hones, hBc, hbr⟩ := hrel
    have HO := Lib.hid hones
    clear hones
    by_cases hlt : c < 104
    · have hc0 : (c : Int) ≤ 103 := by omega
      obtain ⟨y, hy⟩ : ∃ y, bt N (103 - c) = y := ⟨_, rfl⟩
      obtain ⟨u0, uf0⟩ := hBc.cell ((nxb_at N c (103 - c) (by omega)).trans (congrArg some ((if_neg (by omega)).trans hy)))
      unfold bt at hy
      rw [show 103 - (103 - c) = c by omega] at hy
      cases y with
      | false =>
        have hb2 : Below Z.heap.size Z (wr.setCell ⟨g, 103 - c, none⟩ (.bool true)) := hbr.setCell hg _
        have hset := hBc.set (j := 103 - c) (b := true)
        have hbit : N / 2 ^ c % 2 = 0 := by have := of_decide_eq_false hy; omega
        rw [bt_next HO.out hbit hlt] at hset
        have HN : Hid (nextV N = .tuple #[.agg #[.int .u32 f0, .int .u32 f1, .int .u8 f2, .int .u16 f3, .int .u16 f4], .int .i64 0]) := Lib.hid (by
          unfold nextV
          rw [if_neg, HF.out]
          intro hN
          have h1 := HO.out
          have h2 : N = 2 ^ 104 - 1 := by omega
          rw [h2] at hbit
          have e : (2 : Nat) ^ 104 - 1 = 2 ^ c * (2 ^ (104 - c) - 1) + (2 ^ c - 1) := by
            have h3 : (2 : Nat) ^ 104 = 2 ^ c * 2 ^ (104 - c) := by rw [← Nat.pow_add]; congr 1; omega
            have h4 : 0 < 2 ^ (104 - c) := Nat.pow_pos (by omega)
            have h5 : 0 < 2 ^ c := Nat.pow_pos (by omega)
            rw [h3, Nat.mul_sub, Nat.mul_one]
            have h6 : 2 ^ c ≤ 2 ^ c * 2 ^ (104 - c) := Nat.le_mul_of_pos_right _ h4
            omega
          have h5 : 0 < 2 ^ c := Nat.pow_pos (by omega)
          rw [e, Nat.mul_add_div h5, Nat.div_eq_of_lt (show 2 ^ c - 1 < 2 ^ c by omega), Nat.add_zero] at hbit
          obtain ⟨t, ht⟩ : ∃ t, 104 - c = t + 1 := ⟨103 - c, by omega⟩
          have h7 : 0 < 2 ^ t := Nat.pow_pos (by omega)
          rw [ht, Nat.pow_succ] at hbit
          omega)
        clear hy hbit hc
        go_wp2_with fail
        go_at_call 31
        refine (ofbits_is (N + 1) g cap _ hset.lt (fun j hj => (hset.cell (bl_at (N + 1) j hj)).1)).mono ?_
        rw [HF.out]
        rintro e w3 ⟨rfl, hb3⟩
        have hb03 := Below.step hb2 hb3
        have hR3 := (hb03.block _ hz1).trans HRZ.out
        have HR3 := Lib.hid hR3
        obtain ⟨r0, rf0⟩ := row_cell' (j := 0) hR3 rfl
        obtain ⟨r1, rf1⟩ := row_cell' (j := 1) hR3 rfl
        obtain ⟨r2, rf2⟩ := row_cell' (j := 2) hR3 rfl
        obtain ⟨r3, rf3⟩ := row_cell' (j := 3) hR3 rfl
        obtain ⟨r4, rf4⟩ := row_cell' (j := 4) hR3 rfl
        clear hR3
        go_wp2_with fail
        have hfin := set5 (m0 := f0) (m1 := f1) (m2 := f2) (m3 := f3) (m4 := f4) HR3.out
        have hbf : Below w.heap.size w (((((w3.setCell ⟨w.heap.size + 1, 0, none⟩ (.int .u32 f0)).setCell ⟨w.heap.size + 1, 1, none⟩ (.int .u32 f1)).setCell ⟨w.heap.size + 1, 2, none⟩ (.int .u8 f2)).setCell ⟨w.heap.size + 1, 3, none⟩ (.int .u16 f3)).setCell ⟨w.heap.size + 1, 4, none⟩ (.int .u16 f4)) := by
          repeat refine Below.setCell ?_ (by simp) _
          exact Below.step HB0.out hb03
        obtain ⟨W9, hW9⟩ : ∃ W9, (((((w3.setCell ⟨w.heap.size + 1, 0, none⟩ (.int .u32 f0)).setCell ⟨w.heap.size + 1, 1, none⟩ (.int .u32 f1)).setCell ⟨w.heap.size + 1, 2, none⟩ (.int .u8 f2)).setCell ⟨w.heap.size + 1, 3, none⟩ (.int .u16 f3)).setCell ⟨w.heap.size + 1, 4, none⟩ (.int .u16 f4)) = W9 := ⟨_, rfl⟩
        rw [hW9] at hfin hbf ⊢
        clear hW9
        obtain ⟨e0, ef0⟩ := row_cell' (j := 0) hfin rfl
        obtain ⟨e1, ef1⟩ := row_cell' (j := 1) hfin rfl
        obtain ⟨e2, ef2⟩ := row_cell' (j := 2) hfin rfl
        obtain ⟨e3, ef3⟩ := row_cell' (j := 3) hfin rfl
        obtain ⟨e4, ef4⟩ := row_cell' (j := 4) hfin rfl
        exact bodyPost_ret (v := .tuple #[.agg #[.int .u32 f0, .int .u32 f1, .int .u8 f2, .int .u16 f3, .int .u16 f4], .int .i64 0]) (by simp [results, Tryd.results18, go_sem, e0, e1, e2, e3, e4]) rfl ⟨by rw [HN.out], hbf⟩
      | true =>
        have hset := hBc.set (j := 103 - c) (b := false)
        have HS : Hid (nxb N (c + 1) = (nxb N c).set (103 - c) false) := Lib.hid (nxb_clear N c hlt).symm
        have HO2 := Lib.hid (ones_more HO.out (of_decide_eq_true hy))
        clear hy
        go_wp2_with fail
        go_roundw
        case rel =>
          have hv : Value.int .i64 (103 - (c : Int) - 1) = .int .i64 (103 - ((c + 1 : Nat) : Int)) := congrArg (Value.int .i64) (by omega)
          exact ⟨c + 1, by omega, hv, HO2.out, by rw [HS.out]; exact hset, hbr.setCell hg _⟩
        case measure => first | (simp [intOf]; done) | (simp [intOf]; omega)
    · obtain rfl : c = 104 := by omega
      have HN : Hid (nextV N = .tuple #[.agg #[.int .u32 0, .int .u32 0, .int .u8 0, .int .u16 0, .int .u16 0], .int .i64 5]) := Lib.hid (by
        have h1 := HO.out
        have h2 := HLT.out
        rw [Nat.mod_eq_of_lt h2] at h1
        unfold nextV
        rw [if_pos (by omega)])
      clear hlt
      have hR3 := (hbr.block _ hz1).trans HRZ.out
      have HR3 := Lib.hid hR3
      obtain ⟨r0, rf0⟩ := row_cell' (j := 0) hR3 rfl
      obtain ⟨r1, rf1⟩ := row_cell' (j := 1) hR3 rfl
      obtain ⟨r2, rf2⟩ := row_cell' (j := 2) hR3 rfl
      obtain ⟨r3, rf3⟩ := row_cell' (j := 3) hR3 rfl
      obtain ⟨r4, rf4⟩ := row_cell' (j := 4) hR3 rfl
      clear hR3
      go_wp2_with fail
      have hfin := set5 (m0 := 0) (m1 := 0) (m2 := 0) (m3 := 0) (m4 := 0) HR3.out
      have hbf : Below w.heap.size w (((((wr.setCell ⟨w.heap.size + 1, 0, none⟩ (.int .u32 0)).setCell ⟨w.heap.size + 1, 1, none⟩ (.int .u32 0)).setCell ⟨w.heap.size + 1, 2, none⟩ (.int .u8 0)).setCell ⟨w.heap.size + 1, 3, none⟩ (.int .u16 0)).setCell ⟨w.heap.size + 1, 4, none⟩ (.int .u16 0)) := by
        repeat refine Below.setCell ?_ (by simp) _
        exact Below.step HB0.out hbr
      obtain ⟨W9, hW9⟩ : ∃ W9, (((((wr.setCell ⟨w.heap.size + 1, 0, none⟩ (.int .u32 0)).setCell ⟨w.heap.size + 1, 1, none⟩ (.int .u32 0)).setCell ⟨w.heap.size + 1, 2, none⟩ (.int .u8 0)).setCell ⟨w.heap.size + 1, 3, none⟩ (.int .u16 0)).setCell ⟨w.heap.size + 1, 4, none⟩ (.int .u16 0)) = W9 := ⟨_, rfl⟩
      rw [hW9] at hfin hbf ⊢
      clear hW9
      obtain ⟨e0, ef0⟩ := row_cell' (j := 0) hfin rfl
      obtain ⟨e1, ef1⟩ := row_cell' (j := 1) hfin rfl
      obtain ⟨e2, ef2⟩ := row_cell' (j := 2) hfin rfl
      obtain ⟨e3, ef3⟩ := row_cell' (j := 3) hfin rfl
      obtain ⟨e4, ef4⟩ := row_cell' (j := 4) hfin rfl
      exact bodyPost_ret (v := .tuple #[.agg #[.int .u32 0, .int .u32 0, .int .u8 0, .int .u16 0, .int .u16 0], .int .i64 5]) (by simp [results, Tryd.results18, go_sem, e0, e1, e2, e3, e4]) rfl ⟨by rw [HN.out], hbf⟩
end Go.Proofs.YtbmleejeffaciaaDoor
