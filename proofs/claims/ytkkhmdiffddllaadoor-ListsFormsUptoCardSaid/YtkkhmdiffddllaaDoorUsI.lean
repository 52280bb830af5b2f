/- slices.breakPatternsOrdered at uint32, of more than twelve elements. Under the conditions that it names. -/
import Derived.Test.YtkkhmdiffddllaaDoorUsD
import Derived.Test.YtkkhmdiffddllaaDoorShelfX
import Derived.Sort.Walk7
import Derived.Shelf.SlSortCmp.Xorshift
namespace Go.Proofs.YtkkhmdiffddllaaDoor
open Go.Shelf Go.RowKit Go.Lib Go.Sort
/-- A row of the sort's, and the cell that holds the random number. -/
def RndAt (w0 : World) (blk off : Nat) (dk : Array Int) (c R : Nat) (W : World) : Prop :=
  SW encW w0 blk off dk W ∧ W.cell? ⟨c, 0, none⟩ = some (.int .u64 R) ∧ W.frozen? ⟨c, 0, none⟩ = false ∧ w0.heap.size ≤ c ∧ c < W.heap.size
theorem RndAt.next {w0 W : World} {blk off c R : Nat} {dk : Array Int} (h : RndAt w0 blk off dk c R W) (R' q : Nat) : RndAt w0 blk off dk c R' ((W.setCell ⟨c, 0, none⟩ (.int .u64 R')).drewN q) :=
  ⟨(h.1.setCell_new c 0 _ h.2.2.2.1).drewN q, World.cell?_setCell_same' _ _ _ (by rw [h.2.1]; rfl), by show (W.setCell _ _).frozen? _ = _; rw [World.frozen?_setCell]; exact h.2.2.1, h.2.2.2.1, by show c < (W.setCell _ _).heap.size; simpa using h.2.2.2.2⟩
theorem RndAt.swap {w0 W : World} {blk off c R : Nat} {dk : Array Int} (h : RndAt w0 blk off dk c R W) (hb : blk < w0.heap.size) (i j : Nat) (hi : i < dk.size) (hj : j < dk.size) {x y : Int} (hx : x = dk[i]!) (hy : y = dk[j]!) :
    RndAt w0 blk off (swp dk i j) c R (((W.setCell ⟨blk, off + i, none⟩ (.int .u32 y)).setCell ⟨blk, off + j, none⟩ (.int .u32 x)).drew) := by
  refine ⟨swappedD h.1 hb i j hi hj hx hy, ?_, ?_, h.2.2.2.1, ?_⟩
  · have hne : c ≠ blk := by have := h.2.2.2.1; omega
    exact (box_kept_swap1 hne h.2.1 h.2.2.1 _ _ _ _).1
  · have hne : c ≠ blk := by have := h.2.2.2.1; omega
    exact (box_kept_swap1 hne h.2.1 h.2.2.1 _ _ _ _).2
  · show c < ((W.setCell _ _).setCell _ _).heap.size
    simpa using h.2.2.2.2
set_option maxHeartbeats 2000000 in
set_option maxRecDepth 100000 in
theorem brk_is (blk off cap a b : Nat) (d0 d : Array Int) (w0 w : World) (R : Row1 encW w0 blk off d0) (hs : d.size = d0.size) (S : SW encW w0 blk off d w) (hab : 12 < b - a) (hb : b ≤ d.size) (hsz : d.size < 35184372088832) :
    Calls Tryd.prog 44 #[.slice (some ⟨blk, off, none⟩) d.size cap, .int .i64 a, .int .i64 b] w fun e w' => e = .returned (.tuple #[]) ∧ SW encW w0 blk off (breakPatterns d a b) w' := by
  have HR := Lib.hid R
  obtain ⟨n, hn⟩ : ∃ n, d.size = n := ⟨_, rfl⟩
  have S0 := Lib.hid S
  rw [hn] at hs hb hsz ⊢
  have HE := Lib.hid hs
  clear R S hs
  obtain ⟨L, hL⟩ : ∃ L, b = a + L := ⟨b - a, by omega⟩
  have h8 : 8 ≤ L := by omega
  have HB : Hid (breakPatterns d a b = bpRest a L (1 <<< bitsLen L) (a + L / 4 * 2 - 1) 3 0 (UInt64.ofNat L, d)) := Lib.hid (by rw [hL]; exact breakPatterns_eq d a L h8)
  obtain ⟨M, hM⟩ : ∃ M : Nat, M = 1 <<< bitsLen L := ⟨_, rfl⟩
  have hM1 : 1 ≤ M := by rw [hM, Nat.one_shiftLeft]; exact Nat.two_pow_pos _
  have hM2 : M ≤ 2 * L := by rw [hM, Nat.one_shiftLeft]; exact two_pow_bitsLen_le (by omega)
  have hNP : ∀ w, Calls Tryd.prog 60 #[.int .i64 (L : Int)] w fun e w' => e = .returned (.int .u64 (M : Int)) ∧ w' = w := by rw [hM]; exact fun w => AnyF.nextPowerOfTwo Tryd.powL L (by omega) w
  obtain ⟨I0, hI0⟩ : ∃ I0, I0 = a + L / 4 * 2 - 1 := ⟨_, rfl⟩
  rw [← hM, ← hI0] at HB
  obtain ⟨Q, hQn⟩ : ∃ Q, Q = L / 4 := ⟨_, rfl⟩
  have hLz : (b : Int) - (a : Int) = (L : Int) := by omega
  have hQ : (L : Int) / 4 = (Q : Int) := by omega
  have hI : (a : Int) + (Q : Int) * 2 - 1 = (I0 : Int) := by omega
  have hI2 : (a : Int) + (Q : Int) * 2 + 1 = (I0 : Int) + 2 := by omega
  have hIn : I0 + 2 < n ∧ a ≤ I0 := by omega
  have hLn : a + L ≤ n := by omega
  have h8z : (8 : Int) ≤ (L : Int) := by omega
  clear hM hI0 hQn hL hab
  obtain ⟨W1, hW1⟩ : ∃ X, w.alloc (.cells #[.int .u64 0] 92) = X := ⟨_, rfl⟩
  have z1 : W1.cell? ⟨w.heap.size, 0, none⟩ = some (.int .u64 0) := by rw [← hW1]; simp
  have z2 : W1.frozen? ⟨w.heap.size, 0, none⟩ = false := by rw [← hW1]; simp
  obtain ⟨W2, hW2⟩ : ∃ X, W1.setCell ⟨w.heap.size, 0, none⟩ (.int .u64 L) = X := ⟨_, rfl⟩
  have R0 : Hid (RndAt w0 blk off d w.heap.size (UInt64.ofNat L).toNat W2) := Lib.hid (by
    have h : RndAt w0 blk off d w.heap.size 0 W1 := ⟨by rw [← hW1]; exact S0.out.alloc _, z1, z2, S0.out.le, by rw [← hW1]; simp⟩
    have := h.next L 0
    rw [show (UInt64.ofNat L).toNat = L from by simp; omega, ← hW2]
    exact this)
  go_enter Tryd.func44, Tryd.ntmps44
  go_wp2_with (first | (go_at_call 60; refine (hNP _).mono ?_; rintro e w' ⟨rfl, rfl⟩))
  go_loopw [9] (fun vi wr => ∃ (t iv : Nat) (r : UInt64) (dk : Array Int), vi = .int .i64 iv ∧ Hid (iv = I0 + t) ∧ t ≤ 3 ∧ dk.size = n ∧ Hid (RndAt w0 blk off dk w.heap.size r.toNat wr) ∧ Hid (bpRest a L M I0 (3 - t) t (r, dk) = bpRest a L M I0 3 0 (UInt64.ofNat L, d))) (fun vi _ => I0 + 3 - (intOf vi).toNat)
  case atStart => exact ⟨0, I0, UInt64.ofNat L, d, by first | rfl | (congr 1; omega), Lib.hid rfl, by omega, hn, R0, Lib.hid rfl⟩
  case round =>
    obtain ⟨t, iv, r, dk, rfl, HV, ht, hsk, HRn, HO⟩ := hrel
    clear R0
    have hv1 : I0 ≤ iv := by have := HV.out; omega
    by_cases h3 : t < 3
    · have hv2 : iv ≤ I0 + 2 := by have := HV.out; omega
      have hvz : (iv : Int) ≤ (I0 : Int) + 2 := by omega
      obtain ⟨R, hRr⟩ : ∃ R : Nat, R = r.toNat := ⟨_, rfl⟩
      have lR : R < 18446744073709551616 := by rw [hRr]; exact r.toNat_lt
      obtain ⟨R', hR'⟩ : ∃ R' : Nat, R' = xorNextN R := ⟨_, rfl⟩
      have lR' : R' < 18446744073709551616 := by rw [hR']; exact xorNextN_lt R lR
      obtain ⟨O, hO⟩ : ∃ O : Nat, O = R' &&& (M - 1) := ⟨_, rfl⟩
      have lO : O ≤ M - 1 := by rw [hO]; exact Nat.and_le_right
      have eAnd : bits .and .u64 (R' : Int) ((M : Int) - 1) = (O : Int) := by
        rw [show ((M : Int) - 1) = ((M - 1 : Nat) : Int) by omega, bits_and_u64_nat _ _ lR' (by omega), hO]
      have hNext : Calls Tryd.prog 61 #[.pointer (some ⟨w.heap.size, 0, none⟩)] wr fun e w' => e = .returned (.int .u64 (R' : Int)) ∧ w' = (wr.setCell ⟨w.heap.size, 0, none⟩ (.int .u64 (R' : Int))).drewN 3 := by
        rw [hR']; exact AnyF.xorshift_Next Tryd.nextL w.heap.size 0 R lR wr (by rw [hRr]; exact HRn.out.2.1) HRn.out.2.2.1
      have HN : Hid (R' = (xorNext r).toNat ∧ O = (xorNext r).toNat &&& (M - 1)) := Lib.hid (by
        have e : R' = (xorNext r).toNat := by rw [hR', hRr, xorNext_toNat]
        exact ⟨e, by rw [hO, e]⟩)
      have HX := Lib.hid (HRn.out.next R' 3)
      clear hRr hR' hO
      go_wp2_with (first | (go_at_call 61; refine hNext.mono ?_; rintro e w' ⟨rfl, rfl⟩))
      · have hLO : L ≤ O := by omega
        generalize (wr.setCell ⟨w.heap.size, 0, none⟩ (.int .u64 (R' : Int))).drewN 3 = w3 at HX ⊢
        obtain ⟨G, HG, hcw, hfw⟩ := fam HX.out.1 HR.out (by have := HE.out; omega) n hsk
        have hon : a + (O - L) < n := by omega
        have hivn : iv < n := by omega
        obtain ⟨uu, hc2⟩ := held HX.out.1 HR.out (by have := HE.out; omega) iv (a + (O - L)) (by omega) (by omega) (.int .u32 (G (a + (O - L))))
        go_region
        have S4 := Lib.hid (HX.out.swap HR.out.hblk iv (a + (O - L)) (by omega) (by omega) (HG.out _) (HG.out _))
        clear hc2 hcw hfw HG
        generalize ((w3.setCell ⟨blk, off + iv, none⟩ (.int .u32 (G (a + (O - L))))).setCell ⟨blk, off + (a + (O - L)), none⟩ (.int .u32 (G iv))).drew = w4 at S4 ⊢
        go_wp2
        go_roundw
        case rel => exact ⟨t + 1, iv + 1, xorNext r, swp dk iv (a + (O - L)), by go_num, Lib.hid (by have := HV.out; omega), by omega, by rw [size_swp]; exact hsk, Lib.hid (by rw [← HN.out.1]; exact S4.out), Lib.hid (by rw [← HO.out, bp_step a L M _ t r dk (O - L) (by omega) (by rw [← HN.out.2, if_pos (by omega)]), HV.out])⟩
        case measure => simp [intOf] <;> omega
      · have hLO : ¬ L ≤ O := by omega
        generalize (wr.setCell ⟨w.heap.size, 0, none⟩ (.int .u64 (R' : Int))).drewN 3 = w3 at HX ⊢
        obtain ⟨G, HG, hcw, hfw⟩ := fam HX.out.1 HR.out (by have := HE.out; omega) n hsk
        have hon : a + (O) < n := by omega
        have hivn : iv < n := by omega
        obtain ⟨uu, hc2⟩ := held HX.out.1 HR.out (by have := HE.out; omega) iv (a + (O)) (by omega) (by omega) (.int .u32 (G (a + (O))))
        go_region
        have S4 := Lib.hid (HX.out.swap HR.out.hblk iv (a + (O)) (by omega) (by omega) (HG.out _) (HG.out _))
        clear hc2 hcw hfw HG
        generalize ((w3.setCell ⟨blk, off + iv, none⟩ (.int .u32 (G (a + (O))))).setCell ⟨blk, off + (a + (O)), none⟩ (.int .u32 (G iv))).drew = w4 at S4 ⊢
        go_wp2
        go_roundw
        case rel => exact ⟨t + 1, iv + 1, xorNext r, swp dk iv (a + (O)), by go_num, Lib.hid (by have := HV.out; omega), by omega, by rw [size_swp]; exact hsk, Lib.hid (by rw [← HN.out.1]; exact S4.out), Lib.hid (by rw [← HO.out, bp_step a L M _ t r dk (O) (by omega) (by rw [← HN.out.2, if_neg (by omega)]), HV.out])⟩
        case measure => simp [intOf] <;> omega
    · obtain rfl : t = 3 := by omega
      have hv3 : iv = I0 + 3 := HV.out
      have hvz : ¬ (iv : Int) ≤ (I0 : Int) + 2 := by omega
      clear hv3
      go_wp2
      go_end0
      exact ⟨rfl, by rw [HB.out, ← HO.out]; exact HRn.out.1⟩
end Go.Proofs.YtkkhmdiffddllaaDoor
