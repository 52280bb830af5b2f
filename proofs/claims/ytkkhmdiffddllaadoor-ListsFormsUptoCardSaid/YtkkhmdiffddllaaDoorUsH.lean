/- slices.choosePivotOrdered at uint32, of more than twelve elements. Under the conditions that it names. -/
import Derived.Test.YtkkhmdiffddllaaDoorUsG
import Derived.Deep.DeepCutAuto
namespace Go.Proofs.YtkkhmdiffddllaaDoor
open Go.Shelf Go.RowKit Go.Lib Go.Sort
theorem raw50 (d : Array Int) (a b : Nat) (h8 : 8 ≤ b - a) (h : 50 ≤ b - a) {i j k : Nat} (hi : i = a + (b - a) / 4 * 1) (hj : j = a + (b - a) / 4 * 2) (hk : k = a + (b - a) / 4 * 3) {i1 s1 j1 s2 k1 s3 : Nat}
    (e1 : medianAdjacent ltInt d i 0 = (i1, s1)) (e2 : medianAdjacent ltInt d j s1 = (j1, s2)) (e3 : medianAdjacent ltInt d k s2 = (k1, s3)) : rawPivot ltInt d a b = median ltInt d i1 j1 k1 s3 := by
  subst hi hj hk
  unfold rawPivot
  rw [if_pos h8, if_pos h]
  simp only [e1, e2, e3]
theorem raw8 (d : Array Int) (a b : Nat) (h8 : 8 ≤ b - a) (h : ¬ 50 ≤ b - a) {i j k : Nat} (hi : i = a + (b - a) / 4 * 1) (hj : j = a + (b - a) / 4 * 2) (hk : k = a + (b - a) / 4 * 3) : rawPivot ltInt d a b = median ltInt d i j k 0 := by
  subst hi hj hk
  unfold rawPivot
  rw [if_pos h8, if_neg h]
set_option maxHeartbeats 2000000 in
set_option maxRecDepth 100000 in
theorem piv_is (blk off cap a b : Nat) (d0 d : Array Int) (w0 w : World) (R : Row1 encW w0 blk off d0) (hs : d.size = d0.size) (S : SW encW w0 blk off d w) (hab : 12 < b - a) (hb : b ≤ d.size) (hsz : d.size < 35184372088832) :
    Calls Tryd.prog 45 #[.slice (some ⟨blk, off, none⟩) d.size cap, .int .i64 a, .int .i64 b] w fun e w' => e = .returned (.tuple #[.int .i64 (choosePivot ltInt d a b).1, .int .i64 (hintCode (choosePivot ltInt d a b).2)]) ∧ SW encW w0 blk off d w' := by
  have HR := Lib.hid R
  obtain ⟨n, hn⟩ : ∃ n, d.size = n := ⟨_, rfl⟩
  have S0 := Lib.hid S
  rw [hn] at hs hb hsz ⊢
  have HE := Lib.hid hs
  clear R S hs
  obtain ⟨H, hHn⟩ : ∃ H : Nat, H = b - a := ⟨_, rfl⟩
  obtain ⟨Q, hQn⟩ : ∃ Q : Nat, Q = H / 4 := ⟨_, rfl⟩
  have hH : (b : Int) - (a : Int) = (H : Int) := by omega
  have hQ : (H : Int) / 4 = (Q : Int) := by omega
  obtain ⟨r, hr⟩ : ∃ r, rawPivot ltInt d a b = r := ⟨_, rfl⟩
  rw [choosePivot_eq, hr]
  obtain ⟨I1, hI1⟩ : ∃ I : Nat, I = a + Q := ⟨_, rfl⟩
  obtain ⟨I2, hI2⟩ : ∃ I : Nat, I = a + Q * 2 := ⟨_, rfl⟩
  obtain ⟨I3, hI3⟩ : ∃ I : Nat, I = a + Q * 3 := ⟨_, rfl⟩
  have hz1 : (a : Int) + (Q : Int) = (I1 : Int) := by omega
  have hz2 : (a : Int) + (Q : Int) * 2 = (I2 : Int) := by omega
  have hz3 : (a : Int) + (Q : Int) * 3 = (I3 : Int) := by omega
  have HR50 : Hid (50 ≤ H → ∀ {i1 s1 j1 s2 k1 s3 : Nat}, medianAdjacent ltInt d I1 0 = (i1, s1) → medianAdjacent ltInt d I2 s1 = (j1, s2) → medianAdjacent ltInt d I3 s2 = (k1, s3) → r = median ltInt d i1 j1 k1 s3) := Lib.hid fun h {i1 s1 j1 s2 k1 s3} e1 e2 e3 => by
    rw [← hr]; subst hI1 hI2 hI3 hQn hHn
    exact raw50 d a b (by omega) h (by omega) rfl rfl e1 e2 e3
  have HR8 : Hid (¬ 50 ≤ H → r = median ltInt d I1 I2 I3 0) := Lib.hid fun h => by
    rw [← hr]; subst hI1 hI2 hI3 hQn hHn
    exact raw8 d a b (by omega) h (by omega) rfl rfl
  have hQ1 : 3 ≤ Q := by omega
  have hQ2 : Q * 4 ≤ H := by omega
  have hHb : a + H ≤ n := by omega
  have hH12 : 12 < H := by omega
  have b1 : 0 < I1 ∧ I1 + 1 < n := by omega
  have b2 : 0 < I2 ∧ I2 + 1 < n := by omega
  have b3 : 0 < I3 ∧ I3 + 1 < n := by omega
  clear hr hHn hQn hab hI1 hI2 hI3
  obtain ⟨W1, hW1⟩ : ∃ X, w.alloc (.cells #[.int .i64 0] 3) = X := ⟨_, rfl⟩
  have C1 : Hid (Cnt1 encW w0 blk off d w.heap.size 0 W1) := Lib.hid (by rw [← hW1]; exact Cnt1.start S0.out _)
  go_enter Tryd.func45, Tryd.ntmps45
  by_cases h50 : 50 ≤ H
  · have h50z : (50 : Int) ≤ (H : Int) := by omega
    have h8z : (8 : Int) ≤ (H : Int) := by omega
    obtain ⟨i1, s1, e1⟩ : ∃ x y, medianAdjacent ltInt d I1 0 = (x, y) := ⟨_, _, rfl⟩
    obtain ⟨j1, s2, e2⟩ : ∃ x y, medianAdjacent ltInt d I2 s1 = (x, y) := ⟨_, _, rfl⟩
    obtain ⟨k1, s3, e3⟩ : ∃ x y, medianAdjacent ltInt d I3 s2 = (x, y) := ⟨_, _, rfl⟩
    obtain ⟨p, SS, e4⟩ : ∃ x y, median ltInt d i1 j1 k1 s3 = (x, y) := ⟨_, _, rfl⟩
    have n1 := medianAdjacent_count ltInt d I1 0
    have n2 := medianAdjacent_count ltInt d I2 s1
    have n3 := medianAdjacent_count ltInt d I3 s2
    have m1 := medianAdjacent_mem ltInt d I1 0
    have m2 := medianAdjacent_mem ltInt d I2 s1
    have m3 := medianAdjacent_mem ltInt d I3 s2
    rw [e1] at n1 m1; rw [e2] at n2 m2; rw [e3] at n3 m3
    simp only [] at n1 n2 n3 m1 m2 m3
    have EQ : Hid (r = (p, SS)) := Lib.hid (by rw [HR50.out h50 e1 e2 e3, e4])
    have L1 := Lib.hid (madj_is blk off cap I1 w.heap.size 0 d0 d w0 W1 HR.out (by rw [hn]; exact HE.out) C1.out (by omega) (by omega) (by omega) (by omega))
    have L2 : Hid (∀ W, Cnt1 encW w0 blk off d w.heap.size s1 W → _) := Lib.hid fun W hW => madj_is blk off cap I2 w.heap.size s1 d0 d w0 W HR.out (by rw [hn]; exact HE.out) hW (by omega) (by omega) (by omega) (by omega)
    have L3 : Hid (∀ W, Cnt1 encW w0 blk off d w.heap.size s2 W → _) := Lib.hid fun W hW => madj_is blk off cap I3 w.heap.size s2 d0 d w0 W HR.out (by rw [hn]; exact HE.out) hW (by omega) (by omega) (by omega) (by omega)
    have L4 : Hid (∀ W, Cnt1 encW w0 blk off d w.heap.size s3 W → _) := Lib.hid fun W hW => median_is blk off cap i1 j1 k1 w.heap.size s3 d0 d w0 W HR.out (by rw [hn]; exact HE.out) hW (by omega) (by omega) (by omega) (by omega) (by omega)
    rw [e1] at L1; rw [e2] at L2; rw [e3] at L3; rw [e4] at L4
    simp only [] at L1 L2 L3 L4
    rw [hn] at L1 L2 L3 L4
    clear n1 n2 n3 m1 m2 m3 e1 e2 e3 e4 b1 b2 b3
    go_wp2_with fail
    go_at_call 62
    (with_reducible refine L1.out.mono ?_)
    rintro e w1 ⟨rfl, hk⟩
    have LL2 := Lib.hid (L2.out w1 hk)
    clear hk
    go_wp2_with fail
    go_at_call 62
    (with_reducible refine LL2.out.mono ?_)
    rintro e w2 ⟨rfl, hk⟩
    have LL3 := Lib.hid (L3.out w2 hk)
    clear hk
    go_wp2_with fail
    go_at_call 62
    (with_reducible refine LL3.out.mono ?_)
    rintro e w3 ⟨rfl, hk⟩
    have LL4 := Lib.hid (L4.out w3 hk)
    clear hk
    go_wp2_with fail
    go_at_call 63
    (with_reducible refine LL4.out.mono ?_)
    rintro e w4 ⟨rfl, hk⟩
    have HC := Lib.hid (hk.1)
    have HCC := Lib.hid hk
    have c0 := hk.2.1
    clear hk
    by_cases hs0 : SS = 0
    · subst hs0
      go_wp2
      go_ret2
      exact ⟨by rw [EQ.out]; rfl, HC.out⟩
    · by_cases hs12 : SS = 12
      · subst hs12
        go_wp2
        go_ret2
        exact ⟨by rw [EQ.out]; rfl, HC.out⟩
      · have hn0 : ((SS : Int) == 0) = false := by simp; omega
        have hn12 : ((SS : Int) == 12) = false := by simp; omega
        go_wp2
        go_ret2
        exact ⟨by rw [EQ.out]; simp [hintOf, hs0, hs12, hintCode], HC.out⟩
  · have h50z : ¬ (50 : Int) ≤ (H : Int) := by omega
    have h8z : (8 : Int) ≤ (H : Int) := by omega
    obtain ⟨p, SS, e4⟩ : ∃ x y, median ltInt d I1 I2 I3 0 = (x, y) := ⟨_, _, rfl⟩
    have EQ : Hid (r = (p, SS)) := Lib.hid (by rw [HR8.out h50, e4])
    have L1 := Lib.hid (median_is blk off cap I1 I2 I3 w.heap.size 0 d0 d w0 W1 HR.out (by rw [hn]; exact HE.out) C1.out (by omega) (by omega) (by omega) (by omega) (by omega))
    rw [e4] at L1
    simp only [] at L1
    rw [hn] at L1
    clear e4 b1 b2 b3
    go_wp2_with fail
    go_at_call 63
    (with_reducible refine L1.out.mono ?_)
    rintro e w4 ⟨rfl, hk⟩
    have HC := Lib.hid (hk.1)
    have HCC := Lib.hid hk
    have c0 := hk.2.1
    clear hk
    by_cases hs0 : SS = 0
    · subst hs0
      go_wp2
      go_ret2
      exact ⟨by rw [EQ.out]; rfl, HC.out⟩
    · by_cases hs12 : SS = 12
      · subst hs12
        go_wp2
        go_ret2
        exact ⟨by rw [EQ.out]; rfl, HC.out⟩
      · have hn0 : ((SS : Int) == 0) = false := by simp; omega
        have hn12 : ((SS : Int) == 12) = false := by simp; omega
        go_wp2
        go_ret2
        exact ⟨by rw [EQ.out]; simp [hintOf, hs0, hs12, hintCode], HC.out⟩
end Go.Proofs.YtkkhmdiffddllaaDoor
