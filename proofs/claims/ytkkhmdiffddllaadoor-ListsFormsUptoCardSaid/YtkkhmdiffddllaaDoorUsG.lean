/- order2Ordered, medianOrdered, medianAdjacentOrdered, choosePivotOrdered of package slices at uint32. Under the conditions that they name. -/
import Derived.Test.YtkkhmdiffddllaaDoorUsA
import Derived.Sort.WalkD1
import Derived.Sort.LotD1
import Derived.Sort.LotD4
namespace Go.Proofs.YtkkhmdiffddllaaDoor
open Go.Shelf Go.RowKit Go.Lib Go.Sort
theorem cnt_drew {w0 W : World} {blk off c s : Nat} {dk : Array Int} (h : Cnt1 encW w0 blk off dk c s W) (n : Nat) : Cnt1 encW w0 blk off dk c s (W.drewN n) := by
  have := h.grown n #[]
  rwa [grow_empty] at this
set_option maxHeartbeats 2000000 in
set_option maxRecDepth 100000 in
theorem order2_is (blk off cap a b c s : Nat) (d0 d : Array Int) (w0 w : World) (R : Row1 encW w0 blk off d0) (hs : d.size = d0.size) (C : Cnt1 encW w0 blk off d c s w) (ha : a < d.size) (hbb : b < d.size) (hb : d.size < 35184372088832) (hsz : s < 1000) :
    Calls Tryd.prog 82 #[.slice (some ⟨blk, off, none⟩) d.size cap, .int .i64 a, .int .i64 b, .pointer (some ⟨c, 0, none⟩)] w fun e w' => e = .returned (.tuple #[.int .i64 (order2 ltInt d a b s).1, .int .i64 (order2 ltInt d a b s).2.1]) ∧ Cnt1 encW w0 blk off d c (order2 ltInt d a b s).2.2 w' := by
  have HR := Lib.hid R
  obtain ⟨n, hn⟩ : ∃ n, d.size = n := ⟨_, rfl⟩
  have C0 := Lib.hid C
  rw [hn] at hs hb ha hbb ⊢
  have HE := Lib.hid hs
  obtain ⟨G, HG, hcw, hfw⟩ := fam C.1 R (by omega) n hn
  have k0 := C.2.1
  have k1 := C.2.2.1
  clear R C hs
  go_enter Tryd.func82, Tryd.ntmps82
  go_wp2
  go_quiet (first | (go_at_call 48; refine Calls.quiet_of_same (less_is _ _ _)))
  go_wp2
  · have l2 : ltInt (G b) (G a) = true := by assumption
    have e2 : order2 ltInt d a b s = (b, a, s + 1) := by unfold order2; rw [if_pos (by rw [← HG.out, ← HG.out]; exact l2)]
    go_ret2
    rw [e2]
    exact ⟨rfl, (cnt_drew C0.out nq).bump (s + 1)⟩
  · have l2 : ltInt (G b) (G a) = false := by assumption
    have e2 : order2 ltInt d a b s = (a, b, s) := by unfold order2; rw [if_neg (by rw [← HG.out, ← HG.out, l2]; simp)]
    go_ret2
    rw [e2]
    exact ⟨rfl, cnt_drew C0.out nq⟩
set_option maxHeartbeats 2000000 in
set_option maxRecDepth 100000 in
theorem median_is (blk off cap a b k c s : Nat) (d0 d : Array Int) (w0 w : World) (R : Row1 encW w0 blk off d0) (hs : d.size = d0.size) (C : Cnt1 encW w0 blk off d c s w) (ha : a < d.size) (hbb : b < d.size) (hk : k < d.size) (hb : d.size < 35184372088832) (hsz : s < 990) :
    Calls Tryd.prog 63 #[.slice (some ⟨blk, off, none⟩) d.size cap, .int .i64 a, .int .i64 b, .int .i64 k, .pointer (some ⟨c, 0, none⟩)] w fun e w' => e = .returned (.int .i64 (median ltInt d a b k s).1) ∧ Cnt1 encW w0 blk off d c (median ltInt d a b k s).2 w' := by
  have HR := Lib.hid R
  obtain ⟨n, hn⟩ : ∃ n, d.size = n := ⟨_, rfl⟩
  have C0 := Lib.hid C
  obtain ⟨x1, y1, s1, e1⟩ : ∃ x y z, order2 ltInt d a b s = (x, y, z) := ⟨_, _, _, rfl⟩
  have m1 := order2_lt d (n := d.size) s ha hbb
  have n1 := order2_swaps d a b s
  have H1 := Lib.hid (order2_is blk off cap a b c s d0 d w0 w R hs C ha hbb hb (by omega))
  rw [e1] at m1 n1 H1
  simp only [] at m1 n1 H1
  obtain ⟨x2, y2, s2, e2⟩ : ∃ x y z, order2 ltInt d y1 k s1 = (x, y, z) := ⟨_, _, _, rfl⟩
  have m2 := order2_lt d (n := d.size) s1 m1.2 hk
  have n2 := order2_swaps d y1 k s1
  have H2 : Hid (∀ W, Cnt1 encW w0 blk off d c s1 W → _) := Lib.hid fun W hW => order2_is blk off cap y1 k c s1 d0 d w0 W R hs hW m1.2 hk hb (by omega)
  rw [e2] at m2 n2 H2
  simp only [] at m2 n2 H2
  obtain ⟨x3, y3, s3, e3⟩ : ∃ x y z, order2 ltInt d x1 x2 s2 = (x, y, z) := ⟨_, _, _, rfl⟩
  have H3 : Hid (∀ W, Cnt1 encW w0 blk off d c s2 W → _) := Lib.hid fun W hW => order2_is blk off cap x1 x2 c s2 d0 d w0 W R hs hW m1.1 m2.1 hb (by omega)
  rw [e3] at H3
  simp only [] at H3
  have EM : Hid (median ltInt d a b k s = (y3, s3)) := Lib.hid (by unfold median; simp only [e1, e2, e3])
  rw [hn] at H1 H2 H3 ⊢
  clear R C hs e1 e2 e3 m1 n1 m2 n2
  go_enter Tryd.func63, Tryd.ntmps63
  go_wp2_with fail
  go_at_call 82
  (with_reducible refine H1.out.mono ?_)
  rintro e w1 ⟨rfl, C1⟩
  have H2' := Lib.hid (H2.out w1 C1)
  clear C1
  go_wp2_with fail
  go_at_call 82
  (with_reducible refine H2'.out.mono ?_)
  rintro e w2 ⟨rfl, C2⟩
  have H3' := Lib.hid (H3.out w2 C2)
  clear C2
  go_wp2_with fail
  go_at_call 82
  (with_reducible refine H3'.out.mono ?_)
  rintro e w3 ⟨rfl, C3⟩
  have HC := Lib.hid C3
  clear C3
  go_wp2
  go_ret
  rw [EM.out]
  exact ⟨rfl, HC.out⟩
set_option maxHeartbeats 2000000 in
set_option maxRecDepth 100000 in
theorem madj_is (blk off cap a c s : Nat) (d0 d : Array Int) (w0 w : World) (R : Row1 encW w0 blk off d0) (hs : d.size = d0.size) (C : Cnt1 encW w0 blk off d c s w) (ha : 0 < a) (hbb : a + 1 < d.size) (hb : d.size < 35184372088832) (hsz : s < 990) :
    Calls Tryd.prog 62 #[.slice (some ⟨blk, off, none⟩) d.size cap, .int .i64 a, .pointer (some ⟨c, 0, none⟩)] w fun e w' => e = .returned (.int .i64 (medianAdjacent ltInt d a s).1) ∧ Cnt1 encW w0 blk off d c (medianAdjacent ltInt d a s).2 w' := by
  have HR := Lib.hid R
  obtain ⟨n, hn⟩ : ∃ n, d.size = n := ⟨_, rfl⟩
  have C0 := Lib.hid C
  have H1 := Lib.hid (median_is blk off cap (a - 1) a (a + 1) c s d0 d w0 w R hs C (by omega) (by omega) hbb hb hsz)
  have z1 : (a : Int) - 1 = ((a - 1 : Nat) : Int) := by omega
  have z2 : ((a + 1 : Nat) : Int) = (a : Int) + 1 := by omega
  rw [z2, ← z1] at H1
  obtain ⟨p, hp⟩ : ∃ p, medianAdjacent ltInt d a s = p := ⟨_, rfl⟩
  have hp2 : median ltInt d (a - 1) a (a + 1) s = p := hp
  rw [hp2] at H1
  rw [hp]
  rw [hn] at H1 hb hbb ⊢
  clear R C hs z1 z2 hp hp2
  go_enter Tryd.func62, Tryd.ntmps62
  go_wp2_with fail
  go_at_call 63
  (with_reducible refine H1.out.mono ?_)
  rintro e w1 ⟨rfl, C1⟩
  have HC := Lib.hid C1
  clear C1
  go_wp2
  go_ret
  exact ⟨rfl, HC.out⟩
end Go.Proofs.YtkkhmdiffddllaaDoor
