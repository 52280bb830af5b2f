/- What sweep of package spans does: it asks at each cut of two rising lists, rising, and once where both have one; whatever is handed in to be asked, if it keeps the lists. Under the conditions that it names. -/
import Derived.Test.YtelncpmphgndjaaDoorSpCt
namespace Go.Proofs.YtelncpmphgndjaaDoor
open Go.RowKit
/-- A slice that reads as these numbers, in the worlds in which its cells stand. -/
def RdN (w : World) (v : Value) (A : List Nat) : Prop := ∃ p c, v = .slice p A.length c ∧ ∀ (i x : Nat), A[i]? = some x → ∃ b o, p = some ⟨b, o, none⟩ ∧ w.cell? ⟨b, o + i, none⟩ = some (.int .u64 x)
/-- What asking does: J holds of the worlds in between. -/
def Asks (g : Nat) (cb : Array Value) (A B : List Nat) (vA vB : Value) (J : Nat → Nat → Nat → World → Prop) : Prop :=
  (∀ i j y W, J i j y W → RdN W vA A ∧ RdN W vB B) ∧ (∀ i j y W n, J i j y W → J i j y (W.drewN n)) ∧
  ∀ i j y c i' j' W, J i j y W → Split A B i j y → Next A B i j c i' j' → Calls Tryd.prog g (#[.int .u64 c, .bool (decide (i' % 2 = 1)), .bool (decide (j' % 2 = 1))] ++ cb) W fun e W' => e = .returned (.tuple #[]) ∧ J i' j' (c + 1) W'
def SweepPost (A B : List Nat) (J : Nat → Nat → Nat → World → Prop) (e : Ending) (w' : World) : Prop := e = .returned (.tuple #[]) ∧ ∃ y, Split A B A.length B.length y ∧ J A.length B.length y w'
theorem mod_eq (i : Nat) (b : Bool) (h : decide (i % 2 = 1) = b) : ((i : Int) % 2 == 1) = b := by
  rw [← h]
  rw [Bool.eq_iff_iff]; simp; omega
set_option maxRecDepth 100000 in
set_option maxHeartbeats 2000000 in
theorem sweep_is (g : Nat) (cb : Array Value) (hg : ∀ args w, (callFunc g args).run Tryd.prog w = .ok (.enter g args) w) (A B : List Nat) (vA vB : Value) (J : Nat → Nat → Nat → World → Prop) (h : Asks g cb A B vA vB J) (hA : A.Pairwise (· < ·)) (hB : B.Pairwise (· < ·)) (hAt : ∀ c ∈ A, c ≤ top) (hBt : ∀ c ∈ B, c ≤ top) (hAl : A.length ≤ 1000000000) (hBl : B.length ≤ 1000000000) (w : World) (hJ : J 0 0 0 w) :
    Calls Tryd.prog 42 #[vA, vB, .func (.func g) #[] cb] w (SweepPost A B J) := by
  have HJ0 := Lib.hid hJ
  obtain ⟨⟨p, c, hvA, _⟩, q, d, hvB, _⟩ := h.1 _ _ _ _ hJ
  subst hvA hvB
  have HASK := Lib.hid h
  have HAP := Lib.hid hA; have HBP := Lib.hid hB; have HAT := Lib.hid hAt; have HBT := Lib.hid hBt; have HG := Lib.hid hg
  clear h hJ hA hB hAt hBt hg
  go_enter Tryd.func42, Tryd.ntmps42
  go_wp2
  go_loopw [6, 7] (fun a b wr => ∃ i j y : Nat, i ≤ A.length ∧ j ≤ B.length ∧ a = .int .i64 i ∧ b = .int .i64 j ∧ Hid (Split A B i j y) ∧ Hid (J i j y wr)) (fun a b _ => (A.length - (intOf a).toNat) + (B.length - (intOf b).toNat))
  case atStart => exact ⟨0, 0, 0, Nat.zero_le _, Nat.zero_le _, rfl, rfl, Lib.hid (Split.start _ _), HJ0⟩
  case round =>
    obtain ⟨i, j, y, hi, hj, rfl, rfl, HS, HJ⟩ := hrel
    obtain ⟨⟨pa, ca, ea, hrA⟩, pb, cb', eb, hrB⟩ := HASK.out.1 _ _ _ _ HJ.out
    simp only [Value.slice.injEq] at ea eb
    obtain ⟨rfl, _, rfl⟩ := ea
    obtain ⟨rfl, _, rfl⟩ := eb
    by_cases hia : i < A.length
    · by_cases hjb : j < B.length
      · obtain ⟨x, hx⟩ : ∃ x, A[i]? = some x := ⟨_, List.getElem?_eq_getElem hia⟩
        obtain ⟨b1, o1, rfl, c1⟩ := hrA i x hx
        have hxt := HAT.out x (List.mem_of_getElem? hx)
        have hxe : A[i] = x := (List.getElem?_eq_some_iff.1 hx).2
        obtain ⟨xi, hxi⟩ : ∃ z : Int, z = (x : Int) := ⟨_, rfl⟩
        rw [← hxi] at c1
        have HX := Lib.hid hx; have HXE := Lib.hid hxe; have HXI := Lib.hid hxi
        have ia1 : (i : Int) < (A.length : Int) := by omega
        have ia2 : ((i : Int) == (A.length : Int)) = false := by simp; omega
        have ia3 : (0 : Int) ≤ (i : Int) := by omega
        have ia4 : decide ((i : Int) < (A.length : Int)) = true := by simp; omega
        obtain ⟨y', hy⟩ : ∃ x, B[j]? = some x := ⟨_, List.getElem?_eq_getElem hjb⟩
        obtain ⟨b2, o2, rfl, c2⟩ := hrB j y' hy
        have hyt := HBT.out y' (List.mem_of_getElem? hy)
        have hye : B[j] = y' := (List.getElem?_eq_some_iff.1 hy).2
        obtain ⟨yi, hyi⟩ : ∃ z : Int, z = (y' : Int) := ⟨_, rfl⟩
        rw [← hyi] at c2
        have HY := Lib.hid hy; have HYE := Lib.hid hye; have HYI := Lib.hid hyi
        have jb1 : (j : Int) < (B.length : Int) := by omega
        have jb2 : ((j : Int) == (B.length : Int)) = false := by simp; omega
        have jb3 : (0 : Int) ≤ (j : Int) := by omega
        have jb4 : decide ((j : Int) < (B.length : Int)) = true := by simp; omega
        clear hx hxe hxi hy hye hyi hrA hrB
        rcases Int.lt_trichotomy xi yi with hlt | heq | hgt
        · have g1 : decide (xi ≤ yi) = true := by simp; omega
          have g2 : decide (yi ≤ xi) = false := by simp; omega
          obtain ⟨bi, hbi⟩ : ∃ b, decide ((i + 1) % 2 = 1) = b := ⟨_, rfl⟩
          obtain ⟨bj, hbj⟩ : ∃ b, decide ((j) % 2 = 1) = b := ⟨_, rfl⟩
          have m1 := mod_eq _ _ hbi
          have m2 := mod_eq _ _ hbj
          have hn : Next A B i j x (i + 1) (j) := HXE.out ▸ Next.left hia (fun hj => by rw [HXE.out, HYE.out]; have := HXI.out; have := HYI.out; omega)
          have hsp := hn.split HAP.out HBP.out HS.out
          have hq := fun n => HASK.out.2.2 _ _ _ _ _ _ (wr.drewN n) (HASK.out.2.1 _ _ _ _ n HJ.out) HS.out hn
          rw [hbi, hbj, ← HXI.out] at hq
          have hg1 := HG.out
          have HQ := Lib.hid hq
          have HSP := Lib.hid hsp.1
          clear hn hsp hq hbi hbj
          try simp only [Int.natCast_add, Int.natCast_one] at m1 m2
          go_wp2
          go_quiet (fail)
          go_wp2
          go_quiet (fail)
          go_wp2_with fail
          refine (HQ.out _).mono ?_
          rintro e w1 ⟨rfl, hJ1⟩
          have HJ1 := Lib.hid hJ1
          clear hJ1 hg1
          go_wp2
          go_roundw
          case rel => exact ⟨i + 1, j, x + 1, by omega, by omega, by go_num, by go_num, HSP, HJ1⟩
          case measure => simp [intOf] <;> omega
        · subst heq
          have g1 : decide (xi ≤ xi) = true := by simp
          obtain ⟨bi, hbi⟩ : ∃ b, decide ((i + 1) % 2 = 1) = b := ⟨_, rfl⟩
          obtain ⟨bj, hbj⟩ : ∃ b, decide ((j + 1) % 2 = 1) = b := ⟨_, rfl⟩
          have m1 := mod_eq _ _ hbi
          have m2 := mod_eq _ _ hbj
          have hn : Next A B i j x (i + 1) (j + 1) := HXE.out ▸ Next.both hia hjb (by rw [HXE.out, HYE.out]; have := HXI.out; have := HYI.out; omega)
          have hsp := hn.split HAP.out HBP.out HS.out
          have hq := fun n => HASK.out.2.2 _ _ _ _ _ _ (wr.drewN n) (HASK.out.2.1 _ _ _ _ n HJ.out) HS.out hn
          rw [hbi, hbj, ← HXI.out] at hq
          have hg1 := HG.out
          have HQ := Lib.hid hq
          have HSP := Lib.hid hsp.1
          clear hn hsp hq hbi hbj
          try simp only [Int.natCast_add, Int.natCast_one] at m1 m2
          go_wp2
          go_quiet (fail)
          go_wp2
          go_quiet (fail)
          go_wp2_with fail
          refine (HQ.out _).mono ?_
          rintro e w1 ⟨rfl, hJ1⟩
          have HJ1 := Lib.hid hJ1
          clear hJ1 hg1
          go_wp2
          go_roundw
          case rel => exact ⟨i + 1, j + 1, x + 1, by omega, by omega, by go_num, by go_num, HSP, HJ1⟩
          case measure => simp [intOf] <;> omega
        · have g1 : decide (xi ≤ yi) = false := by simp; omega
          have g2 : decide (yi ≤ xi) = true := by simp; omega
          obtain ⟨bi, hbi⟩ : ∃ b, decide ((i) % 2 = 1) = b := ⟨_, rfl⟩
          obtain ⟨bj, hbj⟩ : ∃ b, decide ((j + 1) % 2 = 1) = b := ⟨_, rfl⟩
          have m1 := mod_eq _ _ hbi
          have m2 := mod_eq _ _ hbj
          have hn : Next A B i j y' (i) (j + 1) := HYE.out ▸ Next.right hjb (fun hi => by rw [HXE.out, HYE.out]; have := HXI.out; have := HYI.out; omega)
          have hsp := hn.split HAP.out HBP.out HS.out
          have hq := fun n => HASK.out.2.2 _ _ _ _ _ _ (wr.drewN n) (HASK.out.2.1 _ _ _ _ n HJ.out) HS.out hn
          rw [hbi, hbj, ← HYI.out] at hq
          have hg1 := HG.out
          have HQ := Lib.hid hq
          have HSP := Lib.hid hsp.1
          clear hn hsp hq hbi hbj
          try simp only [Int.natCast_add, Int.natCast_one] at m1 m2
          go_wp2
          go_quiet (fail)
          go_wp2
          go_quiet (fail)
          go_wp2_with fail
          refine (HQ.out _).mono ?_
          rintro e w1 ⟨rfl, hJ1⟩
          have HJ1 := Lib.hid hJ1
          clear hJ1 hg1
          go_wp2
          go_roundw
          case rel => exact ⟨i, j + 1, y' + 1, by omega, by omega, by go_num, by go_num, HSP, HJ1⟩
          case measure => simp [intOf] <;> omega
      · obtain ⟨x, hx⟩ : ∃ x, A[i]? = some x := ⟨_, List.getElem?_eq_getElem hia⟩
        obtain ⟨b1, o1, rfl, c1⟩ := hrA i x hx
        have hxt := HAT.out x (List.mem_of_getElem? hx)
        have hxe : A[i] = x := (List.getElem?_eq_some_iff.1 hx).2
        obtain ⟨xi, hxi⟩ : ∃ z : Int, z = (x : Int) := ⟨_, rfl⟩
        rw [← hxi] at c1
        have HX := Lib.hid hx; have HXE := Lib.hid hxe; have HXI := Lib.hid hxi
        have ia1 : (i : Int) < (A.length : Int) := by omega
        have ia2 : ((i : Int) == (A.length : Int)) = false := by simp; omega
        have ia3 : (0 : Int) ≤ (i : Int) := by omega
        have ia4 : decide ((i : Int) < (A.length : Int)) = true := by simp; omega
        clear hx hxe hxi hrA hrB
        have jb2 : ((j : Int) == (B.length : Int)) = true := by simp; omega
        have jb4 : decide ((j : Int) < (B.length : Int)) = false := by simp; omega
        obtain ⟨bi, hbi⟩ : ∃ b, decide ((i + 1) % 2 = 1) = b := ⟨_, rfl⟩
        obtain ⟨bj, hbj⟩ : ∃ b, decide ((j) % 2 = 1) = b := ⟨_, rfl⟩
        have m1 := mod_eq _ _ hbi
        have m2 := mod_eq _ _ hbj
        have hn : Next A B i j x (i + 1) (j) := HXE.out ▸ Next.left hia (fun hj => absurd hj hjb)
        have hsp := hn.split HAP.out HBP.out HS.out
        have hq := fun n => HASK.out.2.2 _ _ _ _ _ _ (wr.drewN n) (HASK.out.2.1 _ _ _ _ n HJ.out) HS.out hn
        rw [hbi, hbj, ← HXI.out] at hq
        have hg1 := HG.out
        have HQ := Lib.hid hq
        have HSP := Lib.hid hsp.1
        clear hn hsp hq hbi hbj
        try simp only [Int.natCast_add, Int.natCast_one] at m1 m2
        go_wp2
        go_quiet (fail)
        go_wp2
        go_quiet (fail)
        go_wp2_with fail
        refine (HQ.out _).mono ?_
        rintro e w1 ⟨rfl, hJ1⟩
        have HJ1 := Lib.hid hJ1
        clear hJ1 hg1
        go_wp2
        go_roundw
        case rel => exact ⟨i + 1, j, x + 1, by omega, by omega, by go_num, by go_num, HSP, HJ1⟩
        case measure => simp [intOf] <;> omega
    · by_cases hjb : j < B.length
      · obtain ⟨y', hy⟩ : ∃ x, B[j]? = some x := ⟨_, List.getElem?_eq_getElem hjb⟩
        obtain ⟨b2, o2, rfl, c2⟩ := hrB j y' hy
        have hyt := HBT.out y' (List.mem_of_getElem? hy)
        have hye : B[j] = y' := (List.getElem?_eq_some_iff.1 hy).2
        obtain ⟨yi, hyi⟩ : ∃ z : Int, z = (y' : Int) := ⟨_, rfl⟩
        rw [← hyi] at c2
        have HY := Lib.hid hy; have HYE := Lib.hid hye; have HYI := Lib.hid hyi
        have jb1 : (j : Int) < (B.length : Int) := by omega
        have jb2 : ((j : Int) == (B.length : Int)) = false := by simp; omega
        have jb3 : (0 : Int) ≤ (j : Int) := by omega
        have jb4 : decide ((j : Int) < (B.length : Int)) = true := by simp; omega
        clear hy hye hyi hrA hrB
        have ia2 : ((i : Int) == (A.length : Int)) = true := by simp; omega
        have ia4 : decide ((i : Int) < (A.length : Int)) = false := by simp; omega
        obtain ⟨bi, hbi⟩ : ∃ b, decide ((i) % 2 = 1) = b := ⟨_, rfl⟩
        obtain ⟨bj, hbj⟩ : ∃ b, decide ((j + 1) % 2 = 1) = b := ⟨_, rfl⟩
        have m1 := mod_eq _ _ hbi
        have m2 := mod_eq _ _ hbj
        have hn : Next A B i j y' (i) (j + 1) := HYE.out ▸ Next.right hjb (fun hi => absurd hi hia)
        have hsp := hn.split HAP.out HBP.out HS.out
        have hq := fun n => HASK.out.2.2 _ _ _ _ _ _ (wr.drewN n) (HASK.out.2.1 _ _ _ _ n HJ.out) HS.out hn
        rw [hbi, hbj, ← HYI.out] at hq
        have hg1 := HG.out
        have HQ := Lib.hid hq
        have HSP := Lib.hid hsp.1
        clear hn hsp hq hbi hbj
        try simp only [Int.natCast_add, Int.natCast_one] at m1 m2
        go_wp2
        go_quiet (fail)
        go_wp2
        go_quiet (fail)
        go_wp2_with fail
        refine (HQ.out _).mono ?_
        rintro e w1 ⟨rfl, hJ1⟩
        have HJ1 := Lib.hid hJ1
        clear hJ1 hg1
        go_wp2
        go_roundw
        case rel => exact ⟨i, j + 1, y' + 1, by omega, by omega, by go_num, by go_num, HSP, HJ1⟩
        case measure => simp [intOf] <;> omega
      · have e1 : i = A.length := by omega
        have e2 : j = B.length := by omega
        have HS2 : Hid (Split A B A.length B.length y) := Lib.hid (by have := HS.out; rwa [e1, e2] at this)
        have HJ2 : Hid (J A.length B.length y wr) := Lib.hid (by have := HJ.out; rwa [e1, e2] at this)
        clear e1 e2
        go_wp2
        go_end0
        exact ⟨rfl, y, HS2.out, HJ2.out⟩
end Go.Proofs.YtelncpmphgndjaaDoor
