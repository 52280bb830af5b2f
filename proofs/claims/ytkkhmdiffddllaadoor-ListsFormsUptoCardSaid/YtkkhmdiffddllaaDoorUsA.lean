/- cmp.Less at uint32; a row of uint32 that a sort goes over: its cells, an exchange, draws. Under the conditions that they name. -/
import Derived.Test.YtkkhmdiffddllaaDoorRows
import Derived.Test.YtkkhmdiffddllaaDoorProg
import Derived.Shelf.SlSortCmp.Kit1
import Derived.Sort.WalkA
import Derived.Sort.WalkB2
import Derived.Sort.WalkB12
import Derived.Sort.WalkC
import Derived.IntWalk
import Derived.Deep.RegionWith
import Derived.PlainAid
import Derived.Lib.Hide
namespace Go.Proofs.YtkkhmdiffddllaaDoor
open Go.Shelf Go.RowKit Go.Lib Go.Sort
theorem nan_is (x : Int) (w : World) : Calls Tryd.prog 64 #[.int .u32 x] w fun e w' => e = .returned (.bool false) ∧ w' = w := by
  have hd : (x != x) = false := by simp
  go_enter Tryd.func64, Tryd.ntmps64
  go_wp2
  go_ret
  exact ⟨rfl, rfl⟩
theorem less_is (x y : Int) (w : World) : Calls Tryd.prog 48 #[.int .u32 x, .int .u32 y] w fun e w' => e = .returned (.bool (ltInt x y)) ∧ w' = w := by
  have H1 := Lib.hid (nan_is x w)
  go_enter Tryd.func48, Tryd.ntmps48
  go_wp2_with (first | (go_at_call 64; refine H1.out.mono ?_; rintro e w1 ⟨rfl, rfl⟩))
  go_ret
  exact ⟨rfl, rfl⟩
abbrev encW : Int → Value := Value.int .u32
/-- The row's cells in a world of the sort's. -/
theorem fam {w0 W : World} {blk off : Nat} {d0 dk : Array Int} (S : SW encW w0 blk off dk W) (R : Row1 encW w0 blk off d0) (hs : dk.size = d0.size) (n : Nat) (hn : dk.size = n) :
    ∃ G : Nat → Int, Hid (∀ t, G t = dk[t]!) ∧ (∀ t, t < n → W.cell? ⟨blk, off + t, none⟩ = some (.int .u32 (G t))) ∧ (∀ t, t < n → W.frozen? ⟨blk, off + t, none⟩ = false) :=
  ⟨fun t => dk[t]!, Lib.hid fun _ => rfl, fun t ht => S.c1 R hs t (by omega), fun t ht => S.f1 R hs t (by omega)⟩
/-- An exchange, with draws in whatever place. -/
theorem swapped {w0 W : World} {blk off : Nat} {dk : Array Int} {n : Nat} (S : SW encW w0 blk off dk W) (R : blk < w0.heap.size) (i j : Nat) (hi : i < dk.size) (hj : j < dk.size) {x y : Int} (hx : x = dk[i]!) (hy : y = dk[j]!) :
    SW encW w0 blk off (swp dk i j) ((((W.drewN n).setCell ⟨blk, off + i, none⟩ (.int .u32 y)).setCell ⟨blk, off + j, none⟩ (.int .u32 x))) := by
  subst hx; subst hy
  exact (S.drewN n).swap R i j hi hj
set_option maxHeartbeats 2000000 in
set_option maxRecDepth 100000 in
theorem ins_is (blk off cap a b : Nat) (d0 d : Array Int) (w0 w : World) (R : Row1 encW w0 blk off d0) (hs : d.size = d0.size) (S : SW encW w0 blk off d w) (hab : a ≤ b) (hb : b ≤ d.size) (hsz : d.size < 35184372088832) :
    Calls Tryd.prog 42 #[.slice (some ⟨blk, off, none⟩) d.size cap, .int .i64 a, .int .i64 b] w fun e w' => e = .returned (.tuple #[]) ∧ SW encW w0 blk off (Sort.insertionSort ltInt d a b) w' := by
  have HR := Lib.hid R
  obtain ⟨n, hn⟩ : ∃ n, d.size = n := ⟨_, rfl⟩
  have S0 := Lib.hid S
  rw [hn] at hs hb hsz ⊢
  have HE := Lib.hid hs
  clear R S hs
  go_enter Tryd.func42, Tryd.ntmps42
  go_wp2
  go_loopw [6] (fun vi wr => ∃ (i : Nat) (dk : Array Int), vi = .int .i64 i ∧ a < i ∧ i ≤ b + 1 ∧ dk.size = n ∧ Hid (SW encW w0 blk off dk wr) ∧ Hid (insOuter ltInt a b i dk = insOuter ltInt a b (a + 1) d)) (fun vi _ => b + 1 - (intOf vi).toNat)
  case atStart => exact ⟨a + 1, d, by go_num, by omega, by omega, hn, S0, Lib.hid rfl⟩
  case round =>
    obtain ⟨i, dk, rfl, hai, hib, hsk, SK, HO⟩ := hrel
    clear S0
    by_cases hlt : i < b
    · have hltz : (i : Int) < (b : Int) := by omega
      go_wp2
      go_loopw [7] (fun vj wr2 => ∃ (j : Nat) (dj : Array Int), vj = .int .i64 j ∧ a ≤ j ∧ j ≤ i ∧ dj.size = n ∧ Hid (SW encW w0 blk off dj wr2) ∧ Hid (insInner ltInt a j dj = insInner ltInt a i dk)) (fun vj _ => (intOf vj).toNat)
      case atStart => exact ⟨i, dk, rfl, by omega, Nat.le_refl _, hsk, SK, Lib.hid rfl⟩
      case round =>
        obtain ⟨j, dj, rfl, haj, hji, hsj, SJ, HI⟩ := hrel
        clear SK
        obtain ⟨G, HG, hcw, hfw⟩ := fam SJ.out HR.out (by have := HE.out; omega) n hsj
        have OUT : Hid ((j ≤ a ∨ ltInt dj[j]! dj[j - 1]! = false) → insOuter ltInt a b (i + 1) dj = insOuter ltInt a b (a + 1) d) := Lib.hid fun hs => by
          rw [← HO.out, insOuter_go _ _ _ _ _ hlt, ← HI.out, insInner_stop _ _ _ _ hs]
        go_wp2
        by_cases hja : a < j
        · have hjaz : (a : Int) < (j : Int) := by omega
          have hjd : decide ((j : Int) > (a : Int)) = true := decide_eq_true (by omega)
          go_quiet (first | (go_at_call 48; refine Calls.quiet_of_same (less_is _ _ _)))
          go_wp2
          · have hl : ltInt (G j) (G (j - 1)) = true := by assumption
            go_region
            all_goals go_wp2
            trace_state
            go_roundw
            case rel =>
              refine ⟨j - 1, swp dj j (j - 1), by congr 1; omega, by omega, by omega, by rw [size_swp]; exact hsj, ?_, Lib.hid ?_⟩
              · exact Lib.hid (swapped SJ.out HR.out.hblk j (j - 1) (by omega) (by omega) (HG.out _) (HG.out _))
              · rw [← HI.out, insInner_go ltInt a j dj hja (by rw [← HG.out, ← HG.out]; exact hl)]
            case measure => simp [intOf]; omega
          · have hl : ltInt (G j) (G (j - 1)) = false := by assumption
            go_roundw
            case rel => exact ⟨i + 1, dj, by go_num, by omega, by omega, hsj, Lib.hid (SJ.out.drewN nq), Lib.hid (OUT.out (Or.inr (by rw [← HG.out, ← HG.out]; exact hl)))⟩
            case measure => simp [intOf]; omega
        · have hjaz : ¬ (a : Int) < (j : Int) := by omega
          have hjd : decide ((j : Int) > (a : Int)) = false := decide_eq_false (by omega)
          go_quiet (first | (go_at_call 48; refine Calls.quiet_of_same (less_is _ _ _)))
          go_wp2
          go_roundw
          case rel => exact ⟨i + 1, dj, by go_num, by omega, by omega, hsj, Lib.hid (SJ.out.drewN nq), Lib.hid (OUT.out (Or.inl (by omega)))⟩
          case measure => simp [intOf]; omega
    · have hge : ¬ (i : Int) < (b : Int) := by omega
      go_wp2
      go_end0
      exact ⟨rfl, by unfold Sort.insertionSort; rw [← HO.out, insOuter_stop _ _ _ _ _ hlt]; exact SK.out⟩
end Go.Proofs.YtkkhmdiffddllaaDoor
