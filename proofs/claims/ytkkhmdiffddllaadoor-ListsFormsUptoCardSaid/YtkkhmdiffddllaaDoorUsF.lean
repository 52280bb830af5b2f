/- slices.partialInsertionSortOrdered at uint32. Under the conditions that it names. -/
import Derived.Test.YtkkhmdiffddllaaDoorUsD
import Derived.Sort.WalkA6
namespace Go.Proofs.YtkkhmdiffddllaaDoor
open Go.Shelf Go.RowKit Go.Lib Go.Sort
theorem fixDown_yes (a i : Nat) (d : Array Int) (h : 2 ≤ i - a) : fixDown ltInt a i d = shiftDown ltInt (i - 1) d := if_pos h
theorem fixDown_no (a i : Nat) (d : Array Int) (h : ¬ 2 ≤ i - a) : fixDown ltInt a i d = d := if_neg h
theorem fixUp_yes (b i : Nat) (d : Array Int) (h : 2 ≤ b - i) : fixUp ltInt b i d = shiftUp ltInt b (i + 1) d := if_pos h
theorem fixUp_no (b i : Nat) (d : Array Int) (h : ¬ 2 ≤ b - i) : fixUp ltInt b i d = d := if_neg h
set_option maxHeartbeats 2000000 in
set_option maxRecDepth 100000 in
theorem pins_is (blk off cap a b : Nat) (d0 d : Array Int) (w0 w : World) (R : Row1 encW w0 blk off d0) (hs : d.size = d0.size) (S : SW encW w0 blk off d w) (hab : a < b) (hb : b ≤ d.size) (hsz : d.size < 35184372088832) :
    Calls Tryd.prog 47 #[.slice (some ⟨blk, off, none⟩) d.size cap, .int .i64 a, .int .i64 b] w fun e w' => e = .returned (.bool (partialInsertionSort ltInt d a b).2) ∧ SW encW w0 blk off (partialInsertionSort ltInt d a b).1 w' := by
  have HR := Lib.hid R
  obtain ⟨n, hn⟩ : ∃ n, d.size = n := ⟨_, rfl⟩
  have S0 := Lib.hid S
  rw [hn] at hs hb hsz ⊢
  have HE := Lib.hid hs
  clear R S hs
  go_enter Tryd.func47, Tryd.ntmps47
  go_wp2
  go_loopw [7, 8] (fun vi vj wr => ∃ (i j : Nat) (dk : Array Int), vi = .int .i64 i ∧ vj = .int .i64 j ∧ a < i ∧ i ≤ b ∧ j ≤ 5 ∧ dk.size = n ∧ Hid (SW encW w0 blk off dk wr) ∧ Hid (partialIns ltInt a b (5 - j) i dk = partialIns ltInt a b 5 (a + 1) d)) (fun vi vj _ => 5 - (intOf vj).toNat)
  case atStart => exact ⟨a + 1, 0, d, by go_num, rfl, by omega, by omega, by omega, hn, S0, Lib.hid rfl⟩
  case round =>
    obtain ⟨i, j, dk, rfl, rfl, hai, hib, hj5, hsdk, S1, HL⟩ := hrel
    clear S0
    by_cases hj : j < 5
    · have hjz : (j : Int) < 5 := by omega
      go_wp2
      go_loopw [7] (fun vi wr => ∃ i2 : Nat, vi = .int .i64 i2 ∧ i ≤ i2 ∧ i2 ≤ b ∧ Hid (SW encW w0 blk off dk wr) ∧ Hid (scanSorted ltInt dk b i2 = scanSorted ltInt dk b i)) (fun vi _ => b - (intOf vi).toNat)
      case atStart => exact ⟨i, rfl, Nat.le_refl _, hib, S1, Lib.hid rfl⟩
      case round =>
        obtain ⟨i2, rfl, hi0, hi1, SK, HO⟩ := hrel
        clear S1
        obtain ⟨G, HG, hcw, hfw⟩ := fam SK.out HR.out (by have := HE.out; omega) n hsdk
        go_wp2
        go_cut [32] (fun s wx => ∃ t : Bool, s = .bool t ∧ Hid (t = (decide (i2 < b) && !ltInt dk[i2]! dk[i2 - 1]!)) ∧ Hid (SW encW w0 blk off dk wx))
        case first =>
          by_cases hij : i2 < b
          · have hijy : ((i2 : Nat) : Int) < ((b : Nat) : Int) := by omega
            have hiN : i2 < n := by omega
            go_wp2_with fail
            go_big_quiet (first | (go_at_call 48; refine Calls.quiet_of_same (less_is _ _ _)))
            go_wp2_with fail
            go_meet
            exact ⟨_, rfl, Lib.hid (by rw [decide_eq_true hij]; simp [HG.out]), Lib.hid (SK.out.drewN nq)⟩
          · have hijy : ¬ ((i2 : Nat) : Int) < ((b : Nat) : Int) := by omega
            go_wp2_with fail
            go_big_quiet (first | (go_at_call 48; refine Calls.quiet_of_same (less_is _ _ _)))
            go_wp2_with fail
            go_meet
            exact ⟨_, rfl, Lib.hid (by rw [decide_eq_false hij]; rfl), Lib.hid (SK.out.drewN nq)⟩
        case rest =>
          obtain ⟨t, rfl, HT, SX⟩ := hcut
          clear hcw hfw HG
          cases t with
          | true =>
            have hT : i2 < b ∧ ltInt dk[i2]! dk[i2 - 1]! = false := by have := HT.out; simpa using this.symm
            go_wp2
            go_roundw
            case rel => exact ⟨i2 + 1, by go_num, by omega, by omega, SX, Lib.hid (by rw [← HO.out, scanSorted_go (lt := ltInt) dk b i2 hT.1 hT.2])⟩
            case measure => simp [intOf] <;> omega
          | false =>
            have HI : Hid (i2 = scanSorted ltInt dk b i) := Lib.hid (by
              have hT : ¬ i2 < b ∨ ltInt dk[i2]! dk[i2 - 1]! = true := by
                have h1 := HT.out
                by_cases h : i2 < b
                · right; rw [decide_eq_true h] at h1; simpa using h1.symm
                · exact .inl h
              rw [← HO.out, scanSorted_stop (lt := ltInt) dk b i2 hT])
            clear HT HO SK
            obtain ⟨s5, hs5⟩ : ∃ s5, 5 - j = s5 + 1 := ⟨4 - j, by omega⟩
            have HP : Hid (partialIns ltInt a b 5 (a + 1) d = if i2 = b then (dk, true) else if b - a < 50 then (dk, false) else partialIns ltInt a b s5 i2 (fixUp ltInt b i2 (fixDown ltInt a i2 (swp dk i2 (i2 - 1))))) := Lib.hid (by rw [← HL.out, hs5, partialIns_succ, ← HI.out])
            have HS5 := Lib.hid hs5
            clear HL HI hs5
            by_cases heq : i2 = b
            · have heqz : ((i2 : Nat) : Int) = ((b : Nat) : Int) := by omega
              have heqb : (((i2 : Nat) : Int) == ((b : Nat) : Int)) = true := by simpa using heqz
              go_wp2
              go_ret
              exact ⟨by unfold partialInsertionSort; rw [HP.out, if_pos heq]; rfl, by unfold partialInsertionSort; rw [HP.out, if_pos heq]; exact SX.out⟩
            · have heqb : (((i2 : Nat) : Int) == ((b : Nat) : Int)) = false := by simp; omega
              have hi2b : i2 < b := by omega
              have HQ : Hid (partialIns ltInt a b 5 (a + 1) d = if b - a < 50 then (dk, false) else partialIns ltInt a b s5 i2 (fixUp ltInt b i2 (fixDown ltInt a i2 (swp dk i2 (i2 - 1))))) := Lib.hid (by rw [HP.out, if_neg heq])
              clear HP heq
              by_cases h50 : b - a < 50
              · have h50z : (b : Int) - (a : Int) < 50 := by omega
                go_wp2
                go_ret
                exact ⟨by unfold partialInsertionSort; rw [HQ.out, if_pos h50]; rfl, by unfold partialInsertionSort; rw [HQ.out, if_pos h50]; exact SX.out⟩
              · have h50z : ¬ (b : Int) - (a : Int) < 50 := by omega
                have HV : Hid (partialIns ltInt a b 5 (a + 1) d = partialIns ltInt a b s5 i2 (fixUp ltInt b i2 (fixDown ltInt a i2 (swp dk i2 (i2 - 1))))) := Lib.hid (by rw [HQ.out, if_neg h50])
                clear HQ
                go_wp2
                obtain ⟨G, HG, hcw, hfw⟩ := fam SX.out HR.out (by have := HE.out; omega) n hsdk
                have hiN : i2 < n := by omega
                go_region
                have S3 := Lib.hid (swappedD SX.out HR.out.hblk i2 (i2 - 1) (by omega) (by omega) (HG.out _) (HG.out _))
                clear hcw hfw HG
                generalize ((wc.setCell ⟨blk, off + i2, none⟩ (.int .u32 (G (i2 - 1)))).setCell ⟨blk, off + (i2 - 1), none⟩ (.int .u32 (G i2))).drew = w3 at S3 ⊢
                obtain ⟨d2, hd2⟩ : ∃ X, swp dk i2 (i2 - 1) = X := ⟨_, rfl⟩
                rw [hd2] at S3
                have hsd2 : d2.size = n := by rw [← hd2, size_swp]; exact hsdk
                have HV2 : Hid (partialIns ltInt a b 5 (a + 1) d = partialIns ltInt a b s5 i2 (fixUp ltInt b i2 (fixDown ltInt a i2 d2))) := Lib.hid (by rw [← hd2]; exact HV.out)
                clear HV SX hd2
                go_upto_if 61 with fail
                go_cut [7] (fun s wx => s = .int .i64 i2 ∧ Hid (SW encW w0 blk off (fixDown ltInt a i2 d2) wx) ∧ (fixDown ltInt a i2 d2).size = n)
                case first =>
                  by_cases h2 : 2 ≤ i2 - a
                  · have h2z : (2 : Int) ≤ (i2 : Int) - (a : Int) := by omega
                    go_wp2
                    go_loopw [9] (fun vi wr => ∃ (j3 : Nat) (d3 : Array Int), vi = .int .i64 j3 ∧ j3 ≤ i2 - 1 ∧ d3.size = n ∧ Hid (SW encW w0 blk off d3 wr) ∧ Hid (shiftDown ltInt j3 d3 = shiftDown ltInt (i2 - 1) d2)) (fun vi _ => (intOf vi).toNat)
                    case atStart => exact ⟨(i2 - 1), d2, by first | rfl | go_num | (congr 1; omega), by omega, hsd2, S3, Lib.hid rfl⟩
                    case round =>
                      obtain ⟨j3, d3, rfl, hi0, hs3, SK, HO⟩ := hrel
                      clear S3
                      by_cases hj1 : 1 ≤ j3
                      · have hjz : (1 : Int) ≤ (j3 : Int) := by omega
                        have hjn : j3 < n := by omega
                        obtain ⟨G, HG, hcw, hfw⟩ := fam SK.out HR.out (by have := HE.out; omega) n hs3
                        go_wp2
                        go_quiet (first | (go_at_call 48; refine Calls.quiet_of_same (less_is _ _ _)))
                        go_wp2
                        · have l2 : ltInt (G j3) (G (j3 - 1)) = false := by
                            have h : (!ltInt (G j3) (G (j3 - 1))) = true := by assumption
                            simpa using h
                          go_meet
                          exact ⟨rfl, Lib.hid (by rw [fixDown_yes a i2 d2 h2, ← HO.out, shiftDown_stop (lt := ltInt) j3 d3 (.inr (by rw [← HG.out, ← HG.out]; exact l2))]; exact SK.out.drewN nq), by rw [fixDown_yes a i2 d2 h2, ← HO.out, shiftDown_stop (lt := ltInt) j3 d3 (.inr (by rw [← HG.out, ← HG.out]; exact l2))]; exact hs3⟩
                        · have l2 : ltInt (G j3) (G (j3 - 1)) = true := by
                            have h : (!ltInt (G j3) (G (j3 - 1))) = false := by assumption
                            simpa using h
                          go_region
                          all_goals go_wp2
                          go_roundw
                          case rel => exact ⟨j3 - 1, swp d3 j3 (j3 - 1), by first | go_num | (congr 1; omega), by omega, by rw [size_swp]; exact hs3, Lib.hid (swapped SK.out HR.out.hblk j3 (j3 - 1) (by omega) (by omega) (HG.out _) (HG.out _)), Lib.hid (by rw [← HO.out, shiftDown_go (lt := ltInt) j3 d3 hj1 (by rw [← HG.out, ← HG.out]; exact l2)])⟩
                          case measure => simp [intOf] <;> omega
                      · have hjz : ¬ (1 : Int) ≤ (j3 : Int) := by omega
                        go_wp2
                        go_meet
                        exact ⟨rfl, Lib.hid (by rw [fixDown_yes a i2 d2 h2, ← HO.out, shiftDown_stop (lt := ltInt) j3 d3 (.inl (by omega))]; exact SK.out), by rw [fixDown_yes a i2 d2 h2, ← HO.out, shiftDown_stop (lt := ltInt) j3 d3 (.inl (by omega))]; exact hs3⟩
                  · have h2z : ¬ (2 : Int) ≤ (i2 : Int) - (a : Int) := by omega
                    go_wp2
                    go_meet
                    exact ⟨rfl, by rw [fixDown_no a i2 d2 h2]; exact S3, by rw [fixDown_no a i2 d2 h2]; exact hsd2⟩
                case rest =>
                  obtain ⟨rfl, S4, hs4'⟩ := hcut
                  obtain ⟨d4, hd4⟩ : ∃ X, fixDown ltInt a i2 d2 = X := ⟨_, rfl⟩
                  rw [hd4] at S4 hs4'
                  have hsd4 : d4.size = n := hs4'
                  have HV4 : Hid (partialIns ltInt a b 5 (a + 1) d = partialIns ltInt a b s5 i2 (fixUp ltInt b i2 d4)) := Lib.hid (by rw [← hd4]; exact HV2.out)
                  clear hd4 HV2 S3 hs4'
                  by_cases h2 : 2 ≤ b - i2
                  · have h2z : (2 : Int) ≤ (b : Int) - (i2 : Int) := by omega
                    go_wp2
                    go_loopw [10] (fun vi wr => ∃ (j3 : Nat) (d3 : Array Int), vi = .int .i64 j3 ∧ i2 + 1 ≤ j3 ∧ d3.size = n ∧ Hid (SW encW w0 blk off d3 wr) ∧ Hid (shiftUp ltInt b j3 d3 = shiftUp ltInt b (i2 + 1) d4)) (fun vi _ => b - (intOf vi).toNat)
                    case atStart => exact ⟨(i2 + 1), d4, by first | rfl | go_num | (congr 1; omega), by omega, hsd4, S4, Lib.hid rfl⟩
                    case round =>
                      obtain ⟨j3, d3, rfl, hi0, hs3, SK, HO⟩ := hrel
                      clear S4
                      by_cases hj1 : j3 < b
                      · have hjz : (j3 : Int) < (b : Int) := by omega
                        have hjn : j3 < n := by omega
                        obtain ⟨G, HG, hcw, hfw⟩ := fam SK.out HR.out (by have := HE.out; omega) n hs3
                        go_wp2
                        go_quiet (first | (go_at_call 48; refine Calls.quiet_of_same (less_is _ _ _)))
                        go_wp2
                        · have l2 : ltInt (G j3) (G (j3 - 1)) = false := by
                            have h : (!ltInt (G j3) (G (j3 - 1))) = true := by assumption
                            simpa using h
                          go_roundw
                          case rel => exact ⟨i2, j + 1, d3, rfl, by go_num, by omega, by omega, by omega, hs3, Lib.hid (SK.out.drewN nq), Lib.hid (by rw [show 5 - (j + 1) = s5 by have := HS5.out; omega, HV4.out, fixUp_yes b i2 d4 h2, ← HO.out, shiftUp_stop (lt := ltInt) b j3 d3 (.inr (by rw [← HG.out, ← HG.out]; exact l2))])⟩
                          case measure => simp [intOf] <;> omega
                        · have l2 : ltInt (G j3) (G (j3 - 1)) = true := by
                            have h : (!ltInt (G j3) (G (j3 - 1))) = false := by assumption
                            simpa using h
                          go_region
                          all_goals go_wp2
                          go_roundw
                          case rel => exact ⟨j3 + 1, swp d3 j3 (j3 - 1), by first | go_num | (congr 1; omega), by omega, by rw [size_swp]; exact hs3, Lib.hid (swapped SK.out HR.out.hblk j3 (j3 - 1) (by omega) (by omega) (HG.out _) (HG.out _)), Lib.hid (by rw [← HO.out, shiftUp_go (lt := ltInt) b j3 d3 hj1 (by rw [← HG.out, ← HG.out]; exact l2)])⟩
                          case measure => simp [intOf] <;> omega
                      · have hjz : ¬ (j3 : Int) < (b : Int) := by omega
                        go_wp2
                        go_roundw
                        case rel => exact ⟨i2, j + 1, d3, rfl, by go_num, by omega, by omega, by omega, hs3, Lib.hid (SK.out), Lib.hid (by rw [show 5 - (j + 1) = s5 by have := HS5.out; omega, HV4.out, fixUp_yes b i2 d4 h2, ← HO.out, shiftUp_stop (lt := ltInt) b j3 d3 (.inl (by omega))])⟩
                        case measure => simp [intOf] <;> omega
                  · have h2z : ¬ (2 : Int) ≤ (b : Int) - (i2 : Int) := by omega
                    go_wp2
                    go_roundw
                    case rel => exact ⟨i2, j + 1, d4, rfl, by go_num, by omega, by omega, by omega, hsd4, S4, Lib.hid (by rw [show 5 - (j + 1) = s5 by have := HS5.out; omega, HV4.out, fixUp_no b i2 d4 h2])⟩
                    case measure => simp [intOf] <;> omega
    · have hjz : ¬ (j : Int) < 5 := by omega
      have hj0 : 5 - j = 0 := by omega
      go_wp2
      go_ret
      have hz : partialIns ltInt a b 5 (a + 1) d = (dk, false) := by rw [← HL.out, hj0]; rfl
      exact ⟨by unfold partialInsertionSort; rw [hz]; rfl, by unfold partialInsertionSort; rw [hz]; exact S1.out⟩
end Go.Proofs.YtkkhmdiffddllaaDoor
