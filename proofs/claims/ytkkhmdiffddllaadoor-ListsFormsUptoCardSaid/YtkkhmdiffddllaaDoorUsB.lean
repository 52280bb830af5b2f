/- slices.reverseRangeOrdered and siftDownOrdered at uint32: what they make of a row. Under the conditions that they name. -/
import Derived.Test.YtkkhmdiffddllaaDoorUsA
namespace Go.Proofs.YtkkhmdiffddllaaDoor
open Go.Shelf Go.RowKit Go.Lib Go.Sort
theorem rl_go (i j : Nat) (d : Array Int) (h : i < j) : reverseLoop i j d = reverseLoop (i + 1) (j - 1) (swp d i j) := by rw [reverseLoop, if_pos h]
theorem rl_end (i j : Nat) (d : Array Int) (h : ¬ i < j) : reverseLoop i j d = d := by rw [reverseLoop, if_neg h]
theorem sd_stop (hi first r : Nat) (d : Array Int) (h : ¬ 2 * r + 1 < hi) : siftDown ltInt hi first r d = d := by rw [siftDown, dif_pos (by omega)]
theorem sd2_no (hi first r : Nat) (d : Array Int) (h : 2 * r + 1 < hi) (h2 : 2 * r + 2 < hi) (l1 : ltInt d[first + (2 * r + 1)]! d[first + (2 * r + 1) + 1]! = true) (l2 : ltInt d[first + r]! d[first + (2 * r + 2)]! = false) : siftDown ltInt hi first r d = d := by
  rw [siftDown, dif_neg (by omega), if_pos (by simp [l1]; omega), if_pos (by simp [l2])]
theorem sd2_yes (hi first r : Nat) (d : Array Int) (h : 2 * r + 1 < hi) (h2 : 2 * r + 2 < hi) (l1 : ltInt d[first + (2 * r + 1)]! d[first + (2 * r + 1) + 1]! = true) (l2 : ltInt d[first + r]! d[first + (2 * r + 2)]! = true) : siftDown ltInt hi first r d = siftDown ltInt hi first (2 * r + 2) (swp d (first + r) (first + (2 * r + 2))) := by
  rw [siftDown, dif_neg (by omega), if_pos (by simp [l1]; omega), if_neg (by simp [l2]), dif_pos h2]
theorem sd1_no (hi first r : Nat) (d : Array Int) (h : 2 * r + 1 < hi) (l1 : ¬ 2 * r + 2 < hi ∨ ltInt d[first + (2 * r + 1)]! d[first + (2 * r + 1) + 1]! = false) (l2 : ltInt d[first + r]! d[first + (2 * r + 1)]! = false) : siftDown ltInt hi first r d = d := by
  rw [siftDown, dif_neg (by omega), if_neg (by rcases l1 with l | l <;> simp [l] <;> omega), if_pos (by simp [l2])]
theorem sd1_yes (hi first r : Nat) (d : Array Int) (h : 2 * r + 1 < hi) (l1 : ¬ 2 * r + 2 < hi ∨ ltInt d[first + (2 * r + 1)]! d[first + (2 * r + 1) + 1]! = false) (l2 : ltInt d[first + r]! d[first + (2 * r + 1)]! = true) : siftDown ltInt hi first r d = siftDown ltInt hi first (2 * r + 1) (swp d (first + r) (first + (2 * r + 1))) := by
  rw [siftDown, dif_neg (by omega), if_neg (by rcases l1 with l | l <;> simp [l] <;> omega), if_neg (by simp [l2])]
set_option maxHeartbeats 2000000 in
set_option maxRecDepth 100000 in
theorem rev_is (blk off cap a b : Nat) (d0 d : Array Int) (w0 w : World) (R : Row1 encW w0 blk off d0) (hs : d.size = d0.size) (S : SW encW w0 blk off d w) (hab : a < b) (hb : b ≤ d.size) (hsz : d.size < 35184372088832) :
    Calls Tryd.prog 46 #[.slice (some ⟨blk, off, none⟩) d.size cap, .int .i64 a, .int .i64 b] w fun e w' => e = .returned (.tuple #[]) ∧ SW encW w0 blk off (reverseRange d a b) w' := by
  have HR := Lib.hid R
  obtain ⟨n, hn⟩ : ∃ n, d.size = n := ⟨_, rfl⟩
  have S0 := Lib.hid S
  rw [hn] at hs hb hsz ⊢
  have HE := Lib.hid hs
  clear R S hs
  go_enter Tryd.func46, Tryd.ntmps46
  go_wp2
  go_loopw [6, 7] (fun vi vj wr => ∃ (i j : Nat) (dk : Array Int), vi = .int .i64 i ∧ vj = .int .i64 j ∧ a ≤ i ∧ j < b ∧ dk.size = n ∧ Hid (SW encW w0 blk off dk wr) ∧ Hid (reverseLoop i j dk = reverseLoop a (b - 1) d)) (fun vi vj _ => (intOf vj - intOf vi).toNat)
  case atStart => exact ⟨a, b - 1, d, rfl, by congr 1; omega, Nat.le_refl _, by omega, hn, S0, Lib.hid rfl⟩
  case round =>
    obtain ⟨i, j, dk, rfl, rfl, hai, hjb, hsk, SK, HO⟩ := hrel
    clear S0
    by_cases hlt : i < j
    · have hltz : (i : Int) < (j : Int) := by omega
      obtain ⟨G, HG, hcw, hfw⟩ := fam SK.out HR.out (by have := HE.out; omega) n hsk
      go_wp2
      go_region
      all_goals go_wp2
      go_roundw
      case rel => exact ⟨i + 1, j - 1, swp dk i j, by go_num, by congr 1; omega, by omega, by omega, by rw [size_swp]; exact hsk, Lib.hid (swapped SK.out HR.out.hblk i j (by omega) (by omega) (HG.out _) (HG.out _)), Lib.hid (by rw [← HO.out, rl_go i j dk hlt])⟩
      case measure => simp [intOf]; omega
    · have hge : ¬ (i : Int) < (j : Int) := by omega
      go_wp2
      go_end0
      exact ⟨rfl, by unfold reverseRange; rw [← HO.out, rl_end i j dk hlt]; exact SK.out⟩
set_option maxHeartbeats 2000000 in
set_option maxRecDepth 100000 in
theorem sift_is (blk off cap lo hi first : Nat) (d0 d : Array Int) (w0 w : World) (R : Row1 encW w0 blk off d0) (hs : d.size = d0.size) (S : SW encW w0 blk off d w) (hlo : lo ≤ hi) (hb : first + hi ≤ d.size) (hsz : d.size < 35184372088832) :
    Calls Tryd.prog 59 #[.slice (some ⟨blk, off, none⟩) d.size cap, .int .i64 lo, .int .i64 hi, .int .i64 first] w fun e w' => e = .returned (.tuple #[]) ∧ SW encW w0 blk off (siftDown ltInt hi first lo d) w' := by
  have HR := Lib.hid R
  obtain ⟨n, hn⟩ : ∃ n, d.size = n := ⟨_, rfl⟩
  have S0 := Lib.hid S
  rw [hn] at hs hb hsz ⊢
  have HE := Lib.hid hs
  clear R S hs
  go_enter Tryd.func59, Tryd.ntmps59
  go_wp2
  go_loopw [8] (fun vi wr => ∃ (r : Nat) (dk : Array Int), vi = .int .i64 r ∧ r ≤ hi ∧ dk.size = n ∧ Hid (SW encW w0 blk off dk wr) ∧ Hid (siftDown ltInt hi first r dk = siftDown ltInt hi first lo d)) (fun vi _ => hi - (intOf vi).toNat)
  case atStart => exact ⟨lo, d, rfl, hlo, hn, S0, Lib.hid rfl⟩
  case round =>
    obtain ⟨r, dk, rfl, hr, hsk, SK, HO⟩ := hrel
    clear S0
    by_cases hc : 2 * r + 1 < hi
    · have hcz : ¬ (hi : Int) ≤ 2 * (r : Int) + 1 := by omega
      obtain ⟨G, HG, hcw, hfw⟩ := fam SK.out HR.out (by have := HE.out; omega) n hsk
      go_wp2
      by_cases hc2 : 2 * r + 2 < hi
      · have hc2z : decide (2 * (r : Int) + 1 + 1 < (hi : Int)) = true := decide_eq_true (by omega)
        have hc2y : 2 * (r : Int) + 1 + 1 < (hi : Int) := by omega
        go_quiet (first | (go_at_call 48; refine Calls.quiet_of_same (less_is _ _ _)))
        go_wp2
        · have l1 : ltInt (G (first + (2 * r + 1))) (G (first + (2 * r + 1) + 1)) = true := by assumption
          have S2 := Lib.hid (SK.out.drewN nq)
          have hSW1 : Hid (∀ t, G t = dk[t]!) := HG
          clear hcw hfw
          generalize wr.drewN nq = w2 at S2 ⊢
          obtain ⟨G2, HG2, hcw2, hfw2⟩ := fam S2.out HR.out (by have := HE.out; omega) n hsk
          go_quiet (first | (go_at_call 48; refine Calls.quiet_of_same (less_is _ _ _)))
          go_wp2
          · have l2 : ltInt (G2 (first + r)) (G2 (first + 2 * r + 2)) = false := by
              have h : (!ltInt (G2 (first + r)) (G2 (first + 2 * r + 2))) = true := by assumption
              simpa using h
            refine bodyPost_ret (results_none rfl _ _ _) rfl ?_
            exact ⟨rfl, by rw [← HO.out, sd2_no hi first r dk hc hc2 (by rw [← HG.out, ← HG.out]; exact l1) (by rw [← HG2.out, ← HG2.out, show first + (2 * r + 2) = first + 2 * r + 2 by omega]; exact l2)]; exact S2.out.drewN _⟩
          · have l2 : ltInt (G2 (first + r)) (G2 (first + 2 * r + 2)) = true := by
              have h : (!ltInt (G2 (first + r)) (G2 (first + 2 * r + 2))) = false := by assumption
              simpa using h
            go_region
            all_goals go_wp2
            go_roundw
            case rel => exact ⟨2 * r + 2, swp dk (first + r) (first + (2 * r + 2)), by first | rfl | go_num | (congr 1; omega), by omega, by rw [size_swp]; exact hsk, Lib.hid (swapped S2.out HR.out.hblk (first + r) (first + (2 * r + 2)) (by omega) (by omega) (HG2.out _) (HG2.out _)), Lib.hid (by rw [← HO.out, sd2_yes hi first r dk hc hc2 (by rw [← HG.out, ← HG.out]; exact l1) (by rw [← HG2.out, ← HG2.out, show first + (2 * r + 2) = first + 2 * r + 2 by omega]; exact l2)])⟩
            case measure => simp [intOf]; omega
        · have l1 : ltInt (G (first + (2 * r + 1))) (G (first + (2 * r + 1) + 1)) = false := by assumption
          have S2 := Lib.hid (SK.out.drewN nq)
          have hSW1 : Hid (∀ t, G t = dk[t]!) := HG
          clear hcw hfw
          generalize wr.drewN nq = w2 at S2 ⊢
          obtain ⟨G2, HG2, hcw2, hfw2⟩ := fam S2.out HR.out (by have := HE.out; omega) n hsk
          go_quiet (first | (go_at_call 48; refine Calls.quiet_of_same (less_is _ _ _)))
          go_wp2
          · have l2 : ltInt (G2 (first + r)) (G2 (first + 2 * r + 1)) = false := by
              have h : (!ltInt (G2 (first + r)) (G2 (first + 2 * r + 1))) = true := by assumption
              simpa using h
            refine bodyPost_ret (results_none rfl _ _ _) rfl ?_
            exact ⟨rfl, by rw [← HO.out, sd1_no hi first r dk hc (.inr (by rw [← HG.out, ← HG.out]; exact l1)) (by rw [← HG2.out, ← HG2.out, show first + (2 * r + 1) = first + 2 * r + 1 by omega]; exact l2)]; exact S2.out.drewN _⟩
          · have l2 : ltInt (G2 (first + r)) (G2 (first + 2 * r + 1)) = true := by
              have h : (!ltInt (G2 (first + r)) (G2 (first + 2 * r + 1))) = false := by assumption
              simpa using h
            go_region
            all_goals go_wp2
            go_roundw
            case rel => exact ⟨2 * r + 1, swp dk (first + r) (first + (2 * r + 1)), by first | rfl | go_num | (congr 1; omega), by omega, by rw [size_swp]; exact hsk, Lib.hid (swapped S2.out HR.out.hblk (first + r) (first + (2 * r + 1)) (by omega) (by omega) (HG2.out _) (HG2.out _)), Lib.hid (by rw [← HO.out, sd1_yes hi first r dk hc (.inr (by rw [← HG.out, ← HG.out]; exact l1)) (by rw [← HG2.out, ← HG2.out, show first + (2 * r + 1) = first + 2 * r + 1 by omega]; exact l2)])⟩
            case measure => simp [intOf]; omega
      · have hc2z : decide (2 * (r : Int) + 1 + 1 < (hi : Int)) = false := decide_eq_false (by omega)
        have hc2y : ¬ 2 * (r : Int) + 1 + 1 < (hi : Int) := by omega
        go_quiet (first | (go_at_call 48; refine Calls.quiet_of_same (less_is _ _ _)))
        go_wp2
        have S2 := Lib.hid (SK.out.drewN nq)
        have hSW1 : Hid (∀ t, G t = dk[t]!) := HG
        clear hcw hfw
        generalize wr.drewN nq = w2 at S2 ⊢
        obtain ⟨G2, HG2, hcw2, hfw2⟩ := fam S2.out HR.out (by have := HE.out; omega) n hsk
        go_quiet (first | (go_at_call 48; refine Calls.quiet_of_same (less_is _ _ _)))
        go_wp2
        · have l2 : ltInt (G2 (first + r)) (G2 (first + 2 * r + 1)) = false := by
            have h : (!ltInt (G2 (first + r)) (G2 (first + 2 * r + 1))) = true := by assumption
            simpa using h
          refine bodyPost_ret (results_none rfl _ _ _) rfl ?_
          exact ⟨rfl, by rw [← HO.out, sd1_no hi first r dk hc (.inl hc2) (by rw [← HG2.out, ← HG2.out, show first + (2 * r + 1) = first + 2 * r + 1 by omega]; exact l2)]; exact S2.out.drewN _⟩
        · have l2 : ltInt (G2 (first + r)) (G2 (first + 2 * r + 1)) = true := by
            have h : (!ltInt (G2 (first + r)) (G2 (first + 2 * r + 1))) = false := by assumption
            simpa using h
          go_region
          all_goals go_wp2
          go_roundw
          case rel => exact ⟨2 * r + 1, swp dk (first + r) (first + (2 * r + 1)), by first | rfl | go_num | (congr 1; omega), by omega, by rw [size_swp]; exact hsk, Lib.hid (swapped S2.out HR.out.hblk (first + r) (first + (2 * r + 1)) (by omega) (by omega) (HG2.out _) (HG2.out _)), Lib.hid (by rw [← HO.out, sd1_yes hi first r dk hc (.inl hc2) (by rw [← HG2.out, ← HG2.out, show first + (2 * r + 1) = first + 2 * r + 1 by omega]; exact l2)])⟩
          case measure => simp [intOf]; omega
    · have hcz : (hi : Int) ≤ 2 * (r : Int) + 1 := by omega
      go_wp2
      go_end0
      exact ⟨rfl, by rw [← HO.out, sd_stop hi first r dk hc]; exact SK.out⟩
end Go.Proofs.YtkkhmdiffddllaaDoor
