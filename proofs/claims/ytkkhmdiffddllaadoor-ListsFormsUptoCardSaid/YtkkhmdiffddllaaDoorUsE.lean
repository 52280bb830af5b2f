/- slices.partitionEqualOrdered at uint32. Under the conditions that it names. -/
import Derived.Test.YtkkhmdiffddllaaDoorUsD
namespace Go.Proofs.YtkkhmdiffddllaaDoor
open Go.Shelf Go.RowKit Go.Lib Go.Sort
set_option maxHeartbeats 2000000 in
set_option maxRecDepth 100000 in
theorem peq_is (blk off cap a b pivot : Nat) (d0 d : Array Int) (w0 w : World) (R : Row1 encW w0 blk off d0) (hs : d.size = d0.size) (S : SW encW w0 blk off d w) (hap : a ≤ pivot) (hpb : pivot < b) (hb : b ≤ d.size) (hsz : d.size < 35184372088832) :
    Calls Tryd.prog 49 #[.slice (some ⟨blk, off, none⟩) d.size cap, .int .i64 a, .int .i64 b, .int .i64 pivot] w fun e w' => e = .returned (.int .i64 (Sort.partitionEqual ltInt d a b pivot).1) ∧ SW encW w0 blk off (Sort.partitionEqual ltInt d a b pivot).2 w' := by
  have HR := Lib.hid R
  obtain ⟨n, hn⟩ : ∃ n, d.size = n := ⟨_, rfl⟩
  have S0 := Lib.hid S
  rw [hn] at hs hb hsz ⊢
  have HE := Lib.hid hs
  clear R S hs
  go_enter Tryd.func49, Tryd.ntmps49
  obtain ⟨jb, hJn⟩ : ∃ jb, jb = b - 1 := ⟨_, rfl⟩
  have hJ : (b : Int) - 1 = (jb : Int) := by omega
  have hjb1 : jb < b := by omega
  have hjb2 : b ≤ jb + 1 := by omega
  have HJ := Lib.hid hJn
  clear hJn
  go_wp2
  obtain ⟨G, HG, hcw, hfw⟩ := fam S0.out HR.out (by have := HE.out; omega) n hn
  have hiN : a < n := by omega
  have hjN : pivot < n := by omega
  obtain ⟨uu, hc2⟩ := held S0.out HR.out (by have := HE.out; omega) a pivot (by omega) (by omega) (.int .u32 (G (pivot)))
  go_region
  have S1 := Lib.hid (swappedD S0.out HR.out.hblk a pivot (by omega) (by omega) (HG.out _) (HG.out _))
  clear hc2 hcw hfw HG
  generalize ((w.setCell ⟨blk, off + (a), none⟩ (.int .u32 (G (pivot)))).setCell ⟨blk, off + (pivot), none⟩ (.int .u32 (G (a)))).drew = w1 at S1 ⊢
  obtain ⟨d1, hd1⟩ : ∃ X, swp d a pivot = X := ⟨_, rfl⟩
  rw [hd1] at S1
  have hsd1 : d1.size = n := by rw [← hd1, size_swp]; exact hn
  have HF : Hid (Sort.partitionEqual ltInt d a b pivot = partEqLoop ltInt a (a + 1) jb d1) := Lib.hid (by unfold Sort.partitionEqual; rw [hd1, HJ.out])
  clear hd1 S0
  go_wp2
  go_loopw [9, 10] (fun vi vj wr => ∃ (i j : Nat) (d4 : Array Int), vi = .int .i64 i ∧ vj = .int .i64 j ∧ a < i ∧ i ≤ j + 1 ∧ j < b ∧ d4.size = n ∧ Hid (SW encW w0 blk off d4 wr) ∧ Hid (partEqLoop ltInt a i j d4 = partEqLoop ltInt a (a + 1) jb d1)) (fun vi vj _ => (intOf vj + 1 - intOf vi).toNat)
  case atStart => exact ⟨a + 1, jb, d1, by go_num, by first | rfl | (congr 1; omega), by omega, by omega, by omega, hsd1, S1, Lib.hid rfl⟩
  case round =>
    obtain ⟨i, j, d4, rfl, rfl, hai, hij1, hjb, hsd4, S4, HL⟩ := hrel
    clear S1
    go_wp2
    go_loopw [9] (fun vi wr => ∃ i2 : Nat, vi = .int .i64 i2 ∧ i ≤ i2 ∧ i2 ≤ j + 1 ∧ Hid (SW encW w0 blk off d4 wr) ∧ Hid (scanUp (fun x => !ltInt d4[a]! x) d4 j i2 = scanUp (fun x => !ltInt d4[a]! x) d4 j i)) (fun vi _ => j + 1 - (intOf vi).toNat)
    case atStart => exact ⟨i, by first | rfl | go_num | (congr 1; omega), by omega, by omega, S4, Lib.hid rfl⟩
    case round =>
      obtain ⟨i2, rfl, hi0i2, hi1i2, SK, HO⟩ := hrel
      clear S4
      obtain ⟨G, HG, hcw, hfw⟩ := fam SK.out HR.out (by have := HE.out; omega) n hsd4
      go_wp2
      go_cut [43] (fun s wx => ∃ t : Bool, s = .bool t ∧ Hid (t = (decide (i2 ≤ j) && !ltInt d4[a]! d4[i2]!)) ∧ Hid (SW encW w0 blk off d4 wx))
      case first =>
        by_cases hij : i2 ≤ j
        · have hijy : ((i2 : Nat) : Int) ≤ ((j : Nat) : Int) := by omega
          have haN : a < n := by omega
          have hiN : i2 < n := by omega
          go_wp2_with fail
          go_big_quiet (first | (go_at_call 48; refine Calls.quiet_of_same (less_is _ _ _)))
          go_wp2_with fail
          go_meet
          exact ⟨_, rfl, Lib.hid (by rw [decide_eq_true hij]; simp [HG.out]), Lib.hid (SK.out.drewN nq)⟩
        · have hijy : ¬ ((i2 : Nat) : Int) ≤ ((j : Nat) : Int) := by omega
          go_wp2_with fail
          go_big_quiet (first | (go_at_call 48; refine Calls.quiet_of_same (less_is _ _ _)))
          go_wp2_with fail
          go_meet
          exact ⟨_, rfl, Lib.hid (by rw [decide_eq_false hij]; rfl), Lib.hid (SK.out.drewN nq)⟩
      case rest =>
        obtain ⟨t, rfl, HT, SX⟩ := hcut
        clear hcw hfw HG
        cases t with
        | true =>
          have hT : i2 ≤ j ∧ (!ltInt d4[a]! d4[i2]!) = true := by have := HT.out; simpa using this.symm
          go_wp2
          go_roundw
          case rel => exact ⟨i2 + 1, by first | go_num | (congr 1; omega), by omega, by omega, SX, Lib.hid (by rw [← HO.out, scanUp_go (fun x => !ltInt d4[a]! x) d4 j i2 hT.1 hT.2])⟩
          case measure => simp [intOf] <;> omega
        | false =>
          have HIi2 : Hid (i2 = scanUp (fun x => !ltInt d4[a]! x) d4 j i) := Lib.hid (by
            have hT : ¬ (i2 ≤ j) ∨ (!ltInt d4[a]! d4[i2]!) = false := by
              have h1 := HT.out
              by_cases h : i2 ≤ j
              · right; rw [decide_eq_true h] at h1; simpa using h1.symm
              · exact .inl h
            rw [← HO.out, scanUp_end (fun x => !ltInt d4[a]! x) d4 j i2 hT])
          clear HT HO SK
          go_wp2
          go_loopw [10] (fun vi wr => ∃ j2 : Nat, vi = .int .i64 j2 ∧ a ≤ j2 ∧ j2 ≤ j ∧ Hid (SW encW w0 blk off d4 wr) ∧ Hid (scanDown (fun x => ltInt d4[a]! x) d4 i2 j2 = scanDown (fun x => ltInt d4[a]! x) d4 i2 j)) (fun vi _ => (intOf vi).toNat)
          case atStart => exact ⟨j, by first | rfl | go_num | (congr 1; omega), by omega, by omega, SX, Lib.hid rfl⟩
          case round =>
            obtain ⟨j2, rfl, hi0j2, hi1j2, SK, HO⟩ := hrel
            clear SX
            obtain ⟨G, HG, hcw, hfw⟩ := fam SK.out HR.out (by have := HE.out; omega) n hsd4
            go_wp2
            go_cut [59] (fun s wx => ∃ t : Bool, s = .bool t ∧ Hid (t = (decide (i2 ≤ j2) && ltInt d4[a]! d4[j2]!)) ∧ Hid (SW encW w0 blk off d4 wx))
            case first =>
              by_cases hij : i2 ≤ j2
              · have hijy : ((i2 : Nat) : Int) ≤ ((j2 : Nat) : Int) := by omega
                have haN : a < n := by omega
                have hiN : j2 < n := by omega
                go_wp2_with fail
                go_big_quiet (first | (go_at_call 48; refine Calls.quiet_of_same (less_is _ _ _)))
                go_wp2_with fail
                go_meet
                exact ⟨_, rfl, Lib.hid (by rw [decide_eq_true hij]; simp [HG.out]), Lib.hid (SK.out.drewN nq)⟩
              · have hijy : ¬ ((i2 : Nat) : Int) ≤ ((j2 : Nat) : Int) := by omega
                go_wp2_with fail
                go_big_quiet (first | (go_at_call 48; refine Calls.quiet_of_same (less_is _ _ _)))
                go_wp2_with fail
                go_meet
                exact ⟨_, rfl, Lib.hid (by rw [decide_eq_false hij]; rfl), Lib.hid (SK.out.drewN nq)⟩
            case rest =>
              obtain ⟨t, rfl, HT, SX⟩ := hcut
              clear hcw hfw HG
              cases t with
              | true =>
                have hT : i2 ≤ j2 ∧ (ltInt d4[a]! d4[j2]!) = true := by have := HT.out; simpa using this.symm
                go_wp2
                go_roundw
                case rel => exact ⟨j2 - 1, by first | go_num | (congr 1; omega), by omega, by omega, SX, Lib.hid (by rw [← HO.out, scanDown_go (fun x => ltInt d4[a]! x) d4 i2 j2 hT.1 (by omega) hT.2])⟩
                case measure => simp [intOf] <;> omega
              | false =>
                have HIj2 : Hid (j2 = scanDown (fun x => ltInt d4[a]! x) d4 i2 j) := Lib.hid (by
                  have hT : ¬ (i2 ≤ j2) ∨ (ltInt d4[a]! d4[j2]!) = false := by
                    have h1 := HT.out
                    by_cases h : i2 ≤ j2
                    · right; rw [decide_eq_true h] at h1; simpa using h1.symm
                    · exact .inl h
                  rw [← HO.out, scanDown_end (fun x => ltInt d4[a]! x) d4 i2 j2 hT])
                clear HT HO SK
                go_wp2
                · have hgt : j2 < i2 := by assumption
                  go_ret
                  have hpl := partEq_break (lt := ltInt) a i j d4 HIi2.out HIj2.out hgt
                  exact ⟨by rw [HF.out, ← HL.out, hpl]; rfl, by rw [HF.out, ← HL.out, hpl]; exact SX.out⟩
                · rename ¬ j2 < i2 => h0
                  have hle : i2 ≤ j2 := by omega
                  clear h0
                  obtain ⟨G, HG, hcw, hfw⟩ := fam SX.out HR.out (by have := HE.out; omega) n hsd4
                  have hiN : i2 < n := by omega
                  have hjN : j2 < n := by omega
                  obtain ⟨uu, hc2⟩ := held SX.out HR.out (by have := HE.out; omega) i2 j2 (by omega) (by omega) (.int .u32 (G (j2)))
                  go_region
                  have S5 := Lib.hid (swappedD SX.out HR.out.hblk i2 j2 (by omega) (by omega) (HG.out _) (HG.out _))
                  clear hc2 hcw hfw HG
                  generalize ((wc.setCell ⟨blk, off + (i2), none⟩ (.int .u32 (G (j2)))).setCell ⟨blk, off + (j2), none⟩ (.int .u32 (G (i2)))).drew = w5 at S5 ⊢
                  go_wp2
                  have hpl := partEq_go (lt := ltInt) a i j d4 HIi2.out HIj2.out (by omega)
                  have hlt := scans_lt (lt := ltInt) a i j d4 (by omega) HIi2.out HIj2.out (by omega)
                  go_roundw
                  case rel => exact ⟨i2 + 1, j2 - 1, swp d4 i2 j2, by go_num, by congr 1; omega, by omega, by omega, by omega, by rw [size_swp]; exact hsd4, S5, Lib.hid (by rw [← HL.out, hpl])⟩
                  case measure => simp [intOf] <;> omega
end Go.Proofs.YtkkhmdiffddllaaDoor
