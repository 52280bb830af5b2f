/- slices.partitionOrdered at uint32. Under the conditions that it names. -/
import Derived.Test.YtkkhmdiffddllaaDoorUsC
import Derived.Sort.WalkC4
import Derived.Deep.DeepCutAuto
import Derived.BigQuiet
namespace Go.Proofs.YtkkhmdiffddllaaDoor
open Go.Shelf Go.RowKit Go.Lib Go.Sort
/-- The second place of an exchange still holds something behind the first store. -/
theorem held {w0 W : World} {blk off : Nat} {d0 dk : Array Int} (S : SW encW w0 blk off dk W) (R : Row1 encW w0 blk off d0) (hs : dk.size = d0.size) (i j : Nat) (hi : i < dk.size) (hj : j < dk.size) (v : Value) :
    ∃ u, (W.setCell ⟨blk, off + i, none⟩ v).cell? ⟨blk, off + j, none⟩ = some u := S.c2 R hs i j hi hj v
set_option maxHeartbeats 2000000 in
set_option maxRecDepth 100000 in
theorem part_is (blk off cap a b pivot : Nat) (d0 d : Array Int) (w0 w : World) (R : Row1 encW w0 blk off d0) (hs : d.size = d0.size) (S : SW encW w0 blk off d w) (hap : a ≤ pivot) (hpb : pivot < b) (hb : b ≤ d.size) (hsz : d.size < 35184372088832) :
    Calls Tryd.prog 50 #[.slice (some ⟨blk, off, none⟩) d.size cap, .int .i64 a, .int .i64 b, .int .i64 pivot] w fun e w' => e = .returned (.tuple #[.int .i64 (Sort.partition ltInt d a b pivot).1, .bool (Sort.partition ltInt d a b pivot).2.1]) ∧ SW encW w0 blk off (Sort.partition ltInt d a b pivot).2.2 w' := by
  have HR := Lib.hid R
  obtain ⟨n, hn⟩ : ∃ n, d.size = n := ⟨_, rfl⟩
  have S0 := Lib.hid S
  rw [hn] at hs hb hsz ⊢
  have HE := Lib.hid hs
  clear R S hs
  go_enter Tryd.func50, Tryd.ntmps50
  obtain ⟨jb, hJn⟩ : ∃ jb, jb = b - 1 := ⟨_, rfl⟩
  have hJ : (b : Int) - 1 = (jb : Int) := by omega
  have hjb1 : jb < b := by omega
  have hjb2 : b ≤ jb + 1 := by omega
  have HJ := Lib.hid hJn
  clear hJn
  go_wp2
  obtain ⟨G, HG, hcw, hfw⟩ := fam S0.out HR.out (by have := HE.out; omega) n hn
  have hiN : a < n := by omega
  have hjN : pivot < n := by omega
  obtain ⟨uu, hc2⟩ := held S0.out HR.out (by have := HE.out; omega) a pivot (by omega) (by omega) (.int .u32 (G (pivot)))
  go_region
  have S1 := Lib.hid (swappedD S0.out HR.out.hblk a pivot (by omega) (by omega) (HG.out _) (HG.out _))
  clear hc2 hcw hfw HG
  generalize ((w.setCell ⟨blk, off + (a), none⟩ (.int .u32 (G (pivot)))).setCell ⟨blk, off + (pivot), none⟩ (.int .u32 (G (a)))).drew = w1 at S1 ⊢
  obtain ⟨d1, hd1⟩ : ∃ X, swp d a pivot = X := ⟨_, rfl⟩
  rw [hd1] at S1
  have hsd1 : d1.size = n := by rw [← hd1, size_swp]; exact hn
  have HD1 := Lib.hid hd1
  clear hd1 S0
  go_wp2
  go_loopw [10] (fun vi wr => ∃ i1 : Nat, vi = .int .i64 i1 ∧ (a + 1) ≤ i1 ∧ i1 ≤ jb + 1 ∧ Hid (SW encW w0 blk off d1 wr) ∧ Hid (scanUp (fun x => ltInt x d1[a]!) d1 jb i1 = scanUp (fun x => ltInt x d1[a]!) d1 jb (a + 1))) (fun vi _ => jb + 1 - (intOf vi).toNat)
  case atStart => exact ⟨(a + 1), by first | rfl | go_num | (congr 1; omega), by omega, by omega, S1, Lib.hid rfl⟩
  case round =>
    obtain ⟨i1, rfl, hi0i1, hi1i1, SK, HO⟩ := hrel
    clear S1
    obtain ⟨G, HG, hcw, hfw⟩ := fam SK.out HR.out (by have := HE.out; omega) n hsd1
    go_wp2
    go_cut [43] (fun s wx => ∃ t : Bool, s = .bool t ∧ Hid (t = (decide (i1 ≤ jb) && ltInt d1[i1]! d1[a]!)) ∧ Hid (SW encW w0 blk off d1 wx))
    case first =>
      by_cases hij : i1 ≤ jb
      · have hijy : ((i1 : Nat) : Int) ≤ ((jb : Nat) : Int) := by omega
        have haN : a < n := by omega
        have hiN : i1 < n := by omega
        go_wp2_with fail
        go_big_quiet (first | (go_at_call 48; refine Calls.quiet_of_same (less_is _ _ _)))
        go_wp2_with fail
        go_meet
        exact ⟨_, rfl, Lib.hid (by rw [decide_eq_true hij]; simp [HG.out]), Lib.hid (SK.out.drewN nq)⟩
      · have hijy : ¬ ((i1 : Nat) : Int) ≤ ((jb : Nat) : Int) := by omega
        go_wp2_with fail
        go_big_quiet (first | (go_at_call 48; refine Calls.quiet_of_same (less_is _ _ _)))
        go_wp2_with fail
        go_meet
        exact ⟨_, rfl, Lib.hid (by rw [decide_eq_false hij]; rfl), Lib.hid (SK.out.drewN nq)⟩
    case rest =>
      obtain ⟨t, rfl, HT, SX⟩ := hcut
      clear hcw hfw HG
      cases t with
      | true =>
        have hT : i1 ≤ jb ∧ (ltInt d1[i1]! d1[a]!) = true := by have := HT.out; simpa using this.symm
        go_wp2
        go_roundw
        case rel => exact ⟨i1 + 1, by first | go_num | (congr 1; omega), by omega, by omega, SX, Lib.hid (by rw [← HO.out, scanUp_go (fun x => ltInt x d1[a]!) d1 jb i1 hT.1 hT.2])⟩
        case measure => simp [intOf] <;> omega
      | false =>
        have HIi1 : Hid (i1 = scanUp (fun x => ltInt x d1[a]!) d1 jb (a + 1)) := Lib.hid (by
          have hT : ¬ (i1 ≤ jb) ∨ (ltInt d1[i1]! d1[a]!) = false := by
            have h1 := HT.out
            by_cases h : i1 ≤ jb
            · right; rw [decide_eq_true h] at h1; simpa using h1.symm
            · exact .inl h
          rw [← HO.out, scanUp_end (fun x => ltInt x d1[a]!) d1 jb i1 hT])
        clear HT HO SK
        go_wp2
        go_loopw [11] (fun vi wr => ∃ j1 : Nat, vi = .int .i64 j1 ∧ a ≤ j1 ∧ j1 ≤ jb ∧ Hid (SW encW w0 blk off d1 wr) ∧ Hid (scanDown (fun x => !ltInt x d1[a]!) d1 i1 j1 = scanDown (fun x => !ltInt x d1[a]!) d1 i1 jb)) (fun vi _ => (intOf vi).toNat)
        case atStart => exact ⟨jb, by first | rfl | go_num | (congr 1; omega), by omega, by omega, SX, Lib.hid rfl⟩
        case round =>
          obtain ⟨j1, rfl, hi0j1, hi1j1, SK, HO⟩ := hrel
          clear SX
          obtain ⟨G, HG, hcw, hfw⟩ := fam SK.out HR.out (by have := HE.out; omega) n hsd1
          go_wp2
          go_cut [60] (fun s wx => ∃ t : Bool, s = .bool t ∧ Hid (t = (decide (i1 ≤ j1) && !ltInt d1[j1]! d1[a]!)) ∧ Hid (SW encW w0 blk off d1 wx))
          case first =>
            by_cases hij : i1 ≤ j1
            · have hijy : ((i1 : Nat) : Int) ≤ ((j1 : Nat) : Int) := by omega
              have haN : a < n := by omega
              have hiN : j1 < n := by omega
              go_wp2_with fail
              go_big_quiet (first | (go_at_call 48; refine Calls.quiet_of_same (less_is _ _ _)))
              go_wp2_with fail
              go_meet
              exact ⟨_, rfl, Lib.hid (by rw [decide_eq_true hij]; simp [HG.out]), Lib.hid (SK.out.drewN nq)⟩
            · have hijy : ¬ ((i1 : Nat) : Int) ≤ ((j1 : Nat) : Int) := by omega
              go_wp2_with fail
              go_big_quiet (first | (go_at_call 48; refine Calls.quiet_of_same (less_is _ _ _)))
              go_wp2_with fail
              go_meet
              exact ⟨_, rfl, Lib.hid (by rw [decide_eq_false hij]; rfl), Lib.hid (SK.out.drewN nq)⟩
          case rest =>
            obtain ⟨t, rfl, HT, SX⟩ := hcut
            clear hcw hfw HG
            cases t with
            | true =>
              have hT : i1 ≤ j1 ∧ (!ltInt d1[j1]! d1[a]!) = true := by have := HT.out; simpa using this.symm
              go_wp2
              go_roundw
              case rel => exact ⟨j1 - 1, by first | go_num | (congr 1; omega), by omega, by omega, SX, Lib.hid (by rw [← HO.out, scanDown_go (fun x => !ltInt x d1[a]!) d1 i1 j1 hT.1 (by omega) hT.2])⟩
              case measure => simp [intOf] <;> omega
            | false =>
              have HIj1 : Hid (j1 = scanDown (fun x => !ltInt x d1[a]!) d1 i1 jb) := Lib.hid (by
                have hT : ¬ (i1 ≤ j1) ∨ (!ltInt d1[j1]! d1[a]!) = false := by
                  have h1 := HT.out
                  by_cases h : i1 ≤ j1
                  · right; rw [decide_eq_true h] at h1; simpa using h1.symm
                  · exact .inl h
                rw [← HO.out, scanDown_end (fun x => !ltInt x d1[a]!) d1 i1 j1 hT])
              clear HT HO SK
              go_wp2
              · have hgt : j1 < i1 := by assumption
                obtain ⟨G, HG, hcw, hfw⟩ := fam SX.out HR.out (by have := HE.out; omega) n hsd1
                have hiN : j1 < n := by omega
                have hjN : a < n := by omega
                obtain ⟨uu, hc2⟩ := held SX.out HR.out (by have := HE.out; omega) j1 a (by omega) (by omega) (.int .u32 (G (a)))
                go_region
                have S5 := Lib.hid (swappedD SX.out HR.out.hblk j1 a (by omega) (by omega) (HG.out _) (HG.out _))
                clear hc2 hcw hfw HG
                generalize ((wc.setCell ⟨blk, off + (j1), none⟩ (.int .u32 (G (a)))).setCell ⟨blk, off + (a), none⟩ (.int .u32 (G (j1)))).drew = w5 at S5 ⊢
                go_wp2
                go_ret2
                have hpl := part_first_break (lt := ltInt) d a b pivot (i := a + 1) (j := jb) (dk := d1) rfl HJ.out HD1.out.symm HIi1.out HIj1.out hgt
                exact ⟨by rw [hpl]; rfl, by rw [hpl]; exact S5.out⟩
              · rename ¬ j1 < i1 => h0
                have hle : i1 ≤ j1 := by omega
                clear h0
                obtain ⟨G, HG, hcw, hfw⟩ := fam SX.out HR.out (by have := HE.out; omega) n hsd1
                have hiN : i1 < n := by omega
                have hjN : j1 < n := by omega
                obtain ⟨uu, hc2⟩ := held SX.out HR.out (by have := HE.out; omega) i1 j1 (by omega) (by omega) (.int .u32 (G (j1)))
                go_region
                have S3 := Lib.hid (swappedD SX.out HR.out.hblk i1 j1 (by omega) (by omega) (HG.out _) (HG.out _))
                clear hc2 hcw hfw HG
                generalize ((wc.setCell ⟨blk, off + (i1), none⟩ (.int .u32 (G (j1)))).setCell ⟨blk, off + (j1), none⟩ (.int .u32 (G (i1)))).drew = w3 at S3 ⊢
                have hpl := part_first_go (lt := ltInt) d a b pivot (i := a + 1) (j := jb) (dk := d1) rfl HJ.out HD1.out.symm HIi1.out HIj1.out (by omega)
                have hlt := part_scans_lt (lt := ltInt) a (a + 1) jb d1 (by omega) HIi1.out HIj1.out (by omega)
                obtain ⟨d3, hd3⟩ : ∃ X, swp d1 i1 j1 = X := ⟨_, rfl⟩
                rw [hd3] at S3 hpl
                have hsd3 : d3.size = n := by rw [← hd3, size_swp]; exact hsd1
                have HF := Lib.hid hpl
                clear hpl hd3
                go_wp2
                go_loopw [10, 11] (fun vi vj wr => ∃ (i j : Nat) (d4 : Array Int), vi = .int .i64 i ∧ vj = .int .i64 j ∧ a < i ∧ i ≤ j + 1 ∧ j < b ∧ d4.size = n ∧ Hid (SW encW w0 blk off d4 wr) ∧ Hid (partLoop ltInt a i j d4 = partLoop ltInt a (i1 + 1) (j1 - 1) d3)) (fun vi vj _ => (intOf vj + 1 - intOf vi).toNat)
                case atStart => exact ⟨i1 + 1, j1 - 1, d3, by go_num, by congr 1; omega, by omega, by omega, by omega, hsd3, S3, Lib.hid rfl⟩
                case round =>
                  obtain ⟨i, j, d4, rfl, rfl, hai, hij1, hjb, hsd4, S4, HL⟩ := hrel
                  clear S3
                  go_wp2
                  go_loopw [10] (fun vi wr => ∃ i2 : Nat, vi = .int .i64 i2 ∧ i ≤ i2 ∧ i2 ≤ j + 1 ∧ Hid (SW encW w0 blk off d4 wr) ∧ Hid (scanUp (fun x => ltInt x d4[a]!) d4 j i2 = scanUp (fun x => ltInt x d4[a]!) d4 j i)) (fun vi _ => j + 1 - (intOf vi).toNat)
                  case atStart => exact ⟨i, by first | rfl | go_num | (congr 1; omega), by omega, by omega, S4, Lib.hid rfl⟩
                  case round =>
                    obtain ⟨i2, rfl, hi0i2, hi1i2, SK, HO⟩ := hrel
                    clear S4
                    obtain ⟨G, HG, hcw, hfw⟩ := fam SK.out HR.out (by have := HE.out; omega) n hsd4
                    go_wp2
                    go_cut [112] (fun s wx => ∃ t : Bool, s = .bool t ∧ Hid (t = (decide (i2 ≤ j) && ltInt d4[i2]! d4[a]!)) ∧ Hid (SW encW w0 blk off d4 wx))
                    case first =>
                      by_cases hij : i2 ≤ j
                      · have hijy : ((i2 : Nat) : Int) ≤ ((j : Nat) : Int) := by omega
                        have haN : a < n := by omega
                        have hiN : i2 < n := by omega
                        go_wp2_with fail
                        go_big_quiet (first | (go_at_call 48; refine Calls.quiet_of_same (less_is _ _ _)))
                        go_wp2_with fail
                        go_meet
                        exact ⟨_, rfl, Lib.hid (by rw [decide_eq_true hij]; simp [HG.out]), Lib.hid (SK.out.drewN nq)⟩
                      · have hijy : ¬ ((i2 : Nat) : Int) ≤ ((j : Nat) : Int) := by omega
                        go_wp2_with fail
                        go_big_quiet (first | (go_at_call 48; refine Calls.quiet_of_same (less_is _ _ _)))
                        go_wp2_with fail
                        go_meet
                        exact ⟨_, rfl, Lib.hid (by rw [decide_eq_false hij]; rfl), Lib.hid (SK.out.drewN nq)⟩
                    case rest =>
                      obtain ⟨t, rfl, HT, SX⟩ := hcut
                      clear hcw hfw HG
                      cases t with
                      | true =>
                        have hT : i2 ≤ j ∧ (ltInt d4[i2]! d4[a]!) = true := by have := HT.out; simpa using this.symm
                        go_wp2
                        go_roundw
                        case rel => exact ⟨i2 + 1, by first | go_num | (congr 1; omega), by omega, by omega, SX, Lib.hid (by rw [← HO.out, scanUp_go (fun x => ltInt x d4[a]!) d4 j i2 hT.1 hT.2])⟩
                        case measure => simp [intOf] <;> omega
                      | false =>
                        have HIi2 : Hid (i2 = scanUp (fun x => ltInt x d4[a]!) d4 j i) := Lib.hid (by
                          have hT : ¬ (i2 ≤ j) ∨ (ltInt d4[i2]! d4[a]!) = false := by
                            have h1 := HT.out
                            by_cases h : i2 ≤ j
                            · right; rw [decide_eq_true h] at h1; simpa using h1.symm
                            · exact .inl h
                          rw [← HO.out, scanUp_end (fun x => ltInt x d4[a]!) d4 j i2 hT])
                        clear HT HO SK
                        go_wp2
                        go_loopw [11] (fun vi wr => ∃ j2 : Nat, vi = .int .i64 j2 ∧ a ≤ j2 ∧ j2 ≤ j ∧ Hid (SW encW w0 blk off d4 wr) ∧ Hid (scanDown (fun x => !ltInt x d4[a]!) d4 i2 j2 = scanDown (fun x => !ltInt x d4[a]!) d4 i2 j)) (fun vi _ => (intOf vi).toNat)
                        case atStart => exact ⟨j, by first | rfl | go_num | (congr 1; omega), by omega, by omega, SX, Lib.hid rfl⟩
                        case round =>
                          obtain ⟨j2, rfl, hi0j2, hi1j2, SK, HO⟩ := hrel
                          clear SX
                          obtain ⟨G, HG, hcw, hfw⟩ := fam SK.out HR.out (by have := HE.out; omega) n hsd4
                          go_wp2
                          go_cut [129] (fun s wx => ∃ t : Bool, s = .bool t ∧ Hid (t = (decide (i2 ≤ j2) && !ltInt d4[j2]! d4[a]!)) ∧ Hid (SW encW w0 blk off d4 wx))
                          case first =>
                            by_cases hij : i2 ≤ j2
                            · have hijy : ((i2 : Nat) : Int) ≤ ((j2 : Nat) : Int) := by omega
                              have haN : a < n := by omega
                              have hiN : j2 < n := by omega
                              go_wp2_with fail
                              go_big_quiet (first | (go_at_call 48; refine Calls.quiet_of_same (less_is _ _ _)))
                              go_wp2_with fail
                              go_meet
                              exact ⟨_, rfl, Lib.hid (by rw [decide_eq_true hij]; simp [HG.out]), Lib.hid (SK.out.drewN nq)⟩
                            · have hijy : ¬ ((i2 : Nat) : Int) ≤ ((j2 : Nat) : Int) := by omega
                              go_wp2_with fail
                              go_big_quiet (first | (go_at_call 48; refine Calls.quiet_of_same (less_is _ _ _)))
                              go_wp2_with fail
                              go_meet
                              exact ⟨_, rfl, Lib.hid (by rw [decide_eq_false hij]; rfl), Lib.hid (SK.out.drewN nq)⟩
                          case rest =>
                            obtain ⟨t, rfl, HT, SX⟩ := hcut
                            clear hcw hfw HG
                            cases t with
                            | true =>
                              have hT : i2 ≤ j2 ∧ (!ltInt d4[j2]! d4[a]!) = true := by have := HT.out; simpa using this.symm
                              go_wp2
                              go_roundw
                              case rel => exact ⟨j2 - 1, by first | go_num | (congr 1; omega), by omega, by omega, SX, Lib.hid (by rw [← HO.out, scanDown_go (fun x => !ltInt x d4[a]!) d4 i2 j2 hT.1 (by omega) hT.2])⟩
                              case measure => simp [intOf] <;> omega
                            | false =>
                              have HIj2 : Hid (j2 = scanDown (fun x => !ltInt x d4[a]!) d4 i2 j) := Lib.hid (by
                                have hT : ¬ (i2 ≤ j2) ∨ (!ltInt d4[j2]! d4[a]!) = false := by
                                  have h1 := HT.out
                                  by_cases h : i2 ≤ j2
                                  · right; rw [decide_eq_true h] at h1; simpa using h1.symm
                                  · exact .inl h
                                rw [← HO.out, scanDown_end (fun x => !ltInt x d4[a]!) d4 i2 j2 hT])
                              clear HT HO SK
                              go_wp2
                              · have hgt : j2 < i2 := by assumption
                                obtain ⟨G, HG, hcw, hfw⟩ := fam SX.out HR.out (by have := HE.out; omega) n hsd4
                                have hiN : j2 < n := by omega
                                have hjN : a < n := by omega
                                obtain ⟨uu, hc2⟩ := held SX.out HR.out (by have := HE.out; omega) j2 a (by omega) (by omega) (.int .u32 (G (a)))
                                go_region
                                have S5 := Lib.hid (swappedD SX.out HR.out.hblk j2 a (by omega) (by omega) (HG.out _) (HG.out _))
                                clear hc2 hcw hfw HG
                                generalize ((wc.setCell ⟨blk, off + (j2), none⟩ (.int .u32 (G (a)))).setCell ⟨blk, off + (a), none⟩ (.int .u32 (G (j2)))).drew = w5 at S5 ⊢
                                go_wp2
                                go_ret2
                                have hpl := part_break (lt := ltInt) a i j d4 HIi2.out HIj2.out hgt
                                exact ⟨by rw [HF.out, ← HL.out, hpl]; rfl, by rw [HF.out, ← HL.out, hpl]; exact S5.out⟩
                              · rename ¬ j2 < i2 => h0
                                have hle : i2 ≤ j2 := by omega
                                clear h0
                                obtain ⟨G, HG, hcw, hfw⟩ := fam SX.out HR.out (by have := HE.out; omega) n hsd4
                                have hiN : i2 < n := by omega
                                have hjN : j2 < n := by omega
                                obtain ⟨uu, hc2⟩ := held SX.out HR.out (by have := HE.out; omega) i2 j2 (by omega) (by omega) (.int .u32 (G (j2)))
                                go_region
                                have S5 := Lib.hid (swappedD SX.out HR.out.hblk i2 j2 (by omega) (by omega) (HG.out _) (HG.out _))
                                clear hc2 hcw hfw HG
                                generalize ((wc.setCell ⟨blk, off + (i2), none⟩ (.int .u32 (G (j2)))).setCell ⟨blk, off + (j2), none⟩ (.int .u32 (G (i2)))).drew = w5 at S5 ⊢
                                go_wp2
                                have hpl := part_go (lt := ltInt) a i j d4 HIi2.out HIj2.out (by omega)
                                have hlt := part_scans_lt (lt := ltInt) a i j d4 (by omega) HIi2.out HIj2.out (by omega)
                                go_roundw
                                case rel => exact ⟨i2 + 1, j2 - 1, swp d4 i2 j2, by go_num, by congr 1; omega, by omega, by omega, by omega, by rw [size_swp]; exact hsd4, S5, Lib.hid (by rw [← HL.out, hpl])⟩
                                case measure => simp [intOf] <;> omega
end Go.Proofs.YtkkhmdiffddllaaDoor
