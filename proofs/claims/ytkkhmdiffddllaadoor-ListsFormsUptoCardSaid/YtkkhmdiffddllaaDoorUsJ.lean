/- slices.pdqsortOrdered at uint32: it sorts. Under the conditions that it names. -/
import Derived.Test.YtkkhmdiffddllaaDoorUsC
import Derived.Test.YtkkhmdiffddllaaDoorUsE
import Derived.Test.YtkkhmdiffddllaaDoorUsF
import Derived.Test.YtkkhmdiffddllaaDoorUsH
import Derived.Test.YtkkhmdiffddllaaDoorUsI
import Derived.Sort.LotD3
import Derived.Sort.LotB
import Derived.Sort.LotC
namespace Go.Proofs.YtkkhmdiffddllaaDoor
open Go.Shelf Go.RowKit Go.Lib Go.Sort
/-- What a sort of the part from a to b owes. -/
def Done (a b : Nat) (d R : Array Int) : Prop := PermIn a b d R ∧ SortedIn ltInt a b R
theorem Done.size {a b : Nat} {d R : Array Int} (h : Done a b d R) : R.size = d.size := h.1.1
set_option maxHeartbeats 4000000 in
set_option maxRecDepth 100000 in
theorem pdq_is : ∀ (N blk off cap a b limit : Nat) (d0 d : Array Int) (w0 w : World), b - a < N → Row1 encW w0 blk off d0 → d.size = d0.size → SW encW w0 blk off d w → a ≤ b → b ≤ d.size → d.size < 35184372088832 → limit < 1000 → Go.Sort.Below ltInt a b d →
    Calls Tryd.prog 29 #[.slice (some ⟨blk, off, none⟩) d.size cap, .int .i64 a, .int .i64 b, .int .i64 limit] w fun e w' => e = .returned (.tuple #[]) ∧ ∃ R, SW encW w0 blk off R w' ∧ Done a b d R := by
  intro N
  induction N with
  | zero => intro _ _ _ _ _ _ _ _ _ _ h; exact absurd h (Nat.not_lt_zero _)
  | succ N ih =>
    intro blk off cap a b limit d0 d w0 w hN R hs S hab hb hsz hlimit hBel
    have HR := Lib.hid R
    obtain ⟨n, hn⟩ : ∃ n, d.size = n := ⟨_, rfl⟩
    have S0 := Lib.hid S
    have IH := Lib.hid ih
    have HBel := Lib.hid hBel
    rw [hn] at hs hb hsz ⊢
    have HE := Lib.hid hs
    clear R S hs ih hBel
    go_enter Tryd.func29, Tryd.ntmps29
    go_wp2
    go_loopw [1, 2, 3, 8, 9] (fun s1 s2 s3 s8 s9 wr => ∃ (a' b' lim : Nat) (wb wp : Bool) (dk : Array Int), s1 = .int .i64 a' ∧ s2 = .int .i64 b' ∧ s3 = .int .i64 lim ∧ s8 = .bool wb ∧ s9 = .bool wp ∧
      a' ≤ b' ∧ b' ≤ n ∧ b' - a' ≤ N ∧ lim < 1000 ∧ dk.size = n ∧ Hid (Go.Sort.Below ltInt a' b' dk) ∧ Hid (SW encW w0 blk off dk wr) ∧ Hid (∀ R, Done a' b' dk R → Done a b d R)) (fun s1 s2 _ _ _ _ => (intOf s2 - intOf s1).toNat)
    case atStart => exact ⟨a, b, limit, true, true, d, rfl, rfl, rfl, rfl, rfl, hab, hb, by omega, hlimit, hn, HBel, S0, Lib.hid fun _ h => h⟩
    case round =>
      obtain ⟨a', b', lim, wb, wp, dk, rfl, rfl, rfl, rfl, rfl, hab', hb', hk, hlim, hsk, HB, SK, HG0⟩ := hrel
      clear S0 HBel
      by_cases h12 : b' - a' ≤ 12
      · have h12z : (b' : Int) - (a' : Int) ≤ 12 := by omega
        have C := Lib.hid (ins_is blk off cap a' b' d0 dk w0 wr HR.out (by rw [hsk]; exact HE.out) SK.out hab' (by omega) (by omega))
        rw [hsk] at C
        go_wp2_with (first | (go_at_call 42; refine C.out.mono ?_; rintro e w1 ⟨rfl, hw1⟩))
        refine bodyPost_ret (results_none rfl _ _ _) rfl ?_
        exact ⟨rfl, _, hw1, HG0.out _ (insertionSort_holds swo_ltInt dk a' b' hab' (by omega))⟩
      · have h12z : ¬ ((b' : Int) - (a' : Int) ≤ 12) := by omega
        by_cases hl0 : lim = 0
        · subst hl0
          have C := Lib.hid (heap_is blk off cap a' b' d0 dk w0 wr HR.out (by rw [hsk]; exact HE.out) SK.out (by omega) (by omega) (by omega))
          rw [hsk] at C
          go_wp2_with (first | (go_at_call 43; refine C.out.mono ?_; rintro e w1 ⟨rfl, hw1⟩))
          refine bodyPost_ret (results_none rfl _ _ _) rfl ?_
          exact ⟨rfl, _, hw1, HG0.out _ (heapSort_holds swo_ltInt dk a' b' hab' (by omega))⟩
        · have hl0z : ((lim : Int) == 0) = false := by simp; omega
          have hl0y : ¬ ((lim : Int) = 0) := by omega
          go_upto_if 35 with fail
          go_cut [3] (fun s3 wx => ∃ (l1 : Nat) (d1 : Array Int), s3 = .int .i64 l1 ∧ l1 < 1000 ∧ Hid (SW encW w0 blk off d1 wx) ∧ Hid (PermIn a' b' dk d1))
          case first =>
            cases wb with
            | false =>
              have C := Lib.hid (brk_is blk off cap a' b' d0 dk w0 wr HR.out (by rw [hsk]; exact HE.out) SK.out (by omega) (by omega) (by omega))
              rw [hsk] at C
              go_wp2_with (first | (go_at_call 44; refine C.out.mono ?_; rintro e w1 ⟨rfl, hw1⟩))
              go_meet
              exact ⟨lim - 1, _, by congr 1; omega, by omega, Lib.hid hw1, Lib.hid (breakPatterns_holds dk a' b' hab' (by omega))⟩
            | true =>
              go_wp2_with fail
              go_meet
              exact ⟨lim, dk, rfl, hlim, SK, Lib.hid (permIn_refl dk a' b')⟩
          case rest =>
            obtain ⟨l1, d1, rfl, hl1, S1, P1⟩ := hcut
            have hs1 : d1.size = n := P1.out.1.trans hsk
            clear SK
            obtain ⟨p, hp⟩ : ∃ p, (choosePivot ltInt d1 a' b').1 = p := ⟨_, rfl⟩
            obtain ⟨hc, hhc⟩ : ∃ hc, hintCode (choosePivot ltInt d1 a' b').2 = hc := ⟨_, rfl⟩
            have hpr := choosePivot_holds ltInt d1 a' b' (by omega)
            have C := Lib.hid (piv_is blk off cap a' b' d0 d1 w0 wc HR.out (by rw [hs1]; exact HE.out) S1.out (by omega) (by omega) (by omega))
            rw [hs1, hp, hhc] at C
            rw [hp] at hpr
            clear hp hhc S1
            go_upto_if 50 with (first | (go_at_call 45; refine C.out.mono ?_; rintro e w1 ⟨rfl, hw1⟩))
            have S2 := Lib.hid hw1
            clear hw1
            go_cut [11, 12] (fun s11 s12 wx => ∃ (p2 : Nat) (h2 : Int) (d2 : Array Int), s11 = .int .i64 p2 ∧ s12 = .int .i64 h2 ∧ a' ≤ p2 ∧ p2 < b' ∧ Hid (SW encW w0 blk off d2 wx) ∧ Hid (PermIn a' b' dk d2))
            case first =>
              by_cases hdec : hc = 2
              · subst hdec
                have C2 := Lib.hid (rev_is blk off cap a' b' d0 d1 w0 w1 HR.out (by rw [hs1]; exact HE.out) S2.out (by omega) (by omega) (by omega))
                rw [hs1] at C2
                go_wp2_with (first | (go_at_call 46; refine C2.out.mono ?_; rintro e w2 ⟨rfl, hw2⟩))
                go_meet
                exact ⟨(b' - 1) - (p - a'), 1, _, by congr 1; omega, rfl, by omega, by omega, Lib.hid hw2, Lib.hid (permIn_trans _ _ _ a' b' P1.out (reverseRange_holds d1 a' b' hab' (by omega)))⟩
              · have hdz : (hc == 2) = false := by simpa using hdec
                go_wp2_with fail
                go_meet
                exact ⟨p, hc, d1, rfl, rfl, hpr.1, hpr.2, S2, P1⟩
            case rest =>
              obtain ⟨p2, h2, d2, rfl, rfl, hp2a, hp2b, S3, P2⟩ := hcut
              have hs2 : d2.size = n := P2.out.1.trans hsk
              have HB2 : Hid (Go.Sort.Below ltInt a' b' d2) := Lib.hid (HB.out.perm (by omega) P2.out)
              clear S2 hpr P1
              have HPI := Lib.hid (partialInsertionSort_holds swo_ltInt d2 a' b' (by omega) (by omega) HB2.out)
              go_upto_region 15 with fail
              go_cut [8, 9, 68] (fun s8 s9 s wx => s8 = .bool wb ∧ s9 = .bool wp ∧ ∃ t : Bool, s = .bool t ∧ Hid (SW encW w0 blk off d2 wx))
              case first =>
                go_wp2_with fail
                all_goals
                  go_meet
                  exact ⟨by simp_all, by simp_all, _, rfl, S3⟩
              case rest =>
              obtain ⟨rfl, rfl, t0, rfl, S3'⟩ := hcut
              go_upto_if 68 with fail
              go_cut [] (fun wx => ∃ (d3 : Array Int), Hid (SW encW w0 blk off d3 wx) ∧ Hid (PermIn a' b' dk d3))
              case first =>
                have C := Lib.hid (pins_is blk off cap a' b' d0 d2 w0 wc HR.out (by rw [hs2]; exact HE.out) S3'.out (by omega) (by omega) (by omega))
                rw [hs2] at C
                obtain ⟨t, ht⟩ : ∃ t, (partialInsertionSort ltInt d2 a' b').2 = t := ⟨_, rfl⟩
                rw [ht] at C
                cases t0 with
                | true =>
                  cases t with
                  | true =>
                    go_wp2_with (first | (go_at_call 47; refine C.out.mono ?_; rintro e w1 ⟨rfl, hw1⟩))
                    refine bodyPost_ret (results_none rfl _ _ _) rfl ?_
                    exact ⟨rfl, _, hw1, HG0.out _ ⟨permIn_trans _ _ _ a' b' P2.out HPI.out.1, HPI.out.2 ht⟩⟩
                  | false =>
                    go_wp2_with (first | (go_at_call 47; refine C.out.mono ?_; rintro e w1 ⟨rfl, hw1⟩))
                    go_meet
                    exact ⟨_, Lib.hid hw1, Lib.hid (permIn_trans _ _ _ a' b' P2.out HPI.out.1)⟩
                | false =>
                  go_wp2_with fail
                  go_meet
                  exact ⟨d2, S3', P2⟩
              case rest =>
                obtain ⟨d3, S4, P3⟩ := hcut
                have hs3 : d3.size = n := P3.out.1.trans hsk
                have HB3 : Hid (Go.Sort.Below ltInt a' b' d3) := Lib.hid (HB.out.perm (by omega) P3.out)
                clear S3 S3' HB2 HPI P2
                obtain ⟨G, HG, hcw, hfw⟩ := fam S4.out HR.out (by have := HE.out; omega) n hs3
                go_wp2_with fail
                go_cut [87] (fun s wx => ∃ t : Bool, s = .bool t ∧ Hid (t = (decide (0 < a') && !ltInt d3[a' - 1]! d3[p2]!)) ∧ Hid (SW encW w0 blk off d3 wx))
                case first =>
                  have hpn : p2 < n := by omega
                  by_cases h0 : 0 < a'
                  · have h0z : (a' : Int) > 0 := by omega
                    have han : a' - 1 < n := by omega
                    go_wp2_with fail
                    go_big_quiet (first | (go_at_call 48; refine Calls.quiet_of_same (less_is _ _ _)))
                    go_wp2_with fail
                    go_meet
                    exact ⟨_, rfl, Lib.hid (by rw [decide_eq_true h0]; simp [HG.out]), Lib.hid (S4.out.drewN nq)⟩
                  · have h0z : ¬ (a' : Int) > 0 := by omega
                    go_wp2_with fail
                    go_big_quiet (first | (go_at_call 48; refine Calls.quiet_of_same (less_is _ _ _)))
                    go_wp2_with fail
                    go_meet
                    exact ⟨_, rfl, Lib.hid (by rw [decide_eq_false h0]; rfl), Lib.hid (S4.out.drewN nq)⟩
                case rest =>
                  obtain ⟨t, rfl, HT, S5⟩ := hcut
                  clear hcw hfw HG S4
                  cases t with
                  | true =>
                    have hT : 0 < a' ∧ ltInt d3[a' - 1]! d3[p2]! = false := by have := HT.out; simpa using this.symm
                    obtain ⟨mid, d4, hx⟩ : ∃ x y, partitionEqual ltInt d3 a' b' p2 = (x, y) := ⟨_, _, rfl⟩
                    obtain ⟨m1, m2, m3, m4, m5⟩ := round_eq swo_ltInt (partitionEqual_holds ltInt) hT.1 hp2a hp2b (by omega) HB3.out hT.2 hx
                    have C := Lib.hid (peq_is blk off cap a' b' p2 d0 d3 w0 wc HR.out (by rw [hs3]; exact HE.out) S5.out hp2a hp2b (by omega) (by omega))
                    rw [hs3, hx] at C
                    have hs4 : d4.size = n := m3.trans hs3
                    have HM4 := Lib.hid m4
                    have HM5 := Lib.hid m5
                    clear hx hT HT S5 m3 m4 m5 HB3
                    go_wp2_with (first | (go_at_call 49; refine C.out.mono ?_; rintro e w1 ⟨rfl, hw1⟩))
                    go_roundw
                    case rel => exact ⟨mid, b', l1, wb, wp, d4, rfl, rfl, rfl, rfl, rfl, m2, hb', by omega, hl1, hs4, HM4, Lib.hid hw1, Lib.hid fun R hR => HG0.out R (by
                      have h := HM5.out R hR.1 hR.2
                      exact ⟨permIn_trans _ _ _ a' b' P3.out h.1, h.2⟩)⟩
                    case measure => simp [intOf] <;> omega
                  | false =>
                    obtain ⟨mid, ap, d4, hx⟩ : ∃ x y z, Sort.partition ltInt d3 a' b' p2 = (x, y, z) := ⟨_, _, _, rfl⟩
                    obtain ⟨m1, m2, m3, m4, m5, m6, m7⟩ := round_part swo_ltInt (partition_holds ltInt) hp2a hp2b (by omega) HB3.out hx
                    have C := Lib.hid (part_is blk off cap a' b' p2 d0 d3 w0 wc HR.out (by rw [hs3]; exact HE.out) S5.out hp2a hp2b (by omega) (by omega))
                    rw [hs3, hx] at C
                    have hs4 : d4.size = n := m3.trans hs3
                    have HM4 := Lib.hid m4
                    have HM5 := Lib.hid m5
                    have HM6 := Lib.hid m6
                    have HM7 := Lib.hid m7
                    clear hx HT S5 m3 m4 m5 m6 m7 HB3
                    by_cases hlr : mid - a' < b' - mid
                    · have hlrz : (mid : Int) - (a' : Int) < (b' : Int) - (mid : Int) := by omega
                      go_wp2_with (first | (go_at_call 50; refine C.out.mono ?_; rintro e w1 ⟨rfl, hw1⟩))
                      trace_state
                      have CI := Lib.hid (IH.out blk off cap a' mid l1 d0 d4 w0 w1 (by omega) HR.out (by rw [hs4]; exact HE.out) hw1 m1 (by omega) (by omega) hl1 HM4.out)
                      rw [hs4] at CI
                      clear hw1
                      go_at_call 29
                      (with_reducible refine CI.out.mono ?_)
                      rintro e w2 ⟨rfl, R1, hw2, hD⟩
                      have HD := Lib.hid hD
                      have SR := Lib.hid hw2
                      clear hD hw2
                      go_wp2_with fail
                      go_roundw
                      case rel => exact ⟨mid + 1, b', l1, _, ap, R1, by go_num, rfl, rfl, rfl, rfl, by omega, hb', by omega, hl1, HD.out.size.trans hs4, Lib.hid (HM6.out R1 HD.out.1 HD.out.2).1, SR, Lib.hid fun R hR => HG0.out R (by
                        have h := (HM6.out R1 HD.out.1 HD.out.2).2 R hR.1 hR.2
                        exact ⟨permIn_trans _ _ _ a' b' P3.out h.1, h.2⟩)⟩
                      case measure => simp [intOf] <;> omega
                    · have hlrz : ¬ ((mid : Int) - (a' : Int) < (b' : Int) - (mid : Int)) := by omega
                      go_wp2_with (first | (go_at_call 50; refine C.out.mono ?_; rintro e w1 ⟨rfl, hw1⟩))
                      have hmz : ((mid + 1 : Nat) : Int) = (mid : Int) + 1 := by omega
                      have CI := Lib.hid (IH.out blk off cap (mid + 1) b' l1 d0 d4 w0 w1 (by omega) HR.out (by rw [hs4]; exact HE.out) hw1 (by omega) (by omega) (by omega) hl1 HM5.out)
                      rw [hs4, hmz] at CI
                      clear hw1
                      go_at_call 29
                      (with_reducible refine CI.out.mono ?_)
                      rintro e w2 ⟨rfl, R1, hw2, hD⟩
                      have HD := Lib.hid hD
                      have SR := Lib.hid hw2
                      clear hD hw2
                      go_wp2_with fail
                      go_roundw
                      case rel => exact ⟨a', mid, l1, _, ap, R1, rfl, rfl, rfl, rfl, rfl, m1, by omega, by omega, hl1, HD.out.size.trans hs4, Lib.hid (HM7.out R1 HD.out.1 HD.out.2).1, SR, Lib.hid fun R hR => HG0.out R (by
                        have h := (HM7.out R1 HD.out.1 HD.out.2).2 R hR.1 hR.2
                        exact ⟨permIn_trans _ _ _ a' b' P3.out h.1, h.2⟩)⟩
                      case measure => simp [intOf] <;> omega
end Go.Proofs.YtkkhmdiffddllaaDoor
