/- What the reference's Cover hands back: what covers the tree of all prefixes that may be. Under the conditions that it names. -/
import Derived.Test.YtodfimnmbfdicaaTuB
import Derived.Test.YtodfimnmbfdicaaTwB
import Derived.Deep.QuietTactic
namespace Go.Proofs.Ytodfimnmbfdicaa
open Go.RowKit Go.Shelf
attribute [local go_sem] Oper.semAt_some
def lenOf : Value → Nat
  | .slice _ n _ => n
  | _ => 0
def wiAt (R : List Kv) (i k : Nat) : Bool := match R[i]?, R[k]? with
  | some x, some y => wiB x.1.1 x.1.2 y.1.1 y.1.2
  | _, _ => false
def innB (R : List Kv) (i : Nat) : Nat → Bool
  | 0 => false
  | k + 1 => innB R i k || (decide (k ≠ i) && wiAt R i k)
theorem innB_iff {R : List Kv} {i : Nat} : innB R i R.length = true ↔ Inner R i := by
  have key : ∀ k, innB R i k = true ↔ ∃ m, m < k ∧ m ≠ i ∧ wiAt R i m = true := by
    intro k
    induction k with
    | zero => simp [innB]
    | succ k ih =>
      simp only [innB, Bool.or_eq_true, Bool.and_eq_true, decide_eq_true_eq, ih]
      constructor
      · rintro (⟨m, h1, h2⟩ | ⟨h1, h2⟩)
        · exact ⟨m, by omega, h2⟩
        · exact ⟨k, by omega, h1, h2⟩
      · rintro ⟨m, h1, h2, h3⟩
        rcases Nat.lt_succ_iff_lt_or_eq.1 h1 with h | rfl
        · exact .inl ⟨m, h, h2, h3⟩
        · exact .inr ⟨h2, h3⟩
  rw [key]
  unfold Inner wiAt
  constructor
  · rintro ⟨m, h1, h2, h3⟩
    cases hx : R[i]? with
    | none => rw [hx] at h3; simp at h3
    | some x =>
      cases hy : R[m]? with
      | none => rw [hx, hy] at h3; simp at h3
      | some y => rw [hx, hy] at h3; exact ⟨m, x, y, h2, rfl, hy, h3⟩
  · rintro ⟨m, x, y, h1, h2, h3, h4⟩
    exact ⟨m, (List.getElem?_eq_some_iff.1 h3).1, h1, by rw [h2, h3]; exact h4⟩
/-- Where the passes stand. -/
structure CvJ (w : World) (l : List (Int × Int)) (R : List Kv) (v : Value) (W : World) : Prop where
  rd : RdK encRow 3 W v R
  srt : Srt R
  pf : AllPf (pfs R)
  len : R.length ≤ 80
  cov : ∀ x, Cov (pfs R) x ↔ Cov (pfs (putAll l)) x
  bel : Below w.heap.size w W
/-- Where one pass stands. -/
structure PsJ (wo : World) (R : List Kv) (i : Nat) (N : List Kv) (tn : Bool) (v : Value) (W : World) : Prop where
  own : W.ownsRow wo.heap.size 77 3 v N.length (flatK encRow N)
  pass : PassI R i N tn
  bel : Below wo.heap.size wo W
set_option maxRecDepth 100000 in
set_option maxHeartbeats 16000000 in
theorem rcover_is (l : List (Int × Int)) (lv : Value) (w : World) (hr : RdK encP 2 w lv l) (hl : l.length ≤ 80) (hrg : ∀ x ∈ l, 0 ≤ x.1 ∧ x.1 < 4294967296) :
    Calls Try.prog 21 #[lv] w fun e w' => ∃ v', e = .returned v' ∧ RdK encP 2 w' v' (Tr.cover (build l)) ∧ Below w.heap.size w w' := by
  have HL := Lib.hid hr; have HRG := Lib.hid hrg
  obtain ⟨p, c, rfl, hlc, hcm, _⟩ := hr.sl
  unfold maxLen at hcm
  clear hr hrg
  go_enter Try.func21, Try.ntmps21
  go_wp2_with fail
  go_loopw [3, 4] (fun s3 s4 wr => ∃ j : Nat, j ≤ l.length ∧ s4 = .int .i64 j ∧ Hid (RdK encRow 3 wr s3 (putAll (l.take j))) ∧ Hid (Below w.heap.size w wr)) (fun _ s4 _ => l.length - (intOf s4).toNat)
  case atStart => exact ⟨0, Nat.zero_le _, rfl, Lib.hid (RdK.nil _), Lib.hid (Below.refl _ _)⟩
  case round =>
    obtain ⟨j, hj, rfl, HR, HB⟩ := hrel
    have e1 : (0 : Int) ≤ (j : Int) := by omega
    by_cases hlt : j < l.length
    · obtain ⟨⟨x0, x1⟩, hx⟩ : ∃ x, l[j]? = some x := ⟨_, List.getElem?_eq_getElem hlt⟩
      obtain ⟨b, o, c', he, hbl, hcx⟩ := rd_cells HL.out hx
      simp only [Value.slice.injEq] at he
      obtain ⟨rfl, -, rfl⟩ := he
      obtain ⟨f0, f1⟩ := hcx wr HB.out
      simp only at f0 f1
      have hrx := HRG.out _ (List.mem_of_getElem? hx)
      have HX := Lib.hid hx
      have e2 : (j : Int) < (l.length : Int) := by omega
      have hpl := (putAll_ok (l.take j) (fun p hp => HRG.out p (List.mem_of_mem_take hp))).2.2.1
      have HPL := Lib.hid (show (putAll (l.take j)).length ≤ 100000 by rw [List.length_take] at hpl; omega)
      clear hcx hx hbl hpl
      go_wp2_with fail
      go_at_call 12
      refine (rput_is _ _ x0 x1 0 wr HR.out HPL.out hrx.1 hrx.2).mono ?_
      rintro e w2 ⟨v', rfl, hr2, hb2⟩
      have HR2 := Lib.hid hr2; have HB2 := Lib.hid (Below.step HB.out hb2)
      clear hr2 hb2
      go_wp2_with fail
      go_roundw
      case rel => exact ⟨j + 1, by omega, by go_num, by rw [putAll_step HX.out]; exact HR2, HB2⟩
      case measure => simp [intOf]; omega
    · have hjl : j = l.length := by omega
      subst hjl
      have hd : decide ((l.length : Int) < (l.length : Int)) = false := by simp
      have hr := HR.out
      rw [List.take_length] at hr
      obtain ⟨q1, q2, q3, _⟩ := putAll_ok l HRG.out
      have HCV : Hid (CvJ w l (putAll l) u3 wr) := Lib.hid ⟨hr, q1, q2, by omega, fun x => Iff.rfl, HB.out⟩
      clear hr q1 q2 q3 HR HB
      go_wp2_with fail
      go_loopw [3] (fun s3 wr => ∃ R, Hid (CvJ w l R s3 wr) ∧ lenOf s3 = R.length) (fun s3 _ => lenOf s3)
      case atStart =>
        obtain ⟨pp, cc, hpc, _⟩ := HCV.out.rd.sl
        exact ⟨putAll l, HCV, by rw [hpc]; rfl⟩
      case round =>
        obtain ⟨R, HC, hlen⟩ := hrel
        obtain ⟨pq, cq, rfl, hqc, hqm, _⟩ := HC.out.rd.sl
        unfold maxLen at hqm
        have hR80 := HC.out.len
        obtain ⟨wo, hwo⟩ : ∃ wo : World, wo = wr := ⟨_, rfl⟩
        subst hwo
        clear HCV
        go_wp2_with fail
        go_loopw [5, 6, 7] (fun s5 s6 s7 wr => ∃ (i : Nat) (N : List Kv) (tn : Bool), i ≤ R.length ∧ s7 = .int .i64 i ∧ s6 = .bool tn ∧ Hid (PsJ wo R i N tn s5 wr)) (fun _ _ s7 _ => R.length - (intOf s7).toNat)
        case atStart => exact ⟨0, [], false, Nat.zero_le _, rfl, rfl, Lib.hid ⟨own_none _ _, PassI.zero R, Below.refl _ _⟩⟩
        case round =>
          obtain ⟨i, N, tn, hi, rfl, rfl, HP⟩ := hrel
          have i0 : (0 : Int) ≤ (i : Int) := by omega
          obtain ⟨q9, k9, rfl⟩ := own_slice HP.out.own
          have hNl := HP.out.pass.len
          by_cases hlt : i < R.length
          · obtain ⟨⟨⟨a, n⟩, v⟩, hy⟩ : ∃ y, R[i]? = some y := ⟨_, List.getElem?_eq_getElem hlt⟩
            obtain ⟨bq, oq, c', he, hbl, hcx⟩ := rd_row HC.out.rd hy
            simp only [Value.slice.injEq] at he
            obtain ⟨rfl, -, rfl⟩ := he
            have HCX := Lib.hid hcx; have HY := Lib.hid hy; have HPY := Lib.hid (HC.out.pf _ (pfs_get hy)); have HBQ := Lib.hid hbl
            have i1 : (i : Int) < (R.length : Int) := by omega
            clear hcx hy hbl
            go_wp2_with fail
            obtain ⟨wm, hwm⟩ : ∃ wm : World, wm = wr := ⟨_, rfl⟩
            subst hwm
            go_loopw [8, 9] (fun s8 s9 wr => ∃ k : Nat, k ≤ R.length ∧ s9 = .int .i64 k ∧ s8 = .bool (innB R i k) ∧ Hid (Below wm.heap.size wm wr)) (fun _ s9 _ => R.length - (intOf s9).toNat)
            case atStart => exact ⟨0, Nat.zero_le _, rfl, rfl, Lib.hid (Below.refl _ _)⟩
            case round =>
              obtain ⟨k, hk, rfl, rfl, HBK⟩ := hrel
              have k0 : (0 : Int) ≤ (k : Int) := by omega
              have HBO := Lib.hid (HP.out.bel.trans (HBK.out.mono HP.out.bel.size))
              by_cases hkl : k < R.length
              · have k1 : (k : Int) < (R.length : Int) := by omega
                cases hib : innB R i k with
                | true =>
                  have hs := Lib.hid (show innB R i (k + 1) = true by simp [innB, hib])
                  clear hib
                  go_wp2_with fail
                  refine wp_region_grows (by kernel_rfl) (by kernel_rfl) ?_
                  repeat (go_big_quiet_step (fail))
                  refine wpQuiet_nil ?_
                  rintro w2 ⟨⟨_, hb2⟩, rfl⟩
                  have HB2 := Lib.hid (HBK.out.trans (hb2.mono HBK.out.size))
                  clear hb2
                  go_wp2_with fail
                  go_roundw
                  case rel => exact ⟨k + 1, by omega, by go_num, by rw [hs.out], HB2⟩
                  case measure => simp [intOf]; omega
                | false =>
                  by_cases hki : k = i
                  · have hkd : ((k : Int) != (i : Int)) = false := by subst hki; simp
                    have hkd2 : (k != i) = false := by subst hki; simp
                    have hs := Lib.hid (show innB R i (k + 1) = false by (show (innB R i k || (decide (k ≠ i) && wiAt R i k)) = false); rw [hib]; simp [hki])
                    clear hib hki
                    go_wp2_with fail
                    refine wp_region_grows (by kernel_rfl) (by kernel_rfl) ?_
                    repeat (go_big_quiet_step (fail))
                    refine wpQuiet_nil ?_
                    rintro w2 ⟨⟨_, hb2⟩, rfl⟩
                    have HB2 := Lib.hid (HBK.out.trans (hb2.mono HBK.out.size))
                    clear hb2
                    go_wp2_with fail
                    go_roundw
                    case rel => exact ⟨k + 1, by omega, by go_num, by rw [hs.out], HB2⟩
                    case measure => simp [intOf]; omega
                  · have hkd : ((k : Int) != (i : Int)) = true := by simp; omega
                    have hkd2 : (k != i) = true := by simpa using hki
                    obtain ⟨⟨⟨z0, z1⟩, zv⟩, hz⟩ : ∃ y, R[k]? = some y := ⟨_, List.getElem?_eq_getElem hkl⟩
                    have hpz := HC.out.pf _ (pfs_get hz)
                    obtain ⟨tv, htv⟩ : ∃ t, wiB a n z0 z1 = t := ⟨_, rfl⟩
                    have hs := Lib.hid (show innB R i (k + 1) = tv by simp only [innB, hib, Bool.false_or]; rw [show wiAt R i k = tv by unfold wiAt; rw [HY.out, hz]; exact htv]; simp [hki])
                    have HWI := Lib.hid (show ∀ W, Calls Try.prog 28 #[.agg #[.int .u32 a, .int .i64 n], .agg #[.int .u32 z0, .int .i64 z1]] W fun e w' => e = .returned (.bool tv) ∧ Below W.heap.size W w' from fun W => by rw [← htv]; exact rwithin_is a n z0 z1 W HPY.out.1 HPY.out.2.1 hpz.1 hpz.2.1)
                    obtain ⟨b', o', c'', he, hbl, hcx⟩ := rd_row HC.out.rd hz
                    simp only [Value.slice.injEq, Option.some.injEq, Addr.mk.injEq, and_true, true_and] at he
                    obtain ⟨⟨rfl, rfl⟩, -⟩ := he
                    obtain ⟨f0, f1, _⟩ := HCX.out wr HBO.out
                    obtain ⟨g0, g1, _⟩ := hcx wr HBO.out
                    simp only at g0 g1
                    (try simp only at f0 f1)
                    have hbl2 : bq < wr.heap.size := by have := HBO.out.size; have := HBQ.out; omega
                    clear hib hki hz hpz htv hcx hbl
                    go_wp2_with fail
                    refine wp_region_grows (by kernel_rfl) (by kernel_rfl) ?_
                    refine grows_fact bq (oq + i * 3) (.int .u32 a) f0 hbl2 fun t0 => ?_
                    refine grows_fact bq (oq + i * 3 + 1) (.int .i64 n) f1 hbl2 fun t1 => ?_
                    refine grows_fact bq (oq + k * 3) (.int .u32 z0) g0 hbl2 fun t2 => ?_
                    refine grows_fact bq (oq + k * 3 + 1) (.int .i64 z1) g1 hbl2 fun t3 => ?_
                    repeat (go_big_quiet_step ((go_at_call 28; with_reducible exact Calls.grows_of (HWI.out _))))
                    refine wpQuiet_nil ?_
                    rintro w2 ⟨⟨_, hb2⟩, rfl⟩
                    have HB2 := Lib.hid (HBK.out.trans (hb2.mono HBK.out.size))
                    clear hb2 t0 t1 t2 t3
                    go_wp2_with fail
                    go_roundw
                    case rel => exact ⟨k + 1, by omega, by go_num, by rw [hs.out], HB2⟩
                    case measure => simp [intOf]; omega
              · have hkl2 : k = R.length := by omega
                subst hkl2
                have hd : decide ((R.length : Int) < (R.length : Int)) = false := by simp
                have HO0 := Lib.hid (own_on HP.out.own HBK.out)
                cases hib : innB R i R.length with
                | true =>
                  have HIN := Lib.hid (innB_iff.1 hib)
                  clear hib hk
                  go_wp2_with fail
                  go_roundw
                  case rel => exact ⟨i + 1, N, true, by omega, by go_num, rfl, Lib.hid ⟨HO0.out, HP.out.pass.skip HIN.out, HBO.out⟩⟩
                  case measure => simp [intOf]; omega
                | false =>
                  have HNI : Hid (¬ Inner R i) := Lib.hid fun h => by rw [innB_iff.2 h] at hib; cases hib
                  obtain ⟨f0, f1, f2⟩ := HCX.out wr HBO.out
                  (try simp only at f0 f1 f2)
                  obtain ⟨n1, hn1⟩ : ∃ n, wr.heap.size = n := ⟨_, rfl⟩
                  obtain ⟨w1, hw1⟩ : ∃ X, wr.alloc (.cells #[.int .u32 a, .int .i64 n] 34) = X := ⟨_, rfl⟩
                  have hb1 : Below wr.heap.size wr w1 := by rw [← hw1]; exact (Below.refl _ _).alloc (Nat.le_refl _) _
                  have hr1 : w1.heap[n1]? = some (.cells #[.int .u32 a, .int .i64 n] 34 (0, 0)) := by rw [← hw1, ← hn1]; exact heap_alloc_new wr _
                  have HB1 := Lib.hid (HBO.out.trans (hb1.mono HBO.out.size))
                  have HO1 := Lib.hid (own_on HO0.out hb1)
                  have HR1 := Lib.hid hr1
                  clear hib hk hb1 hr1
                  go_wp2_with fail
                  clear hw1 hn1
                  have p0 : w1.cell? ⟨n1, 0, none⟩ = some (.int .u32 a) := row_cell HR1.out 0
                  have p1 : w1.cell? ⟨n1, 1, none⟩ = some (.int .i64 n) := row_cell HR1.out 1
                  obtain ⟨f0, f1, f2⟩ := HCX.out w1 HB1.out
                  (try simp only at f0 f1 f2)
                  by_cases h1 : i + 1 < R.length
                  · obtain ⟨⟨⟨z0, z1⟩, zv⟩, hz⟩ : ∃ y, R[i + 1]? = some y := ⟨_, List.getElem?_eq_getElem h1⟩
                    have HPZ := Lib.hid (HC.out.pf _ (pfs_get hz))
                    have HZ := Lib.hid hz
                    obtain ⟨b', o', c'', he, hbl, hcx⟩ := rd_row HC.out.rd hz
                    simp only [Value.slice.injEq, Option.some.injEq, Addr.mk.injEq, and_true, true_and] at he
                    obtain ⟨⟨rfl, rfl⟩, -⟩ := he
                    have HCZ := Lib.hid hcx
                    obtain ⟨g0, g1, _⟩ := hcx w1 HB1.out
                    simp only at g0 g1
                    have j1 : (i : Int) + 1 < (R.length : Int) := by omega
                    clear hcx hbl hz
                    by_cases h2 : 0 < n
                    · by_cases h3 : z1 = n
                      · have h3b : (z1 == n) = true := by simpa using h3
                        have h3s := h3.symm
                        subst h3s
                        have hbn := HPY.out.bits
                        have n32 : n ≤ 32 := by omega
                        have jjw : IntKind.i64.wrap ((i : Int) + 1) = (i : Int) + 1 := IntWalk.i64_in _ ⟨by omega, by omega⟩
                        have jj0 : (0 : Int) ≤ (i : Int) + 1 := by omega
                        have jj1 : decide ((i : Int) + 1 < 0) = false := decide_eq_false (by omega)
                        have jj2 : decide ((R.length : Int) ≤ (i : Int) + 1) = false := decide_eq_false (by omega)
                        have jj3 : ¬ (R.length : Int) ≤ (i : Int) + 1 := by omega
                        have jj4 : ((i : Int) + 1).toNat = i + 1 := by omega
                        go_quiet (fail)
                        obtain ⟨wq, hwq⟩ : ∃ X, w1.drewN nq = X := ⟨_, rfl⟩
                        have hbq : Below w1.heap.size w1 wq := by rw [← hwq]; exact Below.draws (Below.refl _ _) nq
                        rw [hwq]
                        clear hwq
                        have HBQ2 := Lib.hid (HB1.out.trans (hbq.mono HB1.out.size))
                        have HOQ := Lib.hid (own_on HO1.out hbq)
                        have HRQ := Lib.hid ((hbq.block n1 (blk_lt HR1.out)).trans HR1.out)
                        obtain ⟨f0, f1, f2⟩ := HCX.out wq HBQ2.out
                        obtain ⟨g0, g1, _⟩ := HCZ.out wq HBQ2.out
                        (try simp only at f0 f1 f2)
                        (try simp only at g0 g1)
                        have p0 : wq.cell? ⟨n1, 0, none⟩ = some (.int .u32 a) := row_cell HRQ.out 0
                        have p1 : wq.cell? ⟨n1, 1, none⟩ = some (.int .i64 n) := row_cell HRQ.out 1
                        obtain ⟨K, hK⟩ : ∃ K, cmK a n z0 n = K := ⟨_, rfl⟩
                        obtain ⟨cw, hcw⟩ : ∃ z, a / pw K * pw K = z := ⟨_, rfl⟩
                        have HCM := Lib.hid (show ∀ W, Calls Try.prog 31 #[.agg #[.int .u32 a, .int .i64 n], .agg #[.int .u32 z0, .int .i64 n]] W fun e w' => e = .returned (.tuple #[.agg #[.int .u32 cw, .int .i64 K], .int .i64 0]) ∧ Below W.heap.size W w' from fun W => by
                          have h := rcommon_ok a n z0 n W HPY.out.1 HPY.out.2.1 HPZ.out.1 HPZ.out.2.1 HPY.out.2.2 HPZ.out.2.2
                          rw [hK, hcw] at h
                          exact h)
                        have HK := Lib.hid hK; have HCW := Lib.hid hcw
                        have hkr : 0 ≤ K ∧ K ≤ n := by have := cm_k HPY.out HPZ.out; rw [hK] at this; exact ⟨this.1, this.2.1⟩
                        clear hbq hK hcw
                        go_wp2_with fail
                        go_cut [11, 12] (fun s11 s12 wx => ∃ B : Nat, s11 = .pointer (some ⟨B, 0, none⟩) ∧ wx.heap[B]? = some (.cells #[.int .u32 cw, .int .i64 K] 34 (0, 0)) ∧ Below wq.heap.size wq wx)
                        case first =>
                          have HB : Hid (Below wq.heap.size wq wq) := Lib.hid (Below.refl _ _)
                          have hn1q : n1 < wq.heap.size := blk_lt HRQ.out
                          have hbqq : bq < wq.heap.size := by have := HBQ2.out.size; have := HBQ.out; omega
                          have hne1 : ¬ wq.heap.size = n1 := by omega
                          have hne2 : ¬ wq.heap.size = bq := by omega
                          have hne3 : ¬ n1 = wq.heap.size := by omega
                          have hne4 : ¬ bq = wq.heap.size := by omega
                          go_region_held3 (fun w' => (w'.cell? ⟨n1, 0, none⟩ = some (.int .u32 a) ∧ w'.cell? ⟨n1, 1, none⟩ = some (.int .i64 n)) ∧ (w'.cell? ⟨bq, oq + (i + 1) * 3, none⟩ = some (.int .u32 z0) ∧ w'.cell? ⟨bq, oq + (i + 1) * 3 + 1, none⟩ = some (.int .i64 n))) (first | with_reducible exact ⟨⟨p0, p1⟩, ⟨g0, g1⟩⟩ | (simp [*, World.cell?_alloc_some, World.cell?_setCell_far]; done) | (trace_state; fail)) (first
                            | (go_at_call 31; (with_reducible refine (HCM.out _).mono ?_); rintro e wv ⟨rfl, hbv⟩; first | (have HBV := Lib.hid (Below.step (show Below wq.heap.size wq _ from (by first | exact HB.out | exact HB.out.drew)) hbv); obtain ⟨hcv, hfv⟩ := bcell hbv; have hzv := hbv.size; (try simp at hzv); have m1 : ¬ wv.heap.size = n1 := (by omega); have m2 : ¬ wv.heap.size = bq := (by omega); have m3 : ¬ n1 = wv.heap.size := (by omega); have m4 : ¬ bq = wv.heap.size := (by omega); have p0 : wv.cell? ⟨n1, 0, none⟩ = some (.int .u32 a) := row_cell ((HBV.out.block n1 hn1q).trans HRQ.out) 0; have p1 : wv.cell? ⟨n1, 1, none⟩ = some (.int .i64 n) := row_cell ((HBV.out.block n1 hn1q).trans HRQ.out) 1; have g0 : wv.cell? ⟨bq, oq + (i + 1) * 3, none⟩ = some (.int .u32 z0) := ((HBV.out.cell (p := ⟨bq, _, none⟩) hbqq).trans g0); have g1 : wv.cell? ⟨bq, oq + (i + 1) * 3 + 1, none⟩ = some (.int .i64 n) := ((HBV.out.cell (p := ⟨bq, _, none⟩) hbqq).trans g1); clear hbv hcv hfv) | (have HZB := Lib.hid ((hbv.block wq.heap.size (by simp)).trans (heap_alloc_new _ _)); have HBV := Lib.hid (Below.step (show Below wq.heap.size wq _ from (by first | exact HB.out.alloc (Nat.le_refl _) _ | exact HB.out.drew.alloc (Nat.le_refl _) _)) hbv); have y0 : wv.cell? ⟨wq.heap.size, 0, none⟩ = some (.int .u32 0) := row_cell HZB.out 0; have y1 : wv.cell? ⟨wq.heap.size, 1, none⟩ = some (.int .i64 0) := row_cell HZB.out 1; have zf0 := frozen_of_row _ _ 0 _ _ HZB.out; have zf1 := frozen_of_row _ _ 1 _ _ HZB.out; have p0 : wv.cell? ⟨n1, 0, none⟩ = some (.int .u32 a) := row_cell ((HBV.out.block n1 hn1q).trans HRQ.out) 0; have p1 : wv.cell? ⟨n1, 1, none⟩ = some (.int .i64 n) := row_cell ((HBV.out.block n1 hn1q).trans HRQ.out) 1; have g0 : wv.cell? ⟨bq, oq + (i + 1) * 3, none⟩ = some (.int .u32 z0) := ((HBV.out.cell (p := ⟨bq, _, none⟩) hbqq).trans g0); have g1 : wv.cell? ⟨bq, oq + (i + 1) * 3 + 1, none⟩ = some (.int .i64 n) := ((HBV.out.cell (p := ⟨bq, _, none⟩) hbqq).trans g1); clear hbv)))
                          all_goals
                            go_wp2_with fail
                            go_meet
                            first
                              | exact ⟨_, rfl, heap_alloc_new _ _, HBV.out.alloc HBV.out.size _⟩
                              | exact ⟨_, rfl, (set1 (set1 HZB.out rfl).1 rfl).1, (HBV.out.setCell (p := ⟨wq.heap.size, 0, none⟩) (Nat.le_refl _) _).setCell (p := ⟨wq.heap.size, 1, none⟩) (Nat.le_refl _) _⟩
                        case rest =>
                          obtain ⟨B, hs11, hB, hbc⟩ := hcut
                          subst hs11
                          have HBX := Lib.hid (HBQ2.out.trans (hbc.mono HBQ2.out.size))
                          have HOX := Lib.hid (own_on HOQ.out hbc)
                          have c11 : wc.cell? ⟨B, 1, none⟩ = some (.int .i64 K) := row_cell hB 1
                          have c10 : wc.cell? ⟨B, 0, none⟩ = some (.int .u32 cw) := row_cell hB 0
                          have p1 : wc.cell? ⟨n1, 1, none⟩ = some (.int .i64 n) := row_cell ((hbc.block n1 (blk_lt HRQ.out)).trans HRQ.out) 1
                          obtain ⟨f0, f1, f2⟩ := HCX.out wc HBX.out
                          (try simp only at f0 f1 f2)
                          have hz := HBX.out.size
                          clear hB hbc
                          by_cases h4 : K = n - 1
                          · have h4b : (K == n - 1) = true := by simpa using h4
                            have HJ := Lib.hid (HP.out.pass.join HC.out.pf HY.out HZ.out h2 rfl (HK.out.trans h4))
                            have HE : Hid ((a / pw (n - 1) * pw (n - 1), n - 1) = (cw, K)) := Lib.hid (by rw [← HCW.out, h4])
                            clear h4
                            go_wp2_with (at_builtin; refine wpList_append_rdk (enc := encRow) encRow_len (by decide) encRow_one rfl (.tmp 108) (.tmp 111) 26 77 rfl _ 24 Try.underlying26 rfl infoRow wo.heap.size _ N.length _ rfl (HOX.out.alloc _) _ [((cw, K), 0)] rfl (own_row1 _ _ _ _) (by unfold maxLen; simp; omega) (by simp; omega) (by first | (simp; done) | (simp; omega)) ?_; intro v9 w9 hown hgr hor; clear hor; have HV9 := Lib.hid hown; have HG9 := Lib.hid hgr; clear hown hgr; obtain ⟨p9, c9, rfl⟩ := own_slice HV9.out)
                            go_roundw
                            case rel => exact ⟨i + 2, N ++ [((cw, K), 0)], true, by omega, by go_num, rfl, Lib.hid ⟨by simpa [flatK] using HV9.out, by have h := HJ.out; simp only at h; rw [HE.out] at h; exact h, HBX.out.trans (Below.grown ((Below.refl _ _).alloc HBX.out.size _) HG9.out (by simp; omega) fun x hx => (HOX.out.lt x hx).1)⟩⟩
                            case measure => simp [intOf]; omega
                          · have h4b : (K == n - 1) = false := by simpa using h4
                            have HNJ : Hid (¬ Joins2 R i) := Lib.hid (by
                              rintro ⟨x, y, hx, hy, _, _, g⟩
                              rw [HY.out] at hx; cases hx
                              rw [HZ.out] at hy; cases hy
                              exact h4 (HK.out.symm.trans g))
                            clear h4
                            go_wp2_with (at_builtin; refine wpList_append_rdk (enc := encRow) encRow_len (by decide) encRow_one rfl (.tmp 115) (.tmp 120) 26 77 rfl _ 24 Try.underlying26 rfl infoRow wo.heap.size _ N.length _ rfl (HOX.out.alloc _) _ [((a, n), v)] rfl (own_row1 _ _ _ _) (by unfold maxLen; simp; omega) (by simp; omega) (by first | (simp; done) | (simp; omega)) ?_; intro v9 w9 hown hgr hor; clear hor; have HV9 := Lib.hid hown; have HG9 := Lib.hid hgr; clear hown hgr; obtain ⟨p9, c9, rfl⟩ := own_slice HV9.out)
                            go_roundw
                            case rel => exact ⟨i + 1, N ++ [((a, n), v)], tn, by omega, by go_num, rfl, Lib.hid ⟨by simpa [flatK] using HV9.out, HP.out.pass.keep HC.out.pf HY.out HNI.out HNJ.out, HBX.out.trans (Below.grown ((Below.refl _ _).alloc HBX.out.size _) HG9.out (by simp; omega) fun x hx => (HOX.out.lt x hx).1)⟩⟩
                            case measure => simp [intOf]; omega
                      · have h3b : (z1 == n) = false := by simpa using h3
                        have HNJ : Hid (¬ Joins2 R i) := Lib.hid (by
                          rintro ⟨x, y, hx, hy, _, g, _⟩
                          rw [HY.out] at hx; cases hx
                          rw [HZ.out] at hy; cases hy
                          exact h3 g)
                        go_quiet (fail)
                        obtain ⟨wq, hwq⟩ : ∃ X, w1.drewN nq = X := ⟨_, rfl⟩
                        have hbq : Below w1.heap.size w1 wq := by rw [← hwq]; exact Below.draws (Below.refl _ _) nq
                        rw [hwq]
                        clear hwq
                        have HBX := Lib.hid (HB1.out.trans (hbq.mono HB1.out.size))
                        have HOX := Lib.hid (own_on HO1.out hbq)
                        obtain ⟨f0, f1, f2⟩ := HCX.out wq HBX.out
                        (try simp only at f0 f1 f2)
                        have hz := HBX.out.size
                        go_wp2_with (at_builtin; refine wpList_append_rdk (enc := encRow) encRow_len (by decide) encRow_one rfl (.tmp 115) (.tmp 120) 26 77 rfl _ 24 Try.underlying26 rfl infoRow wo.heap.size _ N.length _ rfl (HOX.out.alloc _) _ [((a, n), v)] rfl (own_row1 _ _ _ _) (by unfold maxLen; simp; omega) (by simp; omega) (by first | (simp; done) | (simp; omega)) ?_; intro v9 w9 hown hgr hor; clear hor; have HV9 := Lib.hid hown; have HG9 := Lib.hid hgr; clear hown hgr; obtain ⟨p9, c9, rfl⟩ := own_slice HV9.out)
                        go_roundw
                        case rel => exact ⟨i + 1, N ++ [((a, n), v)], tn, by omega, by go_num, rfl, Lib.hid ⟨by simpa [flatK] using HV9.out, HP.out.pass.keep HC.out.pf HY.out HNI.out HNJ.out, HBX.out.trans (Below.grown ((Below.refl _ _).alloc HBX.out.size _) HG9.out (by simp; omega) fun x hx => (HOX.out.lt x hx).1)⟩⟩
                        case measure => simp [intOf]; omega
                    · have HNJ : Hid (¬ Joins2 R i) := Lib.hid (by
                        rintro ⟨x, y, hx, hy, g, _⟩
                        rw [HY.out] at hx; cases hx
                        exact h2 g)
                      go_quiet (fail)
                      obtain ⟨wq, hwq⟩ : ∃ X, w1.drewN nq = X := ⟨_, rfl⟩
                      have hbq : Below w1.heap.size w1 wq := by rw [← hwq]; exact Below.draws (Below.refl _ _) nq
                      rw [hwq]
                      clear hwq
                      have HBX := Lib.hid (HB1.out.trans (hbq.mono HB1.out.size))
                      have HOX := Lib.hid (own_on HO1.out hbq)
                      obtain ⟨f0, f1, f2⟩ := HCX.out wq HBX.out
                      (try simp only at f0 f1 f2)
                      have hz := HBX.out.size
                      go_wp2_with (at_builtin; refine wpList_append_rdk (enc := encRow) encRow_len (by decide) encRow_one rfl (.tmp 115) (.tmp 120) 26 77 rfl _ 24 Try.underlying26 rfl infoRow wo.heap.size _ N.length _ rfl (HOX.out.alloc _) _ [((a, n), v)] rfl (own_row1 _ _ _ _) (by unfold maxLen; simp; omega) (by simp; omega) (by first | (simp; done) | (simp; omega)) ?_; intro v9 w9 hown hgr hor; clear hor; have HV9 := Lib.hid hown; have HG9 := Lib.hid hgr; clear hown hgr; obtain ⟨p9, c9, rfl⟩ := own_slice HV9.out)
                      go_roundw
                      case rel => exact ⟨i + 1, N ++ [((a, n), v)], tn, by omega, by go_num, rfl, Lib.hid ⟨by simpa [flatK] using HV9.out, HP.out.pass.keep HC.out.pf HY.out HNI.out HNJ.out, HBX.out.trans (Below.grown ((Below.refl _ _).alloc HBX.out.size _) HG9.out (by simp; omega) fun x hx => (HOX.out.lt x hx).1)⟩⟩
                      case measure => simp [intOf]; omega
                  · have j1 : ¬ (i : Int) + 1 < (R.length : Int) := by omega
                    have HNJ : Hid (¬ Joins2 R i) := Lib.hid (by
                      rintro ⟨x, y, hx, hy, _⟩
                      exact h1 (List.getElem?_eq_some_iff.1 hy).1)
                    go_quiet (fail)
                    obtain ⟨wq, hwq⟩ : ∃ X, w1.drewN nq = X := ⟨_, rfl⟩
                    have hbq : Below w1.heap.size w1 wq := by rw [← hwq]; exact Below.draws (Below.refl _ _) nq
                    rw [hwq]
                    clear hwq
                    have HBX := Lib.hid (HB1.out.trans (hbq.mono HB1.out.size))
                    have HOX := Lib.hid (own_on HO1.out hbq)
                    obtain ⟨f0, f1, f2⟩ := HCX.out wq HBX.out
                    (try simp only at f0 f1 f2)
                    have hz := HBX.out.size
                    go_wp2_with (at_builtin; refine wpList_append_rdk (enc := encRow) encRow_len (by decide) encRow_one rfl (.tmp 115) (.tmp 120) 26 77 rfl _ 24 Try.underlying26 rfl infoRow wo.heap.size _ N.length _ rfl (HOX.out.alloc _) _ [((a, n), v)] rfl (own_row1 _ _ _ _) (by unfold maxLen; simp; omega) (by simp; omega) (by first | (simp; done) | (simp; omega)) ?_; intro v9 w9 hown hgr hor; clear hor; have HV9 := Lib.hid hown; have HG9 := Lib.hid hgr; clear hown hgr; obtain ⟨p9, c9, rfl⟩ := own_slice HV9.out)
                    go_roundw
                    case rel => exact ⟨i + 1, N ++ [((a, n), v)], tn, by omega, by go_num, rfl, Lib.hid ⟨by simpa [flatK] using HV9.out, HP.out.pass.keep HC.out.pf HY.out HNI.out HNJ.out, HBX.out.trans (Below.grown ((Below.refl _ _).alloc HBX.out.size _) HG9.out (by simp; omega) fun x hx => (HOX.out.lt x hx).1)⟩⟩
                    case measure => simp [intOf]; omega
          · have hil : i = R.length := by omega
            subst hil
            have hd : decide ((R.length : Int) < (R.length : Int)) = false := by simp
            clear hi
            have HRN := Lib.hid (RdK.of_own encRow_len HP.out.own)
            have HPP := Lib.hid HP.out.pass
            have HBP := Lib.hid HP.out.bel
            obtain ⟨wp, hwp⟩ : ∃ wp : World, wp = wr := ⟨_, rfl⟩
            subst hwp
            clear HP
            have hNR := HPP.out.len
            cases tn with
            | false =>
              have HREST := Lib.hid HPP.out.rest
              have e0 : (pfs N).length = N.length := by simp [pfs]
              have HE0 := Lib.hid e0
              clear e0
              go_wp2_with fail
              go_loopw [15, 16] (fun s15 s16 wx => ∃ j : Nat, j ≤ N.length ∧ s16 = .int .i64 j ∧ Hid (wx.ownsRow wp.heap.size 34 2 s15 j (flatK encP ((pfs N).take j))) ∧ Hid (Below wp.heap.size wp wx)) (fun _ s16 _ => N.length - (intOf s16).toNat)
              case atStart => exact ⟨0, Nat.zero_le _, rfl, Lib.hid (own_none _ _), Lib.hid (Below.refl _ _)⟩
              case round =>
                obtain ⟨j, hj, rfl, HO, HBJ⟩ := hrel
                have k0 : (0 : Int) ≤ (j : Int) := by omega
                by_cases hjl : j < N.length
                · obtain ⟨⟨⟨a, n⟩, v⟩, hy⟩ : ∃ y, N[j]? = some y := ⟨_, List.getElem?_eq_getElem hjl⟩
                  obtain ⟨bq, oq, c', he, hbl, hcx⟩ := rd_row HRN.out hy
                  simp only [Value.slice.injEq] at he
                  obtain ⟨rfl, -, rfl⟩ := he
                  obtain ⟨f0, f1, f2⟩ := hcx wr HBJ.out
                  (try simp only at f0 f1 f2)
                  have HY := Lib.hid hy
                  have k1 : (j : Int) < (N.length : Int) := by omega
                  have HZ := Lib.hid HBJ.out.size
                  obtain ⟨p5, c5, rfl⟩ := own_slice HO.out
                  clear hcx hy hbl
                  go_wp2_with (at_builtin; refine wpList_append_rdk (enc := encP) encP_len (by decide) encP_one rfl (.tmp 148) (.tmp 154) 48 34 rfl _ 16 Try.underlying48 rfl infoP wp.heap.size _ j _ rfl (HO.out.alloc _) _ [(a, n)] rfl (own_one _ _ _) (by unfold maxLen; simp; omega) (by simp; omega) (by have := HZ.out; first | (simp; done) | (simp; omega)) ?_; intro v9 w9 hown hgr hor; clear hor; have HV9 := Lib.hid hown; have HG9 := Lib.hid hgr; clear hown hgr; obtain ⟨p9, c9, rfl⟩ := own_slice HV9.out)
                  go_roundw
                  case rel =>
                    refine ⟨j + 1, by omega, by go_num, Lib.hid ?_, Lib.hid (HBJ.out.trans (Below.grown ((Below.refl _ _).alloc HBJ.out.size _) HG9.out (by have := HZ.out; simp; omega) fun x hx => (HO.out.lt x hx).1))⟩
                    have hg : (pfs N)[j]? = some (a, n) := by simp [pfs, HY.out]
                    rw [List.take_add_one, hg]
                    simpa [flatK] using HV9.out
                  case measure => simp [intOf]; omega
                · obtain rfl : j = N.length := by omega
                  have hd : decide ((N.length : Int) < (N.length : Int)) = false := by simp
                  have ho := HO.out
                  rw [List.take_of_length_le (by rw [HE0.out]; exact Nat.le_refl _)] at ho
                  have HRC := Lib.hid (RdK.of_own encP_len (by rw [HE0.out]; exact ho))
                  clear ho
                  go_wp2_with fail
                  go_ret
                  obtain ⟨hNR2, hni, hnj⟩ := HREST.out
                  have hcv := cover_one_list HRG.out HC.out.srt HC.out.pf hni hnj HC.out.cov
                  have hrc := HRC.out
                  rw [hNR2, hcv] at hrc
                  rw [hNR2]
                  exact ⟨_, rfl, hrc, Below.step HC.out.bel (HBP.out.trans (HBJ.out.mono HBP.out.size))⟩
            | true =>
              have hlt2 : N.length < R.length := by simp at hNR; omega
              go_wp2_with fail
              go_loopw [13, 14] (fun s13 s14 wx => ∃ j : Nat, j ≤ N.length ∧ s14 = .int .i64 j ∧ Hid (RdK encRow 3 wx s13 (putAll ((pfs N).take j))) ∧ Hid (Below wp.heap.size wp wx)) (fun _ s14 _ => N.length - (intOf s14).toNat)
              case atStart => exact ⟨0, Nat.zero_le _, rfl, Lib.hid (RdK.nil _), Lib.hid (Below.refl _ _)⟩
              case round =>
                obtain ⟨j, hj, rfl, HRJ, HBJ⟩ := hrel
                have k0 : (0 : Int) ≤ (j : Int) := by omega
                by_cases hjl : j < N.length
                · obtain ⟨⟨⟨a, n⟩, v⟩, hy⟩ : ∃ y, N[j]? = some y := ⟨_, List.getElem?_eq_getElem hjl⟩
                  obtain ⟨bq, oq, c', he, hbl, hcx⟩ := rd_row HRN.out hy
                  simp only [Value.slice.injEq] at he
                  obtain ⟨rfl, -, rfl⟩ := he
                  obtain ⟨f0, f1, f2⟩ := hcx wr HBJ.out
                  (try simp only at f0 f1 f2)
                  have hpy := HPP.out.pf _ (pfs_get hy)
                  have HY := Lib.hid hy
                  have k1 : (j : Int) < (N.length : Int) := by omega
                  have hpl := (putAll_ok ((pfs N).take j) (fun p hp => allpf_rg HPP.out.pf p (List.mem_of_mem_take hp))).2.2.1
                  have HPL := Lib.hid (show (putAll ((pfs N).take j)).length ≤ 100000 by rw [List.length_take] at hpl; omega)
                  have hq0 : 0 ≤ a := hpy.1
                  have hq1 : a < 4294967296 := hpy.2.1
                  clear hcx hy hbl hpl hpy
                  go_wp2_with fail
                  go_at_call 12
                  refine (rput_is _ _ a n 0 wr HRJ.out HPL.out hq0 hq1).mono ?_
                  rintro e w2 ⟨v', rfl, hr2, hb2⟩
                  have HR2 := Lib.hid hr2; have HB2 := Lib.hid (Below.step HBJ.out hb2)
                  clear hr2 hb2
                  go_wp2_with fail
                  go_roundw
                  case rel => exact ⟨j + 1, by omega, by go_num, by rw [putAll_step (show (pfs N)[j]? = some (a, n) by simp [pfs, HY.out])]; exact HR2, HB2⟩
                  case measure => simp [intOf]; omega
                · obtain rfl : j = N.length := by omega
                  have hd : decide ((N.length : Int) < (N.length : Int)) = false := by simp
                  have hrj := HRJ.out
                  rw [List.take_of_length_le (by simp [pfs])] at hrj
                  obtain ⟨pp, cc, rfl, _⟩ := hrj.sl
                  obtain ⟨q1, q2, q3, _⟩ := putAll_ok (pfs N) (allpf_rg HPP.out.pf)
                  have q4 : (putAll (pfs N)).length ≤ N.length := by simpa [pfs] using q3
                  have HCV2 : Hid (CvJ w l (putAll (pfs N)) (.slice pp (putAll (pfs N)).length cc) wr) := Lib.hid ⟨hrj, q1, q2, by omega, fun x => ((putAll_cov HPP.out.pf x).trans (HPP.out.cov HC.out.srt HC.out.pf x)).trans (HC.out.cov x), Below.step HC.out.bel (HBP.out.trans (HBJ.out.mono HBP.out.size))⟩
                  clear hrj q1 q2 q3 HRJ
                  go_wp2_with fail
                  go_roundw
                  case rel => exact ⟨putAll (pfs N), HCV2, rfl⟩
                  case measure => simp [lenOf]; omega
end Go.Proofs.Ytodfimnmbfdicaa
