/- The law SpansCut, handed more than twelve sets: it answers true; what was there stands. -/
import Derived.Test.YtdjlbenjbhkfiaaSpCutLaw0
namespace Go.Proofs.Ytdjlbenjbhkfiaa
open Go.RowKit
set_option maxRecDepth 100000 in
set_option maxHeartbeats 8000000 in
theorem cut_many (most : Nat) (hmt : most < top) (x : Int) (hx : 0 ≤ x ∧ x < 4294967296) (ls : List (List (Nat × Nat))) (v : Value) (w : World) (hr : RdS w v ls) (h12 : 12 < ls.length) :
    Calls Try.prog 8 #[.int .u32 most, v, .int .u32 x] w fun e w' => e = .returned (.bool true) ∧ Below w.heap.size w w' := by
  obtain ⟨mi, hmi⟩ : ∃ z : Int, z = (most : Int) := ⟨_, rfl⟩
  rw [← hmi]
  have HMI := Lib.hid hmi; have HMT := Lib.hid hmt
  have hm0 : 0 ≤ mi := by omega
  rw [top_def] at hmt
  have hm1 : mi < 4294967296 := by omega
  obtain ⟨hx0, hx1⟩ := hx
  obtain ⟨p, c, hv, hlc, hcm, hpp⟩ := hr
  subst hv
  clear hmi
  have hr2 : RdS w (.slice p ls.length c) ls := ⟨p, c, rfl, hlc, hcm, hpp⟩
  have d12 : decide (12 < ls.length) = true := by simpa using h12
  obtain ⟨b0, o0, u0, rfl, _⟩ := hpp 0 (ls[0]'(by omega)) (List.getElem?_eq_getElem _)
  have hrd : RdS w (.slice (some ⟨b0, o0, none⟩) 12 c) (ls.take 12) := hr2.take (by omega)
  have hln : (ls.take 12).length = 12 := by rw [List.length_take]; omega
  have hc12 : (12 : Int) ≤ (c : Int) := by omega
  clear hpp hr2
  go_enter Try.func8, Try.ntmps8
  have HRD := Lib.hid hrd
  have HLN := Lib.hid hln
  clear hrd
  go_wp2
  go_loop [7] (fun i => ∃ k : Nat, k ≤ 12 ∧ i = .int .i64 k ∧ Hid (∀ j l, j < k → (ls.take 12)[j]? = some l → l.length ≤ 40)) (fun i => 12 - (intOf i).toNat)
  case atStart => exact ⟨0, Nat.zero_le _, rfl, Lib.hid (fun j l hj => by omega)⟩
  case round =>
    obtain ⟨k, hk, rfl, H40⟩ := hrel
    by_cases hlt : k < 12
    · obtain ⟨l, hl⟩ : ∃ l, (ls.take 12)[k]? = some l := ⟨_, List.getElem?_eq_getElem (by rw [HLN.out]; exact hlt)⟩
      obtain ⟨b, o, q, d, hpe, hb, hat⟩ := HRD.out.at hl
      first
        | subst hpe
        | (simp only [Option.some.injEq, Addr.mk.injEq] at hpe; obtain ⟨rfl, rfl, _⟩ := hpe)
      obtain ⟨cu, _⟩ := hat w (Below.refl _ _)
      have e1 : (0 : Int) ≤ (k : Int) := by omega
      have e2 : (k : Int) < (12 : Int) := by omega
      have HL := Lib.hid hl
      clear hat hl
      by_cases h40 : 40 < l.length
      · have d1 : decide (40 < l.length) = true := by simpa using h40
        go_wp2_with fail
        refine (awake_is w).mono ?_
        rintro e w1 ⟨rfl, hb1⟩
        go_wp2
        go_ret
        exact ⟨rfl, hb1⟩
      · have d1 : decide (40 < l.length) = false := by simpa using h40
        go_wp2
        go_round
        case rel =>
          refine ⟨k + 1, by omega, by go_num, Lib.hid fun j m hj hm => ?_⟩
          rcases Nat.lt_succ_iff_lt_or_eq.1 hj with h | rfl
          · exact H40.out j m h hm
          · rw [HL.out] at hm; simp at hm; subst hm; omega
        case measure => simp [intOf]; omega
    · have hfl : (ls.take 12).flatten.length ≤ 480 := by
        have h1 : (ls.take 12).length ≤ 12 := by rw [HLN.out]; omega
        have h2 := flat_40 (ls.take 12) (fun l hl => by
          obtain ⟨j, hj, rfl⟩ := List.getElem_of_mem hl
          rw [HLN.out] at hj
          exact H40.out j _ (by omega) (List.getElem?_eq_getElem _))
        omega
      have H := Lib.hid (pieces_is most HMT.out (ls.take 12) _ w HRD.out (by rw [HLN.out]; omega) (by omega))
      have hNe := HLN.out
      go_wp2_with fail
      go_at_call 30
      rw [HMI.out]
      refine H.out.mono ?_
      rintro e w1 ⟨R, hbg, hb1, hcase⟩
      have hRl := hbg.len
      rcases hcase with ⟨_, v1, rfl, ho⟩ | ⟨h6, _⟩
      · have hR0 := hbg.first
        have hRn : 0 < R.length := (List.getElem?_eq_some_iff.1 hR0).1
        have hRl2 : R.length ≤ 1000 := by omega
        have HBG := Lib.hid hbg
        rcases ho.row with ⟨_, h⟩ | ⟨g, cap, rfl, _, _, _, hrow, hgl⟩
        · have := congrArg List.length h; rw [pcs_length, List.length_nil] at this; omega
        have HPC : Hid (∀ (i a : Nat) (w' : World), R[i]? = some a → Below w1.heap.size w1 w' → w'.cell? ⟨g, i * 2, none⟩ = some (.int .u32 a) ∧ w'.cell? ⟨g, i * 2 + 1, none⟩ = some (.int .u32 (nxt most R (i + 1) - 1 : Nat))) := Lib.hid fun i a w' hi hb => by
          obtain ⟨k1, k2⟩ := hrow.cellL (Nat.zero_le _) (pcs_at (most := most) hi)
          exact ⟨(hb.cell (p := ⟨g, _, none⟩) hgl).trans k1, (hb.cell (p := ⟨g, _, none⟩) hgl).trans k2⟩
        rw [pcs_length]
        clear ho hrow hbg H hRl
        go_wp2_with fail
        refine (awake_is w1).mono ?_
        rintro e w2 ⟨rfl, hb2⟩
        have z1 : w2.cell? ⟨g, 0, none⟩ = some (.int .u32 0) := by
          have := (HPC.out 0 0 w2 hR0 hb2).1
          rw [Nat.zero_mul] at this
          exact this
        have z2 : w2.cell? ⟨g, (R.length - 1) * 2 + 1, none⟩ = some (.int .u32 most) := by
          have := (HPC.out (R.length - 1) _ w2 (List.getElem?_eq_getElem (by omega)) hb2).2
          rw [nxt_none (by omega)] at this
          rw [this]
          rfl
        have n1 : ((R.length : Int) == 0) = false := by rw [beq_eq_false_iff_ne]; omega
        have n2 : (0 : Int) < (R.length : Int) := by omega
        have n3 : (0 : Int) ≤ (R.length : Int) - 1 := by omega
        have n4 : ((R.length : Int) - 1).toNat = R.length - 1 := by omega
        have n5 : ((most : Int) != (most : Int)) = false := by simp
        have hb12 := Below.step hb1 hb2
        clear hR0
        go_wp2_with fail
        clear z1 z2
        go_loopw [10, 11] (fun n i wr => ∃ k : Nat, k ≤ R.length ∧ i = .int .i64 k ∧ n = .int .u64 (nxt most R k) ∧ Below w2.heap.size w2 wr) (fun _ i _ => R.length - (intOf i).toNat)
        case atStart => exact ⟨0, Nat.zero_le _, rfl, by rw [nxt_some HBG.out.first]; rfl, Below.refl _ _⟩
        case round =>
          obtain ⟨i, hi, rfl, rfl, hbw⟩ := hrel
          by_cases hil : i < R.length
          · obtain ⟨a, ha⟩ : ∃ a, R[i]? = some a := ⟨_, List.getElem?_eq_getElem hil⟩
            have hn := next_of HBG.out.rising HBG.out.le ha
            have hnx := nxt_some (most := most) ha
            rw [hnx]
            obtain ⟨c1, c2⟩ := HPC.out i a wr ha (Below.step hb2 hbw)
            obtain ⟨d, hd⟩ : ∃ d, nxt most R (i + 1) = d + 1 := ⟨nxt most R (i + 1) - 1, by omega⟩
            rw [hd] at hn c2
            rw [Nat.add_sub_cancel] at c2
            have had : a ≤ d := by omega
            have hdm : d ≤ most := by omega
            have HA := Lib.hid ha; have HD := Lib.hid hd
            have HNE : Hid (i ≠ 0 → ∃ l ∈ ls.take 12, has l a ≠ has l (a - 1)) := Lib.hid fun h => HBG.out.cut (fun l hl => by
              obtain ⟨j, hj, rfl⟩ := List.getElem_of_mem hl
              obtain ⟨_, _, _, _, _, _, hat⟩ := HRD.out.at (List.getElem?_eq_getElem hj)
              exact ((hat w (Below.refl _ _)).2).1) ha (HBG.out.rises ha h)
            have HPV : Hid (∀ j, i = j + 1 → 1 ≤ a ∧ wr.cell? ⟨g, j * 2 + 1, none⟩ = some (.int .u32 ((a - 1 : Nat) : Int))) := Lib.hid fun j hj => by
              subst hj
              have := (HPC.out j _ wr (List.getElem?_eq_getElem (by omega)) (Below.step hb2 hbw)).2
              rw [hnx] at this
              exact ⟨Nat.one_le_iff_ne_zero.2 (HBG.out.rises ha (by omega)), this⟩
            obtain ⟨ai, hai⟩ : ∃ z : Int, z = (a : Int) := ⟨_, rfl⟩
            obtain ⟨di, hdi⟩ : ∃ z : Int, z = (d : Int) := ⟨_, rfl⟩
            rw [← hai] at c1
            rw [← hai]
            rw [← hdi] at c2
            have HAI := Lib.hid hai; have HDI := Lib.hid hdi
            have r1 : 0 ≤ ai := by omega
            have r2 : ai ≤ di := by omega
            have r3 : di < 4294967296 := by omega
            have e1 : (0 : Int) ≤ (i : Int) := by omega
            have e2 : (i : Int) < (R.length : Int) := by omega
            have s1 : IntKind.u64.wrap (ai + di) = ai + di := IntWalk.u64_in _ ⟨by omega, by omega⟩
            have s2 : IntKind.u64.wrap (ai + di - ai) = di := (IntWalk.u64_in _ ⟨by omega, by omega⟩).trans (by omega)
            have s3 : IntKind.u64.wrap (di + 1) = di + 1 := IntWalk.u64_in _ ⟨by omega, by omega⟩
            have d2 : decide (di < ai) = false := by simp; omega
            clear ha hd hn hnx hai hdi had hdm
            have t0 : 1 ≤ di - ai + 1 := by omega
            have t1 : 0 ≤ x % (di - ai + 1) := Int.emod_nonneg _ (by omega)
            have t2 : x % (di - ai + 1) < di - ai + 1 := Int.emod_lt_of_pos _ (by omega)
            have s4 : IntKind.u64.wrap (di - ai) = di - ai := IntWalk.u64_in _ ⟨by omega, by omega⟩
            have s5 : IntKind.u64.wrap (di - ai + 1) = di - ai + 1 := IntWalk.u64_in _ ⟨by omega, by omega⟩
            cases i with
            | zero =>
              go_wp2
              go_quiet (fail)
              go_wp2
              go_quiet (fail)
              go_wp2
              go_quiet (fail)
              go_wp2
              obtain ⟨wo, rfl⟩ : ∃ wo : World, wo = wr := ⟨_, rfl⟩
              go_loopw [13, 14] (fun cu kk wx => ∃ (m : Nat) (bb : Bool), m ≤ 12 ∧ kk = .int .i64 m ∧ cu = .bool bb ∧ Hid (bb = true) ∧ Below w2.heap.size w2 wx) (fun _ kk _ => 12 - (intOf kk).toNat)
              case atStart => exact ⟨0, true, Nat.zero_le _, rfl, rfl, Lib.hid (rfl), Below.draws hbw _⟩
              case round =>
                obtain ⟨m, bb, hm, rfl, rfl, HPR, hbx⟩ := hrel
                by_cases hml : m < 12
                · obtain ⟨l, hl⟩ : ∃ l, (ls.take 12)[m]? = some l := ⟨_, List.getElem?_eq_getElem (by rw [HLN.out]; exact hml)⟩
                  obtain ⟨b, o, q, dd, hpe, hbb, hat⟩ := HRD.out.at hl
                  first
                    | subst hpe
                    | (simp only [Option.some.injEq, Addr.mk.injEq] at hpe; obtain ⟨rfl, rfl, _⟩ := hpe)
                  have hlm := List.mem_of_getElem? hl
                  have hls : Small l := ((hat w (Below.refl _ _)).2).1
                  have hl40 := H40.out m l (by omega) hl
                  obtain ⟨B, hB⟩ : ∃ B, has l a = B := ⟨_, rfl⟩
                  have st : ∀ y, a ≤ y → y < d + 1 → has l y = B := fun y h1 h2 => (HBG.out.still hlm hls HA.out h1 (by rw [HD.out]; exact h2)).trans hB
                  have HST := Lib.hid st
                  have K1 : Hid (∀ W, Below w.heap.size w W → Calls Try.prog 23 #[.slice q l.length dd, .int .u32 ai] W fun e w' => e = .returned (.bool B) ∧ W = w') := Lib.hid fun W hW => rhas_is l _ ai B (HST.out _ (by have := HAI.out; omega) (by have := HAI.out; have := HDI.out; omega)) W (hat W hW).2 (by omega) (by omega)
                  have K2 : Hid (∀ W, Below w.heap.size w W → Calls Try.prog 23 #[.slice q l.length dd, .int .u32 di] W fun e w' => e = .returned (.bool B) ∧ W = w') := Lib.hid fun W hW => rhas_is l _ di B (HST.out _ (by have := HAI.out; have := HDI.out; omega) (by have := HDI.out; omega)) W (hat W hW).2 (by omega) (by omega)
                  have K3 : Hid (∀ W, Below w.heap.size w W → Calls Try.prog 23 #[.slice q l.length dd, .int .u32 (ai + x % (di - ai + 1))] W fun e w' => e = .returned (.bool B) ∧ W = w') := Lib.hid fun W hW => rhas_is l _ _ B (HST.out _ (by have := HAI.out; omega) (by have := HAI.out; have := HDI.out; omega)) W (hat W hW).2 (by omega) (by omega)

                  have hBB : (B != B) = false := by simp
                  have m1 : (0 : Int) ≤ (m : Int) := by omega
                  have m2 : (m : Int) < (12 : Int) := by omega
                  have HL := Lib.hid hl; have HBV := Lib.hid hB; have HAT := Lib.hid hat
                  have hbw0 := Below.step hb12 hbx
                  obtain rfl : bb = true := HPR.out
                  clear st hl hB hlm hls hat
                  have cu := (HAT.out wr hbw0).1
                  obtain ⟨p1, p2⟩ := HPC.out _ a wr HA.out (Below.step hb2 hbx)
                  rw [← HAI.out] at p1
                  rw [HD.out, Nat.add_sub_cancel, ← HDI.out] at p2
                  simp only [Nat.zero_mul, Nat.zero_add] at p1 p2
                  have g1 := Nat.lt_of_lt_of_le hbb (Below.size hbw0)
                  have g2 : g < wr.heap.size := by have := Below.size hbx; have := hb2.size; omega
                  go_wp2
                  refine wp_region_grows (by kernel_rfl) (by kernel_rfl) ?_
                  refine grows_fact _ _ _ cu g1 fun r0 => ?_
                  refine grows_fact _ _ _ p1 g2 fun r1 => ?_
                  clear cu p1 p2
                  repeat (go_big_quiet_step ((first | (go_at_call 23; with_reducible exact Calls.grows_same (K1.out _ (Below.step hbw0 (Grows.below _)))))))
                  refine wpQuiet_nil ?_
                  rintro wB ⟨⟨_, hswB⟩, rfl⟩
                  clear r0 r1 g1 g2
                  have hxwB := Below.step hbx hswB
                  have hwwB := Below.step hbw0 hswB
                  have cu := (HAT.out wB hwwB).1
                  obtain ⟨p1, p2⟩ := HPC.out _ a wB HA.out (Below.step hb2 hxwB)
                  rw [← HAI.out] at p1
                  rw [HD.out, Nat.add_sub_cancel, ← HDI.out] at p2
                  simp only [Nat.zero_mul, Nat.zero_add] at p1 p2
                  have g1 := Nat.lt_of_lt_of_le hbb (Below.size hwwB)
                  have g2 : g < wB.heap.size := by have := Below.size hxwB; have := hb2.size; omega
                  go_wp2
                  refine wp_region_grows (by kernel_rfl) (by kernel_rfl) ?_
                  refine grows_fact _ _ _ cu g1 fun r0 => ?_
                  refine grows_fact _ _ _ p2 g2 fun r1 => ?_
                  clear cu p1 p2
                  repeat (go_big_quiet_step ((first | (go_at_call 23; with_reducible exact Calls.grows_same (K2.out _ (Below.step hwwB (Grows.below _)))) | (go_at_call 23; with_reducible exact Calls.grows_same (K3.out _ (Below.step hwwB (Grows.below _)))))))
                  refine wpQuiet_nil ?_
                  rintro wC ⟨⟨_, hswC⟩, rfl⟩
                  clear r0 r1 g1 g2
                  have hxwC := Below.step hxwB hswC
                  have hwwC := Below.step hwwB hswC
                  go_wp2
                  go_quiet (fail)
                  go_wp2
                  go_roundw
                  case rel => ((repeat apply Exists.intro); exact ⟨⟨m + 1, true, by omega, by go_num, rfl, Lib.hid rfl, Below.draws hxwC _⟩, rfl⟩)
                  case measure => simp [intOf]; omega
                · obtain rfl : m = 12 := by omega
                  have hbt : bb = true := by
                    exact HPR.out
                  subst hbt
                  go_wp2
                  go_roundw
                  case rel => exact ⟨0 + 1, by omega, by go_num, by rw [HD.out, HDI.out]; rfl, hbx⟩
                  case measure => simp [intOf]; omega
            | succ j =>
              obtain ⟨a1, c3⟩ := HPV.out j rfl
              have q1 : (ai != ai - 1 + 1) = false := by simp
              have q2 : ((a - 1 : Nat) : Int) = ai - 1 := by have := HAI.out; omega
              rw [q2] at c3
              have r4 : 1 ≤ ai := by have := HAI.out; omega
              have r5 : decide ((j : Int) + 1 < (R.length : Int)) = true := by simp only [decide_eq_true_eq]; omega
              clear q2
              go_wp2
              go_quiet (fail)
              go_wp2
              go_quiet (fail)
              go_wp2
              go_quiet (fail)
              go_wp2
              obtain ⟨wo, rfl⟩ : ∃ wo : World, wo = wr := ⟨_, rfl⟩
              go_loopw [13, 14] (fun cu kk wx => ∃ (m : Nat) (bb : Bool), m ≤ 12 ∧ kk = .int .i64 m ∧ cu = .bool bb ∧ Hid (bb = false → ∀ q l, q < m → (ls.take 12)[q]? = some l → has l a = has l (a - 1)) ∧ Below w2.heap.size w2 wx) (fun _ kk _ => 12 - (intOf kk).toNat)
              case atStart => exact ⟨0, false, Nat.zero_le _, rfl, rfl, Lib.hid (fun _ q l hq => by omega), Below.draws hbw _⟩
              case round =>
                obtain ⟨m, bb, hm, rfl, rfl, HPR, hbx⟩ := hrel
                by_cases hml : m < 12
                · obtain ⟨l, hl⟩ : ∃ l, (ls.take 12)[m]? = some l := ⟨_, List.getElem?_eq_getElem (by rw [HLN.out]; exact hml)⟩
                  obtain ⟨b, o, q, dd, hpe, hbb, hat⟩ := HRD.out.at hl
                  first
                    | subst hpe
                    | (simp only [Option.some.injEq, Addr.mk.injEq] at hpe; obtain ⟨rfl, rfl, _⟩ := hpe)
                  have hlm := List.mem_of_getElem? hl
                  have hls : Small l := ((hat w (Below.refl _ _)).2).1
                  have hl40 := H40.out m l (by omega) hl
                  obtain ⟨B, hB⟩ : ∃ B, has l a = B := ⟨_, rfl⟩
                  have st : ∀ y, a ≤ y → y < d + 1 → has l y = B := fun y h1 h2 => (HBG.out.still hlm hls HA.out h1 (by rw [HD.out]; exact h2)).trans hB
                  have HST := Lib.hid st
                  have K1 : Hid (∀ W, Below w.heap.size w W → Calls Try.prog 23 #[.slice q l.length dd, .int .u32 ai] W fun e w' => e = .returned (.bool B) ∧ W = w') := Lib.hid fun W hW => rhas_is l _ ai B (HST.out _ (by have := HAI.out; omega) (by have := HAI.out; have := HDI.out; omega)) W (hat W hW).2 (by omega) (by omega)
                  have K2 : Hid (∀ W, Below w.heap.size w W → Calls Try.prog 23 #[.slice q l.length dd, .int .u32 di] W fun e w' => e = .returned (.bool B) ∧ W = w') := Lib.hid fun W hW => rhas_is l _ di B (HST.out _ (by have := HAI.out; have := HDI.out; omega) (by have := HDI.out; omega)) W (hat W hW).2 (by omega) (by omega)
                  have K3 : Hid (∀ W, Below w.heap.size w W → Calls Try.prog 23 #[.slice q l.length dd, .int .u32 (ai + x % (di - ai + 1))] W fun e w' => e = .returned (.bool B) ∧ W = w') := Lib.hid fun W hW => rhas_is l _ _ B (HST.out _ (by have := HAI.out; omega) (by have := HAI.out; have := HDI.out; omega)) W (hat W hW).2 (by omega) (by omega)
                  obtain ⟨B4, hB4⟩ : ∃ B4, has l (a - 1) = B4 := ⟨_, rfl⟩
                  have K4 : Hid (∀ W, Below w.heap.size w W → Calls Try.prog 23 #[.slice q l.length dd, .int .u32 (ai - 1)] W fun e w' => e = .returned (.bool B4) ∧ W = w') := Lib.hid fun W hW => rhas_is l _ _ B4 (by rw [← hB4]; congr 1; have := HAI.out; omega) W (hat W hW).2 (by omega) (by omega)
                  have HB4 := Lib.hid hB4
                  clear hB4
                  have hBB : (B != B) = false := by simp
                  have m1 : (0 : Int) ≤ (m : Int) := by omega
                  have m2 : (m : Int) < (12 : Int) := by omega
                  have HL := Lib.hid hl; have HBV := Lib.hid hB; have HAT := Lib.hid hat
                  have hbw0 := Below.step hb12 hbx
                  clear st hl hB hlm hls hat
                  have cu := (HAT.out wr hbw0).1
                  obtain ⟨p1, p2⟩ := HPC.out _ a wr HA.out (Below.step hb2 hbx)
                  rw [← HAI.out] at p1
                  rw [HD.out, Nat.add_sub_cancel, ← HDI.out] at p2
                  have g1 := Nat.lt_of_lt_of_le hbb (Below.size hbw0)
                  have g2 : g < wr.heap.size := by have := Below.size hbx; have := hb2.size; omega
                  go_wp2
                  refine wp_region_grows (by kernel_rfl) (by kernel_rfl) ?_
                  refine grows_fact _ _ _ cu g1 fun r0 => ?_
                  refine grows_fact _ _ _ p1 g2 fun r1 => ?_
                  clear cu p1 p2
                  repeat (go_big_quiet_step ((first | (go_at_call 23; with_reducible exact Calls.grows_same (K1.out _ (Below.step hbw0 (Grows.below _)))))))
                  refine wpQuiet_nil ?_
                  rintro wB ⟨⟨_, hswB⟩, rfl⟩
                  clear r0 r1 g1 g2
                  have hxwB := Below.step hbx hswB
                  have hwwB := Below.step hbw0 hswB
                  have cu := (HAT.out wB hwwB).1
                  obtain ⟨p1, p2⟩ := HPC.out _ a wB HA.out (Below.step hb2 hxwB)
                  rw [← HAI.out] at p1
                  rw [HD.out, Nat.add_sub_cancel, ← HDI.out] at p2
                  have g1 := Nat.lt_of_lt_of_le hbb (Below.size hwwB)
                  have g2 : g < wB.heap.size := by have := Below.size hxwB; have := hb2.size; omega
                  go_wp2
                  refine wp_region_grows (by kernel_rfl) (by kernel_rfl) ?_
                  refine grows_fact _ _ _ cu g1 fun r0 => ?_
                  refine grows_fact _ _ _ p2 g2 fun r1 => ?_
                  clear cu p1 p2
                  repeat (go_big_quiet_step ((first | (go_at_call 23; with_reducible exact Calls.grows_same (K2.out _ (Below.step hwwB (Grows.below _)))) | (go_at_call 23; with_reducible exact Calls.grows_same (K3.out _ (Below.step hwwB (Grows.below _)))))))
                  refine wpQuiet_nil ?_
                  rintro wC ⟨⟨_, hswC⟩, rfl⟩
                  clear r0 r1 g1 g2
                  have hxwC := Below.step hxwB hswC
                  have hwwC := Below.step hwwB hswC
                  cases bb with
                  | true =>
                    go_wp2
                    go_quiet (fail)
                    go_wp2
                    go_roundw
                    case rel => exact ⟨m + 1, true, by omega, by go_num, rfl, Lib.hid (fun h => by cases h), Below.draws hxwC _⟩
                    case measure => simp [intOf]; omega
                  | false =>
                    have cu := (HAT.out wC hwwC).1
                    obtain ⟨p1, p2⟩ := HPC.out _ a wC HA.out (Below.step hb2 hxwC)
                    rw [← HAI.out] at p1
                    rw [HD.out, Nat.add_sub_cancel, ← HDI.out] at p2
                    have g1 := Nat.lt_of_lt_of_le hbb (Below.size hwwC)
                    have g2 : g < wC.heap.size := by have := Below.size hxwC; have := hb2.size; omega
                    go_wp2
                    refine wp_region_grows (by kernel_rfl) (by kernel_rfl) ?_
                    refine grows_fact _ _ _ cu g1 fun r0 => ?_
                    refine grows_fact _ _ _ p1 g2 fun r1 => ?_
                    clear cu p1 p2
                    repeat (go_big_quiet_step ((first | (go_at_call 23; with_reducible exact Calls.grows_same (K4.out _ (Below.step hwwC (Grows.below _)))))))
                    refine wpQuiet_nil ?_
                    rintro wD ⟨⟨_, hswD⟩, rfl⟩
                    clear r0 r1 g1 g2
                    have hxwD := Below.step hxwC hswD
                    have hwwD := Below.step hwwC hswD
                    go_wp2
                    go_roundw
                    case rel =>
                      (repeat apply Exists.intro)
                      refine ⟨⟨m + 1, _, by omega, by go_num, rfl, ?_, hxwD⟩, rfl⟩
                      refine Lib.hid fun h y l' hy hl' => ?_
                      rcases Nat.lt_succ_iff_lt_or_eq.1 hy with h1 | rfl
                      · exact HPR.out (by simp) y l' h1 hl'
                      · rw [HL.out] at hl'
                        simp at hl'
                        subst hl'
                        rw [HBV.out, HB4.out]
                        simpa using h
                    case measure => simp [intOf]; omega
                · obtain rfl : m = 12 := by omega
                  have hbt : bb = true := by
                    cases bb with
                    | true => rfl
                    | false =>
                      obtain ⟨l, hl, hd⟩ := HNE.out (by omega)
                      obtain ⟨q, hq, rfl⟩ := List.getElem_of_mem hl
                      exact absurd (HPR.out rfl q _ (by rw [← HLN.out]; exact hq) (List.getElem?_eq_getElem hq)) hd
                  subst hbt
                  go_wp2
                  go_roundw
                  case rel => exact ⟨j + 1 + 1, by omega, by go_num, by rw [HD.out, HDI.out]; rfl, hbx⟩
                  case measure => simp [intOf]; omega
          · obtain rfl : i = R.length := by omega
            have hnx : nxt most R R.length = most + 1 := nxt_none (Nat.le_refl _)
            rw [hnx]
            clear hnx
            go_wp2
            go_ret
            exact ⟨ret_bool (by simp), Below.step hb12 hbw⟩
      · omega
end Go.Proofs.Ytdjlbenjbhkfiaa
