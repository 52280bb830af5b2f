/- again of LexAgain returns true. Under the conditions that it names. -/
import Derived.Test.YthkiojedkafdhaaLaL
import Derived.BigQuiet
namespace Go.Proofs.Ythkiojedkafdhaa
open Go.RowKit
set_option maxRecDepth 100000 in
set_option maxHeartbeats 8000000 in
theorem again_is (s : ByteArray) (g c : List UInt8) (hP : Put g c) (w : World) (hs : s.size ≤ 9223372036854775807) :
    Calls Try.prog 5 #[.string s, .string ⟨g.toArray⟩, .string ⟨c.toArray⟩] w fun e w' => e = .returned (.bool true) ∧ Below w.heap.size w w' := by
  have HT := Lib.hid (ln_way s.data.toList w (by simpa using hs))
  rw [← all_of' s] at HT
  have HP := Lib.hid hP
  clear hP
  go_enter Try.func5, Try.ntmps5
  go_wp2_with fail
  go_at_call 7
  refine HT.out.mono ?_
  clear HT
  rintro e w2 ⟨hb2, ⟨u, v, E, hE, hno, rfl⟩ | ⟨sv, L, hck, rfl, hL, hla⟩⟩
  · have e1 : (E != 0) = true := by simpa using hE
    have e2 : (E == 0) = false := by simpa using hE
    have HB2 := Lib.hid (hb2.alloc hb2.size (.cells #[.int .i64 u, .int .i64 v] 27))
    clear hb2 hno
    go_wp2_with fail
    go_ret
    exact ⟨rfl, HB2.out⟩
  · have HB2 := Lib.hid (hb2.alloc hb2.size (.cells #[.int .i64 0, .int .i64 0] 27))
    have HLA := Lib.hid hla
    have HCK := Lib.hid hck
    obtain ⟨p, cp, rfl⟩ := own_sl hla.1
    have HL := Lib.hid hL
    clear hb2 hla hck hL
    by_cases h1 : 10000 < s.size
    · have q1 : decide ((s.size : Int) > 10000) = true := by simp; omega
      have q2 : (s.size : Int) > 10000 := by omega
      go_wp2_with fail
      go_ret
      exact ⟨rfl, HB2.out⟩
    have q1 : decide ((s.size : Int) > 10000) = false := by simp; omega
    have q2 : ¬ (s.size : Int) > 10000 := by omega
    by_cases h2 : 1000 < L.length
    · have q3 : (L.length : Int) > 1000 := by omega
      go_wp2_with fail
      go_ret
      exact ⟨rfl, HB2.out⟩
    have q3 : ¬ (L.length : Int) > 1000 := by omega
    clear h1 h2
    go_wp2_with fail
    obtain ⟨W3, hW3⟩ : ∃ X, w2.alloc (.cells #[.int .i64 0, .int .i64 0] 27) = X := ⟨_, rfl⟩
    have HL3 : Hid (LinesAt W3 w.heap.size 36 38 (.slice p L.length cp) L) := Lib.hid (HLA.out.on fun x _ hx => by rw [← hW3]; exact heap_alloc_old _ _ hx)
    rw [hW3] at HB2 ⊢
    clear HLA hW3
    have hbd : ∀ x ∈ L, x.1.2.1 ≤ 65536 ∧ x.1.2.2.length ≤ 65536 ∧ ∀ v ∈ x.1.2.2, v.1.length ≤ 65536 := fun x hx => by
      have h1 := lnk_bounds s.data.toList.length s.data.toList 1 (Nat.le_refl _) x.1 (by rw [← HL.out]; exact List.mem_map_of_mem hx)
      have h2 := (chk_of HCK.out).1
      exact ⟨by omega, by omega, fun v hv => by have := h1.2.2 v hv; omega⟩
    obtain ⟨M, hM⟩ : ∃ M, (L.map Prod.fst).map bare = M := ⟨_, rfl⟩
    have HM := Lib.hid hM
    have hMl : M.length = L.length := by rw [← hM]; simp
    have HBD := Lib.hid hbd
    have HVL : Hid (∀ k, k ≤ L.length → ((M.take k).flatMap (blk g c)).length ≤ 5000000000000) := Lib.hid fun k hk => by
      have h1 := flat_le (f := blk g c) (M := 5000000000) (M.take k) fun x hx => by
        have hx := List.mem_of_mem_take hx
        rw [← hM] at hx
        obtain ⟨y, hy, rfl⟩ := List.mem_map.1 hx
        obtain ⟨z, hz, rfl⟩ := List.mem_map.1 hy
        obtain ⟨b1, b2, b3⟩ := hbd z hz
        refine blk_le HP.out b1 (by simpa [bare] using b2) fun v hv => ?_
        obtain ⟨t, ht, rfl⟩ := List.mem_map.1 hv
        exact b3 t ht
      rw [List.length_take, Nat.min_eq_left (by omega)] at h1
      have h2 : k * 5000000000 ≤ 1000 * 5000000000 := Nat.mul_le_mul_right _ (by omega)
      omega
    clear hM hbd
    go_loopw [10, 11] (fun v i wr => ∃ k : Nat, k ≤ L.length ∧ i = .int .i64 k ∧ v = .string ⟨((M.take k).flatMap (blk g c)).toArray⟩ ∧ wr = W3) (fun _ i _ => L.length - (intOf i).toNat)
    case atStart => exact ⟨0, Nat.zero_le _, rfl, rfl, rfl⟩
    case round =>
      obtain ⟨i, hi, rfl, rfl, rfl⟩ := hrel
      by_cases hlt : i < L.length
      · obtain ⟨gl, cl, hsl, _, _⟩ := HL3.out.1.form (by omega)
        obtain ⟨hp, -⟩ : p = some ⟨gl, 0, none⟩ ∧ cp = cl := by simpa using hsl
        subst hp
        obtain ⟨a0, a1⟩ := ln_cells HL3.out.1 hlt
        obtain ⟨hr1, -⟩ := HL3.out.2 L[i] (List.getElem_mem hlt)
        obtain ⟨bd1, bd2, bd3⟩ := HBD.out L[i] (List.getElem_mem hlt)
        have hmi : M[i]? = some (bare L[i].1) := by rw [← HM.out]; simp [hlt]
        have hvl := HVL.out i hi
        have hgl := HP.out.gl
        have hcl := HP.out.cl
        obtain ⟨vv, hvv⟩ : ∃ x, (M.take i).flatMap (blk g c) = x := ⟨_, rfl⟩
        rw [hvv] at hvl ⊢
        have HVV := Lib.hid hvv
        obtain ⟨x1, hx1⟩ : ∃ x, L[i].2 = x := ⟨_, rfl⟩
        obtain ⟨y, hy⟩ : ∃ y, L[i].1 = y := ⟨_, rfl⟩
        rw [hx1] at a1 hr1
        rw [hy] at a0 hr1 hmi bd1 bd2 bd3
        obtain ⟨num, ind, ws⟩ := y
        simp only at a0 hr1 bd1 bd2 bd3
        obtain ⟨p1, q1', rfl⟩ := own_sl hr1
        have i1 : (0 : Int) ≤ (i : Int) := by omega
        have i2 : (i : Int) < (L.length : Int) := by omega
        have HMI := Lib.hid hmi; have HR1 := Lib.hid hr1; have HB3 := Lib.hid bd3
        clear hvv hx1 hy hmi hr1 bd3 hsl
        go_wp2_with fail
        go_loopw [10, 12] (fun v j wx => ∃ k : Nat, k ≤ ind ∧ j = .int .i64 k ∧ v = .string ⟨(vv ++ List.replicate k 32).toArray⟩ ∧ wx = wr) (fun _ j _ => ind - (intOf j).toNat)
        case atStart => exact ⟨0, Nat.zero_le _, rfl, by simp, rfl⟩
        case round =>
          obtain ⟨k, hk, rfl, rfl, rfl⟩ := hrel
          by_cases hkl : k < ind
          · have e3 : (0 : Int) ≤ (k : Int) := by omega
            have e4 : (k : Int) < (ind : Int) := by omega
            go_wp2_with fail
            all_goals first | (exfalso; simp at *; omega) | skip
            go_roundw
            case rel => exact ⟨k + 1, by omega, by go_num, str_eq (by simp [List.replicate_succ']), by first | rfl | trivial⟩
            case measure => first | (simp [intOf]; done) | (simp [intOf]; omega)
          · obtain rfl : k = ind := by omega
            have e4 : ¬ (k : Int) < (k : Int) := by omega
            clear hkl
            obtain ⟨v2, hv2⟩ : ∃ x, vv ++ List.replicate k 32 = x := ⟨_, rfl⟩
            have hv2l : v2.length ≤ 5000000065536 := by rw [← hv2]; simp; omega
            rw [hv2]
            have HV2 := Lib.hid hv2
            clear hv2
            go_wp2_with fail
            go_loopw [10, 13] (fun v j wx => ∃ n : Nat, n ≤ ws.length ∧ j = .int .i64 n ∧ v = .string ⟨(v2 ++ rowT g ((ws.take n).map (·.1))).toArray⟩ ∧ wx = wr) (fun _ j _ => ws.length - (intOf j).toNat)
            case atStart => exact ⟨0, Nat.zero_le _, rfl, by simp [rowT], rfl⟩
            case round =>
              obtain ⟨n, hn, rfl, rfl, rfl⟩ := hrel
              have hrl := rowT_le hgl ((ws.take n).map (·.1)) fun v hv => by
                obtain ⟨t, ht, rfl⟩ := List.mem_map.1 hv
                exact HB3.out t (List.mem_of_mem_take ht)
              rw [List.length_map, List.length_take, Nat.min_eq_left hn] at hrl
              have hnn : n * 65539 ≤ 65536 * 65539 := Nat.mul_le_mul_right _ (by omega)
              by_cases hnl : n < ws.length
              · obtain ⟨h1, c1, hsl, _, _⟩ := HR1.out.form (by omega)
                obtain ⟨hp, -⟩ : p1 = some ⟨h1, 0, none⟩ ∧ q1' = c1 := by simpa using hsl
                subst hp
                obtain ⟨c0, -, -⟩ := wd_cells HR1.out hnl
                have htl := HB3.out ws[n] (List.getElem_mem hnl)
                have hwn : (ws.map (·.1))[n]? = some ws[n].1 := by simp [hnl]
                obtain ⟨tx, htx⟩ : ∃ x, ws[n].1 = x := ⟨_, rfl⟩
                rw [htx] at c0 hwn htl
                obtain ⟨rr, hrr⟩ : ∃ x, rowT g ((ws.take n).map (·.1)) = x := ⟨_, rfl⟩
                rw [hrr] at hrl ⊢
                have HRR := Lib.hid hrr; have HWN := Lib.hid hwn
                have e3 : (0 : Int) ≤ (n : Int) := by omega
                have e5 : (n : Int) < (ws.length : Int) := by omega
                clear hsl htx hrr hwn
                go_wp2_with fail
                all_goals first | (exfalso; simp at *; omega) | skip
                go_roundw
                case rel =>
                  refine ⟨n + 1, by omega, by go_num, str_eq ?_, by first | rfl | trivial⟩
                  have := take_flat (f := (· ++ g)) HWN.out
                  rw [← List.map_take, ← List.map_take] at this
                  simp only [rowT] at HRR
                  unfold rowT
                  rw [this, HRR.out]
                  simp
                case measure => first | (simp [intOf]; done) | (simp [intOf]; omega)
              · obtain rfl : n = ws.length := by omega
                have e5 : ¬ (ws.length : Int) < (ws.length : Int) := by omega
                clear hnl
                rw [List.take_length] at hrl ⊢
                obtain ⟨rr, hrr⟩ : ∃ x, rowT g (ws.map (·.1)) = x := ⟨_, rfl⟩
                rw [hrr] at hrl ⊢
                have HRR := Lib.hid hrr
                clear hrr
                go_wp2_with fail
                all_goals first | (exfalso; simp at *; omega) | skip
                go_roundw
                case rel =>
                  refine ⟨i + 1, by omega, by go_num, str_eq ?_, by first | rfl | trivial⟩
                  rw [take_flat HMI.out, HVV.out]
                  simp [blk, rowI, tailL, bare, HRR.out, ← HV2.out]
                case measure => first | (simp [intOf]; done) | (simp [intOf]; omega)
      · have hkl : i = L.length := by omega
        have i2 : ¬ (i : Int) < (L.length : Int) := by omega
        clear hlt
        subst hkl
        have hvl := HVL.out L.length (Nat.le_refl _)
        have htake : M.take L.length = M := List.take_of_length_le (by omega)
        have hM0 : (lnk s.data.toList 1).map bare = M := by rw [← HL.out]; exact HM.out
        have hLl : (lnk s.data.toList 1).length = L.length := by rw [← HL.out]; simp
        rw [htake] at hvl ⊢
        obtain ⟨vv, hvv⟩ : ∃ x, M.flatMap (blk g c) = x := ⟨_, rfl⟩
        rw [hvv] at hvl ⊢
        have hs1 := lines_same (l := s.data.toList) HP.out
        rw [hM0, hvv] at hs1
        have hs3 : ChkV vv = chk0 ∨ 65536 < vv.length := by
          by_cases hl : vv.length ≤ 65536
          · have := lines_chk HP.out HCK.out (by omega) (by rw [hM0, hvv]; exact hl)
            rw [hM0, hvv] at this
            exact .inl this
          · exact .inr (by omega)
        have HS1 := Lib.hid hs1; have HS3 := Lib.hid hs3
        have hsz : (⟨vv.toArray⟩ : ByteArray).size = vv.length := mk_size vv
        clear htake hM0 hLl hvv hs1 hs3 HCK HVL
        go_wp2_with fail
        go_at_call 7
        refine (ln_way vv wr (by omega)).mono ?_
        rintro e w5 ⟨hb5, ⟨u, v, E, hE, hno, rfl⟩ | ⟨sv, L2, hck5, rfl, hL2, hla5⟩⟩
        · have e1 : (E != 0) = true := by simpa using hE
          have e2 : (E == 0) = false := by simpa using hE
          have HB5 := Lib.hid (Below.step HB2.out (hb5.alloc hb5.size (.cells #[.int .i64 u, .int .i64 v] 27)))
          have hbig : 65536 < vv.length := HS3.out.resolve_left hno
          have q5 : (vv.length : Int) > 65536 := by omega
          clear hb5 hno
          go_wp2_with fail
          go_ret
          refine ⟨?_, HB5.out⟩
          simp
        · have hm2 : (L2.map Prod.fst).map bare = M := by rw [hL2]; exact HS1.out
          have hl2 : L2.length = L.length := by rw [← hMl, ← hm2]; simp
          have HM2 := Lib.hid hm2
          obtain ⟨p2, cp2, rfl⟩ := own_sl hla5.1
          have HB5 := Lib.hid (Below.step HB2.out (hb5.alloc hb5.size (.cells #[.int .i64 0, .int .i64 0] 27)))
          have hblk : ∀ x, x < w5.heap.size → (w5.alloc (.cells #[.int .i64 0, .int .i64 0] 27)).heap[x]? = w5.heap[x]? := fun x hx => heap_alloc_old _ _ hx
          have hsz5 := hb5.size
          have HL6 : Hid (LinesAt (w5.alloc (.cells #[.int .i64 0, .int .i64 0] 27)) w.heap.size 36 38 (.slice p L.length cp) L) := Lib.hid (HL3.out.on fun x _ hx => (hblk x (by omega)).trans (hb5.block x hx))
          have HU6 : Hid (LinesAt (w5.alloc (.cells #[.int .i64 0, .int .i64 0] 27)) wr.heap.size 36 38 (.slice p2 L2.length cp2) L2) := Lib.hid (hla5.on fun x _ hx => hblk x hx)
          clear hb5 hla5 hL2 HL3 hblk hm2
          try rw [hl2]
          go_wp2_with fail
          obtain ⟨W6, hW6⟩ : ∃ X, w5.alloc (.cells #[.int .i64 0, .int .i64 0] 27) = X := ⟨_, rfl⟩
          rw [hW6] at HB5 HL6 HU6 ⊢
          clear hW6
          go_loopw [16] (fun i wx => ∃ k : Nat, k ≤ L.length ∧ i = .int .i64 k ∧ Below W6.heap.size W6 wx) (fun i _ => L.length - (intOf i).toNat)
          case atStart => exact ⟨0, Nat.zero_le _, rfl, Below.refl _ _⟩
          case round =>
            obtain ⟨i, hi, rfl, hbw⟩ := hrel
            by_cases hlt : i < L.length
            · have hlt2 : i < L2.length := by omega
              obtain ⟨gl, c1, hsl, _, _⟩ := HL6.out.1.form (by omega)
              obtain ⟨hp, -⟩ : p = some ⟨gl, 0, none⟩ ∧ cp = c1 := by simpa using hsl
              subst hp
              obtain ⟨gu, c2, hsl2, _, _⟩ := HU6.out.1.form (by omega)
              obtain ⟨hp, -⟩ : p2 = some ⟨gu, 0, none⟩ ∧ cp2 = c2 := by simpa using hsl2
              subst hp
              have hca : ∀ w, Below W6.heap.size W6 w → _ := fun w hb => ln_cells (ownsRow_of HL6.out.1 fun x _ _ hx => hb.block x hx) hlt
              have hcb : ∀ w, Below W6.heap.size W6 w → _ := fun w hb => ln_cells (ownsRow_of HU6.out.1 fun x _ _ hx => hb.block x hx) hlt2
              obtain ⟨hr1, -⟩ := HL6.out.2 L[i] (List.getElem_mem hlt)
              obtain ⟨hr2, -⟩ := HU6.out.2 L2[i] (List.getElem_mem hlt2)
              have hm1 : M[i]? = some (bare L[i].1) := by rw [← HM.out]; simp [hlt]
              have hm2 : M[i]? = some (bare L2[i].1) := by rw [← HM2.out]; simp [hlt2]
              rw [hm1] at hm2
              have hbb := Option.some.inj hm2
              have hwl := (HBD.out L[i] (List.getElem_mem hlt)).2.1
              have hil := (HBD.out L[i] (List.getElem_mem hlt)).1
              obtain ⟨x1, hx1⟩ : ∃ x, L[i].2 = x := ⟨_, rfl⟩
              obtain ⟨x2, hx2⟩ : ∃ x, L2[i].2 = x := ⟨_, rfl⟩
              obtain ⟨y, hy⟩ : ∃ y, L[i].1 = y := ⟨_, rfl⟩
              obtain ⟨z, hz⟩ : ∃ y, L2[i].1 = y := ⟨_, rfl⟩
              rw [hx1, hy] at hr1
              rw [hx2, hz] at hr2
              rw [hy, hz] at hbb
              rw [hy] at hwl hil
              simp only [hx1, hy] at hca
              simp only [hx2, hz] at hcb
              obtain ⟨num, ind, ws⟩ := y
              obtain ⟨num2, ind2, ws2⟩ := z
              simp only at hca hcb hr1 hr2 hwl hil
              simp only [bare, Prod.mk.injEq] at hbb
              obtain ⟨rfl, hww⟩ := hbb
              have hl3 : ws2.length = ws.length := by have := congrArg List.length hww; simpa using this.symm
              obtain ⟨p3, q3', rfl⟩ := own_sl hr1
              obtain ⟨p4, q4', rfl⟩ := own_sl hr2
              rw [hl3] at hcb
              obtain ⟨a0, a1⟩ := hca wr hbw
              obtain ⟨b0, b1⟩ := hcb wr hbw
              have e1 : (0 : Int) ≤ (i : Int) := by omega
              have e2 : (i : Int) < (L.length : Int) := by omega
              have HA := Lib.hid hca; have HB := Lib.hid hcb; have HR1 := Lib.hid hr1; have HR2 := Lib.hid hr2; have HWW := Lib.hid hww
              clear hca hcb hr1 hr2 hww hx1 hx2 hy hz hm1 hm2 hsl hsl2
              go_wp2_with fail
              go_quiet (fail)
              have hbq : Below W6.heap.size W6 (wr.drewN nq) := Below.draws hbw _
              generalize wr.drewN nq = wo at hbq ⊢
              clear a0 a1 b0 b1 hbw
              have hbo := Lib.hid hbq
              clear hbq
              go_wp2_with fail
              go_loopw [17] (fun s wx => ∃ k : Nat, k ≤ ws.length ∧ s = .int .i64 k ∧ Below W6.heap.size W6 wx) (fun s _ => ws.length - (intOf s).toNat)
              case atStart => exact ⟨0, Nat.zero_le _, rfl, hbo.out⟩
              case round =>
                obtain ⟨k, hk, rfl, hbx⟩ := hrel
                obtain ⟨-, a1⟩ := HA.out _ hbx
                obtain ⟨-, b1⟩ := HB.out _ hbx
                by_cases hkl : k < ws.length
                · have hkl2 : k < ws2.length := by omega
                  obtain ⟨h1, c1, hsl, _, _⟩ := HR1.out.form (by omega)
                  obtain ⟨hp, -⟩ : p3 = some ⟨h1, 0, none⟩ ∧ q3' = c1 := by simpa using hsl
                  subst hp
                  obtain ⟨h2, c2, hsl2, _, _⟩ := HR2.out.form (by omega)
                  obtain ⟨hp, -⟩ : p4 = some ⟨h2, 0, none⟩ ∧ q4' = c2 := by simpa using hsl2
                  subst hp
                  obtain ⟨c0, -, -⟩ := wd_cells (ownsRow_of HR1.out fun x _ _ hx => hbx.block x hx) hkl
                  obtain ⟨d0, -, -⟩ := wd_cells (ownsRow_of HR2.out fun x _ _ hx => hbx.block x hx) hkl2
                  have ht : ws[k].1 = ws2[k].1 := by
                    have t1 : (ws.map (·.1))[k]? = some ws[k].1 := by simp [hkl]
                    rw [HWW.out] at t1
                    have t2 : (ws2.map (·.1))[k]? = some ws2[k].1 := by simp [hkl2]
                    rw [t2] at t1
                    exact (Option.some.inj t1).symm
                  rw [← ht] at d0
                  obtain ⟨tx, htx⟩ : ∃ x, ws[k].1 = x := ⟨_, rfl⟩
                  rw [htx] at c0 d0
                  have e3 : (0 : Int) ≤ (k : Int) := by omega
                  have e4 : (k : Int) < (ws.length : Int) := by omega
                  clear hsl hsl2 htx ht
                  go_wp2_with fail
                  go_quiet (fail)
                  go_wp2_with fail
                  refine ⟨⟨k + 1, by omega, by go_num, Below.draws hbx _⟩, ?_⟩
                  first | (simp [intOf]; done) | (simp [intOf]; omega)
                · have e4 : ¬ (k : Int) < (ws.length : Int) := by omega
                  clear hkl
                  go_wp2_with fail
                  go_roundw
                  case rel => exact ⟨i + 1, by omega, by go_num, hbx⟩
                  case measure => first | (simp [intOf]; done) | (simp [intOf]; omega)
            · have e2 : ¬ (i : Int) < (L.length : Int) := by omega
              clear hlt
              go_wp2_with fail
              go_ret
              exact ⟨rfl, HB5.out.trans (hbw.mono HB5.out.size)⟩
end Go.Proofs.Ythkiojedkafdhaa
