/- What at and Check of package waymarkref07 hand back. Under the conditions that they name. -/
import Derived.Test.YtiadflipakjeeaaLxF
namespace Go.Proofs.Ytiadflipakjeeaa
open Go.RowKit Go.Shelf
set_option maxRecDepth 100000 in
set_option maxHeartbeats 4000000 in
theorem rat_is (l : List UInt8) (i : Nat) (hi : i ≤ l.length) (hs : l.length ≤ 65536) (w : World) :
    Calls Try.prog 22 #[.string ⟨l.toArray⟩, .int .i64 i] w fun e w' => e = .returned (.agg #[.int .i64 (adv (l.take i) (1, 1)).1, .int .i64 (adv (l.take i) (1, 1)).2]) ∧ Below w.heap.size w w' := by
  have hsz := mk_size l
  obtain ⟨Z, hZ⟩ : ∃ Z, (w.alloc (.cells #[.int .i64 0, .int .i64 0] 24)).alloc (.cells #[.int .i64 1, .int .i64 1] 24) = Z := ⟨_, rfl⟩
  have hb0 : Below w.heap.size w Z := by rw [← hZ]; exact ((Below.refl _ _).alloc (Nat.le_refl _) _).alloc (by simp) _
  have hPZ : Z.heap[w.heap.size]? = some (.cells #[.int .i64 0, .int .i64 0] 24 (0, 0)) := by rw [← hZ]; exact heap_alloc2_old w _ _
  have hQZ : Z.heap[w.heap.size + 1]? = some (.cells #[.int .i64 1, .int .i64 1] 24 (0, 0)) := by rw [← hZ]; exact heap_alloc2_new w _ _
  have HB0 := Lib.hid hb0; have HPZ := Lib.hid hPZ; have HQZ := Lib.hid hQZ
  clear hb0 hPZ hQZ
  go_enter Try.func22, Try.ntmps22
  go_wp2_with fail
  try rw [hZ]
  clear hZ
  go_loopw [6] (fun s6 wr => ∃ k : Nat, k ≤ i ∧ s6 = .int .i64 k ∧ wr.heap[w.heap.size + 1]? = some (.cells #[.int .i64 (adv (l.take k) (1, 1)).1, .int .i64 (adv (l.take k) (1, 1)).2] 24 (0, 0)) ∧ Below (w.heap.size + 1) Z wr) (fun s6 _ => i - (intOf s6).toNat)
  case atStart => exact ⟨0, by omega, rfl, HQZ.out, Below.refl _ _⟩
  case round =>
    obtain ⟨k, hk, rfl, hrow, hbw⟩ := hrel
    have hbd := adv_bound (l.take k) (1, 1) (by simp) (by simp)
    have hkl : (l.take k).length = k := by rw [List.length_take]; omega
    rw [hkl] at hbd
    obtain ⟨u, v, huv⟩ : ∃ u v, adv (l.take k) (1, 1) = (u, v) := ⟨_, _, rfl⟩
    rw [huv] at hbd hrow
    simp only at hbd hrow
    obtain ⟨b1, b2, b3, b4⟩ := hbd
    obtain ⟨j0, jf0⟩ := row_cell' (j := 0) hrow rfl
    obtain ⟨j1, jf1⟩ := row_cell' (j := 1) hrow rfl
    have HROW := Lib.hid hrow
    by_cases hlt : k < i
    · have hkt : k < l.length := by omega
      have hst := adv_take l k hkt (1, 1)
      rw [huv] at hst
      simp only at hst
      have hk' : k < (⟨l.toArray⟩ : ByteArray).size := by rw [mk_size]; exact hkt
      have hget := get_at' l k hk' hkt
      have hki : (k : Int) < (i : Int) := by omega
      have hp1 : u + 1 ≤ 9223372036854775807 := by omega
      have hq1 : v + 1 ≤ 9223372036854775807 := by omega
      by_cases h10 : l[k] = 10
      · have hc10 : ((((⟨l.toArray⟩ : ByteArray)[k]'hk').toNat : Int) == 10) = true := by rw [hget, h10]; rfl
        rw [if_pos h10] at hst
        have HST := Lib.hid hst
        clear hrow hst h10 huv hkl hget
        go_wp2_with fail
        go_roundw
        case rel =>
          exact ⟨k + 1, by omega, by go_num, by rw [HST.out]; exact Lib.heap_setCell_same (i := 1) (Lib.heap_setCell_same (i := 0) (Lib.heap_setCell_same (i := 1) HROW.out _) _) _, by
            repeat refine Below.setCell ?_ (by simp) _
            exact hbw⟩
        case measure => first | (simp [intOf]; done) | (simp [intOf]; omega)
      · have hc10 : ((((⟨l.toArray⟩ : ByteArray)[k]'hk').toNat : Int) == 10) = false := by
          rw [hget]
          simp only [beq_eq_false_iff_ne, ne_eq]
          exact fun h => h10 (UInt8.toNat_inj.mp (by have h10 : (10 : UInt8).toNat = 10 := rfl; omega))
        rw [if_neg h10] at hst
        have HST := Lib.hid hst
        clear hrow hst h10 huv hkl hget
        go_wp2_with fail
        go_roundw
        case rel =>
          exact ⟨k + 1, by omega, by go_num, by rw [HST.out]; exact Lib.heap_setCell_same (i := 1) HROW.out _, by
            repeat refine Below.setCell ?_ (by simp) _
            exact hbw⟩
        case measure => first | (simp [intOf]; done) | (simp [intOf]; omega)
    · obtain rfl : k = i := by omega
      have hP2 := (hbw.block _ (by omega)).trans HPZ.out
      have HP2 := Lib.hid hP2
      have HUV := Lib.hid huv
      obtain ⟨r0, rf0⟩ := row_cell' (j := 0) hP2 rfl
      obtain ⟨r1, rf1⟩ := row_cell' (j := 1) hP2 rfl
      clear hlt hP2 hrow huv hkl
      go_wp2_with fail
      have hfin := set2 (m0 := u) (m1 := v) HP2.out
      have hbf : Below w.heap.size w ((wr.setCell ⟨w.heap.size, 0, none⟩ (.int .i64 u)).setCell ⟨w.heap.size, 1, none⟩ (.int .i64 v)) := by
        repeat refine Below.setCell ?_ (by simp) _
        exact HB0.out.trans (hbw.mono (by omega))
      obtain ⟨W9, hW9⟩ : ∃ W9, ((wr.setCell ⟨w.heap.size, 0, none⟩ (.int .i64 u)).setCell ⟨w.heap.size, 1, none⟩ (.int .i64 v)) = W9 := ⟨_, rfl⟩
      rw [hW9] at hfin hbf ⊢
      clear hW9
      obtain ⟨e0, _⟩ := row_cell' (j := 0) hfin rfl
      obtain ⟨e1, _⟩ := row_cell' (j := 1) hfin rfl
      exact bodyPost_ret (v := .agg #[.int .i64 u, .int .i64 v]) (by simp [results, Try.results22, go_sem, e0, e1]) rfl ⟨by rw [HUV.out], hbf⟩
set_option maxRecDepth 100000 in
set_option maxHeartbeats 4000000 in
theorem rcheck_is (l : List UInt8) (w : World) (hs : l.length ≤ 9223372036854775807) : Calls Try.prog 16 #[.string ⟨l.toArray⟩] w fun e w' => e = .returned (ChkV l) ∧ Below w.heap.size w w' := by
  have hsz := mk_size l
  obtain ⟨Z, hZ⟩ : ∃ Z, w.alloc (.cells #[.int .i64 0, .int .i64 0] 24) = Z := ⟨_, rfl⟩
  have hb0 : Below w.heap.size w Z := by rw [← hZ]; exact (Below.refl _ _).alloc (Nat.le_refl _) _
  have hPZ : Z.heap[w.heap.size]? = some (.cells #[.int .i64 0, .int .i64 0] 24 (0, 0)) := by rw [← hZ]; exact heap_alloc_new w _
  have hz0 : w.heap.size < Z.heap.size := (Array.getElem?_eq_some_iff.1 hPZ).1
  have HB0 := Lib.hid hb0; have HPZ := Lib.hid hPZ
  obtain ⟨z0, zf0⟩ := row_cell' (j := 0) hPZ rfl
  obtain ⟨z1, zf1⟩ := row_cell' (j := 1) hPZ rfl
  clear hb0 hPZ
  by_cases hbig : 65536 < l.length
  · have H : Hid (ChkV l = .tuple #[.agg #[.int .i64 0, .int .i64 0], .int .i64 3]) := Lib.hid (by unfold ChkV; rw [if_pos hbig])
    have hd : decide ((65536 : Int) < (l.length : Int)) = true := by simp; omega
    go_enter Try.func16, Try.ntmps16
    go_wp2_with fail
    try rw [hZ]
    have hfin := set2 (m0 := 0) (m1 := 0) HPZ.out
    have hbf : Below w.heap.size w ((Z.setCell ⟨w.heap.size, 0, none⟩ (.int .i64 0)).setCell ⟨w.heap.size, 1, none⟩ (.int .i64 0)) := by
      repeat refine Below.setCell ?_ (by simp) _
      exact HB0.out
    obtain ⟨W9, hW9⟩ : ∃ W9, ((Z.setCell ⟨w.heap.size, 0, none⟩ (.int .i64 0)).setCell ⟨w.heap.size, 1, none⟩ (.int .i64 0)) = W9 := ⟨_, rfl⟩
    rw [hW9] at hfin hbf ⊢
    clear hW9
    obtain ⟨e0, _⟩ := row_cell' (j := 0) hfin rfl
    obtain ⟨e1, _⟩ := row_cell' (j := 1) hfin rfl
    exact bodyPost_ret (v := .tuple #[.agg #[.int .i64 0, .int .i64 0], .int .i64 3]) (by simp [results, Try.results16, go_sem, e0, e1]) rfl ⟨by rw [H.out], hbf⟩
  · have hd : decide ((65536 : Int) < (l.length : Int)) = false := by simp; omega
    obtain ⟨N, hN⟩ : ∃ N, cntU pF l (1, 1) = N := ⟨_, rfl⟩
    have hchk : ChkV l = if N = l.length then .tuple #[.agg #[.int .i64 0, .int .i64 0], .int .i64 0] else if 4096 < (adv (l.take N) (1, 1)).1 then .tuple #[.agg #[.int .i64 (adv (l.take N) (1, 1)).1, .int .i64 (adv (l.take N) (1, 1)).2], .int .i64 3] else .tuple #[.agg #[.int .i64 (adv (l.take N) (1, 1)).1, .int .i64 (adv (l.take N) (1, 1)).2], .int .i64 70] := by
      unfold ChkV
      rw [if_neg hbig, hN]
    have HC := Lib.hid hchk; have HN := Lib.hid hN
    have HATA := Lib.hid (fun (i : Nat) (hi : i ≤ l.length) W => rat_is l i hi (by omega) W)
    clear hchk hN
    go_enter Try.func16, Try.ntmps16
    go_wp2_with fail
    try rw [hZ]
    go_loop [4, 5] (fun s4 s5 => ∃ k : Nat, k ≤ l.length ∧ s5 = .int .i64 k ∧ s4 = .int .i64 (adv (l.take k) (1, 1)).1 ∧ Hid (k + cntU pF (l.drop k) (adv (l.take k) (1, 1)) = N)) (fun _ s5 => l.length - (intOf s5).toNat)
    case atStart => exact ⟨0, by omega, rfl, rfl, Lib.hid (by simpa [adv] using HN.out)⟩
    case round =>
      obtain ⟨k, hk, rfl, rfl, HK⟩ := hrel
      have hbd := adv_bound (l.take k) (1, 1) (by simp) (by simp)
      have hkl : (l.take k).length = k := by rw [List.length_take]; omega
      rw [hkl] at hbd
      obtain ⟨u, v, huv⟩ : ∃ u v, adv (l.take k) (1, 1) = (u, v) := ⟨_, _, rfl⟩
      have hkn := HK.out
      rw [huv] at hbd hkn ⊢
      simp only at hbd ⊢
      obtain ⟨b1, b2, b3, b4⟩ := hbd
      by_cases hlt : k < l.length
      · have hdr := List.drop_eq_getElem_cons hlt
        have hst := adv_take l k hlt (1, 1)
        rw [huv] at hst
        simp only at hst
        have hk' : k < (⟨l.toArray⟩ : ByteArray).size := by rw [mk_size]; exact hlt
        have hget := get_at' l k hk' hlt
        rw [hdr] at hkn
        have hki : (k : Int) < (l.length : Int) := by omega
        have hp1 : u + 1 ≤ 9223372036854775807 := by omega
        have HAT : Hid (∀ W, Calls Try.prog 22 #[.string ⟨l.toArray⟩, .int .i64 k] W fun e w' => e = .returned (.agg #[.int .i64 u, .int .i64 v]) ∧ Below W.heap.size W w') := Lib.hid fun W => by have := HATA.out k (by omega) W; rw [huv] at this; exact this
        by_cases hu4 : 4096 < u
        · have hkN : k = N := by simpa [cntU, pF, hu4] using hkn
          have H : Hid (ChkV l = .tuple #[.agg #[.int .i64 u, .int .i64 v], .int .i64 3]) := Lib.hid (by rw [HC.out, ← hkN, if_neg (by omega), huv, if_pos hu4])
          clear hdr hst hkn hkN hget huv hkl
          go_wp2_with fail
          go_at_call 22
          (with_reducible refine (HAT.out _).mono ?_)
          rintro e w2 ⟨rfl, hb2⟩
          have hP2 := (hb2.block _ hz0).trans HPZ.out
          have HP2 := Lib.hid hP2
          obtain ⟨r0, rf0⟩ := row_cell' (j := 0) hP2 rfl
          obtain ⟨r1, rf1⟩ := row_cell' (j := 1) hP2 rfl
          clear hP2
          go_wp2_with fail
          have hfin := set2 (m0 := u) (m1 := v) HP2.out
          have hbf : Below w.heap.size w ((w2.setCell ⟨w.heap.size, 0, none⟩ (.int .i64 u)).setCell ⟨w.heap.size, 1, none⟩ (.int .i64 v)) := by
            repeat refine Below.setCell ?_ (by simp) _
            exact Below.step HB0.out hb2
          obtain ⟨W9, hW9⟩ : ∃ W9, ((w2.setCell ⟨w.heap.size, 0, none⟩ (.int .i64 u)).setCell ⟨w.heap.size, 1, none⟩ (.int .i64 v)) = W9 := ⟨_, rfl⟩
          rw [hW9] at hfin hbf ⊢
          clear hW9
          obtain ⟨e0, _⟩ := row_cell' (j := 0) hfin rfl
          obtain ⟨e1, _⟩ := row_cell' (j := 1) hfin rfl
          exact bodyPost_ret (v := .tuple #[.agg #[.int .i64 u, .int .i64 v], .int .i64 3]) (by simp [results, Try.results16, go_sem, e0, e1]) rfl ⟨by rw [H.out], hbf⟩
        · have hu4' : ¬ 4096 < u := hu4
          obtain ⟨C, hC⟩ : ∃ C : Int, ((l[k]).toNat : Int) = C := ⟨_, rfl⟩
          have hC2 : ((((⟨l.toArray⟩ : ByteArray)[k]'hk').toNat : Int)) = C := by rw [hget]; exact hC
          have h10e : (l[k] = 10) ↔ C = 10 := by
            rw [← hC]
            exact ⟨fun h => by rw [h]; rfl, fun h => UInt8.toNat_inj.mp (by have h10 : (10 : UInt8).toNat = 10 := rfl; omega)⟩
          rcases bad_ways C with ⟨h1, h2, hb⟩ | ⟨h1, hb⟩ | ⟨h1, h2, hb⟩ | ⟨h1, hb⟩
          · have hkN : k = N := by simpa [cntU, pF, hu4, hC, hb] using hkn
            have H : Hid (ChkV l = .tuple #[.agg #[.int .i64 u, .int .i64 v], .int .i64 70]) := Lib.hid (by rw [HC.out, ← hkN, if_neg (by omega), huv, if_neg hu4])
            have hne : (C == 10) = false := by simpa using h2
            clear hdr hst hkn hkN hget huv hkl hb h10e hC
            go_wp2_with fail
            go_at_call 22
            (with_reducible refine (HAT.out _).mono ?_)
            rintro e w2 ⟨rfl, hb2⟩
            have hP2 := (hb2.block _ hz0).trans HPZ.out
            have HP2 := Lib.hid hP2
            obtain ⟨r0, rf0⟩ := row_cell' (j := 0) hP2 rfl
            obtain ⟨r1, rf1⟩ := row_cell' (j := 1) hP2 rfl
            clear hP2
            go_wp2_with fail
            have hfin := set2 (m0 := u) (m1 := v) HP2.out
            have hbf : Below w.heap.size w ((w2.setCell ⟨w.heap.size, 0, none⟩ (.int .i64 u)).setCell ⟨w.heap.size, 1, none⟩ (.int .i64 v)) := by
              repeat refine Below.setCell ?_ (by simp) _
              exact Below.step HB0.out hb2
            obtain ⟨W9, hW9⟩ : ∃ W9, ((w2.setCell ⟨w.heap.size, 0, none⟩ (.int .i64 u)).setCell ⟨w.heap.size, 1, none⟩ (.int .i64 v)) = W9 := ⟨_, rfl⟩
            rw [hW9] at hfin hbf ⊢
            clear hW9
            obtain ⟨e0, _⟩ := row_cell' (j := 0) hfin rfl
            obtain ⟨e1, _⟩ := row_cell' (j := 1) hfin rfl
            exact bodyPost_ret (v := .tuple #[.agg #[.int .i64 u, .int .i64 v], .int .i64 70]) (by simp [results, Try.results16, go_sem, e0, e1]) rfl ⟨by rw [H.out], hbf⟩
          · have epf : cntU pF (l[k] :: l.drop (k + 1)) (u, v) = cntU pF (l.drop (k + 1)) (stp l[k] (u, v)) + 1 := by
              have hpf : pF (l[k] :: l.drop (k + 1)) u = false := by unfold pF; simp only; rw [hC, hb, decide_eq_false hu4]; rfl
              simp only [cntU]
              rw [if_neg (by rw [hpf]; simp)]
            have HK2 : Hid (k + 1 + cntU pF (l.drop (k + 1)) (adv (l.take (k + 1)) (1, 1)) = N) := Lib.hid (by
              rw [hst, if_pos (h10e.2 h1), ← hkn, epf, show stp l[k] (u, v) = (u + 1, 1) by unfold stp; rw [if_pos (h10e.2 h1)]]
              omega)
            have HST : Hid ((adv (l.take (k + 1)) (1, 1)).1 = u + 1) := Lib.hid (by rw [hst, if_pos (h10e.2 h1)])
            have hne : (C == 10) = true := by simpa using h1
            clear hdr hst hkn hget huv hkl hb h10e hC epf
            go_wp2_with fail
            go_round
            case rel => exact ⟨k + 1, by omega, by go_num, by rw [HST.out], HK2⟩
            case measure => first | (simp [intOf]; done) | (simp [intOf]; omega)
          · have epf : cntU pF (l[k] :: l.drop (k + 1)) (u, v) = cntU pF (l.drop (k + 1)) (stp l[k] (u, v)) + 1 := by
              have hpf : pF (l[k] :: l.drop (k + 1)) u = false := by unfold pF; simp only; rw [hC, hb, decide_eq_false hu4]; rfl
              simp only [cntU]
              rw [if_neg (by rw [hpf]; simp)]
            have hn10 : ¬ (l[k] = 10) := fun h => by have := h10e.1 h; omega
            have HK2 : Hid (k + 1 + cntU pF (l.drop (k + 1)) (adv (l.take (k + 1)) (1, 1)) = N) := Lib.hid (by
              rw [hst, if_neg hn10, ← hkn, epf, show stp l[k] (u, v) = (u, v + 1) by unfold stp; rw [if_neg hn10]]
              omega)
            have HST : Hid ((adv (l.take (k + 1)) (1, 1)).1 = u) := Lib.hid (by rw [hst, if_neg (fun h => by have := h10e.1 h; omega)])
            have hne : (C == 10) = false := by simp; omega
            have hn1 : ¬ C < 32 := by omega
            have hn2 : ¬ 126 < C := by omega
            clear hdr hst hkn hget huv hkl hb h10e hC epf
            go_wp2_with fail
            go_round
            case rel => exact ⟨k + 1, by omega, by go_num, by rw [HST.out], HK2⟩
            case measure => first | (simp [intOf]; done) | (simp [intOf]; omega)
          · have hkN : k = N := by simpa [cntU, pF, hu4, hC, hb] using hkn
            have H : Hid (ChkV l = .tuple #[.agg #[.int .i64 u, .int .i64 v], .int .i64 70]) := Lib.hid (by rw [HC.out, ← hkN, if_neg (by omega), huv, if_neg hu4])
            have hne : (C == 10) = false := by simp; omega
            have hn1 : ¬ C < 32 := by omega
            clear hdr hst hkn hkN hget huv hkl hb h10e hC
            go_wp2_with fail
            go_at_call 22
            (with_reducible refine (HAT.out _).mono ?_)
            rintro e w2 ⟨rfl, hb2⟩
            have hP2 := (hb2.block _ hz0).trans HPZ.out
            have HP2 := Lib.hid hP2
            obtain ⟨r0, rf0⟩ := row_cell' (j := 0) hP2 rfl
            obtain ⟨r1, rf1⟩ := row_cell' (j := 1) hP2 rfl
            clear hP2
            go_wp2_with fail
            have hfin := set2 (m0 := u) (m1 := v) HP2.out
            have hbf : Below w.heap.size w ((w2.setCell ⟨w.heap.size, 0, none⟩ (.int .i64 u)).setCell ⟨w.heap.size, 1, none⟩ (.int .i64 v)) := by
              repeat refine Below.setCell ?_ (by simp) _
              exact Below.step HB0.out hb2
            obtain ⟨W9, hW9⟩ : ∃ W9, ((w2.setCell ⟨w.heap.size, 0, none⟩ (.int .i64 u)).setCell ⟨w.heap.size, 1, none⟩ (.int .i64 v)) = W9 := ⟨_, rfl⟩
            rw [hW9] at hfin hbf ⊢
            clear hW9
            obtain ⟨e0, _⟩ := row_cell' (j := 0) hfin rfl
            obtain ⟨e1, _⟩ := row_cell' (j := 1) hfin rfl
            exact bodyPost_ret (v := .tuple #[.agg #[.int .i64 u, .int .i64 v], .int .i64 70]) (by simp [results, Try.results16, go_sem, e0, e1]) rfl ⟨by rw [H.out], hbf⟩
      · obtain rfl : k = l.length := by omega
        have hkN : l.length = N := by
          rw [List.drop_length] at hkn
          simpa [cntU] using hkn
        have H : Hid (ChkV l = .tuple #[.agg #[.int .i64 0, .int .i64 0], .int .i64 0]) := Lib.hid (by rw [HC.out, if_pos hkN.symm])
        clear hlt hkn hkN huv hkl
        go_wp2_with fail
        have hfin := set2 (m0 := 0) (m1 := 0) HPZ.out
        have hbf : Below w.heap.size w ((Z.setCell ⟨w.heap.size, 0, none⟩ (.int .i64 0)).setCell ⟨w.heap.size, 1, none⟩ (.int .i64 0)) := by
          repeat refine Below.setCell ?_ (by simp) _
          exact HB0.out
        obtain ⟨W9, hW9⟩ : ∃ W9, ((Z.setCell ⟨w.heap.size, 0, none⟩ (.int .i64 0)).setCell ⟨w.heap.size, 1, none⟩ (.int .i64 0)) = W9 := ⟨_, rfl⟩
        rw [hW9] at hfin hbf ⊢
        clear hW9
        obtain ⟨e0, _⟩ := row_cell' (j := 0) hfin rfl
        obtain ⟨e1, _⟩ := row_cell' (j := 1) hfin rfl
        exact bodyPost_ret (v := .tuple #[.agg #[.int .i64 0, .int .i64 0], .int .i64 0]) (by simp [results, Try.results16, go_sem, e0, e1]) rfl ⟨by rw [H.out], hbf⟩
end Go.Proofs.Ytiadflipakjeeaa
