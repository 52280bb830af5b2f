/- What the law's told says of a table and of its rows: true. Under the conditions that it names. -/
import Derived.Test.YtodfimnmbfdicaaTuG
import Derived.Test.YtodfimnmbfdicaaTpJ
namespace Go.Proofs.Ytodfimnmbfdicaa
open Go.RowKit Go.Shelf
attribute [local go_sem] Oper.semAt_some
/-- The blocks of a table's nodes and sequences. -/
def Fp (t r n y : Nat) : Prop := y < n ∧ y ≠ t ∧ y ≠ r
section
variable {t r : Nat} {L : List Kv} {T : Tr Int} {w : World}
theorem all_iter (hT : TabAt_i w t r L T) : Calls Try.prog 9 #[.pointer (some ⟨t, 0, none⟩)] w fun e w' => ∃ v, e = .returned v ∧ Iter (Fp t r w'.heap.size) w' v (rowsT allP T) ∧ Below w.heap.size w w' := by
  obtain ⟨root, hrow, hnd⟩ := hT.row
  refine (tall_is t _ root w hrow).mono ?_
  rintro e w' ⟨rfl, hs, hb, hz⟩
  have hl := hT.lt
  exact ⟨_, rfl, .inl ⟨_, root, T, rfl, hs, hT.ok, TrAt.keep (fun y hy hp => ⟨⟨by have := hb.size; omega, hp.1, hp.2⟩, hb.block y hy⟩) hnd, ⟨by omega, by omega, by omega⟩, ⟨by omega, by omega, by omega⟩, rfl⟩, hb⟩
theorem over_iter (x : Int) (hT : TabAt_i w t r L T) : Calls Try.prog 10 #[.pointer (some ⟨t, 0, none⟩), .int .u32 x] w fun e w' => ∃ v, e = .returned v ∧ Iter (Fp t r w'.heap.size) w' v (rowsT (inB x) T) ∧ Below w.heap.size w w' := by
  obtain ⟨root, hrow, hnd⟩ := hT.row
  refine (over_is t _ root x w hrow).mono ?_
  rintro e w' ⟨rfl, hs, hb, hz⟩
  have hl := hT.lt
  exact ⟨_, rfl, .inr ⟨x, _, _, root, T, rfl, hs, hT.ok, TrAt.keep (fun y hy hp => ⟨⟨by have := hb.size; omega, hp.1, hp.2⟩, hb.block y hy⟩) hnd, ⟨by omega, by omega, by omega⟩, ⟨by omega, by omega, by omega⟩, ⟨by omega, by omega, by omega⟩, rfl⟩, hb⟩
theorem within_iter (b m : Int) (hb0 : 0 ≤ b) (hb1 : b < 4294967296) (hT : TabAt_i w t r L T) : Calls Try.prog 29 #[.pointer (some ⟨t, 0, none⟩), .agg #[.int .u32 b, .int .i64 m]] w fun e w' => ∃ v, e = .returned v ∧ Iter (Fp t r w'.heap.size) w' v (withR b m (rowsT allP T)) ∧ Below w.heap.size w w' := by
  obtain ⟨root, hrow, hnd⟩ := hT.row
  have hl := hT.lt
  refine (twi_is (Off_i t r) t _ root T b m w hrow hT.ok hnd hb0 hb1).mono ?_
  rintro e w' ⟨g, root', rfl, h1, h2, hs, hnd', hb⟩
  exact ⟨_, rfl, .inl ⟨g, root', Tr.under b m T, rfl, hs, Tr.under_ok hT.ok, TrAt.keep (fun y hy hp => ⟨⟨hy, hp.1, hp.2⟩, rfl⟩) hnd', ⟨by omega, by omega, by omega⟩, ⟨by omega, by omega, by omega⟩, (rows_under hb0 hb1 hT.ok).symm⟩, hb⟩
end
theorem Iter.on {t r n : Nat} {w w' : World} {v : Value} {R : List Kv} (h : Iter (Fp t r n) w v R) (hn : n ≤ w.heap.size) (hb : Below w.heap.size w w') : Iter (Fp t r n) w' v R :=
  h.keep fun y hy => hb.block y (by have := hy.1; omega)
/-- Rows of a sequence, told by rows. -/
theorem rows_it {t r n : Nat} {R : List Kv} {sv wv : Value} (leave : Int) {w : World} (hit : Iter (Fp t r n) w sv R) (hn : n ≤ w.heap.size) (hr : RdK encRow 3 w wv R) (hl : R.length ≤ 100000) :
    Calls Try.prog 18 #[sv, wv, .int .i64 leave] w fun e w' => e = .returned (.bool true) ∧ Below w.heap.size w w' :=
  rows_fn (Fp t r n) R sv wv leave w hit (fun y hy => by have := hy.1; omega) hr hl
set_option maxRecDepth 100000 in
set_option maxHeartbeats 16000000 in
theorem told_is (t r : Nat) (L : List Kv) (T : Tr Int) (lv : Value) (b m a leave : Int) (w : World) (hT : TabAt_i w t r L T) (hs : ∀ b m v, getL (b, m) L = some v ↔ T.Has b m v) (hu : Uniq L) (hr : RdK encRow 3 w lv (rowsT allP T)) (hl : (rowsT allP T).length ≤ 1000)
    (hb0 : 0 ≤ b) (hb1 : b < 4294967296) (ha : 0 ≤ a) (ha2 : a < 4294967296) :
    Calls Try.prog 17 #[.pointer (some ⟨t, 0, none⟩), lv, .agg #[.int .u32 b, .int .i64 m], .int .u32 a, .int .i64 leave] w fun e w' => e = .returned (.bool true) ∧ Below w.heap.size w w' := by
  have hR := rows_srt hT.ok
  have hget : ∀ x, getL x L = getL x (rowsT allP T) := fun x => Option.ext fun v => by
    obtain ⟨x0, x1⟩ := x
    rw [getL_mem hR, mem_rows]
    exact hs x0 x1 v
  have hlen : L.length = (rowsT allP T).length := uniq_lenE hu (srt_uniq hR) hget
  have hor := over_rows a hT.ok
  have hrg := rows_pf (p := allP) hT.ok
  obtain ⟨R, hRR⟩ : ∃ R, rowsT allP T = R := ⟨_, rfl⟩
  obtain ⟨O, hO⟩ : ∃ O, rowsT (inB a) T = O := ⟨_, rfl⟩
  rw [hRR] at hget hlen hor hr hl hrg
  rw [hO] at hor
  have hol : O.length ≤ 1000 := by
    rw [← hO, rows_in a hT.ok, hRR]
    exact Nat.le_trans (List.length_filter_le _ _) hl
  obtain ⟨p, c, rfl, hlc, hcm, _⟩ := hr.sl
  have HT := Lib.hid hT; have HR := Lib.hid hr; have HG := Lib.hid hget; have HLN := Lib.hid hlen; have HOR := Lib.hid hor; have HRG := Lib.hid hrg; have HRR := Lib.hid hRR; have HO := Lib.hid hO
  obtain ⟨n0, hn0⟩ : ∃ n0, w.heap.size = n0 := ⟨_, rfl⟩
  obtain ⟨Z, hZ⟩ : ∃ Z, w.alloc (.cells #[.int .u32 b, .int .i64 m] 34) = Z := ⟨_, rfl⟩
  have hBZ : Below w.heap.size w Z := by rw [← hZ]; exact (Below.refl _ _).alloc (Nat.le_refl _) _
  have hp : Z.heap[n0]? = some (.cells #[.int .u32 b, .int .i64 m] 34 (0, 0)) := by rw [← hZ, ← hn0]; exact heap_alloc_new w _
  have c0 : Z.cell? ⟨n0, 0, none⟩ = some (.int .u32 b) := row_cell hp 0
  have c1 : Z.cell? ⟨n0, 1, none⟩ = some (.int .i64 m) := row_cell hp 1
  have HBZ := Lib.hid hBZ; have HP := Lib.hid hp; have HN0 := Lib.hid hn0
  obtain ⟨gv, hgv⟩ : ∃ z, (getL (b, m) R).getD 0 = z := ⟨_, rfl⟩
  obtain ⟨gb, hgb⟩ : ∃ z, (getL (b, m) R).isSome = z := ⟨_, rfl⟩
  have HGV := Lib.hid hgv; have HGB := Lib.hid hgb
  unfold maxLen at hcm
  clear hR hget hlen hor hrg hRR hO hT hs hu hr hBZ hp hgv hgb
  go_enter Try.func17, Try.ntmps17
  go_wp2_with fail
  clear hZ hn0
  go_at_call 27
  refine (at_is t r L T b m Z (HT.out.on HBZ.out)).mono ?_
  rw [HG.out, HGV.out, HGB.out]
  rintro e w1 ⟨rfl, hb1'⟩
  have HB1 := Lib.hid (Below.step HBZ.out hb1')
  have HP1 := Lib.hid ((hb1'.block n0 (blk_lt HP.out)).trans HP.out)
  have c0 : w1.cell? ⟨n0, 0, none⟩ = some (.int .u32 b) := row_cell HP1.out 0
  have c1 : w1.cell? ⟨n0, 1, none⟩ = some (.int .i64 m) := row_cell HP1.out 1
  clear hb1' HP
  go_wp2_with fail
  go_at_call 43
  refine (rat_is R _ b m w1 (HR.out.below HB1.out)).mono ?_
  rw [HGV.out, HGB.out]
  rintro e w2 ⟨rfl, hb2⟩
  have HB2 := Lib.hid (Below.step HB1.out hb2)
  have HP2 := Lib.hid ((hb2.block n0 (blk_lt HP1.out)).trans HP1.out)
  clear hb2 HP1 c0 c1 HB1
  go_wp2_with fail
  go_at_call 19
  refine (rover_is R _ a w2 (HR.out.below HB2.out) (by omega) HRG.out ha ha2).mono ?_
  rw [HOR.out]
  rintro e w3 ⟨ov, rfl, hor3, hb3⟩
  obtain ⟨po, co, rfl, hoc, hom, _⟩ := hor3.sl
  have HOV := Lib.hid hor3
  have HB3 := Lib.hid (Below.step HB2.out hb3)
  have HP3 := Lib.hid ((hb3.block n0 (blk_lt HP2.out)).trans HP2.out)
  clear hor3 hb3 HP2 HB2
  go_wp2_with fail
  go_at_call 25
  refine (longest_is t r a L T w3 (HT.out.on HB3.out)).mono ?_
  rw [HO.out]
  rintro e w4 ⟨rfl, hb4⟩
  obtain ⟨n9, hn9⟩ : ∃ n9, w4.heap.size = n9 := ⟨_, rfl⟩
  obtain ⟨qx, hqx⟩ : ∃ z, (lst O).1.1 = z := ⟨_, rfl⟩
  obtain ⟨qn, hqn⟩ : ∃ z, (lst O).1.2 = z := ⟨_, rfl⟩
  obtain ⟨qv, hqv⟩ : ∃ z, (lst O).2.1 = z := ⟨_, rfl⟩
  obtain ⟨is, his⟩ : ∃ z, (lst O).2.2 = z := ⟨_, rfl⟩
  rw [hqx, hqn, hqv, his]
  have HQ := Lib.hid (show lst O = ((qx, qn), qv, is) by rw [← hqx, ← hqn, ← hqv, ← his])
  clear hqx hqn hqv his
  obtain ⟨w5, hw5⟩ : ∃ X, w4.alloc (.cells #[.int .u32 qx, .int .i64 qn] 34) = X := ⟨_, rfl⟩
  have hb45 : Below w4.heap.size w4 w5 := by rw [← hw5]; exact (Below.refl _ _).alloc (Nat.le_refl _) _
  have hb35 := Below.step hb4 hb45
  have hr9 : w5.heap[n9]? = some (.cells #[.int .u32 qx, .int .i64 qn] 34 (0, 0)) := by rw [← hw5, ← hn9]; exact heap_alloc_new w4 _
  have HB5 := Lib.hid (Below.step HB3.out hb35)
  have HP5 := Lib.hid ((hb35.block n0 (blk_lt HP3.out)).trans HP3.out)
  have HOV5 := Lib.hid (HOV.out.below hb35)
  have HR9 := Lib.hid hr9
  have HTX := Lib.hid (HT.out.on HB5.out)
  have HLE := Lib.hid (show Calls Try.prog 30 #[.pointer (some ⟨t, 0, none⟩)] w5 fun e w' => e = .returned (.int .i64 R.length) ∧ w5 = w' from HLN.out ▸ len_is t r L T w5 HTX.out (by have := HLN.out; omega))
  clear hb4 hb45 hb35 hr9 HP3 HB3 HOV
  have hnb : (gb != gb) = false := by simp
  have hiq : is = decide (0 < O.length) := by
    have h := HQ.out
    unfold lst at h
    cases hg : O.getLast? with
    | none =>
      rw [hg] at h
      simp only [Prod.mk.injEq] at h
      have : O = [] := List.getLast?_eq_none_iff.1 hg
      subst this
      rw [← h.2.2]; rfl
    | some z =>
      rw [hg] at h
      simp only [Prod.mk.injEq] at h
      have : 0 < O.length := by
        rcases O with _ | ⟨y, O⟩
        · cases hg
        · simp
      rw [← h.2.2]; simp [this]
  have hio : (is != decide (0 < O.length)) = false := by rw [hiq]; simp
  have hio2 : (is != decide ((0 : Int) < (O.length : Int))) = false := by rw [hiq]; simp
  have hio3 : (!(is == decide (0 < O.length))) = false := by rw [hiq]; simp
  have HIQ := Lib.hid hiq
  clear hiq
  go_wp2_with (go_at_call 30; refine HLE.out.mono ?_; rintro e w6 ⟨rfl, rfl⟩)
  clear hw5 hn9 hnb hio hio2 hio3
  have c9 : w5.cell? ⟨n9, 0, none⟩ = some (.int .u32 qx) := row_cell HR9.out 0
  have c10 : w5.cell? ⟨n9, 1, none⟩ = some (.int .i64 qn) := row_cell HR9.out 1
  have hge := guardP .neq
  have hne := fun W => neqP qx qn qx qn W
  have hne0 := fun W => neqP qx qn 0 0 W
  obtain ⟨ln, hln⟩ : ∃ n, O.length = n := ⟨_, rfl⟩
  have hov := HOV5.out
  rw [hln] at hov hol hoc ⊢
  have HOV6 := Lib.hid hov; have HLNO := Lib.hid hln
  clear hov hln HOV5
  go_cut [98] from 63 to 97 (fun s98 wx => s98 = .bool false ∧ Below w5.heap.size w5 wx)
  case first =>
    have hcc : O = [] ∨ ∃ A z, O = A ++ [z] := by
      rcases List.eq_nil_or_concat O with h | ⟨A, z, h⟩
      · exact .inl h
      · exact .inr ⟨A, z, by rw [h, List.concat_eq_append]⟩
    rcases hcc with rfl | ⟨A, z, rfl⟩
    · have hq := HQ.out
      simp only [lst, List.getLast?_nil, Prod.mk.injEq] at hq
      obtain ⟨⟨rfl, rfl⟩, rfl, rfl⟩ := hq
      have d1 : decide ((0 : Int) = 0 ∧ (0 : Int) = 0) = true := by simp
      rw [d1] at hne0
      clear hne
      go_quiet (fail)
      go_wp2_with fail
      go_meet
      exact ⟨rfl, Below.draws (Below.refl _ _) nq⟩
    · have hq := HQ.out
      rw [lst_snoc] at hq
      obtain ⟨⟨z0, z1⟩, zv⟩ := z
      simp only [Prod.mk.injEq] at hq
      obtain ⟨⟨rfl, rfl⟩, rfl, rfl⟩ := hq
      obtain ⟨bo, oo, c', he, hbl, hcx⟩ := rd_row HOV6.out (i := A.length) (x := ((z0, z1), zv)) (by simp)
      simp only [Value.slice.injEq] at he
      obtain ⟨rfl, -, rfl⟩ := he
      obtain ⟨g0, g1, g2⟩ := hcx w5 (Below.refl _ _)
      simp only at g0 g1 g2
      obtain ⟨k, hk⟩ : ∃ k, A.length = k := ⟨_, rfl⟩
      have hl1 : k + 1 = ln := by have := HLNO.out; simp at this; omega
      rw [hk] at g0 g1 g2
      clear HLNO HOV6 hk
      subst hl1
      have k0 : (0 : Int) ≤ (k : Int) := by omega
      have k1 : (k : Int) < ((k + 1 : Nat) : Int) := by omega
      have k2 : (k : Int) < 1000 := by omega
      have hdd : (!decide (z0 = z0 ∧ z1 = z1)) = false := by simp
      simp only [hdd] at hne
      clear hne0 hcx
      go_quiet (fail)
      go_wp2_with fail
      go_meet
      exact ⟨rfl, Below.draws (Below.refl _ _) nq⟩
  case rest =>
    obtain ⟨rfl, hb6⟩ := hcut
    have HB6 := Lib.hid (Below.step HB5.out hb6)
    have HP6 := Lib.hid ((hb6.block n0 (blk_lt HP5.out)).trans HP5.out)
    have HTC := Lib.hid (HTX.out.on hb6)
    have HOC := Lib.hid (HOV6.out.below hb6)
    have HRC := Lib.hid (HR.out.below HB6.out)
    have c0 : wc.cell? ⟨n0, 0, none⟩ = some (.int .u32 b) := row_cell HP6.out 0
    have c1 : wc.cell? ⟨n0, 1, none⟩ = some (.int .i64 m) := row_cell HP6.out 1
    have hn0l := blk_lt HP6.out
    have HB : Hid (Below wc.heap.size wc wc) := Lib.hid (Below.refl _ _)
    have HLR : Hid (R.length ≤ 100000) := Lib.hid (by omega)
    have HLO : Hid (O.length ≤ 100000) := Lib.hid (by have := HLNO.out; omega)
    have HLW : Hid ((withR b m R).length ≤ 100000) := Lib.hid (Nat.le_trans (List.length_filter_le _ _) HLR.out)
    clear hb6 HTX HOV6 HP5 HB5 HLE c9 c10 hge hne hne0 HR9 HT HR HIQ HQ
    go_wp2_with fail
    go_cut [10] from 99 to 121 (fun s10 wx => s10 = .bool true ∧ Below wc.heap.size wc wx)
    case first =>
      go_region_with (first
        | (go_at_call 9; (with_reducible refine (all_iter (HTC.out.on (by first | exact HB.out | exact HB.out.drew | exact HB.out.drew.drew))).mono ?_); rintro e wv ⟨va, rfl, hit, hbv⟩; rw [HRR.out] at hit; have HIA := Lib.hid hit; have hbx := Below.step (show Below wc.heap.size wc _ from (by first | exact HB.out | exact HB.out.drew | exact HB.out.drew.drew)) hbv; have HB := Lib.hid hbx; have c0 : wv.cell? ⟨n0, 0, none⟩ = some (.int .u32 b) := row_cell ((hbx.block n0 hn0l).trans HP6.out) 0; have c1 : wv.cell? ⟨n0, 1, none⟩ = some (.int .i64 m) := row_cell ((hbx.block n0 hn0l).trans HP6.out) 1; clear hbx hbv)
        | (go_at_call 10; (with_reducible refine (over_iter a (HTC.out.on (by first | exact HB.out | exact HB.out.drew | exact HB.out.drew.drew))).mono ?_); rintro e wv ⟨vo, rfl, hit, hbv⟩; rw [HO.out] at hit; have HIO := Lib.hid hit; have hbx := Below.step (show Below wc.heap.size wc _ from (by first | exact HB.out | exact HB.out.drew | exact HB.out.drew.drew)) hbv; have HB := Lib.hid hbx; have c0 : wv.cell? ⟨n0, 0, none⟩ = some (.int .u32 b) := row_cell ((hbx.block n0 hn0l).trans HP6.out) 0; have c1 : wv.cell? ⟨n0, 1, none⟩ = some (.int .i64 m) := row_cell ((hbx.block n0 hn0l).trans HP6.out) 1; clear hbx hbv)
        | (go_at_call 29; (with_reducible refine (within_iter b m hb0 hb1 (HTC.out.on (by first | exact HB.out | exact HB.out.drew | exact HB.out.drew.drew))).mono ?_); rintro e wv ⟨vw, rfl, hit, hbv⟩; rw [HRR.out] at hit; have HIW := Lib.hid hit; (try (have HRW := Lib.hid (HRW.out.below hbv))); have hbx := Below.step (show Below wc.heap.size wc _ from (by first | exact HB.out | exact HB.out.drew | exact HB.out.drew.drew)) hbv; have HB := Lib.hid hbx; have c0 : wv.cell? ⟨n0, 0, none⟩ = some (.int .u32 b) := row_cell ((hbx.block n0 hn0l).trans HP6.out) 0; have c1 : wv.cell? ⟨n0, 1, none⟩ = some (.int .i64 m) := row_cell ((hbx.block n0 hn0l).trans HP6.out) 1; clear hbx hbv)
        | (go_at_call 44; (with_reducible refine (rwin_is R _ b m _ (HRC.out.below (by first | exact HB.out | exact HB.out.drew | exact HB.out.drew.drew)) HLR.out HRG.out hb0 hb1).mono ?_); rintro e wv ⟨vr, rfl, hrw, hbv⟩; have HRW := Lib.hid hrw; have HSZW := Lib.hid hbv.size; (try (have HIW := Lib.hid (HIW.out.on (Nat.le_refl _) hbv))); clear hrw; have hbx := Below.step (show Below wc.heap.size wc _ from (by first | exact HB.out | exact HB.out.drew | exact HB.out.drew.drew)) hbv; have HB := Lib.hid hbx; have c0 : wv.cell? ⟨n0, 0, none⟩ = some (.int .u32 b) := row_cell ((hbx.block n0 hn0l).trans HP6.out) 0; have c1 : wv.cell? ⟨n0, 1, none⟩ = some (.int .i64 m) := row_cell ((hbx.block n0 hn0l).trans HP6.out) 1; clear hbx hbv)
        | (go_at_call 18; (with_reducible refine (rows_it leave HIA.out (Nat.le_refl _) (HRC.out.below HB.out) HLR.out).mono ?_); rintro e wv ⟨rfl, hbv⟩; have hbx := Below.step (show Below wc.heap.size wc _ from (by first | exact HB.out | exact HB.out.drew | exact HB.out.drew.drew)) hbv; have HB := Lib.hid hbx; have c0 : wv.cell? ⟨n0, 0, none⟩ = some (.int .u32 b) := row_cell ((hbx.block n0 hn0l).trans HP6.out) 0; have c1 : wv.cell? ⟨n0, 1, none⟩ = some (.int .i64 m) := row_cell ((hbx.block n0 hn0l).trans HP6.out) 1; clear hbx hbv)
        | (go_at_call 18; (with_reducible refine (rows_it leave HIO.out (Nat.le_refl _) (HOC.out.below HB.out) HLO.out).mono ?_); rintro e wv ⟨rfl, hbv⟩; have hbx := Below.step (show Below wc.heap.size wc _ from (by first | exact HB.out | exact HB.out.drew | exact HB.out.drew.drew)) hbv; have HB := Lib.hid hbx; have c0 : wv.cell? ⟨n0, 0, none⟩ = some (.int .u32 b) := row_cell ((hbx.block n0 hn0l).trans HP6.out) 0; have c1 : wv.cell? ⟨n0, 1, none⟩ = some (.int .i64 m) := row_cell ((hbx.block n0 hn0l).trans HP6.out) 1; clear hbx hbv)
        | (go_at_call 18; (with_reducible refine (rows_it leave HIW.out (by first | exact Nat.le_refl _ | exact HSZW.out) HRW.out HLW.out).mono ?_); rintro e wv ⟨rfl, hbv⟩; have hbx := Below.step (show Below wc.heap.size wc _ from (by first | exact HB.out | exact HB.out.drew | exact HB.out.drew.drew)) hbv; have HB := Lib.hid hbx; have c0 : wv.cell? ⟨n0, 0, none⟩ = some (.int .u32 b) := row_cell ((hbx.block n0 hn0l).trans HP6.out) 0; have c1 : wv.cell? ⟨n0, 1, none⟩ = some (.int .i64 m) := row_cell ((hbx.block n0 hn0l).trans HP6.out) 1; clear hbx hbv))
      all_goals
        go_wp2_with fail
        go_meet
        exact ⟨rfl, HB.out⟩
    case rest =>
      obtain ⟨rfl, hb7⟩ := hcut
      have HB7 := Lib.hid (Below.step HB6.out hb7)
      clear hb7
      go_wp2_with fail
      go_ret
      exact ⟨rfl, HB7.out⟩
end Go.Proofs.Ytodfimnmbfdicaa
