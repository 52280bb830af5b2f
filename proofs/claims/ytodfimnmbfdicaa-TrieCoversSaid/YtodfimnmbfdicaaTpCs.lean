/- What trie.node.with makes of a tree of prefixes. Under the conditions that it names. -/
import Derived.Test.YtodfimnmbfdicaaTpB
namespace Go.Proofs.Ytodfimnmbfdicaa
open Go.RowKit Go.Shelf
abbrev Nd_s (P : Nat → Prop) (w : World) (p : Option Addr) (t : Tr Unit) : Prop := TrAt 109 87 (fun _ : Unit => #[]) P w p t
abbrev Vl_s (P : Nat → Prop) (w : World) (p : Option Addr) (u : Option Unit) : Prop := VlAt 87 (fun _ : Unit => #[]) P w p u
/-- What 'with' does to a tree. -/
def With_s (t : Tr Unit) : Prop := ∀ (P : Nat → Prop) (p : Option Addr) (b m : Int) (q : Addr) (v : Unit) (w : World), t.Ok → (∀ x, P x → x < w.heap.size) → Nd_s P w p t → PfOk b m → Vl_s P w (some q) (some v) →
  Calls Try.prog 57 #[.pointer p, .agg #[.int .u32 b, .int .i64 m], .pointer (some q)] w fun e w' => ∃ p', e = .returned (.pointer p') ∧ Nd_s (Wid P w) w' p' (t.ins b m v) ∧ Below w.heap.size w w'
theorem with_nil_s : With_s .nil := by
  intro P p b m q v w _ _ hp _ hv
  obtain rfl : p = none := hp
  have HV := Lib.hid hv
  clear hv
  go_enter Try.func57, Try.ntmps57
  go_wp2_with fail
  go_ret
  have hb : Below w.heap.size w ((w.alloc (.cells #[.int .u32 b, .int .i64 m] 34)).alloc (.cells #[.int .u32 b, .int .i64 m, .pointer (some q), .pointer none, .pointer none] 109)) := ((Below.refl _ _).alloc (Nat.le_refl _) _).alloc (by simp) _
  refine ⟨_, rfl, ⟨w.heap.size + 1, some q, none, none, rfl, .inr (by omega), ?_, (HV.out.on hb).mono fun _ => .inl, rfl, rfl⟩, hb⟩
  have := heap_alloc_new (w.alloc (.cells #[.int .u32 b, .int .i64 m] 34)) (.cells #[.int .u32 b, .int .i64 m, .pointer (some q), .pointer none, .pointer none] 109)
  rwa [World.size_alloc] at this
theorem box_late_s {W1 w5 : World} {C K : Int} (hb : Below W1.drew.heap.size W1.drew w5) : W1.heap.size ≤ w5.heap.size ∧ (w5.alloc (.cells #[.int .u32 C, .int .i64 K] 34)).heap[w5.heap.size]? = some (.cells #[.int .u32 C, .int .i64 K] 34 (0, 0)) ∧ Below W1.heap.size W1 (w5.alloc (.cells #[.int .u32 C, .int .i64 K] 34)) := by
  have h1 : Below W1.heap.size W1 w5 := Below.step ((Below.refl _ _).drew) hb
  exact ⟨h1.size, heap_alloc_new _ _, h1.alloc h1.size _⟩
theorem box_early_s {W1 w5 : World} {C K : Int} (hb : Below (W1.alloc (.cells #[.int .u32 0, .int .i64 0] 34)).drew.heap.size (W1.alloc (.cells #[.int .u32 0, .int .i64 0] 34)).drew w5) (hz : w5.heap[W1.heap.size]? = some (.cells #[.int .u32 0, .int .i64 0] 34 (0, 0))) : W1.heap.size ≤ W1.heap.size ∧ ((w5.setCell ⟨W1.heap.size, 0, none⟩ (.int .u32 C)).setCell ⟨W1.heap.size, 1, none⟩ (.int .i64 K)).heap[W1.heap.size]? = some (.cells #[.int .u32 C, .int .i64 K] 34 (0, 0)) ∧
    Below W1.heap.size W1 ((w5.setCell ⟨W1.heap.size, 0, none⟩ (.int .u32 C)).setCell ⟨W1.heap.size, 1, none⟩ (.int .i64 K)) := by
  have h1 : Below W1.heap.size W1 w5 := Below.step (((Below.refl _ _).alloc (Nat.le_refl _) _).drew) hb
  exact ⟨Nat.le_refl _, heap_setCell_same _ _ 1 _ _ _ (heap_setCell_same _ _ 0 _ _ _ hz), (h1.setCell (p := ⟨W1.heap.size, 0, none⟩) (Nat.le_refl _) _).setCell (p := ⟨W1.heap.size, 1, none⟩) (Nat.le_refl _) _⟩
theorem with_done_s {w wc W9 W' : World} {g9 : Nat} (h : Below w.heap.size w wc) (hg : wc.heap.size = g9) (h9 : Below g9 wc W9) (h' : Below g9 W9 W') : Below w.heap.size w W' :=
  h.trans ((h9.trans h').mono (by have := h.size; omega))
theorem after_call_s {P : Nat → Prop} {w W10 X w5 : World} {g9 off : Nat} {p' : Option Addr} {t : Tr Unit} {y : Value} (hP : ∀ x, P x → x < w.heap.size) (hwg : w.heap.size ≤ g9) (hlt : g9 < W10.heap.size) (hX : X.heap.size = W10.heap.size) (hp : Nd_s (Wid P X) w5 p' t) : Nd_s (Wid P w) (w5.setCell ⟨g9, off, none⟩ y) p' t :=
  TrAt.keep (fun x _ hq => ⟨hq.imp id fun h => by omega, Below.heap_setCell _ _ _ _ (by
    show x ≠ g9
    rcases hq with h | h
    · have := hP x h; omega
    · omega)⟩) hp
set_option maxRecDepth 100000 in
set_option maxHeartbeats 16000000 in
theorem with_node_s (a n : Int) (u : Option Unit) (l r : Tr Unit) (CL : With_s l) (CR : With_s r) : With_s (.node a n u l r) := by
  intro P p b m q v w hok hPw hp hbm hv
  have HPW := Lib.hid hPw
  clear hPw
  obtain ⟨g, pv, pl, pr, rfl, hPg, hg, hu, hl, hr⟩ := hp
  have HPG := Lib.hid hPg
  clear hPg
  obtain ⟨W1, hW1⟩ : ∃ X, w.alloc (.cells #[.int .u32 b, .int .i64 m] 34) = X := ⟨_, rfl⟩
  have hB1 : Below w.heap.size w W1 := by rw [← hW1]; exact (Below.refl _ _).alloc (Nat.le_refl _) _
  have hz1 : W1.heap.size = w.heap.size + 1 := by rw [← hW1]; simp
  have hq1 : W1.heap[w.heap.size]? = some (.cells #[.int .u32 b, .int .i64 m] 34 (0, 0)) := by rw [← hW1]; exact heap_alloc_new w _
  have hg1 := (hB1.block g (blk_lt hg)).trans hg
  have HB1 := Lib.hid hB1; have HQ1 := Lib.hid hq1; have HG1 := Lib.hid hg1
  have HU := Lib.hid hu; have HL := Lib.hid hl; have HR := Lib.hid hr; have HV := Lib.hid hv; have HG := Lib.hid hg
  have HOK := Lib.hid hok; have HBM := Lib.hid hbm
  have a0 : W1.cell? ⟨g, 0, none⟩ = some (.int .u32 a) := row_cell hg1 0
  have a1 : W1.cell? ⟨g, 1, none⟩ = some (.int .i64 n) := row_cell hg1 1
  have b0 : W1.cell? ⟨w.heap.size, 0, none⟩ = some (.int .u32 b) := row_cell hq1 0
  have b1 : W1.cell? ⟨w.heap.size, 1, none⟩ = some (.int .i64 m) := row_cell hq1 1
  have HC : Hid (∀ W, Calls Try.prog 54 #[.agg #[.int .u32 a, .int .i64 n], .agg #[.int .u32 b, .int .i64 m]] W fun e w' => e = .returned (.tuple #[.agg #[.int .u32 (a / pw (cmK a n b m) * pw (cmK a n b m)), .int .i64 (cmK a n b m)], .int .i64 0]) ∧ Below W.heap.size W w') :=
    Lib.hid fun W => common_ok a n b m W hok.1.1 hok.1.2.1 hbm.1 hbm.2.1 hok.1.2.2 hbm.2.2
  have hBz : Below W1.heap.size W1 (W1.alloc (.cells #[.int .u32 0, .int .i64 0] 34)) := (Below.refl _ _).alloc (Nat.le_refl _) _
  have hgz := (hBz.block g (blk_lt hg1)).trans hg1
  have hqz := (hBz.block w.heap.size (blk_lt hq1)).trans hq1
  have az0 : (W1.alloc (.cells #[.int .u32 0, .int .i64 0] 34)).cell? ⟨g, 0, none⟩ = some (.int .u32 a) := row_cell hgz 0
  have az1 : (W1.alloc (.cells #[.int .u32 0, .int .i64 0] 34)).cell? ⟨g, 1, none⟩ = some (.int .i64 n) := row_cell hgz 1
  have bz0 : (W1.alloc (.cells #[.int .u32 0, .int .i64 0] 34)).cell? ⟨w.heap.size, 0, none⟩ = some (.int .u32 b) := row_cell hqz 0
  have bz1 : (W1.alloc (.cells #[.int .u32 0, .int .i64 0] 34)).cell? ⟨w.heap.size, 1, none⟩ = some (.int .i64 m) := row_cell hqz 1
  clear hBz hgz hqz
  obtain ⟨C, hC⟩ : ∃ C, a / pw (cmK a n b m) * pw (cmK a n b m) = C := ⟨_, rfl⟩
  obtain ⟨K, hK⟩ : ∃ K, cmK a n b m = K := ⟨_, rfl⟩
  rw [hK] at hC
  rw [hK, hC] at HC
  have HCD := Lib.hid hC; have HKD := Lib.hid hK
  clear hC hK hB1 hz1 hq1 hg1 hu hl hr hv hg hok hbm
  obtain ⟨n0, hn0⟩ : ∃ n0, w.heap.size = n0 := ⟨_, rfl⟩
  rw [hn0] at b0 b1 bz0 bz1 HQ1
  have HN0 := Lib.hid hn0
  go_enter Try.func57, Try.ntmps57
  go_wp2_with fail
  clear hW1 hn0
  go_cut [7, 8] from 17 to 25 (fun s7 s8 wx => ∃ g7 : Nat, s7 = .pointer (some ⟨g7, 0, none⟩) ∧ s8 = .int .i64 0 ∧ W1.heap.size ≤ g7 ∧ wx.heap[g7]? = some (.cells #[.int .u32 C, .int .i64 K] 34 (0, 0)) ∧ Below W1.heap.size W1 wx)
  case first =>
    go_region_with (go_at_call 54; (with_reducible refine (HC.out _).mono ?_); rintro e w5 ⟨rfl, hb45⟩; (try (have zc : w5.heap[W1.heap.size]? = some (.cells #[.int .u32 0, .int .i64 0] 34 (0, 0)) := (hb45.block W1.heap.size (by simp)).trans (heap_alloc_new W1 _); have zc0 : w5.cell? ⟨W1.heap.size, 0, none⟩ = some (.int .u32 0) := row_cell zc 0; have zc1 : w5.cell? ⟨W1.heap.size, 1, none⟩ = some (.int .i64 0) := row_cell zc 1; have zf0 := frozen_of_row _ _ 0 _ _ zc; have zf1 := frozen_of_row _ _ 1 _ _ zc)))
    all_goals
      go_wp2_with fail
      go_meet
      refine ⟨_, rfl, rfl, ?_⟩
      first
        | exact box_late_s hb45
        | exact box_early_s hb45 zc
  case rest =>
    obtain ⟨g7, rfl, rfl, hg7, hr7, hb7⟩ := hcut
    clear a0 a1 b0 b1 az0 az1 bz0 bz1 HC
    have HB7 := Lib.hid hb7; have HG7 := Lib.hid hr7
    have c0 : ∀ o, (wc.alloc o).cell? ⟨g7, 0, none⟩ = some (.int .u32 C) := fun o => row_cell ((heap_alloc_old wc o (blk_lt hr7)).trans hr7) 0
    have c1 : ∀ o, (wc.alloc o).cell? ⟨g7, 1, none⟩ = some (.int .i64 K) := fun o => row_cell ((heap_alloc_old wc o (blk_lt hr7)).trans hr7) 1
    have d0 : wc.cell? ⟨g7, 0, none⟩ = some (.int .u32 C) := row_cell hr7 0
    have d1 : wc.cell? ⟨g7, 1, none⟩ = some (.int .i64 K) := row_cell hr7 1
    have hgc := (hb7.block g (blk_lt HG1.out)).trans HG1.out
    have hqc := (hb7.block n0 (blk_lt HQ1.out)).trans HQ1.out
    have a0 : ∀ o, (wc.alloc o).cell? ⟨g, 0, none⟩ = some (.int .u32 a) := fun o => row_cell ((heap_alloc_old wc o (blk_lt hgc)).trans hgc) 0
    have a1 : ∀ o, (wc.alloc o).cell? ⟨g, 1, none⟩ = some (.int .i64 n) := fun o => row_cell ((heap_alloc_old wc o (blk_lt hgc)).trans hgc) 1
    have a2 : ∀ o, (wc.alloc o).cell? ⟨g, 2, none⟩ = some (.pointer pv) := fun o => row_cell ((heap_alloc_old wc o (blk_lt hgc)).trans hgc) 2
    have a3 : ∀ o, (wc.alloc o).cell? ⟨g, 3, none⟩ = some (.pointer pl) := fun o => row_cell ((heap_alloc_old wc o (blk_lt hgc)).trans hgc) 3
    have a4 : ∀ o, (wc.alloc o).cell? ⟨g, 4, none⟩ = some (.pointer pr) := fun o => row_cell ((heap_alloc_old wc o (blk_lt hgc)).trans hgc) 4
    have b0 : ∀ o, (wc.alloc o).cell? ⟨n0, 0, none⟩ = some (.int .u32 b) := fun o => row_cell ((heap_alloc_old wc o (blk_lt hqc)).trans hqc) 0
    have b1 : ∀ o, (wc.alloc o).cell? ⟨n0, 1, none⟩ = some (.int .i64 m) := fun o => row_cell ((heap_alloc_old wc o (blk_lt hqc)).trans hqc) 1
    have BW : Hid (Below w.heap.size w wc) := Lib.hid (HB1.out.trans (hb7.mono HB1.out.size))
    have HGC := Lib.hid hgc; have HQC := Lib.hid hqc
    clear hb7 hr7 hgc hqc
    obtain ⟨k0, k1, k2, k3⟩ := cm_k HOK.out.1 HBM.out
    rw [HKD.out] at k0 k1 k2 k3
    have hbits := HOK.out.1.bits
    have hbb := HBM.out.bits
    have hCo : PfOk C K := by rw [← HCD.out]; exact cut_ok HOK.out.1.1 HOK.out.1.2.1 k0 (by omega)
    have hCa : Eq32 K C a := by rw [← HCD.out]; exact cut_eq a K
    have HK3 := Lib.hid k3; have HCO := Lib.hid hCo; have HCA := Lib.hid hCa
    have hge := guardP .eql
    have he1 := eqlP C K a n
    have he2 := eqlP C K b m
    have HS1 := Lib.hid fun W => side_is a K W HOK.out.1.1 HOK.out.1.2.1 k0 (by omega)
    have HS2 := Lib.hid fun W => side_is b K W HBM.out.1 HBM.out.2.1 k0 (by omega)
    clear k3 hCo hCa
    by_cases hn : K = n
    · have hCa : C = a := by
        have := HCA.out; rw [hn] at this
        have h2 := HCO.out; rw [hn] at h2
        exact pf_eq h2 HOK.out.1 this
      have e1 : decide (C = a ∧ K = n) = true := by simp [hCa, hn]
      rw [e1] at he1
      by_cases hm : K = m
      · have hCb : C = b := by
          have := HCA.out.trans HK3.out; rw [hm] at this
          have h2 := HCO.out; rw [hm] at h2
          exact pf_eq h2 HBM.out this
        have e2 : decide (C = b ∧ K = m) = true := by simp [hCb, hm]
        rw [e2] at he2
        clear e1 e2 hge he1 he2
        subst hn; subst hm; subst hCa; subst hCb
        have hge := guardP .eql
        have he1 := fun W => eqlP C K C K W
        have hdt : decide (C = C ∧ K = K) = true := by simp
        simp only [hdt] at he1
        clear hdt
        go_wp2_with fail
        go_quiet (fail)
        obtain ⟨W9, hW9⟩ : ∃ X, (wc.alloc (.cells #[.int .u32 C, .int .i64 K, .pointer none, .pointer none, .pointer none] 109)).drewN nq = X := ⟨_, rfl⟩
        obtain ⟨r9, hb9, hz9⟩ := fresh9 hW9
        rw [hW9]
        clear hW9 a0 a1 a2 a3 a4 b0 b1 c0 c1 d0 d1
        have lg := blk_lt HGC.out; have lq := blk_lt HQC.out; have l7 := blk_lt HG7.out
        obtain ⟨g9, hg9⟩ : ∃ x, wc.heap.size = x := ⟨_, rfl⟩
        have HG9 := Lib.hid hg9
        have hbc : Below g9 wc W9 := by rw [← hg9]; exact hb9
        rw [hg9] at r9 hz9 lg lq l7 ⊢
        clear hb9
        have rg := (hbc.block g lg).trans HGC.out
        have rq := (hbc.block n0 lq).trans HQC.out
        have r7 := (hbc.block g7 l7).trans HG7.out
        have HBC := Lib.hid hbc
        clear hg9 hbc
        have y0 : W9.cell? ⟨g9, 0, none⟩ = some (.int .u32 C) := row_cell r9 0
        have y1 : W9.cell? ⟨g9, 1, none⟩ = some (.int .i64 K) := row_cell r9 1
        have y2 : W9.cell? ⟨g9, 2, none⟩ = some (.pointer none) := row_cell r9 2
        have y3 : W9.cell? ⟨g9, 3, none⟩ = some (.pointer none) := row_cell r9 3
        have y4 : W9.cell? ⟨g9, 4, none⟩ = some (.pointer none) := row_cell r9 4
        have f0 : W9.frozen? ⟨g9, 0, none⟩ = false := frozen_of_row _ _ 0 _ _ r9
        have f1 : W9.frozen? ⟨g9, 1, none⟩ = false := frozen_of_row _ _ 1 _ _ r9
        have f2 : W9.frozen? ⟨g9, 2, none⟩ = false := frozen_of_row _ _ 2 _ _ r9
        have f3 : W9.frozen? ⟨g9, 3, none⟩ = false := frozen_of_row _ _ 3 _ _ r9
        have f4 : W9.frozen? ⟨g9, 4, none⟩ = false := frozen_of_row _ _ 4 _ _ r9
        have v0 : W9.cell? ⟨g, 0, none⟩ = some (.int .u32 C) := row_cell rg 0
        have v1 : W9.cell? ⟨g, 1, none⟩ = some (.int .i64 K) := row_cell rg 1
        have v2 : W9.cell? ⟨g, 2, none⟩ = some (.pointer pv) := row_cell rg 2
        have v3 : W9.cell? ⟨g, 3, none⟩ = some (.pointer pl) := row_cell rg 3
        have v4 : W9.cell? ⟨g, 4, none⟩ = some (.pointer pr) := row_cell rg 4
        obtain ⟨W10, hW10⟩ : ∃ X, ((((W9.setCell ⟨g9, 0, none⟩ (.int .u32 C)).setCell ⟨g9, 1, none⟩ (.int .i64 K)).setCell ⟨g9, 2, none⟩ (.pointer pv)).setCell ⟨g9, 3, none⟩ (.pointer pl)).setCell ⟨g9, 4, none⟩ (.pointer pr) = X := ⟨_, rfl⟩
        obtain ⟨r10, o10, s10, hb10⟩ := copy5 r9 hW10
        have HB10 := Lib.hid hb10
        have HR10 := Lib.hid r10
        have q7 := (o10 g7 (by omega)).trans r7
        have qq := (o10 n0 (by omega)).trans rq
        have z0 : W10.cell? ⟨g9, 0, none⟩ = some (.int .u32 C) := row_cell r10 0
        have z1 : W10.cell? ⟨g9, 1, none⟩ = some (.int .i64 K) := row_cell r10 1
        have z2 : W10.cell? ⟨g9, 2, none⟩ = some (.pointer pv) := row_cell r10 2
        have z3 : W10.cell? ⟨g9, 3, none⟩ = some (.pointer pl) := row_cell r10 3
        have z4 : W10.cell? ⟨g9, 4, none⟩ = some (.pointer pr) := row_cell r10 4
        have h0 : W10.frozen? ⟨g9, 0, none⟩ = false := frozen_of_row _ _ 0 _ _ r10
        have h1 : W10.frozen? ⟨g9, 1, none⟩ = false := frozen_of_row _ _ 1 _ _ r10
        have h2 : W10.frozen? ⟨g9, 2, none⟩ = false := frozen_of_row _ _ 2 _ _ r10
        have h3 : W10.frozen? ⟨g9, 3, none⟩ = false := frozen_of_row _ _ 3 _ _ r10
        have h4 : W10.frozen? ⟨g9, 4, none⟩ = false := frozen_of_row _ _ 4 _ _ r10
        have k0 : W10.cell? ⟨g7, 0, none⟩ = some (.int .u32 C) := row_cell q7 0
        have k1 : W10.cell? ⟨g7, 1, none⟩ = some (.int .i64 K) := row_cell q7 1
        have j0 : W10.cell? ⟨n0, 0, none⟩ = some (.int .u32 C) := row_cell qq 0
        have j1 : W10.cell? ⟨n0, 1, none⟩ = some (.int .i64 K) := row_cell qq 1
        clear rg rq r7 r9 r10 o10 q7 qq hb10
        go_wp2_with fail
        go_ret
        have hins : Tr.ins C K v (.node C K u l r) = .node C K (some v) l r := by
          unfold Tr.ins
          rw [HKD.out, if_pos rfl, if_pos rfl]
        have hb11 : Below g9 W9 (W10.setCell ⟨g9, 2, none⟩ (.pointer (some q))) := HB10.out.setCell (p := ⟨g9, 2, none⟩) (Nat.le_refl _) _
        have hbw := with_done_s BW.out HG9.out HBC.out hb11
        refine ⟨some ⟨g9, 0, none⟩, rfl, ?_, hbw⟩
        rw [hins]
        exact ⟨g9, some q, pl, pr, rfl, .inr (by have := BW.out.size; have := HG9.out; omega), heap_setCell_same _ _ 2 _ _ _ HR10.out, (HV.out.on hbw).mono fun _ => .inl, (HL.out.on hbw).mono fun _ => .inl, (HR.out.on hbw).mono fun _ => .inl⟩
      · have e2 : decide (C = b ∧ K = m) = false := by simp [hm]
        rw [e2] at he2
        have HM := Lib.hid hm
        clear e1 e2 hm hge he1
        subst hn; subst hCa
        have hge := guardP .eql
        have he1 := fun W => eqlP C K C K W
        have hdt : decide (C = C ∧ K = K) = true := by simp
        simp only [hdt] at he1
        clear hdt
        rcases sd_two b K with hs | hs
        · rw [hs] at HS2
          go_wp2_with fail
          go_quiet (fail)
          obtain ⟨W9, hW9⟩ : ∃ X, (wc.alloc (.cells #[.int .u32 C, .int .i64 K, .pointer none, .pointer none, .pointer none] 109)).drewN nq = X := ⟨_, rfl⟩
          obtain ⟨r9, hb9, hz9⟩ := fresh9 hW9
          rw [hW9]
          clear hW9 a0 a1 a2 a3 a4 b0 b1 c0 c1 d0 d1
          have lg := blk_lt HGC.out; have lq := blk_lt HQC.out; have l7 := blk_lt HG7.out
          obtain ⟨g9, hg9⟩ : ∃ x, wc.heap.size = x := ⟨_, rfl⟩
          have HG9 := Lib.hid hg9
          have hbc : Below g9 wc W9 := by rw [← hg9]; exact hb9
          rw [hg9] at r9 hz9 lg lq l7 ⊢
          clear hb9
          have rg := (hbc.block g lg).trans HGC.out
          have rq := (hbc.block n0 lq).trans HQC.out
          have r7 := (hbc.block g7 l7).trans HG7.out
          have HBC := Lib.hid hbc
          clear hg9 hbc
          have y0 : W9.cell? ⟨g9, 0, none⟩ = some (.int .u32 C) := row_cell r9 0
          have y1 : W9.cell? ⟨g9, 1, none⟩ = some (.int .i64 K) := row_cell r9 1
          have y2 : W9.cell? ⟨g9, 2, none⟩ = some (.pointer none) := row_cell r9 2
          have y3 : W9.cell? ⟨g9, 3, none⟩ = some (.pointer none) := row_cell r9 3
          have y4 : W9.cell? ⟨g9, 4, none⟩ = some (.pointer none) := row_cell r9 4
          have f0 : W9.frozen? ⟨g9, 0, none⟩ = false := frozen_of_row _ _ 0 _ _ r9
          have f1 : W9.frozen? ⟨g9, 1, none⟩ = false := frozen_of_row _ _ 1 _ _ r9
          have f2 : W9.frozen? ⟨g9, 2, none⟩ = false := frozen_of_row _ _ 2 _ _ r9
          have f3 : W9.frozen? ⟨g9, 3, none⟩ = false := frozen_of_row _ _ 3 _ _ r9
          have f4 : W9.frozen? ⟨g9, 4, none⟩ = false := frozen_of_row _ _ 4 _ _ r9
          have v0 : W9.cell? ⟨g, 0, none⟩ = some (.int .u32 C) := row_cell rg 0
          have v1 : W9.cell? ⟨g, 1, none⟩ = some (.int .i64 K) := row_cell rg 1
          have v2 : W9.cell? ⟨g, 2, none⟩ = some (.pointer pv) := row_cell rg 2
          have v3 : W9.cell? ⟨g, 3, none⟩ = some (.pointer pl) := row_cell rg 3
          have v4 : W9.cell? ⟨g, 4, none⟩ = some (.pointer pr) := row_cell rg 4
          obtain ⟨W10, hW10⟩ : ∃ X, ((((W9.setCell ⟨g9, 0, none⟩ (.int .u32 C)).setCell ⟨g9, 1, none⟩ (.int .i64 K)).setCell ⟨g9, 2, none⟩ (.pointer pv)).setCell ⟨g9, 3, none⟩ (.pointer pl)).setCell ⟨g9, 4, none⟩ (.pointer pr) = X := ⟨_, rfl⟩
          obtain ⟨r10, o10, s10, hb10⟩ := copy5 r9 hW10
          have HB10 := Lib.hid hb10
          have HR10 := Lib.hid r10
          have q7 := (o10 g7 (by omega)).trans r7
          have qq := (o10 n0 (by omega)).trans rq
          have z0 : W10.cell? ⟨g9, 0, none⟩ = some (.int .u32 C) := row_cell r10 0
          have z1 : W10.cell? ⟨g9, 1, none⟩ = some (.int .i64 K) := row_cell r10 1
          have z2 : W10.cell? ⟨g9, 2, none⟩ = some (.pointer pv) := row_cell r10 2
          have z3 : W10.cell? ⟨g9, 3, none⟩ = some (.pointer pl) := row_cell r10 3
          have z4 : W10.cell? ⟨g9, 4, none⟩ = some (.pointer pr) := row_cell r10 4
          have h0 : W10.frozen? ⟨g9, 0, none⟩ = false := frozen_of_row _ _ 0 _ _ r10
          have h1 : W10.frozen? ⟨g9, 1, none⟩ = false := frozen_of_row _ _ 1 _ _ r10
          have h2 : W10.frozen? ⟨g9, 2, none⟩ = false := frozen_of_row _ _ 2 _ _ r10
          have h3 : W10.frozen? ⟨g9, 3, none⟩ = false := frozen_of_row _ _ 3 _ _ r10
          have h4 : W10.frozen? ⟨g9, 4, none⟩ = false := frozen_of_row _ _ 4 _ _ r10
          have k0 : W10.cell? ⟨g7, 0, none⟩ = some (.int .u32 C) := row_cell q7 0
          have k1 : W10.cell? ⟨g7, 1, none⟩ = some (.int .i64 K) := row_cell q7 1
          have j0 : W10.cell? ⟨n0, 0, none⟩ = some (.int .u32 b) := row_cell qq 0
          have j1 : W10.cell? ⟨n0, 1, none⟩ = some (.int .i64 m) := row_cell qq 1
          clear rg rq r7 r9 r10 o10 q7 qq hb10
          go_wp2_with (go_at_call 55; (with_reducible refine (HS2.out _).mono ?_); rintro e w2 ⟨rfl, rfl⟩)
          have hlt : g9 < W10.heap.size := blk_lt HR10.out
          have hbw10 := with_done_s BW.out HG9.out HBC.out HB10.out
          have HCL : Hid (∀ X, Below W10.heap.size W10 X → Calls Try.prog 57 #[.pointer pl, .agg #[.int .u32 b, .int .i64 m], .pointer (some q)] X fun e w' => ∃ p', e = .returned (.pointer p') ∧ Nd_s (Wid P X) w' p' (Tr.ins b m v l) ∧ Below X.heap.size X w') :=
            Lib.hid fun X hX => (have hX2 := Below.step hbw10 hX; CL P pl b m q v X HOK.out.2.2.2.1 (fun x hx => by have := HPW.out x hx; have := hX2.size; omega) (HL.out.on hX2) HBM.out (HV.out.on hX2))
          clear hbw10
          go_cut [] from 58 to 67 (fun wx => ∃ p', wx.heap[g9]? = some (.cells #[.int .u32 C, .int .i64 K, .pointer pv, .pointer p', .pointer pr] 109 (0, 0)) ∧ Nd_s (Wid P w) wx p' (Tr.ins b m v l) ∧ Below g9 W10 wx)
          case first =>
            go_region_with (go_at_call 57; (with_reducible refine (HCL.out _ (by first | exact Below.refl _ _ | exact (Below.refl _ _).drew | exact ((Below.refl _ _).drew).drew)).mono ?_); rintro e w5 ⟨p', rfl, hp', hb5⟩; (have zc := (hb5.block g9 (by simpa using hlt)).trans HR10.out); (have zf := frozen_of_row _ _ 3 _ _ zc); (have zv : w5.cell? ⟨g9, 3, none⟩ = some (.pointer pl) := row_cell zc 3))
            all_goals
              go_wp2_with fail
              go_meet
              exact ⟨p', heap_setCell_same _ _ 3 _ _ _ zc, after_call_s HPW.out (by have := BW.out.size; have := HG9.out; omega) hlt rfl hp', (Below.step' hb5 (by simpa using hlt)).setCell (p := ⟨g9, 3, none⟩) (Nat.le_refl _) _⟩
          case rest =>
            obtain ⟨p', hr, hn', hb'⟩ := hcut
            have HRR := Lib.hid hr; have HNN := Lib.hid hn'; have HBB := Lib.hid hb'
            clear hr hn' hb'
            go_wp2_with fail
            go_ret
            have hbw := with_done_s BW.out HG9.out HBC.out (HB10.out.trans HBB.out)
            have hins : Tr.ins b m v (.node C K u l r) = .node C K u (Tr.ins b m v l) r := by
              conv => lhs; unfold Tr.ins
              rw [HKD.out, if_pos rfl, if_neg HM.out, if_pos hs]

            refine ⟨some ⟨g9, 0, none⟩, rfl, ?_, hbw⟩
            rw [hins]
            exact ⟨g9, _, _, _, rfl, .inr (by have := BW.out.size; have := HG9.out; omega), HRR.out, (HU.out.on hbw).mono fun _ => .inl, HNN.out, (HR.out.on hbw).mono fun _ => .inl⟩
        · rw [hs] at HS2
          go_wp2_with fail
          go_quiet (fail)
          obtain ⟨W9, hW9⟩ : ∃ X, (wc.alloc (.cells #[.int .u32 C, .int .i64 K, .pointer none, .pointer none, .pointer none] 109)).drewN nq = X := ⟨_, rfl⟩
          obtain ⟨r9, hb9, hz9⟩ := fresh9 hW9
          rw [hW9]
          clear hW9 a0 a1 a2 a3 a4 b0 b1 c0 c1 d0 d1
          have lg := blk_lt HGC.out; have lq := blk_lt HQC.out; have l7 := blk_lt HG7.out
          obtain ⟨g9, hg9⟩ : ∃ x, wc.heap.size = x := ⟨_, rfl⟩
          have HG9 := Lib.hid hg9
          have hbc : Below g9 wc W9 := by rw [← hg9]; exact hb9
          rw [hg9] at r9 hz9 lg lq l7 ⊢
          clear hb9
          have rg := (hbc.block g lg).trans HGC.out
          have rq := (hbc.block n0 lq).trans HQC.out
          have r7 := (hbc.block g7 l7).trans HG7.out
          have HBC := Lib.hid hbc
          clear hg9 hbc
          have y0 : W9.cell? ⟨g9, 0, none⟩ = some (.int .u32 C) := row_cell r9 0
          have y1 : W9.cell? ⟨g9, 1, none⟩ = some (.int .i64 K) := row_cell r9 1
          have y2 : W9.cell? ⟨g9, 2, none⟩ = some (.pointer none) := row_cell r9 2
          have y3 : W9.cell? ⟨g9, 3, none⟩ = some (.pointer none) := row_cell r9 3
          have y4 : W9.cell? ⟨g9, 4, none⟩ = some (.pointer none) := row_cell r9 4
          have f0 : W9.frozen? ⟨g9, 0, none⟩ = false := frozen_of_row _ _ 0 _ _ r9
          have f1 : W9.frozen? ⟨g9, 1, none⟩ = false := frozen_of_row _ _ 1 _ _ r9
          have f2 : W9.frozen? ⟨g9, 2, none⟩ = false := frozen_of_row _ _ 2 _ _ r9
          have f3 : W9.frozen? ⟨g9, 3, none⟩ = false := frozen_of_row _ _ 3 _ _ r9
          have f4 : W9.frozen? ⟨g9, 4, none⟩ = false := frozen_of_row _ _ 4 _ _ r9
          have v0 : W9.cell? ⟨g, 0, none⟩ = some (.int .u32 C) := row_cell rg 0
          have v1 : W9.cell? ⟨g, 1, none⟩ = some (.int .i64 K) := row_cell rg 1
          have v2 : W9.cell? ⟨g, 2, none⟩ = some (.pointer pv) := row_cell rg 2
          have v3 : W9.cell? ⟨g, 3, none⟩ = some (.pointer pl) := row_cell rg 3
          have v4 : W9.cell? ⟨g, 4, none⟩ = some (.pointer pr) := row_cell rg 4
          obtain ⟨W10, hW10⟩ : ∃ X, ((((W9.setCell ⟨g9, 0, none⟩ (.int .u32 C)).setCell ⟨g9, 1, none⟩ (.int .i64 K)).setCell ⟨g9, 2, none⟩ (.pointer pv)).setCell ⟨g9, 3, none⟩ (.pointer pl)).setCell ⟨g9, 4, none⟩ (.pointer pr) = X := ⟨_, rfl⟩
          obtain ⟨r10, o10, s10, hb10⟩ := copy5 r9 hW10
          have HB10 := Lib.hid hb10
          have HR10 := Lib.hid r10
          have q7 := (o10 g7 (by omega)).trans r7
          have qq := (o10 n0 (by omega)).trans rq
          have z0 : W10.cell? ⟨g9, 0, none⟩ = some (.int .u32 C) := row_cell r10 0
          have z1 : W10.cell? ⟨g9, 1, none⟩ = some (.int .i64 K) := row_cell r10 1
          have z2 : W10.cell? ⟨g9, 2, none⟩ = some (.pointer pv) := row_cell r10 2
          have z3 : W10.cell? ⟨g9, 3, none⟩ = some (.pointer pl) := row_cell r10 3
          have z4 : W10.cell? ⟨g9, 4, none⟩ = some (.pointer pr) := row_cell r10 4
          have h0 : W10.frozen? ⟨g9, 0, none⟩ = false := frozen_of_row _ _ 0 _ _ r10
          have h1 : W10.frozen? ⟨g9, 1, none⟩ = false := frozen_of_row _ _ 1 _ _ r10
          have h2 : W10.frozen? ⟨g9, 2, none⟩ = false := frozen_of_row _ _ 2 _ _ r10
          have h3 : W10.frozen? ⟨g9, 3, none⟩ = false := frozen_of_row _ _ 3 _ _ r10
          have h4 : W10.frozen? ⟨g9, 4, none⟩ = false := frozen_of_row _ _ 4 _ _ r10
          have k0 : W10.cell? ⟨g7, 0, none⟩ = some (.int .u32 C) := row_cell q7 0
          have k1 : W10.cell? ⟨g7, 1, none⟩ = some (.int .i64 K) := row_cell q7 1
          have j0 : W10.cell? ⟨n0, 0, none⟩ = some (.int .u32 b) := row_cell qq 0
          have j1 : W10.cell? ⟨n0, 1, none⟩ = some (.int .i64 m) := row_cell qq 1
          clear rg rq r7 r9 r10 o10 q7 qq hb10
          go_wp2_with (go_at_call 55; (with_reducible refine (HS2.out _).mono ?_); rintro e w2 ⟨rfl, rfl⟩)
          have hlt : g9 < W10.heap.size := blk_lt HR10.out
          have hbw10 := with_done_s BW.out HG9.out HBC.out HB10.out
          have HCL : Hid (∀ X, Below W10.heap.size W10 X → Calls Try.prog 57 #[.pointer pr, .agg #[.int .u32 b, .int .i64 m], .pointer (some q)] X fun e w' => ∃ p', e = .returned (.pointer p') ∧ Nd_s (Wid P X) w' p' (Tr.ins b m v r) ∧ Below X.heap.size X w') :=
            Lib.hid fun X hX => (have hX2 := Below.step hbw10 hX; CR P pr b m q v X HOK.out.2.2.2.2 (fun x hx => by have := HPW.out x hx; have := hX2.size; omega) (HR.out.on hX2) HBM.out (HV.out.on hX2))
          clear hbw10
          go_cut [] from 58 to 67 (fun wx => ∃ p', wx.heap[g9]? = some (.cells #[.int .u32 C, .int .i64 K, .pointer pv, .pointer pl, .pointer p'] 109 (0, 0)) ∧ Nd_s (Wid P w) wx p' (Tr.ins b m v r) ∧ Below g9 W10 wx)
          case first =>
            go_region_with (go_at_call 57; (with_reducible refine (HCL.out _ (by first | exact Below.refl _ _ | exact (Below.refl _ _).drew | exact ((Below.refl _ _).drew).drew)).mono ?_); rintro e w5 ⟨p', rfl, hp', hb5⟩; (have zc := (hb5.block g9 (by simpa using hlt)).trans HR10.out); (have zf := frozen_of_row _ _ 4 _ _ zc); (have zv : w5.cell? ⟨g9, 4, none⟩ = some (.pointer pr) := row_cell zc 4))
            all_goals
              go_wp2_with fail
              go_meet
              exact ⟨p', heap_setCell_same _ _ 4 _ _ _ zc, after_call_s HPW.out (by have := BW.out.size; have := HG9.out; omega) hlt rfl hp', (Below.step' hb5 (by simpa using hlt)).setCell (p := ⟨g9, 4, none⟩) (Nat.le_refl _) _⟩
          case rest =>
            obtain ⟨p', hr, hn', hb'⟩ := hcut
            have HRR := Lib.hid hr; have HNN := Lib.hid hn'; have HBB := Lib.hid hb'
            clear hr hn' hb'
            go_wp2_with fail
            go_ret
            have hbw := with_done_s BW.out HG9.out HBC.out (HB10.out.trans HBB.out)
            have hins : Tr.ins b m v (.node C K u l r) = .node C K u l (Tr.ins b m v r) := by
              conv => lhs; unfold Tr.ins
              rw [HKD.out, if_pos rfl, if_neg HM.out, if_neg (by rw [hs]; decide)]

            refine ⟨some ⟨g9, 0, none⟩, rfl, ?_, hbw⟩
            rw [hins]
            exact ⟨g9, _, _, _, rfl, .inr (by have := BW.out.size; have := HG9.out; omega), HRR.out, (HU.out.on hbw).mono fun _ => .inl, (HL.out.on hbw).mono fun _ => .inl, HNN.out⟩
    · have e1 : decide (C = a ∧ K = n) = false := by simp [hn]
      rw [e1] at he1
      by_cases hm : K = m
      · have hCb : C = b := by
          have := HCA.out.trans HK3.out; rw [hm] at this
          have h2 := HCO.out; rw [hm] at h2
          exact pf_eq h2 HBM.out this
        have e2 : decide (C = b ∧ K = m) = true := by simp [hCb, hm]
        rw [e2] at he2
        have HN := Lib.hid hn
        clear e1 e2 hn hge he2
        subst hm; subst hCb
        have hge := guardP .eql
        have he2 := fun W => eqlP C K C K W
        have hdt : decide (C = C ∧ K = K) = true := by simp
        simp only [hdt] at he2
        clear hdt
        rcases sd_two a K with hs | hs
        · rw [hs] at HS1
          go_wp2_with fail
          go_quiet (fail)
          obtain ⟨W9, hW9⟩ : ∃ X, (wc.alloc (.cells #[.int .u32 C, .int .i64 K, .pointer none, .pointer none, .pointer none] 109)).drewN nq = X := ⟨_, rfl⟩
          obtain ⟨r9, hb9, hz9⟩ := fresh9 hW9
          rw [hW9]
          clear hW9 a0 a1 a2 a3 a4 b0 b1 c0 c1 d0 d1
          have lg := blk_lt HGC.out; have lq := blk_lt HQC.out; have l7 := blk_lt HG7.out
          obtain ⟨g9, hg9⟩ : ∃ x, wc.heap.size = x := ⟨_, rfl⟩
          have HG9 := Lib.hid hg9
          have hbc : Below g9 wc W9 := by rw [← hg9]; exact hb9
          rw [hg9] at r9 hz9 lg lq l7 ⊢
          clear hb9
          have rg := (hbc.block g lg).trans HGC.out
          have rq := (hbc.block n0 lq).trans HQC.out
          have r7 := (hbc.block g7 l7).trans HG7.out
          have HBC := Lib.hid hbc
          clear hg9 hbc
          have y0 : W9.cell? ⟨g9, 0, none⟩ = some (.int .u32 C) := row_cell r9 0
          have y1 : W9.cell? ⟨g9, 1, none⟩ = some (.int .i64 K) := row_cell r9 1
          have y2 : W9.cell? ⟨g9, 2, none⟩ = some (.pointer none) := row_cell r9 2
          have y3 : W9.cell? ⟨g9, 3, none⟩ = some (.pointer none) := row_cell r9 3
          have y4 : W9.cell? ⟨g9, 4, none⟩ = some (.pointer none) := row_cell r9 4
          have f0 : W9.frozen? ⟨g9, 0, none⟩ = false := frozen_of_row _ _ 0 _ _ r9
          have f1 : W9.frozen? ⟨g9, 1, none⟩ = false := frozen_of_row _ _ 1 _ _ r9
          have f2 : W9.frozen? ⟨g9, 2, none⟩ = false := frozen_of_row _ _ 2 _ _ r9
          have f3 : W9.frozen? ⟨g9, 3, none⟩ = false := frozen_of_row _ _ 3 _ _ r9
          have f4 : W9.frozen? ⟨g9, 4, none⟩ = false := frozen_of_row _ _ 4 _ _ r9
          have v0 : W9.cell? ⟨g, 0, none⟩ = some (.int .u32 a) := row_cell rg 0
          have v1 : W9.cell? ⟨g, 1, none⟩ = some (.int .i64 n) := row_cell rg 1
          have e0 : W9.cell? ⟨g7, 0, none⟩ = some (.int .u32 C) := row_cell r7 0
          have e1 : W9.cell? ⟨g7, 1, none⟩ = some (.int .i64 K) := row_cell r7 1
          obtain ⟨W10, hW10⟩ : ∃ X, W9.setCell ⟨g9, 3, none⟩ (.pointer (some ⟨g, 0, none⟩)) = X := ⟨_, rfl⟩
          obtain ⟨r10, o10, s10, hb10⟩ := set1 r9 hW10
          simp only [List.setIfInBounds_toArray, List.set_cons_succ, List.set_cons_zero] at r10
          have HB10 := Lib.hid hb10
          have HR10 := Lib.hid r10
          have q7 := (o10 g7 (by omega)).trans r7
          have qq := (o10 n0 (by omega)).trans rq
          clear o10
          go_wp2_with fail
          refine wp_region_still_tail 11 (by kernel_rfl) (by kernel_rfl) ?_
          simp only [List.take_succ_cons, List.take_zero, List.drop_succ_cons, List.drop_zero]
          repeat (first | still_step | (refine wpStill_step (fun K hK => ?_); go_simp; refine ⟨_, (HS1.out _).mono (fun _ _ h => ⟨h.1, h.2.symm⟩), hK _ ?_⟩; clear hK K))
          refine wpStill_nil ?_
          change wpList _ _ _ _ _ W9.drew
          have z0 : W10.cell? ⟨g9, 0, none⟩ = some (.int .u32 C) := row_cell r10 0
          have z1 : W10.cell? ⟨g9, 1, none⟩ = some (.int .i64 K) := row_cell r10 1
          have z2 : W10.cell? ⟨g9, 2, none⟩ = some (.pointer none) := row_cell r10 2
          have z3 : W10.cell? ⟨g9, 3, none⟩ = some (.pointer (some ⟨g, 0, none⟩)) := row_cell r10 3
          have z4 : W10.cell? ⟨g9, 4, none⟩ = some (.pointer none) := row_cell r10 4
          have h0 : W10.frozen? ⟨g9, 0, none⟩ = false := frozen_of_row _ _ 0 _ _ r10
          have h1 : W10.frozen? ⟨g9, 1, none⟩ = false := frozen_of_row _ _ 1 _ _ r10
          have h2 : W10.frozen? ⟨g9, 2, none⟩ = false := frozen_of_row _ _ 2 _ _ r10
          have h3 : W10.frozen? ⟨g9, 3, none⟩ = false := frozen_of_row _ _ 3 _ _ r10
          have h4 : W10.frozen? ⟨g9, 4, none⟩ = false := frozen_of_row _ _ 4 _ _ r10
          have k0 : W10.cell? ⟨g7, 0, none⟩ = some (.int .u32 C) := row_cell q7 0
          have k1 : W10.cell? ⟨g7, 1, none⟩ = some (.int .i64 K) := row_cell q7 1
          have j0 : W10.cell? ⟨n0, 0, none⟩ = some (.int .u32 C) := row_cell qq 0
          have j1 : W10.cell? ⟨n0, 1, none⟩ = some (.int .i64 K) := row_cell qq 1
          clear rg rq r7 r9 r10 q7 qq hb10
          go_wp2_with fail
          go_ret
          have hins : Tr.ins C K v (.node a n u l r) = .node C K (some v) (.node a n u l r) .nil := by
            unfold Tr.ins
            rw [HKD.out, if_neg HN.out, if_pos rfl, hs]
            rfl
          have hb11 : Below g9 W9 (W10.setCell ⟨g9, 2, none⟩ (.pointer (some q))) := HB10.out.setCell (p := ⟨g9, 2, none⟩) (Nat.le_refl _) _
          have hbw := with_done_s BW.out HG9.out HBC.out hb11
          refine ⟨some ⟨g9, 0, none⟩, rfl, ?_, hbw.drew⟩
          rw [hins]
          have hnode : Nd_s (Wid P w) ((W10.setCell ⟨g9, 2, none⟩ (.pointer (some q))).drew) (some ⟨g, 0, none⟩) (.node a n u l r) := TrAt.mono (fun _ => .inl) (TrAt.on hbw.drew (P := P) ⟨g, pv, pl, pr, rfl, HPG.out, HG.out, HU.out, HL.out, HR.out⟩)
          exact ⟨g9, some q, some ⟨g, 0, none⟩, none, rfl, .inr (by have := BW.out.size; have := HG9.out; omega), heap_setCell_same _ _ 2 _ _ _ HR10.out, (HV.out.on hbw.drew).mono fun _ => .inl, hnode, rfl⟩
        · rw [hs] at HS1
          go_wp2_with fail
          go_quiet (fail)
          obtain ⟨W9, hW9⟩ : ∃ X, (wc.alloc (.cells #[.int .u32 C, .int .i64 K, .pointer none, .pointer none, .pointer none] 109)).drewN nq = X := ⟨_, rfl⟩
          obtain ⟨r9, hb9, hz9⟩ := fresh9 hW9
          rw [hW9]
          clear hW9 a0 a1 a2 a3 a4 b0 b1 c0 c1 d0 d1
          have lg := blk_lt HGC.out; have lq := blk_lt HQC.out; have l7 := blk_lt HG7.out
          obtain ⟨g9, hg9⟩ : ∃ x, wc.heap.size = x := ⟨_, rfl⟩
          have HG9 := Lib.hid hg9
          have hbc : Below g9 wc W9 := by rw [← hg9]; exact hb9
          rw [hg9] at r9 hz9 lg lq l7 ⊢
          clear hb9
          have rg := (hbc.block g lg).trans HGC.out
          have rq := (hbc.block n0 lq).trans HQC.out
          have r7 := (hbc.block g7 l7).trans HG7.out
          have HBC := Lib.hid hbc
          clear hg9 hbc
          have y0 : W9.cell? ⟨g9, 0, none⟩ = some (.int .u32 C) := row_cell r9 0
          have y1 : W9.cell? ⟨g9, 1, none⟩ = some (.int .i64 K) := row_cell r9 1
          have y2 : W9.cell? ⟨g9, 2, none⟩ = some (.pointer none) := row_cell r9 2
          have y3 : W9.cell? ⟨g9, 3, none⟩ = some (.pointer none) := row_cell r9 3
          have y4 : W9.cell? ⟨g9, 4, none⟩ = some (.pointer none) := row_cell r9 4
          have f0 : W9.frozen? ⟨g9, 0, none⟩ = false := frozen_of_row _ _ 0 _ _ r9
          have f1 : W9.frozen? ⟨g9, 1, none⟩ = false := frozen_of_row _ _ 1 _ _ r9
          have f2 : W9.frozen? ⟨g9, 2, none⟩ = false := frozen_of_row _ _ 2 _ _ r9
          have f3 : W9.frozen? ⟨g9, 3, none⟩ = false := frozen_of_row _ _ 3 _ _ r9
          have f4 : W9.frozen? ⟨g9, 4, none⟩ = false := frozen_of_row _ _ 4 _ _ r9
          have v0 : W9.cell? ⟨g, 0, none⟩ = some (.int .u32 a) := row_cell rg 0
          have v1 : W9.cell? ⟨g, 1, none⟩ = some (.int .i64 n) := row_cell rg 1
          have e0 : W9.cell? ⟨g7, 0, none⟩ = some (.int .u32 C) := row_cell r7 0
          have e1 : W9.cell? ⟨g7, 1, none⟩ = some (.int .i64 K) := row_cell r7 1
          obtain ⟨W10, hW10⟩ : ∃ X, W9.setCell ⟨g9, 4, none⟩ (.pointer (some ⟨g, 0, none⟩)) = X := ⟨_, rfl⟩
          obtain ⟨r10, o10, s10, hb10⟩ := set1 r9 hW10
          simp only [List.setIfInBounds_toArray, List.set_cons_succ, List.set_cons_zero] at r10
          have HB10 := Lib.hid hb10
          have HR10 := Lib.hid r10
          have q7 := (o10 g7 (by omega)).trans r7
          have qq := (o10 n0 (by omega)).trans rq
          clear o10
          go_wp2_with fail
          refine wp_region_still_tail 11 (by kernel_rfl) (by kernel_rfl) ?_
          simp only [List.take_succ_cons, List.take_zero, List.drop_succ_cons, List.drop_zero]
          repeat (first | still_step | (refine wpStill_step (fun K hK => ?_); go_simp; refine ⟨_, (HS1.out _).mono (fun _ _ h => ⟨h.1, h.2.symm⟩), hK _ ?_⟩; clear hK K))
          refine wpStill_nil ?_
          change wpList _ _ _ _ _ W9.drew
          have z0 : W10.cell? ⟨g9, 0, none⟩ = some (.int .u32 C) := row_cell r10 0
          have z1 : W10.cell? ⟨g9, 1, none⟩ = some (.int .i64 K) := row_cell r10 1
          have z2 : W10.cell? ⟨g9, 2, none⟩ = some (.pointer none) := row_cell r10 2
          have z3 : W10.cell? ⟨g9, 3, none⟩ = some (.pointer none) := row_cell r10 3
          have z4 : W10.cell? ⟨g9, 4, none⟩ = some (.pointer (some ⟨g, 0, none⟩)) := row_cell r10 4
          have h0 : W10.frozen? ⟨g9, 0, none⟩ = false := frozen_of_row _ _ 0 _ _ r10
          have h1 : W10.frozen? ⟨g9, 1, none⟩ = false := frozen_of_row _ _ 1 _ _ r10
          have h2 : W10.frozen? ⟨g9, 2, none⟩ = false := frozen_of_row _ _ 2 _ _ r10
          have h3 : W10.frozen? ⟨g9, 3, none⟩ = false := frozen_of_row _ _ 3 _ _ r10
          have h4 : W10.frozen? ⟨g9, 4, none⟩ = false := frozen_of_row _ _ 4 _ _ r10
          have k0 : W10.cell? ⟨g7, 0, none⟩ = some (.int .u32 C) := row_cell q7 0
          have k1 : W10.cell? ⟨g7, 1, none⟩ = some (.int .i64 K) := row_cell q7 1
          have j0 : W10.cell? ⟨n0, 0, none⟩ = some (.int .u32 C) := row_cell qq 0
          have j1 : W10.cell? ⟨n0, 1, none⟩ = some (.int .i64 K) := row_cell qq 1
          clear rg rq r7 r9 r10 q7 qq hb10
          go_wp2_with fail
          go_ret
          have hins : Tr.ins C K v (.node a n u l r) = .node C K (some v) .nil (.node a n u l r) := by
            unfold Tr.ins
            rw [HKD.out, if_neg HN.out, if_pos rfl, hs]
            rfl
          have hb11 : Below g9 W9 (W10.setCell ⟨g9, 2, none⟩ (.pointer (some q))) := HB10.out.setCell (p := ⟨g9, 2, none⟩) (Nat.le_refl _) _
          have hbw := with_done_s BW.out HG9.out HBC.out hb11
          refine ⟨some ⟨g9, 0, none⟩, rfl, ?_, hbw.drew⟩
          rw [hins]
          have hnode : Nd_s (Wid P w) ((W10.setCell ⟨g9, 2, none⟩ (.pointer (some q))).drew) (some ⟨g, 0, none⟩) (.node a n u l r) := TrAt.mono (fun _ => .inl) (TrAt.on hbw.drew (P := P) ⟨g, pv, pl, pr, rfl, HPG.out, HG.out, HU.out, HL.out, HR.out⟩)
          exact ⟨g9, some q, none, some ⟨g, 0, none⟩, rfl, .inr (by have := BW.out.size; have := HG9.out; omega), heap_setCell_same _ _ 2 _ _ _ HR10.out, (HV.out.on hbw.drew).mono fun _ => .inl, rfl, hnode⟩
      · have e2 : decide (C = b ∧ K = m) = false := by simp [hm]
        rw [e2] at he2
        clear e1 e2
        have hsd := Tr.sides HOK.out.1 HBM.out (by rw [HKD.out]; exact hn) (by rw [HKD.out]; exact hm)
        rw [HKD.out] at hsd
        have HN := Lib.hid hn; have HM := Lib.hid hm
        clear hn hm
        rcases hsd with ⟨hs, ht⟩ | ⟨hs, ht⟩
        · rw [hs] at HS1; rw [ht] at HS2
          go_wp2_with fail
          go_quiet (fail)
          obtain ⟨W9, hW9⟩ : ∃ X, (wc.alloc (.cells #[.int .u32 C, .int .i64 K, .pointer none, .pointer none, .pointer none] 109)).drewN nq = X := ⟨_, rfl⟩
          obtain ⟨r9, hb9, hz9⟩ := fresh9 hW9
          rw [hW9]
          clear hW9 a0 a1 a2 a3 a4 b0 b1 c0 c1 d0 d1
          have lg := blk_lt HGC.out; have lq := blk_lt HQC.out; have l7 := blk_lt HG7.out
          obtain ⟨g9, hg9⟩ : ∃ x, wc.heap.size = x := ⟨_, rfl⟩
          have HG9 := Lib.hid hg9
          have hbc : Below g9 wc W9 := by rw [← hg9]; exact hb9
          rw [hg9] at r9 hz9 lg lq l7 ⊢
          clear hb9
          have rg := (hbc.block g lg).trans HGC.out
          have rq := (hbc.block n0 lq).trans HQC.out
          have r7 := (hbc.block g7 l7).trans HG7.out
          have HBC := Lib.hid hbc
          clear hg9 hbc
          have y0 : W9.cell? ⟨g9, 0, none⟩ = some (.int .u32 C) := row_cell r9 0
          have y1 : W9.cell? ⟨g9, 1, none⟩ = some (.int .i64 K) := row_cell r9 1
          have y2 : W9.cell? ⟨g9, 2, none⟩ = some (.pointer none) := row_cell r9 2
          have y3 : W9.cell? ⟨g9, 3, none⟩ = some (.pointer none) := row_cell r9 3
          have y4 : W9.cell? ⟨g9, 4, none⟩ = some (.pointer none) := row_cell r9 4
          have f0 : W9.frozen? ⟨g9, 0, none⟩ = false := frozen_of_row _ _ 0 _ _ r9
          have f1 : W9.frozen? ⟨g9, 1, none⟩ = false := frozen_of_row _ _ 1 _ _ r9
          have f2 : W9.frozen? ⟨g9, 2, none⟩ = false := frozen_of_row _ _ 2 _ _ r9
          have f3 : W9.frozen? ⟨g9, 3, none⟩ = false := frozen_of_row _ _ 3 _ _ r9
          have f4 : W9.frozen? ⟨g9, 4, none⟩ = false := frozen_of_row _ _ 4 _ _ r9
          have v0 : W9.cell? ⟨g, 0, none⟩ = some (.int .u32 a) := row_cell rg 0
          have v1 : W9.cell? ⟨g, 1, none⟩ = some (.int .i64 n) := row_cell rg 1
          have e0 : W9.cell? ⟨g7, 0, none⟩ = some (.int .u32 C) := row_cell r7 0
          have e1 : W9.cell? ⟨g7, 1, none⟩ = some (.int .i64 K) := row_cell r7 1
          obtain ⟨W10, hW10⟩ : ∃ X, W9.setCell ⟨g9, 3, none⟩ (.pointer (some ⟨g, 0, none⟩)) = X := ⟨_, rfl⟩
          obtain ⟨r10, o10, s10, hb10⟩ := set1 r9 hW10
          simp only [List.setIfInBounds_toArray, List.set_cons_succ, List.set_cons_zero] at r10
          have HB10 := Lib.hid hb10
          have HR10 := Lib.hid r10
          have q7 := (o10 g7 (by omega)).trans r7
          have qq := (o10 n0 (by omega)).trans rq
          clear o10
          go_wp2_with fail
          refine wp_region_still_tail 11 (by kernel_rfl) (by kernel_rfl) ?_
          simp only [List.take_succ_cons, List.take_zero, List.drop_succ_cons, List.drop_zero]
          repeat (first | still_step | (refine wpStill_step (fun K hK => ?_); go_simp; refine ⟨_, (HS1.out _).mono (fun _ _ h => ⟨h.1, h.2.symm⟩), hK _ ?_⟩; clear hK K))
          refine wpStill_nil ?_
          change wpList _ _ _ _ _ W9.drew
          have z0 : W10.cell? ⟨g9, 0, none⟩ = some (.int .u32 C) := row_cell r10 0
          have z1 : W10.cell? ⟨g9, 1, none⟩ = some (.int .i64 K) := row_cell r10 1
          have z2 : W10.cell? ⟨g9, 2, none⟩ = some (.pointer none) := row_cell r10 2
          have z3 : W10.cell? ⟨g9, 3, none⟩ = some (.pointer (some ⟨g, 0, none⟩)) := row_cell r10 3
          have z4 : W10.cell? ⟨g9, 4, none⟩ = some (.pointer none) := row_cell r10 4
          have h0 : W10.frozen? ⟨g9, 0, none⟩ = false := frozen_of_row _ _ 0 _ _ r10
          have h1 : W10.frozen? ⟨g9, 1, none⟩ = false := frozen_of_row _ _ 1 _ _ r10
          have h2 : W10.frozen? ⟨g9, 2, none⟩ = false := frozen_of_row _ _ 2 _ _ r10
          have h3 : W10.frozen? ⟨g9, 3, none⟩ = false := frozen_of_row _ _ 3 _ _ r10
          have h4 : W10.frozen? ⟨g9, 4, none⟩ = false := frozen_of_row _ _ 4 _ _ r10
          have k0 : W10.cell? ⟨g7, 0, none⟩ = some (.int .u32 C) := row_cell q7 0
          have k1 : W10.cell? ⟨g7, 1, none⟩ = some (.int .i64 K) := row_cell q7 1
          have j0 : W10.cell? ⟨n0, 0, none⟩ = some (.int .u32 b) := row_cell qq 0
          have j1 : W10.cell? ⟨n0, 1, none⟩ = some (.int .i64 m) := row_cell qq 1
          clear rg rq r7 r9 r10 q7 qq hb10
          go_wp2_with (go_at_call 55; (with_reducible refine (HS2.out _).mono ?_); rintro e w2 ⟨rfl, rfl⟩)
          have hlt : g9 < W10.heap.size := blk_lt HR10.out
          have hbw10 := with_done_s BW.out HG9.out HBC.out HB10.out
          have HCL : Hid (∀ X, Below W10.heap.size W10 X → Calls Try.prog 57 #[.pointer none, .agg #[.int .u32 b, .int .i64 m], .pointer (some q)] X fun e w' => ∃ p', e = .returned (.pointer p') ∧ Nd_s (Wid P X) w' p' (Tr.ins b m v .nil) ∧ Below X.heap.size X w') :=
            Lib.hid fun X hX => (have hX2 := Below.step hbw10 hX; with_nil_s P none b m q v X trivial (fun x hx => by have := HPW.out x hx; have := hX2.size; omega) rfl HBM.out (HV.out.on hX2))
          clear hbw10
          go_cut [] from 58 to 67 (fun wx => ∃ p', wx.heap[g9]? = some (.cells #[.int .u32 C, .int .i64 K, .pointer none, .pointer (some ⟨g, 0, none⟩), .pointer p'] 109 (0, 0)) ∧ Nd_s (Wid P w) wx p' (Tr.ins b m v .nil) ∧ Below g9 W10 wx)
          case first =>
            go_region_with (go_at_call 57; (with_reducible refine (HCL.out _ (by first | exact Below.refl _ _ | exact (Below.refl _ _).drew | exact ((Below.refl _ _).drew).drew)).mono ?_); rintro e w5 ⟨p', rfl, hp', hb5⟩; (have zc := (hb5.block g9 (by simpa using hlt)).trans HR10.out); (have zf := frozen_of_row _ _ 4 _ _ zc); (have zv : w5.cell? ⟨g9, 4, none⟩ = some (.pointer none) := row_cell zc 4))
            all_goals
              go_wp2_with fail
              go_meet
              exact ⟨p', heap_setCell_same _ _ 4 _ _ _ zc, after_call_s HPW.out (by have := BW.out.size; have := HG9.out; omega) hlt rfl hp', (Below.step' hb5 (by simpa using hlt)).setCell (p := ⟨g9, 4, none⟩) (Nat.le_refl _) _⟩
          case rest =>
            obtain ⟨p', hr, hn', hb'⟩ := hcut
            have HRR := Lib.hid hr; have HNN := Lib.hid hn'; have HBB := Lib.hid hb'
            clear hr hn' hb'
            go_wp2_with fail
            go_ret
            have hbw := with_done_s BW.out HG9.out HBC.out (HB10.out.trans HBB.out)
            have hins : Tr.ins b m v (.node a n u l r) = .node C K none (.node a n u l r) (Tr.ins b m v .nil) := by
              conv => lhs; unfold Tr.ins
              rw [HKD.out, if_neg HN.out, if_neg HM.out, if_pos hs, HCD.out]
              rfl
            refine ⟨some ⟨g9, 0, none⟩, rfl, ?_, hbw⟩
            rw [hins]
            have hnode : Nd_s (Wid P w) wc (some ⟨g, 0, none⟩) (.node a n u l r) := TrAt.mono (fun _ => .inl) (TrAt.on hbw (P := P) ⟨g, pv, pl, pr, rfl, HPG.out, HG.out, HU.out, HL.out, HR.out⟩)
            exact ⟨g9, _, _, _, rfl, .inr (by have := BW.out.size; have := HG9.out; omega), HRR.out, rfl, hnode, HNN.out⟩
        · rw [hs] at HS1; rw [ht] at HS2
          go_wp2_with fail
          go_quiet (fail)
          obtain ⟨W9, hW9⟩ : ∃ X, (wc.alloc (.cells #[.int .u32 C, .int .i64 K, .pointer none, .pointer none, .pointer none] 109)).drewN nq = X := ⟨_, rfl⟩
          obtain ⟨r9, hb9, hz9⟩ := fresh9 hW9
          rw [hW9]
          clear hW9 a0 a1 a2 a3 a4 b0 b1 c0 c1 d0 d1
          have lg := blk_lt HGC.out; have lq := blk_lt HQC.out; have l7 := blk_lt HG7.out
          obtain ⟨g9, hg9⟩ : ∃ x, wc.heap.size = x := ⟨_, rfl⟩
          have HG9 := Lib.hid hg9
          have hbc : Below g9 wc W9 := by rw [← hg9]; exact hb9
          rw [hg9] at r9 hz9 lg lq l7 ⊢
          clear hb9
          have rg := (hbc.block g lg).trans HGC.out
          have rq := (hbc.block n0 lq).trans HQC.out
          have r7 := (hbc.block g7 l7).trans HG7.out
          have HBC := Lib.hid hbc
          clear hg9 hbc
          have y0 : W9.cell? ⟨g9, 0, none⟩ = some (.int .u32 C) := row_cell r9 0
          have y1 : W9.cell? ⟨g9, 1, none⟩ = some (.int .i64 K) := row_cell r9 1
          have y2 : W9.cell? ⟨g9, 2, none⟩ = some (.pointer none) := row_cell r9 2
          have y3 : W9.cell? ⟨g9, 3, none⟩ = some (.pointer none) := row_cell r9 3
          have y4 : W9.cell? ⟨g9, 4, none⟩ = some (.pointer none) := row_cell r9 4
          have f0 : W9.frozen? ⟨g9, 0, none⟩ = false := frozen_of_row _ _ 0 _ _ r9
          have f1 : W9.frozen? ⟨g9, 1, none⟩ = false := frozen_of_row _ _ 1 _ _ r9
          have f2 : W9.frozen? ⟨g9, 2, none⟩ = false := frozen_of_row _ _ 2 _ _ r9
          have f3 : W9.frozen? ⟨g9, 3, none⟩ = false := frozen_of_row _ _ 3 _ _ r9
          have f4 : W9.frozen? ⟨g9, 4, none⟩ = false := frozen_of_row _ _ 4 _ _ r9
          have v0 : W9.cell? ⟨g, 0, none⟩ = some (.int .u32 a) := row_cell rg 0
          have v1 : W9.cell? ⟨g, 1, none⟩ = some (.int .i64 n) := row_cell rg 1
          have e0 : W9.cell? ⟨g7, 0, none⟩ = some (.int .u32 C) := row_cell r7 0
          have e1 : W9.cell? ⟨g7, 1, none⟩ = some (.int .i64 K) := row_cell r7 1
          obtain ⟨W10, hW10⟩ : ∃ X, W9.setCell ⟨g9, 4, none⟩ (.pointer (some ⟨g, 0, none⟩)) = X := ⟨_, rfl⟩
          obtain ⟨r10, o10, s10, hb10⟩ := set1 r9 hW10
          simp only [List.setIfInBounds_toArray, List.set_cons_succ, List.set_cons_zero] at r10
          have HB10 := Lib.hid hb10
          have HR10 := Lib.hid r10
          have q7 := (o10 g7 (by omega)).trans r7
          have qq := (o10 n0 (by omega)).trans rq
          clear o10
          go_wp2_with fail
          refine wp_region_still_tail 11 (by kernel_rfl) (by kernel_rfl) ?_
          simp only [List.take_succ_cons, List.take_zero, List.drop_succ_cons, List.drop_zero]
          repeat (first | still_step | (refine wpStill_step (fun K hK => ?_); go_simp; refine ⟨_, (HS1.out _).mono (fun _ _ h => ⟨h.1, h.2.symm⟩), hK _ ?_⟩; clear hK K))
          refine wpStill_nil ?_
          change wpList _ _ _ _ _ W9.drew
          have z0 : W10.cell? ⟨g9, 0, none⟩ = some (.int .u32 C) := row_cell r10 0
          have z1 : W10.cell? ⟨g9, 1, none⟩ = some (.int .i64 K) := row_cell r10 1
          have z2 : W10.cell? ⟨g9, 2, none⟩ = some (.pointer none) := row_cell r10 2
          have z3 : W10.cell? ⟨g9, 3, none⟩ = some (.pointer none) := row_cell r10 3
          have z4 : W10.cell? ⟨g9, 4, none⟩ = some (.pointer (some ⟨g, 0, none⟩)) := row_cell r10 4
          have h0 : W10.frozen? ⟨g9, 0, none⟩ = false := frozen_of_row _ _ 0 _ _ r10
          have h1 : W10.frozen? ⟨g9, 1, none⟩ = false := frozen_of_row _ _ 1 _ _ r10
          have h2 : W10.frozen? ⟨g9, 2, none⟩ = false := frozen_of_row _ _ 2 _ _ r10
          have h3 : W10.frozen? ⟨g9, 3, none⟩ = false := frozen_of_row _ _ 3 _ _ r10
          have h4 : W10.frozen? ⟨g9, 4, none⟩ = false := frozen_of_row _ _ 4 _ _ r10
          have k0 : W10.cell? ⟨g7, 0, none⟩ = some (.int .u32 C) := row_cell q7 0
          have k1 : W10.cell? ⟨g7, 1, none⟩ = some (.int .i64 K) := row_cell q7 1
          have j0 : W10.cell? ⟨n0, 0, none⟩ = some (.int .u32 b) := row_cell qq 0
          have j1 : W10.cell? ⟨n0, 1, none⟩ = some (.int .i64 m) := row_cell qq 1
          clear rg rq r7 r9 r10 q7 qq hb10
          go_wp2_with (go_at_call 55; (with_reducible refine (HS2.out _).mono ?_); rintro e w2 ⟨rfl, rfl⟩)
          have hlt : g9 < W10.heap.size := blk_lt HR10.out
          have hbw10 := with_done_s BW.out HG9.out HBC.out HB10.out
          have HCL : Hid (∀ X, Below W10.heap.size W10 X → Calls Try.prog 57 #[.pointer none, .agg #[.int .u32 b, .int .i64 m], .pointer (some q)] X fun e w' => ∃ p', e = .returned (.pointer p') ∧ Nd_s (Wid P X) w' p' (Tr.ins b m v .nil) ∧ Below X.heap.size X w') :=
            Lib.hid fun X hX => (have hX2 := Below.step hbw10 hX; with_nil_s P none b m q v X trivial (fun x hx => by have := HPW.out x hx; have := hX2.size; omega) rfl HBM.out (HV.out.on hX2))
          clear hbw10
          go_cut [] from 58 to 67 (fun wx => ∃ p', wx.heap[g9]? = some (.cells #[.int .u32 C, .int .i64 K, .pointer none, .pointer p', .pointer (some ⟨g, 0, none⟩)] 109 (0, 0)) ∧ Nd_s (Wid P w) wx p' (Tr.ins b m v .nil) ∧ Below g9 W10 wx)
          case first =>
            go_region_with (go_at_call 57; (with_reducible refine (HCL.out _ (by first | exact Below.refl _ _ | exact (Below.refl _ _).drew | exact ((Below.refl _ _).drew).drew)).mono ?_); rintro e w5 ⟨p', rfl, hp', hb5⟩; (have zc := (hb5.block g9 (by simpa using hlt)).trans HR10.out); (have zf := frozen_of_row _ _ 3 _ _ zc); (have zv : w5.cell? ⟨g9, 3, none⟩ = some (.pointer none) := row_cell zc 3))
            all_goals
              go_wp2_with fail
              go_meet
              exact ⟨p', heap_setCell_same _ _ 3 _ _ _ zc, after_call_s HPW.out (by have := BW.out.size; have := HG9.out; omega) hlt rfl hp', (Below.step' hb5 (by simpa using hlt)).setCell (p := ⟨g9, 3, none⟩) (Nat.le_refl _) _⟩
          case rest =>
            obtain ⟨p', hr, hn', hb'⟩ := hcut
            have HRR := Lib.hid hr; have HNN := Lib.hid hn'; have HBB := Lib.hid hb'
            clear hr hn' hb'
            go_wp2_with fail
            go_ret
            have hbw := with_done_s BW.out HG9.out HBC.out (HB10.out.trans HBB.out)
            have hins : Tr.ins b m v (.node a n u l r) = .node C K none (Tr.ins b m v .nil) (.node a n u l r) := by
              conv => lhs; unfold Tr.ins
              rw [HKD.out, if_neg HN.out, if_neg HM.out, if_neg (by rw [hs]; decide), HCD.out]
              rfl
            refine ⟨some ⟨g9, 0, none⟩, rfl, ?_, hbw⟩
            rw [hins]
            have hnode : Nd_s (Wid P w) wc (some ⟨g, 0, none⟩) (.node a n u l r) := TrAt.mono (fun _ => .inl) (TrAt.on hbw (P := P) ⟨g, pv, pl, pr, rfl, HPG.out, HG.out, HU.out, HL.out, HR.out⟩)
            exact ⟨g9, _, _, _, rfl, .inr (by have := BW.out.size; have := HG9.out; omega), HRR.out, rfl, HNN.out, hnode⟩
end Go.Proofs.Ytodfimnmbfdicaa
