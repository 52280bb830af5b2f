/- What trie's All, Within and At hand back. Under the conditions that they name. -/
import Derived.Test.YtodfimnmbfdicaaTpR
namespace Go.Proofs.Ytodfimnmbfdicaa
open Go.RowKit Go.Shelf
attribute [local go_sem] Oper.semAt_some
/-- A sequence over a tree, along all paths: its node's box, what leads on. -/
structure SeqA (W : World) (b : Nat) (root : Option Addr) : Prop where
  box : W.heap[b]? = some (.cells #[.pointer root] 68 (0, 0))
  lead : W.heap[b + 1]? = some (.cells #[.func (.func 35) #[] #[]] 73 (0, 0))
theorem any_stops (enc : Kv → Array Value) (hEN : EncOk enc) (n n0 : Nat) (S : Nat → Prop) (b : Nat) (root : Option Addr) (T : Tr Int) (w0 : World) (hs : SeqA w0 b root) (hok : T.Ok) (hnd : Nd_i (In_n n0 S) w0 root T) (hn0 : n0 ≤ w0.heap.size) (h1 : In_n n0 S b) (h2 : In_n n0 S (b + 1)) :
    SeqStopsK Fence.wide n Try.prog 50 #[.pointer (some ⟨b, 0, none⟩), .pointer (some ⟨b + 1, 0, none⟩)] enc (Kpx n0 S) (fun xs => xs = rowsT allP T) (fun pre => pre <+: rowsT allP T) (rowsT allP T).length w0 := by
  intro l J Jx W hW hJ hJx hY h0
  have hk := Kpx.of (S := S) hW hn0
  have r1 := (hk.block b h1.1 h1.2).trans hs.box
  have r2 := (hk.block (b + 1) h2.1 h2.2).trans hs.lead
  have g1 : W.cell? ⟨b, 0, none⟩ = some (.pointer root) := row_cell r1 0
  have g2 : W.cell? ⟨b + 1, 0, none⟩ = some (.func (.func 35) #[] #[]) := row_cell r2 0
  have HV := Lib.hid (visitA_is T enc hEN n0 S J Jx l _ root [] W hok (Nd_i.kp hnd hk) (by have := hW.size; omega)
    (fun q W1 W2 hj hb => hJ q W1 W2 none hj ⟨hb.os, hb.tape, hb.output, hb.size, fun k hk _ => hb.block k hk⟩ (fun r e => by cases e))
    (fun q y W1 hj hq => yield_any (hY q y W1 hj hq)) h0 (by simp))
  refine callsIn_wide.2 ?_
  clear hY hJ hJx h0 hW hk r1 r2 hs hok hnd hn0 h1 h2
  go_enter Try.func50, Try.ntmps50
  go_wp2_with fail
  go_at_call 51
  (with_reducible refine HV.out.mono ?_)
  rintro e w2 (⟨rfl, hJ, _⟩ | ⟨rfl, q, hq, hJx⟩)
  · have HJ := Lib.hid hJ
    clear hJ
    go_wp2_with fail
    go_end0
    exact ⟨⟨_, rfl⟩, .inl ⟨_, rfl, by simpa using HJ.out⟩⟩
  · have HJ := Lib.hid hJx
    clear hJx
    go_wp2_with fail
    go_end0
    exact ⟨⟨_, rfl⟩, .inr ⟨_, hq, by simpa using HJ.out⟩⟩
theorem two_rows (w : World) (x y : Obj) : ((w.alloc x).alloc y).heap[w.heap.size]? = some x ∧ ((w.alloc x).alloc y).heap[w.heap.size + 1]? = some y := by
  have h1 := heap_alloc_new w x
  have h2 := heap_alloc_new (w.alloc x) y
  simp only [World.size_alloc] at h2
  exact ⟨(Below.heap_alloc _ _ _ (by simp only [World.size_alloc]; omega)).trans h1, h2⟩
theorem tall_is (t : Nat) (m : Value) (q : Option Addr) (w : World) (ht : w.heap[t]? = some (.cells #[m, .pointer q] 70 (0, 0))) : Calls Try.prog 9 #[.pointer (some ⟨t, 0, none⟩)] w fun e w' => e = .returned (seqV w.heap.size) ∧ SeqA w' w.heap.size q ∧ Below w.heap.size w w' ∧ w.heap.size + 2 ≤ w'.heap.size := by
  have HT := Lib.hid (top_is t m q w ht); have HA := Lib.hid (fun q fn cs w => all_is q fn cs w)
  clear ht
  go_enter Try.func9, Try.ntmps9
  go_wp2_with fail
  go_at_call 33
  (with_reducible refine HT.out.mono ?_)
  rintro e w1 ⟨rfl, rfl⟩
  go_wp2_with fail
  go_at_call 34
  (with_reducible refine (HA.out _ _ _ _).mono ?_)
  rintro e w2 ⟨rfl, hw2⟩
  have HW := Lib.hid hw2
  clear hw2
  go_wp2_with fail
  go_ret
  obtain ⟨h0, h1⟩ := two_rows w (.cells #[.pointer q] 68) (.cells #[.func (.func 35) #[] #[]] 73)
  rw [HW.out]
  exact ⟨rfl, ⟨h0, h1⟩, ((Below.refl _ _).alloc (Nat.le_refl _) _).alloc (by simp) _, by simp⟩
/-- How far a node may still lead down. -/
def dep (v : Value) (w : World) : Nat := match v with
  | .pointer (some p) => match w.cell? ⟨p.block, 1, none⟩ with
    | some (.int _ n) => (33 - n).toNat
    | _ => 0
  | _ => 0
theorem dep_node {W : World} {g : Nat} {a n : Int} {pv pl pr : Option Addr} (h : W.heap[g]? = some (.cells #[.int .u32 a, .int .i64 n, .pointer pv, .pointer pl, .pointer pr] 102 (0, 0))) : dep (.pointer (some ⟨g, 0, none⟩)) W = (33 - n).toNat := by
  have : W.cell? ⟨g, 1, none⟩ = some (.int .i64 n) := row_cell h 1
  simp only [dep, this]
theorem dep_less {P : Nat → Prop} {W W' : World} {g : Nat} {a n c : Int} {pv pl pr q : Option Addr} (t : Tr Int) (h : W.heap[g]? = some (.cells #[.int .u32 a, .int .i64 n, .pointer pv, .pointer pl, .pointer pr] 102 (0, 0))) (hp : PfOk a n) (hall : t.All fun b m => PfOk b m ∧ Reg (n + 1) c b m) (ht : Nd_i P W' q t) :
    dep (.pointer q) W' < dep (.pointer (some ⟨g, 0, none⟩)) W := by
  have hb := hp.bits
  rw [dep_node h]
  cases t with
  | nil =>
    obtain rfl : q = none := ht
    simp only [dep]
    omega
  | node b m u l r =>
    obtain ⟨g', pv', pl', pr', rfl, _, hg', _⟩ := ht
    rw [dep_node hg']
    have h1 := hall.1.2.1
    have h2 := hall.1.1.bits
    omega
set_option maxRecDepth 100000 in
set_option maxHeartbeats 4000000 in
theorem under_is (P : Nat → Prop) (root : Option Addr) (T : Tr Int) (b m : Int) (w : World) (hok : T.Ok) (hnd : Nd_i P w root T) (hb0 : 0 ≤ b) (hb1 : b < 4294967296) : Calls Try.prog 48 #[.pointer root, .agg #[.int .u32 b, .int .i64 m]] w fun e w' => ∃ root', e = .returned (.pointer root') ∧ Nd_i P w' root' (Tr.under b m T) ∧ Below w.heap.size w w' := by
  obtain ⟨W1, hW1⟩ : ∃ X, w.alloc (.cells #[.int .u32 b, .int .i64 m] 34) = X := ⟨_, rfl⟩
  have hB1 : Below w.heap.size w W1 := by rw [← hW1]; exact (Below.refl _ _).alloc (Nat.le_refl _) _
  have hq1 : W1.heap[w.heap.size]? = some (.cells #[.int .u32 b, .int .i64 m] 34 (0, 0)) := by rw [← hW1]; exact heap_alloc_new w _
  obtain ⟨n0, hn0⟩ : ∃ n0, w.heap.size = n0 := ⟨_, rfl⟩
  rw [hn0] at hq1
  have HQ := Lib.hid hq1; have HB1 := Lib.hid hB1; have HND := Lib.hid (TrAt.on hB1 hnd); have HOK := Lib.hid hok
  have HN0 := Lib.hid hn0
  clear hq1 hB1 hnd hok
  go_enter Try.func48, Try.ntmps48
  go_wp2_with fail
  clear hW1 hn0
  go_loopw [0] (fun p wr => ∃ (root' : Option Addr) (T' : Tr Int), p = .pointer root' ∧ Hid (T'.Ok ∧ Nd_i P wr root' T' ∧ Tr.under b m T' = Tr.under b m T ∧ Below W1.heap.size W1 wr)) (fun p wr => dep p wr)
  case atStart => exact ⟨root, T, rfl, Lib.hid ⟨HOK.out, HND.out, rfl, Below.refl _ _⟩⟩
  case round =>
    obtain ⟨root', T', rfl, HR⟩ := hrel
    obtain ⟨hok', hnd', heq, hbw⟩ := HR.out
    have hq := (hbw.block n0 (blk_lt HQ.out)).trans HQ.out
    have ql := blk_lt hq
    have b0 : wr.cell? ⟨n0, 0, none⟩ = some (.int .u32 b) := row_cell hq 0
    have b1 : wr.cell? ⟨n0, 1, none⟩ = some (.int .i64 m) := row_cell hq 1
    cases T' with
    | nil =>
      obtain rfl : root' = none := hnd'
      have HE := Lib.hid heq; have HBW := Lib.hid hbw
      clear hok' heq hbw hq
      go_wp2_with fail
      go_quiet (fail)
      go_wp2_with fail
      go_ret
      refine ⟨none, rfl, ?_, HB1.out.trans ((Below.draws HBW.out _).mono HB1.out.size)⟩
      rw [← HE.out]
      exact rfl
    | node a n u l r =>
      obtain ⟨g, pv, pl, pr, rfl, hPg, hg, hu, hl, hr⟩ := hnd'
      have gl := blk_lt hg
      have a0 : wr.cell? ⟨g, 0, none⟩ = some (.int .u32 a) := row_cell hg 0
      have a1 : wr.cell? ⟨g, 1, none⟩ = some (.int .i64 n) := row_cell hg 1
      have HWI : Hid (∀ W, Calls Try.prog 59 #[.agg #[.int .u32 a, .int .i64 n], .agg #[.int .u32 b, .int .i64 m]] W fun e w' => e = .returned (.bool (wiB a n b m)) ∧ Below W.heap.size W w') := Lib.hid fun W => within_is a n b m W hok'.1.1 hok'.1.2.1 hb0 hb1
      obtain ⟨wi, hwi⟩ : ∃ x, wiB a n b m = x := ⟨_, rfl⟩
      rw [hwi] at HWI
      have HNODE := Lib.hid (show Nd_i P wr (some ⟨g, 0, none⟩) (.node a n u l r) from ⟨g, pv, pl, pr, rfl, hPg, hg, hu, hl, hr⟩)
      have HG := Lib.hid hg; have HL := Lib.hid hl; have HRR := Lib.hid hr; have HO := Lib.hid hok'; have HE := Lib.hid heq; have HBW := Lib.hid hbw; have HW := Lib.hid hwi
      clear hg hu hl hr hok' heq hbw hq hwi hPg
      cases wi with
      | true =>
        go_wp2_with fail
        refine wp_region_grows (by kernel_rfl) (by kernel_rfl) ?_
        refine grows_fact g 0 (.int .u32 a) a0 gl fun t0 => ?_
        refine grows_fact g 1 (.int .i64 n) a1 gl fun t1 => ?_
        refine grows_fact n0 0 (.int .u32 b) b0 ql fun t2 => ?_
        refine grows_fact n0 1 (.int .i64 m) b1 ql fun t3 => ?_
        repeat (go_big_quiet_step ((go_at_call 59; with_reducible exact Calls.grows_of (HWI.out _))))
        refine wpQuiet_nil ?_
        rintro w8 ⟨⟨_, hb8⟩, rfl⟩
        have HB8 := Lib.hid hb8
        clear t0 t1 t2 t3 hb8
        go_wp2_with fail
        go_ret
        refine ⟨_, rfl, ?_, HB1.out.trans ((Below.step HBW.out HB8.out).mono HB1.out.size)⟩
        rw [← HE.out]
        unfold Tr.under
        rw [if_pos HW.out]
        exact TrAt.on HB8.out HNODE.out
      | false =>
        have hbits := HO.out.1.bits
        have HS := Lib.hid fun W => side_is b n W hb0 hb1 hbits.1 hbits.2.1
        go_wp2_with fail
        refine wp_region_grows (by kernel_rfl) (by kernel_rfl) ?_
        refine grows_fact g 0 (.int .u32 a) a0 gl fun t0 => ?_
        refine grows_fact g 1 (.int .i64 n) a1 gl fun t1 => ?_
        refine grows_fact n0 0 (.int .u32 b) b0 ql fun t2 => ?_
        refine grows_fact n0 1 (.int .i64 m) b1 ql fun t3 => ?_
        repeat (go_big_quiet_step ((go_at_call 59; with_reducible exact Calls.grows_of (HWI.out _))))
        refine wpQuiet_nil ?_
        rintro w8 ⟨⟨_, hb8⟩, rfl⟩
        have HB8 := Lib.hid hb8
        have rg := (hb8.block g gl).trans HG.out
        have rq := ((Below.step HBW.out hb8).block n0 (blk_lt HQ.out)).trans HQ.out
        have a1' : w8.cell? ⟨g, 1, none⟩ = some (.int .i64 n) := row_cell rg 1
        have a3 : w8.cell? ⟨g, 3, none⟩ = some (.pointer pl) := row_cell rg 3
        have a4 : w8.cell? ⟨g, 4, none⟩ = some (.pointer pr) := row_cell rg 4
        have b0' : w8.cell? ⟨n0, 0, none⟩ = some (.int .u32 b) := row_cell rq 0
        have HRG := Lib.hid rg
        have gl8 := blk_lt rg; have ql8 := blk_lt rq
        clear t0 t1 t2 t3 hb8 rg rq a0 a1 b0 b1
        rcases sd_two b n with hs | hs
        · rw [hs] at HS
          have hun : Tr.under b m (.node a n u l r) = Tr.under b m l := by conv => lhs; unfold Tr.under; rw [HW.out]; simp [hs]
          have HE2 := Lib.hid (hun.symm.trans HE.out)
          clear hun
          go_wp2_with fail
          refine wp_region_grows (by kernel_rfl) (by kernel_rfl) ?_
          refine grows_fact n0 0 (.int .u32 b) b0' ql8 fun t0 => ?_
          refine grows_fact g 1 (.int .i64 n) a1' gl8 fun t1 => ?_
          refine grows_fact g 3 (.pointer pl) a3 gl8 fun t2 => ?_
          repeat (go_big_quiet_step ((go_at_call 55; with_reducible exact Calls.grows_same (HS.out _))))
          refine wpQuiet_nil ?_
          rintro w9 ⟨⟨_, hb9⟩, rfl⟩
          have HB9 := Lib.hid (Below.step HB8.out hb9)
          have HG9 := Lib.hid ((hb9.block g gl8).trans HRG.out)
          clear t0 t1 t2 hb9
          go_wp2_with fail
          go_roundw
          case rel => exact ⟨pl, l, rfl, Lib.hid ⟨HO.out.2.2.2.1, TrAt.on HB9.out HL.out, HE2.out, Below.step HBW.out HB9.out⟩⟩
          case measure => exact dep_less l HG.out HO.out.1 (Tr.all_both (Tr.all_ok HO.out.2.2.2.1) HO.out.2.1) (TrAt.on HB9.out HL.out)
        · rw [hs] at HS
          have hun : Tr.under b m (.node a n u l r) = Tr.under b m r := by conv => lhs; unfold Tr.under; rw [HW.out]; simp [hs]
          have HE2 := Lib.hid (hun.symm.trans HE.out)
          clear hun
          go_wp2_with fail
          refine wp_region_grows (by kernel_rfl) (by kernel_rfl) ?_
          refine grows_fact n0 0 (.int .u32 b) b0' ql8 fun t0 => ?_
          refine grows_fact g 1 (.int .i64 n) a1' gl8 fun t1 => ?_
          refine grows_fact g 4 (.pointer pr) a4 gl8 fun t2 => ?_
          repeat (go_big_quiet_step ((go_at_call 55; with_reducible exact Calls.grows_same (HS.out _))))
          refine wpQuiet_nil ?_
          rintro w9 ⟨⟨_, hb9⟩, rfl⟩
          have HB9 := Lib.hid (Below.step HB8.out hb9)
          have HG9 := Lib.hid ((hb9.block g gl8).trans HRG.out)
          clear t0 t1 t2 hb9
          go_wp2_with fail
          go_roundw
          case rel => exact ⟨pr, r, rfl, Lib.hid ⟨HO.out.2.2.2.2, TrAt.on HB9.out HRR.out, HE2.out, Below.step HBW.out HB9.out⟩⟩
          case measure => exact dep_less r HG.out HO.out.1 (Tr.all_both (Tr.all_ok HO.out.2.2.2.2) HO.out.2.2.1) (TrAt.on HB9.out HRR.out)
end Go.Proofs.Ytodfimnmbfdicaa
