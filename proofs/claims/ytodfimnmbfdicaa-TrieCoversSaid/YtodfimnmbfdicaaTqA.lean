/- What trie's Drop does to a table that has the prefix. Under the conditions that it names. -/
import Derived.Test.YtodfimnmbfdicaaTpT
import Derived.Test.YtodfimnmbfdicaaTpYi
import Derived.Test.YtodfimnmbfdicaaTpZ
namespace Go.Proofs.Ytodfimnmbfdicaa
open Go.RowKit Go.Shelf
theorem drop_after {t r : Nat} {L' : List Kv} {T : Tr Int} {b m : Int} {root p' : Option Addr} {w3 X w5 : World} (hne : t ≠ r) (hok : T.Ok) (hrow : w3.heap[t]? = some (.cells #[.map (some r), .pointer root] 70 (0, 0)))
    (hmp : MapAt (Rv_i t r w3) w3 r L') (hp : Nd_i (Wid (fun x => Off_i t r x ∧ x < X.heap.size) X) w5 p' (T.wo b m)) (hb : Below w3.heap.size w3 w5) (ht : t < w3.heap.size) (hr : r < w3.heap.size) (hX : X.heap.size = w3.heap.size) :
    TabAt_i (w5.setCell ⟨t, 1, none⟩ (.pointer p')) t r L' (T.wo b m) ∧ Kept2_i t r w3 (w5.setCell ⟨t, 1, none⟩ (.pointer p')) := by
  have hb2 : Below t w5 (w5.setCell ⟨t, 1, none⟩ (.pointer p')) := (Below.refl _ _).setCell (p := ⟨t, 1, none⟩) (Nat.le_refl _) _
  refine ⟨⟨hne, ⟨p', heap_setCell_same _ _ 1 _ _ _ ((hb.block t ht).trans hrow), TrAt.keep (fun x _ hq => ?_) hp⟩, ?_, Tr.wo_ok hok⟩, ⟨hb2.os.trans hb.os, hb2.tape.trans hb.tape, hb2.output.trans hb.output, Nat.le_trans hb.size hb2.size, fun x h1 h2 h3 => (Below.heap_setCell _ _ _ _ h2).trans (hb.block x h1)⟩⟩
  · rcases hq with ⟨h1, _⟩ | h1
    · exact ⟨h1, Below.heap_setCell _ _ _ _ h1.1⟩
    · have h2 : x ≠ t := by omega
      exact ⟨⟨h2, by omega⟩, Below.heap_setCell _ _ _ _ h2⟩
  · refine hmp.keep ((Below.heap_setCell _ _ _ _ (fun e => hne e.symm)).trans (hb.block r hr)) fun y v ⟨q, e, hv⟩ => ⟨q, e, hv.keep fun x hx hq => ⟨hq, (Below.heap_setCell _ _ _ _ hq.1).trans (hb.block x hx)⟩⟩
set_option maxRecDepth 100000 in
set_option maxHeartbeats 4000000 in
theorem drop_is (t r : Nat) (L : List Kv) (T : Tr Int) (b m v : Int) (w : World) (hT : TabAt_i w t r L T) (hbm : PfOk b m) (hg : getL (b, m) L = some v) :
    Calls Try.prog 13 #[.pointer (some ⟨t, 0, none⟩), .agg #[.int .u32 b, .int .i64 m]] w fun e w' => e = .returned (.int .i64 0) ∧ TabAt_i w' t r (delL (b, m) L) (T.wo b m) ∧ Kept2_i t r w w' := by
  have htl := hT.lt.1; have hrl := hT.lt.2
  obtain ⟨Z, hZ⟩ : ∃ Z, w.alloc (.cells #[.int .u32 b, .int .i64 m] 34) = Z := ⟨_, rfl⟩
  have hzs : Z.heap.size = w.heap.size + 1 := by rw [← hZ]; simp
  have hBZ : Below w.heap.size w Z := by rw [← hZ]; exact (Below.refl _ _).alloc (Nat.le_refl _) _
  have hp : Z.heap[w.heap.size]? = some (.cells #[.int .u32 b, .int .i64 m] 34 (0, 0)) := by rw [← hZ]; exact heap_alloc_new w _
  have HCK : Hid (∀ W, Calls Try.prog 38 #[.agg #[.int .u32 b, .int .i64 m]] W fun e w' => e = .returned (.int .i64 0) ∧ Below W.heap.size W w') := Lib.hid fun W => hbm.2.2 ▸ check_is b m W hbm.1 hbm.2.1
  have HTZ := Lib.hid (hT.on hBZ); have HP := Lib.hid hp; have HBZ := Lib.hid hBZ; have HZS := Lib.hid hzs
  have HZ := Lib.hid hZ; have HBM := Lib.hid hbm; have HGT := Lib.hid hg
  clear hp hBZ hzs hT hZ hbm hg
  go_enter Try.func13, Try.ntmps13
  go_wp2_with fail
  rw [HZ.out]
  obtain ⟨n0, hn0⟩ : ∃ n0, w.heap.size = n0 := ⟨_, rfl⟩
  have HN0 := Lib.hid hn0
  rw [hn0] at HP HZS htl hrl ⊢
  clear hn0
  go_at_call 38
  (with_reducible refine (HCK.out _).mono ?_)
  rintro e w1 ⟨rfl, hb1⟩
  have hzs := HZS.out
  have hz1 := hb1.size
  have HT1 := Lib.hid (HTZ.out.on hb1)
  obtain ⟨root, m0, hnd⟩ := HT1.out.row
  have HND := Lib.hid hnd
  have m2 := (hb1.block n0 (by omega)).trans HP.out
  have c0 : w1.cell? ⟨t, 0, none⟩ = some (.map (some r)) := row_cell m0 0
  have p0 : w1.cell? ⟨n0, 0, none⟩ = some (.int .u32 b) := row_cell m2 0
  have p1 : w1.cell? ⟨n0, 1, none⟩ = some (.int .i64 m) := row_cell m2 1
  have hlk := look_all Try.underlying67 HT1.out.map (b, m) (.pointer none) (fun _ => by kernel_rfl)
  obtain ⟨yq, hrun⟩ : ∃ y : Value, ∀ k : Nat, (Instr.lookup 67 (.map (some r)) (.agg #[.int .u32 b, .int .i64 m]) true).run Try.prog (w1.drewN k) = .ok (.tuple #[y, .bool true]) (w1.drewN k) := by
    rcases hlk with ⟨h, _⟩ | ⟨v', y, h, _, hr0⟩
    · rw [HGT.out] at h; cases h
    · exact ⟨y, fun k => hr0 _ rfl⟩
  have HM := Lib.hid (And.intro m0 m2); have HB1 := Lib.hid hb1
  clear m0 m2 hb1 hnd hlk
  go_wp2_with fail
  go_quiet (fail)
  have hbq : Below w1.heap.size w1 (w1.drewN nq) := Below.draws (Below.refl _ _) nq
  obtain ⟨wq, hwq⟩ : ∃ X, w1.drewN nq = X := ⟨_, rfl⟩
  rw [hwq] at hbq
  rw [hwq]
  clear hwq hrun c0 p0 p1
  have HTQ := Lib.hid (HT1.out.on hbq)
  have hzq := hbq.size
  have m0 := (hbq.block t (by omega)).trans HM.out.1
  have m2 := (hbq.block n0 (by omega)).trans HM.out.2
  have c0 : wq.cell? ⟨t, 0, none⟩ = some (.map (some r)) := row_cell m0 0
  have p0 : wq.cell? ⟨n0, 0, none⟩ = some (.int .u32 b) := row_cell m2 0
  have p1 : wq.cell? ⟨n0, 1, none⟩ = some (.int .i64 m) := row_cell m2 1
  have HMQ := Lib.hid (And.intro m0 m2); have HBQ := Lib.hid hbq
  clear m0 m2 hbq
  go_wp2_with fail
  go_still_tail 5, (by kernel_rfl)
  change wpList _ _ _ _ _ wq.drew
  have hb12 : Below wq.heap.size wq wq.drew := (Below.refl _ _).drew
  generalize wq.drew = w2 at hb12 ⊢
  obtain ⟨m0, m2⟩ := HMQ.out
  have hT2 := HTQ.out.on hb12
  obtain ⟨o3, hst, hoc, hmp⟩ := del_run (ty := 0) Try.underlying67 hT2.map (b, m) v HGT.out
  obtain ⟨w3, hw3⟩ : ∃ w3, w2.putObj r o3 = w3 := ⟨_, rfl⟩
  rw [hw3] at hst hmp
  have hz2 := hb12.size
  have hz3 : w3.heap.size = w2.heap.size := by rw [← hw3]; simp [World.putObj]
  have koth : ∀ x, x ≠ r → w3.heap[x]? = w2.heap[x]? := fun x hx => by rw [← hw3]; simp only [World.putObj]; rw [Array.getElem?_setIfInBounds]; rw [if_neg (fun e => hx e.symm)]
  have hos : w3.os = w2.os ∧ w3.tape = w2.tape ∧ w3.output = w2.output := by rw [← hw3]; exact ⟨rfl, rfl, rfl⟩
  have hne := hT2.ne
  have k0 := (koth t hne).trans ((hb12.block t (by omega)).trans m0)
  have k2 := (koth n0 (by omega)).trans ((hb12.block n0 (by omega)).trans m2)
  have hndq : Nd_i (Off_i t r) wq root T := TrAt.on HBQ.out HND.out
  have hnd2 : Nd_i (Off_i t r) w3 root T := TrAt.keep (fun x hx hp => ⟨hp, (koth x hp.2).trans (hb12.block x hx)⟩) hndq
  have hmp3 : MapAt (Rv_i t r w3) w3 r (delL (b, m) L) := hmp.keep rfl fun y v ⟨q, e, hv⟩ => ⟨q, e, hv.keep fun x _ hp => ⟨hp, koth x hp.2⟩⟩
  have hkeep : Kept2_i t r w w3 := by
    refine (Kept2_i.of (Below.step (Below.step (Below.step HBZ.out HB1.out) HBQ.out) hb12)).trans ⟨hos.1, hos.2.1, hos.2.2, by omega, fun x _ _ h => koth x h⟩
  have c0 : w3.cell? ⟨t, 0, none⟩ = some (.map (some r)) := row_cell k0 0
  have c1 : w3.cell? ⟨t, 1, none⟩ = some (.pointer root) := row_cell k0 1
  have f1 : w3.frozen? ⟨t, 1, none⟩ = false := frozen_of_row _ _ 1 _ _ k0
  have p0 : w3.cell? ⟨n0, 0, none⟩ = some (.int .u32 b) := row_cell k2 0
  have p1 : w3.cell? ⟨n0, 1, none⟩ = some (.int .i64 m) := row_cell k2 1
  have HK0 := Lib.hid k0
  have HMP3 := Lib.hid hmp3; have HKEEP := Lib.hid hkeep; have HOK := Lib.hid hT2.ok; have HNE := Lib.hid hne
  have hwl : ∀ x, x = t ∨ x = r → x < w3.heap.size := fun x hx => by rcases hx with rfl | rfl <;> omega
  have HWL := Lib.hid hwl
  have HCW : Hid (∀ X, Below w3.heap.size w3 X → Calls Try.prog 40 #[.pointer root, .agg #[.int .u32 b, .int .i64 m]] X fun e w' => ∃ p', e = .returned (.pointer p') ∧ Nd_i (Wid (fun x => Off_i t r x ∧ x < X.heap.size) X) w' p' (T.wo b m) ∧ Below X.heap.size X w') :=
    Lib.hid fun X hX => wo_is_i T _ root b m X hT2.ok (fun x hx => hx.2) (TrAt.keep (fun x hx hp => ⟨⟨hp, by have := hX.size; omega⟩, hX.block x hx⟩) hnd2) HBM.out.1 HBM.out.2.1
  clear k0 k2 hb12 koth hw3 m0 m2 hnd2 hmp3 hkeep hT2 hmp hos hne hoc hwl hndq
  go_wp2_with fail
  have HZ3 := Lib.hid hz3
  have hz23 : w2.heap.size ≤ w3.heap.size := by omega
  clear hz3 hst
  go_cut [37] (fun s37 wx => TabAt_i wx t r (delL (b, m) L) (T.wo b m) ∧ Kept2_i t r w3 wx)
  case first =>
    go_region_with (go_at_call 40; (with_reducible refine (HCW.out _ (by first | exact Below.refl _ _ | exact (Below.refl _ _).drew | exact ((Below.refl _ _).drew).drew)).mono ?_); rintro e w5 ⟨p', rfl, hp', hb5⟩; (have zc := (hb5.block t (by simpa using HWL.out t (.inl rfl))).trans HK0.out); (have zf := frozen_of_row _ _ 1 _ _ zc); (have zv : w5.cell? ⟨t, 1, none⟩ = some (.pointer root) := row_cell zc 1))
    all_goals
      go_wp2_with fail
      go_meet
      exact drop_after HNE.out HOK.out HK0.out HMP3.out hp' (Below.step (by first | exact Below.refl _ _ | exact (Below.refl _ _).drew | exact ((Below.refl _ _).drew).drew) hb5) (HWL.out t (.inl rfl)) (HWL.out r (.inr rfl)) rfl
  case rest =>
    obtain ⟨h0, h1⟩ := hcut
    have HH := Lib.hid (And.intro h0 h1)
    clear h0 h1
    go_wp2_with fail
    go_ret
    exact ⟨rfl, HH.out.1, HKEEP.out.trans HH.out.2⟩
end Go.Proofs.Ytodfimnmbfdicaa
