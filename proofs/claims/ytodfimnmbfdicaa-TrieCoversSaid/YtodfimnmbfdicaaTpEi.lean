/- What New and Put do to a table of prefixes. Under the conditions that they name. -/
import Derived.Test.YtodfimnmbfdicaaTpCi
import Derived.Test.YtodfimnmbfdicaaTpD
namespace Go.Proofs.Ytodfimnmbfdicaa
open Go.RowKit Go.Shelf
/-- A world behind which only the blocks t and r may have turned, and more may lie. -/
structure Kept2_i (t r : Nat) (w w' : World) : Prop where
  os : w'.os = w.os
  tape : w'.tape = w.tape
  output : w'.output = w.output
  size : w.heap.size ≤ w'.heap.size
  block : ∀ x, x < w.heap.size → x ≠ t → x ≠ r → w'.heap[x]? = w.heap[x]?
theorem Kept2_i.below {t r B : Nat} {w w' : World} (h : Kept2_i t r w w') (ht : B ≤ t) (hr : B ≤ r) (hB : B ≤ w.heap.size) : Below B w w' :=
  ⟨h.os, h.tape, h.output, h.size, fun x hx => h.block x (by omega) (by omega) (by omega)⟩
theorem Kept2_i.trans {t r : Nat} {w w' w'' : World} (h : Kept2_i t r w w') (k : Kept2_i t r w' w'') : Kept2_i t r w w'' :=
  ⟨k.os.trans h.os, k.tape.trans h.tape, k.output.trans h.output, Nat.le_trans h.size k.size, fun x h1 h2 h3 => (k.block x (Nat.lt_of_lt_of_le h1 h.size) h2 h3).trans (h.block x h1 h2 h3)⟩
theorem Kept2_i.of {t r : Nat} {w w' : World} (h : Below w.heap.size w w') : Kept2_i t r w w' := ⟨h.os, h.tape, h.output, h.size, fun x hx _ _ => h.block x hx⟩
abbrev Off_i (t r x : Nat) : Prop := x ≠ t ∧ x ≠ r
abbrev Rv_i (t r : Nat) (w : World) (y : Value) (v : Int) : Prop := ∃ q, y = .pointer q ∧ Vl_i (Off_i t r) w q (some v)
/-- A table: its map and its tree. -/
structure TabAt_i (w : World) (t r : Nat) (L : List ((Int × Int) × Int)) (T : Tr Int) : Prop where
  ne : t ≠ r
  row : ∃ root, w.heap[t]? = some (.cells #[.map (some r), .pointer root] 70 (0, 0)) ∧ Nd_i (Off_i t r) w root T
  map : MapAt (Rv_i t r w) w r L
  ok : T.Ok
theorem TabAt_i.lt {w : World} {t r : Nat} {L : List ((Int × Int) × Int)} {T : Tr Int} (h : TabAt_i w t r L T) : t < w.heap.size ∧ r < w.heap.size := by
  obtain ⟨_, h1, _⟩ := h.row
  exact ⟨blk_lt h1, h.map.lt⟩
theorem TabAt_i.on {w w' : World} {t r : Nat} {L : List ((Int × Int) × Int)} {T : Tr Int} (h : TabAt_i w t r L T) (hb : Below w.heap.size w w') : TabAt_i w' t r L T := by
  obtain ⟨root, h1, h2⟩ := h.row
  exact ⟨h.ne, ⟨root, (hb.block t h.lt.1).trans h1, h2.on hb⟩, h.map.keep (hb.block r h.lt.2) fun y v ⟨q, e, hv⟩ => ⟨q, e, hv.on hb⟩, h.ok⟩
theorem new_is_i (w : World) : Calls Try.prog 8 #[] w fun e w' => ∃ t r, e = .returned (.pointer (some ⟨t, 0, none⟩)) ∧ w.heap.size ≤ t ∧ w.heap.size ≤ r ∧ TabAt_i w' t r [] .nil ∧ Below w.heap.size w w' := by
  have hmm := @run_makeMap Try.prog
  go_enter Try.func8, Try.ntmps8
  go_wp2_with fail
  go_ret
  have h1 : ((w.alloc (.map #[] 0)).alloc (.cells #[.map (some w.heap.size), .pointer none] 70)).heap[w.heap.size]? = some (.map #[] 0) := (Below.heap_alloc _ _ _ (by simp)).trans (heap_alloc_new w _)
  have h2 : ((w.alloc (.map #[] 0)).alloc (.cells #[.map (some w.heap.size), .pointer none] 70)).heap[w.heap.size + 1]? = some (.cells #[.map (some w.heap.size), .pointer none] 70 (0, 0)) := by
    have := heap_alloc_new (w.alloc (.map #[] 0)) (.cells #[.map (some w.heap.size), .pointer none] 70)
    rwa [World.size_alloc] at this
  exact ⟨w.heap.size + 1, w.heap.size, rfl, by omega, Nat.le_refl _, ⟨by omega, ⟨none, h2, rfl⟩, ⟨⟨_, _, h1, .nil⟩⟩, trivial⟩, ((Below.refl _ _).alloc (Nat.le_refl _) _).alloc (by simp) _⟩
theorem put_bad_i (t : Addr) (a b c : Int) (v : Int) (w : World) (ha : 0 ≤ a) (ha2 : a < 4294967296) (hc : ck a b = c) (hne : c ≠ 0) :
    Calls Try.prog 11 #[.pointer (some t), .agg #[.int .u32 a, .int .i64 b], .int .i64 v] w fun e w' => e = .returned (.int .i64 c) ∧ Below w.heap.size w w' := by
  have HCK := Lib.hid (fun w => hc ▸ check_is a b w ha ha2)
  have hcb : (c != 0) = true := by simpa using hne
  have hB0 : Below w.heap.size w ((w.alloc (.cells #[.int .u32 a, .int .i64 b] 34)).alloc (.cells #[.int .i64 v] 3)) := ((Below.refl _ _).alloc (Nat.le_refl _) _).alloc (by simp) _
  have HB0 := Lib.hid hB0
  clear hB0 hc
  go_enter Try.func11, Try.ntmps11
  go_wp2_with fail
  go_at_call 38
  (with_reducible refine (HCK.out _).mono ?_)
  rintro e w1 ⟨rfl, hb1⟩
  go_wp2_with fail
  go_ret
  exact ⟨rfl, Below.step HB0.out hb1⟩
theorem map_some_i (r : Nat) (w : World) : (binOp .eql 67 (.map (some r)) (.map none)).run Try.prog w = .ok (.bool false) w := by kernel_rfl
theorem put_after_i {t r : Nat} {L : List ((Int × Int) × Int)} {T : Tr Int} {b m : Int} {v : Int} {root p' : Option Addr} {w3 X w5 : World} (hne : t ≠ r) (hok : T.Ok) (hbm : PfOk b m) (hrow : w3.heap[t]? = some (.cells #[.map (some r), .pointer root] 70 (0, 0)))
    (hmp : MapAt (Rv_i t r w3) w3 r (putL (b, m) v L)) (hp : Nd_i (Wid (fun x => Off_i t r x ∧ x < X.heap.size) X) w5 p' (T.ins b m v)) (hb : Below w3.heap.size w3 w5) (ht : t < w3.heap.size) (hr : r < w3.heap.size) (hX : X.heap.size = w3.heap.size) :
    TabAt_i (w5.setCell ⟨t, 1, none⟩ (.pointer p')) t r (putL (b, m) v L) (T.ins b m v) ∧ Kept2_i t r w3 (w5.setCell ⟨t, 1, none⟩ (.pointer p')) := by
  have hb2 : Below t w5 (w5.setCell ⟨t, 1, none⟩ (.pointer p')) := (Below.refl _ _).setCell (p := ⟨t, 1, none⟩) (Nat.le_refl _) _
  refine ⟨⟨hne, ⟨p', heap_setCell_same _ _ 1 _ _ _ ((hb.block t ht).trans hrow), TrAt.keep (fun x _ hq => ?_) hp⟩, ?_, Tr.ok_ins hbm hok⟩, ⟨hb2.os.trans hb.os, hb2.tape.trans hb.tape, hb2.output.trans hb.output, Nat.le_trans hb.size hb2.size, fun x h1 h2 h3 => (Below.heap_setCell _ _ _ _ h2).trans (hb.block x h1)⟩⟩
  · rcases hq with ⟨h1, _⟩ | h1
    · exact ⟨h1, Below.heap_setCell _ _ _ _ h1.1⟩
    · have h2 : x ≠ t := by omega
      exact ⟨⟨h2, by omega⟩, Below.heap_setCell _ _ _ _ h2⟩
  · refine hmp.keep ((Below.heap_setCell _ _ _ _ (fun e => hne e.symm)).trans (hb.block r hr)) fun y v ⟨q, e, hv⟩ => ⟨q, e, hv.keep fun x hx hq => ⟨hq, (Below.heap_setCell _ _ _ _ hq.1).trans (hb.block x hx)⟩⟩
set_option maxRecDepth 100000 in
set_option maxHeartbeats 4000000 in
theorem put_is_i (CW : ∀ T : Tr Int, With_i T) (t r : Nat) (L : List ((Int × Int) × Int)) (T : Tr Int) (b m : Int) (v : Int) (w : World) (hT : TabAt_i w t r L T) (hbm : PfOk b m) :
    Calls Try.prog 11 #[.pointer (some ⟨t, 0, none⟩), .agg #[.int .u32 b, .int .i64 m], .int .i64 v] w fun e w' => e = .returned (.int .i64 0) ∧ TabAt_i w' t r (putL (b, m) v L) (T.ins b m v) ∧ Kept2_i t r w w' := by
  have htl := hT.lt.1; have hrl := hT.lt.2
  obtain ⟨Z, hZ⟩ : ∃ Z, (w.alloc (.cells #[.int .u32 b, .int .i64 m] 34)).alloc (.cells #[.int .i64 v] 3) = Z := ⟨_, rfl⟩
  have hzs : Z.heap.size = w.heap.size + 2 := by rw [← hZ]; simp
  have hBZ : Below w.heap.size w Z := by rw [← hZ]; exact ((Below.refl _ _).alloc (Nat.le_refl _) _).alloc (by simp) _
  have hp : Z.heap[w.heap.size]? = some (.cells #[.int .u32 b, .int .i64 m] 34 (0, 0)) := by rw [← hZ]; exact (Below.heap_alloc _ _ _ (by simp)).trans (heap_alloc_new w _)
  have hv : Z.heap[w.heap.size + 1]? = some (.cells #[.int .i64 v] 3 (0, 0)) := by
    have := heap_alloc_new (w.alloc (.cells #[.int .u32 b, .int .i64 m] 34)) (.cells #[.int .i64 v] 3)
    rw [World.size_alloc, hZ] at this; exact this
  have HCK : Hid (∀ W, Calls Try.prog 38 #[.agg #[.int .u32 b, .int .i64 m]] W fun e w' => e = .returned (.int .i64 0) ∧ Below W.heap.size W w') := Lib.hid fun W => hbm.2.2 ▸ check_is b m W hbm.1 hbm.2.1
  have HTZ := Lib.hid (hT.on hBZ); have HP := Lib.hid hp; have HV := Lib.hid hv; have HBZ := Lib.hid hBZ; have HZS := Lib.hid hzs
  have HZ := Lib.hid hZ; have HBM := Lib.hid hbm
  clear hp hv hBZ hzs hT hZ hbm
  go_enter Try.func11, Try.ntmps11
  go_wp2_with fail
  rw [HZ.out]
  obtain ⟨n0, hn0⟩ : ∃ n0, w.heap.size = n0 := ⟨_, rfl⟩
  have HN0 := Lib.hid hn0
  rw [hn0] at HP HV HZS htl hrl ⊢
  clear hn0
  go_at_call 38
  (with_reducible refine (HCK.out _).mono ?_)
  rintro e w1 ⟨rfl, hb1⟩
  have hzs := HZS.out
  have hz1 := hb1.size
  have HT1 := Lib.hid (HTZ.out.on hb1)
  obtain ⟨root, m0, hnd⟩ := HT1.out.row
  have HND := Lib.hid hnd
  have m2 := (hb1.block n0 (by omega)).trans HP.out
  have m3 := (hb1.block (n0 + 1) (by omega)).trans HV.out
  have c0 : w1.cell? ⟨t, 0, none⟩ = some (.map (some r)) := row_cell m0 0
  have c1 : w1.cell? ⟨t, 1, none⟩ = some (.pointer root) := row_cell m0 1
  have p0 : w1.cell? ⟨n0, 0, none⟩ = some (.int .u32 b) := row_cell m2 0
  have p1 : w1.cell? ⟨n0, 1, none⟩ = some (.int .i64 m) := row_cell m2 1
  have HM := Lib.hid (And.intro m0 (And.intro m2 m3)); have HB1 := Lib.hid hb1
  clear m0 m2 m3 hb1 hnd
  have hme := map_some_i r
  go_wp2_with fail
  go_still_tail 5, (by kernel_rfl)
  change wpList _ _ _ _ _ w1.drew
  have hb12 : Below w1.heap.size w1 w1.drew := (Below.refl _ _).drew
  generalize w1.drew = w2 at hb12 ⊢
  obtain ⟨m0, m2, m3⟩ := HM.out
  have hT2 := HT1.out.on hb12
  have q3 := (hb12.block (n0 + 1) (by omega)).trans m3
  obtain ⟨o3, hst, hoc, hmp⟩ := put_run Try.underlying67 hT2.map (b, m) v (.pointer (some ⟨n0 + 1, 0, none⟩)) ⟨_, rfl, ⟨n0 + 1, rfl, ⟨by omega, by omega⟩, q3⟩⟩
  obtain ⟨w3, hw3⟩ : ∃ w3, w2.putObj r o3 = w3 := ⟨_, rfl⟩
  rw [hw3] at hst hmp
  have hz2 := hb12.size
  have hz3 : w3.heap.size = w2.heap.size := by rw [← hw3]; simp [World.putObj]
  have koth : ∀ x, x ≠ r → w3.heap[x]? = w2.heap[x]? := fun x hx => by rw [← hw3]; simp only [World.putObj]; rw [Array.getElem?_setIfInBounds]; rw [if_neg (fun e => hx e.symm)]
  have hos : w3.os = w2.os ∧ w3.tape = w2.tape ∧ w3.output = w2.output := by rw [← hw3]; exact ⟨rfl, rfl, rfl⟩
  have hne := hT2.ne
  have k0 := (koth t hne).trans ((hb12.block t (by omega)).trans m0)
  have k2 := (koth n0 (by omega)).trans ((hb12.block n0 (by omega)).trans m2)
  have k3 := (koth (n0 + 1) (by omega)).trans q3
  have hnd2 : Nd_i (Off_i t r) w3 root T := TrAt.keep (fun x hx hp => ⟨hp, (koth x hp.2).trans (hb12.block x hx)⟩) HND.out
  have hmp3 : MapAt (Rv_i t r w3) w3 r (putL (b, m) v L) := hmp.keep rfl fun y v ⟨q, e, hv⟩ => ⟨q, e, hv.keep fun x _ hp => ⟨hp, koth x hp.2⟩⟩
  have hkeep : Kept2_i t r w w3 := by
    refine (Kept2_i.of (Below.step (Below.step HBZ.out HB1.out) hb12)).trans ⟨hos.1, hos.2.1, hos.2.2, by omega, fun x _ _ h => koth x h⟩
  have c0 : w3.cell? ⟨t, 0, none⟩ = some (.map (some r)) := row_cell k0 0
  have c1 : w3.cell? ⟨t, 1, none⟩ = some (.pointer root) := row_cell k0 1
  have f1 : w3.frozen? ⟨t, 1, none⟩ = false := frozen_of_row _ _ 1 _ _ k0
  have p0 : w3.cell? ⟨n0, 0, none⟩ = some (.int .u32 b) := row_cell k2 0
  have p1 : w3.cell? ⟨n0, 1, none⟩ = some (.int .i64 m) := row_cell k2 1
  have HK0 := Lib.hid k0
  have HND3 := Lib.hid hnd2; have HMP3 := Lib.hid hmp3; have HKEEP := Lib.hid hkeep; have HOK := Lib.hid hT2.ok; have HNE := Lib.hid hne
  have hwl : ∀ x, x = t ∨ x = r → x < w3.heap.size := fun x hx => by rcases hx with rfl | rfl <;> omega
  have HWL := Lib.hid hwl
  have HCW : Hid (∀ X, Below w3.heap.size w3 X → Calls Try.prog 39 #[.pointer root, .agg #[.int .u32 b, .int .i64 m], .pointer (some ⟨n0 + 1, 0, none⟩)] X fun e w' => ∃ p', e = .returned (.pointer p') ∧ Nd_i (Wid (fun x => Off_i t r x ∧ x < X.heap.size) X) w' p' (T.ins b m v) ∧ Below X.heap.size X w') :=
    Lib.hid fun X hX => CW T _ root b m _ v X hT2.ok (fun x hx => hx.2) (TrAt.keep (fun x hx hp => ⟨⟨hp, by have := hX.size; omega⟩, hX.block x hx⟩) hnd2) HBM.out ⟨n0 + 1, rfl, ⟨⟨by omega, by omega⟩, by have := hX.size; omega⟩, (hX.block _ (by omega)).trans k3⟩
  clear k0 k2 k3 hb12 koth hw3 m0 m2 m3 hnd2 hmp3 hkeep hT2 hmp q3 hos hne hoc hwl
  go_wp2_with fail
  have HZ3 := Lib.hid hz3
  have hz23 : w2.heap.size ≤ w3.heap.size := by omega
  clear hz3 hst
  go_cut [35] (fun s35 wx => TabAt_i wx t r (putL (b, m) v L) (T.ins b m v) ∧ Kept2_i t r w3 wx)
  case first =>
    go_region_with (go_at_call 39; (with_reducible refine (HCW.out _ (by first | exact Below.refl _ _ | exact (Below.refl _ _).drew | exact ((Below.refl _ _).drew).drew)).mono ?_); rintro e w5 ⟨p', rfl, hp', hb5⟩; (have zc := (hb5.block t (by simpa using HWL.out t (.inl rfl))).trans HK0.out); (have zf := frozen_of_row _ _ 1 _ _ zc); (have zv : w5.cell? ⟨t, 1, none⟩ = some (.pointer root) := row_cell zc 1))
    all_goals
      go_wp2_with fail
      go_meet
      exact put_after_i HNE.out HOK.out HBM.out HK0.out HMP3.out hp' (Below.step (by first | exact Below.refl _ _ | exact (Below.refl _ _).drew | exact ((Below.refl _ _).drew).drew) hb5) (HWL.out t (.inl rfl)) (HWL.out r (.inr rfl)) rfl
  case rest =>
    obtain ⟨h0, h1⟩ := hcut
    have HH := Lib.hid (And.intro h0 h1)
    clear h0 h1
    go_wp2_with fail
    go_ret
    exact ⟨rfl, HH.out.1, HKEEP.out.trans HH.out.2⟩
end Go.Proofs.Ytodfimnmbfdicaa
