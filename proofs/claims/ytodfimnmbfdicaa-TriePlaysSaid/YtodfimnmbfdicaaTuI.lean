/- What trie's Drop refuses, and what its Copy hands back. Under the conditions that they name. -/
import Derived.Test.YtodfimnmbfdicaaTqA
import Derived.Test.YtodfimnmbfdicaaShelfC
namespace Go.Proofs.Ytodfimnmbfdicaa
open Go.RowKit Go.Shelf
theorem drop_bad (t : Addr) (b m c : Int) (w : World) (hb0 : 0 ≤ b) (hb1 : b < 4294967296) (hc : ck b m = c) (hne : c ≠ 0) :
    Calls Try.prog 13 #[.pointer (some t), .agg #[.int .u32 b, .int .i64 m]] w fun e w' => e = .returned (.int .i64 c) ∧ Below w.heap.size w w' := by
  have HCK := Lib.hid (fun w => hc ▸ check_is b m w hb0 hb1)
  have hcb : (c != 0) = true := by simpa using hne
  have HB0 : Hid (Below w.heap.size w (w.alloc (.cells #[.int .u32 b, .int .i64 m] 34))) := Lib.hid ((Below.refl _ _).alloc (Nat.le_refl _) _)
  clear hc
  go_enter Try.func13, Try.ntmps13
  go_wp2_with fail
  go_at_call 38
  (with_reducible refine (HCK.out _).mono ?_)
  rintro e w1 ⟨rfl, hb1⟩
  go_wp2_with fail
  go_ret
  exact ⟨rfl, Below.step HB0.out hb1⟩
set_option maxRecDepth 100000 in
set_option maxHeartbeats 4000000 in
theorem drop_none (t r : Nat) (L : List Kv) (T : Tr Int) (b m : Int) (w : World) (hT : TabAt_i w t r L T) (hbm : PfOk b m) (hg : getL (b, m) L = none) :
    Calls Try.prog 13 #[.pointer (some ⟨t, 0, none⟩), .agg #[.int .u32 b, .int .i64 m]] w fun e w' => e = .returned (.int .i64 5) ∧ Below w.heap.size w w' := by
  have htl := hT.lt.1; have hrl := hT.lt.2
  obtain ⟨Z, hZ⟩ : ∃ Z, w.alloc (.cells #[.int .u32 b, .int .i64 m] 34) = Z := ⟨_, rfl⟩
  have hzs : Z.heap.size = w.heap.size + 1 := by rw [← hZ]; simp
  have hBZ : Below w.heap.size w Z := by rw [← hZ]; exact (Below.refl _ _).alloc (Nat.le_refl _) _
  have hp : Z.heap[w.heap.size]? = some (.cells #[.int .u32 b, .int .i64 m] 34 (0, 0)) := by rw [← hZ]; exact heap_alloc_new w _
  have HCK : Hid (∀ W, Calls Try.prog 38 #[.agg #[.int .u32 b, .int .i64 m]] W fun e w' => e = .returned (.int .i64 0) ∧ Below W.heap.size W w') := Lib.hid fun W => hbm.2.2 ▸ check_is b m W hbm.1 hbm.2.1
  have HTZ := Lib.hid (hT.on hBZ); have HP := Lib.hid hp; have HBZ := Lib.hid hBZ; have HZS := Lib.hid hzs
  have HZ := Lib.hid hZ; have HGT := Lib.hid hg
  clear hp hBZ hzs hT hZ hbm hg
  go_enter Try.func13, Try.ntmps13
  go_wp2_with fail
  rw [HZ.out]
  obtain ⟨n0, hn0⟩ : ∃ n0, w.heap.size = n0 := ⟨_, rfl⟩
  have HN0 := Lib.hid hn0
  rw [hn0] at HP HZS htl hrl ⊢
  clear hn0
  go_at_call 38
  (with_reducible refine (HCK.out _).mono ?_)
  rintro e w1 ⟨rfl, hb1⟩
  have hzs := HZS.out
  have hz1 := hb1.size
  have HT1 := Lib.hid (HTZ.out.on hb1)
  obtain ⟨root, m0, hnd⟩ := HT1.out.row
  have m2 := (hb1.block n0 (by omega)).trans HP.out
  have c0 : w1.cell? ⟨t, 0, none⟩ = some (.map (some r)) := row_cell m0 0
  have p0 : w1.cell? ⟨n0, 0, none⟩ = some (.int .u32 b) := row_cell m2 0
  have p1 : w1.cell? ⟨n0, 1, none⟩ = some (.int .i64 m) := row_cell m2 1
  have hlk := look_all Try.underlying67 HT1.out.map (b, m) (.pointer none) (fun _ => by kernel_rfl)
  have hrun : ∀ k : Nat, (Instr.lookup 67 (.map (some r)) (.agg #[.int .u32 b, .int .i64 m]) true).run Try.prog (w1.drewN k) = .ok (.tuple #[.pointer none, .bool false]) (w1.drewN k) := fun k => by
    rcases hlk with ⟨_, h⟩ | ⟨v, y, h, _⟩
    · exact h _ rfl
    · rw [HGT.out] at h; cases h
  have HB1 := Lib.hid hb1
  clear m0 m2 hb1 hnd hlk
  go_wp2_with fail
  go_quiet (fail)
  go_wp2_with fail
  go_ret
  exact ⟨rfl, by first | exact Below.step (Below.step HBZ.out HB1.out) (Below.draws (Below.refl _ _) _) | (rw [← HN0.out]; exact Below.step (Below.step HBZ.out HB1.out) (Below.draws (Below.refl _ _) _))⟩
theorem copy_after {w X Y : World} {t r : Nat} {L : List Kv} {T : Tr Int} {root : Option Addr} {es : Array MapEntry} {clock : Nat} (hT : TabAt_i w t r L T) (hrow : w.heap[t]? = some (.cells #[.map (some r), .pointer root] 70 (0, 0))) (hmap : w.heap[r]? = some (.map es clock))
    (hX : Below w.heap.size w X) (hY : (X.alloc (.map es clock)).heap.size = Y.heap.size) (hXY : ∀ y, y < Y.heap.size → Y.heap[y]? = (X.alloc (.map es clock)).heap[y]?) (ho : Y.os = X.os ∧ Y.tape = X.tape ∧ Y.output = X.output) :
    TabAt_i (Y.alloc (.cells #[.map (some X.heap.size), .pointer root] 70)) Y.heap.size X.heap.size L T ∧ Below w.heap.size w (Y.alloc (.cells #[.map (some X.heap.size), .pointer root] 70)) ∧ w.heap.size ≤ Y.heap.size ∧ w.heap.size ≤ X.heap.size := by
  have hz : Y.heap.size = X.heap.size + 1 := by rw [← hY]; simp
  have hxs := hX.size
  have hXa : Below X.heap.size X (X.alloc (.map es clock)) := (Below.refl _ _).alloc (Nat.le_refl _) _
  have hB : Below w.heap.size w Y := ⟨ho.1.trans hX.os, ho.2.1.trans hX.tape, ho.2.2.trans hX.output, by omega, fun y hy => (hXY y (by omega)).trans ((hXa.block y (by omega)).trans (hX.block y hy))⟩
  have hB2 : Below w.heap.size w (Y.alloc (.cells #[.map (some X.heap.size), .pointer root] 70)) := hB.alloc (by omega) _
  have hYa : Below Y.heap.size Y (Y.alloc (.cells #[.map (some X.heap.size), .pointer root] 70)) := (Below.refl _ _).alloc (Nat.le_refl _) _
  obtain ⟨root', hrow', hnd⟩ := hT.row
  rw [hrow] at hrow'
  simp only [Option.some.injEq, Obj.cells.injEq, Array.mk.injEq, List.cons.injEq, Value.pointer.injEq, and_true, true_and] at hrow'
  subst hrow'
  obtain ⟨⟨es', c', h1, h2⟩⟩ := hT.map
  rw [hmap] at h1
  simp only [Option.some.injEq, Obj.map.injEq] at h1
  obtain ⟨rfl, rfl⟩ := h1
  refine ⟨⟨by omega, ⟨root, heap_alloc_new Y _, TrAt.keep (fun y hy _ => ⟨⟨by omega, by omega⟩, hB2.block y hy⟩) hnd⟩, ?_, hT.ok⟩, hB2, by omega, by omega⟩
  have hm : MapAt (Rv_i Y.heap.size X.heap.size (Y.alloc (.cells #[.map (some X.heap.size), .pointer root] 70))) w r L := MapAt.keep hT.map rfl fun y v ⟨q, e, hv⟩ => ⟨q, e, hv.keep fun x hx _ => ⟨⟨by omega, by omega⟩, hB2.block x hx⟩⟩
  obtain ⟨⟨es', c', h1, h3⟩⟩ := hm
  rw [hmap] at h1
  simp only [Option.some.injEq, Obj.map.injEq] at h1
  obtain ⟨rfl, rfl⟩ := h1
  exact ⟨⟨es, clock, (hYa.block _ (by omega)).trans ((hXY _ (by omega)).trans (heap_alloc_new X _)), h3⟩⟩
set_option maxRecDepth 100000 in
set_option maxHeartbeats 4000000 in
theorem copy_is (t r : Nat) (L : List Kv) (T : Tr Int) (w : World) (hT : TabAt_i w t r L T) :
    Calls Try.prog 15 #[.pointer (some ⟨t, 0, none⟩)] w fun e w' => ∃ t2 r2, e = .returned (.pointer (some ⟨t2, 0, none⟩)) ∧ TabAt_i w' t2 r2 L T ∧ Below w.heap.size w w' ∧ w.heap.size ≤ t2 ∧ w.heap.size ≤ r2 := by
  obtain ⟨root, hrow, _⟩ := hT.row
  obtain ⟨⟨es, clock, hmap, _⟩⟩ := hT.map
  have c0 : w.cell? ⟨t, 0, none⟩ = some (.map (some r)) := row_cell hrow 0
  have c1 : w.cell? ⟨t, 1, none⟩ = some (.pointer root) := row_cell hrow 1
  have HT := Lib.hid hT; have HROW := Lib.hid hrow; have HMAP := Lib.hid hmap
  have htl := blk_lt hrow
  have HCL : Hid (∀ X, Below w.heap.size w X → Calls Try.prog 41 #[.map (some r)] X fun e w' => e = .returned (.map (some X.heap.size)) ∧ w' = X.alloc (.map es clock)) := Lib.hid fun X hX => AnyW.maps_Clone Try.cloneL r es clock X ((hX.block r (blk_lt hmap)).trans hmap)
  clear hT hrow hmap
  go_enter Try.func15, Try.ntmps15
  go_wp2_with fail
  go_cut [2] (fun s2 wx => ∃ t2 r2, s2 = .pointer (some ⟨t2, 0, none⟩) ∧ TabAt_i wx t2 r2 L T ∧ Below w.heap.size w wx ∧ w.heap.size ≤ t2 ∧ w.heap.size ≤ r2)
  case first =>
    go_region_with (go_at_call 41; ((with_reducible refine (HCL.out _ (by first | exact Below.refl _ _ | exact (Below.refl _ _).drew | exact ((Below.refl _ _).drew).drew)).mono ?_); rintro e w5 ⟨rfl, hw5⟩; have HW5 := Lib.hid hw5; (have hb5 : Below w.heap.size w w5 := by (rw [hw5]; first | exact (Below.refl _ _).alloc (Nat.le_refl _) _ | exact ((Below.refl _ _).drew).alloc (Nat.le_refl _) _ | exact (((Below.refl _ _).drew).drew).alloc (Nat.le_refl _) _)); have c0 : w5.cell? ⟨t, 0, none⟩ = some (.map (some r)) := row_cell ((hb5.block t htl).trans HROW.out) 0; have c1 : w5.cell? ⟨t, 1, none⟩ = some (.pointer root) := row_cell ((hb5.block t htl).trans HROW.out) 1; clear hw5 hb5))
    all_goals
      go_wp2_with fail
      go_meet
      have h := copy_after (X := w.drew) (Y := w5) HT.out HROW.out HMAP.out ((Below.refl _ _).drew) (by rw [HW5.out]) (fun y _ => by rw [HW5.out]) ⟨by rw [HW5.out]; rfl, by rw [HW5.out]; rfl, by rw [HW5.out]; rfl⟩
      exact ⟨_, _, rfl, h.1, h.2.1, h.2.2.1, h.2.2.2⟩
  case rest =>
    obtain ⟨t2, r2, rfl, h1, h2, h3, h4⟩ := hcut
    have HH := Lib.hid (And.intro h1 (And.intro h2 (And.intro h3 h4)))
    clear h1 h2 h3 h4
    go_wp2_with fail
    go_ret
    exact ⟨t2, r2, rfl, HH.out.1, HH.out.2.1, HH.out.2.2.1, HH.out.2.2.2⟩
end Go.Proofs.Ytodfimnmbfdicaa
