/- What visits of a tree's nodes hand to a round, along what leads to an address. Under the conditions that they name. -/
import Derived.Test.YtodfimnmbfdicaaTpEi
import Derived.Test.YtodfimnmbfdicaaTrS
import Derived.Deep.RegionHeld3
import Derived.RangeFuncFrom
import Derived.RangeFuncWrites
import Derived.RangeFuncNested
import Derived.RangeFuncBound
import Derived.RangeFuncCalls
import Derived.RangeFuncLeaves
import Derived.Shelf.Abstract
import Derived.Shelf.RegionOpen
import Derived.WalkKit
import Derived.OwnWalkIn
import Derived.TacticsInMore
import Derived.LoopNIn
import Derived.LoopIn
namespace Go.Proofs.Ytodfimnmbfdicaa
open Go.RowKit Go.Shelf
attribute [local go_sem] Oper.semAt_some
/-- A prefix and its value. -/
abbrev Kv := (Int × Int) × Int
abbrev encKv (x : Kv) : Array Value := #[.agg #[.int .u32 x.1.1, .int .i64 x.1.2], .int .i64 x.2]
/-- It writes what can be a prefix as it is. -/
def EncOk (enc : Kv → Array Value) : Prop := ∀ y : Kv, 0 ≤ y.1.1 → y.1.1 < 4294967296 → enc y = encKv y
/-- What a round leaves alone: all blocks below n0 but those of S. -/
structure Kpx (n0 : Nat) (S : Nat → Prop) (A B : World) : Prop where
  os : B.os = A.os
  tape : B.tape = A.tape
  output : B.output = A.output
  size : A.heap.size ≤ B.heap.size
  block : ∀ x, x < n0 → ¬ S x → B.heap[x]? = A.heap[x]?
theorem Kpx.refl (n0 : Nat) (S : Nat → Prop) (A : World) : Kpx n0 S A A := ⟨rfl, rfl, rfl, Nat.le_refl _, fun _ _ _ => rfl⟩
theorem Kpx.trans {n0 : Nat} {S : Nat → Prop} {A B C : World} (h : Kpx n0 S A B) (k : Kpx n0 S B C) : Kpx n0 S A C := ⟨k.os.trans h.os, k.tape.trans h.tape, k.output.trans h.output, Nat.le_trans h.size k.size, fun x h1 h2 => (k.block x h1 h2).trans (h.block x h1 h2)⟩
theorem Kpx.of {n0 : Nat} {S : Nat → Prop} {A B : World} (h : Below A.heap.size A B) (hn : n0 ≤ A.heap.size) : Kpx n0 S A B := ⟨h.os, h.tape, h.output, h.size, fun x hx _ => h.block x (by omega)⟩
abbrev In_n (n0 : Nat) (S : Nat → Prop) (x : Nat) : Prop := x < n0 ∧ ¬ S x
theorem Nd_i.kp {n0 : Nat} {S : Nat → Prop} {A B : World} {root : Option Addr} {t : Tr Int} (h : Nd_i (In_n n0 S) A root t) (k : Kpx n0 S A B) : Nd_i (In_n n0 S) B root t := TrAt.keep (fun x _ hp => ⟨hp, k.block x hp.1 hp.2⟩) h
/-- What is gone over: in order, along the paths that lead on. -/
def rowsT (p : Int → Int → Bool) : Tr Int → List Kv
  | .nil => []
  | .node a n u l r => if p a n then (match u with | some v => [((a, n), v)] | none => []) ++ (rowsT p l ++ rowsT p r) else []
theorem visit_nil_i (ld y : Value) (w : World) : Calls Try.prog 51 #[.pointer none, ld, y] w fun e w' => e = .returned (.bool true) ∧ w = w' := by
  go_enter Try.func51, Try.ntmps51
  go_wp2
  go_ret
  exact ⟨rfl, rfl⟩
theorem leads_is (x a n : Int) (b : Nat) (w : World) (hb : w.heap[b]? = some (.cells #[.int .u32 x] 32 (0, 0))) (ha : 0 ≤ a) (ha2 : a < 4294967296) : Calls Try.prog 36 #[.agg #[.int .u32 a, .int .i64 n], .pointer (some ⟨b, 0, none⟩)] w fun e w' => e = .returned (.bool (inB x a n)) ∧ Below w.heap.size w w' := by
  have hbl : b < w.heap.size := blk_lt hb
  have HI := Lib.hid (fun w => in_is x a n w ha ha2)
  obtain ⟨Z, hZ⟩ : ∃ Z, w.alloc (.cells #[.int .u32 a, .int .i64 n] 34) = Z := ⟨_, rfl⟩
  have hzs : Z.heap.size = w.heap.size + 1 := by rw [← hZ]; simp
  have hBZ : Below w.heap.size w Z := by rw [← hZ]; exact (Below.refl _ _).alloc (Nat.le_refl _) _
  have hp : Z.heap[w.heap.size]? = some (.cells #[.int .u32 a, .int .i64 n] 34 (0, 0)) := by rw [← hZ]; exact heap_alloc_new w _
  have hc : Z.cell? ⟨b, 0, none⟩ = some (.int .u32 x) := row_cell ((hBZ.block b hbl).trans hb) 0
  have p0 : Z.cell? ⟨w.heap.size, 0, none⟩ = some (.int .u32 a) := row_cell hp 0
  have p1 : Z.cell? ⟨w.heap.size, 1, none⟩ = some (.int .i64 n) := row_cell hp 1
  have HBZ := Lib.hid hBZ
  clear hb hBZ hp hzs
  go_enter Try.func36, Try.ntmps36
  go_wp2_with fail
  go_at_call 37
  (with_reducible refine (HI.out _).mono ?_)
  rintro e w1 ⟨rfl, hb1⟩
  go_wp2_with fail
  go_ret
  exact ⟨rfl, Below.step HBZ.out hb1⟩
def VisitO (t : Tr Int) : Prop := ∀ (enc : Kv → Array Value), EncOk enc → ∀ (x : Int) (bx n0 : Nat) (S : Nat → Prop) (J Jx : List Kv → World → Prop) (l N : Nat) (root : Option Addr) (pre : List Kv) (W : World),
  t.Ok → Nd_i (In_n n0 S) W root t → n0 ≤ W.heap.size → In_n n0 S bx → W.heap[bx]? = some (.cells #[.int .u32 x] 32 (0, 0)) →
  (∀ q W1 W2, J q W1 → Below W1.heap.size W1 W2 → J q W2) →
  (∀ q y W1, J q W1 → q.length < N → YieldAt Fence.wide 2 Try.prog l (enc y) W1 fun e W' => (e = .returned (.bool true) ∧ J (q ++ [y]) W' ∧ Kpx n0 S W1 W') ∨ (e = .returned (.bool false) ∧ Jx (q ++ [y]) W')) →
  J pre W → pre.length + (rowsT (inB x) t).length ≤ N →
  Calls Try.prog 51 #[.pointer root, .func (.func 36) #[] #[.pointer (some ⟨bx, 0, none⟩)], .func (.yield l) #[] #[]] W fun e W' => (e = .returned (.bool true) ∧ J (pre ++ rowsT (inB x) t) W' ∧ Kpx n0 S W W') ∨ (e = .returned (.bool false) ∧ ∃ q, q <+: rowsT (inB x) t ∧ Jx (pre ++ q) W')
theorem visitO_nil : VisitO .nil := by
  intro enc hEN x bx n0 S J Jx l N root pre W _ hn _ _ _ _ _ hj _
  obtain rfl : root = none := hn
  refine (visit_nil_i _ _ W).mono ?_
  rintro e w' ⟨rfl, rfl⟩
  exact .inl ⟨rfl, by simpa [rowsT] using hj, Kpx.refl _ _ _⟩
set_option maxRecDepth 100000 in
set_option maxHeartbeats 4000000 in
theorem visitO_node (a n : Int) (u : Option Int) (lt rt : Tr Int) (CL : VisitO lt) (CR : VisitO rt) : VisitO (.node a n u lt rt) := by
  intro enc hEN x bx n0 S J Jx l N root pre W hok hnd hn0 hbx hrow hJ hY hj hN
  have HND := Lib.hid hnd
  obtain ⟨g, pv, pl, pr, rfl, hPg, hg, hu, hl, hr⟩ := hnd
  have HL := Lib.hid hl; have HR := Lib.hid hr; have HU := Lib.hid hu; have HG := Lib.hid hg; have HOK := Lib.hid hok; have HROW := Lib.hid hrow; have HBX := Lib.hid hbx; have HPG := Lib.hid hPg
  have HEN := Lib.hid hEN; have HJ := Lib.hid hJ; have HY := Lib.hid hY; have Hj := Lib.hid hj
  have a0 : W.cell? ⟨g, 0, none⟩ = some (.int .u32 a) := row_cell hg 0
  have a1 : W.cell? ⟨g, 1, none⟩ = some (.int .i64 n) := row_cell hg 1
  obtain ⟨b, hb⟩ : ∃ b, inB x a n = b := ⟨_, rfl⟩
  have HLD : Hid (Calls Try.prog 36 #[.agg #[.int .u32 a, .int .i64 n], .pointer (some ⟨bx, 0, none⟩)] W fun e w' => e = .returned (.bool b) ∧ Below W.heap.size W w') := Lib.hid (hb ▸ leads_is x a n bx W hrow hok.1.1 hok.1.2.1)
  -- what both halves do, wherever one is when they are gone over
  have HCL : Hid (∀ X q, Kpx n0 S W X → J q X → q.length + (rowsT (inB x) lt).length ≤ N → Calls Try.prog 51 #[.pointer pl, .func (.func 36) #[] #[.pointer (some ⟨bx, 0, none⟩)], .func (.yield l) #[] #[]] X fun e W' => (e = .returned (.bool true) ∧ J (q ++ rowsT (inB x) lt) W' ∧ Kpx n0 S X W') ∨ (e = .returned (.bool false) ∧ ∃ q', q' <+: rowsT (inB x) lt ∧ Jx (q ++ q') W')) :=
    Lib.hid fun X q hk hq hN => CL enc hEN x bx n0 S J Jx l N pl q X hok.2.2.2.1 (Nd_i.kp hl hk) (by have := hk.size; omega) hbx ((hk.block bx hbx.1 hbx.2).trans hrow) hJ hY hq hN
  have HCR : Hid (∀ X q, Kpx n0 S W X → J q X → q.length + (rowsT (inB x) rt).length ≤ N → Calls Try.prog 51 #[.pointer pr, .func (.func 36) #[] #[.pointer (some ⟨bx, 0, none⟩)], .func (.yield l) #[] #[]] X fun e W' => (e = .returned (.bool true) ∧ J (q ++ rowsT (inB x) rt) W' ∧ Kpx n0 S X W') ∨ (e = .returned (.bool false) ∧ ∃ q', q' <+: rowsT (inB x) rt ∧ Jx (q ++ q') W')) :=
    Lib.hid fun X q hk hq hN => CR enc hEN x bx n0 S J Jx l N pr q X hok.2.2.2.2 (Nd_i.kp hr hk) (by have := hk.size; omega) hbx ((hk.block bx hbx.1 hbx.2).trans hrow) hJ hY hq hN
  clear hl hr hu hg hok hrow hbx hPg hJ hY hj hEN
  cases b with
  | false =>
    have HRW : Hid (rowsT (inB x) (.node a n u lt rt) = []) := Lib.hid (by simp [rowsT, hb])
    clear hb hN
    go_enter Try.func51, Try.ntmps51
    go_wp2_with fail
    go_at_call 36
    refine HLD.out.mono ?_
    rintro e w1 ⟨rfl, hb1⟩
    have HB1 := Lib.hid hb1
    clear hb1
    go_wp2_with fail
    go_ret
    rw [HRW.out, List.append_nil]
    exact .inl ⟨rfl, HJ.out _ _ _ Hj.out HB1.out, Kpx.of HB1.out hn0⟩
  | true =>
    cases u with
    | none =>
      have HRW : Hid (rowsT (inB x) (.node a n none lt rt) = rowsT (inB x) lt ++ rowsT (inB x) rt) := Lib.hid (by simp [rowsT, hb])
      rw [HRW.out, List.length_append] at hN
      obtain rfl : pv = none := HU.out
      clear hb
      go_enter Try.func51, Try.ntmps51
      go_wp2_with fail
      go_at_call 36
      refine HLD.out.mono ?_
      rintro e w1 ⟨rfl, hb1⟩
      have HB1 := Lib.hid hb1
      have HK1 := Lib.hid (Kpx.of (S := S) hb1 hn0)
      have rg : w1.heap[g]? = some (.cells #[.int .u32 a, .int .i64 n, .pointer none, .pointer pl, .pointer pr] 102 (0, 0)) := (HK1.out.block g HPG.out.1 HPG.out.2).trans HG.out
      have c2 : w1.cell? ⟨g, 2, none⟩ = some (.pointer none) := row_cell rg 2
      have c3 : w1.cell? ⟨g, 3, none⟩ = some (.pointer pl) := row_cell rg 3
      clear hb1 rg
      go_wp2_with fail
      go_quiet (fail)
      have HK2 : Hid (Kpx n0 S W (w1.drewN nq)) := Lib.hid (HK1.out.trans ⟨rfl, rfl, rfl, Nat.le_refl _, fun _ _ _ => rfl⟩)
      have Hj2 : Hid (J pre (w1.drewN nq)) := Lib.hid (HJ.out _ _ _ Hj.out (Below.draws HB1.out nq))
      have c3 : (w1.drewN nq).cell? ⟨g, 3, none⟩ = some (.pointer pl) := c3
      generalize w1.drewN nq = w2 at HK2 Hj2 c3 ⊢
      go_wp2_with fail
      go_at_call 51
      refine (HCL.out w2 pre HK2.out Hj2.out (by omega)).mono ?_
      rintro e w3 (⟨rfl, hj3, hk3⟩ | ⟨rfl, hjx⟩)
      · have HK3 := Lib.hid (HK2.out.trans hk3); have Hj3 := Lib.hid hj3
        have rg : w3.heap[g]? = some (.cells #[.int .u32 a, .int .i64 n, .pointer none, .pointer pl, .pointer pr] 102 (0, 0)) := (HK3.out.block g HPG.out.1 HPG.out.2).trans HG.out
        have c4 : w3.cell? ⟨g, 4, none⟩ = some (.pointer pr) := row_cell rg 4
        clear rg hj3 hk3
        go_wp2_with fail
        go_at_call 51
        refine (HCR.out w3 _ HK3.out Hj3.out (by rw [List.length_append]; omega)).mono ?_
        rintro e w4 (⟨rfl, hj4, hk4⟩ | ⟨rfl, hjx⟩)
        · have HK4 := Lib.hid (HK3.out.trans hk4); have Hj4 := Lib.hid hj4
          clear hj4 hk4
          go_wp2_with fail
          go_ret
          rw [HRW.out, ← List.append_assoc]
          exact .inl ⟨rfl, Hj4.out, HK4.out⟩
        · have HX := Lib.hid hjx
          clear hjx
          go_wp2_with fail
          go_ret
          obtain ⟨q', h1, h2⟩ := HX.out
          exact .inr ⟨rfl, _, by rw [HRW.out]; exact (List.prefix_append_right_inj _).2 h1, by rw [← List.append_assoc]; exact h2⟩
      · have HX := Lib.hid hjx
        clear hjx
        go_wp2_with fail
        go_ret
        obtain ⟨q', h1, h2⟩ := HX.out
        exact .inr ⟨rfl, q', by rw [HRW.out]; exact h1.trans (List.prefix_append _ _), h2⟩
    | some v =>
      have HRW : Hid (rowsT (inB x) (.node a n (some v) lt rt) = [((a, n), v)] ++ (rowsT (inB x) lt ++ rowsT (inB x) rt)) := Lib.hid (by simp [rowsT, hb])
      rw [HRW.out, List.length_append, List.length_append] at hN
      simp only [List.length_singleton] at hN
      obtain ⟨gv, rfl, hPv, hv⟩ := HU.out
      have HV := Lib.hid hv; have HPV := Lib.hid hPv
      clear hb hv hPv
      have hgl : g < W.heap.size := blk_lt HG.out
      have hvl : gv < W.heap.size := blk_lt HV.out
      refine (callsIn_wide (n := 3)).1 ?_
      refine callsIn_of_wp Try.func51 rfl trivial ?_ rfl
      simp only [Try.ntmps51, List.size_toArray, List.length_cons, List.length_nil, Nat.reduceAdd, Nat.reduceSub, Array.replicate_succ, Array.replicate_zero, List.push_toArray, List.append_toArray, List.nil_append, List.cons_append]
      gi_wp2
      refine ⟨trivial, ?_⟩
      refine (callsIn_wide.2 HLD.out).mono ?_
      rintro e w1 ⟨rfl, hb1⟩
      have rg := (hb1.block g hgl).trans HG.out
      have rv := (hb1.block gv hvl).trans HV.out
      have d0 : w1.cell? ⟨g, 0, none⟩ = some (.int .u32 a) := row_cell rg 0
      have d1 : w1.cell? ⟨g, 1, none⟩ = some (.int .i64 n) := row_cell rg 1
      have d2 : w1.cell? ⟨g, 2, none⟩ = some (.pointer (some ⟨gv, 0, none⟩)) := row_cell rg 2
      have e0 : w1.cell? ⟨gv, 0, none⟩ = some (.int .i64 v) := row_cell rv 0
      have HB1 := Lib.hid hb1
      clear hb1 a0 a1 rg rv
      gi_wp2
      refine wpIn_region_still_tail 17 (by kernel_rfl) (by kernel_rfl) ?_
      simp only [List.take_succ_cons, List.take_zero, List.drop_succ_cons, List.drop_zero]
      repeat still_step
      try refine wpStill_nil ?_
      have hbd : Below W.heap.size W w1.drew := HB1.out.drew
      generalize w1.drew = w2 at hbd ⊢
      have HBD := Lib.hid hbd
      obtain ⟨fn, tmps, assign, body, hy, hR⟩ := HY.out pre ((a, n), v) w2 (HJ.out _ _ _ Hj.out hbd) (by omega)
      have HRR := Lib.hid hR
      clear hbd d0 d1 d2 e0 hR
      rw [HEN.out ((a, n), v) HOK.out.1.1 HOK.out.1.2.1] at hy
      dsimp only [encKv] at hy
      gi_wp2
      refine HRR.out.mono ?_
      rintro e W' (⟨rfl, hJ1, hk⟩ | ⟨rfl, hJx⟩)
      · have HK3 := Lib.hid ((Kpx.of HBD.out hn0).trans hk)
        have q := (HK3.out.block g HPG.out.1 HPG.out.2).trans HG.out
        have q3 : W'.cell? ⟨g, 3, none⟩ = some (.pointer pl) := row_cell q 3
        have HJ1 := Lib.hid hJ1
        clear hJ1 hk q
        gi_wp2_with (first
          | ((try refine ⟨trivial, ?_⟩); gi_at_call 51; (with_reducible refine (callsIn_wide.2 (HCL.out W' _ HK3.out HJ1.out (by simp; omega))).mono ?_); rintro e w4 (⟨rfl, hj4, hk4⟩ | ⟨rfl, hjx⟩) <;> (try (have HK4 := Lib.hid (HK3.out.trans hk4); have HJ4 := Lib.hid hj4; have qq := (HK4.out.block g HPG.out.1 HPG.out.2).trans HG.out; have q4 : w4.cell? ⟨g, 4, none⟩ = some (.pointer pr) := row_cell qq 4; clear hj4 hk4 qq)) <;> (try (have HXL := Lib.hid hjx; clear hjx)))
          | ((try refine ⟨trivial, ?_⟩); gi_at_call 51; (with_reducible refine (callsIn_wide.2 (HCR.out w4 _ HK4.out HJ4.out (by rw [List.length_append, List.length_append]; simp; omega))).mono ?_); rintro e w5 (⟨rfl, hj5, hk5⟩ | ⟨rfl, hjx⟩) <;> (try (have HK5 := Lib.hid (HK4.out.trans hk5); have HJ5 := Lib.hid hj5; clear hj5 hk5)) <;> (try (have HXL := Lib.hid hjx; clear hjx))))
        all_goals first
          | go_ret
          | (refine ⟨trivial, ?_⟩; gi_wp2; go_ret)
        all_goals first
          | (obtain ⟨q', h1, h2⟩ := HXL.out; exact .inr ⟨rfl, [((a, n), v)] ++ (rowsT (inB x) lt ++ q'), by rw [HRW.out]; exact (List.prefix_append_right_inj _).2 ((List.prefix_append_right_inj _).2 h1), by simpa [List.append_assoc] using h2⟩)
          | (obtain ⟨q', h1, h2⟩ := HXL.out; exact .inr ⟨rfl, [((a, n), v)] ++ q', by rw [HRW.out]; exact (List.prefix_append_right_inj _).2 (h1.trans (List.prefix_append _ _)), by simpa [List.append_assoc] using h2⟩)
          | exact .inl ⟨rfl, by rw [HRW.out, ← List.append_assoc, ← List.append_assoc]; exact HJ5.out, HK5.out⟩
      · have HX := Lib.hid hJx
        clear hJx
        gi_wp2
        go_ret
        exact .inr ⟨rfl, [((a, n), v)], by rw [HRW.out]; exact List.prefix_append _ _, HX.out⟩
theorem visitO_is : ∀ t : Tr Int, VisitO t
  | .nil => visitO_nil
  | .node a n u l r => visitO_node a n u l r (visitO_is l) (visitO_is r)
end Go.Proofs.Ytodfimnmbfdicaa
