/- What visits of a tree's nodes hand to a round, along all paths. Under the conditions that they name. -/
import Derived.Test.YtodfimnmbfdicaaTpJ
namespace Go.Proofs.Ytodfimnmbfdicaa
open Go.RowKit Go.Shelf
attribute [local go_sem] Oper.semAt_some
theorem any_is (v : Value) (w : World) (hv : ∃ a n, v = .agg #[.int .u32 a, .int .i64 n]) : Calls Try.prog 35 #[v] w fun e w' => e = .returned (.bool true) ∧ Below w.heap.size w w' := by
  obtain ⟨a, n, rfl⟩ := hv
  have hb : Below w.heap.size w (w.alloc (.cells #[.int .u32 a, .int .i64 n] 34)) := (Below.refl _ _).alloc (Nat.le_refl _) _
  have HB := Lib.hid hb
  clear hb
  go_enter Try.func35, Try.ntmps35
  go_wp2_with fail
  go_ret
  exact ⟨rfl, HB.out⟩
/-- All paths lead on. -/
def allP : Int → Int → Bool := fun _ _ => true
def VisitA (t : Tr Int) : Prop := ∀ (enc : Kv → Array Value), EncOk enc → ∀ (n0 : Nat) (S : Nat → Prop) (J Jx : List Kv → World → Prop) (l N : Nat) (root : Option Addr) (pre : List Kv) (W : World),
  t.Ok → Nd_i (In_n n0 S) W root t → n0 ≤ W.heap.size →
  (∀ q W1 W2, J q W1 → Below W1.heap.size W1 W2 → J q W2) →
  (∀ q y W1, J q W1 → q.length < N → YieldAt Fence.wide 2 Try.prog l (enc y) W1 fun e W' => (e = .returned (.bool true) ∧ J (q ++ [y]) W' ∧ Kpx n0 S W1 W') ∨ (e = .returned (.bool false) ∧ Jx (q ++ [y]) W')) →
  J pre W → pre.length + (rowsT allP t).length ≤ N →
  Calls Try.prog 51 #[.pointer root, .func (.func 35) #[] #[], .func (.yield l) #[] #[]] W fun e W' => (e = .returned (.bool true) ∧ J (pre ++ rowsT allP t) W' ∧ Kpx n0 S W W') ∨ (e = .returned (.bool false) ∧ ∃ q, q <+: rowsT allP t ∧ Jx (pre ++ q) W')
theorem visitA_nil : VisitA .nil := by
  intro enc hEN n0 S J Jx l N root pre W _ hn _ _ _ hj _
  obtain rfl : root = none := hn
  refine (visit_nil_i _ _ W).mono ?_
  rintro e w' ⟨rfl, rfl⟩
  exact .inl ⟨rfl, by simpa [rowsT] using hj, Kpx.refl _ _ _⟩
set_option maxRecDepth 100000 in
set_option maxHeartbeats 4000000 in
theorem visitA_node (a n : Int) (u : Option Int) (lt rt : Tr Int) (CL : VisitA lt) (CR : VisitA rt) : VisitA (.node a n u lt rt) := by
  intro enc hEN n0 S J Jx l N root pre W hok hnd hn0 hJ hY hj hN
  have HND := Lib.hid hnd
  obtain ⟨g, pv, pl, pr, rfl, hPg, hg, hu, hl, hr⟩ := hnd
  have HL := Lib.hid hl; have HR := Lib.hid hr; have HU := Lib.hid hu; have HG := Lib.hid hg; have HOK := Lib.hid hok; have HPG := Lib.hid hPg
  have HEN := Lib.hid hEN; have HJ := Lib.hid hJ; have HY := Lib.hid hY; have Hj := Lib.hid hj
  have a0 : W.cell? ⟨g, 0, none⟩ = some (.int .u32 a) := row_cell hg 0
  have a1 : W.cell? ⟨g, 1, none⟩ = some (.int .i64 n) := row_cell hg 1
  have hb : allP a n = true := rfl
  have HLD : Hid (Calls Try.prog 35 #[.agg #[.int .u32 a, .int .i64 n]] W fun e w' => e = .returned (.bool true) ∧ Below W.heap.size W w') := Lib.hid (any_is _ W ⟨a, n, rfl⟩)
  -- what both halves do, wherever one is when they are gone over
  have HCL : Hid (∀ X q, Kpx n0 S W X → J q X → q.length + (rowsT allP lt).length ≤ N → Calls Try.prog 51 #[.pointer pl, .func (.func 35) #[] #[], .func (.yield l) #[] #[]] X fun e W' => (e = .returned (.bool true) ∧ J (q ++ rowsT allP lt) W' ∧ Kpx n0 S X W') ∨ (e = .returned (.bool false) ∧ ∃ q', q' <+: rowsT allP lt ∧ Jx (q ++ q') W')) :=
    Lib.hid fun X q hk hq hN => CL enc hEN n0 S J Jx l N pl q X hok.2.2.2.1 (Nd_i.kp hl hk) (by have := hk.size; omega) hJ hY hq hN
  have HCR : Hid (∀ X q, Kpx n0 S W X → J q X → q.length + (rowsT allP rt).length ≤ N → Calls Try.prog 51 #[.pointer pr, .func (.func 35) #[] #[], .func (.yield l) #[] #[]] X fun e W' => (e = .returned (.bool true) ∧ J (q ++ rowsT allP rt) W' ∧ Kpx n0 S X W') ∨ (e = .returned (.bool false) ∧ ∃ q', q' <+: rowsT allP rt ∧ Jx (q ++ q') W')) :=
    Lib.hid fun X q hk hq hN => CR enc hEN n0 S J Jx l N pr q X hok.2.2.2.2 (Nd_i.kp hr hk) (by have := hk.size; omega) hJ hY hq hN
  clear hl hr hu hg hok hPg hJ hY hj hEN
  · cases u with
    | none =>
      have HRW : Hid (rowsT allP (.node a n none lt rt) = rowsT allP lt ++ rowsT allP rt) := Lib.hid (by simp [rowsT, hb])
      rw [HRW.out, List.length_append] at hN
      obtain rfl : pv = none := HU.out
      clear hb
      go_enter Try.func51, Try.ntmps51
      go_wp2_with fail
      go_at_call 35
      refine HLD.out.mono ?_
      rintro e w1 ⟨rfl, hb1⟩
      have HB1 := Lib.hid hb1
      have HK1 := Lib.hid (Kpx.of (S := S) hb1 hn0)
      have rg : w1.heap[g]? = some (.cells #[.int .u32 a, .int .i64 n, .pointer none, .pointer pl, .pointer pr] 102 (0, 0)) := (HK1.out.block g HPG.out.1 HPG.out.2).trans HG.out
      have c2 : w1.cell? ⟨g, 2, none⟩ = some (.pointer none) := row_cell rg 2
      have c3 : w1.cell? ⟨g, 3, none⟩ = some (.pointer pl) := row_cell rg 3
      clear hb1 rg
      go_wp2_with fail
      go_quiet (fail)
      have HK2 : Hid (Kpx n0 S W (w1.drewN nq)) := Lib.hid (HK1.out.trans ⟨rfl, rfl, rfl, Nat.le_refl _, fun _ _ _ => rfl⟩)
      have Hj2 : Hid (J pre (w1.drewN nq)) := Lib.hid (HJ.out _ _ _ Hj.out (Below.draws HB1.out nq))
      have c3 : (w1.drewN nq).cell? ⟨g, 3, none⟩ = some (.pointer pl) := c3
      generalize w1.drewN nq = w2 at HK2 Hj2 c3 ⊢
      go_wp2_with fail
      go_at_call 51
      refine (HCL.out w2 pre HK2.out Hj2.out (by omega)).mono ?_
      rintro e w3 (⟨rfl, hj3, hk3⟩ | ⟨rfl, hjx⟩)
      · have HK3 := Lib.hid (HK2.out.trans hk3); have Hj3 := Lib.hid hj3
        have rg : w3.heap[g]? = some (.cells #[.int .u32 a, .int .i64 n, .pointer none, .pointer pl, .pointer pr] 102 (0, 0)) := (HK3.out.block g HPG.out.1 HPG.out.2).trans HG.out
        have c4 : w3.cell? ⟨g, 4, none⟩ = some (.pointer pr) := row_cell rg 4
        clear rg hj3 hk3
        go_wp2_with fail
        go_at_call 51
        refine (HCR.out w3 _ HK3.out Hj3.out (by rw [List.length_append]; omega)).mono ?_
        rintro e w4 (⟨rfl, hj4, hk4⟩ | ⟨rfl, hjx⟩)
        · have HK4 := Lib.hid (HK3.out.trans hk4); have Hj4 := Lib.hid hj4
          clear hj4 hk4
          go_wp2_with fail
          go_ret
          rw [HRW.out, ← List.append_assoc]
          exact .inl ⟨rfl, Hj4.out, HK4.out⟩
        · have HX := Lib.hid hjx
          clear hjx
          go_wp2_with fail
          go_ret
          obtain ⟨q', h1, h2⟩ := HX.out
          exact .inr ⟨rfl, _, by rw [HRW.out]; exact (List.prefix_append_right_inj _).2 h1, by rw [← List.append_assoc]; exact h2⟩
      · have HX := Lib.hid hjx
        clear hjx
        go_wp2_with fail
        go_ret
        obtain ⟨q', h1, h2⟩ := HX.out
        exact .inr ⟨rfl, q', by rw [HRW.out]; exact h1.trans (List.prefix_append _ _), h2⟩
    | some v =>
      have HRW : Hid (rowsT allP (.node a n (some v) lt rt) = [((a, n), v)] ++ (rowsT allP lt ++ rowsT allP rt)) := Lib.hid (by simp [rowsT, hb])
      rw [HRW.out, List.length_append, List.length_append] at hN
      simp only [List.length_singleton] at hN
      obtain ⟨gv, rfl, hPv, hv⟩ := HU.out
      have HV := Lib.hid hv; have HPV := Lib.hid hPv
      clear hb hv hPv
      have hgl : g < W.heap.size := blk_lt HG.out
      have hvl : gv < W.heap.size := blk_lt HV.out
      refine (callsIn_wide (n := 3)).1 ?_
      refine callsIn_of_wp Try.func51 rfl trivial ?_ rfl
      simp only [Try.ntmps51, List.size_toArray, List.length_cons, List.length_nil, Nat.reduceAdd, Nat.reduceSub, Array.replicate_succ, Array.replicate_zero, List.push_toArray, List.append_toArray, List.nil_append, List.cons_append]
      gi_wp2
      refine ⟨trivial, ?_⟩
      refine (callsIn_wide.2 HLD.out).mono ?_
      rintro e w1 ⟨rfl, hb1⟩
      have rg := (hb1.block g hgl).trans HG.out
      have rv := (hb1.block gv hvl).trans HV.out
      have d0 : w1.cell? ⟨g, 0, none⟩ = some (.int .u32 a) := row_cell rg 0
      have d1 : w1.cell? ⟨g, 1, none⟩ = some (.int .i64 n) := row_cell rg 1
      have d2 : w1.cell? ⟨g, 2, none⟩ = some (.pointer (some ⟨gv, 0, none⟩)) := row_cell rg 2
      have e0 : w1.cell? ⟨gv, 0, none⟩ = some (.int .i64 v) := row_cell rv 0
      have HB1 := Lib.hid hb1
      clear hb1 a0 a1 rg rv
      gi_wp2
      refine wpIn_region_still_tail 17 (by kernel_rfl) (by kernel_rfl) ?_
      simp only [List.take_succ_cons, List.take_zero, List.drop_succ_cons, List.drop_zero]
      repeat still_step
      try refine wpStill_nil ?_
      have hbd : Below W.heap.size W w1.drew := HB1.out.drew
      generalize w1.drew = w2 at hbd ⊢
      have HBD := Lib.hid hbd
      obtain ⟨fn, tmps, assign, body, hy, hR⟩ := HY.out pre ((a, n), v) w2 (HJ.out _ _ _ Hj.out hbd) (by omega)
      have HRR := Lib.hid hR
      clear hbd d0 d1 d2 e0 hR
      rw [HEN.out ((a, n), v) HOK.out.1.1 HOK.out.1.2.1] at hy
      dsimp only [encKv] at hy
      gi_wp2
      refine HRR.out.mono ?_
      rintro e W' (⟨rfl, hJ1, hk⟩ | ⟨rfl, hJx⟩)
      · have HK3 := Lib.hid ((Kpx.of HBD.out hn0).trans hk)
        have q := (HK3.out.block g HPG.out.1 HPG.out.2).trans HG.out
        have q3 : W'.cell? ⟨g, 3, none⟩ = some (.pointer pl) := row_cell q 3
        have HJ1 := Lib.hid hJ1
        clear hJ1 hk q
        gi_wp2_with (first
          | ((try refine ⟨trivial, ?_⟩); gi_at_call 51; (with_reducible refine (callsIn_wide.2 (HCL.out W' _ HK3.out HJ1.out (by simp; omega))).mono ?_); rintro e w4 (⟨rfl, hj4, hk4⟩ | ⟨rfl, hjx⟩) <;> (try (have HK4 := Lib.hid (HK3.out.trans hk4); have HJ4 := Lib.hid hj4; have qq := (HK4.out.block g HPG.out.1 HPG.out.2).trans HG.out; have q4 : w4.cell? ⟨g, 4, none⟩ = some (.pointer pr) := row_cell qq 4; clear hj4 hk4 qq)) <;> (try (have HXL := Lib.hid hjx; clear hjx)))
          | ((try refine ⟨trivial, ?_⟩); gi_at_call 51; (with_reducible refine (callsIn_wide.2 (HCR.out w4 _ HK4.out HJ4.out (by rw [List.length_append, List.length_append]; simp; omega))).mono ?_); rintro e w5 (⟨rfl, hj5, hk5⟩ | ⟨rfl, hjx⟩) <;> (try (have HK5 := Lib.hid (HK4.out.trans hk5); have HJ5 := Lib.hid hj5; clear hj5 hk5)) <;> (try (have HXL := Lib.hid hjx; clear hjx))))
        all_goals first
          | go_ret
          | (refine ⟨trivial, ?_⟩; gi_wp2; go_ret)
        all_goals first
          | (obtain ⟨q', h1, h2⟩ := HXL.out; exact .inr ⟨rfl, [((a, n), v)] ++ (rowsT allP lt ++ q'), by rw [HRW.out]; exact (List.prefix_append_right_inj _).2 ((List.prefix_append_right_inj _).2 h1), by simpa [List.append_assoc] using h2⟩)
          | (obtain ⟨q', h1, h2⟩ := HXL.out; exact .inr ⟨rfl, [((a, n), v)] ++ q', by rw [HRW.out]; exact (List.prefix_append_right_inj _).2 (h1.trans (List.prefix_append _ _)), by simpa [List.append_assoc] using h2⟩)
          | exact .inl ⟨rfl, by rw [HRW.out, ← List.append_assoc, ← List.append_assoc]; exact HJ5.out, HK5.out⟩
      · have HX := Lib.hid hJx
        clear hJx
        gi_wp2
        go_ret
        exact .inr ⟨rfl, [((a, n), v)], by rw [HRW.out]; exact List.prefix_append _ _, HX.out⟩
theorem visitA_is : ∀ t : Tr Int, VisitA t
  | .nil => visitA_nil
  | .node a n u l r => visitA_node a n u l r (visitA_is l) (visitA_is r)
end Go.Proofs.Ytodfimnmbfdicaa
