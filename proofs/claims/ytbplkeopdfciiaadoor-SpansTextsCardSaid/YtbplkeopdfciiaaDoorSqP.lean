/- Parse of package spans: the set of a text. Condition: the text is not longer than a hundred thousand bytes. -/
import Derived.Test.YtbplkeopdfciiaaDoorSqP0
import Derived.Test.YtbplkeopdfciiaaDoorSqD
namespace Go.Proofs.YtbplkeopdfciiaaDoor
open Go.RowKit Go.Shelf
attribute [local go_sem] Oper.semAt_some
attribute [local irreducible] wpStill
set_option maxRecDepth 100000 in
set_option maxHeartbeats 1000000 in
theorem parse_is (s : ByteArray) (w : World) (hs : s.size ≤ longP) : Calls Tryd.prog 7 #[.string s] w (ParsePost (readP s.data.toList) w) := by
  refine (callsIn_wide (n := 8)).1 ?_
  refine callsIn_of_wp_marks Tryd.func7 rfl trivial ?_ rfl
  simp only [Tryd.ntmps7, List.size_toArray, List.length_cons, List.length_nil, Nat.reduceAdd, Nat.reduceSub, Array.replicate_succ, Array.replicate_zero, List.push_toArray, List.append_toArray, List.nil_append, List.cons_append]
  refine wpIn_wide.2 ?_
  obtain ⟨B, hB⟩ : ∃ B, w.heap.size = B := ⟨_, rfl⟩
  by_cases h0 : s.data.toList = [45]
  · have hE : (s.toList == [45]) = true := by rw [Lib.toList_data, h0]; rfl
    have HR : Hid (readP s.data.toList = some []) := Lib.hid (by unfold readP; rw [if_pos h0])
    clear h0
    go_wp2_with fail
    obtain ⟨Z, hZ⟩ : ∃ Z, (w.alloc (.cells #[.slice none 0 0] 22)).alloc (.cells #[.int .i64 0] 25) = Z := ⟨_, rfl⟩
    have z1 : (w.alloc (.cells #[.slice none 0 0] 22)).heap.size = B + 1 := by rw [← hB]; simp
    have q0 : Z.heap[B]? = some (.cells #[.slice none 0 0] 22 (0, 0)) := by rw [← hZ, ← hB]; exact (heap_alloc _ (by simp)).trans (heap_new _ _)
    have q1 : Z.heap[B + 1]? = some (.cells #[.int .i64 0] 25 (0, 0)) := by rw [← hZ, ← z1]; exact heap_new _ _
    have c0 := (cell_of_row _ _ 0 _ _ (0, 0) q0).trans (rfl : _ = some (Value.slice none 0 0))
    have c1 := (cell_of_row _ _ 0 _ _ (0, 0) q1).trans (rfl : _ = some (Value.int .i64 0))
    have hbl : Below w.heap.size w Z := by rw [← hZ]; exact ((Below.refl _ _).alloc (Nat.le_refl _) _).alloc (by simp) _
    rw [hZ]
    clear hZ
    refine ⟨.tuple #[.slice none 0 0, .int .i64 0], ?_, _, _, rfl, by rw [HR.out]; rfl, ?_, fun _ => rfl, hbl⟩
    · simp [results, Tryd.f7, go_sem, c0, c1]
    · rw [HR.out]; exact ⟨fun _ h => (by cases h), World.ownsRow_nil _ _ _ _⟩
  · have hE : (s.toList == [45]) = false := by rw [Lib.toList_data]; simpa using h0
    have HR : Hid (readP s.data.toList = goP [] (parts s.data.toList)) := Lib.hid (by unfold readP; rw [if_neg h0])
    clear h0
    go_wp2_with fail
    obtain ⟨Z, hZ⟩ : ∃ Z, ((w.alloc (.cells #[.slice none 0 0] 22)).alloc (.cells #[.int .i64 0] 25)).alloc (.cells #[.slice none 0 0] 22) = Z := ⟨_, rfl⟩
    have z1 : (w.alloc (.cells #[.slice none 0 0] 22)).heap.size = B + 1 := by rw [← hB]; simp
    have z2 : ((w.alloc (.cells #[.slice none 0 0] 22)).alloc (.cells #[.int .i64 0] 25)).heap.size = B + 2 := by rw [← hB]; simp
    have hzz : Z.heap.size = B + 3 := by rw [← hZ, ← hB]; simp
    have q0 : Z.heap[B]? = some (.cells #[.slice none 0 0] 22 (0, 0)) := by rw [← hZ, ← hB]; exact (heap_alloc _ (by simp; omega)).trans ((heap_alloc _ (by simp)).trans (heap_new _ _))
    have q1 : Z.heap[B + 1]? = some (.cells #[.int .i64 0] 25 (0, 0)) := by rw [← hZ]; exact (heap_alloc _ (by rw [z2]; omega)).trans (by rw [← z1]; exact heap_new _ _)
    have q2 : Z.heap[B + 2]? = some (.cells #[.slice none 0 0] 22 (0, 0)) := by rw [← hZ, ← z2]; exact heap_new _ _
    have hbl : Below B w Z := by rw [← hZ, ← hB]; exact (((Below.refl _ _).alloc (Nat.le_refl _) _).alloc (by simp) _).alloc (by simp; omega) _
    have hbx : PBx B (.slice none 0 0) 0 (.slice none 0 0) Z := ⟨q0, q1, q2⟩
    rw [hZ]
    have HBX := Lib.hid hbx; have HBL := Lib.hid hbl
    clear hZ z1 z2 q0 q1 q2 hbx hbl
    go_at_call 16
    have hsp := split_is s Z
    rw [hzz] at hsp
    (with_reducible refine hsp.mono ?_)
    rintro e w1 ⟨rfl, q1, q2, q3, hz1, hb1⟩
    have hbx := HBX.out.same (fun g h1 h2 => hb1.block g (by omega))
    have hbl : Below B w w1 := HBL.out.trans (hb1.mono (by omega))
    have HBX1 := Lib.hid hbx; have HBL1 := Lib.hid hbl
    have HSEQ := Lib.hid (splits 7 (B + 3 + 1) (B + 3) (B + 3 + 2) s.data.toList w1 q2 (by rw [q1]) q3 (by rw [str_toList]; exact hs) (by omega) (by omega))
    have hz6 : w1.heap.size = B + 6 := hz1
    clear hsp hbx hbl q1 q2 q3 hb1 hz1 HBX HBL hzz
    go_wp2_with fail
    refine (wpIn_wide (n := 8)).1 ?_
    refine range_cell (n := 8) rfl (by omega) (gf := 38) (lb := #[.pointer (some ⟨B + 3 + 1, 0, none⟩), .pointer (some ⟨B + 3, 0, none⟩), .pointer (some ⟨B + 3 + 2, 0, none⟩)]) rfl trivial (enters_of Tryd.func38 (by kernel_rfl) rfl)
      HSEQ.out (by omega) kp3_t (kp3_b (by omega) (by omega) (by omega)) (Below.refl _ _) (fun x => rfl)
      (fun pre W => ∃ (v : Value) (M : List (Nat × Nat)), goP [] (pre.map tkP) = some M ∧ PBx B (.slice none 0 0) 0 v W ∧ Own (B + 6) W v M ∧ B + 6 ≤ W.heap.size ∧ Below B w W)
      (fun c pre W => c = .ret ∧ goP [] (pre.map tkP) = none ∧ (∃ v, PBx B (.slice none 0 0) 4 v W) ∧ Below B w W)
      ?own ?ownx ?bear ?bearx ⟨.slice none 0 0, [], rfl, HBX1.out, ⟨fun _ h => (by cases h), World.ownsRow_nil _ _ _ _⟩, by omega, HBL1.out⟩ ?a1 ?assign ?body ?done ?stop
    case own =>
      rintro q X Y row ⟨v, M, h1, h2, h3, h4, h5⟩ hg hr
      exact ⟨v, M, h1, h2.same (fun g hg1 hg2 => hg.block g hg2 (fun e => by have := (hr g e.symm).1; omega)), h3.same (fun g cs e hb hc => hg.block g (Array.getElem?_eq_some_iff.1 hc).1 (fun e' => by obtain ⟨_, o, ho, hno⟩ := hr g e'.symm; rw [hc] at ho; cases ho; cases hno)), by have := hg.size; omega, h5.grown hg (by omega) (fun k e => by have := (hr k e).1; omega)⟩
    case ownx =>
      rintro c q X Y row ⟨h1, h2, ⟨v, h3⟩, h5⟩ hg hr
      exact ⟨h1, h2, ⟨v, h3.same (fun g hg1 hg2 => hg.block g hg2 (fun e => by have := (hr g e.symm).1; omega))⟩, h5.grown hg (by have := (Array.getElem?_eq_some_iff.1 h3.b0).1; omega) (fun k e => by have := (hr k e).1; omega)⟩
    case bear =>
      rintro q X Y ⟨v, M, h1, h2, h3, h4, h5⟩ hg
      have ne : ∀ g, g ≠ B + 3 → g < X.heap.size → Y.heap[g]? = X.heap[g]? := fun g hn hl => hg.block g hl (fun e => hn (Option.some.inj e))
      exact ⟨v, M, h1, h2.same (fun g hg1 hg2 => ne g (by omega) hg2), h3.same (fun g cs e hb hc => ne g (by omega) (Array.getElem?_eq_some_iff.1 hc).1), by have := hg.size; omega, h5.grown hg (by omega) (fun k e => by have := Option.some.inj e; omega)⟩
    case bearx =>
      rintro c q X Y ⟨h1, h2, ⟨v, h3⟩, h5⟩ hg
      have ne : ∀ g, g ≠ B + 3 → g < X.heap.size → Y.heap[g]? = X.heap[g]? := fun g hn hl => hg.block g hl (fun e => hn (Option.some.inj e))
      exact ⟨h1, h2, ⟨v, h3.same (fun g hg1 hg2 => ne g (by omega) hg2)⟩, h5.grown hg (by have := (Array.getElem?_eq_some_iff.1 h3.b0).1; omega) (fun k e => by have := Option.some.inj e; omega)⟩
    case assign =>
      intro l x W K hK
      gi_wp2
      exact hK
    case body =>
      rintro l pre x W ⟨v, M, hgo, hbx, how, hsz, hbw⟩ hlen
      obtain ⟨p, c, rfl, hlc, hcm, hcell⟩ := how.rd.sl
      have hML := goP_length _ _ _ hgo
      rw [List.length_map] at hML
      simp only [List.length_nil, Nat.zero_add] at hML
      have hpl := len_parts s.data.toList
      rw [str_toList] at hpl
      unfold longP at hs
      have hM : M.length ≤ 100000 := by omega
      obtain ⟨S, hS⟩ : ∃ S : ByteArray, S = strP x := ⟨_, rfl⟩
      have hS2 : S.data.toList = tkP x := by rw [hS]; rfl
      have hSl : S.size ≤ 9223372036854775807 := by
        rw [hS]
        show (tkP x).length ≤ _
        have : (tkP x).length ≤ longP := List.length_take_le _ _
        unfold longP at this
        omega
      have hSP := sspan_is S W hSl
      rw [hS2] at hSP
      have HGS := Lib.hid (fun o => goP_snoc (p := o) hgo)
      have HSP := Lib.hid hSP; have HBX := Lib.hid hbx; have HOW := Lib.hid how; have HBW := Lib.hid hbw; have HCE := Lib.hid hcell
      clear hSP hbx how hbw hcell hgo hML hpl hlen hS2 hSl HSEQ HR hE
      rw [← hS]
      clear hS
      gi_wp2_with fail
      refine ⟨trivial, ((callsIn_wide.2 HSP.out).inRound l).mono ?_⟩
      rintro e w2 ⟨a, b, ha0, ha1, hb0, hb1, hab, rfl, hb2⟩
      obtain ⟨X, hX⟩ : ∃ X, w2.heap.size = X := ⟨_, rfl⟩
      obtain ⟨W3, hW3⟩ : ∃ W3, w2.alloc (.cells #[.int .u32 a, .int .u32 b] 33) = W3 := ⟨_, rfl⟩
      have hb3 : Below W.heap.size W W3 := by rw [← hW3]; exact hb2.alloc hb2.size _
      have hx3 : W3.heap[X]? = some (.cells #[.int .u32 a, .int .u32 b] 33 (0, 0)) := by rw [← hW3, ← hX]; exact heap_new _ _
      have hbx3 := HBX.out.same (fun g h1 h2 => hb3.block g h2)
      have how3 : Own (B + 6) W3 (.slice p M.length c) M := HOW.out.same (fun g cs e h1 h2 => hb3.block g (Array.getElem?_eq_some_iff.1 h2).1)
      have hrn3 : Rn B W W3 := Rn.below hb3 hsz
      have hXB : B + 6 ≤ X := by have := hb2.size; omega
      have hW3s : B + 6 ≤ W3.heap.size := by have := hb3.size; omega
      have hbw3 : Below B w W3 := HBW.out.trans hrn3.bl
      have c2 : W3.cell? ⟨B + 1 + 1, 0, none⟩ = some (.slice p M.length c) := (cell_of_row _ _ 0 _ _ (0, 0) hbx3.b2).trans (rfl : _ = some _)
      have x0 := (cell_of_row _ _ 0 _ _ (0, 0) hx3).trans (rfl : _ = some (Value.int .u32 a))
      have x1 := (cell_of_row _ _ 1 _ _ (0, 0) hx3).trans (rfl : _ = some (Value.int .u32 b))
      have HX3 := Lib.hid hx3; have HBX3 := Lib.hid hbx3; have HBE3 := Lib.hid hb3; have HBE3 := Lib.hid hb3; have HBE3 := Lib.hid hb3; have HBE3 := Lib.hid hb3; have HOW3 := Lib.hid how3; have HRN3 := Lib.hid hrn3; have HBW3 := Lib.hid hbw3; have HW3 := Lib.hid hW3; have HX := Lib.hid hX; have HAB := Lib.hid hab
      obtain ⟨W4, hW4⟩ : ∃ X, W3.drew = X := ⟨_, rfl⟩
      have HBX4 : Hid (PBx B (.slice none 0 0) 0 (.slice p M.length c) W4) := Lib.hid (by rw [← hW4]; exact hbx3.same (fun g h1 h2 => rfl))
      have HOW4 : Hid (Own (B + 6) W4 (.slice p M.length c) M) := Lib.hid (by rw [← hW4]; exact how3.same (fun g cs e h1 h2 => rfl))
      have HRN4 : Hid (Rn B W W4) := Lib.hid (by rw [← hW4]; exact hrn3.trans (Rn.drew _))
      have HBW4 : Hid (Below B w W4) := Lib.hid (by rw [← hW4]; exact hbw3.drew)
      have HX4 : Hid (W4.heap[X]? = some (.cells #[.int .u32 a, .int .u32 b] 33 (0, 0))) := Lib.hid (by rw [← hW4]; exact hx3)
      have hW4s : B + 6 ≤ W4.heap.size := by rw [← hW4]; exact hW3s
      have HBE4 : Hid (Below W.heap.size W W4) := Lib.hid (by rw [← hW4]; exact hb3.drew)
      have hw64 : IntKind.u64.wrap a = a := IntWalk.u64_in _ ⟨by omega, by omega⟩
      clear hx3 hbx3 how3 hrn3 hbw3 hb2 hb3 hab HBX HOW HBW HSP
      obtain ⟨o, ho⟩ : ∃ o, rdS (tkP x) = o := ⟨_, rfl⟩
      cases o with
      | none =>
        rw [show (rdS (tkP x)).isSome = false by rw [ho]; rfl]
        have HG : Hid (goP [] (pre.map tkP ++ [tkP x]) = none) := Lib.hid (by rw [HGS.out]; exact stepP_none ho)
        clear ho HCE
        gi_wp2_with fail
        refine wpInR_region_still_tail 16 (no_defers (by kernel_rfl)) (by kernel_rfl) (by kernel_rfl) ?_
        rw [hW4]
        simp only [List.take_succ_cons, List.take_zero, List.drop_succ_cons, List.drop_zero]
        iterate 3 still_step
        iterate 13 refine still_skip (by kernel_rfl) ?_
        refine wpStill_nil ?_
        have d0 := (cell_of_row _ _ 0 _ _ (0, 0) HBX4.out.b0).trans (rfl : _ = some (Value.slice none 0 0))
        have d1 := (cell_of_row _ _ 0 _ _ (0, 0) HBX4.out.b1).trans (rfl : _ = some (Value.int .i64 0))
        have f0 := frozen_of_row _ _ 0 _ _ HBX4.out.b0
        have f1 := frozen_of_row _ _ 0 _ _ HBX4.out.b1
        have HFIN : Hid (Rn B W ((W4.setCell ⟨B, 0, none⟩ (.slice none 0 0)).setCell ⟨B + 1, 0, none⟩ (.int .i64 4))) := Lib.hid (HRN4.out.trans ((Rn.set _ _ (Nat.le_refl _) (.inl (by omega))).trans (Rn.set _ _ (by omega) (.inl (by omega)))))
        have HPF := Lib.hid (HBX4.out.out (.slice none 0 0) 4)
        have HBF : Hid (Below B w ((W4.setCell ⟨B, 0, none⟩ (.slice none 0 0)).setCell ⟨B + 1, 0, none⟩ (.int .i64 4))) := Lib.hid (HBW4.out.trans ((Rn.set (B := B) _ _ (Nat.le_refl _) (.inl (by omega))).bl.trans (Rn.set (B := B) _ _ (by omega) (.inl (by omega))).bl))
        gi_wp2_with fail
        exact ⟨HFIN.out.ko, rfl, by rw [List.map_append]; exact HG.out, ⟨_, HPF.out⟩, HBF.out⟩
      | some t =>
        rw [show (rdS (tkP x)).isSome = true by rw [ho]; rfl]
        have HAT := Lib.hid (HAB.out t ho)
        obtain ⟨_, ht1, ht2⟩ := rdS_some ho
        have HTT : Hid (t.1 < top ∧ t.2 < top) := Lib.hid ⟨by omega, ht2⟩
        clear ht1 ht2
        rcases List.eq_nil_or_concat M with hnil | ⟨M0, u, hcon⟩
        · subst hnil
          have HG : Hid (goP [] (pre.map tkP ++ [tkP x]) = some ([] ++ [t])) := Lib.hid (by rw [HGS.out]; exact stepP_ok ho rfl)
          clear ho HCE
          simp only [List.length_nil] at *
          gi_wp2_with fail
          refine wpInR_region_still_tail 16 (no_defers (by kernel_rfl)) (by kernel_rfl) (by kernel_rfl) ?_
          rw [hW4]
          simp only [List.take_succ_cons, List.take_zero, List.drop_succ_cons, List.drop_zero]
          iterate 3 still_step
          refine still_take' (by kernel_rfl) (fun K hK => ?_)
          go_simp
          refine hK _ ?_
          clear hK K
          refine still_take' (by kernel_rfl) (fun K hK => ?_)
          go_simp
          refine hK _ ?_
          clear hK K
          refine still_take' (by kernel_rfl) (fun K hK => ?_)
          go_simp
          refine hK _ ?_
          clear hK K
          iterate 9 refine still_skip (by kernel_rfl) ?_
          go_simp
          refine still_take' (by kernel_rfl) (fun K hK => ?_)
          go_simp
          refine hK _ ?_
          clear hK K
          refine wpStill_nil ?_
          have e2 := (cell_of_row _ _ 0 _ _ (0, 0) HBX4.out.b2).trans (rfl : _ = some (Value.slice p 0 c))
          have e2 : W4.cell? ⟨B + 1 + 1, 0, none⟩ = some (.slice p 0 c) := e2
          have x2 := (cell_of_row _ _ 0 _ _ (0, 0) HX4.out).trans (rfl : _ = some (Value.int .u32 a))
          have x3 := (cell_of_row _ _ 1 _ _ (0, 0) HX4.out).trans (rfl : _ = some (Value.int .u32 b))
          obtain ⟨i0, hi0, hz0, hz1, hz2⟩ := info_parts infoS
          gi_wp2_with (gi_at_builtin; go_loud (refine wpListIn_append_own _ rfl _ _ 22 rfl (B + 6) 33 i0 (.agg #[.int .u32 0, .int .u32 0]) 2 8 Tryd.underlying22 hi0 hz0 hz1 hz2 rfl (by decide) _ _ _ rfl (HOW4.out.2.alloc _) ⟨W4.heap.size, 0, none⟩ 1 1 [.int .u32 a, .int .u32 b] rfl rfl (cell_two_new _ _ _ _) (fun x hx => by simp at hx; rcases hx with rfl | rfl <;> rfl) (by decide) (by decide) (by simp; omega) ?_; intro v6 w6 hown6 hgrow6 hnil6; (have HOWA : Hid (Own (B + 6) (W4.alloc (.cells #[.int .u32 a, .int .u32 b] 33)) (.slice p 0 c) []) := Lib.hid (HOW4.out.same (fun g cs e h1 h2 => heap_alloc _ (Array.getElem?_eq_some_iff.1 h2).1))); (have hra : Rn B W4 (W4.alloc (.cells #[.int .u32 a, .int .u32 b] 33)) := Rn.below ((Below.refl _ _).alloc (Nat.le_refl _) _) hW4s); (have hr6 := Rn.app HOWA.out hgrow6 (by simp; omega)); (have hk6 : ∀ g : Nat, g < B + 6 → w6.heap[g]? = W4.heap[g]? := fun g hg => (hgrow6.block g (by simp; omega) (fun e => by have := (HOWA.out.2.lt _ e.symm).1; omega)).trans (heap_alloc _ (by omega))); (have HBX6 := Lib.hid (HBX4.out.same (fun g h1 h2 => hk6 g (by omega)))); (have HO6 := Lib.hid (own_push (t := t) HOWA.out.1 HTT.out HAT.out.1 HAT.out.2 hown6)); (obtain ⟨g6, c6, hv6⟩ := ownsRow_succ' hown6); (have HRN6 : Hid (Rn B W w6) := Lib.hid (HRN4.out.trans (hra.trans hr6))); (have HBW6 : Hid (Below B w w6) := Lib.hid (HBW4.out.trans (hra.bl.trans hr6.bl))); (have e6 : w6.cell? ⟨B + 1 + 1, 0, none⟩ = some (.slice p 0 c) := (cell_of_row _ _ 0 _ _ (0, 0) HBX6.out.b2).trans (rfl : _ = some _)); (have f6 : w6.frozen? ⟨B + 1 + 1, 0, none⟩ = false := frozen_of_row _ _ 0 _ _ HBX6.out.b2); (have hs6 := hgrow6.size); subst hv6; clear hgrow6 hown6 hr6 hra hk6 hnil6))
          refine ⟨(HRN6.out.trans (Rn.set (b := B + 2) _ _ (by omega) (.inl (by omega)))).ko, (HRN6.out.trans (Rn.set (b := B + 2) _ _ (by omega) (.inl (by omega)))).kp, _, _, by rw [List.map_append]; exact HG.out, HBX6.out.put _, HO6.out.same (fun g cs e h1 h2 => heap_setCell_ne _ (by omega)), by have := HRN6.out.bl.size; simp; omega, HBW6.out.trans (Rn.set (b := B + 2) _ _ (by omega) (.inl (by omega))).bl⟩
        · rw [List.concat_eq_append] at hcon
          obtain ⟨n, hn⟩ : ∃ n, M.length = n + 1 := ⟨M0.length, by rw [hcon]; simp⟩
          have hu : M[n]? = some u := by
            have : n = M0.length := by rw [hcon] at hn; simpa using hn.symm
            rw [hcon, this]; simp
          obtain ⟨g, q, hpq, hgl, hu1, hu2, hcc⟩ := HCE.out n u hu
          obtain ⟨y0, y1⟩ := hcc W3 HBE3.out
          have hgl : g < W3.heap.size := by have := HBE3.out.size; omega
          have hXl : X < W3.heap.size := (Array.getElem?_eq_some_iff.1 HX3.out).1
          have hok : okN M t = decide (u.2 + 1 < t.1) := by unfold okN; rw [hcon]; simp
          obtain ⟨lo, hlo⟩ : ∃ z : Int, z = (u.1 : Int) := ⟨_, rfl⟩
          obtain ⟨hi, hhi⟩ : ∃ z : Int, z = (u.2 : Int) := ⟨_, rfl⟩
          rw [← hlo] at y0
          rw [← hhi] at y1
          have k0 : 0 ≤ hi := by omega
          have k1 : hi < 4294967296 := by unfold top at hu2; omega
          subst hpq
          rw [hn] at c2 HBX3 HOW3 hM hlc
          have HML := Lib.hid hn
          have hge : (0 : Int) ≤ (n : Int) := by omega
          have hlt : (n : Int) < (n : Int) + 1 := by omega
          have HOK := Lib.hid hok; have HU := Lib.hid hu; have HLO := Lib.hid hlo; have HHI := Lib.hid hhi; have HHO := Lib.hid ho
          clear ho HCE hcon hu hok hcc hu1 hu2 hlo hhi hn hW4
          gi_wp2_with fail
          refine wpInR_region_grows (no_defers (by kernel_rfl)) (by kernel_rfl) (by kernel_rfl) ?_
          refine grows_fact _ _ _ c2 (by omega) fun r0 => ?_
          refine grows_fact _ _ _ x0 hXl fun r1 => ?_
          refine grows_fact _ _ _ y0 hgl fun r2 => ?_
          refine grows_fact _ _ _ y1 hgl fun r3 => ?_
          clear c2 x0 x1 y0 y1
          repeat (go_big_quiet_step ((go_at_call 18; exact Calls.grows_of (behind_is lo hi _ k0 k1))))
          refine wpQuiet_nil ?_
          rintro w5 ⟨⟨_, hb5⟩, rfl⟩
          clear r0 r1 r2 r3
          have HBX5 := Lib.hid (HBX3.out.same (fun g h1 h2 => hb5.block g h2))
          have HOW5 : Hid (Own (B + 6) w5 (.slice (some ⟨g, q, none⟩) (n + 1) c) M) := Lib.hid (HOW3.out.same (fun g cs e h1 h2 => hb5.block g (Array.getElem?_eq_some_iff.1 h2).1))
          have HRN5 : Hid (Rn B W w5) := Lib.hid (HRN3.out.trans (Rn.below hb5 hW3s))
          have HBW5 : Hid (Below B w w5) := Lib.hid (HBW3.out.trans (hb5.mono (by omega)))
          have HX5 : Hid (w5.heap[X]? = some (.cells #[.int .u32 a, .int .u32 b] 33 (0, 0))) := Lib.hid ((hb5.block X hXl).trans HX3.out)
          have hW5s : B + 6 ≤ w5.heap.size := by have := hb5.size; omega
          clear hb5
          by_cases hcmp : a ≤ hi + 1
          · have hd : decide (a ≤ hi + 1) = true := by simpa using hcmp
            have HG : Hid (goP [] (pre.map tkP ++ [tkP x]) = none) := Lib.hid (by rw [HGS.out]; exact stepP_bad HHO.out (by rw [HOK.out]; have := HAT.out.1; have := HHI.out; simp; omega))
            have d0 := (cell_of_row _ _ 0 _ _ (0, 0) HBX5.out.b0).trans (rfl : _ = some (Value.slice none 0 0))
            have d1 := (cell_of_row _ _ 0 _ _ (0, 0) HBX5.out.b1).trans (rfl : _ = some (Value.int .i64 0))
            have f0 := frozen_of_row _ _ 0 _ _ HBX5.out.b0
            have f1 := frozen_of_row _ _ 0 _ _ HBX5.out.b1
            have HFIN : Hid (Rn B W ((w5.setCell ⟨B, 0, none⟩ (.slice none 0 0)).setCell ⟨B + 1, 0, none⟩ (.int .i64 4))) := Lib.hid (HRN5.out.trans ((Rn.set _ _ (Nat.le_refl _) (.inl (by omega))).trans (Rn.set _ _ (by omega) (.inl (by omega)))))
            have HPF := Lib.hid (HBX5.out.out (.slice none 0 0) 4)
            have HBF : Hid (Below B w ((w5.setCell ⟨B, 0, none⟩ (.slice none 0 0)).setCell ⟨B + 1, 0, none⟩ (.int .i64 4))) := Lib.hid (HBW5.out.trans ((Rn.set (B := B) _ _ (Nat.le_refl _) (.inl (by omega))).bl.trans (Rn.set (B := B) _ _ (by omega) (.inl (by omega))).bl))
            gi_wp2_with fail
            exact ⟨HFIN.out.ko, rfl, by rw [List.map_append]; exact HG.out, ⟨_, HPF.out⟩, HBF.out⟩
          · have hd : decide (a ≤ hi + 1) = false := by simpa using hcmp
            have HG : Hid (goP [] (pre.map tkP ++ [tkP x]) = some (M ++ [t])) := Lib.hid (by rw [HGS.out]; exact stepP_ok HHO.out (by rw [HOK.out]; have := HAT.out.1; have := HHI.out; simp; omega))
            have e2 := (cell_of_row _ _ 0 _ _ (0, 0) HBX5.out.b2).trans (rfl : _ = some (Value.slice (some ⟨g, q, none⟩) (n + 1) c))
            have e2 : w5.cell? ⟨B + 1 + 1, 0, none⟩ = some (.slice (some ⟨g, q, none⟩) (n + 1) c) := e2
            have x2 := (cell_of_row _ _ 0 _ _ (0, 0) HX5.out).trans (rfl : _ = some (Value.int .u32 a))
            have x3 := (cell_of_row _ _ 1 _ _ (0, 0) HX5.out).trans (rfl : _ = some (Value.int .u32 b))
            obtain ⟨i0, hi0, hz0, hz1, hz2⟩ := info_parts infoS
            gi_wp2_with (gi_at_builtin; go_loud (refine wpListIn_append_own _ rfl _ _ 22 rfl (B + 6) 33 i0 (.agg #[.int .u32 0, .int .u32 0]) 2 8 Tryd.underlying22 hi0 hz0 hz1 hz2 rfl (by decide) _ _ _ rfl (HOW5.out.2.alloc _) ⟨w5.heap.size, 0, none⟩ 1 1 [.int .u32 a, .int .u32 b] rfl rfl (cell_two_new _ _ _ _) (fun x hx => by simp at hx; rcases hx with rfl | rfl <;> rfl) (by have := HML.out; unfold maxLen; omega) (by have := HML.out; omega) (by simp; omega) ?_; intro v6 w6 hown6 hgrow6 hnil6; (have HOWA : Hid (Own (B + 6) (w5.alloc (.cells #[.int .u32 a, .int .u32 b] 33)) (.slice (some ⟨g, q, none⟩) (n + 1) c) M) := Lib.hid (HOW5.out.same (fun g cs e h1 h2 => heap_alloc _ (Array.getElem?_eq_some_iff.1 h2).1))); (have hra : Rn B w5 (w5.alloc (.cells #[.int .u32 a, .int .u32 b] 33)) := Rn.below ((Below.refl _ _).alloc (Nat.le_refl _) _) hW5s); (have hr6 := Rn.app HOWA.out hgrow6 (by simp; omega)); (have hk6 : ∀ g : Nat, g < B + 6 → w6.heap[g]? = w5.heap[g]? := fun g hg => (hgrow6.block g (by simp; omega) (fun e => by have := (HOWA.out.2.lt _ e.symm).1; omega)).trans (heap_alloc _ (by omega))); (have HBX6 := Lib.hid (HBX5.out.same (fun g h1 h2 => hk6 g (by omega)))); (have HO6 := Lib.hid (own_push (t := t) HOWA.out.1 HTT.out HAT.out.1 HAT.out.2 hown6)); (obtain ⟨g6, c6, hv6⟩ := ownsRow_succ' hown6); (have HRN6 : Hid (Rn B W w6) := Lib.hid (HRN5.out.trans (hra.trans hr6))); (have HBW6 : Hid (Below B w w6) := Lib.hid (HBW5.out.trans (hra.bl.trans hr6.bl))); (have e6 : w6.cell? ⟨B + 1 + 1, 0, none⟩ = some (.slice (some ⟨g, q, none⟩) (n + 1) c) := (cell_of_row _ _ 0 _ _ (0, 0) HBX6.out.b2).trans (rfl : _ = some _)); (have f6 : w6.frozen? ⟨B + 1 + 1, 0, none⟩ = false := frozen_of_row _ _ 0 _ _ HBX6.out.b2); (have hs6 := hgrow6.size); subst hv6; clear hgrow6 hown6 hr6 hra hk6 hnil6))
            refine ⟨(HRN6.out.trans (Rn.set (b := B + 2) _ _ (by omega) (.inl (by omega)))).ko, (HRN6.out.trans (Rn.set (b := B + 2) _ _ (by omega) (.inl (by omega)))).kp, _, _, by rw [List.map_append]; exact HG.out, HBX6.out.put _, HO6.out.same (fun g cs e h1 h2 => heap_setCell_ne _ (by omega)), by have := HRN6.out.bl.size; simp; omega, HBW6.out.trans (Rn.set (b := B + 2) _ _ (by omega) (.inl (by omega))).bl⟩
    case done =>
      rintro D xs W hD hxs ⟨v, M, hgo, hbx, how, hsz, hbw⟩ hK
      rw [hxs, tk_parts (by rw [str_toList]; exact hs), ← HR.out] at hgo
      obtain ⟨p, c, rfl, hlc, hcm, hcell⟩ := how.rd.sl
      have c2 : W.cell? ⟨B + 1 + 1, 0, none⟩ = some (.slice p M.length c) := (cell_of_row _ _ 0 _ _ (0, 0) hbx.b2).trans (rfl : _ = some _)
      have c0 := (cell_of_row _ _ 0 _ _ (0, 0) hbx.b0).trans (rfl : _ = some (Value.slice none 0 0))
      have c1 := (cell_of_row _ _ 0 _ _ (0, 0) hbx.b1).trans (rfl : _ = some (Value.int .i64 0))
      have f0 := frozen_of_row _ _ 0 _ _ hbx.b0
      have f1 := frozen_of_row _ _ 0 _ _ hbx.b1
      have HBX := Lib.hid hbx; have HOW := Lib.hid how; have HBW := Lib.hid hbw; have HGO := Lib.hid hgo; have HK := Lib.hid hK; have HD := Lib.hid hD
      clear hbx how hbw hgo hK hxs HSEQ HR hE hcell hlc hcm HBX1 HBL1
      go_wp2_with fail
      obtain ⟨WE, hWE⟩ : ∃ WE, (W.setCell ⟨B, 0, none⟩ (.slice p M.length c)).setCell ⟨B + 1, 0, none⟩ (.int .i64 0) = WE := ⟨_, rfl⟩
      have hbl : Rn B W WE := by rw [← hWE]; exact (Rn.set _ _ (Nat.le_refl _) (.inl (by omega))).trans (Rn.set _ _ (by omega) (.inl (by omega)))
      have hdn := HD.out
      have hk2 : WE.heap[D]? = some (.deferred (some [])) := hbl.ko.same D _ HK.out rfl
      have hpb : PBx B (.slice p M.length c) 0 (.slice p M.length c) WE := by rw [← hWE]; exact HBX.out.out _ _
      have how2 : Own (B + 6) WE (.slice p M.length c) M := by rw [← hWE]; exact HOW.out.same (fun g cs e h1 h2 => (heap_setCell_ne _ (by omega)).trans (heap_setCell_ne _ (by omega)))
      try rw [hWE]
      clear hWE
      have hgr := grownBy_putObj' WE D (.deferred none)
      have hkk : ∀ g : Nat, g ≠ D → g < WE.heap.size → (WE.putObj D (.deferred none)).heap[g]? = WE.heap[g]? := fun g hn hl => hgr.block g hl (fun e => hn (Option.some.inj e))
      have hpc := hpb.same (fun g h1 h2 => hkk g (by omega) h2)
      have how3 := how2.same (fun g cs e h1 h2 => hkk g (by intro e'; subst e'; rw [hk2] at h2; cases h2) (Array.getElem?_eq_some_iff.1 h2).1)
      have y0 := (cell_of_row _ _ 0 _ _ (0, 0) hpc.b0).trans (rfl : _ = some (Value.slice p M.length c))
      have y1 := (cell_of_row _ _ 0 _ _ (0, 0) hpc.b1).trans (rfl : _ = some (Value.int .i64 0))
      have hbf : Below B w (WE.putObj D (.deferred none)) := (HBW.out.trans hbl.bl).grown hgr (by have := hbl.bl.size; omega) (fun k e => by have := Option.some.inj e; omega)
      refine ⟨by simp, .inl ⟨_, _, rfl, run_takeDeferred hk2, ?_⟩⟩
      refine ⟨.tuple #[.slice p M.length c, .int .i64 0], ?_, _, _, rfl, by rw [HGO.out]; rfl, ?_, (fun h => by rw [HGO.out] at h; cases h), by rw [hB]; exact hbf⟩
      · simp [results, Tryd.f7, go_sem, y0, y1]
      · rw [HGO.out, hB]
        exact how3.down (by omega)
    case stop =>
      rintro D k pre W hD hSp ⟨rfl, hgo, ⟨v, hbx⟩, hbw⟩ hK
      have hno := goP_stop (by rw [str_toList]; exact hs) hSp hgo
      rw [← HR.out] at hno
      have HNO := Lib.hid hno
      refine wpIn_wide.2 ?_
      clear hno hgo hSp HSEQ HR hE HBX1 HBL1
      go_wp2_with fail
      have hgr := grownBy_putObj' W D (.deferred none)
      have hkk : ∀ g : Nat, g ≠ D → g < W.heap.size → (W.putObj D (.deferred none)).heap[g]? = W.heap[g]? := fun g hn hl => hgr.block g hl (fun e => hn (Option.some.inj e))
      have hpc := hbx.same (fun g h1 h2 => hkk g (by omega) h2)
      have y0 := (cell_of_row _ _ 0 _ _ (0, 0) hpc.b0).trans (rfl : _ = some (Value.slice none 0 0))
      have y1 := (cell_of_row _ _ 0 _ _ (0, 0) hpc.b1).trans (rfl : _ = some (Value.int .i64 4))
      have hbf : Below B w (W.putObj D (.deferred none)) := hbw.grown hgr (by have := (Array.getElem?_eq_some_iff.1 hbx.b0).1; omega) (fun k e => by have := Option.some.inj e; omega)
      refine ⟨by simp, .inl ⟨_, _, rfl, run_takeDeferred hK, ?_⟩⟩
      refine ⟨.tuple #[.slice none 0 0, .int .i64 4], ?_, _, _, rfl, by rw [HNO.out]; rfl, ?_, fun _ => rfl, by rw [hB]; exact hbf⟩
      · simp [results, Tryd.f7, go_sem, y0, y1]
      · rw [HNO.out]
        exact ⟨fun _ h => (by cases h), World.ownsRow_nil _ _ _ _⟩
end Go.Proofs.YtbplkeopdfciiaaDoor
