/- What trie's node.cover hands back. Under the conditions that they name. -/
import Derived.Test.YtodfimnmbfdicaaTpF
namespace Go.Proofs.Ytodfimnmbfdicaa
open Go.RowKit Go.Shelf
/-- How many prefixes of a tree have a value. -/
def Tr.sz {V : Type} : Tr V → Nat
  | .nil => 0
  | .node _ _ u l r => (if u.isSome then 1 else 0) + l.sz + r.sz
theorem Tr.cover_len {V : Type} : ∀ t : Tr V, (Tr.cover t).length ≤ t.sz
  | .nil => Nat.le_refl _
  | .node a n (some _) l r => by simp only [Tr.cover, Tr.sz, List.length_singleton, Option.isSome_some, if_true]; omega
  | .node a n none l r => by
    have h1 := Tr.cover_len l
    have h2 := Tr.cover_len r
    simp only [Tr.cover, Tr.sz, Option.isSome_none]
    split
    · rename_i h
      have h3 := (of_decide_eq_true h).2
      have h4 := congrArg List.length h3
      simp only [List.length_append, List.length_cons, List.length_nil] at h4
      simp only [List.length_singleton]
      split <;> omega
    · simp only [List.length_append]
      split <;> omega
theorem own_slice {w : World} {b : Nat} {e : TypeId} {k : Nat} {v : Value} {n : Nat} {xs : List Value} (h : w.ownsRow b e k v n xs) : ∃ p c, v = .slice p n c := by
  rcases h.2 with ⟨rfl, rfl⟩ | ⟨g, cap, cur, rfl, _⟩
  · exact ⟨_, _, rfl⟩
  · exact ⟨_, _, rfl⟩
theorem own_one (w : World) (a n : Int) : RdK encP 2 (w.alloc (.cells #[.int .u32 a, .int .i64 n] 34)) (.slice (some ⟨w.heap.size, 0, none⟩) 1 1) [(a, n)] :=
  RdK.of_own (b := w.heap.size) (e := 34) encP_len ⟨rfl, .inr ⟨w.heap.size, 1, #[.int .u32 a, .int .i64 n], rfl, Nat.le_refl _, heap_alloc_new _ _, Nat.le_refl _, by decide, rfl, rfl⟩⟩
theorem own_on {w w' : World} {B : Nat} {e : TypeId} {k : Nat} {v : Value} {n : Nat} {xs : List Value} (h : w.ownsRow B e k v n xs) (hb : Below w.heap.size w w') : w'.ownsRow B e k v n xs := ownsRow_of h fun g _ _ h3 => hb.block g h3
/-- The end of a row reads as what was put behind its beginning. -/
theorem rd_tail {W : World} {gr cap k N : Nat} {cur : Array Value} {xs : List Value} {L : List (Int × Int)} (hh : W.heap[gr]? = some (.cells cur 34 (0, 0))) (hxs : xs.length = k * 2) (hN : N = k + L.length) (hcap : N ≤ cap) (hmax : cap ≤ maxLen) (htk : cur.toList.take (N * 2) = xs ++ flatK encP L) :
    RdK encP 2 W (.slice (if cap = k then some ⟨gr, 0, none⟩ else some ⟨gr, k * 2, none⟩) (N - k) (cap - k)) L := by
  refine ⟨_, _, by rw [show N - k = L.length by omega], by omega, by omega, fun h0 => ⟨gr, k * 2, if_neg (by omega), blk_lt hh, fun i s hs j u hu => ?_⟩⟩
  have hil := (List.getElem?_eq_some_iff.1 hs).1
  have hj : j < 2 := (List.getElem?_eq_some_iff.1 hu).1
  have h1 := flatK_at encP_len hs hj
  rw [row_cell hh, ← Array.getElem?_toList]
  have h2 : (cur.toList.take (N * 2))[k * 2 + i * 2 + j]? = some u := by
    rw [htk, List.getElem?_append_right (by omega), hxs, show k * 2 + i * 2 + j - k * 2 = i * 2 + j by omega, h1, hu]
  rw [List.getElem?_take] at h2
  split at h2
  · exact h2
  · cases h2
/-- The beginning of a row of one's own. -/
theorem own_head {W : World} {B gr cap k N : Nat} {cur : Array Value} {xs ys : List Value} (hg : B ≤ gr) (hh : W.heap[gr]? = some (.cells cur 34 (0, 0))) (hxs : xs.length = k * 2) (hk : k ≤ N) (hcap : N ≤ cap) (hmax : cap ≤ maxLen) (hcs : cur.size = cap * 2) (htk : cur.toList.take (N * 2) = xs ++ ys) : W.ownsRow B 34 2 (.slice (some ⟨gr, 0, none⟩) k cap) k xs := by
  refine ⟨hxs, .inr ⟨gr, cap, cur, rfl, hg, hh, by omega, hmax, hcs, ?_⟩⟩
  have h := congrArg (List.take (k * 2)) htk
  have h1 : (cur.toList.take (N * 2)).take (k * 2) = cur.toList.take (k * 2) := by rw [List.take_take, Nat.min_eq_left (by omega)]
  have h2 : (xs ++ ys).take (k * 2) = xs := by rw [← hxs]; exact List.take_left
  exact h1.symm.trans (h.trans h2)
def CoverC (t : Tr Unit) : Prop := ∀ (P : Nat → Prop) (p : Option Addr) (B n : Nat) (sv : Value) (xs : List Value) (w : World), t.Ok → Nd_s P w p t → (∀ x, P x → x < B) → B ≤ w.heap.size → w.ownsRow B 34 2 sv n xs → n + t.sz ≤ 100000 →
  Calls Try.prog 47 #[.pointer p, sv] w fun e w' => ∃ v', e = .returned v' ∧ w'.ownsRow B 34 2 v' (n + (Tr.cover t).length) (xs ++ flatK encP (Tr.cover t)) ∧ Below B w w'
theorem cover_nil : CoverC .nil := by
  intro P p B n sv xs w _ hp _ _ ho _
  obtain rfl : p = none := hp
  have HO := Lib.hid ho
  clear ho
  go_enter Try.func47, Try.ntmps47
  go_wp2
  go_ret
  exact ⟨_, rfl, by simpa [Tr.cover, flatK] using HO.out, Below.refl _ _⟩
set_option maxRecDepth 100000 in
set_option maxHeartbeats 4000000 in
theorem cover_some (a n : Int) (v : Unit) (l r : Tr Unit) : CoverC (.node a n (some v) l r) := by
  intro P p B k sv xs w hok hp hP hB ho hsz
  obtain ⟨g, pv, pl, pr, rfl, hPg, hg, ⟨gv, rfl, hPv, hv⟩, hl, hr⟩ := hp
  obtain ⟨q, c, rfl⟩ := own_slice ho
  have a0 : w.cell? ⟨g, 0, none⟩ = some (.int .u32 a) := row_cell hg 0
  have a1 : w.cell? ⟨g, 1, none⟩ = some (.int .i64 n) := row_cell hg 1
  have a2 : w.cell? ⟨g, 2, none⟩ = some (.pointer (some ⟨gv, 0, none⟩)) := row_cell hg 2
  have HO := Lib.hid ho
  have hk : k ≤ 100000 := by omega
  have hk1 : k + 1 ≤ 100001 := by omega
  clear ho hP hl hr hg hv hok hsz
  go_enter Try.func47, Try.ntmps47
  go_wp2_with (at_builtin; refine wpList_append_rdk (enc := encP) encP_len (by decide) encP_one rfl (.tmp 14) (.tmp 19) 48 34 rfl _ 16 Try.underlying48 rfl infoP B _ k xs rfl (HO.out.alloc _) _ [(a, n)] rfl (own_one _ _ _) (by unfold maxLen; simp; omega) (by simp; omega) (by first | (simp; done) | (simp; omega)) ?_; intro v9 w10 hown hgr hor; clear hor; have H9 := Lib.hid hown; have HG9 := Lib.hid hgr; clear hown hgr; obtain ⟨p9, c9, rfl⟩ := own_slice H9.out)
  go_ret
  refine ⟨_, rfl, by simpa [Tr.cover] using H9.out, Below.grown ((Below.refl _ _).alloc hB _) HG9.out (by simp; omega) fun x hx => (HO.out.lt x hx).1⟩
set_option maxRecDepth 100000 in
set_option maxHeartbeats 16000000 in
theorem cover_none (a n : Int) (l r : Tr Unit) (CL : CoverC l) (CR : CoverC r) : CoverC (.node a n none l r) := by
  intro P p B k sv xs w hok hp hP hB ho hsz
  obtain ⟨g, pv, pl, pr, rfl, hPg, hg, hpv, hl, hr⟩ := hp
  obtain rfl : pv = none := hpv
  obtain ⟨q, c, rfl⟩ := own_slice ho
  have hgB := hP g hPg
  have hcl := Tr.cover_len l
  have hcr := Tr.cover_len r
  have hs : k + l.sz + r.sz ≤ 100000 := by simp only [Tr.sz, Option.isSome_none] at hsz; split at hsz <;> omega
  have HP := Lib.hid hP; have HG := Lib.hid hg; have HL := Lib.hid hl; have HR := Lib.hid hr; have HO := Lib.hid ho; have HOK := Lib.hid hok
  have a0 : w.cell? ⟨g, 0, none⟩ = some (.int .u32 a) := row_cell hg 0
  have a1 : w.cell? ⟨g, 1, none⟩ = some (.int .i64 n) := row_cell hg 1
  have a2 : w.cell? ⟨g, 2, none⟩ = some (.pointer none) := row_cell hg 2
  have a3 : w.cell? ⟨g, 3, none⟩ = some (.pointer pl) := row_cell hg 3
  have a4 : w.cell? ⟨g, 4, none⟩ = some (.pointer pr) := row_cell hg 4
  have HCL : Hid (∀ X, Below w.heap.size w X → Calls Try.prog 47 #[.pointer pl, .slice q k c] X fun e w' => ∃ v', e = .returned v' ∧ w'.ownsRow B 34 2 v' (k + (Tr.cover l).length) (xs ++ flatK encP (Tr.cover l)) ∧ Below B X w') :=
    Lib.hid fun X hX => CL P pl B k _ xs X hok.2.2.2.1 (hl.on hX) hP (by have := hX.size; omega) (own_on ho hX) (by omega)
  have HCR : Hid (∀ X, Below B w X → ∀ v', X.ownsRow B 34 2 v' (k + (Tr.cover l).length) (xs ++ flatK encP (Tr.cover l)) → Calls Try.prog 47 #[.pointer pr, v'] X fun e w' => ∃ v'', e = .returned v'' ∧ w'.ownsRow B 34 2 v'' (k + (Tr.cover l).length + (Tr.cover r).length) (xs ++ flatK encP (Tr.cover l) ++ flatK encP (Tr.cover r)) ∧ Below B X w') :=
    Lib.hid fun X hX v' hv' => CR P pr B _ v' _ X hok.2.2.2.2 (TrAt.keep (fun x hx hp => ⟨hp, hX.block x (hP x hp)⟩) hr) hP (by have := hX.size; omega) hv' (by omega)
  clear ho hP hl hr hg hok hsz
  go_enter Try.func47, Try.ntmps47
  go_wp2_with fail
  clear a2
  go_cut [1] from 23 to 35 (fun s1 wx => wx.ownsRow B 34 2 s1 (k + (Tr.cover l).length + (Tr.cover r).length) (xs ++ flatK encP (Tr.cover l) ++ flatK encP (Tr.cover r)) ∧ Below B w wx)
  case first =>
    go_region_with (first
      | (go_at_call 47; (with_reducible refine (HCL.out _ (by first | exact Below.refl _ _ | exact (Below.refl _ _).drew | exact ((Below.refl _ _).drew).drew)).mono ?_); rintro e w5 ⟨v5, rfl, ho5, hb5⟩; (have HO5 := Lib.hid ho5); (have hw5 : Below B w w5 := (by first | exact Below.refl _ _ | exact (Below.refl _ _).drew | exact ((Below.refl _ _).drew).drew : Below B w _).trans hb5); (have HB5 := Lib.hid hw5); (have zc := (hw5.block g hgB).trans HG.out); (have z3 : w5.cell? ⟨g, 3, none⟩ = some (.pointer pl) := row_cell zc 3); (have z4 : w5.cell? ⟨g, 4, none⟩ = some (.pointer pr) := row_cell zc 4); clear zc ho5 hw5 hb5)
      | (go_at_call 47; (with_reducible refine (HCR.out _ (by first | exact HB5.out | exact HB5.out.drew | exact HB5.out.drew.drew) _ (by first | exact HO5.out)).mono ?_); rintro e w6 ⟨v6, rfl, ho6, hb6⟩))
    all_goals
      go_wp2_with fail
      go_meet
      exact ⟨ho6, (by first | exact HB5.out | exact HB5.out.drew | exact HB5.out.drew.drew : Below B w _).trans hb6⟩
  case rest =>
    obtain ⟨ho7, hb7⟩ := hcut
    obtain ⟨p7, c7, rfl⟩ := own_slice ho7
    have HB7 := Lib.hid hb7; have HO7 := Lib.hid ho7
    have gg := (hb7.block g hgB).trans HG.out
    have gl := blk_lt gg
    have a0 : wc.cell? ⟨g, 0, none⟩ = some (.int .u32 a) := row_cell gg 0
    have a1 : wc.cell? ⟨g, 1, none⟩ = some (.int .i64 n) := row_cell gg 1
    have HGG := Lib.hid gg
    rcases ho7.2 with ⟨e7, hx0⟩ | ⟨gr, cap, cur, e7, hgr, hh, hcap, hmax, hcs, htk⟩
    · simp only [Value.slice.injEq] at e7
      obtain ⟨rfl, hN, rfl⟩ := e7
      have hk0 : k = 0 := by omega
      have hl0 : Tr.cover l = [] := List.eq_nil_of_length_eq_zero (by omega)
      have hr0 : Tr.cover r = [] := List.eq_nil_of_length_eq_zero (by omega)
      have hxs : xs = [] := List.eq_nil_of_length_eq_zero (by have := HO.out.1; omega)
      have HC : Hid (Tr.cover (.node a n none l r) = []) := Lib.hid (by simp [Tr.cover, hl0, hr0, Tr.whole])
      have HWN : Hid (∀ W, Calls Try.prog 58 #[.agg #[.int .u32 a, .int .i64 n], .slice none 0 0] W fun e w' => e = .returned (.bool false) ∧ Below W.heap.size W w') := Lib.hid fun W => (whole_is a n [] (.slice none 0 0) W HOK.out.1 (RdK.nil W)).mono fun e w' h => by simpa [Tr.whole] using h
      rw [hN]
      subst hk0 hxs
      clear ho7 hb7 hN hx0 gg hl0 hr0
      go_wp2_with fail
      refine wp_region_grows (by kernel_rfl) (by kernel_rfl) ?_
      refine grows_fact g 0 (.int .u32 a) a0 gl fun t0 => ?_
      refine grows_fact g 1 (.int .i64 n) a1 gl fun t1 => ?_
      repeat (go_big_quiet_step ((go_at_call 58; with_reducible exact Calls.grows_of (HWN.out _))))
      refine wpQuiet_nil ?_
      rintro w8 ⟨⟨_, hb8⟩, rfl⟩
      have HB8 := Lib.hid (HB7.out.trans (hb8.mono (by have := HB7.out.size; omega)))
      clear t0 t1 hb8
      go_wp2_with fail
      go_ret
      refine ⟨_, rfl, ?_, HB8.out⟩
      rw [HC.out]
      exact ⟨rfl, .inl ⟨rfl, rfl⟩⟩
    · obtain ⟨N, hN⟩ : ∃ N, k + (Tr.cover l).length + (Tr.cover r).length = N := ⟨_, rfl⟩
      rw [hN] at ho7 hcap htk e7 ⊢
      simp only [Value.slice.injEq, true_and] at e7
      obtain ⟨rfl, rfl⟩ := e7
      have hkN : k ≤ N := by omega
      have hN1 : N ≤ 100000 := by omega
      have htk' : cur.toList.take (N * 2) = xs ++ flatK encP (Tr.cover l ++ Tr.cover r) := by rw [htk]; simp [flatK]
      have HH := Lib.hid hh; have HT := Lib.hid htk'; have HCS := Lib.hid hcs; have HNN := Lib.hid hN
      have e1 : (0 : Int) ≤ (k : Int) := by omega
      have e2 : (k : Int) ≤ (N : Int) := by omega
      have e3 : (k : Int) ≤ (c7 : Int) := by omega
      have HWN : Hid (∀ W, Below wc.heap.size wc W → Calls Try.prog 58 #[.agg #[.int .u32 a, .int .i64 n], .slice (if c7 = k then some ⟨gr, 0, none⟩ else some ⟨gr, k * 2, none⟩) (N - k) (c7 - k)] W fun e w' => e = .returned (.bool (Tr.whole a n (Tr.cover l ++ Tr.cover r))) ∧ Below W.heap.size W w') :=
        Lib.hid fun W hW => whole_is a n _ _ W HOK.out.1 (rd_tail ((hW.block gr (blk_lt hh)).trans hh) HO.out.1 (by rw [List.length_append]; omega) hcap hmax htk')
      have HNC : Hid (wc.ownsRow B 34 2 (.slice (some ⟨gr, 0, none⟩) N c7) N (xs ++ flatK encP (Tr.cover l ++ Tr.cover r))) := Lib.hid (by
        have h := ho7
        rw [show xs ++ flatK encP (Tr.cover l) ++ flatK encP (Tr.cover r) = xs ++ flatK encP (Tr.cover l ++ Tr.cover r) by simp [flatK]] at h
        exact h)
      have HHD : Hid (wc.ownsRow B 34 2 (.slice (some ⟨gr, 0, none⟩) k c7) k xs) := Lib.hid (own_head hgr hh HO.out.1 hkN hcap hmax hcs htk')
      have HCV : Hid (∀ b, Tr.whole a n (Tr.cover l ++ Tr.cover r) = b → Tr.cover (.node a n none l r) = if b then [(a, n)] else Tr.cover l ++ Tr.cover r) := Lib.hid fun b hb => by rw [← hb]; rfl
      obtain ⟨wh, hwh⟩ : ∃ b, Tr.whole a n (Tr.cover l ++ Tr.cover r) = b := ⟨_, rfl⟩
      rw [hwh] at HWN
      have HCV2 := Lib.hid (HCV.out _ hwh)
      clear ho7 hb7 hh hcs htk htk' hN gg hwh HCV
      rcases Classical.em (c7 = k) with hck | hck
      · have hif : (if c7 = k then some (⟨gr, 0, none⟩ : Addr) else some ⟨gr, k * 2, none⟩) = some ⟨gr, 0, none⟩ := if_pos hck
        rw [hif] at HWN
        clear hif
        have hck' := hck.symm
        clear hck
        subst hck'
        have hz0 : N - k = 0 := by omega
        simp only [hz0, Nat.sub_self] at HWN
        clear hz0
        cases wh
        · go_wp2_with fail
          refine wp_region_grows (by kernel_rfl) (by kernel_rfl) ?_
          refine grows_fact g 0 (.int .u32 a) a0 gl fun t0 => ?_
          refine grows_fact g 1 (.int .i64 n) a1 gl fun t1 => ?_
          repeat (go_big_quiet_step ((go_at_call 58; with_reducible exact Calls.grows_of (HWN.out _ (Grows.below _)))))
          refine wpQuiet_nil ?_
          rintro w8 ⟨⟨_, hb8⟩, rfl⟩
          have HB8 := Lib.hid hb8
          clear t0 t1 hb8
          go_wp2_with fail
          go_ret
          refine ⟨_, rfl, ?_, HB7.out.trans (HB8.out.mono (by have := HB7.out.size; omega))⟩
          rw [HCV2.out]
          simp only [Bool.false_eq_true, if_false, List.length_append, ← Nat.add_assoc, HNN.out]
          exact own_on HNC.out HB8.out
        · go_wp2_with fail
          refine wp_region_grows (by kernel_rfl) (by kernel_rfl) ?_
          refine grows_fact g 0 (.int .u32 a) a0 gl fun t0 => ?_
          refine grows_fact g 1 (.int .i64 n) a1 gl fun t1 => ?_
          repeat (go_big_quiet_step ((go_at_call 58; with_reducible exact Calls.grows_of (HWN.out _ (Grows.below _)))))
          refine wpQuiet_nil ?_
          rintro w8 ⟨⟨_, hb8⟩, rfl⟩
          have HB8 := Lib.hid hb8
          have gg8 := (hb8.block g gl).trans HGG.out
          have a0 : w8.cell? ⟨g, 0, none⟩ = some (.int .u32 a) := row_cell gg8 0
          have a1 : w8.cell? ⟨g, 1, none⟩ = some (.int .i64 n) := row_cell gg8 1
          have HD8 := Lib.hid (own_on HHD.out hb8)
          have HG8 := Lib.hid gg8
          have gl8 := blk_lt gg8
          clear t0 t1 hb8 gg8
          go_wp2_with fail
          go_cut [1] from 44 to 52 (fun s1 wx => wx.ownsRow B 34 2 s1 (k + 1) (xs ++ flatK encP [(a, n)]) ∧ Below B w8 wx)
          case first =>
            go_region_held3 (fun w' => w'.cell? ⟨g, 0, none⟩ = some (.int .u32 a) ∧ w'.cell? ⟨g, 1, none⟩ = some (.int .i64 n)) (first | exact ⟨y0, y1⟩ | go_keep | (simp [*, World.cell?_alloc_some]; done)) (((refine step_append_rdk (enc := encP) encP_len (by decide) encP_one rfl (.tmp 46) (.tmp 51) 48 34 rfl _ 16 Try.underlying48 rfl infoP B _ k xs rfl (by first | exact HD8.out.alloc _) _ [(a, n)] rfl (by first | exact own_one _ _ _) (by unfold maxLen; simp; omega) (by simp; omega) (by have := HB7.out.size; have := HB8.out.size; simp; omega) ?_); intro v9 w10 hown hgr' hor; clear hor; have g10 := (hgr'.block g (by simp; omega) (fun e => by have := (HD8.out.lt g e.symm).1; omega)).trans ((heap_alloc_old w8 _ gl8).trans HG8.out); have y0 : w10.cell? ⟨g, 0, none⟩ = some (.int .u32 a) := row_cell g10 0; have y1 : w10.cell? ⟨g, 1, none⟩ = some (.int .i64 n) := row_cell g10 1; clear g10; have H9 := Lib.hid hown; have HG9 := Lib.hid hgr'; clear hown hgr'))
            all_goals
              go_wp2_with fail
              go_meet
              exact ⟨H9.out, Below.grown (((Below.refl B w8).alloc (by have := HB7.out.size; have := HB8.out.size; omega) _).drew) HG9.out (by have := HB7.out.size; have := HB8.out.size; simp; omega) (fun x hx => (HD8.out.lt x hx).1)⟩
          case rest =>
            obtain ⟨ho9, hb9⟩ := hcut
            have H9 := Lib.hid ho9; have HB9 := Lib.hid hb9
            clear ho9 hb9
            go_wp2_with fail
            go_ret
            refine ⟨_, rfl, ?_, (HB7.out.trans (HB8.out.mono (by have := HB7.out.size; omega))).trans HB9.out⟩
            rw [HCV2.out]
            exact H9.out
      · have hif : (if c7 = k then some (⟨gr, 0, none⟩ : Addr) else some ⟨gr, k * 2, none⟩) = some ⟨gr, k * 2, none⟩ := if_neg hck
        rw [hif] at HWN
        clear hif
        cases wh
        · go_wp2_with fail
          refine wp_region_grows (by kernel_rfl) (by kernel_rfl) ?_
          refine grows_fact g 0 (.int .u32 a) a0 gl fun t0 => ?_
          refine grows_fact g 1 (.int .i64 n) a1 gl fun t1 => ?_
          repeat (go_big_quiet_step ((go_at_call 58; with_reducible exact Calls.grows_of (HWN.out _ (Grows.below _)))))
          refine wpQuiet_nil ?_
          rintro w8 ⟨⟨_, hb8⟩, rfl⟩
          have HB8 := Lib.hid hb8
          clear t0 t1 hb8
          go_wp2_with fail
          go_ret
          refine ⟨_, rfl, ?_, HB7.out.trans (HB8.out.mono (by have := HB7.out.size; omega))⟩
          rw [HCV2.out]
          simp only [Bool.false_eq_true, if_false, List.length_append, ← Nat.add_assoc, HNN.out]
          exact own_on HNC.out HB8.out
        · go_wp2_with fail
          refine wp_region_grows (by kernel_rfl) (by kernel_rfl) ?_
          refine grows_fact g 0 (.int .u32 a) a0 gl fun t0 => ?_
          refine grows_fact g 1 (.int .i64 n) a1 gl fun t1 => ?_
          repeat (go_big_quiet_step ((go_at_call 58; with_reducible exact Calls.grows_of (HWN.out _ (Grows.below _)))))
          refine wpQuiet_nil ?_
          rintro w8 ⟨⟨_, hb8⟩, rfl⟩
          have HB8 := Lib.hid hb8
          have gg8 := (hb8.block g gl).trans HGG.out
          have a0 : w8.cell? ⟨g, 0, none⟩ = some (.int .u32 a) := row_cell gg8 0
          have a1 : w8.cell? ⟨g, 1, none⟩ = some (.int .i64 n) := row_cell gg8 1
          have HD8 := Lib.hid (own_on HHD.out hb8)
          have HG8 := Lib.hid gg8
          have gl8 := blk_lt gg8
          clear t0 t1 hb8 gg8
          go_wp2_with fail
          go_cut [1] from 44 to 52 (fun s1 wx => wx.ownsRow B 34 2 s1 (k + 1) (xs ++ flatK encP [(a, n)]) ∧ Below B w8 wx)
          case first =>
            go_region_held3 (fun w' => w'.cell? ⟨g, 0, none⟩ = some (.int .u32 a) ∧ w'.cell? ⟨g, 1, none⟩ = some (.int .i64 n)) (first | exact ⟨y0, y1⟩ | go_keep | (simp [*, World.cell?_alloc_some]; done)) (((refine step_append_rdk (enc := encP) encP_len (by decide) encP_one rfl (.tmp 46) (.tmp 51) 48 34 rfl _ 16 Try.underlying48 rfl infoP B _ k xs rfl (by first | exact HD8.out.alloc _) _ [(a, n)] rfl (by first | exact own_one _ _ _) (by unfold maxLen; simp; omega) (by simp; omega) (by have := HB7.out.size; have := HB8.out.size; simp; omega) ?_); intro v9 w10 hown hgr' hor; clear hor; have g10 := (hgr'.block g (by simp; omega) (fun e => by have := (HD8.out.lt g e.symm).1; omega)).trans ((heap_alloc_old w8 _ gl8).trans HG8.out); have y0 : w10.cell? ⟨g, 0, none⟩ = some (.int .u32 a) := row_cell g10 0; have y1 : w10.cell? ⟨g, 1, none⟩ = some (.int .i64 n) := row_cell g10 1; clear g10; have H9 := Lib.hid hown; have HG9 := Lib.hid hgr'; clear hown hgr'))
            all_goals
              go_wp2_with fail
              go_meet
              exact ⟨H9.out, Below.grown (((Below.refl B w8).alloc (by have := HB7.out.size; have := HB8.out.size; omega) _).drew) HG9.out (by have := HB7.out.size; have := HB8.out.size; simp; omega) (fun x hx => (HD8.out.lt x hx).1)⟩
          case rest =>
            obtain ⟨ho9, hb9⟩ := hcut
            have H9 := Lib.hid ho9; have HB9 := Lib.hid hb9
            clear ho9 hb9
            go_wp2_with fail
            go_ret
            refine ⟨_, rfl, ?_, (HB7.out.trans (HB8.out.mono (by have := HB7.out.size; omega))).trans HB9.out⟩
            rw [HCV2.out]
            exact H9.out

end Go.Proofs.Ytodfimnmbfdicaa
