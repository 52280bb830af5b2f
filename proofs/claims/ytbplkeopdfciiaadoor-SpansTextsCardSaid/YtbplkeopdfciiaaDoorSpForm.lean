/- Form of package spans: whatever list it is handed, what it hands back is the set's one form, in new memory. Under the conditions that it names. -/
import Derived.Test.YtbplkeopdfciiaaDoorSpW1
import Derived.Test.YtbplkeopdfciiaaDoorSpRow
namespace Go.Proofs.YtbplkeopdfciiaaDoor
open Go.RowKit
/-- What slices.SortFunc does with the order of Form: the row holds the same spans, in order. -/
def Sorts : Prop := ∀ (w : World) (b : Nat) (v : Value) (l : List (Nat × Nat)), Own b w v l → l.length ≤ 1000000000 →
  Calls Tryd.prog 24 #[v, .func (.func 25) #[] #[]] w fun e w' => e = .returned (.tuple #[]) ∧ ∃ l', Own b w' v l' ∧ l'.length = l.length ∧ Below b w w' ∧ (∀ s, s ∈ l' ↔ s ∈ l) ∧ l'.Pairwise fun s t => s.1 ≤ t.1
theorem two_new {w : World} {n : Nat} (h : n = w.heap.size) (x y : Value) (t : TypeId) : ∀ j u, [x, y][j]? = some u → (w.alloc (.cells #[x, y] t)).cell? ((⟨n, 0, none⟩ : Addr).add j) = some u := by
  subst h; exact cell_two_new w x y t
theorem full_snoc (l : List (Nat × Nat)) (s : Nat × Nat) : full (l ++ [s]) = full l ++ (if s.1 ≤ s.2 then [s] else []) := by
  unfold full
  rw [List.filter_append]
  by_cases h : s.1 ≤ s.2 <;> simp [h]
theorem full_length (l : List (Nat × Nat)) : (full l).length ≤ l.length := List.length_filter_le _ _
set_option maxRecDepth 100000 in
set_option maxHeartbeats 1000000 in
theorem form_any (HS : Sorts) (l : List (Nat × Nat)) (v : Value) (w : World) (hr : Rd w v l) (hlen : l.length ≤ 1000000000) :
    Calls Tryd.prog 12 #[v] w fun e w' => ∃ v', e = .returned v' ∧ Own w.heap.size w' v' (Cn (has l)) ∧ Below w.heap.size w w' := by
  obtain ⟨hsm, ⟨p0, c0, rfl, _, rfl⟩ | ⟨b, o, cap, rfl, hle, hcap, hb, hc⟩⟩ := hr
  · have ho : Own w.heap.size w (.slice none 0 0) [] := ⟨fun _ h => (by cases h), World.ownsRow_nil _ _ _ _⟩
    have HO := Lib.hid ho
    clear hsm ho
    go_enter Tryd.func12, Tryd.ntmps12
    go_wp2
    refine wp_loop_rounds 1 ?_
    rw [rounds_succ]
    go_wp2_with fail
    go_at_call 24
    refine (HS _ _ _ _ HO.out (by simp)).mono ?_
    rintro e w1 ⟨rfl, L, hownL, hlenL, hbL, _, _⟩
    go_wp2
    refine wp_loop_rounds 1 ?_
    rw [rounds_succ]
    go_wp2
    go_ret
    refine ⟨_, rfl, ?_, hbL⟩
    rw [← Glued.form (l := []) Glued.nil (fun _ => rfl) (by simp)]
    exact ⟨fun _ h => (by cases h), World.ownsRow_nil _ _ _ _⟩
  · have HSM := Lib.hid hsm
    clear hsm
    go_enter Tryd.func12, Tryd.ntmps12
    go_wp2
    go_loopw [3, 12] (fun v i wr => ∃ k : Nat, k ≤ l.length ∧ i = .int .i64 k ∧ Own w.heap.size wr v (full (l.take k)) ∧ Below w.heap.size w wr) (fun _ i _ => l.length - (intOf i).toNat)
    case atStart => exact ⟨0, Nat.zero_le _, rfl, ⟨fun _ h => (by cases h), World.ownsRow_nil _ _ _ _⟩, Below.refl _ _⟩
    case round =>
      obtain ⟨k, hk, rfl, hown, hbw⟩ := hrel
      by_cases hlt : k < l.length
      · obtain ⟨c1, c2⟩ := hc k _ (List.getElem?_eq_getElem hlt)
        replace c1 := (hbw.cell (p := ⟨b, _, none⟩) hb).trans c1
        replace c2 := (hbw.cell (p := ⟨b, _, none⟩) hb).trans c2
        obtain ⟨s, hs⟩ : ∃ s, s = l[k] := ⟨_, rfl⟩
        rw [← hs] at c1 c2
        have hss := HSM.out s (by rw [hs]; exact List.getElem_mem hlt)
        have hfl := full_length (l.take k)
        have htl : (l.take k).length ≤ k := List.length_take_le _ _
        have HT : Hid (full (l.take (k + 1)) = full (l.take k) ++ (if s.1 ≤ s.2 then [s] else [])) := Lib.hid (by rw [List.take_succ_eq_append_getElem hlt, full_snoc, hs])
        obtain ⟨lo, hlo⟩ : ∃ lo : Int, lo = (s.1 : Int) := ⟨_, rfl⟩
        obtain ⟨hi, hhi⟩ : ∃ hi : Int, hi = (s.2 : Int) := ⟨_, rfl⟩
        rw [← hlo] at c1
        rw [← hhi] at c2
        have HE := Lib.hid hs; have HL := Lib.hid hlo; have HH := Lib.hid hhi; have HSS := Lib.hid hss
        have hbz := hbw.size
        obtain ⟨i0, hi0, hz0, hz1, hz2⟩ := info_parts infoS
        clear hs hlo hhi hc hss
        generalize hgl : full (l.take k) = d at *
        have HD := Lib.hid hgl
        clear hgl
        by_cases he : hi < lo
        · go_wp2_with (go_at_call 23; (with_reducible refine (empty_is lo hi _).mono ?_); rintro e w1 ⟨rfl, hb1⟩; obtain ⟨hc1, hf1⟩ := bcell hb1)
          have hb2 : Below wr.heap.size wr w1 := Below.step ((Below.refl _ _).alloc (Nat.le_refl _) _) hb1
          go_roundw
          case rel =>
            refine ⟨k + 1, by omega, by go_num, ?_, hbw.trans (hb2.mono hbz)⟩
            have := HT.out
            rw [if_neg (by have := HL.out; have := HH.out; omega), List.append_nil] at this
            rw [this]
            exact hown.below hb2
          case measure => simp [intOf]; omega
        · have hd : decide (hi < lo) = false := by simpa using he
          go_wp2_with (first
            | (go_at_call 23; (with_reducible refine (empty_is lo hi _).mono ?_); rintro e w1 ⟨rfl, hb1⟩; obtain ⟨hc1, hf1⟩ := bcell hb1
               have hb2 : Below wr.heap.size wr w1 := Below.step ((Below.refl _ _).alloc (Nat.le_refl _) _) hb1
               have hown1 := hown.below hb2
               have hy1 := hb2.size)
            | (at_builtin; refine wpList_append_own _ rfl _ _ 22 rfl w.heap.size 33 i0 (.agg #[.int .u32 0, .int .u32 0]) 2 8 Tryd.underlying22 hi0 hz0 hz1 hz2 rfl (by decide) _ _ _ rfl (hown1.2.alloc _) ⟨w1.heap.size, 0, none⟩ 1 1 [.int .u32 lo, .int .u32 hi] rfl rfl (cell_two_new _ _ _ _) (fun x hx => by simp at hx; rcases hx with rfl | rfl <;> rfl) (by unfold maxLen; omega) (by omega) (by simp; omega) ?_; intro v' w3 hown3 hgrow3 hnil3))
          go_roundw
          case rel =>
            have HO := hown1.2.lt
            refine ⟨k + 1, by omega, by go_num, ?_, Below.grown ((hbw.trans (hb2.mono hbz)).alloc (by omega) _) hgrow3 (by simp; omega) (fun j hj => (HO _ hj).1)⟩
            have := HT.out
            rw [if_pos (by have := HL.out; have := HH.out; omega)] at this
            rw [this]
            refine ⟨fun t ht => ?_, ?_⟩
            · rcases List.mem_append.1 ht with ht | ht
              · exact hown.1 t ht
              · simp at ht; subst ht; exact HSS.out
            · rw [flatS_append, List.length_append]
              rw [HL.out, HH.out] at hown3
              exact hown3
          case measure => simp [intOf]; omega
      · obtain rfl : k = l.length := by omega
        rw [List.take_length] at hown
        have hfl := full_length l
        have HFL : ∀ s ∈ full l, s.1 ≤ s.2 ∧ s.1 < top ∧ s.2 < top := fun s hs => ⟨by simpa using (List.mem_filter.1 hs).2, HSM.out s (List.mem_filter.1 hs).1⟩
        have HHF : ∀ x, has (full l) x = has l x := has_full l
        have HK := Lib.hid HFL
        have HX := Lib.hid HHF
        clear HFL HHF hc
        generalize hgl : full l = d at *
        clear hgl
        go_wp2_with fail
        go_at_call 24
        refine (HS _ _ _ _ hown (by omega)).mono ?_
        rintro e w1 ⟨rfl, L, hownL, hlenL, hbL, hmem, hsort⟩
        have HM : Hid (∀ s ∈ L, s.1 ≤ s.2 ∧ s.1 < top ∧ s.2 < top) := Lib.hid fun s hs => HK.out s ((hmem s).1 hs)
        have HP : Hid (∀ x, has L x = has l x) := Lib.hid fun x => (has_perm hmem x).trans (HX.out x)
        have HSO := Lib.hid hsort
        have hbw1 := hbw.trans hbL
        clear hmem hsort hown hbw hbL
        have HLL := Lib.hid hlenL
        have hLb : L.length ≤ 1000000000 := by omega
        clear hlenL hb hle hcap
        rcases hownL.row with ⟨rfl, rfl⟩ | ⟨g, cp, rfl, hg, hle, hcap, hrow, hglt⟩
        · go_wp2
          refine wp_loop_rounds 1 ?_
          rw [rounds_succ]
          go_wp2
          go_ret
          refine ⟨_, rfl, ?_, hbw1⟩
          rw [← Glued.form (l := l) Glued.nil HP.out HSM.out.two]
          exact ⟨fun _ h => (by cases h), World.ownsRow_nil _ _ _ _⟩
        · clear hownL
          go_wp2
          go_loopw [6, 30] (fun v i wr => ∃ (k : Nat) (F : List (Nat × Nat)), k ≤ L.length ∧ i = .int .i64 k ∧ v = .slice (some ⟨g, 0, none⟩) F.length cp ∧ Hid (Glued (L.take k) F) ∧ Hid (Small F) ∧ Row wr g cp F L k ∧ Below w.heap.size w wr) (fun _ i _ => L.length - (intOf i).toNat)
          case atStart => exact ⟨0, [], Nat.zero_le _, rfl, rfl, Lib.hid Glued.nil, Lib.hid (fun _ h => (by cases h)), hrow, hbw1⟩
          case round =>
            obtain ⟨k, F, hk, rfl, rfl, HG, HF, hR, hbw⟩ := hrel
            have hFk : F.length ≤ k := Nat.le_trans HG.out.len (List.length_take_le _ _)
            have hbz := hbw.size
            have hgz := hR.lt
            by_cases hlt : k < L.length
            · obtain ⟨s, hs⟩ : ∃ s, L[k]? = some s := ⟨_, List.getElem?_eq_getElem hlt⟩
              obtain ⟨c1, c2⟩ := hR.cellL (Nat.le_refl _) hs
              have hss := HM.out s (List.mem_of_getElem? hs)
              have HT : Hid (L.take (k + 1) = L.take k ++ [s]) := Lib.hid (by rw [List.take_add_one, hs]; rfl)
              have HO : Hid (∀ u ∈ L.take k, u.1 ≤ s.1) := Lib.hid fun u hu => by
                obtain ⟨j, hj, rfl⟩ := List.getElem_of_mem hu
                rw [List.getElem_take]
                simp at hj
                obtain ⟨_, hs'⟩ := List.getElem?_eq_some_iff.1 hs
                rw [← hs']
                exact List.pairwise_iff_getElem.1 HSO.out j k (by omega) hlt (by omega)
              obtain ⟨lo, hlo⟩ : ∃ lo : Int, lo = (s.1 : Int) := ⟨_, rfl⟩
              obtain ⟨hi, hhi⟩ : ∃ hi : Int, hi = (s.2 : Int) := ⟨_, rfl⟩
              rw [← hlo] at c1
              rw [← hhi] at c2
              have b1 : 0 ≤ lo := by omega
              have b2 : lo ≤ hi := by omega
              have b3 : hi < 4294967296 := by have := hss.2.2; rw [top_def] at this; omega
              have HL := Lib.hid hlo; have HH := Lib.hid hhi; have HSS := Lib.hid hss; have HS1 := Lib.hid hs
              clear hlo hhi hss hs
              obtain ⟨i0, hi0, hz0, hz1, hz2⟩ := info_parts infoS
              rcases List.eq_nil_or_concat F with rfl | ⟨M, t, rfl⟩
              · have hk0 : k = 0 := by
                  rcases Nat.eq_zero_or_pos k with h | h
                  · exact h
                  · have h0 : L[0]? = some (L[0]'(by omega)) := List.getElem?_eq_getElem (by omega)
                    have h1 := HG.out.same (L[0]'(by omega)).1
                    have h2 : has (L.take k) (L[0]'(by omega)).1 = true := has_iff.2 ⟨_, List.mem_of_getElem? (i := 0) (by rw [List.getElem?_take, if_pos h]; exact h0), Nat.le_refl _, (HM.out _ (List.getElem_mem _)).1⟩
                    simp [h2, has_nil] at h1
                have HK0 := Lib.hid hk0
                clear hk0
                have hd : decide ((0 : Int) ≤ -1) = false := by decide
                have hW := (Below.refl wr.heap.size wr).alloc (Nat.le_refl _) (.cells #[.int .u32 lo, .int .u32 hi] 33)
                go_wp2
                go_quiet (fail)
                go_wp2_with (at_builtin; refine wpList_append_arg _ rfl _ _ 22 rfl 33 i0 (.agg #[.int .u32 0, .int .u32 0]) 2 8 Tryd.underlying22 hi0 hz0 hz1 hz2 rfl (by decide) g 0 0 cp [] rfl rfl (by simp) ⟨wr.heap.size + 1, 0, none⟩ 1 1 [.int .u32 lo, .int .u32 hi] rfl rfl ?c1 (fun x hx => by simp at hx; rcases hx with rfl | rfl <;> rfl) ?c2 (by unfold maxLen; omega) (by omega) ?c3 ?c4)
                case c1 => exact two_new (by simp) _ _ _
                case c2 => exact fun _ j hj => ⟨(hR.below (Below.alloc (Below.draws ((Below.refl _ _).alloc (Nat.le_refl _) _) _) (by simp) _)).there (by first | omega | (simp at hj; omega)), (hR.below (Below.alloc (Below.draws ((Below.refl _ _).alloc (Nat.le_refl _) _) _) (by simp) _)).free _⟩
                case c4 => intro h; omega
                case c3 =>
                  intro _
                  simp only [World.setCells]
                  go_wp2
                  go_roundw
                  case rel =>
                    refine ⟨k + 1, [s], by omega, by go_num, rfl, ?_, ?_, ?_, ?_⟩
                    · refine Lib.hid ?_
                      rw [HT.out]
                      rw [HK0.out, List.take_zero]
                      exact Glued.first HSS.out.1
                    · exact Lib.hid fun u hu => by simp at hu; subst hu; exact HSS.out.2
                    · have hq := fun (W : World) (hW : Below wr.heap.size wr W) => ((hR.below hW).later (Nat.le_succ k)).push (n := 0) rfl (by omega) (by omega) HL.out HH.out
                      simp only [Nat.zero_mul, Nat.zero_add, List.nil_append] at hq
                      exact (hq _ (Below.draws ((Below.refl _ _).alloc (Nat.le_refl _) _) _)).below ((Below.refl _ _).alloc (Nat.le_refl _) _)
                    · exact ((((Below.draws (hbw.alloc (by omega) _) _).setCell (p := ⟨g, _, none⟩) hg _).setCell (p := ⟨g, _, none⟩) hg _).alloc (by simp; omega) _)
                  case measure => simp [intOf]; omega
              · simp only [List.concat_eq_append] at *
                have hMl : (M ++ [t]).length = M.length + 1 := by simp
                obtain ⟨d1, d2⟩ := hR.cellF (k := M.length) (s := t) (by simp)
                have htt := HF.out t (by simp)
                obtain ⟨tl, htl⟩ : ∃ tl : Int, tl = (t.1 : Int) := ⟨_, rfl⟩
                obtain ⟨th, hth⟩ : ∃ th : Int, th = (t.2 : Int) := ⟨_, rfl⟩
                rw [← htl] at d1
                rw [← hth] at d2
                have hm1 : (M ++ [t]).length ≤ M.length + 1 := by omega
                have hm2 : M.length + 1 ≤ (M ++ [t]).length := by omega
                have b4 : 0 ≤ th := by omega
                have b5 : th < 4294967296 := by have := htt.2; rw [top_def] at this; omega
                have HTL := Lib.hid htl; have HTH := Lib.hid hth; have HTT := Lib.hid htt; have HML := Lib.hid hMl
                have hFk' : M.length + 1 ≤ k := by omega
                clear htl hth htt hMl hFk
                have x1 : (wr.alloc (.cells #[.int .u32 lo, .int .u32 hi] 33)).cell? ⟨g, M.length * 2, none⟩ = some (.int .u32 tl) := by go_simp
                have x2 : (wr.alloc (.cells #[.int .u32 lo, .int .u32 hi] 33)).cell? ⟨g, M.length * 2 + 1, none⟩ = some (.int .u32 th) := by go_simp
                have x3 : (wr.alloc (.cells #[.int .u32 lo, .int .u32 hi] 33)).cell? ⟨wr.heap.size, 0, none⟩ = some (.int .u32 lo) := by go_simp
                have y1 : g < (wr.alloc (.cells #[.int .u32 lo, .int .u32 hi] 33)).heap.size := by simp; omega
                have y2 : wr.heap.size < (wr.alloc (.cells #[.int .u32 lo, .int .u32 hi] 33)).heap.size := by simp
                have e1 : (0 : Int) ≤ (M.length : Int) := by omega
                go_wp2
                refine wp_region_grows (by kernel_rfl) (by kernel_rfl) ?_
                refine grows_fact _ _ _ x1 y1 fun r1 => ?_
                refine grows_fact _ _ _ x2 y1 fun r2 => ?_
                refine grows_fact _ _ _ x3 y2 fun r3 => ?_
                clear x1 x2 x3 d1 d2 c1 c2
                repeat (go_big_quiet_step ((go_at_call 18; exact Calls.grows_of (behind_is tl th _ b4 b5))))
                refine wpQuiet_nil ?_
                rintro w2 ⟨⟨_, hb2⟩, rfl⟩
                clear r1 r2 r3
                have hb3 : Below wr.heap.size wr w2 := Below.step ((Below.refl _ _).alloc (Nat.le_refl _) _) hb2
                have hR2 := hR.below hb3
                have q1 : w2.cell? ⟨g, M.length * 2 + 1, none⟩ = some (.int .u32 th) := (hR2.cellF (k := M.length) (s := t) (by simp)).2.trans (by rw [HTH.out])
                have q2 : w2.cell? ⟨wr.heap.size, 0, none⟩ = some (.int .u32 lo) := (hb2.cell (p := ⟨_, _, none⟩) (by simp)).trans (by go_simp)
                have q3 : w2.cell? ⟨wr.heap.size, 1, none⟩ = some (.int .u32 hi) := (hb2.cell (p := ⟨_, _, none⟩) (by simp)).trans (by go_simp)
                have q4 := hR2.free (M.length * 2 + 1)
                have hz2' := hb3.size
                by_cases hc : lo ≤ th + 1
                · have hd : decide (lo ≤ th + 1) = true := by simpa using hc
                  go_wp2
                  go_region
                  all_goals go_wp2
                  go_roundw
                  case rel =>
                    refine ⟨k + 1, M ++ [(t.1, max t.2 s.2)], by omega, by go_num, by simp, ?_, ?_, ?_, ?_⟩
                    · refine Lib.hid ?_
                      rw [HT.out]
                      exact HG.out.onto HO.out (by have := HL.out; have := HTH.out; omega)
                    · refine Lib.hid fun u hu => ?_
                      rcases List.mem_append.1 hu with hu | hu
                      · exact HF.out u (by simp [hu])
                      · simp at hu
                        subst hu
                        exact ⟨HTT.out.1, by have := HTT.out.2; have := HSS.out.2.2; simp only [Nat.max_def]; split <;> assumption⟩
                    · exact (hR2.raise (hi := if th < hi then hi else th) (m := max t.2 s.2) rfl (by omega) (by have := HH.out; have := HTH.out; split <;> omega) (by omega)).later (by omega)
                    · refine ((hbw.trans (hb3.mono hbz)).setCell ?_ _).drew; exact hg
                  case measure => simp [intOf]; omega
                · have hd : decide (lo ≤ th + 1) = false := by simpa using hc
                  have hR3 : Row (w2.alloc (.cells #[.int .u32 lo, .int .u32 hi] 33)) g cp (M ++ [t]) L k := hR2.below ((Below.refl _ _).alloc (Nat.le_refl _) _)
                  go_wp2_with (at_builtin; refine wpList_append_arg _ rfl _ _ 22 rfl 33 i0 (.agg #[.int .u32 0, .int .u32 0]) 2 8 Tryd.underlying22 hi0 hz0 hz1 hz2 rfl (by decide) g 0 (M ++ [t]).length cp (flatS (M ++ [t])) rfl (by rw [flatS_length]; omega) hR3.olds ⟨w2.heap.size, 0, none⟩ 1 1 [.int .u32 lo, .int .u32 hi] rfl rfl ?d1 (fun x hx => by simp at hx; rcases hx with rfl | rfl <;> rfl) ?d2 (by unfold maxLen; omega) (by omega) ?d3 ?d4)
                  go_outline
                  try (case d1 => exact two_new rfl _ _ _)
                  case d2 => exact fun _ j hj => ⟨hR3.there (by first | omega | (simp at hj; omega)), hR3.free _⟩
                  case d4 => intro h; omega
                  case d3 =>
                    intro _
                    simp only [World.setCells]
                    go_wp2
                    go_roundw
                    case rel =>
                      refine ⟨k + 1, M ++ [t] ++ [s], by omega, by go_num, by simp, ?_, ?_, ?_, ?_⟩
                      · refine Lib.hid ?_
                        rw [HT.out]
                        exact HG.out.behind HSS.out.1 (by have := HL.out; have := HTH.out; omega)
                      · refine Lib.hid fun u hu => ?_
                        rcases List.mem_append.1 hu with hu | hu
                        · exact HF.out u hu
                        · simp at hu; subst hu; exact HSS.out.2
                      · have := (hR3.later (Nat.le_succ k)).push (n := (M ++ [t]).length) rfl (by omega) (by omega) HL.out HH.out
                        rw [HML.out] at this
                        simpa only [Nat.zero_add] using this
                      · refine (((hbw.trans (hb3.mono hbz)).alloc (by omega) _).setCell ?_ _).setCell ?_ _ <;> exact hg
                    case measure => simp [intOf]; omega
            · go_wp2
              go_ret
              refine ⟨_, rfl, ?_, hbw⟩
              have h1 := HG.out
              rw [List.take_of_length_le (by omega)] at h1
              rw [← Glued.form h1 HP.out HSM.out.two]
              exact hR.own HF.out hg rfl (by omega) hcap
end Go.Proofs.YtbplkeopdfciiaaDoor
