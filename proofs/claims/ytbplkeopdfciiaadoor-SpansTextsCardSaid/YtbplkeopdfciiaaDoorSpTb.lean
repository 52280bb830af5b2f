/- Text of package spans: a set's text. Condition: the table of package strconv is what its text says. -/
import Derived.Test.YtbplkeopdfciiaaDoorSpForm
import Derived.Test.YtbplkeopdfciiaaDoorSpTa
import Derived.Test.YtbplkeopdfciiaaDoorSpTm
import Derived.Deep.AppendLies
namespace Go.Proofs.YtbplkeopdfciiaaDoor
open Go.RowKit
theorem box_at {W w : World} {g : Nat} {lo hi : Int} (hk : Lib.OthersKept 5 none W w) (hx : W.heap[g]? = some (.cells #[.int .u32 lo, .int .u32 hi] 33 (0, 0))) : w.cell? ⟨g, 0, none⟩ = some (.int .u32 lo) ∧ w.cell? ⟨g, 1, none⟩ = some (.int .u32 hi) := by
  have h := hk g _ hx (by simp) (by intro c fz e; simp at e)
  exact ⟨by rw [cell_of_heap h]; rfl, by rw [cell_of_heap h]; rfl⟩
set_option maxRecDepth 100000 in
set_option maxHeartbeats 4000000 in
theorem text_is (HS : Sorts) (l : List (Nat × Nat)) (v : Value) (w : World) (hr : Rd w v l) (hlen : l.length ≤ 1000000) (ht : Tab10 w) : Calls Tryd.prog 9 #[v] w fun e w' => e = .returned (.string ⟨(txt (Cn (has l))).toArray⟩) ∧ Below w.heap.size w w' := by
  obtain ⟨f, hf⟩ : ∃ f, Cn (has l) = f := ⟨_, rfl⟩
  have hfl : f.length ≤ 1000000 := by rw [← hf]; exact Nat.le_trans (CnHas_length hr.1.two) hlen
  have hform := form_any HS l v w hr (by omega)
  rw [hf] at hform ⊢
  have HFM := Lib.hid hform
  have HTA := Lib.hid ht
  clear hform hr ht hlen
  go_enter Tryd.func9, Tryd.ntmps9
  go_wp2_with fail
  go_at_call 12
  refine HFM.out.mono ?_
  rintro e w1 ⟨v1, rfl, ho1, hb1⟩
  obtain ⟨p, c, rfl, hlc, hcm, hcell⟩ := ho1.rd.sl
  have HSM := Lib.hid ho1.1
  have HBW := Lib.hid hb1
  have HT := Lib.hid (HTA.out.on hb1)
  have HC := Lib.hid hcell
  unfold maxLen at hcm
  clear ho1 hb1 hcell
  by_cases h0 : f.length = 0
  · have hf0 : f = [] := List.eq_nil_of_length_eq_zero h0
    subst hf0
    go_wp2
    go_ret
    exact ⟨rfl, HBW.out⟩
  · have h00 : ((f.length : Int) == 0) = false := by rw [beq_eq_false_iff_ne]; omega
    have HF0 : Hid (f ≠ []) := Lib.hid (fun e => h0 (by rw [e]; rfl))
    obtain ⟨i0, hi0, hz0, hz1, hz2⟩ := info_parts infoB
    clear h0
    go_wp2_with fail
    go_loopw [4, 14] (fun b i wr => ∃ (k : Nat) (bv : Value), k ≤ f.length ∧ i = .int .i64 k ∧ bv = b ∧ Hid (wr.ownsRow w1.heap.size 5 1 bv (txs (f.take k)).length (Lib.byteCells (txs (f.take k)))) ∧ Below w1.heap.size w1 wr) (fun _ i _ => f.length - (intOf i).toNat)
    case atStart => exact ⟨0, _, Nat.zero_le _, rfl, rfl, Lib.hid (by simp [txs, txb]; exact World.ownsRow_nil _ _ _ _), Below.refl _ _⟩
    case round =>
      obtain ⟨k, bv, hk, rfl, rfl, HOW0, hbw⟩ := hrel
      have HB0 := Lib.hid hbw
      clear hbw
      by_cases hlt : k < f.length
      · obtain ⟨⟨s1, s2⟩, hs⟩ : ∃ s, f[k]? = some s := ⟨_, List.getElem?_eq_getElem hlt⟩
        obtain ⟨bb, oo, rfl, hbb, hs1, hs2, hc⟩ := HC.out k _ hs
        obtain ⟨c0, c1⟩ := hc wr HB0.out
        obtain ⟨L, hL⟩ : ∃ L, txs (f.take k) = L := ⟨_, rfl⟩
        rw [hL] at HOW0
        have HLL : Hid (L.length ≤ 22000000) := Lib.hid (by
          rw [← hL]
          have := txs_len (l := f.take k) (fun s hs => HSM.out s (List.mem_of_mem_take hs))
          rw [List.length_take] at this
          omega)
        have HFK := Lib.hid hs
        have HS1 := Lib.hid hs1
        have HS2 := Lib.hid hs2
        have HD1 := Lib.hid (dgt_top hs1)
        have e1 : (0 : Int) ≤ (k : Int) := by omega
        have e2 : (k : Int) < (f.length : Int) := by omega
        simp only at c0 c1
        obtain ⟨lo, hlo⟩ : ∃ lo : Int, lo = (s1 : Int) := ⟨_, rfl⟩
        obtain ⟨hi, hhi⟩ : ∃ hi : Int, hi = (s2 : Int) := ⟨_, rfl⟩
        rw [← hlo] at c0
        rw [← hhi] at c1
        have lo1 : IntKind.u64.wrap lo = (s1 : Int) := by rw [hlo]; exact IntWalk.u64_in _ ⟨by omega, by have := HS1.out; unfold top at this; omega⟩
        have hi1 : IntKind.u64.wrap hi = (s2 : Int) := by rw [hhi]; exact IntWalk.u64_in _ ⟨by omega, by have := HS2.out; unfold top at this; omega⟩
        obtain ⟨W1, hW1⟩ : ∃ X, wr.alloc (.cells #[.int .u32 lo, .int .u32 hi] 33) = X := ⟨_, rfl⟩
        have HB1 : Hid (Below w1.heap.size w1 W1) := Lib.hid (by rw [← hW1]; exact HB0.out.alloc HB0.out.size _)
        have hx1 : W1.heap[wr.heap.size]? = some (.cells #[.int .u32 lo, .int .u32 hi] 33 (0, 0)) := by rw [← hW1]; exact heap_new _ _
        have HX1 := Lib.hid hx1
        have HK1 : Hid (Lib.OthersKept 5 none W1 W1) := Lib.hid (Lib.OthersKept.refl _ _ _)
        obtain ⟨y0, y1⟩ := box_at HK1.out HX1.out
        have HOW : Hid (W1.ownsRow w1.heap.size 5 1 bv L.length (Lib.byteCells L)) := Lib.hid (by rw [← hW1]; exact HOW0.out.alloc _)
        have HLO := Lib.hid hlo
        have HHI := Lib.hid hhi
        clear hs hs1 hs2 hc hbb hx1 hlo hhi
        by_cases hk0 : k = 0
        · subst hk0
          simp only [Nat.zero_mul, Nat.add_zero] at c0 c1
          have HTX : Hid (txs (f.take (0 + 1)) = L ++ oneT (s1, s2)) := Lib.hid (by rw [show L = [] by rw [← hL]; simp [txs, txb]]; rw [List.nil_append]; exact txs_first HFK.out)
          by_cases heq : s1 = s2
          · have HEQ := Lib.hid heq
            have heqI : (lo != hi) = false := by rw [HLO.out, HHI.out, heq]; simp
            clear heq
            go_wp2_with fail
            go_at_call 21
            refine (app_is w1.heap.size _ s1 _ _ _ (by have := HS1.out; unfold top at this; omega) HOW.out HB1.out.size (by have := HLL.out; omega) (HT.out.on HB1.out)).mono ?_
            rintro e w4 ⟨v4, rfl, ho4, hb4, hk4⟩
            have HB4 := Lib.hid (HB1.out.trans hb4)
            have HO4 : Hid (w4.ownsRow w1.heap.size 5 1 v4 (L.length + (Lib.decDigits s1).length) (Lib.byteCells (L ++ Lib.decDigits s1))) := Lib.hid (by rw [Lib.byteCells_append]; exact ho4)
            have HK4 := Lib.hid (HK1.out.trans hk4)
            clear y0 y1
            obtain ⟨y0, y1⟩ := box_at HK4.out HX1.out
            clear ho4 hb4 hk4
            go_wp2_with fail
            go_roundw
            case rel => exact ⟨0 + 1, v4, by omega, by go_num, rfl, Lib.hid (by rw [show txs (f.take (0 + 1)) = (L ++ Lib.decDigits s1) by rw [HTX.out]; unfold oneT; first | (rw [if_pos HEQ.out]; simp; done) | (rw [if_neg HEQ.out]; simp; done)]; have := HO4.out; simpa only [List.length_append, List.length_cons, List.length_nil, Nat.add_assoc, Nat.zero_add] using this), HB4.out⟩
            case measure => simp [intOf]; omega
          · have HEQ := Lib.hid heq
            have heqI : (lo != hi) = true := by rw [HLO.out, HHI.out]; simp; omega
            clear heq
            go_wp2_with fail
            go_at_call 21
            refine (app_is w1.heap.size _ s1 _ _ _ (by have := HS1.out; unfold top at this; omega) HOW.out HB1.out.size (by have := HLL.out; omega) (HT.out.on HB1.out)).mono ?_
            rintro e w4 ⟨v4, rfl, ho4, hb4, hk4⟩
            have HB4 := Lib.hid (HB1.out.trans hb4)
            have HO4 : Hid (w4.ownsRow w1.heap.size 5 1 v4 (L.length + (Lib.decDigits s1).length) (Lib.byteCells (L ++ Lib.decDigits s1))) := Lib.hid (by rw [Lib.byteCells_append]; exact ho4)
            have HK4 := Lib.hid (HK1.out.trans hk4)
            clear y0 y1
            obtain ⟨y0, y1⟩ := box_at HK4.out HX1.out
            clear ho4 hb4 hk4
            go_wp2_with (first | (at_builtin; refine wpList_append_own _ rfl _ _ 43 rfl w1.heap.size 5 i0 (.int .u8 0) 1 1 Tryd.underlying43 hi0 hz0 hz1 hz2 rfl (by decide) _ _ _ rfl (HO4.out.alloc _) ⟨w4.heap.size, 0, none⟩ 1 1 [.int .u8 45] rfl rfl (cell_one_new _ _ _) (fun x hx => by simp at hx; rcases hx with rfl; rfl) (by have := HLL.out; have := HD1.out; unfold maxLen; omega) (by have := HLL.out; have := HD1.out; omega) (by simp; have := HB4.out.size; omega) ?_; intro v5 w5 ho5 hgw5 hnw5; have HB5 : Hid (Below w1.heap.size w1 w5) := Lib.hid (Below.grown (HB4.out.alloc HB4.out.size _) hgw5 (by simp; have := HB4.out.size; omega) (fun j hj => (HO4.out.lt _ hj).1)); have HO5 : Hid (w5.ownsRow w1.heap.size 5 1 v5 (L.length + (Lib.decDigits s1).length + 1) (Lib.byteCells (L ++ Lib.decDigits s1 ++ [45]))) := Lib.hid (by rw [Lib.byteCells_append]; exact ho5); have HK5 : Hid (Lib.OthersKept 5 none W1 w5) := Lib.hid ((HK4.out.alloc _).grown hgw5 (Lib.ownsRow_kind (HO4.out.alloc _))); clear y0 y1; obtain ⟨y0, y1⟩ := box_at HK5.out HX1.out; clear ho5 hgw5 hnw5))
            go_at_call 21
            refine (app_is w1.heap.size _ s2 _ _ _ (by have := HS2.out; unfold top at this; omega) HO5.out HB5.out.size (by have := HLL.out; have := HD1.out; omega) (HT.out.on HB5.out)).mono ?_
            rintro e w6 ⟨v6, rfl, ho6, hb6, _⟩
            have HB6 := Lib.hid (HB5.out.trans hb6)
            have HO6 : Hid (w6.ownsRow w1.heap.size 5 1 v6 (L.length + (Lib.decDigits s1).length + 1 + (Lib.decDigits s2).length) (Lib.byteCells (L ++ Lib.decDigits s1 ++ [45] ++ Lib.decDigits s2))) := Lib.hid (by rw [Lib.byteCells_append]; exact ho6)
            clear ho6 hb6
            go_wp2_with fail
            go_roundw
            case rel => exact ⟨0 + 1, v6, by omega, by go_num, rfl, Lib.hid (by rw [show txs (f.take (0 + 1)) = (L ++ Lib.decDigits s1 ++ [45] ++ Lib.decDigits s2) by rw [HTX.out]; unfold oneT; first | (rw [if_pos HEQ.out]; simp; done) | (rw [if_neg HEQ.out]; simp; done)]; have := HO6.out; simpa only [List.length_append, List.length_cons, List.length_nil, Nat.add_assoc, Nat.zero_add] using this), HB6.out⟩
            case measure => simp [intOf]; omega
        · have g0 : (0 : Int) < (k : Int) := by omega
          have HTX : Hid (txs (f.take (k + 1)) = L ++ [44] ++ oneT (s1, s2)) := Lib.hid (by rw [← hL, txs_next (by omega) HFK.out]; simp)
          by_cases heq : s1 = s2
          · have HEQ := Lib.hid heq
            have heqI : (lo != hi) = false := by rw [HLO.out, HHI.out, heq]; simp
            clear heq
            go_wp2_with (first | (at_builtin; refine wpList_append_own _ rfl _ _ 43 rfl w1.heap.size 5 i0 (.int .u8 0) 1 1 Tryd.underlying43 hi0 hz0 hz1 hz2 rfl (by decide) _ _ _ rfl (HOW.out.alloc _) ⟨W1.heap.size, 0, none⟩ 1 1 [.int .u8 44] rfl rfl (cell_one_new _ _ _) (fun x hx => by simp at hx; rcases hx with rfl; rfl) (by have := HLL.out; have := HD1.out; unfold maxLen; omega) (by have := HLL.out; have := HD1.out; omega) (by simp; have := HB1.out.size; omega) ?_; intro v3 w3 ho3 hgw3 hnw3; have HB3 : Hid (Below w1.heap.size w1 w3) := Lib.hid (Below.grown (HB1.out.alloc HB1.out.size _) hgw3 (by simp; have := HB1.out.size; omega) (fun j hj => (HOW.out.lt _ hj).1)); have HO3 : Hid (w3.ownsRow w1.heap.size 5 1 v3 (L.length + 1) (Lib.byteCells (L ++ [44]))) := Lib.hid (by rw [Lib.byteCells_append]; exact ho3); have HK3 : Hid (Lib.OthersKept 5 none W1 w3) := Lib.hid ((HK1.out.alloc _).grown hgw3 (Lib.ownsRow_kind (HOW.out.alloc _))); clear y0 y1; obtain ⟨y0, y1⟩ := box_at HK3.out HX1.out; clear ho3 hgw3 hnw3))
            go_at_call 21
            refine (app_is w1.heap.size _ s1 _ _ _ (by have := HS1.out; unfold top at this; omega) HO3.out HB3.out.size (by have := HLL.out; omega) (HT.out.on HB3.out)).mono ?_
            rintro e w4 ⟨v4, rfl, ho4, hb4, hk4⟩
            have HB4 := Lib.hid (HB3.out.trans hb4)
            have HO4 : Hid (w4.ownsRow w1.heap.size 5 1 v4 (L.length + 1 + (Lib.decDigits s1).length) (Lib.byteCells (L ++ [44] ++ Lib.decDigits s1))) := Lib.hid (by rw [Lib.byteCells_append]; exact ho4)
            have HK4 := Lib.hid (HK3.out.trans hk4)
            clear y0 y1
            obtain ⟨y0, y1⟩ := box_at HK4.out HX1.out
            clear ho4 hb4 hk4
            go_wp2_with fail
            go_roundw
            case rel => exact ⟨k + 1, v4, by omega, by go_num, rfl, Lib.hid (by rw [show txs (f.take (k + 1)) = (L ++ [44] ++ Lib.decDigits s1) by rw [HTX.out]; unfold oneT; first | (rw [if_pos HEQ.out]; simp; done) | (rw [if_neg HEQ.out]; simp; done)]; have := HO4.out; simpa only [List.length_append, List.length_cons, List.length_nil, Nat.add_assoc, Nat.zero_add] using this), HB4.out⟩
            case measure => simp [intOf]; omega
          · have HEQ := Lib.hid heq
            have heqI : (lo != hi) = true := by rw [HLO.out, HHI.out]; simp; omega
            clear heq
            go_wp2_with (first | (at_builtin; refine wpList_append_own _ rfl _ _ 43 rfl w1.heap.size 5 i0 (.int .u8 0) 1 1 Tryd.underlying43 hi0 hz0 hz1 hz2 rfl (by decide) _ _ _ rfl (HOW.out.alloc _) ⟨W1.heap.size, 0, none⟩ 1 1 [.int .u8 44] rfl rfl (cell_one_new _ _ _) (fun x hx => by simp at hx; rcases hx with rfl; rfl) (by have := HLL.out; have := HD1.out; unfold maxLen; omega) (by have := HLL.out; have := HD1.out; omega) (by simp; have := HB1.out.size; omega) ?_; intro v3 w3 ho3 hgw3 hnw3; have HB3 : Hid (Below w1.heap.size w1 w3) := Lib.hid (Below.grown (HB1.out.alloc HB1.out.size _) hgw3 (by simp; have := HB1.out.size; omega) (fun j hj => (HOW.out.lt _ hj).1)); have HO3 : Hid (w3.ownsRow w1.heap.size 5 1 v3 (L.length + 1) (Lib.byteCells (L ++ [44]))) := Lib.hid (by rw [Lib.byteCells_append]; exact ho3); have HK3 : Hid (Lib.OthersKept 5 none W1 w3) := Lib.hid ((HK1.out.alloc _).grown hgw3 (Lib.ownsRow_kind (HOW.out.alloc _))); clear y0 y1; obtain ⟨y0, y1⟩ := box_at HK3.out HX1.out; clear ho3 hgw3 hnw3))
            go_at_call 21
            refine (app_is w1.heap.size _ s1 _ _ _ (by have := HS1.out; unfold top at this; omega) HO3.out HB3.out.size (by have := HLL.out; omega) (HT.out.on HB3.out)).mono ?_
            rintro e w4 ⟨v4, rfl, ho4, hb4, hk4⟩
            have HB4 := Lib.hid (HB3.out.trans hb4)
            have HO4 : Hid (w4.ownsRow w1.heap.size 5 1 v4 (L.length + 1 + (Lib.decDigits s1).length) (Lib.byteCells (L ++ [44] ++ Lib.decDigits s1))) := Lib.hid (by rw [Lib.byteCells_append]; exact ho4)
            have HK4 := Lib.hid (HK3.out.trans hk4)
            clear y0 y1
            obtain ⟨y0, y1⟩ := box_at HK4.out HX1.out
            clear ho4 hb4 hk4
            go_wp2_with (first | (at_builtin; refine wpList_append_own _ rfl _ _ 43 rfl w1.heap.size 5 i0 (.int .u8 0) 1 1 Tryd.underlying43 hi0 hz0 hz1 hz2 rfl (by decide) _ _ _ rfl (HO4.out.alloc _) ⟨w4.heap.size, 0, none⟩ 1 1 [.int .u8 45] rfl rfl (cell_one_new _ _ _) (fun x hx => by simp at hx; rcases hx with rfl; rfl) (by have := HLL.out; have := HD1.out; unfold maxLen; omega) (by have := HLL.out; have := HD1.out; omega) (by simp; have := HB4.out.size; omega) ?_; intro v5 w5 ho5 hgw5 hnw5; have HB5 : Hid (Below w1.heap.size w1 w5) := Lib.hid (Below.grown (HB4.out.alloc HB4.out.size _) hgw5 (by simp; have := HB4.out.size; omega) (fun j hj => (HO4.out.lt _ hj).1)); have HO5 : Hid (w5.ownsRow w1.heap.size 5 1 v5 (L.length + 1 + (Lib.decDigits s1).length + 1) (Lib.byteCells (L ++ [44] ++ Lib.decDigits s1 ++ [45]))) := Lib.hid (by rw [Lib.byteCells_append]; exact ho5); have HK5 : Hid (Lib.OthersKept 5 none W1 w5) := Lib.hid ((HK4.out.alloc _).grown hgw5 (Lib.ownsRow_kind (HO4.out.alloc _))); clear y0 y1; obtain ⟨y0, y1⟩ := box_at HK5.out HX1.out; clear ho5 hgw5 hnw5))
            go_at_call 21
            refine (app_is w1.heap.size _ s2 _ _ _ (by have := HS2.out; unfold top at this; omega) HO5.out HB5.out.size (by have := HLL.out; have := HD1.out; omega) (HT.out.on HB5.out)).mono ?_
            rintro e w6 ⟨v6, rfl, ho6, hb6, _⟩
            have HB6 := Lib.hid (HB5.out.trans hb6)
            have HO6 : Hid (w6.ownsRow w1.heap.size 5 1 v6 (L.length + 1 + (Lib.decDigits s1).length + 1 + (Lib.decDigits s2).length) (Lib.byteCells (L ++ [44] ++ Lib.decDigits s1 ++ [45] ++ Lib.decDigits s2))) := Lib.hid (by rw [Lib.byteCells_append]; exact ho6)
            clear ho6 hb6
            go_wp2_with fail
            go_roundw
            case rel => exact ⟨k + 1, v6, by omega, by go_num, rfl, Lib.hid (by rw [show txs (f.take (k + 1)) = (L ++ [44] ++ Lib.decDigits s1 ++ [45] ++ Lib.decDigits s2) by rw [HTX.out]; unfold oneT; first | (rw [if_pos HEQ.out]; simp; done) | (rw [if_neg HEQ.out]; simp; done)]; have := HO6.out; simpa only [List.length_append, List.length_cons, List.length_nil, Nat.add_assoc, Nat.zero_add] using this), HB6.out⟩
            case measure => simp [intOf]; omega
      · have htk : f.take k = f := List.take_of_length_le (by omega)
        rw [htk] at HOW0
        have ho := HOW0.out
        obtain ⟨L, hL⟩ : ∃ L, txs f = L := ⟨_, rfl⟩
        rw [hL] at ho
        have hne : 0 < L.length := by
          rw [← hL]
          cases f with
          | nil => exact absurd rfl HF0.out
          | cons s f => have := List.length_pos_iff.2 (oneT_ne s); simp [txs, txb]; omega
        obtain ⟨g, cap, hv, _, _⟩ := World.ownsRow.form ho hne
        subst hv
        have hcv := conv_bytes ho
        have HLX : Hid (txt f = L) := Lib.hid (by unfold txt; rw [if_neg HF0.out, hL])
        have e2 : ¬ (k : Int) < (f.length : Int) := by omega
        clear ho hne hL HOW0
        go_wp2
        go_ret
        exact ⟨by rw [HLX.out]; rfl, Below.step HBW.out HB0.out⟩
end Go.Proofs.YtbplkeopdfciiaaDoor
