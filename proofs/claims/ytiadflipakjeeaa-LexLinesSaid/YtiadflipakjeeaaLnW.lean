/- What words of package waymarkref07 hands back. Under the conditions that it names. -/
import Derived.Test.YtiadflipakjeeaaLnC
import Derived.Deep.CutBlock
import Derived.Deep.DeepCutAuto
import Derived.Deep.RegionLaw
import Derived.Deep.AppendLies
import Derived.IntWalk
namespace Go.Proofs.Ytiadflipakjeeaa
open Go.RowKit
theorem infoRWd : (Try.prog.info? 58).map (fun i => (i.zero, i.size, i.bytes)) = some (some (.agg #[.string ⟨#[]⟩, .int .i64 0, .int .i64 0]), 3, 32) := by kernel_rfl
theorem wds_col (t : List UInt8) (x : List UInt8) (c : Int) (ws : List (List UInt8 × Int)) (h : wds t = (x, c) :: ws) : c = 1 + nS t := by
  unfold wds at h
  cases hf : t.length with
  | zero => rw [hf] at h; simp [wdsR] at h
  | succ f =>
    rw [hf] at h
    unfold wdsR at h
    split at h
    · simp at h
    · simp only [List.cons.injEq, Prod.mk.injEq] at h
      exact h.1.2.symm
theorem wdB_mk {W W5 w9 : World} {n g9 cap9 : Nat} {ind : Int} {sv : Value} {o : Obj} {xs : List Value} (h1 : W5.heap[W.heap.size + 1]? = some (.cells #[.int .i64 ind, sv] 56 (0, 0))) (h0 : W5.heap[W.heap.size]? = some (.cells #[.int .i64 0, .slice none 0 0] 56 (0, 0)))
    (hb : Below W.heap.size W W5) (hvb : ∀ x, sv.ownBlock = some x → W.heap.size + 2 ≤ x) (hgr : (W5.drew.alloc o).grownBy w9 sv.ownBlock) (hown : w9.ownsRow (W.heap.size + 2) 58 3 (.slice (some ⟨g9, 0, none⟩) (n + 1) cap9) (n + 1) xs) :
    (w9.setCell ⟨W.heap.size + 1, 1, none⟩ (.slice (some ⟨g9, 0, none⟩) (n + 1) cap9)).heap[W.heap.size + 1]? = some (.cells #[.int .i64 ind, .slice (some ⟨g9, 0, none⟩) (n + 1) cap9] 56 (0, 0)) ∧
    (w9.setCell ⟨W.heap.size + 1, 1, none⟩ (.slice (some ⟨g9, 0, none⟩) (n + 1) cap9)).heap[W.heap.size]? = some (.cells #[.int .i64 0, .slice none 0 0] 56 (0, 0)) ∧
    (w9.setCell ⟨W.heap.size + 1, 1, none⟩ (.slice (some ⟨g9, 0, none⟩) (n + 1) cap9)).ownsRow (W.heap.size + 2) 58 3 (.slice (some ⟨g9, 0, none⟩) (n + 1) cap9) (n + 1) xs ∧
    Below W.heap.size W (w9.setCell ⟨W.heap.size + 1, 1, none⟩ (.slice (some ⟨g9, 0, none⟩) (n + 1) cap9)) := by
  have hs5 := hb.size
  have hlt : W.heap.size + 1 < W5.heap.size := (Array.getElem?_eq_some_iff.1 h1).1
  have k9 : ∀ x, x ≤ W.heap.size + 1 → w9.heap[x]? = W5.heap[x]? := fun x hx => (hgr.block x (by simp; omega) (fun e => by have := hvb x e.symm; omega)).trans (heap_alloc_old W5.drew _ (by simp; omega))
  have k8 : ∀ x, x ≠ W.heap.size + 1 → (w9.setCell ⟨W.heap.size + 1, 1, none⟩ (.slice (some ⟨g9, 0, none⟩) (n + 1) cap9)).heap[x]? = w9.heap[x]? := fun x hx => Below.heap_setCell w9 ⟨W.heap.size + 1, 1, none⟩ _ x (by simpa using hx)
  refine ⟨Lib.heap_setCell_same (i := 1) ((k9 _ (Nat.le_refl _)).trans h1) _, (k8 _ (by omega)).trans ((k9 _ (by omega)).trans h0), ownsRow_of hown (fun x _ hx _ => k8 x (by omega)), ?_⟩
  refine ⟨hgr.os.trans hb.os, hgr.tape.trans hb.tape, hgr.output.trans hb.output, ?_, fun x hx => (k8 x (by omega)).trans ((k9 x (by omega)).trans (hb.block x hx))⟩
  have := hgr.size
  simp at this ⊢; omega
/-- What words hands back. -/
def WdsPost (t : List UInt8) (num : Int) (W : World) (e : Ending) (w' : World) : Prop := ∃ (wv : Value) (ind : Nat), e = .returned (.agg #[.int .i64 ind, wv]) ∧ (wds t ≠ [] → ind = nS t) ∧ w'.ownsRow W.heap.size 58 3 wv (wds t).length ((wds t).flatMap (wdC num)) ∧ Below W.heap.size W w'
set_option maxRecDepth 100000 in
set_option maxHeartbeats 16000000 in
theorem words_is (t : List UInt8) (num : Int) (W : World) (ht : noNl t) (hl : t.length ≤ 65536) :
    Calls Try.prog 17 #[.string ⟨t.toArray⟩, .int .i64 num] W (WdsPost t num W) := by
  have hsz := mk_size t
  have HNL := Lib.hid ht
  obtain ⟨WT, hWT⟩ : ∃ WT, wds t = WT := ⟨_, rfl⟩
  have HWT := Lib.hid hWT
  clear ht hWT
  go_enter Try.func17, Try.ntmps17
  go_wp2_with fail
  go_loopw [6, 7] (fun s6 s7 wr => ∃ (d : List (List UInt8 × Int)) (i : Nat) (sv : Value) (ind : Nat), i ≤ t.length + 1 ∧ s7 = .int .i64 i ∧ ((s6 = .int .i64 (-1) ∧ Hid (WT = d ++ wk t i)) ∨ (∃ a : Nat, s6 = .int .i64 a ∧ a < t.length ∧ Hid (i + nB (t.drop i) = a + nB (t.drop a)) ∧ Hid (WT = d ++ ((t.drop a).take (nB (t.drop a)), 1 + (a : Int)) :: wk t (a + nB (t.drop a))))) ∧ wr.heap[W.heap.size + 1]? = some (.cells #[.int .i64 ind, sv] 56 (0, 0)) ∧ wr.heap[W.heap.size]? = some (.cells #[.int .i64 0, .slice none 0 0] 56 (0, 0)) ∧ wr.ownsRow (W.heap.size + 2) 58 3 sv d.length (d.flatMap (wdC num)) ∧ Below W.heap.size W wr ∧ Hid (d ≠ [] → ind = nS t)) (fun _ s7 _ => t.length + 1 - (intOf s7).toNat)
  case atStart =>
    refine ⟨[], 0, .slice none 0 0, 0, by omega, rfl, .inl ⟨rfl, Lib.hid (by rw [← HWT.out, wk_all]; rfl)⟩, ?_, ?_, World.ownsRow_nil _ _ _ _, ((Below.refl _ _).alloc (Nat.le_refl _) _).alloc (by simp) _, Lib.hid (fun h => absurd rfl h)⟩
    · have := heap_alloc_new (W.alloc (.cells #[.int .i64 0, .slice none 0 0] 56)) (.cells #[.int .i64 0, .slice none 0 0] 56)
      rw [World.size_alloc] at this
      exact this
    · exact (heap_alloc_old _ _ (by simp)).trans (heap_alloc_new W _)
  case round =>
    obtain ⟨d, i, sv, ind, hi, rfl, hst, hL1, hL0, hown, hbw, HIND⟩ := hrel
    obtain ⟨p, q, rfl⟩ := own_sl hown
    obtain ⟨x0, xf0⟩ := row_cell' (j := 0) hL1 rfl
    obtain ⟨x1, xf1⟩ := row_cell' (j := 1) hL1 rfl
    obtain ⟨y0, yf0⟩ := row_cell' (j := 0) hL0 rfl
    obtain ⟨y1, yf1⟩ := row_cell' (j := 1) hL0 rfl
    have hB1 : W.heap.size + 1 < wr.heap.size := (Array.getElem?_eq_some_iff.1 hL1).1
    have HL1 := Lib.hid hL1; have HL0 := Lib.hid hL0; have HOWN := Lib.hid hown; have HBW := Lib.hid hbw
    clear hL1 hL0 hown hbw
    by_cases hlt : i ≤ t.length
    · have hile : (i : Int) ≤ (t.length : Int) := by omega
      rcases Nat.lt_or_eq_of_le hlt with hil | hil
      · have hi1 : i < (⟨t.toArray⟩ : ByteArray).size := by rw [mk_size]; exact hil
        have hii : (i : Int) < (t.length : Int) := by omega
        have f32 := byte_eq t i hi1 hil 32 32 rfl
        by_cases h32 : t[i] = 32
        · have hnb := nB_at hil h32
          have hsp := wk_sp hil h32
          have n32 : ((((⟨t.toArray⟩ : ByteArray)[i]'hi1).toNat : Int) != 32) = false := by rw [beq_iff_eq.2 h32] at f32; simp only [bne, f32]; rfl
          clear f32 h32
          rcases hst with ⟨rfl, HT⟩ | ⟨a, rfl, ha, HJ, HT⟩
          · have HT2 : Hid (WT = d ++ wk t (i + 1)) := Lib.hid (by rw [← hsp]; exact HT.out)
            clear hnb hsp
            go_wp2_with fail
            go_roundw
            case rel => exact ⟨d, i + 1, _, ind, by omega, by go_num, .inl ⟨rfl, HT2⟩, HL1.out, HL0.out, HOWN.out, HBW.out, HIND⟩
            case measure => first | (simp [intOf]; done) | (simp [intOf]; omega)
          · have hnext : wk t i = wk t (i + 1) := hsp
            clear hsp
            have hJ : i = a + nB (t.drop a) := by have := HJ.out; rw [hnb] at this; omega
            have hal := nB_le (t.drop a)
            have hdl : (t.drop a).length = t.length - a := List.length_drop
            obtain ⟨tx, htx⟩ : ∃ tx, (t.drop a).take (nB (t.drop a)) = tx := ⟨_, rfl⟩
            have hWT := HT.out
            have hxt := ext_mid t a i
            have hai : i - a = nB (t.drop a) := by omega
            rw [hai, htx] at hxt
            rw [htx, ← hJ] at hWT
            have HT2 : Hid (WT = (d ++ [(tx, 1 + (a : Int))]) ++ wk t i) := Lib.hid (by rw [hWT]; simp)
            have HT3 : Hid (WT = (d ++ [(tx, 1 + (a : Int))]) ++ wk t (i + 1)) := Lib.hid (by rw [HT2.out, hnext])
            have hai2 : (a : Int) ≤ (i : Int) := by omega
            have hil2 : (i : Int) ≤ (t.length : Int) := by omega
            have hwa : IntKind.i64.wrap ((a : Int) + 1) = (a : Int) + 1 := IntWalk.i64_in _ (by omega)
            have ha0 : ¬ (a : Int) < 0 := by omega
            obtain ⟨i0, hi0, hy0, hy1, hy2⟩ := info_parts infoRWd
            have hac : 1 + (a : Int) = (a : Int) + 1 := by omega
            have HAC := Lib.hid hac
            clear hnb hJ hal hdl htx hWT hai hnext hac HT HJ
            have hdl65 : d.length ≤ 65536 := by
              have h1 := wds_len t
              rw [HWT.out, HT2.out, List.length_append, List.length_append] at h1
              omega
            by_cases hd0 : d.length = 0
            · have HIA : Hid (a = nS t) := Lib.hid (by
                have h := HT2.out
                rw [List.length_eq_zero_iff.1 hd0, ← HWT.out] at h
                have := wds_col t _ _ _ h
                omega)
              have hd1 : ((d.length : Int) == 0) = true := by simp [hd0]
              have HD0 := Lib.hid hd0
              clear hd0
              go_wp2_with fail
              obtain ⟨W5, hW5⟩ : ∃ W5, wr.setCell ⟨W.heap.size + 1, 0, none⟩ (.int .i64 a) = W5 := ⟨_, rfl⟩
              have k5 : ∀ x, x ≠ W.heap.size + 1 → W5.heap[x]? = wr.heap[x]? := fun x hx => by rw [← hW5]; exact Below.heap_setCell wr ⟨W.heap.size + 1, 0, none⟩ _ x (by simpa using hx)
              have hL1 : W5.heap[W.heap.size + 1]? = some (.cells #[.int .i64 a, .slice p d.length q] 56 (0, 0)) := by rw [← hW5]; exact Lib.heap_setCell_same (i := 0) HL1.out _
              have hL0 := (k5 W.heap.size (by omega)).trans HL0.out
              have hown : W5.ownsRow (W.heap.size + 2) 58 3 (.slice p d.length q) d.length (d.flatMap (wdC num)) := ownsRow_of HOWN.out (fun x _ hx _ => k5 x (by omega))
              have hbw : Below W.heap.size W W5 := by rw [← hW5]; exact HBW.out.setCell (p := ⟨W.heap.size + 1, 0, none⟩) (by simp) _
              rw [hW5]
              clear hW5 k5 HL1 HL0 HOWN HBW x0 xf0 x1 xf1 y0 yf0 y1 yf1 hB1
              obtain ⟨x1, xf1⟩ := row_cell' (j := 1) hL1 rfl
              have hB1 : W.heap.size + 1 < W5.heap.size := (Array.getElem?_eq_some_iff.1 hL1).1
              have HL1 := Lib.hid hL1; have HL0 := Lib.hid hL0; have HOWN := Lib.hid hown; have HBW := Lib.hid hbw
              clear hL1 hL0 hown hbw
              have HVB : Hid (∀ x, (Value.slice p d.length q).ownBlock = some x → W.heap.size + 2 ≤ x) := Lib.hid (fun x hx => (HOWN.out.lt x hx).1)
              go_region_law ((refine step_append_lies _ (by rfl) (.tmp 36) (.tmp 46) 54 (by rfl) (W.heap.size + 2) 58 i0 (.agg #[.string ⟨#[]⟩, .int .i64 0, .int .i64 0]) 3 32 Try.underlying54 hi0 hy0 hy1 hy2 rfl (by decide) _ _ _ (by rfl) (World.ownsRow.alloc (show World.ownsRow W5.drew _ _ _ _ _ _ from HOWN.out) _) ⟨W5.heap.size, 0, none⟩ 1 1 [.string ⟨tx.toArray⟩, .int .i64 num, .int .i64 ((a : Int) + 1)] (by rfl) rfl (World.news_of_block (heap_alloc_new W5.drew _)) (fun x hx => by simp at hx; rcases hx with rfl | rfl | rfl <;> rfl) (by omega) (by unfold maxLen; omega) (by omega) (by simp; omega) _ rfl ?_); intro g9 cap9 w9 hown9 hgr9 hor9 hlt9; (have v1 : w9.cell? ⟨W.heap.size + 1, 1, none⟩ = some (.slice p d.length q) := World.grownBy.cell hgr9 (by first | exact (World.cell?_alloc_some _ _ _ _ x1) | simp [x1, World.cell?_alloc_some]) (fun h => by have := HVB.out _ h.symm; simp at this)); (have v4 : w9.frozen? ⟨W.heap.size + 1, 1, none⟩ = false := (World.grownBy.frozen_far hgr9 ⟨W.heap.size + 1, 1, none⟩ (by simp; omega) (fun h => by have := HVB.out _ h.symm; simp at this)).trans ((World.frozen?_alloc_past _ _ _ (show W.heap.size + 1 < W5.heap.size from hB1)).trans xf1)))
              all_goals
                obtain ⟨m1, m2, m3, m4⟩ := wdB_mk HL1.out HL0.out HBW.out HVB.out hgr9 hown9
                go_wp2_with fail
                go_roundw
                case rel => exact ⟨d ++ [(tx, 1 + (a : Int))], i + 1, _, a, by omega, by go_num, .inl ⟨rfl, HT3⟩, m1, m2, by rw [List.length_append, List.flatMap_append]; simpa [wdC, HAC.out] using m3, m4, Lib.hid (fun _ => HIA.out)⟩
                case measure => first | (simp [intOf]; done) | (simp [intOf]; omega)
            · have hd1 : ((d.length : Int) == 0) = false := by simp [hd0]
              have HD0 := Lib.hid hd0
              clear hd0
              go_wp2_with fail
              have HVB : Hid (∀ x, (Value.slice p d.length q).ownBlock = some x → W.heap.size + 2 ≤ x) := Lib.hid (fun x hx => (HOWN.out.lt x hx).1)
              go_region_law ((refine step_append_lies _ (by rfl) (.tmp 36) (.tmp 46) 54 (by rfl) (W.heap.size + 2) 58 i0 (.agg #[.string ⟨#[]⟩, .int .i64 0, .int .i64 0]) 3 32 Try.underlying54 hi0 hy0 hy1 hy2 rfl (by decide) _ _ _ (by rfl) (World.ownsRow.alloc (show World.ownsRow wr.drew _ _ _ _ _ _ from HOWN.out) _) ⟨wr.heap.size, 0, none⟩ 1 1 [.string ⟨tx.toArray⟩, .int .i64 num, .int .i64 ((a : Int) + 1)] (by rfl) rfl (World.news_of_block (heap_alloc_new wr.drew _)) (fun x hx => by simp at hx; rcases hx with rfl | rfl | rfl <;> rfl) (by omega) (by unfold maxLen; omega) (by omega) (by simp; omega) _ rfl ?_); intro g9 cap9 w9 hown9 hgr9 hor9 hlt9; (have v1 : w9.cell? ⟨W.heap.size + 1, 1, none⟩ = some (.slice p d.length q) := World.grownBy.cell hgr9 (by first | exact (World.cell?_alloc_some _ _ _ _ x1) | simp [x1, World.cell?_alloc_some]) (fun h => by have := HVB.out _ h.symm; simp at this)); (have v4 : w9.frozen? ⟨W.heap.size + 1, 1, none⟩ = false := (World.grownBy.frozen_far hgr9 ⟨W.heap.size + 1, 1, none⟩ (by simp; omega) (fun h => by have := HVB.out _ h.symm; simp at this)).trans ((World.frozen?_alloc_past _ _ _ (show W.heap.size + 1 < wr.heap.size from hB1)).trans xf1)))
              all_goals
                obtain ⟨m1, m2, m3, m4⟩ := wdB_mk HL1.out HL0.out HBW.out HVB.out hgr9 hown9
                go_wp2_with fail
                go_roundw
                case rel => exact ⟨d ++ [(tx, 1 + (a : Int))], i + 1, _, ind, by omega, by go_num, .inl ⟨rfl, HT3⟩, m1, m2, by rw [List.length_append, List.flatMap_append]; simpa [wdC, HAC.out] using m3, m4, Lib.hid (fun _ => HIND.out (fun h => HD0.out (by rw [h]; rfl)))⟩
                case measure => first | (simp [intOf]; done) | (simp [intOf]; omega)
        · have hst2 := nB_step hil HNL.out h32
          have n32 : ((((⟨t.toArray⟩ : ByteArray)[i]'hi1).toNat : Int) != 32) = true := by rw [beq_eq_false_iff_ne.2 h32] at f32; simp only [bne, f32]; rfl
          clear f32
          rcases hst with ⟨rfl, HT⟩ | ⟨a, rfl, ha, HJ, HT⟩
          · have HT2 : Hid (WT = d ++ ((t.drop i).take (nB (t.drop i)), 1 + (i : Int)) :: wk t (i + nB (t.drop i))) := Lib.hid (by rw [← wk_word hil HNL.out h32]; exact HT.out)
            have HJ2 : Hid (i + 1 + nB (t.drop (i + 1)) = i + nB (t.drop i)) := Lib.hid (by omega)
            clear h32 hst2
            go_wp2_with fail
            go_roundw
            case rel => exact ⟨d, i + 1, _, ind, by omega, by go_num, .inr ⟨i, rfl, hil, HJ2, HT2⟩, HL1.out, HL0.out, HOWN.out, HBW.out, HIND⟩
            case measure => first | (simp [intOf]; done) | (simp [intOf]; omega)
          · have HJ2 : Hid (i + 1 + nB (t.drop (i + 1)) = a + nB (t.drop a)) := Lib.hid (by have := HJ.out; omega)
            have ha0 : ¬ (a : Int) < 0 := by omega
            clear h32 hst2
            go_wp2_with fail
            go_roundw
            case rel => exact ⟨d, i + 1, _, ind, by omega, by go_num, .inr ⟨a, rfl, ha, HJ2, HT⟩, HL1.out, HL0.out, HOWN.out, HBW.out, HIND⟩
            case measure => first | (simp [intOf]; done) | (simp [intOf]; omega)
      · have hnb := nB_none (t := t) (i := i) (by omega)
        have hii : ¬ (i : Int) < (t.length : Int) := by omega
        have hge : t.length ≤ i := by omega
        clear hil
        rcases hst with ⟨rfl, HT⟩ | ⟨a, rfl, ha, HJ, HT⟩
        · have HT2 : Hid (WT = d ++ wk t (i + 1)) := Lib.hid (by rw [HT.out, wk_end (by omega), wk_end (by omega)])
          clear hnb
          go_wp2_with fail
          go_roundw
          case rel => exact ⟨d, i + 1, _, ind, by omega, by go_num, .inl ⟨rfl, HT2⟩, HL1.out, HL0.out, HOWN.out, HBW.out, HIND⟩
          case measure => first | (simp [intOf]; done) | (simp [intOf]; omega)
        · have hnext : wk t i = wk t (i + 1) := by rw [wk_end (by omega), wk_end (by omega)]
          have hJ : i = a + nB (t.drop a) := by have := HJ.out; rw [hnb] at this; omega
          have hal := nB_le (t.drop a)
          have hdl : (t.drop a).length = t.length - a := List.length_drop
          obtain ⟨tx, htx⟩ : ∃ tx, (t.drop a).take (nB (t.drop a)) = tx := ⟨_, rfl⟩
          have hWT := HT.out
          have hxt := ext_mid t a i
          have hai : i - a = nB (t.drop a) := by omega
          rw [hai, htx] at hxt
          rw [htx, ← hJ] at hWT
          have HT2 : Hid (WT = (d ++ [(tx, 1 + (a : Int))]) ++ wk t i) := Lib.hid (by rw [hWT]; simp)
          have HT3 : Hid (WT = (d ++ [(tx, 1 + (a : Int))]) ++ wk t (i + 1)) := Lib.hid (by rw [HT2.out, hnext])
          have hai2 : (a : Int) ≤ (i : Int) := by omega
          have hil2 : (i : Int) ≤ (t.length : Int) := by omega
          have hwa : IntKind.i64.wrap ((a : Int) + 1) = (a : Int) + 1 := IntWalk.i64_in _ (by omega)
          have ha0 : ¬ (a : Int) < 0 := by omega
          obtain ⟨i0, hi0, hy0, hy1, hy2⟩ := info_parts infoRWd
          have hac : 1 + (a : Int) = (a : Int) + 1 := by omega
          have HAC := Lib.hid hac
          clear hnb hJ hal hdl htx hWT hai hnext hac HT HJ
          have hdl65 : d.length ≤ 65536 := by
            have h1 := wds_len t
            rw [HWT.out, HT2.out, List.length_append, List.length_append] at h1
            omega
          by_cases hd0 : d.length = 0
          · have HIA : Hid (a = nS t) := Lib.hid (by
              have h := HT2.out
              rw [List.length_eq_zero_iff.1 hd0, ← HWT.out] at h
              have := wds_col t _ _ _ h
              omega)
            have hd1 : ((d.length : Int) == 0) = true := by simp [hd0]
            have HD0 := Lib.hid hd0
            clear hd0
            go_wp2_with fail
            obtain ⟨W5, hW5⟩ : ∃ W5, wr.setCell ⟨W.heap.size + 1, 0, none⟩ (.int .i64 a) = W5 := ⟨_, rfl⟩
            have k5 : ∀ x, x ≠ W.heap.size + 1 → W5.heap[x]? = wr.heap[x]? := fun x hx => by rw [← hW5]; exact Below.heap_setCell wr ⟨W.heap.size + 1, 0, none⟩ _ x (by simpa using hx)
            have hL1 : W5.heap[W.heap.size + 1]? = some (.cells #[.int .i64 a, .slice p d.length q] 56 (0, 0)) := by rw [← hW5]; exact Lib.heap_setCell_same (i := 0) HL1.out _
            have hL0 := (k5 W.heap.size (by omega)).trans HL0.out
            have hown : W5.ownsRow (W.heap.size + 2) 58 3 (.slice p d.length q) d.length (d.flatMap (wdC num)) := ownsRow_of HOWN.out (fun x _ hx _ => k5 x (by omega))
            have hbw : Below W.heap.size W W5 := by rw [← hW5]; exact HBW.out.setCell (p := ⟨W.heap.size + 1, 0, none⟩) (by simp) _
            rw [hW5]
            clear hW5 k5 HL1 HL0 HOWN HBW x0 xf0 x1 xf1 y0 yf0 y1 yf1 hB1
            obtain ⟨x1, xf1⟩ := row_cell' (j := 1) hL1 rfl
            have hB1 : W.heap.size + 1 < W5.heap.size := (Array.getElem?_eq_some_iff.1 hL1).1
            have HL1 := Lib.hid hL1; have HL0 := Lib.hid hL0; have HOWN := Lib.hid hown; have HBW := Lib.hid hbw
            clear hL1 hL0 hown hbw
            have HVB : Hid (∀ x, (Value.slice p d.length q).ownBlock = some x → W.heap.size + 2 ≤ x) := Lib.hid (fun x hx => (HOWN.out.lt x hx).1)
            go_region_law ((refine step_append_lies _ (by rfl) (.tmp 36) (.tmp 46) 54 (by rfl) (W.heap.size + 2) 58 i0 (.agg #[.string ⟨#[]⟩, .int .i64 0, .int .i64 0]) 3 32 Try.underlying54 hi0 hy0 hy1 hy2 rfl (by decide) _ _ _ (by rfl) (World.ownsRow.alloc (show World.ownsRow W5.drew _ _ _ _ _ _ from HOWN.out) _) ⟨W5.heap.size, 0, none⟩ 1 1 [.string ⟨tx.toArray⟩, .int .i64 num, .int .i64 ((a : Int) + 1)] (by rfl) rfl (World.news_of_block (heap_alloc_new W5.drew _)) (fun x hx => by simp at hx; rcases hx with rfl | rfl | rfl <;> rfl) (by omega) (by unfold maxLen; omega) (by omega) (by simp; omega) _ rfl ?_); intro g9 cap9 w9 hown9 hgr9 hor9 hlt9; (have v1 : w9.cell? ⟨W.heap.size + 1, 1, none⟩ = some (.slice p d.length q) := World.grownBy.cell hgr9 (by first | exact (World.cell?_alloc_some _ _ _ _ x1) | simp [x1, World.cell?_alloc_some]) (fun h => by have := HVB.out _ h.symm; simp at this)); (have v4 : w9.frozen? ⟨W.heap.size + 1, 1, none⟩ = false := (World.grownBy.frozen_far hgr9 ⟨W.heap.size + 1, 1, none⟩ (by simp; omega) (fun h => by have := HVB.out _ h.symm; simp at this)).trans ((World.frozen?_alloc_past _ _ _ (show W.heap.size + 1 < W5.heap.size from hB1)).trans xf1)))
            all_goals
              obtain ⟨m1, m2, m3, m4⟩ := wdB_mk HL1.out HL0.out HBW.out HVB.out hgr9 hown9
              go_wp2_with fail
              go_roundw
              case rel => exact ⟨d ++ [(tx, 1 + (a : Int))], i + 1, _, a, by omega, by go_num, .inl ⟨rfl, HT3⟩, m1, m2, by rw [List.length_append, List.flatMap_append]; simpa [wdC, HAC.out] using m3, m4, Lib.hid (fun _ => HIA.out)⟩
              case measure => first | (simp [intOf]; done) | (simp [intOf]; omega)
          · have hd1 : ((d.length : Int) == 0) = false := by simp [hd0]
            have HD0 := Lib.hid hd0
            clear hd0
            go_wp2_with fail
            have HVB : Hid (∀ x, (Value.slice p d.length q).ownBlock = some x → W.heap.size + 2 ≤ x) := Lib.hid (fun x hx => (HOWN.out.lt x hx).1)
            go_region_law ((refine step_append_lies _ (by rfl) (.tmp 36) (.tmp 46) 54 (by rfl) (W.heap.size + 2) 58 i0 (.agg #[.string ⟨#[]⟩, .int .i64 0, .int .i64 0]) 3 32 Try.underlying54 hi0 hy0 hy1 hy2 rfl (by decide) _ _ _ (by rfl) (World.ownsRow.alloc (show World.ownsRow wr.drew _ _ _ _ _ _ from HOWN.out) _) ⟨wr.heap.size, 0, none⟩ 1 1 [.string ⟨tx.toArray⟩, .int .i64 num, .int .i64 ((a : Int) + 1)] (by rfl) rfl (World.news_of_block (heap_alloc_new wr.drew _)) (fun x hx => by simp at hx; rcases hx with rfl | rfl | rfl <;> rfl) (by omega) (by unfold maxLen; omega) (by omega) (by simp; omega) _ rfl ?_); intro g9 cap9 w9 hown9 hgr9 hor9 hlt9; (have v1 : w9.cell? ⟨W.heap.size + 1, 1, none⟩ = some (.slice p d.length q) := World.grownBy.cell hgr9 (by first | exact (World.cell?_alloc_some _ _ _ _ x1) | simp [x1, World.cell?_alloc_some]) (fun h => by have := HVB.out _ h.symm; simp at this)); (have v4 : w9.frozen? ⟨W.heap.size + 1, 1, none⟩ = false := (World.grownBy.frozen_far hgr9 ⟨W.heap.size + 1, 1, none⟩ (by simp; omega) (fun h => by have := HVB.out _ h.symm; simp at this)).trans ((World.frozen?_alloc_past _ _ _ (show W.heap.size + 1 < wr.heap.size from hB1)).trans xf1)))
            all_goals
              obtain ⟨m1, m2, m3, m4⟩ := wdB_mk HL1.out HL0.out HBW.out HVB.out hgr9 hown9
              go_wp2_with fail
              go_roundw
              case rel => exact ⟨d ++ [(tx, 1 + (a : Int))], i + 1, _, ind, by omega, by go_num, .inl ⟨rfl, HT3⟩, m1, m2, by rw [List.length_append, List.flatMap_append]; simpa [wdC, HAC.out] using m3, m4, Lib.hid (fun _ => HIND.out (fun h => HD0.out (by rw [h]; rfl)))⟩
              case measure => first | (simp [intOf]; done) | (simp [intOf]; omega)
    · have hile : ¬ (i : Int) ≤ (t.length : Int) := by omega
      have HTE : Hid (WT = d) := by
        rcases hst with ⟨_, HT⟩ | ⟨a, _, ha, HJ, HT⟩
        · exact Lib.hid (by rw [HT.out, wk_end (by omega)]; simp)
        · have h1 := HJ.out
          have h2 := nB_le (t.drop a)
          rw [List.length_drop] at h2
          omega
      clear hst hlt
      go_wp2_with fail
      have hfin := set2v (.int .i64 ind) (.slice p d.length q) HL0.out
      have hk8 : ∀ x, x ≠ W.heap.size → ((wr.setCell ⟨W.heap.size, 0, none⟩ (.int .i64 ind)).setCell ⟨W.heap.size, 1, none⟩ (.slice p d.length q)).heap[x]? = wr.heap[x]? := fun x hx => (Below.heap_setCell _ _ _ _ (by simpa using hx)).trans (Below.heap_setCell _ _ _ _ (by simpa using hx))
      have hof : ((wr.setCell ⟨W.heap.size, 0, none⟩ (.int .i64 ind)).setCell ⟨W.heap.size, 1, none⟩ (.slice p d.length q)).ownsRow W.heap.size 58 3 (.slice p d.length q) d.length (d.flatMap (wdC num)) := ownsRow_base (ownsRow_of HOWN.out (fun x _ hx _ => hk8 x (by omega))) (by omega)
      have hbf : Below W.heap.size W ((wr.setCell ⟨W.heap.size, 0, none⟩ (.int .i64 ind)).setCell ⟨W.heap.size, 1, none⟩ (.slice p d.length q)) := (HBW.out.setCell (p := ⟨W.heap.size, 0, none⟩) (Nat.le_refl _) _).setCell (p := ⟨W.heap.size, 1, none⟩) (Nat.le_refl _) _
      obtain ⟨W9, hW9⟩ : ∃ W9, ((wr.setCell ⟨W.heap.size, 0, none⟩ (.int .i64 ind)).setCell ⟨W.heap.size, 1, none⟩ (.slice p d.length q)) = W9 := ⟨_, rfl⟩
      rw [hW9] at hfin hof hbf ⊢
      clear hW9 hk8
      obtain ⟨e0, _⟩ := row_cell' (j := 0) hfin rfl
      obtain ⟨e1, _⟩ := row_cell' (j := 1) hfin rfl
      refine bodyPost_ret (v := .agg #[.int .i64 ind, .slice p d.length q]) (by simp [results, Try.results17, go_sem, e0, e1]) rfl ⟨.slice p d.length q, ind, rfl, ?_, ?_, hbf⟩
      · rw [HWT.out, HTE.out]; exact HIND.out
      · rw [HWT.out, HTE.out]; exact hof
end Go.Proofs.Ytiadflipakjeeaa
