/- The law SpansNames: it answers true; what was there stands. Condition: the table of package strconv is what its text says. -/
import Derived.Test.YtelncpmphgndjaaDoorSpNm
import Derived.Test.YtelncpmphgndjaaDoorSpTb
import Derived.Test.YtelncpmphgndjaaDoorSpSort
import Derived.Test.YtelncpmphgndjaaDoorSpPcs
import Derived.Test.YtelncpmphgndjaaDoorSpAsk
import Derived.Test.YtelncpmphgndjaaDoorSpSets
import Derived.Laws.MakeOwn
namespace Go.Proofs.YtelncpmphgndjaaDoor
open Go.RowKit
theorem infoSS : (Tryd.prog.info? 22).map (fun i => (i.zero, i.size, i.bytes)) = some (some (.slice none 0 0), 1, 24) := by kernel_rfl
theorem make_is (n : Nat) (hn : n ≤ 100000) : ∃ C : Array Value, Hid (C.size = n ∧ ∀ i, i < n → C[i]? = some (.slice none 0 0)) ∧ ∀ w : World, (Instr.makeSlice 34 (.int .i64 n) (.int .i64 n)).run Tryd.prog w = .ok (.slice (some ⟨w.heap.size, 0, none⟩) n n) (w.alloc (.cells C 22)) := by
  obtain ⟨i0, hi0, hy0, hy1, hy2⟩ := info_parts infoSS
  refine ⟨madeCells (Value.slice none 0 0).cells (n * 1), ⟨by rw [size_madeCells]; omega, fun i hi => ?_⟩, fun w => ?_⟩
  · unfold madeCells
    rw [Array.getElem?_map, Array.getElem?_range]
    simp [hi, Value.cells, Nat.mod_one]
  · have := run_makeSlice (P := Tryd.prog) w 34 22 i0 (.slice none 0 0) Tryd.underlying34 hi0 hy0 .i64 .i64 n n (by omega) (Int.le_refl _) (by rw [hy1]; simp; omega) (by rw [hy2]; omega) (by omega)
    rw [hy1] at this
    simpa using this
theorem rds_nils (n : Nat) (hn : n ≤ 100000) (C : Array Value) (hC : Hid (C.size = n ∧ ∀ i, i < n → C[i]? = some (.slice none 0 0))) (W : World) : RdS (W.alloc (.cells C 22)) (.slice (some ⟨W.heap.size, 0, none⟩) n n) (List.replicate n []) := by
  refine ⟨_, n, by rw [List.length_replicate], by rw [List.length_replicate]; exact Nat.le_refl _, by unfold maxLen; omega, fun i l hi => ?_⟩
  have hlt := (List.getElem?_eq_some_iff.1 hi).1
  rw [List.length_replicate] at hlt
  obtain rfl := (List.mem_replicate.1 (List.mem_of_getElem? hi)).2
  exact ⟨W.heap.size, 0, .slice none 0 0, rfl, by simp, by rw [cell_of_heap (heap_new _ _), Nat.zero_add]; exact hC.out.2 i hlt, Rd.nil _⟩
theorem rds_one (l : List (Nat × Nat)) (u : Value) (W : World) (h : Rd W u l) : RdS (W.alloc (.cells #[u] 22)) (.slice (some ⟨W.heap.size, 0, none⟩) 1 1) [l] := by
  refine ⟨_, 1, rfl, Nat.le_refl _, by unfold maxLen; omega, fun i m hi => ?_⟩
  match i, hi with
  | 0, hi => simp at hi; subst hi; exact ⟨W.heap.size, 0, u, rfl, by simp, by rw [cell_of_heap (heap_new _ _)]; rfl, h.below ((Below.refl _ _).alloc (Nat.le_refl _) _)⟩
  | i + 1, hi => simp at hi
set_option maxRecDepth 100000 in
set_option maxHeartbeats 8000000 in
theorem spansNames_is (w : World) (ht : Tab10 w) : Calls Tryd.prog 4 #[] w fun e w' => e = .returned (.bool true) ∧ Below w.heap.size w w' := by
  obtain ⟨C1, HC1, hm1⟩ := make_is 1024 (by omega)
  obtain ⟨C2, HC2, hm2⟩ := make_is 1025 (by omega)
  have hmk1 : ∀ w : World, (Instr.makeSlice 34 (.int .i64 1024) (.int .i64 1024)).run Tryd.prog w = .ok (.slice (some ⟨w.heap.size, 0, none⟩) 1024 1024) (w.alloc (.cells C1 22)) := hm1
  have hmk2 : ∀ w : World, (Instr.makeSlice 34 (.int .i64 1025) (.int .i64 1025)).run Tryd.prog w = .ok (.slice (some ⟨w.heap.size, 0, none⟩) 1025 1025) (w.alloc (.cells C2 22)) := hm2
  obtain ⟨W1, hW1⟩ : ∃ X, w.alloc (.cells #[.int .u32 0, .int .u32 4294967295] 32) = X := ⟨_, rfl⟩
  have HB1 : Hid (Below w.heap.size w W1) := Lib.hid (by rw [← hW1]; exact (Below.refl _ _).alloc (Nat.le_refl _) _)
  have HRA : Hid (Rd W1 (.slice (some ⟨w.heap.size, 0, none⟩) 1 1) allS) := Lib.hid (by
    rw [← hW1]
    refine ⟨all_small, .inr ⟨w.heap.size, 0, 1, rfl, Nat.le_refl _, by unfold maxLen; omega, by simp, fun i s hi => ?_⟩⟩
    rw [cell_of_heap (heap_new _ _), cell_of_heap (heap_new _ _)]
    match i, hi with
    | 0, hi => simp [allS] at hi; subst hi; exact ⟨rfl, rfl⟩
    | i + 1, hi => simp [allS] at hi)
  have HT := Lib.hid ht
  clear ht hm1 hm2
  go_enter Tryd.func4, Tryd.ntmps4
  go_wp2_with fail
  go_at_call 13
  have HZ : Hid (w.heap.size < W1.heap.size) := Lib.hid (by rw [← hW1]; simp)
  refine (pieces_is 5 (by unfold top; omega) (List.replicate 1024 []) _ _ (rds_nils 1024 (by omega) C1 HC1 W1) (by rw [List.length_replicate]; exact Nat.le_refl _) (by rw [List.flatten_replicate_nil]; simp)).mono ?_
  rintro e w2 ⟨R, hbg, hb2, hor⟩
  have HB2 := Lib.hid (Below.step (HB1.out.alloc HB1.out.size _) hb2)
  have HA2 := Lib.hid (Below.step ((Below.refl W1.heap.size W1).alloc (Nat.le_refl _) _) hb2)
  have hRl := beg_nils hbg
  rcases hor with ⟨_, v2, rfl, ho2⟩ | ⟨h, _⟩
  case inr => omega
  obtain ⟨q2, n2, c2, rfl⟩ : ∃ p n c, v2 = .slice p n c := by obtain ⟨p, c, e, _⟩ := ho2.rd.sl; exact ⟨_, _, _, e⟩
  clear hbg hb2 hRl ho2
  go_wp2_with fail
  go_at_call 13
  obtain ⟨W3, hW3⟩ : ∃ X, w2.alloc (.cells C2 22) = X := ⟨_, rfl⟩
  have HB3 : Hid (Below W1.heap.size W1 W3) := Lib.hid (by rw [← hW3]; exact HA2.out.alloc HA2.out.size _)
  rw [hW3]
  refine (pieces_no 5 _ 1025 _ _ (by omega)).mono ?_
  rintro _ _ ⟨rfl, rfl⟩
  obtain ⟨i0, hi0, hz0, hz1, hz2⟩ := info_parts infoS
  clear hW3 hW1
  go_wp2
  go_loopw [6, 7] (fun v i wr => ∃ (k : Nat) (bv : Value), k ≤ 32768 ∧ i = .int .i64 k ∧ bv = v ∧ Hid (Own W3.heap.size wr bv (ods k)) ∧ Below W3.heap.size W3 wr) (fun _ i _ => 32768 - (intOf i).toNat)
  case atStart => exact ⟨0, _, by omega, rfl, rfl, Lib.hid ⟨by simp [ods, Small], by simp [ods, flatS]; exact World.ownsRow_nil _ _ _ _⟩, Below.refl _ _⟩
  case round =>
    obtain ⟨k, bv, hk, rfl, rfl, HO, hbw⟩ := hrel
    have HW := Lib.hid hbw
    clear hbw
    by_cases hlt : k < 32768
    · have e1 : (k : Int) < 32768 := by omega
      have e0 : (0 : Int) ≤ (k : Int) := by omega
      have ew : IntKind.u32.wrap (2 * (k : Int) + 1) = ((2 * k + 1 : Nat) : Int) := by
        rw [show (2 * (k : Int) + 1) = ((2 * k + 1 : Nat) : Int) by omega]
        exact IntWalk.u32_in _ ⟨by omega, by omega⟩
      have HO2 : Hid (wr.ownsRow W3.heap.size 32 2 bv k (flatS (ods k))) := Lib.hid (by have := HO.out.2; rw [ods_length] at this; exact this)
      obtain ⟨lo, hlo⟩ : ∃ lo : Int, lo = ((2 * k + 1 : Nat) : Int) := ⟨_, rfl⟩
      rw [← hlo] at ew
      have HLO := Lib.hid hlo
      have hys := HW.out.size
      clear hlo
      go_wp2_with (first
        | (at_builtin; refine wpList_append_own _ rfl _ _ 22 rfl W3.heap.size 32 i0 (.agg #[.int .u32 0, .int .u32 0]) 2 8 Tryd.underlying22 hi0 hz0 hz1 hz2 rfl (by decide) _ _ _ rfl (HO2.out.alloc _) ⟨wr.heap.size, 0, none⟩ 1 1 [.int .u32 lo, .int .u32 lo] rfl rfl (cell_two_new _ _ _ _) (fun x hx => by simp at hx; rcases hx with rfl | rfl <;> rfl) (by unfold maxLen; omega) (by omega) (by simp; omega) ?_; intro v' w3 hown3 hgrow3 hnil3))
      go_roundw
      case rel =>
        refine ⟨k + 1, v', by omega, by go_num, rfl, Lib.hid ⟨ods_small (by omega), ?_⟩, Below.grown (HW.out.alloc (by omega) _) hgrow3 (by simp; omega) (fun j hj => (HO2.out.lt _ hj).1)⟩
        rw [ods_length, ods_snoc, flatS_append]
        rw [HLO.out] at hown3
        exact hown3
      case measure => simp [intOf]; omega
    · obtain rfl : k = 32768 := by omega
      have hor := HO.out.rd
      obtain ⟨p, c, hbv, _, _, _⟩ := hor.sl
      rw [ods_length] at hbv
      subst hbv
      have HRD := Lib.hid hor
      have HB4 : Hid (Below W1.heap.size W1 wr) := Lib.hid (HB3.out.trans (HW.out.mono HB3.out.size))
      clear hor
      go_wp2_with fail
      go_at_call 13
      refine (pieces_is 65535 (by unfold top; omega) [ods 32768] _ _ (rds_one _ _ _ HRD.out) (by simp) (by simp [ods_length])).mono ?_
      rintro e w5 ⟨R, hbg, hb5, hor⟩
      have hRl := beg_ods (by omega) (by omega) hbg
      have HB5 := Lib.hid (Below.step ((Below.refl wr.heap.size wr).alloc (Nat.le_refl _) _) hb5)
      rcases hor with ⟨_, v5, rfl, ho5⟩ | ⟨h, _⟩
      case inr => omega
      obtain ⟨p5, c5, h5, _, _, _⟩ := ho5.rd.sl
      rw [pcs_length, hRl] at h5
      subst h5
      clear hbg hb5 hRl ho5
      go_wp2_with fail
      go_at_call 13
      refine (pieces_is 65536 (by unfold top; omega) [ods 32768] _ _ (rds_one _ _ _ (HRD.out.below HB5.out)) (by simp) (by simp [ods_length])).mono ?_
      rintro e w6 ⟨R, hbg, hb6, hor⟩
      have hRl := beg_ods (by omega) (by omega) hbg
      have HB6 := Lib.hid (Below.step HB5.out (Below.step ((Below.refl w5.heap.size w5).alloc (Nat.le_refl _) _) hb6))
      rcases hor with ⟨h, _⟩ | ⟨_, rfl⟩
      case inl => omega
      clear hbg hb6 hRl
      have HC6 := Lib.hid (HB4.out.trans (HB6.out.mono HB4.out.size))
      go_wp2_with fail
      go_at_call 13
      refine (pieces_is 4294967295 (by unfold top; omega) [allS] _ _ (rds_one _ _ _ (HRA.out.below HC6.out)) (by simp) (by simp [allS])).mono ?_
      rintro e w7 ⟨R, hbg, hb7, hor⟩
      have hRl := beg_alls hbg
      have HC7 := Lib.hid (Below.step HC6.out (Below.step ((Below.refl w6.heap.size w6).alloc (Nat.le_refl _) _) hb7))
      rcases hor with ⟨_, v7, rfl, ho7⟩ | ⟨h, _⟩
      case inr => omega
      obtain ⟨p7, c7, h7, _, _, _⟩ := ho7.rd.sl
      rw [pcs_length, hRl] at h7
      subst h7
      clear hbg hb7 hRl ho7
      have hcn : Calls Tryd.prog 14 #[.slice (some ⟨w.heap.size, 0, none⟩) 1 1] w7 fun e w' => e = .returned (.int .u64 4294967296) ∧ Below w7.heap.size w7 w' := by
        have := count_is allS _ w7 (HRA.out.below HC7.out) (by simp [allS])
        rw [all_cnt] at this
        exact this
      have HCN := Lib.hid hcn
      have HNT : Hid (∀ W, Below w7.heap.size w7 W → Calls Tryd.prog 15 #[.slice (some ⟨w.heap.size, 0, none⟩) 1 1, .int .u32 4294967295] W fun e w' => ∃ p c, e = .returned (.slice p 0 c) ∧ Below W.heap.size W w') := Lib.hid fun W hb => by
        refine (not_is allS _ 4294967295 W ((HRA.out.below HC7.out).below hb) (by unfold top; omega) (by simp [allS])).mono ?_
        rintro e w' ⟨v, rfl, ho, hb2⟩
        rw [all_not] at ho
        obtain ⟨p, c, hv, _⟩ := ho.rd.sl
        exact ⟨p, c, by rw [hv]; rfl, hb2⟩
      have HTX : Hid (∀ W, Below w7.heap.size w7 W → Calls Tryd.prog 10 #[.slice (some ⟨w.heap.size, 0, none⟩) 1 1] W fun e w' => e = .returned (.string ⟨#[48, 45, 52, 50, 57, 52, 57, 54, 55, 50, 57, 53]⟩) ∧ Below W.heap.size W w') := Lib.hid fun W hb => by
        have hbW := Below.step (HB1.out.trans (HC7.out.mono HB1.out.size)) hb
        have := text_is sorts allS _ W ((HRA.out.below HC7.out).below hb) (by simp [allS]) (HT.out.on hbW)
        rw [all_txt] at this
        exact this
      clear hcn
      go_wp2_with fail
      go_at_call 14
      refine HCN.out.mono ?_
      rintro e w8 ⟨rfl, hb8⟩
      have HB8 := Lib.hid hb8
      clear hb8
      go_wp2_with fail
      go_at_call 15
      refine (HNT.out _ HB8.out).mono ?_
      rintro e w9 ⟨p9, c9, rfl, hb9⟩
      have HB9 := Lib.hid (Below.step HB8.out hb9)
      clear hb9
      go_wp2_with fail
      go_at_call 10
      refine (HTX.out _ HB9.out).mono ?_
      rintro e w10 ⟨rfl, hb10⟩
      have HBX := Lib.hid (Below.step (Below.step (HB1.out.trans (HC7.out.mono HB1.out.size)) HB9.out) hb10)
      clear hb10
      go_wp2
      go_ret
      exact ⟨rfl, HBX.out⟩
end Go.Proofs.YtelncpmphgndjaaDoor
