/- The law SpansPieces, handed no more than twenty sets: it answers true; what was there stands. The sets have together no more than 1048576 spans. -/
import Derived.Test.YtdjlbenjbhkfiaaSpRPcs
import Derived.Deep.AppendLies
namespace Go.Proofs.Ytdjlbenjbhkfiaa
open Go.RowKit
set_option maxRecDepth 100000 in
set_option maxHeartbeats 8000000 in
theorem pieces_few (most : Nat) (hmt : most < top) (ls : List (List (Nat × Nat))) (v : Value) (w : World) (hr : RdS w v ls) (hfl : ls.flatten.length ≤ 1048576) (h20 : ls.length ≤ 20) :
    Calls Try.prog 6 #[.int .u32 most, v] w fun e w' => e = .returned (.bool true) ∧ Below w.heap.size w w' := by
  obtain ⟨mi, hmi⟩ : ∃ z : Int, z = (most : Int) := ⟨_, rfl⟩
  rw [← hmi]
  have HMI := Lib.hid hmi; have HMT := Lib.hid hmt
  clear hmi hmt
  obtain ⟨p, c, hv, hlc, hcm, hpp⟩ := hr
  subst hv
  have hr2 : RdS w (.slice p ls.length c) ls := ⟨p, c, rfl, hlc, hcm, hpp⟩
  have d20 : decide (20 < ls.length) = false := by simp; omega
  have hrd := hr2
  have hln : ls.length = ls.length := rfl
  have hfl2 := hfl
  clear hpp hr2
  go_enter Try.func6, Try.ntmps6
  have HRD := Lib.hid hrd
  have HLN := Lib.hid hln
  have HFL := Lib.hid hfl2
  clear hrd hfl2 hfl
  go_wp2
  go_loop [5, 6] (fun a i => ∃ k S : Nat, k ≤ ls.length ∧ S ≤ 1048576 ∧ i = .int .i64 k ∧ a = .int .i64 S ∧ Hid (S = ((ls).take k).flatten.length)) (fun _ i => ls.length - (intOf i).toNat)
  case atStart => exact ⟨0, 0, Nat.zero_le _, Nat.zero_le _, rfl, rfl, Lib.hid (by simp)⟩
  case round =>
    obtain ⟨k, S, hk, hS, rfl, rfl, HS⟩ := hrel
    by_cases hlt : k < ls.length
    · obtain ⟨l, hl⟩ : ∃ l, (ls)[k]? = some l := ⟨_, List.getElem?_eq_getElem (by have := HLN.out; omega)⟩
      obtain ⟨b, o, q, d, hpe, hb, hat⟩ := HRD.out.at hl
      subst hpe
      obtain ⟨cu, _⟩ := hat w (Below.refl _ _)
      have e1 : (0 : Int) ≤ (k : Int) := by omega
      have e2 : (k : Int) < (ls.length : Int) := by omega
      have hfk := flat_len hl
      have hS2 : S + l.length ≤ 1048576 := by rw [← HS.out] at hfk; have := HFL.out; omega
      have HSN : Hid (S + l.length = ((ls).take (k + 1)).flatten.length) := Lib.hid (by rw [take_flat hl, List.length_append, ← HS.out])
      clear hat hl hfk HS
      go_wp2
      go_round
      case rel => exact ⟨k + 1, S + l.length, by omega, by omega, by go_num, by go_num, HSN⟩
      case measure => simp [intOf]; omega
    · have hS3 : Hid (S = (ls).flatten.length) := by
        refine Lib.hid ?_
        rw [HS.out, List.take_of_length_le (by have := HLN.out; omega)]
      clear HS
      by_cases h200 : 200 < S
      · have d1 : decide (200 < S) = true := by simpa using h200
        go_wp2_with fail
        refine (awake_is w).mono ?_
        rintro e w1 ⟨rfl, hb1⟩
        go_wp2
        go_ret
        exact ⟨rfl, hb1⟩
      · have d1 : decide (200 < S) = false := by simpa using h200
        have hf2 : (ls).flatten.length ≤ 200 := by have := hS3.out; omega
        have hl20 : (ls).length ≤ 20 := by have := HLN.out; omega
        have HP1 := Lib.hid (rpieces_is most HMT.out (ls) _ w HRD.out (by omega) (by omega))
        have HP2 : Hid (∀ W, Below w.heap.size w W → Calls Try.prog 30 #[.int .u32 most, .slice p ls.length c] W (PcsPost most (ls) W)) := Lib.hid fun W hW => pieces_is most HMT.out (ls) _ W (HRD.out.below hW) (by omega) (by omega)
        rw [← HMI.out] at HP1 HP2
        have HF2 := Lib.hid hf2
        clear hS3 hf2 hl20
        go_wp2_with fail
        go_at_call 29
        refine HP1.out.mono ?_
        rintro e w1 ⟨R, hbg, hb1, hcase⟩
        have hRl : R.length ≤ 1000 := by
          have h1 := hbg.len
          have h3 := HLN.out
          have h4 := HF2.out
          omega
        obtain ⟨_, v1, rfl, ho1⟩ := hcase.resolve_right (fun h => by have := h.1; omega)
        clear hcase
        have HO1 := Lib.hid ho1
        rcases ho1.row with ⟨_, h⟩ | ⟨g1, cap1, rfl, hg1, hle1, hcap1, hrow1, hgl1⟩
        · have := congrArg List.length h
          have h0 := hbg.first
          have h0' := (List.getElem?_eq_some_iff.1 h0).1
          rw [pcs_length, List.length_nil] at this; omega
        rw [pcs_length] at HO1 ⊢
        have HBG := Lib.hid hbg
        clear ho1 HP1 hbg hrow1
        go_wp2_with fail
        go_at_call 30
        refine (HP2.out _ hb1).mono ?_
        rintro e w2 ⟨R2, hbg2, hb2, hcase⟩
        obtain rfl : R = R2 := HBG.out.one_of hbg2
        obtain ⟨_, v2, rfl, ho2⟩ := hcase.resolve_right (fun h => by have := h.1; omega)
        clear hcase
        have HO2 := Lib.hid ho2
        rcases ho2.row with ⟨_, h⟩ | ⟨g2, cap2, rfl, hg2, hle2, hcap2, hrow2, hgl2⟩
        · have := congrArg List.length h
          have h0 := HBG.out.first
          have h0' := (List.getElem?_eq_some_iff.1 h0).1
          rw [pcs_length, List.length_nil] at this; omega
        rw [pcs_length] at HO2 ⊢ hle2
        clear ho2 hbg2 hrow2
        have hb02 := Below.step hb1 hb2
        go_wp2_with fail
        go_at_call 30
        refine (HP2.out _ hb02).mono ?_
        rintro e w3 ⟨R2, hbg2, hb3, hcase⟩
        obtain rfl : R = R2 := HBG.out.one_of hbg2
        obtain ⟨_, v3, rfl, ho3⟩ := hcase.resolve_right (fun h => by have := h.1; omega)
        clear hcase
        have HO3 := Lib.hid ho3
        rcases ho3.row with ⟨_, h⟩ | ⟨g3, cap3, rfl, hg3, hle3, hcap3, hrow3, hgl3⟩
        · have := congrArg List.length h
          have h0 := HBG.out.first
          have h0' := (List.getElem?_eq_some_iff.1 h0).1
          rw [pcs_length, List.length_nil] at this; omega
        rw [pcs_length] at HO3 ⊢
        clear ho3 hbg2 hrow3
        have hb03 := Below.step hb02 hb3
        have hR0 : 0 < R.length := (List.getElem?_eq_some_iff.1 HBG.out.first).1
        have hpl : (pcs most R).length ≤ 1000 := by rw [pcs_length]; omega
        have HSP : Hid (∀ W u, Rd W (.slice (some ⟨g1, 0, none⟩) R.length cap1) (pcs most R) → Rd W u (pcs most R) → Calls Try.prog 21 #[u, .slice (some ⟨g1, 0, none⟩) R.length cap1] W fun e w' => e = .returned (.bool true) ∧ Below W.heap.size W w') := Lib.hid fun W u h1 h2 => by
          have := spans_is (pcs most R) (pcs most R) u (.slice (some ⟨g1, 0, none⟩) R.length cap1) W h2 h1 (by omega) (by omega)
          simpa using this
        have h13 : Below w1.heap.size w1 w3 := Below.step hb2 hb3
        have hw1 := hb2.size
        have hw2 := hb3.size
        clear hpl HP2
        go_wp2_with fail
        go_at_call 21
        refine (HSP.out w3 _ (HO1.out.below h13).rd (HO2.out.below hb3).rd).mono ?_
        rintro e w4 ⟨rfl, hb4⟩
        have h04 := Below.step hb03 hb4
        have h14 := Below.step h13 hb4
        have H14 := Lib.hid h14
        have O3 : Own w2.heap.size w4 (.slice (some ⟨g3, 0, none⟩) R.length cap3) (pcs most R) := HO3.out.below hb4
        obtain ⟨cur2, hcur2, hsz2⟩ : ∃ cur : Array Value, w4.heap[g2]? = some (.cells cur 27 (0, 0)) ∧ cur.size = cap2 * 2 := by
          have ho := (HO2.out.below hb3).below hb4
          rcases ho.row with ⟨h, _⟩ | ⟨g, cap, e, _, _, _, hrw, _⟩
          · cases h
          · simp only [Value.slice.injEq, Option.some.injEq, Addr.mk.injEq] at e
            obtain ⟨⟨rfl, _⟩, _, rfl⟩ := e
            obtain ⟨cur, h1, h2, _⟩ := hrw.all.flat
            exact ⟨cur, h1, h2⟩
        have hz4 := h14.size
        have hz4' := hb4.size
        have HO3' := Lib.hid O3
        have HC2 := Lib.hid hcur2
        clear hcur2 O3 h13 HO3 HO2
        go_wp2
        go_loopw [13] (fun i wr => ∃ (k : Nat) (cc : Array Value), k ≤ R.length ∧ i = .int .i64 k ∧ Below w1.heap.size w1 wr ∧ Own w2.heap.size wr (.slice (some ⟨g3, 0, none⟩) R.length cap3) (pcs most R) ∧ Hid (wr.heap[g2]? = some (.cells cc 27 (0, 0))) ∧ cc.size = cap2 * 2 ∧ w4.heap.size ≤ wr.heap.size) (fun i _ => R.length - (intOf i).toNat)
        case atStart => exact ⟨0, cur2, Nat.zero_le _, rfl, H14.out, HO3'.out, HC2, hsz2, Nat.le_refl _⟩
        case round =>
          obtain ⟨k2, cc, hk2, rfl, hbw, ho3w, HCC, hcs, hzw⟩ := hrel
          by_cases hlt2 : k2 < R.length
          · have hin : k2 * 2 < cc.size := by omega
            have hcc := HCC.out
            have c0 : wr.cell? ⟨g2, k2 * 2, none⟩ = some (cc[k2 * 2]) := by simp [World.cell?, hcc, hin]
            have f0 : wr.frozen? ⟨g2, k2 * 2, none⟩ = false := by simp [World.frozen?, hcc]
            have e1 : (0 : Int) ≤ (k2 : Int) := by omega
            have e2 : (k2 : Int) < (R.length : Int) := by omega
            clear hcc
            go_wp2
            go_roundw
            case rel =>
              refine ⟨k2 + 1, cc.setIfInBounds (k2 * 2) (.int .u32 99), by omega, by go_num, Below.setCell (p := ⟨g2, _, none⟩) hbw (by show w1.heap.size ≤ g2; omega) _, ?_, Lib.hid ?_, by simpa using hcs, by simpa using hzw⟩
              · exact ⟨ho3w.1, ownsRow_of ho3w.2 (fun b _ hb _ => Below.heap_setCell _ _ _ _ (by show b ≠ g2; omega))⟩
              · simp [World.setCell, Array.getElem?_modify, HCC.out]
            case measure => simp [intOf]; omega
          · have hown : Hid (World.ownsRow wr w1.heap.size 27 2 (.slice (some ⟨g2, 0, none⟩) R.length cap2) R.length (cc.toList.take (R.length * 2))) := Lib.hid (by
              exact owns_raw HCC.out (by omega) hcs (by unfold maxLen at hcap2 ⊢; omega) hle2)
            obtain ⟨i0, hi0, hz0, hz1, hz2⟩ := info_parts infoS
            clear HCC
            go_wp2
            obtain ⟨wo, rfl⟩ : ∃ wo : World, wo = wr := ⟨_, rfl⟩
            go_loopw [9, 14] (fun s i wx => ∃ (j g cap : Nat) (xs : List Value), j ≤ 70 ∧ i = .int .i64 j ∧ s = .slice (some ⟨g, 0, none⟩) (R.length + j) cap ∧ Hid (World.ownsRow wx w1.heap.size 27 2 (.slice (some ⟨g, 0, none⟩) (R.length + j) cap) (R.length + j) xs) ∧ (g = g2 ∨ w4.heap.size ≤ g) ∧ Below w1.heap.size w1 wx ∧ Own w2.heap.size wx (.slice (some ⟨g3, 0, none⟩) R.length cap3) (pcs most R) ∧ w4.heap.size ≤ wx.heap.size) (fun _ i _ => 70 - (intOf i).toNat)
            case atStart => exact ⟨0, g2, cap2, _, by omega, rfl, rfl, hown, .inl rfl, hbw, ho3w, hzw⟩
            case round =>
              obtain ⟨j, g, cap, xs, hj, rfl, rfl, HOW, hgg, hbx, ho3x, hzx⟩ := hrel
              by_cases hj70 : j < 70
              · have hg12 : w1.heap.size ≤ g := by omega
                have hg3 : g3 ≠ g := by omega
                go_wp2_with (at_builtin; refine wpList_append_lies _ rfl _ _ 22 rfl w1.heap.size 27 i0 (.agg #[.int .u32 0, .int .u32 0]) 2 8 Try.underlying22 hi0 hz0 hz1 hz2 rfl (by decide) _ (R.length + j) _ rfl (World.ownsRow.alloc HOW.out _) ⟨wr.heap.size, 0, none⟩ 1 1 [.int .u32 0, .int .u32 0] rfl rfl (two_new (by simp) _ _ _) (fun x hx => by simp at hx; rcases hx with rfl | rfl <;> rfl) (by omega) (by unfold maxLen; omega) (by omega) (by simp; omega) _ rfl ?_; intro gn capn w5 hown5 hgrow5 hlies5 hlt5)
                go_roundw
                case rel =>
                  refine ⟨j + 1, gn, capn, _, by omega, by go_num, rfl, Lib.hid hown5, ?_, ?_, ?_, ?_⟩
                  · rcases hlies5 with h | h
                    · have h : (some g : Option Nat) = some gn := h
                      simp only [Option.some.injEq] at h
                      omega
                    · simp at h; omega
                  · exact Below.grown (Below.alloc hbx (by omega) _) hgrow5 (by simp; omega) (fun j hj => by have hj : (some g : Option Nat) = some j := hj; simp only [Option.some.injEq] at hj; omega)
                  · exact ⟨ho3x.1, (World.ownsRow.alloc ho3x.2 _).kept hgrow5 (.inr (show (some g3 : Option Nat) ≠ some g by simp only [ne_eq, Option.some.injEq]; omega))⟩
                  · have := hgrow5.size; simp at this; omega
                case measure => simp [intOf]; omega
              · obtain rfl : j = 70 := by omega
                have q1 : (((R.length + 70 : Nat) : Int) == (R.length : Int) + 70) = true := by simp
                go_wp2_with fail
                go_at_call 21
                refine (HSP.out _ _ (HO1.out.below hbx).rd ho3x.rd).mono ?_
                rintro e w6 ⟨rfl, hb6⟩
                go_wp2
                go_ret
                exact ⟨rfl, Below.step (Below.step hb1 hbx) hb6⟩
end Go.Proofs.Ytdjlbenjbhkfiaa
