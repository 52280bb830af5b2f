/- What Pieces of package waymarkref02 hands back: the pieces into which the numbers up to most are cut, in new memory; or the refusal. Under the conditions that it names. -/
import Derived.Test.YtdjlbenjbhkfiaaSpRPM
import Derived.Test.YtdjlbenjbhkfiaaSpR2
import Derived.Test.YtdjlbenjbhkfiaaSpCutLaw0
namespace Go.Proofs.Ytdjlbenjbhkfiaa
open Go.RowKit
set_option maxRecDepth 100000 in
set_option maxHeartbeats 4000000 in
theorem rpieces_is (most : Nat) (hmt : most < top) (ls : List (List (Nat × Nat))) (v : Value) (w : World) (hr : RdS w v ls) (hn : ls.length ≤ 1024) (hl : ls.flatten.length ≤ 30000) :
    Calls Try.prog 29 #[.int .u32 most, v] w (PcsPost most ls w) := by
  have HCU := Lib.hid (rcuts_is ls v most w hr hmt (by omega))
  have HSM : Hid (∀ l ∈ ls, Small l) := by
    obtain ⟨p, c, hv, _, _, hp⟩ := hr
    refine Lib.hid fun l hl => ?_
    obtain ⟨i, hi, rfl⟩ := List.getElem_of_mem hl
    obtain ⟨_, _, _, _, _, _, h⟩ := hp i _ (List.getElem?_eq_getElem hi)
    exact h.1
  have hr2 := hr
  obtain ⟨p, c, hv, _⟩ := hr
  subst hv
  have HR := Lib.hid hr2
  clear hr2
  obtain ⟨mi, hmi⟩ : ∃ mi : Int, mi = (most : Int) := ⟨_, rfl⟩
  rw [← hmi] at HCU ⊢
  have HM := Lib.hid hmi
  have hm0 : 0 ≤ mi := by omega
  rw [top_def] at hmt
  have hm1 : mi < 4294967296 := by omega
  have d0 : decide (1024 < ls.length) = false := by simp; omega
  clear hmi
  go_enter Try.func29, Try.ntmps29
  go_wp2_with fail
  go_at_call 43
  refine HCU.out.mono ?_
  rintro e w1 ⟨v1, R, rfl, hcov, hownR, hb1⟩
  have hR0 : 0 < R.length := List.length_pos_of_mem hcov.nought
  have hRl : R.length ≤ 60001 := by have := hcov.len; omega
  have HCOV := Lib.hid hcov
  rcases hownR.row with ⟨rfl, h⟩ | ⟨gR, capR, curR, rfl, hgR, hleR, hcR, _, _, hltR, _, hcellR⟩
  · subst h; simp at hR0
  have HCR := Lib.hid hcellR
  clear HCU hcov hownR hcellR
  go_wp2
  go_loopw [6, 8] (fun o i wr => ∃ (k : Nat) (D : List Nat) (ov : Value), ov = o ∧ k ≤ R.length ∧ i = .int .i64 k ∧ Own w1.heap.size wr ov (pcs most D) ∧ Hid (D = (R.take k).filter (isCut ls)) ∧ D.length ≤ k ∧ Below w1.heap.size w1 wr) (fun _ i _ => R.length - (intOf i).toNat)
  case atStart => exact ⟨0, [], _, rfl, Nat.zero_le _, rfl, ⟨fun _ h => (by cases h), World.ownsRow_nil _ _ _ _⟩, Lib.hid (by simp), Nat.le_refl _, Below.refl _ _⟩
  case round =>
    obtain ⟨k, D, ov, rfl, hk, rfl, hown, HD, hDk, hbw⟩ := hrel
    by_cases hlt : k < R.length
    · obtain ⟨c, hc⟩ : ∃ c, R[k]? = some c := ⟨_, List.getElem?_eq_getElem hlt⟩
      have hcm := HCOV.out.le c (List.mem_of_getElem? hc)
      have c0' := HCR.out k c hc
      obtain ⟨ci, hci⟩ : ∃ x : Int, x = (c : Int) := ⟨_, rfl⟩
      rw [← hci] at c0'
      have c1 := (hbw.cell (p := ⟨gR, _, none⟩) hltR).trans c0'
      have e0 : 0 ≤ ci := by omega
      have e1 : (0 : Int) ≤ (k : Int) := by omega
      have e2 : (k : Int) < (R.length : Int) := by omega
      have hci2 : ci ≤ mi := by have := HM.out; omega
      have HCI := Lib.hid hci
      have HC := Lib.hid hc
      have C1 := Lib.hid c0'
      have HK0 : Hid (k = 0 ↔ c = 0) := by
        refine Lib.hid ⟨fun h => ?_, fun h => ?_⟩
        · subst h
          have := HCOV.out.first
          rw [nxt_some hc] at this
          exact this
        · by_cases h0 : k = 0
          · exact h0
          · have h1 : R[0]? = some R[0] := List.getElem?_eq_getElem hR0
            have h2 := List.pairwise_iff_getElem.1 HCOV.out.rising 0 k hR0 hlt (by omega)
            have h3 : R[k] = c := by rw [List.getElem?_eq_getElem hlt] at hc; exact Option.some.inj hc
            omega
      have hbk : ∃ bk : Bool, ((k : Int) == 0) = bk ∧ Hid (bk = decide (c = 0)) := ⟨_, rfl, Lib.hid (by
        have := HK0.out
        rw [Bool.eq_iff_iff]
        simp only [beq_iff_eq, decide_eq_true_eq]
        omega)⟩
      obtain ⟨bk, hbk, HBK⟩ := hbk
      have hb01 : Below w.heap.size w wr := Below.step hb1 hbw
      clear hc hci c0'
      go_wp2
      obtain ⟨wo, rfl⟩ : ∃ wo : World, wo = wr := ⟨_, rfl⟩
      go_loopw [9, 10] (fun cu kk wx => ∃ (m : Nat) (bb : Bool), m ≤ ls.length ∧ kk = .int .i64 m ∧ cu = .bool bb ∧ Hid (bb = (bk || (ls.take m).any fun l => has l c != has l (c - 1))) ∧ Below w1.heap.size w1 wx ∧ Own w1.heap.size wx ov (pcs most D)) (fun _ kk _ => ls.length - (intOf kk).toNat)
      case atStart => exact ⟨0, bk, Nat.zero_le _, rfl, rfl, Lib.hid (by simp), hbw, hown⟩
      case round =>
        obtain ⟨m, bb, hm, rfl, rfl, HB, hbx, howx⟩ := hrel
        have hbx0 : Below w.heap.size w wr := Below.step hb1 hbx
        by_cases hgo : m < ls.length ∧ bb = false
        · obtain ⟨hml, hbf⟩ := hgo
          subst hbf
          have hc1 : 1 ≤ ci := by
            have h1 := HB.out
            have h2 : bk = false := by cases bk with
              | false => rfl
              | true => simp at h1
            have h3 := HBK.out
            rw [h2] at h3
            have h4 : ¬ c = 0 := by simpa using h3
            have := HCI.out
            omega
          obtain ⟨l, hl⟩ : ∃ l, ls[m]? = some l := ⟨_, List.getElem?_eq_getElem hml⟩
          obtain ⟨b, o', q, dd, hpe, hbb, hat⟩ := HR.out.at hl
          subst hpe
          have hll : l.length ≤ 30000 := by
            have := flat_len hl
            omega
          obtain ⟨B1, hB1⟩ : ∃ B, has l c = B := ⟨_, rfl⟩
          obtain ⟨B2, hB2⟩ : ∃ B, has l (c - 1) = B := ⟨_, rfl⟩
          have K1 : Hid (∀ W, Below w.heap.size w W → Calls Try.prog 23 #[.slice q l.length dd, .int .u32 ci] W fun e w' => e = .returned (.bool B1) ∧ W = w') := Lib.hid fun W hW => rhas_is l _ _ B1 (by rw [← hB1]; congr 1; have := HCI.out; omega) W (hat W hW).2 (by omega) (by omega)
          have K2 : Hid (∀ W, Below w.heap.size w W → Calls Try.prog 23 #[.slice q l.length dd, .int .u32 (ci - 1)] W fun e w' => e = .returned (.bool B2) ∧ W = w') := Lib.hid fun W hW => rhas_is l _ _ B2 (by rw [← hB2]; congr 1; have := HCI.out; omega) W (hat W hW).2 (by omega) (by omega)
          have HB3 : Hid ((has l c != has l (c - 1)) = (B1 != B2)) := Lib.hid (by rw [hB1, hB2])
          have HL := Lib.hid hl; have HAT := Lib.hid hat
          have m1 : (0 : Int) ≤ (m : Int) := by omega
          have m2 : (m : Int) < (ls.length : Int) := by omega
          clear hl hat hB1 hB2 hbk
          have cu := (HAT.out wr hbx0).1
          have p1 := (hbx.cell (p := ⟨gR, _, none⟩) hltR).trans C1.out
          have g1 := Nat.lt_of_lt_of_le hbb (Below.size hbx0)
          have g2 : gR < wr.heap.size := by have := Below.size hbx; omega
          go_wp2
          refine wp_region_grows (by kernel_rfl) (by kernel_rfl) ?_
          refine grows_fact _ _ _ cu g1 fun r0 => ?_
          refine grows_fact _ _ _ p1 g2 fun r1 => ?_
          clear cu p1
          repeat (go_big_quiet_step ((first | (go_at_call 23; with_reducible exact Calls.grows_same (K1.out _ (Below.step hbx0 (Grows.below _)))) | (go_at_call 23; with_reducible exact Calls.grows_same (K2.out _ (Below.step hbx0 (Grows.below _)))))))
          refine wpQuiet_nil ?_
          rintro wB ⟨⟨_, hswB⟩, rfl⟩
          clear r0 r1 g1 g2
          have hxwB := Below.step hbx hswB
          have howB := howx.below hswB
          go_wp2
          go_roundw
          case rel =>
            refine ⟨m + 1, _, by omega, by go_num, rfl, Lib.hid ?_, hxwB, howB⟩
            rw [any_take _ HL.out, ← Bool.or_assoc, ← HB.out, HB3.out, Bool.false_or]
            rfl
          case measure => simp [intOf]; omega
        · have HI : Hid (bb = isCut ls c) := by
            refine Lib.hid ?_
            rw [HB.out, HBK.out]
            unfold isCut chg
            cases bb with
            | true =>
              have h1 := HB.out
              rw [HBK.out] at h1
              rw [← h1]
              rcases Bool.or_eq_true_iff.1 h1.symm with h | h
              · rw [h]; rfl
              · rw [any_of_take h, Bool.or_true]
            | false =>
              have hml : ls.length ≤ m := Nat.le_of_not_lt fun h => hgo ⟨h, rfl⟩
              rw [List.take_of_length_le hml]
          have HFT : Hid ((R.take (k + 1)).filter (isCut ls) = D ++ if bb then [c] else []) := Lib.hid (by
            rw [filter_take HC.out, HI.out, ← HD.out])
          clear hbk HB
          cases bb with
          | false =>
            have hml : ¬ m < ls.length := fun h => hgo ⟨h, rfl⟩
            clear hgo
            go_wp2
            go_roundw
            case rel => exact ⟨k + 1, D, _, rfl, by omega, by go_num, howx, Lib.hid (by rw [HFT.out]; simp), by omega, hbx⟩
            case measure => simp [intOf]; omega
          | true =>
            clear hgo
            have HF1 : Hid (D ++ [c] = (R.take (k + 1)).filter (isCut ls)) := Lib.hid (by rw [HFT.out]; rfl)
            clear HFT HI
            have p1 := (hbx.cell (p := ⟨gR, _, none⟩) hltR).trans C1.out
            obtain ⟨i0, hi0, hz0, hz1, hz2⟩ := info_parts infoS
            have hzx := Below.size hbx
            cases k with
            | zero =>
              obtain rfl : D = [] := List.eq_nil_of_length_eq_zero (by omega)
              obtain ⟨po, co, hvo, _⟩ := howx.rd.sl
              rw [pcs_nil, List.length_nil] at hvo
              subst hvo
              have HOW : Hid (World.ownsRow wr w1.heap.size 27 2 (.slice po 0 co) 0 []) := Lib.hid howx.2
              have HHO := Lib.hid howx
              clear howx hown
              have hmls : m < ls.length ∨ ¬ m < ls.length := by omega
              rcases hmls with hml | hml
              all_goals
                go_wp2_with (at_builtin; refine wpList_append_own _ rfl _ _ 22 rfl w1.heap.size 27 i0 (.agg #[.int .u32 0, .int .u32 0]) 2 8 Try.underlying22 hi0 hz0 hz1 hz2 rfl (by decide) _ _ _ rfl (World.ownsRow.alloc HOW.out _) ⟨wr.heap.size, 0, none⟩ 1 1 [.int .u32 ci, .int .u32 mi] rfl rfl (two_new (by simp) _ _ _) (fun x hx => by simp at hx; rcases hx with rfl | rfl <;> rfl) (by unfold maxLen; omega) (by omega) (by simp; omega) ?_; intro v' w3 hown3 hgrow3 hnil3)
                go_roundw
                case rel =>
                  refine ⟨0 + 1, [c], _, rfl, by omega, by go_num, ⟨fun s hs => ?_, ?_⟩, Lib.hid HF1.out, by simp, ?_⟩
                  · rw [show pcs most [c] = [(c, most)] from pcs_snoc most [] c] at hs
                    simp at hs; subst hs; exact ⟨by rw [top_def]; omega, by rw [top_def]; omega⟩
                  · rw [HCI.out, HM.out] at hown3
                    rw [show pcs most [c] = [(c, most)] from pcs_snoc most [] c]
                    exact hown3
                  · exact Below.grown (Below.alloc hbx (by omega) _) hgrow3 (by simp; omega) (fun j hj => (World.ownsRow.lt HHO.out.2 j hj).1)
                case measure => simp [intOf]; omega
            | succ k =>
              have hD0 : 0 ∈ D := by
                rw [HD.out, List.mem_filter]
                refine ⟨?_, by simp [isCut]⟩
                have h1 := HCOV.out.first
                have h2 : R[0]? = some R[0] := List.getElem?_eq_getElem hR0
                rw [nxt_some h2] at h1
                rw [List.mem_iff_getElem?]
                exact ⟨0, by rw [List.getElem?_take, if_pos (by omega), h2, h1]⟩
              rcases List.eq_nil_or_concat D with rfl | ⟨L, a, rfl⟩
              · cases hD0
              rw [List.concat_eq_append] at *
              rw [pcs_snoc] at howx
              obtain ⟨F, hF⟩ : ∃ F, pp (L ++ [a]) = F := ⟨_, rfl⟩
              have hFl : F.length = L.length := by rw [← hF]; exact pp_length L a
              have HPM : Hid (pcs most (L ++ [a] ++ [c]) = F ++ [(a, c - 1)] ++ [(c, most)]) := Lib.hid (by rw [pcs_more, hF])
              rw [hF] at howx
              have hFM : (F ++ [(a, most)]).length = F.length + 1 := by simp
              have hDk2 : F.length + 1 ≤ k + 1 := by simp at hDk; omega
              rcases howx.row with ⟨_, h⟩ | ⟨g, cp, rfl, hg, hle, hcap, hrow, hglt⟩
              · simp at h
              rw [hFM]
              have hRr := hrow.all
              obtain ⟨_, d2⟩ := hRr.cellF (k := F.length) (s := (a, most)) (by simp)
              simp only at d2
              rw [← HM.out] at d2
              have hfr := hRr.free (F.length * 2 + 1)
              have hc0 : 1 ≤ ci := by
                have h1 := HK0.out
                have := HCI.out
                omega
              have hcm1 : ci - 1 = ((c - 1 : Nat) : Int) := by have := HCI.out; omega
              have hle2 : F.length + 1 ≤ cp := by rw [hFM] at hle; omega
              have hRW := Row.raise (n := F.length) (hi := ci - 1) (m := c - 1) (hRr.later (Nat.zero_le (F.length + 1))) rfl (by omega) hcm1 (by omega)
              have hOwn2 : Own w1.heap.size (wr.setCell ⟨g, F.length * 2 + 1, none⟩ (.int .u32 (ci - 1))) (.slice (some ⟨g, 0, none⟩) (F.length + 1) cp) (F ++ [(a, c - 1)]) := by
                refine hRW.own (fun s hs => ?_) hg (by simp) (by simp; omega) hcap
                rcases List.mem_append.1 hs with hs | hs
                · exact howx.1 s (by simp [hs])
                · simp at hs; subst hs
                  have := howx.1 (a, most) (by simp)
                  exact ⟨this.1, by rw [top_def]; show c - 1 < _; omega⟩
              have HOW : Hid (World.ownsRow (wr.setCell ⟨g, F.length * 2 + 1, none⟩ (.int .u32 (ci - 1))) w1.heap.size 27 2 (.slice (some ⟨g, 0, none⟩) (F.length + 1) cp) (F.length + 1) (flatS (F ++ [(a, c - 1)]))) := Lib.hid (by
                have h := hOwn2.2
                rw [show (F ++ [(a, c - 1)]).length = F.length + 1 by simp] at h
                exact h)
              have HSM2 := Lib.hid hOwn2.1
              have hgg : g ≠ gR := by omega
              have p2 : (wr.setCell ⟨g, F.length * 2 + 1, none⟩ (.int .u32 (ci - 1))).cell? ⟨gR, k + 1, none⟩ = some (.int .u32 ci) := by
                rw [World.cell?_setCell_other _ _ _ _ (by intro e; injection e with e1; first | exact hgg e1 | exact hgg e1.symm)]
                exact p1
              have hbs : Below w1.heap.size w1 (wr.setCell ⟨g, F.length * 2 + 1, none⟩ (.int .u32 (ci - 1))) := Below.setCell (p := ⟨g, _, none⟩) hbx hg _
              have e5 : (0 : Int) ≤ (F.length : Int) := by omega
              have e6 : F.length + 1 ≤ 1000000000 := by omega
              have HRWx := Lib.hid hRW; have HFM := Lib.hid hFM; have HHO := Lib.hid howx; have HF := Lib.hid hF; have HFL := Lib.hid hFl
              have e7 : decide ((0 : Int) < (k : Int) + 1) = true := by simp only [decide_eq_true_eq]; omega
              have hm2 : (F ++ [(a, most)]).length ≤ F.length + 1 := by simp
              clear hown howx hOwn2 hRW hRr hrow hFM hF hFl hcm1 hD0
              have hmls : m < ls.length ∨ ¬ m < ls.length := by omega
              rcases hmls with hml | hml
              all_goals
                go_wp2_with (at_builtin; refine wpList_append_own _ rfl _ _ 22 rfl w1.heap.size 27 i0 (.agg #[.int .u32 0, .int .u32 0]) 2 8 Try.underlying22 hi0 hz0 hz1 hz2 rfl (by decide) _ (F.length + 1) _ rfl (World.ownsRow.alloc HOW.out _) ⟨wr.heap.size, 0, none⟩ 1 1 [.int .u32 ci, .int .u32 mi] rfl rfl (two_new (by simp) _ _ _) (fun x hx => by simp at hx; rcases hx with rfl | rfl <;> rfl) (by unfold maxLen; omega) (by omega) (by simp; omega) ?_; intro v' w3 hown3 hgrow3 hnil3)
                go_roundw
                case rel =>
                  refine ⟨k + 1 + 1, L ++ [a] ++ [c], _, rfl, by omega, by go_num, ⟨fun s hs => ?_, ?_⟩, Lib.hid HF1.out, by simp at hDk ⊢; omega, ?_⟩
                  · rw [HPM.out] at hs
                    rcases List.mem_append.1 hs with hs | hs
                    · exact HSM2.out s hs
                    · simp at hs; subst hs; exact ⟨by rw [top_def]; show c < _; omega, by rw [top_def]; show most < _; omega⟩
                  · rw [HCI.out, HM.out] at hown3
                    rw [HPM.out, flatS_append, show (F ++ [(a, c - 1)] ++ [(c, most)]).length = F.length + 1 + 1 by simp]
                    exact hown3
                  · exact Below.grown (Below.alloc hbs (by simp; omega) _) hgrow3 (by simp; omega) (fun j hj => (World.ownsRow.lt HOW.out j hj).1)
                case measure => simp [intOf]; omega
    · obtain rfl : k = R.length := by omega
      have hbg : Beg most ls D := by
        rw [HD.out, List.take_length]
        exact HCOV.out.beg HSM.out
      have HBG := Lib.hid hbg
      obtain ⟨po, co, hvo, _⟩ := hown.rd.sl
      rw [pcs_length] at hvo
      subst hvo
      have hdl : D.length ≤ 60001 := by omega
      have hb01 : Below w.heap.size w wr := Below.step hb1 hbw
      have HOWN := Lib.hid (hown.base hb1.size)
      clear hbg hown
      by_cases h5 : 65536 < D.length
      · omega
      · have d5 : decide (65536 < D.length) = false := by simpa using h5
        go_wp2
        go_ret2
        exact ⟨D, HBG.out, hb01, .inl ⟨by omega, _, rfl, HOWN.out⟩⟩
end Go.Proofs.Ytdjlbenjbhkfiaa
