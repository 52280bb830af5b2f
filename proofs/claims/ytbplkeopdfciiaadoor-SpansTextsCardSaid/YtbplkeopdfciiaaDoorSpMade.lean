/- What made of package waymarkref02 hands back, and Form, Or, And, Less, Not and Count of it: the one form of the set, in new memory. Under the conditions that they name. -/
import Derived.Test.YtbplkeopdfciiaaDoorSpMdMath
namespace Go.Proofs.YtbplkeopdfciiaaDoor
open Go.RowKit
/-- The numbers of what is made. -/
def mdT (most how : Nat) (l m : List (Nat × Nat)) (x : Nat) : Bool := decide (x ≤ most) && soB how (has l x) (has m x)
/-- New memory with the one form of a set; what was there stands. -/
def NewSet (T : Nat → Bool) (w : World) (e : Ending) (w' : World) : Prop := ∃ v, e = .returned v ∧ Own w.heap.size w' v (Cn T) ∧ Below w.heap.size w w'
set_option maxRecDepth 100000 in
set_option maxHeartbeats 1000000 in
theorem made_is (l m : List (Nat × Nat)) (v u : Value) (most how : Nat) (hh : how = 1 ∨ how = 2 ∨ how = 3 ∨ how = 4) (w : World) (hr : Rd w v l) (hs : Rd w u m) (hmt : most < top) (hlen : l.length + m.length ≤ 400000000) :
    Calls Tryd.prog 32 #[.int .u32 most, v, u, .int .i64 how] w (NewSet (mdT most how l m) w) := by
  obtain ⟨p1, d1, hv1, _⟩ := hr.sl
  obtain ⟨p2, d2, hv2, _⟩ := hs.sl
  subst hv1 hv2
  obtain ⟨mi, hmi⟩ : ∃ mi : Int, mi = (most : Int) := ⟨_, rfl⟩
  obtain ⟨hi, hhi⟩ : ∃ hi : Int, hi = (how : Int) := ⟨_, rfl⟩
  have hS : RdS (w.alloc (.cells #[.slice p1 l.length d1, .slice p2 m.length d2] 22)) (.slice (some ⟨w.heap.size, 0, none⟩) 2 2) [l, m] := by
    refine ⟨_, 2, rfl, Nat.le_refl _, by unfold maxLen; omega, fun i k hk => ?_⟩
    have hB : Below w.heap.size w (w.alloc (.cells #[.slice p1 l.length d1, .slice p2 m.length d2] 22)) := (Below.refl _ _).alloc (Nat.le_refl _) _
    match i, hk with
    | 0, hk => simp at hk; subst hk; exact ⟨w.heap.size, 0, .slice p1 l.length d1, rfl, by simp, by rw [cell_of_heap (heap_new _ _)]; rfl, hr.below hB⟩
    | 1, hk => simp at hk; subst hk; exact ⟨w.heap.size, 0, .slice p2 m.length d2, rfl, by simp, by rw [cell_of_heap (heap_new _ _)]; rfl, hs.below hB⟩
    | i + 2, hk => simp at hk
  have HCU := Lib.hid (rcuts_is [l, m] _ most _ hS hmt (by simp; omega))
  rw [← hmi] at HCU ⊢
  rw [← hhi]
  have HM := Lib.hid hmi
  have HH := Lib.hid hhi
  have HHH := Lib.hid hh
  have HR := Lib.hid hr
  have HS := Lib.hid hs
  have hm0 : 0 ≤ mi := by omega
  rw [top_def] at hmt
  have hm1 : mi < 4294967296 := by omega
  clear hmi hhi hh hr hs hS
  go_enter Tryd.func32, Tryd.ntmps32
  go_wp2_with fail
  go_at_call 42
  refine HCU.out.mono ?_
  rintro e w1 ⟨v1, R, rfl, hcov, hownR, hb1⟩
  have hb01 : Below w.heap.size w w1 := Below.step ((Below.refl _ _).alloc (Nat.le_refl _) _) hb1
  have hR0 : 0 < R.length := List.length_pos_of_mem hcov.nought
  have hRl : R.length ≤ 1000000000 := by have := hcov.len; simp at this; omega
  have HCOV := Lib.hid hcov
  rcases hownR.row with ⟨rfl, h⟩ | ⟨gR, capR, curR, rfl, hgR, hleR, hcR, _, _, hltR, _, hcellR⟩
  · subst h; simp at hR0
  have HCR := Lib.hid hcellR
  clear HCU hcov hownR hcellR hb1
  go_wp2
  go_loopw [9, 11] (fun o i wr => ∃ (k : Nat) (M : List (Nat × Nat)), k ≤ R.length ∧ i = .int .i64 k ∧ Own w1.heap.size wr o M ∧ Hid (Md (mdT most how l m) (nxt most R k) M) ∧ M.length ≤ k ∧ Below w1.heap.size w1 wr) (fun _ i _ => R.length - (intOf i).toNat)
  case atStart => exact ⟨0, [], Nat.zero_le _, rfl, ⟨fun _ h => (by cases h), World.ownsRow_nil _ _ _ _⟩, Lib.hid (by rw [HCOV.out.first]; exact Md.start _), Nat.le_refl _, Below.refl _ _⟩
  case round =>
    obtain ⟨k, M, hk, rfl, hown, HMD, hMk, hbw⟩ := hrel
    by_cases hlt : k < R.length
    · obtain ⟨c, hc⟩ : ∃ c, R[k]? = some c := ⟨_, List.getElem?_eq_getElem hlt⟩
      have hn := HCOV.out.next hc
      have hcm := HCOV.out.le c (List.mem_of_getElem? hc)
      have c1 := (hbw.cell (p := ⟨gR, _, none⟩) hltR).trans (HCR.out k c hc)
      obtain ⟨ci, hci⟩ : ∃ x : Int, x = (c : Int) := ⟨_, rfl⟩
      rw [← hci] at c1
      have e0 : 0 ≤ ci := by omega
      have e1 : (0 : Int) ≤ (k : Int) := by omega
      have e2 : (k : Int) < (R.length : Int) := by omega
      obtain ⟨B, hB⟩ : ∃ B, soB how (has l c) (has m c) = B := ⟨_, rfl⟩
      have HT : Hid (∀ x, c ≤ x → x < nxt most R (k + 1) → mdT most how l m x = B) := Lib.hid fun x h1 h2 => by
        have h3 : x ≤ most := by omega
        have h4 : ∀ d ∈ R, d ≤ c ∨ x < d := fun d hd => (hn.2.2 d hd).imp id (fun h => by omega)
        unfold mdT
        rw [HCOV.out.still (l := l) (fun s hs => by simp [hs]) h1 h3 h4, HCOV.out.still (l := m) (fun s hs => by simp [hs]) h1 h3 h4, hB]
        simp [h3]
      have hso := so_is l m _ _ ci how HHH.out wr (HR.out.below hb01 |>.below hbw) (HS.out.below hb01 |>.below hbw) e0 (by omega) (by omega)
      rw [show ci.toNat = c from by omega, hB, ← HH.out] at hso
      have HSO := Lib.hid hso
      have hy : nxt most R k = c := nxt_some hc
      have hMd := HMD.out
      rw [hy] at hMd
      have HMD' := Lib.hid hMd
      have hz := hbw.size
      have hci2 : ci ≤ mi := by have := HM.out; omega
      have HCI := Lib.hid hci
      have HN := Lib.hid hn
      have HC := Lib.hid hc
      clear hso hn hc hci hy hMd HMD hB
      cases B with
      | false =>
        go_wp2_with (go_at_call 43; refine HSO.out.mono ?_; rintro e w' ⟨rfl, rfl⟩)
        go_roundw
        case rel => exact ⟨k + 1, M, by omega, by go_num, hown, Lib.hid (HMD'.out.skip (Nat.le_of_lt HN.out.1) HT.out), by omega, hbw⟩
        case measure => simp [intOf]; omega
      | true =>
        have hnx : k + 1 < R.length ∨ R.length ≤ k + 1 := by omega
        rcases hnx with hnx | hnx
        · obtain ⟨d, hd⟩ : ∃ d, R[k + 1]? = some d := ⟨_, List.getElem?_eq_getElem hnx⟩
          have c2 := (hbw.cell (p := ⟨gR, _, none⟩) hltR).trans (HCR.out (k + 1) d hd)
          have hdm := HCOV.out.le d (List.mem_of_getElem? hd)
          obtain ⟨di, hdi⟩ : ∃ x : Int, x = (d : Int) := ⟨_, rfl⟩
          rw [← hdi] at c2
          have HZ : Hid (nxt most R (k + 1) = d) := Lib.hid (nxt_some hd)
          have hd0 : ci < di := by have := HN.out.1; rw [HZ.out] at this; have := HCI.out; omega
          have hd1 : di < 4294967296 := by omega
          have hq : decide ((k : Int) + 1 < (R.length : Int)) = true := by simp; omega
          have e3 : (k : Int) + 1 < (R.length : Int) := by omega
          have e4 : (0 : Int) ≤ (k : Int) + 1 := by omega
          have HH2 : Hid (di - 1 = ((d - 1 : Nat) : Int)) := Lib.hid (by omega)
          have HDI := Lib.hid hdi
          clear hd hdi
          have hlt1 : c < d := by have := HN.out.1; rw [HZ.out] at this; exact this
          have hT1 : Hid (∀ x, c ≤ x → x < d → mdT most how l m x = true) := Lib.hid fun x h1 h2 => HT.out x h1 (by rw [HZ.out]; exact h2)
          obtain ⟨i0, hi0, hz0, hz1, hz2⟩ := info_parts infoS
          rcases List.eq_nil_or_concat M with rfl | ⟨L, t, rfl⟩
          · obtain ⟨po, co, hvo, _⟩ := hown.rd.sl
            subst hvo
            have HOW : Hid (∀ q, World.ownsRow (wr.drewN q) w1.heap.size 33 2 (.slice po 0 co) 0 []) := Lib.hid fun q => hown.2
            go_wp2_with (go_at_call 43; refine HSO.out.mono ?_; rintro e w' ⟨rfl, rfl⟩)
            go_quiet (fail)
            go_wp2_with (at_builtin; refine wpList_append_own _ rfl _ _ 22 rfl w1.heap.size 33 i0 (.agg #[.int .u32 0, .int .u32 0]) 2 8 Tryd.underlying22 hi0 hz0 hz1 hz2 rfl (by decide) _ _ _ rfl (World.ownsRow.alloc (HOW.out _) _) ⟨wr.heap.size, 0, none⟩ 1 1 [.int .u32 ci, .int .u32 (di - 1)] rfl rfl (two_new (by simp) _ _ _) (fun x hx => by simp at hx; rcases hx with rfl | rfl <;> rfl) (by unfold maxLen; omega) (by omega) (by simp; omega) ?_; intro v' w3 hown3 hgrow3 hnil3)
            go_roundw
            case rel =>
              refine ⟨k + 1, [(c, d - 1)], by omega, by go_num, ⟨fun s hs => ?_, ?_⟩, Lib.hid ?_, by simp, ?_⟩
              · simp at hs; subst hs; exact ⟨by rw [top_def]; omega, by rw [top_def]; omega⟩
              · rw [HCI.out, HH2.out] at hown3
                exact hown3
              · rw [HZ.out]; exact HMD'.out.new hlt1 hT1.out (by simp)
              · exact Below.grown (Below.alloc (Below.draws hbw _) (by simp; omega) _) hgrow3 (by simp; omega) (fun j hj => (World.ownsRow.lt hown.2 j hj).1)
            case measure => simp [intOf]; omega
          · simp only [List.concat_eq_append] at *
            have hMl : (L ++ [t]).length = L.length + 1 := by simp
            rcases hown.row with ⟨rfl, h⟩ | ⟨g, cp, rfl, hg, hle, hcap, hrow, hglt⟩
            · simp at h
            have hR := hrow.all
            obtain ⟨d1', d2'⟩ := hR.cellF (k := L.length) (s := t) (by simp)
            have htt := hown.1 t (by simp)
            obtain ⟨th, hth⟩ : ∃ th : Int, th = (t.2 : Int) := ⟨_, rfl⟩
            rw [← hth] at d2'
            have b4 : 0 ≤ th := by omega
            have b5 : th < 4294967296 := by have := htt.2; rw [top_def] at this; omega
            have hlt2 : th < ci := by have := HMD'.out.lt t (by simp); have := HCI.out; omega
            have b6 : th + 1 < 4294967296 := by omega
            have HTH := Lib.hid hth; have HTT := Lib.hid htt; have HML := Lib.hid hMl
            have e5 : (0 : Int) ≤ (L.length : Int) := by omega
            have e6 : L.length + 1 ≤ 1000000000 := by omega
            have HMk := Lib.hid hMk; have HLE := Lib.hid hle
            have hcp : L.length + 1 ≤ cp := by omega
            have hm2 : (L ++ [t]).length ≤ L.length + 1 := by omega
            clear hth htt hMl d1' hMk hle
            by_cases hj : th + 1 = ci
            · have hq2 : (th + 1 == ci) = true := by simpa using hj
              have hq3 : decide (0 < ci) = true := by simp; omega
              have HJ := Lib.hid hj
              clear hj
              have hfr := hR.free (L.length * 2 + 1)
              go_wp2_with (go_at_call 43; refine HSO.out.mono ?_; rintro e w' ⟨rfl, rfl⟩)
              go_quiet (fail)
              go_wp2
              go_roundw
              case rel =>
                refine ⟨k + 1, L ++ [(t.1, d - 1)], by omega, by go_num, ?_, Lib.hid ?_, by have := HMk.out; simp at this ⊢; omega, ?_⟩
                · refine Row.own ((((hR.of rfl : Row (wr.drewN _) g cp (L ++ [t]) [] 0)).later (Nat.zero_le _)).raise (i := L.length + 1) (m := d - 1) rfl (by omega) HH2.out (by omega)) ?_ hg (by simp) (by simp; omega) hcap
                  intro s hs
                  rcases List.mem_append.1 hs with hs | hs
                  · exact hown.1 s (by simp [hs])
                  · simp at hs; subst hs; exact ⟨HTT.out.1, by rw [top_def]; show d - 1 < _; omega⟩
                · rw [HZ.out]; exact HMD'.out.join hlt1 hT1.out (by have := HJ.out; have := HTH.out; have := HCI.out; omega)
                · exact Below.setCell (p := ⟨g, _, none⟩) (Below.draws hbw _) hg _
              case measure => simp [intOf]; omega
            · have hq2 : (th + 1 == ci) = false := by simpa using hj
              have HJ := Lib.hid hj
              have HOW : Hid (∀ q, World.ownsRow (wr.drewN q) w1.heap.size 33 2 (.slice (some ⟨g, 0, none⟩) (L.length + 1) cp) (L.length + 1) (flatS (L ++ [t]))) := Lib.hid fun q => by have := hown.2; rw [HML.out] at this; exact this
              clear hj
              go_wp2_with (go_at_call 43; refine HSO.out.mono ?_; rintro e w' ⟨rfl, rfl⟩)
              go_quiet (fail)
              go_wp2_with (at_builtin; refine wpList_append_own _ rfl _ _ 22 rfl w1.heap.size 33 i0 (.agg #[.int .u32 0, .int .u32 0]) 2 8 Tryd.underlying22 hi0 hz0 hz1 hz2 rfl (by decide) _ _ _ rfl (World.ownsRow.alloc (HOW.out _) _) ⟨wr.heap.size, 0, none⟩ 1 1 [.int .u32 ci, .int .u32 (di - 1)] rfl rfl (two_new (by simp) _ _ _) (fun x hx => by simp at hx; rcases hx with rfl | rfl <;> rfl) (by unfold maxLen; omega) (by omega) (by simp; omega) ?_; intro v' w3 hown3 hgrow3 hnil3)
              go_roundw
              case rel =>
                refine ⟨k + 1, L ++ [t] ++ [(c, d - 1)], by omega, by go_num, ⟨fun s hs => ?_, ?_⟩, Lib.hid ?_, by have := HMk.out; simp at this ⊢; omega, ?_⟩
                · rcases List.mem_append.1 hs with hs | hs
                  · exact hown.1 s hs
                  · simp at hs; subst hs; exact ⟨by rw [top_def]; show c < _; omega, by rw [top_def]; show d - 1 < _; omega⟩
                · rw [HCI.out, HH2.out] at hown3
                  rw [flatS_append, List.length_append, HML.out]
                  exact hown3
                · rw [HZ.out]; exact HMD'.out.new hlt1 hT1.out (HMD'.out.last (fun e => HJ.out (by have := HTH.out; have := HCI.out; omega)))
                · exact Below.grown (Below.alloc (Below.draws hbw _) (by simp; omega) _) hgrow3 (by simp; omega) (fun j hj => (World.ownsRow.lt hown.2 j hj).1)
              case measure => simp [intOf]; omega
        · have HZ : Hid (nxt most R (k + 1) = most + 1) := Lib.hid (nxt_none hnx)
          have hq : decide ((k : Int) + 1 < (R.length : Int)) = false := by simp; omega
          have hdm : most + 1 ≤ 4294967296 := by omega
          have HH2 : Hid (mi = ((most + 1 - 1 : Nat) : Int)) := Lib.hid (by have := HM.out; omega)
          have hlt1 : c < (most + 1) := by have := HN.out.1; rw [HZ.out] at this; exact this
          have hT1 : Hid (∀ x, c ≤ x → x < (most + 1) → mdT most how l m x = true) := Lib.hid fun x h1 h2 => HT.out x h1 (by rw [HZ.out]; exact h2)
          obtain ⟨i0, hi0, hz0, hz1, hz2⟩ := info_parts infoS
          rcases List.eq_nil_or_concat M with rfl | ⟨L, t, rfl⟩
          · obtain ⟨po, co, hvo, _⟩ := hown.rd.sl
            subst hvo
            have HOW : Hid (∀ q, World.ownsRow (wr.drewN q) w1.heap.size 33 2 (.slice po 0 co) 0 []) := Lib.hid fun q => hown.2
            go_wp2_with (go_at_call 43; refine HSO.out.mono ?_; rintro e w' ⟨rfl, rfl⟩)
            go_quiet (fail)
            go_wp2_with (at_builtin; refine wpList_append_own _ rfl _ _ 22 rfl w1.heap.size 33 i0 (.agg #[.int .u32 0, .int .u32 0]) 2 8 Tryd.underlying22 hi0 hz0 hz1 hz2 rfl (by decide) _ _ _ rfl (World.ownsRow.alloc (HOW.out _) _) ⟨wr.heap.size, 0, none⟩ 1 1 [.int .u32 ci, .int .u32 mi] rfl rfl (two_new (by simp) _ _ _) (fun x hx => by simp at hx; rcases hx with rfl | rfl <;> rfl) (by unfold maxLen; omega) (by omega) (by simp; omega) ?_; intro v' w3 hown3 hgrow3 hnil3)
            go_roundw
            case rel =>
              refine ⟨k + 1, [(c, (most + 1) - 1)], by omega, by go_num, ⟨fun s hs => ?_, ?_⟩, Lib.hid ?_, by simp, ?_⟩
              · simp at hs; subst hs; exact ⟨by rw [top_def]; omega, by rw [top_def]; omega⟩
              · rw [HCI.out, HH2.out] at hown3
                exact hown3
              · rw [HZ.out]; exact HMD'.out.new hlt1 hT1.out (by simp)
              · exact Below.grown (Below.alloc (Below.draws hbw _) (by simp; omega) _) hgrow3 (by simp; omega) (fun j hj => (World.ownsRow.lt hown.2 j hj).1)
            case measure => simp [intOf]; omega
          · simp only [List.concat_eq_append] at *
            have hMl : (L ++ [t]).length = L.length + 1 := by simp
            rcases hown.row with ⟨rfl, h⟩ | ⟨g, cp, rfl, hg, hle, hcap, hrow, hglt⟩
            · simp at h
            have hR := hrow.all
            obtain ⟨d1', d2'⟩ := hR.cellF (k := L.length) (s := t) (by simp)
            have htt := hown.1 t (by simp)
            obtain ⟨th, hth⟩ : ∃ th : Int, th = (t.2 : Int) := ⟨_, rfl⟩
            rw [← hth] at d2'
            have b4 : 0 ≤ th := by omega
            have b5 : th < 4294967296 := by have := htt.2; rw [top_def] at this; omega
            have hlt2 : th < ci := by have := HMD'.out.lt t (by simp); have := HCI.out; omega
            have b6 : th + 1 < 4294967296 := by omega
            have HTH := Lib.hid hth; have HTT := Lib.hid htt; have HML := Lib.hid hMl
            have e5 : (0 : Int) ≤ (L.length : Int) := by omega
            have e6 : L.length + 1 ≤ 1000000000 := by omega
            have HMk := Lib.hid hMk; have HLE := Lib.hid hle
            have hcp : L.length + 1 ≤ cp := by omega
            have hm2 : (L ++ [t]).length ≤ L.length + 1 := by omega
            clear hth htt hMl d1' hMk hle
            by_cases hj : th + 1 = ci
            · have hq2 : (th + 1 == ci) = true := by simpa using hj
              have hq3 : decide (0 < ci) = true := by simp; omega
              have HJ := Lib.hid hj
              clear hj
              have hfr := hR.free (L.length * 2 + 1)
              go_wp2_with (go_at_call 43; refine HSO.out.mono ?_; rintro e w' ⟨rfl, rfl⟩)
              go_quiet (fail)
              go_wp2
              go_roundw
              case rel =>
                refine ⟨k + 1, L ++ [(t.1, (most + 1) - 1)], by omega, by go_num, ?_, Lib.hid ?_, by have := HMk.out; simp at this ⊢; omega, ?_⟩
                · refine Row.own ((((hR.of rfl : Row (wr.drewN _) g cp (L ++ [t]) [] 0)).later (Nat.zero_le _)).raise (i := L.length + 1) (m := (most + 1) - 1) rfl (by omega) HH2.out (by omega)) ?_ hg (by simp) (by simp; omega) hcap
                  intro s hs
                  rcases List.mem_append.1 hs with hs | hs
                  · exact hown.1 s (by simp [hs])
                  · simp at hs; subst hs; exact ⟨HTT.out.1, by rw [top_def]; show (most + 1) - 1 < _; omega⟩
                · rw [HZ.out]; exact HMD'.out.join hlt1 hT1.out (by have := HJ.out; have := HTH.out; have := HCI.out; omega)
                · exact Below.setCell (p := ⟨g, _, none⟩) (Below.draws hbw _) hg _
              case measure => simp [intOf]; omega
            · have hq2 : (th + 1 == ci) = false := by simpa using hj
              have HJ := Lib.hid hj
              have HOW : Hid (∀ q, World.ownsRow (wr.drewN q) w1.heap.size 33 2 (.slice (some ⟨g, 0, none⟩) (L.length + 1) cp) (L.length + 1) (flatS (L ++ [t]))) := Lib.hid fun q => by have := hown.2; rw [HML.out] at this; exact this
              clear hj
              go_wp2_with (go_at_call 43; refine HSO.out.mono ?_; rintro e w' ⟨rfl, rfl⟩)
              go_quiet (fail)
              go_wp2_with (at_builtin; refine wpList_append_own _ rfl _ _ 22 rfl w1.heap.size 33 i0 (.agg #[.int .u32 0, .int .u32 0]) 2 8 Tryd.underlying22 hi0 hz0 hz1 hz2 rfl (by decide) _ _ _ rfl (World.ownsRow.alloc (HOW.out _) _) ⟨wr.heap.size, 0, none⟩ 1 1 [.int .u32 ci, .int .u32 mi] rfl rfl (two_new (by simp) _ _ _) (fun x hx => by simp at hx; rcases hx with rfl | rfl <;> rfl) (by unfold maxLen; omega) (by omega) (by simp; omega) ?_; intro v' w3 hown3 hgrow3 hnil3)
              go_roundw
              case rel =>
                refine ⟨k + 1, L ++ [t] ++ [(c, (most + 1) - 1)], by omega, by go_num, ⟨fun s hs => ?_, ?_⟩, Lib.hid ?_, by have := HMk.out; simp at this ⊢; omega, ?_⟩
                · rcases List.mem_append.1 hs with hs | hs
                  · exact hown.1 s hs
                  · simp at hs; subst hs; exact ⟨by rw [top_def]; show c < _; omega, by rw [top_def]; show (most + 1) - 1 < _; omega⟩
                · rw [HCI.out, HH2.out] at hown3
                  rw [flatS_append, List.length_append, HML.out]
                  exact hown3
                · rw [HZ.out]; exact HMD'.out.new hlt1 hT1.out (HMD'.out.last (fun e => HJ.out (by have := HTH.out; have := HCI.out; omega)))
                · exact Below.grown (Below.alloc (Below.draws hbw _) (by simp; omega) _) hgrow3 (by simp; omega) (fun j hj => (World.ownsRow.lt hown.2 j hj).1)
              case measure => simp [intOf]; omega
    · go_wp2
      go_ret
      obtain rfl : k = R.length := by omega
      refine ⟨_, rfl, ?_, hb01.trans (hbw.mono hb01.size)⟩
      have h := HMD.out
      rw [nxt_none (Nat.le_refl _)] at h
      rw [← h.done (by rw [top_def]; omega) (fun x hx => by unfold mdT; simp; omega)]
      exact hown.base hb01.size
end Go.Proofs.YtbplkeopdfciiaaDoor
