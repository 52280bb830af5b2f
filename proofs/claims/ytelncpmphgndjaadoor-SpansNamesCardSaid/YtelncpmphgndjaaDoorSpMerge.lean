/- What merge of package spans hands back: the set of the numbers of which what it is handed says so, told whether either list has them, in new memory. Under the conditions that it names. -/
import Derived.Test.YtelncpmphgndjaaDoorSpSweep
namespace Go.Proofs.YtelncpmphgndjaaDoor
open Go.RowKit
/-- How the world stands between two cuts: the four boxes, what is merged, and the two lists of cuts as they were. -/
structure MJ (n : Nat) (kf : Nat) (k : Bool → Bool → Bool) (T : Nat → Bool) (w W0 : World) (i j y : Nat) (M : List (Nat × Nat)) (bg : Nat) (mv : Value) (W : World) : Prop where
  mrg : Mrg T y M (k (decide (i % 2 = 1)) (decide (j % 2 = 1))) bg
  len : M.length ≤ i + j
  bgt : bg ≤ top
  own : Own W0.heap.size W mv M
  b0 : W.heap[n]? = some (.cells #[.func (.func kf) #[] #[]] 67 (0, 0))
  b1 : W.heap[n + 1]? = some (.cells #[mv] 22 (0, 0))
  b2 : W.heap[n + 2]? = some (.cells #[.int .u64 bg] 35 (0, 0))
  b3 : W.heap[n + 3]? = some (.cells #[.bool (k (decide (i % 2 = 1)) (decide (j % 2 = 1)))] 4 (0, 0))
  old : ∀ g, n + 4 ≤ g → g < W0.heap.size → W.heap[g]? = W0.heap[g]?
  below : Below n w W
  size : W0.heap.size ≤ W.heap.size
theorem own_succ {w : World} {b : Nat} {t : TypeId} {k : Nat} {v : Value} {n : Nat} {xs : List Value} (h : w.ownsRow b t k v (n + 1) xs) : ∃ g cap, v = .slice (some ⟨g, 0, none⟩) (n + 1) cap := by
  rcases h.2 with ⟨_, hx⟩ | ⟨g, cap, cur, rfl, _⟩
  · omega
  · exact ⟨g, cap, rfl⟩
theorem heap_lt {W : World} {g : Nat} {o : Obj} (h : W.heap[g]? = some o) : g < W.heap.size := (Array.getElem?_eq_some_iff.1 h).1
set_option maxRecDepth 100000 in
set_option maxHeartbeats 2000000 in
theorem ask_is (n kf : Nat) (k : Bool → Bool → Bool) (hk : ∀ p q W, Calls Tryd.prog kf #[.bool p, .bool q] W fun e w' => e = .returned (.bool (k p q)) ∧ W = w') (hkf : ∀ args w, (callFunc kf args).run Tryd.prog w = .ok (.enter kf args) w)
    (a b : List (Nat × Nat)) (ha : Canon a) (hb : Canon b) (w W0 : World) (hn0 : n + 4 ≤ W0.heap.size) (i j y c i' j' : Nat) (M : List (Nat × Nat)) (bg : Nat) (mv : Value) (W : World)
    (hJ : MJ n kf k (fun x => k (has a x) (has b x)) w W0 i j y M bg mv W) (hs : Split (cutsOf a) (cutsOf b) i j y) (hnx : Next (cutsOf a) (cutsOf b) i j c i' j') (hct : c ≤ top) (hij : i + j ≤ 1000000000) :
    Calls Tryd.prog 59 #[.int .u64 c, .bool (decide (i' % 2 = 1)), .bool (decide (j' % 2 = 1)), .pointer (some ⟨n, 0, none⟩), .pointer (some ⟨n + 3, 0, none⟩), .pointer (some ⟨n + 2, 0, none⟩), .pointer (some ⟨n + 1, 0, none⟩)] W
      fun e W' => e = .returned (.tuple #[]) ∧ ∃ M' bg' mv', MJ n kf k (fun x => k (has a x) (has b x)) w W0 i' j' (c + 1) M' bg' mv' W' := by
  have hsp := hnx.split ha.cuts hb.cuts hs
  have hst := hs.still ha hb k hsp.2.2.2.2.1 hsp.2.2.2.2.2
  have hyc := hsp.2.1
  have hlt := hsp.2.2.2.1
  obtain ⟨ci, hci⟩ : ∃ z : Int, z = (c : Int) := ⟨_, rfl⟩
  rw [← hci]
  obtain ⟨bi, hbi⟩ : ∃ z : Int, z = (bg : Int) := ⟨_, rfl⟩
  obtain ⟨mrg, len, bgt, own, b0, b1, b2, b3, old, below, size⟩ := hJ
  rw [← hbi] at b2
  obtain ⟨op, hop⟩ : ∃ o, k (decide (i % 2 = 1)) (decide (j % 2 = 1)) = o := ⟨_, rfl⟩
  obtain ⟨p, hp⟩ : ∃ o, decide (i' % 2 = 1) = o := ⟨_, rfl⟩
  obtain ⟨q, hq⟩ : ∃ o, decide (j' % 2 = 1) = o := ⟨_, rfl⟩
  rw [hop] at mrg b3 hst
  have hkq := hk p q W
  obtain ⟨kp, hkp⟩ : ∃ o, k p q = o := ⟨_, rfl⟩
  rw [hkp] at hkq
  have HKQ := Lib.hid hkq
  have hkp2 : k (decide (i' % 2 = 1)) (decide (j' % 2 = 1)) = kp := by rw [hp, hq, hkp]
  rw [hp, hq]
  have c0 : W.cell? ⟨n, 0, none⟩ = some (.func (.func kf) #[] #[]) := cell_of_heap b0
  have c1 : W.cell? ⟨n + 1, 0, none⟩ = some mv := cell_of_heap b1
  have c2 : W.cell? ⟨n + 2, 0, none⟩ = some (.int .u64 bi) := cell_of_heap b2
  have c3 : W.cell? ⟨n + 3, 0, none⟩ = some (.bool op) := cell_of_heap b3
  have f1 : W.frozen? ⟨n + 1, 0, none⟩ = false := frozen_of_heap b1
  have f2 : W.frozen? ⟨n + 2, 0, none⟩ = false := frozen_of_heap b2
  have f3 : W.frozen? ⟨n + 3, 0, none⟩ = false := frozen_of_heap b3
  have B0 := Lib.hid b0; have B1 := Lib.hid b1; have B2 := Lib.hid b2; have B3 := Lib.hid b3
  have HMRG := Lib.hid mrg; have HOLD := Lib.hid old; have HST := Lib.hid hst
  have HCI := Lib.hid hci; have HBI := Lib.hid hbi; have HKP := Lib.hid hkp2
  have hc0 : 0 ≤ ci := by omega
  rw [top_def] at hct bgt
  have hc1 : ci ≤ 4294967296 := by omega
  have hbi0 : 0 ≤ bi := by omega
  have HN := Lib.hid hnx
  clear b0 b1 b2 b3 mrg old hst hci hbi hkp2 hkq hk hop hp hq hkp hs hnx hsp
  have hg1 := hkf
  have hne : ∀ g, g < W0.heap.size → some g ≠ mv.ownBlock := fun g hg h => by have := (own.2.lt g h.symm).1; omega
  have hnb : ∀ g v, g = n + 1 ∨ g = n + 2 ∨ g = n + 3 → Own W0.heap.size (W.setCell ⟨g, 0, none⟩ v) mv M := fun g v hg => ⟨own.1, ownsRow_of own.2 fun x _ hx _ => heap_setCell_ne _ (by omega)⟩
  have HNB := Lib.hid hnb; have HNE := Lib.hid hne
  clear hnb hne
  cases op <;> cases kp
  · go_enter Tryd.func59, Tryd.ntmps59
    go_wp2_with fail
    refine HKQ.out.mono ?_
    rintro e w' ⟨rfl, rfl⟩
    go_wp2
    go_end0
    refine ⟨rfl, M, bg, mv, ?_, by omega, by rw [top_def]; omega, HNB.out _ _ (by omega), ?_, ?_, ?_, ?_, ?_, ?_, by simp; omega⟩
    · rw [HKP.out]; exact HMRG.out.goes hyc HST.out
    · rw [heap_setCell_ne _ (by omega)]; exact B0.out
    · rw [heap_setCell_ne _ (by omega)]; exact B1.out
    · rw [heap_setCell_ne _ (by omega), ← HBI.out]; exact B2.out
    · rw [HKP.out]; exact heap_setCell _ B3.out
    · intro g h1 h2; rw [heap_setCell_ne _ (by omega)]; exact HOLD.out g h1 h2
    · exact Below.setCell (p := ⟨n + 3, _, none⟩) below (by show n ≤ n + 3; omega) _
  · go_enter Tryd.func59, Tryd.ntmps59
    go_wp2_with fail
    refine HKQ.out.mono ?_
    rintro e w' ⟨rfl, rfl⟩
    go_wp2
    go_end0
    refine ⟨rfl, M, c, mv, ?_, by omega, by rw [top_def]; omega, ?_, ?_, ?_, ?_, ?_, ?_, ?_, by simp; omega⟩
    · rw [HKP.out]; exact HMRG.out.begins hyc HST.out
    · exact ⟨own.1, ownsRow_of own.2 fun x _ hx _ => by rw [heap_setCell_ne _ (by omega), heap_setCell_ne _ (by omega)]⟩
    · rw [heap_setCell_ne _ (by omega), heap_setCell_ne _ (by omega)]; exact B0.out
    · rw [heap_setCell_ne _ (by omega), heap_setCell_ne _ (by omega)]; exact B1.out
    · rw [heap_setCell_ne _ (by omega), ← HCI.out]; exact heap_setCell _ B2.out
    · rw [HKP.out]
      have e3 : (W.setCell ⟨n + 2, 0, none⟩ (.int .u64 ci)).heap[n + 3]? = some (.cells #[.bool false] 4 (0, 0)) := by rw [heap_setCell_ne _ (by omega)]; exact B3.out
      exact heap_setCell _ e3
    · intro g h1 h2; rw [heap_setCell_ne _ (by omega), heap_setCell_ne _ (by omega)]; exact HOLD.out g h1 h2
    · exact Below.setCell (p := ⟨n + 3, _, none⟩) (Below.setCell (p := ⟨n + 2, _, none⟩) below (by show n ≤ n + 2; omega) _) (by show n ≤ n + 3; omega) _
  · go_enter Tryd.func59, Tryd.ntmps59
    go_wp2_with fail
    refine HKQ.out.mono ?_
    rintro e w' ⟨rfl, rfl⟩
    have hbc : bi < ci := by have := (HMRG.out.opn rfl).1; have := HBI.out; have := HCI.out; omega
    obtain ⟨i0, hi0, hz0, hz1, hz2⟩ := info_parts infoS
    have l1 : n + 1 < W.heap.size := by omega
    have l3 : n + 3 < W.heap.size := by omega
    go_wp2_with (at_builtin; refine wpList_append_own _ rfl _ _ 22 rfl W0.heap.size 32 i0 (.agg #[.int .u32 0, .int .u32 0]) 2 8 Tryd.underlying22 hi0 hz0 hz1 hz2 rfl (by decide) _ _ _ rfl (World.ownsRow.alloc own.2 _) ⟨W.heap.size, 0, none⟩ 1 1 [.int .u32 bi, .int .u32 (ci - 1)] rfl rfl (two_new (by simp) _ _ _) (fun x hx => by simp at hx; rcases hx with rfl | rfl <;> rfl) (by unfold maxLen; omega) (by omega) (by simp; omega) ?_; intro v3 w3 hown3 hgr3 hnil3; obtain ⟨g3, cap3, rfl⟩ := own_succ hown3; have hbk : ∀ g, g < W0.heap.size → w3.heap[g]? = W.heap[g]? := (fun g hg => (hgr3.block g (by simp; omega) (HNE.out g hg)).trans (heap_alloc _ (by omega))); have HBK := Lib.hid hbk; clear hbk; have y1 : w3.cell? ⟨n + 1, 0, none⟩ = some mv := cell_of_heap ((HBK.out _ (by omega)).trans B1.out); have y2 : w3.frozen? ⟨n + 1, 0, none⟩ = false := frozen_of_heap ((HBK.out _ (by omega)).trans B1.out); have y3 : w3.cell? ⟨n + 3, 0, none⟩ = some (.bool true) := cell_of_heap ((HBK.out _ (by omega)).trans B3.out); have y4 : w3.frozen? ⟨n + 3, 0, none⟩ = false := frozen_of_heap ((HBK.out _ (by omega)).trans B3.out); have hz3 := hgr3.size)
    go_end0
    simp at hz3
    refine ⟨rfl, M ++ [(bg, c - 1)], bg, .slice (some ⟨g3, 0, none⟩) (M.length + 1) cap3, ?_, by simp; omega, by rw [top_def]; omega, ?_, ?_, ?_, ?_, ?_, ?_, ?_, by simp; omega⟩
    · rw [HKP.out]; exact HMRG.out.ends hyc HST.out (by rw [top_def]; omega)
    · refine ⟨fun s hs => ?_, ?_⟩
      · rcases List.mem_append.1 hs with hs | hs
        · exact own.1 s hs
        · simp at hs; subst hs
          have := HCI.out; have := HBI.out
          exact ⟨by rw [top_def]; show bg < _; omega, by rw [top_def]; show c - 1 < _; omega⟩
      · have hlt3 := hown3.lt
        refine ownsRow_of (w := w3) ?_ fun x _ hx _ => by rw [heap_setCell_ne _ (by omega), heap_setCell_ne _ (by omega)]
        rw [flatS_append, List.length_append]
        rw [HBI.out, show ci - 1 = ((c - 1 : Nat) : Int) from by have := HCI.out; omega] at hown3
        exact hown3
    · rw [heap_setCell_ne _ (by omega), heap_setCell_ne _ (by omega), HBK.out _ (by omega)]; exact B0.out
    · rw [heap_setCell_ne _ (by omega)]; exact heap_setCell _ ((HBK.out _ (by omega)).trans B1.out)
    · rw [heap_setCell_ne _ (by omega), heap_setCell_ne _ (by omega), HBK.out _ (by omega), ← HBI.out]; exact B2.out
    · rw [HKP.out]
      have e3 : (w3.setCell ⟨n + 1, 0, none⟩ (.slice (some ⟨g3, 0, none⟩) (M.length + 1) cap3)).heap[n + 3]? = some (.cells #[.bool true] 4 (0, 0)) := by rw [heap_setCell_ne _ (by omega), HBK.out _ (by omega)]; exact B3.out
      exact heap_setCell _ e3
    · intro g h1 h2; rw [heap_setCell_ne _ (by omega), heap_setCell_ne _ (by omega), HBK.out g h2]; exact HOLD.out g h1 h2
    · exact Below.setCell (p := ⟨n + 3, _, none⟩) (Below.setCell (p := ⟨n + 1, _, none⟩) (Below.grown (below.alloc (by omega) _) hgr3 (by simp; omega) (fun j hj => by have := (own.2.lt j hj).1; omega)) (by show n ≤ n + 1; omega) _) (by show n ≤ n + 3; omega) _
  · go_enter Tryd.func59, Tryd.ntmps59
    go_wp2_with fail
    refine HKQ.out.mono ?_
    rintro e w' ⟨rfl, rfl⟩
    go_wp2
    go_end0
    refine ⟨rfl, M, bg, mv, ?_, by omega, by rw [top_def]; omega, HNB.out _ _ (by omega), ?_, ?_, ?_, ?_, ?_, ?_, by simp; omega⟩
    · rw [HKP.out]; exact HMRG.out.goes hyc HST.out
    · rw [heap_setCell_ne _ (by omega)]; exact B0.out
    · rw [heap_setCell_ne _ (by omega)]; exact B1.out
    · rw [heap_setCell_ne _ (by omega), ← HBI.out]; exact B2.out
    · rw [HKP.out]; exact heap_setCell _ B3.out
    · intro g h1 h2; rw [heap_setCell_ne _ (by omega)]; exact HOLD.out g h1 h2
    · exact Below.setCell (p := ⟨n + 3, _, none⟩) below (by show n ≤ n + 3; omega) _
end Go.Proofs.YtelncpmphgndjaaDoor
