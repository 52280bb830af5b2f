/- slices.CompactFunc with what tells whether two routes are the same. Under the conditions that they name. -/
import Derived.Test.YtgpoeeccgpjnlaaGreatDoorRsI
import Derived.Test.YtgpoeeccgpjnlaaGreatDoorRsD
import Derived.Lib.SliceRun
namespace Go.Proofs.YtgpoeeccgpjnlaaGreatDoor
open Go.RowKit Go.Lib Go.Shelf
/-- Where what tells that two routes are the same stands. -/
def EvAt (W : World) (p q h : Nat) : Prop := OrdAt W q h ∧ p < W.heap.size ∧ W.cell? ⟨p, 0, none⟩ = some (.func (.func 65) #[] #[.pointer (some ⟨q, 0, none⟩)])
theorem EvAt.bl {W W' : World} {p q h b : Nat} (h0 : EvAt W p q h) (hb : Below b W W') (hp : W'.heap[p]? = W.heap[p]?) (hq : q < b) (hh : h < b) : EvAt W' p q h :=
  ⟨h0.1.bl hb hq hh, by have := hb.size; have := h0.2.1; omega, by have := h0.2.2; unfold World.cell? at this ⊢; simpa only [hp] using this⟩
theorem sets_other : ∀ (vs : List Value) (w : World) (g o k : Nat), k ≠ g → (w.setCells g o vs).heap[k]? = w.heap[k]?
  | [], _, _, _, _, _ => rfl
  | v :: vs, w, g, o, k, h => by
    show ((w.setCell ⟨g, o, none⟩ v).setCells g (o + 1) vs).heap[k]? = _
    rw [sets_other vs _ g (o + 1) k h]
    unfold World.setCell
    simp only [Array.getElem?_modify]
    rw [if_neg (Ne.symm h)]
theorem ev_is (r s : RtD) (w : World) (p q h : Nat) (he : EvAt w p q h) : Calls Tryz.prog 74 #[.agg (encRt r).toArray, .agg (encRt s).toArray, .pointer (some ⟨p, 0, none⟩)] w fun e w' => e = .returned (.bool (cR r s == 0)) ∧ Below w.heap.size w w' :=
  even_at r s w q h p he.1 he.2.1 he.2.2
/-- Does the element at a place stay? -/
def keepB (l : List RtD) (m : Nat) : Bool := m == 0 || (cR l[m]! l[m - 1]! != 0)
def cpt (l : List RtD) : Nat → List RtD
  | 0 => []
  | m + 1 => if keepB l m = true then cpt l m ++ [l[m]!] else cpt l m
theorem cpt_all (l : List RtD) : ∀ m, m ≤ l.length → (∀ j, j < m → keepB l j = true) → cpt l m = l.take m
  | 0, _, _ => rfl
  | m + 1, hm, h => by
    rw [cpt, if_pos (h m (by omega)), cpt_all l m (by omega) (fun j hj => h j (by omega)), List.take_add_one, List.getElem?_eq_getElem (by omega)]
    rw [getElem!_pos l m (by omega)]; rfl
theorem cpt_len (l : List RtD) : ∀ m, (cpt l m).length ≤ m
  | 0 => Nat.le_refl _
  | m + 1 => by
    have := cpt_len l m
    rw [cpt]; split
    · simp; omega
    · omega
def zR : Value := .agg #[.int .u32 0, .int .i64 0, .int .u8 0, .int .i64 0, .int .i64 0, .int .i64 0, .string ⟨#[]⟩, .int .u32 0, .bool false]
theorem infoZ : (Tryz.prog.info? 27).map (fun i => (i.zero, i.size)) = some (some zR, 9) := by kernel_rfl
theorem zero_run (w : World) : (zeroValue 27).run Tryz.prog w = .ok zR w := by
  obtain ⟨i, hi, he⟩ := Option.map_eq_some_iff.1 infoZ
  simp only [Prod.mk.injEq] at he
  simp [zeroValue, typeInfo, hi, he.1]
theorem zc_len (n : Nat) : (Builtin.zeroCells zR.cells n).toList.length = n * 9 := by
  simp [Builtin.zeroCells, zR, Value.cells]
theorem zc_one (n : Nat) : ∀ v ∈ (Builtin.zeroCells zR.cells n).toList, v.oneCell' = true := by
  intro v hv
  simp only [Builtin.zeroCells, Array.toList_map, List.mem_map] at hv
  obtain ⟨i, _, rfl⟩ := hv
  have h9 : zR.cells.size = 9 := rfl
  have hm : i % zR.cells.size < 9 := by rw [h9]; exact Nat.mod_lt _ (by omega)
  generalize i % zR.cells.size = j at hm
  match j, hm with
  | 0, _ => rfl
  | 1, _ => rfl
  | 2, _ => rfl
  | 3, _ => rfl
  | 4, _ => rfl
  | 5, _ => rfl
  | 6, _ => rfl
  | 7, _ => rfl
  | 8, _ => rfl
def zlist (n : Nat) : List Value := (Builtin.zeroCells zR.cells n).toList
theorem clear_is (w : World) (ty : TypeId) (b o n c : Nat) (hn : 0 < n) (hc : ∀ j, j < n * 9 → (w.cell? ⟨b, o + j, none⟩).isSome = true) (hf : ∀ j, j < n * 9 → w.frozen? ⟨b, o + j, none⟩ = false) :
    (Builtin.clear_ #[28] ty #[.slice (some ⟨b, o, none⟩) n c]).run Tryz.prog w = .ok (.tuple #[]) (w.setCells b o (zlist n)) := by
  unfold zlist
  have hst := run_storeCells_cells (P := Tryz.prog) b o (Builtin.zeroCells zR.cells n).toList 0 w (by rw [zc_len]; simpa using hc) (by rw [zc_len]; simpa using hf) (zc_one n)
  simp only [Nat.add_zero] at hst
  obtain ⟨m, rfl⟩ : ∃ m, n = m + 1 := ⟨n - 1, by omega⟩
  simp only [zR] at hst ⊢
  simp [Builtin.clear_, run_underlying Tryz.underlying28, zero_run, zR, hst]
theorem heap_set (w : World) (g o : Nat) (v : Value) (cur : Array Value) (e : TypeId) (f : Nat × Nat) (h : w.heap[g]? = some (.cells cur e f)) : (w.setCell ⟨g, o, none⟩ v).heap[g]? = some (.cells (cur.setIfInBounds o v) e f) := by
  unfold World.setCell
  simp [Array.getElem?_modify, h]
theorem heap_sets : ∀ (vs : List Value) (w : World) (g o : Nat) (cur : Array Value) (e : TypeId) (f : Nat × Nat), w.heap[g]? = some (.cells cur e f) →
    ∃ cur', (w.setCells g o vs).heap[g]? = some (.cells cur' e f) ∧ cur'.size = cur.size ∧ (∀ i, (i < o ∨ o + vs.length ≤ i) → cur'[i]? = cur[i]?) ∧ (∀ j u, o + vs.length ≤ cur.size → vs[j]? = some u → cur'[o + j]? = some u)
  | [], w, g, o, cur, e, f, h => ⟨cur, h, rfl, fun _ _ => rfl, fun j u _ hu => by simp at hu⟩
  | v :: vs, w, g, o, cur, e, f, h => by
    obtain ⟨cur', h1, h2, h3, h4⟩ := heap_sets vs (w.setCell ⟨g, o, none⟩ v) g (o + 1) _ e f (heap_set w g o v cur e f h)
    refine ⟨cur', h1, by rw [h2]; simp, fun i hi => ?_, fun j u hsz hu => ?_⟩
    · rw [h3 i (by simp at hi; omega), Array.getElem?_setIfInBounds, if_neg (by simp at hi; omega)]
    · simp only [List.length_cons] at hsz
      cases j with
      | zero =>
        simp at hu
        subst hu
        rw [h3 (o + 0) (by omega), Nat.add_zero, Array.getElem?_setIfInBounds, if_pos rfl, if_pos (by omega)]
      | succ j =>
        have := h4 j u (by simp; omega) (by simpa using hu)
        rwa [show o + 1 + j = o + (j + 1) from by omega] at this
theorem below_sets : ∀ (vs : List Value) (w : World) (b g o : Nat), b ≤ g → Below b w (w.setCells g o vs)
  | [], w, b, _, _, _ => Below.refl b w
  | v :: vs, w, b, g, o, h => ((Below.refl b w).setCell (p := ⟨g, o, none⟩) h v).trans (below_sets vs _ b g (o + 1) h)
/-- The row's first elements stay when what stands behind is written over. -/
theorem RowR.sets {w : World} {g cap : Nat} {F L : List RtD} {i : Nat} (h : RowR w g cap F L i) (o : Nat) (vs : List Value) (ho : F.length * 9 ≤ o) : RowR (w.setCells g o vs) g cap [] F 0 := by
  obtain ⟨cur, h1, h2, h3, h4⟩ := h
  obtain ⟨cur', k1, k2, k3, _⟩ := heap_sets vs w g o cur _ _ h1
  refine ⟨cur', k1, by omega, fun k s hk => by simp at hk, fun k s _ hk j u hu => ?_⟩
  have hk' := (List.getElem?_eq_some_iff.1 hk).1
  have hj : j < 9 := by have := (List.getElem?_eq_some_iff.1 hu).1; rwa [encRt_len] at this
  rw [k3 (k * 9 + j) (.inl (by omega))]
  exact h3 k s hk j u hu
/-- One element more in front. -/
theorem RowR.put {w : World} {g cap : Nat} {F L : List RtD} {i m : Nat} (h : RowR w g cap F L i) (s : RtD) (hF : F.length = m) (hm : m < i) (hc : i ≤ cap) : RowR (w.setCells g (m * 9) (encRt s)) g cap (F ++ [s]) L i := by
  obtain ⟨cur, h1, h2, h3, h4⟩ := h
  obtain ⟨cur', k1, k2, k3, k4⟩ := heap_sets (encRt s) w g (m * 9) cur _ _ h1
  rw [encRt_len] at k3 k4
  refine ⟨cur', k1, by omega, fun k t hk j u hu => ?_, fun k t hk hkt j u hu => ?_⟩
  · have hj : j < 9 := by have := (List.getElem?_eq_some_iff.1 hu).1; rwa [encRt_len] at this
    have hk' := (List.getElem?_eq_some_iff.1 hk).1
    simp only [List.length_append, List.length_cons, List.length_nil, Nat.zero_add] at hk'
    by_cases hkm : k < m
    · rw [List.getElem?_append_left (by omega)] at hk
      rw [k3 _ (.inl (by omega))]
      exact h3 k t hk j u hu
    · have e : k = m := by omega
      subst e
      rw [List.getElem?_append_right (by omega), hF, Nat.sub_self] at hk
      simp at hk
      subst hk
      exact k4 j u (by omega) hu
  · rw [k3 _ (.inr (by omega))]
    exact h4 k t hk hkt j u hu
set_option maxRecDepth 100000 in
set_option maxHeartbeats 8000000 in
theorem compact_is {b p q h : Nat} {w : World} {v : Value} {l : List RtD} (hown : OwnR b w v l) (hlen : l.length ≤ 1000000000) (hb : b ≤ w.heap.size) (ho : EvAt w p q h) (hp : p < w.heap.size) (hpg : ∀ g n c, v = .slice (some ⟨g, 0, none⟩) n c → p ≠ g) (hq : q < b) (hh : h < b) :
    Calls Tryz.prog 52 #[v, .func (.func 74) #[] #[.pointer (some ⟨p, 0, none⟩)]] w fun e w' => ∃ v', e = .returned v' ∧ OwnR b w' v' (cpt l l.length) ∧ Below b w w' := by
  rcases hown.row with ⟨rfl, rfl⟩ | ⟨g, cap, rfl, hg, hle, hcap, hrow, hglt⟩
  · go_enter Tryz.func52, Tryz.ntmps52
    go_wp2
    go_ret
    exact ⟨_, rfl, hown, Below.refl _ _⟩
  · have hpg := hpg g _ _ rfl
    have eg : ∀ args w, (callFunc 74 args).run Tryz.prog w = .ok (.enter 74 args) w := enters_of Tryz.func74 (by kernel_rfl) rfl
    have HAll : Hid (∀ W, RowR W g cap [] l 0 → Below b w W → (∀ j, 0 < j → j < l.length → keepB l j = true) → OwnR b W (.slice (some ⟨g, 0, none⟩) l.length cap) (cpt l l.length)) := Lib.hid fun W hr _ ha => by
      rw [cpt_all l _ (Nat.le_refl _) (fun j hj => by by_cases h0 : j = 0; (subst h0; rfl); exact ha j (by omega) hj), List.take_length]
      exact hr.own hg hle hcap
    by_cases h2 : l.length < 2
    · have HO := Lib.hid (HAll.out w hrow (Below.refl _ _) (fun j h0 h1 => by omega))
      have h2i : (l.length : Int) < 2 := by omega
      clear hrow hown HAll
      go_enter Tryz.func52, Tryz.ntmps52
      go_wp2
      go_ret
      exact ⟨_, rfl, HO.out, Below.refl _ _⟩
    · have h2i : ¬ (l.length : Int) < 2 := by omega
      have HR := Lib.hid hrow
      have HE := Lib.hid ho
      clear hrow hown ho
      go_enter Tryz.func52, Tryz.ntmps52
      go_wp2
      go_loopw [5] (fun s5 wr => ∃ k : Nat, 1 ≤ k ∧ k ≤ l.length ∧ s5 = .int .i64 k ∧ Hid (Below b w wr ∧ RowR wr g cap [] l 0 ∧ (∀ j, 0 < j → j < k → keepB l j = true) ∧ wr.heap[p]? = w.heap[p]?)) (fun s5 _ => l.length - (intOf s5).toNat)
      case atStart => exact ⟨1, Nat.le_refl _, by omega, rfl, Lib.hid ⟨Below.refl _ _, HR.out, fun j h0 h1 => by omega, rfl⟩⟩
      case round =>
        obtain ⟨k, hk1, hk, rfl, HI⟩ := hrel
        by_cases hlt : k < l.length
        · have hlti : (k : Int) < (l.length : Int) := by omega
          obtain ⟨x, hx⟩ : ∃ x, l[k]? = some x := ⟨_, List.getElem?_eq_getElem hlt⟩
          obtain ⟨y, hy⟩ : ∃ y, l[k - 1]? = some y := ⟨_, List.getElem?_eq_getElem (by omega)⟩
          have HX := Lib.hid hx
          have HY := Lib.hid hy
          have cx := HI.out.2.1.cells (Nat.zero_le _) hx
          have cy := HI.out.2.1.cells (Nat.zero_le _) hy
          clear hx hy
          have i1 : (0 : Int) ≤ (k : Int) := by omega
          have i2 : (0 : Int) ≤ (k : Int) - 1 := by omega
          have i3 : (k : Int) - 1 < (l.length : Int) := by omega
          have i4 : ((k : Int) - 1).toNat = k - 1 := by omega
          have hgl : g < wr.heap.size := by have := HI.out.1.size; omega
          have HK : Hid (keepB l k = !(cR x y == 0)) := Lib.hid (by
            have e1 : l[k]! = x := by rw [getElem!_pos l k hlt]; have := HX.out; rw [List.getElem?_eq_getElem hlt] at this; simpa using this
            have e2 : l[k - 1]! = y := by rw [getElem!_pos l (k - 1) (by omega)]; have := HY.out; rw [List.getElem?_eq_getElem (by omega)] at this; simpa using this
            unfold keepB
            rw [e1, e2]
            have : (k == 0) = false := by simp; omega
            rw [this]; rfl)
          have HT : Hid (∀ W, EvAt W p q h → Calls Tryz.prog 74 #[.agg (encRt x).toArray, .agg (encRt y).toArray, .pointer (some ⟨p, 0, none⟩)] W fun e w' => e = .returned (.bool (cR x y == 0)) ∧ Below W.heap.size W w') := Lib.hid fun W h0 => ev_is x y W p q h h0
          obtain ⟨d, hd⟩ : ∃ d, (cR x y == 0) = d := ⟨_, rfl⟩
          rw [hd] at HT HK
          clear hd
          obtain ⟨xa, xb, xfr, xdi, xme, xta, xnm, xho, xdc⟩ := x
          obtain ⟨ya, yb, yfr, ydi, yme, yta, ynm, yho, ydc⟩ := y
          simp only [encRt] at HT
          have cx0 : wr.cell? ⟨g, k * 9, none⟩ = some (.int .u32 xa) := cx 0 _ rfl
          have cy0 : wr.cell? ⟨g, (k - 1) * 9, none⟩ = some (.int .u32 ya) := cy 0 _ rfl
          have cx1 : wr.cell? ⟨g, k * 9 + 1, none⟩ = some (.int .i64 xb) := cx 1 _ rfl
          have cy1 : wr.cell? ⟨g, (k - 1) * 9 + 1, none⟩ = some (.int .i64 yb) := cy 1 _ rfl
          have cx2 : wr.cell? ⟨g, k * 9 + 2, none⟩ = some (.int .u8 xfr) := cx 2 _ rfl
          have cy2 : wr.cell? ⟨g, (k - 1) * 9 + 2, none⟩ = some (.int .u8 yfr) := cy 2 _ rfl
          have cx3 : wr.cell? ⟨g, k * 9 + 3, none⟩ = some (.int .i64 xdi) := cx 3 _ rfl
          have cy3 : wr.cell? ⟨g, (k - 1) * 9 + 3, none⟩ = some (.int .i64 ydi) := cy 3 _ rfl
          have cx4 : wr.cell? ⟨g, k * 9 + 4, none⟩ = some (.int .i64 xme) := cx 4 _ rfl
          have cy4 : wr.cell? ⟨g, (k - 1) * 9 + 4, none⟩ = some (.int .i64 yme) := cy 4 _ rfl
          have cx5 : wr.cell? ⟨g, k * 9 + 5, none⟩ = some (.int .i64 xta) := cx 5 _ rfl
          have cy5 : wr.cell? ⟨g, (k - 1) * 9 + 5, none⟩ = some (.int .i64 yta) := cy 5 _ rfl
          have cx6 : wr.cell? ⟨g, k * 9 + 6, none⟩ = some (.string xnm) := cx 6 _ rfl
          have cy6 : wr.cell? ⟨g, (k - 1) * 9 + 6, none⟩ = some (.string ynm) := cy 6 _ rfl
          have cx7 : wr.cell? ⟨g, k * 9 + 7, none⟩ = some (.int .u32 xho) := cx 7 _ rfl
          have cy7 : wr.cell? ⟨g, (k - 1) * 9 + 7, none⟩ = some (.int .u32 yho) := cy 7 _ rfl
          have cx8 : wr.cell? ⟨g, k * 9 + 8, none⟩ = some (.bool xdc) := cx 8 _ rfl
          have cy8 : wr.cell? ⟨g, (k - 1) * 9 + 8, none⟩ = some (.bool ydc) := cy 8 _ rfl
          clear cx cy
          have hev : ∀ z : Grows wr, EvAt z.val p q h := fun z => (HE.out.bl HI.out.1 HI.out.2.2.2 hq hh).bl z.below (z.below.block p (by have := HI.out.1.size; omega)) (by omega) (by omega)
          go_wp2_with fail
          refine wp_region_grows (by kernel_rfl) (by kernel_rfl) ?_
          refine grows_fact _ _ _ cx0 hgl fun rx0 => ?_
          refine grows_fact _ _ _ cy0 hgl fun ry0 => ?_
          refine grows_fact _ _ _ cx1 hgl fun rx1 => ?_
          refine grows_fact _ _ _ cy1 hgl fun ry1 => ?_
          refine grows_fact _ _ _ cx2 hgl fun rx2 => ?_
          refine grows_fact _ _ _ cy2 hgl fun ry2 => ?_
          refine grows_fact _ _ _ cx3 hgl fun rx3 => ?_
          refine grows_fact _ _ _ cy3 hgl fun ry3 => ?_
          refine grows_fact _ _ _ cx4 hgl fun rx4 => ?_
          refine grows_fact _ _ _ cy4 hgl fun ry4 => ?_
          refine grows_fact _ _ _ cx5 hgl fun rx5 => ?_
          refine grows_fact _ _ _ cy5 hgl fun ry5 => ?_
          refine grows_fact _ _ _ cx6 hgl fun rx6 => ?_
          refine grows_fact _ _ _ cy6 hgl fun ry6 => ?_
          refine grows_fact _ _ _ cx7 hgl fun rx7 => ?_
          refine grows_fact _ _ _ cy7 hgl fun ry7 => ?_
          refine grows_fact _ _ _ cx8 hgl fun rx8 => ?_
          refine grows_fact _ _ _ cy8 hgl fun ry8 => ?_
          clear cx0 cy0 cx1 cy1 cx2 cy2 cx3 cy3 cx4 cy4 cx5 cy5 cx6 cy6 cx7 cy7 cx8 cy8
          repeat (go_big_quiet_step ((exact Calls.grows_of (HT.out _ (hev _)))))
          refine wpQuiet_nil ?_
          rintro w4 ⟨⟨_, hb4⟩, rfl⟩
          clear rx0 ry0 rx1 ry1 rx2 ry2 rx3 ry3 rx4 ry4 rx5 ry5 rx6 ry6 rx7 ry7 rx8 ry8
          have HI2 : Hid (Below b w w4 ∧ RowR w4 g cap [] l 0 ∧ (∀ j, 0 < j → j < k → keepB l j = true) ∧ w4.heap[p]? = w.heap[p]?) := Lib.hid ⟨HI.out.1.trans (hb4.mono (by have := HI.out.1.size; omega)), HI.out.2.1.of (hb4.block g hgl), HI.out.2.2.1, (hb4.block p (by have := HI.out.1.size; omega)).trans HI.out.2.2.2⟩
          clear hb4 hev hgl HI
          cases d
          · go_wp2_with fail
            go_roundw
            case rel =>
              refine ⟨k + 1, by omega, by omega, by go_num, Lib.hid ⟨HI2.out.1, HI2.out.2.1, fun j h0 h1 => ?_, HI2.out.2.2.2⟩⟩
              by_cases e : j = k
              · subst e; exact HK.out
              · exact HI2.out.2.2.1 j h0 (by omega)
            case measure => first | (simp [intOf]; done) | (simp [intOf]; omega)
          · have j1 : (k : Int) ≤ (l.length : Int) := by omega
            have j2 : (k : Int) ≤ (cap : Int) := by omega
            have j3 : k ≤ l.length := by omega
            have j4 : k ≤ cap := by omega
            go_wp2_with fail
            go_loopw [5, 7] (fun s5 s7 wq => ∃ kk k2 : Nat, s5 = .int .i64 kk ∧ s7 = .int .i64 k2 ∧ 1 ≤ k2 ∧ k + k2 ≤ l.length ∧ kk + 1 ≤ k + k2 ∧ Hid (Below b w wq ∧ RowR wq g cap (cpt l (k + k2)) l (k + k2 - 1) ∧ (cpt l (k + k2)).length = kk ∧ wq.heap[p]? = w.heap[p]?)) (fun _ s7 _ => l.length - k - (intOf s7).toNat)
            case atStart =>
              refine ⟨k, 1, rfl, rfl, Nat.le_refl _, by omega, by omega, Lib.hid ?_⟩
              have e1 : cpt l (k + 1) = l.take k := by
                rw [cpt, if_neg (by rw [HK.out]; simp)]
                exact cpt_all l k (by omega) (fun j hj => by by_cases h0 : j = 0; (subst h0; rfl); exact HI2.out.2.2.1 j (by omega) hj)
              refine ⟨HI2.out.1, ?_, by rw [e1, List.length_take]; omega, HI2.out.2.2.2⟩
              rw [e1]
              obtain ⟨cur, r1, r2, _, r4⟩ := HI2.out.2.1
              refine ⟨cur, r1, r2, fun m s hm => ?_, fun m s _ => r4 m s (Nat.zero_le _)⟩
              rw [List.getElem?_take] at hm
              split at hm
              · exact r4 m s (Nat.zero_le _) hm
              · cases hm
            case round =>
              obtain ⟨kk, k2, rfl, rfl, hk2, hkl, hkk, HJ⟩ := hrel
              have hgl : g < wr.heap.size := by have := HJ.out.1.size; omega
              by_cases hlt2 : k + k2 < l.length
              · have q1 : (k2 : Int) < ((l.length - k : Nat) : Int) := by omega
                have q0 : (0 : Int) ≤ (k2 : Int) := by omega
                have q2 : (0 : Int) ≤ (k2 : Int) - 1 := by omega
                have q3 : (k2 : Int) - 1 < ((l.length - k : Nat) : Int) := by omega
                have q4 : ((k2 : Int) - 1).toNat = k2 - 1 := by omega
                have q5 : (0 : Int) ≤ (kk : Int) := by omega
                have q6 : (kk : Int) < (l.length : Int) := by omega
                obtain ⟨x, hx⟩ : ∃ x, l[k + k2]? = some x := ⟨_, List.getElem?_eq_getElem hlt2⟩
                obtain ⟨y, hy⟩ : ∃ y, l[k + k2 - 1]? = some y := ⟨_, List.getElem?_eq_getElem (by omega)⟩
                have HX := Lib.hid hx
                have HY := Lib.hid hy
                have cx := HJ.out.2.1.cells (by omega) hx
                have cy := HJ.out.2.1.cells (Nat.le_refl _) hy
                clear hx hy
                have HK2 : Hid (keepB l (k + k2) = !(cR x y == 0) ∧ l[k + k2]! = x) := Lib.hid (by
                  have e1 : l[k + k2]! = x := by rw [getElem!_pos l (k + k2) hlt2]; have := HX.out; rw [List.getElem?_eq_getElem hlt2] at this; simpa using this
                  have e2 : l[k + k2 - 1]! = y := by rw [getElem!_pos l (k + k2 - 1) (by omega)]; have := HY.out; rw [List.getElem?_eq_getElem (by omega)] at this; simpa using this
                  refine ⟨?_, e1⟩
                  unfold keepB
                  rw [e1, e2]
                  have : (k + k2 == 0) = false := by simp; omega
                  rw [this]; rfl)
                have HT : Hid (∀ W, EvAt W p q h → Calls Tryz.prog 74 #[.agg (encRt x).toArray, .agg (encRt y).toArray, .pointer (some ⟨p, 0, none⟩)] W fun e w' => e = .returned (.bool (cR x y == 0)) ∧ Below W.heap.size W w') := Lib.hid fun W h0 => ev_is x y W p q h h0
                obtain ⟨d, hd⟩ : ∃ d, (cR x y == 0) = d := ⟨_, rfl⟩
                rw [hd] at HT HK2
                clear hd
                have HP : Hid (∀ W, RowR W g cap (cpt l (k + k2)) l (k + k2 - 1) → RowR (W.setCells g (kk * 9) (encRt x)) g cap (cpt l (k + k2) ++ [x]) l (k + k2)) := Lib.hid fun W hr => (hr.later (by omega)).put x HJ.out.2.2.1 (by omega) (by omega)
                obtain ⟨x0, hx0⟩ : ∃ x0, x = x0 := ⟨_, rfl⟩
                rw [hx0] at HX HK2 HP
                obtain ⟨xa, xb, xfr, xdi, xme, xta, xnm, xho, xdc⟩ := x
                obtain ⟨ya, yb, yfr, ydi, yme, yta, ynm, yho, ydc⟩ := y
                have HEN : Hid (encRt x0 = [.int .u32 xa, .int .i64 xb, .int .u8 xfr, .int .i64 xdi, .int .i64 xme, .int .i64 xta, .string xnm, .int .u32 xho, .bool xdc]) := Lib.hid (by rw [← hx0]; rfl)
                simp only [encRt] at HT
                have cx0 : wr.cell? ⟨g, k * 9 + k2 * 9, none⟩ = some (.int .u32 xa) := by have := cx 0 _ rfl; rwa [show (k + k2) * 9 + 0 = k * 9 + k2 * 9 from by omega] at this
                have cy0 : wr.cell? ⟨g, k * 9 + (k2 - 1) * 9, none⟩ = some (.int .u32 ya) := by have := cy 0 _ rfl; rwa [show (k + k2 - 1) * 9 + 0 = k * 9 + (k2 - 1) * 9 from by omega] at this
                have cx1 : wr.cell? ⟨g, k * 9 + k2 * 9 + 1, none⟩ = some (.int .i64 xb) := by have := cx 1 _ rfl; rwa [show (k + k2) * 9 + 1 = k * 9 + k2 * 9 + 1 from by omega] at this
                have cy1 : wr.cell? ⟨g, k * 9 + (k2 - 1) * 9 + 1, none⟩ = some (.int .i64 yb) := by have := cy 1 _ rfl; rwa [show (k + k2 - 1) * 9 + 1 = k * 9 + (k2 - 1) * 9 + 1 from by omega] at this
                have cx2 : wr.cell? ⟨g, k * 9 + k2 * 9 + 2, none⟩ = some (.int .u8 xfr) := by have := cx 2 _ rfl; rwa [show (k + k2) * 9 + 2 = k * 9 + k2 * 9 + 2 from by omega] at this
                have cy2 : wr.cell? ⟨g, k * 9 + (k2 - 1) * 9 + 2, none⟩ = some (.int .u8 yfr) := by have := cy 2 _ rfl; rwa [show (k + k2 - 1) * 9 + 2 = k * 9 + (k2 - 1) * 9 + 2 from by omega] at this
                have cx3 : wr.cell? ⟨g, k * 9 + k2 * 9 + 3, none⟩ = some (.int .i64 xdi) := by have := cx 3 _ rfl; rwa [show (k + k2) * 9 + 3 = k * 9 + k2 * 9 + 3 from by omega] at this
                have cy3 : wr.cell? ⟨g, k * 9 + (k2 - 1) * 9 + 3, none⟩ = some (.int .i64 ydi) := by have := cy 3 _ rfl; rwa [show (k + k2 - 1) * 9 + 3 = k * 9 + (k2 - 1) * 9 + 3 from by omega] at this
                have cx4 : wr.cell? ⟨g, k * 9 + k2 * 9 + 4, none⟩ = some (.int .i64 xme) := by have := cx 4 _ rfl; rwa [show (k + k2) * 9 + 4 = k * 9 + k2 * 9 + 4 from by omega] at this
                have cy4 : wr.cell? ⟨g, k * 9 + (k2 - 1) * 9 + 4, none⟩ = some (.int .i64 yme) := by have := cy 4 _ rfl; rwa [show (k + k2 - 1) * 9 + 4 = k * 9 + (k2 - 1) * 9 + 4 from by omega] at this
                have cx5 : wr.cell? ⟨g, k * 9 + k2 * 9 + 5, none⟩ = some (.int .i64 xta) := by have := cx 5 _ rfl; rwa [show (k + k2) * 9 + 5 = k * 9 + k2 * 9 + 5 from by omega] at this
                have cy5 : wr.cell? ⟨g, k * 9 + (k2 - 1) * 9 + 5, none⟩ = some (.int .i64 yta) := by have := cy 5 _ rfl; rwa [show (k + k2 - 1) * 9 + 5 = k * 9 + (k2 - 1) * 9 + 5 from by omega] at this
                have cx6 : wr.cell? ⟨g, k * 9 + k2 * 9 + 6, none⟩ = some (.string xnm) := by have := cx 6 _ rfl; rwa [show (k + k2) * 9 + 6 = k * 9 + k2 * 9 + 6 from by omega] at this
                have cy6 : wr.cell? ⟨g, k * 9 + (k2 - 1) * 9 + 6, none⟩ = some (.string ynm) := by have := cy 6 _ rfl; rwa [show (k + k2 - 1) * 9 + 6 = k * 9 + (k2 - 1) * 9 + 6 from by omega] at this
                have cx7 : wr.cell? ⟨g, k * 9 + k2 * 9 + 7, none⟩ = some (.int .u32 xho) := by have := cx 7 _ rfl; rwa [show (k + k2) * 9 + 7 = k * 9 + k2 * 9 + 7 from by omega] at this
                have cy7 : wr.cell? ⟨g, k * 9 + (k2 - 1) * 9 + 7, none⟩ = some (.int .u32 yho) := by have := cy 7 _ rfl; rwa [show (k + k2 - 1) * 9 + 7 = k * 9 + (k2 - 1) * 9 + 7 from by omega] at this
                have cx8 : wr.cell? ⟨g, k * 9 + k2 * 9 + 8, none⟩ = some (.bool xdc) := by have := cx 8 _ rfl; rwa [show (k + k2) * 9 + 8 = k * 9 + k2 * 9 + 8 from by omega] at this
                have cy8 : wr.cell? ⟨g, k * 9 + (k2 - 1) * 9 + 8, none⟩ = some (.bool ydc) := by have := cy 8 _ rfl; rwa [show (k + k2 - 1) * 9 + 8 = k * 9 + (k2 - 1) * 9 + 8 from by omega] at this
                clear cx cy hx0
                have hev : ∀ z : Grows wr, EvAt z.val p q h := fun z => (HE.out.bl HJ.out.1 HJ.out.2.2.2 hq hh).bl z.below (z.below.block p (by have := HJ.out.1.size; omega)) (by omega) (by omega)
                go_wp2_with fail
                refine wp_region_grows (by kernel_rfl) (by kernel_rfl) ?_
                refine grows_fact _ _ _ cx0 hgl fun rx0 => ?_
                refine grows_fact _ _ _ cy0 hgl fun ry0 => ?_
                refine grows_fact _ _ _ cx1 hgl fun rx1 => ?_
                refine grows_fact _ _ _ cy1 hgl fun ry1 => ?_
                refine grows_fact _ _ _ cx2 hgl fun rx2 => ?_
                refine grows_fact _ _ _ cy2 hgl fun ry2 => ?_
                refine grows_fact _ _ _ cx3 hgl fun rx3 => ?_
                refine grows_fact _ _ _ cy3 hgl fun ry3 => ?_
                refine grows_fact _ _ _ cx4 hgl fun rx4 => ?_
                refine grows_fact _ _ _ cy4 hgl fun ry4 => ?_
                refine grows_fact _ _ _ cx5 hgl fun rx5 => ?_
                refine grows_fact _ _ _ cy5 hgl fun ry5 => ?_
                refine grows_fact _ _ _ cx6 hgl fun rx6 => ?_
                refine grows_fact _ _ _ cy6 hgl fun ry6 => ?_
                refine grows_fact _ _ _ cx7 hgl fun rx7 => ?_
                refine grows_fact _ _ _ cy7 hgl fun ry7 => ?_
                refine grows_fact _ _ _ cx8 hgl fun rx8 => ?_
                refine grows_fact _ _ _ cy8 hgl fun ry8 => ?_
                clear cx0 cy0 cx1 cy1 cx2 cy2 cx3 cy3 cx4 cy4 cx5 cy5 cx6 cy6 cx7 cy7 cx8 cy8
                repeat (go_big_quiet_step ((exact Calls.grows_of (HT.out _ (hev _)))))
                refine wpQuiet_nil ?_
                rintro w5 ⟨⟨_, hb5⟩, rfl⟩
                clear rx0 ry0 rx1 ry1 rx2 ry2 rx3 ry3 rx4 ry4 rx5 ry5 rx6 ry6 rx7 ry7 rx8 ry8
                have HJ2 : Hid (Below b w w5 ∧ RowR w5 g cap (cpt l (k + k2)) l (k + k2 - 1) ∧ (cpt l (k + k2)).length = kk ∧ w5.heap[p]? = w.heap[p]?) := Lib.hid ⟨HJ.out.1.trans (hb5.mono (by have := HJ.out.1.size; omega)), HJ.out.2.1.of (hb5.block g hgl), HJ.out.2.2.1, (hb5.block p (by have := HJ.out.1.size; omega)).trans HJ.out.2.2.2⟩
                clear hb5 hev HJ
                cases d
                · have HP2 : Hid (∀ W', W' = w5.setCells g (kk * 9) [.int .u32 xa, .int .i64 xb, .int .u8 xfr, .int .i64 xdi, .int .i64 xme, .int .i64 xta, .string xnm, .int .u32 xho, .bool xdc] → Below b w W' ∧ RowR W' g cap (cpt l (k + k2) ++ [x0]) l (k + k2) ∧ W'.heap[p]? = w.heap[p]?) := Lib.hid fun W' hW => by
                    rw [← HEN.out] at hW
                    rw [hW]
                    exact ⟨HJ2.out.1.trans (below_sets _ _ _ _ _ hg), HP.out _ HJ2.out.2.1, (sets_other _ _ _ _ _ hpg).trans HJ2.out.2.2.2⟩
                  have cx := HJ2.out.2.1.cells (by omega) HX.out
                  have cx0 : w5.cell? ⟨g, k * 9 + k2 * 9, none⟩ = some (.int .u32 xa) := by have := cx 0 (.int .u32 xa) (by rw [HEN.out]; rfl); rwa [show (k + k2) * 9 + 0 = k * 9 + k2 * 9 from by omega] at this
                  obtain ⟨o0, co0⟩ := Option.isSome_iff_exists.1 (HJ2.out.2.1.there (o := kk * 9) (by omega))
                  have fo0 := HJ2.out.2.1.free (kk * 9)
                  have cx1 : w5.cell? ⟨g, k * 9 + k2 * 9 + 1, none⟩ = some (.int .i64 xb) := by have := cx 1 (.int .i64 xb) (by rw [HEN.out]; rfl); rwa [show (k + k2) * 9 + 1 = k * 9 + k2 * 9 + 1 from by omega] at this
                  obtain ⟨o1, co1⟩ := Option.isSome_iff_exists.1 (HJ2.out.2.1.there (o := kk * 9 + 1) (by omega))
                  have fo1 := HJ2.out.2.1.free (kk * 9 + 1)
                  have cx2 : w5.cell? ⟨g, k * 9 + k2 * 9 + 2, none⟩ = some (.int .u8 xfr) := by have := cx 2 (.int .u8 xfr) (by rw [HEN.out]; rfl); rwa [show (k + k2) * 9 + 2 = k * 9 + k2 * 9 + 2 from by omega] at this
                  obtain ⟨o2, co2⟩ := Option.isSome_iff_exists.1 (HJ2.out.2.1.there (o := kk * 9 + 2) (by omega))
                  have fo2 := HJ2.out.2.1.free (kk * 9 + 2)
                  have cx3 : w5.cell? ⟨g, k * 9 + k2 * 9 + 3, none⟩ = some (.int .i64 xdi) := by have := cx 3 (.int .i64 xdi) (by rw [HEN.out]; rfl); rwa [show (k + k2) * 9 + 3 = k * 9 + k2 * 9 + 3 from by omega] at this
                  obtain ⟨o3, co3⟩ := Option.isSome_iff_exists.1 (HJ2.out.2.1.there (o := kk * 9 + 3) (by omega))
                  have fo3 := HJ2.out.2.1.free (kk * 9 + 3)
                  have cx4 : w5.cell? ⟨g, k * 9 + k2 * 9 + 4, none⟩ = some (.int .i64 xme) := by have := cx 4 (.int .i64 xme) (by rw [HEN.out]; rfl); rwa [show (k + k2) * 9 + 4 = k * 9 + k2 * 9 + 4 from by omega] at this
                  obtain ⟨o4, co4⟩ := Option.isSome_iff_exists.1 (HJ2.out.2.1.there (o := kk * 9 + 4) (by omega))
                  have fo4 := HJ2.out.2.1.free (kk * 9 + 4)
                  have cx5 : w5.cell? ⟨g, k * 9 + k2 * 9 + 5, none⟩ = some (.int .i64 xta) := by have := cx 5 (.int .i64 xta) (by rw [HEN.out]; rfl); rwa [show (k + k2) * 9 + 5 = k * 9 + k2 * 9 + 5 from by omega] at this
                  obtain ⟨o5, co5⟩ := Option.isSome_iff_exists.1 (HJ2.out.2.1.there (o := kk * 9 + 5) (by omega))
                  have fo5 := HJ2.out.2.1.free (kk * 9 + 5)
                  have cx6 : w5.cell? ⟨g, k * 9 + k2 * 9 + 6, none⟩ = some (.string xnm) := by have := cx 6 (.string xnm) (by rw [HEN.out]; rfl); rwa [show (k + k2) * 9 + 6 = k * 9 + k2 * 9 + 6 from by omega] at this
                  obtain ⟨o6, co6⟩ := Option.isSome_iff_exists.1 (HJ2.out.2.1.there (o := kk * 9 + 6) (by omega))
                  have fo6 := HJ2.out.2.1.free (kk * 9 + 6)
                  have cx7 : w5.cell? ⟨g, k * 9 + k2 * 9 + 7, none⟩ = some (.int .u32 xho) := by have := cx 7 (.int .u32 xho) (by rw [HEN.out]; rfl); rwa [show (k + k2) * 9 + 7 = k * 9 + k2 * 9 + 7 from by omega] at this
                  obtain ⟨o7, co7⟩ := Option.isSome_iff_exists.1 (HJ2.out.2.1.there (o := kk * 9 + 7) (by omega))
                  have fo7 := HJ2.out.2.1.free (kk * 9 + 7)
                  have cx8 : w5.cell? ⟨g, k * 9 + k2 * 9 + 8, none⟩ = some (.bool xdc) := by have := cx 8 (.bool xdc) (by rw [HEN.out]; rfl); rwa [show (k + k2) * 9 + 8 = k * 9 + k2 * 9 + 8 from by omega] at this
                  obtain ⟨o8, co8⟩ := Option.isSome_iff_exists.1 (HJ2.out.2.1.there (o := kk * 9 + 8) (by omega))
                  have fo8 := HJ2.out.2.1.free (kk * 9 + 8)
                  clear cx HT
                  go_wp2_with fail
                  go_roundw
                  case rel =>
                    obtain ⟨r1, r2, r3⟩ := HP2.out _ rfl
                    have e1 : cpt l (k + (k2 + 1)) = cpt l (k + k2) ++ [x0] := by
                      show cpt l (k + k2 + 1) = _
                      rw [cpt, if_pos (by rw [HK2.out.1]; rfl), HK2.out.2]
                    refine ⟨kk + 1, k2 + 1, by go_num, by go_num, by omega, by omega, by omega, Lib.hid ?_⟩
                    rw [e1]
                    exact ⟨r1, r2, by rw [List.length_append, HJ2.out.2.2.1]; rfl, r3⟩
                  case measure => first | (simp [intOf]; done) | (simp [intOf]; omega)
                · go_wp2_with fail
                  go_roundw
                  case rel =>
                    refine ⟨kk, k2 + 1, rfl, by go_num, by omega, by omega, by omega, Lib.hid ?_⟩
                    have e1 : cpt l (k + (k2 + 1)) = cpt l (k + k2) := by
                      show cpt l (k + k2 + 1) = _
                      rw [cpt, if_neg (by rw [HK2.out.1]; simp)]
                    rw [e1]
                    exact ⟨HJ2.out.1, HJ2.out.2.1.later (by omega), HJ2.out.2.2.1, HJ2.out.2.2.2⟩
                  case measure => first | (simp [intOf]; done) | (simp [intOf]; omega)
              · have hkn : k + k2 = l.length := by omega
                have q1 : ¬ (k2 : Int) < ((l.length - k : Nat) : Int) := by omega
                have q5 : (0 : Int) ≤ (kk : Int) := by omega
                have q6 : (kk : Int) ≤ (l.length : Int) := by omega
                have q7 : (kk : Int) ≤ (cap : Int) := by omega
                have q8 : kk ≤ l.length := by omega
                have q9 : kk ≤ cap := by omega
                have hcl : ∀ ty, (Builtin.clear_ #[28] ty #[.slice (some ⟨g, kk * 9, none⟩) (l.length - kk) (cap - kk)]).run Tryz.prog wr = .ok (.tuple #[]) (wr.setCells g (kk * 9) (zlist (l.length - kk))) :=
                  fun ty => clear_is wr ty g (kk * 9) _ _ (by omega) (fun j hj => HJ.out.2.1.there (by omega)) (fun j _ => HJ.out.2.1.free _)
                have HO : Hid (OwnR b (wr.setCells g (kk * 9) (zlist (l.length - kk))) (.slice (some ⟨g, 0, none⟩) kk cap) (cpt l l.length) ∧ Below b w (wr.setCells g (kk * 9) (zlist (l.length - kk)))) := Lib.hid (by
                  have h9 := HJ.out
                  rw [hkn] at h9
                  refine ⟨?_, h9.1.trans (below_sets _ _ _ _ _ hg)⟩
                  have := (h9.2.1.sets (kk * 9) (zlist (l.length - kk)) (by rw [h9.2.2.1]; omega)).own hg (by rw [h9.2.2.1]; omega) hcap
                  rwa [h9.2.2.1] at this)
                clear HJ
                go_wp2_with fail
                go_ret
                exact ⟨_, rfl, HO.out.1, HO.out.2⟩
        · have hkn : k = l.length := by omega
          have hlti : ¬ (k : Int) < (l.length : Int) := by omega
          subst hkn
          have HO := Lib.hid (HAll.out wr HI.out.2.1 HI.out.1 HI.out.2.2.1)
          go_wp2_with fail
          go_ret
          exact ⟨_, rfl, HO.out, HI.out.1⟩
end Go.Proofs.YtgpoeeccgpjnlaaGreatDoor
