/- What put of package waymarkref02 does: a number comes to its place in a rising list of the call's own, once. Under the conditions that it names. -/
import Derived.Test.YtbplkeopdfciiaaDoorSpR1
import Derived.Laws.CopyOwn
import Derived.Deep.RegionLaw
namespace Go.Proofs.YtbplkeopdfciiaaDoor
open Go.RowKit
def numV (k : IntKind) (n : Nat) : Value := .int k n
/-- New memory that holds these numbers. -/
def OwnN (t : TypeId) (k : IntKind) (b : Nat) (w : World) (v : Value) (l : List Nat) : Prop := w.ownsRow b t 1 v l.length (l.map (numV k))
theorem OwnN.row {t : TypeId} {k : IntKind} {b : Nat} {w : World} {v : Value} {l : List Nat} (h : OwnN t k b w v l) : (v = .slice none 0 0 ∧ l = []) ∨ ∃ g cap cur, v = .slice (some ⟨g, 0, none⟩) l.length cap ∧ b ≤ g ∧ l.length ≤ cap ∧ cap ≤ maxLen ∧
    w.heap[g]? = some (.cells cur t (0, 0)) ∧ cur.size = cap ∧ g < w.heap.size ∧ cur.toList.take l.length = l.map (numV k) ∧ ∀ (i : Nat) (x : Nat), l[i]? = some x → w.cell? ⟨g, i, none⟩ = some (.int k x) := by
  have hown := h
  rcases h.2 with ⟨rfl, hx⟩ | ⟨g, cap, cur, rfl, hg, hh, hle, hm, hsz, hc⟩
  · exact .inl ⟨rfl, List.eq_nil_of_length_eq_zero hx⟩
  · refine .inr ⟨g, cap, cur, rfl, hg, hle, hm, hh, by omega, (World.ownsRow.lt hown g rfl).2, by simpa using hc, fun i x hi => ?_⟩
    have := World.ownsRow.cells hown (g := g) rfl i (numV k x) (by rw [List.getElem?_map, hi]; rfl)
    rw [addr_add] at this
    exact this
theorem OwnN.of {t : TypeId} {k : IntKind} {b g cap n : Nat} {w : World} {cur : Array Value} {l : List Nat} (h : w.heap[g]? = some (.cells cur t (0, 0))) (hb : b ≤ g) (hs : cur.size = cap) (hc : cap ≤ maxLen) (hn : n = l.length) (hle : n ≤ cap) (ht : cur.toList.take n = l.map (numV k)) : OwnN t k b w (.slice (some ⟨g, 0, none⟩) n cap) l := by
  subst hn
  exact ⟨by simp, .inr ⟨g, cap, cur, rfl, hb, h, hle, hc, by omega, by simpa using ht⟩⟩
theorem OwnN.below {t : TypeId} {k : IntKind} {b : Nat} {w w' : World} {v : Value} {l : List Nat} (h : OwnN t k b w v l) (hb : Below w.heap.size w w') : OwnN t k b w' v l := ownsRow_of h fun g _ _ hg => hb.block g hg
theorem OwnN.base {t : TypeId} {k : IntKind} {b b' : Nat} {w : World} {v : Value} {l : List Nat} (h : OwnN t k b w v l) (hb : b' ≤ b) : OwnN t k b' w v l := ownsRow_base h hb
theorem ownN_ne {t : TypeId} {b : Nat} {w : World} {v : Value} {n : Nat} {xs : List Value} (h : w.ownsRow b t 1 v (n + 1) xs) : ∃ g cap cur, v = .slice (some ⟨g, 0, none⟩) (n + 1) cap ∧ b ≤ g ∧ n + 1 ≤ cap ∧ cap ≤ maxLen ∧
    w.heap[g]? = some (.cells cur t (0, 0)) ∧ cur.size = cap ∧ g < w.heap.size ∧ cur.toList.take (n + 1) = xs ∧ ∀ (i : Nat) (x : Value), xs[i]? = some x → w.cell? ⟨g, i, none⟩ = some x := by
  have hown := h
  rcases h.2 with ⟨_, hx⟩ | ⟨g, cap, cur, rfl, hg, hh, hle, hm, hsz, hc⟩
  · omega
  · refine ⟨g, cap, cur, rfl, hg, hle, hm, hh, by omega, (World.ownsRow.lt hown g rfl).2, by simpa using hc, fun i x hi => ?_⟩
    have := World.ownsRow.cells hown (g := g) rfl i x hi
    rw [addr_add] at this
    exact this
theorem wpList_copy_row {P : Program} {ops : Array Oper} {rest : List Oper} {o : Oper} {a : Act} {w : World} {Q : Exit → Act → World → Prop} (hgd : o.guard = none) (d s : Operand) (dT sT : TypeId)
    (ho : o.op = .call { callee := .builtin .copy, args := #[d, s], argTypes := #[dT, sT] }) (elem : TypeId) (hu : P.underlying dT = some (.slice elem)) (hsz : (P.info? elem).map (·.size) = some 1)
    (dp sp : Option Addr) (dLen dCap sLen sCap : Nat) (hd : a.eval d = .slice dp dLen dCap) (hs : a.eval s = .slice sp sLen sCap)
    (g off : Nat) (cur : List Value) (t : TypeId) (hg : w.heap[g]? = some (.cells cur.toArray t (0, 0))) (cs : List Value) (hn : cs.length = Nat.min sLen dLen)
    (hpos : 0 < cs.length → dp = some ⟨g, off, none⟩ ∧ ∃ ad, sp = some ad ∧ ∀ j v, cs[j]? = some v → w.cell? (ad.add j) = some v)
    (hfit : off + cs.length ≤ cur.length) (h1 : ∀ v ∈ cs, v.oneCell' = true)
    (h : ∀ w', Hid (w'.heap[g]? = some (.cells (splice cur off cs).toArray t (0, 0))) → Hid (w.grownBy w' (some g)) → wpList P ops Q rest (a.put o.dst (goInt cs.length)) w') :
    wpList P ops Q (o :: rest) a w := by
  by_cases h0 : cs.length = 0
  · obtain rfl : cs = [] := List.eq_nil_of_length_eq_zero h0
    refine wpList_copy_nothing hgd d s dT sT ho elem hu hsz dp sp dLen dCap sLen sCap hd hs (by simpa using hn.symm) ?_
    exact h w (show _ = _ by simpa [splice] using hg) (World.grownBy.refl _ _)
  · obtain ⟨rfl, ad, rfl, hsrc⟩ := hpos (by omega)
    refine wpList_copy_own hgd d s dT sT ho elem hu hsz g off dLen dCap ad sLen sCap hd hs cur.toArray t hg cs hn hsrc (by simpa using hfit) h1 ?_
    exact h _ (show _ = _ by simpa [splice] using setRow_heap w g _ _ t _ hg) ⟨rfl, rfl, rfl, by simp [World.setRow], fun k hk hne => setRow_other w g k _ (fun e => hne (by rw [e]))⟩
theorem wpList_append_num {P : Program} {w : World} {ops : Array Oper} {rest : List Oper} {o : Oper} {a : Act} {Q : Exit → Act → World → Prop}
    (hgd : o.guard = none) (s x : Operand) (t : TypeId) (hop : o.op = Op.call { callee := Callee.builtin Builtin.append, args := #[s, x], argTypes := #[t, t] })
    (e : TypeId) (i : TypeInfo) (z : Value) (bytes : Nat) (h1 : P.underlying t = some (.slice e)) (h2 : P.info? e = some i) (h3 : i.zero = some z) (h4 : i.size = 1) (h5 : i.bytes = bytes) (h6 : z.cells.size = 1)
    (b g n cap : Nat) (cur : Array Value) (olds : List Value) (hs : a.eval s = .slice (some ⟨g, 0, none⟩) n cap) (hlo : olds.length = n) (hcur : w.heap[g]? = some (.cells cur e (0, 0))) (hct : cur.toList.take n = olds) (hsz : cur.size = cap) (hg : b ≤ g) (hcap : cap ≤ maxLen) (hlt : g < w.heap.size)
    (ad : Addr) (c : Nat) (u : Value) (hx : a.eval x = .slice (some ad) 1 c) (hc : ∀ j v, [u][j]? = some v → w.cell? (ad.add j) = some v) (h1c : u.oneCell' = true) (b1 : n + 1 ≤ maxLen) (b2 : (n + 1) * bytes ≤ 140737488355328)
    (h : ∀ g1 cap1 cur1 w1, b ≤ g1 → (g1 = g ∨ w.heap.size ≤ g1) → n + 1 ≤ cap1 → cap1 ≤ maxLen → Hid (w1.heap[g1]? = some (.cells cur1 e (0, 0))) → Hid (cur1.size = cap1) → Hid (cur1.toList.take (n + 1) = olds ++ [u]) →
      Hid (∀ (j : Nat) (v : Value), (olds ++ [u])[j]? = some v → w1.cell? ⟨g1, j, none⟩ = some v) → Hid (w.grownBy w1 (some g)) → wpList P ops Q rest (a.put o.dst (.slice (some ⟨g1, 0, none⟩) (n + 1) cap1)) w1) :
    wpList P ops Q (o :: rest) a w := by
  have atc : ∀ {W : World} {G : Nat} {C : Array Value}, W.heap[G]? = some (.cells C e (0, 0)) → C.toList.take (n + 1) = olds ++ [u] → ∀ (j : Nat) (v : Value), (olds ++ [u])[j]? = some v → W.cell? ⟨G, j, none⟩ = some v := by
    intro W G C hW hC j v hj
    rw [cell_of_heap hW, ← Array.getElem?_toList]
    rw [← hC, List.getElem?_take] at hj
    split at hj
    · exact hj
    · cases hj
  have holds : ∀ j v, olds[j]? = some v → w.cell? ⟨g, 0 + j, none⟩ = some v := by
    intro j v hj
    rw [cell_of_heap hcur, Nat.zero_add, ← Array.getElem?_toList]
    rw [← hct, List.getElem?_take] at hj
    split at hj
    · exact hj
    · cases hj
  refine wpList_append_arg w hgd s x t hop e i z 1 bytes h1 h2 h3 h4 h5 h6 (by omega) g 0 n cap olds hs (by omega) holds ad 1 c [u] hx rfl hc (fun v hv => by simp at hv; subst hv; exact h1c)
    (fun hr j hj => ⟨by rw [cell_of_heap hcur]; simp at hj; rw [Array.getElem?_eq_getElem (by omega)]; rfl, frozen_of_heap hcur⟩) b1 b2 (fun hr => ?_) (fun hr v' w' ho hgr => ?_)
  · simp only [World.setCells]
    have hh := heap_setCell (o := 0 + n * 1) u hcur
    have ht : (cur.setIfInBounds (0 + n * 1) u).toList.take (n + 1) = olds ++ [u] := by
      rw [Array.toList_setIfInBounds, ← hct]
      apply List.ext_getElem?
      intro j
      rw [List.getElem?_take, List.getElem?_set, List.getElem?_append, List.length_take, List.getElem?_take]
      have hl : cur.toList.length = cap := by simpa using hsz
      by_cases h1 : j < n
      · rw [if_pos (by omega), if_neg (by omega), if_pos (by omega), if_pos h1]
      · by_cases h2 : j = n
        · subst h2
          rw [if_pos (by omega), if_pos (by omega), if_pos (by omega), if_neg (by omega)]
          have : j - min j cur.toList.length = 0 := by omega
          rw [this]; rfl
        · rw [if_neg (by omega), if_neg (by omega)]
          have : j - min n cur.toList.length = (j - n - 1) + 1 := by omega
          rw [this]; rfl
    refine h g cap _ _ hg (.inl rfl) hr hcap hh (Lib.hid (by simp [hsz])) ht (atc hh ht) ⟨rfl, rfl, rfl, (by simp), fun k hk hne => heap_setCell_ne _ (fun e => hne (by rw [e]))⟩
  · obtain ⟨g1, cap1, cur1, rfl, hg1, hle1, hcap1, hh1, hsz1, hlt1, hct1, _⟩ := ownN_ne ho
    exact h g1 cap1 cur1 w' (by omega) (.inr hg1) hle1 hcap1 hh1 hsz1 hct1 (atc hh1 hct1) ⟨hgr.os, hgr.tape, hgr.output, hgr.size, fun k hk _ => hgr.block k hk (by simp)⟩
theorem addr_addr (g o k : Nat) : (⟨g, o, none⟩ : Addr).add k = ⟨g, o + k, none⟩ := by
  unfold Addr.add
  split <;> simp_all
theorem sizeU32 : (Tryd.prog.info? 31).map (·.size) = some 1 := by kernel_rfl
/-- A number put in its place. -/
theorem ins_rising {l : List Nat} {x k : Nat} (h : l.Pairwise (· < ·)) (h1 : ∀ c ∈ l.take k, c < x) (h2 : ∀ c ∈ l.drop k, x < c) : (l.take k ++ x :: l.drop k).Pairwise (· < ·) := by
  refine List.pairwise_append.2 ⟨h.sublist (List.take_sublist _ _), List.pairwise_cons.2 ⟨h2, h.sublist (List.drop_sublist _ _)⟩, fun a ha b hb => ?_⟩
  rcases List.mem_cons.1 hb with rfl | hb
  · exact h1 a ha
  · have := h1 a ha; have := h2 b hb; omega
theorem ins_mem {l : List Nat} {x k : Nat} (c : Nat) : c ∈ l.take k ++ x :: l.drop k ↔ c ∈ l ∨ c = x := by
  rw [List.mem_append, List.mem_cons]
  have : c ∈ l ↔ c ∈ l.take k ∨ c ∈ l.drop k := by rw [← List.mem_append, List.take_append_drop]
  rw [this]
  constructor
  · rintro (h | h | h) <;> simp [h]
  · rintro ((h | h) | h) <;> simp [h]
theorem rising_take {l : List Nat} {k x : Nat} (h : l.Pairwise (· < ·)) (hkl : k ≤ l.length) (hk : ∀ j y, k = j + 1 → l[j]? = some y → y < x) : ∀ c ∈ l.take k, c < x := by
  intro c hc
  obtain ⟨i, hi, rfl⟩ := List.getElem_of_mem hc
  rw [List.getElem_take]
  simp at hi
  have hj : l[k - 1]? = some (l[k - 1]'(by omega)) := List.getElem?_eq_getElem (by omega)
  have := hk (k - 1) _ (by omega) hj
  rcases Nat.lt_or_ge i (k - 1) with h1 | h1
  · have := List.pairwise_iff_getElem.1 h i (k - 1) (by omega) (by omega) h1
    omega
  · have e : i = k - 1 := by omega
    subst e; exact this
theorem infoU32 : (Tryd.prog.info? 31).map (fun i => (i.zero, i.size, i.bytes)) = some (some (.int .u32 0), 1, 4) := by kernel_rfl
theorem cell_one_new (w : World) (x : Value) (t : TypeId) : ∀ j u, [x][j]? = some u → (w.alloc (.cells #[x] t)).cell? ((⟨w.heap.size, 0, none⟩ : Addr).add j) = some u := by
  intro j u hj
  match j, hj with
  | 0, hj => simp at hj; subst hj; simp [Addr.add]
  | j + 1, hj => simp at hj
/-- What put hands back. -/
def PutPost (b : Nat) (xs : List Nat) (x most : Int) (v : Value) (w : World) (e : Ending) (w' : World) : Prop :=
  ∃ v' ys, e = .returned v' ∧ OwnN 31 .u32 b w' v' ys ∧ ys.Pairwise (· < ·) ∧ (∀ c, c ∈ ys ↔ c ∈ xs ∨ (c : Int) = x ∧ x ≤ most) ∧ ys.length ≤ xs.length + 1 ∧ w.grownBy w' v.ownBlock
theorem put_list (C : List Value) (xs : List Nat) (K x : Nat) (z : Value) (hK : K ≤ xs.length) (h : C.take (xs.length + 1) = xs.map (numV .u32) ++ [z]) :
    ((splice C (K + 1) ((xs.drop K).map (numV .u32))).set K (numV .u32 x)).take (xs.length + 1) = (xs.take K ++ x :: xs.drop K).map (numV .u32) := by
  have hl : xs.length + 1 ≤ C.length := by
    have := congrArg List.length h
    simp at this; omega
  have hat : ∀ i, i < K → C[i]? = (xs.map (numV .u32))[i]? := by
    intro i hi
    have h1 : (C.take (xs.length + 1))[i]? = C[i]? := by rw [List.getElem?_take, if_pos (by omega)]
    rw [← h1, h, List.getElem?_append_left (by simp; omega)]
  unfold splice
  apply List.ext_getElem?
  intro j
  have hlen : (C.take (K + 1)).length = K + 1 := by simp; omega
  have hd : ((xs.drop K).map (numV .u32)).length = xs.length - K := by simp
  rw [List.getElem?_take, List.getElem?_set, List.getElem?_append, hlen, List.getElem?_append, hd, List.map_append, List.getElem?_append, List.length_map, List.length_take, Nat.min_eq_left hK]
  by_cases h1 : j < K
  · rw [if_pos (by omega), if_neg (by omega), if_pos (by omega), if_pos h1, List.getElem?_take, if_pos (by omega), hat j h1, List.map_take, List.getElem?_take, if_pos h1]
  · by_cases h2 : j = K
    · subst h2
      rw [if_pos (by omega), if_pos rfl, if_pos (by simp; omega), if_neg (by omega), Nat.sub_self]
      rfl
    · by_cases h3 : j < xs.length + 1
      · rw [if_pos h3, if_neg (by omega), if_neg (by omega), if_pos (by omega), if_neg h1]
        have e : j - K = (j - (K + 1)) + 1 := by omega
        rw [e, List.map_cons, List.getElem?_cons_succ]
      · rw [if_neg h3, if_neg h1]
        symm
        exact List.getElem?_eq_none (by simp; omega)
theorem put_done {b g g1 cap cap1 K : Nat} {xs : List Nat} {x most : Int} {w w1 w2 : World} {X : Obj} {cur1 : Array Value} (hK : K ≤ xs.length) (hs : xs.Pairwise (· < ·)) (hlo : ∀ c ∈ xs.take K, (c : Int) < x) (hhi : ∀ c ∈ xs.drop K, x < (c : Int)) (hx : 0 ≤ x) (hm : x ≤ most)
    (hw2 : w2.heap[g1]? = some (.cells (splice cur1.toList (K + 1) ((xs.drop K).map (numV .u32))).toArray 31 (0, 0))) (hct : cur1.toList.take (xs.length + 1) = xs.map (numV .u32) ++ [.int .u32 0]) (hsz : cur1.size = cap1) (hg1 : b ≤ g1) (hle1 : xs.length + 1 ≤ cap1) (hcap1 : cap1 ≤ maxLen)
    (hgr1 : (w.alloc X).grownBy w1 (some g)) (hgr2 : w1.drew.grownBy w2 (some g1)) (hor : g1 = g ∨ (w.alloc X).heap.size ≤ g1) :
    PutPost b xs x most (.slice (some ⟨g, 0, none⟩) xs.length cap) w (.returned (.slice (some ⟨g1, 0, none⟩) (xs.length + 1) cap1)) (w2.setCell ⟨g1, K, none⟩ (.int .u32 x)) := by
  obtain ⟨n, rfl⟩ := Int.eq_ofNat_of_zero_le hx
  refine ⟨_, xs.take K ++ n :: xs.drop K, rfl, ?_, ins_rising hs (fun c hc => by have := hlo c hc; omega) (fun c hc => by have := hhi c hc; omega), fun c => ?_, by simp; omega, ?_⟩
  · refine OwnN.of (heap_setCell _ hw2) hg1 ?_ hcap1 (by simp; omega) hle1 ?_
    · have : cur1.toList.length = cap1 := by simpa using hsz
      simp [splice]; omega
    · rw [Array.toList_setIfInBounds]
      exact put_list _ _ _ _ _ hK hct
  · rw [ins_mem]
    constructor
    · rintro (h | rfl)
      · exact .inl h
      · exact .inr ⟨rfl, hm⟩
    · rintro (h | ⟨h, _⟩)
      · exact .inl h
      · exact .inr (by omega)
  · have hz := hgr1.size
    simp only [World.size_alloc] at hz hor
    have hz2 : w1.heap.size ≤ w2.heap.size := hgr2.size
    refine ⟨hgr2.os.trans hgr1.os, hgr2.tape.trans hgr1.tape, hgr2.output.trans hgr1.output, by simp; omega, fun k hk hne => ?_⟩
    have hkg : k ≠ g := fun e => hne (by rw [e]; rfl)
    have hk1 : g1 ≠ k := by rintro rfl; rcases hor with h | h <;> omega
    rw [heap_setCell_ne _ hk1]
    refine (hgr2.block k (by show k < w1.heap.size; omega) (by simp; omega)).trans ?_
    refine (hgr1.block k (by simp; omega) (by simp; omega)).trans ?_
    exact heap_alloc _ hk
set_option maxRecDepth 100000 in
set_option maxHeartbeats 1000000 in
theorem put_is (b : Nat) (xs : List Nat) (v : Value) (x most : Int) (w : World) (hown : OwnN 31 .u32 b w v xs) (hne : xs ≠ []) (hs : xs.Pairwise (· < ·)) (hx0 : 0 ≤ x) (hlen : xs.length ≤ 1000000000) :
    Calls Tryd.prog 60 #[v, .int .u32 x, .int .u32 most] w (PutPost b xs x most v w) := by
  have HO := Lib.hid hown
  rcases hown.row with ⟨_, h⟩ | ⟨g, cap, cur, rfl, hg, hle, hcap, hh, hsz, hlt, hct, hc⟩
  · exact absurd h hne
  have HC := Lib.hid hc
  have HS := Lib.hid hs
  have hn0 : 0 < xs.length := List.length_pos_iff.2 hne
  have HCUR := Lib.hid hh; have HCT := Lib.hid hct; have HSZ := Lib.hid hsz
  clear hc hs hne hown hh hct hsz
  by_cases hm : most < x
  · go_enter Tryd.func60, Tryd.ntmps60
    go_wp2
    go_ret
    exact ⟨_, xs, rfl, HO.out, HS.out, fun c => ⟨.inl, fun h => h.elim id fun h => by omega⟩, by omega, World.grownBy.refl _ _⟩
  · go_enter Tryd.func60, Tryd.ntmps60
    go_wp2
    go_loop [7] (fun i => ∃ k : Nat, k ≤ xs.length ∧ i = .int .i64 k ∧ Hid (∀ c ∈ xs.drop k, x < (c : Int))) (fun i => (intOf i).toNat)
    case atStart => exact ⟨xs.length, Nat.le_refl _, rfl, Lib.hid (by simp)⟩
    case round =>
      obtain ⟨k, hk, rfl, H⟩ := hrel
      cases k with
      | zero =>
        have HLO : Hid (∀ c ∈ xs.take (0), (c : Int) < x) := Lib.hid (by simp)
        obtain ⟨i0, hi0, hz0, hz1, hz2⟩ := info_parts infoU32
        go_wp2_with (at_builtin; refine wpList_append_num rfl _ _ 64 rfl 31 i0 (.int .u32 0) 4 Tryd.underlying64 hi0 hz0 hz1 hz2 rfl b g xs.length cap cur (xs.map (numV .u32)) rfl (by simp) ((heap_alloc _ hlt).trans HCUR.out) HCT.out HSZ.out hg hcap (by simp; omega) ⟨w.heap.size, 0, none⟩ 1 (.int .u32 0) rfl (cell_one_new _ _ _) rfl (by unfold maxLen; omega) (by omega) ?_; intro g1 cap1 cur1 w1 hg1 hor1 hle1 hcap1 HW1 HSZ1 HCT1 HC1 HG1)
        have hw1 := HW1.out
        have hcs : w1.heap[g1]? = some (.cells cur1.toList.toArray 31 (0, 0)) := by simpa using hw1
        have HCS := Lib.hid hcs
        clear hw1 hcs
        have f0 : IntKind.i64.wrap 1 = 1 := IntWalk.i64_in _ ⟨by omega, by omega⟩
        have f1 : (1 : Int) ≤ (xs.length : Int) + 1 := by omega
        have f2 : (0 : Int) ≤ (xs.length : Int) + 1 := by omega
        go_still_tail 7, (by kernel_rfl)
        refine wpList_copy_row rfl (.tmp 45) (.tmp 48) 64 64 rfl 31 Tryd.underlying64 sizeU32 _ _ _ _ _ _ rfl rfl g1 (1) cur1.toList 31 HCS.out ((xs.drop (0)).map (numV .u32)) ?z1 ?z2 ?z3 ?z4 ?z5
        case z1 => simp [Nat.min_def]; try omega
        case z2 =>
          intro hp
          simp at hp
          refine ⟨by rw [if_neg (by omega)], ⟨g1, 0, none⟩, rfl, fun j u hj => ?_⟩
          rw [List.getElem?_map, List.getElem?_drop] at hj
          show w1.cell? _ = some u
          rw [addr_addr]
          refine HC1.out _ _ ?_
          rw [List.getElem?_append_left (by
            cases hz : xs[0 + j]? with
            | none => rw [hz] at hj; simp at hj
            | some z => simpa using (List.getElem?_eq_some_iff.1 hz).1), List.getElem?_map]
          exact hj
        case z3 => have := HSZ1.out; simp; omega
        case z4 => intro u hu; obtain ⟨n, _, rfl⟩ := List.mem_map.1 hu; rfl
        case z5 =>
          intro w2 hw2 hg2
          have hcell : ∃ z, w2.cell? ⟨g1, 0, none⟩ = some z := by
            rw [cell_of_heap hw2.out]
            exact ⟨_, Array.getElem?_eq_getElem (by have := HSZ1.out; simp [splice]; omega)⟩
          obtain ⟨z, hz⟩ := hcell
          have hfr : w2.frozen? ⟨g1, 0, none⟩ = false := frozen_of_heap hw2.out
          go_wp2
          all_goals
            go_ret
            exact put_done (K := 0) (by omega) HS.out HLO.out H.out hx0 (by omega) hw2.out HCT1.out HSZ1.out hg1 hle1 hcap1 HG1.out hg2.out hor1
      | succ k =>
        obtain ⟨y, hy⟩ : ∃ y, xs[k]? = some y := ⟨_, List.getElem?_eq_getElem hk⟩
        have c1 := HC.out k y hy
        obtain ⟨yi, hyi⟩ : ∃ yi : Int, yi = (y : Int) := ⟨_, rfl⟩
        rw [← hyi] at c1
        have HY := Lib.hid hy; have HI := Lib.hid hyi
        have e1 : (0 : Int) ≤ (k : Int) := by omega
        have e2 : (k : Int) < (xs.length : Int) := by omega
        clear hy hyi
        rcases Int.lt_trichotomy x yi with h | h | h
        · have d1 : decide (x < yi) = true := by simpa using h
          go_wp2
          go_round
          case rel =>
            refine ⟨k, by omega, by go_num, Lib.hid fun c hc => ?_⟩
            rw [List.drop_eq_getElem_cons (by omega)] at hc
            rcases List.mem_cons.1 hc with rfl | hc
            · have := HY.out; rw [List.getElem?_eq_getElem (by omega)] at this; simp at this; have := HI.out; omega
            · exact H.out c hc
          case measure => simp [intOf] <;> omega
        · subst h
          have d1 : (x == x) = true := by simp
          go_wp2
          go_ret
          refine ⟨_, xs, rfl, HO.out, HS.out, fun c => ⟨.inl, fun h => h.elim id fun h => ?_⟩, by omega, World.grownBy.refl _ _⟩
          have : c = y := by have := HI.out; omega
          rw [this]; exact List.mem_of_getElem? HY.out
        · have d1 : decide (x < yi) = false := by simp; omega
          have d2 : (yi == x) = false := by simp; omega
          have HLO : Hid (∀ c ∈ xs.take (k + 1), (c : Int) < x) := Lib.hid fun c hc => by have := rising_take (x := y + 1) HS.out (k := k + 1) (by omega) (fun j z hj hz => by obtain rfl : j = k := (by omega); rw [HY.out] at hz; simp at hz; omega) c hc; have := HI.out; omega
          obtain ⟨i0, hi0, hz0, hz1, hz2⟩ := info_parts infoU32
          go_wp2_with (at_builtin; refine wpList_append_num rfl _ _ 64 rfl 31 i0 (.int .u32 0) 4 Tryd.underlying64 hi0 hz0 hz1 hz2 rfl b g xs.length cap cur (xs.map (numV .u32)) rfl (by simp) ((heap_alloc _ hlt).trans HCUR.out) HCT.out HSZ.out hg hcap (by simp; omega) ⟨w.heap.size, 0, none⟩ 1 (.int .u32 0) rfl (cell_one_new _ _ _) rfl (by unfold maxLen; omega) (by omega) ?_; intro g1 cap1 cur1 w1 hg1 hor1 hle1 hcap1 HW1 HSZ1 HCT1 HC1 HG1)
          have hw1 := HW1.out
          have hcs : w1.heap[g1]? = some (.cells cur1.toList.toArray 31 (0, 0)) := by simpa using hw1
          have HCS := Lib.hid hcs
          clear hw1 hcs
          have f1 : IntKind.i64.wrap ((k : Int) + 1 + 1) = (k : Int) + 1 + 1 := IntWalk.i64_in _ ⟨by omega, by omega⟩
          have f2 : (0 : Int) ≤ (k : Int) + 1 + 1 := by omega
          have f3 : (k : Int) + 1 + 1 ≤ (xs.length : Int) + 1 := by omega
          have f4 : ((k : Int) + 1 + 1).toNat = k + 1 + 1 := by omega
          have f5 : (0 : Int) ≤ (k : Int) + 1 := by omega
          have f6 : (k : Int) + 1 ≤ (xs.length : Int) + 1 := by omega
          have f7 : ((k : Int) + 1).toNat = k + 1 := by omega
          go_still_tail 7, (by kernel_rfl)
          refine wpList_copy_row rfl (.tmp 45) (.tmp 48) 64 64 rfl 31 Tryd.underlying64 sizeU32 _ _ _ _ _ _ rfl rfl g1 (k + 1 + 1) cur1.toList 31 HCS.out ((xs.drop (k + 1)).map (numV .u32)) ?c1 ?c2 ?c3 ?c4 ?c5
          case c1 => simp [Nat.min_def]; try omega
          case c2 =>
            intro hp
            simp at hp
            refine ⟨by rw [if_neg (by omega)], ⟨g1, k + 1, none⟩, by rw [if_neg (by omega)], fun j u hj => ?_⟩
            rw [List.getElem?_map, List.getElem?_drop] at hj
            show w1.cell? _ = some u
            rw [addr_addr]
            refine HC1.out _ _ ?_
            rw [List.getElem?_append_left (by
              cases hz : xs[k + 1 + j]? with
              | none => rw [hz] at hj; simp at hj
              | some z => simpa using (List.getElem?_eq_some_iff.1 hz).1), List.getElem?_map]
            exact hj
          case c3 => have := HSZ1.out; simp; omega
          case c4 => intro u hu; obtain ⟨n, _, rfl⟩ := List.mem_map.1 hu; rfl
          case c5 =>
            intro w2 hw2 hg2
            have hcell : ∃ z, w2.cell? ⟨g1, k + 1, none⟩ = some z := by
              rw [cell_of_heap hw2.out]
              exact ⟨_, Array.getElem?_eq_getElem (by have := HSZ1.out; simp [splice]; omega)⟩
            obtain ⟨z, hz⟩ := hcell
            have hfr : w2.frozen? ⟨g1, k + 1, none⟩ = false := frozen_of_heap hw2.out
            go_wp2
            all_goals
              go_ret
              first
                | exact put_done (K := k + 1) (by omega) HS.out HLO.out H.out hx0 (by omega) hw2.out HCT1.out HSZ1.out hg1 hle1 hcap1 HG1.out hg2.out hor1
                | (have hq : cap1 = k + 1 + 1 := by assumption
                   subst hq
                   exact put_done (K := k + 1) (by omega) HS.out HLO.out H.out hx0 (by omega) hw2.out HCT1.out HSZ1.out hg1 hle1 hcap1 HG1.out hg2.out hor1)
end Go.Proofs.YtbplkeopdfciiaaDoor
