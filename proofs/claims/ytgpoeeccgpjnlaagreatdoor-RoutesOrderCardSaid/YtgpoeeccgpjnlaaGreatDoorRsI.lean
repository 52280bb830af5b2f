/- Routes in a row of one's own, and slices.SortFunc with their order. Under the conditions that they name. -/
import Derived.Test.YtgpoeeccgpjnlaaGreatDoorRsG
import Derived.Test.YtgpoeeccgpjnlaaGreatDoorRsH
import Derived.Test.YtgpoeeccgpjnlaaGreatDoorFlW
import Derived.Test.YtgpoeeccgpjnlaaGreatDoorShelf
namespace Go.Proofs.YtgpoeeccgpjnlaaGreatDoor
open Go.RowKit Go.Lib Go.Shelf
instance instRt : Inhabited RtD := ⟨⟨0, 0, 0, 0, 0, 0, ⟨#[]⟩, 0, false⟩⟩
theorem encRt_len (r : RtD) : (encRt r).length = 9 := rfl
theorem encRt_one (r : RtD) : ∀ u ∈ encRt r, u.oneCell' = true := by
  intro u hu
  simp only [encRt, List.mem_cons, List.not_mem_nil, or_false] at hu
  rcases hu with rfl | rfl | rfl | rfl | rfl | rfl | rfl | rfl | rfl <;> rfl
/-- A row of routes, all of it written by this call. -/
def RowR (w : World) (g cap : Nat) (F L : List RtD) (i : Nat) : Prop :=
  ∃ cur, w.heap[g]? = some (.cells cur 27 (0, 0)) ∧ cur.size = cap * 9 ∧
    (∀ k s, F[k]? = some s → ∀ j u, (encRt s)[j]? = some u → cur[k * 9 + j]? = some u) ∧
    (∀ k s, i ≤ k → L[k]? = some s → ∀ j u, (encRt s)[j]? = some u → cur[k * 9 + j]? = some u)
def OwnR (b : Nat) (w : World) (v : Value) (l : List RtD) : Prop := w.ownsRow b 27 9 v l.length (flatK encRt l)
theorem cell_in {w : World} {g o : Nat} {cur : Array Value} {e : TypeId} {f : Nat × Nat} (h : w.heap[g]? = some (.cells cur e f)) : w.cell? ⟨g, o, none⟩ = cur[o]? := by
  simp [World.cell?, h]
theorem frozen_in {w : World} {g o : Nat} {cur : Array Value} {e : TypeId} (h : w.heap[g]? = some (.cells cur e (0, 0))) : w.frozen? ⟨g, o, none⟩ = false := by
  simp [World.frozen?, h]
theorem OwnR.row {b : Nat} {w : World} {v : Value} {l : List RtD} (h : OwnR b w v l) : (v = .slice none 0 0 ∧ l = []) ∨ ∃ g cap, v = .slice (some ⟨g, 0, none⟩) l.length cap ∧ b ≤ g ∧ l.length ≤ cap ∧ cap ≤ maxLen ∧ RowR w g cap [] l 0 ∧ g < w.heap.size := by
  have hown : w.ownsRow b 27 9 v l.length (flatK encRt l) := h
  rcases hown.2 with ⟨rfl, hx⟩ | ⟨g, cap, cur, rfl, hg, hh, hle, hm, hsz, hc⟩
  · exact .inl ⟨rfl, List.eq_nil_of_length_eq_zero hx⟩
  · refine .inr ⟨g, cap, rfl, hg, hle, hm, ⟨cur, hh, hsz, fun k s hk => by simp at hk, fun k s _ hk j u hu => ?_⟩, (hown.lt g rfl).2⟩
    have hj : j < 9 := by have := (List.getElem?_eq_some_iff.1 hu).1; rwa [encRt_len] at this
    have h1 := hown.cells (g := g) rfl (k * 9 + j) u (by rw [flatK_at encRt_len hk hj]; exact hu)
    rw [addr_off, cell_in hh, Nat.zero_add] at h1
    exact h1
theorem RowR.own {w : World} {b g cap : Nat} {L : List RtD} (h : RowR w g cap [] L 0) (hb : b ≤ g) (hle : L.length ≤ cap) (hm : cap ≤ maxLen) : OwnR b w (.slice (some ⟨g, 0, none⟩) L.length cap) L := by
  obtain ⟨cur, h1, h2, _, h4⟩ := h
  refine ⟨flatK_length encRt_len L, .inr ⟨g, cap, cur, rfl, hb, h1, hle, hm, h2, ?_⟩⟩
  apply List.ext_getElem?
  intro i
  rw [List.getElem?_take]
  split
  · rename_i hi
    obtain ⟨s, hs⟩ : ∃ s, L[i / 9]? = some s := ⟨_, List.getElem?_eq_getElem (by omega)⟩
    have hj : i % 9 < 9 := Nat.mod_lt _ (by omega)
    obtain ⟨u, hu⟩ : ∃ u, (encRt s)[i % 9]? = some u := ⟨_, List.getElem?_eq_getElem (by rw [encRt_len]; exact hj)⟩
    have e1 := h4 (i / 9) s (Nat.zero_le _) hs (i % 9) u hu
    have e2 := flatK_at encRt_len hs hj
    rw [show i / 9 * 9 + i % 9 = i from by omega] at e1 e2
    rw [e2, hu, ← e1]; simp
  · rename_i hi
    rw [List.getElem?_eq_none (by rw [flatK_length encRt_len]; omega)]
theorem RowR.cells {w : World} {g cap : Nat} {F L : List RtD} {i k : Nat} {s : RtD} (h : RowR w g cap F L i) (hi : i ≤ k) (hk : L[k]? = some s) : ∀ j u, (encRt s)[j]? = some u → w.cell? ⟨g, k * 9 + j, none⟩ = some u := by
  obtain ⟨cur, h1, _, _, h4⟩ := h
  intro j u hu
  rw [cell_in h1]; exact h4 k s hi hk j u hu
theorem RowR.free {w : World} {g cap : Nat} {F L : List RtD} {i : Nat} (h : RowR w g cap F L i) (o : Nat) : w.frozen? ⟨g, o, none⟩ = false := by
  obtain ⟨cur, h1, _⟩ := h
  exact frozen_in h1
theorem RowR.there {w : World} {g cap : Nat} {F L : List RtD} {i : Nat} (h : RowR w g cap F L i) {o : Nat} (ho : o < cap * 9) : (w.cell? ⟨g, o, none⟩).isSome = true := by
  obtain ⟨cur, h1, h2, _⟩ := h
  rw [cell_in h1, Array.getElem?_eq_getElem (by omega)]
  rfl
theorem RowR.of {w w' : World} {g cap : Nat} {F L : List RtD} {i : Nat} (h : RowR w g cap F L i) (e : w'.heap[g]? = w.heap[g]?) : RowR w' g cap F L i := by
  obtain ⟨cur, h1, h2⟩ := h
  exact ⟨cur, by rw [e]; exact h1, h2⟩
theorem RowR.later {w : World} {g cap : Nat} {F L : List RtD} {i j : Nat} (h : RowR w g cap F L i) (hj : i ≤ j) : RowR w g cap F L j := by
  obtain ⟨cur, h1, h2, h3, h4⟩ := h
  exact ⟨cur, h1, h2, h3, fun k s hk => h4 k s (by omega)⟩
theorem OrdAt.bl {W W' : World} {q h b : Nat} (h0 : OrdAt W q h) (hb : Below b W W') (hq : q < b) (hh : h < b) : OrdAt W' q h := by
  obtain ⟨h1, h2, y0, y1, y2, y3, y4, y5, y6, y7, y8⟩ := h0
  have := hb.size
  refine ⟨by omega, by omega, (hb.cell (p := ⟨q, 0, none⟩) hq).trans y0, (hb.cell (p := ⟨h, 0, none⟩) hh).trans y1, (hb.cell (p := ⟨h, 1, none⟩) hh).trans y2, (hb.cell (p := ⟨h, 2, none⟩) hh).trans y3, (hb.cell (p := ⟨h, 3, none⟩) hh).trans y4, (hb.cell (p := ⟨h, 4, none⟩) hh).trans y5, (hb.cell (p := ⟨h, 5, none⟩) hh).trans y6, (hb.cell (p := ⟨h, 6, none⟩) hh).trans y7, (hb.cell (p := ⟨h, 7, none⟩) hh).trans y8⟩
/-- What only grew is the old world with blocks behind. -/
theorem grow_of {w w' : World} (hb : Below w.heap.size w w') (hd : w.drawn ≤ w'.drawn) : ∃ q os, w' = Go.Sort.grow (w.drewN q) os := by
  refine ⟨w'.drawn - w.drawn, w'.heap.extract w.heap.size w'.heap.size, ?_⟩
  have hz := hb.size
  have e : w.heap ++ w'.heap.extract w.heap.size w'.heap.size = w'.heap := by
    apply Array.ext_getElem?
    intro i
    by_cases hi : i < w.heap.size
    · rw [Array.getElem?_append_left hi]; exact (hb.block i hi).symm
    · rw [Array.getElem?_append_right (by omega)]
      by_cases hi2 : i < w'.heap.size
      · rw [Array.getElem?_extract]
        rw [if_pos (by omega)]
        congr 1; omega
      · rw [Array.getElem?_eq_none (by simp; omega), Array.getElem?_eq_none (by omega)]
  unfold Go.Sort.grow World.drewN
  obtain ⟨h1, h2, h3, _, _⟩ := hb
  cases w; cases w'
  simp only at *
  subst h1 h2 h3
  simp only [World.mk.injEq]
  exact ⟨e.symm, trivial, by omega, trivial, trivial⟩
theorem cR_swo : Go.Sort.SWO (ltOf cR) where
  irrefl x := by simp [ltOf, cR_self]
  trans x y z h1 h2 := by
    simp only [ltOf, decide_eq_true_eq] at *
    exact tot_cR.lt h1 (by omega)
  ntrans x y z h1 h2 := by
    simp only [ltOf, decide_eq_false_iff_not] at *
    have a := tot_cR.anti x y; have b := tot_cR.anti y z; have c := tot_cR.anti x z
    have := tot_cR.trans z y x (by omega) (by omega)
    omega
theorem sortW_below {w : World} {b g n : Nat} {d : Array RtD} {os : Array Obj} (hg : b ≤ g) (hb : b ≤ w.heap.size) : Below b w (sortWorldK encRt 9 w g 0 n d os) := by
  refine ⟨rfl, rfl, rfl, ?_, fun k hk => ?_⟩
  · unfold sortWorldK Go.Sort.grow Go.Sort.putRowK Go.Sort.putRow Go.Sort.mapBlock Go.Sort.ahead
    simp
  · unfold sortWorldK Go.Sort.grow Go.Sort.putRowK Go.Sort.putRow Go.Sort.mapBlock Go.Sort.ahead
    simp only
    rw [Array.getElem?_append_left (by simp; omega), Array.getElem?_modify, if_neg (by omega)]
theorem sortW_heap {w : World} {g n : Nat} {d : Array RtD} {os : Array Obj} {cur : Array Value} {e : TypeId} {f : Nat × Nat} (h : w.heap[g]? = some (.cells cur e f)) :
    ∃ cur', (sortWorldK encRt 9 w g 0 n d os).heap[g]? = some (.cells cur' e f) ∧ cur'.size = cur.size := by
  have hlt := (Array.getElem?_eq_some_iff.1 h).1
  refine ⟨Go.Sort.putCells id 0 (Go.Sort.flatK encRt 9 d) cur, ?_, by simp [Go.Sort.putCells]⟩
  unfold sortWorldK Go.Sort.grow Go.Sort.putRowK Go.Sort.putRow Go.Sort.mapBlock Go.Sort.ahead
  simp only
  rw [Array.getElem?_append_left (by simpa using hlt), Array.getElem?_modify, if_pos rfl, h]
  rfl
theorem cmpR_lays {q h b g size : Nat} {w : World} (ho : OrdAt w q h) (hq : q < b) (hh : h < b) (hg : b ≤ g) (hb : b ≤ w.heap.size) : CmpLays Tryz.prog 65 #[.pointer (some ⟨q, 0, none⟩)] encRt 9 cR g 0 size w := by
  intro m os dk hs x y
  refine (turn_st x y _ q h (ho.bl (sortW_below hg hb) hq hh)).mono ?_
  rintro e w' ⟨he, h1, h2⟩
  exact ⟨he, grow_of h1 h2⟩
/-- The row holds the same routes, in order. -/
theorem sort_is {b q h : Nat} {w : World} {v : Value} {l : List RtD} (hown : OwnR b w v l) (hlen : l.length ≤ 1000000000) (hb : b ≤ w.heap.size) (ho : OrdAt w q h) (hq : q < b) (hh : h < b) :
    Calls Tryz.prog 51 #[v, .func (.func 65) #[] #[.pointer (some ⟨q, 0, none⟩)]] w fun e w' =>
      e = .returned (.tuple #[]) ∧ ∃ l', OwnR b w' v l' ∧ l'.length = l.length ∧ Below b w w' ∧ l'.Perm l ∧ l'.Pairwise (fun r s => cR r s ≤ 0) := by
  rcases hown.row with ⟨rfl, rfl⟩ | ⟨g, cap, rfl, hg, hle, hcap, hrow, hglt⟩
  · have hf := AnyF.slices_SortFunc_none Tryz.sortL none 0 (.func (.func 65) #[] #[.pointer (some ⟨q, 0, none⟩)]) w
    refine hf.mono ?_
    rintro e w' ⟨he, rfl⟩
    exact ⟨he, [], hown, rfl, Below.refl _ _, List.Perm.refl _, List.Pairwise.nil⟩
  · have hH : Go.Sort.HoldsK encRt 9 w g 0 l.toArray := by
      intro j hj
      rw [Go.Sort.size_flatK] at hj
      have hj' : j < l.length * 9 := by simpa using hj
      have hk : l[j / 9]? = some (l[j / 9]'(by omega)) := List.getElem?_eq_getElem (by omega)
      have hm : j % 9 < 9 := Nat.mod_lt _ (by omega)
      have hu : (encRt (l[j / 9]'(by omega)))[j % 9]? = some (encRt (l[j / 9]'(by omega)))[j % 9]! := by
        rw [getElem!_pos _ _ (by rw [encRt_len]; exact hm)]
        exact List.getElem?_eq_getElem (by rw [encRt_len]; exact hm)
      have c := hrow.cells (Nat.zero_le _) hk _ _ hu
      refine ⟨?_, hrow.free _⟩
      rw [Go.Sort.get_flatK _ _ _ _ hj, Nat.zero_add, getElem!_pos l.toArray (j / 9) (by simp; omega)]
      rw [show j / 9 * 9 + j % 9 = j from by omega] at c
      rw [c]
      simp
    have hf := AnyQ.slices_SortFunc Tryz.sortL 9 Tryz.isAgg27 Tryz.sizeOf27 encRt encRt_len encRt_one cR cR_swo 65 #[.pointer (some ⟨q, 0, none⟩)] g 0 cap l.toArray w (enters_of Tryz.func65 (by kernel_rfl) rfl) (cmpR_lays ho hq hh hg hb) hH hglt (by simp; omega)
    change Calls Tryz.prog 51 _ _ _ at hf
    rw [List.size_toArray] at hf
    refine hf.mono ?_
    rintro e w' ⟨he, d', n, os, hp, hs, rfl⟩
    obtain ⟨hp1, _, hp3⟩ := hp
    replace hp1 : d'.size = l.length := by simpa using hp1
    have hperm : d'.toList.Perm l := by
      rw [Array.extract_eq_self_of_le (by rw [hp1]; exact Nat.le_refl _), Array.extract_eq_self_of_le (by simp)] at hp3
      simpa using hp3
    have hH' := holdsK_sortWorldK_c encRt 9 w g 0 l.toArray d' n os hH hglt (by simpa using hp1)
    have hR : RowR (sortWorldK encRt 9 w g 0 n d' os) g cap [] d'.toList 0 := by
      obtain ⟨cur, h1, h2, _⟩ := hrow
      obtain ⟨cur', k1, k2⟩ := sortW_heap (n := n) (d := d') (os := os) h1
      refine ⟨cur', k1, by omega, fun k s hk => by simp at hk, fun k s _ hk j u hu => ?_⟩
      have hlt : k < d'.size := by have := (List.getElem?_eq_some_iff.1 hk).1; simpa using this
      have hj : j < 9 := by have := (List.getElem?_eq_some_iff.1 hu).1; rwa [encRt_len] at this
      have q1 := (hH'.cell hlt (c := j) (by omega)).1
      have e : d'[k]! = s := by
        rw [getElem!_pos d' k hlt]
        obtain ⟨h3, h4⟩ := List.getElem?_eq_some_iff.1 hk
        simpa using h4
      rw [e, cell_in k1, Nat.zero_add] at q1
      rw [q1, getElem!_pos _ _ (by rw [encRt_len]; exact hj)]
      rw [← hu, List.getElem?_eq_getElem (by rw [encRt_len]; exact hj)]
    have hl' : d'.toList.length = l.length := by simpa using hp1
    refine ⟨he, d'.toList, ?_, hl', sortW_below hg hb, hperm, ?_⟩
    · have := hR.own hg (by rw [hl']; exact hle) hcap
      rwa [hl'] at this
    · refine List.pairwise_iff_getElem.2 fun i j hi hj hij => ?_
      have := hs i j (Nat.zero_le _) hij (by rw [← hp1]; simpa using hj)
      rw [getElem!_pos d' i (by simpa using hi), getElem!_pos d' j (by simpa using hj)] at this
      simp only [ltOf, decide_eq_false_iff_not] at this
      have a := tot_cR.anti d'[i] d'[j]
      simp only [Array.getElem_toList]
      omega
end Go.Proofs.YtgpoeeccgpjnlaaGreatDoor
