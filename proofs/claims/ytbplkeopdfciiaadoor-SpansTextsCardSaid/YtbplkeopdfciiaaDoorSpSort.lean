/- slices.SortFunc with the order of Form: the row holds the same spans, in order (the shelf's contract at this dump, paid by the walk of the order). No condition but the list's length. -/
import Derived.Test.YtbplkeopdfciiaaDoorSpForm
import Derived.Test.YtbplkeopdfciiaaDoorShelf
namespace Go.Proofs.YtbplkeopdfciiaaDoor
open Go.RowKit Go.Lib Go.Shelf
theorem cmp_lt (x y : Nat × Nat) : ltOf (fun x y : Nat × Nat => cmpI x.1 y.1) x y = decide (x.1 < y.1) := by
  unfold ltOf cmpI
  by_cases h1 : x.1 < y.1
  · simp [h1]
  · by_cases h2 : y.1 < x.1 <;> simp [h1, h2]
theorem cmp_swo : Go.Sort.SWO (ltOf fun x y : Nat × Nat => cmpI x.1 y.1) where
  irrefl x := by rw [cmp_lt]; simp
  trans x y z h1 h2 := by rw [cmp_lt] at *; simp at *; omega
  ntrans x y z h1 h2 := by rw [cmp_lt] at *; simp at *; omega
theorem cmp_lays (blk off size : Nat) (w : World) : CmpLays Tryd.prog 25 #[] encS 2 (fun x y => cmpI x.1 y.1) blk off size w := by
  intro m os dk hs x y
  refine (formcmp_is x.1 x.2 y.1 y.2 _).mono ?_
  rintro e w' ⟨he, o1, o2, hw⟩
  exact ⟨he, 0, #[o1, o2], by rw [hw, Go.Sort.alloc_eq_grow, Go.Sort.alloc_eq_grow, Go.Sort.grow_grow]; rfl⟩
/-- A block of the sort's world. -/
theorem sortWorld_heap {w : World} {g n : Nat} {d : Array (Nat × Nat)} {os : Array Obj} {cur : Array Value} {e : TypeId} {f : Nat × Nat} (h : w.heap[g]? = some (.cells cur e f)) :
    ∃ cur', (sortWorldK encS 2 w g 0 n d os).heap[g]? = some (.cells cur' e f) ∧ cur'.size = cur.size := by
  have hlt := (Array.getElem?_eq_some_iff.1 h).1
  refine ⟨Go.Sort.putCells id 0 (Go.Sort.flatK encS 2 d) cur, ?_, by simp [Go.Sort.putCells]⟩
  unfold sortWorldK Go.Sort.grow Go.Sort.putRowK Go.Sort.putRow Go.Sort.mapBlock Go.Sort.ahead
  simp only
  rw [Array.getElem?_append_left (by simpa using hlt), Array.getElem?_modify, if_pos rfl, h]
  rfl
theorem sortWorld_below {w : World} {b g n : Nat} {d : Array (Nat × Nat)} {os : Array Obj} (hg : b ≤ g) (hb : b ≤ w.heap.size) : Below b w (sortWorldK encS 2 w g 0 n d os) := by
  refine ⟨rfl, rfl, rfl, ?_, fun k hk => ?_⟩
  · unfold sortWorldK Go.Sort.grow Go.Sort.putRowK Go.Sort.putRow Go.Sort.mapBlock Go.Sort.ahead
    simp
  · unfold sortWorldK Go.Sort.grow Go.Sort.putRowK Go.Sort.putRow Go.Sort.mapBlock Go.Sort.ahead
    simp only
    rw [Array.getElem?_append_left (by simp; omega), Array.getElem?_modify, if_neg (by omega)]
theorem sorts : Sorts := by
  intro w b v l hown hlen
  rcases hown.row with ⟨rfl, rfl⟩ | ⟨g, cap, rfl, hg, hle, hcap, hrow, hglt⟩
  · have h := AnyF.slices_SortFunc_none Tryd.sortL none 0 (.func (.func 25) #[] #[]) w
    change Calls Tryd.prog 24 _ _ _ at h
    refine h.mono ?_
    rintro e w' ⟨he, rfl⟩
    exact ⟨he, [], hown, rfl, Below.refl _ _, fun s => Iff.rfl, List.Pairwise.nil⟩
  · have hH : Go.Sort.HoldsK encS 2 w g 0 l.toArray := by
      intro j hj
      rw [Go.Sort.size_flatK] at hj
      have hj' : j < l.length * 2 := by simpa using hj
      have hk : l[j / 2]? = some (l[j / 2]'(by omega)) := List.getElem?_eq_getElem (by omega)
      obtain ⟨c1, c2⟩ := hrow.cellL (Nat.zero_le _) hk
      refine ⟨?_, hrow.free _⟩
      rw [Go.Sort.get_flatK _ _ _ _ hj, Nat.zero_add, getElem!_pos l.toArray (j / 2) (by simp; omega)]
      rcases Nat.mod_two_eq_zero_or_one j with e | e
      · rw [show j / 2 * 2 = j from by omega] at c1
        rw [c1, e]; rfl
      · rw [show j / 2 * 2 + 1 = j from by omega] at c2
        rw [c2, e]; rfl
    have h := AnyQ.slices_SortFunc Tryd.sortL 2 Tryd.isAgg33 Tryd.sizeOf33 encS (fun _ => rfl) (fun x v hv => by simp [encS] at hv; rcases hv with rfl | rfl <;> rfl) (fun x y => cmpI x.1 y.1) cmp_swo 25 #[] g 0 cap l.toArray w (enters_of Tryd.func25 (by kernel_rfl) rfl) (cmp_lays g 0 _ w) hH hglt (by simp; omega)
    change Calls Tryd.prog 24 _ _ _ at h
    rw [List.size_toArray] at h
    refine h.mono ?_
    rintro e w' ⟨he, d', n, os, hp, hs, rfl⟩
    obtain ⟨hp1, _, hp3⟩ := hp
    replace hp1 : d'.size = l.length := by simpa using hp1
    have hperm : d'.toList.Perm l := by
      rw [Array.extract_eq_self_of_le (by rw [hp1]; exact Nat.le_refl _), Array.extract_eq_self_of_le (by simp)] at hp3
      simpa using hp3
    have hmem : ∀ s, s ∈ d'.toList ↔ s ∈ l := fun s => hperm.mem_iff
    have hH' := holdsK_sortWorldK_c encS 2 w g 0 l.toArray d' n os hH hglt (by simpa using hp1)
    have hsm : Small d'.toList := fun s hs => hown.1 s ((hmem s).1 hs)
    have hR : Row (sortWorldK encS 2 w g 0 n d' os) g cap d'.toList [] 0 := by
      obtain ⟨cur, h1, h2, _⟩ := hrow
      obtain ⟨cur', k1, k2⟩ := sortWorld_heap (n := n) (d := d') (os := os) h1
      refine ⟨cur', k1, by omega, fun k s hk => ?_, fun k s _ hk => by simp at hk⟩
      have hlt : k < d'.size := by have := (List.getElem?_eq_some_iff.1 hk).1; simpa using this
      have q1 := (hH'.cell hlt (c := 0) (by omega)).1
      have q2 := (hH'.cell hlt (c := 1) (by omega)).1
      have e : d'[k]! = s := by
        rw [getElem!_pos d' k hlt]
        obtain ⟨h3, h4⟩ := List.getElem?_eq_some_iff.1 hk
        simpa using h4
      rw [e, cell_of_heap k1, Nat.zero_add] at q1 q2
      exact ⟨q1, q2⟩
    refine ⟨he, d'.toList, ?_, by simpa using hp1, sortWorld_below hg (by omega), hmem, ?_⟩
    · exact hR.own hsm hg (by simp [hp1]) (by rw [Array.length_toList, hp1]; exact hle) hcap
    · refine List.pairwise_iff_getElem.2 fun i j hi hj hij => ?_
      have := hs i j (Nat.zero_le _) hij (by rw [← hp1]; simpa using hj)
      rw [cmp_lt, getElem!_pos d' i (by simpa using hi), getElem!_pos d' j (by simpa using hj)] at this
      simp at this
      simpa using this
/-- Form: the one form of the set, in new memory. -/
theorem form_is (l : List (Nat × Nat)) (v : Value) (w : World) (hr : Rd w v l) (hlen : l.length ≤ 1000000000) :
    Calls Tryd.prog 12 #[v] w fun e w' => ∃ v', e = .returned v' ∧ Own w.heap.size w' v' (Cn (has l)) ∧ Below w.heap.size w w' := form_any sorts l v w hr hlen
end Go.Proofs.YtbplkeopdfciiaaDoor
