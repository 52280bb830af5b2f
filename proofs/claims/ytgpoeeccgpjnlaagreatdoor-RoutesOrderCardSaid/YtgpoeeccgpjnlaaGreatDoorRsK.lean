/- Sort of package routes: the routes in order, each once, in new memory. No condition but the list's length. -/
import Derived.Test.YtgpoeeccgpjnlaaGreatDoorRsJ
import Derived.Test.YtgpoeeccgpjnlaaGreatDoorRsC
import Derived.Test.YtgpoeeccgpjnlaaGreatDoorRsE
namespace Go.Proofs.YtgpoeeccgpjnlaaGreatDoor
open Go.RowKit Go.Lib Go.Shelf
/-- In order, each once. -/
def Srt (l out : List RtD) : Prop := out.Pairwise (fun r s => cR r s < 0) ∧ ∀ s, s ∈ out ↔ s ∈ l
theorem srt_one : ∀ {l m : List RtD}, l.Pairwise (fun r s => cR r s < 0) → m.Pairwise (fun r s => cR r s < 0) → (∀ s, s ∈ l ↔ s ∈ m) → l = m
  | [], [], _, _, _ => rfl
  | [], b :: m, _, _, h => absurd ((h b).2 (List.mem_cons_self ..)) (by simp)
  | a :: l, [], _, _, h => absurd ((h a).1 (List.mem_cons_self ..)) (by simp)
  | a :: l, b :: m, hl, hm, h => by
    have e : a = b := by
      rcases List.mem_cons.1 ((h a).1 (List.mem_cons_self ..)) with e | h1
      · exact e
      · rcases List.mem_cons.1 ((h b).2 (List.mem_cons_self ..)) with e | h2
        · exact e.symm
        · have k1 := (List.pairwise_cons.1 hm).1 a h1
          have k2 := (List.pairwise_cons.1 hl).1 b h2
          have := tot_cR.anti a b
          omega
    subst e
    have ha := List.pairwise_cons.1 hl
    have hb := List.pairwise_cons.1 hm
    rw [srt_one ha.2 hb.2 fun s => ?_]
    constructor
    · intro hs
      rcases List.mem_cons.1 ((h s).1 (List.mem_cons_of_mem _ hs)) with e | h1
      · have := ha.1 s hs
        rw [e, cR_self] at this; omega
      · exact h1
    · intro hs
      rcases List.mem_cons.1 ((h s).2 (List.mem_cons_of_mem _ hs)) with e | h1
      · have := hb.1 s hs
        rw [e, cR_self] at this; omega
      · exact h1
theorem Srt.one {l out out' : List RtD} (h : Srt l out) (k : Srt l out') : out = out' := srt_one h.1 k.1 fun s => (h.2 s).trans (k.2 s).symm
/-- What is put in order and then held against what stands ahead is in order, each once. -/
theorem cpt_spec (l : List RtD) (hl : l.Pairwise (fun r s => cR r s ≤ 0)) : ∀ m, m ≤ l.length →
    (cpt l m).Pairwise (fun r s => cR r s < 0) ∧ (∀ s, s ∈ cpt l m ↔ s ∈ l.take m) ∧ (∀ s ∈ cpt l m, ∀ j, m = j + 1 → cR s l[j]! ≤ 0) ∧ (∀ j, m = j + 1 → l[j]! ∈ cpt l m)
  | 0, _ => ⟨List.Pairwise.nil, fun s => by simp [cpt], fun s hs => by simp [cpt] at hs, fun j hj => by omega⟩
  | m + 1, hm => by
    obtain ⟨h1, h2, h3, h4⟩ := cpt_spec l hl m (by omega)
    have hmm : m < l.length := by omega
    have et : l.take (m + 1) = l.take m ++ [l[m]!] := by
      rw [List.take_add_one, List.getElem?_eq_getElem hmm, getElem!_pos l m hmm]; rfl
    have hle : ∀ s ∈ cpt l m, cR s l[m]! ≤ 0 := fun s hs => by
      obtain ⟨i, hi, hi2⟩ := List.mem_iff_getElem.1 ((h2 s).1 hs)
      have hi' : i < m := by rw [List.length_take] at hi; omega
      rw [List.getElem_take] at hi2
      have := List.pairwise_iff_getElem.1 hl i m (by omega) hmm hi'
      rw [hi2] at this
      rwa [getElem!_pos l m hmm]
    have e0 : ∀ j, m + 1 = j + 1 → l[j]! = l[m]! := fun j hj => by
      have : j = m := by omega
      rw [this]
    by_cases hk : keepB l m = true
    · rw [cpt, if_pos hk, et]
      refine ⟨List.pairwise_append.2 ⟨h1, List.pairwise_singleton _ _, fun s hs t ht => ?_⟩, fun s => by simp only [List.mem_append, h2 s], fun s hs j hj => ?_, fun j hj => by rw [e0 j hj]; simp⟩
      · rw [List.mem_singleton] at ht
        subst ht
        cases m with
        | zero => simp [cpt] at hs
        | succ j =>
          have k1 := h3 s hs j rfl
          have k2 : cR l[j]! l[j + 1]! < 0 := by
            have a1 := hle _ (h4 j rfl)
            unfold keepB at hk
            simp only [Nat.add_sub_cancel, Bool.or_eq_true, beq_iff_eq, bne_iff_ne, ne_eq] at hk
            have a2 := tot_cR.anti l[j]! l[j + 1]!
            omega
          exact tot_cR.lt' k1 k2
      · rw [e0 j hj]
        rcases List.mem_append.1 hs with hs | hs
        · exact hle s hs
        · rw [List.mem_singleton] at hs
          subst hs
          rw [cR_self]; exact Int.le_refl _
    · have hk2 : keepB l m = false := by simpa using hk
      cases m with
      | zero => exact absurd rfl hk
      | succ j =>
        have e1 : l[j + 1]! = l[j]! := by
          refine cR_one ?_
          unfold keepB at hk2
          simp only [Nat.add_sub_cancel, Bool.or_eq_false_iff, bne_eq_false_iff_eq] at hk2
          exact hk2.2
        rw [cpt, if_neg hk, et]
        refine ⟨h1, fun s => ?_, fun s hs i hi => ?_, fun i hi => ?_⟩
        · rw [List.mem_append, h2 s, List.mem_singleton, e1]
          constructor
          · exact .inl
          · rintro (h | rfl)
            · exact h
            · exact (h2 _).1 (h4 j rfl)
        · rw [e0 i hi, e1]; exact h3 s hs j rfl
        · rw [e0 i hi, e1]; exact h4 j rfl
theorem srt_of {l l' : List RtD} (hp : l'.Perm l) (hs : l'.Pairwise (fun r s => cR r s ≤ 0)) : Srt l (cpt l' l'.length) := by
  obtain ⟨h1, h2, _, _⟩ := cpt_spec l' hs l'.length (Nat.le_refl _)
  exact ⟨h1, fun s => by rw [h2 s, List.take_length]; exact hp.mem_iff⟩
theorem infoA : (Tryz.prog.info? 27).map (fun i => (i.zero, i.size, i.bytes)) = some (some zR, 9, 72) := by kernel_rfl
theorem copied_is (v : Value) (l : List RtD) (w : World) (hr : RdK encRt 9 w v l) (hlen : l.length ≤ 1000000) : Calls Tryz.prog 50 #[v] w fun e w' => ∃ v', e = .returned v' ∧ OwnR w.heap.size w' v' l ∧ Below w.heap.size w w' := by
  have HR := Lib.hid hr
  obtain ⟨p, c, rfl, _, _, _⟩ := hr
  go_enter Tryz.func50, Tryz.ntmps50
  go_wp2_with (first
    | (at_builtin; refine wpList_append_rdk (enc := encRt) encRt_len (by decide) encRt_one rfl _ _ 28 27 rfl zR 72 Tryz.underlying28 rfl infoA w.heap.size (.slice none 0 0) 0 [] rfl (World.ownsRow_nil _ _ _ _) _ l rfl HR.out (by unfold maxLen; omega) (by omega) (Nat.le_refl _) ?_; intro v9 w9 hown9 hgr9 hor9))
  have hO : OwnR w.heap.size w9 v9 l := by
    have := hown9
    simp only [Nat.zero_add, List.nil_append] at this
    exact this
  have hB : Below w.heap.size w w9 := (Below.refl _ _).grown hgr9 (Nat.le_refl _) (fun k e => by simp [Value.ownBlock] at e)
  go_ret
  exact ⟨_, rfl, hO, hB⟩
theorem even_made (f : Fn) (c a : Array Value) (w : World) : Calls Tryz.prog 53 #[.func f c a] w fun e w' => e = .returned (.func (.func 74) #[] #[.pointer (some ⟨w.heap.size, 0, none⟩)]) ∧ ∃ t, w' = w.alloc (.cells #[.func f c a] t) := by
  go_enter Tryz.func53, Tryz.ntmps53
  go_wp2
  go_ret
  exact ⟨rfl, _, rfl⟩
theorem OwnR.below {b : Nat} {w w' : World} {v : Value} {l : List RtD} (h : OwnR b w v l) (hb : Below w.heap.size w w') : OwnR b w' v l := by
  have h0 : w.ownsRow b 27 9 v l.length (flatK encRt l) := h
  refine ⟨h0.1, ?_⟩
  rcases h0.2 with h1 | ⟨g, cap, cur, e, hg, hh, r⟩
  · exact .inl h1
  · exact .inr ⟨g, cap, cur, e, hg, (hb.block g (Array.getElem?_eq_some_iff.1 hh).1).trans hh, r⟩
theorem OwnR.rd {b : Nat} {w : World} {v : Value} {l : List RtD} (h : OwnR b w v l) : RdK encRt 9 w v l := RdK.of_own encRt_len h
set_option maxRecDepth 100000 in
set_option maxHeartbeats 4000000 in
theorem sorted_is (v : Value) (l : List RtD) (w : World) (q h : Nat) (hr : RdK encRt 9 w v l) (hlen : l.length ≤ 1000000) (ho : OrdAt w q h) :
    Calls Tryz.prog 13 #[v, .func (.func 65) #[] #[.pointer (some ⟨q, 0, none⟩)]] w fun e w' => ∃ v' out, e = .returned v' ∧ OwnR w.heap.size w' v' out ∧ Srt l out ∧ Below w.heap.size w w' := by
  have HO := Lib.hid ho
  obtain ⟨hq, hh, _⟩ := ho
  have HC := Lib.hid (copied_is v l w hr hlen)
  clear hr
  go_enter Tryz.func13, Tryz.ntmps13
  go_wp2_with fail
  go_at_call 50
  refine HC.out.mono ?_
  rintro e w1 ⟨v1, rfl, hO1, hB1⟩
  have H1 := Lib.hid (And.intro hO1 hB1)
  clear hO1 hB1
  go_wp2_with fail
  go_at_call 51
  refine (sort_is H1.out.1 (by omega) H1.out.2.size (HO.out.bl H1.out.2 hq hh) hq hh).mono ?_
  rintro e w2 ⟨rfl, l', hO2, hl2, hB2, hp, hs⟩
  have H2 := Lib.hid (And.intro hO2 (And.intro (H1.out.2.trans hB2) (srt_of hp hs)))
  clear hO2 hB2 hp hs
  go_wp2_with fail
  go_at_call 53
  refine (even_made _ _ _ _).mono ?_
  rintro e w3 ⟨rfl, t, rfl⟩
  obtain ⟨W, hW⟩ : ∃ W, w2.alloc (.cells #[.func (.func 65) #[] #[.pointer (some ⟨q, 0, none⟩)]] t) = W := ⟨_, rfl⟩
  have hb2 : Below w2.heap.size w2 W := by rw [← hW]; exact (Below.refl _ _).alloc (Nat.le_refl _) _
  have H3 : Hid (OwnR w.heap.size W v1 l' ∧ Below w.heap.size w W ∧ EvAt W w2.heap.size q h ∧ (∀ g n c, v1 = .slice (some ⟨g, 0, none⟩) n c → w2.heap.size ≠ g)) := Lib.hid (by
    have hsz := H2.out.2.1.size
    have hc : W.cell? ⟨w2.heap.size, 0, none⟩ = some (.func (.func 65) #[] #[.pointer (some ⟨q, 0, none⟩)]) := by rw [← hW]; exact cell_n rfl
    have hB := H2.out.2.1.trans (hb2.mono hsz)
    refine ⟨H2.out.1.below hb2, hB, ⟨HO.out.bl hB hq hh, by rw [← hW]; simp, hc⟩, fun g n c e => ?_⟩
    have := (H2.out.1 : w2.ownsRow w.heap.size 27 9 v1 l'.length (flatK encRt l')).lt g (by rw [e]; rfl)
    omega)
  rw [hW]
  clear hW hb2
  go_wp2_with fail
  go_at_call 52
  refine (compact_is H3.out.1 (by omega) H3.out.2.1.size H3.out.2.2.1 H3.out.2.2.1.2.1 H3.out.2.2.2 hq hh).mono ?_
  rintro e w4 ⟨v', rfl, hO4, hB4⟩
  have H4 := Lib.hid (And.intro hO4 (H3.out.2.1.trans hB4))
  clear hO4 hB4
  go_wp2_with fail
  go_ret
  exact ⟨_, _, rfl, H4.out.1, H2.out.2.2, H4.out.2⟩
theorem ownsRow_base' {b b' : Nat} {w : World} {v : Value} {l : List RtD} (h : OwnR b w v l) (hb : b' ≤ b) : OwnR b' w v l := by
  have h0 : w.ownsRow b 27 9 v l.length (flatK encRt l) := h
  refine ⟨h0.1, ?_⟩
  rcases h0.2 with h1 | ⟨g, cap, cur, e, hg, r⟩
  · exact .inl h1
  · exact .inr ⟨g, cap, cur, e, Nat.le_trans hb hg, r⟩
theorem rsort_is (v : Value) (l : List RtD) (w : World) (hr : RdK encRt 9 w v l) (hlen : l.length ≤ 1000000) :
    Calls Tryz.prog 7 #[v] w fun e w' => ∃ v' out, e = .returned v' ∧ OwnR w.heap.size w' v' out ∧ Srt l out ∧ Below w.heap.size w w' := by
  have HR := Lib.hid hr
  clear hr
  go_enter Tryz.func7, Tryz.ntmps7
  go_wp2_with fail
  go_at_call 11
  refine (order_is w).mono ?_
  rintro e w1 ⟨q, h, rfl, ho, hb⟩
  have H1 := Lib.hid (And.intro ho hb)
  clear ho hb
  go_wp2_with fail
  go_at_call 13
  refine (sorted_is v l w1 q h (HR.out.below H1.out.2) hlen H1.out.1).mono ?_
  rintro e w2 ⟨v', out, rfl, hO, hS, hB⟩
  have H2 : Hid (OwnR w.heap.size w2 v' out ∧ Srt l out ∧ Below w.heap.size w w2) := Lib.hid ⟨ownsRow_base' hO H1.out.2.size, hS, H1.out.2.trans (hB.mono H1.out.2.size)⟩
  clear hO hS hB
  go_wp2_with fail
  go_ret
  exact ⟨_, _, rfl, H2.out.1, H2.out.2.1, H2.out.2.2⟩
end Go.Proofs.YtgpoeeccgpjnlaaGreatDoor
