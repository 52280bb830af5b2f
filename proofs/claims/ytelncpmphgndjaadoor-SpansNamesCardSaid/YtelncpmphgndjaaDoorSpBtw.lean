/- What between and Pieces of package spans hand back: the pieces into which the numbers up to most are cut, in new memory; or the refusal. Under the conditions that they name. -/
import Derived.Test.YtelncpmphgndjaaDoorSpBeg3
namespace Go.Proofs.YtelncpmphgndjaaDoor
open Go.RowKit
/-- The pieces but the last. -/
def pp : List Nat → List (Nat × Nat)
  | [] => []
  | [_] => []
  | a :: c :: r => (a, c - 1) :: pp (c :: r)
theorem pp_snoc (A : List Nat) (a c : Nat) : pp (A ++ [a] ++ [c]) = pp (A ++ [a]) ++ [(a, c - 1)] := by
  induction A with
  | nil => rfl
  | cons x A ih =>
    cases A with
    | nil => rfl
    | cons y A =>
      simp only [List.cons_append] at ih ⊢
      simp only [pp, ih, List.cons_append]
theorem pp_length (A : List Nat) (a : Nat) : (pp (A ++ [a])).length = A.length := by
  induction A with
  | nil => rfl
  | cons x A ih =>
    cases A with
    | nil => rfl
    | cons y A => simp only [List.cons_append] at ih ⊢; simp only [pp, List.length_cons] at ih ⊢; omega
/-- The pieces that begin at these numbers. -/
def pcs (most : Nat) (R : List Nat) : List (Nat × Nat) := match R.getLast? with
  | some a => pp R ++ [(a, most)]
  | none => []
theorem pcs_snoc (most : Nat) (A : List Nat) (a : Nat) : pcs most (A ++ [a]) = pp (A ++ [a]) ++ [(a, most)] := by simp [pcs]
theorem pcs_nil (most : Nat) : pcs most [] = [] := rfl
theorem pcs_length (most : Nat) (R : List Nat) : (pcs most R).length = R.length := by
  rcases List.eq_nil_or_concat R with rfl | ⟨A, a, rfl⟩
  · rfl
  · rw [List.concat_eq_append, pcs_snoc, List.length_append, pp_length]; simp
theorem Row.mid {w : World} {g cap : Nat} {L : List (Nat × Nat)} {i n : Nat} {t s : Nat × Nat} {hi : Int} {m : Nat} (h : Row w g cap (L ++ [t] ++ [s]) [] i) (hn : n = L.length) (h2 : hi = m) :
    Row (w.setCell ⟨g, n * 2 + 1, none⟩ (.int .u32 hi)) g cap (L ++ [(t.1, m)] ++ [s]) [] i := by
  subst hn h2
  obtain ⟨cur, e, hs, hF, _⟩ := h
  refine ⟨_, heap_setCell _ e, by simp [hs], fun k u hk => ?_, fun k u _ hu => by simp at hu⟩
  have hlen := (List.getElem?_eq_some_iff.1 hk).1
  simp at hlen
  by_cases hkl : k = L.length
  · subst hkl
    simp at hk
    subst hk
    have := hF L.length t (by simp)
    have hlt : L.length * 2 + 1 < cur.size := (Array.getElem?_eq_some_iff.1 this.2).1
    simp only [Array.getElem?_setIfInBounds]
    constructor
    · rw [if_neg (by omega)]; exact this.1
    · rw [if_pos trivial, if_pos hlt]
  · have hk' : (L ++ [t] ++ [s])[k]? = some u := by
      rw [List.append_assoc] at hk ⊢
      by_cases h1 : k < L.length
      · rw [List.getElem?_append_left h1] at hk ⊢; exact hk
      · have h3 : k = L.length + 1 := by omega
        subst h3
        simp at hk ⊢
        exact hk
    have := hF k u hk'
    simp only [Array.getElem?_setIfInBounds]
    rw [if_neg (by omega), if_neg (by omega)]
    exact this
theorem pcs_small {most : Nat} {R : List Nat} (hm : most < top) (hR : ∀ c ∈ R, c ≤ most) : Small (pcs most R) := by
  have hpp : ∀ A : List Nat, (∀ c ∈ A, c ≤ most) → Small (pp A) := by
    intro A
    induction A with
    | nil => intro _ s hs; cases hs
    | cons a A ih =>
      cases A with
      | nil => intro _ s hs; cases hs
      | cons c A =>
        intro hA s hs
        rcases List.mem_cons.1 hs with rfl | hs
        · have h1 := hA a (by simp); have h2 := hA c (by simp)
          exact ⟨by show a < _; omega, by show c - 1 < _; omega⟩
        · exact ih (fun x hx => hA x (List.mem_cons_of_mem _ hx)) s hs
  rcases List.eq_nil_or_concat R with rfl | ⟨A, a, rfl⟩
  · intro s hs; cases hs
  · rw [List.concat_eq_append] at hR ⊢
    rw [pcs_snoc]
    intro s hs
    rcases List.mem_append.1 hs with hs | hs
    · exact hpp _ hR s hs
    · simp at hs; subst hs
      have := hR a (by simp)
      exact ⟨by show a < _; omega, hm⟩
set_option maxRecDepth 100000 in
set_option maxHeartbeats 2000000 in
theorem between_is (most : Nat) (hmt : most < top) (R : List Nat) (hR : ∀ c ∈ R, c ≤ most) (hr1 : R.Pairwise (· < ·)) (v : Value) (b1 : Nat) (w : World) (ho : OwnN 35 .u64 b1 w v R) (hl : R.length ≤ 1000000000) (hne : R ≠ []) :
    Calls Tryd.prog 27 #[v, .int .u32 most] w fun e w' => ∃ v', e = .returned v' ∧ Own w.heap.size w' v' (pcs most R) ∧ Below w.heap.size w w' := by
  have hsm : ∀ k, Small (pcs most (R.take k)) := fun k => pcs_small hmt fun c hc => hR c (List.mem_of_mem_take hc)
  have HSM := Lib.hid hsm
  obtain ⟨mi, hmi⟩ : ∃ z : Int, z = (most : Int) := ⟨_, rfl⟩
  rw [← hmi]
  have HMI := Lib.hid hmi
  have hm0 : 0 ≤ mi := by omega
  rw [top_def] at hmt
  have hm1 : mi < 4294967296 := by omega
  rcases ho.row with ⟨_, h⟩ | ⟨gR, capR, curR, rfl, _, hleR, hcR, _, _, hltR, _, hcellR⟩
  · exact absurd h hne
  have HCR := Lib.hid hcellR
  have HRB := Lib.hid hR
  have HRI := Lib.hid hr1
  obtain ⟨i0, hi0, hz0, hz1, hz2⟩ := info_parts infoS
  clear hcellR hR hsm hne ho hmi hr1
  go_enter Tryd.func27, Tryd.ntmps27
  go_wp2_with (at_make; refine wpList_make_full _ rfl _ _ 22 rfl w.heap.size 32 i0 (.agg #[.int .u32 0, .int .u32 0]) 2 Tryd.underlying22 hi0 hz0 hz1 .i64 .i64 _ _ R.length rfl rfl (by omega) (by omega) (by rw [hz2]; omega) (by unfold maxLen; omega) (Nat.le_refl _) ?_; intro w2 hown2 hgrow2)
  have hb2 : Below w.heap.size w w2 := Below.grown (Below.refl _ _) hgrow2 (Nat.le_refl _) (fun j hj => by cases hj)
  have hrow0 : Row w2 w.heap.size R.length [] [] 0 ∧ w.heap.size < w2.heap.size := by
    have hlt := (hown2.lt w.heap.size rfl).2
    rcases hown2.2 with ⟨h, _⟩ | ⟨g, cap, cur, he, _, hh, _, _, hsz, _⟩
    · cases h
    · simp only [Value.slice.injEq, Option.some.injEq, Addr.mk.injEq] at he
      obtain ⟨⟨rfl, _, _⟩, _, rfl⟩ := he
      exact ⟨⟨cur, hh, hsz, fun k s hk => by simp at hk, fun k s _ hk => by simp at hk⟩, hlt⟩
  clear hown2 hgrow2
  go_wp2
  go_loopw [13] (fun i wr => ∃ k : Nat, k ≤ R.length ∧ i = .int .i64 k ∧ Row wr w.heap.size R.length (pcs most (R.take k)) [] 0 ∧ Below w.heap.size w wr) (fun i _ => R.length - (intOf i).toNat)
  case atStart => exact ⟨0, Nat.zero_le _, rfl, hrow0.1, hb2⟩
  case round =>
    obtain ⟨k, hk, rfl, hR, hbw⟩ := hrel
    have hgl := hR.lt
    by_cases hlt : k < R.length
    · obtain ⟨c, hc⟩ : ∃ c, R[k]? = some c := ⟨_, List.getElem?_eq_getElem hlt⟩
      have hcm := HRB.out c (List.mem_of_getElem? hc)
      have c1 := (hbw.cell (p := ⟨gR, _, none⟩) hltR).trans (HCR.out k c hc)
      obtain ⟨ci, hci⟩ : ∃ z : Int, z = (c : Int) := ⟨_, rfl⟩
      rw [← hci] at c1
      have HT : Hid (R.take (k + 1) = R.take k ++ [c]) := Lib.hid (by rw [List.take_add_one, hc]; rfl)
      have hpl : (pcs most (R.take k)).length = k := by rw [pcs_length, List.length_take]; omega
      have HPL := Lib.hid hpl
      have hc0 : 0 ≤ ci := by omega
      have hc1 : ci < 4294967296 := by omega
      have e1 : (0 : Int) ≤ (k : Int) := by omega
      have e2 : (k : Int) < (R.length : Int) := by omega
      have HCI := Lib.hid hci
      have hci2 : ci ≤ mi := by have := HMI.out; omega
      have hpush := (hR.later (Nat.zero_le (k + 1))).push (s := (c, most)) (n := k) (lo := ci) (hi := mi) hpl.symm (by omega) hlt hci HMI.out
      have HPUSH := Lib.hid hpush
      have t1 : ∃ z, wr.cell? ⟨w.heap.size, k * 2, none⟩ = some z := by have := hR.there (o := k * 2) (by omega); exact Option.isSome_iff_exists.1 this
      have t2 : ∃ z, wr.cell? ⟨w.heap.size, k * 2 + 1, none⟩ = some z := by have := hR.there (o := k * 2 + 1) (by omega); exact Option.isSome_iff_exists.1 this
      obtain ⟨z1, t1⟩ := t1
      obtain ⟨z2, t2⟩ := t2
      have f1 := hR.free (k * 2)
      have f2 := hR.free (k * 2 + 1)
      clear hc hci hpl hpush
      rcases Nat.eq_zero_or_pos k with hk0 | hk0
      · have d1 : decide (0 < k) = false := by simp; omega
        have HK0 := Lib.hid hk0
        clear hk0
        go_wp2
        go_roundw
        case rel =>
          refine ⟨k + 1, by omega, by go_num, ?_, Below.setCell (p := ⟨w.heap.size, _, none⟩) (Below.setCell (p := ⟨w.heap.size, _, none⟩) hbw (Nat.le_refl _) _) (Nat.le_refl _) _⟩
          have h := HPUSH.out
          obtain ⟨cur, q1, q2, q3, _⟩ := h
          refine ⟨cur, q1, q2, fun x s hs => q3 x s ?_, fun x s _ hs => by simp at hs⟩
          rw [HT.out] at hs
          rw [HK0.out, List.take_zero] at hs ⊢
          rw [pcs_snoc] at hs
          exact hs
        case measure => simp [intOf]; omega
      · obtain ⟨j, rfl⟩ : ∃ j, k = j + 1 := ⟨k - 1, by omega⟩
        have d1 : decide (0 < j + 1) = true := by simp
        obtain ⟨a, ha⟩ : ∃ a, R[j]? = some a := ⟨_, List.getElem?_eq_getElem (by omega)⟩
        have hac : a < c := by
          have := HT.out
          have h2 : R.take (j + 1 + 1) = R.take j ++ [a] ++ [c] := by rw [this, List.take_add_one, ha]; rfl
          have h3 := HRI.out.sublist (List.take_sublist (j + 1 + 1) R)
          rw [h2] at h3
          exact (List.pairwise_append.1 h3).2.2 a (by simp) c (by simp)
        have hcp : 1 ≤ ci := by have := HCI.out; omega
        have HT2 : Hid (R.take (j + 1) = R.take j ++ [a]) := Lib.hid (by rw [List.take_add_one, ha]; rfl)
        have t3 : ∃ z, wr.cell? ⟨w.heap.size, j * 2 + 1, none⟩ = some z := Option.isSome_iff_exists.1 (hR.there (o := j * 2 + 1) (by omega))
        obtain ⟨z3, t3⟩ := t3
        have f3 := hR.free (j * 2 + 1)
        have hln : (R.take j).length = j := by rw [List.length_take]; omega
        have HLN := Lib.hid hln
        clear ha hac hk0 hln
        go_wp2
        go_roundw
        case rel =>
          refine ⟨j + 1 + 1, by omega, by go_num, ?_, Below.setCell (p := ⟨w.heap.size, _, none⟩) (Below.setCell (p := ⟨w.heap.size, _, none⟩) (Below.setCell (p := ⟨w.heap.size, _, none⟩) hbw (Nat.le_refl _) _) (Nat.le_refl _) _) (Nat.le_refl _) _⟩
          have h := HPUSH.out
          rw [HT2.out, pcs_snoc] at h
          have h9 := h.mid (n := j) (hi := ci - 1) (m := c - 1) (by rw [pp_length, HLN.out]) (by have := HCI.out; omega)
          obtain ⟨cur, q1, q2, q3, _⟩ := h9
          refine ⟨cur, q1, q2, fun x s hs => q3 x s ?_, fun x s _ hs => by simp at hs⟩
          rw [HT.out, HT2.out, pcs_snoc, pp_snoc] at hs
          exact hs
        case measure => simp [intOf]; omega
    · go_wp2
      go_ret
      obtain rfl : k = R.length := by omega
      rw [List.take_length] at hR
      refine ⟨_, rfl, ?_, hbw⟩
      have h := HSM.out R.length
      rw [List.take_length] at h
      exact hR.own h (Nat.le_refl _) (pcs_length _ _).symm (by rw [pcs_length]; exact Nat.le_refl _) (by unfold maxLen; omega)
end Go.Proofs.YtelncpmphgndjaaDoor
