/- slices.BinarySearch at uint32 over a rising row; among of package lists: does a form have all of a list? Under the conditions that they name. -/
import Derived.Test.YtkkhmdiffddllaaDoorUsN
import Derived.Deep.DeepCutAuto
import Derived.Shelf.Abstract
namespace Go.Proofs.YtkkhmdiffddllaaDoor
open Go.Shelf Go.RowKit Go.Lib
theorem snan_is (x : Int) (w : World) : Calls Tryd.prog 81 #[.int .u32 x] w fun e w' => e = .returned (.bool false) ∧ w' = w := by
  have hd : (x != x) = false := by simp
  go_enter Tryd.func81, Tryd.ntmps81
  go_wp2
  go_ret
  exact ⟨rfl, rfl⟩
/-- Where one is in a search: all ahead of i are less, none from j on is. -/
def Srch (r : List Int) (c : Int) (i j : Nat) : Prop := (∀ (t : Nat) (x : Int), t < i → r[t]? = some x → x < c) ∧ (∀ (t : Nat) (x : Int), j ≤ t → r[t]? = some x → c ≤ x)
theorem Srch.up {r : List Int} {c : Int} {i j h : Nat} {x : Int} (hs : Srch r c i j) (hr : r.Pairwise (· < ·)) (hx : r[h]? = some x) (hl : x < c) : Srch r c (h + 1) j := by
  refine ⟨fun t y ht hy => ?_, hs.2⟩
  by_cases e : t = h
  · subst e; rw [hx] at hy; cases hy; exact hl
  · have := List.pairwise_iff_getElem.1 hr t h (List.getElem?_eq_some_iff.1 hy).1 (List.getElem?_eq_some_iff.1 hx).1 (by omega)
    rw [(List.getElem?_eq_some_iff.1 hy).2, (List.getElem?_eq_some_iff.1 hx).2] at this
    omega
theorem Srch.down {r : List Int} {c : Int} {i j h : Nat} {x : Int} (hs : Srch r c i j) (hr : r.Pairwise (· < ·)) (hx : r[h]? = some x) (hl : ¬ x < c) : Srch r c i h := by
  refine ⟨hs.1, fun t y ht hy => ?_⟩
  by_cases e : t = h
  · subst e; rw [hx] at hy; cases hy; omega
  · have := List.pairwise_iff_getElem.1 hr h t (List.getElem?_eq_some_iff.1 hx).1 (List.getElem?_eq_some_iff.1 hy).1 (by omega)
    rw [(List.getElem?_eq_some_iff.1 hy).2, (List.getElem?_eq_some_iff.1 hx).2] at this
    omega
theorem Srch.found {r : List Int} {c : Int} {i : Nat} (hs : Srch r c i i) (hr : r.Pairwise (· < ·)) {x : Int} (hx : r[i]? = some x) : (x == c) = decide (c ∈ r) := by
  by_cases e : x = c
  · subst e
    rw [beq_self_eq_true, decide_eq_true (List.mem_of_getElem? hx)]
  · have h1 := hs.2 i x (Nat.le_refl _) hx
    have : c ∉ r := fun hm => by
      obtain ⟨t, ht⟩ := List.mem_iff_getElem?.1 hm
      by_cases h2 : t < i
      · have := hs.1 t c h2 ht; omega
      · by_cases h3 : t = i
        · subst h3; rw [hx] at ht; cases ht; exact e rfl
        · have := List.pairwise_iff_getElem.1 hr i t (List.getElem?_eq_some_iff.1 hx).1 (List.getElem?_eq_some_iff.1 ht).1 (by omega)
          rw [(List.getElem?_eq_some_iff.1 ht).2, (List.getElem?_eq_some_iff.1 hx).2] at this
          omega
    rw [decide_eq_false this]; simpa using e
theorem Srch.none {r : List Int} {c : Int} {i : Nat} (hs : Srch r c i i) (hi : r.length ≤ i) : c ∉ r := fun hm => by
  obtain ⟨t, ht⟩ := List.mem_iff_getElem?.1 hm
  have := hs.1 t c (by have := (List.getElem?_eq_some_iff.1 ht).1; omega) ht
  omega
set_option maxRecDepth 100000 in
set_option maxHeartbeats 1000000 in
theorem search_is (v : Value) (r : List Int) (c : Int) (w : World) (hv : RdK encU 1 w v r) (hr : r.Pairwise (· < ·)) (hl : r.length ≤ 35184372087808) : Calls Tryd.prog 58 #[v, .int .u32 c] w fun e w' =>
    ∃ i : Int, e = .returned (.tuple #[.int .i64 i, .bool (decide (c ∈ r))]) ∧ w' = w := by
  obtain ⟨p, cp, rfl, h2, h3, h4⟩ := hv.sl
  have H4 := Lib.hid h4
  have HR := Lib.hid hr
  obtain ⟨t, ht⟩ : ∃ t, decide (c ∈ r) = t := ⟨_, rfl⟩
  have HT := Lib.hid ht
  rw [ht]
  clear h4 hv hr h2 h3 ht
  go_enter Tryd.func58, Tryd.ntmps58
  go_wp2
  go_loopw [7, 8] (fun vi vj wr => ∃ (i j : Nat), vi = .int .i64 i ∧ vj = .int .i64 j ∧ i ≤ j ∧ j ≤ r.length ∧ Hid (wr = w) ∧ Hid (Srch r c i j)) (fun vi vj _ => (intOf vj - intOf vi).toNat)
  case atStart => exact ⟨0, r.length, rfl, rfl, Nat.zero_le _, Nat.le_refl _, Lib.hid rfl, Lib.hid ⟨fun t x ht => absurd ht (Nat.not_lt_zero _), fun t x ht hx => by have := (List.getElem?_eq_some_iff.1 hx).1; omega⟩⟩
  case round =>
    obtain ⟨i, j, rfl, rfl, hij, hjn, HW, HS⟩ := hrel
    by_cases hlt : i < j
    · have hltz : (i : Int) < (j : Int) := by omega
      obtain ⟨h, hh⟩ : ∃ h : Nat, h = (i + j) / 2 := ⟨_, rfl⟩
      have hz : ((i : Int) + (j : Int)) / 2 = (h : Int) := by omega
      have hb : i ≤ h ∧ h < j := by omega
      obtain ⟨x, hx⟩ : ∃ x, r[h]? = some x := ⟨_, List.getElem?_eq_getElem (by omega)⟩
      obtain ⟨b1, o1, rfl, g1, c1⟩ := H4.out h x hx
      have e1 := c1 wr (by rw [HW.out]; exact Below.refl _ _) 0 _ (by rfl : (encU x)[0]? = some (.int .u32 x))
      simp only [Nat.mul_one, Nat.add_zero] at e1
      have HX := Lib.hid hx
      have L := Lib.hid (less_is x c wr)
      have hhn : h < r.length := by omega
      clear c1 hx hh
      cases hl2 : Go.Sort.ltInt x c with
      | true =>
        rw [hl2] at L
        have hlx : x < c := of_decide_eq_true hl2
        go_wp2_with (first | (go_at_call 48; refine L.out.mono ?_; rintro e w1 ⟨rfl, rfl⟩))
        go_roundw
        case rel => exact ⟨h + 1, j, by go_num, rfl, by omega, hjn, HW, Lib.hid (HS.out.up HR.out HX.out hlx)⟩
        case measure => simp [intOf] <;> omega
      | false =>
        rw [hl2] at L
        have hlx : ¬ x < c := of_decide_eq_false hl2
        go_wp2_with (first | (go_at_call 48; refine L.out.mono ?_; rintro e w1 ⟨rfl, rfl⟩))
        go_roundw
        case rel => exact ⟨i, h, rfl, rfl, by omega, by omega, HW, Lib.hid (HS.out.down HR.out HX.out (by omega))⟩
        case measure => simp [intOf] <;> omega
    · obtain rfl : i = j := by omega
      have hge : ¬ (i : Int) < (i : Int) := by omega
      by_cases hn : i < r.length
      · have hnz : (i : Int) < (r.length : Int) := by omega
        obtain ⟨x, hx⟩ : ∃ x, r[i]? = some x := ⟨_, List.getElem?_eq_getElem hn⟩
        obtain ⟨b1, o1, rfl, g1, c1⟩ := H4.out i x hx
        have e1 := c1 wr (by rw [HW.out]; exact Below.refl _ _) 0 _ (by rfl : (encU x)[0]? = some (.int .u32 x))
        simp only [Nat.mul_one, Nat.add_zero] at e1
        have HF := Lib.hid (HS.out.found HR.out hx)
        have N1 := Lib.hid (snan_is x wr)
        have N2 := Lib.hid (snan_is c wr)
        clear c1 hx
        by_cases e : x = c
        · subst e
          have ht : (x == x) = true := by simp
          go_wp2_with (first | (go_at_call 81; refine N1.out.mono ?_; rintro e w1 ⟨rfl, rfl⟩))
          go_ret2
          first | exact ⟨⟨_, by rw [← HT.out, ← HF.out, ht]; rfl⟩, HW.out⟩ | exact ⟨_, by rw [← HT.out, ← HF.out, ht]; rfl, HW.out⟩
        · have ht : (x == c) = false := by simpa using e
          go_wp2_with (first | (go_at_call 81; refine N1.out.mono ?_; rintro e w1 ⟨rfl, rfl⟩))
          go_ret2
          first | exact ⟨⟨_, by rw [← HT.out, ← HF.out, ht]; rfl⟩, HW.out⟩ | exact ⟨_, by rw [← HT.out, ← HF.out, ht]; rfl, HW.out⟩
      · have hnz : ¬ (i : Int) < (r.length : Int) := by omega
        have hno := HS.out.none (by omega)
        go_wp2
        go_ret2
        first | exact ⟨⟨_, by rw [← HT.out, decide_eq_false hno]; rfl⟩, HW.out⟩ | exact ⟨_, by rw [← HT.out, decide_eq_false hno]; rfl, HW.out⟩
/-- Has a list all of another one? -/
def hasAll (l xs : List Int) : Bool := xs.all fun c => decide (c ∈ l)
theorem hasAll_no {l xs : List Int} {k : Nat} {c : Int} (hk : xs[k]? = some c) (hc : c ∉ l) : hasAll l xs = false := by
  unfold hasAll
  rw [List.all_eq_false]
  exact ⟨c, List.mem_of_getElem? hk, by simpa using hc⟩
theorem hasAll_yes {l xs : List Int} (h : ∀ (k : Nat) (c : Int), xs[k]? = some c → c ∈ l) : hasAll l xs = true := by
  unfold hasAll
  rw [List.all_eq_true]
  intro c hc
  obtain ⟨k, hk⟩ := List.mem_iff_getElem?.1 hc
  simpa using h k c hk
theorem hasAll_form {l r xs : List Int} (h : IsForm l r) : hasAll r xs = hasAll l xs := by
  unfold hasAll
  congr 1
  funext c
  rw [decide_eq_decide]
  exact h.2 c
set_option maxRecDepth 100000 in
theorem among_is (va vf : Value) (xs r : List Int) (w : World) (ha : RdK encU 1 w va xs) (hf : RdK encU 1 w vf r) (hr : r.Pairwise (· < ·)) (hx : xs.length ≤ 35184372087808) (hl : r.length ≤ 35184372087808) : Calls Tryd.prog 41 #[va, vf] w fun e w' =>
    e = .returned (.bool (hasAll r xs)) ∧ w' = w := by
  have HF := Lib.hid fun c => search_is vf r c w hf hr hl
  obtain ⟨p, cp, rfl, h2, h3, h4⟩ := ha.sl
  have H4 := Lib.hid h4
  clear h4 ha hr h2 h3 hf hl
  go_enter Tryd.func41, Tryd.ntmps41
  go_wp2
  go_loopw [11] (fun vi wr => ∃ k : Nat, vi = .int .i64 k ∧ k ≤ xs.length ∧ Hid (wr = w) ∧ Hid (∀ (t : Nat) (c : Int), t < k → xs[t]? = some c → c ∈ r)) (fun vi _ => xs.length - (intOf vi).toNat)
  case atStart => exact ⟨0, rfl, Nat.zero_le _, Lib.hid rfl, Lib.hid fun t c ht => absurd ht (Nat.not_lt_zero _)⟩
  case round =>
    obtain ⟨k, rfl, hk, HW, HA⟩ := hrel
    by_cases hlt : k < xs.length
    · have hltz : (k : Int) < (xs.length : Int) := by omega
      obtain ⟨c, hc⟩ : ∃ c, xs[k]? = some c := ⟨_, List.getElem?_eq_getElem hlt⟩
      obtain ⟨b1, o1, rfl, g1, c1⟩ := H4.out k c hc
      have e1 := c1 wr (by rw [HW.out]; exact Below.refl _ _) 0 _ (by rfl : (encU c)[0]? = some (.int .u32 c))
      simp only [Nat.mul_one, Nat.add_zero] at e1
      have HC := Lib.hid hc
      have CS := Lib.hid (HF.out c)
      rw [← HW.out] at CS
      clear c1 hc
      by_cases hin : c ∈ r
      · rw [decide_eq_true hin] at CS
        go_wp2_with (first | (go_at_call 58; refine CS.out.mono ?_; rintro e w1 ⟨i, rfl, rfl⟩))
        go_roundw
        case rel => exact ⟨k + 1, by go_num, by omega, HW, Lib.hid fun t d ht hd => by
          by_cases e : t = k
          · subst e; rw [HC.out] at hd; cases hd; exact hin
          · exact HA.out t d (by omega) hd⟩
        case measure => simp [intOf] <;> omega
      · rw [decide_eq_false hin] at CS
        go_wp2_with (first | (go_at_call 58; refine CS.out.mono ?_; rintro e w1 ⟨i, rfl, rfl⟩))
        go_ret
        exact ⟨by rw [hasAll_no HC.out hin]; rfl, HW.out⟩
    · have hge : ¬ (k : Int) < (xs.length : Int) := by omega
      go_wp2
      go_ret
      exact ⟨by rw [hasAll_yes fun t c hc => HA.out t c (by have := (List.getElem?_eq_some_iff.1 hc).1; omega) hc]; rfl, HW.out⟩
end Go.Proofs.YtkkhmdiffddllaaDoor
