/- The document's own: has a list a number, which member fits, whether it permits; a place told as the document's; are two lists the same? Under the conditions that they name. -/
import Derived.Test.YtkkhmdiffddllaaDoorUtE
namespace Go.Proofs.YtkkhmdiffddllaaDoor
open Go.Shelf Go.RowKit Go.Lib
theorem hasAll_step {l xs : List Int} {k : Nat} {c : Int} (hk : xs[k]? = some c) : hasAll l (xs.take (k + 1)) = (hasAll l (xs.take k) && decide (c ∈ l)) := by
  unfold hasAll
  rw [List.take_add_one, hk]
  simp [List.all_append]
set_option maxRecDepth 100000 in
theorem has_is (v : Value) (l : List Int) (c : Int) (w : World) (hv : RdK encU 1 w v l) (hl : l.length ≤ 35184372087808) : Calls Tryd.prog 23 #[v, .int .u32 c] w fun e w' => e = .returned (.bool (decide (c ∈ l))) ∧ w' = w := by
  obtain ⟨p, cp, rfl, h2, h3, h4⟩ := hv.sl
  have H4 := Lib.hid h4
  obtain ⟨t, ht⟩ : ∃ t, decide (c ∈ l) = t := ⟨_, rfl⟩
  have HT := Lib.hid ht
  rw [ht]
  clear h4 hv h2 h3 ht
  go_enter Tryd.func23, Tryd.ntmps23
  go_wp2
  go_loopw [5] (fun vi wr => ∃ k : Nat, vi = .int .i64 k ∧ k ≤ l.length ∧ Hid (wr = w) ∧ Hid (∀ (t : Nat) (x : Int), t < k → l[t]? = some x → x ≠ c)) (fun vi _ => l.length - (intOf vi).toNat)
  case atStart => exact ⟨0, rfl, Nat.zero_le _, Lib.hid rfl, Lib.hid fun t x ht => absurd ht (Nat.not_lt_zero _)⟩
  case round =>
    obtain ⟨k, rfl, hk, HW, HA⟩ := hrel
    by_cases hlt : k < l.length
    · have hltz : (k : Int) < (l.length : Int) := by omega
      obtain ⟨x, hx⟩ : ∃ x, l[k]? = some x := ⟨_, List.getElem?_eq_getElem hlt⟩
      obtain ⟨b1, o1, rfl, g1, c1⟩ := H4.out k x hx
      have e1 := c1 wr (by rw [HW.out]; exact Below.refl _ _) 0 _ (by rfl : (encU x)[0]? = some (.int .u32 x))
      simp only [Nat.mul_one, Nat.add_zero] at e1
      have HX := Lib.hid hx
      clear c1 hx
      by_cases e : x = c
      · subst e
        have ht : (x == x) = true := by simp
        go_wp2
        go_ret
        exact ⟨by rw [← HT.out, decide_eq_true (List.mem_of_getElem? HX.out)]; rfl, HW.out⟩
      · have ht : (x == c) = false := by simpa using e
        have HE := Lib.hid e
        clear e
        go_wp2
        go_roundw
        case rel => exact ⟨k + 1, by go_num, by omega, HW, Lib.hid fun t y ht hy => by
          by_cases e : t = k
          · subst e; rw [HX.out] at hy; cases hy; exact HE.out
          · exact HA.out t y (by omega) hy⟩
        case measure => simp [intOf] <;> omega
    · have hge : ¬ (k : Int) < (l.length : Int) := by omega
      go_wp2
      go_ret
      exact ⟨by rw [← HT.out, decide_eq_false (fun hm => by
        obtain ⟨t, h⟩ := List.mem_iff_getElem?.1 hm
        exact HA.out t c (by have := (List.getElem?_eq_some_iff.1 h).1; omega) h rfl)]; rfl, HW.out⟩
set_option maxRecDepth 100000 in
theorem same_is (va vb : Value) (l : List Int) (w : World) (ha : RdK encU 1 w va l) (hb : RdK encU 1 w vb l) (hl : l.length ≤ 35184372087808) : Calls Tryd.prog 9 #[va, vb] w fun e w' => e = .returned (.bool true) ∧ Below w.heap.size w w' := by
  obtain ⟨p, cp, rfl, h2, h3, h4⟩ := ha.sl
  obtain ⟨q, cq, rfl, h5, h6, h7⟩ := hb.sl
  have H4 := Lib.hid h4
  have H7 := Lib.hid h7
  clear h4 h7 ha hb h2 h3 h5 h6
  have hnn : ((l.length : Int) != (l.length : Int)) = false := by simp
  go_enter Tryd.func9, Tryd.ntmps9
  go_wp2
  go_loopw [5] (fun vi wr => ∃ k : Nat, vi = .int .i64 k ∧ k ≤ l.length ∧ Hid (Below w.heap.size w wr)) (fun vi _ => l.length - (intOf vi).toNat)
  case atStart => exact ⟨0, rfl, Nat.zero_le _, Lib.hid (Below.refl _ _)⟩
  case round =>
    obtain ⟨k, rfl, hk, HB⟩ := hrel
    by_cases hlt : k < l.length
    · have hltz : (k : Int) < (l.length : Int) := by omega
      obtain ⟨x, hx⟩ : ∃ x, l[k]? = some x := ⟨_, List.getElem?_eq_getElem hlt⟩
      obtain ⟨b1, o1, rfl, g1, c1⟩ := H4.out k x hx
      obtain ⟨b2, o2, rfl, g2, c2⟩ := H7.out k x hx
      have e1 := c1 wr HB.out 0 _ (by rfl : (encU x)[0]? = some (.int .u32 x))
      have e2 := c2 wr HB.out 0 _ (by rfl : (encU x)[0]? = some (.int .u32 x))
      simp only [Nat.mul_one, Nat.add_zero] at e1 e2
      have ht : (x != x) = false := by simp
      have q1 : b1 < wr.heap.size := Nat.lt_of_lt_of_le g1 HB.out.size
      have q2 : b2 < wr.heap.size := Nat.lt_of_lt_of_le g2 HB.out.size
      clear c1 c2 hx
      go_wp2_with fail
      refine wp_region_grows (by kernel_rfl) (by kernel_rfl) ?_
      refine grows_fact b1 (o1 + k) _ e1 q1 fun f0 => ?_
      refine grows_fact b2 (o2 + k) _ e2 q2 fun f1 => ?_
      repeat (go_big_quiet_step (fail))
      refine wpQuiet_nil ?_
      rintro w2 ⟨⟨_, hb2⟩, rfl⟩
      have K1 := Lib.hid (Below.step HB.out hb2)
      clear hb2 f0 f1 e1 e2
      go_wp2
      go_roundw
      case rel => exact ⟨k + 1, by go_num, by omega, K1⟩
      case measure => simp [intOf] <;> omega
    · have hge : ¬ (k : Int) < (l.length : Int) := by omega
      go_wp2
      go_ret
      exact ⟨rfl, HB.out⟩
end Go.Proofs.YtkkhmdiffddllaaDoor
