/- slices.Equal at uint32, Same of package policy. Under the conditions that they name. -/
import Derived.Test.YtolnpggofocjkaaPnB
import Derived.Laws.StructEq
namespace Go.Proofs.Ytolnpggofocjkaa
open Go.RowKit
theorem drewN_drewN (w : World) (a b : Nat) : (w.drewN a).drewN b = w.drewN (a + b) := by simp [World.drewN, Nat.add_assoc]
set_option maxRecDepth 100000 in
set_option maxHeartbeats 1000000 in
theorem equal_is (a b : Value) (l m : List Int) (w : World) (ha : RdK encU 1 w a l) (hb : RdK encU 1 w b m) (hl : l.length ≤ 4294967296) (hm : m.length ≤ 4294967296) : Calls Try.prog 33 #[a, b] w fun e w' =>
    e = .returned (.bool (decide (l = m))) ∧ ∃ q, w' = w.drewN q := by
  obtain ⟨pa, ca, rfl, a2, a3, a4⟩ := ha.sl
  obtain ⟨pb, cb, rfl, b2, b3, b4⟩ := hb.sl
  by_cases hn : l.length = m.length
  · have HA4 := Lib.hid a4
    have HB4 := Lib.hid b4
    have HM := Lib.hid hn
    rw [← hn]
    clear a4 b4 ha hb hn hm a2 b2 a3 b3
    go_enter Try.func33, Try.ntmps33
    go_wp2
    go_loopw [13] (fun v wr => ∃ k : Nat, v = .int .i64 (k : Int) ∧ k ≤ l.length ∧ Hid (∃ q, wr = w.drewN q) ∧ Hid (l.take k = m.take k)) (fun v _ => l.length - (intOf v).toNat)
    case atStart => exact ⟨0, rfl, Nat.zero_le _, Lib.hid ⟨0, rfl⟩, Lib.hid (by simp)⟩
    case round =>
      obtain ⟨k, rfl, hk, HW, HE⟩ := hrel
      have HB : Hid (Below w.heap.size w wr) := Lib.hid (by obtain ⟨q, h⟩ := HW.out; rw [h]; exact Below.draws (Below.refl _ w) q)
      by_cases hlt : k < l.length
      · obtain ⟨x, hx⟩ : ∃ x, l[k]? = some x := ⟨_, List.getElem?_eq_getElem hlt⟩
        obtain ⟨y, hy⟩ : ∃ y, m[k]? = some y := ⟨_, List.getElem?_eq_getElem (by have := HM.out; omega)⟩
        obtain ⟨b1, o1, rfl, h1, c1⟩ := HA4.out k x hx
        obtain ⟨b2, o2, rfl, h2, c2⟩ := HB4.out k y hy
        have e1 := c1 wr HB.out 0 _ (by rfl : (encU x)[0]? = some (.int .u32 x))
        have e2 := c2 wr HB.out 0 _ (by rfl : (encU y)[0]? = some (.int .u32 y))
        simp only [Nat.mul_one, Nat.add_zero] at e1 e2
        have HX := Lib.hid hx
        have HY := Lib.hid hy
        clear hx hy c1 c2 HA4 HB4
        have hltz : (k : Int) < (l.length : Int) := by omega
        have hkz : IntKind.i64.wrap ((k : Int) + 1) = (k : Int) + 1 := by rw [IntKind.wrap_i64]; omega
        go_wp2
        by_cases hxy : x = y
        · have hd : decide (x = y) = true := decide_eq_true hxy
          subst hxy
          go_quiet (fail)
          go_wp2
          go_roundw
          case rel => exact ⟨k + 1, by go_num, by omega, Lib.hid (by obtain ⟨q, h⟩ := HW.out; exact ⟨q + nq, by rw [h, drewN_drewN]⟩), Lib.hid (by rw [List.take_add_one, List.take_add_one, HX.out, HY.out, HE.out])⟩
          case measure => simp [intOf]; omega
        · have hne : (x == y) = false := by simpa using hxy
          go_quiet (fail)
          go_wp2
          go_ret
          refine ⟨?_, ?_⟩
          · rw [decide_eq_false (fun e => hxy (by have h1 := HX.out; have h2 := HY.out; rw [e, h2] at h1; simpa using h1.symm))]; rfl
          · obtain ⟨q, h⟩ := HW.out; exact ⟨q + nq, by rw [h, drewN_drewN]⟩
      · have hge : ¬ (k : Int) < (l.length : Int) := by omega
        go_wp2
        go_ret
        exact ⟨by
          have h2 := HE.out
          rw [List.take_of_length_le (by omega), List.take_of_length_le (by have := HM.out; omega)] at h2
          rw [h2]; simp, HW.out⟩
  · have hne : (l.length : Int) ≠ (m.length : Int) := by omega
    go_enter Try.func33, Try.ntmps33
    go_wp2
    go_ret
    refine ⟨?_, 0, rfl⟩
    rw [decide_eq_false (fun e => hn (by rw [e]))]; rfl
end Go.Proofs.Ytolnpggofocjkaa
