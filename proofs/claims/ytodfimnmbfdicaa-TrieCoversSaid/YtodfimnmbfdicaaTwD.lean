/- Same of the first reference chapter, at one list read twice. Under the conditions that it names. -/
import Derived.Test.YtodfimnmbfdicaaTpF
import Derived.Deep.QuietTactic
namespace Go.Proofs.Ytodfimnmbfdicaa
open Go.RowKit Go.Shelf
attribute [local go_sem] Oper.semAt_some
set_option maxRecDepth 100000 in
set_option maxHeartbeats 4000000 in
theorem psame_is (l : List (Int × Int)) (v v' : Value) (w : World) (h : RdK encP 2 w v l) (h' : RdK encP 2 w v' l) (hrg : ∀ x ∈ l, 0 ≤ x.1 ∧ x.1 < 4294967296) :
    Calls Try.prog 23 #[v, v'] w fun e w' => e = .returned (.bool true) ∧ Below w.heap.size w w' := by
  have R := Lib.hid h
  have R' := Lib.hid h'
  have HRG := Lib.hid hrg
  obtain ⟨p, c, rfl, hlc, hcm, _⟩ := h.sl
  obtain ⟨p', c', rfl, hlc', _, _⟩ := h'.sl
  unfold maxLen at hcm
  clear h h' hrg
  have hnn : ((l.length : Int) != (l.length : Int)) = false := by simp
  go_enter Try.func23, Try.ntmps23
  go_wp2_with fail
  go_loopw [5] (fun s5 wr => ∃ k : Nat, k ≤ l.length ∧ s5 = .int .i64 k ∧ Hid (Below w.heap.size w wr)) (fun s5 _ => l.length - (intOf s5).toNat)
  case atStart => exact ⟨0, by omega, rfl, Lib.hid (Below.refl _ _)⟩
  case round =>
    obtain ⟨k, hk, rfl, HB⟩ := hrel
    by_cases hlt : k < l.length
    · obtain ⟨⟨x0, x1⟩, hx⟩ : ∃ x, l[k]? = some x := ⟨_, List.getElem?_eq_getElem hlt⟩
      obtain ⟨b, o, c2, he, _, hcx⟩ := rd_cells R.out hx
      simp only [Value.slice.injEq] at he
      obtain ⟨rfl, -, rfl⟩ := he
      obtain ⟨f0, f1⟩ := hcx wr HB.out
      obtain ⟨b', o', c2', he, _, hcx'⟩ := rd_cells R'.out hx
      simp only [Value.slice.injEq] at he
      obtain ⟨rfl, -, rfl⟩ := he
      obtain ⟨g0, g1⟩ := hcx' wr HB.out
      simp only at f0 f1 g0 g1
      have i0 : (0 : Int) ≤ (k : Int) := by omega
      have i1 : (k : Int) < (l.length : Int) := by omega
      have d0 : (x0 != x0) = false := by simp
      have d1 : (x1 != x1) = false := by simp
      clear hcx hcx' hx
      go_wp2_with fail
      go_quiet (fail)
      go_wp2_with fail
      go_roundw
      case rel => exact ⟨k + 1, by omega, by go_num, Lib.hid (Below.draws HB.out _)⟩
      case measure => simp [intOf]; omega
    · obtain rfl : k = l.length := by omega
      clear hlt
      go_wp2_with fail
      go_ret
      exact ⟨rfl, HB.out⟩
end Go.Proofs.Ytodfimnmbfdicaa
