/- sum of package policy: a list, and another one behind it, in memory of its own. Under the conditions that it names. -/
import Derived.Test.YtolnpggofocjkaaRows
import Derived.Test.YtolnpggofocjkaaProg
import Derived.Test.YtolnpggofocjkaaUrA
import Derived.IntWalk
import Derived.Deep.RegionWith
import Derived.Deep.RegionHeld3
import Derived.Deep.DeepCutAuto
import Derived.Laws.Rows
import Derived.PlainAid
import Derived.Carry
namespace Go.Proofs.Ytolnpggofocjkaa
open Go.RowKit
theorem infoU : (Try.prog.info? 23).map (fun i => (i.zero, i.size, i.bytes)) = some (some (.int .u32 0), 1, 4) := by kernel_rfl
set_option maxRecDepth 100000 in
theorem sum_is (a b : Value) (l m : List Int) (w : World) (ha : RdK encU 1 w a l) (hb : RdK encU 1 w b m) (hl : l.length + m.length ≤ 4294967296) : Calls Try.prog 61 #[a, b] w fun e w' =>
    ∃ v, e = .returned v ∧ w'.ownsRow w.heap.size 23 1 v (l ++ m).length (flatK encU (l ++ m)) ∧ Below w.heap.size w w' := by
  obtain ⟨C, HC, HR, hm⟩ := makeU (P := Try.prog) Try.underlying27 infoU l.length (l.length + m.length) (by omega) (by omega)
  have hmk : ∀ w : World, (Instr.makeSlice 27 (.int .i64 l.length) (.int .i64 ((l.length : Int) + (m.length : Int)))).run Try.prog w = .ok (.slice (some ⟨w.heap.size, 0, none⟩) l.length (l.length + m.length)) (w.alloc (.cells C 23)) := fun w => by simpa using hm w
  clear hm
  have HA := Lib.hid ha
  have HB := Lib.hid hb
  obtain ⟨pa, ca, rfl, a2, a3, a4⟩ := ha
  obtain ⟨pb, cb, rfl, b2, b3, b4⟩ := hb
  have HA4 := Lib.hid a4
  clear a4 b4
  obtain ⟨W1, hW1⟩ : ∃ X, w.alloc (.cells C 23) = X := ⟨_, rfl⟩
  have HB1 : Hid (Below w.heap.size w W1) := Lib.hid (by rw [← hW1]; exact (Below.refl _ _).alloc (Nat.le_refl _) _)
  have HG1 : Hid (W1.heap[w.heap.size]? = some (.cells C 23 (0, 0))) := Lib.hid (by rw [← hW1]; exact heap_newU _ _)
  have hz : W1.heap.size = w.heap.size + 1 := by rw [← hW1]; simp
  have hadd : IntKind.i64.wrap ((l.length : Int) + (m.length : Int)) = (l.length : Int) + (m.length : Int) := by rw [IntKind.wrap_i64]; omega
  obtain ⟨W2, hcp, G2, R2⟩ := copyU (P := Try.prog) (W := W1) (dT := 27) (ty := 3) Try.underlying27 (by kernel_rfl : (Try.prog.info? 23).map (·.size) = some 1) (n := l.length) (c := l.length + m.length) HG1.out (HA.out.below HB1.out) (Nat.le_refl _) (by have := HC.out; omega)
  have O2 : Hid (W2.ownsRow w.heap.size 23 1 (.slice (some ⟨w.heap.size, 0, none⟩) l.length (l.length + m.length)) l.length (flatK encU l)) := Lib.hid (own_copied G2.out (Nat.le_refl _) (by have := HC.out; simp; omega) (by rw [flatK_length encU_len]; simp) (by omega) (by unfold maxLen; omega))
  have B2 : Hid (Below w.heap.size w W2) := Lib.hid (HB1.out.grown R2.out (by omega) (fun j hj => by cases hj; exact Nat.le_refl _))
  have D2 : Hid (RdK encU 1 W2 (.slice pb m.length cb) m) := Lib.hid (HB.out.below B2.out)
  have S2 : w.heap.size ≤ W2.heap.size := B2.out.size
  go_enter Try.func61, Try.ntmps61
  go_wp2_with (first
    | (at_builtin; refine wpList_append_rdk encU_len (by decide) encU_one rfl _ _ 27 23 rfl (.int .u32 0) 4 Try.underlying27 rfl infoU w.heap.size _ l.length (flatK encU l) rfl O2.out _ m rfl D2.out (by unfold maxLen; omega) (by omega) (by omega) ?_
       intro v W3 O3 R3 E3
       have B3 : Hid (Below w.heap.size w W3) := Lib.hid (B2.out.grown R3 S2 (fun j hj => by cases hj; exact Nat.le_refl _))
       have O3' : Hid (W3.ownsRow w.heap.size 23 1 v (l ++ m).length (flatK encU (l ++ m))) := Lib.hid (by rw [List.length_append]; simpa [flatK, List.flatMap_append] using O3)
       clear O3 R3 E3))
  go_ret
  exact ⟨v, rfl, O3'.out, B3.out⟩
theorem sum_one (a : Value) (l : List Int) (w : World) (ha : RdK encU 1 w a l) (hl : l.length ≤ 4294967296) : Calls Try.prog 61 #[a, .slice none 0 0] w fun e w' =>
    ∃ v, e = .returned v ∧ w'.ownsRow w.heap.size 23 1 v l.length (flatK encU l) ∧ Below w.heap.size w w' :=
  (sum_is a (.slice none 0 0) l [] w ha (RdK.nil _) (by simpa using hl)).mono fun e w' ⟨v, h1, h2, h3⟩ => ⟨v, h1, by rw [List.append_nil] at h2; exact h2, h3⟩
end Go.Proofs.Ytolnpggofocjkaa
