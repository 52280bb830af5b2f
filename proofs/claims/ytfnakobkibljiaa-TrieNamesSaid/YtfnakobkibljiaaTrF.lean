/- What Put and Drop refuse. Under the conditions that they name. -/
import Derived.Test.YtfnakobkibljiaaTrE
namespace Go.Proofs.Ytfnakobkibljiaa
open Go.RowKit Go.Shelf
theorem put_bad (t : Addr) (a b c : Int) (s : ByteArray) (w : World) (ha : 0 ≤ a) (ha2 : a < 4294967296) (hc : ck a b = c) (hne : c ≠ 0) :
    Calls Try.prog 10 #[.pointer (some t), .agg #[.int .u32 a, .int .i64 b], .string s] w fun e w' => e = .returned (.int .i64 c) ∧ Below w.heap.size w w' := by
  have HCK := Lib.hid (fun w => hc ▸ check_is a b w ha ha2)
  have hcb : (c != 0) = true := by simpa using hne
  have hB0 : Below w.heap.size w ((w.alloc (.cells #[.int .u32 a, .int .i64 b] 28)).alloc (.cells #[.string s] 9)) := ((Below.refl _ _).alloc (Nat.le_refl _) _).alloc (by simp) _
  have HB0 := Lib.hid hB0
  clear hB0 hc
  go_enter Try.func10, Try.ntmps10
  go_wp2_with fail
  go_at_call 20
  (with_reducible refine (HCK.out _).mono ?_)
  rintro e w1 ⟨rfl, hb1⟩
  go_wp2_with fail
  go_ret
  exact ⟨rfl, Below.step HB0.out hb1⟩
theorem drop_none (t r : Nat) (v x : Value) (w : World) (ht : w.heap[t]? = some (.cells #[.map (some r), x] 47 (0, 0))) (hr : w.heap[r]? = some (.map #[{ key := .agg #[.int .u32 0, .int .i64 0], val := v, born := 0 }] 1)) :
    Calls Try.prog 13 #[.pointer (some ⟨t, 0, none⟩), .agg #[.int .u32 0, .int .i64 1]] w fun e w' => e = .returned (.int .i64 5) ∧ Below w.heap.size w w' := by
  have htl : t < w.heap.size := (Array.getElem?_eq_some_iff.1 ht).1
  have hrl : r < w.heap.size := (Array.getElem?_eq_some_iff.1 hr).1
  obtain ⟨Z, hZ⟩ : ∃ Z, w.alloc (.cells #[.int .u32 0, .int .i64 1] 28) = Z := ⟨_, rfl⟩
  have hzs : Z.heap.size = w.heap.size + 1 := by rw [← hZ]; simp
  have hBZ : Below w.heap.size w Z := by rw [← hZ]; exact (Below.refl _ _).alloc (Nat.le_refl _) _
  have hp : Z.heap[w.heap.size]? = some (.cells #[.int .u32 0, .int .i64 1] 28 (0, 0)) := by rw [← hZ]; exact heap_alloc_new w _
  have hck : ck 0 1 = 0 := by decide
  have HCK := Lib.hid (fun w => check_is 0 1 w (by omega) (by omega))
  rw [hck] at HCK
  have HT := Lib.hid ((hBZ.block t htl).trans ht); have HR := Lib.hid ((hBZ.block r hrl).trans hr); have HP := Lib.hid hp; have HBZ := Lib.hid hBZ; have HZS := Lib.hid hzs
  have HZ := Lib.hid hZ
  clear hp hBZ hzs hck ht hr hZ
  go_enter Try.func13, Try.ntmps13
  go_wp2_with fail
  rw [HZ.out]
  obtain ⟨n0, hn0⟩ : ∃ n0, w.heap.size = n0 := ⟨_, rfl⟩
  have HN0 := Lib.hid hn0
  rw [hn0] at HP HZS htl hrl ⊢
  clear hn0
  go_at_call 20
  (with_reducible refine (HCK.out _).mono ?_)
  rintro e w1 ⟨rfl, hb1⟩
  have hzs := HZS.out
  have hz1 := hb1.size
  have m0 := (hb1.block t (by omega)).trans HT.out
  have m1 := (hb1.block r (by omega)).trans HR.out
  have m2 := (hb1.block n0 (by omega)).trans HP.out
  have c0 := (cell_of_row _ _ 0 _ _ (0, 0) m0).trans (rfl : _ = some (Value.map (some r)))
  have p0 := (cell_of_row _ _ 0 _ _ (0, 0) m2).trans (rfl : _ = some (Value.int .u32 0))
  have p1 := (cell_of_row _ _ 1 _ _ (0, 0) m2).trans (rfl : _ = some (Value.int .i64 1))
  have hlk : (Instr.lookup 44 (.map (some r)) (.agg #[.int .u32 0, .int .i64 1]) true).run Try.prog w1.drew = .ok (.tuple #[.pointer none, .bool false]) w1.drew := lookup_miss v m1
  have HB1 := Lib.hid (Below.step HBZ.out hb1)
  clear m0 m1 m2 hb1
  go_wp2_with fail
  go_cut [7] (fun s7 wx => s7 = .bool false ∧ Below w1.heap.size w1 wx)
  case first =>
    go_region_with fail
    all_goals
      go_wp2_with fail
      go_meet
      exact ⟨rfl, (Below.refl _ _).drew⟩
  case rest =>
    obtain ⟨rfl, hb2⟩ := hcut
    have HB2 := Lib.hid (Below.step HB1.out hb2)
    clear hb2
    go_wp2_with fail
    go_ret
    exact ⟨rfl, HB2.out⟩
end Go.Proofs.Ytfnakobkibljiaa
