/- Longest of a table with one prefix. Under the conditions that they name. -/
import Derived.Test.YtfnakobkibljiaaTrF
import Derived.Test.YtfnakobkibljiaaTrS
namespace Go.Proofs.Ytfnakobkibljiaa
open Go.RowKit Go.Shelf
attribute [local go_sem] Oper.semAt_some
/-- What leads to an address. -/
theorem leads_is (x a n : Int) (b : Nat) (w : World) (hb : w.heap[b]? = some (.cells #[.int .u32 x] 26 (0, 0))) (ha : 0 ≤ a) (ha2 : a < 4294967296) (hi : inB x a n = true) : Calls Try.prog 17 #[.agg #[.int .u32 a, .int .i64 n], .pointer (some ⟨b, 0, none⟩)] w fun e w' => e = .returned (.bool true) ∧ Below w.heap.size w w' := by
  have hbl : b < w.heap.size := (Array.getElem?_eq_some_iff.1 hb).1
  have HI := Lib.hid (fun w => hi ▸ in_is x a n w ha ha2)
  obtain ⟨Z, hZ⟩ : ∃ Z, w.alloc (.cells #[.int .u32 a, .int .i64 n] 28) = Z := ⟨_, rfl⟩
  have hzs : Z.heap.size = w.heap.size + 1 := by rw [← hZ]; simp
  have hBZ : Below w.heap.size w Z := by rw [← hZ]; exact (Below.refl _ _).alloc (Nat.le_refl _) _
  have hp : Z.heap[w.heap.size]? = some (.cells #[.int .u32 a, .int .i64 n] 28 (0, 0)) := by rw [← hZ]; exact heap_alloc_new w _
  have hc := (cell_of_row _ _ 0 _ _ (0, 0) ((hBZ.block b hbl).trans hb)).trans (rfl : _ = some (Value.int .u32 x))
  have p0 := (cell_of_row _ _ 0 _ _ (0, 0) hp).trans (rfl : _ = some (Value.int .u32 a))
  have p1 := (cell_of_row _ _ 1 _ _ (0, 0) hp).trans (rfl : _ = some (Value.int .i64 n))
  have HBZ := Lib.hid hBZ
  clear hb hi hBZ hp hzs
  go_enter Try.func17, Try.ntmps17
  go_wp2_with fail
  go_at_call 18
  (with_reducible refine (HI.out _).mono ?_)
  rintro e w1 ⟨rfl, hb1⟩
  go_wp2_with fail
  go_ret
  exact ⟨rfl, Below.step HBZ.out hb1⟩
set_option maxRecDepth 100000 in
set_option maxHeartbeats 400000 in
/-- A visit of a node with a value and nothing below it. -/
theorem visit_one {J Jx : List Kv → World → Prop} (n0 g v b l : Nat) (s : ByteArray) (x0 : Kv) (hx0 : x0 = ((0, 0), s)) (W : World) (hg : W.heap[g]? = some (.cells #[.int .u32 0, .int .i64 0, .pointer (some ⟨v, 0, none⟩), .pointer none, .pointer none] 62 (0, 0))) (hv : W.heap[v]? = some (.cells #[.string s] 9 (0, 0))) (hb : W.heap[b]? = some (.cells #[.int .u32 4294967295] 26 (0, 0)))
    (hg0 : g < n0) (hn0 : n0 ≤ W.heap.size)
    (hY : ∀ W1, Below W.heap.size W W1 → YieldAt Fence.wide 2 Try.prog l (encKv x0) W1 fun e W' => (e = .returned (.bool true) ∧ J [x0] W' ∧ Below n0 W1 W') ∨ (e = .returned (.bool false) ∧ Jx [x0] W')) :
    CallsIn Fence.wide 3 Try.prog 25 #[.pointer (some ⟨g, 0, none⟩), .func (.func 17) #[] #[.pointer (some ⟨b, 0, none⟩)], .func (.yield l) #[] #[]] W fun e W' => (e = .returned (.bool true) ∧ J [x0] W' ∧ Below n0 W W') ∨ (e = .returned (.bool false) ∧ Jx [x0] W') := by
  have HL := Lib.hid (fun w hb => leads_is 4294967295 0 0 b w hb (by omega) (by omega) (by decide))
  have HV := Lib.hid (fun ld y w => visit_nil ld y w)
  have c0 := (cell_of_row _ _ 0 _ _ (0, 0) hg).trans (rfl : _ = some (Value.int .u32 0))
  have c1 := (cell_of_row _ _ 1 _ _ (0, 0) hg).trans (rfl : _ = some (Value.int .i64 0))
  have hvl : v < W.heap.size := (Array.getElem?_eq_some_iff.1 hv).1
  have HG := Lib.hid hg; have HVV := Lib.hid hv; have HB := Lib.hid hb
  clear hg hv hb
  refine callsIn_of_wp Try.func25 rfl trivial ?_ rfl
  simp only [Try.ntmps25, List.size_toArray, List.length_cons, List.length_nil, Nat.reduceAdd, Nat.reduceSub, Array.replicate_succ, Array.replicate_zero, List.push_toArray, List.append_toArray, List.nil_append, List.cons_append]
  gi_wp2
  refine ⟨trivial, ?_⟩
  refine (callsIn_wide.2 (HL.out W HB.out)).mono ?_
  rintro e w1 ⟨rfl, hb1⟩
  have hgl : g < W.heap.size := by omega
  have d0 := (cell_of_row _ _ 0 _ _ (0, 0) ((hb1.block g hgl).trans HG.out)).trans (rfl : _ = some (Value.int .u32 0))
  have d1 := (cell_of_row _ _ 1 _ _ (0, 0) ((hb1.block g hgl).trans HG.out)).trans (rfl : _ = some (Value.int .i64 0))
  have d2 := (cell_of_row _ _ 2 _ _ (0, 0) ((hb1.block g hgl).trans HG.out)).trans (rfl : _ = some (Value.pointer (some ⟨v, 0, none⟩)))
  have e0 := (cell_of_row _ _ 0 _ _ (0, 0) ((hb1.block v hvl).trans HVV.out)).trans (rfl : _ = some (Value.string s))
  have HB1 := Lib.hid hb1
  clear hb1 c0 c1
  gi_wp2
  refine wpIn_region_still_tail 17 (by kernel_rfl) (by kernel_rfl) ?_
  simp only [List.take_succ_cons, List.take_zero, List.drop_succ_cons, List.drop_zero]
  repeat still_step
  try refine wpStill_nil ?_
  have hbd : Below W.heap.size W w1.drew := HB1.out.drew
  generalize w1.drew = w2 at hbd ⊢
  obtain ⟨fn, tmps, assign, body, hy, hR⟩ := hY w2 hbd
  have HBD := Lib.hid hbd
  have HR := Lib.hid hR
  clear hbd d0 d1 d2 e0 hR hY
  subst hx0
  dsimp only [encKv] at hy
  gi_wp2
  refine HR.out.mono ?_
  rintro e W' (⟨rfl, hJ, hk⟩ | ⟨rfl, hJx⟩)
  · have hb0W : Below n0 W W' := (HBD.out.mono hn0).trans hk
    have q3 := (cell_of_row _ _ 3 _ _ (0, 0) ((hb0W.block g hg0).trans HG.out)).trans (rfl : _ = some (Value.pointer none))
    have q4 := (cell_of_row _ _ 4 _ _ (0, 0) ((hb0W.block g hg0).trans HG.out)).trans (rfl : _ = some (Value.pointer none))
    have HJ := Lib.hid hJ; have HBW := Lib.hid hb0W
    clear hJ hk hb0W
    gi_wp2_with ((try refine ⟨trivial, ?_⟩); gi_at_call 25; refine (callsIn_wide.2 (HV.out _ _ _)).mono ?_; rintro e w' ⟨rfl, rfl⟩)
    go_ret
    exact .inl ⟨rfl, HJ.out, HBW.out⟩
  · have HJ := Lib.hid hJx
    clear hJx
    gi_wp2
    go_ret
    exact .inr ⟨rfl, HJ.out⟩
end Go.Proofs.Ytfnakobkibljiaa
