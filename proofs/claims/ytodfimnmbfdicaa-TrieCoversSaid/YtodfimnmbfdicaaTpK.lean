/- Two prefixes, one in the other: awake. No condition. -/
import Derived.Test.YtodfimnmbfdicaaTpJ
namespace Go.Proofs.Ytodfimnmbfdicaa
open Go.RowKit Go.Shelf
theorem with_is_i : ∀ t : Tr Int, With_i t
  | .nil => with_nil_i
  | .node a n u l r => with_node_i a n u l r (with_is_i l) (with_is_i r)
def aw2 : Tr Int := (Tr.ins 167772160 8 1 .nil).ins 167837696 16 2
theorem pf_a : PfOk 167772160 8 := ⟨by decide, by decide, by decide +kernel⟩
theorem pf_b : PfOk 167837696 16 := ⟨by decide, by decide, by decide +kernel⟩
theorem aw_x : lst (rowsT (inB 167838211) aw2) = ((167837696, 16), 2, true) := by decide +kernel
theorem aw_y : lst (rowsT (inB 167903747) aw2) = ((167772160, 8), 1, true) := by decide +kernel
set_option maxRecDepth 100000 in
set_option maxHeartbeats 4000000 in
theorem awake_is (w : World) : Calls Try.prog 20 #[] w fun e w' => e = .returned (.bool true) ∧ Below w.heap.size w w' := by
  go_enter Try.func20, Try.ntmps20
  go_wp2_with fail
  go_at_call 8
  refine (new_is_i w).mono ?_
  rintro e w1 ⟨t, r, rfl, ht, hr, htab, hb1⟩
  have HT := Lib.hid htab; have HB1 := Lib.hid hb1
  clear htab hb1
  go_wp2_with fail
  go_at_call 11
  refine (put_is_i with_is_i t r _ _ 167772160 8 1 w1 HT.out pf_a).mono ?_
  rintro e w2 ⟨rfl, htab, hk⟩
  have HT2 := Lib.hid htab; have HB2 := Lib.hid (HB1.out.trans (hk.below ht hr HB1.out.size))
  clear htab hk
  go_wp2_with fail
  go_at_call 11
  refine (put_is_i with_is_i t r _ _ 167837696 16 2 w2 HT2.out pf_b).mono ?_
  rintro e w3 ⟨rfl, htab, hk⟩
  have HT3 : Hid (TabAt_i w3 t r [((167772160, 8), 1), ((167837696, 16), 2)] aw2) := Lib.hid htab
  have HB3 := Lib.hid (HB2.out.trans (hk.below ht hr HB2.out.size))
  clear htab hk
  have HLX : Hid (∀ W, Below w3.heap.size w3 W → Calls Try.prog 25 #[.pointer (some ⟨t, 0, none⟩), .int .u32 167838211] W fun e w' => e = .returned (.tuple #[.agg #[.int .u32 167837696, .int .i64 16], .int .i64 2, .bool true]) ∧ Below W.heap.size W w') := Lib.hid fun W hW => by
    have := longest_is t r 167838211 _ _ W (HT3.out.on hW)
    rw [aw_x] at this
    exact this
  have HLY : Hid (∀ W, Below w3.heap.size w3 W → Calls Try.prog 25 #[.pointer (some ⟨t, 0, none⟩), .int .u32 167903747] W fun e w' => e = .returned (.tuple #[.agg #[.int .u32 167772160, .int .i64 8], .int .i64 1, .bool true]) ∧ Below W.heap.size W w') := Lib.hid fun W hW => by
    have := longest_is t r 167903747 _ _ W (HT3.out.on hW)
    rw [aw_y] at this
    exact this
  go_wp2_with fail
  go_at_call 25
  refine (HLX.out _ (Below.refl _ _)).mono ?_
  rintro e w4 ⟨rfl, hb4⟩
  have HB4 := Lib.hid (hb4.alloc hb4.size (.cells #[.int .u32 167837696, .int .i64 16] 34))
  have rb := heap_alloc_new w4 (.cells #[.int .u32 167837696, .int .i64 16] 34)
  have HRB := Lib.hid rb
  clear hb4 rb
  go_wp2_with fail
  go_at_call 25
  refine (HLY.out _ HB4.out).mono ?_
  rintro e w5 ⟨rfl, hb5⟩
  have HB5 := Lib.hid (Below.step HB4.out hb5)
  have HB6 := Lib.hid fun o => HB5.out.alloc HB5.out.size o
  have r5 := (hb5.block w4.heap.size (by simp)).trans HRB.out
  have c5 : ∀ o, (w5.alloc o).cell? ⟨w4.heap.size, 1, none⟩ = some (.int .i64 16) := fun o => row_cell ((heap_alloc_old w5 o (blk_lt r5)).trans r5) 1
  have HLN := Lib.hid fun o => len_is t r _ _ (w5.alloc o) (HT3.out.on (HB6.out o)) (by simp)
  clear hb5 r5
  go_wp2_with fail
  go_at_call 30
  refine (HLN.out _).mono ?_
  rintro e w7 ⟨rfl, rfl⟩
  go_wp2_with fail
  go_ret
  exact ⟨rfl, HB3.out.trans ((HB6.out _).mono HB3.out.size)⟩
end Go.Proofs.Ytodfimnmbfdicaa
