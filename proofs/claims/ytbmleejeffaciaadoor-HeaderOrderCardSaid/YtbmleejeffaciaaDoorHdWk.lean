/- What works of package waymarklaw03 hands back: true. The variables ErrSyntax and ErrRange of package strconv are asked to hold errors, the table of powers of ten to be what its text says. -/
import Derived.Test.YtbmleejeffaciaaDoorHdM
import Derived.Test.YtbmleejeffaciaaDoorHdS
import Derived.Test.YtbmleejeffaciaaDoorHdW0
namespace Go.Proofs.YtbmleejeffaciaaDoor
open Go.RowKit
def wkL : List UInt8 := [49, 48, 46, 48, 46, 48, 46, 49, 58, 49, 48, 50, 52, 32, 49, 48, 46, 48, 46, 48, 46, 50, 58, 56, 48, 32, 54]
theorem wk_parse : hparse wkL = some (167772161, 167772162, 6, 1024, 80) := by decide +kernel
theorem wk_hdr : Hdr 167772161 167772162 6 1024 80 := (hparse_back wk_parse).2
theorem wk_text : htext 167772161 167772162 6 1024 80 = wkL := (hparse_back wk_parse).1
theorem wk_by : byL 167772161 167772162 6 1024 80 = [10, 0, 0, 1, 10, 0, 0, 2, 6, 4, 0, 0, 80] := by decide
theorem wk_bit : tb (byL 167772161 167772162 6 1024 80) 4 = true := by decide
set_option maxRecDepth 100000 in
set_option maxHeartbeats 4000000 in
theorem works_is (w : World) (hE : ErrV w) (hT : Tab10 w) :
    Calls Tryd.prog 7 #[] w fun e w' => e = .returned (.bool true) ∧ Below w.heap.size w w' := by
  have HP : Hid (Calls Tryd.prog 10 #[.string ⟨#[49, 48, 46, 48, 46, 48, 46, 49, 58, 49, 48, 50, 52, 32, 49, 48, 46, 48, 46, 48, 46, 50, 58, 56, 48, 32, 54]⟩] w fun e w' => e = .returned (.tuple #[.agg #[.int .u32 167772161, .int .u32 167772162, .int .u8 6, .int .u16 1024, .int .u16 80], .int .i64 0]) ∧ Below w.heap.size w w') := by
    have h := hparse_is wkL (by decide) w hE hT
    rw [wk_parse] at h
    exact Lib.hid h
  have HB : Hid (∀ W, Calls Tryd.prog 22 #[.agg #[.int .u32 167772161, .int .u32 167772162, .int .u8 6, .int .u16 1024, .int .u16 80]] W fun e w' => e = .returned (.agg #[.int .u8 10, .int .u8 0, .int .u8 0, .int .u8 1, .int .u8 10, .int .u8 0, .int .u8 0, .int .u8 2, .int .u8 6, .int .u8 4, .int .u8 0, .int .u8 0, .int .u8 80]) ∧ Below W.heap.size W w') := Lib.hid fun W => by
    have h := bytes_l _ _ _ _ _ W wk_hdr
    rw [wk_by] at h
    exact h
  have HBit : Hid (∀ W, Calls Tryd.prog 12 #[.agg #[.int .u32 167772161, .int .u32 167772162, .int .u8 6, .int .u16 1024, .int .u16 80], .int .i64 4] W fun e w' => e = .returned (.tuple #[.bool true, .int .i64 0]) ∧ Below W.heap.size W w') := Lib.hid fun W => by
    have h := bit_is _ _ _ _ _ 4 (by omega) W wk_hdr
    rw [wk_bit] at h
    exact h
  have HT : Hid (∀ W, Below w.heap.size w W → Calls Tryd.prog 20 #[.agg #[.int .u32 167772161, .int .u32 167772162, .int .u8 6, .int .u16 1024, .int .u16 80]] W fun e w' => e = .returned (.string ⟨#[49, 48, 46, 48, 46, 48, 46, 49, 58, 49, 48, 50, 52, 32, 49, 48, 46, 48, 46, 48, 46, 50, 58, 56, 48, 32, 54]⟩) ∧ Below W.heap.size W w') := Lib.hid fun W hW => by
    have h := htext_is _ _ _ _ _ W wk_hdr (hT.on hW)
    rw [wk_text] at h
    exact h
  have HO : Hid (∀ W, Calls Tryd.prog 24 #[.agg #[.int .u8 10, .int .u8 0, .int .u8 0, .int .u8 1, .int .u8 10, .int .u8 0, .int .u8 0, .int .u8 2, .int .u8 6, .int .u8 4, .int .u8 0, .int .u8 0, .int .u8 80]] W fun e w' => e = .returned (.agg #[.int .u32 167772161, .int .u32 167772162, .int .u8 6, .int .u16 1024, .int .u16 80]) ∧ Below W.heap.size W w') := Lib.hid fun W => by
    have h := of_l _ W (byL_13 wk_hdr)
    rw [of_byL wk_hdr, wk_by] at h
    exact h
  have HS : Hid (∀ W, Calls Tryd.prog 9 #[.agg #[.int .u32 167772161, .int .u32 167772162, .int .u8 6, .int .u16 1024, .int .u16 80], .agg #[.int .u32 167772161, .int .u32 167772162, .int .u8 6, .int .u16 1024, .int .u16 80]] W fun e w' => e = .returned (.bool true) ∧ Below W.heap.size W w') := Lib.hid fun W => by
    have h := same_is 167772161 167772162 6 1024 80 167772161 167772162 6 1024 80 W
    simpa using h
  clear hE hT
  go_enter Tryd.func7, Tryd.ntmps7
  go_wp2_with fail
  go_at_call 10
  refine HP.out.mono ?_
  rintro e w1 ⟨rfl, hb1⟩
  have hz1 := hb1.size
  go_wp2_with (go_at_call 22; (with_reducible refine (HB.out _).mono ?_); rintro e w2 ⟨rfl, hb2⟩; obtain ⟨hcB, hfB⟩ := bcell hb2; have hz2 : w1.heap.size < w2.heap.size := (by have := hb2.size; simp at this; omega))
  go_at_call 12
  refine (HBit.out _).mono ?_
  rintro e w3 ⟨rfl, hb3⟩
  have hz3 : w2.heap.size < w3.heap.size := by have := hb3.size; simp at this; omega
  have h2a : w2.heap[w1.heap.size]? = some (.cells #[.int .u32 167772161, .int .u32 167772162, .int .u8 6, .int .u16 1024, .int .u16 80] 27 (0, 0)) := (hb2.block _ (by simp)).trans (heap_alloc_new w1 _)
  have h3a : w3.heap[w1.heap.size]? = some (.cells #[.int .u32 167772161, .int .u32 167772162, .int .u8 6, .int .u16 1024, .int .u16 80] 27 (0, 0)) := (hb3.block _ (by simp; omega)).trans ((heap_alloc_old _ _ hz2).trans h2a)
  have h3b : w3.heap[w2.heap.size]? = some (.cells #[.int .u8 10, .int .u8 0, .int .u8 0, .int .u8 1, .int .u8 10, .int .u8 0, .int .u8 0, .int .u8 2, .int .u8 6, .int .u8 4, .int .u8 0, .int .u8 0, .int .u8 80] 39 (0, 0)) := (hb3.block _ (by simp)).trans (heap_alloc_new w2 _)
  have hl3a : w1.heap.size < w3.heap.size := by omega
  have hb13 : Below w.heap.size w w3 := Below.step hb1 ((((Below.refl w1.heap.size w1).alloc (Nat.le_refl _) _).trans (hb2.mono (by simp))).trans (((Below.refl w2.heap.size w2).alloc (Nat.le_refl _) _ |>.trans (hb3.mono (by simp))).mono (by omega)))
  clear hcB hfB h2a
  go_wp2_with fail
  refine wp_region_grows (by kernel_rfl) (by kernel_rfl) ?_
  refine grows_fact w1.heap.size 0 (.int .u32 167772161) (row_cell' h3a rfl).1 hl3a fun r0 => ?_
  refine grows_fact w1.heap.size 1 (.int .u32 167772162) (row_cell' h3a rfl).1 hl3a fun r1 => ?_
  refine grows_fact w1.heap.size 2 (.int .u8 6) (row_cell' h3a rfl).1 hl3a fun r2 => ?_
  refine grows_fact w1.heap.size 3 (.int .u16 1024) (row_cell' h3a rfl).1 hl3a fun r3 => ?_
  refine grows_fact w1.heap.size 4 (.int .u16 80) (row_cell' h3a rfl).1 hl3a fun r4 => ?_
  refine grows_fact w2.heap.size 0 (.int .u8 10) (row_cell' h3b rfl).1 hz3 fun q0 => ?_
  refine grows_fact w2.heap.size 1 (.int .u8 0) (row_cell' h3b rfl).1 hz3 fun q1 => ?_
  refine grows_fact w2.heap.size 2 (.int .u8 0) (row_cell' h3b rfl).1 hz3 fun q2 => ?_
  refine grows_fact w2.heap.size 3 (.int .u8 1) (row_cell' h3b rfl).1 hz3 fun q3 => ?_
  refine grows_fact w2.heap.size 4 (.int .u8 10) (row_cell' h3b rfl).1 hz3 fun q4 => ?_
  refine grows_fact w2.heap.size 5 (.int .u8 0) (row_cell' h3b rfl).1 hz3 fun q5 => ?_
  refine grows_fact w2.heap.size 6 (.int .u8 0) (row_cell' h3b rfl).1 hz3 fun q6 => ?_
  refine grows_fact w2.heap.size 7 (.int .u8 2) (row_cell' h3b rfl).1 hz3 fun q7 => ?_
  refine grows_fact w2.heap.size 8 (.int .u8 6) (row_cell' h3b rfl).1 hz3 fun q8 => ?_
  refine grows_fact w2.heap.size 9 (.int .u8 4) (row_cell' h3b rfl).1 hz3 fun q9 => ?_
  refine grows_fact w2.heap.size 10 (.int .u8 0) (row_cell' h3b rfl).1 hz3 fun q10 => ?_
  refine grows_fact w2.heap.size 11 (.int .u8 0) (row_cell' h3b rfl).1 hz3 fun q11 => ?_
  refine grows_fact w2.heap.size 12 (.int .u8 80) (row_cell' h3b rfl).1 hz3 fun q12 => ?_
  repeat (go_big_quiet_step ((first | (go_at_call 20; with_reducible exact Calls.grows_of (HT.out _ (Below.step hb13 (Grows.below _)))) | (go_at_call 24; with_reducible exact Calls.grows_of (HO.out _)) | (go_at_call 9; with_reducible exact Calls.grows_of (HS.out _)))))
  refine wpQuiet_nil ?_
  rintro wB ⟨⟨_, hswB⟩, rfl⟩
  clear r0 r1 r2 r3 r4 q0 q1 q2 q3 q4 q5 q6 q7 q8 q9 q10 q11 q12
  go_wp2
  go_ret
  exact ⟨rfl, Below.step hb13 hswB⟩
end Go.Proofs.YtbmleejeffaciaaDoor
