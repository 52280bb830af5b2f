/- What alone and Bit of package header hand back, and what they say of bytes. Each under the conditions that it names. -/
import Derived.Test.YtbmleejeffaciaaDoorHdB
namespace Go.Proofs.YtbmleejeffaciaaDoor
open Go.RowKit
/-- The byte with the one bit i. -/
def pm (i : Nat) : Int := 128 / 2 ^ (i % 8)
theorem pm_at {i r : Nat} (h : i % 8 = r) : pm i = 128 / 2 ^ r := by unfold pm; rw [h]
theorem pm_pow (i : Nat) : ∃ j : Nat, j < 8 ∧ j = 7 - i % 8 ∧ pm i = 2 ^ j := by
  have h : i % 8 = 0 ∨ i % 8 = 1 ∨ i % 8 = 2 ∨ i % 8 = 3 ∨ i % 8 = 4 ∨ i % 8 = 5 ∨ i % 8 = 6 ∨ i % 8 = 7 := by omega
  rcases h with h | h | h | h | h | h | h | h <;> exact ⟨_, by omega, rfl, by rw [pm_at h, h]; decide⟩
theorem pm_cases (i : Nat) : pm i = 128 ∨ pm i = 64 ∨ pm i = 32 ∨ pm i = 16 ∨ pm i = 8 ∨ pm i = 4 ∨ pm i = 2 ∨ pm i = 1 := by
  have h : i % 8 = 0 ∨ i % 8 = 1 ∨ i % 8 = 2 ∨ i % 8 = 3 ∨ i % 8 = 4 ∨ i % 8 = 5 ∨ i % 8 = 6 ∨ i % 8 = 7 := by omega
  rcases h with h | h | h | h | h | h | h | h <;> rw [pm_at h] <;> decide
set_option maxRecDepth 100000 in
theorem alone_is (i : Nat) (hi : i < 104) (w : World) : Calls Tryd.prog 26 #[.int .i64 i] w fun e w' => e = .returned (.int .u8 (pm i)) ∧ w = w' := by
  have h0 : (0 : Int) ≤ (i : Int) := by omega
  have h1 : (i : Int) < 104 := by omega
  clear hi
  go_enter Tryd.func26, Tryd.ntmps26
  go_wp2
  go_ret
  exact ⟨rfl, rfl⟩
set_option maxRecDepth 100000 in
theorem hidx (l : List Int) (h : B13 l) (q : Nat) (hq : q < 13) (w : World) : (Instr.index 39 (.agg (l.map u8V).toArray) (.int .i64 (q : Int))).run Tryd.prog w = .ok (.int .u8 (l.getD q 0)) w := by
  obtain ⟨hl, _, _⟩ := h
  match l, hl with
  | [x0, x1, x2, x3, x4, x5, x6, x7, x8, x9, x10, x11, x12], _ =>
    have h : q = 0 ∨ q = 1 ∨ q = 2 ∨ q = 3 ∨ q = 4 ∨ q = 5 ∨ q = 6 ∨ q = 7 ∨ q = 8 ∨ q = 9 ∨ q = 10 ∨ q = 11 ∨ q = 12 := by omega
    rcases h with rfl | rfl | rfl | rfl | rfl | rfl | rfl | rfl | rfl | rfl | rfl | rfl | rfl <;> first | rfl | (show _ = _; kernel_rfl)
theorem B13.mem_at {l : List Int} (h : B13 l) {q : Nat} (hq : q < 13) : l.getD q 0 ∈ l := by
  have hlen := h.len
  rw [List.getD_eq_getElem?_getD, List.getElem?_eq_getElem (by omega)]
  exact List.getElem_mem _
theorem B13.at_lo {l : List Int} (h : B13 l) {q : Nat} (hq : q < 13) : 0 ≤ l.getD q 0 := h.lo _ (h.mem_at hq)
theorem B13.at_hi {l : List Int} (h : B13 l) {q : Nat} (hq : q < 13) : l.getD q 0 < 256 := h.hi _ (h.mem_at hq)
/-- Is the bit i of bytes set? -/
def tb (l : List Int) (i : Nat) : Bool := decide (l.getD (i / 8) 0 / pm i % 2 = 1)
theorem and_bit (x : Int) (i : Nat) (h0 : 0 ≤ x) (h1 : x < 256) : bits .and .u8 x (pm i) = x / pm i % 2 * pm i := by
  have hp := pm_cases i
  rw [u8_and x (pm i) h0 h1 (by omega) (by omega)]
  obtain ⟨j, _, _, hj⟩ := pm_pow i
  have e : (pm i).toNat = 2 ^ j := by rw [hj]; exact_mod_cast Int.toNat_natCast (2 ^ j)
  rw [e, nat_bit]
  obtain ⟨X, rfl⟩ := Int.eq_ofNat_of_zero_le h0
  rw [hj]
  simp
theorem and_bit_ne (x : Int) (i : Nat) (h0 : 0 ≤ x) (h1 : x < 256) : (bits .and .u8 x (pm i) != 0) = decide (x / pm i % 2 = 1) := by
  rw [and_bit x i h0 h1]
  have hp := pm_cases i
  have h2 : x / pm i % 2 = 0 ∨ x / pm i % 2 = 1 := by omega
  rcases h2 with h | h
  · rw [h]; simp
  · rw [h]
    have : pm i ≠ 0 := by omega
    simp [this]
set_option maxRecDepth 100000 in
set_option maxHeartbeats 4000000 in
theorem bit_is (s d p sp dp : Int) (i : Nat) (hi : i < 104) (w : World) (h : Hdr s d p sp dp) :
    Calls Tryd.prog 12 #[.agg #[.int .u32 s, .int .u32 d, .int .u8 p, .int .u16 sp, .int .u16 dp], .int .i64 i] w fun e w' => e = .returned (.tuple #[.bool (tb (byL s d p sp dp) i), .int .i64 0]) ∧ Below w.heap.size w w' := by
  have HB : Hid (∀ W, Calls Tryd.prog 22 #[.agg #[.int .u32 s, .int .u32 d, .int .u8 p, .int .u16 sp, .int .u16 dp]] W fun e w' => e = .returned (.agg ((byL s d p sp dp).map u8V).toArray) ∧ Below W.heap.size W w') := Lib.hid fun W => bytes_l s d p sp dp W h
  obtain ⟨l, hl⟩ : ∃ l, byL s d p sp dp = l := ⟨_, rfl⟩
  have h13 := byL_13 h
  rw [hl] at HB h13
  rw [hl]
  obtain ⟨q, hq⟩ : ∃ q, i / 8 = q := ⟨_, rfl⟩
  have hq13 : q < 13 := by omega
  have hqi : (i : Int) / 8 = (q : Int) := by omega
  have h0 : (0 : Int) ≤ (i : Int) := by omega
  have h1 : (i : Int) < 104 := by omega
  obtain ⟨y, hy⟩ : ∃ y, l.getD q 0 = y := ⟨_, rfl⟩
  have hx := hidx l h13 q hq13
  rw [hy] at hx
  have HAL : Hid (∀ W, Calls Tryd.prog 26 #[.int .i64 i] W fun e w' => e = .returned (.int .u8 (pm i)) ∧ W = w') := Lib.hid fun W => alone_is i hi W
  have HTB : Hid ((bits .and .u8 y (pm i) != 0) = tb l i) := by
    refine Lib.hid ?_
    rw [← hy, and_bit_ne _ _ (h13.at_lo hq13) (h13.at_hi hq13)]
    unfold tb
    rw [hq]
  clear hl h13 hq h hi hy
  go_enter Tryd.func12, Tryd.ntmps12
  go_wp2
  refine wp_region_grows (by kernel_rfl) (by kernel_rfl) ?_
  refine grows_fact w.heap.size 0 (.int .u32 s) (by go_simp) (by simp) fun r0 => ?_
  refine grows_fact w.heap.size 1 (.int .u32 d) (by go_simp) (by simp) fun r1 => ?_
  refine grows_fact w.heap.size 2 (.int .u8 p) (by go_simp) (by simp) fun r2 => ?_
  refine grows_fact w.heap.size 3 (.int .u16 sp) (by go_simp) (by simp) fun r3 => ?_
  refine grows_fact w.heap.size 4 (.int .u16 dp) (by go_simp) (by simp) fun r4 => ?_
  repeat (go_big_quiet_step ((first | (go_at_call 22; with_reducible exact Calls.grows_of (HB.out _)) | (go_at_call 26; with_reducible exact Calls.grows_same (HAL.out _)))))
  refine wpQuiet_nil ?_
  rintro wB ⟨⟨_, hswB⟩, rfl⟩
  clear r0 r1 r2 r3 r4
  go_wp2
  go_ret2
  exact ⟨congrArg (fun b => Ending.returned (.tuple #[.bool b, .int .i64 0])) HTB.out, Below.step ((Below.refl _ _).alloc (Nat.le_refl _) _) hswB⟩
end Go.Proofs.YtbmleejeffaciaaDoor
