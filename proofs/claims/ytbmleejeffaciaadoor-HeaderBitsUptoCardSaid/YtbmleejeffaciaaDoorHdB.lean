/- What Bytes and Of of package header hand back. Each under the conditions that it names: that the fields and bytes are what their types hold. -/
import Derived.Test.YtbmleejeffaciaaDoorRows
import Derived.Test.YtbmleejeffaciaaDoorKit
import Derived.LoopN
namespace Go.Proofs.YtbmleejeffaciaaDoor
open Go.RowKit
/-- A header's fields are what their types hold. -/
structure Hdr (s d p sp dp : Int) : Prop where
  s0 : 0 ≤ s
  s1 : s < 4294967296
  d0 : 0 ≤ d
  d1 : d < 4294967296
  p0 : 0 ≤ p
  p1 : p < 256
  sp0 : 0 ≤ sp
  sp1 : sp < 65536
  dp0 : 0 ≤ dp
  dp1 : dp < 65536
theorem or8_u32 (a n : Int) (h0 : 0 ≤ a) (h1 : a < 16777216) (h2 : 0 ≤ n) (h3 : n ≤ 255) : bits .or .u32 (a * 256) n = a * 256 + n := by
  rw [u32_or _ _ (by omega) (by omega) h2 (by omega), nat_join 8 _ _ (by omega) (by omega)]
  omega
theorem or8_u16 (a n : Int) (h0 : 0 ≤ a) (h1 : a < 256) (h2 : 0 ≤ n) (h3 : n ≤ 255) : bits .or .u16 (a * 256) n = a * 256 + n := by
  rw [u16_or _ _ (by omega) (by omega) h2 (by omega), nat_join 8 _ _ (by omega) (by omega)]
  omega
theorem or_nought (n : Int) (h0 : 0 ≤ n) (h1 : n < 4294967296) : bits .or .u32 0 n = n := by
  rw [u32_or _ _ (by omega) (by omega) h0 h1]
  simp; omega
theorem or_nought16 (n : Int) (h0 : 0 ≤ n) (h1 : n < 65536) : bits .or .u16 0 n = n := by
  rw [u16_or _ _ (by omega) (by omega) h0 h1]
  simp; omega
set_option maxRecDepth 100000 in
set_option maxHeartbeats 4000000 in
theorem bytes_w (s d p sp dp : Int) (w : World) (h : Hdr s d p sp dp) :
    Calls Tryd.prog 22 #[.agg #[.int .u32 s, .int .u32 d, .int .u8 p, .int .u16 sp, .int .u16 dp]] w fun e w' => e = .returned (.agg #[.int .u8 (s / 16777216), .int .u8 (s / 65536 % 256), .int .u8 (s / 256 % 256), .int .u8 (s % 256), .int .u8 (d / 16777216), .int .u8 (d / 65536 % 256), .int .u8 (d / 256 % 256), .int .u8 (d % 256), .int .u8 p, .int .u8 (sp / 256), .int .u8 (sp % 256), .int .u8 (dp / 256), .int .u8 (dp % 256)]) ∧ w' = ((w.alloc (.cells #[.int .u32 s, .int .u32 d, .int .u8 p, .int .u16 sp, .int .u16 dp] 27)).alloc (.cells #[.int .u8 (s / 16777216), .int .u8 (s / 65536 % 256), .int .u8 (s / 256 % 256), .int .u8 (s % 256), .int .u8 (d / 16777216), .int .u8 (d / 65536 % 256), .int .u8 (d / 256 % 256), .int .u8 (d % 256), .int .u8 p, .int .u8 (sp / 256), .int .u8 (sp % 256), .int .u8 (dp / 256), .int .u8 (dp % 256)] 39)).alloc (.cells #[.int .u8 (s / 16777216), .int .u8 (s / 65536 % 256), .int .u8 (s / 256 % 256), .int .u8 (s % 256), .int .u8 (d / 16777216), .int .u8 (d / 65536 % 256), .int .u8 (d / 256 % 256), .int .u8 (d % 256), .int .u8 p, .int .u8 (sp / 256), .int .u8 (sp % 256), .int .u8 (dp / 256), .int .u8 (dp % 256)] 39) := by
  obtain ⟨hs0, hs1, hd0, hd1, hp0, hp1, hsp0, hsp1, hdp0, hdp1⟩ := h
  go_enter Tryd.func22, Tryd.ntmps22
  go_wp2
  refine wp_loop_rounds 5 ?_
  rw [rounds_succ]
  go_wp2
  rw [rounds_succ]
  go_wp2
  rw [rounds_succ]
  go_wp2
  rw [rounds_succ]
  go_wp2
  rw [rounds_succ]
  go_wp2
  refine wp_loop_rounds 3 ?_
  rw [rounds_succ]
  go_wp2
  rw [rounds_succ]
  go_wp2
  rw [rounds_succ]
  go_wp2
  exact bodyPost_ret (v := .agg #[.int .u8 (s / 16777216), .int .u8 (s / 65536 % 256), .int .u8 (s / 256 % 256), .int .u8 (s % 256), .int .u8 (d / 16777216), .int .u8 (d / 65536 % 256), .int .u8 (d / 256 % 256), .int .u8 (d % 256), .int .u8 p, .int .u8 (sp / 256), .int .u8 (sp % 256), .int .u8 (dp / 256), .int .u8 (dp % 256)]) (by simp [results, Tryd.results22, go_sem]) rfl ⟨rfl, rfl⟩
theorem bytes_is (s d p sp dp : Int) (w : World) (h : Hdr s d p sp dp) :
    Calls Tryd.prog 22 #[.agg #[.int .u32 s, .int .u32 d, .int .u8 p, .int .u16 sp, .int .u16 dp]] w fun e w' => e = .returned (.agg #[.int .u8 (s / 16777216), .int .u8 (s / 65536 % 256), .int .u8 (s / 256 % 256), .int .u8 (s % 256), .int .u8 (d / 16777216), .int .u8 (d / 65536 % 256), .int .u8 (d / 256 % 256), .int .u8 (d % 256), .int .u8 p, .int .u8 (sp / 256), .int .u8 (sp % 256), .int .u8 (dp / 256), .int .u8 (dp % 256)]) ∧ Below w.heap.size w w' :=
  (bytes_w s d p sp dp w h).mono fun e w' ⟨he, hw⟩ => ⟨he, by rw [hw]; exact (((Below.refl _ _).alloc (Nat.le_refl _) _).alloc (by simp) _).alloc (by simp; omega) _⟩
set_option maxRecDepth 100000 in
set_option maxHeartbeats 4000000 in
theorem of_is (x0 x1 x2 x3 x4 x5 x6 x7 x8 x9 x10 x11 x12 : Int) (w : World) (h0 : 0 ≤ x0 ∧ x0 < 256) (h1 : 0 ≤ x1 ∧ x1 < 256) (h2 : 0 ≤ x2 ∧ x2 < 256) (h3 : 0 ≤ x3 ∧ x3 < 256) (h4 : 0 ≤ x4 ∧ x4 < 256) (h5 : 0 ≤ x5 ∧ x5 < 256) (h6 : 0 ≤ x6 ∧ x6 < 256) (h7 : 0 ≤ x7 ∧ x7 < 256) (h8 : 0 ≤ x8 ∧ x8 < 256) (h9 : 0 ≤ x9 ∧ x9 < 256) (h10 : 0 ≤ x10 ∧ x10 < 256) (h11 : 0 ≤ x11 ∧ x11 < 256) (h12 : 0 ≤ x12 ∧ x12 < 256) :
    Calls Tryd.prog 24 #[.agg #[.int .u8 x0, .int .u8 x1, .int .u8 x2, .int .u8 x3, .int .u8 x4, .int .u8 x5, .int .u8 x6, .int .u8 x7, .int .u8 x8, .int .u8 x9, .int .u8 x10, .int .u8 x11, .int .u8 x12]] w fun e w' => e = .returned (.agg #[.int .u32 (((x0 * 256 + x1) * 256 + x2) * 256 + x3), .int .u32 (((x4 * 256 + x5) * 256 + x6) * 256 + x7), .int .u8 x8, .int .u16 (x9 * 256 + x10), .int .u16 (x11 * 256 + x12)]) ∧ Below w.heap.size w w' := by
  obtain ⟨h0, k0⟩ := h0
  obtain ⟨h1, k1⟩ := h1
  obtain ⟨h2, k2⟩ := h2
  obtain ⟨h3, k3⟩ := h3
  obtain ⟨h4, k4⟩ := h4
  obtain ⟨h5, k5⟩ := h5
  obtain ⟨h6, k6⟩ := h6
  obtain ⟨h7, k7⟩ := h7
  obtain ⟨h8, k8⟩ := h8
  obtain ⟨h9, k9⟩ := h9
  obtain ⟨h10, k10⟩ := h10
  obtain ⟨h11, k11⟩ := h11
  obtain ⟨h12, k12⟩ := h12
  have E0 : bits .or .u32 0 x0 = x0 := or_nought _ h0 (by omega)
  have E1 : bits .or .u32 (x0 * 256) x1 = x0 * 256 + x1 := or8_u32 _ _ h0 (by omega) h1 (by omega)
  have E2 : bits .or .u32 ((x0 * 256 + x1) * 256) x2 = (x0 * 256 + x1) * 256 + x2 := or8_u32 _ _ (by omega) (by omega) h2 (by omega)
  have E3 : bits .or .u32 (((x0 * 256 + x1) * 256 + x2) * 256) x3 = ((x0 * 256 + x1) * 256 + x2) * 256 + x3 := or8_u32 _ _ (by omega) (by omega) h3 (by omega)
  have E4 : bits .or .u32 0 x4 = x4 := or_nought _ h4 (by omega)
  have E5 : bits .or .u32 (x4 * 256) x5 = x4 * 256 + x5 := or8_u32 _ _ h4 (by omega) h5 (by omega)
  have E6 : bits .or .u32 ((x4 * 256 + x5) * 256) x6 = (x4 * 256 + x5) * 256 + x6 := or8_u32 _ _ (by omega) (by omega) h6 (by omega)
  have E7 : bits .or .u32 (((x4 * 256 + x5) * 256 + x6) * 256) x7 = ((x4 * 256 + x5) * 256 + x6) * 256 + x7 := or8_u32 _ _ (by omega) (by omega) h7 (by omega)
  have E8 : bits .or .u16 0 x9 = x9 := or_nought16 _ h9 (by omega)
  have E9 : bits .or .u16 (x9 * 256) x10 = x9 * 256 + x10 := or8_u16 _ _ h9 (by omega) h10 (by omega)
  have E10 : bits .or .u16 0 x11 = x11 := or_nought16 _ h11 (by omega)
  have E11 : bits .or .u16 (x11 * 256) x12 = x11 * 256 + x12 := or8_u16 _ _ h11 (by omega) h12 (by omega)
  go_enter Tryd.func24, Tryd.ntmps24
  go_wp2
  refine wp_loop_rounds 5 ?_
  rw [rounds_succ]
  go_wp2
  go_region
  go_wp2
  go_region
  go_wp2
  rw [rounds_succ]
  go_wp2
  go_region
  go_wp2
  go_region
  go_wp2
  rw [rounds_succ]
  go_wp2
  go_region
  go_wp2
  go_region
  go_wp2
  rw [rounds_succ]
  go_wp2
  go_region
  go_wp2
  go_region
  go_wp2
  rw [rounds_succ]
  go_wp2
  refine wp_loop_rounds 3 ?_
  rw [rounds_succ]
  go_wp2
  go_region
  go_wp2
  go_region
  go_wp2
  rw [rounds_succ]
  go_wp2
  go_region
  go_wp2
  go_region
  go_wp2
  rw [rounds_succ]
  go_wp2
  exact bodyPost_ret (v := .agg #[.int .u32 (((x0 * 256 + x1) * 256 + x2) * 256 + x3), .int .u32 (((x4 * 256 + x5) * 256 + x6) * 256 + x7), .int .u8 x8, .int .u16 (x9 * 256 + x10), .int .u16 (x11 * 256 + x12)]) (by simp [results, Tryd.results24, go_sem]) rfl ⟨rfl, by
    repeat refine Below.drew ?_
    exact (((Below.refl _ _).alloc (Nat.le_refl _) _).alloc (by simp) _).alloc (by simp; omega) _⟩
/-- A byte as a value. -/
def u8V (x : Int) : Value := .int .u8 x
/-- Thirteen bytes. -/
structure B13 (l : List Int) : Prop where
  len : l.length = 13
  lo : ∀ x ∈ l, 0 ≤ x
  hi : ∀ x ∈ l, x < 256
/-- The bytes of a header. -/
def byL (s d p sp dp : Int) : List Int := [s / 16777216, s / 65536 % 256, s / 256 % 256, s % 256, d / 16777216, d / 65536 % 256, d / 256 % 256, d % 256, p, sp / 256, sp % 256, dp / 256, dp % 256]
theorem byL_13 {s d p sp dp : Int} (h : Hdr s d p sp dp) : B13 (byL s d p sp dp) := by
  obtain ⟨hs0, hs1, hd0, hd1, hp0, hp1, hsp0, hsp1, hdp0, hdp1⟩ := h
  refine ⟨rfl, fun x hx => ?_, fun x hx => ?_⟩ <;>
  · simp only [byL, List.mem_cons, List.not_mem_nil, or_false] at hx
    rcases hx with rfl | rfl | rfl | rfl | rfl | rfl | rfl | rfl | rfl | rfl | rfl | rfl | rfl <;> omega
/-- The header of bytes. -/
def ofL (l : List Int) : Value := .agg #[.int .u32 (((l.getD 0 0 * 256 + l.getD 1 0) * 256 + l.getD 2 0) * 256 + l.getD 3 0), .int .u32 (((l.getD 4 0 * 256 + l.getD 5 0) * 256 + l.getD 6 0) * 256 + l.getD 7 0), .int .u8 (l.getD 8 0), .int .u16 (l.getD 9 0 * 256 + l.getD 10 0), .int .u16 (l.getD 11 0 * 256 + l.getD 12 0)]
theorem of_l (l : List Int) (w : World) (h : B13 l) : Calls Tryd.prog 24 #[.agg (l.map u8V).toArray] w fun e w' => e = .returned (ofL l) ∧ Below w.heap.size w w' := by
  obtain ⟨hl, h0, h1⟩ := h
  match l, hl, h0, h1 with
  | [x0, x1, x2, x3, x4, x5, x6, x7, x8, x9, x10, x11, x12], _, h0, h1 =>
    exact of_is x0 x1 x2 x3 x4 x5 x6 x7 x8 x9 x10 x11 x12 w ⟨h0 _ (by simp), h1 _ (by simp)⟩ ⟨h0 _ (by simp), h1 _ (by simp)⟩ ⟨h0 _ (by simp), h1 _ (by simp)⟩ ⟨h0 _ (by simp), h1 _ (by simp)⟩ ⟨h0 _ (by simp), h1 _ (by simp)⟩ ⟨h0 _ (by simp), h1 _ (by simp)⟩ ⟨h0 _ (by simp), h1 _ (by simp)⟩ ⟨h0 _ (by simp), h1 _ (by simp)⟩ ⟨h0 _ (by simp), h1 _ (by simp)⟩ ⟨h0 _ (by simp), h1 _ (by simp)⟩ ⟨h0 _ (by simp), h1 _ (by simp)⟩ ⟨h0 _ (by simp), h1 _ (by simp)⟩ ⟨h0 _ (by simp), h1 _ (by simp)⟩
theorem bytes_l (s d p sp dp : Int) (w : World) (h : Hdr s d p sp dp) :
    Calls Tryd.prog 22 #[.agg #[.int .u32 s, .int .u32 d, .int .u8 p, .int .u16 sp, .int .u16 dp]] w fun e w' => e = .returned (.agg ((byL s d p sp dp).map u8V).toArray) ∧ Below w.heap.size w w' := bytes_is s d p sp dp w h
theorem of_byL {s d p sp dp : Int} (h : Hdr s d p sp dp) : ofL (byL s d p sp dp) = .agg #[.int .u32 s, .int .u32 d, .int .u8 p, .int .u16 sp, .int .u16 dp] := by
  obtain ⟨hs0, hs1, hd0, hd1, hp0, hp1, hsp0, hsp1, hdp0, hdp1⟩ := h
  simp only [ofL, byL, List.getD_cons_zero, List.getD_cons_succ]
  rw [show ((s / 16777216 * 256 + s / 65536 % 256) * 256 + s / 256 % 256) * 256 + s % 256 = s by omega, show ((d / 16777216 * 256 + d / 65536 % 256) * 256 + d / 256 % 256) * 256 + d % 256 = d by omega, show sp / 256 * 256 + sp % 256 = sp by omega, show dp / 256 * 256 + dp % 256 = dp by omega]
end Go.Proofs.YtbmleejeffaciaaDoor
