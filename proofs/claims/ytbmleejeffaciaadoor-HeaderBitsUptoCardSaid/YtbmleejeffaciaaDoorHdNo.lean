/- What Bit and With of package header hand back at a number that is no bit's. No other condition. -/
import Derived.Test.YtbmleejeffaciaaDoorHdK
namespace Go.Proofs.YtbmleejeffaciaaDoor
open Go.RowKit
set_option maxRecDepth 100000 in
theorem bit_no (s d p sp dp i : Int) (hi : i < 0 ∨ 104 ≤ i) (w : World) :
    Calls Tryd.prog 12 #[.agg #[.int .u32 s, .int .u32 d, .int .u8 p, .int .u16 sp, .int .u16 dp], .int .i64 i] w fun e w' => e = .returned (.tuple #[.bool false, .int .i64 1]) ∧ Below w.heap.size w w' := by
  by_cases h0 : i < 0
  · clear hi
    go_enter Tryd.func12, Tryd.ntmps12
    go_wp2
    go_ret2
    exact ⟨rfl, (Below.refl _ _).alloc (Nat.le_refl _) _⟩
  · have h1 : 104 ≤ i := by omega
    have h2 : ¬ i < 104 := by omega
    clear hi
    go_enter Tryd.func12, Tryd.ntmps12
    go_wp2
    go_ret2
    exact ⟨rfl, (Below.refl _ _).alloc (Nat.le_refl _) _⟩
set_option maxRecDepth 100000 in
theorem with_no (s d p sp dp i : Int) (b : Bool) (hi : i < 0 ∨ 104 ≤ i) (w : World) :
    Calls Tryd.prog 8 #[.agg #[.int .u32 s, .int .u32 d, .int .u8 p, .int .u16 sp, .int .u16 dp], .int .i64 i, .bool b] w fun e w' => e = .returned (.tuple #[.agg #[.int .u32 0, .int .u32 0, .int .u8 0, .int .u16 0, .int .u16 0], .int .i64 1]) ∧ Below w.heap.size w w' := by
  by_cases h0 : i < 0
  · clear hi
    go_enter Tryd.func8, Tryd.ntmps8
    go_wp2
    exact bodyPost_ret (v := .tuple #[.agg #[.int .u32 0, .int .u32 0, .int .u8 0, .int .u16 0, .int .u16 0], .int .i64 1]) (by simp [results, Tryd.results8, go_sem]) rfl ⟨rfl, by
      repeat refine Below.setCell ?_ (by simp) _
      exact ((Below.refl _ _).alloc (Nat.le_refl _) _).alloc (by simp) _⟩
  · have h1 : 104 ≤ i := by omega
    have h2 : ¬ i < 104 := by omega
    clear hi
    go_enter Tryd.func8, Tryd.ntmps8
    go_wp2
    exact bodyPost_ret (v := .tuple #[.agg #[.int .u32 0, .int .u32 0, .int .u8 0, .int .u16 0, .int .u16 0], .int .i64 1]) (by simp [results, Tryd.results8, go_sem]) rfl ⟨rfl, by
      repeat refine Below.setCell ?_ (by simp) _
      exact ((Below.refl _ _).alloc (Nat.le_refl _) _).alloc (by simp) _⟩
end Go.Proofs.YtbmleejeffaciaaDoor
