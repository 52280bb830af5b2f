/- What compares numbers, texts, flags, prefixes and routes, field by field. No condition. -/
import Derived.Test.YtmbkkjofikijiaaGreatDoorKit
import Derived.Test.YtmbkkjofikijiaaGreatDoorRows
import Derived.Deep.DeepCutAuto
namespace Go.Proofs.YtmbkkjofikijiaaGreatDoor
open Go.RowKit
/-- -1, 0, 1: below, the same, above. -/
def cI (x y : Int) : Int := if x < y then -1 else if y < x then 1 else 0
def cS (x y : ByteArray) : Int := if Op.bytesLess x.toList y.toList = true then -1 else if (x.toList == y.toList) = true then 0 else 1
def cB (x y : Bool) : Int := if x = y then 0 else if y = true then -1 else 1
/-- A route. -/
structure RtD where
  a : Int
  b : Int
  fr : Int
  di : Int
  me : Int
  ta : Int
  nm : ByteArray
  ho : Int
  dc : Bool
def encRt (r : RtD) : List Value := [.int .u32 r.a, .int .i64 r.b, .int .u8 r.fr, .int .i64 r.di, .int .i64 r.me, .int .i64 r.ta, .string r.nm, .int .u32 r.ho, .bool r.dc]
theorem nani (x : Int) (w : World) : Calls Tryz.prog 133 #[.int .i64 x] w fun e w' => e = .returned (.bool false) ∧ w = w' := by
  go_enter Tryz.func133, Tryz.ntmps133
  go_wp2
  go_ret
  exact ⟨ret_bool (by simp), rfl⟩
set_option maxHeartbeats 400000 in
theorem cmpi (x y : Int) (w : World) : Calls Tryz.prog 83 #[.int .i64 x, .int .i64 y] w fun e w' => e = .returned (.int .i64 (cI x y)) ∧ w = w' := by
  by_cases h1 : x < y
  · go_enter Tryz.func83, Tryz.ntmps83
    go_wp2_with (go_at_call 133; refine (nani _ _).mono ?_; rintro e w' ⟨rfl, rfl⟩)
    go_ret
    exact ⟨ret_int (by simp [cI, h1]), rfl⟩
  · by_cases h2 : y < x
    · go_enter Tryz.func83, Tryz.ntmps83
      go_wp2_with (go_at_call 133; refine (nani _ _).mono ?_; rintro e w' ⟨rfl, rfl⟩)
      go_ret
      exact ⟨ret_int (by simp [cI, h1, h2]), rfl⟩
    · go_enter Tryz.func83, Tryz.ntmps83
      go_wp2_with (go_at_call 133; refine (nani _ _).mono ?_; rintro e w' ⟨rfl, rfl⟩)
      go_ret
      exact ⟨ret_int (by unfold cI; rw [if_neg (by omega), if_neg (by omega)]), rfl⟩
theorem nana (x : Int) (w : World) : Calls Tryz.prog 134 #[.int .u32 x] w fun e w' => e = .returned (.bool false) ∧ w = w' := by
  go_enter Tryz.func134, Tryz.ntmps134
  go_wp2
  go_ret
  exact ⟨ret_bool (by simp), rfl⟩
set_option maxHeartbeats 400000 in
theorem cmpa (x y : Int) (w : World) : Calls Tryz.prog 87 #[.int .u32 x, .int .u32 y] w fun e w' => e = .returned (.int .i64 (cI x y)) ∧ w = w' := by
  by_cases h1 : x < y
  · go_enter Tryz.func87, Tryz.ntmps87
    go_wp2_with (go_at_call 134; refine (nana _ _).mono ?_; rintro e w' ⟨rfl, rfl⟩)
    go_ret
    exact ⟨ret_int (by simp [cI, h1]), rfl⟩
  · by_cases h2 : y < x
    · go_enter Tryz.func87, Tryz.ntmps87
      go_wp2_with (go_at_call 134; refine (nana _ _).mono ?_; rintro e w' ⟨rfl, rfl⟩)
      go_ret
      exact ⟨ret_int (by simp [cI, h1, h2]), rfl⟩
    · go_enter Tryz.func87, Tryz.ntmps87
      go_wp2_with (go_at_call 134; refine (nana _ _).mono ?_; rintro e w' ⟨rfl, rfl⟩)
      go_ret
      exact ⟨ret_int (by unfold cI; rw [if_neg (by omega), if_neg (by omega)]), rfl⟩
theorem flags (x y : Bool) (w : World) : Calls Tryz.prog 91 #[.bool x, .bool y] w fun e w' => e = .returned (.int .i64 (cB x y)) ∧ w = w' := by
  cases x <;> cases y
  all_goals
    go_enter Tryz.func91, Tryz.ntmps91
    go_wp2
    go_ret
    exact ⟨rfl, rfl⟩
/-- Prefixes: by address, then by bits. -/
def cP (a b c d : Int) : Int := if cI a c = 0 then cI b d else cI a c
theorem prefs (a b c d : Int) (w : World) : Calls Tryz.prog 81 #[.agg #[.int .u32 a, .int .i64 b], .agg #[.int .u32 c, .int .i64 d]] w fun e w' => e = .returned (.int .i64 (cP a b c d)) ∧ Below w.heap.size w w' := by
  have H1 := Lib.hid fun W => cmpa a c W
  have H2 := Lib.hid fun W => cmpi b d W
  unfold cP
  by_cases h : cI a c = 0
  · rw [if_pos h]
    rw [h] at H1
    go_enter Tryz.func81, Tryz.ntmps81
    go_wp2_with (first | (go_at_call 87; refine (H1.out _).mono ?_; rintro e w' ⟨rfl, rfl⟩) | (go_at_call 83; refine (H2.out _).mono ?_; rintro e w' ⟨rfl, rfl⟩))
    go_ret
    exact ⟨rfl, ((Below.refl _ _).alloc (Nat.le_refl _) _).alloc (by simp) _⟩
  · rw [if_neg h]
    obtain ⟨k, hk⟩ : ∃ k, cI a c = k := ⟨_, rfl⟩
    rw [hk] at H1 h ⊢
    have e1 : (k != 0) = true := by simpa using h
    have e2 : (k == 0) = false := by simpa using h
    clear hk
    go_enter Tryz.func81, Tryz.ntmps81
    go_wp2_with (first | (go_at_call 87; refine (H1.out _).mono ?_; rintro e w' ⟨rfl, rfl⟩) | (go_at_call 83; refine (H2.out _).mono ?_; rintro e w' ⟨rfl, rfl⟩))
    go_ret
    exact ⟨rfl, ((Below.refl _ _).alloc (Nat.le_refl _) _).alloc (by simp) _⟩
/-- The eight orders. -/
def ords (r s : RtD) : List Int := [cP r.a r.b s.a s.b, cI r.fr s.fr, cI r.di s.di, cI r.me s.me, cI r.ta s.ta, cI r.ho s.ho, cS r.nm s.nm, cB r.dc s.dc]
end Go.Proofs.YtmbkkjofikijiaaGreatDoor
