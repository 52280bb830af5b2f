/- What compares numbers, texts, flags, prefixes and routes, field by field. No condition. -/
import Derived.Test.YtgpoeeccgpjnlaaGreatDoorKit
import Derived.Test.YtgpoeeccgpjnlaaGreatDoorRows
import Derived.Deep.DeepCutAuto
namespace Go.Proofs.YtgpoeeccgpjnlaaGreatDoor
open Go.RowKit
/-- -1, 0, 1: below, the same, above. -/
def cI (x y : Int) : Int := if x < y then -1 else if y < x then 1 else 0
def cS (x y : ByteArray) : Int := if Op.bytesLess x.toList y.toList = true then -1 else if (x.toList == y.toList) = true then 0 else 1
def cB (x y : Bool) : Int := if x = y then 0 else if y = true then -1 else 1
/-- A route. -/
structure RtD where
  a : Int
  b : Int
  fr : Int
  di : Int
  me : Int
  ta : Int
  nm : ByteArray
  ho : Int
  dc : Bool
def encRt (r : RtD) : List Value := [.int .u32 r.a, .int .i64 r.b, .int .u8 r.fr, .int .i64 r.di, .int .i64 r.me, .int .i64 r.ta, .string r.nm, .int .u32 r.ho, .bool r.dc]
theorem nan8 (x : Int) (w : World) : Calls Tryz.prog 66 #[.int .u8 x] w fun e w' => e = .returned (.bool false) ∧ w = w' := by
  go_enter Tryz.func66, Tryz.ntmps66
  go_wp2
  go_ret
  exact ⟨ret_bool (by simp), rfl⟩
set_option maxHeartbeats 400000 in
theorem cmp8 (x y : Int) (w : World) : Calls Tryz.prog 24 #[.int .u8 x, .int .u8 y] w fun e w' => e = .returned (.int .i64 (cI x y)) ∧ w = w' := by
  by_cases h1 : x < y
  · go_enter Tryz.func24, Tryz.ntmps24
    go_wp2_with (go_at_call 66; refine (nan8 _ _).mono ?_; rintro e w' ⟨rfl, rfl⟩)
    go_ret
    exact ⟨ret_int (by simp [cI, h1]), rfl⟩
  · by_cases h2 : y < x
    · go_enter Tryz.func24, Tryz.ntmps24
      go_wp2_with (go_at_call 66; refine (nan8 _ _).mono ?_; rintro e w' ⟨rfl, rfl⟩)
      go_ret
      exact ⟨ret_int (by simp [cI, h1, h2]), rfl⟩
    · go_enter Tryz.func24, Tryz.ntmps24
      go_wp2_with (go_at_call 66; refine (nan8 _ _).mono ?_; rintro e w' ⟨rfl, rfl⟩)
      go_ret
      exact ⟨ret_int (by unfold cI; rw [if_neg (by omega), if_neg (by omega)]), rfl⟩
theorem nani (x : Int) (w : World) : Calls Tryz.prog 67 #[.int .i64 x] w fun e w' => e = .returned (.bool false) ∧ w = w' := by
  go_enter Tryz.func67, Tryz.ntmps67
  go_wp2
  go_ret
  exact ⟨ret_bool (by simp), rfl⟩
set_option maxHeartbeats 400000 in
theorem cmpi (x y : Int) (w : World) : Calls Tryz.prog 26 #[.int .i64 x, .int .i64 y] w fun e w' => e = .returned (.int .i64 (cI x y)) ∧ w = w' := by
  by_cases h1 : x < y
  · go_enter Tryz.func26, Tryz.ntmps26
    go_wp2_with (go_at_call 67; refine (nani _ _).mono ?_; rintro e w' ⟨rfl, rfl⟩)
    go_ret
    exact ⟨ret_int (by simp [cI, h1]), rfl⟩
  · by_cases h2 : y < x
    · go_enter Tryz.func26, Tryz.ntmps26
      go_wp2_with (go_at_call 67; refine (nani _ _).mono ?_; rintro e w' ⟨rfl, rfl⟩)
      go_ret
      exact ⟨ret_int (by simp [cI, h1, h2]), rfl⟩
    · go_enter Tryz.func26, Tryz.ntmps26
      go_wp2_with (go_at_call 67; refine (nani _ _).mono ?_; rintro e w' ⟨rfl, rfl⟩)
      go_ret
      exact ⟨ret_int (by unfold cI; rw [if_neg (by omega), if_neg (by omega)]), rfl⟩
theorem nana (x : Int) (w : World) : Calls Tryz.prog 68 #[.int .u32 x] w fun e w' => e = .returned (.bool false) ∧ w = w' := by
  go_enter Tryz.func68, Tryz.ntmps68
  go_wp2
  go_ret
  exact ⟨ret_bool (by simp), rfl⟩
set_option maxHeartbeats 400000 in
theorem cmpa (x y : Int) (w : World) : Calls Tryz.prog 30 #[.int .u32 x, .int .u32 y] w fun e w' => e = .returned (.int .i64 (cI x y)) ∧ w = w' := by
  by_cases h1 : x < y
  · go_enter Tryz.func30, Tryz.ntmps30
    go_wp2_with (go_at_call 68; refine (nana _ _).mono ?_; rintro e w' ⟨rfl, rfl⟩)
    go_ret
    exact ⟨ret_int (by simp [cI, h1]), rfl⟩
  · by_cases h2 : y < x
    · go_enter Tryz.func30, Tryz.ntmps30
      go_wp2_with (go_at_call 68; refine (nana _ _).mono ?_; rintro e w' ⟨rfl, rfl⟩)
      go_ret
      exact ⟨ret_int (by simp [cI, h1, h2]), rfl⟩
    · go_enter Tryz.func30, Tryz.ntmps30
      go_wp2_with (go_at_call 68; refine (nana _ _).mono ?_; rintro e w' ⟨rfl, rfl⟩)
      go_ret
      exact ⟨ret_int (by unfold cI; rw [if_neg (by omega), if_neg (by omega)]), rfl⟩
theorem nans (x : ByteArray) (w : World) : Calls Tryz.prog 69 #[.string x] w fun e w' => e = .returned (.bool false) ∧ w = w' := by
  go_enter Tryz.func69, Tryz.ntmps69
  go_wp2
  go_ret
  exact ⟨ret_bool (by simp), rfl⟩
theorem cmps (x y : ByteArray) (w : World) : Calls Tryz.prog 32 #[.string x, .string y] w fun e w' => e = .returned (.int .i64 (cS x y)) ∧ w = w' := by
  unfold cS
  obtain ⟨b1, h1⟩ : ∃ b, Op.bytesLess x.toList y.toList = b := ⟨_, rfl⟩
  obtain ⟨b2, h2⟩ : ∃ b, (x.toList == y.toList) = b := ⟨_, rfl⟩
  cases b1 <;> cases b2
  all_goals
    rw [h1]
    try rw [h2]
    go_enter Tryz.func32, Tryz.ntmps32
    go_wp2_with (go_at_call 69; refine (nans _ _).mono ?_; rintro e w' ⟨rfl, rfl⟩)
    go_ret
    exact ⟨rfl, rfl⟩
theorem flags (x y : Bool) (w : World) : Calls Tryz.prog 34 #[.bool x, .bool y] w fun e w' => e = .returned (.int .i64 (cB x y)) ∧ w = w' := by
  cases x <;> cases y
  all_goals
    go_enter Tryz.func34, Tryz.ntmps34
    go_wp2
    go_ret
    exact ⟨rfl, rfl⟩
/-- Prefixes: by address, then by bits. -/
def cP (a b c d : Int) : Int := if cI a c = 0 then cI b d else cI a c
theorem prefs (a b c d : Int) (w : World) : Calls Tryz.prog 22 #[.agg #[.int .u32 a, .int .i64 b], .agg #[.int .u32 c, .int .i64 d]] w fun e w' => e = .returned (.int .i64 (cP a b c d)) ∧ Below w.heap.size w w' := by
  have H1 := Lib.hid fun W => cmpa a c W
  have H2 := Lib.hid fun W => cmpi b d W
  unfold cP
  by_cases h : cI a c = 0
  · rw [if_pos h]
    rw [h] at H1
    go_enter Tryz.func22, Tryz.ntmps22
    go_wp2_with (first | (go_at_call 30; refine (H1.out _).mono ?_; rintro e w' ⟨rfl, rfl⟩) | (go_at_call 26; refine (H2.out _).mono ?_; rintro e w' ⟨rfl, rfl⟩))
    go_ret
    exact ⟨rfl, ((Below.refl _ _).alloc (Nat.le_refl _) _).alloc (by simp) _⟩
  · rw [if_neg h]
    obtain ⟨k, hk⟩ : ∃ k, cI a c = k := ⟨_, rfl⟩
    rw [hk] at H1 h ⊢
    have e1 : (k != 0) = true := by simpa using h
    have e2 : (k == 0) = false := by simpa using h
    clear hk
    go_enter Tryz.func22, Tryz.ntmps22
    go_wp2_with (first | (go_at_call 30; refine (H1.out _).mono ?_; rintro e w' ⟨rfl, rfl⟩) | (go_at_call 26; refine (H2.out _).mono ?_; rintro e w' ⟨rfl, rfl⟩))
    go_ret
    exact ⟨rfl, ((Below.refl _ _).alloc (Nat.le_refl _) _).alloc (by simp) _⟩
/-- The eight orders. -/
def ords (r s : RtD) : List Int := [cP r.a r.b s.a s.b, cI r.fr s.fr, cI r.di s.di, cI r.me s.me, cI r.ta s.ta, cI r.ho s.ho, cS r.nm s.nm, cB r.dc s.dc]
theorem ord1 (r s : RtD) (w : World) : Calls Tryz.prog 21 #[.agg (encRt r).toArray, .agg (encRt s).toArray] w fun e w' => e = .returned (.int .i64 (cP r.a r.b s.a s.b)) ∧ Below w.heap.size w w' := by
  obtain ⟨a, b, fr, di, me, ta, nm, ho, dc⟩ := r
  obtain ⟨a2, b2, fr2, di2, me2, ta2, nm2, ho2, dc2⟩ := s
  simp only [encRt]
  go_enter Tryz.func21, Tryz.ntmps21
  go_wp2_with fail
  go_at_call 22
  refine (prefs _ _ _ _ _).mono ?_
  rintro e w' ⟨rfl, hb⟩
  go_wp2
  go_ret
  exact ⟨rfl, Below.step (((Below.refl _ _).alloc (Nat.le_refl _) _).alloc (by simp) _) hb⟩
theorem ord2 (r s : RtD) (w : World) : Calls Tryz.prog 23 #[.agg (encRt r).toArray, .agg (encRt s).toArray] w fun e w' => e = .returned (.int .i64 (cI r.fr s.fr)) ∧ Below w.heap.size w w' := by
  obtain ⟨a, b, fr, di, me, ta, nm, ho, dc⟩ := r
  obtain ⟨a2, b2, fr2, di2, me2, ta2, nm2, ho2, dc2⟩ := s
  simp only [encRt]
  go_enter Tryz.func23, Tryz.ntmps23
  go_wp2_with fail
  go_at_call 24
  refine (cmp8 _ _ _).mono ?_
  rintro e w' ⟨rfl, rfl⟩
  go_wp2
  go_ret
  exact ⟨rfl, ((Below.refl _ _).alloc (Nat.le_refl _) _).alloc (by simp) _⟩
theorem ord3 (r s : RtD) (w : World) : Calls Tryz.prog 25 #[.agg (encRt r).toArray, .agg (encRt s).toArray] w fun e w' => e = .returned (.int .i64 (cI r.di s.di)) ∧ Below w.heap.size w w' := by
  obtain ⟨a, b, fr, di, me, ta, nm, ho, dc⟩ := r
  obtain ⟨a2, b2, fr2, di2, me2, ta2, nm2, ho2, dc2⟩ := s
  simp only [encRt]
  go_enter Tryz.func25, Tryz.ntmps25
  go_wp2_with fail
  go_at_call 26
  refine (cmpi _ _ _).mono ?_
  rintro e w' ⟨rfl, rfl⟩
  go_wp2
  go_ret
  exact ⟨rfl, ((Below.refl _ _).alloc (Nat.le_refl _) _).alloc (by simp) _⟩
theorem ord4 (r s : RtD) (w : World) : Calls Tryz.prog 27 #[.agg (encRt r).toArray, .agg (encRt s).toArray] w fun e w' => e = .returned (.int .i64 (cI r.me s.me)) ∧ Below w.heap.size w w' := by
  obtain ⟨a, b, fr, di, me, ta, nm, ho, dc⟩ := r
  obtain ⟨a2, b2, fr2, di2, me2, ta2, nm2, ho2, dc2⟩ := s
  simp only [encRt]
  go_enter Tryz.func27, Tryz.ntmps27
  go_wp2_with fail
  go_at_call 26
  refine (cmpi _ _ _).mono ?_
  rintro e w' ⟨rfl, rfl⟩
  go_wp2
  go_ret
  exact ⟨rfl, ((Below.refl _ _).alloc (Nat.le_refl _) _).alloc (by simp) _⟩
theorem ord5 (r s : RtD) (w : World) : Calls Tryz.prog 28 #[.agg (encRt r).toArray, .agg (encRt s).toArray] w fun e w' => e = .returned (.int .i64 (cI r.ta s.ta)) ∧ Below w.heap.size w w' := by
  obtain ⟨a, b, fr, di, me, ta, nm, ho, dc⟩ := r
  obtain ⟨a2, b2, fr2, di2, me2, ta2, nm2, ho2, dc2⟩ := s
  simp only [encRt]
  go_enter Tryz.func28, Tryz.ntmps28
  go_wp2_with fail
  go_at_call 26
  refine (cmpi _ _ _).mono ?_
  rintro e w' ⟨rfl, rfl⟩
  go_wp2
  go_ret
  exact ⟨rfl, ((Below.refl _ _).alloc (Nat.le_refl _) _).alloc (by simp) _⟩
theorem ord6 (r s : RtD) (w : World) : Calls Tryz.prog 29 #[.agg (encRt r).toArray, .agg (encRt s).toArray] w fun e w' => e = .returned (.int .i64 (cI r.ho s.ho)) ∧ Below w.heap.size w w' := by
  obtain ⟨a, b, fr, di, me, ta, nm, ho, dc⟩ := r
  obtain ⟨a2, b2, fr2, di2, me2, ta2, nm2, ho2, dc2⟩ := s
  simp only [encRt]
  go_enter Tryz.func29, Tryz.ntmps29
  go_wp2_with fail
  go_at_call 30
  refine (cmpa _ _ _).mono ?_
  rintro e w' ⟨rfl, rfl⟩
  go_wp2
  go_ret
  exact ⟨rfl, ((Below.refl _ _).alloc (Nat.le_refl _) _).alloc (by simp) _⟩
theorem ord7 (r s : RtD) (w : World) : Calls Tryz.prog 31 #[.agg (encRt r).toArray, .agg (encRt s).toArray] w fun e w' => e = .returned (.int .i64 (cS r.nm s.nm)) ∧ Below w.heap.size w w' := by
  obtain ⟨a, b, fr, di, me, ta, nm, ho, dc⟩ := r
  obtain ⟨a2, b2, fr2, di2, me2, ta2, nm2, ho2, dc2⟩ := s
  simp only [encRt]
  go_enter Tryz.func31, Tryz.ntmps31
  go_wp2_with fail
  go_at_call 32
  refine (cmps _ _ _).mono ?_
  rintro e w' ⟨rfl, rfl⟩
  go_wp2
  go_ret
  exact ⟨rfl, ((Below.refl _ _).alloc (Nat.le_refl _) _).alloc (by simp) _⟩
theorem ord8 (r s : RtD) (w : World) : Calls Tryz.prog 33 #[.agg (encRt r).toArray, .agg (encRt s).toArray] w fun e w' => e = .returned (.int .i64 (cB r.dc s.dc)) ∧ Below w.heap.size w w' := by
  obtain ⟨a, b, fr, di, me, ta, nm, ho, dc⟩ := r
  obtain ⟨a2, b2, fr2, di2, me2, ta2, nm2, ho2, dc2⟩ := s
  simp only [encRt]
  go_enter Tryz.func33, Tryz.ntmps33
  go_wp2_with fail
  go_at_call 34
  refine (flags _ _ _).mono ?_
  rintro e w' ⟨rfl, rfl⟩
  go_wp2
  go_ret
  exact ⟨rfl, ((Below.refl _ _).alloc (Nat.le_refl _) _).alloc (by simp) _⟩
end Go.Proofs.YtgpoeeccgpjnlaaGreatDoor
