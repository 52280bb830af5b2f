/- What Permits of package filter and of waymarkref10 does, and Rules. No condition but that what is handed in is of its kind. -/
import Derived.Test.YtgggmhaopcgkkaaGreatDoorFlE
namespace Go.Proofs.YtgggmhaopcgkkaaGreatDoor
open Go.RowKit
theorem ret_bi {k : IntKind} {a b : Bool} {c d : Int} (h : a = b) (h2 : c = d) : Ending.returned (.tuple #[.bool a, .int k c]) = .returned (.tuple #[.bool b, .int k d]) := by rw [h, h2]
set_option maxHeartbeats 1000000 in
theorem permits_ok (nm : ByteArray) (v : Value) (l : List RuleD) (h : HdrD) (w : World) (hr : RdR w v l) (hh : h.ok) (hck : ckF l = 0) : Calls Tryz.prog 11 #[.agg #[.string nm, v], vH h] w fun e w' => e = .returned (.tuple #[.bool (prmB l h), .int .i64 0]) ∧ Below w.heap.size w w' := by
  obtain ⟨p, c, rfl, hlc, hcm, hp⟩ := hr.rd.sl
  have HP := Lib.hid hp
  unfold maxLen at hcm
  obtain ⟨src, dst, pr, sp, dp⟩ := h
  show Calls _ _ #[_, .agg #[.int .u32 src, .int .u32 dst, .int .u8 pr, .int .u16 sp, .int .u16 dp]] _ _
  have hb0 : Below w.heap.size w ((w.alloc (.cells #[.string nm, .slice p l.length c] 39)).alloc (.cells #[.int .u32 src, .int .u32 dst, .int .u8 pr, .int .u16 sp, .int .u16 dp] 48)) := ((Below.refl _ _).alloc (Nat.le_refl _) _).alloc (by simp) _
  have HB0 := Lib.hid hb0
  obtain ⟨z, hz⟩ : ∃ z, decI l ⟨src, dst, pr, sp, dp⟩ = z := ⟨_, rfl⟩
  have hcall : Calls Tryz.prog 12 #[.agg #[.string nm, .slice p l.length c], .agg #[.int .u32 src, .int .u32 dst, .int .u8 pr, .int .u16 sp, .int .u16 dp]] ((w.alloc (.cells #[.string nm, .slice p l.length c] 39)).alloc (.cells #[.int .u32 src, .int .u32 dst, .int .u8 pr, .int .u16 sp, .int .u16 dp] 48)) fun e w' => e = .returned (.tuple #[.int .i64 (z), .int .i64 0]) ∧ Below ((w.alloc (.cells #[.string nm, .slice p l.length c] 39)).alloc (.cells #[.int .u32 src, .int .u32 dst, .int .u8 pr, .int .u16 sp, .int .u16 dp] 48)).heap.size ((w.alloc (.cells #[.string nm, .slice p l.length c] 39)).alloc (.cells #[.int .u32 src, .int .u32 dst, .int .u8 pr, .int .u16 sp, .int .u16 dp] 48)) w' := by
    rw [← hz]; exact decides_ok nm _ l _ _ (hr.below hb0) hh hck
  have HC := Lib.hid hcall
  clear hcall hb0 hr hp
  cases hd : decO l ⟨src, dst, pr, sp, dp⟩ with
  | none =>
    rw [decI_none hd] at hz
    have HD := Lib.hid (prmB_none hd)
    subst hz
    clear hd
    go_enter Tryz.func11, Tryz.ntmps11
    go_wp2_with (go_at_call 12; (with_reducible refine HC.out.mono ?_); rintro e w1 ⟨rfl, hb1⟩; obtain ⟨hc1, hf1⟩ := bcell hb1; have HB1 := Lib.hid hb1; clear hb1)
    go_ret2
    exact ⟨ret_bi HD.out.symm rfl, Below.step HB0.out HB1.out⟩
  | some k =>
    rw [decI_some hd] at hz
    obtain ⟨s, hs⟩ := decO_lt hd
    have HD := Lib.hid (prmB_some hd hs)
    have hk := (List.getElem?_eq_some_iff.1 hs).1
    obtain ⟨b, o, rfl, hbs, hc⟩ := HP.out k s hs
    have e1 : (0 : Int) ≤ (k : Int) := by omega
    have e2 : (k : Int) < (l.length : Int) := by omega
    subst hz
    have HX : Hid (∀ w', Below w.heap.size w w' → w'.cell? ⟨b, o + k * 10, none⟩ = some (.bool s.perm)) := Lib.hid fun w' hb => hc w' hb 0 _ rfl
    obtain ⟨q, hq⟩ : ∃ q, s.perm = q := ⟨_, rfl⟩
    rw [hq] at HD HX
    clear hd hs hc hq
    go_enter Tryz.func11, Tryz.ntmps11
    go_wp2_with (go_at_call 12; (with_reducible refine HC.out.mono ?_); rintro e w1 ⟨rfl, hb1⟩; obtain ⟨hc1, hf1⟩ := bcell hb1; have hx1 := HX.out w1 (Below.step HB0.out hb1); have HB1 := Lib.hid hb1; clear hb1)
    go_ret2
    exact ⟨ret_bi HD.out.symm rfl, Below.step HB0.out HB1.out⟩
set_option maxHeartbeats 1000000 in
theorem permits_no (nm : ByteArray) (v : Value) (l : List RuleD) (h : HdrD) (w : World) (c0 : Int) (hr : RdR w v l) (hck : ckF l = c0) (hne : c0 ≠ 0) : Calls Tryz.prog 11 #[.agg #[.string nm, v], vH h] w fun e w' => e = .returned (.tuple #[.bool false, .int .i64 c0]) ∧ Below w.heap.size w w' := by
  obtain ⟨p, c, rfl, hlc, hcm, hp⟩ := hr.rd.sl
  obtain ⟨src, dst, pr, sp, dp⟩ := h
  show Calls _ _ #[_, .agg #[.int .u32 src, .int .u32 dst, .int .u8 pr, .int .u16 sp, .int .u16 dp]] _ _
  have hb0 : Below w.heap.size w ((w.alloc (.cells #[.string nm, .slice p l.length c] 39)).alloc (.cells #[.int .u32 src, .int .u32 dst, .int .u8 pr, .int .u16 sp, .int .u16 dp] 48)) := ((Below.refl _ _).alloc (Nat.le_refl _) _).alloc (by simp) _
  have HB0 := Lib.hid hb0
  have HCH := Lib.hid (decides_no nm _ l ⟨src, dst, pr, sp, dp⟩ _ c0 (hr.below hb0) hck hne)
  have hne2 : (c0 == 0) = false := by simpa using hne
  clear hck hp hr hne hb0
  have hcall : Calls Tryz.prog 12 #[.agg #[.string nm, .slice p l.length c], .agg #[.int .u32 src, .int .u32 dst, .int .u8 pr, .int .u16 sp, .int .u16 dp]] ((w.alloc (.cells #[.string nm, .slice p l.length c] 39)).alloc (.cells #[.int .u32 src, .int .u32 dst, .int .u8 pr, .int .u16 sp, .int .u16 dp] 48)) fun e w' => e = .returned (.tuple #[.int .i64 0, .int .i64 c0]) ∧ Below ((w.alloc (.cells #[.string nm, .slice p l.length c] 39)).alloc (.cells #[.int .u32 src, .int .u32 dst, .int .u8 pr, .int .u16 sp, .int .u16 dp] 48)).heap.size ((w.alloc (.cells #[.string nm, .slice p l.length c] 39)).alloc (.cells #[.int .u32 src, .int .u32 dst, .int .u8 pr, .int .u16 sp, .int .u16 dp] 48)) w' := HCH.out
  have HC := Lib.hid hcall
  clear hcall
  go_enter Tryz.func11, Tryz.ntmps11
  go_wp2_with (go_at_call 12; (with_reducible refine HC.out.mono ?_); rintro e w1 ⟨rfl, hb1⟩; obtain ⟨hc1, hf1⟩ := bcell hb1; have HB1 := Lib.hid hb1; clear hb1)
  go_ret2
  exact ⟨rfl, Below.step HB0.out HB1.out⟩
end Go.Proofs.YtgggmhaopcgkkaaGreatDoor
