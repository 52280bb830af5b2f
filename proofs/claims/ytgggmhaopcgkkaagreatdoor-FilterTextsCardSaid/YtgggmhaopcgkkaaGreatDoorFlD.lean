/- What Decides and Permits of package filter and of waymarkref10 do. No condition but that what is handed in is of its kind. -/
import Derived.Test.YtgggmhaopcgkkaaGreatDoorFlC
import Derived.Test.YtgggmhaopcgkkaaGreatDoorFlB
import Derived.Test.YtgggmhaopcgkkaaGreatDoorFlR
namespace Go.Proofs.YtgggmhaopcgkkaaGreatDoor
open Go.RowKit
/-- Which rule decides. -/
def decO (l : List RuleD) (h : HdrD) : Option Nat := l.findIdx? (fun r => fitB r h)
def decI (l : List RuleD) (h : HdrD) : Int := match decO l h with | some i => (i : Int) | none => -1
/-- Is a header permitted? -/
def prmB (l : List RuleD) (h : HdrD) : Bool := match decO l h with | some i => (match l[i]? with | some r => r.perm | none => false) | none => false
theorem decO_some {l : List RuleD} {h : HdrD} {k : Nat} {s : RuleD} (hs : l[k]? = some s) (hf : fitB s h = true) (ha : ∀ (i : Nat) (s : RuleD), i < k → l[i]? = some s → fitB s h = false) : decO l h = some k := by
  unfold decO
  rw [List.findIdx?_eq_some_iff_getElem]
  obtain ⟨hk, e⟩ := List.getElem?_eq_some_iff.1 hs
  refine ⟨hk, by rw [e]; exact hf, fun j hj => ?_⟩
  have := ha j _ hj (List.getElem?_eq_getElem (by omega))
  rw [this]; simp
theorem decO_none {l : List RuleD} {h : HdrD} (ha : ∀ (i : Nat) (s : RuleD), l[i]? = some s → fitB s h = false) : decO l h = none := by
  unfold decO
  rw [List.findIdx?_eq_none_iff]
  intro s hs
  obtain ⟨i, hi, e⟩ := List.mem_iff_getElem.1 hs
  exact ha i s (by rw [List.getElem?_eq_getElem hi, e])
theorem decO_lt {l : List RuleD} {h : HdrD} {k : Nat} (e : decO l h = some k) : ∃ s, l[k]? = some s := by
  unfold decO at e
  rw [List.findIdx?_eq_some_iff_getElem] at e
  obtain ⟨hk, _⟩ := e
  exact ⟨_, List.getElem?_eq_getElem hk⟩
theorem decI_some {l : List RuleD} {h : HdrD} {k : Nat} (e : decO l h = some k) : decI l h = k := by unfold decI; rw [e]
theorem decI_none {l : List RuleD} {h : HdrD} (e : decO l h = none) : decI l h = -1 := by unfold decI; rw [e]
theorem prmB_some {l : List RuleD} {h : HdrD} {k : Nat} {s : RuleD} (e : decO l h = some k) (hs : l[k]? = some s) : prmB l h = s.perm := by unfold prmB; rw [e]; simp only; rw [hs]
theorem prmB_none {l : List RuleD} {h : HdrD} (e : decO l h = none) : prmB l h = false := by unfold prmB; rw [e]
set_option maxHeartbeats 2000000 in
theorem decides_ok (nm : ByteArray) (v : Value) (l : List RuleD) (h : HdrD) (w : World) (hr : RdR w v l) (hh : h.ok) (hck : ckF l = 0) : Calls Tryz.prog 12 #[.agg #[.string nm, v], vH h] w fun e w' => e = .returned (.tuple #[.int .i64 (decI l h), .int .i64 0]) ∧ Below w.heap.size w w' := by
  obtain ⟨p, c, rfl, hlc, hcm, hp⟩ := hr.rd.sl
  have HP := Lib.hid hp
  have HOK := Lib.hid hr.ok
  have HHK := Lib.hid hh
  have HR := Lib.hid hr
  clear hp hr hh
  unfold maxLen at hcm
  obtain ⟨src, dst, pr, sp, dp⟩ := h
  show Calls _ _ #[_, .agg #[.int .u32 src, .int .u32 dst, .int .u8 pr, .int .u16 sp, .int .u16 dp]] _ _
  have hb0 : Below w.heap.size w ((w.alloc (.cells #[.string nm, .slice p l.length c] 39)).alloc (.cells #[.int .u32 src, .int .u32 dst, .int .u8 pr, .int .u16 sp, .int .u16 dp] 48)) := ((Below.refl _ _).alloc (Nat.le_refl _) _).alloc (by simp) _
  have HB0 := Lib.hid hb0
  have hch := check_f nm _ l _ (HR.out.below hb0)
  rw [hck] at hch
  have HCH := Lib.hid hch
  clear hch hck
  clear hb0
  go_enter Tryz.func12, Tryz.ntmps12
  go_wp2_with (go_at_call 28; (with_reducible refine HCH.out.mono ?_); rintro e w1 ⟨rfl, hb1⟩; obtain ⟨hc1, hf1⟩ := bcell hb1; have HB1 := Lib.hid hb1; clear hb1)
  go_loopw [17] (fun i wr => ∃ k : Nat, k ≤ l.length ∧ i = .int .i64 k ∧ Hid (∀ (i : Nat) (s : RuleD), i < k → l[i]? = some s → fitB s ⟨src, dst, pr, sp, dp⟩ = false) ∧ Below w.heap.size w wr ∧ Below ((w.alloc (.cells #[.string nm, .slice p l.length c] 39)).alloc (.cells #[.int .u32 src, .int .u32 dst, .int .u8 pr, .int .u16 sp, .int .u16 dp] 48)).heap.size ((w.alloc (.cells #[.string nm, .slice p l.length c] 39)).alloc (.cells #[.int .u32 src, .int .u32 dst, .int .u8 pr, .int .u16 sp, .int .u16 dp] 48)) wr) (fun i _ => l.length - (intOf i).toNat)
  case atStart => exact ⟨0, Nat.zero_le _, rfl, Lib.hid (fun i s h => by omega), Below.step HB0.out HB1.out, HB1.out⟩
  case round =>
    obtain ⟨k, hk, rfl, HA, hbw, hbx⟩ := hrel
    have HW := Lib.hid hbw; have HX := Lib.hid hbx
    clear hbw hbx
    have f0 : wr.cell? ⟨w.heap.size, 0, none⟩ = some (.string nm) := (HX.out.cell (p := ⟨w.heap.size, 0, none⟩) (by simp; omega)).trans (by go_simp)
    have f1 : wr.cell? ⟨w.heap.size, 1, none⟩ = some (.slice p l.length c) := (HX.out.cell (p := ⟨w.heap.size, 1, none⟩) (by simp; omega)).trans (by go_simp)
    have d0 : wr.cell? ⟨w.heap.size + 1, 0, none⟩ = some (.int .u32 src) := (HX.out.cell (p := ⟨w.heap.size + 1, 0, none⟩) (by simp)).trans (by go_simp)
    have d1 : wr.cell? ⟨w.heap.size + 1, 1, none⟩ = some (.int .u32 dst) := (HX.out.cell (p := ⟨w.heap.size + 1, 1, none⟩) (by simp)).trans (by go_simp)
    have d2 : wr.cell? ⟨w.heap.size + 1, 2, none⟩ = some (.int .u8 pr) := (HX.out.cell (p := ⟨w.heap.size + 1, 2, none⟩) (by simp)).trans (by go_simp)
    have d3 : wr.cell? ⟨w.heap.size + 1, 3, none⟩ = some (.int .u16 sp) := (HX.out.cell (p := ⟨w.heap.size + 1, 3, none⟩) (by simp)).trans (by go_simp)
    have d4 : wr.cell? ⟨w.heap.size + 1, 4, none⟩ = some (.int .u16 dp) := (HX.out.cell (p := ⟨w.heap.size + 1, 4, none⟩) (by simp)).trans (by go_simp)
    have hy : w.heap.size + 1 + 1 ≤ wr.heap.size := by have := HX.out.size; simpa using this
    have hy1 : ¬ w.heap.size + 1 = wr.heap.size := by omega
    have hy0 : ¬ w.heap.size = wr.heap.size := by omega
    by_cases hlt : k < l.length
    · obtain ⟨s, hs⟩ : ∃ s, l[k]? = some s := ⟨_, List.getElem?_eq_getElem hlt⟩
      obtain ⟨b, o, rfl, hbs, hc⟩ := HP.out k s hs
      have hc := hc wr HW.out
      have hok := HOK.out s (List.mem_of_getElem? hs)
      have HS2 := Lib.hid hs
      have e1 : (0 : Int) ≤ (k : Int) := by omega
      have e2 : (k : Int) < (l.length : Int) := by omega
      have hz := HW.out.size
      obtain ⟨q, hq⟩ : ∃ q, fitB s ⟨src, dst, pr, sp, dp⟩ = q := ⟨_, rfl⟩
      have HQ := Lib.hid hq
      clear hs
      obtain ⟨perm, proto, sa, sn, da, dn, sl, sh, dl, dh⟩ := s
      have hcall : ∀ W, Calls Tryz.prog 29 #[.agg #[.bool perm, .int .i64 proto, .int .u32 sa, .int .i64 sn, .int .u32 da, .int .i64 dn, .int .u32 sl, .int .u32 sh, .int .u32 dl, .int .u32 dh], .agg #[.int .u32 src, .int .u32 dst, .int .u8 pr, .int .u16 sp, .int .u16 dp]] W fun e w' => e = .returned (.bool q) ∧ Below W.heap.size W w' := fun W => by rw [← hq]; exact fits_is _ _ W hok HHK.out
      have HC := Lib.hid hcall
      clear hq hcall hok
      simp only [encR] at hc
      have c0 : wr.cell? ⟨b, o + k * 10, none⟩ = some (.bool perm) := hc 0 _ rfl
      have c1 : wr.cell? ⟨b, o + k * 10 + 1, none⟩ = some (.int .i64 proto) := hc 1 _ rfl
      have c2 : wr.cell? ⟨b, o + k * 10 + 2, none⟩ = some (.int .u32 sa) := hc 2 _ rfl
      have c3 : wr.cell? ⟨b, o + k * 10 + 3, none⟩ = some (.int .i64 sn) := hc 3 _ rfl
      have c4 : wr.cell? ⟨b, o + k * 10 + 4, none⟩ = some (.int .u32 da) := hc 4 _ rfl
      have c5 : wr.cell? ⟨b, o + k * 10 + 5, none⟩ = some (.int .i64 dn) := hc 5 _ rfl
      have c6 : wr.cell? ⟨b, o + k * 10 + 6, none⟩ = some (.int .u32 sl) := hc 6 _ rfl
      have c7 : wr.cell? ⟨b, o + k * 10 + 7, none⟩ = some (.int .u32 sh) := hc 7 _ rfl
      have c8 : wr.cell? ⟨b, o + k * 10 + 8, none⟩ = some (.int .u32 dl) := hc 8 _ rfl
      have c9 : wr.cell? ⟨b, o + k * 10 + 9, none⟩ = some (.int .u32 dh) := hc 9 _ rfl
      clear hc
      have x0 : (wr.alloc (.cells #[.bool perm, .int .i64 proto, .int .u32 sa, .int .i64 sn, .int .u32 da, .int .i64 dn, .int .u32 sl, .int .u32 sh, .int .u32 dl, .int .u32 dh] 29)).cell? ⟨w.heap.size + 1, 0, none⟩ = some (.int .u32 src) := (((Below.refl _ wr).alloc (Nat.le_refl _) _).cell (p := ⟨w.heap.size + 1, 0, none⟩) (by show w.heap.size + 1 < wr.heap.size; omega)).trans d0
      have x1 : (wr.alloc (.cells #[.bool perm, .int .i64 proto, .int .u32 sa, .int .i64 sn, .int .u32 da, .int .i64 dn, .int .u32 sl, .int .u32 sh, .int .u32 dl, .int .u32 dh] 29)).cell? ⟨w.heap.size + 1, 1, none⟩ = some (.int .u32 dst) := (((Below.refl _ wr).alloc (Nat.le_refl _) _).cell (p := ⟨w.heap.size + 1, 1, none⟩) (by show w.heap.size + 1 < wr.heap.size; omega)).trans d1
      have x2 : (wr.alloc (.cells #[.bool perm, .int .i64 proto, .int .u32 sa, .int .i64 sn, .int .u32 da, .int .i64 dn, .int .u32 sl, .int .u32 sh, .int .u32 dl, .int .u32 dh] 29)).cell? ⟨w.heap.size + 1, 2, none⟩ = some (.int .u8 pr) := (((Below.refl _ wr).alloc (Nat.le_refl _) _).cell (p := ⟨w.heap.size + 1, 2, none⟩) (by show w.heap.size + 1 < wr.heap.size; omega)).trans d2
      have x3 : (wr.alloc (.cells #[.bool perm, .int .i64 proto, .int .u32 sa, .int .i64 sn, .int .u32 da, .int .i64 dn, .int .u32 sl, .int .u32 sh, .int .u32 dl, .int .u32 dh] 29)).cell? ⟨w.heap.size + 1, 3, none⟩ = some (.int .u16 sp) := (((Below.refl _ wr).alloc (Nat.le_refl _) _).cell (p := ⟨w.heap.size + 1, 3, none⟩) (by show w.heap.size + 1 < wr.heap.size; omega)).trans d3
      have x4 : (wr.alloc (.cells #[.bool perm, .int .i64 proto, .int .u32 sa, .int .i64 sn, .int .u32 da, .int .i64 dn, .int .u32 sl, .int .u32 sh, .int .u32 dl, .int .u32 dh] 29)).cell? ⟨w.heap.size + 1, 4, none⟩ = some (.int .u16 dp) := (((Below.refl _ wr).alloc (Nat.le_refl _) _).cell (p := ⟨w.heap.size + 1, 4, none⟩) (by show w.heap.size + 1 < wr.heap.size; omega)).trans d4
      cases q with
      | true =>
        go_wp2_with (go_at_call 29; (with_reducible refine (HC.out _).mono ?_); rintro e w2 ⟨rfl, hb2⟩; have HB2 := Lib.hid hb2; clear hb2)
        go_ret2
        exact ⟨ret_int2 (decI_some (decO_some HS2.out HQ.out HA.out)).symm rfl, Below.step (by first | exact HW.out | exact HW.out.alloc hz _) HB2.out⟩
      | false =>
        go_wp2_with (go_at_call 29; (with_reducible refine (HC.out _).mono ?_); rintro e w2 ⟨rfl, hb2⟩; have HB2 := Lib.hid hb2; clear hb2)
        go_roundw
        case rel =>
          refine ⟨k + 1, by omega, by go_num, Lib.hid fun i s hi h => ?_, Below.step (by first | exact HW.out | exact HW.out.alloc hz _) HB2.out, Below.step (by first | exact HX.out | exact HX.out.alloc HX.out.size _) HB2.out⟩
          rcases Nat.lt_succ_iff_lt_or_eq.1 hi with h2 | rfl
          · exact HA.out i s h2 h
          · rw [HS2.out] at h
            cases h
            exact HQ.out
        case measure => simp [intOf]; omega
    · go_wp2
      go_ret2
      exact ⟨ret_int2 (decI_none (decO_none fun i s h => HA.out i s (by have := (List.getElem?_eq_some_iff.1 h).1; omega) h)).symm rfl, HW.out⟩
set_option maxHeartbeats 1000000 in
theorem decides_no (nm : ByteArray) (v : Value) (l : List RuleD) (h : HdrD) (w : World) (c0 : Int) (hr : RdR w v l) (hck : ckF l = c0) (hne : c0 ≠ 0) : Calls Tryz.prog 12 #[.agg #[.string nm, v], vH h] w fun e w' => e = .returned (.tuple #[.int .i64 0, .int .i64 c0]) ∧ Below w.heap.size w w' := by
  obtain ⟨p, c, rfl, hlc, hcm, hp⟩ := hr.rd.sl
  obtain ⟨src, dst, pr, sp, dp⟩ := h
  show Calls _ _ #[_, .agg #[.int .u32 src, .int .u32 dst, .int .u8 pr, .int .u16 sp, .int .u16 dp]] _ _
  have hb0 : Below w.heap.size w ((w.alloc (.cells #[.string nm, .slice p l.length c] 39)).alloc (.cells #[.int .u32 src, .int .u32 dst, .int .u8 pr, .int .u16 sp, .int .u16 dp] 48)) := ((Below.refl _ _).alloc (Nat.le_refl _) _).alloc (by simp) _
  have HB0 := Lib.hid hb0
  have hch := check_f nm _ l _ (hr.below hb0)
  rw [hck] at hch
  have HCH := Lib.hid hch
  have hne2 : (c0 != 0) = true := by simpa using hne
  clear hch hck hp hr hne hb0
  go_enter Tryz.func12, Tryz.ntmps12
  go_wp2_with (go_at_call 28; (with_reducible refine HCH.out.mono ?_); rintro e w1 ⟨rfl, hb1⟩; have HB1 := Lib.hid hb1; clear hb1)
  go_ret2
  exact ⟨rfl, Below.step HB0.out HB1.out⟩
end Go.Proofs.YtgggmhaopcgkkaaGreatDoor
