/- What Parse and Text of package header hand back. The variables ErrSyntax and ErrRange of package strconv are asked to hold errors, the table of powers of ten to be what its text says. -/
import Derived.Test.YtbmleejeffaciaaDoorHdP
import Derived.Test.YtbmleejeffaciaaDoorParse
import Derived.Test.YtbmleejeffaciaaDoorHdB
namespace Go.Proofs.YtbmleejeffaciaaDoor
open Go.RowKit
/-- An address and a port, out of a text. -/
def endOf (l : List UInt8) : Option (Nat × Nat) := match parse (cut1 l 58).1, num (cut1 l 58).2.1 65535 with
  | some a, some n => some (a, n)
  | _, _ => none
theorem cut_l (l : List UInt8) (c : UInt8) (w : World) (hl : l.length ≤ 140737488355328) :
    Calls Tryd.prog 27 #[.string ⟨l.toArray⟩, .string ⟨#[c]⟩] w fun e w' => e = .returned (.tuple #[.string ⟨(cut1 l c).1.toArray⟩, .string ⟨(cut1 l c).2.1.toArray⟩, .bool (cut1 l c).2.2]) ∧ Below w.heap.size w w' := by
  have h := scut_is ⟨l.toArray⟩ c w (by rw [mk_size]; omega)
  rw [mk_toList] at h
  exact h
theorem parse_l (l : List UInt8) (w : World) (hl : l.length ≤ 140737488355328) :
    Calls Tryd.prog 41 #[.string ⟨l.toArray⟩] w fun e w' => e = .returned (.tuple #[.int .u32 (adrI (parse l)).1, .int .i64 (adrI (parse l)).2]) ∧ Below w.heap.size w w' := by
  have h := parse_is ⟨l.toArray⟩ w (by rw [mk_size]; omega)
  rw [mk_toList] at h
  exact h
theorem hnum_l (B : Nat) (hB : B = 8 ∨ B = 16) (l : List UInt8) (hl : l.length ≤ 140737488355328) (w : World) (hE : ErrV w) (hT : Tab10 w) :
    Calls Tryd.prog 29 #[.string ⟨l.toArray⟩, .int .i64 B] w (NumPost (num l (2 ^ B - 1)) w) := by
  have h := hnum_is B hB ⟨l.toArray⟩ (by rw [mk_size]; omega) w hE hT
  rw [mk_toList] at h
  exact h
/-- What end hands back. -/
def EndPost (o : Option (Nat × Nat)) (w : World) (e : Ending) (w' : World) : Prop := Below w.heap.size w w' ∧ ∃ a v : Int, 0 ≤ a ∧ a < 4294967296 ∧ 0 ≤ v ∧ v < 65536 ∧ e = .returned (.tuple #[.int .u32 a, .int .u16 v, .bool o.isSome]) ∧ ∀ x, o = some x → a = x.1 ∧ v = x.2
theorem endOf_some {l : List UInt8} {a n : Nat} (h1 : parse (cut1 l 58).1 = some a) (h2 : num (cut1 l 58).2.1 65535 = some n) : endOf l = some (a, n) := by unfold endOf; rw [h1, h2]
theorem endOf_noA {l : List UInt8} (h1 : parse (cut1 l 58).1 = none) : endOf l = none := by unfold endOf; rw [h1]
theorem endOf_noN {l : List UInt8} (h2 : num (cut1 l 58).2.1 65535 = none) : endOf l = none := by unfold endOf; rw [h2]; cases parse (cut1 l 58).1 <;> rfl
set_option maxRecDepth 100000 in
set_option maxHeartbeats 2000000 in
theorem end_is (l : List UInt8) (hs : l.length ≤ 140737488355328) (w : World) (hE : ErrV w) (hT : Tab10 w) :
    Calls Tryd.prog 28 #[.string ⟨l.toArray⟩] w (EndPost (endOf l) w) := by
  have HE := Lib.hid hE; have HT := Lib.hid hT; have HS := Lib.hid hs
  have HCL := Lib.hid (cut1_len l 58)
  clear hE hT hs
  go_enter Tryd.func28, Tryd.ntmps28
  go_wp2_with fail
  go_at_call 27
  refine (cut_l l 58 _ HS.out).mono ?_
  rintro e w1 ⟨rfl, hb1⟩
  go_wp2_with fail
  go_at_call 41
  refine (parse_l _ _ (by have := HCL.out.1; have := HS.out; omega)).mono ?_
  rintro e w2 ⟨rfl, hb2⟩
  have hb12 := Below.step hb1 hb2
  have H3 := Lib.hid (hnum_l 16 (.inr rfl) (cut1 l 58).2.1 (by have := HCL.out.2; have := HS.out; omega) w2 (HE.out.on hb12) (HT.out.on hb12))
  go_wp2_with fail
  go_at_call 29
  refine H3.out.mono ?_
  rintro e w3 ⟨hb3, v, v0, v1, rfl, hv⟩
  have hb13 := Below.step hb12 hb3
  clear H3
  cases ha : parse (cut1 l 58).1 with
  | none =>
    have e0 : (adrI (none : Option Nat)).1 = 0 := rfl
    have e4 : (adrI (none : Option Nat)).2 = 4 := rfl
    rw [e0, e4]
    have HO := Lib.hid (endOf_noA ha)
    clear hv ha
    go_wp2
    go_ret3
    exact ⟨hb13, 0, v % 65536, by omega, by omega, by omega, by omega, by rw [HO.out]; rfl, fun x hx => by rw [HO.out] at hx; cases hx⟩
  | some a =>
    have e0 : (adrI (some a)).1 = (a : Int) := rfl
    have e4 : (adrI (some a)).2 = 0 := rfl
    rw [e0, e4]
    have ha2 := parse_lt ha
    have HA := Lib.hid ha
    clear ha
    cases hn : num (cut1 l 58).2.1 65535 with
    | none =>
      have HO := Lib.hid (endOf_noN hn)
      clear hv hn
      go_wp2
      go_ret3
      exact ⟨hb13, a, v % 65536, by omega, by omega, by omega, by omega, by rw [HO.out]; rfl, fun x hx => by rw [HO.out] at hx; cases hx⟩
    | some n =>
      have hv' : v = (n : Int) := by first | exact hv n rfl | exact hv n hn
      have hle := (num_some hn).2.2.2.1
      have HO := Lib.hid (endOf_some HA.out hn)
      clear hv hn
      subst hv'
      go_wp2
      go_ret3
      refine ⟨hb13, a, n, by omega, by omega, by omega, by omega, by rw [HO.out]; rfl, fun x hx => by rw [HO.out] at hx; cases hx; exact ⟨rfl, rfl⟩⟩
end Go.Proofs.YtbmleejeffaciaaDoor
