/- What strconv.ParseUint reads of a text at sixteen bits, and number of package filter. The variables ErrSyntax and ErrRange of package strconv are asked to hold errors. -/
import Derived.Test.YtkkhmdiffddllaaDoorText
import Derived.Lib.ParseIntBCases
namespace Go.Proofs.YtkkhmdiffddllaaDoor
open Go.RowKit
/-- Package strconv's two errors are there. -/
def ErrV (w : World) : Prop := (∃ te pe, w.cell? ⟨1, 0, none⟩ = some (.iface te pe)) ∧ (∃ te pe, w.cell? ⟨2, 0, none⟩ = some (.iface te pe))
theorem ErrV.on {w w' : World} (h : ErrV w) (hb : Below w.heap.size w w') : ErrV w' := by
  obtain ⟨⟨a, b, h1⟩, c, d, h2⟩ := h
  exact ⟨⟨a, b, (hb.cell (p := ⟨_, _, none⟩) (block_lt_of_cell h1)).trans h1⟩, c, d, (hb.cell (p := ⟨_, _, none⟩) (block_lt_of_cell h2)).trans h2⟩
theorem pm_digits (M : Nat) (hM : M ≤ 65535) : ∀ (l : List UInt8) (acc : Nat), l.all dig = true → val l acc ≤ M → Lib.parseUintM M acc l = .ok (val l acc) := by
  intro l
  induction l with
  | nil => intro acc _ _; rfl
  | cons c r ih =>
    intro acc hd hv
    simp only [List.all_cons, Bool.and_eq_true] at hd
    have hd1 : 48 ≤ c.toNat ∧ c.toNat ≤ 57 := by have := hd.1; unfold dig at this; simpa using this
    have hv2 : val (c :: r) acc = val r (acc * 10 + (c.toNat - 48)) := rfl
    have hge := val_ge r (acc * 10 + (c.toNat - 48))
    rw [hv2] at hv ⊢
    unfold Lib.parseUintM
    rw [if_pos hd1, if_neg (by omega), if_neg (by omega)]
    exact ih _ hd.2 hv
theorem pu_num {B : Nat} (hB : B = 8 ∨ B = 16) {l : List UInt8} {n : Nat} (h : num l (2 ^ B - 1) = some n) : Lib.parseUintB B l = .ok n := by
  obtain ⟨h1, h2, h3, h4, h5⟩ := num_some h
  unfold Lib.parseUintB
  rw [if_neg h1, h5]
  refine pm_digits _ ?_ l 0 h3 (by omega)
  rcases hB with rfl | rfl <;> decide
theorem num_pu {B : Nat} (hB : B = 8 ∨ B = 16) {l : List UInt8} {u : Nat} (h : Lib.parseUintB B l = .ok u) : (Lib.decDigits u = l → num l (2 ^ B - 1) = some u) ∧ (Lib.decDigits u ≠ l → num l (2 ^ B - 1) = none) := by
  have hle := Lib.parseUintB_le h
  refine ⟨fun e => by rw [← e]; exact num_dec u _ hle, fun hne => ?_⟩
  cases hn : num l (2 ^ B - 1) with
  | none => rfl
  | some n =>
    have h1 := pu_num hB hn
    rw [h] at h1
    simp only [Lib.NumEnd.ok.injEq] at h1
    subst h1
    exact absurd (dec_num hn) hne
theorem num_bad {B : Nat} (hB : B = 8 ∨ B = 16) {l : List UInt8} (h : ∀ u, Lib.parseUintB B l ≠ .ok u) : num l (2 ^ B - 1) = none := by
  cases hn : num l (2 ^ B - 1) with
  | none => rfl
  | some n => exact absurd (pu_num hB hn) (h n)
/-- What ParseUint hands back. -/
def PuPost (B : Nat) (l : List UInt8) (w : World) (e : Ending) (w' : World) : Prop := Below w.heap.size w w' ∧
  ((∃ u : Nat, Lib.parseUintB B l = .ok u ∧ e = .returned (.tuple #[.int .u64 u, .nilIface])) ∨ ((∀ u, Lib.parseUintB B l ≠ .ok u) ∧ ∃ (v : Int) (N t : Nat), e = .returned (.tuple #[.int .u64 v, .iface t (.pointer (some ⟨N, 0, none⟩))]) ∧ 0 ≤ v ∧ v < 18446744073709551616))
theorem below_or {w w' : World} {t : TypeId} {s : ByteArray} (h : w' = w ∨ w' = Lib.bytesWorld w t s) : Below w.heap.size w w' := by
  rcases h with rfl | rfl
  · exact Below.refl _ _
  · exact Lib.bytesWorld_below _ _ _
theorem pu_is (B : Nat) (hB : B = 8 ∨ B = 16) (s : ByteArray) (hs : s.size ≤ 140737488355328) (w : World) (hE : ErrV w) :
    Calls Tryd.prog 33 #[.string s, .int .i64 10, .int .i64 B] w (PuPost B s.data.toList w) := by
  obtain ⟨⟨ts, ps, h1⟩, tr, pr, h2⟩ := hE
  rcases hB with rfl | rfl
  · cases h : Lib.parseUintB 8 s.data.toList
    · rename_i u
      exact (Tryd.strconv_ParseUint_10_at8_ok s (by omega) u h w).mono fun e w' ⟨he, hw⟩ => ⟨below_or hw, .inl ⟨u, h, he⟩⟩
    · exact (Tryd.strconv_ParseUint_10_at8_syntax s (by omega) h _ w h1 (.inr ⟨ts, ps, rfl⟩)).mono fun e w' ⟨N, he, _, _, hb⟩ => ⟨hb, .inr ⟨fun u hu => (by rw [h] at hu; cases hu), _, N, _, he, by omega, by omega⟩⟩
    · exact (Tryd.strconv_ParseUint_10_at8_range s (by omega) h _ w h2 (.inr ⟨tr, pr, rfl⟩)).mono fun e w' ⟨N, he, _, _, hb⟩ => ⟨hb, .inr ⟨fun u hu => (by rw [h] at hu; cases hu), _, N, _, he, by omega, by omega⟩⟩
  · cases h : Lib.parseUintB 16 s.data.toList
    · rename_i u
      exact (Tryd.strconv_ParseUint_10_at16_ok s (by omega) u h w).mono fun e w' ⟨he, hw⟩ => ⟨below_or hw, .inl ⟨u, h, he⟩⟩
    · exact (Tryd.strconv_ParseUint_10_at16_syntax s (by omega) h _ w h1 (.inr ⟨ts, ps, rfl⟩)).mono fun e w' ⟨N, he, _, _, hb⟩ => ⟨hb, .inr ⟨fun u hu => (by rw [h] at hu; cases hu), _, N, _, he, by omega, by omega⟩⟩
    · exact (Tryd.strconv_ParseUint_10_at16_range s (by omega) h _ w h2 (.inr ⟨tr, pr, rfl⟩)).mono fun e w' ⟨N, he, _, _, hb⟩ => ⟨hb, .inr ⟨fun u hu => (by rw [h] at hu; cases hu), _, N, _, he, by omega, by omega⟩⟩
/-- What number of package filter hands back: what the text says, if it says a number. -/
def NumP (o : Option Nat) (w : World) (e : Ending) (w' : World) : Prop := Below w.heap.size w w' ∧ ∃ v : Int, 0 ≤ v ∧ v < 4294967296 ∧ e = .returned (.int .u32 v) ∧ ∀ n, o = some n → v = n
theorem wrap32 (v : Int) : 0 ≤ IntKind.u32.wrap v ∧ IntKind.u32.wrap v < 4294967296 := by
  simp only [IntKind.wrap]
  constructor
  · first | exact Int.emod_nonneg _ (by decide) | (simp [IntKind.wrap]; omega)
  · first | exact Int.emod_lt_of_pos _ (by decide) | (simp [IntKind.wrap]; omega)
end Go.Proofs.YtkkhmdiffddllaaDoor
