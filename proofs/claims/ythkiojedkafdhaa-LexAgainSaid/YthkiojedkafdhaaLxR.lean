/- The reader of package lex: what its small functions hand back. Under the conditions that they name. -/
import Derived.Test.YthkiojedkafdhaaKit
import Derived.Test.YthkiojedkafdhaaLxK
import Derived.Test.YthkiojedkafdhaaRows
import Derived.PlainAid
import Derived.Lib.Bytes
namespace Go.Proofs.Ythkiojedkafdhaa
open Go.RowKit
/-- A reader in memory: what is left, and the place. -/
def Rd (W : World) (g : Nat) (l : List UInt8) (ln c : Int) : Prop := W.heap[g]? = some (.cells #[.string ⟨l.toArray⟩, .int .i64 ln, .int .i64 c] 47 (0, 0))
theorem Rd.lt {W : World} {g : Nat} {l : List UInt8} {ln c : Int} (h : Rd W g l ln c) : g < W.heap.size := (Array.getElem?_eq_some_iff.1 h).1
theorem Rd.on {W W' : World} {g : Nat} {l : List UInt8} {ln c : Int} (h : Rd W g l ln c) (hb : Below W.heap.size W W') : Rd W' g l ln c := (hb.block g h.lt).trans h
set_option maxRecDepth 100000 in
theorem start_is (s : ByteArray) (W : World) : Calls Try.prog 10 #[.string s] W fun e w' => ∃ g, e = .returned (.pointer (some ⟨g, 0, none⟩)) ∧ W.heap.size ≤ g ∧ Rd w' g s.data.toList 1 1 ∧ Below W.heap.size W w' := by
  go_enter Try.func10, Try.ntmps10
  go_wp2
  go_ret
  exact ⟨_, rfl, Nat.le_refl _, by unfold Rd; rw [← all_of' s]; exact heap_alloc_new W _, (Below.refl _ _).alloc (Nat.le_refl _) _⟩
set_option maxRecDepth 100000 in
theorem done_is (g : Nat) (l : List UInt8) (ln c : Int) (W : World) (h : Rd W g l ln c) : Calls Try.prog 11 #[.pointer (some ⟨g, 0, none⟩)] W fun e w' => e = .returned (.bool l.isEmpty) ∧ W = w' := by
  obtain ⟨k0, _⟩ := row_cell' (j := 0) h rfl
  clear h
  go_enter Try.func11, Try.ntmps11
  go_wp2
  go_ret
  exact ⟨ret_bool (by cases l <;> rfl), rfl⟩
theorem pre_is (a m : List UInt8) (W : World) (ha : a.length ≤ 9223372036854775807) : Calls Try.prog 30 #[.string ⟨a.toArray⟩, .string ⟨m.toArray⟩] W fun e w' => e = .returned (.bool (m.isPrefixOf a)) ∧ W = w' := by
  have hs := mk_size a
  have ht := mk_size m
  by_cases hle : m.length ≤ a.length
  · have hx : (((⟨a.toArray⟩ : ByteArray).extract 0 m.length).toList == m) = m.isPrefixOf a := by rw [ext_list]; exact pre_take a m hle
    obtain ⟨y, hy⟩ : ∃ y, m.isPrefixOf a = y := ⟨_, rfl⟩
    rw [hy] at hx ⊢
    have hd : (m.length : Int) ≤ (a.length : Int) := by omega
    clear hy
    go_enter Try.func30, Try.ntmps30
    go_wp2
    go_ret
    exact ⟨rfl, rfl⟩
  · have hx := pre_long a m (by omega)
    rw [hx]
    have hd : ¬ (m.length : Int) ≤ (a.length : Int) := by omega
    clear hx
    go_enter Try.func30, Try.ntmps30
    go_wp2
    go_ret
    exact ⟨rfl, rfl⟩
theorem hpre_is (a m : List UInt8) (W : World) (ha : a.length ≤ 9223372036854775807) : Calls Try.prog 29 #[.string ⟨a.toArray⟩, .string ⟨m.toArray⟩] W fun e w' => e = .returned (.bool (m.isPrefixOf a)) ∧ W = w' := by
  have H := Lib.hid (fun W => pre_is a m W ha)
  obtain ⟨y, hy⟩ : ∃ y, m.isPrefixOf a = y := ⟨_, rfl⟩
  rw [hy] at H ⊢
  clear hy
  go_enter Try.func29, Try.ntmps29
  go_wp2_with (go_at_call 30; (with_reducible refine (H.out _).mono ?_); rintro e w1 ⟨rfl, rfl⟩)
  go_ret
  exact ⟨rfl, rfl⟩
theorem at_is (g : Nat) (l m : List UInt8) (ln c : Int) (W : World) (h : Rd W g l ln c) (ha : l.length ≤ 9223372036854775807) : Calls Try.prog 19 #[.pointer (some ⟨g, 0, none⟩), .string ⟨m.toArray⟩] W fun e w' => e = .returned (.bool (m.isPrefixOf l)) ∧ W = w' := by
  have H := Lib.hid (fun W => hpre_is l m W ha)
  obtain ⟨k0, _⟩ := row_cell' (j := 0) h rfl
  obtain ⟨y, hy⟩ : ∃ y, m.isPrefixOf l = y := ⟨_, rfl⟩
  rw [hy] at H ⊢
  clear h hy
  go_enter Try.func19, Try.ntmps19
  go_wp2_with (go_at_call 29; (with_reducible refine (H.out _).mono ?_); rintro e w1 ⟨rfl, rfl⟩)
  go_ret
  exact ⟨rfl, rfl⟩
/-- A line's end is next; a blank is; no blank of the line is. -/
def pEnd (l : List UInt8) : Bool := [10].isPrefixOf l
def pBlank (l : List UInt8) : Bool := [32].isPrefixOf l || [10].isPrefixOf l
def pBehind (l : List UInt8) : Bool := ![32].isPrefixOf l
theorem lineEnd_is (g : Nat) (l : List UInt8) (ln c : Int) (W : World) (h : Rd W g l ln c) (ha : l.length ≤ 9223372036854775807) : Calls Try.prog 20 #[.pointer (some ⟨g, 0, none⟩)] W fun e w' => e = .returned (.bool (pEnd l)) ∧ W = w' := by
  have H := Lib.hid (at_is g l [10] ln c W h ha)
  unfold pEnd
  obtain ⟨y, hy⟩ : ∃ y, [10].isPrefixOf l = y := ⟨_, rfl⟩
  rw [hy] at H ⊢
  clear h hy
  go_enter Try.func20, Try.ntmps20
  go_wp2_with (go_at_call 19; (refine H.out.mono ?_); rintro e w1 ⟨rfl, rfl⟩)
  go_ret
  exact ⟨rfl, rfl⟩
theorem behind_is (g : Nat) (l : List UInt8) (ln c : Int) (W : World) (h : Rd W g l ln c) (ha : l.length ≤ 9223372036854775807) : Calls Try.prog 18 #[.pointer (some ⟨g, 0, none⟩)] W fun e w' => e = .returned (.bool (pBehind l)) ∧ W = w' := by
  have H := Lib.hid (at_is g l [32] ln c W h ha)
  unfold pBehind
  obtain ⟨y, hy⟩ : ∃ y, [32].isPrefixOf l = y := ⟨_, rfl⟩
  rw [hy] at H ⊢
  clear h hy
  go_enter Try.func18, Try.ntmps18
  go_wp2_with (go_at_call 19; (refine H.out.mono ?_); rintro e w1 ⟨rfl, rfl⟩)
  go_ret
  exact ⟨rfl, rfl⟩
theorem blank_is (g : Nat) (l : List UInt8) (ln c : Int) (W : World) (h : Rd W g l ln c) (ha : l.length ≤ 9223372036854775807) : Calls Try.prog 21 #[.pointer (some ⟨g, 0, none⟩)] W fun e w' => e = .returned (.bool (pBlank l)) ∧ W = w' := by
  have H := Lib.hid (at_is g l [32] ln c W h ha)
  have H2 := Lib.hid (lineEnd_is g l ln c W h ha)
  unfold pEnd at H2
  unfold pBlank
  obtain ⟨y, hy⟩ : ∃ y, [32].isPrefixOf l = y := ⟨_, rfl⟩
  obtain ⟨z, hz⟩ : ∃ y, [10].isPrefixOf l = y := ⟨_, rfl⟩
  rw [hy] at H ⊢
  rw [hz] at H2 ⊢
  clear h hy hz
  cases y
  all_goals
    go_enter Try.func21, Try.ntmps21
    go_wp2_with (first | (go_at_call 19; (refine H.out.mono ?_); rintro e w1 ⟨rfl, rfl⟩) | (go_at_call 20; (refine H2.out.mono ?_); rintro e w1 ⟨rfl, rfl⟩))
    go_ret
    exact ⟨rfl, rfl⟩
theorem tooFar_is (g : Nat) (l : List UInt8) (ln c : Int) (W : World) (h : Rd W g l ln c) : Calls Try.prog 17 #[.pointer (some ⟨g, 0, none⟩)] W fun e w' => e = .returned (.bool (decide (4096 < ln))) ∧ W = w' := by
  obtain ⟨k1, _⟩ := row_cell' (j := 1) h rfl
  clear h
  go_enter Try.func17, Try.ntmps17
  go_wp2
  go_ret
  exact ⟨rfl, rfl⟩
/-- What may not stand. -/
def bad (c : Int) : Bool := (decide (c < 32) || decide (126 < c)) && !(c == 10)
/-- Places, byte by byte. -/
def adv : List UInt8 → Int × Int → Int × Int
  | [], p => p
  | b :: r, p => adv r (if b = 10 then (p.1 + 1, 1) else (p.1, p.2 + 1))
end Go.Proofs.Ythkiojedkafdhaa
