/- What the calls of package addr do that read a text: number, Parse, ParsePrefix; and strings.Cut at one byte. Each under the conditions that it names. -/
import Derived.Test.YtkkhmdiffddllaaDoorAddrW1
import Derived.Test.YtkkhmdiffddllaaDoorTextMath
import Derived.PlainAid
import Derived.Lib.IndexBytes
namespace Go.Proofs.YtkkhmdiffddllaaDoor
open Go.RowKit
/-- A number that may be none, as the program hands it back. -/
def numI : Option Nat → Int | some n => (n : Int) | none => 0
theorem str_toList (s : ByteArray) : s.data.toList.length = s.size := by simp
theorem all_take (l : List UInt8) (k : Nat) (h : k < l.length) : (l.take (k + 1)).all dig = ((l.take k).all dig && dig (l[k])) := by
  rw [List.take_succ_eq_append_getElem h, List.all_append]; simp
theorem val_take (l : List UInt8) (k : Nat) (h : k < l.length) : val (l.take (k + 1)) 0 = val (l.take k) 0 * 10 + ((l[k]).toNat - 48) := by
  rw [List.take_succ_eq_append_getElem h, val_snoc]
theorem val_take_le (l : List UInt8) (k : Nat) : val (l.take k) 0 ≤ val l 0 := by
  have e : val l 0 = val (l.drop k) (val (l.take k) 0) := by rw [← val_append, List.take_append_drop]
  rw [e]; exact val_ge _ _
theorem num_nodig {l : List UInt8} {top k : Nat} (h : k < l.length) (hd : dig (l[k]) = false) : num l top = none := by
  unfold num
  rw [if_pos]
  refine .inr (.inr (.inl ?_))
  rw [List.all_eq_false]
  exact ⟨l[k], List.getElem_mem h, by rw [hd]; simp⟩
theorem num_big {l : List UInt8} {top k : Nat} (hd : top < val (l.take k) 0) : num l top = none := by
  unfold num
  rw [if_pos]
  exact .inr (.inr (.inr (Nat.lt_of_lt_of_le hd (val_take_le l k))))
theorem bnum_none {o : Option Nat} (h : o = none) : Ending.returned (.tuple #[.int .i64 0, .bool false]) = .returned (.tuple #[.int .i64 (numI o), .bool o.isSome]) := by rw [h]; rfl
theorem bnum_some {o : Option Nat} {n : Nat} {x : Int} (h : o = some n) (hx : x = n) : Ending.returned (.tuple #[.int .i64 x, .bool true]) = .returned (.tuple #[.int .i64 (numI o), .bool o.isSome]) := by rw [h, hx]; rfl
theorem head_at (s : ByteArray) (h : 0 < s.size) : s.data.toList.head? = some (s[0]'h) := by
  rw [List.head?_eq_getElem?]
  exact Lib.data_getElem? s 0 h
theorem get_at (s : ByteArray) (k : Nat) (h : k < s.size) (hl : k < s.data.toList.length) : s.data.toList[k]'hl = s[k]'h := by
  have := Lib.data_getElem? s k h
  rw [List.getElem?_eq_getElem hl] at this
  exact Option.some.inj this
end Go.Proofs.YtkkhmdiffddllaaDoor
