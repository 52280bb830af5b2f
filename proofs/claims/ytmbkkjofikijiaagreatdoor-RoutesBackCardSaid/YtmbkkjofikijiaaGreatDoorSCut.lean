/- What strings.Cut does at one byte, for every text. No condition but that the text is one that can be. -/
import Derived.Test.YtmbkkjofikijiaaGreatDoorNum
import Derived.Test.YtmbkkjofikijiaaGreatDoorShelf
namespace Go.Proofs.YtmbkkjofikijiaaGreatDoor
open Go.RowKit
theorem cut1_parts (l : List UInt8) (c : UInt8) (h : 0 ≤ Lib.indexByte l c) : cut1 l c = (l.take (Lib.indexByte l c).toNat, l.drop ((Lib.indexByte l c).toNat + 1), true) := by rw [← cut1_index, if_pos h]
theorem cut1_whole (l : List UInt8) (c : UInt8) (h : ¬ 0 ≤ Lib.indexByte l c) : cut1 l c = (l, [], false) := by rw [← cut1_index, if_neg h]
theorem indexByte_lt (l : List UInt8) (c : UInt8) : Lib.indexByte l c < l.length := by
  induction l with
  | nil => simp [Lib.indexByte]
  | cons b l ih =>
    unfold Lib.indexByte
    by_cases h : b == c
    · simp [h]; try omega
    · by_cases h2 : Lib.indexByte l c == -1
      · simp [h, h2]; try omega
      · simp [h, h2]; try omega
theorem ret_cut {a b a' b' : ByteArray} {t t' : Bool} (h1 : a = a') (h2 : b = b') (h3 : t = t') : Ending.returned (.tuple #[.string a, .string b, .bool t]) = .returned (.tuple #[.string a', .string b', .bool t']) := by rw [h1, h2, h3]
theorem ext_take (s : ByteArray) (n : Nat) : s.extract 0 n = ⟨(s.data.toList.take n).toArray⟩ := by
  apply WideShapes.bytes_inj
  simp [ByteArray.data_extract]
theorem ext_drop (s : ByteArray) (n : Nat) : s.extract n s.size = ⟨(s.data.toList.drop n).toArray⟩ := by
  apply WideShapes.bytes_inj
  rw [Lib.extract_to_end]
theorem all_of (s : ByteArray) : s = ⟨(s.data.toList).toArray⟩ := by simp
set_option maxHeartbeats 400000 in
theorem lcut_is (s : ByteArray) (c : UInt8) (w : World) (hs : s.size ≤ 9223372036854775807) :
    Calls Tryz.prog 171 #[.string s, .string ⟨#[c]⟩] w fun e w' => e = .returned (.tuple #[.string ⟨(cut1 s.data.toList c).1.toArray⟩, .string ⟨(cut1 s.data.toList c).2.1.toArray⟩, .bool (cut1 s.data.toList c).2.2]) ∧ Below w.heap.size w w' := by
  have hlt := indexByte_lt s.data.toList c
  rw [str_toList] at hlt
  obtain ⟨i, hi⟩ : ∃ i, Lib.indexByte s.data.toList c = i := ⟨_, rfl⟩
  rw [hi] at hlt
  by_cases h : 0 ≤ i
  · have HC := Lib.hid (cut1_parts s.data.toList c (by rw [hi]; exact h))
    rw [hi] at HC
    have HI := Lib.hid hi
    clear hi
    have hone : (⟨#[c]⟩ : ByteArray).size = 1 := rfl
    go_enter Tryz.func171, Tryz.ntmps171
    go_wp2_with (first | (go_at_call 197; (with_reducible refine (Tryz.stringslite_Index_one s c _).mono ?_); rintro e w' ⟨rfl, rfl⟩; rw [HI.out]))
    go_quiet (fail)
    go_wp2
    go_ret3
    have e2 : (i + 1).toNat = i.toNat + 1 := by omega
    exact ⟨ret_cut (by rw [HC.out, ext_take]) (by rw [HC.out, e2, ext_drop]) (by rw [HC.out]), Below.draws (Below.refl _ _) _⟩
  · have HC := Lib.hid (cut1_whole s.data.toList c (by rw [hi]; exact h))
    have HI := Lib.hid hi
    have hd : decide (0 ≤ i) = false := by simpa using h
    clear hi h
    go_enter Tryz.func171, Tryz.ntmps171
    go_wp2_with (first | (go_at_call 197; (with_reducible refine (Tryz.stringslite_Index_one s c _).mono ?_); rintro e w' ⟨rfl, rfl⟩; rw [HI.out]))
    go_ret3
    exact ⟨ret_cut (by rw [HC.out]) (by rw [HC.out]) (by rw [HC.out]), Below.refl _ _⟩
set_option maxHeartbeats 400000 in
theorem scut_is (s : ByteArray) (c : UInt8) (w : World) (hs : s.size ≤ 9223372036854775807) :
    Calls Tryz.prog 126 #[.string s, .string ⟨#[c]⟩] w fun e w' => e = .returned (.tuple #[.string ⟨(cut1 s.data.toList c).1.toArray⟩, .string ⟨(cut1 s.data.toList c).2.1.toArray⟩, .bool (cut1 s.data.toList c).2.2]) ∧ Below w.heap.size w w' := by
  go_enter Tryz.func126, Tryz.ntmps126
  go_wp2_with (first | (go_at_call 171; (with_reducible refine (lcut_is s c _ hs).mono ?_); rintro e w1 ⟨rfl, hb⟩))
  go_ret3
  exact ⟨rfl, hb⟩
end Go.Proofs.YtmbkkjofikijiaaGreatDoor
