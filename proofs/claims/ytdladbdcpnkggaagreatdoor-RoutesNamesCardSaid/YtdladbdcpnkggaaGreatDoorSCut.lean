/- What strings.Cut does at one byte, for every text. No condition but that the text is one that can be. -/
import Derived.Test.YtdladbdcpnkggaaGreatDoorNum
import Derived.Test.YtdladbdcpnkggaaGreatDoorShelf
namespace Go.Proofs.YtdladbdcpnkggaaGreatDoor
open Go.RowKit
theorem cut1_parts (l : List UInt8) (c : UInt8) (h : 0 ≤ Lib.indexByte l c) : cut1 l c = (l.take (Lib.indexByte l c).toNat, l.drop ((Lib.indexByte l c).toNat + 1), true) := by rw [← cut1_index, if_pos h]
theorem cut1_whole (l : List UInt8) (c : UInt8) (h : ¬ 0 ≤ Lib.indexByte l c) : cut1 l c = (l, [], false) := by rw [← cut1_index, if_neg h]
theorem indexByte_lt (l : List UInt8) (c : UInt8) : Lib.indexByte l c < l.length := by
  induction l with
  | nil => simp [Lib.indexByte]
  | cons b l ih =>
    unfold Lib.indexByte
    by_cases h : b == c
    · simp [h]; try omega
    · by_cases h2 : Lib.indexByte l c == -1
      · simp [h, h2]; try omega
      · simp [h, h2]; try omega
theorem ret_cut {a b a' b' : ByteArray} {t t' : Bool} (h1 : a = a') (h2 : b = b') (h3 : t = t') : Ending.returned (.tuple #[.string a, .string b, .bool t]) = .returned (.tuple #[.string a', .string b', .bool t']) := by rw [h1, h2, h3]
theorem ext_take (s : ByteArray) (n : Nat) : s.extract 0 n = ⟨(s.data.toList.take n).toArray⟩ := by
  apply WideShapes.bytes_inj
  simp [ByteArray.data_extract]
theorem ext_drop (s : ByteArray) (n : Nat) : s.extract n s.size = ⟨(s.data.toList.drop n).toArray⟩ := by
  apply WideShapes.bytes_inj
  rw [Lib.extract_to_end]
theorem all_of (s : ByteArray) : s = ⟨(s.data.toList).toArray⟩ := by simp
end Go.Proofs.YtdladbdcpnkggaaGreatDoor
