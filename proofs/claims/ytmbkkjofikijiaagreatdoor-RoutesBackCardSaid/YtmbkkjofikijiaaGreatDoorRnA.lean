/- numbersMay, isName and write of package routes: whether numbers may be written, whether a text is a name, words put behind a text. Under the conditions that they name. -/
import Derived.Test.YtmbkkjofikijiaaGreatDoorText
import Derived.Test.YtmbkkjofikijiaaGreatDoorFlW
import Derived.Shelf.Strings.SlTrimAscii
import Derived.Lib.ItoaMem
import Derived.Lib.OthersKept
import Derived.Lib.OwnKind
import Derived.Deep.AppendLies
namespace Go.Proofs.YtmbkkjofikijiaaGreatDoor
open Go.RowKit
def encI (x : Int) : List Value := [.int .i64 x]
def okN (least x : Int) : Bool := decide (least ≤ x) && decide (x ≤ 2147483647)
set_option maxHeartbeats 1000000 in
theorem nums_is (least : Int) (l : List Int) (v : Value) (w : World) (hr : RdK encI 1 w v l) : Calls Tryz.prog 61 #[.int .i64 least, v] w fun e w' => e = .returned (.bool (l.all (okN least))) ∧ Below w.heap.size w w' := by
  obtain ⟨p, c, rfl, hlc, hcm, hp⟩ := hr.sl
  have HP := Lib.hid hp
  unfold maxLen at hcm
  clear hp hr
  go_enter Tryz.func61, Tryz.ntmps61
  go_wp2
  go_loopw [9] (fun i wr => ∃ k : Nat, k ≤ l.length ∧ i = .int .i64 k ∧ Hid (∀ (i : Nat) (n : Int), i < k → l[i]? = some n → okN least n = true) ∧ Below w.heap.size w wr) (fun i _ => l.length - (intOf i).toNat)
  case atStart => exact ⟨0, Nat.zero_le _, rfl, Lib.hid (fun i n h => by omega), Below.refl _ _⟩
  case round =>
    obtain ⟨k, hk, rfl, HA, hbw⟩ := hrel
    have HW := Lib.hid hbw
    clear hbw
    by_cases hlt : k < l.length
    · obtain ⟨n, hs⟩ : ∃ n, l[k]? = some n := ⟨_, List.getElem?_eq_getElem hlt⟩
      obtain ⟨b, o, rfl, hbs, hc⟩ := HP.out k n hs
      have c0 : wr.cell? ⟨b, o + k, none⟩ = some (.int .i64 n) := by have := hc wr HW.out 0 _ rfl; simpa using this
      have e1 : (0 : Int) ≤ (k : Int) := by omega
      have e2 : (k : Int) < (l.length : Int) := by omega
      have HS := Lib.hid hs
      clear hc hs
      by_cases h1 : n < least
      · have HE : Hid (l.all (okN least) = false) := Lib.hid (List.all_eq_false.2 ⟨n, List.mem_of_getElem? HS.out, by unfold okN; simp; omega⟩)
        go_wp2
        go_ret
        exact ⟨ret_bool HE.out.symm, HW.out⟩
      · by_cases h2 : 2147483647 < n
        · have HE : Hid (l.all (okN least) = false) := Lib.hid (List.all_eq_false.2 ⟨n, List.mem_of_getElem? HS.out, by unfold okN; simp; omega⟩)
          go_wp2
          go_ret
          exact ⟨ret_bool HE.out.symm, HW.out⟩
        · have HE : Hid (okN least n = true) := Lib.hid (by unfold okN; simp; omega)
          go_wp2
          go_roundw
          case rel =>
            refine ⟨k + 1, by omega, by go_num, Lib.hid fun i m hi h => ?_, HW.out⟩
            rcases Nat.lt_succ_iff_lt_or_eq.1 hi with h2 | rfl
            · exact HA.out i m h2 h
            · rw [HS.out] at h
              cases h
              exact HE.out
          case measure => simp [intOf]; omega
    · have HE : Hid (l.all (okN least) = true) := Lib.hid (List.all_eq_true.2 fun n hn => by
        obtain ⟨i, hi, e⟩ := List.mem_iff_getElem.1 hn
        exact HA.out i n (by omega) (by rw [List.getElem?_eq_getElem hi, e]))
      go_wp2
      go_ret
      exact ⟨ret_bool HE.out.symm, HW.out⟩
theorem trim_is (s : ByteArray) (h : s.size ≤ 9223372036854775807) (w : World) : Calls Tryz.prog 121 #[.string s, .string ⟨#[97, 98, 99, 100, 101, 102, 103, 104, 105, 106, 107, 108, 109, 110, 111, 112, 113, 114, 115, 116, 117, 118, 119, 120, 121, 122, 65, 66, 67, 68, 69, 70, 71, 72, 73, 74, 75, 76, 77, 78, 79, 80, 81, 82, 83, 84, 85, 86, 87, 88, 89, 90, 48, 49, 50, 51, 52, 53, 54, 55, 56, 57, 45, 95, 46, 47]⟩] w fun e w' => e = .returned (.string ⟨(Lib.trimS s.data.toList [97, 98, 99, 100, 101, 102, 103, 104, 105, 106, 107, 108, 109, 110, 111, 112, 113, 114, 115, 116, 117, 118, 119, 120, 121, 122, 65, 66, 67, 68, 69, 70, 71, 72, 73, 74, 75, 76, 77, 78, 79, 80, 81, 82, 83, 84, 85, 86, 87, 88, 89, 90, 48, 49, 50, 51, 52, 53, 54, 55, 56, 57, 45, 95, 46, 47]).toArray⟩) ∧ Below w.heap.size w w' :=
  Any.strings_Trim_laid Tryz.lays160 (by kernel_rfl) s ⟨#[97, 98, 99, 100, 101, 102, 103, 104, 105, 106, 107, 108, 109, 110, 111, 112, 113, 114, 115, 116, 117, 118, 119, 120, 121, 122, 65, 66, 67, 68, 69, 70, 71, 72, 73, 74, 75, 76, 77, 78, 79, 80, 81, 82, 83, 84, 85, 86, 87, 88, 89, 90, 48, 49, 50, 51, 52, 53, 54, 55, 56, 57, 45, 95, 46, 47]⟩ w h (by decide) (ascii_of_all (by decide))
end Go.Proofs.YtmbkkjofikijiaaGreatDoor
