/- isName and routeMay of package routes at any text, any route. Under the conditions that they name. -/
import Derived.Test.YtmbkkjofikijiaaGreatDoorRbM
import Derived.Test.YtmbkkjofikijiaaGreatDoorRaT
namespace Go.Proofs.YtmbkkjofikijiaaGreatDoor
open Go.RowKit
theorem isE_false {s : ByteArray} (h : s.data.toList ≠ []) : s.toList.isEmpty = false := by
  rw [ByteArray.toList_eq]; cases h2 : s.data.toList with
  | nil => exact absurd h2 h
  | cons x l => rfl
theorem isE_true {s : ByteArray} (h : s.data.toList = []) : s.toList.isEmpty = true := by
  rw [ByteArray.toList_eq, h]; rfl
set_option maxRecDepth 100000 in
set_option maxHeartbeats 1000000 in
theorem name_any (s : ByteArray) (hs : s.size ≤ 9223372036854775807) (w : World) : Calls Tryz.prog 62 #[.string s] w fun e w' => e = .returned (.bool (isNm s.data.toList)) ∧ Below w.heap.size w w' := by
  obtain ⟨r, hr⟩ : ∃ r, isNm s.data.toList = r := ⟨_, rfl⟩
  have HR := Lib.hid hr
  rw [hr]
  clear hr
  by_cases h0 : s.data.toList = []
  · have e1 := isE_true h0
    have hr : r = false := by rw [← HR.out]; unfold isNm; rw [h0]; rfl
    have HQ := Lib.hid hr
    clear h0 hr
    go_enter Tryz.func62, Tryz.ntmps62
    go_wp2_with fail
    go_ret
    exact ⟨ret_bool HQ.out.symm, Below.refl _ _⟩
  · have e1 := isE_false h0
    have hpos : 0 < s.size := by have := List.length_pos_iff.2 h0; rw [str_toList] at this; exact this
    by_cases h1 : s.size ≤ 32
    · have hh := head_at s hpos
      have h1z : (s.size : Int) ≤ 32 := by omega
      obtain ⟨c, hc⟩ : ∃ c, s[0]'hpos = c := ⟨_, rfl⟩
      rw [hc] at hh
      have hi := Tryz.strings_IndexByte ⟨#[97, 98, 99, 100, 101, 102, 103, 104, 105, 106, 107, 108, 109, 110, 111, 112, 113, 114, 115, 116, 117, 118, 119, 120, 121, 122, 65, 66, 67, 68, 69, 70, 71, 72, 73, 74, 75, 76, 77, 78, 79, 80, 81, 82, 83, 84, 85, 86, 87, 88, 89, 90]⟩ (c.toNat : Int) w
      rw [show ((c.toNat : Int)).toNat.toUInt8 = c by simp] at hi
      have ht := trim_is s (by omega)
      obtain ⟨ix, hix⟩ : ∃ ix, Lib.indexByte ltrs c = ix := ⟨_, rfl⟩
      obtain ⟨T, hT⟩ : ∃ T, Lib.trimS s.data.toList inN = T := ⟨_, rfl⟩
      rw [show Lib.indexByte (⟨#[97, 98, 99, 100, 101, 102, 103, 104, 105, 106, 107, 108, 109, 110, 111, 112, 113, 114, 115, 116, 117, 118, 119, 120, 121, 122, 65, 66, 67, 68, 69, 70, 71, 72, 73, 74, 75, 76, 77, 78, 79, 80, 81, 82, 83, 84, 85, 86, 87, 88, 89, 90]⟩ : ByteArray).data.toList c = ix from hix] at hi
      have hrr : isNm s.data.toList = (decide (0 ≤ ix) && (T == [])) := by
        unfold isNm
        rw [hh, hT]
        simp only [hix]
        rw [decide_eq_true h0, decide_eq_true (show s.data.toList.length ≤ 32 by rw [str_toList]; exact h1)]
        simp
      rw [HR.out] at hrr
      have HT : Hid (∀ W, Calls Tryz.prog 121 #[.string s, .string ⟨#[97, 98, 99, 100, 101, 102, 103, 104, 105, 106, 107, 108, 109, 110, 111, 112, 113, 114, 115, 116, 117, 118, 119, 120, 121, 122, 65, 66, 67, 68, 69, 70, 71, 72, 73, 74, 75, 76, 77, 78, 79, 80, 81, 82, 83, 84, 85, 86, 87, 88, 89, 90, 48, 49, 50, 51, 52, 53, 54, 55, 56, 57, 45, 95, 46, 47]⟩] W fun e w' => e = .returned (.string ⟨T.toArray⟩) ∧ Below W.heap.size W w') := Lib.hid fun W => (ht W).mono fun e w' hh => ⟨hh.1.trans (by rw [← hT]; rfl), hh.2⟩
      have HI := Lib.hid hi
      clear hi ht hix hT hh
      by_cases h2 : 0 ≤ ix
      · cases T with
        | nil =>
          have HQ : Hid (r = true) := Lib.hid (by rw [hrr, decide_eq_true h2]; rfl)
          have e2 : (⟨([] : List UInt8).toArray⟩ : ByteArray).toList.isEmpty = true := isE_true rfl
          clear hrr
          go_enter Tryz.func62, Tryz.ntmps62
          go_wp2_with fail
          go_at_call 120
          (with_reducible refine HI.out.mono ?_)
          rintro e w1 ⟨rfl, rfl⟩
          go_wp2_with fail
          go_at_call 121
          (with_reducible refine (HT.out _).mono ?_)
          rintro e w2 ⟨rfl, hb⟩
          have HB := Lib.hid hb
          clear hb
          go_wp2
          go_ret
          exact ⟨ret_bool HQ.out.symm, HB.out⟩
        | cons t T =>
          have HQ : Hid (r = false) := Lib.hid (by rw [hrr, decide_eq_true h2]; rfl)
          have e2 : (⟨(t :: T).toArray⟩ : ByteArray).toList.isEmpty = false := isE_false (by simp)
          obtain ⟨U, hU⟩ : ∃ U, (⟨(t :: T).toArray⟩ : ByteArray) = U := ⟨_, rfl⟩
          rw [hU] at HT e2
          clear hrr hU
          go_enter Tryz.func62, Tryz.ntmps62
          go_wp2_with fail
          go_at_call 120
          (with_reducible refine HI.out.mono ?_)
          rintro e w1 ⟨rfl, rfl⟩
          go_wp2_with fail
          go_at_call 121
          (with_reducible refine (HT.out _).mono ?_)
          rintro e w2 ⟨rfl, hb⟩
          have HB := Lib.hid hb
          clear hb
          go_wp2
          go_ret
          exact ⟨ret_bool HQ.out.symm, HB.out⟩
      · have HQ : Hid (r = false) := Lib.hid (by rw [hrr, decide_eq_false h2]; rfl)
        clear hrr HT
        go_enter Tryz.func62, Tryz.ntmps62
        go_wp2_with fail
        go_at_call 120
        (with_reducible refine HI.out.mono ?_)
        rintro e w1 ⟨rfl, rfl⟩
        go_wp2_with fail
        go_ret
        exact ⟨ret_bool HQ.out.symm, Below.refl _ _⟩
    · have h1z : ¬ (s.size : Int) ≤ 32 := by omega
      have hr : r = false := by
        rw [← HR.out]; unfold isNm
        rw [decide_eq_false (show ¬ s.data.toList.length ≤ 32 by rw [str_toList]; exact h1)]
        simp
      have HQ := Lib.hid hr
      clear hr
      go_enter Tryz.func62, Tryz.ntmps62
      go_wp2_with fail
      go_ret
      exact ⟨ret_bool HQ.out.symm, Below.refl _ _⟩
set_option maxRecDepth 100000 in
set_option maxHeartbeats 4000000 in
theorem may_any (a b fr di me ta : Int) (nm : ByteArray) (ho : Int) (dc : Bool) (ha : 0 ≤ a) (ha2 : a < 4294967296) (hf : 0 ≤ fr) (hn : nm.size ≤ 9223372036854775807) (w : World) : Calls Tryz.prog 22 #[.agg #[.int .u32 a, .int .i64 b, .int .u8 fr, .int .i64 di, .int .i64 me, .int .i64 ta, .string nm, .int .u32 ho, .bool dc]] w fun e w' => e = .returned (.bool (mayR ⟨a, b, fr, di, me, ta, nm, ho, dc⟩)) ∧ Below w.heap.size w w' := by
  obtain ⟨r, hr⟩ : ∃ r, mayR ⟨a, b, fr, di, me, ta, nm, ho, dc⟩ = r := ⟨_, rfl⟩
  have HR := Lib.hid hr
  rw [hr]
  clear hr
  obtain ⟨W1, hW1⟩ : ∃ X, w.alloc (.cells #[.int .u32 a, .int .i64 b, .int .u8 fr, .int .i64 di, .int .i64 me, .int .i64 ta, .string nm, .int .u32 ho, .bool dc] 27) = X := ⟨_, rfl⟩
  have HB1 : Hid (Below w.heap.size w W1) := Lib.hid (by rw [← hW1]; exact (Below.refl _ _).alloc (Nat.le_refl _) _)
  have HX1 : Hid (W1.heap[w.heap.size]? = some (.cells #[.int .u32 a, .int .i64 b, .int .u8 fr, .int .i64 di, .int .i64 me, .int .i64 ta, .string nm, .int .u32 ho, .bool dc] 27 (0, 0))) := Lib.hid (by rw [← hW1]; exact heap_new' _ _)
  have HZ1 : Hid (w.heap.size < W1.heap.size) := Lib.hid (Array.getElem?_eq_some_iff.1 HX1.out).1
  have HCE : Hid (∀ W, Below W1.heap.size W1 W → W.cell? ⟨w.heap.size, 0, none⟩ = some (.int .u32 a) ∧ W.cell? ⟨w.heap.size, 1, none⟩ = some (.int .i64 b) ∧ W.cell? ⟨w.heap.size, 2, none⟩ = some (.int .u8 fr) ∧ W.cell? ⟨w.heap.size, 3, none⟩ = some (.int .i64 di) ∧ W.cell? ⟨w.heap.size, 4, none⟩ = some (.int .i64 me) ∧ W.cell? ⟨w.heap.size, 5, none⟩ = some (.int .i64 ta) ∧ W.cell? ⟨w.heap.size, 6, none⟩ = some (.string nm) ∧ W.cell? ⟨w.heap.size, 7, none⟩ = some (.int .u32 ho) ∧ W.cell? ⟨w.heap.size, 8, none⟩ = some (.bool dc)) := Lib.hid (fun W hb => by
    have e := (hb.block w.heap.size HZ1.out).trans HX1.out
    refine ⟨?_, ?_, ?_, ?_, ?_, ?_, ?_, ?_, ?_⟩ <;> (simp only [World.cell?, e]; rfl))
  obtain ⟨x0, x1, x2, x3, x4, x5, x6, x7, x8⟩ := HCE.out W1 (Below.refl _ _)
  have CK := Lib.hid (check_is a b W1 ha ha2)
  obtain ⟨k, hk⟩ : ∃ k, ck a b = k := ⟨_, rfl⟩
  rw [hk] at CK
  have HNA := Lib.hid fun W => name_any nm hn W
  obtain ⟨nb, hnb⟩ : ∃ x, isNm nm.data.toList = x := ⟨_, rfl⟩
  rw [hnb] at HNA
  obtain ⟨na, hna⟩ : ∃ x, ([di, me, ta] : List Int).all (okN 0) = x := ⟨_, rfl⟩
  go_enter Tryz.func22, Tryz.ntmps22
  go_wp2_with fail
  go_at_call 60
  refine CK.out.mono ?_
  rintro e w2 ⟨rfl, hb2⟩
  have HB2 := Lib.hid (hb2)
  clear hb2 x0 x1 x2 x3 x4 x5 x6 x7 x8
  obtain ⟨x0, x1, x2, x3, x4, x5, x6, x7, x8⟩ := HCE.out w2 HB2.out
  by_cases hk0 : k = 0
  case neg =>
    have HQ : Hid (r = false) := Lib.hid (by rw [← HR.out]; simp [mayR, hk, hk0])
    have hkb : (k == 0) = false := by simpa using hk0
    clear hk hna hnb
    go_wp2_with fail
    go_ret
    exact ⟨ret_bool HQ.out.symm, HB1.out.trans (HB2.out.mono HB1.out.size)⟩
  subst hk0
  by_cases h1 : 1 ≤ fr
  case neg =>
    have HQ : Hid (r = false) := Lib.hid (by rw [← HR.out]; simp [mayR, hk, h1])
    have h1b : fr < 1 := by omega
    clear hk hna hnb
    go_wp2_with fail
    go_ret
    exact ⟨ret_bool HQ.out.symm, HB1.out.trans (HB2.out.mono HB1.out.size)⟩
  by_cases h8 : fr ≤ 8
  case neg =>
    have HQ : Hid (r = false) := Lib.hid (by rw [← HR.out]; simp [mayR, hk, h1, h8])
    have h1b : ¬ fr < 1 := by omega
    clear hk hna hnb
    go_wp2_with fail
    go_ret
    exact ⟨ret_bool HQ.out.symm, HB1.out.trans (HB2.out.mono HB1.out.size)⟩
  have h1b : ¬ fr < 1 := by omega
  go_wp2_with fail
  go_at_call 61
  have hn2 := nums_is 0 [di, me, ta] _ _ (rdi w2 (n := 3) rfl (by simp))
  rw [hna] at hn2
  refine hn2.mono ?_
  rintro e w3 ⟨rfl, hb3⟩
  have HB3 := Lib.hid (Below.step (HB2.out.alloc HB2.out.size _) hb3)
  clear hb3 x0 x1 x2 x3 x4 x5 x6 x7 x8
  obtain ⟨x0, x1, x2, x3, x4, x5, x6, x7, x8⟩ := HCE.out w3 HB3.out
  clear hn2
  cases na with
  | false =>
    have HQ : Hid (r = false) := Lib.hid (by rw [← HR.out]; simp [mayR, hk, h1, h8, hna])
    clear hk hna hnb
    go_wp2_with fail
    go_ret
    exact ⟨ret_bool HQ.out.symm, HB1.out.trans (HB3.out.mono HB1.out.size)⟩
  | true =>
    by_cases h0 : nm.data.toList = []
    case pos =>
      have e1 := isE_true h0
      cases dc with
      | false =>
        have HQ : Hid (r = true) := Lib.hid (by rw [← HR.out]; simp [mayR, hk, h1, h8, hna, h0])
        clear hk hna hnb
        go_wp2_with fail
        go_ret
        exact ⟨ret_bool HQ.out.symm, HB1.out.trans (HB3.out.mono HB1.out.size)⟩
      | true =>
        by_cases hh : ho = 0
        case neg =>
          have HQ : Hid (r = false) := Lib.hid (by rw [← HR.out]; simp [mayR, hk, h1, h8, hna, hh, h0])
          have hhb : (ho != 0) = true := by simpa using hh
          clear hk hna hnb
          go_wp2_with fail
          go_ret
          exact ⟨ret_bool HQ.out.symm, HB1.out.trans (HB3.out.mono HB1.out.size)⟩
        have hhb : (ho != 0) = false := by simpa using hh
        have HQ : Hid (r = true) := Lib.hid (by rw [← HR.out]; simp [mayR, hk, h1, h8, hna, hh, h0])
        clear hk hna hnb
        go_wp2_with fail
        go_ret
        exact ⟨ret_bool HQ.out.symm, HB1.out.trans (HB3.out.mono HB1.out.size)⟩
    have e1 := isE_false h0
    go_wp2_with fail
    go_at_call 62
    refine (HNA.out _).mono ?_
    rintro e w4 ⟨rfl, hb4⟩
    have HB4 := Lib.hid (Below.step HB3.out hb4)
    clear hb4 x0 x1 x2 x3 x4 x5 x6 x7 x8
    obtain ⟨x0, x1, x2, x3, x4, x5, x6, x7, x8⟩ := HCE.out w4 HB4.out
    cases nb with
    | false =>
      have HQ : Hid (r = false) := Lib.hid (by rw [← HR.out]; simp [mayR, hk, h1, h8, hna, h0, hnb])
      clear hk hna hnb
      go_wp2_with fail
      go_ret
      exact ⟨ret_bool HQ.out.symm, HB1.out.trans (HB4.out.mono HB1.out.size)⟩
    | true =>
      cases dc with
      | false =>
        have HQ : Hid (r = true) := Lib.hid (by rw [← HR.out]; simp [mayR, hk, h1, h8, hna, h0, hnb])
        clear hk hna hnb
        go_wp2_with fail
        go_ret
        exact ⟨ret_bool HQ.out.symm, HB1.out.trans (HB4.out.mono HB1.out.size)⟩
      | true =>
        by_cases hh : ho = 0
        case neg =>
          have HQ : Hid (r = false) := Lib.hid (by rw [← HR.out]; simp [mayR, hk, h1, h8, hna, hh, h0, hnb])
          have hhb : (ho != 0) = true := by simpa using hh
          clear hk hna hnb
          go_wp2_with fail
          go_ret
          exact ⟨ret_bool HQ.out.symm, HB1.out.trans (HB4.out.mono HB1.out.size)⟩
        have hhb : (ho != 0) = false := by simpa using hh
        have HQ : Hid (r = false) := Lib.hid (by rw [← HR.out]; simp [mayR, hk, h1, h8, hna, hh, h0, hnb])
        clear hk hna hnb
        go_wp2_with fail
        go_ret
        exact ⟨ret_bool HQ.out.symm, HB1.out.trans (HB4.out.mono HB1.out.size)⟩
end Go.Proofs.YtmbkkjofikijiaaGreatDoor
