/- span of waymarkref02: the span that a text is. Conditions: the text is one that can be, the table of package strconv is what its text says. -/
import Derived.Test.YtbplkeopdfciiaaDoorSqU
namespace Go.Proofs.YtbplkeopdfciiaaDoor
open Go.RowKit
theorem rnum_of {s : ByteArray} {l : List UInt8} {A : Option Nat} {w : World} (hs : s.size ≤ 9223372036854775807) (hl : s.data.toList = l) (hA : rdN l = A) (ht : Tab10 w) : ∀ W, Below w.heap.size w W → Calls Tryd.prog 31 #[.string s] W fun e w' => ∃ x : Int, 0 ≤ x ∧ x < 4294967296 ∧ (∀ n : Nat, A = some n → x = n) ∧ e = .returned (.tuple #[.int .u32 x, .bool A.isSome]) ∧ Below W.heap.size W w' := fun W hW => by
  have := rnumber_is s W hs (ht.on hW)
  unfold RNum at this
  rw [hl, hA] at this
  exact this
set_option maxRecDepth 100000 in
set_option maxHeartbeats 2000000 in
theorem rspan_is (s : ByteArray) (w : World) (hs : s.size ≤ 9223372036854775807) (ht : Tab10 w) : Calls Tryd.prog 19 #[.string s] w (SpanPost s.data.toList w) := by
  obtain ⟨L, hL⟩ : ∃ L, s.data.toList = L := ⟨_, rfl⟩
  have hlen : L.length = s.size := by rw [← hL, str_toList]
  rw [hL]
  have HT := Lib.hid ht; have HL := Lib.hid hL
  clear ht hL
  go_enter Tryd.func19, Tryd.ntmps19
  go_wp2_with fail
  obtain ⟨W1, hW1⟩ : ∃ X, w.alloc (.cells #[.int .u32 0, .int .u32 0] 33) = X := ⟨_, rfl⟩
  have hb1 : Below w.heap.size w W1 := by rw [← hW1]; exact (Below.refl _ _).alloc (Nat.le_refl _) _
  have hx1 : W1.heap[w.heap.size]? = some (.cells #[.int .u32 0, .int .u32 0] 33 (0, 0)) := by rw [← hW1]; exact heap_new _ _
  rw [hW1]
  have HB1 := Lib.hid hb1; have HX1 := Lib.hid hx1
  clear hW1 hb1 hx1
  go_loop [4] (fun i => ∃ k : Nat, k ≤ s.size ∧ i = .int .i64 k ∧ Hid ((45 : UInt8) ∉ L.take k)) (fun i => s.size - (intOf i).toNat)
  case atStart => exact ⟨0, by omega, rfl, Lib.hid (by simp)⟩
  case round =>
    obtain ⟨k, hk, rfl, HA⟩ := hrel
    by_cases hlt : k < s.size
    · have hkl : k < L.length := by omega
      have hget : L[k]'hkl = s[k]'hlt := by
        have := get_at s k hlt (by rw [str_toList]; exact hlt)
        simp only [HL.out] at this
        exact this
      have hb := (s[k]'hlt).toNat_lt
      by_cases hd : (s[k]'hlt) = 45
      · have hcc : (((s[k]'hlt).toNat : Int) == 45) = true := by rw [hd]; rfl
        have hsp : L = L.take k ++ 45 :: L.drop (k + 1) := by
          have h1 : L = L.take k ++ L.drop k := (List.take_append_drop k L).symm
          rw [List.drop_eq_getElem_cons hkl, hget, hd] at h1
          exact h1
        have hcut : cut1 L 45 = (L.take k, L.drop (k + 1), true) := by
          have := cut1_mk (L.take k) (L.drop (k + 1)) 45 HA.out
          rw [← hsp] at this
          exact this
        obtain ⟨a, ha⟩ : ∃ a, L.take k = a := ⟨_, rfl⟩
        obtain ⟨b, hbb⟩ : ∃ b, L.drop (k + 1) = b := ⟨_, rfl⟩
        obtain ⟨sa, hsa⟩ : ∃ x : ByteArray, s.extract 0 k = x := ⟨_, rfl⟩
        obtain ⟨sb, hsb⟩ : ∃ x : ByteArray, s.extract (k + 1) s.size = x := ⟨_, rfl⟩
        have hsal : sa.data.toList = a := by rw [← hsa, ext_take, HL.out, ← ha]
        have hsbl : sb.data.toList = b := by rw [← hsb, ext_drop, HL.out, ← hbb]
        have hsaz : sa.size ≤ 9223372036854775807 := by rw [← str_toList, hsal, ← ha, List.length_take]; omega
        have hsbz : sb.size ≤ 9223372036854775807 := by rw [← str_toList, hsbl, ← hbb, List.length_drop]; omega
        obtain ⟨A, hA⟩ : ∃ A, rdN a = A := ⟨_, rfl⟩
        obtain ⟨B, hB⟩ : ∃ B, rdN b = B := ⟨_, rfl⟩
        have HN1 := Lib.hid (rnum_of hsaz hsal hA HT.out)
        have HN2 := Lib.hid (rnum_of hsbz hsbl hB HT.out)
        have HR := Lib.hid (rdS_yes (l := L) (A := A) (B := B) (by rw [hcut]) (by rw [hcut]; simp only; rw [ha]; exact hA) (by rw [hcut]; simp only; rw [hbb]; exact hB))
        clear hget hd hsp hcut ha hbb hsal hsbl hsaz hsbz hA hB hkl
        go_wp2_with fail
        go_at_call 31
        refine (HN1.out W1 HB1.out).mono ?_
        rintro e w2 ⟨x, hx10, hx11, hx1a, rfl, hb1⟩
        have HBw2 : Hid (Below w.heap.size w w2) := Lib.hid (Below.step HB1.out hb1)
        have HXw2 : Hid (w2.heap[w.heap.size]? = some (.cells #[.int .u32 0, .int .u32 0] 33 (0, 0))) := Lib.hid ((hb1.block _ (Array.getElem?_eq_some_iff.1 HX1.out).1).trans HX1.out)
        have HXA1 := Lib.hid hx1a
        clear hb1 hx1a
        go_wp2_with fail
        go_at_call 31
        refine (HN2.out w2 HBw2.out).mono ?_
        rintro e w3 ⟨y, hx20, hx21, hx2a, rfl, hb2⟩
        have HBw3 : Hid (Below w.heap.size w w3) := Lib.hid (Below.step HBw2.out hb2)
        have HXw3 : Hid (w3.heap[w.heap.size]? = some (.cells #[.int .u32 0, .int .u32 0] 33 (0, 0))) := Lib.hid ((hb2.block _ (Array.getElem?_eq_some_iff.1 HXw2.out).1).trans HXw2.out)
        have HXA2 := Lib.hid hx2a
        clear hb2 hx2a
        rcases A with _ | n <;> rcases B with _ | m
        · rw [show (none : Option Nat).isSome = false from rfl]
          have c0 := cell_of_row _ _ 0 _ _ (0, 0) HXw3.out
          have c1 := cell_of_row _ _ 1 _ _ (0, 0) HXw3.out
          have f0 := frozen_of_row _ _ 0 _ _ HXw3.out
          have f1 := frozen_of_row _ _ 1 _ _ HXw3.out
          go_wp2_with fail
          have hd := two_at HXw3.out (.int .u32 x) (.int .u32 y)
          refine bodyPost_ret (v := .tuple #[.agg #[.int .u32 x, .int .u32 y], .bool false]) (by simp [results, Tryd.results19, go_sem, hd.1, hd.2]) rfl ?_
          exact post_of HR.out ⟨hx10, hx11⟩ ⟨hx20, hx21⟩ (fun t h => by cases h) rfl (two_below HBw3.out _ _)
        · rw [show (none : Option Nat).isSome = false from rfl, show (some m : Option Nat).isSome = true from rfl]
          have c0 := cell_of_row _ _ 0 _ _ (0, 0) HXw3.out
          have c1 := cell_of_row _ _ 1 _ _ (0, 0) HXw3.out
          have f0 := frozen_of_row _ _ 0 _ _ HXw3.out
          have f1 := frozen_of_row _ _ 1 _ _ HXw3.out
          go_wp2_with fail
          have hd := two_at HXw3.out (.int .u32 x) (.int .u32 y)
          refine bodyPost_ret (v := .tuple #[.agg #[.int .u32 x, .int .u32 y], .bool false]) (by simp [results, Tryd.results19, go_sem, hd.1, hd.2]) rfl ?_
          exact post_of HR.out ⟨hx10, hx11⟩ ⟨hx20, hx21⟩ (fun t h => by cases h) rfl (two_below HBw3.out _ _)
        · rw [show (some n : Option Nat).isSome = true from rfl, show (none : Option Nat).isSome = false from rfl]
          have c0 := cell_of_row _ _ 0 _ _ (0, 0) HXw3.out
          have c1 := cell_of_row _ _ 1 _ _ (0, 0) HXw3.out
          have f0 := frozen_of_row _ _ 0 _ _ HXw3.out
          have f1 := frozen_of_row _ _ 1 _ _ HXw3.out
          go_wp2_with fail
          have hd := two_at HXw3.out (.int .u32 x) (.int .u32 y)
          refine bodyPost_ret (v := .tuple #[.agg #[.int .u32 x, .int .u32 y], .bool false]) (by simp [results, Tryd.results19, go_sem, hd.1, hd.2]) rfl ?_
          exact post_of HR.out ⟨hx10, hx11⟩ ⟨hx20, hx21⟩ (fun t h => by cases h) rfl (two_below HBw3.out _ _)
        · rw [show (some n : Option Nat).isSome = true from rfl, show (some m : Option Nat).isSome = true from rfl]
          have e1 := HXA1.out n rfl
          have e2 := HXA2.out m rfl
          by_cases hlt2 : n < m
          · have hik : x < y := by omega
            have HP : Hid (pairN (some n) (some m) = some (n, m)) := Lib.hid (if_pos hlt2)
            have E1 := Lib.hid e1; have E2 := Lib.hid e2
            clear e1 e2 hlt2
            have c0 := cell_of_row _ _ 0 _ _ (0, 0) HXw3.out
            have c1 := cell_of_row _ _ 1 _ _ (0, 0) HXw3.out
            have f0 := frozen_of_row _ _ 0 _ _ HXw3.out
            have f1 := frozen_of_row _ _ 1 _ _ HXw3.out
            go_wp2_with fail
            have hd := two_at HXw3.out (.int .u32 x) (.int .u32 y)
            refine bodyPost_ret (v := .tuple #[.agg #[.int .u32 x, .int .u32 y], .bool true]) (by simp [results, Tryd.results19, go_sem, hd.1, hd.2]) rfl ?_
            exact post_of (HR.out.trans HP.out) ⟨hx10, hx11⟩ ⟨hx20, hx21⟩ (fun t h => by cases h; exact ⟨E1.out, E2.out⟩) rfl (two_below HBw3.out _ _)
          · have hik : ¬ x < y := by omega
            have HP : Hid (pairN (some n) (some m) = none) := Lib.hid (if_neg hlt2)
            clear e1 e2 hlt2
            have c0 := cell_of_row _ _ 0 _ _ (0, 0) HXw3.out
            have c1 := cell_of_row _ _ 1 _ _ (0, 0) HXw3.out
            have f0 := frozen_of_row _ _ 0 _ _ HXw3.out
            have f1 := frozen_of_row _ _ 1 _ _ HXw3.out
            go_wp2_with fail
            have hd := two_at HXw3.out (.int .u32 x) (.int .u32 y)
            refine bodyPost_ret (v := .tuple #[.agg #[.int .u32 x, .int .u32 y], .bool false]) (by simp [results, Tryd.results19, go_sem, hd.1, hd.2]; omega) rfl ?_
            exact post_of (HR.out.trans HP.out) ⟨hx10, hx11⟩ ⟨hx20, hx21⟩ (fun t h => by cases h) rfl (two_below HBw3.out _ _)
      · have hcc : (((s[k]'hlt).toNat : Int) == 45) = false := by
          simp only [beq_eq_false_iff_ne, ne_eq]
          exact fun h => hd (UInt8.toNat_inj.mp (by have h45 : (45 : UInt8).toNat = 45 := rfl; omega))
        have HA2 : Hid ((45 : UInt8) ∉ L.take (k + 1)) := Lib.hid (by
          rw [List.take_succ_eq_append_getElem hkl, hget]
          intro hm
          rcases List.mem_append.1 hm with hm | hm
          · exact HA.out hm
          · simp at hm; exact hd hm.symm)
        clear hget hd hkl
        go_wp2_with fail
        go_round
        case rel => exact ⟨k + 1, by omega, by go_num, HA2⟩
        case measure => simp [intOf]; omega
    · have hks : k = s.size := by omega
      have hfull : L.take k = L := List.take_of_length_le (by omega)
      rw [hfull] at HA
      obtain ⟨A, hA⟩ : ∃ A, rdN L = A := ⟨_, rfl⟩
      have HR := Lib.hid (rdS_no (A := A) (by rw [cut1_none L 45 HA.out]) hA)
      have HN1 := Lib.hid (rnum_of hs HL.out hA HT.out)
      subst hks
      clear hlt hfull hA
      go_wp2_with fail
      go_at_call 31
      refine (HN1.out W1 HB1.out).mono ?_
      rintro e w2 ⟨x, hx10, hx11, hx1a, rfl, hb1⟩
      have HBw2 : Hid (Below w.heap.size w w2) := Lib.hid (Below.step HB1.out hb1)
      have HXw2 : Hid (w2.heap[w.heap.size]? = some (.cells #[.int .u32 0, .int .u32 0] 33 (0, 0))) := Lib.hid ((hb1.block _ (Array.getElem?_eq_some_iff.1 HX1.out).1).trans HX1.out)
      have HXA1 := Lib.hid hx1a
      clear hb1 hx1a
      rcases A with _ | n
      · rw [show (none : Option Nat).isSome = false from rfl]
        have c0 := cell_of_row _ _ 0 _ _ (0, 0) HXw2.out
        have c1 := cell_of_row _ _ 1 _ _ (0, 0) HXw2.out
        have f0 := frozen_of_row _ _ 0 _ _ HXw2.out
        have f1 := frozen_of_row _ _ 1 _ _ HXw2.out
        go_wp2_with fail
        have hd := two_at HXw2.out (.int .u32 x) (.int .u32 x)
        refine bodyPost_ret (v := .tuple #[.agg #[.int .u32 x, .int .u32 x], .bool false]) (by simp [results, Tryd.results19, go_sem, hd.1, hd.2]) rfl ?_
        exact post_of HR.out ⟨hx10, hx11⟩ ⟨hx10, hx11⟩ (fun t h => by cases h) rfl (two_below HBw2.out _ _)
      · rw [show (some n : Option Nat).isSome = true from rfl]
        have E1 := Lib.hid (HXA1.out n rfl)
        have c0 := cell_of_row _ _ 0 _ _ (0, 0) HXw2.out
        have c1 := cell_of_row _ _ 1 _ _ (0, 0) HXw2.out
        have f0 := frozen_of_row _ _ 0 _ _ HXw2.out
        have f1 := frozen_of_row _ _ 1 _ _ HXw2.out
        go_wp2_with fail
        have hd := two_at HXw2.out (.int .u32 x) (.int .u32 x)
        refine bodyPost_ret (v := .tuple #[.agg #[.int .u32 x, .int .u32 x], .bool true]) (by simp [results, Tryd.results19, go_sem, hd.1, hd.2]) rfl ?_
        exact post_of HR.out ⟨hx10, hx11⟩ ⟨hx10, hx11⟩ (fun t h => by cases h; exact ⟨E1.out, E1.out⟩) rfl (two_below HBw2.out _ _)
end Go.Proofs.YtbplkeopdfciiaaDoor
