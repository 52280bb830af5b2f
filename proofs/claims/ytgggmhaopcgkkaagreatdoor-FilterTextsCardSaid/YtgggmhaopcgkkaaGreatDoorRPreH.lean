/- What ParsePrefix of package waymarkref01 answers of a text of at most 1048576 bytes: what ParsePrefix of package addr does. -/
import Derived.Test.YtgggmhaopcgkkaaGreatDoorRPars
namespace Go.Proofs.YtgggmhaopcgkkaaGreatDoor
open Go.RowKit
theorem pparse_cut {l p r : List UInt8} (h : cut1 l 47 = (p, r, true)) : pparse l = match parse p, num r 32 with
    | some a, some n => if ck (a : Int) (n : Int) = 0 then ((a : Int), (n : Int), 0) else (0, 0, ck (a : Int) (n : Int))
    | _, _ => (0, 0, 4) := by
  unfold pparse
  rw [h]
  cases parse p <;> cases num r 32 <;> rfl
theorem pparse_no {l p r : List UInt8} (h : cut1 l 47 = (p, r, false)) : pparse l = (0, 0, 4) := by
  unfold pparse
  rw [h]
  cases parse p <;> cases num r 32 <;> rfl
set_option maxRecDepth 100000 in
set_option maxHeartbeats 400000 in
theorem rpparse_is (s : ByteArray) (w : World) (hs : s.size ≤ 1048576) :
    Calls Tryz.prog 26 #[.string s] w fun e w' => e = .returned (.tuple #[.agg #[.int .u32 (pparse s.data.toList).1, .int .i64 (pparse s.data.toList).2.1], .int .i64 (pparse s.data.toList).2.2]) ∧ Below w.heap.size w w' := by
  go_enter Tryz.func26, Tryz.ntmps26
  go_wp2_with fail
  go_loop [4] (fun s4 => ∃ k : Nat, k ≤ s.size ∧ s4 = .int .i64 k ∧ Hid ((47 : UInt8) ∉ s.data.toList.take k)) (fun s4 => s.size - (intOf s4).toNat)
  case atStart => exact ⟨0, by omega, rfl, Lib.hid (by simp)⟩
  case round =>
    obtain ⟨k, hk, rfl, HNO⟩ := hrel
    by_cases hlt : k < s.size
    · have hkl : k < s.data.toList.length := by rw [str_toList]; exact hlt
      have hget := get_at s k hlt hkl
      by_cases hc : s[k]'hlt = 47
      · have hc1 : (((s[k]'hlt).toNat : Int) == 47) = true := by rw [hc]; rfl
        have hcut : cut1 s.data.toList 47 = (s.data.toList.take k, s.data.toList.drop (k + 1), true) := by
          have e : s.data.toList = s.data.toList.take k ++ 47 :: s.data.toList.drop (k + 1) := by
            have h := List.take_append_drop k s.data.toList
            rw [List.drop_eq_getElem_cons hkl, hget, hc] at h
            exact h.symm
          have h := cut1_mk _ (s.data.toList.drop (k + 1)) 47 HNO.out
          rw [← e] at h
          exact h
        have e1 : (s.extract 0 k).data.toList = s.data.toList.take k := by rw [ext_take, mk_toList]
        have e2 : (s.extract (k + 1) s.size).data.toList = s.data.toList.drop (k + 1) := by rw [ext_drop, mk_toList]
        have h1 := fun w => rsplit (s.extract 0 k) w (by rw [ByteArray.size_extract]; omega)
        have h2 : ∀ w : World, Calls Tryz.prog 25 #[.string (s.extract (k + 1) s.size), .int .i64 32] w fun e w' => e = .returned (.int .i64 (numR (num (s.data.toList.drop (k + 1)) 32))) ∧ w = w' := fun w => by
          have h := read_is (s.extract (k + 1) s.size) 32 w (by omega) (by rw [ByteArray.size_extract]; omega)
          rw [e2] at h
          exact h
        rw [e1] at h1
        have hP := pparse_cut hcut
        clear hget hc e1 e2 hcut
        cases ha : parse (s.data.toList.take k) with
        | none =>
          simp only [ha, adrI] at h1
          have HP : Hid (pparse s.data.toList = (0, 0, 4)) := Lib.hid (by rw [hP, ha])
          have H1 := Lib.hid h1
          have H2 := Lib.hid h2
          clear h1 h2 hP ha
          go_wp2_with (first
            | (go_at_call 44; (with_reducible refine (H1.out _).mono ?_); rintro e w2 ⟨rfl, hb2⟩; have hz2 := hb2.size; (try simp at hz2); obtain ⟨hc2, hf2⟩ := bcell hb2; have hy0 : w.heap.size < w2.heap.size := (by omega))
            | (go_at_call 25; (with_reducible refine (H2.out _).mono ?_); rintro e w' ⟨rfl, rfl⟩))
          refine bodyPost_ret (by simp [results, Tryz.results26, go_sem, hc2, hy0]; try rfl) rfl ?_
          exact ⟨ret_pp HP.out, ((Below.step (by go_grown) hb2).setCell (by go_size) _).setCell (by go_size) _⟩
        | some a =>
          have hlt2 := parse_lt ha
          simp only [ha, adrI] at h1
          have H1 := Lib.hid h1
          clear h1
          cases hn : num (s.data.toList.drop (k + 1)) 32 with
          | none =>
            simp only [hn, numR] at h2
            have HP : Hid (pparse s.data.toList = (0, 0, 4)) := Lib.hid (by rw [hP, ha, hn])
            have H2 := Lib.hid h2
            clear h2 hP ha hn
            go_wp2_with (first
              | (go_at_call 44; (with_reducible refine (H1.out _).mono ?_); rintro e w2 ⟨rfl, hb2⟩; have hz2 := hb2.size; (try simp at hz2); obtain ⟨hc2, hf2⟩ := bcell hb2; have hy0 : w.heap.size < w2.heap.size := (by omega))
              | (go_at_call 25; (with_reducible refine (H2.out _).mono ?_); rintro e w' ⟨rfl, rfl⟩))
            refine bodyPost_ret (by simp [results, Tryz.results26, go_sem, hc2, hy0]; try rfl) rfl ?_
            exact ⟨ret_pp HP.out, ((Below.step (by go_grown) hb2).setCell (by go_size) _).setCell (by go_size) _⟩
          | some n =>
            have hn32 := (num_some hn).2.2.2.1
            simp only [hn, numR] at h2
            have H2 := Lib.hid h2
            have hck := ck_three (a : Int) (n : Int)
            have hK := fun w => rcheck_is (a : Int) (n : Int) w (by omega) (by omega)
            by_cases hc0 : ck (a : Int) (n : Int) = 0
            · have HP : Hid (pparse s.data.toList = ((a : Int), (n : Int), 0)) := Lib.hid (by rw [hP, ha, hn]; simp only [hc0, if_true])
              rw [hc0] at hK
              have HK := Lib.hid hK
              clear h2 hP ha hn hck hc0 hK
              go_wp2_with (first
                | (go_at_call 44; (with_reducible refine (H1.out _).mono ?_); rintro e w2 ⟨rfl, hb2⟩; have hz2 := hb2.size; (try simp at hz2); obtain ⟨hc2, hf2⟩ := bcell hb2; have hy0 : w.heap.size < w2.heap.size := (by omega))
                | (go_at_call 25; (with_reducible refine (H2.out _).mono ?_); rintro e w' ⟨rfl, rfl⟩)
                | (go_at_call 37; (with_reducible refine (HK.out _).mono ?_); rintro e w3 ⟨rfl, hb3⟩; have hz3 := hb3.size; (try simp at hz3); obtain ⟨hc3, hf3⟩ := bcell hb3; have hx0 : w.heap.size < w3.heap.size := (by omega); have hx1 : w2.heap.size < w3.heap.size := (by omega); have hx2 : w.heap.size < w2.heap.size + 1 := (by omega)))
              refine bodyPost_ret (by simp [results, Tryz.results26, go_sem, hc2, hc3, hy0, hx1, hx2]; try rfl) rfl ?_
              exact ⟨ret_pp HP.out, ((Below.step ((Below.step (by go_grown) hb2).alloc (by go_size) _) hb3).setCell (by go_size) _).setCell (by go_size) _⟩
            · have h10 : ck (a : Int) (n : Int) = 10 := by rcases hck with ⟨_, h⟩ | ⟨h, _⟩ | ⟨h, _⟩ <;> omega
              have HP : Hid (pparse s.data.toList = (0, 0, 10)) := Lib.hid (by rw [hP, ha, hn]; simp only [h10]; rfl)
              rw [h10] at hK
              have HK := Lib.hid hK
              clear h2 hP ha hn hck hc0 hK h10
              go_wp2_with (first
                | (go_at_call 44; (with_reducible refine (H1.out _).mono ?_); rintro e w2 ⟨rfl, hb2⟩; have hz2 := hb2.size; (try simp at hz2); obtain ⟨hc2, hf2⟩ := bcell hb2; have hy0 : w.heap.size < w2.heap.size := (by omega))
                | (go_at_call 25; (with_reducible refine (H2.out _).mono ?_); rintro e w' ⟨rfl, rfl⟩)
                | (go_at_call 37; (with_reducible refine (HK.out _).mono ?_); rintro e w3 ⟨rfl, hb3⟩; have hz3 := hb3.size; (try simp at hz3); obtain ⟨hc3, hf3⟩ := bcell hb3; have hx0 : w.heap.size < w3.heap.size := (by omega); have hx1 : w2.heap.size < w3.heap.size := (by omega); have hx2 : w.heap.size < w2.heap.size + 1 := (by omega)))
              refine bodyPost_ret (by simp [results, Tryz.results26, go_sem, hc2, hc3, hy0, hx1, hx2]; try rfl) rfl ?_
              exact ⟨ret_pp HP.out, ((Below.step ((Below.step (by go_grown) hb2).alloc (by go_size) _) hb3).setCell (by go_size) _).setCell (by go_size) _⟩
      · have hc1 : (((s[k]'hlt).toNat : Int) == 47) = false := by
          simp only [beq_eq_false_iff_ne, ne_eq]
          exact fun h => hc (UInt8.toNat_inj.mp (by have h47 : (47 : UInt8).toNat = 47 := rfl; omega))
        have HN2 : Hid ((47 : UInt8) ∉ s.data.toList.take (k + 1)) := Lib.hid (by
          rw [List.take_succ_eq_append_getElem hkl, hget]
          simp only [List.mem_append, List.mem_singleton, not_or]
          exact ⟨HNO.out, fun h => hc h.symm⟩)
        clear hc hget
        go_wp2_with fail
        go_round
        case rel => exact ⟨k + 1, by omega, by go_num, HN2⟩
        case measure => first | (simp [intOf]; done) | (simp [intOf]; omega)
    · have HP : Hid (pparse s.data.toList = (0, 0, 4)) := Lib.hid (by
        have h := HNO.out
        rw [List.take_of_length_le (by rw [str_toList]; omega)] at h
        exact pparse_no (cut1_none _ _ h))
      go_wp2_with fail
      refine bodyPost_ret (by simp [results, Tryz.results26, go_sem]; try rfl) rfl ?_
      exact ⟨ret_pp HP.out, by go_grown⟩
end Go.Proofs.YtgggmhaopcgkkaaGreatDoor
