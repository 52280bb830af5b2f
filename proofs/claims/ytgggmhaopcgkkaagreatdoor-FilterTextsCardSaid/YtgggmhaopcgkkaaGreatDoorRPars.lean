/- What Parse of package waymarkref01 answers of a text of at most 1048576 bytes: what Parse of package addr does. -/
import Derived.Test.YtgggmhaopcgkkaaGreatDoorRSpl
import Derived.Test.YtgggmhaopcgkkaaGreatDoorOwnRow
import Derived.Deep.CutBlock
namespace Go.Proofs.YtgggmhaopcgkkaaGreatDoor
open Go.RowKit
/-- How far the text has been cut: k bytes are read, the piece begun at f; d are the pieces before it. -/
def SplRel (s : ByteArray) (w wr : World) (s4 s5 s6 : Value) : Prop := ∃ (k f : Nat) (d : List (List UInt8)) (v : Value), s4 = v ∧ s5 = .int .i64 f ∧ s6 = .int .i64 k ∧ k ≤ s.size + 1 ∧ f ≤ s.size + 1 ∧ d.length ≤ f ∧ wr.ownsRow w.heap.size 9 1 v d.length (d.map strV) ∧ Below w.heap.size w wr ∧
    Hid (k ≤ s.size → f ≤ k ∧ spl s.data.toList = d ++ spl (s.data.toList.drop f) ∧ 46 ∉ (s.data.toList.drop f).take (k - f)) ∧ Hid (k = s.size + 1 → spl s.data.toList = d)
theorem drop_piece (l : List UInt8) (f k : Nat) (h1 : f ≤ k) (h2 : k < l.length) : l.drop f = (l.drop f).take (k - f) ++ l[k] :: l.drop (k + 1) := by
  have e1 : (l.drop f).drop (k - f) = l.drop k := by rw [List.drop_drop]; congr 1; omega
  have e2 := List.take_append_drop (k - f) (l.drop f)
  rw [e1, List.drop_eq_getElem_cons h2] at e2
  exact e2.symm
theorem take_piece (l : List UInt8) (f k : Nat) (h1 : f ≤ k) (h2 : k < l.length) : (l.drop f).take (k + 1 - f) = (l.drop f).take (k - f) ++ [l[k]] := by
  rw [show k + 1 - f = (k - f) + 1 by omega, List.take_succ_eq_append_getElem (by simp; omega)]
  congr 2
  simp
  congr 1
  omega
set_option maxRecDepth 100000 in
set_option maxHeartbeats 400000 in
theorem rsplit (s : ByteArray) (w : World) (hs : s.size ≤ 1048576) :
    Calls Tryz.prog 44 #[.string s] w fun e w' => e = .returned (.tuple #[.int .u32 (adrI (parse s.data.toList)).1, .int .i64 (adrI (parse s.data.toList)).2]) ∧ Below w.heap.size w w' := by
  go_enter Tryz.func44, Tryz.ntmps44
  go_wp2_with fail
  go_loopw [4, 5, 6] (fun s4 s5 s6 wr => SplRel s w wr s4 s5 s6) (fun _ _ s6 _ => s.size + 1 - (intOf s6).toNat)
  case atStart => exact ⟨0, 0, [], _, rfl, rfl, rfl, by omega, by omega, by simp, World.ownsRow_nil _ _ _ _, Below.refl _ _, Lib.hid fun _ => ⟨Nat.le_refl _, by simp, by simp⟩, Lib.hid fun h => by omega⟩
  case round =>
    obtain ⟨k, f, d, v, rfl, rfl, rfl, hk, hf, hd, hown, hbw, H1, H2⟩ := hrel
    have hle := hbw.size
    obtain ⟨i0, hi0, hz0, hz1, hz2⟩ := info_parts infoS
    by_cases hlt : k ≤ s.size
    · obtain ⟨hfk, hsp, hno⟩ := H1.out hlt
      have HSP := Lib.hid hsp
      have HNO := Lib.hid hno
      clear H1 H2 hsp hno
      by_cases hend : k = s.size
      · subst hend
        have HF : Hid (spl s.data.toList = d ++ [(s.data.toList.drop f).take (s.size - f)]) := Lib.hid (by
          rw [HSP.out]
          have e : (s.data.toList.drop f).take (s.size - f) = s.data.toList.drop f := List.take_of_length_le (by simp)
          have h := HNO.out
          rw [e] at h ⊢
          rw [spl_none _ h])
        go_wp2_with (first
          | (at_builtin; refine wpList_append_own _ rfl _ _ 58 rfl w.heap.size 9 i0 (.string ⟨#[]⟩) 1 16 Tryz.underlying58 hi0 hz0 hz1 hz2 rfl (by decide) _ _ _ rfl (hown.alloc _) ⟨wr.heap.size, 0, none⟩ 1 1 [.string (s.extract f s.size)] rfl rfl (cell_one_new _ _ _) (fun x hx => by simp at hx; rcases hx with rfl; rfl) (by unfold maxLen; omega) (by omega) (by simp; omega) ?_; intro v' w3 hown' hgrow3 hnil3))
        have hbw3 : Below w.heap.size w w3 := Below.grown (hbw.alloc hle _) hgrow3 (by simp; omega) (fun j hj => (hown.lt _ hj).1)
        have ho6 : w3.ownsRow w.heap.size 9 1 v' (d ++ [(s.data.toList.drop f).take (s.size - f)]).length ((d ++ [(s.data.toList.drop f).take (s.size - f)]).map strV) := by
          have h := hown'
          rw [ext_mid] at h
          simpa [strV] using h
        go_roundw
        case rel => exact ⟨s.size + 1, s.size + 1, _, v', rfl, by go_num, by go_num, by omega, by omega, by simp; omega, ho6, hbw3, Lib.hid fun h => by omega, Lib.hid fun _ => HF.out⟩
        case measure => first | (simp [intOf]; done) | (simp [intOf]; omega)
      · have hks : k < s.size := by omega
        have hkl : k < s.data.toList.length := by rw [str_toList]; exact hks
        have hget := get_at s k hks hkl
        have hdp := drop_piece s.data.toList f k hfk hkl
        have htp := take_piece s.data.toList f k hfk hkl
        rw [hget] at hdp htp
        have HDP := Lib.hid hdp
        have HTP := Lib.hid htp
        have hne : ((k : Int) == (s.size : Int)) = false := by simp; omega
        clear hend hget hdp htp
        by_cases hc : s[k]'hks = 46
        · have hc1 : (((s[k]'hks).toNat : Int) == 46) = true := by rw [hc]; rfl
          have HF : Hid (spl s.data.toList = (d ++ [(s.data.toList.drop f).take (k - f)]) ++ spl (s.data.toList.drop (k + 1))) := Lib.hid (by
            have e : spl (s.data.toList.drop f) = (s.data.toList.drop f).take (k - f) :: spl (s.data.toList.drop (k + 1)) := by
              conv => lhs; rw [HDP.out, hc]
              exact spl_dot _ _ HNO.out
            rw [HSP.out, e, List.append_assoc]; rfl)
          clear hc
          go_wp2_with (first
            | (at_builtin; refine wpList_append_own _ rfl _ _ 58 rfl w.heap.size 9 i0 (.string ⟨#[]⟩) 1 16 Tryz.underlying58 hi0 hz0 hz1 hz2 rfl (by decide) _ _ _ rfl (hown.alloc _) ⟨wr.heap.size, 0, none⟩ 1 1 [.string (s.extract f k)] rfl rfl (cell_one_new _ _ _) (fun x hx => by simp at hx; rcases hx with rfl; rfl) (by unfold maxLen; omega) (by omega) (by simp; omega) ?_; intro v' w3 hown' hgrow3 hnil3))
          have hbw3 : Below w.heap.size w w3 := Below.grown (hbw.alloc hle _) hgrow3 (by simp; omega) (fun j hj => (hown.lt _ hj).1)
          have ho6 : w3.ownsRow w.heap.size 9 1 v' (d ++ [(s.data.toList.drop f).take (k - f)]).length ((d ++ [(s.data.toList.drop f).take (k - f)]).map strV) := by
            have h := hown'
            rw [ext_mid] at h
            simpa [strV] using h
          go_roundw
          case rel => exact ⟨k + 1, k + 1, _, v', rfl, by go_num, by go_num, by omega, by omega, by simp; omega, ho6, hbw3, Lib.hid fun _ => ⟨Nat.le_refl _, HF.out, by simp⟩, Lib.hid fun h => by omega⟩
          case measure => first | (simp [intOf]; done) | (simp [intOf]; omega)
        · have hc1 : (((s[k]'hks).toNat : Int) == 46) = false := by
            simp only [beq_eq_false_iff_ne, ne_eq]
            exact fun h => hc (UInt8.toNat_inj.mp (by have h46 : (46 : UInt8).toNat = 46 := rfl; omega))
          have HN2 : Hid (46 ∉ (s.data.toList.drop f).take (k + 1 - f)) := Lib.hid (by
            rw [HTP.out]
            simp only [List.mem_append, List.mem_singleton, not_or]
            exact ⟨HNO.out, fun h => hc h.symm⟩)
          clear hc
          go_wp2_with fail
          go_roundw
          case rel => exact ⟨k + 1, f, d, _, rfl, rfl, by go_num, by omega, by omega, by omega, hown, hbw, Lib.hid fun _ => ⟨by omega, HSP.out, HN2.out⟩, Lib.hid fun h => by omega⟩
          case measure => first | (simp [intOf]; done) | (simp [intOf]; omega)
    · have hk1 : k = s.size + 1 := by omega
      have HS := Lib.hid (H2.out hk1)
      clear H1 H2
      subst hk1
      rw [show ((s.size + 1 : Nat) : Int) = (s.size : Int) + 1 by omega]
      have hdd : decide ((s.size : Int) + 1 ≤ (s.size : Int)) = false := by simp; omega
      have hne := spl_ne s.data.toList
      rw [HS.out] at hne
      have HO := Lib.hid hown
      obtain ⟨_, hor⟩ := hown
      rcases hor with ⟨_, hz⟩ | ⟨g, cap, cur, rfl, hg, hh, hcap, hmax, hcs, htk⟩
      · exact absurd (List.eq_nil_of_length_eq_zero hz) hne
      · have hcells : ∀ j (hj : j < d.length), wr.cell? ⟨g, j, none⟩ = some (strV d[j]) := fun j hj => by
          have h := HO.out.cells (g := g) rfl j (strV d[j]) (by simp [hj])
          rw [Addr.add_lit, Nat.zero_add] at h
          exact h
        have HCL := Lib.hid hcells
        clear hh htk hcs hmax hcells hne HO
        by_cases h4 : d.length = 4
        · have HP : Hid (parse s.data.toList = foldP d 0) := Lib.hid (by rw [parse_spl, HS.out, if_pos h4])
          have H4 := Lib.hid h4
          rw [h4] at hcap ⊢
          clear h4
          have HLEN : Hid (∀ p ∈ d, p.length ≤ 1048576) := Lib.hid (fun p hp => by
            have h := spl_len s.data.toList p (by rw [HS.out]; exact hp)
            rw [str_toList] at h
            omega)
          go_wp2_with fail
          go_loop [7, 8] (fun s7 s8 => ∃ j A : Nat, j ≤ 4 ∧ s8 = .int .i64 j ∧ s7 = .int .i64 A ∧ A < 256 ^ j ∧ Hid (foldP d 0 = foldP (d.drop j) A)) (fun _ s8 => 4 - (intOf s8).toNat)
          case atStart => exact ⟨0, 0, by omega, rfl, rfl, by decide, Lib.hid rfl⟩
          case round =>
            obtain ⟨j, A, hj, rfl, rfl, hA, HA⟩ := hrel
            by_cases hj4 : j < 4
            · have hjd : j < d.length := by have := H4.out; omega
              have hA3 : A < 16777216 := Nat.lt_of_lt_of_le hA (Nat.pow_le_pow_right (n := 256) (by omega) (by omega : j ≤ 3))
              have c0 := HCL.out j hjd
              have HD := Lib.hid (List.drop_eq_getElem_cons hjd)
              have hlen := HLEN.out _ (List.getElem_mem hjd)
              generalize d[j] = p at *
              have hR : ∀ w : World, Calls Tryz.prog 25 #[.string ⟨p.toArray⟩, .int .i64 255] w fun e w' => e = .returned (.int .i64 (numR (num p 255))) ∧ w = w' := fun w => by
                have h := read_is ⟨p.toArray⟩ 255 w (by omega) (by rw [mk_size]; omega)
                rw [mk_toList] at h
                exact h
              cases hn : num p 255 with
              | none =>
                simp only [hn, numR] at hR
                have HRd := Lib.hid hR
                have HQ : Hid (adrI (parse s.data.toList) = (0, 4)) := Lib.hid (by rw [HP.out, HA.out, HD.out]; simp [foldP, hn, adrI])
                clear hR hn hA
                simp only [strV] at c0
                go_wp2_with (go_at_call 25; (with_reducible refine (HRd.out _).mono ?_); rintro e w' ⟨rfl, rfl⟩)
                go_ret2
                exact ⟨ret_adr HQ.out, hbw⟩
              | some n =>
                simp only [hn, numR] at hR
                have HRd := Lib.hid hR
                have hn255 := (num_some hn).2.2.2.1
                have HQ : Hid (foldP d 0 = foldP (d.drop (j + 1)) (A * 256 + n)) := Lib.hid (by rw [HA.out, HD.out]; simp [foldP, hn])
                have hA' : A * 256 + n < 256 ^ (j + 1) := by rw [Nat.pow_succ]; omega
                have HA' := Lib.hid hA'
                clear hR hn hA hA'
                simp only [strV] at c0
                go_wp2_with (go_at_call 25; (with_reducible refine (HRd.out _).mono ?_); rintro e w' ⟨rfl, rfl⟩)
                go_round
                case rel => exact ⟨j + 1, A * 256 + n, by omega, by go_num, by go_num, HA'.out, HQ⟩
                case measure => first | (simp [intOf]; done) | (simp [intOf]; omega)
            · obtain rfl : j = 4 := by omega
              have HQ : Hid (adrI (parse s.data.toList) = ((A : Int), 0)) := Lib.hid (by
                rw [HP.out, HA.out, List.drop_eq_nil_of_le (by have := H4.out; omega)]; simp [foldP, adrI])
              have hA2 : A < 4294967296 := hA
              clear hA hj4
              go_wp2_with fail
              go_ret2
              exact ⟨ret_adr HQ.out, hbw⟩
        · have HP : Hid (adrI (parse s.data.toList) = (0, 4)) := Lib.hid (by rw [parse_spl, HS.out, if_neg h4]; rfl)
          have hd4 : (((d.length : Nat) : Int) != 4) = true := by simp; omega
          clear h4
          go_wp2_with fail
          go_ret2
          exact ⟨ret_adr HP.out, hbw⟩
end Go.Proofs.YtgggmhaopcgkkaaGreatDoor
