/- isName of package routes at two texts, write, numberText and texts. Under the conditions that they name. -/
import Derived.Test.YtmbkkjofikijiaaGreatDoorRnA
import Derived.Lib.AppendIntMem
import Derived.Lib.Walk
import Derived.BigCall
import Derived.BigGuard
namespace Go.Proofs.YtmbkkjofikijiaaGreatDoor
open Go.RowKit Go.Sort Go.Lib
set_option maxRecDepth 100000 in
set_option maxHeartbeats 4000000 in
theorem ifmt_big (u : Nat) (hu : 100 ≤ u) (hu64 : u < 18446744073709551616) (w : World) (htab : Tab10 w) :
    Calls Tryz.prog 124 #[.int .u64 u, .int .i64 10] w fun e w' => e = .returned (.string ⟨(Lib.decDigits u).toArray⟩) ∧ Below w.heap.size w w' := by
  have hu1 : 1 ≤ u := by omega
  have hnd20 : Lib.nDigits u ≤ 20 := by have := Lib.numDigits_eq u hu1 hu64; split at this <;> omega
  have hal : Tryz.prog.arrayLen 197 = 24 := by kernel_rfl
  have hsl : ∀ W, (Instr.sliceAt 197 (.pointer (some ⟨w.heap.size, 0, none⟩)) none (some (.int .i64 (Lib.nDigits u : Int))) none).run Tryz.prog W = .ok (.slice (some ⟨w.heap.size, 0, none⟩) (Lib.nDigits u) 24) W := fun W => by
    rw [run_sliceAt_array_h W 197 ⟨w.heap.size, 0, none⟩ (by kernel_rfl) .i64 (Lib.nDigits u : Int) (by omega) (by rw [hal]; omega)]
    go_simp
  have hH0 := Lib.holds_zero0 w 197 (Lib.nDigits u) (by omega)
  have hfmt := Tryz.internal_strconv_formatBase10 w.heap.size 0 24 u (Array.replicate (Lib.nDigits u) 0) (w.alloc (.cells Lib.zeros24 197)) hH0 (by rw [Array.size_replicate]; exact Lib.lt_pow_nDigits u) hu64 (by rw [Array.size_replicate]; omega)
  rw [Array.size_replicate] at hfmt
  have HH0 := Lib.hid hH0
  have HF := Lib.hid hfmt
  have HT := Lib.hid htab
  have iu : (100 : Int) ≤ (u : Int) := by omega
  have HU := Lib.hid hu; have HU6 := Lib.hid hu64; have HN := Lib.hid hnd20
  clear hH0 hal hfmt htab
  go_enter Tryz.func124, Tryz.ntmps124
  go_wp2_with (first
    | (go_at_call 168; refine (Tryz.internal_strconv_numDigits u hu1 HU6.out _ (Lib.tabIs_alloc HT.out _)).mono ?_; rintro e w' ⟨rfl, rfl⟩))
  go_at_call 169
  refine HF.out.mono ?_
  rintro e w' ⟨rfl, k, v', dk, rfl, hF⟩
  have hcv : (convert 59 9 (.slice (some ⟨w.heap.size, 0, none⟩) (Lib.nDigits u) 24)).run Tryz.prog ((putRow (fun (b : UInt8) => Value.int .u8 (b.toNat : Int)) (w.alloc (.cells Lib.zeros24 197)) w.heap.size 0 dk).drewN k) = .ok (.string ⟨(Lib.decDigits u).toArray⟩) ((putRow (fun (b : UInt8) => Value.int .u8 (b.toNat : Int)) (w.alloc (.cells Lib.zeros24 197)) w.heap.size 0 dk).drewN k) := by
    have h := run_convert_bytes_back (P := Tryz.prog) ((putRow (fun (b : UInt8) => Value.int .u8 (b.toNat : Int)) (w.alloc (.cells Lib.zeros24 197)) w.heap.size 0 dk).drewN k) 59 9 5 ⟨w.heap.size, 0, none⟩ 24 (Lib.decDigits u) Tryz.underlying59 Tryz.underlying5 Tryz.underlying9 (fun j hj => by
      rw [Lib.row_is_numeral hF j hj, Lib.add_plain, World.cell?_drewN]
      exact cell?_putRow (fun (b : UInt8) => Value.int .u8 (b.toNat : Int)) _ w.heap.size 0 _ dk HH0.out (by rw [hF.size, Array.size_replicate]) j (by rw [hF.size]; rw [Lib.decDigits_length] at hj; exact hj))
    rw [Lib.decDigits_length] at h
    exact h
  go_wp2
  go_ret
  obtain ⟨os, eo⟩ := Lib.fin_at w (.cells Lib.zeros24 197) dk k 0
  exact ⟨rfl, by rw [eo]; exact Lib.below_grow w.heap.size w (Nat.le_refl _) k os⟩
set_option maxRecDepth 100000 in
theorem fmt_is (u : Nat) (hu64 : u < 18446744073709551616) (w : World) (htab : Tab10 w) :
    Calls Tryz.prog 67 #[.int .u64 u, .int .i64 10] w fun e w' => e = .returned (.string ⟨(Lib.decDigits u).toArray⟩) ∧ Below w.heap.size w w' := by
  have H : Hid (Calls Tryz.prog 124 #[.int .u64 u, .int .i64 10] w fun e w' => e = .returned (.string ⟨(Lib.decDigits u).toArray⟩) ∧ Below w.heap.size w w') := by
    refine Lib.hid ?_
    by_cases h : 100 ≤ u
    · exact ifmt_big u h hu64 w htab
    · have iu : (u : Int) < 100 := by omega
      have HU := Lib.hid h
      clear h
      go_enter Tryz.func124, Tryz.ntmps124
      go_wp2_with (go_at_call 167; (with_reducible refine (Tryz.internal_strconv_small u (by have := HU.out; omega) _).mono ?_); rintro e w' ⟨rfl, rfl⟩)
      go_ret
      exact ⟨rfl, Below.refl _ _⟩
  clear htab
  go_enter Tryz.func67, Tryz.ntmps67
  go_wp2_with fail
  go_at_call 124
  refine H.out.mono ?_
  rintro e w' ⟨rfl, hb⟩
  go_wp2
  go_ret
  exact ⟨rfl, hb⟩

theorem name_a (w : World) : Calls Tryz.prog 62 #[.string ⟨#[97]⟩] w fun e w' => e = .returned (.bool true) ∧ Below w.heap.size w w' := by
  have hi : Calls Tryz.prog 120 #[.string ⟨#[97, 98, 99, 100, 101, 102, 103, 104, 105, 106, 107, 108, 109, 110, 111, 112, 113, 114, 115, 116, 117, 118, 119, 120, 121, 122, 65, 66, 67, 68, 69, 70, 71, 72, 73, 74, 75, 76, 77, 78, 79, 80, 81, 82, 83, 84, 85, 86, 87, 88, 89, 90]⟩, .int .u8 97] w fun e w' => e = .returned (.int .i64 0) ∧ w' = w := by
    have := Tryz.strings_IndexByte ⟨#[97, 98, 99, 100, 101, 102, 103, 104, 105, 106, 107, 108, 109, 110, 111, 112, 113, 114, 115, 116, 117, 118, 119, 120, 121, 122, 65, 66, 67, 68, 69, 70, 71, 72, 73, 74, 75, 76, 77, 78, 79, 80, 81, 82, 83, 84, 85, 86, 87, 88, 89, 90]⟩ 97 w
    rw [show Lib.indexByte (⟨#[97, 98, 99, 100, 101, 102, 103, 104, 105, 106, 107, 108, 109, 110, 111, 112, 113, 114, 115, 116, 117, 118, 119, 120, 121, 122, 65, 66, 67, 68, 69, 70, 71, 72, 73, 74, 75, 76, 77, 78, 79, 80, 81, 82, 83, 84, 85, 86, 87, 88, 89, 90]⟩ : ByteArray).data.toList (97 : Int).toNat.toUInt8 = 0 by decide +kernel] at this
    exact this
  have ht := trim_is ⟨#[97]⟩ (by decide) w
  rw [show (⟨(Lib.trimS (⟨#[97]⟩ : ByteArray).data.toList [97, 98, 99, 100, 101, 102, 103, 104, 105, 106, 107, 108, 109, 110, 111, 112, 113, 114, 115, 116, 117, 118, 119, 120, 121, 122, 65, 66, 67, 68, 69, 70, 71, 72, 73, 74, 75, 76, 77, 78, 79, 80, 81, 82, 83, 84, 85, 86, 87, 88, 89, 90, 48, 49, 50, 51, 52, 53, 54, 55, 56, 57, 45, 95, 46, 47]).toArray⟩ : ByteArray) = ⟨#[]⟩ by decide +kernel] at ht
  have HI := Lib.hid hi; have HT := Lib.hid ht
  clear hi ht
  go_enter Tryz.func62, Tryz.ntmps62
  go_wp2_with fail
  go_at_call 120
  refine HI.out.mono ?_
  rintro _ _ ⟨rfl, rfl⟩
  go_wp2_with fail
  go_at_call 121
  refine HT.out.mono ?_
  rintro e w1 ⟨rfl, hb⟩
  have HB := Lib.hid hb
  clear hb
  go_wp2
  go_ret
  exact ⟨rfl, HB.out⟩
theorem name_1 (w : World) : Calls Tryz.prog 62 #[.string ⟨#[49]⟩] w fun e w' => e = .returned (.bool false) ∧ Below w.heap.size w w' := by
  have hi : Calls Tryz.prog 120 #[.string ⟨#[97, 98, 99, 100, 101, 102, 103, 104, 105, 106, 107, 108, 109, 110, 111, 112, 113, 114, 115, 116, 117, 118, 119, 120, 121, 122, 65, 66, 67, 68, 69, 70, 71, 72, 73, 74, 75, 76, 77, 78, 79, 80, 81, 82, 83, 84, 85, 86, 87, 88, 89, 90]⟩, .int .u8 49] w fun e w' => e = .returned (.int .i64 (-1)) ∧ w' = w := by
    have := Tryz.strings_IndexByte ⟨#[97, 98, 99, 100, 101, 102, 103, 104, 105, 106, 107, 108, 109, 110, 111, 112, 113, 114, 115, 116, 117, 118, 119, 120, 121, 122, 65, 66, 67, 68, 69, 70, 71, 72, 73, 74, 75, 76, 77, 78, 79, 80, 81, 82, 83, 84, 85, 86, 87, 88, 89, 90]⟩ 49 w
    rw [show Lib.indexByte (⟨#[97, 98, 99, 100, 101, 102, 103, 104, 105, 106, 107, 108, 109, 110, 111, 112, 113, 114, 115, 116, 117, 118, 119, 120, 121, 122, 65, 66, 67, 68, 69, 70, 71, 72, 73, 74, 75, 76, 77, 78, 79, 80, 81, 82, 83, 84, 85, 86, 87, 88, 89, 90]⟩ : ByteArray).data.toList (49 : Int).toNat.toUInt8 = -1 by decide +kernel] at this
    exact this
  have HI := Lib.hid hi
  clear hi
  go_enter Tryz.func62, Tryz.ntmps62
  go_wp2_with fail
  go_at_call 120
  refine HI.out.mono ?_
  rintro _ _ ⟨rfl, rfl⟩
  go_wp2
  go_ret
  exact ⟨rfl, Below.refl _ _⟩
theorem bsz (s : ByteArray) : s.size = s.data.toList.length := (Array.length_toList (xs := s.data)).symm
/-- One word more behind a text. -/
def jn1 (a : List UInt8) (s : ByteArray) : List UInt8 := a ++ ((if a.length = 0 then [] else [32]) ++ s.data.toList)
def jn (a : List UInt8) (ws : List ByteArray) : List UInt8 := ws.foldl jn1 a
theorem jn_step {a : List UInt8} {ws : List ByteArray} {k : Nat} {s : ByteArray} (h : ws[k]? = some s) : jn a (ws.take (k + 1)) = jn1 (jn a (ws.take k)) s := by
  obtain ⟨hl, e⟩ := List.getElem?_eq_some_iff.1 h
  rw [List.take_succ_eq_append_getElem hl, e]
  unfold jn
  rw [List.foldl_append]
  rfl
/-- What write hands back. -/
def WrPost (B : Nat) (r : List UInt8) (w : World) (e : Ending) (w' : World) : Prop := ∃ v', e = .returned v' ∧ w'.ownsRow B 5 1 v' r.length (Lib.byteCells r) ∧ Below B w w' ∧ Lib.OthersKept 5 none w w'
set_option maxRecDepth 100000 in
set_option maxHeartbeats 4000000 in
theorem write_is (B : Nat) (a : List UInt8) (ws : List ByteArray) (v : Value) (p : Option Addr) (c : Nat) (w : World) (ho : w.ownsRow B 5 1 v a.length (Lib.byteCells a)) (hB : B ≤ w.heap.size)
    (hc : ∀ W, Lib.OthersKept 5 none w W → ∀ i s, ws[i]? = some s → ∃ b o, p = some ⟨b, o, none⟩ ∧ W.cell? ⟨b, o + i, none⟩ = some (.string s)) (hn : ws.length ≤ 100000) (hs : ∀ s ∈ ws, s.size ≤ 100000) (ha : ∀ k, k ≤ ws.length → (jn a (ws.take k)).length ≤ 100000000) :
    Calls Tryz.prog 23 #[v, .slice p ws.length c] w (WrPost B (jn a ws) w) := by
  obtain ⟨i0, hi0, hz0, hz1, hz2⟩ := info_parts infoB
  have HC := Lib.hid hc; have HA := Lib.hid ha; have HS := Lib.hid hs; have HO0 := Lib.hid ho
  clear hc ha hs ho
  go_enter Tryz.func23, Tryz.ntmps23
  go_wp2
  go_loopw [0, 9] (fun b i wr => ∃ (k : Nat) (bv : Value), k ≤ ws.length ∧ i = .int .i64 k ∧ bv = b ∧ Hid (wr.ownsRow B 5 1 bv (jn a (ws.take k)).length (Lib.byteCells (jn a (ws.take k)))) ∧ Below B w wr ∧ Hid (Lib.OthersKept 5 none w wr)) (fun _ i _ => ws.length - (RowKit.intOf i).toNat)
  case atStart => exact ⟨0, _, Nat.zero_le _, rfl, rfl, HO0, Below.refl _ _, Lib.hid (Lib.OthersKept.refl _ _ _)⟩
  case round =>
    obtain ⟨k, bv, hk, rfl, rfl, HO, hbw, HK⟩ := hrel
    have HW := Lib.hid hbw
    clear hbw
    by_cases hlt : k < ws.length
    · obtain ⟨s, hs⟩ : ∃ s, ws[k]? = some s := ⟨_, List.getElem?_eq_getElem hlt⟩
      obtain ⟨b, o, rfl, c0⟩ := HC.out wr HK.out k s hs
      have HJ := Lib.hid (jn_step (a := a) hs)
      have hss := HS.out s (List.mem_of_getElem? hs)
      have hal := HA.out k hk
      obtain ⟨L, hL⟩ : ∃ L, jn a (ws.take k) = L := ⟨_, rfl⟩
      rw [hL] at HO HJ hal
      have HSS := Lib.hid hss; have HAL := Lib.hid hal
      have e1 : (0 : Int) ≤ (k : Int) := by omega
      have e2 : (k : Int) < (ws.length : Int) := by omega
      have hys : B ≤ wr.heap.size := by have := HW.out.size; omega
      clear hs hss hal hL
      obtain ⟨p0, q0, hbv⟩ : ∃ p c, bv = .slice p L.length c := by
        rcases HO.out.2 with ⟨e, h0⟩ | ⟨g, cap, cur, e, _⟩
        · exact ⟨none, 0, by rw [e, h0]⟩
        · exact ⟨_, cap, e⟩
      subst hbv
      by_cases h0 : L.length = 0
      · have e3 : ¬ (0 : Int) < (L.length : Int) := by omega
        go_wp2_with (first
          | (at_builtin; refine Lib.wpList_append_own_string _ rfl _ _ 59 9 rfl B 5 i0 Tryz.underlying59 Tryz.underlying9 hi0 hz0 hz1 hz2 _ _ _ rfl HO.out s rfl (by have := HSS.out; unfold maxLen; omega) (by have := HSS.out; omega) hys ?_; intro v' w3 hown3 hgr3 hnil3; have HB3 : Hid (Below B w w3) := Lib.hid (Below.grown HW.out hgr3 hys (fun j hj => (HO.out.lt _ hj).1)); have HK3 : Hid (Lib.OthersKept 5 none w w3) := Lib.hid (HK.out.grown hgr3 (Lib.ownsRow_kind HO.out)); have HO3 := Lib.hid hown3; clear hown3 hgr3 hnil3))
        go_roundw
        case rel =>
          refine ⟨k + 1, v', by omega, by go_num, rfl, Lib.hid ?_, HB3.out, HK3⟩
          have e : jn1 L s = L ++ s.data.toList := by unfold jn1; rw [if_pos h0]; simp
          rw [HJ.out, e, List.length_append, Lib.byteCells_append]
          have h := HO3.out
          rw [bsz s] at h
          exact h
        case measure => simp [RowKit.intOf]; omega
      · have e3 : (0 : Int) < (L.length : Int) := by omega
        go_wp2_with (first
          | (at_builtin; refine wpList_append_own _ rfl _ _ 59 rfl B 5 i0 (.int .u8 0) 1 1 Tryz.underlying59 hi0 hz0 hz1 hz2 rfl (by decide) _ _ _ rfl (HO.out.alloc _) ⟨wr.heap.size, 0, none⟩ 1 1 [.int .u8 32] rfl rfl (cell_one_new _ _ _) (fun x hx => by simp at hx; rcases hx with rfl; rfl) (by have := HAL.out; unfold maxLen; omega) (by have := HAL.out; omega) (by simp <;> omega) ?_; intro v3 w3 hown3 hgr3 hnil3; have HB3 : Hid (Below B w w3) := Lib.hid (Below.grown (HW.out.alloc hys _) hgr3 (by simp <;> omega) (fun j hj => (HO.out.lt _ hj).1)); have HK3 : Hid (Lib.OthersKept 5 none w w3) := Lib.hid ((HK.out.alloc _).grown hgr3 (Lib.ownsRow_kind (HO.out.alloc _))); have HO3 := Lib.hid hown3; have hys3 : B ≤ w3.heap.size := (by have := HB3.out.size; omega); clear hown3 hgr3 hnil3)
          | (at_builtin; refine Lib.wpList_append_own_string _ rfl _ _ 59 9 rfl B 5 i0 Tryz.underlying59 Tryz.underlying9 hi0 hz0 hz1 hz2 _ _ _ rfl HO3.out s rfl (by have := HSS.out; have := HAL.out; unfold maxLen; omega) (by have := HSS.out; have := HAL.out; omega) hys3 ?_; intro v5 w5 hown5 hgr5 hnil5; have HB5 : Hid (Below B w w5) := Lib.hid (Below.grown HB3.out hgr5 hys3 (fun j hj => (HO3.out.lt _ hj).1)); have HK5 : Hid (Lib.OthersKept 5 none w w5) := Lib.hid (HK3.out.grown hgr5 (Lib.ownsRow_kind HO3.out)); have HO5 := Lib.hid hown5; clear hown5 hgr5 hnil5))
        go_roundw
        case rel =>
          refine ⟨k + 1, v5, by omega, by go_num, rfl, Lib.hid ?_, HB5.out, HK5⟩
          have e : jn1 L s = L ++ [32] ++ s.data.toList := by unfold jn1; rw [if_neg h0]; simp
          rw [HJ.out, e, List.length_append, List.length_append, Lib.byteCells_append, Lib.byteCells_append]
          have h := HO5.out
          rw [bsz s] at h
          exact h
        case measure => simp [RowKit.intOf]; omega
    · have e2 : ¬ (k : Int) < (ws.length : Int) := by omega
      have htk : ws.take k = ws := List.take_of_length_le (by omega)
      rw [htk] at HO
      go_wp2
      go_ret
      exact ⟨_, rfl, HO.out, HW.out, HK.out⟩
end Go.Proofs.YtmbkkjofikijiaaGreatDoor
