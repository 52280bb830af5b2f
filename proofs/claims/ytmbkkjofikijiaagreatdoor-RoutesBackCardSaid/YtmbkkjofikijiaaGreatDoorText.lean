/- What Text and PrefixText of package addr write. Conditions: the table of package strconv is what its text says. -/
import Derived.Test.YtmbkkjofikijiaaGreatDoorParse
import Derived.Lib.AppendIntMem
namespace Go.Proofs.YtmbkkjofikijiaaGreatDoor
open Go.RowKit
/-- The table that the writing of numbers reads. -/
def Tab10 (w : World) : Prop := Lib.TabIs Tryz.prog w "internal/strconv.uint64pow10" .u64 Lib.pow10Tab
theorem g10 : Tryz.prog.globalNamed "internal/strconv.uint64pow10" = some 1 := by kernel_rfl
theorem Tab10.lt {w : World} (h : Tab10 w) : 1 < w.heap.size := by
  have h1 := Lib.TabIs.cell h g10 0 (by decide)
  exact World.block_lt_of_cell? w _ h1
theorem Tab10.on {w w' : World} (h : Tab10 w) (hb : Below w.heap.size w w') : Tab10 w' := by
  have hl := h.lt
  unfold Tab10 Lib.TabIs at *
  rw [← h]
  unfold World.var?
  simp only [g10, Option.bind_some]
  rw [hb.block _ hl]
/-- A text's cells are owned, new ones behind. -/
def AppPost (B : Nat) (n : Nat) (xs : List Value) (l : List UInt8) (w : World) (e : Ending) (w' : World) : Prop := ∃ v', e = .returned v' ∧ w'.ownsRow B 5 1 v' (n + l.length) (xs ++ Lib.byteCells l) ∧ Below B w w'
set_option maxHeartbeats 400000 in
theorem app_is (B n : Nat) (x : Nat) (sv : Value) (xs : List Value) (w : World) (h1 : x < 18446744073709551616) (hown : w.ownsRow B 5 1 sv n xs) (hBw : B ≤ w.heap.size) (hlim : n + 20 ≤ 140737488355328) (ht : Tab10 w) :
    Calls Tryz.prog 64 #[sv, .int .u64 x, .int .i64 10] w (AppPost B n xs (Lib.decDigits x) w) := by
  have hc := (Tryz.internal_strconv_AppendUint_10 B n x h1 sv xs w hown hBw hlim ht)
  have HC := Lib.hid hc
  clear hc
  go_enter Tryz.func64, Tryz.ntmps64
  go_wp2_with fail
  go_at_call 123
  refine HC.out.mono ?_
  rintro e w' ⟨v', rfl, ho, hb, _⟩
  go_wp2_with fail
  go_ret
  exact ⟨v', rfl, ho, hb⟩
theorem infoB : (Tryz.prog.info? 5).map (fun i => (i.zero, i.size, i.bytes)) = some (some (.int .u8 0), 1, 1) := by kernel_rfl
def octet (a : Nat) (j : Nat) : Nat := a / 256 ^ (3 - j) % 256
def textTo (a : Nat) : Nat → List UInt8
  | 0 => []
  | j + 1 => textTo a j ++ ((if j = 0 then [] else [46]) ++ Lib.decDigits (octet a j))
theorem dec_len (u : Nat) : (Lib.decDigits u).length ≤ u + 1 := by
  induction u using Nat.strongRecOn with
  | _ u ih =>
    by_cases h : u < 10
    · rw [dec_small h]; simp
    · rw [dec_big h]
      have := ih (u / 10) (by omega)
      simp
      omega
theorem octet_lt (a j : Nat) : octet a j < 256 := Nat.mod_lt _ (by omega)
theorem textTo_len (a j : Nat) : (textTo a j).length ≤ j * 257 := by
  induction j with
  | zero => simp [textTo]
  | succ j ih =>
    have h1 := dec_len (octet a j)
    have h2 := octet_lt a j
    simp only [textTo, List.length_append]
    by_cases h : j = 0
    · subst h
      have h3 := octet_lt a 0
      simp [textTo]
      omega
    · simp [h]; omega
theorem octet_and (x : Int) (h0 : 0 ≤ x) (h1 : x < 4294967296) : IntKind.u64.wrap (bits .and .u32 x 255) = ((x.toNat % 256 : Nat) : Int) := by
  rw [u32_and x 255 h0 h1 (by omega) (by omega), show (255 : Int).toNat = 255 from rfl, nat_mask8]
  exact IntWalk.u64_in _ ⟨by omega, by omega⟩
theorem textTo_4 (a : Nat) (h : a < 4294967296) : textTo a 4 = text a := by
  simp only [textTo, octet, text]
  have e : a / 256 ^ (3 - 0) % 256 = a / 16777216 := by show a / 16777216 % 256 = _; omega
  rw [e]
  simp [Nat.div_one]
theorem conv_bytes {w : World} {B g cap : Nat} {L : List UInt8} (h : w.ownsRow B 5 1 (.slice (some ⟨g, 0, none⟩) L.length cap) L.length (Lib.byteCells L)) :
    (convert 59 9 (.slice (some ⟨g, 0, none⟩) L.length cap)).run Tryz.prog w = .ok (.string ⟨L.toArray⟩) w := by
  have hc := h.cells (g := g) rfl
  have e : strOfNums (L.map fun b => (b.toNat : Int)) = ⟨L.toArray⟩ := by
    unfold strOfNums
    simp [List.map_map, Function.comp_def]
  rw [← e]
  refine run_convert_bytes_arg w 59 5 Tryz.underlying59 Tryz.underlying5 g 0 L.length cap (L.map fun b => (b.toNat : Int)) (by simp) (fun i hi => ?_) 9 Tryz.underlying9
  have := hc i (.int .u8 (L[i].toNat : Int)) (by simp [Lib.byteCells, hi])
  rw [Addr.add_lit] at this
  rw [this]
  simp [List.getD, hi]
set_option maxRecDepth 100000 in
set_option maxHeartbeats 400000 in
theorem text_is (a : Int) (w : World) (h0 : 0 ≤ a) (h1 : a < 4294967296) (ht : Tab10 w) :
    Calls Tryz.prog 26 #[.int .u32 a] w fun e w' => e = .returned (.string ⟨(text a.toNat).toArray⟩) ∧ Below w.heap.size w w' := by
  go_enter Tryz.func26, Tryz.ntmps26
  go_wp2_with fail
  go_loopw [3, 5] (fun b i wr => ∃ (j : Nat) (v : Value), j ≤ 4 ∧ v = b ∧ i = .int .i64 j ∧ wr.ownsRow w.heap.size 5 1 v (textTo a.toNat j).length (Lib.byteCells (textTo a.toNat j)) ∧ (textTo a.toNat j).length ≤ 2000 ∧ Below w.heap.size w wr) (fun _ i _ => 4 - (intOf i).toNat)
  case atStart => exact ⟨0, _, by omega, rfl, rfl, World.ownsRow_nil _ _ _ _, by simp [textTo], Below.refl _ _⟩
  case round =>
    obtain ⟨j, v, hj, rfl, rfl, hown, hlen, hbw⟩ := hrel
    have hT := ht.on hbw
    have hle := hbw.size
    obtain ⟨i0, hi0, hz0, hz1, hz2⟩ := info_parts infoB
    by_cases hlt : j < 4
    · have hcases : j = 0 ∨ j = 1 ∨ j = 2 ∨ j = 3 := by omega
      rcases hcases with rfl | rfl | rfl | rfl
      · have eO : IntKind.u64.wrap (bits .and .u32 (a / 16777216) 255) = ((octet a.toNat 0 : Nat) : Int) := by rw [octet_and _ (by omega) (by omega)]; congr 1; unfold octet; simp; try omega
        have ho := octet_lt a.toNat 0
        go_wp2_with fail
        go_at_call 64
        refine (app_is w.heap.size _ (octet a.toNat 0) _ _ _ (by omega) hown hle (by simp [textTo]) hT).mono ?_
        rintro e w5 ⟨v5, rfl, ho5, hb5⟩
        have hbw5 : Below w.heap.size w w5 := hbw.trans hb5
        have ho6 : w5.ownsRow w.heap.size 5 1 v5 (textTo a.toNat (0 + 1)).length (Lib.byteCells (textTo a.toNat (0 + 1))) := by
          have e : textTo a.toNat (0 + 1) = Lib.decDigits (octet a.toNat 0) := by simp [textTo]
          rw [e]
          simpa [textTo, Lib.byteCells] using ho5
        clear ho5
        go_wp2_with fail
        go_roundw
        case rel => exact ⟨0 + 1, v5, by omega, rfl, by go_num, ho6, by have := textTo_len a.toNat (0 + 1); omega, hbw5⟩
        case measure => simp [intOf]
      · have eO : IntKind.u64.wrap (bits .and .u32 (a / 65536) 255) = ((octet a.toNat 1 : Nat) : Int) := by rw [octet_and _ (by omega) (by omega)]; congr 1; unfold octet; simp; try omega
        have ho := octet_lt a.toNat 1
        go_wp2_with (first
          | (at_builtin; refine wpList_append_own _ rfl _ _ 59 rfl w.heap.size 5 i0 (.int .u8 0) 1 1 Tryz.underlying59 hi0 hz0 hz1 hz2 rfl (by decide) _ _ _ rfl (hown.alloc _) ⟨wr.heap.size, 0, none⟩ 1 1 [.int .u8 46] rfl rfl (cell_one_new _ _ _) (fun x hx => by simp at hx; rcases hx with rfl; rfl) (by unfold maxLen; omega) (by omega) (by simp; omega) ?_; intro v' w3 hown' hgrow3 hnil3))
        have hbw3 : Below w.heap.size w w3 := Below.grown (hbw.alloc hle _) hgrow3 (by simp; omega) (fun j hj => (hown.lt _ hj).1)
        go_at_call 64
        refine (app_is w.heap.size _ (octet a.toNat 1) _ _ _ (by omega) hown' hbw3.size (by omega) (ht.on hbw3)).mono ?_
        rintro e w5 ⟨v5, rfl, ho5, hb5⟩
        have hbw5 : Below w.heap.size w w5 := hbw3.trans hb5
        have ho6 : w5.ownsRow w.heap.size 5 1 v5 (textTo a.toNat (1 + 1)).length (Lib.byteCells (textTo a.toNat (1 + 1))) := by
          have h := ho5
          simp only [textTo, List.length_append, Lib.byteCells_append, Nat.add_assoc, List.append_assoc] at h ⊢
          exact h
        clear ho5
        go_wp2_with fail
        go_roundw
        case rel => exact ⟨1 + 1, v5, by omega, rfl, by go_num, ho6, by have := textTo_len a.toNat (1 + 1); omega, hbw5⟩
        case measure => simp [intOf]
      · have eO : IntKind.u64.wrap (bits .and .u32 (a / 256) 255) = ((octet a.toNat 2 : Nat) : Int) := by rw [octet_and _ (by omega) (by omega)]; congr 1; unfold octet; simp; try omega
        have ho := octet_lt a.toNat 2
        go_wp2_with (first
          | (at_builtin; refine wpList_append_own _ rfl _ _ 59 rfl w.heap.size 5 i0 (.int .u8 0) 1 1 Tryz.underlying59 hi0 hz0 hz1 hz2 rfl (by decide) _ _ _ rfl (hown.alloc _) ⟨wr.heap.size, 0, none⟩ 1 1 [.int .u8 46] rfl rfl (cell_one_new _ _ _) (fun x hx => by simp at hx; rcases hx with rfl; rfl) (by unfold maxLen; omega) (by omega) (by simp; omega) ?_; intro v' w3 hown' hgrow3 hnil3))
        have hbw3 : Below w.heap.size w w3 := Below.grown (hbw.alloc hle _) hgrow3 (by simp; omega) (fun j hj => (hown.lt _ hj).1)
        go_at_call 64
        refine (app_is w.heap.size _ (octet a.toNat 2) _ _ _ (by omega) hown' hbw3.size (by omega) (ht.on hbw3)).mono ?_
        rintro e w5 ⟨v5, rfl, ho5, hb5⟩
        have hbw5 : Below w.heap.size w w5 := hbw3.trans hb5
        have ho6 : w5.ownsRow w.heap.size 5 1 v5 (textTo a.toNat (2 + 1)).length (Lib.byteCells (textTo a.toNat (2 + 1))) := by
          have h := ho5
          simp only [textTo, List.length_append, Lib.byteCells_append, Nat.add_assoc, List.append_assoc] at h ⊢
          exact h
        clear ho5
        go_wp2_with fail
        go_roundw
        case rel => exact ⟨2 + 1, v5, by omega, rfl, by go_num, ho6, by have := textTo_len a.toNat (2 + 1); omega, hbw5⟩
        case measure => simp [intOf]
      · have eO : IntKind.u64.wrap (bits .and .u32 (a) 255) = ((octet a.toNat 3 : Nat) : Int) := by rw [octet_and _ (by omega) (by omega)]; congr 1; unfold octet; simp; try omega
        have ho := octet_lt a.toNat 3
        go_wp2_with (first
          | (at_builtin; refine wpList_append_own _ rfl _ _ 59 rfl w.heap.size 5 i0 (.int .u8 0) 1 1 Tryz.underlying59 hi0 hz0 hz1 hz2 rfl (by decide) _ _ _ rfl (hown.alloc _) ⟨wr.heap.size, 0, none⟩ 1 1 [.int .u8 46] rfl rfl (cell_one_new _ _ _) (fun x hx => by simp at hx; rcases hx with rfl; rfl) (by unfold maxLen; omega) (by omega) (by simp; omega) ?_; intro v' w3 hown' hgrow3 hnil3))
        have hbw3 : Below w.heap.size w w3 := Below.grown (hbw.alloc hle _) hgrow3 (by simp; omega) (fun j hj => (hown.lt _ hj).1)
        go_at_call 64
        refine (app_is w.heap.size _ (octet a.toNat 3) _ _ _ (by omega) hown' hbw3.size (by omega) (ht.on hbw3)).mono ?_
        rintro e w5 ⟨v5, rfl, ho5, hb5⟩
        have hbw5 : Below w.heap.size w w5 := hbw3.trans hb5
        have ho6 : w5.ownsRow w.heap.size 5 1 v5 (textTo a.toNat (3 + 1)).length (Lib.byteCells (textTo a.toNat (3 + 1))) := by
          have h := ho5
          simp only [textTo, List.length_append, Lib.byteCells_append, Nat.add_assoc, List.append_assoc] at h ⊢
          exact h
        clear ho5
        go_wp2_with fail
        go_roundw
        case rel => exact ⟨3 + 1, v5, by omega, rfl, by go_num, ho6, by have := textTo_len a.toNat (3 + 1); omega, hbw5⟩
        case measure => simp [intOf]
    · obtain rfl : j = 4 := by omega
      clear hlt
      have HO := Lib.hid hown
      obtain ⟨_, hor⟩ := hown
      rcases hor with ⟨rfl, hz⟩ | ⟨g, cap, cur, rfl, hg, hh, hcap, hmax, hcs, htk⟩
      · exfalso
        rw [textTo_4 _ (by omega)] at hz
        simp [text] at hz
      · have hcv := conv_bytes HO.out
        rw [textTo_4 _ (by omega)] at hcv ⊢
        clear hh htk
        go_wp2_with fail
        go_ret
        exact ⟨rfl, hbw⟩
theorem ret_str {a b : ByteArray} (h : a = b) : Ending.returned (.string a) = .returned (.string b) := by rw [h]
theorem dec_short (k : Nat) : ∀ u : Nat, u < 10 ^ (k + 1) → (Lib.decDigits u).length ≤ k + 1 := by
  induction k with
  | zero => intro u h; rw [dec_small (by omega)]; simp
  | succ k ih =>
    intro u h
    by_cases h2 : u < 10
    · rw [dec_small h2]; simp
    · rw [dec_big h2]
      have := ih (u / 10) (by rw [Nat.pow_succ] at h; omega)
      simp
      omega
theorem itoa_len (n : Int) (h0 : -9223372036854775808 ≤ n) (h1 : n ≤ 9223372036854775807) : (Lib.itoa n).length ≤ 21 := by
  unfold Lib.itoa
  by_cases h : n < 0
  · rw [if_pos h]
    have := dec_short 19 n.natAbs (by omega)
    simp
    omega
  · rw [if_neg h]
    have := dec_short 19 n.toNat (by omega)
    omega
theorem text_len (a : Nat) (h : a < 4294967296) : (text a).length ≤ 1028 := by
  have := textTo_len a 4
  rw [textTo_4 a h] at this
  exact this
/-- A thing's text: its address's, a stroke, its number. -/
def ptext (a : Nat) (n : Int) : List UInt8 := text a ++ 47 :: Lib.itoa n
theorem itoa_is (n : Int) (w : World) (h0 : -9223372036854775808 ≤ n) (h1 : n ≤ 9223372036854775807) (ht : Tab10 w) :
    Calls Tryz.prog 25 #[.int .i64 n] w fun e w' => e = .returned (.string ⟨(Lib.itoa n).toArray⟩) ∧ Below w.heap.size w w' :=
  (Tryz.strconv_Itoa n h0 h1 w ht).mono fun e w' ⟨he, k, os, hw⟩ => ⟨he, by rw [hw]; exact Lib.below_grow w.heap.size w (Nat.le_refl _) k os⟩
set_option maxRecDepth 100000 in
set_option maxHeartbeats 400000 in
theorem ptext_is (a n : Int) (w : World) (h0 : 0 ≤ a) (h1 : a < 4294967296) (n0 : -9223372036854775808 ≤ n) (n1 : n ≤ 9223372036854775807) (ht : Tab10 w) :
    Calls Tryz.prog 24 #[.agg #[.int .u32 a, .int .i64 n]] w fun e w' => e = .returned (.string ⟨(ptext a.toNat n).toArray⟩) ∧ Below w.heap.size w w' := by
  go_enter Tryz.func24, Tryz.ntmps24
  go_wp2_with fail
  have htt : Tab10 (w.alloc (.cells #[.int .u32 a, .int .i64 n] 25)) := ht.on (by go_grown)
  have hl1 := text_len a.toNat (by omega)
  have hl2 := itoa_len n n0 n1
  have hL1 : (9223372036854775807 < (text a.toNat).length + 1) = False := by simp; omega
  have hL2 : (9223372036854775807 < (text a.toNat).length + 1 + (Lib.itoa n).length) = False := by simp; omega
  clear hl1 hl2
  refine wp_region_grows (by kernel_rfl) (by kernel_rfl) ?_
  refine grows_fact w.heap.size 0 (.int .u32 a) (by simp [go_sem]) (by simp) fun hG0 => ?_
  refine grows_fact w.heap.size 1 (.int .i64 n) (by simp [go_sem]) (by simp) fun hG1 => ?_
  repeat (go_big_quiet_step ((first | (go_at_call 26; exact Calls.grows_of (text_is a _ h0 h1 (htt.on (Grows.below _)))) | (go_at_call 25; exact Calls.grows_of (itoa_is n _ n0 n1 (htt.on (Grows.below _)))))))
  refine wpQuiet_nil ?_
  rintro _ ⟨⟨w1, hb⟩, rfl⟩
  clear hG0 hG1
  go_wp2
  go_ret
  exact ⟨ret_str (WideShapes.bytes_inj (by simp [ptext])), Below.step (by go_grown) hb⟩
end Go.Proofs.YtmbkkjofikijiaaGreatDoor
