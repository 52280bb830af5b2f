/- AddrNames answers true. Conditions: the tables of packages math/bits and strconv are what their texts say. -/
import Derived.Test.YtdjjogcagolcjaaDoorWorks
import Derived.Test.YtdjjogcagolcjaaDoorAddrW4
namespace Go.Proofs.YtdjjogcagolcjaaDoor
open Go.RowKit
/-- The cutting as a reckoning; whether it comes to the end in so many steps. -/
def cutL : Nat → Int → Int → List (Int × Int)
  | 0, _, _ => []
  | k + 1, f, e => if f < e then (f, stp f e) :: cutL k (f + pw (stp f e)) e else []
def cutB : Nat → Int → Int → Bool
  | 0, f, e => f == e
  | k + 1, f, e => if f < e then cutB k (f + pw (stp f e)) e else f == e
theorem cutB_cuts (e : Int) (he : e ≤ 4294967296) : ∀ (k : Nat) (f : Int), 0 ≤ f → cutB k f e = true → Cuts e f (cutL k f e) := by
  intro k
  induction k with
  | zero =>
    intro f _ h
    simp only [cutB, beq_iff_eq] at h
    subst h
    exact Cuts.nil
  | succ k ih =>
    intro f h0 h
    unfold cutB at h
    unfold cutL
    by_cases hlt : f < e
    · rw [if_pos hlt] at h ⊢
      have hp := pw_pos (stp f e)
      exact Cuts.cons _ _ _ hlt (stp_step f e h0 hlt he).1 (ih _ (by omega) h)
    · rw [if_neg hlt] at h ⊢
      simp only [beq_iff_eq] at h
      subst h
      exact Cuts.nil
theorem cuts_len {e f : Int} {l : List (Int × Int)} (h : Cuts e f l) (he : e ≤ 4294967296) (h0 : 0 ≤ f) (k : Nat) (hb : cutB k f e = true) : l = cutL k f e := h.one (cutB_cuts e he k f h0 hb)
theorem owns_len {w : World} {b e k : Nat} {v : Value} {n : Nat} {xs : List Value} (h : w.ownsRow b e k v n xs) (hn : 1 ≤ n) : ∃ a c, v = .slice a n c := by
  rcases h.2 with ⟨_, h⟩ | ⟨g, cap, cur, h, _⟩
  · omega
  · exact ⟨_, _, h⟩
theorem nm_bad0 : adrI (parse [50, 53, 54, 46, 48, 46, 48, 46, 49]) = (0, 4) := by decide +kernel
theorem nm_bad1 : adrI (parse [49, 46, 50, 46, 51]) = (0, 4) := by decide +kernel
theorem nm_bad2 : adrI (parse [49, 46, 50, 46, 51, 46, 52, 46, 53]) = (0, 4) := by decide +kernel
theorem nm_bad3 : adrI (parse [49, 46, 46, 50, 46, 51]) = (0, 4) := by decide +kernel
theorem nm_bad4 : adrI (parse [48, 49, 46, 50, 46, 51, 46, 52]) = (0, 4) := by decide +kernel
theorem nm_all : pparse [48, 46, 48, 46, 48, 46, 48, 47, 48] = (0, 0, 0) := by decide +kernel
theorem nm_one : pparse [50, 53, 53, 46, 50, 53, 53, 46, 50, 53, 53, 46, 50, 53, 53, 47, 51, 50] = (4294967295, 32, 0) := by decide +kernel
theorem nm_g : pparse [49, 50, 56, 46, 48, 46, 48, 46, 48, 47, 48] = (0, 0, 10) := by decide +kernel
theorem nm_h : pparse [48, 46, 48, 46, 48, 46, 48, 47, 51, 51] = (0, 0, 4) := by decide +kernel
theorem nm_m0 : mk 0 = 0 := by decide +kernel
theorem nm_m32 : mk 32 = 4294967295 := by decide +kernel
theorem nm_in1 : inB 0 0 0 = true := by decide +kernel
theorem nm_in2 : inB 4294967295 0 0 = true := by decide +kernel
theorem nm_in3 : inB 4294967295 4294967295 32 = true := by decide +kernel
theorem nm_in4 : inB 0 4294967295 32 = false := by decide +kernel
theorem nm_wi : wiB 4294967295 32 0 0 = true := by decide +kernel
theorem nm_e : (0 : Int) + (pw 0 - 1) = 4294967295 := by decide +kernel
theorem nm_ck : ck 0 0 = 0 := by decide +kernel
theorem nm_l1 : (cutL 1 0 4294967296).length = 1 := by decide +kernel
theorem nm_b1 : cutB 1 0 4294967296 = true := by decide +kernel
theorem nm_l2 : (cutL 62 1 4294967295).length = 62 := by decide +kernel
theorem nm_b2 : cutB 62 1 4294967295 = true := by decide +kernel
theorem nm_text : ptext (0 : Int).toNat (-5) = [48, 46, 48, 46, 48, 46, 48, 47, 45, 53] := by
  have h1 : text (0 : Int).toNat = [48, 46, 48, 46, 48, 46, 48] := text_parse (by decide +kernel)
  have h2 : Lib.itoa (-5) = [45, 53] := by
    unfold Lib.itoa
    rw [if_pos (by decide), show (-5 : Int).natAbs = 5 from rfl, dec_small (by decide)]
    rfl
  unfold ptext
  rw [h1, h2]
  rfl
set_option maxRecDepth 100000 in
set_option maxHeartbeats 8000000 in
theorem names_any (w : World) (hT : Tab w) (h10 : Tab10 w) :
    Calls Tryd.prog 3 #[] w fun e w' => e = .returned (.bool true) ∧ Below w.heap.size w w' := by
  go_enter Tryd.func3, Tryd.ntmps3
  go_wp2_with (first | (go_at_call 9; (with_reducible refine (works_is _ hT h10).mono ?_); rintro e w1 ⟨rfl, hb1⟩))
  have hs1 := hb1.size
  obtain ⟨W1, hW1⟩ : ∃ W1 : World, W1 = w1 := ⟨_, rfl⟩
  go_loopw [41] (fun i wr => ∃ k : Nat, k ≤ 5 ∧ i = .int .i64 k ∧ Below (w1.heap.size + 1) (w1.alloc (.cells #[.string ⟨#[50, 53, 54, 46, 48, 46, 48, 46, 49]⟩, .string ⟨#[49, 46, 50, 46, 51]⟩, .string ⟨#[49, 46, 50, 46, 51, 46, 52, 46, 53]⟩, .string ⟨#[49, 46, 46, 50, 46, 51]⟩, .string ⟨#[48, 49, 46, 50, 46, 51, 46, 52]⟩] 9)) wr) (fun i _ => 5 - (intOf i).toNat)
  case atStart => exact ⟨0, by omega, rfl, Below.refl _ _⟩
  case round =>
    obtain ⟨k, hk, rfl, hbw⟩ := hrel
    clear hW1
    by_cases hlt : k < 5
    · have hcases : k = 0 ∨ k = 1 ∨ k = 2 ∨ k = 3 ∨ k = 4 := by omega
      rcases hcases with rfl | rfl | rfl | rfl | rfl
      · have c0 : wr.cell? ⟨w1.heap.size, 0, none⟩ = some (.string ⟨#[50, 53, 54, 46, 48, 46, 48, 46, 49]⟩) := (hbw.cell (p := ⟨w1.heap.size, 0, none⟩) (by simp)).trans (by go_simp)
        go_wp2_with (first | (go_at_call 10; (with_reducible refine (parse_is ⟨#[50, 53, 54, 46, 48, 46, 48, 46, 49]⟩ _ (by decide)).mono ?_); rintro e w2 ⟨rfl, hb2⟩; rw [show adrI (parse (⟨#[50, 53, 54, 46, 48, 46, 48, 46, 49]⟩ : ByteArray).data.toList) = _ from nm_bad0]))
        go_roundw
        case rel => exact ⟨0 + 1, by omega, by go_num, hbw.trans (hb2.mono (by have := hbw.size; simp at this; omega))⟩
        case measure => simp [intOf]
      · have c0 : wr.cell? ⟨w1.heap.size, 1, none⟩ = some (.string ⟨#[49, 46, 50, 46, 51]⟩) := (hbw.cell (p := ⟨w1.heap.size, 1, none⟩) (by simp)).trans (by go_simp)
        go_wp2_with (first | (go_at_call 10; (with_reducible refine (parse_is ⟨#[49, 46, 50, 46, 51]⟩ _ (by decide)).mono ?_); rintro e w2 ⟨rfl, hb2⟩; rw [show adrI (parse (⟨#[49, 46, 50, 46, 51]⟩ : ByteArray).data.toList) = _ from nm_bad1]))
        go_roundw
        case rel => exact ⟨1 + 1, by omega, by go_num, hbw.trans (hb2.mono (by have := hbw.size; simp at this; omega))⟩
        case measure => simp [intOf]
      · have c0 : wr.cell? ⟨w1.heap.size, 2, none⟩ = some (.string ⟨#[49, 46, 50, 46, 51, 46, 52, 46, 53]⟩) := (hbw.cell (p := ⟨w1.heap.size, 2, none⟩) (by simp)).trans (by go_simp)
        go_wp2_with (first | (go_at_call 10; (with_reducible refine (parse_is ⟨#[49, 46, 50, 46, 51, 46, 52, 46, 53]⟩ _ (by decide)).mono ?_); rintro e w2 ⟨rfl, hb2⟩; rw [show adrI (parse (⟨#[49, 46, 50, 46, 51, 46, 52, 46, 53]⟩ : ByteArray).data.toList) = _ from nm_bad2]))
        go_roundw
        case rel => exact ⟨2 + 1, by omega, by go_num, hbw.trans (hb2.mono (by have := hbw.size; simp at this; omega))⟩
        case measure => simp [intOf]
      · have c0 : wr.cell? ⟨w1.heap.size, 3, none⟩ = some (.string ⟨#[49, 46, 46, 50, 46, 51]⟩) := (hbw.cell (p := ⟨w1.heap.size, 3, none⟩) (by simp)).trans (by go_simp)
        go_wp2_with (first | (go_at_call 10; (with_reducible refine (parse_is ⟨#[49, 46, 46, 50, 46, 51]⟩ _ (by decide)).mono ?_); rintro e w2 ⟨rfl, hb2⟩; rw [show adrI (parse (⟨#[49, 46, 46, 50, 46, 51]⟩ : ByteArray).data.toList) = _ from nm_bad3]))
        go_roundw
        case rel => exact ⟨3 + 1, by omega, by go_num, hbw.trans (hb2.mono (by have := hbw.size; simp at this; omega))⟩
        case measure => simp [intOf]
      · have c0 : wr.cell? ⟨w1.heap.size, 4, none⟩ = some (.string ⟨#[48, 49, 46, 50, 46, 51, 46, 52]⟩) := (hbw.cell (p := ⟨w1.heap.size, 4, none⟩) (by simp)).trans (by go_simp)
        go_wp2_with (first | (go_at_call 10; (with_reducible refine (parse_is ⟨#[48, 49, 46, 50, 46, 51, 46, 52]⟩ _ (by decide)).mono ?_); rintro e w2 ⟨rfl, hb2⟩; rw [show adrI (parse (⟨#[48, 49, 46, 50, 46, 51, 46, 52]⟩ : ByteArray).data.toList) = _ from nm_bad4]))
        go_roundw
        case rel => exact ⟨4 + 1, by omega, by go_num, hbw.trans (hb2.mono (by have := hbw.size; simp at this; omega))⟩
        case measure => simp [intOf]
    · obtain rfl : k = 5 := by omega
      have hB6 : Below w.heap.size w wr := ((hb1.alloc hs1 _).trans (hbw.mono (by omega)))
      clear hbw hlt
      go_wp2_with (first
        | (go_at_call 11; (with_reducible refine (pparse_is ⟨#[48, 46, 48, 46, 48, 46, 48, 47, 48]⟩ _ (by decide)).mono ?_); rintro e w7 ⟨rfl, hb7⟩; rw [show pparse (⟨#[48, 46, 48, 46, 48, 46, 48, 47, 48]⟩ : ByteArray).data.toList = _ from nm_all]; have hB7 : Below w.heap.size w w7 := (Below.step hB6 hb7); have hz7 := hb7.size; (try simp at hz7); obtain ⟨hc7, hf7⟩ := bcell hb7)
        | (go_at_call 11; (with_reducible refine (pparse_is ⟨#[50, 53, 53, 46, 50, 53, 53, 46, 50, 53, 53, 46, 50, 53, 53, 47, 51, 50]⟩ _ (by decide)).mono ?_); rintro e w8 ⟨rfl, hb8⟩; rw [show pparse (⟨#[50, 53, 53, 46, 50, 53, 53, 46, 50, 53, 53, 46, 50, 53, 53, 47, 51, 50]⟩ : ByteArray).data.toList = _ from nm_one]; have hB8 : Below w.heap.size w w8 := (Below.step (hB7.alloc hB7.size _) hb8); have hz8 := hb8.size; (try simp at hz8); obtain ⟨hc8, hf8⟩ := bcell hb8; have q8_0 : w7.heap.size < w8.heap.size := (by omega))
        | (go_at_call 11; (with_reducible refine (pparse_is ⟨#[49, 50, 56, 46, 48, 46, 48, 46, 48, 47, 48]⟩ _ (by decide)).mono ?_); rintro e w9 ⟨rfl, hb9⟩; rw [show pparse (⟨#[49, 50, 56, 46, 48, 46, 48, 46, 48, 47, 48]⟩ : ByteArray).data.toList = _ from nm_g]; have hB9 : Below w.heap.size w w9 := (Below.step (hB8.alloc hB8.size _) hb9); have hz9 := hb9.size; (try simp at hz9); obtain ⟨hc9, hf9⟩ := bcell hb9; have q9_0 : w7.heap.size < w9.heap.size := (by omega); have q9_1 : w8.heap.size < w9.heap.size := (by omega))
        | (go_at_call 11; (with_reducible refine (pparse_is ⟨#[48, 46, 48, 46, 48, 46, 48, 47, 51, 51]⟩ _ (by decide)).mono ?_); rintro e w10 ⟨rfl, hb10⟩; rw [show pparse (⟨#[48, 46, 48, 46, 48, 46, 48, 47, 51, 51]⟩ : ByteArray).data.toList = _ from nm_h]; have hB10 : Below w.heap.size w w10 := (Below.step (hB9.alloc hB9.size _) hb10); have hz10 := hb10.size; (try simp at hz10); obtain ⟨hc10, hf10⟩ := bcell hb10; have q10_0 : w7.heap.size < w10.heap.size := (by omega); have q10_1 : w8.heap.size < w10.heap.size := (by omega))
        | (go_at_call 12; (with_reducible refine (mask_ok 0 _ (by decide) (by decide)).mono ?_); rintro e w' ⟨rfl, rfl⟩; rw [nm_m0])
        | (go_at_call 12; (with_reducible refine (mask_ok 32 _ (by decide) (by decide)).mono ?_); rintro e w' ⟨rfl, rfl⟩; rw [nm_m32])
        | (go_at_call 13; (with_reducible refine (in_is 0 0 0 _ (by decide) (by decide)).mono ?_); rintro e w11 ⟨rfl, hb11⟩; rw [nm_in1]; have hB11 : Below w.heap.size w w11 := (Below.step (hB10.alloc hB10.size _) hb11); have hz11 := hb11.size; (try simp at hz11); obtain ⟨hc11, hf11⟩ := bcell hb11; have q11_0 : w7.heap.size < w11.heap.size := (by omega); have q11_1 : w8.heap.size < w11.heap.size := (by omega))
        | (go_at_call 13; (with_reducible refine (in_is 4294967295 0 0 _ (by decide) (by decide)).mono ?_); rintro e w12 ⟨rfl, hb12⟩; rw [nm_in2]; have hB12 : Below w.heap.size w w12 := (Below.step hB11 hb12); have hz12 := hb12.size; (try simp at hz12); obtain ⟨hc12, hf12⟩ := bcell hb12; have q12_0 : w7.heap.size < w12.heap.size := (by omega); have q12_1 : w8.heap.size < w12.heap.size := (by omega))
        | (go_at_call 13; (with_reducible refine (in_is 4294967295 4294967295 32 _ (by decide) (by decide)).mono ?_); rintro e w13 ⟨rfl, hb13⟩; rw [nm_in3]; have hB13 : Below w.heap.size w w13 := (Below.step hB12 hb13); have hz13 := hb13.size; (try simp at hz13); obtain ⟨hc13, hf13⟩ := bcell hb13; have q13_0 : w7.heap.size < w13.heap.size := (by omega); have q13_1 : w8.heap.size < w13.heap.size := (by omega))
        | (go_at_call 13; (with_reducible refine (in_is 0 4294967295 32 _ (by decide) (by decide)).mono ?_); rintro e w14 ⟨rfl, hb14⟩; rw [nm_in4]; have hB14 : Below w.heap.size w w14 := (Below.step hB13 hb14); have hz14 := hb14.size; (try simp at hz14); obtain ⟨hc14, hf14⟩ := bcell hb14; have q14_0 : w7.heap.size < w14.heap.size := (by omega); have q14_1 : w8.heap.size < w14.heap.size := (by omega))
        | (go_at_call 14; (with_reducible refine (within_is 4294967295 32 0 0 _ (by decide) (by decide) (by decide) (by decide)).mono ?_); rintro e w15 ⟨rfl, hb15⟩; rw [nm_wi]; have hB15 : Below w.heap.size w w15 := (Below.step hB14 hb15); have hz15 := hb15.size; (try simp at hz15); obtain ⟨hc15, hf15⟩ := bcell hb15; have q15_0 : w7.heap.size < w15.heap.size := (by omega); have q15_1 : w8.heap.size < w15.heap.size := (by omega))
        | (go_at_call 15; (with_reducible refine (halves_32 4294967295 _ (by decide) (by decide)).mono ?_); rintro e w16 ⟨rfl, hb16⟩; have hB16 : Below w.heap.size w w16 := (Below.step hB15 hb16); have hz16 := hb16.size; (try simp at hz16); obtain ⟨hc16, hf16⟩ := bcell hb16; have q16_0 : w7.heap.size < w16.heap.size := (by omega); have q16_1 : w8.heap.size < w16.heap.size := (by omega); have p16_0 : w7.heap.size < w16.heap.size + 1 := (by omega); have p16_1 : w8.heap.size < w16.heap.size + 1 := (by omega))
        | (go_at_call 16; (with_reducible refine (ends_ok 0 0 _ (by decide) (by decide) nm_ck).mono ?_); rintro e w17 ⟨rfl, hb17⟩; rw [nm_e]; have hB17 : Below w.heap.size w w17 := (Below.step ((hB16.alloc hB16.size _).alloc (by have := hB16.size; simp; omega) _) hb17)))
      go_at_call 17
      refine (cut_ok 0 4294967295 _ (by decide) (by decide) (by decide) (hT.on hB17)).mono ?_
      rintro e w18 ⟨v18, l18, rfl, hC18, hown18, hb18⟩
      have hl18 := cuts_len hC18 (by decide) (by decide) 1 nm_b1
      subst hl18
      rw [show (cutL 1 0 (4294967295 + 1)).length = 1 from nm_l1] at hown18
      obtain ⟨a18, c18, rfl⟩ := owns_len hown18 (by decide)
      have hB18 : Below w.heap.size w w18 := Below.step hB17 hb18
      clear hC18 hown18
      go_wp2_with fail
      go_at_call 17
      refine (cut_ok 1 4294967294 _ (by decide) (by decide) (by decide) (hT.on hB18)).mono ?_
      rintro e w19 ⟨v19, l19, rfl, hC19, hown19, hb19⟩
      have hl19 := cuts_len hC19 (by decide) (by decide) 62 nm_b2
      subst hl19
      rw [show (cutL 62 1 (4294967294 + 1)).length = 62 from nm_l2] at hown19
      obtain ⟨a19, c19, rfl⟩ := owns_len hown19 (by decide)
      have hB19 : Below w.heap.size w w19 := Below.step hB18 hb19
      clear hC19 hown19
      go_wp2_with (first
        | (go_at_call 17; (with_reducible refine (cut_no 1 0 _ (by decide)).mono ?_); rintro e w' ⟨rfl, rfl⟩)
        | (go_at_call 18; (with_reducible refine (ptext_is 0 (-5) _ (by decide) (by decide) (by decide) (by decide) (h10.on hB19)).mono ?_); rintro e w20 ⟨rfl, hb20⟩; rw [nm_text]))
      go_ret
      exact ⟨rfl, Below.step hB19 hb20⟩
end Go.Proofs.YtdjjogcagolcjaaDoor
