/- What the statements ask first: that addresses and prefixes are read, asked, cut and written: it answers true. Conditions: the tables of packages math/bits and strconv are what their texts say. -/
import Derived.Test.YtdjjogcagolcjaaDoorText
import Derived.Test.YtdjjogcagolcjaaDoorCut2
import Derived.Test.YtdjjogcagolcjaaDoorAddrW2
namespace Go.Proofs.YtdjjogcagolcjaaDoor
open Go.RowKit
theorem wk_parse : adrI (parse [49, 48, 46, 49, 46, 50, 46, 51]) = (167838211, 0) := by decide +kernel
theorem wk_pparse : pparse [49, 48, 46, 48, 46, 48, 46, 48, 47, 56] = (167772160, 8, 0) := by decide +kernel
theorem wk_sub : (167838211 : Int) / pw 24 * pw 24 = 167838208 := by decide +kernel
theorem wk_in : inB 167838211 167772160 8 = true := by decide +kernel
theorem wk_qp : wiB 167838208 24 167772160 8 = true := by decide +kernel
theorem wk_pq : wiB 167772160 8 167838208 24 = false := by decide +kernel
theorem wk_text : text (167838211 : Int).toNat = [49, 48, 46, 49, 46, 50, 46, 51] := text_parse (by decide +kernel)
theorem wk_qtext : ptext (167838208 : Int).toNat 24 = [49, 48, 46, 49, 46, 50, 46, 48, 47, 50, 52] := by
  have h1 : text (167838208 : Int).toNat = [49, 48, 46, 49, 46, 50, 46, 48] := text_parse (by decide +kernel)
  have h2 : Lib.itoa 24 = [50, 52] := by
    unfold Lib.itoa
    rw [if_neg (by decide)]
    exact dec_num (top := 32) (by decide +kernel)
  unfold ptext
  rw [h1, h2]
  rfl
theorem wk_cuts : Cuts 167838213 167838211 [(167838211, 32), (167838212, 32)] := by
  have s1 := (stp_step 167838211 167838213 (by decide) (by decide) (by decide)).1
  have s2 := (stp_step 167838212 167838213 (by decide) (by decide) (by decide)).1
  have e1 : stp 167838211 167838213 = 32 := by decide +kernel
  have e2 : stp 167838212 167838213 = 32 := by decide +kernel
  rw [e1] at s1
  rw [e2] at s2
  have n1 : (167838211 : Int) + pw 32 = 167838212 := by decide +kernel
  have n2 : (167838212 : Int) + pw 32 = 167838213 := by decide +kernel
  exact Cuts.cons _ _ _ (by decide) s1 (by rw [n1]; exact Cuts.cons _ _ _ (by decide) s2 (by rw [n2]; exact Cuts.nil))
set_option maxRecDepth 100000 in
set_option maxHeartbeats 2000000 in
theorem works_is (w : World) (hT : Tab w) (h10 : Tab10 w) :
    Calls Tryd.prog 9 #[] w fun e w' => e = .returned (.bool true) ∧ Below w.heap.size w w' := by
  go_enter Tryd.func9, Tryd.ntmps9
  go_wp2_with fail
  go_at_call 10
  refine (parse_is _ _ (by decide)).mono ?_
  rintro e w1 ⟨rfl, hb1⟩
  have HP1 : Hid (adrI (parse (⟨#[49, 48, 46, 49, 46, 50, 46, 51]⟩ : ByteArray).data.toList) = (167838211, 0)) := Lib.hid wk_parse
  rw [HP1.out]
  go_wp2_with fail
  go_at_call 11
  refine (pparse_is _ _ (by decide)).mono ?_
  rintro e w2 ⟨rfl, hb2⟩
  have HP2 : Hid (pparse (⟨#[49, 48, 46, 48, 46, 48, 46, 48, 47, 56]⟩ : ByteArray).data.toList = (167772160, 8, 0)) := Lib.hid wk_pparse
  rw [HP2.out]
  have hB2 : Below w.heap.size w w2 := Below.step hb1 hb2
  clear hb1 hb2
  go_wp2_with fail
  go_at_call 31
  refine (sub_ok 167838211 24 _ (by decide) (by decide) (by decide) (by decide)).mono ?_
  rintro e w3 ⟨rfl, hb3⟩
  rw [wk_sub]
  have hz3 := hb3.size
  simp at hz3
  have hB3 : Below w.heap.size w w3 := Below.step (hB2.alloc hB2.size _) hb3
  have c30 : w3.cell? ⟨w2.heap.size, 0, none⟩ = some (.int .u32 167772160) := (hb3.cell (p := ⟨w2.heap.size, 0, none⟩) (by simp)).trans (by go_simp)
  have c31 : w3.cell? ⟨w2.heap.size, 1, none⟩ = some (.int .i64 8) := (hb3.cell (p := ⟨w2.heap.size, 1, none⟩) (by simp)).trans (by go_simp)
  have q3 : w2.heap.size < w3.heap.size := by omega
  clear hb3 hz3
  go_wp2_with fail
  go_at_call 17
  refine (cut_ok 167838211 167838212 _ (by decide) (by decide) (by decide) (hT.on (hB3.alloc hB3.size _))).mono ?_
  rintro e w4 ⟨v, l, rfl, hC, hown, hb4⟩
  have hl := hC.one wk_cuts
  subst hl
  have hz4 := hb4.size
  simp at hz4
  have hB4 : Below w.heap.size w w4 := Below.step (hB3.alloc hB3.size _) hb4
  have c40 : w4.cell? ⟨w2.heap.size, 0, none⟩ = some (.int .u32 167772160) := (hb4.cell (p := ⟨w2.heap.size, 0, none⟩) (by simp; omega)).trans (by go_simp)
  have c41 : w4.cell? ⟨w2.heap.size, 1, none⟩ = some (.int .i64 8) := (hb4.cell (p := ⟨w2.heap.size, 1, none⟩) (by simp; omega)).trans (by go_simp)
  have c42 : w4.cell? ⟨w3.heap.size, 0, none⟩ = some (.int .u32 167838208) := (hb4.cell (p := ⟨w3.heap.size, 0, none⟩) (by simp)).trans (by go_simp)
  have c43 : w4.cell? ⟨w3.heap.size, 1, none⟩ = some (.int .i64 24) := (hb4.cell (p := ⟨w3.heap.size, 1, none⟩) (by simp)).trans (by go_simp)
  have q40 : w2.heap.size < w4.heap.size := by omega
  have q41 : w3.heap.size < w4.heap.size := by omega
  have hlen : ∃ b c, v = .slice b 2 c := by
    rcases hown.2 with ⟨_, h⟩ | ⟨g, cap, cur, h, _⟩
    · simp at h
    · exact ⟨_, _, h⟩
  obtain ⟨vb, vc, rfl⟩ := hlen
  clear hb4 hz4 hown hC c30 c31
  go_wp2_with (first
    | (go_at_call 13; (with_reducible refine (in_is 167838211 167772160 8 _ (by decide) (by decide)).mono ?_); rintro e w5 ⟨rfl, hb5⟩; rw [wk_in]; have hz5 := hb5.size; obtain ⟨hc5, hf5⟩ := bcell hb5; have q50 : w2.heap.size < w5.heap.size := (by omega); have q51 : w3.heap.size < w5.heap.size := (by omega))
    | (go_at_call 14; (with_reducible refine (within_is 167838208 24 167772160 8 _ (by decide) (by decide) (by decide) (by decide)).mono ?_); rintro e w6 ⟨rfl, hb6⟩; rw [wk_qp]; have hz6 := hb6.size; obtain ⟨hc6, hf6⟩ := bcell hb6; have q60 : w2.heap.size < w6.heap.size := (by omega); have q61 : w3.heap.size < w6.heap.size := (by omega))
    | (go_at_call 14; (with_reducible refine (within_is 167772160 8 167838208 24 _ (by decide) (by decide) (by decide) (by decide)).mono ?_); rintro e w7 ⟨rfl, hb7⟩; rw [wk_pq]; have hz7 := hb7.size; obtain ⟨hc7, hf7⟩ := bcell hb7; have q70 : w2.heap.size < w7.heap.size := (by omega); have q71 : w3.heap.size < w7.heap.size := (by omega))
    | (go_at_call 22; (with_reducible refine (text_is 167838211 _ (by decide) (by decide) (h10.on (Below.step (Below.step (Below.step hB4 hb5) hb6) hb7))).mono ?_); rintro e w8 ⟨rfl, hb8⟩; rw [wk_text]; have hz8 := hb8.size; obtain ⟨hc8, hf8⟩ := bcell hb8; have q80 : w2.heap.size < w8.heap.size := (by omega); have q81 : w3.heap.size < w8.heap.size := (by omega))
    | (go_at_call 18; (with_reducible refine (ptext_is 167838208 24 _ (by decide) (by decide) (by decide) (by decide) (h10.on (Below.step (Below.step (Below.step (Below.step hB4 hb5) hb6) hb7) hb8))).mono ?_); rintro e w9 ⟨rfl, hb9⟩; rw [wk_qtext]; have hz9 := hb9.size; obtain ⟨hc9, hf9⟩ := bcell hb9; have q90 : w2.heap.size < w9.heap.size := (by omega); have q91 : w3.heap.size < w9.heap.size := (by omega)))
  go_ret
  exact ⟨rfl, Below.step (Below.step (Below.step (Below.step (Below.step hB4 hb5) hb6) hb7) hb8) hb9⟩
end Go.Proofs.YtdjjogcagolcjaaDoor
