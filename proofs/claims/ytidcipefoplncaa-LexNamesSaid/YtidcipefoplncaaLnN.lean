/- LexNames returns true, and nothing that was there changes. No condition. -/
import Derived.Test.YtidcipefoplncaaLnm
import Derived.Test.YtidcipefoplncaaLxN
import Derived.Laws.MakeOwn
import Derived.Laws.IdiomStrings
namespace Go.Proofs.Ytidcipefoplncaa
open Go.RowKit
theorem infoU8 : (Try.prog.info? 5).map (fun i => (i.zero, i.size, i.bytes)) = some (some (.int .u8 0), 1, 1) := by kernel_rfl
theorem make_is (n : Nat) (hn : n ≤ 100000) : ∃ C : Array Value, C.size = n ∧ ∀ w : World, (Instr.makeSlice 23 (.int .i64 n) (.int .i64 n)).run Try.prog w = .ok (.slice (some ⟨w.heap.size, 0, none⟩) n n) (w.alloc (.cells C 5)) := by
  obtain ⟨i0, hi0, hy0, hy1, hy2⟩ := info_parts infoU8
  refine ⟨madeCells (Value.int .u8 0).cells (n * 1), by rw [size_madeCells]; omega, fun w => ?_⟩
  have := run_makeSlice (P := Try.prog) w 23 5 i0 (.int .u8 0) Try.underlying23 hi0 hy0 .i64 .i64 n n (by omega) (Int.le_refl _) (by rw [hy1]; simp; omega) (by rw [hy2]; omega) (by omega)
  rw [hy1] at this
  simpa using this
/-- A block of bytes whose first i are b. -/
def Filled (W : World) (g n i : Nat) (b : UInt8) : Prop := ∃ C : Array Value, W.heap[g]? = some (.cells C 5 (0, 0)) ∧ C.size = n ∧ ∀ j, j < i → C[j]? = some (.int .u8 b.toNat)
theorem Filled.lt {W : World} {g n i : Nat} {b : UInt8} (h : Filled W g n i b) : g < W.heap.size := by
  obtain ⟨C, h1, _⟩ := h
  exact (Array.getElem?_eq_some_iff.1 h1).1
theorem Filled.on {W W' : World} {g n i : Nat} {b : UInt8} (h : Filled W g n i b) (hk : W'.heap[g]? = W.heap[g]?) : Filled W' g n i b := by
  obtain ⟨C, h1, h2⟩ := h
  exact ⟨C, hk.trans h1, h2⟩
theorem Filled.set {W : World} {g n i : Nat} {b : UInt8} (h : Filled W g n i b) (hi : i < n) : (∃ v, W.cell? ⟨g, i, none⟩ = some v) ∧ W.frozen? ⟨g, i, none⟩ = false ∧ Filled (W.setCell ⟨g, i, none⟩ (.int .u8 b.toNat)) g n (i + 1) b := by
  obtain ⟨C, h1, h2, h3⟩ := h
  have hiC : i < C.size := by omega
  refine ⟨⟨C[i], ?_⟩, frozen_of_row _ _ i _ _ h1, ?_⟩
  · rw [cell_of_row _ _ i _ _ (0, 0) h1]; exact Array.getElem?_eq_getElem hiC
  · refine ⟨C.setIfInBounds i (.int .u8 b.toNat), heap_setCell_same W g i C 5 _ h1, by simpa using h2, fun j hj => ?_⟩
    rw [Array.getElem?_setIfInBounds]
    by_cases hji : i = j
    · rw [if_pos hji, if_pos hiC]
    · rw [if_neg hji]; exact h3 j (by omega)
theorem Filled.text {W : World} {g n m : Nat} {b : UInt8} (h : Filled W g n n b) (hm : m ≤ n) (cap : Nat) (t : List UInt8) (ht : List.replicate m b = t) : (convert 23 9 (.slice (some ⟨g, 0, none⟩) m cap)).run Try.prog W = .ok (.string ⟨t.toArray⟩) W := by
  obtain ⟨C, h1, h2, h3⟩ := h
  have hl : t.length = m := by rw [← ht, List.length_replicate]
  have := run_convert_bytes_back (P := Try.prog) W 23 9 5 ⟨g, 0, none⟩ cap t Try.underlying23 Try.underlying5 Try.underlying9 (fun j hj => by
    have hb : t[j] = b := by
      have hm : t[j] ∈ List.replicate m b := by rw [ht]; exact List.getElem_mem hj
      exact (List.mem_replicate.1 hm).2
    have ha : (⟨g, 0, none⟩ : Addr).add j = ⟨g, j, none⟩ := by unfold Addr.add; split <;> simp_all
    rw [ha, cell_of_row _ _ j _ _ (0, 0) h1, h3 j (by omega), hb])
  rw [hl] at this
  exact this
theorem lines_no (l : List UInt8) (hl : l.length ≤ 100000) (u v E : Int) (hE : E ≠ 0) (hc : ChkV l = .tuple #[.agg #[.int .i64 u, .int .i64 v], .int .i64 E]) (W : World) : Calls Try.prog 6 #[.string ⟨l.toArray⟩] W fun e w' => e = .returned (.tuple #[.slice none 0 0, .agg #[.int .i64 u, .int .i64 v], .int .i64 E]) ∧ Below W.heap.size W w' := by
  refine (lines_is ⟨l.toArray⟩ W (by rw [mk_size]; omega)).mono fun e w' hh => ?_
  obtain ⟨hb, ⟨u', v', E', _, hc', he⟩ | ⟨s, L, hc', he, hL, ho⟩⟩ := hh
  · rw [show (⟨l.toArray⟩ : ByteArray).data.toList = l by simp, hc] at hc'
    simp at hc'
    obtain ⟨⟨rfl, rfl⟩, rfl⟩ := hc'
    exact ⟨he, hb⟩
  · rw [show (⟨l.toArray⟩ : ByteArray).data.toList = l by simp, hc] at hc'
    simp at hc'
    exact absurd hc'.2 hE
theorem tokens_no (l : List UInt8) (hl : l.length ≤ 100000) (u v E : Int) (hE : E ≠ 0) (hc : ChkV l = .tuple #[.agg #[.int .i64 u, .int .i64 v], .int .i64 E]) (W : World) : Calls Try.prog 7 #[.string ⟨l.toArray⟩] W fun e w' => e = .returned (.tuple #[.slice none 0 0, .agg #[.int .i64 u, .int .i64 v], .int .i64 E]) ∧ Below W.heap.size W w' := by
  refine (tokens_is ⟨l.toArray⟩ W (by rw [mk_size]; omega)).mono fun e w' hh => ?_
  obtain ⟨hb, ⟨u', v', E', _, hc', he⟩ | ⟨u', v', hc', ht, he⟩ | ⟨s, hc', ht, he, ho⟩⟩ := hh
  · rw [show (⟨l.toArray⟩ : ByteArray).data.toList = l by simp, hc] at hc'
    simp at hc'
    obtain ⟨⟨rfl, rfl⟩, rfl⟩ := hc'
    exact ⟨he, hb⟩
  · rw [show (⟨l.toArray⟩ : ByteArray).data.toList = l by simp, hc] at hc'
    simp at hc'
    exact absurd hc'.2 hE
  · rw [show (⟨l.toArray⟩ : ByteArray).data.toList = l by simp, hc] at hc'
    simp at hc'
    exact absurd hc'.2 hE
theorem lines_yes (l : List UInt8) (hl : l.length ≤ 100000) (hc : ChkV l = .tuple #[.agg #[.int .i64 0, .int .i64 0], .int .i64 0]) (W : World) : Calls Try.prog 6 #[.string ⟨l.toArray⟩] W fun e w' => ∃ p c, e = .returned (.tuple #[.slice p (lnk l 1).length c, .agg #[.int .i64 0, .int .i64 0], .int .i64 0]) ∧ Below W.heap.size W w' := by
  refine (lines_is ⟨l.toArray⟩ W (by rw [mk_size]; omega)).mono fun e w' hh => ?_
  obtain ⟨hb, ⟨u', v', E', hE, hc', he⟩ | ⟨s, L, hc', he, hL, ho⟩⟩ := hh
  · rw [show (⟨l.toArray⟩ : ByteArray).data.toList = l by simp, hc] at hc'
    simp at hc'
    omega
  · rw [show (⟨l.toArray⟩ : ByteArray).data.toList = l by simp] at hL
    obtain ⟨p, c, rfl⟩ := own_sl ho.1
    rw [← hL, List.length_map]
    exact ⟨p, c, he, hb⟩
theorem mkl (l : List UInt8) : (⟨l.toArray⟩ : ByteArray).data.toList = l := by simp
def nm32 : List UInt8 := [97, 98, 99, 100, 101, 102, 103, 104, 105, 106, 107, 108, 109, 110, 111, 112, 113, 114, 115, 116, 117, 118, 119, 120, 121, 122, 45, 48, 49, 50, 51, 52]
def nm33 : List UInt8 := [97, 98, 99, 100, 101, 102, 103, 104, 105, 106, 107, 108, 109, 110, 111, 112, 113, 114, 115, 116, 117, 118, 119, 120, 121, 122, 45, 48, 49, 50, 51, 52, 120]
theorem nm32_yes : nameB nm32 = true := by decide +kernel
theorem nm33_no : nameB nm33 = false := by decide +kernel
theorem nm33_ext : ((⟨nm33.toArray⟩ : ByteArray).extract 0 32).data.toList = nm32 := by
  rw [ByteArray.data_extract]
  decide +kernel
theorem nm33_size : ((⟨nm33.toArray⟩ : ByteArray).extract 0 32).size ≤ 9223372036854775807 := by
  have h := congrArg List.length nm33_ext
  have h2 : nm32.length = 32 := rfl
  rw [h2] at h
  simp only [Array.length_toList] at h
  show ((⟨nm33.toArray⟩ : ByteArray).extract 0 32).data.size ≤ _
  omega
set_option maxRecDepth 100000 in
set_option maxHeartbeats 16000000 in
theorem lexNames_is (w : World) : Calls Try.prog 3 #[] w fun e w' => e = .returned (.bool true) ∧ Below w.heap.size w w' := by
  have HW := Lib.hid (fun W => works_is W)
  obtain ⟨C1, hC1, hm1⟩ := make_is 65537 (by omega)
  obtain ⟨C2, hC2, hm2⟩ := make_is 4096 (by omega)
  have HC1 := Lib.hid hC1; have HC2 := Lib.hid hC2
  have hmk1 : ∀ w : World, (Instr.makeSlice 23 (.int .i64 65537) (.int .i64 65537)).run Try.prog w = .ok (.slice (some ⟨w.heap.size, 0, none⟩) 65537 65537) (w.alloc (.cells C1 5)) := hm1
  have hmk2 : ∀ w : World, (Instr.makeSlice 23 (.int .i64 4096) (.int .i64 4096)).run Try.prog w = .ok (.slice (some ⟨w.heap.size, 0, none⟩) 4096 4096) (w.alloc (.cells C2 5)) := hm2
  have HM2 := Lib.hid hmk2
  obtain ⟨T1, hT1⟩ : ∃ T1 : List UInt8, List.replicate 65536 97 = T1 := ⟨_, rfl⟩
  obtain ⟨T2, hT2⟩ : ∃ T2 : List UInt8, List.replicate 65537 97 = T2 := ⟨_, rfl⟩
  obtain ⟨T3, hT3⟩ : ∃ T3 : List UInt8, List.replicate 4096 10 = T3 := ⟨_, rfl⟩
  have l1 : T1.length = 65536 := by rw [← hT1, List.length_replicate]
  have l2 : T2.length = 65537 := by rw [← hT2, List.length_replicate]
  have l3 : T3.length = 4096 := by rw [← hT3, List.length_replicate]
  have H1 := Lib.hid (fun W => lines_yes T1 (by omega) (by rw [← hT1]; exact chk_a) W)
  rw [show (lnk T1 1).length = 1 by rw [← hT1]; exact lnk_a] at H1
  have H2 := Lib.hid (fun W => lines_no T2 (by omega) 0 0 3 (by decide) (by rw [← hT2]; exact chk_long) W)
  have H3 := Lib.hid (fun W => lines_yes T3 (by omega) (by rw [← hT3]; exact chk_nl) W)
  have H4 := Lib.hid (fun W => lines_no (T3 ++ [32]) (by rw [List.length_append, l3]; decide) 4097 1 3 (by decide) (by rw [← hT3]; exact chk_far 32) W)
  have H5 := Lib.hid (fun W => tokens_no (T3 ++ [120]) (by rw [List.length_append, l3]; decide) 4097 1 3 (by decide) (by rw [← hT3]; exact chk_far 120) W)
  have H6 := Lib.hid (fun W => tokens_no [97, 98, 10, 32, 127] (by decide) 2 2 70 (by decide) chk_del W)
  have HN1 : Hid (∀ W, Calls Try.prog 8 #[.string ((⟨nm33.toArray⟩ : ByteArray).extract 0 32)] W fun e w' => e = .returned (.bool true) ∧ W = w') := Lib.hid fun W => by have := name_is ((⟨nm33.toArray⟩ : ByteArray).extract 0 32) W nm33_size; rw [nm33_ext, nm32_yes] at this; exact this
  have HN2 : Hid (∀ W, Calls Try.prog 8 #[.string ⟨nm33.toArray⟩] W fun e w' => e = .returned (.bool false) ∧ W = w') := Lib.hid fun W => by have := name_is ⟨nm33.toArray⟩ W (by decide); rw [mkl nm33, nm33_no] at this; exact this
  unfold nm33 at HN1 HN2
  have hcat : ¬ 9223372036854775807 < T3.length + 1 := by omega
  have HT1 := Lib.hid hT1; have HT2 := Lib.hid hT2; have HT3 := Lib.hid hT3
  clear hm1 hm2 hmk2 hT1 hT2 hT3 l1 l2 l3
  go_enter Try.func3, Try.ntmps3
  go_wp2_with (go_at_call 5; (with_reducible refine (HW.out _).mono ?_); rintro e w1 ⟨rfl, hb1⟩)
  obtain ⟨g1, hg1⟩ : ∃ g1, w1.heap.size = g1 := ⟨_, rfl⟩
  obtain ⟨W1, hW1⟩ : ∃ W1, w1.alloc (.cells C1 5) = W1 := ⟨_, rfl⟩
  have hf1 : Filled W1 g1 65537 0 97 := ⟨C1, by rw [← hW1, ← hg1]; exact heap_alloc_new w1 _, HC1.out, fun j hj => by omega⟩
  have hB1 : Below w.heap.size w W1 := by rw [← hW1]; exact hb1.alloc hb1.size _
  have hg1w : w.heap.size ≤ g1 := by have := hb1.size; omega
  rw [hW1, hg1]
  have HF1 := Lib.hid hf1; have HB1 := Lib.hid hB1
  clear hW1 hg1 hb1 hf1 hB1 hmk1
  go_loopw [2] (fun s wr => ∃ i : Nat, i ≤ 65537 ∧ s = .int .i64 i ∧ Filled wr g1 65537 i 97 ∧ W1.grownBy wr (some g1)) (fun s _ => 65537 - (intOf s).toNat)
  case atStart => exact ⟨0, by omega, rfl, HF1.out, gb_refl _ _⟩
  case round =>
    obtain ⟨i, hi, rfl, hf, hgr⟩ := hrel
    by_cases hlt : i < 65537
    · obtain ⟨⟨v, hv⟩, hfr, hfs⟩ := hf.set hlt
      have HFS := Lib.hid hfs; have HGR := Lib.hid hgr
      have e1 : (0 : Int) ≤ (i : Int) := by omega
      have e2 : (i : Int) < 65537 := by omega
      clear hf hfs hgr
      go_wp2_with fail
      go_roundw
      case rel => exact ⟨i + 1, by omega, by go_num, HFS.out, gb_set HGR.out _ _⟩
      case measure => first | (simp [intOf]; done) | (simp [intOf]; omega)
    · have e2 : ¬ (i : Int) < 65537 := by omega
      have hi2 : i = 65537 := by omega
      rw [hi2] at hf
      have HF := Lib.hid hf; have HGR := Lib.hid hgr
      have hmk2 := HM2.out
      clear hf hgr hi2 hlt
      obtain ⟨g2, hg2⟩ : ∃ g2, wr.heap.size = g2 := ⟨_, rfl⟩
      go_wp2_with fail
      obtain ⟨W2, hW2⟩ : ∃ W2, wr.alloc (.cells C2 5) = W2 := ⟨_, rfl⟩
      have hf2 : Filled W2 g2 4096 0 10 := ⟨C2, by rw [← hW2, ← hg2]; exact heap_alloc_new wr _, HC2.out, fun j hj => by omega⟩
      have hbw : Below w.heap.size w wr := ⟨HGR.out.os.trans HB1.out.os, HGR.out.tape.trans HB1.out.tape, HGR.out.output.trans HB1.out.output, Nat.le_trans HB1.out.size HGR.out.size, fun k hk => (HGR.out.block k (by have := HB1.out.size; omega) (fun e => by cases e; omega)).trans (HB1.out.block k hk)⟩
      have hB2 : Below w.heap.size w W2 := by rw [← hW2]; exact hbw.alloc hbw.size _
      have hf1 : Filled W2 g1 65537 65537 97 := HF.out.on (by rw [← hW2]; exact heap_alloc_old wr _ HF.out.lt)
      have hg12 : g1 ≠ g2 := by have := HF.out.lt; omega
      have hg2w : w.heap.size ≤ g2 := by have := hbw.size; omega
      have hg1l := hf1.lt
      try rw [hW2]
      have HFA := Lib.hid hf1; have HFB := Lib.hid hf2; have HB2 := Lib.hid hB2
      clear hW2 hg2 hf1 hf2 hbw hB2 HGR HF hmk2
      go_loopw [4] (fun s wr => ∃ i : Nat, i ≤ 4096 ∧ s = .int .i64 i ∧ Filled wr g2 4096 i 10 ∧ W2.grownBy wr (some g2)) (fun s _ => 4096 - (intOf s).toNat)
      case atStart => exact ⟨0, by omega, rfl, HFB.out, gb_refl _ _⟩
      case round =>
        obtain ⟨k, hk, rfl, hf, hgr⟩ := hrel
        by_cases hkl : k < 4096
        · obtain ⟨⟨v, hv⟩, hfr, hfs⟩ := hf.set hkl
          have HFS := Lib.hid hfs; have HGR := Lib.hid hgr
          have e3 : (0 : Int) ≤ (k : Int) := by omega
          have e4 : (k : Int) < 4096 := by omega
          clear hf hfs hgr
          go_wp2_with fail
          go_roundw
          case rel => exact ⟨k + 1, by omega, by go_num, HFS.out, gb_set HGR.out _ _⟩
          case measure => first | (simp [intOf]; done) | (simp [intOf]; omega)
        · have e4 : ¬ (k : Int) < 4096 := by omega
          have hk2 : k = 4096 := by omega
          rw [hk2] at hf
          have HF2_r := Lib.hid hf
          have HF1_r : Hid (Filled wr g1 65537 65537 97) := Lib.hid (HFA.out.on (hgr.block g1 hg1l (fun e => by cases e; omega)))
          have HBr : Hid (Below w.heap.size w wr) := Lib.hid ⟨hgr.os.trans HB2.out.os, hgr.tape.trans HB2.out.tape, hgr.output.trans HB2.out.output, Nat.le_trans HB2.out.size hgr.size, fun k hk => (hgr.block k (by have := HB2.out.size; omega) (fun e => by cases e; omega)).trans (HB2.out.block k hk)⟩
          have hcvr := HF1_r.out.text (m := 65536) (by omega) 65537 T1 HT1.out
          have hadd1 : (⟨T3.toArray⟩ : ByteArray) ++ ⟨#[32]⟩ = ⟨(T3 ++ [32]).toArray⟩ := by apply WideShapes.bytes_inj; simp
          have hadd2 : (⟨T3.toArray⟩ : ByteArray) ++ ⟨#[120]⟩ = ⟨(T3 ++ [120]).toArray⟩ := by apply WideShapes.bytes_inj; simp
          have HA1 := Lib.hid hadd1; have HA2 := Lib.hid hadd2
          clear hf hgr hk2 hkl hadd1 hadd2
          go_wp2_with fail
          clear hcvr
          go_at_call 6
          refine (H1.out _).mono ?_
          rintro e w3 ⟨p3, c3, rfl, hb3⟩
          obtain ⟨W3, hW3⟩ : ∃ W', w3.alloc (.cells #[.int .i64 0, .int .i64 0] 26) = W' := ⟨_, rfl⟩
          have hB3 : Below wr.heap.size wr W3 := by rw [← hW3]; exact hb3.alloc hb3.size _
          have hq3 : W3.heap[w3.heap.size]? = some (.cells #[.int .i64 0, .int .i64 0] 26 (0, 0)) := by rw [← hW3]; exact heap_alloc_new w3 _
          have hz3 : w3.heap.size < W3.heap.size := (Array.getElem?_eq_some_iff.1 hq3).1
          have HF1_3 : Hid (Filled W3 g1 65537 65537 97) := Lib.hid (HF1_r.out.on (hB3.block g1 HF1_r.out.lt))
          have HF2_3 : Hid (Filled W3 g2 4096 4096 10) := Lib.hid (HF2_r.out.on (hB3.block g2 HF2_r.out.lt))
          have HB3 := Lib.hid hB3; have HQ3 := Lib.hid hq3
          have hcv3 := HF1_3.out.text (m := 65537) (by omega) 65537 T2 HT2.out
          rw [← hW3] at hcv3
          have HW3 := Lib.hid hW3
          clear hb3 hB3 hq3 hW3
          go_wp2_with fail
          try rw [HW3.out]
          clear hcv3
          go_at_call 6
          refine (H2.out _).mono ?_
          rintro e w4 ⟨rfl, hb4⟩
          obtain ⟨W4, hW4⟩ : ∃ W', w4.alloc (.cells #[.int .i64 0, .int .i64 0] 26) = W' := ⟨_, rfl⟩
          have hB4 : Below W3.heap.size W3 W4 := by rw [← hW4]; exact hb4.alloc hb4.size _
          have hq4 : W4.heap[w4.heap.size]? = some (.cells #[.int .i64 0, .int .i64 0] 26 (0, 0)) := by rw [← hW4]; exact heap_alloc_new w4 _
          have hz4 : w4.heap.size < W4.heap.size := (Array.getElem?_eq_some_iff.1 hq4).1
          have HF1_4 : Hid (Filled W4 g1 65537 65537 97) := Lib.hid (HF1_3.out.on (hB4.block g1 HF1_3.out.lt))
          have HF2_4 : Hid (Filled W4 g2 4096 4096 10) := Lib.hid (HF2_3.out.on (hB4.block g2 HF2_3.out.lt))
          have HB4 := Lib.hid hB4; have HQ4 := Lib.hid hq4
          have hcv4 := HF2_4.out.text (m := 4096) (by omega) 4096 T3 HT3.out
          rw [← hW4] at hcv4
          have HW4 := Lib.hid hW4
          clear hb4 hB4 hq4 hW4
          go_wp2_with fail
          try rw [HW4.out]
          clear hcv4
          go_at_call 6
          refine (H3.out _).mono ?_
          rintro e w5 ⟨p5, c5, rfl, hb5⟩
          obtain ⟨W5, hW5⟩ : ∃ W', w5.alloc (.cells #[.int .i64 0, .int .i64 0] 26) = W' := ⟨_, rfl⟩
          have hB5 : Below W4.heap.size W4 W5 := by rw [← hW5]; exact hb5.alloc hb5.size _
          have hq5 : W5.heap[w5.heap.size]? = some (.cells #[.int .i64 0, .int .i64 0] 26 (0, 0)) := by rw [← hW5]; exact heap_alloc_new w5 _
          have hz5 : w5.heap.size < W5.heap.size := (Array.getElem?_eq_some_iff.1 hq5).1
          have HF1_5 : Hid (Filled W5 g1 65537 65537 97) := Lib.hid (HF1_4.out.on (hB5.block g1 HF1_4.out.lt))
          have HF2_5 : Hid (Filled W5 g2 4096 4096 10) := Lib.hid (HF2_4.out.on (hB5.block g2 HF2_4.out.lt))
          have HB5 := Lib.hid hB5; have HQ5 := Lib.hid hq5
          have hcv5 := HF2_5.out.text (m := 4096) (by omega) 4096 T3 HT3.out
          have hadd1 := HA1.out
          rw [← hW5] at hcv5
          have HW5 := Lib.hid hW5
          clear hb5 hB5 hq5 hW5
          go_wp2_with fail
          try rw [HW5.out]
          clear hcv5
          go_at_call 6
          refine (H4.out _).mono ?_
          rintro e w6 ⟨rfl, hb6⟩
          obtain ⟨W6, hW6⟩ : ∃ W', w6.alloc (.cells #[.int .i64 4097, .int .i64 1] 26) = W' := ⟨_, rfl⟩
          have hB6 : Below W5.heap.size W5 W6 := by rw [← hW6]; exact hb6.alloc hb6.size _
          have hq6 : W6.heap[w6.heap.size]? = some (.cells #[.int .i64 4097, .int .i64 1] 26 (0, 0)) := by rw [← hW6]; exact heap_alloc_new w6 _
          have hz6 : w6.heap.size < W6.heap.size := (Array.getElem?_eq_some_iff.1 hq6).1
          have HB6 := Lib.hid hB6; have HQ6 := Lib.hid hq6; have HW6 := Lib.hid hW6
          have HF2_6 : Hid (Filled W6 g2 4096 4096 10) := Lib.hid (HF2_5.out.on (hB6.block g2 HF2_5.out.lt))
          have hcv6 := HF2_6.out.text (m := 4096) (by omega) 4096 T3 HT3.out
          rw [← hW6] at hcv6
          have hadd6 := HA2.out
          clear hb6 hB6 hq6 hW6
          go_wp2_with fail
          try rw [HW6.out]
          clear hcv6 hadd6
          go_at_call 7
          refine (H5.out _).mono ?_
          rintro e w7 ⟨rfl, hb7⟩
          obtain ⟨W7, hW7⟩ : ∃ W', w7.alloc (.cells #[.int .i64 4097, .int .i64 1] 26) = W' := ⟨_, rfl⟩
          have hB7 : Below W6.heap.size W6 W7 := by rw [← hW7]; exact hb7.alloc hb7.size _
          have hq7 : W7.heap[w7.heap.size]? = some (.cells #[.int .i64 4097, .int .i64 1] 26 (0, 0)) := by rw [← hW7]; exact heap_alloc_new w7 _
          have hz7 : w7.heap.size < W7.heap.size := (Array.getElem?_eq_some_iff.1 hq7).1
          have HB7 := Lib.hid hB7; have HQ7 := Lib.hid hq7; have HW7 := Lib.hid hW7
          have HF2_7 : Hid (Filled W7 g2 4096 4096 10) := Lib.hid (HF2_6.out.on (hB7.block g2 HF2_6.out.lt))
          clear hb7 hB7 hq7 hW7
          go_wp2_with fail
          try rw [HW7.out]
          go_at_call 7
          refine (H6.out _).mono ?_
          rintro e w8 ⟨rfl, hb8⟩
          obtain ⟨W8, hW8⟩ : ∃ W', w8.alloc (.cells #[.int .i64 2, .int .i64 2] 26) = W' := ⟨_, rfl⟩
          have hB8 : Below W7.heap.size W7 W8 := by rw [← hW8]; exact hb8.alloc hb8.size _
          have hq8 : W8.heap[w8.heap.size]? = some (.cells #[.int .i64 2, .int .i64 2] 26 (0, 0)) := by rw [← hW8]; exact heap_alloc_new w8 _
          have hz8 : w8.heap.size < W8.heap.size := (Array.getElem?_eq_some_iff.1 hq8).1
          have hs5 := HB5.out.size
          have hs6 := HB6.out.size
          have hs7 := HB7.out.size
          have b48 : W8.heap[w4.heap.size]? = some (.cells #[.int .i64 0, .int .i64 0] 26 (0, 0)) := (hB8.block _ (by omega)).trans ((HB7.out.block _ (by omega)).trans ((HB6.out.block _ (by omega)).trans ((HB5.out.block _ hz4).trans HQ4.out)))
          have b68 : W8.heap[w6.heap.size]? = some (.cells #[.int .i64 4097, .int .i64 1] 26 (0, 0)) := (hB8.block _ (by omega)).trans ((HB7.out.block _ hz6).trans HQ6.out)
          have b78 : W8.heap[w7.heap.size]? = some (.cells #[.int .i64 4097, .int .i64 1] 26 (0, 0)) := (hB8.block _ hz7).trans HQ7.out
          obtain ⟨x0, _⟩ := row_cell' (j := 0) b48 rfl
          obtain ⟨x1, _⟩ := row_cell' (j := 1) b48 rfl
          obtain ⟨y0, _⟩ := row_cell' (j := 0) b68 rfl
          obtain ⟨y1, _⟩ := row_cell' (j := 1) b68 rfl
          obtain ⟨z0, _⟩ := row_cell' (j := 0) b78 rfl
          obtain ⟨z1, _⟩ := row_cell' (j := 1) b78 rfl
          obtain ⟨v0, _⟩ := row_cell' (j := 0) hq8 rfl
          obtain ⟨v1, _⟩ := row_cell' (j := 1) hq8 rfl
          have HBE : Hid (Below w.heap.size w W8) := Lib.hid (Below.step (Below.step (Below.step (Below.step (Below.step (Below.step HBr.out HB3.out) HB4.out) HB5.out) HB6.out) HB7.out) hB8)
          clear b48 b68 b78 hb8 hB8 hq8 hs5 hs6 hs7 hz3 hz4 hz5 hz6 hz7 hz8
          go_wp2_with (go_at_call 8; first | ((with_reducible refine (HN1.out _).mono ?_); rintro e w9 ⟨rfl, rfl⟩) | ((with_reducible refine (HN2.out _).mono ?_); rintro e w9 ⟨rfl, rfl⟩))
          go_ret
          exact ⟨rfl, HBE.out⟩
end Go.Proofs.Ytidcipefoplncaa
