/- The readers of package routes at any word: prefix, address, source, number, unsigned. Conditions: the words of package routes are what their text says, the variables ErrSyntax and ErrRange of package strconv hold errors. -/
import Derived.Test.YtmbkkjofikijiaaGreatDoorRbT
import Derived.Test.YtmbkkjofikijiaaGreatDoorRaP
import Derived.Lib.AtoiErrMem
import Derived.Lib.ParseIntBCases
namespace Go.Proofs.YtmbkkjofikijiaaGreatDoor
open Go.RowKit
/-- Package strconv's two errors are there. -/
def ErrV (w : World) : Prop := (∃ te pe, w.cell? ⟨3, 0, none⟩ = some (.iface te pe)) ∧ (∃ te pe, w.cell? ⟨4, 0, none⟩ = some (.iface te pe))
theorem ErrV.on {w w' : World} (h : ErrV w) (hb : Below w.heap.size w w') : ErrV w' := by
  obtain ⟨⟨a, b, h1⟩, c, d, h2⟩ := h
  exact ⟨⟨a, b, (hb.cell (p := ⟨_, _, none⟩) (block_lt_of_cell h1)).trans h1⟩, c, d, (hb.cell (p := ⟨_, _, none⟩) (block_lt_of_cell h2)).trans h2⟩
theorem pu_ok : ∀ (l : List UInt8) (acc : Nat), l.all dig = true → val l acc < 18446744073709551616 → Lib.parseUint10 acc l = .ok (val l acc)
  | [], acc, _, _ => rfl
  | c :: l, acc, h, hv => by
    simp only [List.all_cons, Bool.and_eq_true] at h
    have hd : 48 ≤ c.toNat ∧ c.toNat ≤ 57 := by have := h.1; simpa [dig] using this
    simp only [val] at hv ⊢
    have hg := val_ge l (acc * 10 + (c.toNat - 48))
    simp only [Lib.parseUint10]
    rw [if_pos hd, if_neg (by omega), if_neg (by omega)]
    exact pu_ok l _ h.2 hv
theorem atoi_dec (n : Nat) (h : n ≤ 9223372036854775807) : Lib.atoiAll (Lib.decDigits n) = .ok (n : Int) := by
  obtain ⟨hne, hall, hval, _, _⟩ := dec_facts n
  generalize Lib.decDigits n = l at *
  cases l with
  | nil => exact absurd rfl hne
  | cons c r =>
    have hc : 48 ≤ c.toNat ∧ c.toNat ≤ 57 := by
      simp only [List.all_cons, Bool.and_eq_true] at hall
      have := hall.1; simpa [dig] using this
    rw [Lib.atoiAll_plain c r (by omega) (by omega)]
    have hp : Lib.parseMag (c :: r) = .ok n := by
      unfold Lib.parseMag
      rw [if_neg (by simp), pu_ok (c :: r) 0 hall (by rw [hval]; omega), hval]
    rw [hp]
    simp only [Lib.signless]
    rw [if_neg (by omega)]
/-- The number from 0 to most that a text is; no number above 2^63 - 1 is one. -/
def AtPost (l : List UInt8) (w : World) (e : Ending) (w' : World) : Prop := Below w.heap.size w w' ∧ ((∃ v, Lib.atoiAll l = .ok v ∧ e = .returned (.tuple #[.int .i64 v, .nilIface])) ∨ ((∀ v, Lib.atoiAll l ≠ .ok v) ∧ ∃ x t p, e = .returned (.tuple #[.int .i64 x, .iface t p])))
theorem atoi_is (s : ByteArray) (hs : s.size ≤ 281474976710656) (w : World) (hE : ErrV w) : Calls Tryz.prog 128 #[.string s] w (AtPost s.data.toList w) := by
  obtain ⟨⟨ts, ps, h1⟩, tr, pr, h2⟩ := hE
  cases h : Lib.atoiAll s.data.toList
  · rename_i v
    refine (Tryz.strconv_Atoi_ok s (by omega) v h w).mono fun e w' ⟨he, hw⟩ => ⟨?_, .inl ⟨v, h, he⟩⟩
    rcases hw with rfl | ⟨t, rfl⟩
    · exact Below.refl _ _
    · exact Lib.bytesWorld_below _ _ _
  · exact (Tryz.strconv_Atoi_syntax s hs h _ w h1 (.inr ⟨ts, ps, rfl⟩)).mono fun e w' ⟨N, he, _, _, hb⟩ => ⟨hb, .inr ⟨fun u hu => (by rw [h] at hu; cases hu), _, _, _, he⟩⟩
  · exact (Tryz.strconv_Atoi_range s hs h _ w h2 (.inr ⟨tr, pr, rfl⟩)).mono fun e w' ⟨N, he, _, _, hb⟩ => ⟨hb, .inr ⟨fun u hu => (by rw [h] at hu; cases hu), _, _, _, he⟩⟩
theorem atoi_itoa (n : Int) (h0 : -1 ≤ n) (h1 : n ≤ 9223372036854775807) : Lib.atoiAll (Lib.itoa n) = .ok n := by
  by_cases h : n = -1
  · subst h; decide +kernel
  · obtain ⟨k, rfl⟩ : ∃ k : Nat, n = (k : Int) := ⟨n.toNat, by omega⟩
    rw [show Lib.itoa (k : Int) = Lib.decDigits k by unfold Lib.itoa; rw [if_neg (by omega)]; rfl]
    exact atoi_dec k (by omega)
theorem num_any (s : ByteArray) (hs : s.size ≤ 100000) (w : World) (hE : ErrV w) : Calls Tryz.prog 71 #[.string s] w fun e w' => ∃ n : Int, e = .returned (.int .i64 n) ∧ (∀ m : Int, -1 ≤ m → m ≤ 2147483647 → s.data.toList = Lib.itoa m → n = m) ∧ Below w.heap.size w w' := by
  have H := Lib.hid (atoi_is s (by omega) w hE)
  clear hE hs
  go_enter Tryz.func71, Tryz.ntmps71
  go_wp2_with fail
  go_at_call 128
  refine H.out.mono ?_
  rintro e w1 ⟨hb, ⟨v, h, rfl⟩ | ⟨h, x, t, p, rfl⟩⟩
  · have HB := Lib.hid hb
    have HU := Lib.hid h
    clear hb h
    go_wp2
    go_ret
    refine ⟨v, rfl, fun m h0 h1 hm => ?_, HB.out⟩
    have e := HU.out
    rw [hm, atoi_itoa m h0 (by omega)] at e
    simpa using e.symm
  · have HB := Lib.hid hb
    have HU := Lib.hid h
    clear hb h
    go_wp2
    go_ret
    refine ⟨x, rfl, fun m h0 h1 hm => ?_, HB.out⟩
    exact absurd (hm ▸ atoi_itoa m h0 (by omega)) (HU.out m)
theorem adr_any (s : ByteArray) (hs : s.size ≤ 100000) (w : World) : Calls Tryz.prog 72 #[.string s] w fun e w' => e = .returned (.int .u32 (adrI (parse s.data.toList)).1) ∧ Below w.heap.size w w' := by
  obtain ⟨q, hq⟩ : ∃ q, adrI (parse s.data.toList) = q := ⟨_, rfl⟩
  have hc := parse_is s w (by omega)
  rw [hq] at hc ⊢
  have HC := Lib.hid hc
  clear hc hq
  go_enter Tryz.func72, Tryz.ntmps72
  go_wp2_with fail
  go_at_call 129
  refine HC.out.mono ?_
  rintro e w1 ⟨rfl, hb⟩
  have HB := Lib.hid hb
  clear hb
  go_wp2
  go_ret
  exact ⟨rfl, HB.out⟩
theorem pfx_any (s : ByteArray) (hs : s.size ≤ 100000) (w : World) : Calls Tryz.prog 69 #[.string s] w fun e w' => e = .returned (.agg #[.int .u32 (pparse s.data.toList).1, .int .i64 (pparse s.data.toList).2.1]) ∧ Below w.heap.size w w' := by
  obtain ⟨q, hq⟩ : ∃ q, pparse s.data.toList = q := ⟨_, rfl⟩
  rw [hq]
  obtain ⟨W1, hW1⟩ : ∃ X, w.alloc (.cells #[.int .u32 0, .int .i64 0] 25) = X := ⟨_, rfl⟩
  have HB1 : Hid (Below w.heap.size w W1) := Lib.hid (by rw [← hW1]; exact (Below.refl _ _).alloc (Nat.le_refl _) _)
  have HX1 : Hid (W1.heap[w.heap.size]? = some (.cells #[.int .u32 0, .int .i64 0] 25 (0, 0))) := Lib.hid (by rw [← hW1]; exact heap_new' _ _)
  have HZ1 : Hid (w.heap.size < W1.heap.size) := Lib.hid (Array.getElem?_eq_some_iff.1 HX1.out).1
  have hc := pparse_is s W1 (by omega)
  rw [hq] at hc
  clear hs hq
  have HC := Lib.hid hc
  clear hc
  go_enter Tryz.func69, Tryz.ntmps69
  go_wp2_with fail
  go_at_call 127
  refine HC.out.mono ?_
  rintro e w1 ⟨rfl, hb⟩
  have HB := Lib.hid (HB1.out.trans (hb.mono (Nat.le_of_lt HZ1.out)))
  have h1 : w1.heap[w.heap.size]? = some (.cells #[.int .u32 0, .int .i64 0] 25 (0, 0)) := (hb.block _ HZ1.out).trans HX1.out
  have x1 : w1.cell? ⟨w.heap.size, 0, none⟩ = some (.int .u32 0) := by simp only [World.cell?, h1]; rfl
  have x2 : w1.cell? ⟨w.heap.size, 1, none⟩ = some (.int .i64 0) := by simp only [World.cell?, h1]; rfl
  have x3 : ∀ o, w1.frozen? ⟨w.heap.size, o, none⟩ = false := fun o => by simp [World.frozen?, h1]
  have hz : w.heap.size < w1.heap.size := (Array.getElem?_eq_some_iff.1 h1).1
  have HZ := Lib.hid hz
  have hne : w.heap.size ≠ w1.heap.size := by omega
  have x4 := x3 0; have x5 := x3 1
  clear hb h1 x3
  go_wp2
  refine bodyPost_ret (by simp [results, Tryz.results69, go_sem, x1, x2, hz, hne]; try rfl) rfl ?_
  exact ⟨rfl, by
    refine Below.trans HB.out ?_
    exact Below.alloc (Below.setCell (p := ⟨w.heap.size, 1, none⟩) (Below.setCell (p := ⟨w.heap.size, 0, none⟩) (Below.refl _ w1) (Nat.le_refl _) _) (Nat.le_refl _) _) (by simp [World.setCell]; exact Nat.le_of_lt HZ.out) _⟩
theorem spell1 (l : List UInt8) (s : ByteArray) : (l == s.toList) = decide (s.data.toList = l) := by
  rw [ByteArray.toList_eq]
  by_cases h : s.data.toList = l
  · subst h; simp
  · rw [decide_eq_false h]; simpa using fun e => h e.symm
theorem spell2 (l : List UInt8) (s : ByteArray) : (s.toList == l) = decide (s.data.toList = l) := by
  rw [ByteArray.toList_eq]
  by_cases h : s.data.toList = l
  · subst h; simp
  · rw [decide_eq_false h]; simpa using h
set_option maxRecDepth 100000 in
set_option maxHeartbeats 4000000 in
theorem src_any (s : ByteArray) (w : World) (hs : Src9 w) : Calls Tryz.prog 70 #[.string s] w fun e w' => ∃ n : Int, e = .returned (.int .u8 n) ∧ (0 ≤ n ∧ n ≤ 8) ∧ (∀ k : Nat, 1 ≤ k → k ≤ 8 → s.data.toList = srcW k → n = k) ∧ w' = w := by
  obtain ⟨⟨y0, y1, y2, y3, y4, y5, y6, y7, y8⟩, _⟩ := hs
  have HK : Hid (∀ i : Nat, i ≤ 8 → s.data.toList = srcW i → ∀ k : Nat, 1 ≤ k → k ≤ 8 → s.data.toList = srcW k → (i : Int) = k) := Lib.hid fun i hi h k h1 h2 h3 => by rw [h] at h3; have := src_one h1 h2 hi h3; omega
  have ix0 : ∀ W : World, (Instr.index 62 (.agg #[.string ⟨#[]⟩, .string ⟨#[99, 111, 110, 110, 101, 99, 116, 101, 100]⟩, .string ⟨#[119, 114, 105, 116, 116, 101, 110]⟩, .string ⟨#[105, 110, 116, 114, 97]⟩, .string ⟨#[105, 110, 116, 101, 114]⟩, .string ⟨#[101, 120, 116, 101, 114, 110, 97, 108, 49]⟩, .string ⟨#[101, 120, 116, 101, 114, 110, 97, 108, 50]⟩, .string ⟨#[101, 98, 103, 112]⟩, .string ⟨#[105, 98, 103, 112]⟩]) (.int .i64 0)).run Tryz.prog W = .ok (.string ⟨#[]⟩) W := fun W => by
    simp [Instr.index, run_underlying Tryz.underlying62, asIntOf, go_sem]
  have ix1 : ∀ W : World, (Instr.index 62 (.agg #[.string ⟨#[]⟩, .string ⟨#[99, 111, 110, 110, 101, 99, 116, 101, 100]⟩, .string ⟨#[119, 114, 105, 116, 116, 101, 110]⟩, .string ⟨#[105, 110, 116, 114, 97]⟩, .string ⟨#[105, 110, 116, 101, 114]⟩, .string ⟨#[101, 120, 116, 101, 114, 110, 97, 108, 49]⟩, .string ⟨#[101, 120, 116, 101, 114, 110, 97, 108, 50]⟩, .string ⟨#[101, 98, 103, 112]⟩, .string ⟨#[105, 98, 103, 112]⟩]) (.int .i64 1)).run Tryz.prog W = .ok (.string ⟨#[99, 111, 110, 110, 101, 99, 116, 101, 100]⟩) W := fun W => by
    simp [Instr.index, run_underlying Tryz.underlying62, asIntOf, go_sem]
  have ix2 : ∀ W : World, (Instr.index 62 (.agg #[.string ⟨#[]⟩, .string ⟨#[99, 111, 110, 110, 101, 99, 116, 101, 100]⟩, .string ⟨#[119, 114, 105, 116, 116, 101, 110]⟩, .string ⟨#[105, 110, 116, 114, 97]⟩, .string ⟨#[105, 110, 116, 101, 114]⟩, .string ⟨#[101, 120, 116, 101, 114, 110, 97, 108, 49]⟩, .string ⟨#[101, 120, 116, 101, 114, 110, 97, 108, 50]⟩, .string ⟨#[101, 98, 103, 112]⟩, .string ⟨#[105, 98, 103, 112]⟩]) (.int .i64 2)).run Tryz.prog W = .ok (.string ⟨#[119, 114, 105, 116, 116, 101, 110]⟩) W := fun W => by
    simp [Instr.index, run_underlying Tryz.underlying62, asIntOf, go_sem]
  have ix3 : ∀ W : World, (Instr.index 62 (.agg #[.string ⟨#[]⟩, .string ⟨#[99, 111, 110, 110, 101, 99, 116, 101, 100]⟩, .string ⟨#[119, 114, 105, 116, 116, 101, 110]⟩, .string ⟨#[105, 110, 116, 114, 97]⟩, .string ⟨#[105, 110, 116, 101, 114]⟩, .string ⟨#[101, 120, 116, 101, 114, 110, 97, 108, 49]⟩, .string ⟨#[101, 120, 116, 101, 114, 110, 97, 108, 50]⟩, .string ⟨#[101, 98, 103, 112]⟩, .string ⟨#[105, 98, 103, 112]⟩]) (.int .i64 3)).run Tryz.prog W = .ok (.string ⟨#[105, 110, 116, 114, 97]⟩) W := fun W => by
    simp [Instr.index, run_underlying Tryz.underlying62, asIntOf, go_sem]
  have ix4 : ∀ W : World, (Instr.index 62 (.agg #[.string ⟨#[]⟩, .string ⟨#[99, 111, 110, 110, 101, 99, 116, 101, 100]⟩, .string ⟨#[119, 114, 105, 116, 116, 101, 110]⟩, .string ⟨#[105, 110, 116, 114, 97]⟩, .string ⟨#[105, 110, 116, 101, 114]⟩, .string ⟨#[101, 120, 116, 101, 114, 110, 97, 108, 49]⟩, .string ⟨#[101, 120, 116, 101, 114, 110, 97, 108, 50]⟩, .string ⟨#[101, 98, 103, 112]⟩, .string ⟨#[105, 98, 103, 112]⟩]) (.int .i64 4)).run Tryz.prog W = .ok (.string ⟨#[105, 110, 116, 101, 114]⟩) W := fun W => by
    simp [Instr.index, run_underlying Tryz.underlying62, asIntOf, go_sem]
  have ix5 : ∀ W : World, (Instr.index 62 (.agg #[.string ⟨#[]⟩, .string ⟨#[99, 111, 110, 110, 101, 99, 116, 101, 100]⟩, .string ⟨#[119, 114, 105, 116, 116, 101, 110]⟩, .string ⟨#[105, 110, 116, 114, 97]⟩, .string ⟨#[105, 110, 116, 101, 114]⟩, .string ⟨#[101, 120, 116, 101, 114, 110, 97, 108, 49]⟩, .string ⟨#[101, 120, 116, 101, 114, 110, 97, 108, 50]⟩, .string ⟨#[101, 98, 103, 112]⟩, .string ⟨#[105, 98, 103, 112]⟩]) (.int .i64 5)).run Tryz.prog W = .ok (.string ⟨#[101, 120, 116, 101, 114, 110, 97, 108, 49]⟩) W := fun W => by
    simp [Instr.index, run_underlying Tryz.underlying62, asIntOf, go_sem]
  have ix6 : ∀ W : World, (Instr.index 62 (.agg #[.string ⟨#[]⟩, .string ⟨#[99, 111, 110, 110, 101, 99, 116, 101, 100]⟩, .string ⟨#[119, 114, 105, 116, 116, 101, 110]⟩, .string ⟨#[105, 110, 116, 114, 97]⟩, .string ⟨#[105, 110, 116, 101, 114]⟩, .string ⟨#[101, 120, 116, 101, 114, 110, 97, 108, 49]⟩, .string ⟨#[101, 120, 116, 101, 114, 110, 97, 108, 50]⟩, .string ⟨#[101, 98, 103, 112]⟩, .string ⟨#[105, 98, 103, 112]⟩]) (.int .i64 6)).run Tryz.prog W = .ok (.string ⟨#[101, 120, 116, 101, 114, 110, 97, 108, 50]⟩) W := fun W => by
    simp [Instr.index, run_underlying Tryz.underlying62, asIntOf, go_sem]
  have ix7 : ∀ W : World, (Instr.index 62 (.agg #[.string ⟨#[]⟩, .string ⟨#[99, 111, 110, 110, 101, 99, 116, 101, 100]⟩, .string ⟨#[119, 114, 105, 116, 116, 101, 110]⟩, .string ⟨#[105, 110, 116, 114, 97]⟩, .string ⟨#[105, 110, 116, 101, 114]⟩, .string ⟨#[101, 120, 116, 101, 114, 110, 97, 108, 49]⟩, .string ⟨#[101, 120, 116, 101, 114, 110, 97, 108, 50]⟩, .string ⟨#[101, 98, 103, 112]⟩, .string ⟨#[105, 98, 103, 112]⟩]) (.int .i64 7)).run Tryz.prog W = .ok (.string ⟨#[101, 98, 103, 112]⟩) W := fun W => by
    simp [Instr.index, run_underlying Tryz.underlying62, asIntOf, go_sem]
  have ix8 : ∀ W : World, (Instr.index 62 (.agg #[.string ⟨#[]⟩, .string ⟨#[99, 111, 110, 110, 101, 99, 116, 101, 100]⟩, .string ⟨#[119, 114, 105, 116, 116, 101, 110]⟩, .string ⟨#[105, 110, 116, 114, 97]⟩, .string ⟨#[105, 110, 116, 101, 114]⟩, .string ⟨#[101, 120, 116, 101, 114, 110, 97, 108, 49]⟩, .string ⟨#[101, 120, 116, 101, 114, 110, 97, 108, 50]⟩, .string ⟨#[101, 98, 103, 112]⟩, .string ⟨#[105, 98, 103, 112]⟩]) (.int .i64 8)).run Tryz.prog W = .ok (.string ⟨#[105, 98, 103, 112]⟩) W := fun W => by
    simp [Instr.index, run_underlying Tryz.underlying62, asIntOf, go_sem]
  go_enter Tryz.func70, Tryz.ntmps70
  go_wp2
  refine wp_loop_rounds 10 ?_
  rw [rounds_succ]
  by_cases h0 : s.data.toList = []
  case pos =>
    have k0 : s.toList.isEmpty = true := isE_true h0
    have HH := Lib.hid h0
    clear h0
    go_wp2_with fail
    go_ret
    exact ⟨0, rfl, by omega, HK.out 0 (by omega) HH.out, rfl⟩
  have k0 : s.toList.isEmpty = false := isE_false h0
  have HH0 := Lib.hid h0
  clear h0
  go_wp2_with fail
  rw [rounds_succ]
  by_cases h1 : s.data.toList = [99, 111, 110, 110, 101, 99, 116, 101, 100]
  case pos =>
    have k1 : ([99, 111, 110, 110, 101, 99, 116, 101, 100] == s.toList) = true := by rw [spell1]; simpa using h1
    have l1 : (s.toList == [99, 111, 110, 110, 101, 99, 116, 101, 100]) = true := by rw [spell2]; simpa using h1
    have HH := Lib.hid h1
    clear h1
    go_wp2_with fail
    go_ret
    exact ⟨1, rfl, by omega, HK.out 1 (by omega) HH.out, rfl⟩
  have k1 : ([99, 111, 110, 110, 101, 99, 116, 101, 100] == s.toList) = false := by rw [spell1]; simpa using h1
  have l1 : (s.toList == [99, 111, 110, 110, 101, 99, 116, 101, 100]) = false := by rw [spell2]; simpa using h1
  have HH1 := Lib.hid h1
  clear h1
  go_wp2_with fail
  rw [rounds_succ]
  by_cases h2 : s.data.toList = [119, 114, 105, 116, 116, 101, 110]
  case pos =>
    have k2 : ([119, 114, 105, 116, 116, 101, 110] == s.toList) = true := by rw [spell1]; simpa using h2
    have l2 : (s.toList == [119, 114, 105, 116, 116, 101, 110]) = true := by rw [spell2]; simpa using h2
    have HH := Lib.hid h2
    clear h2
    go_wp2_with fail
    go_ret
    exact ⟨2, rfl, by omega, HK.out 2 (by omega) HH.out, rfl⟩
  have k2 : ([119, 114, 105, 116, 116, 101, 110] == s.toList) = false := by rw [spell1]; simpa using h2
  have l2 : (s.toList == [119, 114, 105, 116, 116, 101, 110]) = false := by rw [spell2]; simpa using h2
  have HH2 := Lib.hid h2
  clear h2
  go_wp2_with fail
  rw [rounds_succ]
  by_cases h3 : s.data.toList = [105, 110, 116, 114, 97]
  case pos =>
    have k3 : ([105, 110, 116, 114, 97] == s.toList) = true := by rw [spell1]; simpa using h3
    have l3 : (s.toList == [105, 110, 116, 114, 97]) = true := by rw [spell2]; simpa using h3
    have HH := Lib.hid h3
    clear h3
    go_wp2_with fail
    go_ret
    exact ⟨3, rfl, by omega, HK.out 3 (by omega) HH.out, rfl⟩
  have k3 : ([105, 110, 116, 114, 97] == s.toList) = false := by rw [spell1]; simpa using h3
  have l3 : (s.toList == [105, 110, 116, 114, 97]) = false := by rw [spell2]; simpa using h3
  have HH3 := Lib.hid h3
  clear h3
  go_wp2_with fail
  rw [rounds_succ]
  by_cases h4 : s.data.toList = [105, 110, 116, 101, 114]
  case pos =>
    have k4 : ([105, 110, 116, 101, 114] == s.toList) = true := by rw [spell1]; simpa using h4
    have l4 : (s.toList == [105, 110, 116, 101, 114]) = true := by rw [spell2]; simpa using h4
    have HH := Lib.hid h4
    clear h4
    go_wp2_with fail
    go_ret
    exact ⟨4, rfl, by omega, HK.out 4 (by omega) HH.out, rfl⟩
  have k4 : ([105, 110, 116, 101, 114] == s.toList) = false := by rw [spell1]; simpa using h4
  have l4 : (s.toList == [105, 110, 116, 101, 114]) = false := by rw [spell2]; simpa using h4
  have HH4 := Lib.hid h4
  clear h4
  go_wp2_with fail
  rw [rounds_succ]
  by_cases h5 : s.data.toList = [101, 120, 116, 101, 114, 110, 97, 108, 49]
  case pos =>
    have k5 : ([101, 120, 116, 101, 114, 110, 97, 108, 49] == s.toList) = true := by rw [spell1]; simpa using h5
    have l5 : (s.toList == [101, 120, 116, 101, 114, 110, 97, 108, 49]) = true := by rw [spell2]; simpa using h5
    have HH := Lib.hid h5
    clear h5
    go_wp2_with fail
    go_ret
    exact ⟨5, rfl, by omega, HK.out 5 (by omega) HH.out, rfl⟩
  have k5 : ([101, 120, 116, 101, 114, 110, 97, 108, 49] == s.toList) = false := by rw [spell1]; simpa using h5
  have l5 : (s.toList == [101, 120, 116, 101, 114, 110, 97, 108, 49]) = false := by rw [spell2]; simpa using h5
  have HH5 := Lib.hid h5
  clear h5
  go_wp2_with fail
  rw [rounds_succ]
  by_cases h6 : s.data.toList = [101, 120, 116, 101, 114, 110, 97, 108, 50]
  case pos =>
    have k6 : ([101, 120, 116, 101, 114, 110, 97, 108, 50] == s.toList) = true := by rw [spell1]; simpa using h6
    have l6 : (s.toList == [101, 120, 116, 101, 114, 110, 97, 108, 50]) = true := by rw [spell2]; simpa using h6
    have HH := Lib.hid h6
    clear h6
    go_wp2_with fail
    go_ret
    exact ⟨6, rfl, by omega, HK.out 6 (by omega) HH.out, rfl⟩
  have k6 : ([101, 120, 116, 101, 114, 110, 97, 108, 50] == s.toList) = false := by rw [spell1]; simpa using h6
  have l6 : (s.toList == [101, 120, 116, 101, 114, 110, 97, 108, 50]) = false := by rw [spell2]; simpa using h6
  have HH6 := Lib.hid h6
  clear h6
  go_wp2_with fail
  rw [rounds_succ]
  by_cases h7 : s.data.toList = [101, 98, 103, 112]
  case pos =>
    have k7 : ([101, 98, 103, 112] == s.toList) = true := by rw [spell1]; simpa using h7
    have l7 : (s.toList == [101, 98, 103, 112]) = true := by rw [spell2]; simpa using h7
    have HH := Lib.hid h7
    clear h7
    go_wp2_with fail
    go_ret
    exact ⟨7, rfl, by omega, HK.out 7 (by omega) HH.out, rfl⟩
  have k7 : ([101, 98, 103, 112] == s.toList) = false := by rw [spell1]; simpa using h7
  have l7 : (s.toList == [101, 98, 103, 112]) = false := by rw [spell2]; simpa using h7
  have HH7 := Lib.hid h7
  clear h7
  go_wp2_with fail
  rw [rounds_succ]
  by_cases h8 : s.data.toList = [105, 98, 103, 112]
  case pos =>
    have k8 : ([105, 98, 103, 112] == s.toList) = true := by rw [spell1]; simpa using h8
    have l8 : (s.toList == [105, 98, 103, 112]) = true := by rw [spell2]; simpa using h8
    have HH := Lib.hid h8
    clear h8
    go_wp2_with fail
    go_ret
    exact ⟨8, rfl, by omega, HK.out 8 (by omega) HH.out, rfl⟩
  have k8 : ([105, 98, 103, 112] == s.toList) = false := by rw [spell1]; simpa using h8
  have l8 : (s.toList == [105, 98, 103, 112]) = false := by rw [spell2]; simpa using h8
  have HH8 := Lib.hid h8
  clear h8
  go_wp2_with fail
  rw [rounds_succ]
  go_wp2_with fail
  go_ret
  refine ⟨0, rfl, by omega, fun k h1 h2 h => ?_, rfl⟩
  exfalso
  match k, h1, h2, h with
  | 1, _, _, h => exact HH1.out h
  | 2, _, _, h => exact HH2.out h
  | 3, _, _, h => exact HH3.out h
  | 4, _, _, h => exact HH4.out h
  | 5, _, _, h => exact HH5.out h
  | 6, _, _, h => exact HH6.out h
  | 7, _, _, h => exact HH7.out h
  | 8, _, _, h => exact HH8.out h
  | k + 9, _, h, _ => omega
end Go.Proofs.YtmbkkjofikijiaaGreatDoor
