/- What the calls of packages addr and waymarkref01 do that find what two prefixes have in common. Each under the conditions that it names. -/
import Derived.Test.YtodfimnmbfdicaaAddrW5
namespace Go.Proofs.Ytodfimnmbfdicaa
open Go.RowKit
/-- The most bits in which both are. -/
def cmK (a n b m : Int) : Int := if lz a b ≤ n ∧ lz a b ≤ m then lz a b else if n ≤ m then n else m
theorem cmK_range (a n b m : Int) (ha : 0 ≤ a) (ha2 : a < 4294967296) (hb : 0 ≤ b) (hb2 : b < 4294967296) (hn : 0 ≤ n) (hm : 0 ≤ m) : 0 ≤ cmK a n b m ∧ cmK a n b m ≤ 32 := by
  have := lz_range a b ha ha2 hb hb2
  unfold cmK
  split
  · omega
  · split <;> omega
theorem cmK_iff (a n b m k : Int) (ha : 0 ≤ a) (ha2 : a < 4294967296) (hb : 0 ≤ b) (hb2 : b < 4294967296) (h0 : 0 ≤ k) (h1 : k ≤ 32) : (k ≤ n ∧ k ≤ m ∧ a / pw k = b / pw k) ↔ k ≤ cmK a n b m := by
  rw [lz_iff a b k ha ha2 hb hb2 h0 h1]
  unfold cmK
  split
  · omega
  · split <;> omega
theorem ret_cm {a n b m x : Int} (h : x = cmK a n b m) : Ending.returned (.tuple #[.agg #[.int .u32 (a / pw x * pw x), .int .i64 x], .int .i64 0]) = .returned (.tuple #[.agg #[.int .u32 (a / pw (cmK a n b m) * pw (cmK a n b m)), .int .i64 (cmK a n b m)], .int .i64 0]) := by rw [h]
theorem ret_cm0 {a n b m : Int} (h : cmK a n b m = 0) (ha : 0 ≤ a) (ha2 : a < 4294967296) : Ending.returned (.tuple #[.agg #[.int .u32 0, .int .i64 0], .int .i64 0]) = .returned (.tuple #[.agg #[.int .u32 (a / pw (cmK a n b m) * pw (cmK a n b m)), .int .i64 (cmK a n b m)], .int .i64 0]) := by
  rw [h, pw_0, Int.ediv_eq_zero_of_lt ha ha2]; rfl
set_option maxHeartbeats 400000 in
theorem common_ok (a n b m : Int) (w : World) (ha : 0 ≤ a) (ha2 : a < 4294967296) (hb0 : 0 ≤ b) (hbl : b < 4294967296) (h : ck a n = 0) (h2 : ck b m = 0) :
    Calls Try.prog 54 #[.agg #[.int .u32 a, .int .i64 n], .agg #[.int .u32 b, .int .i64 m]] w fun e w' => e = .returned (.tuple #[.agg #[.int .u32 (a / pw (cmK a n b m) * pw (cmK a n b m)), .int .i64 (cmK a n b m)], .int .i64 0]) ∧ Below w.heap.size w w' := by
  have HC := Lib.hid h
  have HD := Lib.hid h2
  obtain ⟨g1, g2, _⟩ := ck_ok a n h
  obtain ⟨g3, g4, _⟩ := ck_ok b m h2
  obtain ⟨hr1, hr2⟩ := cmK_range a n b m ha ha2 hb0 hbl g1 g3
  have hxo : bits .xor .u32 a b = ((a.toNat ^^^ b.toNat : Nat) : Int) := u32_xor a b ha ha2 hb0 hbl
  have hxl := xor_lt a b ha ha2 hb0 hbl
  have X1 : 0 ≤ bits .xor .u32 a b := by omega
  have X2 : bits .xor .u32 a b ≤ 4294967295 := by omega
  have HL : Hid (32 - (Lib.bitLen (bits .xor .u32 a b).toNat : Int) = lz a b) := by
    refine Lib.hid ?_
    rw [hxo]; rfl
  obtain ⟨l1, l2⟩ := lz_range a b ha ha2 hb0 hbl
  clear h h2 hxo hxl
  go_enter Try.func54, Try.ntmps54
  go_wp2_with (first | (go_at_call 38; (with_reducible refine (check_is a n _ ha ha2).mono ?_); rintro e w1 ⟨rfl, hb⟩; rw [HC.out]; obtain ⟨hc, hf⟩ := bcell hb; have hz := hb.size; (try simp at hz); have hz0 : w.heap.size < w1.heap.size := (by omega); have hz1 : w.heap.size + 1 < w1.heap.size := (by omega); have hz2 : w.heap.size + 1 + 1 < w1.heap.size := (by omega)) | (go_at_call 38; (with_reducible refine (check_is b m _ hb0 hbl).mono ?_); rintro e w2 ⟨rfl, hb2⟩; rw [HD.out]; obtain ⟨hc2, hf2⟩ := bcell hb2; have hy := hb2.size; (try simp at hy); have hy0 : w.heap.size < w2.heap.size := (by omega); have hy1 : w.heap.size + 1 < w2.heap.size := (by omega); have hy2 : w.heap.size + 1 + 1 < w2.heap.size := (by omega)) | (go_at_call 60; (with_reducible refine (Try.bits_LeadingZeros32 _ _ X1 X2).mono ?_); rintro e w' ⟨rfl, rfl⟩; rw [HL.out]) | (go_at_call 61; (with_reducible refine (sub_ok a n _ ha ha2 g1 g2).mono ?_); rintro e w3 ⟨rfl, hb3⟩; obtain ⟨hc3, hf3⟩ := bcell hb3; have hx := hb3.size; (try simp at hx); have hx0 : w.heap.size < w3.heap.size := (by omega); have hx1 : w.heap.size + 1 < w3.heap.size := (by omega); have hx2 : w.heap.size + 1 + 1 < w3.heap.size := (by omega)) | (go_at_call 61; (with_reducible refine (sub_ok a m _ ha ha2 g3 g4).mono ?_); rintro e w3 ⟨rfl, hb3⟩; obtain ⟨hc3, hf3⟩ := bcell hb3; have hx := hb3.size; (try simp at hx); have hx0 : w.heap.size < w3.heap.size := (by omega); have hx1 : w.heap.size + 1 < w3.heap.size := (by omega); have hx2 : w.heap.size + 1 + 1 < w3.heap.size := (by omega)) | (go_at_call 61; (with_reducible refine (sub_ok a (lz a b) _ ha ha2 l1 l2).mono ?_); rintro e w3 ⟨rfl, hb3⟩; obtain ⟨hc3, hf3⟩ := bcell hb3; have hx := hb3.size; (try simp at hx); have hx0 : w.heap.size < w3.heap.size := (by omega); have hx1 : w.heap.size + 1 < w3.heap.size := (by omega); have hx2 : w.heap.size + 1 + 1 < w3.heap.size := (by omega)))
  all_goals
    refine bodyPost_ret (by simp [results, Try.results54, go_sem, hc, hc2, hc3, hz2, hy2]; try rfl) rfl ?_
    exact ⟨ret_cm (by unfold cmK; (repeat split) <;> omega), (((Below.step (Below.step (Below.step (by go_grown) hb) hb2) hb3).setCell (by go_size) _).setCell (by go_size) _)⟩
set_option maxHeartbeats 400000 in
theorem common_no1 (a n b m c : Int) (w : World) (ha : 0 ≤ a) (ha2 : a < 4294967296) (h : ck a n = c) (hn : c ≠ 0) :
    Calls Try.prog 54 #[.agg #[.int .u32 a, .int .i64 n], .agg #[.int .u32 b, .int .i64 m]] w fun e w' => e = .returned (.tuple #[.agg #[.int .u32 0, .int .i64 0], .int .i64 c]) ∧ Below w.heap.size w w' := by
  have HC := Lib.hid h; clear h
  have hd : (c != 0) = true := by simpa using hn
  go_enter Try.func54, Try.ntmps54
  go_wp2_with (first | (go_at_call 38; (with_reducible refine (check_is a n _ ha ha2).mono ?_); rintro e w1 ⟨rfl, hb⟩; rw [HC.out]; obtain ⟨hc, hf⟩ := bcell hb; have hz := hb.size; (try simp at hz); have hz0 : w.heap.size < w1.heap.size := (by omega); have hz1 : w.heap.size + 1 < w1.heap.size := (by omega); have hz2 : w.heap.size + 1 + 1 < w1.heap.size := (by omega)))
  refine bodyPost_ret (by simp [results, Try.results54, go_sem, hc]; try rfl) rfl ?_
  exact ⟨rfl, ((Below.step (by go_grown) hb).setCell (by go_size) _).setCell (by go_size) _⟩
set_option maxHeartbeats 400000 in
theorem common_no2 (a n b m c : Int) (w : World) (ha : 0 ≤ a) (ha2 : a < 4294967296) (hb0 : 0 ≤ b) (hbl : b < 4294967296) (h : ck a n = 0) (h2 : ck b m = c) (hn : c ≠ 0) :
    Calls Try.prog 54 #[.agg #[.int .u32 a, .int .i64 n], .agg #[.int .u32 b, .int .i64 m]] w fun e w' => e = .returned (.tuple #[.agg #[.int .u32 0, .int .i64 0], .int .i64 c]) ∧ Below w.heap.size w w' := by
  have HC := Lib.hid h; clear h
  have HD := Lib.hid h2; clear h2
  have hd : (c != 0) = true := by simpa using hn
  go_enter Try.func54, Try.ntmps54
  go_wp2_with (first | (go_at_call 38; (with_reducible refine (check_is a n _ ha ha2).mono ?_); rintro e w1 ⟨rfl, hb⟩; rw [HC.out]; obtain ⟨hc, hf⟩ := bcell hb; have hz := hb.size; (try simp at hz); have hz0 : w.heap.size < w1.heap.size := (by omega); have hz1 : w.heap.size + 1 < w1.heap.size := (by omega); have hz2 : w.heap.size + 1 + 1 < w1.heap.size := (by omega)) | (go_at_call 38; (with_reducible refine (check_is b m _ hb0 hbl).mono ?_); rintro e w2 ⟨rfl, hb2⟩; rw [HD.out]; obtain ⟨hc2, hf2⟩ := bcell hb2; have hy := hb2.size; (try simp at hy); have hy0 : w.heap.size < w2.heap.size := (by omega); have hy1 : w.heap.size + 1 < w2.heap.size := (by omega); have hy2 : w.heap.size + 1 + 1 < w2.heap.size := (by omega)))
  refine bodyPost_ret (by simp [results, Try.results54, go_sem, hc, hc2, hz2]; try rfl) rfl ?_
  exact ⟨rfl, ((Below.step (Below.step (by go_grown) hb) hb2).setCell (by go_size) _).setCell (by go_size) _⟩
set_option maxHeartbeats 400000 in
theorem rcommon_no1 (a n b m c : Int) (w : World) (ha : 0 ≤ a) (ha2 : a < 4294967296) (h : ck a n = c) (hn : c ≠ 0) :
    Calls Try.prog 31 #[.agg #[.int .u32 a, .int .i64 n], .agg #[.int .u32 b, .int .i64 m]] w fun e w' => e = .returned (.tuple #[.agg #[.int .u32 0, .int .i64 0], .int .i64 c]) ∧ Below w.heap.size w w' := by
  have HC := Lib.hid h; clear h
  have hd : (c != 0) = true := by simpa using hn
  have hd2 : (c == 0) = false := by simpa using hn
  go_enter Try.func31, Try.ntmps31
  go_wp2_with (first | (go_at_call 16; (with_reducible refine (rcheck_is a n _ ha ha2).mono ?_); rintro e w1 ⟨rfl, hb⟩; rw [HC.out]; obtain ⟨hc, hf⟩ := bcell hb; have hz := hb.size; (try simp at hz); have hz0 : w.heap.size < w1.heap.size := (by omega); have hz1 : w.heap.size + 1 < w1.heap.size := (by omega); have hz2 : w.heap.size + 1 + 1 < w1.heap.size := (by omega)))
  refine bodyPost_ret (by simp [results, Try.results31, go_sem, hc]; try rfl) rfl ?_
  exact ⟨rfl, ((Below.step (by go_grown) hb).setCell (by go_size) _).setCell (by go_size) _⟩
set_option maxHeartbeats 400000 in
theorem rcommon_no2 (a n b m c : Int) (w : World) (ha : 0 ≤ a) (ha2 : a < 4294967296) (hb0 : 0 ≤ b) (hbl : b < 4294967296) (h : ck a n = 0) (h2 : ck b m = c) (hn : c ≠ 0) :
    Calls Try.prog 31 #[.agg #[.int .u32 a, .int .i64 n], .agg #[.int .u32 b, .int .i64 m]] w fun e w' => e = .returned (.tuple #[.agg #[.int .u32 0, .int .i64 0], .int .i64 c]) ∧ Below w.heap.size w w' := by
  have HC := Lib.hid h; clear h
  have HD := Lib.hid h2; clear h2
  have hd : (c != 0) = true := by simpa using hn
  have hd2 : (c == 0) = false := by simpa using hn
  go_enter Try.func31, Try.ntmps31
  go_wp2_with (first | (go_at_call 16; (with_reducible refine (rcheck_is a n _ ha ha2).mono ?_); rintro e w1 ⟨rfl, hb⟩; rw [HC.out]; obtain ⟨hc, hf⟩ := bcell hb; have hz := hb.size; (try simp at hz); have hz0 : w.heap.size < w1.heap.size := (by omega); have hz1 : w.heap.size + 1 < w1.heap.size := (by omega); have hz2 : w.heap.size + 1 + 1 < w1.heap.size := (by omega)) | (go_at_call 16; (with_reducible refine (rcheck_is b m _ hb0 hbl).mono ?_); rintro e w2 ⟨rfl, hb2⟩; rw [HD.out]; obtain ⟨hc2, hf2⟩ := bcell hb2; have hy := hb2.size; (try simp at hy); have hy0 : w.heap.size < w2.heap.size := (by omega); have hy1 : w.heap.size + 1 < w2.heap.size := (by omega); have hy2 : w.heap.size + 1 + 1 < w2.heap.size := (by omega)))
  refine bodyPost_ret (by simp [results, Try.results31, go_sem, hc, hc2, hz2]; try rfl) rfl ?_
  exact ⟨rfl, ((Below.step (Below.step (by go_grown) hb) hb2).setCell (by go_size) _).setCell (by go_size) _⟩
theorem sub_ck (a k : Int) (h0 : 0 ≤ k) (h1 : k ≤ 32) : ck (a / pw k * pw k) k = 0 := ck_mk _ _ h0 h1 (Int.mul_emod_left _ _)
theorem wi_other (b m a k : Int) (h : ck b m = 0) (h0 : 0 ≤ k) (h1 : k ≤ 32) : wiB b m (a / pw k * pw k) k = decide (k ≤ m ∧ a / pw k = b / pw k) := by
  have hp := pw_pos k
  have e : (a / pw k * pw k ≤ b ∧ b < a / pw k * pw k + pw k) ↔ a / pw k = b / pw k := by
    have h3 := Int.ediv_mul_le b (b := pw k) (by omega)
    have h4 := Int.lt_ediv_add_one_mul_self b (b := pw k) (by omega)
    rw [Int.add_mul, Int.one_mul] at h4
    constructor
    · rintro ⟨h5, h6⟩
      have h7 : a / pw k ≤ b / pw k := (Int.le_ediv_iff_mul_le (by omega)).mpr h5
      have h8 : b / pw k < a / pw k + 1 := (Int.ediv_lt_iff_lt_mul (by omega)).mpr (by rw [Int.add_mul, Int.one_mul]; exact h6)
      omega
    · intro h5
      rw [h5]
      exact ⟨h3, h4⟩
  unfold wiB
  rw [h, sub_ck a k h0 h1, Bool.eq_iff_iff]
  simp
  rw [← e]
  exact fun _ => Iff.rfl
theorem wi_self (a n k : Int) (h : ck a n = 0) (h0 : 0 ≤ k) (h1 : k ≤ 32) : wiB a n (a / pw k * pw k) k = decide (k ≤ n) := by
  rw [wi_other a n a k h h0 h1]; simp
theorem sub_range (a k : Int) (ha : 0 ≤ a) (ha2 : a < 4294967296) (h0 : 0 ≤ k) (h1 : k ≤ 32) : 0 ≤ a / pw k * pw k ∧ a / pw k * pw k < 4294967296 := by
  have hp := pw_pos k
  have h3 := Int.ediv_mul_le a (b := pw k) (by omega)
  exact ⟨Int.mul_nonneg (Int.ediv_nonneg ha (by omega)) (by omega), by omega⟩
set_option maxHeartbeats 400000 in
theorem rcommon_ok (a n b m : Int) (w : World) (ha : 0 ≤ a) (ha2 : a < 4294967296) (hb0 : 0 ≤ b) (hbl : b < 4294967296) (h : ck a n = 0) (h2 : ck b m = 0) :
    Calls Try.prog 31 #[.agg #[.int .u32 a, .int .i64 n], .agg #[.int .u32 b, .int .i64 m]] w fun e w' => e = .returned (.tuple #[.agg #[.int .u32 (a / pw (cmK a n b m) * pw (cmK a n b m)), .int .i64 (cmK a n b m)], .int .i64 0]) ∧ Below w.heap.size w w' := by
  have HC := Lib.hid h
  have HD := Lib.hid h2
  obtain ⟨g1, g2, _⟩ := ck_ok a n h
  obtain ⟨g3, g4, _⟩ := ck_ok b m h2
  obtain ⟨hr1, hr2⟩ := cmK_range a n b m ha ha2 hb0 hbl g1 g3
  have HI := Lib.hid (fun k => cmK_iff a n b m k ha ha2 hb0 hbl)
  clear h h2
  go_enter Try.func31, Try.ntmps31
  go_wp2_with (first | (go_at_call 16; (with_reducible refine (rcheck_is a n _ ha ha2).mono ?_); rintro e w1 ⟨rfl, hb⟩; rw [HC.out]; obtain ⟨hc, hf⟩ := bcell hb; have hz := hb.size; (try simp at hz); have hz0 : w.heap.size < w1.heap.size := (by omega); have hz1 : w.heap.size + 1 < w1.heap.size := (by omega); have hz2 : w.heap.size + 1 + 1 < w1.heap.size := (by omega)) | (go_at_call 16; (with_reducible refine (rcheck_is b m _ hb0 hbl).mono ?_); rintro e w2 ⟨rfl, hb2⟩; rw [HD.out]; obtain ⟨hc2, hf2⟩ := bcell hb2; have hy := hb2.size; (try simp at hy); have hy0 : w.heap.size < w2.heap.size := (by omega); have hy1 : w.heap.size + 1 < w2.heap.size := (by omega); have hy2 : w.heap.size + 1 + 1 < w2.heap.size := (by omega)))
  go_loopw [7] (fun i wr => ∃ k : Int, cmK a n b m ≤ k ∧ k ≤ 32 ∧ i = .int .i64 k ∧ Below w2.heap.size w2 wr) (fun i _ => (intOf i).toNat)
  case atStart => exact ⟨32, hr2, by omega, rfl, Below.refl _ _⟩
  case round =>
    obtain ⟨k, k1, k2, rfl, hb4⟩ := hrel
    obtain ⟨hc4, hf4⟩ := bcell hb4
    have hx := hb4.size; (try simp at hx); have hx0 : w.heap.size < wr.heap.size := (by omega); have hx1 : w.heap.size + 1 < wr.heap.size := (by omega); have hx2 : w.heap.size + 1 + 1 < wr.heap.size := (by omega)
    have k0 : 0 ≤ k := by omega
    by_cases hk : 0 < k
    · have W1 := Lib.hid (wi_self a n k HC.out k0 k2)
      have W2 := Lib.hid (wi_other b m a k HD.out k0 k2)
      obtain ⟨r0, r1⟩ := sub_range a k ha ha2 k0 k2
      by_cases hK : k = cmK a n b m
      · have hh := (HI.out k k0 k2).mpr (by omega)
        have D1 : Hid (decide (k ≤ n) = true) := Lib.hid (by simp [hh.1])
        have D2 : Hid (decide (k ≤ m ∧ a / pw k = b / pw k) = true) := Lib.hid (by simp [hh.2.1, hh.2.2])
        have HK := Lib.hid hK
        clear hh hK
        go_wp2_with (first | (go_at_call 49; (with_reducible refine (rsub_ok a k _ ha ha2 k0 k2).mono ?_); rintro e w5 ⟨rfl, hb5⟩; obtain ⟨hc5, hf5⟩ := bcell hb5; have hu := hb5.size; (try simp at hu); have hu0 : w.heap.size < w5.heap.size := (by omega); have hu1 : w.heap.size + 1 < w5.heap.size := (by omega); have hu2 : w.heap.size + 1 + 1 < w5.heap.size := (by omega); have hu3 : w.heap.size + 1 + 1 < w5.heap.size + 1 := (by omega)) | (go_at_call 28; (with_reducible refine (rwithin_is a n _ _ _ ha ha2 r0 r1).mono ?_); rintro e w6 ⟨rfl, hb6⟩; rw [W1.out, D1.out]; obtain ⟨hc6, hf6⟩ := bcell hb6; have ht := hb6.size; (try simp at ht); have ht0 : w.heap.size < w6.heap.size := (by omega); have ht1 : w.heap.size + 1 < w6.heap.size := (by omega); have ht2 : w.heap.size + 1 + 1 < w6.heap.size := (by omega); have hs6 : w5.heap.size < w6.heap.size := (by omega)) | (go_at_call 28; (with_reducible refine (rwithin_is b m _ _ _ hb0 hbl r0 r1).mono ?_); rintro e w7 ⟨rfl, hb7⟩; rw [W2.out, D2.out]; obtain ⟨hc7, hf7⟩ := bcell hb7; have hv := hb7.size; (try simp at hv); have hv0 : w.heap.size < w7.heap.size := (by omega); have hv1 : w.heap.size + 1 < w7.heap.size := (by omega); have hv2 : w.heap.size + 1 + 1 < w7.heap.size := (by omega); have hs7 : w5.heap.size < w7.heap.size := (by omega)))
        refine bodyPost_ret (by simp [results, Try.results31, go_sem, hc, hc2, hc4, hc5, hc6, hc7, hz2, hy2, hx2, hu2, hu3, ht2]; try rfl) rfl ?_
        exact ⟨ret_cm HK.out, ((Below.step (Below.step ((Below.step (Below.step (Below.step (Below.step (by go_grown) hb) hb2) hb4) hb5).alloc (by go_size) _) hb6) hb7).setCell (by go_size) _).setCell (by go_size) _⟩
      · have hh := mt (HI.out k k0 k2).mp (by omega)
        by_cases hn2 : k ≤ n
        · have D1 : Hid (decide (k ≤ n) = true) := Lib.hid (by simp [hn2])
          have D2 : Hid (decide (k ≤ m ∧ a / pw k = b / pw k) = false) := Lib.hid (by simp only [decide_eq_false_iff_not]; exact fun h => hh ⟨hn2, h⟩)
          have HK := Lib.hid hK
          clear hh hK hn2
          go_wp2_with (first | (go_at_call 49; (with_reducible refine (rsub_ok a k _ ha ha2 k0 k2).mono ?_); rintro e w5 ⟨rfl, hb5⟩; obtain ⟨hc5, hf5⟩ := bcell hb5; have hu := hb5.size; (try simp at hu); have hu0 : w.heap.size < w5.heap.size := (by omega); have hu1 : w.heap.size + 1 < w5.heap.size := (by omega); have hu2 : w.heap.size + 1 + 1 < w5.heap.size := (by omega); have hu3 : w.heap.size + 1 + 1 < w5.heap.size + 1 := (by omega)) | (go_at_call 28; (with_reducible refine (rwithin_is a n _ _ _ ha ha2 r0 r1).mono ?_); rintro e w6 ⟨rfl, hb6⟩; rw [W1.out, D1.out]; obtain ⟨hc6, hf6⟩ := bcell hb6; have ht := hb6.size; (try simp at ht); have ht0 : w.heap.size < w6.heap.size := (by omega); have ht1 : w.heap.size + 1 < w6.heap.size := (by omega); have ht2 : w.heap.size + 1 + 1 < w6.heap.size := (by omega); have hs6 : w5.heap.size < w6.heap.size := (by omega)) | (go_at_call 28; (with_reducible refine (rwithin_is b m _ _ _ hb0 hbl r0 r1).mono ?_); rintro e w7 ⟨rfl, hb7⟩; rw [W2.out, D2.out]; obtain ⟨hc7, hf7⟩ := bcell hb7; have hv := hb7.size; (try simp at hv); have hv0 : w.heap.size < w7.heap.size := (by omega); have hv1 : w.heap.size + 1 < w7.heap.size := (by omega); have hv2 : w.heap.size + 1 + 1 < w7.heap.size := (by omega); have hs7 : w5.heap.size < w7.heap.size := (by omega)))
          go_roundw
          case rel => exact ⟨k - 1, by have := HK.out; omega, by omega, rfl, Below.step (Below.step ((Below.step hb4 hb5).alloc (by go_size) _) hb6) hb7⟩
          case measure => simp [intOf]; omega
        · have D1 : Hid (decide (k ≤ n) = false) := Lib.hid (by simp; omega)
          have HK := Lib.hid hK
          clear hh hK hn2
          go_wp2_with (first | (go_at_call 49; (with_reducible refine (rsub_ok a k _ ha ha2 k0 k2).mono ?_); rintro e w5 ⟨rfl, hb5⟩; obtain ⟨hc5, hf5⟩ := bcell hb5; have hu := hb5.size; (try simp at hu); have hu0 : w.heap.size < w5.heap.size := (by omega); have hu1 : w.heap.size + 1 < w5.heap.size := (by omega); have hu2 : w.heap.size + 1 + 1 < w5.heap.size := (by omega); have hu3 : w.heap.size + 1 + 1 < w5.heap.size + 1 := (by omega)) | (go_at_call 28; (with_reducible refine (rwithin_is a n _ _ _ ha ha2 r0 r1).mono ?_); rintro e w6 ⟨rfl, hb6⟩; rw [W1.out, D1.out]; obtain ⟨hc6, hf6⟩ := bcell hb6; have ht := hb6.size; (try simp at ht); have ht0 : w.heap.size < w6.heap.size := (by omega); have ht1 : w.heap.size + 1 < w6.heap.size := (by omega); have ht2 : w.heap.size + 1 + 1 < w6.heap.size := (by omega); have hs6 : w5.heap.size < w6.heap.size := (by omega)) | (go_at_call 28; (with_reducible refine (rwithin_is b m _ _ _ hb0 hbl r0 r1).mono ?_); rintro e w7 ⟨rfl, hb7⟩; rw [W2.out, D2.out]; obtain ⟨hc7, hf7⟩ := bcell hb7; have hv := hb7.size; (try simp at hv); have hv0 : w.heap.size < w7.heap.size := (by omega); have hv1 : w.heap.size + 1 < w7.heap.size := (by omega); have hv2 : w.heap.size + 1 + 1 < w7.heap.size := (by omega); have hs7 : w5.heap.size < w7.heap.size := (by omega)))
          go_roundw
          case rel => exact ⟨k - 1, by have := HK.out; omega, by omega, rfl, Below.step ((Below.step hb4 hb5).alloc (by go_size) _) hb6⟩
          case measure => simp [intOf]; omega
    · have k3 : k = 0 := by omega
      subst k3
      clear hk
      have HK : Hid (cmK a n b m = 0) := Lib.hid (by omega)
      go_wp2
      refine bodyPost_ret (by simp [results, Try.results31, go_sem, hc, hc2, hc4, hz2, hy2]; try rfl) rfl ?_
      exact ⟨ret_cm0 HK.out ha ha2, ((Below.step (Below.step (Below.step (by go_grown) hb) hb2) hb4).setCell (by go_size) _).setCell (by go_size) _⟩
end Go.Proofs.Ytodfimnmbfdicaa
