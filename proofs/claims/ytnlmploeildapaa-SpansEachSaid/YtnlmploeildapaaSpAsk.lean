/- What the calls do that ask of lists of spans: slices.Equal, Same, Count, Least, and waymarkref02's Spans. Each under the conditions that it names. -/
import Derived.Test.YtnlmploeildapaaSpSort
import Derived.Test.YtnlmploeildapaaSpEq
namespace Go.Proofs.Ytnlmploeildapaa
open Go.RowKit
set_option maxHeartbeats 400000 in
theorem count_is (l : List (Nat × Nat)) (v : Value) (w : World) (hr : Rd w v l) (hl : l.length ≤ 1000000000) :
    Calls Try.prog 9 #[v] w fun e w' => e = .returned (.int .u64 (cnt (Cn (has l)))) ∧ Below w.heap.size w w' := by
  have h1 := CnHas_length hr.1.two
  go_enter Try.func9, Try.ntmps9
  go_wp2_with fail
  refine (form_is l v w hr hl).mono ?_
  rintro e w1 ⟨v1, rfl, ho1, hb1⟩
  have hcan := Cn_canon (has l)
  have hsm := Cn_small (has l)
  generalize hgf : Cn (has l) = f at *
  have HF := Lib.hid hgf
  clear hgf
  have hlf : f.length ≤ 1000000000 := by omega
  clear h1 hr
  obtain ⟨p, c, rfl, _, _, hp⟩ := ho1.rd.sl
  have HP := Lib.hid hp
  have HC := Lib.hid hcan
  have HSM := Lib.hid hsm
  clear hp hcan hsm ho1
  go_wp2
  go_loopw [3, 9] (fun n i wr => ∃ k : Nat, k ≤ f.length ∧ i = .int .i64 k ∧ n = .int .u64 (cnt (f.take k)) ∧ Below w.heap.size w wr ∧ Below w1.heap.size w1 wr) (fun _ i _ => f.length - (intOf i).toNat)
  case atStart => exact ⟨0, Nat.zero_le _, rfl, rfl, hb1, Below.refl _ _⟩
  case round =>
    obtain ⟨k, hk, rfl, rfl, hbw, hbw1⟩ := hrel
    by_cases hlt : k < f.length
    · obtain ⟨s, hs⟩ : ∃ s, f[k]? = some s := ⟨_, List.getElem?_eq_getElem hlt⟩
      obtain ⟨b, o, rfl, hb, ht1, ht2, hc⟩ := HP.out k s hs
      obtain ⟨c1, c2⟩ := hc wr hbw1
      have HT := Lib.hid (cnt_take hs)
      have h3 := HC.out.some s (List.mem_of_getElem? hs)
      have h4 := cnt_take_le HSM.out.two k
      have h5 := Nat.mul_le_mul_right top hlf
      clear hs hc
      obtain ⟨n, hn⟩ : ∃ n : Int, n = (cnt (f.take k) : Nat) := ⟨_, rfl⟩
      rw [← hn]
      obtain ⟨lo, hlo⟩ : ∃ x : Int, x = (s.1 : Int) := ⟨_, rfl⟩
      obtain ⟨hi, hhi⟩ : ∃ x : Int, x = (s.2 : Int) := ⟨_, rfl⟩
      rw [← hlo] at c1; rw [← hhi] at c2
      rw [top_def] at *
      have n0 : 0 ≤ n := by omega
      have n1 : n ≤ 4294967296000000000 := by omega
      have b0 : 0 ≤ lo := by omega
      have b1 : lo ≤ hi := by omega
      have b2 : hi < 4294967296 := by omega
      have b3 : 0 ≤ hi := by omega
      have HN := Lib.hid hn; have HL := Lib.hid hlo; have HH := Lib.hid hhi
      have hz := hbw.size; have hz1 := hbw1.size
      have e1 : (0 : Int) ≤ (k : Int) := by omega
      have e2 : (k : Int) < (f.length : Int) := by omega
      clear hn hlo hhi h3 h4 h5 ht1 ht2
      have x3 : (wr.alloc (.cells #[.int .u32 lo, .int .u32 hi] 30)).cell? ⟨wr.heap.size, 0, none⟩ = some (.int .u32 lo) := by go_simp
      have x4 : (wr.alloc (.cells #[.int .u32 lo, .int .u32 hi] 30)).cell? ⟨wr.heap.size, 1, none⟩ = some (.int .u32 hi) := by go_simp
      have y2 : wr.heap.size < (wr.alloc (.cells #[.int .u32 lo, .int .u32 hi] 30)).heap.size := by simp
      go_wp2
      refine wp_region_grows (by kernel_rfl) (by kernel_rfl) ?_
      refine grows_fact _ _ _ x3 y2 fun r1 => ?_
      refine grows_fact _ _ _ x4 y2 fun r2 => ?_
      clear x3 x4 c1 c2
      repeat (go_big_quiet_step ((go_at_call 12; exact Calls.grows_of (behind_is lo hi _ b3 b2))))
      refine wpQuiet_nil ?_
      rintro w2 ⟨⟨_, hb2⟩, rfl⟩
      clear r1 r2
      go_wp2
      go_roundw
      case rel =>
        refine ⟨k + 1, by omega, by go_num, ?_, Below.step (hbw.alloc hz _) hb2, Below.step (hbw1.alloc hz1 _) hb2⟩
        have := HT.out; have := HN.out; have := HL.out; have := HH.out
        congr 1
        omega
      case measure => simp [intOf]; omega
    · go_wp2
      go_ret
      exact ⟨ret_int (by rw [List.take_of_length_le (by omega), HF.out]), hbw⟩
end Go.Proofs.Ytnlmploeildapaa
