/- What the calls do that ask of lists of spans: slices.Equal, Same, Count, Least, and waymarkref02's Spans. Each under the conditions that it names. -/
import Derived.Test.YtbplkeopdfciiaaDoorSpSort
import Derived.Test.YtbplkeopdfciiaaDoorSpEq
namespace Go.Proofs.YtbplkeopdfciiaaDoor
open Go.RowKit
set_option maxHeartbeats 400000 in
theorem spans_is (l m : List (Nat × Nat)) (v u : Value) (w : World) (hr : Rd w v l) (hs : Rd w u m) (hl : l.length ≤ 1000000000) (hm : m.length ≤ 1000000000) :
    Calls Tryd.prog 11 #[v, u] w fun e w' => e = .returned (.bool (decide (l = m))) ∧ Below w.heap.size w w' := by
  obtain ⟨p, c, rfl, _, _, hp⟩ := hr.sl
  obtain ⟨q, d, rfl, _, _, hq⟩ := hs.sl
  have HP := Lib.hid hp
  have HQ := Lib.hid hq
  clear hp hq hr hs
  by_cases hlm : l.length = m.length
  · have HLM := Lib.hid hlm
    have h1 : l.length ≤ m.length := by omega
    have h2 : m.length ≤ l.length := by omega
    have h3 : ((l.length : Int) != (m.length : Int)) = false := by simp [hlm]
    clear hlm
    go_enter Tryd.func11, Tryd.ntmps11
    go_wp2
    go_loopw [5] (fun i wr => ∃ k : Nat, k ≤ l.length ∧ i = .int .i64 k ∧ Hid (∀ j, j < k → l[j]? = m[j]?) ∧ Below w.heap.size w wr) (fun i _ => l.length - (intOf i).toNat)
    case atStart => exact ⟨0, Nat.zero_le _, rfl, Lib.hid (fun j hj => by omega), Below.refl _ _⟩
    case round =>
      obtain ⟨k, hk, rfl, H, hbw⟩ := hrel
      by_cases hlt : k < l.length
      · obtain ⟨s, hs⟩ : ∃ s, l[k]? = some s := ⟨_, List.getElem?_eq_getElem hlt⟩
        obtain ⟨t, ht⟩ : ∃ t, m[k]? = some t := ⟨_, List.getElem?_eq_getElem (by omega)⟩
        obtain ⟨b1, o1, rfl, hb1, _, _, hc1⟩ := HP.out k s hs
        obtain ⟨b2, o2, rfl, hb2, _, _, hc2⟩ := HQ.out k t ht
        obtain ⟨c1, c2⟩ := hc1 wr hbw
        obtain ⟨c3, c4⟩ := hc2 wr hbw
        have HS := Lib.hid hs; have HT := Lib.hid ht
        have e1 : (0 : Int) ≤ (k : Int) := by omega
        have e2 : (k : Int) < (l.length : Int) := by omega
        have e3 : (k : Int) < (m.length : Int) := by omega
        clear hs ht hc1 hc2
        obtain ⟨s1, s2⟩ := s
        obtain ⟨t1, t2⟩ := t
        obtain ⟨x1, hx1⟩ : ∃ x : Int, x = (s1 : Int) := ⟨_, rfl⟩
        obtain ⟨x2, hx2⟩ : ∃ x : Int, x = (s2 : Int) := ⟨_, rfl⟩
        obtain ⟨y1, hy1⟩ : ∃ x : Int, x = (t1 : Int) := ⟨_, rfl⟩
        obtain ⟨y2, hy2⟩ : ∃ x : Int, x = (t2 : Int) := ⟨_, rfl⟩
        simp only at c1 c2 c3 c4
        rw [← hx1] at c1; rw [← hx2] at c2; rw [← hy1] at c3; rw [← hy2] at c4
        have X1 := Lib.hid hx1; have X2 := Lib.hid hx2; have Y1 := Lib.hid hy1; have Y2 := Lib.hid hy2
        clear hx1 hx2 hy1 hy2
        by_cases hne : x1 = y1 ∧ x2 = y2
        · obtain ⟨rfl, rfl⟩ := hne
          have hn1 := neq_no x1 x2
          have hg1 := fun op a b w => guard_run op a b x1 x2 x1 x2 w
          go_wp2
          go_quiet (fail)
          go_wp2
          go_roundw
          case rel =>
            refine ⟨k + 1, by omega, by go_num, Lib.hid fun j hj => ?_, by first | exact hbw.drew | exact Below.draws hbw _⟩
            rcases Nat.lt_succ_iff_lt_or_eq.1 hj with h | rfl
            · exact H.out j h
            · rw [HS.out, HT.out]
              have := X1.out; have := X2.out; have := Y1.out; have := Y2.out
              congr 2 <;> omega
          case measure => simp [intOf]; omega
        · have hn : (x1 == y1 && x2 == y2) = false := by
            cases h : (x1 == y1 && x2 == y2) with
            | false => rfl
            | true => simp at h; exact absurd h hne
          have HN := Lib.hid hne
          clear hne
          have hn1 := neq_yes x1 x2 y1 y2 hn
          have hg1 := fun op a b w => guard_run op a b x1 x2 y1 y2 w
          clear hn
          go_wp2
          go_quiet (fail)
          go_wp2
          go_ret
          refine ⟨ret_bool ?_, by first | exact hbw.drew | exact Below.draws hbw _⟩
          symm
          simp only [decide_eq_false_iff_not]
          intro h
          have e5 := HS.out
          rw [h, HT.out] at e5
          simp at e5
          exact HN.out ⟨by rw [X1.out, Y1.out, e5.1], by rw [X2.out, Y2.out, e5.2]⟩
      · go_wp2
        go_ret
        refine ⟨ret_bool ?_, hbw⟩
        symm
        simp only [decide_eq_true_eq]
        apply List.ext_getElem?
        intro j
        by_cases hj : j < k
        · exact H.out j hj
        · rw [List.getElem?_eq_none (by omega), List.getElem?_eq_none (by omega)]
  · have h3 : ((l.length : Int) == (m.length : Int)) = false := by simp; omega
    go_enter Tryd.func11, Tryd.ntmps11
    go_wp2
    go_ret
    exact ⟨ret_bool (by symm; simp; intro h; exact hlm (by rw [h])), Below.refl _ _⟩
set_option maxHeartbeats 400000 in
theorem equal_is (l m : List (Nat × Nat)) (v u : Value) (w : World) (hr : Rd w v l) (hs : Rd w u m) (hl : l.length ≤ 1000000000) (hm : m.length ≤ 1000000000) :
    Calls Tryd.prog 27 #[v, u] w fun e w' => e = .returned (.bool (decide (l = m))) ∧ Below w.heap.size w w' := by
  obtain ⟨p, c, rfl, _, _, hp⟩ := hr.sl
  obtain ⟨q, d, rfl, _, _, hq⟩ := hs.sl
  have HP := Lib.hid hp
  have HQ := Lib.hid hq
  clear hp hq hr hs
  by_cases hlm : l.length = m.length
  · have HLM := Lib.hid hlm
    have h1 : l.length ≤ m.length := by omega
    have h2 : m.length ≤ l.length := by omega
    have h3 : ((l.length : Int) != (m.length : Int)) = false := by simp [hlm]
    clear hlm
    go_enter Tryd.func27, Tryd.ntmps27
    go_wp2
    go_loopw [13] (fun i wr => ∃ k : Nat, k ≤ l.length ∧ i = .int .i64 k ∧ Hid (∀ j, j < k → l[j]? = m[j]?) ∧ Below w.heap.size w wr) (fun i _ => l.length - (intOf i).toNat)
    case atStart => exact ⟨0, Nat.zero_le _, rfl, Lib.hid (fun j hj => by omega), Below.refl _ _⟩
    case round =>
      obtain ⟨k, hk, rfl, H, hbw⟩ := hrel
      by_cases hlt : k < l.length
      · obtain ⟨s, hs⟩ : ∃ s, l[k]? = some s := ⟨_, List.getElem?_eq_getElem hlt⟩
        obtain ⟨t, ht⟩ : ∃ t, m[k]? = some t := ⟨_, List.getElem?_eq_getElem (by omega)⟩
        obtain ⟨b1, o1, rfl, hb1, _, _, hc1⟩ := HP.out k s hs
        obtain ⟨b2, o2, rfl, hb2, _, _, hc2⟩ := HQ.out k t ht
        obtain ⟨c1, c2⟩ := hc1 wr hbw
        obtain ⟨c3, c4⟩ := hc2 wr hbw
        have HS := Lib.hid hs; have HT := Lib.hid ht
        have e1 : (0 : Int) ≤ (k : Int) := by omega
        have e2 : (k : Int) < (l.length : Int) := by omega
        have e3 : (k : Int) < (m.length : Int) := by omega
        clear hs ht hc1 hc2
        obtain ⟨s1, s2⟩ := s
        obtain ⟨t1, t2⟩ := t
        obtain ⟨x1, hx1⟩ : ∃ x : Int, x = (s1 : Int) := ⟨_, rfl⟩
        obtain ⟨x2, hx2⟩ : ∃ x : Int, x = (s2 : Int) := ⟨_, rfl⟩
        obtain ⟨y1, hy1⟩ : ∃ x : Int, x = (t1 : Int) := ⟨_, rfl⟩
        obtain ⟨y2, hy2⟩ : ∃ x : Int, x = (t2 : Int) := ⟨_, rfl⟩
        simp only at c1 c2 c3 c4
        rw [← hx1] at c1; rw [← hx2] at c2; rw [← hy1] at c3; rw [← hy2] at c4
        have X1 := Lib.hid hx1; have X2 := Lib.hid hx2; have Y1 := Lib.hid hy1; have Y2 := Lib.hid hy2
        clear hx1 hx2 hy1 hy2
        by_cases hne : x1 = y1 ∧ x2 = y2
        · obtain ⟨rfl, rfl⟩ := hne
          have hn1 := neq_no x1 x2
          have hg1 := fun op a b w => guard_run op a b x1 x2 x1 x2 w
          go_wp2
          go_quiet (fail)
          go_wp2
          go_roundw
          case rel =>
            refine ⟨k + 1, by omega, by go_num, Lib.hid fun j hj => ?_, by first | exact hbw.drew | exact Below.draws hbw _⟩
            rcases Nat.lt_succ_iff_lt_or_eq.1 hj with h | rfl
            · exact H.out j h
            · rw [HS.out, HT.out]
              have := X1.out; have := X2.out; have := Y1.out; have := Y2.out
              congr 2 <;> omega
          case measure => simp [intOf]; omega
        · have hn : (x1 == y1 && x2 == y2) = false := by
            cases h : (x1 == y1 && x2 == y2) with
            | false => rfl
            | true => simp at h; exact absurd h hne
          have HN := Lib.hid hne
          clear hne
          have hn1 := neq_yes x1 x2 y1 y2 hn
          have hg1 := fun op a b w => guard_run op a b x1 x2 y1 y2 w
          clear hn
          go_wp2
          go_quiet (fail)
          go_wp2
          go_ret
          refine ⟨ret_bool ?_, by first | exact hbw.drew | exact Below.draws hbw _⟩
          symm
          simp only [decide_eq_false_iff_not]
          intro h
          have e5 := HS.out
          rw [h, HT.out] at e5
          simp at e5
          exact HN.out ⟨by rw [X1.out, Y1.out, e5.1], by rw [X2.out, Y2.out, e5.2]⟩
      · go_wp2
        go_ret
        refine ⟨ret_bool ?_, hbw⟩
        symm
        simp only [decide_eq_true_eq]
        apply List.ext_getElem?
        intro j
        by_cases hj : j < k
        · exact H.out j hj
        · rw [List.getElem?_eq_none (by omega), List.getElem?_eq_none (by omega)]
  · have h3 : ((l.length : Int) == (m.length : Int)) = false := by simp; omega
    go_enter Tryd.func27, Tryd.ntmps27
    go_wp2
    go_ret
    exact ⟨ret_bool (by symm; simp; intro h; exact hlm (by rw [h])), Below.refl _ _⟩
theorem same_is (l m : List (Nat × Nat)) (v u : Value) (w : World) (hr : Rd w v l) (hs : Rd w u m) (hl : l.length ≤ 1000000000) (hm : m.length ≤ 1000000000) :
    Calls Tryd.prog 13 #[v, u] w fun e w' => e = .returned (.bool (decide (Cn (has l) = Cn (has m)))) ∧ Below w.heap.size w w' := by
  have h1 := CnHas_length hr.1.two
  have h2 := CnHas_length hs.1.two
  go_enter Tryd.func13, Tryd.ntmps13
  go_wp2_with fail
  refine (form_is l v w hr hl).mono ?_
  rintro e w1 ⟨v1, rfl, ho1, hb1⟩
  go_wp2_with fail
  refine (form_is m u w1 (hs.below hb1) hm).mono ?_
  rintro e w2 ⟨v2, rfl, ho2, hb2⟩
  go_wp2_with fail
  refine (equal_is _ _ v1 v2 w2 (ho1.rd.below hb2) ho2.rd (by omega) (by omega)).mono ?_
  rintro e w3 ⟨rfl, hb3⟩
  go_wp2
  go_ret
  exact ⟨rfl, Below.step (Below.step hb1 hb2) hb3⟩
set_option maxHeartbeats 400000 in
theorem count_is (l : List (Nat × Nat)) (v : Value) (w : World) (hr : Rd w v l) (hl : l.length ≤ 1000000000) :
    Calls Tryd.prog 14 #[v] w fun e w' => e = .returned (.int .u64 (cnt (Cn (has l)))) ∧ Below w.heap.size w w' := by
  have h1 := CnHas_length hr.1.two
  go_enter Tryd.func14, Tryd.ntmps14
  go_wp2_with fail
  refine (form_is l v w hr hl).mono ?_
  rintro e w1 ⟨v1, rfl, ho1, hb1⟩
  have hcan := Cn_canon (has l)
  have hsm := Cn_small (has l)
  generalize hgf : Cn (has l) = f at *
  have HF := Lib.hid hgf
  clear hgf
  have hlf : f.length ≤ 1000000000 := by omega
  clear h1 hr
  obtain ⟨p, c, rfl, _, _, hp⟩ := ho1.rd.sl
  have HP := Lib.hid hp
  have HC := Lib.hid hcan
  have HSM := Lib.hid hsm
  clear hp hcan hsm ho1
  go_wp2
  go_loopw [3, 9] (fun n i wr => ∃ k : Nat, k ≤ f.length ∧ i = .int .i64 k ∧ n = .int .u64 (cnt (f.take k)) ∧ Below w.heap.size w wr ∧ Below w1.heap.size w1 wr) (fun _ i _ => f.length - (intOf i).toNat)
  case atStart => exact ⟨0, Nat.zero_le _, rfl, rfl, hb1, Below.refl _ _⟩
  case round =>
    obtain ⟨k, hk, rfl, rfl, hbw, hbw1⟩ := hrel
    by_cases hlt : k < f.length
    · obtain ⟨s, hs⟩ : ∃ s, f[k]? = some s := ⟨_, List.getElem?_eq_getElem hlt⟩
      obtain ⟨b, o, rfl, hb, ht1, ht2, hc⟩ := HP.out k s hs
      obtain ⟨c1, c2⟩ := hc wr hbw1
      have HT := Lib.hid (cnt_take hs)
      have h3 := HC.out.some s (List.mem_of_getElem? hs)
      have h4 := cnt_take_le HSM.out.two k
      have h5 := Nat.mul_le_mul_right top hlf
      clear hs hc
      obtain ⟨n, hn⟩ : ∃ n : Int, n = (cnt (f.take k) : Nat) := ⟨_, rfl⟩
      rw [← hn]
      obtain ⟨lo, hlo⟩ : ∃ x : Int, x = (s.1 : Int) := ⟨_, rfl⟩
      obtain ⟨hi, hhi⟩ : ∃ x : Int, x = (s.2 : Int) := ⟨_, rfl⟩
      rw [← hlo] at c1; rw [← hhi] at c2
      rw [top_def] at *
      have n0 : 0 ≤ n := by omega
      have n1 : n ≤ 4294967296000000000 := by omega
      have b0 : 0 ≤ lo := by omega
      have b1 : lo ≤ hi := by omega
      have b2 : hi < 4294967296 := by omega
      have b3 : 0 ≤ hi := by omega
      have HN := Lib.hid hn; have HL := Lib.hid hlo; have HH := Lib.hid hhi
      have hz := hbw.size; have hz1 := hbw1.size
      have e1 : (0 : Int) ≤ (k : Int) := by omega
      have e2 : (k : Int) < (f.length : Int) := by omega
      clear hn hlo hhi h3 h4 h5 ht1 ht2
      have x3 : (wr.alloc (.cells #[.int .u32 lo, .int .u32 hi] 33)).cell? ⟨wr.heap.size, 0, none⟩ = some (.int .u32 lo) := by go_simp
      have x4 : (wr.alloc (.cells #[.int .u32 lo, .int .u32 hi] 33)).cell? ⟨wr.heap.size, 1, none⟩ = some (.int .u32 hi) := by go_simp
      have y2 : wr.heap.size < (wr.alloc (.cells #[.int .u32 lo, .int .u32 hi] 33)).heap.size := by simp
      go_wp2
      refine wp_region_grows (by kernel_rfl) (by kernel_rfl) ?_
      refine grows_fact _ _ _ x3 y2 fun r1 => ?_
      refine grows_fact _ _ _ x4 y2 fun r2 => ?_
      clear x3 x4 c1 c2
      repeat (go_big_quiet_step ((go_at_call 18; exact Calls.grows_of (behind_is lo hi _ b3 b2))))
      refine wpQuiet_nil ?_
      rintro w2 ⟨⟨_, hb2⟩, rfl⟩
      clear r1 r2
      go_wp2
      go_roundw
      case rel =>
        refine ⟨k + 1, by omega, by go_num, ?_, Below.step (hbw.alloc hz _) hb2, Below.step (hbw1.alloc hz1 _) hb2⟩
        have := HT.out; have := HN.out; have := HL.out; have := HH.out
        congr 1
        omega
      case measure => simp [intOf]; omega
    · go_wp2
      go_ret
      exact ⟨ret_int (by rw [List.take_of_length_le (by omega), HF.out]), hbw⟩
end Go.Proofs.YtbplkeopdfciiaaDoor
