/- What the sets of package waymarkref02 are (Form, Or, And, Less, Not, Count), and the two helpers of the statements (large, awake). Under the conditions that they name. -/
import Derived.Test.YtdjlbenjbhkfiaaSpMade
namespace Go.Proofs.Ytdjlbenjbhkfiaa
open Go.RowKit
theorem NewSet_congr {T T' : Nat → Bool} (h : ∀ x, x < top → T x = T' x) : NewSet T = NewSet T' := by
  unfold NewSet; rw [Cn_congr h]
theorem rform_is (l : List (Nat × Nat)) (v : Value) (w : World) (hr : Rd w v l) (hlen : l.length ≤ 400000000) :
    Calls Try.prog 11 #[v] w (NewSet (has l) w) := by
  have h := made_is l [] v (.slice none 0 0) 4294967295 1 (by simp) w hr (Rd.nil w) (by rw [top_def]; omega) (by simpa using hlen)
  rw [NewSet_congr (T' := has l) (fun x hx => by rw [top_def] at hx; have h : x ≤ 4294967295 := (by omega); simp [mdT, soB, h, has_nil])] at h
  have H := Lib.hid h
  clear h
  go_enter Try.func11, Try.ntmps11
  go_wp2_with fail
  go_at_call 31
  refine H.out.mono ?_
  rintro e w1 ⟨v1, rfl, ho, hb⟩
  go_wp2
  go_ret
  exact ⟨_, rfl, ho, hb⟩
theorem ror_is (l m : List (Nat × Nat)) (v u : Value) (w : World) (hr : Rd w v l) (hs : Rd w u m) (hlen : l.length + m.length ≤ 400000000) :
    Calls Try.prog 12 #[v, u] w (NewSet (fun x => has l x || has m x) w) := by
  have h := made_is l m v u 4294967295 1 (by simp) w hr hs (by rw [top_def]; omega) hlen
  rw [NewSet_congr (T' := fun x => has l x || has m x) (fun x hx => by rw [top_def] at hx; have h : x ≤ 4294967295 := (by omega); simp [mdT, soB, h, has_nil])] at h
  have H := Lib.hid h
  clear h
  go_enter Try.func12, Try.ntmps12
  go_wp2_with fail
  go_at_call 31
  refine H.out.mono ?_
  rintro e w1 ⟨v1, rfl, ho, hb⟩
  go_wp2
  go_ret
  exact ⟨_, rfl, ho, hb⟩
theorem rand_is (l m : List (Nat × Nat)) (v u : Value) (w : World) (hr : Rd w v l) (hs : Rd w u m) (hlen : l.length + m.length ≤ 400000000) :
    Calls Try.prog 13 #[v, u] w (NewSet (fun x => has l x && has m x) w) := by
  have h := made_is l m v u 4294967295 2 (by simp) w hr hs (by rw [top_def]; omega) hlen
  rw [NewSet_congr (T' := fun x => has l x && has m x) (fun x hx => by rw [top_def] at hx; have h : x ≤ 4294967295 := (by omega); simp [mdT, soB, h, has_nil])] at h
  have H := Lib.hid h
  clear h
  go_enter Try.func13, Try.ntmps13
  go_wp2_with fail
  go_at_call 31
  refine H.out.mono ?_
  rintro e w1 ⟨v1, rfl, ho, hb⟩
  go_wp2
  go_ret
  exact ⟨_, rfl, ho, hb⟩
theorem rless_is (l m : List (Nat × Nat)) (v u : Value) (w : World) (hr : Rd w v l) (hs : Rd w u m) (hlen : l.length + m.length ≤ 400000000) :
    Calls Try.prog 14 #[v, u] w (NewSet (fun x => has l x && !has m x) w) := by
  have h := made_is l m v u 4294967295 3 (by simp) w hr hs (by rw [top_def]; omega) hlen
  rw [NewSet_congr (T' := fun x => has l x && !has m x) (fun x hx => by rw [top_def] at hx; have h : x ≤ 4294967295 := (by omega); simp [mdT, soB, h, has_nil])] at h
  have H := Lib.hid h
  clear h
  go_enter Try.func14, Try.ntmps14
  go_wp2_with fail
  go_at_call 31
  refine H.out.mono ?_
  rintro e w1 ⟨v1, rfl, ho, hb⟩
  go_wp2
  go_ret
  exact ⟨_, rfl, ho, hb⟩
theorem rnot_is (l : List (Nat × Nat)) (v : Value) (most : Nat) (w : World) (hr : Rd w v l) (hmt : most < top) (hlen : l.length ≤ 400000000) :
    Calls Try.prog 15 #[v, .int .u32 most] w (NewSet (fun x => decide (x ≤ most) && !has l x) w) := by
  have h := made_is l [] v (.slice none 0 0) most 4 (by simp) w hr (Rd.nil w) hmt (by simpa using hlen)
  rw [NewSet_congr (T' := fun x => decide (x ≤ most) && !has l x) (fun x hx => by simp [mdT, soB])] at h
  have H := Lib.hid h
  clear h
  go_enter Try.func15, Try.ntmps15
  go_wp2_with fail
  go_at_call 31
  refine H.out.mono ?_
  rintro e w1 ⟨v1, rfl, ho, hb⟩
  go_wp2
  go_ret
  exact ⟨_, rfl, ho, hb⟩
set_option maxHeartbeats 400000 in
theorem rcount_is (l : List (Nat × Nat)) (v : Value) (w : World) (hr : Rd w v l) (hl : l.length ≤ 400000000) :
    Calls Try.prog 26 #[v] w fun e w' => e = .returned (.int .u64 (cnt (Cn (has l)))) ∧ Below w.heap.size w w' := by
  have h1 := CnHas_length hr.1.two
  have H := Lib.hid (rform_is l v w hr hl)
  go_enter Try.func26, Try.ntmps26
  go_wp2_with fail
  refine H.out.mono ?_
  rintro e w1 ⟨v1, rfl, ho1, hb1⟩
  have hcan := Cn_canon (has l)
  have hsm := Cn_small (has l)
  generalize hgf : Cn (has l) = f at *
  have HF := Lib.hid hgf
  clear hgf H
  have hlf : f.length ≤ 400000000 := by omega
  clear h1 hr
  obtain ⟨p, c, rfl, _, _, hp⟩ := ho1.rd.sl
  have HP := Lib.hid hp
  have HC := Lib.hid hcan
  have HSM := Lib.hid hsm
  clear hp hcan hsm ho1
  go_wp2
  go_loopw [3, 5] (fun n i wr => ∃ k : Nat, k ≤ f.length ∧ i = .int .i64 k ∧ n = .int .u64 (cnt (f.take k)) ∧ Below w.heap.size w wr ∧ Below w1.heap.size w1 wr) (fun _ i _ => f.length - (intOf i).toNat)
  case atStart => exact ⟨0, Nat.zero_le _, rfl, rfl, hb1, Below.refl _ _⟩
  case round =>
    obtain ⟨k, hk, rfl, rfl, hbw, hbw1⟩ := hrel
    by_cases hlt : k < f.length
    · obtain ⟨s, hs⟩ : ∃ s, f[k]? = some s := ⟨_, List.getElem?_eq_getElem hlt⟩
      obtain ⟨b, o, rfl, hb, ht1, ht2, hc⟩ := HP.out k s hs
      obtain ⟨c1, c2⟩ := hc wr hbw1
      have HT := Lib.hid (cnt_take hs)
      have h3 := HC.out.some s (List.mem_of_getElem? hs)
      have h4 := cnt_take_le HSM.out.two k
      have h5 := Nat.mul_le_mul_right top hlf
      clear hs hc
      obtain ⟨n, hn⟩ : ∃ n : Int, n = (cnt (f.take k) : Nat) := ⟨_, rfl⟩
      rw [← hn]
      obtain ⟨lo, hlo⟩ : ∃ x : Int, x = (s.1 : Int) := ⟨_, rfl⟩
      obtain ⟨hi, hhi⟩ : ∃ x : Int, x = (s.2 : Int) := ⟨_, rfl⟩
      rw [← hlo] at c1; rw [← hhi] at c2
      rw [top_def] at *
      have n0 : 0 ≤ n := by omega
      have n1 : n ≤ 4294967296000000000 := by omega
      have b0 : 0 ≤ lo := by omega
      have b1 : lo ≤ hi := by omega
      have b2 : hi < 4294967296 := by omega
      have b3 : 0 ≤ hi := by omega
      have HN := Lib.hid hn; have HL := Lib.hid hlo; have HH := Lib.hid hhi
      have e1 : (0 : Int) ≤ (k : Int) := by omega
      have e2 : (k : Int) < (f.length : Int) := by omega
      clear hn hlo hhi h3 h4 h5 ht1 ht2
      have s1 : IntKind.u64.wrap (n + hi) = n + hi := IntWalk.u64_in _ ⟨by omega, by omega⟩
      have s2 : IntKind.u64.wrap (n + hi - lo) = n + hi - lo := IntWalk.u64_in _ ⟨by omega, by omega⟩
      have s3 : IntKind.u64.wrap (n + hi - lo + 1) = n + hi - lo + 1 := IntWalk.u64_in _ ⟨by omega, by omega⟩
      go_wp2
      go_quiet (fail)
      go_wp2
      go_roundw
      case rel =>
        refine ⟨k + 1, by omega, by go_num, ?_, Below.draws hbw _, Below.draws hbw1 _⟩
        have := HT.out; have := HN.out; have := HL.out; have := HH.out
        congr 1
        omega
      case measure => simp [intOf]; omega
    · go_wp2
      go_ret
      exact ⟨ret_int (by rw [List.take_of_length_le (by omega), HF.out]), hbw⟩
theorem large_no (p q : Option Addr) (n m c d : Nat) (w : World) (h1 : n ≤ 200) (h2 : m ≤ 200) :
    Calls Try.prog 9 #[.slice p n c, .slice q m d] w fun e w' => e = .returned (.bool false) ∧ w = w' := by
  have d1 : decide (200 < n) = false := by simp; omega
  have d2 : decide (200 < m) = false := by simp; omega
  go_enter Try.func9, Try.ntmps9
  go_wp2
  go_ret
  exact ⟨ret_bool (by simp; try omega), rfl⟩
theorem large_yes (p q : Option Addr) (n m c d : Nat) (w : World) (h : 200 < n ∨ 200 < m) :
    Calls Try.prog 9 #[.slice p n c, .slice q m d] w fun e w' => e = .returned (.bool true) ∧ w = w' := by
  by_cases h1 : 200 < n
  · have d1 : decide (200 < n) = true := by simpa using h1
    go_enter Try.func9, Try.ntmps9
    go_wp2
    go_ret
    exact ⟨rfl, rfl⟩
  · have d1 : decide (200 < n) = false := by simpa using h1
    have d2 : decide (200 < m) = true := by simp; omega
    go_enter Try.func9, Try.ntmps9
    go_wp2
    go_ret
    exact ⟨ret_bool (by simp; try omega), rfl⟩
theorem wake_form : Cn (has [(4, 6), (1, 3)]) = [(1, 6)] := by
  symm
  refine Cn_eq ⟨by simp, by simp⟩ (by simp [top_def]) fun x _ => ?_
  rw [Bool.eq_iff_iff]; simp [has]; omega
set_option maxHeartbeats 400000 in
theorem awake_is (w : World) : Calls Try.prog 10 #[] w fun e w' => e = .returned (.bool true) ∧ Below w.heap.size w w' := by
  have hR : Rd (w.alloc (.cells #[.int .u32 4, .int .u32 6, .int .u32 1, .int .u32 3] 27)) (.slice (some ⟨w.heap.size, 0, none⟩) 2 2) [(4, 6), (1, 3)] := by
    refine ⟨fun s hs => by simp at hs; rcases hs with rfl | rfl <;> simp [top_def], .inr ⟨w.heap.size, 0, 2, rfl, Nat.le_refl _, by unfold maxLen; omega, by simp, fun i s hi => ?_⟩⟩
    rw [cell_of_heap (heap_new _ _), cell_of_heap (heap_new _ _)]
    match i, hi with
    | 0, hi => simp at hi; subst hi; exact ⟨rfl, rfl⟩
    | 1, hi => simp at hi; subst hi; exact ⟨rfl, rfl⟩
    | i + 2, hi => simp at hi
  have H := Lib.hid (form_is _ _ _ hR (by simp))
  clear hR
  go_enter Try.func10, Try.ntmps10
  go_wp2_with fail
  go_at_call 16
  refine H.out.mono ?_
  rintro e w1 ⟨v1, rfl, ho, hb1⟩
  rw [wake_form] at ho
  have hb01 : Below w.heap.size w w1 := Below.step ((Below.refl _ _).alloc (Nat.le_refl _) _) hb1
  have HC := Lib.hid (count_is _ v1 w1 ho.rd (by simp))
  have HR := Lib.hid ho.rd
  rcases ho.row with ⟨_, h⟩ | ⟨g, cap, rfl, hg, hle, hcap, hrow, hglt⟩
  · cases h
  obtain ⟨c1, c2⟩ := hrow.cellL (k := 0) (s := (1, 6)) (Nat.le_refl _) rfl
  have hq := eql_run 1 6 1 6
  have hg1 := fun op a b w => guard_run op a b 1 6 1 6 w
  have h1 : Cn (has [(1, 6)]) = [(1, 6)] := Cn_self ⟨by simp, by simp⟩ (by simp [top_def])
  have h2 : cnt (Cn (has [(1, 6)])) = 6 := by rw [h1]; rfl
  rw [h2] at HC
  clear ho h1 h2 H hrow
  go_wp2_with fail
  go_at_call 25
  refine HC.out.mono ?_
  rintro e w2 ⟨rfl, hb2⟩
  have HR2 := HR.out.below hb2
  have HR3 := Lib.hid HR2
  clear HR2 c1 c2
  go_wp2_with fail
  go_at_call 22
  refine (has_any _ _ 5 w2 HR3.out (by omega) (by simp)).mono ?_
  rintro e w3 ⟨rfl, hb3⟩
  have h5 : has [(1, 6)] (5 : Int).toNat = true := by decide
  rw [h5]
  clear h5
  go_wp2_with fail
  go_at_call 22
  refine (has_any _ _ 7 w3 (HR3.out.below hb3) (by omega) (by simp)).mono ?_
  rintro e w4 ⟨rfl, hb4⟩
  have h7 : has [(1, 6)] (7 : Int).toNat = false := by decide
  rw [h7]
  clear h7
  go_wp2
  go_ret
  exact ⟨rfl, Below.step (Below.step (Below.step hb01 hb2) hb3) hb4⟩
end Go.Proofs.Ytdjlbenjbhkfiaa
