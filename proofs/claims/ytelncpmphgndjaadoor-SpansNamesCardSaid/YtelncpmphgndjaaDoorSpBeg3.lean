/- begins of package spans, whatever sets it is handed: by induction over how many they are. Under the conditions that it names. -/
import Derived.Test.YtelncpmphgndjaaDoorSpBeg2
namespace Go.Proofs.YtelncpmphgndjaaDoor
open Go.RowKit
set_option maxRecDepth 100000 in
set_option maxHeartbeats 2000000 in
theorem beg_none (most : Nat) (p : Option Addr) (c : Nat) (w : World) :
    Calls Tryd.prog 26 #[.int .u32 most, .slice p 0 c] w (BegPost most [] w) := by
  go_enter Tryd.func26, Tryd.ntmps26
  go_wp2
  go_ret
  refine ⟨_, [0], rfl, Beg.none most, ?_, ((Below.refl _ _).alloc (Nat.le_refl _) _).alloc (by simp) _⟩
  have h := OwnN.of (t := 35) (k := .u64) (l := [0]) (n := 1) (cap := 1) (b := w.heap.size) (heap_new (w.alloc (.cells #[.int .u32 most] 30)) (.cells #[.int .u64 0] 35)) (by simp) rfl (by unfold maxLen; omega) rfl (Nat.le_refl _) rfl
  simpa using h
set_option maxRecDepth 100000 in
set_option maxHeartbeats 2000000 in
theorem beg_one (most : Nat) (hmt : most < top) (l : List (Nat × Nat)) (v : Value) (w : World) (hr : RdS w v [l]) (hl : l.length ≤ 100000000) :
    Calls Tryd.prog 26 #[.int .u32 most, v] w (BegPost most [l] w) := by
  obtain ⟨p, c, hv, _, _, hp⟩ := hr
  obtain ⟨b, o, u, rfl, hb, hcu, hru⟩ := hp 0 l rfl
  subst hv
  rw [Nat.add_zero] at hcu
  obtain ⟨q, d, hu, _⟩ := hru.sl
  subst hu
  have HRU := Lib.hid hru
  clear hp hru
  go_enter Tryd.func26, Tryd.ntmps26
  go_wp2_with fail
  go_at_call 41
  have hB0 : Below w.heap.size w ((w.alloc (.cells #[.int .u32 most] 30)).alloc (.cells #[.int .u64 0] 35)) := ((Below.refl _ _).alloc (Nat.le_refl _) _).alloc (by simp) _
  have q0 : ((w.alloc (.cells #[.int .u32 most] 30)).alloc (.cells #[.int .u64 0] 35)).heap[w.heap.size]? = some (.cells #[.int .u32 most] 30 (0, 0)) := (heap_alloc _ (by simp)).trans (heap_new _ _)
  have q1 : OwnN 35 .u64 w.heap.size ((w.alloc (.cells #[.int .u32 most] 30)).alloc (.cells #[.int .u64 0] 35)) (.slice (some ⟨w.heap.size + 1, 0, none⟩) 1 1) [0] := by
    have h := OwnN.of (t := 35) (k := .u64) (l := [0]) (n := 1) (cap := 1) (b := w.heap.size) (heap_new (w.alloc (.cells #[.int .u32 most] 30)) (.cells #[.int .u64 0] 35)) (by simp) rfl (by unfold maxLen; omega) rfl (Nat.le_refl _) rfl
    simpa using h
  have q2 : ((w.alloc (.cells #[.int .u32 most] 30)).alloc (.cells #[.int .u64 0] 35)).heap.size = w.heap.size + 2 := by simp
  generalize (w.alloc (.cells #[.int .u32 most] 30)).alloc (.cells #[.int .u64 0] 35) = W0 at *
  have Q0 := Lib.hid q0; have Q1 := Lib.hid q1; have Q2 := Lib.hid q2
  clear q0 q1 q2
  refine (cuts_is l _ W0 (HRU.out.below hB0) (by omega)).mono ?_
  rintro e w2 ⟨v2, rfl, ho2, hb2⟩
  have h2s := Q2.out
  have hcl := CnHas_length HRU.out.1.two
  have H := Lib.hid (beg_sweep w2 w.heap.size most [0] (cutsOf (Cn (has l))) _ v2 w.heap.size _ ((hb2.block _ (by omega)).trans Q0.out) hmt (Q1.out.below hb2) ho2 (by simp) (Cn_canon _).cuts (by simp) (cut_top (Cn_small _).two (Cn_canon _)) (by simp) (by rw [cutsOf_length]; omega))
  clear ho2 h2s
  have hbw2 : Below w.heap.size w w2 := Below.step hB0 hb2
  go_wp2_with fail
  go_at_call 42
  refine H.out.mono ?_
  rintro e w3 ⟨rfl, D, mv, h1, h2, h3, ho, hc, hb3⟩
  have HH := Lib.hid (And.intro h1 (And.intro h2 h3))
  clear h1 h2 h3
  go_wp2
  go_ret
  have hz := hbw2.size
  exact ⟨_, D, rfl, Beg.one HRU.out.1 HH.out.1 HH.out.2.1 HH.out.2.2, ho.base (by omega), Below.step hbw2 hb3⟩
theorem RdS.take {w : World} {b o c n : Nat} {ls : List (List (Nat × Nat))} (h : RdS w (.slice (some ⟨b, o, none⟩) n c) ls) {k : Nat} (hk : k ≤ ls.length) : RdS w (.slice (some ⟨b, o, none⟩) k c) (ls.take k) := by
  obtain ⟨p, c', e, h1, h2, h3⟩ := h
  simp only [Value.slice.injEq] at e
  obtain ⟨rfl, rfl, rfl⟩ := e
  refine ⟨_, c, by rw [List.length_take, Nat.min_eq_left hk], by rw [List.length_take]; omega, h2, fun i l hi => ?_⟩
  rw [List.getElem?_take] at hi
  split at hi
  · exact h3 i l hi
  · cases hi
theorem RdS.drop {w : World} {b o c n : Nat} {ls : List (List (Nat × Nat))} (h : RdS w (.slice (some ⟨b, o, none⟩) n c) ls) (k : Nat) : RdS w (.slice (some ⟨b, o + k, none⟩) (ls.length - k) (c - k)) (ls.drop k) := by
  obtain ⟨p, c', e, h1, h2, h3⟩ := h
  simp only [Value.slice.injEq] at e
  obtain ⟨rfl, rfl, rfl⟩ := e
  refine ⟨_, c - k, by rw [List.length_drop], by rw [List.length_drop]; omega, by omega, fun i l hi => ?_⟩
  rw [List.getElem?_drop] at hi
  obtain ⟨b', o', u, e, k1, k2, k3⟩ := h3 _ l hi
  simp only [Option.some.injEq, Addr.mk.injEq] at e
  obtain ⟨rfl, rfl, _⟩ := e
  exact ⟨b, o + k, u, rfl, k1, by rw [Nat.add_assoc]; exact k2, k3⟩
theorem flat_parts (ls : List (List (Nat × Nat))) (k : Nat) : (ls.take k).flatten.length + (ls.drop k).flatten.length = ls.flatten.length := by
  rw [← List.length_append, ← List.flatten_append, List.take_append_drop]
set_option maxRecDepth 100000 in
set_option maxHeartbeats 4000000 in
theorem beg_all (N most : Nat) (hmt : most < top) : ∀ (ls : List (List (Nat × Nat))) (v : Value) (w : World), ls.length ≤ N → RdS w v ls → ls.length + ls.flatten.length ≤ 100000000 →
    Calls Tryd.prog 26 #[.int .u32 most, v] w (BegPost most ls w) := by
  induction N with
  | zero =>
    intro ls v w hn hr _
    obtain ⟨p, c, hv, _⟩ := hr
    obtain rfl : ls = [] := List.eq_nil_of_length_eq_zero (by omega)
    subst hv
    exact beg_none most p c w
  | succ N ih =>
    intro ls v w hn hr hl
    match ls, hn, hr, hl with
    | [], _, hr, _ =>
      obtain ⟨p, c, hv, _⟩ := hr
      subst hv
      exact beg_none most p c w
    | [l], _, hr, hl => exact beg_one most hmt l v w hr (by simp at hl; omega)
    | l0 :: l1 :: ls', hn, hr, hl =>
      obtain ⟨ls, hls⟩ : ∃ ls, ls = l0 :: l1 :: ls' := ⟨_, rfl⟩
      rw [← hls] at hr hl hn ⊢
      have h2 : 2 ≤ ls.length := by rw [hls]; simp
      have HN := Lib.hid hn
      have HIH := Lib.hid ih
      have HR := Lib.hid hr
      obtain ⟨p, c, hv, hlc, hcm, hp⟩ := hr
      obtain ⟨b, o, u, hpe, hb, _, _⟩ := hp 0 (ls[0]'(by omega)) (List.getElem?_eq_getElem _)
      subst hpe hv
      clear hls hn ih hp
      have d0 : ((ls.length : Int) == 0) = false := by rw [beq_eq_false_iff_ne]; omega
      have d1 : ((ls.length : Int) == 1) = false := by rw [beq_eq_false_iff_ne]; omega
      have hmx : ls.length ≤ 100000000 := by omega
      obtain ⟨h, hh⟩ : ∃ h, h = ls.length / 2 := ⟨_, rfl⟩
      have hq : (ls.length : Int) / 2 = (h : Int) := by omega
      have hh1 : h + 1 ≤ ls.length := by omega
      have hh2 : 1 ≤ h := by omega
      have hh3 : h + 1 ≤ c := by omega
      have hne : ¬ c = h := by omega
      have i1 : (0 : Int) ≤ (h : Int) := by omega
      have i2 : (h : Int) ≤ (c : Int) := by omega
      have i3 : (h : Int) ≤ (ls.length : Int) := by omega
      have hfp := flat_parts ls h
      have HA : Hid (∀ W, Below w.heap.size w W → Calls Tryd.prog 26 #[.int .u32 most, .slice (some ⟨b, o, none⟩) h c] W (BegPost most (ls.take h) W)) := Lib.hid fun W hW => HIH.out _ _ W (by rw [List.length_take]; have := HN.out; omega) ((HR.out.below hW).take (by omega)) (by rw [List.length_take]; omega)
      have HB : Hid (∀ W, Below w.heap.size w W → Calls Tryd.prog 26 #[.int .u32 most, .slice (some ⟨b, o + h, none⟩) (ls.length - h) (c - h)] W (BegPost most (ls.drop h) W)) := Lib.hid fun W hW => HIH.out _ _ W (by rw [List.length_drop]; have := HN.out; omega) ((HR.out.below hW).drop h) (by rw [List.length_drop]; omega)
      clear hh hfp HIH HN
      have x0 : (w.alloc (.cells #[.int .u32 most] 30)).cell? ⟨w.heap.size, 0, none⟩ = some (.int .u32 most) := cell_of_heap (heap_new _ _)
      have X0 := Lib.hid x0
      go_enter Tryd.func26, Tryd.ntmps26
      go_wp2_with fail
      go_region_held3 (fun w' => w'.cell? ⟨w.heap.size, 0, none⟩ = some (.int .u32 most)) (first | go_keep | (trace_state; fail)) (first
        | (go_at_call 26; (with_reducible refine (HA.out _ (((Below.refl _ _).alloc (Nat.le_refl _) _).drew)).mono ?_); rintro e wA ⟨vA, RA, rfl, hA1, hA2, hA3⟩; have zA : wA.cell? ⟨w.heap.size, 0, none⟩ = some (.int .u32 most) := (hA3.cell (p := ⟨w.heap.size, 0, none⟩) (by simp)).trans X0.out; have hbA : Below w.heap.size w wA := Below.step (((Below.refl _ _).alloc (Nat.le_refl _) _).drew) hA3)
        | (go_at_call 26; (with_reducible refine (HB.out _ hbA).mono ?_); rintro e wB ⟨vB, RB, rfl, hB1, hB2, hB3⟩; have zB : wB.cell? ⟨w.heap.size, 0, none⟩ = some (.int .u32 most) := (hB3.cell (p := ⟨w.heap.size, 0, none⟩) (by have := hA3.size; simp at this ⊢; omega)).trans zA))
      have hgA : wA.heap[w.heap.size]? = some (.cells #[.int .u32 most] 30 (0, 0)) := (hA3.block _ (by simp)).trans (heap_new _ _)
      have hzA := hA3.size
      simp at hzA
      have hgB : wB.heap[w.heap.size]? = some (.cells #[.int .u32 most] 30 (0, 0)) := (hB3.block _ (by omega)).trans hgA
      have hzB := hB3.size
      have hfp := flat_parts ls h
      have hlA := hA1.len
      have hlB := hB1.len
      have H := Lib.hid (beg_sweep wB w.heap.size most RA RB vA vB _ _ hgB hmt (hA2.below hB3) hB2 hA1.rising hB1.rising (fun x hx => by have := hA1.le x hx; omega) (fun x hx => by have := hB1.le x hx; omega) (by rw [List.length_take] at hlA; omega) (by rw [List.length_drop] at hlB; omega))
      have HA1 := Lib.hid hA1; have HB1 := Lib.hid hB1
      have hbB : Below w.heap.size w wB := Below.step hbA hB3
      clear hgA hgB hfp hlA hlB hA1 hB1 hA2 hB2 zA zB
      go_wp2_with fail
      go_at_call 42
      refine H.out.mono ?_
      rintro e w3 ⟨rfl, D, mv, h1, h2', h3, ho, hc, hb3⟩
      have HH := Lib.hid (And.intro h1 (And.intro h2' h3))
      clear h1 h2' h3
      go_wp2
      go_ret
      refine ⟨_, D, rfl, ?_, ho.base (by omega), Below.step hbB hb3⟩
      have hw := Beg.two (fun e => by have := congrArg List.length e; rw [List.length_take, List.length_nil] at this; omega) (fun e => by have := congrArg List.length e; rw [List.length_drop, List.length_nil] at this; omega) HA1.out HB1.out HH.out.1 HH.out.2.1 HH.out.2.2
      rwa [List.take_append_drop] at hw
end Go.Proofs.YtelncpmphgndjaaDoor
