/- What anything and named of package rewrite, and Named of waymarkref11 do. Under the conditions that they name. -/
import Derived.Test.YthooiigdembgcaaRwB
namespace Go.Proofs.Ythooiigdembgcaa
open Go.RowKit
set_option maxHeartbeats 2000000 in
theorem any_is (w : World) : Calls Try.prog 38 #[] w fun e w' => ∃ p n c, e = .returned (.agg #[.string ⟨#[]⟩, .slice p n c]) ∧ Below w.heap.size w w' ∧ RdR w' (.slice p n c) [anyR] := by
  obtain ⟨W3, hW3⟩ : ∃ W3, ((w.alloc (.cells #[.string ⟨#[]⟩, .slice none 0 0] 24)).alloc (.cells #[.int .u32 0, .int .u32 65535] 31)).alloc (.cells (encR anyR).toArray 33) = W3 := ⟨_, rfl⟩
  have hb3 : Below w.heap.size w W3 := by rw [← hW3]; exact (((Below.refl _ _).alloc (Nat.le_refl _) _).alloc (by simp) _).alloc (by simp; omega) _
  have hg3 : W3.heap[w.heap.size + 1 + 1]? = some (.cells (encR anyR).toArray 33 (0, 0)) := by
    rw [← hW3]
    have := heap_new ((w.alloc (.cells #[.string ⟨#[]⟩, .slice none 0 0] 24)).alloc (.cells #[.int .u32 0, .int .u32 65535] 31)) (.cells (encR anyR).toArray 33)
    simpa using this
  have hx3 : W3.heap[w.heap.size]? = some (.cells #[.string ⟨#[]⟩, .slice none 0 0] 24 (0, 0)) := by
    rw [← hW3, heap_alloc _ (by simp; omega), heap_alloc _ (by simp)]; exact heap_new _ _
  have x0 : W3.cell? ⟨w.heap.size, 0, none⟩ = some (.string ⟨#[]⟩) := (cell_of_heap hx3).trans rfl
  have x1 : W3.cell? ⟨w.heap.size, 1, none⟩ = some (.slice none 0 0) := (cell_of_heap hx3).trans rfl
  have xf0 : W3.frozen? ⟨w.heap.size, 0, none⟩ = false := by simp [World.frozen?, hx3]
  have xf1 : W3.frozen? ⟨w.heap.size, 1, none⟩ = false := by simp [World.frozen?, hx3]
  obtain ⟨W4, hW4⟩ : ∃ W4, (W3.setCell ⟨w.heap.size, 0, none⟩ (.string ⟨#[]⟩)).setCell ⟨w.heap.size, 1, none⟩ (.slice (some ⟨w.heap.size + 1 + 1, 0, none⟩) 1 1) = W4 := ⟨_, rfl⟩
  have hx4 := heap_setCell (o := 1) (.slice (some ⟨w.heap.size + 1 + 1, 0, none⟩) 1 1) (heap_setCell (o := 0) (.string ⟨#[]⟩) hx3)
  rw [hW4] at hx4
  have z0 : W4.cell? ⟨w.heap.size, 0, none⟩ = some (.string ⟨#[]⟩) := (cell_of_heap hx4).trans rfl
  have z1 : W4.cell? ⟨w.heap.size, 1, none⟩ = some (.slice (some ⟨w.heap.size + 1 + 1, 0, none⟩) 1 1) := (cell_of_heap hx4).trans rfl
  have hb4 : Below w.heap.size w W4 := by rw [← hW4]; exact (hb3.setCell (p := ⟨w.heap.size, 0, none⟩) (Nat.le_refl _) _).setCell (p := ⟨w.heap.size, 1, none⟩) (Nat.le_refl _) _
  have hg4 : W4.heap[w.heap.size + 1 + 1]? = some (.cells (encR anyR).toArray 33 (0, 0)) := by
    rw [← hW4, Below.heap_setCell _ _ _ _ (by show w.heap.size + 1 + 1 ≠ w.heap.size; omega), Below.heap_setCell _ _ _ _ (by show w.heap.size + 1 + 1 ≠ w.heap.size; omega)]
    exact hg3
  have hr4 : RdR W4 (.slice (some ⟨w.heap.size + 1 + 1, 0, none⟩) 1 1) [anyR] := by
    refine ⟨⟨_, _, rfl, Nat.le_refl _, by unfold maxLen; omega, fun _ => ⟨_, _, rfl, (Array.getElem?_eq_some_iff.1 hg4).1, fun i s hs j u hu => ?_⟩⟩, any_ok⟩
    match i, hs with
    | 0, hs =>
      simp at hs; subst hs
      rw [cell_of_heap hg4]
      simpa using hu
    | i + 1, hs => simp at hs
  have HB4 := Lib.hid hb4
  have HR4 := Lib.hid hr4
  clear hb3 hg3 hx3 hx4 hb4 hg4 hr4
  simp only [encR, anyR] at hW3
  go_enter Try.func38, Try.ntmps38
  go_wp2
  (try simp only [Exit.inBlock, Exit.then])
  refine bodyPost_ret (by simp [results, Try.results38, go_sem, z0, z1]; try rfl) rfl ?_
  exact ⟨_, _, _, rfl, HB4.out, HR4.out⟩
/-- A filter is stored where a result lies. -/
theorem stored {w W : World} {a b : Value} {nm : ByteArray} {u : Value} (hx : W.heap[w.heap.size]? = some (.cells #[a, b] 24 (0, 0))) (hb : Below w.heap.size w W) :
    ∃ W5, (W.setCell ⟨w.heap.size, 0, none⟩ (.string nm)).setCell ⟨w.heap.size, 1, none⟩ u = W5 ∧ W.cell? ⟨w.heap.size, 0, none⟩ = some a ∧ W.cell? ⟨w.heap.size, 1, none⟩ = some b ∧ W.frozen? ⟨w.heap.size, 0, none⟩ = false ∧ W.frozen? ⟨w.heap.size, 1, none⟩ = false ∧
      W5.cell? ⟨w.heap.size, 0, none⟩ = some (.string nm) ∧ W5.cell? ⟨w.heap.size, 1, none⟩ = some u ∧ Below w.heap.size w W5 ∧ (∀ x, x ≠ w.heap.size → W5.heap[x]? = W.heap[x]?) ∧ W5.heap.size = W.heap.size := by
  obtain ⟨W5, hW5⟩ : ∃ W5, (W.setCell ⟨w.heap.size, 0, none⟩ (.string nm)).setCell ⟨w.heap.size, 1, none⟩ u = W5 := ⟨_, rfl⟩
  have h5 := heap_setCell (o := 1) u (heap_setCell (o := 0) (.string nm) hx)
  rw [hW5] at h5
  refine ⟨W5, hW5, (cell_of_heap hx).trans rfl, (cell_of_heap hx).trans rfl, by simp [World.frozen?, hx], by simp [World.frozen?, hx], (cell_of_heap h5).trans rfl, (cell_of_heap h5).trans rfl, ?_, fun x hne => ?_, ?_⟩
  · rw [← hW5]; exact (hb.setCell (p := ⟨w.heap.size, 0, none⟩) (Nat.le_refl _) _).setCell (p := ⟨w.heap.size, 1, none⟩) (Nat.le_refl _) _
  · rw [← hW5, Below.heap_setCell _ _ _ _ hne, Below.heap_setCell _ _ _ _ hne]
  · rw [← hW5]; simp [World.setCell]
theorem RdR.off {W W5 : World} {n : Nat} {v : Value} {l : List RuleD} {nm : ByteArray} {p0 : Option Addr} {q0 c0 : Nat} (h : RdR W v l) (hx : W.heap[n]? = some (.cells #[.string nm, .slice p0 q0 c0] 24 (0, 0))) (he : ∀ x, x ≠ n → W5.heap[x]? = W.heap[x]?) (hz : W5.heap.size = W.heap.size) : RdR W5 v l := by
  obtain ⟨p, c, e, h2, h3, h4⟩ := h.rd
  refine ⟨⟨p, c, e, h2, h3, fun h0 => ?_⟩, h.ok⟩
  obtain ⟨b, o, rfl, h5, h6⟩ := h4 h0
  have hne : b ≠ n := by
    rintro rfl
    have := h6 0 _ (List.getElem?_eq_getElem h0) 0 _ rfl
    rw [cell_of_heap hx] at this
    match o, this with
    | 0, h => simp at h
    | 1, h => simp at h
    | o + 2, h => simp at h
  refine ⟨b, o, rfl, by omega, fun i s hs j u hu => ?_⟩
  rw [← h6 i s hs j u hu]
  simp only [World.cell?, he b hne]
theorem Found.nil {o : Option (List RuleD)} {W w0 : World} {e : Ending} {w' : World} (hb : Below w0.heap.size w0 W) (h : Found o W e w') : Found o w0 e w' := by
  obtain ⟨a, p, n, c, b, h1, h2, h3⟩ := h
  exact ⟨a, p, n, c, b, h1, Below.step hb h2, h3⟩
set_option maxHeartbeats 2000000 in
theorem named_is (fs : List FilD) (s : ByteArray) (v : Value) (w : World) (hr : RdF w v fs) : Calls Try.prog 31 #[v, .string s] w (Found (rulesO fs s) w) := by
  obtain ⟨vp, vn, vc, rfl⟩ : ∃ p n c, v = .slice p n c := by obtain ⟨p, c, e, _⟩ := hr.rd; exact ⟨_, _, _, e⟩
  have hb0 : Below w.heap.size w (w.alloc (.cells #[.string ⟨#[]⟩, .slice none 0 0] 24)) := (Below.refl _ _).alloc (Nat.le_refl _) _
  have HB0 := Lib.hid hb0
  have HRF := Lib.hid (hr.below hb0)
  have HX0 : Hid ((w.alloc (.cells #[.string ⟨#[]⟩, .slice none 0 0] 24)).heap[w.heap.size]? = some (.cells #[.string ⟨#[]⟩, .slice none 0 0] 24 (0, 0))) := Lib.hid (heap_new _ _)
  obtain ⟨q, hq⟩ : ∃ q, sEq s ⟨#[]⟩ = q := ⟨_, rfl⟩
  have HQ := Lib.hid hq
  have hqq : (s.toList == (⟨#[]⟩ : ByteArray).toList) = q := hq
  have hqe : (s.toList == []) = q := by rw [← hqq, show (⟨#[]⟩ : ByteArray).toList = [] by decide +kernel]
  clear hr hb0 hq
  cases q with
  | true =>
    have HO := Lib.hid (rulesO_empty (fs := fs) HQ.out)
    go_enter Try.func31, Try.ntmps31
    go_wp2_with fail
    go_at_call 38
    (with_reducible refine (any_is _).mono ?_)
    rintro e w1 ⟨p1, n1, c1, rfl, hb1, hr1⟩
    have hx1 := (hb1.block w.heap.size (by simp)).trans HX0.out
    obtain ⟨W5, hW5, x0, x1, xf0, xf1, z0, z1, hb5, he5, hz5⟩ := stored (w := w) (nm := ⟨#[]⟩) (u := .slice p1 n1 c1) hx1 (Below.step HB0.out hb1)
    have HR5 := Lib.hid (hr1.off hx1 he5 hz5)
    have HB5 := Lib.hid hb5
    clear hx1 he5 hz5 hb5 hr1 hb1
    go_wp2_with fail
    (try simp only [Exit.inBlock, Exit.then])
    refine bodyPost_ret (by simp [results, Try.results31, go_sem, z0, z1]; try rfl) rfl ?_
    exact ⟨_, _, _, _, _, rfl, HB5.out, .inr ⟨rfl, _, HO.out, HR5.out⟩⟩
  | false =>
    obtain ⟨oo, hoo⟩ : ∃ o, nmR fs s = o := ⟨_, rfl⟩
    have HO : Hid (rulesO fs s = oo) := Lib.hid (by unfold rulesO; rw [if_neg (by rw [HQ.out]; simp), hoo])
    have HC := Lib.hid (hoo ▸ named_f fs s _ _ HRF.out)
    clear hoo
    go_enter Try.func31, Try.ntmps31
    go_wp2_with fail
    go_at_call 39
    (with_reducible refine HC.out.mono ?_)
    rintro e w1 ⟨nm1, p1, n1, c1, b1, rfl, hb1, hor⟩
    have hx1 := (hb1.block w.heap.size (by simp)).trans HX0.out
    obtain ⟨W5, hW5, x0, x1, xf0, xf1, z0, z1, hb5, he5, hz5⟩ := stored (w := w) (nm := nm1) (u := .slice p1 n1 c1) hx1 (Below.step HB0.out hb1)
    have HOR : Hid ((b1 = false ∧ oo = none) ∨ (b1 = true ∧ ∃ l, oo = some l ∧ RdR W5 (.slice p1 n1 c1) l)) := Lib.hid (by
      rcases hor with h | ⟨h1, l, h2, h3⟩
      · exact .inl h
      · exact .inr ⟨h1, l, h2, h3.off hx1 he5 hz5⟩)
    have HB5 := Lib.hid hb5
    clear hx1 he5 hz5 hb5 hb1 hor
    go_wp2_with fail
    (try simp only [Exit.inBlock, Exit.then])
    refine bodyPost_ret (by simp [results, Try.results31, go_sem, z0, z1]; try rfl) rfl ?_
    exact ⟨_, _, _, _, _, rfl, HB5.out, by rw [HO.out]; exact HOR.out⟩
/-- What waymarkref11.Named tells. -/
def nmI (fs : List FilD) (s : ByteArray) : Int := match nmO fs s with | some k => (k : Int) | none => -1
set_option maxHeartbeats 2000000 in
theorem rnamed_is (fs : List FilD) (s : ByteArray) (v : Value) (w : World) (hr : RdF w v fs) : Calls Try.prog 32 #[v, .string s] w fun e w' => e = .returned (.int .i64 (nmI fs s)) ∧ Below w.heap.size w w' := by
  obtain ⟨p, c, rfl, hlc, hcm, hp⟩ := hr.rd.sl
  have HP := Lib.hid hp
  clear hp hr
  unfold maxLen at hcm
  go_enter Try.func32, Try.ntmps32
  go_wp2
  go_loopw [5] (fun i wr => ∃ k : Nat, k ≤ fs.length ∧ i = .int .i64 k ∧ Hid (∀ (i : Nat) (f : FilD), i < k → fs[i]? = some f → sEq f.nm s = false) ∧ Below w.heap.size w wr) (fun i _ => fs.length - (intOf i).toNat)
  case atStart => exact ⟨0, Nat.zero_le _, rfl, Lib.hid (fun i f h => by omega), Below.refl _ _⟩
  case round =>
    obtain ⟨k, hk, rfl, HA, hbw⟩ := hrel
    have HW := Lib.hid hbw
    clear hbw
    by_cases hlt : k < fs.length
    · obtain ⟨f, hf⟩ : ∃ f, fs[k]? = some f := ⟨_, List.getElem?_eq_getElem hlt⟩
      obtain ⟨b, o, rfl, hbs, hc⟩ := HP.out k f hf
      have hc := hc wr HW.out
      have HF := Lib.hid hf
      have e1 : (0 : Int) ≤ (k : Int) := by omega
      have e2 : (k : Int) < (fs.length : Int) := by omega
      obtain ⟨q, hq⟩ : ∃ q, sEq f.nm s = q := ⟨_, rfl⟩
      have HQ := Lib.hid hq
      clear hf
      obtain ⟨fn, fv, fl⟩ := f
      simp only [encF] at hc
      have c0 : wr.cell? ⟨b, o + k * 2, none⟩ = some (.string fn) := hc 0 _ rfl
      have hqq : (fn.toList == s.toList) = q := hq
      clear hc hq
      cases q with
      | true =>
        go_wp2_with fail
        go_ret
        exact ⟨ret_int (by unfold nmI; rw [nmO_some HF.out HQ.out HA.out]), HW.out⟩
      | false =>
        go_wp2_with fail
        go_roundw
        case rel => exact ⟨k + 1, by omega, by go_num, Lib.hid (fun i f hi h => by
            rcases Nat.lt_succ_iff_lt_or_eq.1 hi with h2 | rfl
            · exact HA.out i f h2 h
            · rw [HF.out] at h
              cases h
              exact HQ.out), HW.out⟩
        case measure => simp [intOf]; omega
    · go_wp2
      go_ret
      exact ⟨ret_int (by unfold nmI; rw [nmO_none (fs := fs) (s := s) fun i f h => HA.out i f (by have := (List.getElem?_eq_some_iff.1 h).1; omega) h]), HW.out⟩
end Go.Proofs.Ythooiigdembgcaa
