/- LexLines returns true, and nothing that was there changes. Under the condition that it names. -/
import Derived.Test.YtiadflipakjeeaaLnS
import Derived.Test.YtiadflipakjeeaaLnP
import Derived.Test.YtiadflipakjeeaaLnR
namespace Go.Proofs.Ytiadflipakjeeaa
open Go.RowKit
theorem lnk_words : ∀ (m : Nat) (l : List UInt8) (n : Int), l.length ≤ m → ∀ x ∈ lnk l n, x.2.2.length ≤ l.length
  | 0, l, n, h, x, hx => by
    have : l = [] := List.length_eq_zero_iff.1 (by omega)
    subst this
    simp [lnk_nil] at hx
  | m + 1, l, n, h, x, hx => by
    cases l with
    | nil => simp [lnk_nil] at hx
    | cons b r =>
      rw [lnk_step] at hx
      have h1 := rest_len (b :: r)
      simp only [List.length_cons] at h1 h ⊢
      rcases List.mem_append.1 hx with hx | hx
      · have hw : (lineR (b :: r)).1.length ≤ r.length + 1 := by
          rw [(lineR_is (b :: r)).1]
          have h1 := wds_len ((b :: r).take (nE (b :: r)))
          have h2 : ((b :: r).take (nE (b :: r))).length ≤ (b :: r).length := by rw [List.length_take]; omega
          simp only [List.length_cons] at h2
          split
          · simp
          · omega
        split at hx
        · cases hx
        · rw [List.mem_singleton] at hx
          rw [hx]
          exact hw
      · have := lnk_words m _ _ (by omega) x hx
        omega
/-- What both say of a text. -/
theorem line_ways (s : ByteArray) (hs : s.size ≤ 9223372036854775807) : ∃ (u v E : Int) (ls : List Ln), ls.length ≤ 65536 ∧ (∀ x ∈ ls, x.2.2.length ≤ 65536) ∧
    (∀ W, Calls Try.prog 5 #[.string s] W fun e w' => ∃ x L, e = .returned (.tuple #[x, .agg #[.int .i64 u, .int .i64 v], .int .i64 E]) ∧ L.map Prod.fst = ls ∧ LinesAt w' W.heap.size 35 37 x L ∧ Below W.heap.size W w') ∧
    (∀ W, Calls Try.prog 6 #[.string s] W fun e w' => ∃ x L, e = .returned (.tuple #[x, .agg #[.int .i64 u, .int .i64 v], .int .i64 E]) ∧ L.map Prod.fst = ls ∧ LinesAt w' W.heap.size 56 58 x L ∧ Below W.heap.size W w') := by
  have h1 := fun W => lines_is s W hs
  have h2 := fun W => rlines_is s.data.toList W (by simpa using hs)
  rw [← all_of' s] at h2
  rcases chk_form s.data.toList with ⟨u, v, E, hE, hck⟩ | ⟨hck, h65⟩
  · refine ⟨u, v, E, [], by simp, (fun _ h => by cases h), fun W => (h1 W).mono fun e w' h => ?_, fun W => (h2 W).mono fun e w' h => ?_⟩
    all_goals
      obtain ⟨hb, ⟨u', v', E', hE', hc', he⟩ | ⟨x, L, hc', he, hL, ho⟩⟩ := h
      · rw [hck] at hc'
        simp at hc'
        obtain ⟨⟨rfl, rfl⟩, rfl⟩ := hc'
        exact ⟨_, [], he, rfl, LinesAt.nil _ _ _ _, hb⟩
      · rw [hck] at hc'; simp at hc'; omega
  · refine ⟨0, 0, 0, lnk s.data.toList 1, ?_, ?_, fun W => (h1 W).mono fun e w' h => ?_, fun W => (h2 W).mono fun e w' h => ?_⟩
    · have := lnk_len s.data.toList.length s.data.toList 1 (Nat.le_refl _)
      omega
    · intro x hx
      have := lnk_words s.data.toList.length s.data.toList 1 (Nat.le_refl _) x hx
      omega
    all_goals
      obtain ⟨hb, ⟨u', v', E', hE', hc', he⟩ | ⟨x, L, hc', he, hL, ho⟩⟩ := h
      · rw [hck] at hc'; simp at hc'; omega
      · exact ⟨x, L, he, hL, ho, hb⟩
/-- Only blocks from lo up to hi may have changed. -/
structure Mid (w w' : World) (lo hi : Nat) : Prop where
  os : w'.os = w.os
  tape : w'.tape = w.tape
  output : w'.output = w.output
  size : w.heap.size ≤ w'.heap.size
  block : ∀ b, b < w.heap.size → (b < lo ∨ hi ≤ b) → w'.heap[b]? = w.heap[b]?
theorem Mid.refl (w : World) (lo hi : Nat) : Mid w w lo hi := ⟨rfl, rfl, rfl, Nat.le_refl _, fun _ _ _ => rfl⟩
theorem Mid.set {w w' : World} {lo hi : Nat} (h : Mid w w' lo hi) (g j : Nat) (v : Value) (h1 : lo ≤ g) (h2 : g < hi) : Mid w (w'.setCell ⟨g, j, none⟩ v) lo hi :=
  ⟨h.os, h.tape, h.output, by simpa using h.size, fun b hb hor => (Below.heap_setCell w' ⟨g, j, none⟩ v b (by simp; omega)).trans (h.block b hb hor)⟩
theorem row_set {w : World} {B n k : Nat} {e : TypeId} {y : Value} {xs : List Value} (h : w.ownsRow B e k y n xs) (g j : Nat) (v : Value) : ∃ xs', (w.setCell ⟨g, j, none⟩ v).ownsRow B e k y n xs' := by
  by_cases hg : y.ownBlock = some g
  · rcases h.2 with ⟨rfl, _⟩ | ⟨g', cap, cur, rfl, _⟩
    · cases hg
    · have : g' = g := by simpa [Value.ownBlock] using hg
      subst this
      exact ⟨_, (h.stored j v).1⟩
  · exact ⟨xs, ownsRow_of h (fun x hx _ _ => Below.heap_setCell w ⟨g, j, none⟩ v x (by simp; intro e; exact hg (by rw [hx, e])))⟩
set_option maxRecDepth 100000 in
set_option maxHeartbeats 8000000 in
theorem lexLines_is (s : ByteArray) (w : World) (hs : s.size ≤ 9223372036854775807) : Calls Try.prog 3 #[.string s] w fun e w' => e = .returned (.bool true) ∧ Below w.heap.size w w' := by
  obtain ⟨u, v, E, ls, hdl, hwl, h1, h2⟩ := line_ways s hs
  have H1 := Lib.hid h1; have H2 := Lib.hid h2
  have HDL := Lib.hid hdl; have HWL := Lib.hid hwl
  clear h1 h2 hwl
  go_enter Try.func3, Try.ntmps3
  go_wp2_with fail
  go_at_call 5
  (with_reducible refine (H1.out _).mono ?_)
  rintro e w1 ⟨x, L, rfl, hL, hv, hb1⟩
  obtain ⟨p, c, rfl⟩ := own_sl hv.1
  have HV := Lib.hid hv; have HB1 := Lib.hid hb1; have HL := Lib.hid hL
  have hz01 := hb1.size
  clear hv hb1 hL
  go_wp2_with fail
  obtain ⟨W1, hW1⟩ : ∃ W1, w1.alloc (.cells #[.int .i64 u, .int .i64 v] 24) = W1 := ⟨_, rfl⟩
  have hq1 : W1.heap[w1.heap.size]? = some (.cells #[.int .i64 u, .int .i64 v] 24 (0, 0)) := by rw [← hW1]; exact heap_alloc_new w1 _
  have hB1 : Below w1.heap.size w1 W1 := by rw [← hW1]; exact (Below.refl _ _).alloc (Nat.le_refl _) _
  rw [hW1]
  clear hW1
  have HQ1 := Lib.hid hq1; have HBW1 := Lib.hid hB1
  have hz1 : w1.heap.size < W1.heap.size := (Array.getElem?_eq_some_iff.1 hq1).1
  clear hq1 hB1
  go_at_call 6
  (with_reducible refine (H2.out _).mono ?_)
  rintro e w2 ⟨x, L2, rfl, hL2, hu, hb2⟩
  obtain ⟨q, c', rfl⟩ := own_sl hu.1
  have HU := Lib.hid hu; have HB2 := Lib.hid hb2; have HL2 := Lib.hid hL2
  have hz12 := hb2.size
  clear hu hb2 hL2
  go_wp2_with fail
  obtain ⟨W2, hW2⟩ : ∃ W2, w2.alloc (.cells #[.int .i64 u, .int .i64 v] 24) = W2 := ⟨_, rfl⟩
  have hq2 : W2.heap[w2.heap.size]? = some (.cells #[.int .i64 u, .int .i64 v] 24 (0, 0)) := by rw [← hW2]; exact heap_alloc_new w2 _
  have hB2 : Below w2.heap.size w2 W2 := by rw [← hW2]; exact (Below.refl _ _).alloc (Nat.le_refl _) _
  rw [hW2]
  clear hW2
  have hz2 : w2.heap.size < W2.heap.size := (Array.getElem?_eq_some_iff.1 hq2).1
  have hk12 : ∀ b, b < w1.heap.size → W2.heap[b]? = w1.heap[b]? := fun b hb => ((hB2.block b (by omega)).trans (HB2.out.block b (by omega))).trans (HBW1.out.block b hb)
  have HV2 : Hid (LinesAt W2 w.heap.size 35 37 (.slice p L.length c) L) := Lib.hid (HV.out.on fun b _ hb => hk12 b hb)
  have HU2 : Hid (LinesAt W2 W1.heap.size 56 58 (.slice q L2.length c') L2) := Lib.hid (HU.out.on fun b _ hb => hB2.block b hb)
  have hBA : Below w.heap.size w W2 := Below.step (Below.step (Below.step HB1.out HBW1.out) HB2.out) hB2
  have hP1 : W2.heap[w1.heap.size]? = some (.cells #[.int .i64 u, .int .i64 v] 24 (0, 0)) := (hB2.block _ (by omega)).trans ((HB2.out.block _ hz1).trans HQ1.out)
  have HBA := Lib.hid hBA; have HP1 := Lib.hid hP1; have HP2 := Lib.hid hq2
  have HLL : Hid (L.length ≤ 65536 ∧ ∀ x ∈ L, x.1.2.2.length ≤ 65536) := Lib.hid ⟨by have := HDL.out; rw [← HL.out] at this; simpa using this, fun x hx => HWL.out x.1 (by rw [← HL.out]; exact List.mem_map.2 ⟨x, hx, rfl⟩)⟩
  have HST := Lib.hid (fun W hv hu => sameLines_is L L2 (.slice p L.length c) (.slice q L2.length c') W w.heap.size W1.heap.size hv hu (by rw [HL.out, HL2.out]) HLL.out.1 HLL.out.2)
  clear hB2 hBA hP1 hq2 hk12
  go_at_call 7
  (with_reducible refine (HST.out _ HV2.out HU2.out).mono ?_)
  rintro e w3 ⟨rfl, hb3⟩
  obtain ⟨a0, _⟩ := row_cell' (j := 0) ((hb3.block _ (by omega)).trans HP1.out) rfl
  obtain ⟨a1, _⟩ := row_cell' (j := 1) ((hb3.block _ (by omega)).trans HP1.out) rfl
  obtain ⟨c0, _⟩ := row_cell' (j := 0) ((hb3.block _ hz2).trans HP2.out) rfl
  obtain ⟨c1, _⟩ := row_cell' (j := 1) ((hb3.block _ hz2).trans HP2.out) rfl
  have HB3 := Lib.hid hb3
  clear hb3
  have HSP := Lib.hid (fun W => samePos_same u v W)
  have hEE : (E != E) = false := by simp
  go_wp2_with fail
  go_at_call 8
  (with_reducible refine (HSP.out _).mono ?_)
  rintro e w4 ⟨rfl, hb4⟩
  have hb24 : Below W2.heap.size W2 w4 := Below.step HB3.out hb4
  have hv4 : LinesAt w4 w.heap.size 35 37 (.slice p L.length c) L := HV2.out.on fun g _ hg => hb24.block g hg
  have HB24 := Lib.hid hb24; have HV4 := Lib.hid hv4
  have hz4 := hb24.size
  have hlen : L.length ≤ 65536 := HLL.out.1
  clear hb4 hb24 hv4 a0 a1 c0 c1
  go_wp2_with fail
  go_loopw [9] (fun s9 wr => ∃ i : Nat, i ≤ L.length ∧ s9 = .int .i64 i ∧ wr.ownsRow w.heap.size 35 2 (.slice p L.length c) L.length (L.flatMap lnC) ∧ Hid (∀ x ∈ L, ∃ xs, wr.ownsRow w.heap.size 37 3 x.2 x.1.2.2.length xs) ∧ Mid w4 wr w.heap.size w1.heap.size) (fun s9 _ => L.length - (intOf s9).toNat)
  case atStart => exact ⟨0, Nat.zero_le _, rfl, HV4.out.1, Lib.hid (fun x hx => ⟨_, (HV4.out.2 x hx).1⟩), Mid.refl _ _ _⟩
  case round =>
    obtain ⟨i, hi, rfl, hrow, HWS, hmid⟩ := hrel
    have hrow' : Hid (wr.ownsRow w.heap.size 35 2 (.slice p L.length c) L.length (L.flatMap lnC)) := Lib.hid hrow
    have HMID := Lib.hid hmid
    clear hrow hmid
    by_cases hlt : i < L.length
    · obtain ⟨g, c9, hsl, hg1, _⟩ := hrow'.out.form (by omega)
      obtain ⟨hp, -⟩ : p = some ⟨g, 0, none⟩ ∧ c = c9 := by simpa using hsl
      clear hsl
      subst hp
      obtain ⟨wv, hwv⟩ : ∃ y, L[i].2 = y := ⟨_, rfl⟩
      obtain ⟨ws, hws⟩ : ∃ y, L[i].1.2.2 = y := ⟨_, rfl⟩
      obtain ⟨xs, hxs⟩ := HWS.out L[i] (List.getElem_mem hlt)
      have hx4 := HV.out.2 L[i] (List.getElem_mem hlt)
      have hwl := HLL.out.2 L[i] (List.getElem_mem hlt)
      rw [hwv, hws] at hxs hx4
      rw [hws] at hwl
      obtain ⟨p2, q2, rfl⟩ := own_sl hxs
      have HROWC := Lib.hid (fun (wz : World) (h : wz.ownsRow w.heap.size 35 2 (.slice (some ⟨g, 0, none⟩) L.length c) L.length (L.flatMap lnC)) => (ln_cells h hlt).2.trans (by rw [hwv]))
      have e1 : (0 : Int) ≤ (i : Int) := by omega
      have e2 : (i : Int) < (L.length : Int) := by omega
      have HX4 := Lib.hid hx4
      have HMEM : Hid (L[i] ∈ L) := Lib.hid (List.getElem_mem hlt)
      have HWSI : Hid (L[i].2 = .slice p2 ws.length q2 ∧ L[i].1.2.2 = ws) := Lib.hid ⟨hwv, hws⟩
      clear hwv hws hxs hx4
      obtain ⟨wo, rfl⟩ : ∃ wo : World, wo = wr := ⟨_, rfl⟩
      go_wp2_with fail
      go_loopw [10] (fun s10 wr => ∃ k : Nat, k ≤ ws.length ∧ s10 = .int .i64 k ∧ wr.ownsRow w.heap.size 35 2 (.slice (some ⟨g, 0, none⟩) L.length c) L.length (L.flatMap lnC) ∧ Hid (∀ x ∈ L, ∃ xs, wr.ownsRow w.heap.size 37 3 x.2 x.1.2.2.length xs) ∧ Mid w4 wr w.heap.size w1.heap.size) (fun s10 _ => ws.length - (intOf s10).toNat)
      case atStart => exact ⟨0, Nat.zero_le _, rfl, hrow'.out, HWS, HMID.out⟩
      case round =>
        obtain ⟨k, hk, rfl, hrow2, HWS2, hmid2⟩ := hrel
        have HROW2 := Lib.hid hrow2; have HMID2 := Lib.hid hmid2
        have a1 := HROWC.out wr hrow2
        clear hrow2 hmid2
        by_cases hkl : k < ws.length
        · obtain ⟨ys, hys⟩ := HWS2.out L[i] HMEM.out
          rw [HWSI.out.1, HWSI.out.2] at hys
          obtain ⟨h1, c1, hsl, hh0, hh1⟩ := hys.form (by omega)
          obtain ⟨hp, -⟩ : p2 = some ⟨h1, 0, none⟩ ∧ q2 = c1 := by simpa using hsl
          clear hsl
          subst hp
          have hyl : ys.length = ws.length * 3 := hys.1
          have hce : wr.cell? ⟨h1, k * 3, none⟩ = some (ys[k * 3]'(by omega)) := by rw [hys.cellAt (k * 3) (by omega)]; exact List.getElem?_eq_getElem _
          obtain ⟨y, hy⟩ : ∃ y, (ys[k * 3]'(by omega)) = y := ⟨_, rfl⟩
          rw [hy] at hce
          have hfr := hys.frozenAt (k * 3)
          have hlt1 := HX4.out.1.lt h1 rfl
          have hne : h1 ≠ g := fun e => HX4.out.2 h1 rfl (by rw [e]; rfl)
          have e3 : (0 : Int) ≤ (k : Int) := by omega
          have e4 : (k : Int) < (ws.length : Int) := by omega
          have hrow3 : (wr.setCell ⟨h1, k * 3, none⟩ (.string ⟨#[63]⟩)).ownsRow w.heap.size 35 2 (.slice (some ⟨g, 0, none⟩) L.length c) L.length (L.flatMap lnC) := ownsRow_of HROW2.out (fun x hx _ _ => Below.heap_setCell wr ⟨h1, k * 3, none⟩ _ x (by
            have : g = x := by simpa [Value.ownBlock] using hx
            simp; omega))
          have HROW3 := Lib.hid hrow3
          have HWS3 : Hid (∀ x ∈ L, ∃ xs, (wr.setCell ⟨h1, k * 3, none⟩ (.string ⟨#[63]⟩)).ownsRow w.heap.size 37 3 x.2 x.1.2.2.length xs) := Lib.hid (fun x hx => by
            obtain ⟨zs, hzs⟩ := HWS2.out x hx
            exact row_set hzs _ _ _)
          have HMID3 := Lib.hid (HMID2.out.set h1 (k * 3) (.string ⟨#[63]⟩) hlt1.1 hlt1.2)
          clear hy hyl hys hrow3
          go_wp2_with fail
          go_roundw
          case rel => exact ⟨k + 1, by omega, by go_num, HROW3.out, HWS3, HMID3.out⟩
          case measure => first | (simp [intOf]; done) | (simp [intOf]; omega)
        · have e4 : ¬ (k : Int) < (ws.length : Int) := by omega
          clear hkl
          go_wp2_with fail
          go_roundw
          case rel => exact ⟨i + 1, by omega, by go_num, HROW2.out, HWS2, HMID2.out⟩
          case measure => first | (simp [intOf]; done) | (simp [intOf]; omega)
    · have hki : ¬ (i : Int) < (L.length : Int) := by omega
      clear hlt
      go_wp2_with fail
      go_at_call 5
      (with_reducible refine (H1.out _).mono ?_)
      rintro e w5 ⟨x, L5, rfl, hL5, hv5, hb5⟩
      obtain ⟨p5, c5, rfl⟩ := own_sl hv5.1
      have hms := HMID.out.size
      have hlow : ∀ b, b < w4.heap.size → (b < w.heap.size ∨ w1.heap.size ≤ b) → w5.heap[b]? = w4.heap[b]? := fun b hb hor => (hb5.block b (by omega)).trans (HMID.out.block b hb hor)
      have hu5 : LinesAt w5 W1.heap.size 56 58 (.slice q L2.length c') L2 := HU2.out.on fun b hb1 hb2 => (hlow b (by omega) (.inr (by omega))).trans (HB24.out.block b hb2)
      have hbe : Below w.heap.size w w5 := ⟨hb5.os.trans (HMID.out.os.trans (HB24.out.os.trans HBA.out.os)), hb5.tape.trans (HMID.out.tape.trans (HB24.out.tape.trans HBA.out.tape)), hb5.output.trans (HMID.out.output.trans (HB24.out.output.trans HBA.out.output)), by have := hb5.size; have := HBA.out.size; omega, fun g hg => (hlow g (by have := HBA.out.size; omega) (.inl hg)).trans ((HB24.out.block g (by have := HBA.out.size; omega)).trans (HBA.out.block g hg))⟩
      have HBE := Lib.hid hbe
      have hl5 : L5.length ≤ 65536 := by have := HDL.out; rw [← hL5] at this; simpa using this
      have HST5 := Lib.hid (sameLines_is L5 L2 (.slice p5 L5.length c5) (.slice q L2.length c') w5 _ _ hv5 hu5 (by rw [hL5, HL2.out]) hl5 (fun x hx => HWL.out x.1 (by rw [← hL5]; exact List.mem_map.2 ⟨x, hx, rfl⟩)))
      clear hv5 hb5 hlow hu5 hbe hL5
      go_wp2_with fail
      go_at_call 7
      (with_reducible refine (HST5.out).mono ?_)
      rintro e w6 ⟨rfl, hb6⟩
      go_wp2_with fail
      go_ret
      exact ⟨rfl, Below.step HBE.out hb6⟩
end Go.Proofs.Ytiadflipakjeeaa
