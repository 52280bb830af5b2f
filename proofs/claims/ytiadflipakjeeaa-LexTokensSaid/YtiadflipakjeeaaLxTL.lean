/- LexTokens returns true, and nothing that was there changes. Under the condition that it names. -/
import Derived.Test.YtiadflipakjeeaaLxST
import Derived.Test.YtiadflipakjeeaaLxRT
namespace Go.Proofs.Ytiadflipakjeeaa
open Go.RowKit
theorem toks_len : ∀ (f : Nat) (l : List UInt8) (q : Int × Int), (toks f l q).1.length ≤ l.length
  | 0, _, _ => by simp [toks]
  | _ + 1, [], _ => by simp [toks]
  | f + 1, b :: r, q => by
    simp only [toks]
    have hlt := (part_off b r q).lt
    have ih := toks_len f (partR (b :: r) q).rest (partR (b :: r) q).at'
    split
    · simp
    · simp only [List.length_append]
      split
      · simp only [List.length_nil]; omega
      · simp only [List.length_singleton]; omega
/-- What both say of a text. -/
theorem tok_ways (s : ByteArray) (hs : s.size ≤ 9223372036854775807) : ∃ (u v E : Int) (d : List (Int × List UInt8 × (Int × Int))), d.length ≤ 65536 ∧
    (∀ W, Calls Try.prog 9 #[.string s] W fun e w' => ∃ x, e = .returned (.tuple #[x, .agg #[.int .i64 u, .int .i64 v], .int .i64 E]) ∧ w'.ownsRow W.heap.size 47 4 x d.length (d.flatMap tokC) ∧ Below W.heap.size W w') ∧
    (∀ W, Calls Try.prog 10 #[.string s] W fun e w' => ∃ x, e = .returned (.tuple #[x, .agg #[.int .i64 u, .int .i64 v], .int .i64 E]) ∧ w'.ownsRow W.heap.size 67 4 x d.length (d.flatMap tokC) ∧ Below W.heap.size W w') := by
  have h1 := fun W => tokens_is s W hs
  have h2 := fun W => rtokens_is s.data.toList W (by simpa using hs)
  rw [← all_of' s] at h2
  rcases chk_form s.data.toList with ⟨u, v, E, hE, hck⟩ | ⟨hck, h65⟩
  · refine ⟨u, v, E, [], by simp, fun W => (h1 W).mono fun e w' h => ?_, fun W => (h2 W).mono fun e w' h => ?_⟩
    · obtain ⟨hb, ⟨u', v', E', hE', hc', he⟩ | ⟨u', v', hc', ht, he⟩ | ⟨x, hc', ht, he, ho⟩⟩ := h
      · rw [hck] at hc'
        simp at hc'
        obtain ⟨⟨rfl, rfl⟩, rfl⟩ := hc'
        exact ⟨_, he, World.ownsRow_nil _ _ _ _, hb⟩
      · rw [hck] at hc'; simp at hc'; omega
      · rw [hck] at hc'; simp at hc'; omega
    · obtain ⟨hb, ⟨u', v', E', hE', hc', he⟩ | ⟨u', v', hc', ht, he⟩ | ⟨x, hc', ht, he, ho⟩⟩ := h
      · rw [hck] at hc'
        simp at hc'
        obtain ⟨⟨rfl, rfl⟩, rfl⟩ := hc'
        exact ⟨_, he, World.ownsRow_nil _ _ _ _, hb⟩
      · rw [hck] at hc'; simp at hc'; omega
      · rw [hck] at hc'; simp at hc'; omega
  · cases ht : (tk s.data.toList 0).2 with
    | some q =>
      obtain ⟨u, v⟩ := q
      refine ⟨u, v, 71, [], by simp, fun W => (h1 W).mono fun e w' h => ?_, fun W => (h2 W).mono fun e w' h => ?_⟩
      · obtain ⟨hb, ⟨u', v', E', hE', hc', he⟩ | ⟨u', v', hc', ht', he⟩ | ⟨x, hc', ht', he, ho⟩⟩ := h
        · rw [hck] at hc'; simp at hc'; omega
        · rw [tk_all, ht] at ht'
          simp at ht'
          obtain ⟨rfl, rfl⟩ := ht'
          exact ⟨_, he, World.ownsRow_nil _ _ _ _, hb⟩
        · rw [tk_all, ht] at ht'; cases ht'
      · obtain ⟨hb, ⟨u', v', E', hE', hc', he⟩ | ⟨u', v', hc', ht', he⟩ | ⟨x, hc', ht', he, ho⟩⟩ := h
        · rw [hck] at hc'; simp at hc'; omega
        · rw [ht] at ht'
          simp at ht'
          obtain ⟨rfl, rfl⟩ := ht'
          exact ⟨_, he, World.ownsRow_nil _ _ _ _, hb⟩
        · rw [ht] at ht'; cases ht'
    | none =>
      refine ⟨0, 0, 0, (tk s.data.toList 0).1, ?_, fun W => (h1 W).mono fun e w' h => ?_, fun W => (h2 W).mono fun e w' h => ?_⟩
      · have := toks_len s.data.toList.length s.data.toList (1, 1)
        rw [tk_all] at this; omega
      · obtain ⟨hb, ⟨u', v', E', hE', hc', he⟩ | ⟨u', v', hc', ht', he⟩ | ⟨x, hc', ht', he, ho⟩⟩ := h
        · rw [hck] at hc'; simp at hc'; omega
        · rw [tk_all, ht] at ht'; cases ht'
        · rw [tk_all] at ho; exact ⟨_, he, ho, hb⟩
      · obtain ⟨hb, ⟨u', v', E', hE', hc', he⟩ | ⟨u', v', hc', ht', he⟩ | ⟨x, hc', ht', he, ho⟩⟩ := h
        · rw [hck] at hc'; simp at hc'; omega
        · rw [ht] at ht'; cases ht'
        · exact ⟨_, he, ho, hb⟩
theorem own_form {W : World} {B n k : Nat} {e : TypeId} {v : Value} {xs : List Value} (h : W.ownsRow B e k v n xs) : ∃ p c, v = .slice p n c ∧ (0 < n → ∃ g, p = some ⟨g, 0, none⟩ ∧ B ≤ g ∧ g < W.heap.size) := by
  rcases h.2 with ⟨rfl, rfl⟩ | ⟨g, cap, cur, rfl, hg, hh, _⟩
  · exact ⟨_, _, rfl, fun h => by omega⟩
  · exact ⟨_, _, rfl, fun _ => ⟨g, rfl, hg, (Array.getElem?_eq_some_iff.1 hh).1⟩⟩
theorem gb_refl' (W : World) (r : Option Nat) : W.grownBy W r := ⟨rfl, rfl, rfl, Nat.le_refl _, fun _ _ _ => rfl⟩
theorem gb_trans' {a b c : World} {r : Option Nat} (h : a.grownBy b r) (k : b.grownBy c r) : a.grownBy c r :=
  ⟨k.os.trans h.os, k.tape.trans h.tape, k.output.trans h.output, Nat.le_trans h.size k.size, fun i hi hne => (k.block i (Nat.lt_of_lt_of_le hi h.size) hne).trans (h.block i hi hne)⟩
set_option maxRecDepth 100000 in
set_option maxHeartbeats 4000000 in
theorem lexTokens_is (s : ByteArray) (w : World) (hs : s.size ≤ 9223372036854775807) : Calls Try.prog 4 #[.string s] w fun e w' => e = .returned (.bool true) ∧ Below w.heap.size w w' := by
  obtain ⟨u, v, E, d, hdl, h1, h2⟩ := tok_ways s hs
  have H1 := Lib.hid h1; have H2 := Lib.hid h2
  have HDL := Lib.hid hdl
  clear h1 h2
  go_enter Try.func4, Try.ntmps4
  go_wp2_with fail
  go_at_call 9
  (with_reducible refine (H1.out _).mono ?_)
  rintro e w1 ⟨x, rfl, hv, hb1⟩
  obtain ⟨p, c, rfl, hp⟩ := own_form hv
  have HV := Lib.hid hv; have HB1 := Lib.hid hb1; have HP := Lib.hid hp
  clear hv hb1 hp
  go_wp2_with fail
  obtain ⟨W1, hW1⟩ : ∃ W1, w1.alloc (.cells #[.int .i64 u, .int .i64 v] 24) = W1 := ⟨_, rfl⟩
  have hq1 : W1.heap[w1.heap.size]? = some (.cells #[.int .i64 u, .int .i64 v] 24 (0, 0)) := by rw [← hW1]; exact heap_alloc_new w1 _
  have hB1 : Below w1.heap.size w1 W1 := by rw [← hW1]; exact (Below.refl _ _).alloc (Nat.le_refl _) _
  rw [hW1]
  clear hW1
  have HQ1 := Lib.hid hq1; have HBW1 := Lib.hid hB1
  clear hq1 hB1
  go_at_call 10
  (with_reducible refine (H2.out _).mono ?_)
  rintro e w2 ⟨x, rfl, hu, hb2⟩
  obtain ⟨q, c', rfl, hq⟩ := own_form hu
  have HU := Lib.hid hu; have HB2 := Lib.hid hb2
  clear hu hb2 hq
  go_wp2_with fail
  obtain ⟨W2, hW2⟩ : ∃ W2, w2.alloc (.cells #[.int .i64 u, .int .i64 v] 24) = W2 := ⟨_, rfl⟩
  have hq2 : W2.heap[w2.heap.size]? = some (.cells #[.int .i64 u, .int .i64 v] 24 (0, 0)) := by rw [← hW2]; exact heap_alloc_new w2 _
  have hB2 : Below w2.heap.size w2 W2 := by rw [← hW2]; exact (Below.refl _ _).alloc (Nat.le_refl _) _
  rw [hW2]
  clear hW2
  have hz1 : w1.heap.size < W1.heap.size := (Array.getElem?_eq_some_iff.1 HQ1.out).1
  have hz2 : w2.heap.size < W2.heap.size := (Array.getElem?_eq_some_iff.1 hq2).1
  have hz12 := HB2.out.size
  have hz01 := HB1.out.size
  have HV2 : Hid (W2.ownsRow w.heap.size 47 4 (.slice p d.length c) d.length (d.flatMap tokC)) := Lib.hid (ownsRow_of HV.out fun g _ _ hg => ((hB2.block g (by omega)).trans (HB2.out.block g (by omega))).trans (HBW1.out.block g hg))
  have HU2 : Hid (W2.ownsRow W1.heap.size 67 4 (.slice q d.length c') d.length (d.flatMap tokC)) := Lib.hid (ownsRow_of HU.out fun g _ _ hg => hB2.block g hg)
  have hBA : Below w.heap.size w W2 := Below.step (Below.step (Below.step HB1.out HBW1.out) HB2.out) hB2
  have hP1 : W2.heap[w1.heap.size]? = some (.cells #[.int .i64 u, .int .i64 v] 24 (0, 0)) := (hB2.block _ (by omega)).trans ((HB2.out.block _ hz1).trans HQ1.out)
  have HBA := Lib.hid hBA; have HP1 := Lib.hid hP1; have HP2 := Lib.hid hq2
  have HST := Lib.hid (fun W hv hu => sameTok_is d (.slice p d.length c) (.slice q d.length c') W w.heap.size W1.heap.size hv hu HDL.out)
  clear hB2 hBA hP1 hq2
  go_at_call 11
  (with_reducible refine (HST.out _ HV2.out HU2.out).mono ?_)
  rintro e w3 ⟨rfl, hb3⟩
  obtain ⟨a0, _⟩ := row_cell' (j := 0) ((hb3.block _ (by omega)).trans HP1.out) rfl
  obtain ⟨a1, _⟩ := row_cell' (j := 1) ((hb3.block _ (by omega)).trans HP1.out) rfl
  obtain ⟨c0, _⟩ := row_cell' (j := 0) ((hb3.block _ hz2).trans HP2.out) rfl
  obtain ⟨c1, _⟩ := row_cell' (j := 1) ((hb3.block _ hz2).trans HP2.out) rfl
  have HB3 := Lib.hid hb3
  clear hb3
  have HSP := Lib.hid (fun W => samePos_same u v W)
  have hEE : (E != E) = false := by simp
  go_wp2_with fail
  go_at_call 8
  (with_reducible refine (HSP.out _).mono ?_)
  rintro e w4 ⟨rfl, hb4⟩
  have hb24 : Below W2.heap.size W2 w4 := Below.step HB3.out hb4
  have hv4 : w4.ownsRow w.heap.size 47 4 (.slice p d.length c) d.length (d.flatMap tokC) := ownsRow_of HV2.out fun g _ _ hg => hb24.block g hg
  have HB24 := Lib.hid hb24; have HV4 := Lib.hid hv4
  have hz4 := hb24.size
  clear hb4 hb24 hv4 a0 a1 c0 c1
  go_wp2_with fail
  go_loopw [9] (fun s9 wr => ∃ (k : Nat) (xs : List Value), k ≤ d.length ∧ s9 = .int .i64 k ∧ wr.ownsRow w.heap.size 47 4 (.slice p d.length c) d.length xs ∧ w4.grownBy wr (Value.slice p d.length c).ownBlock) (fun s9 _ => d.length - (intOf s9).toNat)
  case atStart => exact ⟨0, _, Nat.zero_le _, rfl, HV4.out, gb_refl' _ _⟩
  case round =>
    obtain ⟨k, xs, hk, rfl, hvr, hgr⟩ := hrel
    have HVR := Lib.hid hvr; have HGR := Lib.hid hgr
    clear hvr hgr
    by_cases hlt : k < d.length
    · obtain ⟨g, rfl, hg1, hg2⟩ := HP.out (by omega)
      have hxl : xs.length = d.length * 4 := HVR.out.1
      have hce : wr.cell? ⟨g, k * 4 + 1, none⟩ = some (xs[k * 4 + 1]'(by omega)) := by rw [HVR.out.cellAt (k * 4 + 1) (by omega)]; exact List.getElem?_eq_getElem _
      obtain ⟨y, hy⟩ : ∃ y, (xs[k * 4 + 1]'(by omega)) = y := ⟨_, rfl⟩
      rw [hy] at hce
      have hfr := HVR.out.frozenAt (k * 4 + 1)
      have HVS := Lib.hid (HVR.out.stored (k * 4 + 1) (.string ⟨#[63]⟩))
      have e1 : (0 : Int) ≤ (k : Int) := by omega
      have e2 : (k : Int) < (d.length : Int) := by omega
      clear hy hxl
      go_wp2_with fail
      go_roundw
      case rel => exact ⟨k + 1, _, by omega, by go_num, HVS.out.1, gb_trans' HGR.out HVS.out.2⟩
      case measure => first | (simp [intOf]; done) | (simp [intOf]; omega)
    · have hki : ¬ (k : Int) < (d.length : Int) := by omega
      clear hlt
      go_wp2_with fail
      go_at_call 9
      (with_reducible refine (H1.out _).mono ?_)
      rintro e w5 ⟨x, rfl, hv5, hb5⟩
      obtain ⟨p5, c5, rfl, _⟩ := own_form hv5
      have hpb : ∀ g, (Value.slice p d.length c).ownBlock = some g → w.heap.size ≤ g ∧ g < w1.heap.size := fun g hg => HV.out.lt g hg
      have hlow : ∀ g, g < w4.heap.size → (w1.heap.size ≤ g ∨ g < w.heap.size) → w5.heap[g]? = w4.heap[g]? := fun g hg hor => (hb5.block g (Nat.lt_of_lt_of_le hg HGR.out.size)).trans (HGR.out.block g hg fun e => by have := hpb g e.symm; omega)
      have hu5 : w5.ownsRow W1.heap.size 67 4 (.slice q d.length c') d.length (d.flatMap tokC) := ownsRow_of HU2.out fun g _ hg1 hg2 => (hlow g (by omega) (.inl (by omega))).trans (HB24.out.block g hg2)
      have hbe : Below w.heap.size w w5 := ⟨hb5.os.trans (HGR.out.os.trans (HB24.out.os.trans HBA.out.os)), hb5.tape.trans (HGR.out.tape.trans (HB24.out.tape.trans HBA.out.tape)), hb5.output.trans (HGR.out.output.trans (HB24.out.output.trans HBA.out.output)), by have := hb5.size; have := HGR.out.size; have := HBA.out.size; omega, fun g hg => (hlow g (by have := HBA.out.size; omega) (.inr hg)).trans ((HB24.out.block g (by have := HBA.out.size; omega)).trans (HBA.out.block g hg))⟩
      have HV5 := Lib.hid hv5; have HU5 := Lib.hid hu5; have HBE := Lib.hid hbe
      have HST5 := Lib.hid (sameTok_is d (.slice p5 d.length c5) (.slice q d.length c') w5 _ _ hv5 hu5 HDL.out)
      clear hv5 hb5 hpb hlow hu5 hbe
      go_wp2_with fail
      go_at_call 11
      (with_reducible refine (HST5.out).mono ?_)
      rintro e w6 ⟨rfl, hb6⟩
      go_wp2_with fail
      go_ret
      exact ⟨rfl, Below.step HBE.out hb6⟩
end Go.Proofs.Ytiadflipakjeeaa
