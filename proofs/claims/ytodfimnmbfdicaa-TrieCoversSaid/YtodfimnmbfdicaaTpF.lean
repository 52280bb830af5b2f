/- What trie's whole and node.cover hand back. Under the conditions that they name. -/
import Derived.Test.YtodfimnmbfdicaaTpEs
import Derived.Test.YtodfimnmbfdicaaFlW
import Derived.Test.YtodfimnmbfdicaaOwnRow
namespace Go.Proofs.Ytodfimnmbfdicaa
open Go.RowKit Go.Shelf
def encP (x : Int × Int) : List Value := [.int .u32 x.1, .int .i64 x.2]
theorem encP_len : ∀ s, (encP s).length = 2 := fun _ => rfl
theorem encP_one : ∀ s, ∀ u ∈ encP s, u.oneCell' = true := fun s u hu => by
  simp only [encP, List.mem_cons, List.not_mem_nil, or_false] at hu
  rcases hu with rfl | rfl <;> rfl
theorem infoP : (Try.prog.info? 34).map (fun i => (i.zero, i.size, i.bytes)) = some (some (.agg #[.int .u32 0, .int .i64 0]), 2, 16) := by kernel_rfl
/-- The cells of an element of a list that reads. -/
theorem rd_cells {w : World} {v : Value} {L : List (Int × Int)} (h : RdK encP 2 w v L) {i : Nat} {x : Int × Int} (hx : L[i]? = some x) : ∃ b o c, v = .slice (some ⟨b, o, none⟩) L.length c ∧ b < w.heap.size ∧ ∀ W, Below w.heap.size w W → W.cell? ⟨b, o + i * 2, none⟩ = some (.int .u32 x.1) ∧ W.cell? ⟨b, o + i * 2 + 1, none⟩ = some (.int .i64 x.2) := by
  obtain ⟨p, c, h1, _, _, h4⟩ := h.sl
  obtain ⟨b, o, rfl, hb, hc⟩ := h4 i x hx
  exact ⟨b, o, c, h1, hb, fun W hW => ⟨hc W hW 0 _ rfl, hc W hW 1 _ rfl⟩⟩
set_option maxRecDepth 100000 in
set_option maxHeartbeats 4000000 in
theorem whole_is (a n : Int) (L : List (Int × Int)) (v : Value) (w : World) (hp : PfOk a n) (hr : RdK encP 2 w v L) : Calls Try.prog 58 #[.agg #[.int .u32 a, .int .i64 n], v] w fun e w' => e = .returned (.bool (Tr.whole a n L)) ∧ Below w.heap.size w w' := by
  have hb0 : Below w.heap.size w (w.alloc (.cells #[.int .u32 a, .int .i64 n] 34)) := (Below.refl _ _).alloc (Nat.le_refl _) _
  have HB0 := Lib.hid hb0; have HP := Lib.hid hp; have HR := Lib.hid hr
  have hbits := hp.bits
  clear hb0
  by_cases hn : n < 32
  · have HH : Hid (∀ W, Calls Try.prog 62 #[.agg #[.int .u32 a, .int .i64 n]] W fun e w' => e = .returned (.tuple #[.agg #[.int .u32 a, .int .i64 (n + 1)], .agg #[.int .u32 (a + pw (n + 1)), .int .i64 (n + 1)], .int .i64 0]) ∧ Below W.heap.size W w') := Lib.hid fun W => halves_ok a n W hp.1 hp.2.1 hp.2.2 hn
    obtain ⟨hi, hhi⟩ : ∃ x, a + pw (n + 1) = x := ⟨_, rfl⟩
    obtain ⟨n1, hn1⟩ : ∃ x, n + 1 = x := ⟨_, rfl⟩
    have HW : Hid (∀ L, Tr.whole a n L = decide (L = [(a, n1), (hi, n1)])) := Lib.hid fun L => by rw [← hhi, ← hn1]; simp [Tr.whole, hn]
    rw [hn1, ← hn1, hhi, hn1] at HH
    have HHI := Lib.hid hhi; have HN1 := Lib.hid hn1
    clear hn hhi hn1 hp hr hbits
    by_cases hL : L.length = 2
    · obtain ⟨x, y, rfl⟩ : ∃ x y, L = [x, y] := by
        match L, hL with
        | [x, y], _ => exact ⟨x, y, rfl⟩
      obtain ⟨b, o, c, rfl, hbl, hcx⟩ := rd_cells HR.out (i := 0) (x := x) rfl
      obtain ⟨b', o', c', he, hbl', hcy⟩ := rd_cells HR.out (i := 1) (x := y) rfl
      simp only [Value.slice.injEq, Option.some.injEq, Addr.mk.injEq, and_true, true_and] at he
      obtain ⟨⟨rfl, rfl⟩, rfl⟩ := he
      have HCX := Lib.hid hcx; have HCY := Lib.hid hcy
      obtain ⟨x0, x1⟩ := x
      obtain ⟨y0, y1⟩ := y
      simp only [List.length_cons, List.length_nil, Nat.zero_add, Nat.reduceAdd]
      clear hcx hcy hbl' hL
      go_enter Try.func58, Try.ntmps58
      go_wp2_with fail
      go_at_call 62
      (with_reducible refine (HH.out _).mono ?_)
      rintro e w1 ⟨rfl, hb1⟩
      have HB1 := Lib.hid (Below.step HB0.out hb1)
      clear hb1
      have hBo : ∀ o1 o2, Below w.heap.size w ((w1.alloc o1).alloc o2) := fun o1 o2 => (HB1.out.alloc HB1.out.size _).alloc (by have := HB1.out.size; simp; omega) _
      have c0 : ∀ o1 o2, ((w1.alloc o1).alloc o2).cell? ⟨b, o, none⟩ = some (.int .u32 x0) := fun o1 o2 => by simpa using (HCX.out _ (hBo o1 o2)).1
      have c1 : ∀ o1 o2, ((w1.alloc o1).alloc o2).cell? ⟨b, o + 1, none⟩ = some (.int .i64 x1) := fun o1 o2 => by simpa using (HCX.out _ (hBo o1 o2)).2
      have c2 : ∀ o1 o2, ((w1.alloc o1).alloc o2).cell? ⟨b, o + 2, none⟩ = some (.int .u32 y0) := fun o1 o2 => by simpa using (HCY.out _ (hBo o1 o2)).1
      have c3 : ∀ o1 o2, ((w1.alloc o1).alloc o2).cell? ⟨b, o + 2 + 1, none⟩ = some (.int .i64 y1) := fun o1 o2 => by simpa using (HCY.out _ (hBo o1 o2)).2
      have HBO := Lib.hid hBo
      have hge := guardP .eql
      have he1 := fun W => eqlP x0 x1 a n1 W
      have he2 := fun W => eqlP y0 y1 hi n1 W
      clear hBo
      by_cases hx : x0 = a ∧ x1 = n1
      · have d1 : decide (x0 = a ∧ x1 = n1) = true := by simpa using hx
        rw [d1] at he1
        by_cases hy : y0 = hi ∧ y1 = n1
        · have d2 : decide (y0 = hi ∧ y1 = n1) = true := by simpa using hy
          rw [d2] at he2
          have HF := Lib.hid (show Tr.whole a n [(x0, x1), (y0, y1)] = true by rw [HW.out]; simp [hx, hy])
          clear d1 d2 hx hy
          go_wp2_with fail
          go_quiet (fail)
          go_wp2_with fail
          go_ret
          rw [HF.out]
          exact ⟨rfl, Below.draws (HBO.out _ _) _⟩
        · have d2 : decide (y0 = hi ∧ y1 = n1) = false := by simpa using hy
          rw [d2] at he2
          have HF := Lib.hid (show Tr.whole a n [(x0, x1), (y0, y1)] = false by rw [HW.out]; simpa using fun _ _ h => by simpa using fun e => hy ⟨h, e⟩)
          clear d1 d2 hx hy
          go_wp2_with fail
          go_quiet (fail)
          go_wp2_with fail
          go_ret
          rw [HF.out]
          exact ⟨rfl, Below.draws (HBO.out _ _) _⟩
      · have d1 : decide (x0 = a ∧ x1 = n1) = false := by simpa using hx
        rw [d1] at he1
        have HF := Lib.hid (show Tr.whole a n [(x0, x1), (y0, y1)] = false by rw [HW.out]; simpa using fun h e _ _ => hx ⟨h, e⟩)
        clear d1 hx he2
        go_wp2_with fail
        go_quiet (fail)
        go_wp2_with fail
        go_ret
        rw [HF.out]
        exact ⟨rfl, Below.draws (HBO.out _ _) _⟩
    · have HF := Lib.hid (show Tr.whole a n L = false by rw [HW.out]; simpa using fun e => hL (by rw [e]; rfl))
      obtain ⟨p, c, rfl, hlc, hcm, _⟩ := HR.out.sl
      have dl : ((L.length : Int) == 2) = false := by simp; omega
      clear hlc hcm hL
      go_enter Try.func58, Try.ntmps58
      go_wp2_with fail
      go_at_call 62
      (with_reducible refine (HH.out _).mono ?_)
      rintro e w1 ⟨rfl, hb1⟩
      have HB1 := Lib.hid (Below.step HB0.out hb1)
      clear hb1
      have HBO := Lib.hid fun o1 o2 => ((HB1.out.alloc HB1.out.size o1).alloc (by have := HB1.out.size; simp; omega) o2 : Below w.heap.size w ((w1.alloc o1).alloc o2))
      go_wp2_with fail
      go_quiet (fail)
      go_wp2_with fail
      go_ret
      rw [HF.out]
      exact ⟨rfl, Below.draws (HBO.out _ _) _⟩
  · have hn : n = 32 := by omega
    subst hn
    have HF := Lib.hid (show Tr.whole a 32 L = false by simp [Tr.whole])
    have HH := Lib.hid fun W => halves_32 a W hp.1 hp.2.1
    clear hp hr hbits
    go_enter Try.func58, Try.ntmps58
    go_wp2_with fail
    go_at_call 62
    (with_reducible refine (HH.out _).mono ?_)
    rintro e w1 ⟨rfl, hb1⟩
    have HB1 := Lib.hid (Below.step HB0.out hb1)
    clear hb1
    have HBO := Lib.hid fun o1 o2 => ((HB1.out.alloc HB1.out.size o1).alloc (by have := HB1.out.size; simp; omega) o2 : Below w.heap.size w ((w1.alloc o1).alloc o2))
    go_wp2_with fail
    go_quiet (fail)
    go_wp2_with fail
    go_ret
    rw [HF.out]
    exact ⟨rfl, Below.draws (HBO.out _ _) _⟩
end Go.Proofs.Ytodfimnmbfdicaa
