/- What Lines of package lex hands back. Under the conditions that it names. -/
import Derived.Test.YthkiojedkafdhaaLnD
import Derived.Test.YthkiojedkafdhaaLnL
import Derived.Deep.AppendLies
namespace Go.Proofs.Ythkiojedkafdhaa
open Go.RowKit
theorem infoLn : (Try.prog.info? 36).map (fun i => (i.zero, i.size, i.bytes)) = some (some (.agg #[.int .i64 0, .slice none 0 0]), 2, 32) := by kernel_rfl
set_option maxRecDepth 100000 in
set_option maxHeartbeats 16000000 in
theorem lines_is (s : ByteArray) (w : World) (hs : s.size ≤ 9223372036854775807) : Calls Try.prog 7 #[.string s] w (LinPost 36 38 s.data.toList w) := by
  have hl : s.data.toList.length = s.size := by simp
  have HCK := Lib.hid (fun W => check_is s W hs)
  obtain ⟨Z, hZ⟩ : ∃ Z, w.alloc (.cells #[.int .i64 0, .int .i64 0] 27) = Z := ⟨_, rfl⟩
  have hb0 : Below w.heap.size w Z := by rw [← hZ]; exact (Below.refl _ _).alloc (Nat.le_refl _) _
  have hPZ : Z.heap[w.heap.size]? = some (.cells #[.int .i64 0, .int .i64 0] 27 (0, 0)) := by rw [← hZ]; exact heap_alloc_new w _
  have hz0 : w.heap.size < Z.heap.size := (Array.getElem?_eq_some_iff.1 hPZ).1
  have HB0 := Lib.hid hb0; have HPZ := Lib.hid hPZ
  clear hb0 hPZ
  rcases chk_form s.data.toList with ⟨u, v, E, hE, hck⟩ | ⟨hck, h65⟩
  · rw [hck] at HCK
    have HE := Lib.hid hE; have HC := Lib.hid hck
    have hEb : (E != 0) = true := by simpa using hE
    clear hE hck
    go_enter Try.func7, Try.ntmps7
    go_wp2_with fail
    go_at_call 9
    (with_reducible refine (HCK.out _).mono ?_)
    rintro e w1 ⟨rfl, hb1⟩
    try clear hZ
    have hP1 : (w1.alloc (.cells #[.int .i64 u, .int .i64 v] 27)).heap[w.heap.size]? = some (.cells #[.int .i64 0, .int .i64 0] 27 (0, 0)) := (heap_alloc_old _ _ (Nat.lt_of_lt_of_le hz0 hb1.size)).trans ((hb1.block _ hz0).trans HPZ.out)
    have hQ1 := heap_alloc_new w1 (.cells #[.int .i64 u, .int .i64 v] 27)
    have hbA : Below w.heap.size w (w1.alloc (.cells #[.int .i64 u, .int .i64 v] 27)) := (Below.step HB0.out hb1).alloc (by have := hb1.size; omega) _
    obtain ⟨W1, hW1⟩ : ∃ W1, w1.alloc (.cells #[.int .i64 u, .int .i64 v] 27) = W1 := ⟨_, rfl⟩
    rw [hW1] at hP1 hQ1 hbA
    obtain ⟨r0, rf0⟩ := row_cell' (j := 0) hP1 rfl
    obtain ⟨r1, rf1⟩ := row_cell' (j := 1) hP1 rfl
    obtain ⟨q0, _⟩ := row_cell' (j := 0) hQ1 rfl
    obtain ⟨q1, _⟩ := row_cell' (j := 1) hQ1 rfl
    have HP1 := Lib.hid hP1; have HBA := Lib.hid hbA
    clear hP1 hQ1 hbA
    go_wp2_with fail
    try rw [hW1]
    clear hW1
    go_region
    go_wp2_with fail
    have hfin : ((W1.setCell ⟨w.heap.size, 0, none⟩ (.int .i64 u)).setCell ⟨w.heap.size, 1, none⟩ (.int .i64 v)).drew.heap[w.heap.size]? = some (.cells #[.int .i64 u, .int .i64 v] 27 (0, 0)) := set2 (m0 := u) (m1 := v) HP1.out
    have hbf : Below w.heap.size w ((W1.setCell ⟨w.heap.size, 0, none⟩ (.int .i64 u)).setCell ⟨w.heap.size, 1, none⟩ (.int .i64 v)).drew := by
      refine Below.drew ?_
      repeat refine Below.setCell ?_ (by simp) _
      exact HBA.out
    obtain ⟨W9, hW9⟩ : ∃ W9, ((W1.setCell ⟨w.heap.size, 0, none⟩ (.int .i64 u)).setCell ⟨w.heap.size, 1, none⟩ (.int .i64 v)).drew = W9 := ⟨_, rfl⟩
    rw [hW9] at hfin hbf ⊢
    clear hW9
    obtain ⟨e0, _⟩ := row_cell' (j := 0) hfin rfl
    obtain ⟨e1, _⟩ := row_cell' (j := 1) hfin rfl
    exact bodyPost_ret (v := .tuple #[.slice none 0 0, .agg #[.int .i64 u, .int .i64 v], .int .i64 E]) (by simp [results, Try.results7, go_sem, e0, e1]) rfl ⟨hbf, .inl ⟨u, v, E, HE.out, HC.out, rfl⟩⟩
  · rw [hck] at HCK
    have HC := Lib.hid hck
    clear hck
    go_enter Try.func7, Try.ntmps7
    go_wp2_with fail
    go_at_call 9
    (with_reducible refine (HCK.out _).mono ?_)
    rintro e w1 ⟨rfl, hb1⟩
    try clear hZ
    have hP1 : (w1.alloc (.cells #[.int .i64 0, .int .i64 0] 27)).heap[w.heap.size]? = some (.cells #[.int .i64 0, .int .i64 0] 27 (0, 0)) := (heap_alloc_old _ _ (Nat.lt_of_lt_of_le hz0 hb1.size)).trans ((hb1.block _ hz0).trans HPZ.out)
    have hbA : Below w.heap.size w (w1.alloc (.cells #[.int .i64 0, .int .i64 0] 27)) := (Below.step HB0.out hb1).alloc (by have := hb1.size; omega) _
    go_wp2_with fail
    obtain ⟨W1, hW1⟩ : ∃ W1, w1.alloc (.cells #[.int .i64 0, .int .i64 0] 27) = W1 := ⟨_, rfl⟩
    rw [hW1] at hP1 hbA ⊢
    clear hW1
    go_at_call 10
    refine (start_is s _).mono ?_
    rintro e W2 ⟨g, rfl, hg, hrd, hb2⟩
    have hP2 := (hb2.block _ (Array.getElem?_eq_some_iff.1 hP1).1).trans hP1
    have hbB := Below.step hbA hb2
    have HP2 := Lib.hid hP2; have HBB := Lib.hid hbB
    have hw1g : w.heap.size < g := by have := (Array.getElem?_eq_some_iff.1 hP1).1; omega
    have hg2 := hrd.lt
    obtain ⟨T0, hT0⟩ : ∃ T0, lnk s.data.toList 1 = T0 := ⟨_, rfl⟩
    have HT0 := Lib.hid hT0
    clear hP1 hbA hP2 hbB hb1 hb2 hT0
    go_wp2_with fail
    go_loopw [7] (fun s7 wr => ∃ (L : List (Ln × Value)) (r : List UInt8) (ln c : Int), Hid (T0 = L.map Prod.fst ++ lnk r ln) ∧ Rd wr g r ln c ∧ Hid (r ≠ [] → c = 1) ∧ r.length ≤ s.size ∧ 0 ≤ ln ∧ ln ≤ 1 + (s.size - r.length : Nat) ∧ L.length + r.length ≤ s.size ∧ LinesAt wr W2.heap.size 36 38 s7 L ∧ W2.grownBy wr (some g)) (fun _ wr => leftN wr g)
    case atStart => exact ⟨[], s.data.toList, 1, 1, Lib.hid (by rw [← HT0.out]; rfl), hrd, Lib.hid (fun _ => rfl), by omega, by omega, by omega, by first | (simp; done) | (simp; omega), LinesAt.nil _ _ _ _, gb_refl _ _⟩
    case round =>
      obtain ⟨L, r, ln, c, HT, hr, HC1, hrs, hln, hln2, hdl, hLA, hgr⟩ := hrel
      have HD := Lib.hid (done_is g r ln c wr hr)
      have hw2 : w.heap.size < W2.heap.size := (Array.getElem?_eq_some_iff.1 HP2.out).1
      have hPr := (hgr.block w.heap.size hw2 (fun e => by cases e; omega)).trans HP2.out
      obtain ⟨r0, rf0⟩ := row_cell' (j := 0) hPr rfl
      obtain ⟨r1, rf1⟩ := row_cell' (j := 1) hPr rfl
      have HPr := Lib.hid hPr
      have hbw : Below w.heap.size w wr := ⟨hgr.os.trans HBB.out.os, hgr.tape.trans HBB.out.tape, hgr.output.trans HBB.out.output, Nat.le_trans HBB.out.size hgr.size, fun k hk => (hgr.block k (by omega) (fun e => by cases e; omega)).trans (HBB.out.block k hk)⟩
      have hsw := hgr.size
      have HBW := Lib.hid hbw; have HLA := Lib.hid hLA; have HGR := Lib.hid hgr
      clear hPr hbw
      cases r with
      | nil =>
        clear hLA hgr
        go_wp2_with (go_at_call 11; (refine HD.out.mono ?_); rintro e w3 ⟨rfl, rfl⟩)
        have hTd : T0 = L.map Prod.fst := by rw [HT.out]; simp [lnk_nil]
        have hown9 : LinesAt ((wr.setCell ⟨w.heap.size, 0, none⟩ (.int .i64 0)).setCell ⟨w.heap.size, 1, none⟩ (.int .i64 0)) w.heap.size 36 38 u7 L := by
          refine (HLA.out.on fun x hx1 hx2 => ?_).base (Nat.le_of_lt hw2)
          rw [Below.heap_setCell _ _ _ _ (by simp; omega), Below.heap_setCell _ _ _ _ (by simp; omega)]
        have hfin : ((wr.setCell ⟨w.heap.size, 0, none⟩ (.int .i64 0)).setCell ⟨w.heap.size, 1, none⟩ (.int .i64 0)).heap[w.heap.size]? = some (.cells #[.int .i64 0, .int .i64 0] 27 (0, 0)) := set2 (m0 := 0) (m1 := 0) HPr.out
        have hbf : Below w.heap.size w ((wr.setCell ⟨w.heap.size, 0, none⟩ (.int .i64 0)).setCell ⟨w.heap.size, 1, none⟩ (.int .i64 0)) := by
          skip
          repeat refine Below.setCell ?_ (by simp) _
          exact HBW.out
        obtain ⟨W9, hW9⟩ : ∃ W9, ((wr.setCell ⟨w.heap.size, 0, none⟩ (.int .i64 0)).setCell ⟨w.heap.size, 1, none⟩ (.int .i64 0)) = W9 := ⟨_, rfl⟩
        rw [hW9] at hfin hbf hown9 ⊢
        clear hW9
        obtain ⟨e0, _⟩ := row_cell' (j := 0) hfin rfl
        obtain ⟨e1, _⟩ := row_cell' (j := 1) hfin rfl
        exact bodyPost_ret (v := .tuple #[u7, .agg #[.int .i64 0, .int .i64 0], .int .i64 0]) (by simp [results, Try.results7, go_sem, e0, e1]) rfl ⟨hbf, .inr ⟨u7, L, HC.out, rfl, by rw [HT0.out, hTd], hown9⟩⟩
      | cons b r =>
        have hc1 := HC1.out (by simp)
        subst hc1
        have HLN := Lib.hid (line_is g (b :: r) ln wr hr (by omega) hln (by omega))
        have hst := lnk_step (b :: r) ln
        obtain ⟨-, hrest, -⟩ := lineR_is (b :: r)
        rw [← hrest] at hst
        have hrl := rest_len (b :: r)
        rw [← hrest] at hrl
        have HR := Lib.hid hr
        obtain ⟨n, hn⟩ : ∃ n, nS (b :: r) = n := ⟨_, rfl⟩
        obtain ⟨ws, hws⟩ : ∃ ws, (lineR (b :: r)).1 = ws := ⟨_, rfl⟩
        obtain ⟨r2, hr2⟩ : ∃ r2, (lineR (b :: r)).2.1 = r2 := ⟨_, rfl⟩
        have hwl : ws.length ≤ 65536 := by
          rw [← hws, (lineR_is (b :: r)).1]
          have h1 := wds_len ((b :: r).take (nE (b :: r)))
          have h2 : ((b :: r).take (nE (b :: r))).length ≤ (b :: r).length := by rw [List.length_take]; omega
          split
          · simp
          · omega
        unfold LinePost at HLN
        rw [hn, hws, hr2] at HLN
        rw [hn, hws, hr2] at hst
        rw [hr2] at hrl
        clear hrest hn hws hr2 hr hLA hgr HC1
        have hT2 := HT.out
        rw [hst] at hT2
        have HT2 := Lib.hid hT2
        clear hst hT2 HT
        simp only [List.length_cons] at hrs hdl hrl
        have hln3 : ln ≤ 1 + (s.size - (r.length + 1) : Nat) := by simpa using hln2
        clear hln2
        go_wp2_with (go_at_call 11; (refine HD.out.mono ?_); rintro e w3 ⟨rfl, rfl⟩)
        go_at_call 12
        refine HLN.out.mono ?_
        rintro e w4 ⟨wv, ln', c', rfl, hwv, hr4, hnx, a1, a2, a3, a4, hg4⟩
        obtain ⟨p, q, rfl⟩ := own_sl hwv
        have hs4 := hg4.size
        obtain ⟨W5, hW5⟩ : ∃ W5, w4.alloc (.cells #[.int .i64 n, .slice p ws.length q] 36) = W5 := ⟨_, rfl⟩
        have hq5 : W5.heap[w4.heap.size]? = some (.cells #[.int .i64 n, .slice p ws.length q] 36 (0, 0)) := by rw [← hW5]; exact heap_alloc_new w4 _
        have hk5 : ∀ x, x < w4.heap.size → W5.heap[x]? = w4.heap[x]? := fun x hx => by rw [← hW5]; exact heap_alloc_old w4 _ hx
        have hg5 : w4.grownBy W5 (some g) := by rw [← hW5]; exact gb_alloc _ _ _
        have hs5 : w4.heap.size ≤ W5.heap.size := by rw [← hW5]; simp
        have hs51 : W5.heap.size ≤ w4.heap.size + 1 := by rw [← hW5]; simp
        have hr5 : Rd W5 g (r2.drop 1) ln' c' := (hk5 g hr4.lt).trans hr4
        have hG5 : W2.grownBy W5 (some g) := gb_trans (gb_trans HGR.out hg4) hg5
        obtain ⟨q0, _⟩ := row_cell' (j := 0) hq5 rfl
        obtain ⟨q1, _⟩ := row_cell' (j := 1) hq5 rfl
        have hnx2 : Hid (r2.drop 1 ≠ [] → c' = 1) := Lib.hid (fun h => (hnx (fun e => h (by rw [e]; rfl))).2)
        have hnl2 : r2.drop 1 ≠ [] → ln' = ln + 1 := fun h => (hnx (fun e => h (by rw [e]; rfl))).1
        have hHT3 : Hid (T0 = L.map Prod.fst ++ ((if ws = [] then [] else [(ln, n, ws)]) ++ lnk (r2.drop 1) ln')) := Lib.hid (by
          rw [HT2.out]
          by_cases hne : r2.drop 1 = []
          · rw [hne, lnk_nil, lnk_nil]
          · rw [hnl2 hne])
        have HWV := Lib.hid hwv; have HK5 := Lib.hid hk5; have HR5 := Lib.hid hr5; have HG4 := Lib.hid hg4; have HG5 := Lib.hid hG5
        clear hq5 hk5 hg5 hr5 hG5 hwv hr4 hnx hnl2 hg4 r0 rf0 r1 rf1 HT2
        by_cases hwe : ws = []
        · have hd : ¬ 0 < ws.length := by rw [hwe]; simp
          have hd2 : decide ((0 : Int) < (ws.length : Int)) = false := by rw [hwe]; simp
          have hd3 : decide (0 < ws.length) = false := by rw [hwe]; simp
          have HT4 : Hid (T0 = L.map Prod.fst ++ lnk (r2.drop 1) ln') := Lib.hid (by rw [hHT3.out, if_pos hwe]; simp)
          have hA : LinesAt W5 W2.heap.size 36 38 u7 L := HLA.out.on fun x hx hxl => (HK5.out x (by omega)).trans (HG4.out.block x hxl (fun e => by cases e; omega))
          have HA := Lib.hid hA
          clear hwe hHT3 hA
          go_wp2_with fail
          go_roundw
          case rel => exact ⟨L, r2.drop 1, ln', c', HT4, HR5.out, hnx2, by omega, a1, by omega, by omega, HA.out, HG5.out⟩
          case measure => rw [HR5.out.left, HR.out.left]; simp only [List.length_cons]; omega
        · have hw0 : 0 < ws.length := List.length_pos_iff.2 hwe
          have hd2 : decide ((0 : Int) < (ws.length : Int)) = true := by simp; omega
          have HT4 : Hid (T0 = L.map Prod.fst ++ ([(ln, n, ws)] ++ lnk (r2.drop 1) ln')) := Lib.hid (by rw [hHT3.out, if_neg hwe])
          obtain ⟨i0, hi0, hy0, hy1, hy2⟩ := info_parts infoLn
          have hown5 : W5.ownsRow W2.heap.size 36 2 u7 L.length (L.flatMap lnC) := ownsRow_of HLA.out.1 fun x _ hx hxl => (HK5.out x (by omega)).trans (HG4.out.block x hxl (fun e => by cases e; omega))
          have HOWN5 := Lib.hid hown5
          clear hwe hHT3 hown5
          go_wp2_with (at_builtin; refine wpList_append_lies _ rfl (.tmp 30) (.tmp 32) 25 rfl W2.heap.size 36 i0 (.agg #[.int .i64 0, .slice none 0 0]) 2 32 Try.underlying25 hi0 hy0 hy1 hy2 rfl (by decide) _ _ _ rfl (World.ownsRow.alloc HOWN5.out _) ⟨W5.heap.size, 0, none⟩ 1 1 [.int .i64 n, .slice p ws.length q] rfl rfl (World.news_of_block (heap_alloc_new W5 _)) (fun x hx => by simp at hx; rcases hx with rfl | rfl <;> rfl) (by omega) (by unfold maxLen; omega) (by omega) (by simp; omega) _ rfl ?_; intro g9 cap9 w9 hown9 hgr9 hor9 hlt9)
          have hk9 : ∀ x, x < W2.heap.size → w9.heap[x]? = W5.heap[x]? := fun x hx => (hgr9.block x (by simp; omega) (fun e => by have := (HOWN5.out.lt x e.symm).1; omega)).trans (heap_alloc_old W5 _ (by omega))
          have hG9 : W2.grownBy w9 (some g) := ⟨hgr9.os.trans HG5.out.os, hgr9.tape.trans HG5.out.tape, hgr9.output.trans HG5.out.output, by have := hgr9.size; simp at this; omega, fun x hx hne => (hk9 x hx).trans (HG5.out.block x hx hne)⟩
          have hr9 : Rd w9 g (r2.drop 1) ln' c' := (hk9 g hg2).trans HR5.out
          have hA : LinesAt w9 W2.heap.size 36 38 (.slice (some ⟨g9, 0, none⟩) (L.length + 1) cap9) (L ++ [((ln, n, ws), .slice p ws.length q)]) :=
            HLA.out.push (w4 := w4) (fun x hx hxl => HG4.out.block x hxl (fun e => by cases e; omega)) hs4 (by omega) HWV.out (fun x hx => (heap_alloc_old W5 _ (by omega)).trans (HK5.out x hx)) (by simp; omega) hgr9 hown9 hor9
          have HT5 : Hid (T0 = (L ++ [((ln, n, ws), Value.slice p ws.length q)]).map Prod.fst ++ lnk (r2.drop 1) ln') := Lib.hid (by rw [HT4.out]; simp)
          clear hk9 HT4
          go_wp2_with fail
          go_roundw
          case rel => exact ⟨L ++ [((ln, n, ws), .slice p ws.length q)], r2.drop 1, ln', c', HT5, hr9, hnx2, by omega, a1, by omega, by simp only [List.length_append, List.length_singleton]; omega, hA, hG9⟩
          case measure => rw [hr9.left, HR.out.left]; simp only [List.length_cons]; omega
end Go.Proofs.Ythkiojedkafdhaa
