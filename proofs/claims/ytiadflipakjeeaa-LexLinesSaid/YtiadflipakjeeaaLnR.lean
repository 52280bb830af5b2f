/- What Lines of package waymarkref07 hands back. Under the conditions that it names. -/
import Derived.Test.YtiadflipakjeeaaLnD
import Derived.Test.YtiadflipakjeeaaLnW
import Derived.Test.YtiadflipakjeeaaLxG
import Derived.Deep.AppendLies
namespace Go.Proofs.Ytiadflipakjeeaa
open Go.RowKit
theorem infoRLn : (Try.prog.info? 56).map (fun i => (i.zero, i.size, i.bytes)) = some (some (.agg #[.int .i64 0, .slice none 0 0]), 2, 32) := by kernel_rfl
theorem nE_at {l : List UInt8} {i : Nat} (h : i < l.length) (hb : l[i] = 10) : nE (l.drop i) = 0 := by
  rw [List.drop_eq_getElem_cons h, nE_cons, if_pos hb]
theorem nE_step {l : List UInt8} {i : Nat} (h : i < l.length) (hb : l[i] ≠ 10) : nE (l.drop i) = nE (l.drop (i + 1)) + 1 := by
  rw [List.drop_eq_getElem_cons h, nE_cons, if_neg hb]
theorem nE_none {l : List UInt8} {i : Nat} (h : l.length ≤ i) : nE (l.drop i) = 0 := by
  rw [List.drop_of_length_le h]; rfl
set_option maxRecDepth 100000 in
set_option maxHeartbeats 16000000 in
theorem rlines_is (l : List UInt8) (w : World) (hs : l.length ≤ 9223372036854775807) : Calls Try.prog 6 #[.string ⟨l.toArray⟩] w (LinPost 56 58 l w) := by
  have hsz := mk_size l
  have HCK := Lib.hid (fun W => rcheck_is l W hs)
  obtain ⟨Z, hZ⟩ : ∃ Z, w.alloc (.cells #[.int .i64 0, .int .i64 0] 24) = Z := ⟨_, rfl⟩
  have hb0 : Below w.heap.size w Z := by rw [← hZ]; exact (Below.refl _ _).alloc (Nat.le_refl _) _
  have hPZ : Z.heap[w.heap.size]? = some (.cells #[.int .i64 0, .int .i64 0] 24 (0, 0)) := by rw [← hZ]; exact heap_alloc_new w _
  have hz0 : w.heap.size < Z.heap.size := (Array.getElem?_eq_some_iff.1 hPZ).1
  have HB0 := Lib.hid hb0; have HPZ := Lib.hid hPZ
  clear hb0 hPZ
  rcases chk_form l with ⟨u, v, E, hE, hck⟩ | ⟨hck, h65⟩
  · rw [hck] at HCK
    have HE := Lib.hid hE; have HC := Lib.hid hck
    have hEb : (E != 0) = true := by simpa using hE
    clear hE hck
    go_enter Try.func6, Try.ntmps6
    go_wp2_with fail
    go_at_call 16
    (with_reducible refine (HCK.out _).mono ?_)
    rintro e w1 ⟨rfl, hb1⟩
    try clear hZ
    have hP1 : (w1.alloc (.cells #[.int .i64 u, .int .i64 v] 24)).heap[w.heap.size]? = some (.cells #[.int .i64 0, .int .i64 0] 24 (0, 0)) := (heap_alloc_old _ _ (Nat.lt_of_lt_of_le hz0 hb1.size)).trans ((hb1.block _ hz0).trans HPZ.out)
    have hQ1 := heap_alloc_new w1 (.cells #[.int .i64 u, .int .i64 v] 24)
    have hbA : Below w.heap.size w (w1.alloc (.cells #[.int .i64 u, .int .i64 v] 24)) := (Below.step HB0.out hb1).alloc (by have := hb1.size; omega) _
    obtain ⟨W1, hW1⟩ : ∃ W1, w1.alloc (.cells #[.int .i64 u, .int .i64 v] 24) = W1 := ⟨_, rfl⟩
    rw [hW1] at hP1 hQ1 hbA
    obtain ⟨r0, rf0⟩ := row_cell' (j := 0) hP1 rfl
    obtain ⟨r1, rf1⟩ := row_cell' (j := 1) hP1 rfl
    obtain ⟨q0, _⟩ := row_cell' (j := 0) hQ1 rfl
    obtain ⟨q1, _⟩ := row_cell' (j := 1) hQ1 rfl
    have HP1 := Lib.hid hP1; have HBA := Lib.hid hbA
    clear hP1 hQ1 hbA
    go_wp2_with fail
    try rw [hW1]
    clear hW1
    go_region
    go_wp2_with fail
    have hfin : ((W1.setCell ⟨w.heap.size, 0, none⟩ (.int .i64 u)).setCell ⟨w.heap.size, 1, none⟩ (.int .i64 v)).drew.heap[w.heap.size]? = some (.cells #[.int .i64 u, .int .i64 v] 24 (0, 0)) := set2 (m0 := u) (m1 := v) HP1.out
    have hbf : Below w.heap.size w ((W1.setCell ⟨w.heap.size, 0, none⟩ (.int .i64 u)).setCell ⟨w.heap.size, 1, none⟩ (.int .i64 v)).drew := by
      refine Below.drew ?_
      repeat refine Below.setCell ?_ (by simp) _
      exact HBA.out
    obtain ⟨W9, hW9⟩ : ∃ W9, ((W1.setCell ⟨w.heap.size, 0, none⟩ (.int .i64 u)).setCell ⟨w.heap.size, 1, none⟩ (.int .i64 v)).drew = W9 := ⟨_, rfl⟩
    rw [hW9] at hfin hbf ⊢
    clear hW9
    obtain ⟨e0, _⟩ := row_cell' (j := 0) hfin rfl
    obtain ⟨e1, _⟩ := row_cell' (j := 1) hfin rfl
    exact bodyPost_ret (v := .tuple #[.slice none 0 0, .agg #[.int .i64 u, .int .i64 v], .int .i64 E]) (by simp [results, Try.results6, go_sem, e0, e1]) rfl ⟨hbf, .inl ⟨u, v, E, HE.out, HC.out, rfl⟩⟩
  · rw [hck] at HCK
    have HC := Lib.hid hck
    clear hck
    go_enter Try.func6, Try.ntmps6
    go_wp2_with fail
    go_at_call 16
    (with_reducible refine (HCK.out _).mono ?_)
    rintro e w1 ⟨rfl, hb1⟩
    try clear hZ
    have hP1 : (w1.alloc (.cells #[.int .i64 0, .int .i64 0] 24)).heap[w.heap.size]? = some (.cells #[.int .i64 0, .int .i64 0] 24 (0, 0)) := (heap_alloc_old _ _ (Nat.lt_of_lt_of_le hz0 hb1.size)).trans ((hb1.block _ hz0).trans HPZ.out)
    have hbA : Below w.heap.size w (w1.alloc (.cells #[.int .i64 0, .int .i64 0] 24)) := (Below.step HB0.out hb1).alloc (by have := hb1.size; omega) _
    go_wp2_with fail
    obtain ⟨W1, hW1⟩ : ∃ W1, w1.alloc (.cells #[.int .i64 0, .int .i64 0] 24) = W1 := ⟨_, rfl⟩
    rw [hW1] at hP1 hbA ⊢
    clear hW1
    have HP1 := Lib.hid hP1; have HBA := Lib.hid hbA
    have hw1 : w.heap.size < W1.heap.size := (Array.getElem?_eq_some_iff.1 hP1).1
    obtain ⟨T0, hT0⟩ : ∃ T0, lnk l 1 = T0 := ⟨_, rfl⟩
    have HT0 := Lib.hid hT0
    clear hP1 hbA hb1 hT0
    go_loopw [7, 8, 9, 10] (fun s7 s8 s9 s10 wr => ∃ (L : List (Ln × Value)) (f i : Nat) (n : Int), f ≤ i ∧ i ≤ l.length + 1 ∧ s8 = .int .i64 f ∧ s9 = .int .i64 n ∧ s10 = .int .i64 i ∧ Hid (T0 = L.map Prod.fst ++ lnk (l.drop f) n) ∧ Hid (i ≤ l.length → i + nE (l.drop i) = f + nE (l.drop f)) ∧ Hid (i ≤ l.length ∨ f = i) ∧ 0 ≤ n ∧ n ≤ 1 + (i : Int) ∧ L.length ≤ i ∧ LinesAt wr W1.heap.size 56 58 s7 L ∧ Below W1.heap.size W1 wr) (fun _ _ _ s10 _ => l.length + 1 - (intOf s10).toNat)
    case atStart => exact ⟨[], 0, 0, 1, by omega, by omega, rfl, rfl, rfl, Lib.hid (by rw [← HT0.out]; rfl), Lib.hid (fun _ => rfl), Lib.hid (.inr rfl), by omega, by omega, by simp, LinesAt.nil _ _ _ _, Below.refl _ _⟩
    case round =>
      obtain ⟨L, f, i, n, hfi, hi, rfl, rfl, rfl, HT, HJ, HOR, hn0, hn1, hdl, hLA, hgr⟩ := hrel
      have hPr := (hgr.block w.heap.size hw1).trans HP1.out
      obtain ⟨r0, rf0⟩ := row_cell' (j := 0) hPr rfl
      obtain ⟨r1, rf1⟩ := row_cell' (j := 1) hPr rfl
      have hbw : Below w.heap.size w wr := Below.step HBA.out (hgr.mono (Nat.le_refl _))
      have HPr := Lib.hid hPr; have HBW := Lib.hid hbw; have HLA := Lib.hid hLA; have HGR := Lib.hid hgr
      have hsw := hgr.size
      clear hPr hbw hLA hgr
      by_cases hlt : i ≤ l.length
      · have hile : (i : Int) ≤ (l.length : Int) := by omega
        rcases Nat.lt_or_eq_of_le hlt with hil | hil
        · have hi1 : i < (⟨l.toArray⟩ : ByteArray).size := by rw [mk_size]; exact hil
          have hii : (i : Int) < (l.length : Int) := by omega
          have f10 := byte_eq l i hi1 hil 10 10 rfl
          by_cases h10 : l[i] = 10
          · have hnb := nE_at hil h10
            have n10 : ((((⟨l.toArray⟩ : ByteArray)[i]'hi1).toNat : Int) != 10) = false := by rw [beq_iff_eq.2 h10] at f10; simp only [bne, f10]; rfl
            clear f10 h10
            have hiE : i = f + nE (l.drop f) := by have := HJ.out hlt; rw [hnb] at this; omega
            have hstp := lnk_step (l.drop f) n
            obtain ⟨hlr, -, hns⟩ := lineR_is (l.drop f)
            have hdd : ((l.drop f).drop (nE (l.drop f))).drop 1 = l.drop (i + 1) := by rw [List.drop_drop, List.drop_drop, hiE, Nat.add_assoc]
            rw [hdd] at hstp
            have htn := take_nE (l.drop f)
            have hfl := nE_le (l.drop f)
            have hdl : (l.drop f).length = l.length - f := List.length_drop
            have hxt := ext_mid l f i
            have hif : i - f = nE (l.drop f) := by omega
            rw [hif] at hxt
            obtain ⟨t, ht⟩ : ∃ t, (l.drop f).take (nE (l.drop f)) = t := ⟨_, rfl⟩
            have htl : t.length ≤ 65536 := by rw [← ht, List.length_take]; omega
            rw [ht] at hlr hns htn hxt
            rw [hlr, hns] at hstp
            have HWD := Lib.hid (fun W => words_is t n W htn htl)
            have hways := wds_ways t htn
            have hfi2 : (f : Int) ≤ (i : Int) := by omega
            have hil2 : (i : Int) ≤ (l.length : Int) := by omega
            have hf0 : (0 : Int) ≤ (f : Int) := by omega
            have hi65 : i ≤ 65536 := by omega
            have hwl := wds_len t
            have HSTP := Lib.hid hstp; have HWAYS := Lib.hid hways
            clear hnb hiE hlr hns hdd htn hfl hdl hif ht HJ hstp hways
            go_wp2_with fail
            go_at_call 17
            (with_reducible refine (HWD.out _).mono ?_)
            rintro e w4 ⟨wv, ind, rfl, hind, hwv, hb4⟩
            obtain ⟨p, q, rfl⟩ := own_sl hwv
            have hs4 := hb4.size
            obtain ⟨W5, hW5⟩ : ∃ W5, w4.alloc (.cells #[.int .i64 ind, .slice p (wds t).length q] 56) = W5 := ⟨_, rfl⟩
            have hq5 : W5.heap[w4.heap.size]? = some (.cells #[.int .i64 ind, .slice p (wds t).length q] 56 (0, 0)) := by rw [← hW5]; exact heap_alloc_new w4 _
            have hk5 : ∀ x, x < w4.heap.size → W5.heap[x]? = w4.heap[x]? := fun x hx => by rw [← hW5]; exact heap_alloc_old w4 _ hx
            have hs5 : w4.heap.size ≤ W5.heap.size := by rw [← hW5]; simp
            have hs51 : W5.heap.size ≤ w4.heap.size + 1 := by rw [← hW5]; simp
            have hb45 : Below wr.heap.size wr W5 := by rw [← hW5]; exact hb4.alloc hs4 _
            obtain ⟨q0, _⟩ := row_cell' (j := 0) hq5 rfl
            obtain ⟨q1, _⟩ := row_cell' (j := 1) hq5 rfl
            have HWV := Lib.hid hwv; have HK5 := Lib.hid hk5; have HB4 := Lib.hid hb4; have HB45 := Lib.hid hb45; have HIND := Lib.hid hind
            clear hq5 hk5 hwv hb4 hb45 hind r0 rf0 r1 rf1
            have hstp := HSTP.out
            rcases HWAYS.out with ⟨he, hbg⟩ | ⟨b, x, c, ws, he, hbg⟩
            · have hd : ¬ 0 < (wds t).length := by rw [he]; simp
              have hd2 : decide ((0 : Int) < ((wds t).length : Int)) = false := by rw [he]; simp
              have hd3 : decide (0 < (wds t).length) = false := by rw [he]; simp
              have hnone : (if (if bang t = true then [] else wds t) = [] then ([] : List Ln) else [(n, nS t, if bang t = true then [] else wds t)]) = [] := by rw [hbg, he]; simp
              clear he hbg
              have HT4 : Hid (T0 = L.map Prod.fst ++ lnk (l.drop (i + 1)) (n + 1)) := Lib.hid (by rw [HT.out, hstp, hnone]; simp)
              have hA : LinesAt W5 W1.heap.size 56 58 u7 L := HLA.out.on fun x _ hxl => (HK5.out x (by omega)).trans (HB4.out.block x hxl)
              have hB5 : Below W1.heap.size W1 W5 := Below.step HGR.out HB45.out
              have HA := Lib.hid hA; have HB5 := Lib.hid hB5
              clear hA hB5 hstp hnone
              go_wp2_with fail
              go_roundw
              case rel => exact ⟨L, i + 1, i + 1, n + 1, by omega, by omega, by go_num, by go_num, by go_num, HT4, Lib.hid (fun _ => rfl), Lib.hid (.inr rfl), by omega, by omega, by omega, HA.out, HB5.out⟩
              case measure => first | (simp [intOf]; done) | (simp [intOf]; omega)
            · have hd : 0 < (wds t).length := by rw [he]; simp
              have hd2 : decide ((0 : Int) < ((wds t).length : Int)) = true := by simp; omega
              have hd3 : decide (0 < (wds t).length) = true := by simp; omega
              obtain ⟨gw, cw, hsl, hgw1, hgw2⟩ := HWV.out.form hd
              obtain ⟨hp, -, rfl⟩ : p = some ⟨gw, 0, none⟩ ∧ (wds t).length = (wds t).length ∧ q = cw := by simpa using hsl
              subst hp
              have hce : w4.cell? ⟨gw, 0, none⟩ = some (.string ⟨(b :: x).toArray⟩) := by rw [HWV.out.cellAt 0 (by omega), he]; rfl
              have hce5 : W5.cell? ⟨gw, 0, none⟩ = some (.string ⟨(b :: x).toArray⟩) := (World.cell?_of_block (HK5.out gw hgw2)).trans hce
              have hsx := mk_size (b :: x)
              have hx0 : 0 < (⟨(b :: x).toArray⟩ : ByteArray).size := by rw [mk_size]; simp
              have g33 := byte_eq (b :: x) 0 hx0 (by simp) 33 33 rfl
              clear hsl hce
              by_cases hb : b = 33
              · have n33 : ((((⟨(b :: x).toArray⟩ : ByteArray)[0]'hx0).toNat : Int) != 33) = false := by rw [show ((b :: x)[0] == 33) = true from beq_iff_eq.2 hb] at g33; simp only [bne, g33]; rfl
                have hnone : (if (if bang t = true then [] else wds t) = [] then ([] : List Ln) else [(n, nS t, if bang t = true then [] else wds t)]) = [] := by rw [hbg, beq_iff_eq.2 hb]; simp
                clear he hbg hb g33
                have HT4 : Hid (T0 = L.map Prod.fst ++ lnk (l.drop (i + 1)) (n + 1)) := Lib.hid (by rw [HT.out, hstp, hnone]; simp)
                have hA : LinesAt W5 W1.heap.size 56 58 u7 L := HLA.out.on fun x _ hxl => (HK5.out x (by omega)).trans (HB4.out.block x hxl)
                have hB5 : Below W1.heap.size W1 W5 := Below.step HGR.out HB45.out
                have HA := Lib.hid hA; have HB5 := Lib.hid hB5
                clear hA hB5 hstp hnone
                go_wp2_with fail
                go_roundw
                case rel => exact ⟨L, i + 1, i + 1, n + 1, by omega, by omega, by go_num, by go_num, by go_num, HT4, Lib.hid (fun _ => rfl), Lib.hid (.inr rfl), by omega, by omega, by omega, HA.out, HB5.out⟩
                case measure => first | (simp [intOf]; done) | (simp [intOf]; omega)
              · have n33 : ((((⟨(b :: x).toArray⟩ : ByteArray)[0]'hx0).toNat : Int) != 33) = true := by rw [show ((b :: x)[0] == 33) = false from beq_eq_false_iff_ne.2 hb] at g33; simp only [bne, g33]; rfl
                have hne : wds t ≠ [] := by rw [he]; simp
                have hin := HIND.out hne
                have HT4 : Hid (T0 = L.map Prod.fst ++ ([(n, ind, wds t)] ++ lnk (l.drop (i + 1)) (n + 1))) := Lib.hid (by
                  have e : (if false = true then ([] : List (List UInt8 × Int)) else wds t) = wds t := if_neg (by simp)
                  rw [HT.out, hstp, hbg, beq_eq_false_iff_ne.2 hb, e, if_neg hne, hin])
                obtain ⟨i0, hi0, hy0, hy1, hy2⟩ := info_parts infoRLn
                have hown5 : W5.ownsRow W1.heap.size 56 2 u7 L.length (L.flatMap lnC) := ownsRow_of HLA.out.1 fun y _ hx hxl => (HK5.out y (by omega)).trans (HB4.out.block y hxl)
                have HOWN5 := Lib.hid hown5
                clear he hbg hb g33 hne hin hown5 hstp
                go_wp2_with (at_builtin; refine wpList_append_lies _ rfl (.tmp 56) (.tmp 58) 28 rfl W1.heap.size 56 i0 (.agg #[.int .i64 0, .slice none 0 0]) 2 32 Try.underlying28 hi0 hy0 hy1 hy2 rfl (by decide) _ _ _ rfl (World.ownsRow.alloc HOWN5.out _) ⟨W5.heap.size, 0, none⟩ 1 1 [.int .i64 ind, .slice (some ⟨gw, 0, none⟩) (wds t).length q] rfl rfl (World.news_of_block (heap_alloc_new W5 _)) (fun x hx => by simp at hx; rcases hx with rfl | rfl <;> rfl) (by omega) (by unfold maxLen; omega) (by omega) (by simp; omega) _ rfl ?_; intro g9 cap9 w9 hown9 hgr9 hor9 hlt9)
                have hk9 : ∀ y, y < W1.heap.size → w9.heap[y]? = W5.heap[y]? := fun y hy => (hgr9.block y (by simp; omega) (fun e => by have := (HOWN5.out.lt y e.symm).1; omega)).trans (heap_alloc_old W5 _ (by omega))
                have hB5 : Below W1.heap.size W1 W5 := Below.step HGR.out HB45.out
                have hB9 : Below W1.heap.size W1 w9 := ⟨hgr9.os.trans hB5.os, hgr9.tape.trans hB5.tape, hgr9.output.trans hB5.output, by have := hgr9.size; simp at this; omega, fun y hy => (hk9 y hy).trans (hB5.block y hy)⟩
                have hA : LinesAt w9 W1.heap.size 56 58 (.slice (some ⟨g9, 0, none⟩) (L.length + 1) cap9) (L ++ [((n, ind, wds t), .slice (some ⟨gw, 0, none⟩) (wds t).length q)]) :=
                  HLA.out.push (w4 := w4) (fun y _ hxl => HB4.out.block y hxl) hs4 (by omega) HWV.out (fun y hy => (heap_alloc_old W5 _ (by omega)).trans (HK5.out y hy)) (by simp; omega) hgr9 hown9 hor9
                have HT5 : Hid (T0 = (L ++ [((n, ind, wds t), Value.slice (some ⟨gw, 0, none⟩) (wds t).length q)]).map Prod.fst ++ lnk (l.drop (i + 1)) (n + 1)) := Lib.hid (by rw [HT4.out]; simp)
                clear hk9 HT4 hB5
                go_wp2_with fail
                go_roundw
                case rel => exact ⟨_, i + 1, i + 1, n + 1, by omega, by omega, by go_num, by go_num, by go_num, HT5, Lib.hid (fun _ => rfl), Lib.hid (.inr rfl), by omega, by omega, by simp only [List.length_append, List.length_singleton]; omega, hA, hB9⟩
                case measure => first | (simp [intOf]; done) | (simp [intOf]; omega)
          · have hst := nE_step hil h10
            have n10 : ((((⟨l.toArray⟩ : ByteArray)[i]'hi1).toNat : Int) != 10) = true := by rw [beq_eq_false_iff_ne.2 h10] at f10; simp only [bne, f10]; rfl
            have HJ2 : Hid (i + 1 ≤ l.length → i + 1 + nE (l.drop (i + 1)) = f + nE (l.drop f)) := Lib.hid (fun _ => by have := HJ.out hlt; omega)
            clear f10 h10 hst
            go_wp2_with fail
            go_roundw
            case rel => exact ⟨L, f, i + 1, n, by omega, by omega, rfl, rfl, by go_num, HT, HJ2, Lib.hid (.inl (by omega)), by omega, by omega, by omega, HLA.out, HGR.out⟩
            case measure => first | (simp [intOf]; done) | (simp [intOf]; omega)
        · have hnb := nE_none (l := l) (i := i) (by omega)
          have hii : ¬ (i : Int) < (l.length : Int) := by omega
          have hge : l.length ≤ i := by omega
          clear hil
          have hiE : i = f + nE (l.drop f) := by have := HJ.out hlt; rw [hnb] at this; omega
          have hstp := lnk_step (l.drop f) n
          obtain ⟨hlr, -, hns⟩ := lineR_is (l.drop f)
          have hdd : ((l.drop f).drop (nE (l.drop f))).drop 1 = l.drop (i + 1) := by rw [List.drop_drop, List.drop_drop, hiE, Nat.add_assoc]
          rw [hdd] at hstp
          have htn := take_nE (l.drop f)
          have hfl := nE_le (l.drop f)
          have hdl : (l.drop f).length = l.length - f := List.length_drop
          have hxt := ext_mid l f i
          have hif : i - f = nE (l.drop f) := by omega
          rw [hif] at hxt
          obtain ⟨t, ht⟩ : ∃ t, (l.drop f).take (nE (l.drop f)) = t := ⟨_, rfl⟩
          have htl : t.length ≤ 65536 := by rw [← ht, List.length_take]; omega
          rw [ht] at hlr hns htn hxt
          rw [hlr, hns] at hstp
          have HWD := Lib.hid (fun W => words_is t n W htn htl)
          have hways := wds_ways t htn
          have hfi2 : (f : Int) ≤ (i : Int) := by omega
          have hil2 : (i : Int) ≤ (l.length : Int) := by omega
          have hf0 : (0 : Int) ≤ (f : Int) := by omega
          have hi65 : i ≤ 65536 := by omega
          have hwl := wds_len t
          have HSTP := Lib.hid hstp; have HWAYS := Lib.hid hways
          clear hnb hiE hlr hns hdd htn hfl hdl hif ht HJ hstp hways
          go_wp2_with fail
          go_at_call 17
          (with_reducible refine (HWD.out _).mono ?_)
          rintro e w4 ⟨wv, ind, rfl, hind, hwv, hb4⟩
          obtain ⟨p, q, rfl⟩ := own_sl hwv
          have hs4 := hb4.size
          obtain ⟨W5, hW5⟩ : ∃ W5, w4.alloc (.cells #[.int .i64 ind, .slice p (wds t).length q] 56) = W5 := ⟨_, rfl⟩
          have hq5 : W5.heap[w4.heap.size]? = some (.cells #[.int .i64 ind, .slice p (wds t).length q] 56 (0, 0)) := by rw [← hW5]; exact heap_alloc_new w4 _
          have hk5 : ∀ x, x < w4.heap.size → W5.heap[x]? = w4.heap[x]? := fun x hx => by rw [← hW5]; exact heap_alloc_old w4 _ hx
          have hs5 : w4.heap.size ≤ W5.heap.size := by rw [← hW5]; simp
          have hs51 : W5.heap.size ≤ w4.heap.size + 1 := by rw [← hW5]; simp
          have hb45 : Below wr.heap.size wr W5 := by rw [← hW5]; exact hb4.alloc hs4 _
          obtain ⟨q0, _⟩ := row_cell' (j := 0) hq5 rfl
          obtain ⟨q1, _⟩ := row_cell' (j := 1) hq5 rfl
          have HWV := Lib.hid hwv; have HK5 := Lib.hid hk5; have HB4 := Lib.hid hb4; have HB45 := Lib.hid hb45; have HIND := Lib.hid hind
          clear hq5 hk5 hwv hb4 hb45 hind r0 rf0 r1 rf1
          have hstp := HSTP.out
          rcases HWAYS.out with ⟨he, hbg⟩ | ⟨b, x, c, ws, he, hbg⟩
          · have hd : ¬ 0 < (wds t).length := by rw [he]; simp
            have hd2 : decide ((0 : Int) < ((wds t).length : Int)) = false := by rw [he]; simp
            have hd3 : decide (0 < (wds t).length) = false := by rw [he]; simp
            have hnone : (if (if bang t = true then [] else wds t) = [] then ([] : List Ln) else [(n, nS t, if bang t = true then [] else wds t)]) = [] := by rw [hbg, he]; simp
            clear he hbg
            have HT4 : Hid (T0 = L.map Prod.fst ++ lnk (l.drop (i + 1)) (n + 1)) := Lib.hid (by rw [HT.out, hstp, hnone]; simp)
            have hA : LinesAt W5 W1.heap.size 56 58 u7 L := HLA.out.on fun x _ hxl => (HK5.out x (by omega)).trans (HB4.out.block x hxl)
            have hB5 : Below W1.heap.size W1 W5 := Below.step HGR.out HB45.out
            have HA := Lib.hid hA; have HB5 := Lib.hid hB5
            clear hA hB5 hstp hnone
            go_wp2_with fail
            go_roundw
            case rel => exact ⟨L, i + 1, i + 1, n + 1, by omega, by omega, by go_num, by go_num, by go_num, HT4, Lib.hid (fun _ => rfl), Lib.hid (.inr rfl), by omega, by omega, by omega, HA.out, HB5.out⟩
            case measure => first | (simp [intOf]; done) | (simp [intOf]; omega)
          · have hd : 0 < (wds t).length := by rw [he]; simp
            have hd2 : decide ((0 : Int) < ((wds t).length : Int)) = true := by simp; omega
            have hd3 : decide (0 < (wds t).length) = true := by simp; omega
            obtain ⟨gw, cw, hsl, hgw1, hgw2⟩ := HWV.out.form hd
            obtain ⟨hp, -, rfl⟩ : p = some ⟨gw, 0, none⟩ ∧ (wds t).length = (wds t).length ∧ q = cw := by simpa using hsl
            subst hp
            have hce : w4.cell? ⟨gw, 0, none⟩ = some (.string ⟨(b :: x).toArray⟩) := by rw [HWV.out.cellAt 0 (by omega), he]; rfl
            have hce5 : W5.cell? ⟨gw, 0, none⟩ = some (.string ⟨(b :: x).toArray⟩) := (World.cell?_of_block (HK5.out gw hgw2)).trans hce
            have hsx := mk_size (b :: x)
            have hx0 : 0 < (⟨(b :: x).toArray⟩ : ByteArray).size := by rw [mk_size]; simp
            have g33 := byte_eq (b :: x) 0 hx0 (by simp) 33 33 rfl
            clear hsl hce
            by_cases hb : b = 33
            · have n33 : ((((⟨(b :: x).toArray⟩ : ByteArray)[0]'hx0).toNat : Int) != 33) = false := by rw [show ((b :: x)[0] == 33) = true from beq_iff_eq.2 hb] at g33; simp only [bne, g33]; rfl
              have hnone : (if (if bang t = true then [] else wds t) = [] then ([] : List Ln) else [(n, nS t, if bang t = true then [] else wds t)]) = [] := by rw [hbg, beq_iff_eq.2 hb]; simp
              clear he hbg hb g33
              have HT4 : Hid (T0 = L.map Prod.fst ++ lnk (l.drop (i + 1)) (n + 1)) := Lib.hid (by rw [HT.out, hstp, hnone]; simp)
              have hA : LinesAt W5 W1.heap.size 56 58 u7 L := HLA.out.on fun x _ hxl => (HK5.out x (by omega)).trans (HB4.out.block x hxl)
              have hB5 : Below W1.heap.size W1 W5 := Below.step HGR.out HB45.out
              have HA := Lib.hid hA; have HB5 := Lib.hid hB5
              clear hA hB5 hstp hnone
              go_wp2_with fail
              go_roundw
              case rel => exact ⟨L, i + 1, i + 1, n + 1, by omega, by omega, by go_num, by go_num, by go_num, HT4, Lib.hid (fun _ => rfl), Lib.hid (.inr rfl), by omega, by omega, by omega, HA.out, HB5.out⟩
              case measure => first | (simp [intOf]; done) | (simp [intOf]; omega)
            · have n33 : ((((⟨(b :: x).toArray⟩ : ByteArray)[0]'hx0).toNat : Int) != 33) = true := by rw [show ((b :: x)[0] == 33) = false from beq_eq_false_iff_ne.2 hb] at g33; simp only [bne, g33]; rfl
              have hne : wds t ≠ [] := by rw [he]; simp
              have hin := HIND.out hne
              have HT4 : Hid (T0 = L.map Prod.fst ++ ([(n, ind, wds t)] ++ lnk (l.drop (i + 1)) (n + 1))) := Lib.hid (by
                have e : (if false = true then ([] : List (List UInt8 × Int)) else wds t) = wds t := if_neg (by simp)
                rw [HT.out, hstp, hbg, beq_eq_false_iff_ne.2 hb, e, if_neg hne, hin])
              obtain ⟨i0, hi0, hy0, hy1, hy2⟩ := info_parts infoRLn
              have hown5 : W5.ownsRow W1.heap.size 56 2 u7 L.length (L.flatMap lnC) := ownsRow_of HLA.out.1 fun y _ hx hxl => (HK5.out y (by omega)).trans (HB4.out.block y hxl)
              have HOWN5 := Lib.hid hown5
              clear he hbg hb g33 hne hin hown5 hstp
              go_wp2_with (at_builtin; refine wpList_append_lies _ rfl (.tmp 56) (.tmp 58) 28 rfl W1.heap.size 56 i0 (.agg #[.int .i64 0, .slice none 0 0]) 2 32 Try.underlying28 hi0 hy0 hy1 hy2 rfl (by decide) _ _ _ rfl (World.ownsRow.alloc HOWN5.out _) ⟨W5.heap.size, 0, none⟩ 1 1 [.int .i64 ind, .slice (some ⟨gw, 0, none⟩) (wds t).length q] rfl rfl (World.news_of_block (heap_alloc_new W5 _)) (fun x hx => by simp at hx; rcases hx with rfl | rfl <;> rfl) (by omega) (by unfold maxLen; omega) (by omega) (by simp; omega) _ rfl ?_; intro g9 cap9 w9 hown9 hgr9 hor9 hlt9)
              have hk9 : ∀ y, y < W1.heap.size → w9.heap[y]? = W5.heap[y]? := fun y hy => (hgr9.block y (by simp; omega) (fun e => by have := (HOWN5.out.lt y e.symm).1; omega)).trans (heap_alloc_old W5 _ (by omega))
              have hB5 : Below W1.heap.size W1 W5 := Below.step HGR.out HB45.out
              have hB9 : Below W1.heap.size W1 w9 := ⟨hgr9.os.trans hB5.os, hgr9.tape.trans hB5.tape, hgr9.output.trans hB5.output, by have := hgr9.size; simp at this; omega, fun y hy => (hk9 y hy).trans (hB5.block y hy)⟩
              have hA : LinesAt w9 W1.heap.size 56 58 (.slice (some ⟨g9, 0, none⟩) (L.length + 1) cap9) (L ++ [((n, ind, wds t), .slice (some ⟨gw, 0, none⟩) (wds t).length q)]) :=
                HLA.out.push (w4 := w4) (fun y _ hxl => HB4.out.block y hxl) hs4 (by omega) HWV.out (fun y hy => (heap_alloc_old W5 _ (by omega)).trans (HK5.out y hy)) (by simp; omega) hgr9 hown9 hor9
              have HT5 : Hid (T0 = (L ++ [((n, ind, wds t), Value.slice (some ⟨gw, 0, none⟩) (wds t).length q)]).map Prod.fst ++ lnk (l.drop (i + 1)) (n + 1)) := Lib.hid (by rw [HT4.out]; simp)
              clear hk9 HT4 hB5
              go_wp2_with fail
              go_roundw
              case rel => exact ⟨_, i + 1, i + 1, n + 1, by omega, by omega, by go_num, by go_num, by go_num, HT5, Lib.hid (fun _ => rfl), Lib.hid (.inr rfl), by omega, by omega, by simp only [List.length_append, List.length_singleton]; omega, hA, hB9⟩
              case measure => first | (simp [intOf]; done) | (simp [intOf]; omega)
      · have hile : ¬ (i : Int) ≤ (l.length : Int) := by omega
        have hfi3 : f = i := by rcases HOR.out with h | h <;> omega
        have hTd : T0 = L.map Prod.fst := by rw [HT.out, List.drop_of_length_le (by omega), lnk_nil]; simp
        have HTD := Lib.hid hTd
        have hown9 : LinesAt ((wr.setCell ⟨w.heap.size, 0, none⟩ (.int .i64 0)).setCell ⟨w.heap.size, 1, none⟩ (.int .i64 0)) w.heap.size 56 58 u7 L := by
          refine (HLA.out.on fun x hx1 hx2 => ?_).base (Nat.le_of_lt hw1)
          rw [Below.heap_setCell _ _ _ _ (by simp; omega), Below.heap_setCell _ _ _ _ (by simp; omega)]
        clear hTd hlt hfi3
        go_wp2_with fail
        have hfin : ((wr.setCell ⟨w.heap.size, 0, none⟩ (.int .i64 0)).setCell ⟨w.heap.size, 1, none⟩ (.int .i64 0)).heap[w.heap.size]? = some (.cells #[.int .i64 0, .int .i64 0] 24 (0, 0)) := set2 (m0 := 0) (m1 := 0) HPr.out
        have hbf : Below w.heap.size w ((wr.setCell ⟨w.heap.size, 0, none⟩ (.int .i64 0)).setCell ⟨w.heap.size, 1, none⟩ (.int .i64 0)) := by
          skip
          repeat refine Below.setCell ?_ (by simp) _
          exact HBW.out
        obtain ⟨W9, hW9⟩ : ∃ W9, ((wr.setCell ⟨w.heap.size, 0, none⟩ (.int .i64 0)).setCell ⟨w.heap.size, 1, none⟩ (.int .i64 0)) = W9 := ⟨_, rfl⟩
        rw [hW9] at hfin hbf hown9 ⊢
        clear hW9
        obtain ⟨e0, _⟩ := row_cell' (j := 0) hfin rfl
        obtain ⟨e1, _⟩ := row_cell' (j := 1) hfin rfl
        exact bodyPost_ret (v := .tuple #[u7, .agg #[.int .i64 0, .int .i64 0], .int .i64 0]) (by simp [results, Try.results6, go_sem, e0, e1]) rfl ⟨hbf, .inr ⟨u7, L, HC.out, rfl, by rw [HT0.out, HTD.out], hown9⟩⟩
end Go.Proofs.Ytiadflipakjeeaa
