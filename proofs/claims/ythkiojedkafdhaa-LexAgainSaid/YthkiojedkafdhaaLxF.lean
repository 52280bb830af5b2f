/- The reader of package lex: what may not stand, and what check hands back. Under the conditions that they name. -/
import Derived.Test.YthkiojedkafdhaaLxU
import Derived.Shelf.Abstract
namespace Go.Proofs.Ythkiojedkafdhaa
open Go.RowKit Go.Shelf
/-- Is the next byte a fault? -/
def pF (l : List UInt8) (ln : Int) : Bool := match l with
  | [] => false
  | b :: _ => decide (4096 < ln) || bad b.toNat
theorem bad_ways (c : Int) : (c < 32 ∧ c ≠ 10 ∧ bad c = true) ∨ (c = 10 ∧ bad c = false) ∨ (32 ≤ c ∧ c ≤ 126 ∧ bad c = false) ∨ (126 < c ∧ bad c = true) := by
  unfold bad
  by_cases h1 : c = 10
  · subst h1; exact .inr (.inl ⟨rfl, by decide⟩)
  · have e : (c == 10) = false := by simpa using h1
    by_cases h2 : c < 32
    · exact .inl ⟨h2, h1, by rw [decide_eq_true h2, e]; rfl⟩
    · by_cases h3 : 126 < c
      · exact .inr (.inr (.inr ⟨h3, by rw [decide_eq_true h3, e]; simp⟩))
      · exact .inr (.inr (.inl ⟨by omega, by omega, by rw [decide_eq_false h2, decide_eq_false h3]; rfl⟩))
set_option maxRecDepth 100000 in
set_option maxHeartbeats 2000000 in
theorem atFault_is (g : Nat) (b : UInt8) (r : List UInt8) (ln c : Int) (W : World) (h : Rd W g (b :: r) ln c) : Calls Try.prog 16 #[.pointer (some ⟨g, 0, none⟩)] W fun e w' => e = .returned (.bool (pF (b :: r) ln)) ∧ W = w' := by
  have HT := Lib.hid (tooFar_is g (b :: r) ln c W h)
  obtain ⟨k0, _⟩ := row_cell' (j := 0) h rfl
  have hs := mk_size (b :: r)
  have hpos : 0 < (⟨(b :: r).toArray⟩ : ByteArray).size := by rw [hs]; simp
  have hget := get_at' (b :: r) 0 hpos (by simp)
  have hb := b.toNat_lt
  unfold pF
  obtain ⟨x, hx⟩ : ∃ x, decide (4096 < ln) = x := ⟨_, rfl⟩
  obtain ⟨C, hC⟩ : ∃ C : Int, (b.toNat : Int) = C := ⟨_, rfl⟩
  have hC2 : ((((⟨(b :: r).toArray⟩ : ByteArray)[0]'hpos).toNat : Int)) = C := by rw [hget]; exact hC
  simp only
  rw [hx] at HT ⊢
  rw [hC]
  clear h hget hx hC hb
  cases x with
  | true =>
    go_enter Try.func16, Try.ntmps16
    go_wp2_with (go_at_call 17; (refine HT.out.mono ?_); rintro e w1 ⟨rfl, rfl⟩)
    go_ret
    exact ⟨rfl, rfl⟩
  | false =>
    rcases bad_ways C with ⟨h1, h2, hb⟩ | ⟨h1, hb⟩ | ⟨h1, h2, hb⟩ | ⟨h1, hb⟩
    all_goals
      rw [hb]
      clear hb
      go_enter Try.func16, Try.ntmps16
      go_wp2_with (go_at_call 17; (refine HT.out.mono ?_); rintro e w1 ⟨rfl, rfl⟩)
      go_ret
      exact ⟨ret_bool (by first | rfl | (simp; omega)), rfl⟩
/-- What check hands back. -/
def ChkV (l : List UInt8) : Value :=
  if 65536 < l.length then .tuple #[.agg #[.int .i64 0, .int .i64 0], .int .i64 3] else
  if cntU pF l (1, 1) = l.length then .tuple #[.agg #[.int .i64 0, .int .i64 0], .int .i64 0] else
  if 4096 < (adv (l.take (cntU pF l (1, 1))) (1, 1)).1 then .tuple #[.agg #[.int .i64 (adv (l.take (cntU pF l (1, 1))) (1, 1)).1, .int .i64 (adv (l.take (cntU pF l (1, 1))) (1, 1)).2], .int .i64 3] else
  .tuple #[.agg #[.int .i64 (adv (l.take (cntU pF l (1, 1))) (1, 1)).1, .int .i64 (adv (l.take (cntU pF l (1, 1))) (1, 1)).2], .int .i64 70]
theorem set2 {w : World} {g : Nat} {n0 n1 m0 m1 : Int} {t : TypeId} (h : w.heap[g]? = some (.cells #[.int .i64 n0, .int .i64 n1] t (0, 0))) :
    ((w.setCell ⟨g, 0, none⟩ (.int .i64 m0)).setCell ⟨g, 1, none⟩ (.int .i64 m1)).heap[g]? = some (.cells #[.int .i64 m0, .int .i64 m1] t (0, 0)) :=
  Lib.heap_setCell_same (i := 1) (Lib.heap_setCell_same (i := 0) h (.int .i64 m0)) (.int .i64 m1)
set_option maxRecDepth 100000 in
set_option maxHeartbeats 4000000 in
theorem check_is (s : ByteArray) (w : World) (hs : s.size ≤ 9223372036854775807) : Calls Try.prog 9 #[.string s] w fun e w' => e = .returned (ChkV s.data.toList) ∧ Below w.heap.size w w' := by
  have hl : s.data.toList.length = s.size := by simp
  obtain ⟨Z, hZ⟩ : ∃ Z, w.alloc (.cells #[.int .i64 0, .int .i64 0] 27) = Z := ⟨_, rfl⟩
  have hb0 : Below w.heap.size w Z := by rw [← hZ]; exact (Below.refl _ _).alloc (Nat.le_refl _) _
  have hPZ : Z.heap[w.heap.size]? = some (.cells #[.int .i64 0, .int .i64 0] 27 (0, 0)) := by rw [← hZ]; exact heap_alloc_new w _
  have hz0 : w.heap.size < Z.heap.size := (Array.getElem?_eq_some_iff.1 hPZ).1
  have HB0 := Lib.hid hb0; have HPZ := Lib.hid hPZ
  by_cases hbig : 65536 < s.size
  · have H : Hid (ChkV s.data.toList = .tuple #[.agg #[.int .i64 0, .int .i64 0], .int .i64 3]) := Lib.hid (by unfold ChkV; rw [hl, if_pos hbig])
    have hd : decide ((65536 : Int) < (s.size : Int)) = true := by simp; omega
    obtain ⟨r0, rf0⟩ := row_cell' (j := 0) hPZ rfl
    obtain ⟨r1, rf1⟩ := row_cell' (j := 1) hPZ rfl
    clear hb0 hPZ
    go_enter Try.func9, Try.ntmps9
    go_wp2_with fail
    try rw [hZ]
    have hfin := set2 (m0 := 0) (m1 := 0) HPZ.out
    have hbf : Below w.heap.size w ((Z.setCell ⟨w.heap.size, 0, none⟩ (.int .i64 0)).setCell ⟨w.heap.size, 1, none⟩ (.int .i64 0)) := by
      repeat refine Below.setCell ?_ (by simp) _
      exact HB0.out
    obtain ⟨W9, hW9⟩ : ∃ W9, ((Z.setCell ⟨w.heap.size, 0, none⟩ (.int .i64 0)).setCell ⟨w.heap.size, 1, none⟩ (.int .i64 0)) = W9 := ⟨_, rfl⟩
    rw [hW9] at hfin hbf ⊢
    clear hW9
    obtain ⟨e0, _⟩ := row_cell' (j := 0) hfin rfl
    obtain ⟨e1, _⟩ := row_cell' (j := 1) hfin rfl
    exact bodyPost_ret (v := .tuple #[.agg #[.int .i64 0, .int .i64 0], .int .i64 3]) (by simp [results, Try.results9, go_sem, e0, e1]) rfl ⟨by rw [H.out], hbf⟩
  · have hd : decide ((65536 : Int) < (s.size : Int)) = false := by simp; omega
    clear hb0 hPZ
    go_enter Try.func9, Try.ntmps9
    go_wp2_with fail
    go_at_call 10
    refine (start_is s _).mono ?_
    rintro e w1 ⟨g, rfl, hg, hrd, hb1⟩
    try clear hZ
    have hu := until_is g 16 #[.pointer (some ⟨g, 0, none⟩)] #[] pF (fun _ => True) (fun _ _ _ _ => trivial) (enters_of Try.func16 (by kernel_rfl) rfl)
      (fun W l ln c hne hll h _ => by
        cases l with
        | nil => exact absurd rfl hne
        | cons b r => exact atFault_is g b r ln c W h)
      s.data.toList 1 1 w1 hrd trivial (by omega) (by omega) (by omega) (by omega) (by omega)
    have HU := Lib.hid hu
    clear hu
    go_wp2_with fail
    go_at_call 15
    refine HU.out.mono ?_
    rintro e w2 ⟨rfl, hrd2, hb2⟩
    have hb02 : Below Z.heap.size Z w2 := hb1.trans ((gb_below hb2 hrd.lt).mono hg)
    obtain ⟨n, hn⟩ : ∃ n, cntU pF s.data.toList (1, 1) = n := ⟨_, rfl⟩
    have hnl : n ≤ s.data.toList.length := by rw [← hn]; exact cntU_le _ _ _
    obtain ⟨u, v, huv⟩ : ∃ u v, adv (s.data.toList.take n) (1, 1) = (u, v) := ⟨_, _, rfl⟩
    have hchk : ChkV s.data.toList = if n = s.data.toList.length then .tuple #[.agg #[.int .i64 0, .int .i64 0], .int .i64 0] else if 4096 < u then .tuple #[.agg #[.int .i64 u, .int .i64 v], .int .i64 3] else .tuple #[.agg #[.int .i64 u, .int .i64 v], .int .i64 70] := by
      unfold ChkV
      rw [if_neg (by rw [hl]; exact hbig), hn, huv]
    rw [hn, huv] at hrd2
    simp only at hrd2
    have hrl : (s.data.toList.drop n).length = s.data.toList.length - n := List.length_drop
    generalize s.data.toList.drop n = rest at *
    generalize s.data.toList.take (cntU pF s.data.toList (1, 1)) = tk at *
    have HRD := Lib.hid hrd2
    have HD := Lib.hid (done_is g rest u v w2 hrd2)
    have HT := Lib.hid (tooFar_is g rest u v w2 hrd2)
    clear hrd2 hn huv HU
    cases rest with
    | nil =>
      have H : Hid (ChkV s.data.toList = .tuple #[.agg #[.int .i64 0, .int .i64 0], .int .i64 0]) := Lib.hid (by rw [hchk, if_pos (by simp at hrl; omega)])
      clear hchk
      have hP2 := (hb02.block _ hz0).trans HPZ.out
      obtain ⟨r0, rf0⟩ := row_cell' (j := 0) hP2 rfl
      obtain ⟨r1, rf1⟩ := row_cell' (j := 1) hP2 rfl
      obtain ⟨j1, _⟩ := row_cell' (j := 1) HRD.out rfl
      obtain ⟨j2, _⟩ := row_cell' (j := 2) HRD.out rfl
      have HP2 := Lib.hid hP2
      clear hP2
      go_wp2_with (first | (go_at_call 11; (refine (HD.out).mono ?_); rintro e w3 ⟨rfl, rfl⟩) | (go_at_call 17; (refine (HT.out).mono ?_); rintro e w3 ⟨rfl, rfl⟩))
      have hfin := set2 (m0 := 0) (m1 := 0) HP2.out
      have hbf : Below w.heap.size w ((w2.setCell ⟨w.heap.size, 0, none⟩ (.int .i64 0)).setCell ⟨w.heap.size, 1, none⟩ (.int .i64 0)) := by
        repeat refine Below.setCell ?_ (by simp) _
        exact Below.step HB0.out hb02
      obtain ⟨W9, hW9⟩ : ∃ W9, ((w2.setCell ⟨w.heap.size, 0, none⟩ (.int .i64 0)).setCell ⟨w.heap.size, 1, none⟩ (.int .i64 0)) = W9 := ⟨_, rfl⟩
      rw [hW9] at hfin hbf ⊢
      clear hW9
      obtain ⟨e0, _⟩ := row_cell' (j := 0) hfin rfl
      obtain ⟨e1, _⟩ := row_cell' (j := 1) hfin rfl
      exact bodyPost_ret (v := .tuple #[.agg #[.int .i64 0, .int .i64 0], .int .i64 0]) (by simp [results, Try.results9, go_sem, e0, e1]) rfl ⟨by rw [H.out], hbf⟩
    | cons b r =>
      rw [if_neg (by simp at hrl; omega)] at hchk
      by_cases hu4 : 4096 < u
      · have H : Hid (ChkV s.data.toList = .tuple #[.agg #[.int .i64 u, .int .i64 v], .int .i64 3]) := Lib.hid (by rw [hchk, if_pos hu4])
        have hud : decide (4096 < u) = true := decide_eq_true hu4
        rw [hud] at HT
        clear hchk
        have hP2 := (hb02.block _ hz0).trans HPZ.out
        obtain ⟨r0, rf0⟩ := row_cell' (j := 0) hP2 rfl
        obtain ⟨r1, rf1⟩ := row_cell' (j := 1) hP2 rfl
        obtain ⟨j1, _⟩ := row_cell' (j := 1) HRD.out rfl
        obtain ⟨j2, _⟩ := row_cell' (j := 2) HRD.out rfl
        have HP2 := Lib.hid hP2
        clear hP2
        go_wp2_with (first | (go_at_call 11; (refine (HD.out).mono ?_); rintro e w3 ⟨rfl, rfl⟩) | (go_at_call 17; (refine (HT.out).mono ?_); rintro e w3 ⟨rfl, rfl⟩))
        have hfin := set2 (m0 := u) (m1 := v) HP2.out
        have hbf : Below w.heap.size w ((w2.setCell ⟨w.heap.size, 0, none⟩ (.int .i64 u)).setCell ⟨w.heap.size, 1, none⟩ (.int .i64 v)) := by
          repeat refine Below.setCell ?_ (by simp) _
          exact Below.step HB0.out hb02
        obtain ⟨W9, hW9⟩ : ∃ W9, ((w2.setCell ⟨w.heap.size, 0, none⟩ (.int .i64 u)).setCell ⟨w.heap.size, 1, none⟩ (.int .i64 v)) = W9 := ⟨_, rfl⟩
        rw [hW9] at hfin hbf ⊢
        clear hW9
        obtain ⟨e0, _⟩ := row_cell' (j := 0) hfin rfl
        obtain ⟨e1, _⟩ := row_cell' (j := 1) hfin rfl
        exact bodyPost_ret (v := .tuple #[.agg #[.int .i64 u, .int .i64 v], .int .i64 3]) (by simp [results, Try.results9, go_sem, e0, e1]) rfl ⟨by rw [H.out], hbf⟩
      · have H : Hid (ChkV s.data.toList = .tuple #[.agg #[.int .i64 u, .int .i64 v], .int .i64 70]) := Lib.hid (by rw [hchk, if_neg hu4])
        have hud : decide (4096 < u) = false := decide_eq_false hu4
        rw [hud] at HT
        clear hchk
        have hP2 := (hb02.block _ hz0).trans HPZ.out
        obtain ⟨r0, rf0⟩ := row_cell' (j := 0) hP2 rfl
        obtain ⟨r1, rf1⟩ := row_cell' (j := 1) hP2 rfl
        obtain ⟨j1, _⟩ := row_cell' (j := 1) HRD.out rfl
        obtain ⟨j2, _⟩ := row_cell' (j := 2) HRD.out rfl
        have HP2 := Lib.hid hP2
        clear hP2
        go_wp2_with (first | (go_at_call 11; (refine (HD.out).mono ?_); rintro e w3 ⟨rfl, rfl⟩) | (go_at_call 17; (refine (HT.out).mono ?_); rintro e w3 ⟨rfl, rfl⟩))
        have hfin := set2 (m0 := u) (m1 := v) HP2.out
        have hbf : Below w.heap.size w ((w2.setCell ⟨w.heap.size, 0, none⟩ (.int .i64 u)).setCell ⟨w.heap.size, 1, none⟩ (.int .i64 v)) := by
          repeat refine Below.setCell ?_ (by simp) _
          exact Below.step HB0.out hb02
        obtain ⟨W9, hW9⟩ : ∃ W9, ((w2.setCell ⟨w.heap.size, 0, none⟩ (.int .i64 u)).setCell ⟨w.heap.size, 1, none⟩ (.int .i64 v)) = W9 := ⟨_, rfl⟩
        rw [hW9] at hfin hbf ⊢
        clear hW9
        obtain ⟨e0, _⟩ := row_cell' (j := 0) hfin rfl
        obtain ⟨e1, _⟩ := row_cell' (j := 1) hfin rfl
        exact bodyPost_ret (v := .tuple #[.agg #[.int .i64 u, .int .i64 v], .int .i64 70]) (by simp [results, Try.results9, go_sem, e0, e1]) rfl ⟨by rw [H.out], hbf⟩
end Go.Proofs.Ythkiojedkafdhaa
