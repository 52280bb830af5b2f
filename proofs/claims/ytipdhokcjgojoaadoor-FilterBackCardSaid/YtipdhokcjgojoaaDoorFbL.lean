/- The law FilterBack. Conditions: the tables, numbers and errors of packages strconv and bytealg are what their text says. -/
import Derived.Test.YtipdhokcjgojoaaDoorFbU
import Derived.Test.YtipdhokcjgojoaaDoorFlQ
namespace Go.Proofs.YtipdhokcjgojoaaDoor
open Go.RowKit
theorem fparse_is (s : ByteArray) (w : World) (hs : s.size ≤ 1048576) (hm : MaxL w) (hE : ErrV w) (ht : Tab10 w) : Calls Tryd.prog 6 #[.string s] w (ParseP s.data.toList w) := by
  by_cases h : (pcs s).length = 6
  · obtain ⟨a, b, c, d, e, f, h6⟩ := six_of _ h
    exact parse_six s a b c d e f w hs hm hE ht h6
  · exact parse_no s w hs hm h
theorem eqZ (w : World) : (binOp .eql 29 (.agg #[.bool false, .int .i64 0, .int .u32 0, .int .i64 0, .int .u32 0, .int .i64 0, .int .u32 0, .int .u32 0, .int .u32 0, .int .u32 0]) (.agg #[.bool false, .int .i64 0, .int .u32 0, .int .i64 0, .int .u32 0, .int .i64 0, .int .u32 0, .int .u32 0, .int .u32 0, .int .u32 0])).run Tryd.prog w = .ok (.bool true) w := by
  simp [go_sem]
theorem back_long (r : RuleD) (s : ByteArray) (w : World) (hs : 2000 < s.size) : Calls Tryd.prog 3 #[vR r, .string s] w fun e w' => e = .returned (.bool true) ∧ Below w.heap.size w w' := by
  have hz : (2000 : Int) < (s.size : Int) := by omega
  have HB0 : Hid (Below w.heap.size w (w.alloc (.cells (encR r).toArray 29))) := Lib.hid ((Below.refl _ _).alloc (Nat.le_refl _) _)
  obtain ⟨perm, proto, sa, sn, da, dn, sl, sh, dl, dh⟩ := r
  simp only [vR, encR] at HB0 ⊢
  clear hs
  go_enter Tryd.func3, Tryd.ntmps3
  go_wp2_with fail
  go_at_call 4
  refine (awake_is _).mono ?_
  rintro e w2 ⟨rfl, hb2⟩
  have HB2 := Lib.hid (Below.step HB0.out hb2)
  clear hb2
  go_wp2
  go_ret
  exact ⟨rfl, HB2.out⟩
set_option maxRecDepth 100000 in
set_option maxHeartbeats 8000000 in
theorem back_short (r : RuleD) (s : ByteArray) (w : World) (hr : r.ok) (hp : PortsOk r) (hs : s.size ≤ 2000) (hm : MaxL w) (hE : ErrV w) (ht : Tab10 w) : Calls Tryd.prog 3 #[vR r, .string s] w fun e w' => e = .returned (.bool true) ∧ Below w.heap.size w w' := by
  have hz : ¬ (2000 : Int) < (s.size : Int) := by omega
  obtain ⟨W1, hW1⟩ : ∃ X, w.alloc (.cells (encR r).toArray 29) = X := ⟨_, rfl⟩
  have S1 : Hid (Bx w W1 w.heap.size 29 (encR r)) := Lib.hid (by rw [← hW1]; exact Bx.mk1 _ _ _)
  have HM := Lib.hid hm; have HE := Lib.hid hE; have HT := Lib.hid ht
  have HG := Lib.hid (fun (h : mayB r = true) => (⟨hr, hp, h⟩ : Good r))
  have HLEN := Lib.hid (fun (h : mayB r = true) => rtext_len hr hp (may_p h))
  have HTN := Lib.hid (fun (W : World) (h : mayB r = false) => text_no r W hr h)
  have HTY := Lib.hid (fun (W : World) (h : mayB r = true) (h10 : Tab10 W) => text_yes r W hr hp h h10)
  clear hm hE ht hr hp
  cases hmay : mayB r with
  | false =>
    have HN := Lib.hid (fun (W : World) => HTN.out W hmay)
    clear HTN HTY HG HLEN hmay
    obtain ⟨perm, proto, sa, sn, da, dn, sl, sh, dl, dh⟩ := r
    simp only [vR, encR] at HN hW1 ⊢
    have d0 : W1.cell? ⟨w.heap.size, 0, none⟩ = some (.bool perm) := S1.out.cells 0
    have d1 : W1.cell? ⟨w.heap.size, 1, none⟩ = some (.int .i64 proto) := S1.out.cells 1
    have d2 : W1.cell? ⟨w.heap.size, 2, none⟩ = some (.int .u32 sa) := S1.out.cells 2
    have d3 : W1.cell? ⟨w.heap.size, 3, none⟩ = some (.int .i64 sn) := S1.out.cells 3
    have d4 : W1.cell? ⟨w.heap.size, 4, none⟩ = some (.int .u32 da) := S1.out.cells 4
    have d5 : W1.cell? ⟨w.heap.size, 5, none⟩ = some (.int .i64 dn) := S1.out.cells 5
    have d6 : W1.cell? ⟨w.heap.size, 6, none⟩ = some (.int .u32 sl) := S1.out.cells 6
    have d7 : W1.cell? ⟨w.heap.size, 7, none⟩ = some (.int .u32 sh) := S1.out.cells 7
    have d8 : W1.cell? ⟨w.heap.size, 8, none⟩ = some (.int .u32 dl) := S1.out.cells 8
    have d9 : W1.cell? ⟨w.heap.size, 9, none⟩ = some (.int .u32 dh) := S1.out.cells 9
    go_enter Tryd.func3, Tryd.ntmps3
    go_wp2_with fail
    go_at_call 4
    refine (awake_is _).mono ?_
    rintro e w2 ⟨rfl, hb2⟩
    have S2 := Lib.hid (S1.out.on hb2)
    clear hb2 d0 d1 d2 d3 d4 d5 d6 d7 d8 d9
    have d0 : w2.cell? ⟨w.heap.size, 0, none⟩ = some (.bool perm) := S2.out.cells 0
    have d1 : w2.cell? ⟨w.heap.size, 1, none⟩ = some (.int .i64 proto) := S2.out.cells 1
    have d2 : w2.cell? ⟨w.heap.size, 2, none⟩ = some (.int .u32 sa) := S2.out.cells 2
    have d3 : w2.cell? ⟨w.heap.size, 3, none⟩ = some (.int .i64 sn) := S2.out.cells 3
    have d4 : w2.cell? ⟨w.heap.size, 4, none⟩ = some (.int .u32 da) := S2.out.cells 4
    have d5 : w2.cell? ⟨w.heap.size, 5, none⟩ = some (.int .i64 dn) := S2.out.cells 5
    have d6 : w2.cell? ⟨w.heap.size, 6, none⟩ = some (.int .u32 sl) := S2.out.cells 6
    have d7 : w2.cell? ⟨w.heap.size, 7, none⟩ = some (.int .u32 sh) := S2.out.cells 7
    have d8 : w2.cell? ⟨w.heap.size, 8, none⟩ = some (.int .u32 dl) := S2.out.cells 8
    have d9 : w2.cell? ⟨w.heap.size, 9, none⟩ = some (.int .u32 dh) := S2.out.cells 9
    go_wp2_with fail
    go_at_call 5
    refine (HN.out _).mono ?_
    rintro e w3 ⟨rfl, hb3⟩
    have S3 := Lib.hid (S2.out.on hb3)
    clear hb3 d0 d1 d2 d3 d4 d5 d6 d7 d8 d9
    go_wp2_with fail
    go_at_call 6
    refine (fparse_is s w3 (by omega) (HM.out.on S3.out.bel) (HE.out.on S3.out.bel) (HT.out.on S3.out.bel)).mono ?_
    rintro e v1 ⟨hb, ⟨q, hq, hqt, rfl, _⟩ | ⟨_, rfl⟩⟩
    · have V1 := Lib.hid (S3.out.on hb)
      have HY := Lib.hid (fun (W : World) (h : Tab10 W) => text_yes q W hq.ok hq.pt hq.may h)
      clear hb hq
      rw [hqt] at HY
      obtain ⟨TS, hTS⟩ : ∃ X, s.data.toList = X := ⟨_, rfl⟩
      rw [hTS] at HY
      have k1 : (TS == s.toList) = true := by rw [← hTS]; simp [ByteArray.toList_eq]
      obtain ⟨qa, qb, qc, qd, qe, qf, qg, qh, qi, qj⟩ := q
      simp only [vR, encR] at HY ⊢
      clear hqt hTS
      have h10 := HT.out.on (V1.out.bel.alloc V1.out.bel.size (.cells #[.bool qa, .int .i64 qb, .int .u32 qc, .int .i64 qd, .int .u32 qe, .int .i64 qf, .int .u32 qg, .int .u32 qh, .int .u32 qi, .int .u32 qj] 29))
      have HB1 := Lib.hid (V1.out.bel.alloc V1.out.bel.size (.cells #[.bool qa, .int .i64 qb, .int .u32 qc, .int .i64 qd, .int .u32 qe, .int .i64 qf, .int .u32 qg, .int .u32 qh, .int .u32 qi, .int .u32 qj] 29))
      have H10 := Lib.hid h10
      clear h10
      go_wp2_with fail
      go_at_call 5
      refine (HY.out _ H10.out).mono ?_
      rintro e v2 ⟨rfl, hb2⟩
      have HB2 := Lib.hid (Below.step HB1.out hb2)
      clear hb2
      go_wp2
      go_ret
      exact ⟨rfl, HB2.out⟩
    · have V1 := Lib.hid (S3.out.on hb)
      have HB1 := Lib.hid (V1.out.bel.alloc V1.out.bel.size (.cells #[.bool false, .int .i64 0, .int .u32 0, .int .i64 0, .int .u32 0, .int .i64 0, .int .u32 0, .int .u32 0, .int .u32 0, .int .u32 0] 29))
      clear hb
      have hz := fun W => eqZ W
      have hgz := guardR .eql
      go_wp2
      go_ret
      exact ⟨rfl, HB1.out⟩
  | true =>
    have HN := Lib.hid (fun (W : World) (h10 : Tab10 W) => HTY.out W hmay h10)
    have HGG := Lib.hid (HG.out hmay)
    have hlen := HLEN.out hmay
    obtain ⟨TX, hTX⟩ : ∃ X, rtext r = X := ⟨_, rfl⟩
    have HX := Lib.hid hTX
    rw [hTX] at HN hlen
    have HPA : Hid (∀ W, MaxL W → ErrV W → Tab10 W → Calls Tryd.prog 6 #[.string ⟨TX.toArray⟩] W fun e w' => e = .returned (.tuple #[vR r, .int .i64 0]) ∧ Below W.heap.size W w') := Lib.hid fun W h1 h2 h3 => (fparse_is ⟨TX.toArray⟩ W (by rw [mk_size]; omega) h1 h2 h3).mono fun e w' h => by
      rw [mk_toList] at h
      obtain ⟨hb, ⟨q, _, _, he, hu⟩ | ⟨hn, _⟩⟩ := h
      · have := hu r HGG.out HX.out
        subst this
        exact ⟨he, hb⟩
      · exact absurd HX.out (hn r HGG.out)
    clear HTN HTY HG HLEN hmay hTX hlen HX HGG
    obtain ⟨perm, proto, sa, sn, da, dn, sl, sh, dl, dh⟩ := r
    simp only [vR, encR] at HN HPA hW1 ⊢
    have d0 : W1.cell? ⟨w.heap.size, 0, none⟩ = some (.bool perm) := S1.out.cells 0
    have d1 : W1.cell? ⟨w.heap.size, 1, none⟩ = some (.int .i64 proto) := S1.out.cells 1
    have d2 : W1.cell? ⟨w.heap.size, 2, none⟩ = some (.int .u32 sa) := S1.out.cells 2
    have d3 : W1.cell? ⟨w.heap.size, 3, none⟩ = some (.int .i64 sn) := S1.out.cells 3
    have d4 : W1.cell? ⟨w.heap.size, 4, none⟩ = some (.int .u32 da) := S1.out.cells 4
    have d5 : W1.cell? ⟨w.heap.size, 5, none⟩ = some (.int .i64 dn) := S1.out.cells 5
    have d6 : W1.cell? ⟨w.heap.size, 6, none⟩ = some (.int .u32 sl) := S1.out.cells 6
    have d7 : W1.cell? ⟨w.heap.size, 7, none⟩ = some (.int .u32 sh) := S1.out.cells 7
    have d8 : W1.cell? ⟨w.heap.size, 8, none⟩ = some (.int .u32 dl) := S1.out.cells 8
    have d9 : W1.cell? ⟨w.heap.size, 9, none⟩ = some (.int .u32 dh) := S1.out.cells 9
    go_enter Tryd.func3, Tryd.ntmps3
    go_wp2_with fail
    go_at_call 4
    refine (awake_is _).mono ?_
    rintro e w2 ⟨rfl, hb2⟩
    have S2 := Lib.hid (S1.out.on hb2)
    clear hb2 d0 d1 d2 d3 d4 d5 d6 d7 d8 d9
    have d0 : w2.cell? ⟨w.heap.size, 0, none⟩ = some (.bool perm) := S2.out.cells 0
    have d1 : w2.cell? ⟨w.heap.size, 1, none⟩ = some (.int .i64 proto) := S2.out.cells 1
    have d2 : w2.cell? ⟨w.heap.size, 2, none⟩ = some (.int .u32 sa) := S2.out.cells 2
    have d3 : w2.cell? ⟨w.heap.size, 3, none⟩ = some (.int .i64 sn) := S2.out.cells 3
    have d4 : w2.cell? ⟨w.heap.size, 4, none⟩ = some (.int .u32 da) := S2.out.cells 4
    have d5 : w2.cell? ⟨w.heap.size, 5, none⟩ = some (.int .i64 dn) := S2.out.cells 5
    have d6 : w2.cell? ⟨w.heap.size, 6, none⟩ = some (.int .u32 sl) := S2.out.cells 6
    have d7 : w2.cell? ⟨w.heap.size, 7, none⟩ = some (.int .u32 sh) := S2.out.cells 7
    have d8 : w2.cell? ⟨w.heap.size, 8, none⟩ = some (.int .u32 dl) := S2.out.cells 8
    have d9 : w2.cell? ⟨w.heap.size, 9, none⟩ = some (.int .u32 dh) := S2.out.cells 9
    go_wp2_with fail
    go_at_call 5
    refine (HN.out _ (HT.out.on S2.out.bel)).mono ?_
    rintro e w3 ⟨rfl, hb3⟩
    have S3 := Lib.hid (S2.out.on hb3)
    clear hb3 d0 d1 d2 d3 d4 d5 d6 d7 d8 d9
    go_wp2_with fail
    go_at_call 6
    refine (HPA.out _ (HM.out.on S3.out.bel) (HE.out.on S3.out.bel) (HT.out.on S3.out.bel)).mono ?_
    rintro e w4 ⟨rfl, hb4⟩
    have S4 := Lib.hid (S3.out.on hb4)
    clear hb4
    have hgn := guardR .neq
    have hne := fun W => neqR perm proto sa sn da dn sl sh dl dh W
    have S5 : Hid (Bx w (w4.alloc (.cells #[.bool perm, .int .i64 proto, .int .u32 sa, .int .i64 sn, .int .u32 da, .int .i64 dn, .int .u32 sl, .int .u32 sh, .int .u32 dl, .int .u32 dh] 29)) w.heap.size 29 [.bool perm, .int .i64 proto, .int .u32 sa, .int .i64 sn, .int .u32 da, .int .i64 dn, .int .u32 sl, .int .u32 sh, .int .u32 dl, .int .u32 dh]) := Lib.hid (S4.out.on ((Below.refl _ _).alloc (Nat.le_refl _) _))
    have d0 : (w4.alloc (.cells #[.bool perm, .int .i64 proto, .int .u32 sa, .int .i64 sn, .int .u32 da, .int .i64 dn, .int .u32 sl, .int .u32 sh, .int .u32 dl, .int .u32 dh] 29)).cell? ⟨w.heap.size, 0, none⟩ = some (.bool perm) := S5.out.cells 0
    have d1 : (w4.alloc (.cells #[.bool perm, .int .i64 proto, .int .u32 sa, .int .i64 sn, .int .u32 da, .int .i64 dn, .int .u32 sl, .int .u32 sh, .int .u32 dl, .int .u32 dh] 29)).cell? ⟨w.heap.size, 1, none⟩ = some (.int .i64 proto) := S5.out.cells 1
    have d2 : (w4.alloc (.cells #[.bool perm, .int .i64 proto, .int .u32 sa, .int .i64 sn, .int .u32 da, .int .i64 dn, .int .u32 sl, .int .u32 sh, .int .u32 dl, .int .u32 dh] 29)).cell? ⟨w.heap.size, 2, none⟩ = some (.int .u32 sa) := S5.out.cells 2
    have d3 : (w4.alloc (.cells #[.bool perm, .int .i64 proto, .int .u32 sa, .int .i64 sn, .int .u32 da, .int .i64 dn, .int .u32 sl, .int .u32 sh, .int .u32 dl, .int .u32 dh] 29)).cell? ⟨w.heap.size, 3, none⟩ = some (.int .i64 sn) := S5.out.cells 3
    have d4 : (w4.alloc (.cells #[.bool perm, .int .i64 proto, .int .u32 sa, .int .i64 sn, .int .u32 da, .int .i64 dn, .int .u32 sl, .int .u32 sh, .int .u32 dl, .int .u32 dh] 29)).cell? ⟨w.heap.size, 4, none⟩ = some (.int .u32 da) := S5.out.cells 4
    have d5 : (w4.alloc (.cells #[.bool perm, .int .i64 proto, .int .u32 sa, .int .i64 sn, .int .u32 da, .int .i64 dn, .int .u32 sl, .int .u32 sh, .int .u32 dl, .int .u32 dh] 29)).cell? ⟨w.heap.size, 5, none⟩ = some (.int .i64 dn) := S5.out.cells 5
    have d6 : (w4.alloc (.cells #[.bool perm, .int .i64 proto, .int .u32 sa, .int .i64 sn, .int .u32 da, .int .i64 dn, .int .u32 sl, .int .u32 sh, .int .u32 dl, .int .u32 dh] 29)).cell? ⟨w.heap.size, 6, none⟩ = some (.int .u32 sl) := S5.out.cells 6
    have d7 : (w4.alloc (.cells #[.bool perm, .int .i64 proto, .int .u32 sa, .int .i64 sn, .int .u32 da, .int .i64 dn, .int .u32 sl, .int .u32 sh, .int .u32 dl, .int .u32 dh] 29)).cell? ⟨w.heap.size, 7, none⟩ = some (.int .u32 sh) := S5.out.cells 7
    have d8 : (w4.alloc (.cells #[.bool perm, .int .i64 proto, .int .u32 sa, .int .i64 sn, .int .u32 da, .int .i64 dn, .int .u32 sl, .int .u32 sh, .int .u32 dl, .int .u32 dh] 29)).cell? ⟨w.heap.size, 8, none⟩ = some (.int .u32 dl) := S5.out.cells 8
    have d9 : (w4.alloc (.cells #[.bool perm, .int .i64 proto, .int .u32 sa, .int .i64 sn, .int .u32 da, .int .i64 dn, .int .u32 sl, .int .u32 sh, .int .u32 dl, .int .u32 dh] 29)).cell? ⟨w.heap.size, 9, none⟩ = some (.int .u32 dh) := S5.out.cells 9
    go_wp2_with fail
    go_at_call 6
    refine (fparse_is s _ (by omega) (HM.out.on S5.out.bel) (HE.out.on S5.out.bel) (HT.out.on S5.out.bel)).mono ?_
    rintro e v1 ⟨hb, ⟨q, hq, hqt, rfl, _⟩ | ⟨_, rfl⟩⟩
    · have V1 := Lib.hid (S5.out.on hb)
      have HY := Lib.hid (fun (W : World) (h : Tab10 W) => text_yes q W hq.ok hq.pt hq.may h)
      clear hb hq
      rw [hqt] at HY
      obtain ⟨TS, hTS⟩ : ∃ X, s.data.toList = X := ⟨_, rfl⟩
      rw [hTS] at HY
      have k1 : (TS == s.toList) = true := by rw [← hTS]; simp [ByteArray.toList_eq]
      obtain ⟨qa, qb, qc, qd, qe, qf, qg, qh, qi, qj⟩ := q
      simp only [vR, encR] at HY ⊢
      clear hqt hTS
      have h10 := HT.out.on (V1.out.bel.alloc V1.out.bel.size (.cells #[.bool qa, .int .i64 qb, .int .u32 qc, .int .i64 qd, .int .u32 qe, .int .i64 qf, .int .u32 qg, .int .u32 qh, .int .u32 qi, .int .u32 qj] 29))
      have HB1 := Lib.hid (V1.out.bel.alloc V1.out.bel.size (.cells #[.bool qa, .int .i64 qb, .int .u32 qc, .int .i64 qd, .int .u32 qe, .int .i64 qf, .int .u32 qg, .int .u32 qh, .int .u32 qi, .int .u32 qj] 29))
      have H10 := Lib.hid h10
      clear h10
      go_wp2_with fail
      go_at_call 5
      refine (HY.out _ H10.out).mono ?_
      rintro e v2 ⟨rfl, hb2⟩
      have HB2 := Lib.hid (Below.step HB1.out hb2)
      clear hb2
      go_wp2
      go_ret
      exact ⟨rfl, HB2.out⟩
    · have V1 := Lib.hid (S5.out.on hb)
      have HB1 := Lib.hid (V1.out.bel.alloc V1.out.bel.size (.cells #[.bool false, .int .i64 0, .int .u32 0, .int .i64 0, .int .u32 0, .int .i64 0, .int .u32 0, .int .u32 0, .int .u32 0, .int .u32 0] 29))
      clear hb
      have hz := fun W => eqZ W
      have hgz := guardR .eql
      go_wp2
      go_ret
      exact ⟨rfl, HB1.out⟩
end Go.Proofs.YtipdhokcjgojoaaDoor
