/- span and Text of package waymarkref10: what they hand back for whatever rule. No condition but those named. -/
import Derived.Test.YtgggmhaopcgkkaaGreatDoorFbR
import Derived.Test.YtgggmhaopcgkkaaGreatDoorRText
namespace Go.Proofs.YtgggmhaopcgkkaaGreatDoor
open Go.RowKit
set_option maxRecDepth 100000 in
set_option maxHeartbeats 4000000 in
theorem span_is (a b : Int) (w : World) (a0 : 0 ≤ a) (a1 : a < 4294967296) (b0 : 0 ≤ b) (b1 : b < 4294967296) : Calls Tryz.prog 22 #[.agg #[.int .u32 a, .int .u32 b]] w fun e w' => e = .returned (.string ⟨(portsT a b).toArray⟩) ∧ Below w.heap.size w w' := by
  have hl1 := itoa_len a (by omega) (by omega)
  have hl2 := itoa_len b (by omega) (by omega)
  have HA := Lib.hid (IntWalk.i64_in a (by omega))
  have HB := Lib.hid (IntWalk.i64_in b (by omega))
  have HP : Hid (portsT a b = Lib.itoa a ++ 45 :: Lib.itoa b) := Lib.hid rfl
  have hL1 : (9223372036854775807 < (Lib.itoa a).length + 1) = False := by simp; omega
  have hL2 : (9223372036854775807 < (Lib.itoa a).length + 1 + (Lib.itoa b).length) = False := by simp; omega
  clear hl1 hl2
  have hA := HA.out
  have hB := HB.out
  go_enter Tryz.func22, Tryz.ntmps22
  go_wp2_with fail
  refine wp_region_grows (by kernel_rfl) (by kernel_rfl) ?_
  refine grows_fact w.heap.size 0 (.int .u32 a) (by go_simp) (by simp) fun r0 => ?_
  refine grows_fact w.heap.size 1 (.int .u32 b) (by go_simp) (by simp) fun r1 => ?_
  repeat (go_big_quiet_step ((first | (go_at_call 20; with_reducible exact Calls.grows_of (rnumber_is a _ (by omega) (by omega))) | (go_at_call 20; with_reducible exact Calls.grows_of (rnumber_is b _ (by omega) (by omega))))))
  refine wpQuiet_nil ?_
  rintro wB ⟨⟨_, hswB⟩, rfl⟩
  clear r0 r1
  go_wp2
  go_ret
  refine ⟨ret_str (WideShapes.bytes_inj ?_), Below.step ((Below.refl _ _).alloc (Nat.le_refl _) _) hswB⟩
  rw [HP.out]
  simp
theorem rtext_no (r : RuleD) (w : World) (hr : r.ok) (hm : mayB r = false) : Calls Tryz.prog 6 #[vR r] w fun e w' => e = .returned (.tuple #[.string ⟨#[]⟩, .int .i64 121]) ∧ Below w.heap.size w w' := by
  obtain ⟨W1, hW1⟩ : ∃ X, w.alloc (.cells (encR r).toArray 29) = X := ⟨_, rfl⟩
  have S1 : Hid (Bx w W1 w.heap.size 29 (encR r)) := Lib.hid (by rw [← hW1]; exact Bx.mk1 _ _ _)
  have HM := Lib.hid (may_is r W1 hr)
  rw [hm] at HM
  obtain ⟨perm, proto, sa, sn, da, dn, sl, sh, dl, dh⟩ := r
  simp only [vR, encR] at HM hW1 ⊢
  have x0 : W1.cell? ⟨w.heap.size, 0, none⟩ = some (.bool perm) := S1.out.cells 0
  have x1 : W1.cell? ⟨w.heap.size, 1, none⟩ = some (.int .i64 proto) := S1.out.cells 1
  have x2 : W1.cell? ⟨w.heap.size, 2, none⟩ = some (.int .u32 sa) := S1.out.cells 2
  have x3 : W1.cell? ⟨w.heap.size, 3, none⟩ = some (.int .i64 sn) := S1.out.cells 3
  have x4 : W1.cell? ⟨w.heap.size, 4, none⟩ = some (.int .u32 da) := S1.out.cells 4
  have x5 : W1.cell? ⟨w.heap.size, 5, none⟩ = some (.int .i64 dn) := S1.out.cells 5
  have x6 : W1.cell? ⟨w.heap.size, 6, none⟩ = some (.int .u32 sl) := S1.out.cells 6
  have x7 : W1.cell? ⟨w.heap.size, 7, none⟩ = some (.int .u32 sh) := S1.out.cells 7
  have x8 : W1.cell? ⟨w.heap.size, 8, none⟩ = some (.int .u32 dl) := S1.out.cells 8
  have x9 : W1.cell? ⟨w.heap.size, 9, none⟩ = some (.int .u32 dh) := S1.out.cells 9
  clear hm hr
  go_enter Tryz.func6, Tryz.ntmps6
  go_wp2_with fail
  go_at_call 19
  refine HM.out.mono ?_
  rintro e w2 ⟨rfl, hb2⟩
  have HB2 := Lib.hid hb2
  clear hb2
  go_wp2
  go_ret2
  exact ⟨rfl, (S1.out.on HB2.out).bel⟩
set_option maxRecDepth 100000 in
set_option maxHeartbeats 8000000 in
theorem rtext_ta (sa sn da dn sl sh dl dh : Int) (w : World) (hr : (⟨true, -1, sa, sn, da, dn, sl, sh, dl, dh⟩ : RuleD).ok) (hp : PortsOk ⟨true, -1, sa, sn, da, dn, sl, sh, dl, dh⟩) (hm : mayB ⟨true, -1, sa, sn, da, dn, sl, sh, dl, dh⟩ = true) : Calls Tryz.prog 6 #[.agg #[.bool true, .int .i64 (-1), .int .u32 sa, .int .i64 sn, .int .u32 da, .int .i64 dn, .int .u32 sl, .int .u32 sh, .int .u32 dl, .int .u32 dh]] w fun e w' => e = .returned (.tuple #[.string ⟨(rtext ⟨true, -1, sa, sn, da, dn, sl, sh, dl, dh⟩).toArray⟩, .int .i64 0]) ∧ Below w.heap.size w w' := by
  obtain ⟨W1, hW1⟩ : ∃ X, w.alloc (.cells #[.bool true, .int .i64 (-1), .int .u32 sa, .int .i64 sn, .int .u32 da, .int .i64 dn, .int .u32 sl, .int .u32 sh, .int .u32 dl, .int .u32 dh] 29) = X := ⟨_, rfl⟩
  have S1 : Hid (Bx w W1 w.heap.size 29 [.bool true, .int .i64 (-1), .int .u32 sa, .int .i64 sn, .int .u32 da, .int .i64 dn, .int .u32 sl, .int .u32 sh, .int .u32 dl, .int .u32 dh]) := Lib.hid (by rw [← hW1]; exact Bx.mk1 _ _ _)
  have HM := Lib.hid (may_is ⟨true, -1, sa, sn, da, dn, sl, sh, dl, dh⟩ W1 hr)
  rw [hm] at HM
  have hM := may_p hm
  obtain ⟨p0, p1, cs, cd, ox, ox1, oy, oy1⟩ := hM
  obtain ⟨a0, a1, b0, b1⟩ := hr
  obtain ⟨q0, q1, q2, q3, q4, q5, q6, q7⟩ := hp
  obtain ⟨n0, n1, _⟩ := ck_ok _ _ cs
  obtain ⟨m0, m1, _⟩ := ck_ok _ _ cd
  simp only [vR, encR] at p0 p1 cs cd ox ox1 oy oy1 a0 a1 b0 b1 q0 q1 q2 q3 q4 q5 q6 q7 n0 n1 m0 m1 HM
  have HR : Hid (rtext ⟨true, -1, sa, sn, da, dn, sl, sh, dl, dh⟩ = Lib.join [actT true, protoT (-1), ptext sa.toNat sn, ptext da.toNat dn, portsT sl sh, portsT dl dh] [32]) := Lib.hid rfl
  clear hm cs cd
  have la := text_len sa.toNat (by omega)
  have lb := text_len da.toNat (by omega)
  have lc := itoa_len sn (by omega) (by omega)
  have ld := itoa_len dn (by omega) (by omega)
  have le := itoa_len sl (by omega) (by omega)
  have lf := itoa_len sh (by omega) (by omega)
  have lg := itoa_len dl (by omega) (by omega)
  have lh := itoa_len dh (by omega) (by omega)
  have HPR : Hid (protoT (-1) = [97, 110, 121]) := Lib.hid rfl
  have l1 : (ptext sa.toNat sn).length ≤ 1060 := by unfold ptext; simp; omega
  have l2 : (ptext da.toNat dn).length ≤ 1060 := by unfold ptext; simp; omega
  have l3 : (portsT sl sh).length ≤ 50 := by unfold portsT; simp; omega
  have l4 : (portsT dl dh).length ≤ 50 := by unfold portsT; simp; omega
  obtain ⟨A, hA⟩ : ∃ X, ptext sa.toNat sn = X := ⟨_, rfl⟩
  obtain ⟨B, hB⟩ : ∃ X, ptext da.toNat dn = X := ⟨_, rfl⟩
  obtain ⟨C, hC⟩ : ∃ X, portsT sl sh = X := ⟨_, rfl⟩
  obtain ⟨D, hD⟩ : ∃ X, portsT dl dh = X := ⟨_, rfl⟩
  rw [hA] at l1
  rw [hB] at l2
  rw [hC] at l3
  rw [hD] at l4
  rw [hA, hB, hC, hD, HPR.out] at HR
  have KA : Hid (∀ W, Calls Tryz.prog 21 #[.agg #[.int .u32 sa, .int .i64 sn]] W fun e w' => e = .returned (.string ⟨A.toArray⟩) ∧ Below W.heap.size W w') := Lib.hid fun W => by rw [← hA]; exact rptext_is _ _ W a0 a1 (by omega) (by omega)
  have KB : Hid (∀ W, Calls Tryz.prog 21 #[.agg #[.int .u32 da, .int .i64 dn]] W fun e w' => e = .returned (.string ⟨B.toArray⟩) ∧ Below W.heap.size W w') := Lib.hid fun W => by rw [← hB]; exact rptext_is _ _ W b0 b1 (by omega) (by omega)
  have KC : Hid (∀ W, Calls Tryz.prog 22 #[.agg #[.int .u32 sl, .int .u32 sh]] W fun e w' => e = .returned (.string ⟨C.toArray⟩) ∧ Below W.heap.size W w') := Lib.hid fun W => by rw [← hC]; exact span_is _ _ W q0 q1 q2 q3
  have KD : Hid (∀ W, Calls Tryz.prog 22 #[.agg #[.int .u32 dl, .int .u32 dh]] W fun e w' => e = .returned (.string ⟨D.toArray⟩) ∧ Below W.heap.size W w') := Lib.hid fun W => by rw [← hD]; exact span_is _ _ W q4 q5 q6 q7
  have hL0 : (9223372036854775807 < 7 + 3) = False := by first | (simp; done) | (simp; omega)
  have hL1 : (9223372036854775807 < 7 + 3 + 1) = False := by first | (simp; done) | (simp; omega)
  have hL2 : (9223372036854775807 < 7 + 3 + 1 + A.length) = False := by first | (simp; done) | (simp; omega)
  have hL3 : (9223372036854775807 < 7 + 3 + 1 + A.length + 1) = False := by first | (simp; done) | (simp; omega)
  have hL4 : (9223372036854775807 < 7 + 3 + 1 + A.length + 1 + B.length) = False := by first | (simp; done) | (simp; omega)
  have hL5 : (9223372036854775807 < 7 + 3 + 1 + A.length + 1 + B.length + 1) = False := by first | (simp; done) | (simp; omega)
  have hL6 : (9223372036854775807 < 7 + 3 + 1 + A.length + 1 + B.length + 1 + C.length) = False := by first | (simp; done) | (simp; omega)
  have hL7 : (9223372036854775807 < 7 + 3 + 1 + A.length + 1 + B.length + 1 + C.length + 1) = False := by first | (simp; done) | (simp; omega)
  have hL8 : (9223372036854775807 < 7 + 3 + 1 + A.length + 1 + B.length + 1 + C.length + 1 + D.length) = False := by first | (simp; done) | (simp; omega)
  clear hA hB hC hD la lb lc ld le lf lg lh l1 l2 l3 l4
  have x0 : W1.cell? ⟨w.heap.size, 0, none⟩ = some (.bool true) := S1.out.cells 0
  have x1 : W1.cell? ⟨w.heap.size, 1, none⟩ = some (.int .i64 (-1)) := S1.out.cells 1
  have x2 : W1.cell? ⟨w.heap.size, 2, none⟩ = some (.int .u32 sa) := S1.out.cells 2
  have x3 : W1.cell? ⟨w.heap.size, 3, none⟩ = some (.int .i64 sn) := S1.out.cells 3
  have x4 : W1.cell? ⟨w.heap.size, 4, none⟩ = some (.int .u32 da) := S1.out.cells 4
  have x5 : W1.cell? ⟨w.heap.size, 5, none⟩ = some (.int .i64 dn) := S1.out.cells 5
  have x6 : W1.cell? ⟨w.heap.size, 6, none⟩ = some (.int .u32 sl) := S1.out.cells 6
  have x7 : W1.cell? ⟨w.heap.size, 7, none⟩ = some (.int .u32 sh) := S1.out.cells 7
  have x8 : W1.cell? ⟨w.heap.size, 8, none⟩ = some (.int .u32 dl) := S1.out.cells 8
  have x9 : W1.cell? ⟨w.heap.size, 9, none⟩ = some (.int .u32 dh) := S1.out.cells 9
  go_enter Tryz.func6, Tryz.ntmps6
  go_wp2_with fail
  go_at_call 19
  refine HM.out.mono ?_
  rintro e w2 ⟨rfl, hb2⟩
  have S2 := Lib.hid (S1.out.on hb2)
  clear hb2 x0 x1 x2 x3 x4 x5 x6 x7 x8 x9
  have x0 : w2.cell? ⟨w.heap.size, 0, none⟩ = some (.bool true) := S2.out.cells 0
  have x1 : w2.cell? ⟨w.heap.size, 1, none⟩ = some (.int .i64 (-1)) := S2.out.cells 1
  have x2 : w2.cell? ⟨w.heap.size, 2, none⟩ = some (.int .u32 sa) := S2.out.cells 2
  have x3 : w2.cell? ⟨w.heap.size, 3, none⟩ = some (.int .i64 sn) := S2.out.cells 3
  have x4 : w2.cell? ⟨w.heap.size, 4, none⟩ = some (.int .u32 da) := S2.out.cells 4
  have x5 : w2.cell? ⟨w.heap.size, 5, none⟩ = some (.int .i64 dn) := S2.out.cells 5
  have x6 : w2.cell? ⟨w.heap.size, 6, none⟩ = some (.int .u32 sl) := S2.out.cells 6
  have x7 : w2.cell? ⟨w.heap.size, 7, none⟩ = some (.int .u32 sh) := S2.out.cells 7
  have x8 : w2.cell? ⟨w.heap.size, 8, none⟩ = some (.int .u32 dl) := S2.out.cells 8
  have x9 : w2.cell? ⟨w.heap.size, 9, none⟩ = some (.int .u32 dh) := S2.out.cells 9
  have hsz := S2.out.sz
  go_wp2_with fail
  refine wp_region_grows (by kernel_rfl) (by kernel_rfl) ?_
  refine grows_fact w.heap.size 2 (.int .u32 sa) (by go_simp) hsz fun r2 => ?_
  refine grows_fact w.heap.size 3 (.int .i64 sn) (by go_simp) hsz fun r3 => ?_
  refine grows_fact w.heap.size 4 (.int .u32 da) (by go_simp) hsz fun r4 => ?_
  refine grows_fact w.heap.size 5 (.int .i64 dn) (by go_simp) hsz fun r5 => ?_
  refine grows_fact w.heap.size 6 (.int .u32 sl) (by go_simp) hsz fun r6 => ?_
  refine grows_fact w.heap.size 7 (.int .u32 sh) (by go_simp) hsz fun r7 => ?_
  refine grows_fact w.heap.size 8 (.int .u32 dl) (by go_simp) hsz fun r8 => ?_
  refine grows_fact w.heap.size 9 (.int .u32 dh) (by go_simp) hsz fun r9 => ?_
  clear hsz
  repeat (go_big_quiet_step ((first | (go_at_call 21; with_reducible exact Calls.grows_of (KA.out _)) | (go_at_call 21; with_reducible exact Calls.grows_of (KB.out _)) | (go_at_call 22; with_reducible exact Calls.grows_of (KC.out _)) | (go_at_call 22; with_reducible exact Calls.grows_of (KD.out _)))))
  refine wpQuiet_nil ?_
  rintro wB ⟨⟨_, hswB⟩, rfl⟩
  clear r2 r3 r4 r5 r6 r7 r8 r9
  go_wp2
  go_ret2
  refine ⟨congrArg (fun b : ByteArray => Ending.returned (.tuple #[.string b, .int .i64 0])) (WideShapes.bytes_inj ?_), (S2.out.on hswB).bel⟩
  rw [HR.out]
  simp [Lib.join_cons, Lib.joinTail, actT, permitW]
set_option maxRecDepth 100000 in
set_option maxHeartbeats 8000000 in
theorem rtext_tn (proto sa sn da dn sl sh dl dh : Int) (w : World) (hr : (⟨true, proto, sa, sn, da, dn, sl, sh, dl, dh⟩ : RuleD).ok) (hp : PortsOk ⟨true, proto, sa, sn, da, dn, sl, sh, dl, dh⟩) (hm : mayB ⟨true, proto, sa, sn, da, dn, sl, sh, dl, dh⟩ = true) (hpr : 0 ≤ proto) : Calls Tryz.prog 6 #[.agg #[.bool true, .int .i64 proto, .int .u32 sa, .int .i64 sn, .int .u32 da, .int .i64 dn, .int .u32 sl, .int .u32 sh, .int .u32 dl, .int .u32 dh]] w fun e w' => e = .returned (.tuple #[.string ⟨(rtext ⟨true, proto, sa, sn, da, dn, sl, sh, dl, dh⟩).toArray⟩, .int .i64 0]) ∧ Below w.heap.size w w' := by
  obtain ⟨W1, hW1⟩ : ∃ X, w.alloc (.cells #[.bool true, .int .i64 proto, .int .u32 sa, .int .i64 sn, .int .u32 da, .int .i64 dn, .int .u32 sl, .int .u32 sh, .int .u32 dl, .int .u32 dh] 29) = X := ⟨_, rfl⟩
  have S1 : Hid (Bx w W1 w.heap.size 29 [.bool true, .int .i64 proto, .int .u32 sa, .int .i64 sn, .int .u32 da, .int .i64 dn, .int .u32 sl, .int .u32 sh, .int .u32 dl, .int .u32 dh]) := Lib.hid (by rw [← hW1]; exact Bx.mk1 _ _ _)
  have HM := Lib.hid (may_is ⟨true, proto, sa, sn, da, dn, sl, sh, dl, dh⟩ W1 hr)
  rw [hm] at HM
  have hM := may_p hm
  obtain ⟨p0, p1, cs, cd, ox, ox1, oy, oy1⟩ := hM
  obtain ⟨a0, a1, b0, b1⟩ := hr
  obtain ⟨q0, q1, q2, q3, q4, q5, q6, q7⟩ := hp
  obtain ⟨n0, n1, _⟩ := ck_ok _ _ cs
  obtain ⟨m0, m1, _⟩ := ck_ok _ _ cd
  simp only [vR, encR] at p0 p1 cs cd ox ox1 oy oy1 a0 a1 b0 b1 q0 q1 q2 q3 q4 q5 q6 q7 n0 n1 m0 m1 HM
  have HR : Hid (rtext ⟨true, proto, sa, sn, da, dn, sl, sh, dl, dh⟩ = Lib.join [actT true, protoT (proto), ptext sa.toNat sn, ptext da.toNat dn, portsT sl sh, portsT dl dh] [32]) := Lib.hid rfl
  clear hm cs cd
  have la := text_len sa.toNat (by omega)
  have lb := text_len da.toNat (by omega)
  have lc := itoa_len sn (by omega) (by omega)
  have ld := itoa_len dn (by omega) (by omega)
  have le := itoa_len sl (by omega) (by omega)
  have lf := itoa_len sh (by omega) (by omega)
  have lg := itoa_len dl (by omega) (by omega)
  have lh := itoa_len dh (by omega) (by omega)
  have lp := itoa_len proto (by omega) (by omega)
  have HPR : Hid (protoT proto = Lib.itoa proto) := Lib.hid (by unfold protoT; rw [if_neg (by omega)])
  have l1 : (ptext sa.toNat sn).length ≤ 1060 := by unfold ptext; simp; omega
  have l2 : (ptext da.toNat dn).length ≤ 1060 := by unfold ptext; simp; omega
  have l3 : (portsT sl sh).length ≤ 50 := by unfold portsT; simp; omega
  have l4 : (portsT dl dh).length ≤ 50 := by unfold portsT; simp; omega
  obtain ⟨A, hA⟩ : ∃ X, ptext sa.toNat sn = X := ⟨_, rfl⟩
  obtain ⟨B, hB⟩ : ∃ X, ptext da.toNat dn = X := ⟨_, rfl⟩
  obtain ⟨C, hC⟩ : ∃ X, portsT sl sh = X := ⟨_, rfl⟩
  obtain ⟨D, hD⟩ : ∃ X, portsT dl dh = X := ⟨_, rfl⟩
  rw [hA] at l1
  rw [hB] at l2
  rw [hC] at l3
  rw [hD] at l4
  rw [hA, hB, hC, hD, HPR.out] at HR
  have KA : Hid (∀ W, Calls Tryz.prog 21 #[.agg #[.int .u32 sa, .int .i64 sn]] W fun e w' => e = .returned (.string ⟨A.toArray⟩) ∧ Below W.heap.size W w') := Lib.hid fun W => by rw [← hA]; exact rptext_is _ _ W a0 a1 (by omega) (by omega)
  have KB : Hid (∀ W, Calls Tryz.prog 21 #[.agg #[.int .u32 da, .int .i64 dn]] W fun e w' => e = .returned (.string ⟨B.toArray⟩) ∧ Below W.heap.size W w') := Lib.hid fun W => by rw [← hB]; exact rptext_is _ _ W b0 b1 (by omega) (by omega)
  have KC : Hid (∀ W, Calls Tryz.prog 22 #[.agg #[.int .u32 sl, .int .u32 sh]] W fun e w' => e = .returned (.string ⟨C.toArray⟩) ∧ Below W.heap.size W w') := Lib.hid fun W => by rw [← hC]; exact span_is _ _ W q0 q1 q2 q3
  have KD : Hid (∀ W, Calls Tryz.prog 22 #[.agg #[.int .u32 dl, .int .u32 dh]] W fun e w' => e = .returned (.string ⟨D.toArray⟩) ∧ Below W.heap.size W w') := Lib.hid fun W => by rw [← hD]; exact span_is _ _ W q4 q5 q6 q7
  have hL0 : (9223372036854775807 < 7 + (Lib.itoa proto).length) = False := by first | (simp; done) | (simp; omega)
  have hL1 : (9223372036854775807 < 7 + (Lib.itoa proto).length + 1) = False := by first | (simp; done) | (simp; omega)
  have hL2 : (9223372036854775807 < 7 + (Lib.itoa proto).length + 1 + A.length) = False := by first | (simp; done) | (simp; omega)
  have hL3 : (9223372036854775807 < 7 + (Lib.itoa proto).length + 1 + A.length + 1) = False := by first | (simp; done) | (simp; omega)
  have hL4 : (9223372036854775807 < 7 + (Lib.itoa proto).length + 1 + A.length + 1 + B.length) = False := by first | (simp; done) | (simp; omega)
  have hL5 : (9223372036854775807 < 7 + (Lib.itoa proto).length + 1 + A.length + 1 + B.length + 1) = False := by first | (simp; done) | (simp; omega)
  have hL6 : (9223372036854775807 < 7 + (Lib.itoa proto).length + 1 + A.length + 1 + B.length + 1 + C.length) = False := by first | (simp; done) | (simp; omega)
  have hL7 : (9223372036854775807 < 7 + (Lib.itoa proto).length + 1 + A.length + 1 + B.length + 1 + C.length + 1) = False := by first | (simp; done) | (simp; omega)
  have hL8 : (9223372036854775807 < 7 + (Lib.itoa proto).length + 1 + A.length + 1 + B.length + 1 + C.length + 1 + D.length) = False := by first | (simp; done) | (simp; omega)
  clear hA hB hC hD la lb lc ld le lf lg lh l1 l2 l3 l4 
  have x0 : W1.cell? ⟨w.heap.size, 0, none⟩ = some (.bool true) := S1.out.cells 0
  have x1 : W1.cell? ⟨w.heap.size, 1, none⟩ = some (.int .i64 proto) := S1.out.cells 1
  have x2 : W1.cell? ⟨w.heap.size, 2, none⟩ = some (.int .u32 sa) := S1.out.cells 2
  have x3 : W1.cell? ⟨w.heap.size, 3, none⟩ = some (.int .i64 sn) := S1.out.cells 3
  have x4 : W1.cell? ⟨w.heap.size, 4, none⟩ = some (.int .u32 da) := S1.out.cells 4
  have x5 : W1.cell? ⟨w.heap.size, 5, none⟩ = some (.int .i64 dn) := S1.out.cells 5
  have x6 : W1.cell? ⟨w.heap.size, 6, none⟩ = some (.int .u32 sl) := S1.out.cells 6
  have x7 : W1.cell? ⟨w.heap.size, 7, none⟩ = some (.int .u32 sh) := S1.out.cells 7
  have x8 : W1.cell? ⟨w.heap.size, 8, none⟩ = some (.int .u32 dl) := S1.out.cells 8
  have x9 : W1.cell? ⟨w.heap.size, 9, none⟩ = some (.int .u32 dh) := S1.out.cells 9
  go_enter Tryz.func6, Tryz.ntmps6
  go_wp2_with fail
  go_at_call 19
  refine HM.out.mono ?_
  rintro e w2 ⟨rfl, hb2⟩
  have S2 := Lib.hid (S1.out.on hb2)
  clear hb2 x0 x1 x2 x3 x4 x5 x6 x7 x8 x9
  have x0 : w2.cell? ⟨w.heap.size, 0, none⟩ = some (.bool true) := S2.out.cells 0
  have x1 : w2.cell? ⟨w.heap.size, 1, none⟩ = some (.int .i64 proto) := S2.out.cells 1
  have x2 : w2.cell? ⟨w.heap.size, 2, none⟩ = some (.int .u32 sa) := S2.out.cells 2
  have x3 : w2.cell? ⟨w.heap.size, 3, none⟩ = some (.int .i64 sn) := S2.out.cells 3
  have x4 : w2.cell? ⟨w.heap.size, 4, none⟩ = some (.int .u32 da) := S2.out.cells 4
  have x5 : w2.cell? ⟨w.heap.size, 5, none⟩ = some (.int .i64 dn) := S2.out.cells 5
  have x6 : w2.cell? ⟨w.heap.size, 6, none⟩ = some (.int .u32 sl) := S2.out.cells 6
  have x7 : w2.cell? ⟨w.heap.size, 7, none⟩ = some (.int .u32 sh) := S2.out.cells 7
  have x8 : w2.cell? ⟨w.heap.size, 8, none⟩ = some (.int .u32 dl) := S2.out.cells 8
  have x9 : w2.cell? ⟨w.heap.size, 9, none⟩ = some (.int .u32 dh) := S2.out.cells 9
  go_wp2_with fail
  go_at_call 20
  refine (rnumber_is proto _ (by omega) (by omega)).mono ?_
  rintro e w3 ⟨rfl, hb3⟩
  have S3 := Lib.hid (S2.out.on hb3)
  clear hb3 x0 x1 x2 x3 x4 x5 x6 x7 x8 x9
  have x0 : w3.cell? ⟨w.heap.size, 0, none⟩ = some (.bool true) := S3.out.cells 0
  have x1 : w3.cell? ⟨w.heap.size, 1, none⟩ = some (.int .i64 proto) := S3.out.cells 1
  have x2 : w3.cell? ⟨w.heap.size, 2, none⟩ = some (.int .u32 sa) := S3.out.cells 2
  have x3 : w3.cell? ⟨w.heap.size, 3, none⟩ = some (.int .i64 sn) := S3.out.cells 3
  have x4 : w3.cell? ⟨w.heap.size, 4, none⟩ = some (.int .u32 da) := S3.out.cells 4
  have x5 : w3.cell? ⟨w.heap.size, 5, none⟩ = some (.int .i64 dn) := S3.out.cells 5
  have x6 : w3.cell? ⟨w.heap.size, 6, none⟩ = some (.int .u32 sl) := S3.out.cells 6
  have x7 : w3.cell? ⟨w.heap.size, 7, none⟩ = some (.int .u32 sh) := S3.out.cells 7
  have x8 : w3.cell? ⟨w.heap.size, 8, none⟩ = some (.int .u32 dl) := S3.out.cells 8
  have x9 : w3.cell? ⟨w.heap.size, 9, none⟩ = some (.int .u32 dh) := S3.out.cells 9
  have hsz := S3.out.sz
  go_wp2_with fail
  refine wp_region_grows (by kernel_rfl) (by kernel_rfl) ?_
  refine grows_fact w.heap.size 2 (.int .u32 sa) (by go_simp) hsz fun r2 => ?_
  refine grows_fact w.heap.size 3 (.int .i64 sn) (by go_simp) hsz fun r3 => ?_
  refine grows_fact w.heap.size 4 (.int .u32 da) (by go_simp) hsz fun r4 => ?_
  refine grows_fact w.heap.size 5 (.int .i64 dn) (by go_simp) hsz fun r5 => ?_
  refine grows_fact w.heap.size 6 (.int .u32 sl) (by go_simp) hsz fun r6 => ?_
  refine grows_fact w.heap.size 7 (.int .u32 sh) (by go_simp) hsz fun r7 => ?_
  refine grows_fact w.heap.size 8 (.int .u32 dl) (by go_simp) hsz fun r8 => ?_
  refine grows_fact w.heap.size 9 (.int .u32 dh) (by go_simp) hsz fun r9 => ?_
  clear hsz
  repeat (go_big_quiet_step ((first | (go_at_call 21; with_reducible exact Calls.grows_of (KA.out _)) | (go_at_call 21; with_reducible exact Calls.grows_of (KB.out _)) | (go_at_call 22; with_reducible exact Calls.grows_of (KC.out _)) | (go_at_call 22; with_reducible exact Calls.grows_of (KD.out _)))))
  refine wpQuiet_nil ?_
  rintro wB ⟨⟨_, hswB⟩, rfl⟩
  clear r2 r3 r4 r5 r6 r7 r8 r9
  go_wp2
  go_ret2
  refine ⟨congrArg (fun b : ByteArray => Ending.returned (.tuple #[.string b, .int .i64 0])) (WideShapes.bytes_inj ?_), (S3.out.on hswB).bel⟩
  rw [HR.out]
  simp [Lib.join_cons, Lib.joinTail, actT, permitW]
set_option maxRecDepth 100000 in
set_option maxHeartbeats 8000000 in
theorem rtext_fa (sa sn da dn sl sh dl dh : Int) (w : World) (hr : (⟨false, -1, sa, sn, da, dn, sl, sh, dl, dh⟩ : RuleD).ok) (hp : PortsOk ⟨false, -1, sa, sn, da, dn, sl, sh, dl, dh⟩) (hm : mayB ⟨false, -1, sa, sn, da, dn, sl, sh, dl, dh⟩ = true) : Calls Tryz.prog 6 #[.agg #[.bool false, .int .i64 (-1), .int .u32 sa, .int .i64 sn, .int .u32 da, .int .i64 dn, .int .u32 sl, .int .u32 sh, .int .u32 dl, .int .u32 dh]] w fun e w' => e = .returned (.tuple #[.string ⟨(rtext ⟨false, -1, sa, sn, da, dn, sl, sh, dl, dh⟩).toArray⟩, .int .i64 0]) ∧ Below w.heap.size w w' := by
  obtain ⟨W1, hW1⟩ : ∃ X, w.alloc (.cells #[.bool false, .int .i64 (-1), .int .u32 sa, .int .i64 sn, .int .u32 da, .int .i64 dn, .int .u32 sl, .int .u32 sh, .int .u32 dl, .int .u32 dh] 29) = X := ⟨_, rfl⟩
  have S1 : Hid (Bx w W1 w.heap.size 29 [.bool false, .int .i64 (-1), .int .u32 sa, .int .i64 sn, .int .u32 da, .int .i64 dn, .int .u32 sl, .int .u32 sh, .int .u32 dl, .int .u32 dh]) := Lib.hid (by rw [← hW1]; exact Bx.mk1 _ _ _)
  have HM := Lib.hid (may_is ⟨false, -1, sa, sn, da, dn, sl, sh, dl, dh⟩ W1 hr)
  rw [hm] at HM
  have hM := may_p hm
  obtain ⟨p0, p1, cs, cd, ox, ox1, oy, oy1⟩ := hM
  obtain ⟨a0, a1, b0, b1⟩ := hr
  obtain ⟨q0, q1, q2, q3, q4, q5, q6, q7⟩ := hp
  obtain ⟨n0, n1, _⟩ := ck_ok _ _ cs
  obtain ⟨m0, m1, _⟩ := ck_ok _ _ cd
  simp only [vR, encR] at p0 p1 cs cd ox ox1 oy oy1 a0 a1 b0 b1 q0 q1 q2 q3 q4 q5 q6 q7 n0 n1 m0 m1 HM
  have HR : Hid (rtext ⟨false, -1, sa, sn, da, dn, sl, sh, dl, dh⟩ = Lib.join [actT false, protoT (-1), ptext sa.toNat sn, ptext da.toNat dn, portsT sl sh, portsT dl dh] [32]) := Lib.hid rfl
  clear hm cs cd
  have la := text_len sa.toNat (by omega)
  have lb := text_len da.toNat (by omega)
  have lc := itoa_len sn (by omega) (by omega)
  have ld := itoa_len dn (by omega) (by omega)
  have le := itoa_len sl (by omega) (by omega)
  have lf := itoa_len sh (by omega) (by omega)
  have lg := itoa_len dl (by omega) (by omega)
  have lh := itoa_len dh (by omega) (by omega)
  have HPR : Hid (protoT (-1) = [97, 110, 121]) := Lib.hid rfl
  have l1 : (ptext sa.toNat sn).length ≤ 1060 := by unfold ptext; simp; omega
  have l2 : (ptext da.toNat dn).length ≤ 1060 := by unfold ptext; simp; omega
  have l3 : (portsT sl sh).length ≤ 50 := by unfold portsT; simp; omega
  have l4 : (portsT dl dh).length ≤ 50 := by unfold portsT; simp; omega
  obtain ⟨A, hA⟩ : ∃ X, ptext sa.toNat sn = X := ⟨_, rfl⟩
  obtain ⟨B, hB⟩ : ∃ X, ptext da.toNat dn = X := ⟨_, rfl⟩
  obtain ⟨C, hC⟩ : ∃ X, portsT sl sh = X := ⟨_, rfl⟩
  obtain ⟨D, hD⟩ : ∃ X, portsT dl dh = X := ⟨_, rfl⟩
  rw [hA] at l1
  rw [hB] at l2
  rw [hC] at l3
  rw [hD] at l4
  rw [hA, hB, hC, hD, HPR.out] at HR
  have KA : Hid (∀ W, Calls Tryz.prog 21 #[.agg #[.int .u32 sa, .int .i64 sn]] W fun e w' => e = .returned (.string ⟨A.toArray⟩) ∧ Below W.heap.size W w') := Lib.hid fun W => by rw [← hA]; exact rptext_is _ _ W a0 a1 (by omega) (by omega)
  have KB : Hid (∀ W, Calls Tryz.prog 21 #[.agg #[.int .u32 da, .int .i64 dn]] W fun e w' => e = .returned (.string ⟨B.toArray⟩) ∧ Below W.heap.size W w') := Lib.hid fun W => by rw [← hB]; exact rptext_is _ _ W b0 b1 (by omega) (by omega)
  have KC : Hid (∀ W, Calls Tryz.prog 22 #[.agg #[.int .u32 sl, .int .u32 sh]] W fun e w' => e = .returned (.string ⟨C.toArray⟩) ∧ Below W.heap.size W w') := Lib.hid fun W => by rw [← hC]; exact span_is _ _ W q0 q1 q2 q3
  have KD : Hid (∀ W, Calls Tryz.prog 22 #[.agg #[.int .u32 dl, .int .u32 dh]] W fun e w' => e = .returned (.string ⟨D.toArray⟩) ∧ Below W.heap.size W w') := Lib.hid fun W => by rw [← hD]; exact span_is _ _ W q4 q5 q6 q7
  have hL0 : (9223372036854775807 < 5 + 3) = False := by first | (simp; done) | (simp; omega)
  have hL1 : (9223372036854775807 < 5 + 3 + 1) = False := by first | (simp; done) | (simp; omega)
  have hL2 : (9223372036854775807 < 5 + 3 + 1 + A.length) = False := by first | (simp; done) | (simp; omega)
  have hL3 : (9223372036854775807 < 5 + 3 + 1 + A.length + 1) = False := by first | (simp; done) | (simp; omega)
  have hL4 : (9223372036854775807 < 5 + 3 + 1 + A.length + 1 + B.length) = False := by first | (simp; done) | (simp; omega)
  have hL5 : (9223372036854775807 < 5 + 3 + 1 + A.length + 1 + B.length + 1) = False := by first | (simp; done) | (simp; omega)
  have hL6 : (9223372036854775807 < 5 + 3 + 1 + A.length + 1 + B.length + 1 + C.length) = False := by first | (simp; done) | (simp; omega)
  have hL7 : (9223372036854775807 < 5 + 3 + 1 + A.length + 1 + B.length + 1 + C.length + 1) = False := by first | (simp; done) | (simp; omega)
  have hL8 : (9223372036854775807 < 5 + 3 + 1 + A.length + 1 + B.length + 1 + C.length + 1 + D.length) = False := by first | (simp; done) | (simp; omega)
  clear hA hB hC hD la lb lc ld le lf lg lh l1 l2 l3 l4
  have x0 : W1.cell? ⟨w.heap.size, 0, none⟩ = some (.bool false) := S1.out.cells 0
  have x1 : W1.cell? ⟨w.heap.size, 1, none⟩ = some (.int .i64 (-1)) := S1.out.cells 1
  have x2 : W1.cell? ⟨w.heap.size, 2, none⟩ = some (.int .u32 sa) := S1.out.cells 2
  have x3 : W1.cell? ⟨w.heap.size, 3, none⟩ = some (.int .i64 sn) := S1.out.cells 3
  have x4 : W1.cell? ⟨w.heap.size, 4, none⟩ = some (.int .u32 da) := S1.out.cells 4
  have x5 : W1.cell? ⟨w.heap.size, 5, none⟩ = some (.int .i64 dn) := S1.out.cells 5
  have x6 : W1.cell? ⟨w.heap.size, 6, none⟩ = some (.int .u32 sl) := S1.out.cells 6
  have x7 : W1.cell? ⟨w.heap.size, 7, none⟩ = some (.int .u32 sh) := S1.out.cells 7
  have x8 : W1.cell? ⟨w.heap.size, 8, none⟩ = some (.int .u32 dl) := S1.out.cells 8
  have x9 : W1.cell? ⟨w.heap.size, 9, none⟩ = some (.int .u32 dh) := S1.out.cells 9
  go_enter Tryz.func6, Tryz.ntmps6
  go_wp2_with fail
  go_at_call 19
  refine HM.out.mono ?_
  rintro e w2 ⟨rfl, hb2⟩
  have S2 := Lib.hid (S1.out.on hb2)
  clear hb2 x0 x1 x2 x3 x4 x5 x6 x7 x8 x9
  have x0 : w2.cell? ⟨w.heap.size, 0, none⟩ = some (.bool false) := S2.out.cells 0
  have x1 : w2.cell? ⟨w.heap.size, 1, none⟩ = some (.int .i64 (-1)) := S2.out.cells 1
  have x2 : w2.cell? ⟨w.heap.size, 2, none⟩ = some (.int .u32 sa) := S2.out.cells 2
  have x3 : w2.cell? ⟨w.heap.size, 3, none⟩ = some (.int .i64 sn) := S2.out.cells 3
  have x4 : w2.cell? ⟨w.heap.size, 4, none⟩ = some (.int .u32 da) := S2.out.cells 4
  have x5 : w2.cell? ⟨w.heap.size, 5, none⟩ = some (.int .i64 dn) := S2.out.cells 5
  have x6 : w2.cell? ⟨w.heap.size, 6, none⟩ = some (.int .u32 sl) := S2.out.cells 6
  have x7 : w2.cell? ⟨w.heap.size, 7, none⟩ = some (.int .u32 sh) := S2.out.cells 7
  have x8 : w2.cell? ⟨w.heap.size, 8, none⟩ = some (.int .u32 dl) := S2.out.cells 8
  have x9 : w2.cell? ⟨w.heap.size, 9, none⟩ = some (.int .u32 dh) := S2.out.cells 9
  have hsz := S2.out.sz
  go_wp2_with fail
  refine wp_region_grows (by kernel_rfl) (by kernel_rfl) ?_
  refine grows_fact w.heap.size 2 (.int .u32 sa) (by go_simp) hsz fun r2 => ?_
  refine grows_fact w.heap.size 3 (.int .i64 sn) (by go_simp) hsz fun r3 => ?_
  refine grows_fact w.heap.size 4 (.int .u32 da) (by go_simp) hsz fun r4 => ?_
  refine grows_fact w.heap.size 5 (.int .i64 dn) (by go_simp) hsz fun r5 => ?_
  refine grows_fact w.heap.size 6 (.int .u32 sl) (by go_simp) hsz fun r6 => ?_
  refine grows_fact w.heap.size 7 (.int .u32 sh) (by go_simp) hsz fun r7 => ?_
  refine grows_fact w.heap.size 8 (.int .u32 dl) (by go_simp) hsz fun r8 => ?_
  refine grows_fact w.heap.size 9 (.int .u32 dh) (by go_simp) hsz fun r9 => ?_
  clear hsz
  repeat (go_big_quiet_step ((first | (go_at_call 21; with_reducible exact Calls.grows_of (KA.out _)) | (go_at_call 21; with_reducible exact Calls.grows_of (KB.out _)) | (go_at_call 22; with_reducible exact Calls.grows_of (KC.out _)) | (go_at_call 22; with_reducible exact Calls.grows_of (KD.out _)))))
  refine wpQuiet_nil ?_
  rintro wB ⟨⟨_, hswB⟩, rfl⟩
  clear r2 r3 r4 r5 r6 r7 r8 r9
  go_wp2
  go_ret2
  refine ⟨congrArg (fun b : ByteArray => Ending.returned (.tuple #[.string b, .int .i64 0])) (WideShapes.bytes_inj ?_), (S2.out.on hswB).bel⟩
  rw [HR.out]
  simp [Lib.join_cons, Lib.joinTail, actT, denyW]
set_option maxRecDepth 100000 in
set_option maxHeartbeats 8000000 in
theorem rtext_fn (proto sa sn da dn sl sh dl dh : Int) (w : World) (hr : (⟨false, proto, sa, sn, da, dn, sl, sh, dl, dh⟩ : RuleD).ok) (hp : PortsOk ⟨false, proto, sa, sn, da, dn, sl, sh, dl, dh⟩) (hm : mayB ⟨false, proto, sa, sn, da, dn, sl, sh, dl, dh⟩ = true) (hpr : 0 ≤ proto) : Calls Tryz.prog 6 #[.agg #[.bool false, .int .i64 proto, .int .u32 sa, .int .i64 sn, .int .u32 da, .int .i64 dn, .int .u32 sl, .int .u32 sh, .int .u32 dl, .int .u32 dh]] w fun e w' => e = .returned (.tuple #[.string ⟨(rtext ⟨false, proto, sa, sn, da, dn, sl, sh, dl, dh⟩).toArray⟩, .int .i64 0]) ∧ Below w.heap.size w w' := by
  obtain ⟨W1, hW1⟩ : ∃ X, w.alloc (.cells #[.bool false, .int .i64 proto, .int .u32 sa, .int .i64 sn, .int .u32 da, .int .i64 dn, .int .u32 sl, .int .u32 sh, .int .u32 dl, .int .u32 dh] 29) = X := ⟨_, rfl⟩
  have S1 : Hid (Bx w W1 w.heap.size 29 [.bool false, .int .i64 proto, .int .u32 sa, .int .i64 sn, .int .u32 da, .int .i64 dn, .int .u32 sl, .int .u32 sh, .int .u32 dl, .int .u32 dh]) := Lib.hid (by rw [← hW1]; exact Bx.mk1 _ _ _)
  have HM := Lib.hid (may_is ⟨false, proto, sa, sn, da, dn, sl, sh, dl, dh⟩ W1 hr)
  rw [hm] at HM
  have hM := may_p hm
  obtain ⟨p0, p1, cs, cd, ox, ox1, oy, oy1⟩ := hM
  obtain ⟨a0, a1, b0, b1⟩ := hr
  obtain ⟨q0, q1, q2, q3, q4, q5, q6, q7⟩ := hp
  obtain ⟨n0, n1, _⟩ := ck_ok _ _ cs
  obtain ⟨m0, m1, _⟩ := ck_ok _ _ cd
  simp only [vR, encR] at p0 p1 cs cd ox ox1 oy oy1 a0 a1 b0 b1 q0 q1 q2 q3 q4 q5 q6 q7 n0 n1 m0 m1 HM
  have HR : Hid (rtext ⟨false, proto, sa, sn, da, dn, sl, sh, dl, dh⟩ = Lib.join [actT false, protoT (proto), ptext sa.toNat sn, ptext da.toNat dn, portsT sl sh, portsT dl dh] [32]) := Lib.hid rfl
  clear hm cs cd
  have la := text_len sa.toNat (by omega)
  have lb := text_len da.toNat (by omega)
  have lc := itoa_len sn (by omega) (by omega)
  have ld := itoa_len dn (by omega) (by omega)
  have le := itoa_len sl (by omega) (by omega)
  have lf := itoa_len sh (by omega) (by omega)
  have lg := itoa_len dl (by omega) (by omega)
  have lh := itoa_len dh (by omega) (by omega)
  have lp := itoa_len proto (by omega) (by omega)
  have HPR : Hid (protoT proto = Lib.itoa proto) := Lib.hid (by unfold protoT; rw [if_neg (by omega)])
  have l1 : (ptext sa.toNat sn).length ≤ 1060 := by unfold ptext; simp; omega
  have l2 : (ptext da.toNat dn).length ≤ 1060 := by unfold ptext; simp; omega
  have l3 : (portsT sl sh).length ≤ 50 := by unfold portsT; simp; omega
  have l4 : (portsT dl dh).length ≤ 50 := by unfold portsT; simp; omega
  obtain ⟨A, hA⟩ : ∃ X, ptext sa.toNat sn = X := ⟨_, rfl⟩
  obtain ⟨B, hB⟩ : ∃ X, ptext da.toNat dn = X := ⟨_, rfl⟩
  obtain ⟨C, hC⟩ : ∃ X, portsT sl sh = X := ⟨_, rfl⟩
  obtain ⟨D, hD⟩ : ∃ X, portsT dl dh = X := ⟨_, rfl⟩
  rw [hA] at l1
  rw [hB] at l2
  rw [hC] at l3
  rw [hD] at l4
  rw [hA, hB, hC, hD, HPR.out] at HR
  have KA : Hid (∀ W, Calls Tryz.prog 21 #[.agg #[.int .u32 sa, .int .i64 sn]] W fun e w' => e = .returned (.string ⟨A.toArray⟩) ∧ Below W.heap.size W w') := Lib.hid fun W => by rw [← hA]; exact rptext_is _ _ W a0 a1 (by omega) (by omega)
  have KB : Hid (∀ W, Calls Tryz.prog 21 #[.agg #[.int .u32 da, .int .i64 dn]] W fun e w' => e = .returned (.string ⟨B.toArray⟩) ∧ Below W.heap.size W w') := Lib.hid fun W => by rw [← hB]; exact rptext_is _ _ W b0 b1 (by omega) (by omega)
  have KC : Hid (∀ W, Calls Tryz.prog 22 #[.agg #[.int .u32 sl, .int .u32 sh]] W fun e w' => e = .returned (.string ⟨C.toArray⟩) ∧ Below W.heap.size W w') := Lib.hid fun W => by rw [← hC]; exact span_is _ _ W q0 q1 q2 q3
  have KD : Hid (∀ W, Calls Tryz.prog 22 #[.agg #[.int .u32 dl, .int .u32 dh]] W fun e w' => e = .returned (.string ⟨D.toArray⟩) ∧ Below W.heap.size W w') := Lib.hid fun W => by rw [← hD]; exact span_is _ _ W q4 q5 q6 q7
  have hL0 : (9223372036854775807 < 5 + (Lib.itoa proto).length) = False := by first | (simp; done) | (simp; omega)
  have hL1 : (9223372036854775807 < 5 + (Lib.itoa proto).length + 1) = False := by first | (simp; done) | (simp; omega)
  have hL2 : (9223372036854775807 < 5 + (Lib.itoa proto).length + 1 + A.length) = False := by first | (simp; done) | (simp; omega)
  have hL3 : (9223372036854775807 < 5 + (Lib.itoa proto).length + 1 + A.length + 1) = False := by first | (simp; done) | (simp; omega)
  have hL4 : (9223372036854775807 < 5 + (Lib.itoa proto).length + 1 + A.length + 1 + B.length) = False := by first | (simp; done) | (simp; omega)
  have hL5 : (9223372036854775807 < 5 + (Lib.itoa proto).length + 1 + A.length + 1 + B.length + 1) = False := by first | (simp; done) | (simp; omega)
  have hL6 : (9223372036854775807 < 5 + (Lib.itoa proto).length + 1 + A.length + 1 + B.length + 1 + C.length) = False := by first | (simp; done) | (simp; omega)
  have hL7 : (9223372036854775807 < 5 + (Lib.itoa proto).length + 1 + A.length + 1 + B.length + 1 + C.length + 1) = False := by first | (simp; done) | (simp; omega)
  have hL8 : (9223372036854775807 < 5 + (Lib.itoa proto).length + 1 + A.length + 1 + B.length + 1 + C.length + 1 + D.length) = False := by first | (simp; done) | (simp; omega)
  clear hA hB hC hD la lb lc ld le lf lg lh l1 l2 l3 l4 
  have x0 : W1.cell? ⟨w.heap.size, 0, none⟩ = some (.bool false) := S1.out.cells 0
  have x1 : W1.cell? ⟨w.heap.size, 1, none⟩ = some (.int .i64 proto) := S1.out.cells 1
  have x2 : W1.cell? ⟨w.heap.size, 2, none⟩ = some (.int .u32 sa) := S1.out.cells 2
  have x3 : W1.cell? ⟨w.heap.size, 3, none⟩ = some (.int .i64 sn) := S1.out.cells 3
  have x4 : W1.cell? ⟨w.heap.size, 4, none⟩ = some (.int .u32 da) := S1.out.cells 4
  have x5 : W1.cell? ⟨w.heap.size, 5, none⟩ = some (.int .i64 dn) := S1.out.cells 5
  have x6 : W1.cell? ⟨w.heap.size, 6, none⟩ = some (.int .u32 sl) := S1.out.cells 6
  have x7 : W1.cell? ⟨w.heap.size, 7, none⟩ = some (.int .u32 sh) := S1.out.cells 7
  have x8 : W1.cell? ⟨w.heap.size, 8, none⟩ = some (.int .u32 dl) := S1.out.cells 8
  have x9 : W1.cell? ⟨w.heap.size, 9, none⟩ = some (.int .u32 dh) := S1.out.cells 9
  go_enter Tryz.func6, Tryz.ntmps6
  go_wp2_with fail
  go_at_call 19
  refine HM.out.mono ?_
  rintro e w2 ⟨rfl, hb2⟩
  have S2 := Lib.hid (S1.out.on hb2)
  clear hb2 x0 x1 x2 x3 x4 x5 x6 x7 x8 x9
  have x0 : w2.cell? ⟨w.heap.size, 0, none⟩ = some (.bool false) := S2.out.cells 0
  have x1 : w2.cell? ⟨w.heap.size, 1, none⟩ = some (.int .i64 proto) := S2.out.cells 1
  have x2 : w2.cell? ⟨w.heap.size, 2, none⟩ = some (.int .u32 sa) := S2.out.cells 2
  have x3 : w2.cell? ⟨w.heap.size, 3, none⟩ = some (.int .i64 sn) := S2.out.cells 3
  have x4 : w2.cell? ⟨w.heap.size, 4, none⟩ = some (.int .u32 da) := S2.out.cells 4
  have x5 : w2.cell? ⟨w.heap.size, 5, none⟩ = some (.int .i64 dn) := S2.out.cells 5
  have x6 : w2.cell? ⟨w.heap.size, 6, none⟩ = some (.int .u32 sl) := S2.out.cells 6
  have x7 : w2.cell? ⟨w.heap.size, 7, none⟩ = some (.int .u32 sh) := S2.out.cells 7
  have x8 : w2.cell? ⟨w.heap.size, 8, none⟩ = some (.int .u32 dl) := S2.out.cells 8
  have x9 : w2.cell? ⟨w.heap.size, 9, none⟩ = some (.int .u32 dh) := S2.out.cells 9
  go_wp2_with fail
  go_at_call 20
  refine (rnumber_is proto _ (by omega) (by omega)).mono ?_
  rintro e w3 ⟨rfl, hb3⟩
  have S3 := Lib.hid (S2.out.on hb3)
  clear hb3 x0 x1 x2 x3 x4 x5 x6 x7 x8 x9
  have x0 : w3.cell? ⟨w.heap.size, 0, none⟩ = some (.bool false) := S3.out.cells 0
  have x1 : w3.cell? ⟨w.heap.size, 1, none⟩ = some (.int .i64 proto) := S3.out.cells 1
  have x2 : w3.cell? ⟨w.heap.size, 2, none⟩ = some (.int .u32 sa) := S3.out.cells 2
  have x3 : w3.cell? ⟨w.heap.size, 3, none⟩ = some (.int .i64 sn) := S3.out.cells 3
  have x4 : w3.cell? ⟨w.heap.size, 4, none⟩ = some (.int .u32 da) := S3.out.cells 4
  have x5 : w3.cell? ⟨w.heap.size, 5, none⟩ = some (.int .i64 dn) := S3.out.cells 5
  have x6 : w3.cell? ⟨w.heap.size, 6, none⟩ = some (.int .u32 sl) := S3.out.cells 6
  have x7 : w3.cell? ⟨w.heap.size, 7, none⟩ = some (.int .u32 sh) := S3.out.cells 7
  have x8 : w3.cell? ⟨w.heap.size, 8, none⟩ = some (.int .u32 dl) := S3.out.cells 8
  have x9 : w3.cell? ⟨w.heap.size, 9, none⟩ = some (.int .u32 dh) := S3.out.cells 9
  have hsz := S3.out.sz
  go_wp2_with fail
  refine wp_region_grows (by kernel_rfl) (by kernel_rfl) ?_
  refine grows_fact w.heap.size 2 (.int .u32 sa) (by go_simp) hsz fun r2 => ?_
  refine grows_fact w.heap.size 3 (.int .i64 sn) (by go_simp) hsz fun r3 => ?_
  refine grows_fact w.heap.size 4 (.int .u32 da) (by go_simp) hsz fun r4 => ?_
  refine grows_fact w.heap.size 5 (.int .i64 dn) (by go_simp) hsz fun r5 => ?_
  refine grows_fact w.heap.size 6 (.int .u32 sl) (by go_simp) hsz fun r6 => ?_
  refine grows_fact w.heap.size 7 (.int .u32 sh) (by go_simp) hsz fun r7 => ?_
  refine grows_fact w.heap.size 8 (.int .u32 dl) (by go_simp) hsz fun r8 => ?_
  refine grows_fact w.heap.size 9 (.int .u32 dh) (by go_simp) hsz fun r9 => ?_
  clear hsz
  repeat (go_big_quiet_step ((first | (go_at_call 21; with_reducible exact Calls.grows_of (KA.out _)) | (go_at_call 21; with_reducible exact Calls.grows_of (KB.out _)) | (go_at_call 22; with_reducible exact Calls.grows_of (KC.out _)) | (go_at_call 22; with_reducible exact Calls.grows_of (KD.out _)))))
  refine wpQuiet_nil ?_
  rintro wB ⟨⟨_, hswB⟩, rfl⟩
  clear r2 r3 r4 r5 r6 r7 r8 r9
  go_wp2
  go_ret2
  refine ⟨congrArg (fun b : ByteArray => Ending.returned (.tuple #[.string b, .int .i64 0])) (WideShapes.bytes_inj ?_), (S3.out.on hswB).bel⟩
  rw [HR.out]
  simp [Lib.join_cons, Lib.joinTail, actT, denyW]
theorem rtext_yes (r : RuleD) (w : World) (hr : r.ok) (hp : PortsOk r) (hm : mayB r = true) : Calls Tryz.prog 6 #[vR r] w fun e w' => e = .returned (.tuple #[.string ⟨(rtext r).toArray⟩, .int .i64 0]) ∧ Below w.heap.size w w' := by
  have hp0 := (may_p hm).p0
  obtain ⟨perm, proto, sa, sn, da, dn, sl, sh, dl, dh⟩ := r
  simp only at hp0
  by_cases h : proto = -1
  · subst h
    cases perm with
    | false => exact rtext_fa sa sn da dn sl sh dl dh w hr hp hm
    | true => exact rtext_ta sa sn da dn sl sh dl dh w hr hp hm
  · cases perm with
    | false => exact rtext_fn proto sa sn da dn sl sh dl dh w hr hp hm (by omega)
    | true => exact rtext_tn proto sa sn da dn sl sh dl dh w hr hp hm (by omega)
end Go.Proofs.YtgggmhaopcgkkaaGreatDoor
