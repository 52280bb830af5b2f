/- Text of package filter: what it hands back for whatever rule. Condition: the table of package strconv is what its text says. -/
import Derived.Test.YtgggmhaopcgkkaaGreatDoorFbA
import Derived.Deep.RegionHeld3
import Derived.Deep.DeepCutAuto
namespace Go.Proofs.YtgggmhaopcgkkaaGreatDoor
open Go.RowKit
/-- The new list of six words: its block holds six empty texts. -/
structure NB (X : World) (b : Nat) : Prop where
  row : X.heap[b]? = some (.cells #[.string ⟨#[]⟩, .string ⟨#[]⟩, .string ⟨#[]⟩, .string ⟨#[]⟩, .string ⟨#[]⟩, .string ⟨#[]⟩] 56 (0, 0))
theorem NB.on {X X' : World} {b : Nat} (h : NB X b) (hb : Below X.heap.size X X') : NB X' b := ⟨(hb.block b (Array.getElem?_eq_some_iff.1 h.row).1).trans h.row⟩
theorem NB.new {v X' : World} (hb : Below (v.alloc (.cells #[.string ⟨#[]⟩, .string ⟨#[]⟩, .string ⟨#[]⟩, .string ⟨#[]⟩, .string ⟨#[]⟩, .string ⟨#[]⟩] 56)).heap.size (v.alloc (.cells #[.string ⟨#[]⟩, .string ⟨#[]⟩, .string ⟨#[]⟩, .string ⟨#[]⟩, .string ⟨#[]⟩, .string ⟨#[]⟩] 56)) X') : NB X' v.heap.size :=
  NB.on ⟨heap_new' _ _⟩ hb
theorem NB.all {X : World} {b : Nat} (h : NB X b) : (X.cell? ⟨b, 0, none⟩ = some (.string ⟨#[]⟩) ∧ X.cell? ⟨b, 1, none⟩ = some (.string ⟨#[]⟩) ∧ X.cell? ⟨b, 2, none⟩ = some (.string ⟨#[]⟩) ∧ X.cell? ⟨b, 3, none⟩ = some (.string ⟨#[]⟩) ∧ X.cell? ⟨b, 4, none⟩ = some (.string ⟨#[]⟩) ∧ X.cell? ⟨b, 5, none⟩ = some (.string ⟨#[]⟩)) ∧ (X.frozen? ⟨b, 0, none⟩ = false ∧ X.frozen? ⟨b, 1, none⟩ = false ∧ X.frozen? ⟨b, 2, none⟩ = false ∧ X.frozen? ⟨b, 3, none⟩ = false ∧ X.frozen? ⟨b, 4, none⟩ = false ∧ X.frozen? ⟨b, 5, none⟩ = false) := by
  simp [World.cell?, World.frozen?, h.row]
theorem six {w2 X : World} {b : Nat} (h : Below w2.heap.size w2 X) (hb : w2.heap.size ≤ b) (v0 v1 v2 v3 v4 v5 : Value) : Below w2.heap.size w2 ((((((X.setCell ⟨b, 0, none⟩ v0).setCell ⟨b, 1, none⟩ v1).setCell ⟨b, 2, none⟩ v2).setCell ⟨b, 3, none⟩ v3).setCell ⟨b, 4, none⟩ v4).setCell ⟨b, 5, none⟩ v5) :=
  (((((h.setCell (p := ⟨b, 0, none⟩) hb _).setCell (p := ⟨b, 1, none⟩) hb _).setCell (p := ⟨b, 2, none⟩) hb _).setCell (p := ⟨b, 3, none⟩) hb _).setCell (p := ⟨b, 4, none⟩) hb _).setCell (p := ⟨b, 5, none⟩) hb _
theorem rtext_len {r : RuleD} (hr : r.ok) (hp : PortsOk r) (hm : MayP r) : (rtext r).length ≤ 3000 := by
  have h0 : (actT r.perm).length ≤ 6 := by cases r.perm <;> decide
  have h1 : (protoT r.proto).length ≤ 21 := by
    unfold protoT; split
    · decide
    · exact itoa_len _ (by have := hm.p0; omega) (by have := hm.p1; omega)
  have hs := ck_ok _ _ hm.s
  have hd := ck_ok _ _ hm.d
  have a := text_len r.sa.toNat (by have := hr.a0; have := hr.a1; omega)
  have b := text_len r.da.toNat (by have := hr.b0; have := hr.b1; omega)
  have c := itoa_len r.sn (by omega) (by omega)
  have d := itoa_len r.dn (by omega) (by omega)
  have e := itoa_len r.sl (by have := hp.a0; omega) (by have := hp.a1; omega)
  have f := itoa_len r.sh (by have := hp.b0; omega) (by have := hp.b1; omega)
  have g := itoa_len r.dl (by have := hp.c0; omega) (by have := hp.c1; omega)
  have h := itoa_len r.dh (by have := hp.d0; omega) (by have := hp.d1; omega)
  unfold rtext rwords ptext portsT
  rw [Lib.join_cons]
  simp [Lib.joinTail]
  omega
theorem text_no (r : RuleD) (w : World) (hr : r.ok) (hm : mayB r = false) : Calls Tryz.prog 5 #[vR r] w fun e w' => e = .returned (.tuple #[.string ⟨#[]⟩, .int .i64 121]) ∧ Below w.heap.size w w' := by
  obtain ⟨W1, hW1⟩ : ∃ X, w.alloc (.cells (encR r).toArray 29) = X := ⟨_, rfl⟩
  have S1 : Hid (Bx w W1 w.heap.size 29 (encR r)) := Lib.hid (by rw [← hW1]; exact Bx.mk1 _ _ _)
  have HM := Lib.hid (ruleMay_is r W1 hr)
  rw [hm] at HM
  obtain ⟨perm, proto, sa, sn, da, dn, sl, sh, dl, dh⟩ := r
  simp only [vR, encR] at HM hW1 ⊢
  have x0 : W1.cell? ⟨w.heap.size, 0, none⟩ = some (.bool perm) := S1.out.cells 0
  have x1 : W1.cell? ⟨w.heap.size, 1, none⟩ = some (.int .i64 proto) := S1.out.cells 1
  have x2 : W1.cell? ⟨w.heap.size, 2, none⟩ = some (.int .u32 sa) := S1.out.cells 2
  have x3 : W1.cell? ⟨w.heap.size, 3, none⟩ = some (.int .i64 sn) := S1.out.cells 3
  have x4 : W1.cell? ⟨w.heap.size, 4, none⟩ = some (.int .u32 da) := S1.out.cells 4
  have x5 : W1.cell? ⟨w.heap.size, 5, none⟩ = some (.int .i64 dn) := S1.out.cells 5
  have x6 : W1.cell? ⟨w.heap.size, 6, none⟩ = some (.int .u32 sl) := S1.out.cells 6
  have x7 : W1.cell? ⟨w.heap.size, 7, none⟩ = some (.int .u32 sh) := S1.out.cells 7
  have x8 : W1.cell? ⟨w.heap.size, 8, none⟩ = some (.int .u32 dl) := S1.out.cells 8
  have x9 : W1.cell? ⟨w.heap.size, 9, none⟩ = some (.int .u32 dh) := S1.out.cells 9
  clear hm hr
  go_enter Tryz.func5, Tryz.ntmps5
  go_wp2_with fail
  go_at_call 13
  refine HM.out.mono ?_
  rintro e w2 ⟨rfl, hb2⟩
  have HB2 := Lib.hid hb2
  clear hb2
  go_wp2
  go_ret2
  exact ⟨rfl, (S1.out.on HB2.out).bel⟩
/-- Where the six words lie. -/
def WordsAt (w2 : World) (T0 T1 T2 T3 T4 T5 : List UInt8) (s : Value) (X : World) : Prop := ∃ b, s = .pointer (some ⟨b, 0, none⟩) ∧ Below w2.heap.size w2 X ∧ X.heap[b]? = some (.cells #[.string ⟨T0.toArray⟩, .string ⟨T1.toArray⟩, .string ⟨T2.toArray⟩, .string ⟨T3.toArray⟩, .string ⟨T4.toArray⟩, .string ⟨T5.toArray⟩] 56 (0, 0))
theorem WordsAt.last {w2 X : World} {T0 T1 T2 T3 T4 T5 : List UInt8} (h : Below w2.heap.size w2 X) : WordsAt w2 T0 T1 T2 T3 T4 T5 (.pointer (some ⟨X.heap.size, 0, none⟩)) (X.alloc (.cells #[.string ⟨T0.toArray⟩, .string ⟨T1.toArray⟩, .string ⟨T2.toArray⟩, .string ⟨T3.toArray⟩, .string ⟨T4.toArray⟩, .string ⟨T5.toArray⟩] 56)) := ⟨_, rfl, h.alloc h.size _, heap_new' _ _⟩
theorem WordsAt.ahead {w2 X : World} {b : Nat} {T0 T1 T2 T3 T4 T5 : List UInt8} (h : Below w2.heap.size w2 X) (hb : w2.heap.size ≤ b) (hn : NB X b) : WordsAt w2 T0 T1 T2 T3 T4 T5 (.pointer (some ⟨b, 0, none⟩)) ((((((X.setCell ⟨b, 0, none⟩ (.string ⟨T0.toArray⟩)).setCell ⟨b, 1, none⟩ (.string ⟨T1.toArray⟩)).setCell ⟨b, 2, none⟩ (.string ⟨T2.toArray⟩)).setCell ⟨b, 3, none⟩ (.string ⟨T3.toArray⟩)).setCell ⟨b, 4, none⟩ (.string ⟨T4.toArray⟩)).setCell ⟨b, 5, none⟩ (.string ⟨T5.toArray⟩)) := by
  refine ⟨_, rfl, six h hb _ _ _ _ _ _, ?_⟩
  have h1 := heap_set1b _ b 0 (.string ⟨T0.toArray⟩) _ _ _ hn.row
  have h2 := heap_set1b _ b 1 (.string ⟨T1.toArray⟩) _ _ _ h1
  have h3 := heap_set1b _ b 2 (.string ⟨T2.toArray⟩) _ _ _ h2
  have h4 := heap_set1b _ b 3 (.string ⟨T3.toArray⟩) _ _ _ h3
  have h5 := heap_set1b _ b 4 (.string ⟨T4.toArray⟩) _ _ _ h4
  have h6 := heap_set1b _ b 5 (.string ⟨T5.toArray⟩) _ _ _ h5
  rw [h6]
  simp
theorem bal {x v : World} {o : Obj} (h : Below x.heap.size x v) : Below x.heap.size x (v.alloc o) := h.alloc h.size o
theorem bsa {x v w3 : World} {o : Obj} (h : Below x.heap.size x v) (hb : Below (v.alloc o).heap.size (v.alloc o) w3) : Below x.heap.size x w3 := Below.step (bal h) hb
set_option maxRecDepth 100000 in
set_option maxHeartbeats 16000000 in
theorem text_yes (r : RuleD) (w : World) (hr : r.ok) (hp : PortsOk r) (hm : mayB r = true) (ht : Tab10 w) : Calls Tryz.prog 5 #[vR r] w fun e w' => e = .returned (.tuple #[.string ⟨(rtext r).toArray⟩, .int .i64 0]) ∧ Below w.heap.size w w' := by
  obtain ⟨W1, hW1⟩ : ∃ X, w.alloc (.cells (encR r).toArray 29) = X := ⟨_, rfl⟩
  have S1 : Hid (Bx w W1 w.heap.size 29 (encR r)) := Lib.hid (by rw [← hW1]; exact Bx.mk1 _ _ _)
  have HM := Lib.hid (ruleMay_is r W1 hr)
  rw [hm] at HM
  have hM := may_p hm
  obtain ⟨p0, p1, cs, cd, ox, ox1, oy, oy1⟩ := hM
  obtain ⟨a0, a1, b0, b1⟩ := hr
  obtain ⟨q0, q1, q2, q3, q4, q5, q6, q7⟩ := hp
  obtain ⟨n0, n1, _⟩ := ck_ok _ _ cs
  obtain ⟨m0, m1, _⟩ := ck_ok _ _ cd
  have HLEN := Lib.hid (rtext_len ⟨a0, a1, b0, b1⟩ ⟨q0, q1, q2, q3, q4, q5, q6, q7⟩ ⟨p0, p1, cs, cd, ox, ox1, oy, oy1⟩)
  have HR : rtext r = Lib.join (rwords r) [32] := rfl
  unfold rwords at HR
  obtain ⟨perm, proto, sa, sn, da, dn, sl, sh, dl, dh⟩ := r
  simp only at p0 p1 cs cd ox ox1 oy oy1 a0 a1 b0 b1 q0 q1 q2 q3 q4 q5 q6 q7 n0 n1 m0 m1 HR
  have HR0 : Hid (rtext ⟨perm, proto, sa, sn, da, dn, sl, sh, dl, dh⟩ = Lib.join [actT perm, protoT proto, ptext sa.toNat sn, ptext da.toNat dn, portsT sl sh, portsT dl dh] [32]) := Lib.hid HR
  clear HR
  simp only [vR, encR] at HM hW1 ⊢
  have HCE : Hid (∀ W, Below W1.heap.size W1 W → W.cell? ⟨w.heap.size, 0, none⟩ = some (.bool perm) ∧ W.cell? ⟨w.heap.size, 1, none⟩ = some (.int .i64 proto) ∧ W.cell? ⟨w.heap.size, 2, none⟩ = some (.int .u32 sa) ∧ W.cell? ⟨w.heap.size, 3, none⟩ = some (.int .i64 sn) ∧ W.cell? ⟨w.heap.size, 4, none⟩ = some (.int .u32 da) ∧ W.cell? ⟨w.heap.size, 5, none⟩ = some (.int .i64 dn) ∧ W.cell? ⟨w.heap.size, 6, none⟩ = some (.int .u32 sl) ∧ W.cell? ⟨w.heap.size, 7, none⟩ = some (.int .u32 sh) ∧ W.cell? ⟨w.heap.size, 8, none⟩ = some (.int .u32 dl) ∧ W.cell? ⟨w.heap.size, 9, none⟩ = some (.int .u32 dh)) := Lib.hid fun W hb => by
    have h := (S1.out.on hb).cells
    exact ⟨h 0, h 1, h 2, h 3, h 4, h 5, h 6, h 7, h 8, h 9⟩
  obtain ⟨x0, x1, x2, x3, x4, x5, x6, x7, x8, x9⟩ := HCE.out W1 (Below.refl _ _)
  have HT := Lib.hid (ht.on S1.out.bel)
  clear hm ht cs cd
  obtain ⟨T0, hT0⟩ : ∃ X, actT perm = X := ⟨_, rfl⟩
  obtain ⟨T1, hT1⟩ : ∃ X, protoT proto = X := ⟨_, rfl⟩
  obtain ⟨T2, hT2⟩ : ∃ X, ptext sa.toNat sn = X := ⟨_, rfl⟩
  obtain ⟨T3, hT3⟩ : ∃ X, ptext da.toNat dn = X := ⟨_, rfl⟩
  obtain ⟨T4, hT4⟩ : ∃ X, portsT sl sh = X := ⟨_, rfl⟩
  obtain ⟨T5, hT5⟩ : ∃ X, portsT dl dh = X := ⟨_, rfl⟩
  have HR := HR0.out
  rw [hT0, hT1, hT2, hT3, hT4, hT5] at HR
  have HRH := Lib.hid HR
  clear HR HR0
  go_enter Tryz.func5, Tryz.ntmps5
  go_wp2_with fail
  go_at_call 13
  refine HM.out.mono ?_
  rintro e w2 ⟨rfl, hb2⟩
  have HB2 := Lib.hid hb2
  clear hb2 x0 x1 x2 x3 x4 x5 x6 x7 x8 x9
  have HSS : Hid (∀ W, Below w2.heap.size w2 W → W.cell? ⟨w.heap.size, 0, none⟩ = some (.bool perm) ∧ W.cell? ⟨w.heap.size, 1, none⟩ = some (.int .i64 proto) ∧ W.cell? ⟨w.heap.size, 2, none⟩ = some (.int .u32 sa) ∧ W.cell? ⟨w.heap.size, 3, none⟩ = some (.int .i64 sn) ∧ W.cell? ⟨w.heap.size, 4, none⟩ = some (.int .u32 da) ∧ W.cell? ⟨w.heap.size, 5, none⟩ = some (.int .i64 dn) ∧ W.cell? ⟨w.heap.size, 6, none⟩ = some (.int .u32 sl) ∧ W.cell? ⟨w.heap.size, 7, none⟩ = some (.int .u32 sh) ∧ W.cell? ⟨w.heap.size, 8, none⟩ = some (.int .u32 dl) ∧ W.cell? ⟨w.heap.size, 9, none⟩ = some (.int .u32 dh)) := Lib.hid fun W hb => HCE.out W (Below.step HB2.out hb)
  have HTT : Hid (∀ W, Below w2.heap.size w2 W → Tab10 W) := Lib.hid fun W hb => HT.out.on (Below.step HB2.out hb)
  have hb0 : Below w2.heap.size w2 w2 := Below.refl _ _
  obtain ⟨x0, x1, x2, x3, x4, x5, x6, x7, x8, x9⟩ := HSS.out w2 (Below.refl _ _)
  have K0 : Hid (∀ W, Below w2.heap.size w2 W → Calls Tryz.prog 14 #[.bool perm] W fun e w' => e = .returned (.string ⟨T0.toArray⟩) ∧ Below W.heap.size W w') := Lib.hid fun W _ => by rw [← hT0]; exact (actText_is perm W).mono fun e w' ⟨h1, h2⟩ => ⟨h1, h2 ▸ Below.refl _ _⟩
  have K1 : Hid (∀ W, Below w2.heap.size w2 W → Calls Tryz.prog 15 #[.int .i64 proto] W fun e w' => e = .returned (.string ⟨T1.toArray⟩) ∧ Below W.heap.size W w') := Lib.hid fun W hb => by rw [← hT1]; exact protoText_is _ W p0 p1 (HTT.out W hb)
  have K2 : Hid (∀ W, Below w2.heap.size w2 W → Calls Tryz.prog 16 #[.agg #[.int .u32 sa, .int .i64 sn]] W fun e w' => e = .returned (.string ⟨T2.toArray⟩) ∧ Below W.heap.size W w') := Lib.hid fun W hb => by rw [← hT2]; exact ptext_is _ _ W a0 a1 (by omega) (by omega) (HTT.out W hb)
  have K3 : Hid (∀ W, Below w2.heap.size w2 W → Calls Tryz.prog 16 #[.agg #[.int .u32 da, .int .i64 dn]] W fun e w' => e = .returned (.string ⟨T3.toArray⟩) ∧ Below W.heap.size W w') := Lib.hid fun W hb => by rw [← hT3]; exact ptext_is _ _ W b0 b1 (by omega) (by omega) (HTT.out W hb)
  have K4 : Hid (∀ W, Below w2.heap.size w2 W → Calls Tryz.prog 17 #[.agg #[.int .u32 sl, .int .u32 sh]] W fun e w' => e = .returned (.string ⟨T4.toArray⟩) ∧ Below W.heap.size W w') := Lib.hid fun W hb => by rw [← hT4]; exact portsText_is _ _ W q0 q1 q2 q3 (HTT.out W hb)
  have K5 : Hid (∀ W, Below w2.heap.size w2 W → Calls Tryz.prog 17 #[.agg #[.int .u32 dl, .int .u32 dh]] W fun e w' => e = .returned (.string ⟨T5.toArray⟩) ∧ Below W.heap.size W w') := Lib.hid fun W hb => by rw [← hT5]; exact portsText_is _ _ W q4 q5 q6 q7 (HTT.out W hb)
  have HH0 := Lib.hid hT0; have HH1 := Lib.hid hT1; have HH2 := Lib.hid hT2; have HH3 := Lib.hid hT3; have HH4 := Lib.hid hT4; have HH5 := Lib.hid hT5
  clear hT0 hT1 hT2 hT3 hT4 hT5
  go_upto_region 3 with fail
  go_cut [4] (fun s4 wx => WordsAt w2 T0 T1 T2 T3 T4 T5 s4 wx)
  case first =>
    obtain ⟨wd, hwd⟩ : ∃ X, w2.drew = X := ⟨_, rfl⟩
    have hbd : Below w2.heap.size w2 wd := by rw [← hwd]; exact (Below.refl _ _).drew
    go_region_held3 (fun w' => w'.cell? ⟨w.heap.size, 0, none⟩ = some (.bool perm) ∧ w'.cell? ⟨w.heap.size, 1, none⟩ = some (.int .i64 proto) ∧ w'.cell? ⟨w.heap.size, 2, none⟩ = some (.int .u32 sa) ∧ w'.cell? ⟨w.heap.size, 3, none⟩ = some (.int .i64 sn) ∧ w'.cell? ⟨w.heap.size, 4, none⟩ = some (.int .u32 da) ∧ w'.cell? ⟨w.heap.size, 5, none⟩ = some (.int .i64 dn) ∧ w'.cell? ⟨w.heap.size, 6, none⟩ = some (.int .u32 sl) ∧ w'.cell? ⟨w.heap.size, 7, none⟩ = some (.int .u32 sh) ∧ w'.cell? ⟨w.heap.size, 8, none⟩ = some (.int .u32 dl) ∧ w'.cell? ⟨w.heap.size, 9, none⟩ = some (.int .u32 dh)) (first | with_reducible exact HSS.out _ (by first | with_reducible assumption | with_reducible exact hb0.drew | with_reducible exact bal (by with_reducible assumption) | with_reducible exact bal hb0.drew) | with_reducible exact HSS.out _ (six (by first | with_reducible assumption | with_reducible exact hb0.drew | with_reducible exact bal (by with_reducible assumption) | with_reducible exact bal hb0.drew) (Below.size (by first | with_reducible assumption | with_reducible exact hb0.drew)) _ _ _ _ _ _) | (trace_state; fail)) (first
      | (go_at_call 14; ((with_reducible refine (K0.out _ (by first | with_reducible assumption | with_reducible exact hb0.drew | with_reducible exact bal (by with_reducible assumption) | with_reducible exact bal hb0.drew)).mono ?_)); rintro e w3 ⟨rfl, hb3⟩; (first | with_reducible (have hn3 : NB w3 w2.heap.size := NB.new (v := w2.drew) hb3; obtain ⟨⟨y0, y1, y2, y3, y4, y5⟩, y6, y7, y8, y9, ya, yb⟩ := hn3.all) | (have hn3 := NB.new hb3; obtain ⟨⟨y0, y1, y2, y3, y4, y5⟩, y6, y7, y8, y9, ya, yb⟩ := hn3.all) | (have hn3 := NB.on (by assumption) hb3; obtain ⟨⟨y0, y1, y2, y3, y4, y5⟩, y6, y7, y8, y9, ya, yb⟩ := hn3.all) | skip); (first | with_reducible (have hb3 := bsa (x := w2) (by with_reducible assumption) hb3) | with_reducible (have hb3 := bsa (x := w2) hb0.drew hb3) | with_reducible (have hb3 := Below.step (a := w2) (by with_reducible assumption) hb3) | with_reducible (have hb3 := Below.step (a := w2) hb0.drew hb3)))
      | (go_at_call 15; ((with_reducible refine (K1.out _ (by first | with_reducible assumption | with_reducible exact hb0.drew | with_reducible exact bal (by with_reducible assumption) | with_reducible exact bal hb0.drew)).mono ?_)); rintro e w3 ⟨rfl, hb3⟩; (first | with_reducible (have hn3 : NB w3 w2.heap.size := NB.new (v := w2.drew) hb3; obtain ⟨⟨y0, y1, y2, y3, y4, y5⟩, y6, y7, y8, y9, ya, yb⟩ := hn3.all) | (have hn3 := NB.new hb3; obtain ⟨⟨y0, y1, y2, y3, y4, y5⟩, y6, y7, y8, y9, ya, yb⟩ := hn3.all) | (have hn3 := NB.on (by assumption) hb3; obtain ⟨⟨y0, y1, y2, y3, y4, y5⟩, y6, y7, y8, y9, ya, yb⟩ := hn3.all) | skip); (first | with_reducible (have hb3 := bsa (x := w2) (by with_reducible assumption) hb3) | with_reducible (have hb3 := bsa (x := w2) hb0.drew hb3) | with_reducible (have hb3 := Below.step (a := w2) (by with_reducible assumption) hb3) | with_reducible (have hb3 := Below.step (a := w2) hb0.drew hb3)))
      | (go_at_call 16; ((with_reducible refine (K2.out _ (by first | with_reducible assumption | with_reducible exact hb0.drew | with_reducible exact bal (by with_reducible assumption) | with_reducible exact bal hb0.drew)).mono ?_)); rintro e w3 ⟨rfl, hb3⟩; (first | with_reducible (have hn3 : NB w3 w2.heap.size := NB.new (v := w2.drew) hb3; obtain ⟨⟨y0, y1, y2, y3, y4, y5⟩, y6, y7, y8, y9, ya, yb⟩ := hn3.all) | (have hn3 := NB.new hb3; obtain ⟨⟨y0, y1, y2, y3, y4, y5⟩, y6, y7, y8, y9, ya, yb⟩ := hn3.all) | (have hn3 := NB.on (by assumption) hb3; obtain ⟨⟨y0, y1, y2, y3, y4, y5⟩, y6, y7, y8, y9, ya, yb⟩ := hn3.all) | skip); (first | with_reducible (have hb3 := bsa (x := w2) (by with_reducible assumption) hb3) | with_reducible (have hb3 := bsa (x := w2) hb0.drew hb3) | with_reducible (have hb3 := Below.step (a := w2) (by with_reducible assumption) hb3) | with_reducible (have hb3 := Below.step (a := w2) hb0.drew hb3)))
      | (go_at_call 16; ((with_reducible refine (K3.out _ (by first | with_reducible assumption | with_reducible exact hb0.drew | with_reducible exact bal (by with_reducible assumption) | with_reducible exact bal hb0.drew)).mono ?_)); rintro e w3 ⟨rfl, hb3⟩; (first | with_reducible (have hn3 : NB w3 w2.heap.size := NB.new (v := w2.drew) hb3; obtain ⟨⟨y0, y1, y2, y3, y4, y5⟩, y6, y7, y8, y9, ya, yb⟩ := hn3.all) | (have hn3 := NB.new hb3; obtain ⟨⟨y0, y1, y2, y3, y4, y5⟩, y6, y7, y8, y9, ya, yb⟩ := hn3.all) | (have hn3 := NB.on (by assumption) hb3; obtain ⟨⟨y0, y1, y2, y3, y4, y5⟩, y6, y7, y8, y9, ya, yb⟩ := hn3.all) | skip); (first | with_reducible (have hb3 := bsa (x := w2) (by with_reducible assumption) hb3) | with_reducible (have hb3 := bsa (x := w2) hb0.drew hb3) | with_reducible (have hb3 := Below.step (a := w2) (by with_reducible assumption) hb3) | with_reducible (have hb3 := Below.step (a := w2) hb0.drew hb3)))
      | (go_at_call 17; ((with_reducible refine (K4.out _ (by first | with_reducible assumption | with_reducible exact hb0.drew | with_reducible exact bal (by with_reducible assumption) | with_reducible exact bal hb0.drew)).mono ?_)); rintro e w3 ⟨rfl, hb3⟩; (first | with_reducible (have hn3 : NB w3 w2.heap.size := NB.new (v := w2.drew) hb3; obtain ⟨⟨y0, y1, y2, y3, y4, y5⟩, y6, y7, y8, y9, ya, yb⟩ := hn3.all) | (have hn3 := NB.new hb3; obtain ⟨⟨y0, y1, y2, y3, y4, y5⟩, y6, y7, y8, y9, ya, yb⟩ := hn3.all) | (have hn3 := NB.on (by assumption) hb3; obtain ⟨⟨y0, y1, y2, y3, y4, y5⟩, y6, y7, y8, y9, ya, yb⟩ := hn3.all) | skip); (first | with_reducible (have hb3 := bsa (x := w2) (by with_reducible assumption) hb3) | with_reducible (have hb3 := bsa (x := w2) hb0.drew hb3) | with_reducible (have hb3 := Below.step (a := w2) (by with_reducible assumption) hb3) | with_reducible (have hb3 := Below.step (a := w2) hb0.drew hb3)))
      | (go_at_call 17; ((with_reducible refine (K5.out _ (by first | with_reducible assumption | with_reducible exact hb0.drew | with_reducible exact bal (by with_reducible assumption) | with_reducible exact bal hb0.drew)).mono ?_)); rintro e w3 ⟨rfl, hb3⟩; (first | with_reducible (have hn3 : NB w3 w2.heap.size := NB.new (v := w2.drew) hb3; obtain ⟨⟨y0, y1, y2, y3, y4, y5⟩, y6, y7, y8, y9, ya, yb⟩ := hn3.all) | (have hn3 := NB.new hb3; obtain ⟨⟨y0, y1, y2, y3, y4, y5⟩, y6, y7, y8, y9, ya, yb⟩ := hn3.all) | (have hn3 := NB.on (by assumption) hb3; obtain ⟨⟨y0, y1, y2, y3, y4, y5⟩, y6, y7, y8, y9, ya, yb⟩ := hn3.all) | skip); (first | with_reducible (have hb3 := bsa (x := w2) (by with_reducible assumption) hb3) | with_reducible (have hb3 := bsa (x := w2) hb0.drew hb3) | with_reducible (have hb3 := Below.step (a := w2) (by with_reducible assumption) hb3) | with_reducible (have hb3 := Below.step (a := w2) hb0.drew hb3))))
    all_goals
      go_wp2_with fail
      go_meet
      first
        | with_reducible exact WordsAt.last (by with_reducible assumption)
        | with_reducible exact WordsAt.ahead (by with_reducible assumption) (Below.size (by first | with_reducible assumption)) (by with_reducible assumption)
  case rest =>
    obtain ⟨b, rfl, hbx, hrow⟩ := hcut
    have HBX := Lib.hid hbx
    have HROW := Lib.hid hrow
    clear hbx hrow x0 x1 x2 x3 x4 x5 x6 x7 x8 x9 hb0
    have HJ : Hid (Calls Tryz.prog 18 #[.slice (some ⟨b, 0, none⟩) 6 6, .string ⟨#[32]⟩] wc fun e w' => e = .returned (.string ⟨(Lib.join [T0, T1, T2, T3, T4, T5] [32]).toArray⟩) ∧ Below wc.heap.size wc w') := Lib.hid (by
      have h := Tryz.strings_Join b 0 6 [⟨T0.toArray⟩, ⟨T1.toArray⟩, ⟨T2.toArray⟩, ⟨T3.toArray⟩, ⟨T4.toArray⟩, ⟨T5.toArray⟩] ⟨#[32]⟩ wc (fun j x hx => by
        simp only [World.cell?, HROW.out]
        match j, hx with
        | 0, hx => simpa using hx
        | 1, hx => simpa using hx
        | 2, hx => simpa using hx
        | 3, hx => simpa using hx
        | 4, hx => simpa using hx
        | 5, hx => simpa using hx
        | j + 6, hx => simp at hx) (Array.getElem?_eq_some_iff.1 HROW.out).1 (by simp) (by simp) (by
          have := HLEN.out
          rw [HRH.out] at this
          simpa using Nat.le_trans this (by omega))
      simpa using h)
    go_wp2_with fail
    go_at_call 18
    refine HJ.out.mono ?_
    rintro e w9 ⟨rfl, hb9⟩
    have HB9 := Lib.hid hb9
    clear hb9
    go_wp2
    go_ret2
    refine ⟨?_, S1.out.bel.trans ((Below.step HB2.out (Below.step HBX.out HB9.out)).mono S1.out.bel.size)⟩
    have h := HRH.out
    exact congrArg (fun l : List UInt8 => Ending.returned (.tuple #[.string ⟨l.toArray⟩, .int .i64 0])) h.symm
end Go.Proofs.YtgggmhaopcgkkaaGreatDoor
