/- ParseAdvert of package routes at any text of at most 5900 bytes: the advert whose text it is, or none. Conditions: the table of package strconv is what its text says, the variables ErrSyntax and ErrRange of package strconv hold errors. -/
import Derived.Test.YtmbkkjofikijiaaGreatDoorRbY
namespace Go.Proofs.YtmbkkjofikijiaaGreatDoor
open Go.RowKit
def zAv : AvD := ⟨0, 0, 0, 0, 0, [], [], 0, 0, false, 0, [], 0⟩
/-- What ParseAdvert tells of a text. -/
def ParA (l : List UInt8) (q : AvD) (e : Int) : Prop := (e = 0 ∧ mayAv q = true ∧ txA q = l ∧ AdvP l q) ∨ (e = 4 ∧ q = zAv ∧ ∀ p : AvD, mayAv p = true → AvR p → txA p ≠ l)
theorem parseA_no {l : List UInt8} {q : AvD} (h : AdvP l q) (h2 : mayAv q = false ∨ txA q ≠ l) : ParA l zAv 4 := .inr ⟨rfl, rfl, fun p h3 h4 h6 => by
  have e := h.it p h3 h4 h6
  subst e
  rcases h2 with h2 | h2
  · rw [h2] at h3; cases h3
  · exact h2 h6⟩
theorem parseA_yes {l : List UInt8} {q : AvD} (h : AdvP l q) (h1 : mayAv q = true) (h2 : txA q = l) : ParA l q 0 := .inl ⟨rfl, h1, h2, h⟩
set_option maxRecDepth 100000 in
set_option maxHeartbeats 4000000 in
theorem parseA_any (l : List UInt8) (hl : l.length ≤ 5900) (w : World) (ht : Tab10 w) (hE : ErrV w) : Calls Tryz.prog 14 #[.string ⟨l.toArray⟩] w fun e w' => ∃ (q : AvD) (p1 : Option Addr) (c1 : Nat) (p2 : Option Addr) (c2 : Nat) (p3 : Option Addr) (c3 : Nat) (x : Int),
    e = .returned (.tuple #[.agg #[.int .u32 q.a, .int .i64 q.b, .int .u32 q.ho, .int .i64 q.pf, .int .i64 q.me, .slice p1 q.pa.length c1, .slice p2 q.co.length c2, .int .u32 q.pe, .int .u32 q.pi, .bool q.ex, .int .u32 q.og, .slice p3 q.cl.length c3, .int .i64 q.se], .int .i64 x]) ∧ (w'.ownsRow w.heap.size 22 1 (.slice p1 q.pa.length c1) q.pa.length (flatK encU q.pa) ∧ w'.ownsRow w.heap.size 22 1 (.slice p2 q.co.length c2) q.co.length (flatK encU q.co) ∧ w'.ownsRow w.heap.size 23 1 (.slice p3 q.cl.length c3) q.cl.length (flatK encU q.cl)) ∧ ParA l q x ∧ Below w.heap.size w w' := by
  obtain ⟨sb, hsb⟩ : ∃ x, (⟨l.toArray⟩ : ByteArray) = x := ⟨_, rfl⟩
  have hsl : sb.data.toList = l := by rw [← hsb]
  obtain ⟨w1, hw1⟩ : ∃ X, w.alloc (.cells #[.int .u32 0, .int .i64 0, .int .u32 0, .int .i64 0, .int .i64 0, .slice none 0 0, .slice none 0 0, .int .u32 0, .int .u32 0, .bool false, .int .u32 0, .slice none 0 0, .int .i64 0] 31) = X := ⟨_, rfl⟩
  have HB1 : Hid (Below w.heap.size w w1) := Lib.hid (by rw [← hw1]; exact (Below.refl _ _).alloc (Nat.le_refl _) _)
  have HX1 : Hid (w1.heap[w.heap.size]? = some (.cells #[.int .u32 0, .int .i64 0, .int .u32 0, .int .i64 0, .int .i64 0, .slice none 0 0, .slice none 0 0, .int .u32 0, .int .u32 0, .bool false, .int .u32 0, .slice none 0 0, .int .i64 0] 31 (0, 0))) := Lib.hid (by rw [← hw1]; exact heap_new' _ _)
  have HZ1 : Hid (w.heap.size < w1.heap.size) := Lib.hid (Array.getElem?_eq_some_iff.1 HX1.out).1
  have HR := Lib.hid (aread_any l (by omega) w1 (hE.on HB1.out))
  rw [hsb] at HR ⊢
  have HT := Lib.hid ht; have HL := Lib.hid hl; have HSL := Lib.hid hsl
  clear ht hE hl hsl hsb
  go_enter Tryz.func14, Tryz.ntmps14
  go_wp2_with fail
  go_at_call 44
  refine HR.out.mono ?_
  rintro e w2 ⟨q, p1, c1, p2, c2, p3, c3, rfl, ⟨h1, h2, h3⟩, hp, hb2⟩
  obtain ⟨qa, qb, qho, qpf, qme, pa, co, qpe, qpi, qex, qog, cl, qse⟩ := q
  simp only at h1 h2 h3 hp ⊢
  have HP := Lib.hid hp
  have HB2 := Lib.hid hb2
  have HQ1 := Lib.hid h1; have HQ2 := Lib.hid h2; have HQ3 := Lib.hid h3
  obtain ⟨w3, hw3⟩ : ∃ X, w2.alloc (.cells #[.int .u32 qa, .int .i64 qb, .int .u32 qho, .int .i64 qpf, .int .i64 qme, .slice p1 pa.length c1, .slice p2 co.length c2, .int .u32 qpe, .int .u32 qpi, .bool qex, .int .u32 qog, .slice p3 cl.length c3, .int .i64 qse] 31) = X := ⟨_, rfl⟩
  have HB3 : Hid (Below w2.heap.size w2 w3) := Lib.hid (by rw [← hw3]; exact (Below.refl _ _).alloc (Nat.le_refl _) _)
  have HX3 : Hid (w3.heap[w2.heap.size]? = some (.cells #[.int .u32 qa, .int .i64 qb, .int .u32 qho, .int .i64 qpf, .int .i64 qme, .slice p1 pa.length c1, .slice p2 co.length c2, .int .u32 qpe, .int .u32 qpi, .bool qex, .int .u32 qog, .slice p3 cl.length c3, .int .i64 qse] 31 (0, 0))) := Lib.hid (by rw [← hw3]; exact heap_new' _ _)
  have HZ3 : Hid (w2.heap.size < w3.heap.size) := Lib.hid (Array.getElem?_eq_some_iff.1 HX3.out).1
  clear hb2 hp h1 h2 h3
  obtain ⟨x0, x1, x2, x3, x4, x5, x6, x7, x8, x9, x10, x11, x12⟩ : w3.cell? ⟨w2.heap.size, 0, none⟩ = some (.int .u32 qa) ∧ w3.cell? ⟨w2.heap.size, 1, none⟩ = some (.int .i64 qb) ∧ w3.cell? ⟨w2.heap.size, 2, none⟩ = some (.int .u32 qho) ∧ w3.cell? ⟨w2.heap.size, 3, none⟩ = some (.int .i64 qpf) ∧ w3.cell? ⟨w2.heap.size, 4, none⟩ = some (.int .i64 qme) ∧ w3.cell? ⟨w2.heap.size, 5, none⟩ = some (.slice p1 pa.length c1) ∧ w3.cell? ⟨w2.heap.size, 6, none⟩ = some (.slice p2 co.length c2) ∧ w3.cell? ⟨w2.heap.size, 7, none⟩ = some (.int .u32 qpe) ∧ w3.cell? ⟨w2.heap.size, 8, none⟩ = some (.int .u32 qpi) ∧ w3.cell? ⟨w2.heap.size, 9, none⟩ = some (.bool qex) ∧ w3.cell? ⟨w2.heap.size, 10, none⟩ = some (.int .u32 qog) ∧ w3.cell? ⟨w2.heap.size, 11, none⟩ = some (.slice p3 cl.length c3) ∧ w3.cell? ⟨w2.heap.size, 12, none⟩ = some (.int .i64 qse) := by
    have e := HX3.out
    refine ⟨?_, ?_, ?_, ?_, ?_, ?_, ?_, ?_, ?_, ?_, ?_, ?_, ?_⟩ <;> (simp only [World.cell?, e]; rfl)
  have HW3 := Lib.hid hw3
  clear hw3
  have HBB := Lib.hid (Below.step (Below.step HB1.out HB2.out) HB3.out)
  have HLN : Hid (pa.length ≤ 3000 ∧ co.length ≤ 3000 ∧ cl.length ≤ 3000) := Lib.hid (by
    have a1 : 2 * pa.length ≤ l.length + 1 := HP.out.l1
    have a2 : 2 * co.length ≤ l.length + 1 := HP.out.l2
    have a3 : 2 * cl.length ≤ l.length + 1 := HP.out.l3
    have := HL.out
    omega)
  have HTX := Lib.hid (atext_is qa qb qho qpf qme p1 c1 p2 c2 pa co qpe qpi qex qog p3 c3 cl qse HP.out.r.ra.1 HP.out.r.ra.2 HP.out.r.ho HP.out.r.pe HP.out.r.pi HP.out.r.og w3 (RdK.of_own encU_len (own_below HQ1.out HB3.out)) (RdK.of_own encU_len (own_below HQ2.out HB3.out)) (RdK.of_own encU_len (own_below HQ3.out HB3.out)) HP.out.r.pa HP.out.r.co HP.out.r.cl HLN.out.1 HLN.out.2.1 HLN.out.2.2 (HT.out.on HBB.out))
  clear x0 x1 x2 x3 x4 x5 x6 x7 x8 x9 x10 x11 x12
  go_wp2_with fail
  (try rw [HW3.out])
  go_at_call 10
  refine HTX.out.mono ?_
  rintro e w4 ⟨rfl, hb4⟩
  have HB4 := Lib.hid hb4
  have h4 : w4.heap[w2.heap.size]? = some (.cells #[.int .u32 qa, .int .i64 qb, .int .u32 qho, .int .i64 qpf, .int .i64 qme, .slice p1 pa.length c1, .slice p2 co.length c2, .int .u32 qpe, .int .u32 qpi, .bool qex, .int .u32 qog, .slice p3 cl.length c3, .int .i64 qse] 31 (0, 0)) := (hb4.block _ HZ3.out).trans HX3.out
  have g4 : w4.heap[w.heap.size]? = some (.cells #[.int .u32 0, .int .i64 0, .int .u32 0, .int .i64 0, .int .i64 0, .slice none 0 0, .slice none 0 0, .int .u32 0, .int .u32 0, .bool false, .int .u32 0, .slice none 0 0, .int .i64 0] 31 (0, 0)) := (hb4.block _ (Nat.lt_of_lt_of_le HZ1.out (Nat.le_trans HB2.out.size HB3.out.size))).trans ((HB3.out.block _ (Nat.lt_of_lt_of_le HZ1.out HB2.out.size)).trans ((HB2.out.block _ HZ1.out).trans HX1.out))
  clear hb4
  obtain ⟨x0, x1, x2, x3, x4, x5, x6, x7, x8, x9, x10, x11, x12⟩ : w4.cell? ⟨w2.heap.size, 0, none⟩ = some (.int .u32 qa) ∧ w4.cell? ⟨w2.heap.size, 1, none⟩ = some (.int .i64 qb) ∧ w4.cell? ⟨w2.heap.size, 2, none⟩ = some (.int .u32 qho) ∧ w4.cell? ⟨w2.heap.size, 3, none⟩ = some (.int .i64 qpf) ∧ w4.cell? ⟨w2.heap.size, 4, none⟩ = some (.int .i64 qme) ∧ w4.cell? ⟨w2.heap.size, 5, none⟩ = some (.slice p1 pa.length c1) ∧ w4.cell? ⟨w2.heap.size, 6, none⟩ = some (.slice p2 co.length c2) ∧ w4.cell? ⟨w2.heap.size, 7, none⟩ = some (.int .u32 qpe) ∧ w4.cell? ⟨w2.heap.size, 8, none⟩ = some (.int .u32 qpi) ∧ w4.cell? ⟨w2.heap.size, 9, none⟩ = some (.bool qex) ∧ w4.cell? ⟨w2.heap.size, 10, none⟩ = some (.int .u32 qog) ∧ w4.cell? ⟨w2.heap.size, 11, none⟩ = some (.slice p3 cl.length c3) ∧ w4.cell? ⟨w2.heap.size, 12, none⟩ = some (.int .i64 qse) := by
    refine ⟨?_, ?_, ?_, ?_, ?_, ?_, ?_, ?_, ?_, ?_, ?_, ?_, ?_⟩ <;> (simp only [World.cell?, h4]; rfl)
  obtain ⟨z0, z1, z2, z3, z4, z5, z6, z7, z8, z9, z10, z11, z12⟩ : w4.cell? ⟨w.heap.size, 0, none⟩ = some (.int .u32 0) ∧ w4.cell? ⟨w.heap.size, 1, none⟩ = some (.int .i64 0) ∧ w4.cell? ⟨w.heap.size, 2, none⟩ = some (.int .u32 0) ∧ w4.cell? ⟨w.heap.size, 3, none⟩ = some (.int .i64 0) ∧ w4.cell? ⟨w.heap.size, 4, none⟩ = some (.int .i64 0) ∧ w4.cell? ⟨w.heap.size, 5, none⟩ = some (.slice none 0 0) ∧ w4.cell? ⟨w.heap.size, 6, none⟩ = some (.slice none 0 0) ∧ w4.cell? ⟨w.heap.size, 7, none⟩ = some (.int .u32 0) ∧ w4.cell? ⟨w.heap.size, 8, none⟩ = some (.int .u32 0) ∧ w4.cell? ⟨w.heap.size, 9, none⟩ = some (.bool false) ∧ w4.cell? ⟨w.heap.size, 10, none⟩ = some (.int .u32 0) ∧ w4.cell? ⟨w.heap.size, 11, none⟩ = some (.slice none 0 0) ∧ w4.cell? ⟨w.heap.size, 12, none⟩ = some (.int .i64 0) := by
    refine ⟨?_, ?_, ?_, ?_, ?_, ?_, ?_, ?_, ?_, ?_, ?_, ?_, ?_⟩ <;> (simp only [World.cell?, g4]; rfl)
  have hfz : ∀ o, w4.frozen? ⟨w.heap.size, o, none⟩ = false := fun o => by simp [World.frozen?, g4]
  obtain ⟨f0, f1, f2, f3, f4, f5, f6, f7, f8, f9, f10, f11, f12⟩ : w4.frozen? ⟨w.heap.size, 0, none⟩ = false ∧ w4.frozen? ⟨w.heap.size, 1, none⟩ = false ∧ w4.frozen? ⟨w.heap.size, 2, none⟩ = false ∧ w4.frozen? ⟨w.heap.size, 3, none⟩ = false ∧ w4.frozen? ⟨w.heap.size, 4, none⟩ = false ∧ w4.frozen? ⟨w.heap.size, 5, none⟩ = false ∧ w4.frozen? ⟨w.heap.size, 6, none⟩ = false ∧ w4.frozen? ⟨w.heap.size, 7, none⟩ = false ∧ w4.frozen? ⟨w.heap.size, 8, none⟩ = false ∧ w4.frozen? ⟨w.heap.size, 9, none⟩ = false ∧ w4.frozen? ⟨w.heap.size, 10, none⟩ = false ∧ w4.frozen? ⟨w.heap.size, 11, none⟩ = false ∧ w4.frozen? ⟨w.heap.size, 12, none⟩ = false := ⟨hfz 0, hfz 1, hfz 2, hfz 3, hfz 4, hfz 5, hfz 6, hfz 7, hfz 8, hfz 9, hfz 10, hfz 11, hfz 12⟩
  have hz2 : w.heap.size < w4.heap.size := (Array.getElem?_eq_some_iff.1 g4).1
  have hz3 : w2.heap.size < w4.heap.size := (Array.getElem?_eq_some_iff.1 h4).1
  have hne : w.heap.size ≠ w2.heap.size := by have := HZ1.out; have := HB2.out.size; omega
  have HBC := Lib.hid (HB3.out.trans (HB4.out.mono HB3.out.size))
  clear h4 g4 hfz
  obtain ⟨mr, hmr⟩ : ∃ x, mayAv ⟨qa, qb, qho, qpf, qme, pa, co, qpe, qpi, qex, qog, cl, qse⟩ = x := ⟨_, rfl⟩
  have HBD := Lib.hid (Below.step HBB.out HB4.out)
  cases mr with
  | false =>
    have e1 : TxtA ⟨qa, qb, qho, qpf, qme, pa, co, qpe, qpi, qex, qog, cl, qse⟩ = (.string ⟨#[]⟩, 1) := by unfold TxtA; rw [hmr]; rfl
    rw [e1]
    have HPN := Lib.hid (parseA_no HP.out (.inl hmr))
    clear e1 hmr
    go_wp2_with fail
    obtain ⟨wf, hwf⟩ : ∃ X, (((((((((((((w4.setCell ⟨w.heap.size, 0, none⟩ (.int .u32 0)).setCell ⟨w.heap.size, 1, none⟩ (.int .i64 0)).setCell ⟨w.heap.size, 2, none⟩ (.int .u32 0)).setCell ⟨w.heap.size, 3, none⟩ (.int .i64 0)).setCell ⟨w.heap.size, 4, none⟩ (.int .i64 0)).setCell ⟨w.heap.size, 5, none⟩ (.slice none 0 0)).setCell ⟨w.heap.size, 6, none⟩ (.slice none 0 0)).setCell ⟨w.heap.size, 7, none⟩ (.int .u32 0)).setCell ⟨w.heap.size, 8, none⟩ (.int .u32 0)).setCell ⟨w.heap.size, 9, none⟩ (.bool false)).setCell ⟨w.heap.size, 10, none⟩ (.int .u32 0)).setCell ⟨w.heap.size, 11, none⟩ (.slice none 0 0)).setCell ⟨w.heap.size, 12, none⟩ (.int .i64 0)) = X := ⟨_, rfl⟩
    have BF : Hid (Below w.heap.size w wf) := Lib.hid (by rw [← hwf]; exact Below.setCell (p := ⟨w.heap.size, 12, none⟩) (Below.setCell (p := ⟨w.heap.size, 11, none⟩) (Below.setCell (p := ⟨w.heap.size, 10, none⟩) (Below.setCell (p := ⟨w.heap.size, 9, none⟩) (Below.setCell (p := ⟨w.heap.size, 8, none⟩) (Below.setCell (p := ⟨w.heap.size, 7, none⟩) (Below.setCell (p := ⟨w.heap.size, 6, none⟩) (Below.setCell (p := ⟨w.heap.size, 5, none⟩) (Below.setCell (p := ⟨w.heap.size, 4, none⟩) (Below.setCell (p := ⟨w.heap.size, 3, none⟩) (Below.setCell (p := ⟨w.heap.size, 2, none⟩) (Below.setCell (p := ⟨w.heap.size, 1, none⟩) (Below.setCell (p := ⟨w.heap.size, 0, none⟩) (HBD.out) (Nat.le_refl _) _) (Nat.le_refl _) _) (Nat.le_refl _) _) (Nat.le_refl _) _) (Nat.le_refl _) _) (Nat.le_refl _) _) (Nat.le_refl _) _) (Nat.le_refl _) _) (Nat.le_refl _) _) (Nat.le_refl _) _) (Nat.le_refl _) _) (Nat.le_refl _) _) (Nat.le_refl _) _)
    refine bodyPost_ret (by simp [results, Tryz.results14, go_sem, z0, z1, z2, z3, z4, z5, z6, z7, z8, z9, z10, z11, z12]; try rfl) rfl ?_
    rw [hwf]
    exact ⟨zAv, none, 0, none, 0, none, 0, 4, rfl, ⟨World.ownsRow_nil _ _ _ _, World.ownsRow_nil _ _ _ _, World.ownsRow_nil _ _ _ _⟩, HPN.out, BF.out⟩
  | true =>
    have e1 : TxtA ⟨qa, qb, qho, qpf, qme, pa, co, qpe, qpi, qex, qog, cl, qse⟩ = (.string ⟨(txA ⟨qa, qb, qho, qpf, qme, pa, co, qpe, qpi, qex, qog, cl, qse⟩).toArray⟩, 0) := by unfold TxtA; rw [hmr]; rfl
    rw [e1]
    obtain ⟨TX, hTX⟩ : ∃ x, txA ⟨qa, qb, qho, qpf, qme, pa, co, qpe, qpi, qex, qog, cl, qse⟩ = x := ⟨_, rfl⟩
    rw [hTX]
    by_cases hx : TX = l
    · have k1 : (TX == sb.toList) = true := by rw [spell1, HSL.out]; simpa using hx.symm
      have HPY := Lib.hid (parseA_yes HP.out hmr (hTX.trans hx))
      clear e1 hmr hTX hx
      go_wp2_with fail
      obtain ⟨wf, hwf⟩ : ∃ X, (((((((((((((w4.setCell ⟨w.heap.size, 0, none⟩ (.int .u32 qa)).setCell ⟨w.heap.size, 1, none⟩ (.int .i64 qb)).setCell ⟨w.heap.size, 2, none⟩ (.int .u32 qho)).setCell ⟨w.heap.size, 3, none⟩ (.int .i64 qpf)).setCell ⟨w.heap.size, 4, none⟩ (.int .i64 qme)).setCell ⟨w.heap.size, 5, none⟩ (.slice p1 pa.length c1)).setCell ⟨w.heap.size, 6, none⟩ (.slice p2 co.length c2)).setCell ⟨w.heap.size, 7, none⟩ (.int .u32 qpe)).setCell ⟨w.heap.size, 8, none⟩ (.int .u32 qpi)).setCell ⟨w.heap.size, 9, none⟩ (.bool qex)).setCell ⟨w.heap.size, 10, none⟩ (.int .u32 qog)).setCell ⟨w.heap.size, 11, none⟩ (.slice p3 cl.length c3)).setCell ⟨w.heap.size, 12, none⟩ (.int .i64 qse)) = X := ⟨_, rfl⟩
      have BF : Hid (Below w.heap.size w wf) := Lib.hid (by rw [← hwf]; exact Below.setCell (p := ⟨w.heap.size, 12, none⟩) (Below.setCell (p := ⟨w.heap.size, 11, none⟩) (Below.setCell (p := ⟨w.heap.size, 10, none⟩) (Below.setCell (p := ⟨w.heap.size, 9, none⟩) (Below.setCell (p := ⟨w.heap.size, 8, none⟩) (Below.setCell (p := ⟨w.heap.size, 7, none⟩) (Below.setCell (p := ⟨w.heap.size, 6, none⟩) (Below.setCell (p := ⟨w.heap.size, 5, none⟩) (Below.setCell (p := ⟨w.heap.size, 4, none⟩) (Below.setCell (p := ⟨w.heap.size, 3, none⟩) (Below.setCell (p := ⟨w.heap.size, 2, none⟩) (Below.setCell (p := ⟨w.heap.size, 1, none⟩) (Below.setCell (p := ⟨w.heap.size, 0, none⟩) (HBD.out) (Nat.le_refl _) _) (Nat.le_refl _) _) (Nat.le_refl _) _) (Nat.le_refl _) _) (Nat.le_refl _) _) (Nat.le_refl _) _) (Nat.le_refl _) _) (Nat.le_refl _) _) (Nat.le_refl _) _) (Nat.le_refl _) _) (Nat.le_refl _) _) (Nat.le_refl _) _) (Nat.le_refl _) _)
      have OF1 : Hid (wf.ownsRow w.heap.size 22 1 (.slice p1 pa.length c1) pa.length (flatK encU pa)) := Lib.hid (by
        have h := own_setA (o := 12) (u := .int .i64 qse) (own_setA (o := 11) (u := .slice p3 cl.length c3) (own_setA (o := 10) (u := .int .u32 qog) (own_setA (o := 9) (u := .bool qex) (own_setA (o := 8) (u := .int .u32 qpi) (own_setA (o := 7) (u := .int .u32 qpe) (own_setA (o := 6) (u := .slice p2 co.length c2) (own_setA (o := 5) (u := .slice p1 pa.length c1) (own_setA (o := 4) (u := .int .i64 qme) (own_setA (o := 3) (u := .int .i64 qpf) (own_setA (o := 2) (u := .int .u32 qho) (own_setA (o := 1) (u := .int .i64 qb) (own_setA (o := 0) (u := .int .u32 qa) (own_below (own_below HQ1.out HB3.out) HB4.out) HZ1.out) HZ1.out) HZ1.out) HZ1.out) HZ1.out) HZ1.out) HZ1.out) HZ1.out) HZ1.out) HZ1.out) HZ1.out) HZ1.out) HZ1.out
        rw [hwf] at h
        exact own_lowA h (Nat.le_of_lt HZ1.out))
      have OF2 : Hid (wf.ownsRow w.heap.size 22 1 (.slice p2 co.length c2) co.length (flatK encU co)) := Lib.hid (by
        have h := own_setA (o := 12) (u := .int .i64 qse) (own_setA (o := 11) (u := .slice p3 cl.length c3) (own_setA (o := 10) (u := .int .u32 qog) (own_setA (o := 9) (u := .bool qex) (own_setA (o := 8) (u := .int .u32 qpi) (own_setA (o := 7) (u := .int .u32 qpe) (own_setA (o := 6) (u := .slice p2 co.length c2) (own_setA (o := 5) (u := .slice p1 pa.length c1) (own_setA (o := 4) (u := .int .i64 qme) (own_setA (o := 3) (u := .int .i64 qpf) (own_setA (o := 2) (u := .int .u32 qho) (own_setA (o := 1) (u := .int .i64 qb) (own_setA (o := 0) (u := .int .u32 qa) (own_below (own_below HQ2.out HB3.out) HB4.out) HZ1.out) HZ1.out) HZ1.out) HZ1.out) HZ1.out) HZ1.out) HZ1.out) HZ1.out) HZ1.out) HZ1.out) HZ1.out) HZ1.out) HZ1.out
        rw [hwf] at h
        exact own_lowA h (Nat.le_of_lt HZ1.out))
      have OF3 : Hid (wf.ownsRow w.heap.size 23 1 (.slice p3 cl.length c3) cl.length (flatK encU cl)) := Lib.hid (by
        have h := own_setA (o := 12) (u := .int .i64 qse) (own_setA (o := 11) (u := .slice p3 cl.length c3) (own_setA (o := 10) (u := .int .u32 qog) (own_setA (o := 9) (u := .bool qex) (own_setA (o := 8) (u := .int .u32 qpi) (own_setA (o := 7) (u := .int .u32 qpe) (own_setA (o := 6) (u := .slice p2 co.length c2) (own_setA (o := 5) (u := .slice p1 pa.length c1) (own_setA (o := 4) (u := .int .i64 qme) (own_setA (o := 3) (u := .int .i64 qpf) (own_setA (o := 2) (u := .int .u32 qho) (own_setA (o := 1) (u := .int .i64 qb) (own_setA (o := 0) (u := .int .u32 qa) (own_below (own_below HQ3.out HB3.out) HB4.out) HZ1.out) HZ1.out) HZ1.out) HZ1.out) HZ1.out) HZ1.out) HZ1.out) HZ1.out) HZ1.out) HZ1.out) HZ1.out) HZ1.out) HZ1.out
        rw [hwf] at h
        exact own_lowA h (Nat.le_of_lt HZ1.out))
      refine bodyPost_ret (by simp [results, Tryz.results14, go_sem, z0, z1, z2, z3, z4, z5, z6, z7, z8, z9, z10, z11, z12]; try rfl) rfl ?_
      rw [hwf]
      exact ⟨⟨qa, qb, qho, qpf, qme, pa, co, qpe, qpi, qex, qog, cl, qse⟩, p1, c1, p2, c2, p3, c3, 0, rfl, ⟨OF1.out, OF2.out, OF3.out⟩, HPY.out, BF.out⟩
    · have k1 : (TX == sb.toList) = false := by rw [spell1, HSL.out]; simpa using fun e => hx e.symm
      have HPN := Lib.hid (parseA_no HP.out (.inr (by rw [hTX]; exact hx)))
      clear e1 hmr hTX hx
      go_wp2_with fail
      obtain ⟨wf, hwf⟩ : ∃ X, (((((((((((((w4.setCell ⟨w.heap.size, 0, none⟩ (.int .u32 0)).setCell ⟨w.heap.size, 1, none⟩ (.int .i64 0)).setCell ⟨w.heap.size, 2, none⟩ (.int .u32 0)).setCell ⟨w.heap.size, 3, none⟩ (.int .i64 0)).setCell ⟨w.heap.size, 4, none⟩ (.int .i64 0)).setCell ⟨w.heap.size, 5, none⟩ (.slice none 0 0)).setCell ⟨w.heap.size, 6, none⟩ (.slice none 0 0)).setCell ⟨w.heap.size, 7, none⟩ (.int .u32 0)).setCell ⟨w.heap.size, 8, none⟩ (.int .u32 0)).setCell ⟨w.heap.size, 9, none⟩ (.bool false)).setCell ⟨w.heap.size, 10, none⟩ (.int .u32 0)).setCell ⟨w.heap.size, 11, none⟩ (.slice none 0 0)).setCell ⟨w.heap.size, 12, none⟩ (.int .i64 0)) = X := ⟨_, rfl⟩
      have BF : Hid (Below w.heap.size w wf) := Lib.hid (by rw [← hwf]; exact Below.setCell (p := ⟨w.heap.size, 12, none⟩) (Below.setCell (p := ⟨w.heap.size, 11, none⟩) (Below.setCell (p := ⟨w.heap.size, 10, none⟩) (Below.setCell (p := ⟨w.heap.size, 9, none⟩) (Below.setCell (p := ⟨w.heap.size, 8, none⟩) (Below.setCell (p := ⟨w.heap.size, 7, none⟩) (Below.setCell (p := ⟨w.heap.size, 6, none⟩) (Below.setCell (p := ⟨w.heap.size, 5, none⟩) (Below.setCell (p := ⟨w.heap.size, 4, none⟩) (Below.setCell (p := ⟨w.heap.size, 3, none⟩) (Below.setCell (p := ⟨w.heap.size, 2, none⟩) (Below.setCell (p := ⟨w.heap.size, 1, none⟩) (Below.setCell (p := ⟨w.heap.size, 0, none⟩) (HBD.out) (Nat.le_refl _) _) (Nat.le_refl _) _) (Nat.le_refl _) _) (Nat.le_refl _) _) (Nat.le_refl _) _) (Nat.le_refl _) _) (Nat.le_refl _) _) (Nat.le_refl _) _) (Nat.le_refl _) _) (Nat.le_refl _) _) (Nat.le_refl _) _) (Nat.le_refl _) _) (Nat.le_refl _) _)
      refine bodyPost_ret (by simp [results, Tryz.results14, go_sem, z0, z1, z2, z3, z4, z5, z6, z7, z8, z9, z10, z11, z12]; try rfl) rfl ?_
      rw [hwf]
      exact ⟨zAv, none, 0, none, 0, none, 0, 4, rfl, ⟨World.ownsRow_nil _ _ _ _, World.ownsRow_nil _ _ _ _, World.ownsRow_nil _ _ _ _⟩, HPN.out, BF.out⟩
end Go.Proofs.YtmbkkjofikijiaaGreatDoor
