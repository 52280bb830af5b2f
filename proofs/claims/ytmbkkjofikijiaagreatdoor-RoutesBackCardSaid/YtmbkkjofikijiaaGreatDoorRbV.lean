/- Parse of package routes at any text: the route whose text it is, or none. Conditions: the table of package strconv and the words of package routes are what their texts say, the variables ErrSyntax and ErrRange of package strconv hold errors. -/
import Derived.Test.YtmbkkjofikijiaaGreatDoorRbR
import Derived.Test.YtmbkkjofikijiaaGreatDoorRaV
namespace Go.Proofs.YtmbkkjofikijiaaGreatDoor
open Go.RowKit
def zR : RtD := ⟨0, 0, 0, 0, 0, 0, ⟨#[]⟩, 0, false⟩
/-- What Parse tells of a text. -/
def ParP (l : List UInt8) (r : RtD) (e : Int) : Prop := (e = 0 ∧ mayR r = true ∧ txR r = l ∧ (0 ≤ r.a ∧ r.a < 4294967296) ∧ (0 ≤ r.fr) ∧ (0 ≤ r.ho ∧ r.ho < 4294967296) ∧ r.nm.size ≤ l.length ∧ (∀ q : RtD, mayR q = true → 0 ≤ q.a ∧ q.a < 4294967296 → 0 ≤ q.ho ∧ q.ho < 4294967296 → txR q = l → r = q)) ∨
  (e = 4 ∧ r = zR ∧ ∀ q : RtD, mayR q = true → 0 ≤ q.a ∧ q.a < 4294967296 → 0 ≤ q.ho ∧ q.ho < 4294967296 → txR q ≠ l)
theorem parse_no {l : List UInt8} {r : RtD} (h : RouteP l r) (h2 : mayR r = false ∨ txR r ≠ l) : ParP l zR 4 := .inr ⟨rfl, rfl, fun q h3 h4 h5 h6 => by
  have e := h.it q h3 h4 h5 h6
  subst e
  rcases h2 with h2 | h2
  · rw [h2] at h3; cases h3
  · exact h2 h6⟩
theorem parse_yes {l : List UInt8} {r : RtD} (h : RouteP l r) (h1 : mayR r = true) (h2 : txR r = l) : ParP l r 0 := .inl ⟨rfl, h1, h2, h.ra, h.rf, h.rh, h.rn, h.it⟩
set_option maxRecDepth 100000 in
set_option maxHeartbeats 4000000 in
theorem parseR_any (l : List UInt8) (hl : l.length ≤ 100000) (w : World) (ht : Tab10 w) (hs : Src9 w) (hE : ErrV w) : Calls Tryz.prog 12 #[.string ⟨l.toArray⟩] w fun e w' => ∃ (r : RtD) (x : Int), e = .returned (.tuple #[.agg (encRt r).toArray, .int .i64 x]) ∧ ParP l r x ∧ Below w.heap.size w w' := by
  obtain ⟨sb, hsb⟩ : ∃ x, (⟨l.toArray⟩ : ByteArray) = x := ⟨_, rfl⟩
  have hsl : sb.data.toList = l := by rw [← hsb]
  obtain ⟨w1, hw1⟩ : ∃ X, w.alloc (.cells #[.int .u32 0, .int .i64 0, .int .u8 0, .int .i64 0, .int .i64 0, .int .i64 0, .string ⟨#[]⟩, .int .u32 0, .bool false] 27) = X := ⟨_, rfl⟩
  have HB1 : Hid (Below w.heap.size w w1) := Lib.hid (by rw [← hw1]; exact (Below.refl _ _).alloc (Nat.le_refl _) _)
  have HX1 : Hid (w1.heap[w.heap.size]? = some (.cells #[.int .u32 0, .int .i64 0, .int .u8 0, .int .i64 0, .int .i64 0, .int .i64 0, .string ⟨#[]⟩, .int .u32 0, .bool false] 27 (0, 0))) := Lib.hid (by rw [← hw1]; exact heap_new' _ _)
  have HZ1 : Hid (w.heap.size < w1.heap.size) := Lib.hid (Array.getElem?_eq_some_iff.1 HX1.out).1
  have HR := Lib.hid (read_any l hl w1 (hs.on HB1.out) (hE.on HB1.out))
  rw [hsb] at HR ⊢
  have HT := Lib.hid ht; have HS := Lib.hid hs; have HL := Lib.hid hl; have HSL := Lib.hid hsl
  clear ht hs hE hl hsl hsb
  go_enter Tryz.func12, Tryz.ntmps12
  go_wp2_with fail
  go_at_call 39
  refine HR.out.mono ?_
  rintro e w2 ⟨r, rfl, hp, hb2⟩
  obtain ⟨ra, rb, rf, rd, rm, rt, rn, rh, rc⟩ := r
  rw [show (encRt ⟨ra, rb, rf, rd, rm, rt, rn, rh, rc⟩).toArray = #[.int .u32 ra, .int .i64 rb, .int .u8 rf, .int .i64 rd, .int .i64 rm, .int .i64 rt, .string rn, .int .u32 rh, .bool rc] from rfl]
  have HP := Lib.hid hp
  have HB2 := Lib.hid hb2
  obtain ⟨w3, hw3⟩ : ∃ X, w2.alloc (.cells #[.int .u32 ra, .int .i64 rb, .int .u8 rf, .int .i64 rd, .int .i64 rm, .int .i64 rt, .string rn, .int .u32 rh, .bool rc] 27) = X := ⟨_, rfl⟩
  have HB3 : Hid (Below w2.heap.size w2 w3) := Lib.hid (by rw [← hw3]; exact (Below.refl _ _).alloc (Nat.le_refl _) _)
  have HX3 : Hid (w3.heap[w2.heap.size]? = some (.cells #[.int .u32 ra, .int .i64 rb, .int .u8 rf, .int .i64 rd, .int .i64 rm, .int .i64 rt, .string rn, .int .u32 rh, .bool rc] 27 (0, 0))) := Lib.hid (by rw [← hw3]; exact heap_new' _ _)
  have HZ3 : Hid (w2.heap.size < w3.heap.size) := Lib.hid (Array.getElem?_eq_some_iff.1 HX3.out).1
  clear hb2 hp
  obtain ⟨x0, x1, x2, x3, x4, x5, x6, x7, x8⟩ : w3.cell? ⟨w2.heap.size, 0, none⟩ = some (.int .u32 ra) ∧ w3.cell? ⟨w2.heap.size, 1, none⟩ = some (.int .i64 rb) ∧ w3.cell? ⟨w2.heap.size, 2, none⟩ = some (.int .u8 rf) ∧ w3.cell? ⟨w2.heap.size, 3, none⟩ = some (.int .i64 rd) ∧ w3.cell? ⟨w2.heap.size, 4, none⟩ = some (.int .i64 rm) ∧ w3.cell? ⟨w2.heap.size, 5, none⟩ = some (.int .i64 rt) ∧ w3.cell? ⟨w2.heap.size, 6, none⟩ = some (.string rn) ∧ w3.cell? ⟨w2.heap.size, 7, none⟩ = some (.int .u32 rh) ∧ w3.cell? ⟨w2.heap.size, 8, none⟩ = some (.bool rc) := by
    have e := HX3.out
    refine ⟨?_, ?_, ?_, ?_, ?_, ?_, ?_, ?_, ?_⟩ <;> (simp only [World.cell?, e]; rfl)
  have HW3 := Lib.hid hw3
  clear hw3
  have HBB := Lib.hid (Below.step (Below.step HB1.out HB2.out) HB3.out)
  have HTX := Lib.hid (text_any ra rb rf rd rm rt rn rh rc HP.out.ra.1 HP.out.ra.2 HP.out.rf HP.out.rh.1 HP.out.rh.2 (Nat.le_trans (Nat.le_trans HP.out.rn HL.out) (by decide)) w3 (HT.out.on HBB.out) (HS.out.on HBB.out))
  clear x0 x1 x2 x3 x4 x5 x6 x7 x8
  go_wp2_with fail
  (try rw [HW3.out])
  go_at_call 8
  refine HTX.out.mono ?_
  rintro e w4 ⟨rfl, hb4⟩
  have HB4 := Lib.hid hb4
  have h4 : w4.heap[w2.heap.size]? = some (.cells #[.int .u32 ra, .int .i64 rb, .int .u8 rf, .int .i64 rd, .int .i64 rm, .int .i64 rt, .string rn, .int .u32 rh, .bool rc] 27 (0, 0)) := (hb4.block _ HZ3.out).trans HX3.out
  have g4 : w4.heap[w.heap.size]? = some (.cells #[.int .u32 0, .int .i64 0, .int .u8 0, .int .i64 0, .int .i64 0, .int .i64 0, .string ⟨#[]⟩, .int .u32 0, .bool false] 27 (0, 0)) := (hb4.block _ (Nat.lt_of_lt_of_le HZ1.out (Nat.le_trans HB2.out.size HB3.out.size))).trans ((HB3.out.block _ (Nat.lt_of_lt_of_le HZ1.out HB2.out.size)).trans ((HB2.out.block _ HZ1.out).trans HX1.out))
  clear hb4
  obtain ⟨x0, x1, x2, x3, x4, x5, x6, x7, x8⟩ : w4.cell? ⟨w2.heap.size, 0, none⟩ = some (.int .u32 ra) ∧ w4.cell? ⟨w2.heap.size, 1, none⟩ = some (.int .i64 rb) ∧ w4.cell? ⟨w2.heap.size, 2, none⟩ = some (.int .u8 rf) ∧ w4.cell? ⟨w2.heap.size, 3, none⟩ = some (.int .i64 rd) ∧ w4.cell? ⟨w2.heap.size, 4, none⟩ = some (.int .i64 rm) ∧ w4.cell? ⟨w2.heap.size, 5, none⟩ = some (.int .i64 rt) ∧ w4.cell? ⟨w2.heap.size, 6, none⟩ = some (.string rn) ∧ w4.cell? ⟨w2.heap.size, 7, none⟩ = some (.int .u32 rh) ∧ w4.cell? ⟨w2.heap.size, 8, none⟩ = some (.bool rc) := by
    refine ⟨?_, ?_, ?_, ?_, ?_, ?_, ?_, ?_, ?_⟩ <;> (simp only [World.cell?, h4]; rfl)
  obtain ⟨z0, z1, z2, z3, z4, z5, z6, z7, z8⟩ : w4.cell? ⟨w.heap.size, 0, none⟩ = some (.int .u32 0) ∧ w4.cell? ⟨w.heap.size, 1, none⟩ = some (.int .i64 0) ∧ w4.cell? ⟨w.heap.size, 2, none⟩ = some (.int .u8 0) ∧ w4.cell? ⟨w.heap.size, 3, none⟩ = some (.int .i64 0) ∧ w4.cell? ⟨w.heap.size, 4, none⟩ = some (.int .i64 0) ∧ w4.cell? ⟨w.heap.size, 5, none⟩ = some (.int .i64 0) ∧ w4.cell? ⟨w.heap.size, 6, none⟩ = some (.string ⟨#[]⟩) ∧ w4.cell? ⟨w.heap.size, 7, none⟩ = some (.int .u32 0) ∧ w4.cell? ⟨w.heap.size, 8, none⟩ = some (.bool false) := by
    refine ⟨?_, ?_, ?_, ?_, ?_, ?_, ?_, ?_, ?_⟩ <;> (simp only [World.cell?, g4]; rfl)
  have hfz : ∀ o, w4.frozen? ⟨w.heap.size, o, none⟩ = false := fun o => by simp [World.frozen?, g4]
  obtain ⟨f0, f1, f2, f3, f4, f5, f6, f7, f8⟩ : w4.frozen? ⟨w.heap.size, 0, none⟩ = false ∧ w4.frozen? ⟨w.heap.size, 1, none⟩ = false ∧ w4.frozen? ⟨w.heap.size, 2, none⟩ = false ∧ w4.frozen? ⟨w.heap.size, 3, none⟩ = false ∧ w4.frozen? ⟨w.heap.size, 4, none⟩ = false ∧ w4.frozen? ⟨w.heap.size, 5, none⟩ = false ∧ w4.frozen? ⟨w.heap.size, 6, none⟩ = false ∧ w4.frozen? ⟨w.heap.size, 7, none⟩ = false ∧ w4.frozen? ⟨w.heap.size, 8, none⟩ = false := ⟨hfz 0, hfz 1, hfz 2, hfz 3, hfz 4, hfz 5, hfz 6, hfz 7, hfz 8⟩
  have hz2 : w.heap.size < w4.heap.size := (Array.getElem?_eq_some_iff.1 g4).1
  have hz3 : w2.heap.size < w4.heap.size := (Array.getElem?_eq_some_iff.1 h4).1
  have hne : w.heap.size ≠ w2.heap.size := by have := HZ1.out; have := HB2.out.size; omega
  clear h4 g4 hfz
  obtain ⟨mr, hmr⟩ : ∃ x, mayR ⟨ra, rb, rf, rd, rm, rt, rn, rh, rc⟩ = x := ⟨_, rfl⟩
  have HBD := Lib.hid (Below.step HBB.out HB4.out)
  cases mr with
  | false =>
    have e1 : TxtR ⟨ra, rb, rf, rd, rm, rt, rn, rh, rc⟩ = (.string ⟨#[]⟩, 1) := by unfold TxtR; rw [hmr]; rfl
    rw [e1]
    have HPN := Lib.hid (parse_no HP.out (.inl hmr))
    clear e1 hmr
    go_wp2
    refine bodyPost_ret (by simp [results, Tryz.results12, go_sem, z0, z1, z2, z3, z4, z5, z6, z7, z8]; try rfl) rfl ?_
    exact ⟨zR, 4, rfl, HPN.out, Below.setCell (p := ⟨w.heap.size, 8, none⟩) (Below.setCell (p := ⟨w.heap.size, 7, none⟩) (Below.setCell (p := ⟨w.heap.size, 6, none⟩) (Below.setCell (p := ⟨w.heap.size, 5, none⟩) (Below.setCell (p := ⟨w.heap.size, 4, none⟩) (Below.setCell (p := ⟨w.heap.size, 3, none⟩) (Below.setCell (p := ⟨w.heap.size, 2, none⟩) (Below.setCell (p := ⟨w.heap.size, 1, none⟩) (Below.setCell (p := ⟨w.heap.size, 0, none⟩) (HBD.out) (Nat.le_refl _) _) (Nat.le_refl _) _) (Nat.le_refl _) _) (Nat.le_refl _) _) (Nat.le_refl _) _) (Nat.le_refl _) _) (Nat.le_refl _) _) (Nat.le_refl _) _) (Nat.le_refl _) _⟩
  | true =>
    have e1 : TxtR ⟨ra, rb, rf, rd, rm, rt, rn, rh, rc⟩ = (.string ⟨(txR ⟨ra, rb, rf, rd, rm, rt, rn, rh, rc⟩).toArray⟩, 0) := by unfold TxtR; rw [hmr]; rfl
    rw [e1]
    obtain ⟨TX, hTX⟩ : ∃ x, txR ⟨ra, rb, rf, rd, rm, rt, rn, rh, rc⟩ = x := ⟨_, rfl⟩
    rw [hTX]
    by_cases hx : TX = l
    · have k1 : (TX == sb.toList) = true := by rw [spell1, HSL.out]; simpa using hx.symm
      have HPY := Lib.hid (parse_yes HP.out hmr (hTX.trans hx))
      clear e1 hmr hTX hx
      go_wp2
      refine bodyPost_ret (by simp [results, Tryz.results12, go_sem, z0, z1, z2, z3, z4, z5, z6, z7, z8]; try rfl) rfl ?_
      exact ⟨⟨ra, rb, rf, rd, rm, rt, rn, rh, rc⟩, 0, rfl, HPY.out, Below.setCell (p := ⟨w.heap.size, 8, none⟩) (Below.setCell (p := ⟨w.heap.size, 7, none⟩) (Below.setCell (p := ⟨w.heap.size, 6, none⟩) (Below.setCell (p := ⟨w.heap.size, 5, none⟩) (Below.setCell (p := ⟨w.heap.size, 4, none⟩) (Below.setCell (p := ⟨w.heap.size, 3, none⟩) (Below.setCell (p := ⟨w.heap.size, 2, none⟩) (Below.setCell (p := ⟨w.heap.size, 1, none⟩) (Below.setCell (p := ⟨w.heap.size, 0, none⟩) (HBD.out) (Nat.le_refl _) _) (Nat.le_refl _) _) (Nat.le_refl _) _) (Nat.le_refl _) _) (Nat.le_refl _) _) (Nat.le_refl _) _) (Nat.le_refl _) _) (Nat.le_refl _) _) (Nat.le_refl _) _⟩
    · have k1 : (TX == sb.toList) = false := by rw [spell1, HSL.out]; simpa using fun e => hx e.symm
      have HPN := Lib.hid (parse_no HP.out (.inr (by rw [hTX]; exact hx)))
      clear e1 hmr hTX hx
      go_wp2
      refine bodyPost_ret (by simp [results, Tryz.results12, go_sem, z0, z1, z2, z3, z4, z5, z6, z7, z8]; try rfl) rfl ?_
      exact ⟨zR, 4, rfl, HPN.out, Below.setCell (p := ⟨w.heap.size, 8, none⟩) (Below.setCell (p := ⟨w.heap.size, 7, none⟩) (Below.setCell (p := ⟨w.heap.size, 6, none⟩) (Below.setCell (p := ⟨w.heap.size, 5, none⟩) (Below.setCell (p := ⟨w.heap.size, 4, none⟩) (Below.setCell (p := ⟨w.heap.size, 3, none⟩) (Below.setCell (p := ⟨w.heap.size, 2, none⟩) (Below.setCell (p := ⟨w.heap.size, 1, none⟩) (Below.setCell (p := ⟨w.heap.size, 0, none⟩) (HBD.out) (Nat.le_refl _) _) (Nat.le_refl _) _) (Nat.le_refl _) _) (Nat.le_refl _) _) (Nat.le_refl _) _) (Nat.le_refl _) _) (Nat.le_refl _) _) (Nat.le_refl _) _) (Nat.le_refl _) _⟩
end Go.Proofs.YtmbkkjofikijiaaGreatDoor
