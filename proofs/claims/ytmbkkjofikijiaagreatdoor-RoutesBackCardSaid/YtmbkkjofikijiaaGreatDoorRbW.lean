/- AdvertText of package routes at any advert. Conditions: the table of package strconv is what its text says; no list has more than 3000 numbers. -/
import Derived.Test.YtmbkkjofikijiaaGreatDoorRbU
namespace Go.Proofs.YtmbkkjofikijiaaGreatDoor
open Go.RowKit
/-- An advert, by what it says. -/
structure AvD where
  a : Int
  b : Int
  ho : Int
  pf : Int
  me : Int
  pa : List Int
  co : List Int
  pe : Int
  pi : Int
  ex : Bool
  og : Int
  cl : List Int
  se : Int
def wSide (b : Bool) : List UInt8 := if b then [101, 120, 116, 101, 114, 110, 97, 108] else [105, 110, 116, 101, 114, 110, 97, 108]
def wComm : List UInt8 := [99, 111, 109, 109]
def wClus : List UInt8 := [99, 108, 117, 115, 116, 101, 114, 115]
def decU (x : Int) : List UInt8 := Lib.decDigits x.toNat
def txtU (x : Int) : List UInt8 := text x.toNat
def tlA (q : AvD) : List (List UInt8) := q.pa.map decU ++ wComm :: (q.co.map decU ++ wClus :: q.cl.map txtU)
def wA (q : AvD) : List (List UInt8) := ptext q.a.toNat q.b :: [118, 105, 97] :: txtU q.ho :: [112, 114, 101, 102] :: Lib.itoa q.pf :: [109, 101, 116, 114, 105, 99] :: Lib.itoa q.me :: [112, 101, 101, 114] :: txtU q.pe :: [105, 100] :: txtU q.pi :: wSide q.ex :: [111, 114, 105, 103, 105, 110] :: txtU q.og :: [115, 101, 115, 115, 105, 111, 110] :: Lib.itoa q.se :: [112, 97, 116, 104] :: tlA q
def txA (q : AvD) : List UInt8 := joinB (wA q)
def mayAv (q : AvD) : Bool := mayA q.a q.b q.pf q.me q.se
/-- What AdvertText tells of an advert. -/
def TxtA (q : AvD) : Value × Int := if mayAv q then (.string ⟨(txA q).toArray⟩, 0) else (.string ⟨#[]⟩, 1)
theorem mayA_parts {a b pf me se : Int} (h : mayA a b pf me se = true) : ck a b = 0 ∧ (0 ≤ pf ∧ pf ≤ 2147483647) ∧ (0 ≤ me ∧ me ≤ 2147483647) ∧ (-1 ≤ se ∧ se ≤ 2147483647) := by
  unfold mayA at h
  simp only [Bool.and_eq_true, decide_eq_true_eq, List.all_cons, List.all_nil, okN, Bool.and_true] at h
  obtain ⟨⟨h1, h2, h3⟩, h4⟩ := h
  exact ⟨h1, h2, h3, h4⟩
theorem side_any (b : Bool) (w : World) : Calls Tryz.prog 35 #[.bool b] w fun e w' => e = .returned (.string ⟨(wSide b).toArray⟩) ∧ Below w.heap.size w w' := by
  cases b
  all_goals
    go_enter Tryz.func35, Tryz.ntmps35
    go_wp2
    go_ret
    exact ⟨rfl, Below.refl _ _⟩
theorem jn_leN (b : Nat) : ∀ (ws : List ByteArray) (a : List UInt8), (∀ s ∈ ws, s.size ≤ b) → (jn a ws).length ≤ a.length + ws.length * (b + 1)
  | [], a, _ => by simp [jn]
  | s :: ws, a, h => by
    have h1 := h s (List.mem_cons_self ..)
    have h2 := jn_leN b ws (jn1 a s) (fun t ht => h t (List.mem_cons_of_mem _ ht))
    have h3 : (jn1 a s).length ≤ a.length + (b + 1) := by
      unfold jn1
      rw [bsz] at h1
      simp only [List.length_append]
      split <;> simp only [List.length_nil, List.length_cons] <;> omega
    have e : jn a (s :: ws) = jn (jn1 a s) ws := rfl
    rw [e, List.length_cons, Nat.succ_mul]
    omega
theorem write_lst (B B2 : Nat) (a : List UInt8) (ws : List ByteArray) (v u : Value) (w : World) (ho : w.ownsRow B 5 1 v a.length (Lib.byteCells a)) (hu : w.ownsRow B2 9 1 u ws.length (flatK encS ws)) (hB : B ≤ w.heap.size) (hn : ws.length ≤ 3000) (hs : ∀ s ∈ ws, s.size ≤ 15) (hla : a.length ≤ 1000000) :
    Calls Tryz.prog 23 #[v, u] w (WrPost B (jn a ws) w) := by
  have hrd : ∀ k, k ≤ ws.length → (jn a (ws.take k)).length ≤ 100000000 := fun k hk => by
    have h := jn_leN 15 (ws.take k) a (fun s h => hs s (List.mem_of_mem_take h))
    rw [List.length_take] at h
    have h3 : min k ws.length * (15 + 1) ≤ 3000 * (15 + 1) := Nat.mul_le_mul_right _ (by omega)
    omega
  rw [flatS] at hu
  rcases hu.2 with ⟨rfl, hx⟩ | ⟨g, cap, cur, rfl, h1, h2, h3, h4, h5, h6⟩
  · have : ws = [] := List.eq_nil_of_length_eq_zero hx
    subst this
    exact write_is B a [] v none 0 w ho hB (fun W hk i s hs => by simp at hs) (by simp) (by simp) hrd
  · refine write_is B a ws v _ _ w ho hB (fun W hk i s hi => ⟨g, 0, rfl, ?_⟩) (by omega) (fun s h => by have := hs s h; omega) hrd
    have h := hk g _ h2 (by simp) (by intro c fz e; simp at e)
    have hi2 := (List.getElem?_eq_some_iff.1 hi).1
    simp only [World.cell?, h, Nat.zero_add]
    have h7 : cur.toList[i]? = some (.string s) := by
      rw [Nat.mul_one] at h6
      have : (cur.toList.take ws.length)[i]? = some (.string s) := by rw [h6]; simp [hi]
      rwa [List.getElem?_take_of_lt hi2] at this
    simpa using h7
set_option maxRecDepth 100000 in
set_option maxHeartbeats 8000000 in
theorem atext_is (a b ho pf me : Int) (p1 : Option Addr) (c1 : Nat) (p2 : Option Addr) (c2 : Nat) (pa co : List Int) (pe pi : Int) (ex : Bool) (og : Int) (p3 : Option Addr) (c3 : Nat) (cl : List Int) (se : Int) (ha : 0 ≤ a) (ha2 : a < 4294967296) (h_ho : 0 ≤ ho ∧ ho < 4294967296) (h_pe : 0 ≤ pe ∧ pe < 4294967296) (h_pi : 0 ≤ pi ∧ pi < 4294967296) (h_og : 0 ≤ og ∧ og < 4294967296) (w : World)
    (r1 : RdK encU 1 w (.slice p1 pa.length c1) pa) (r2 : RdK encU 1 w (.slice p2 co.length c2) co) (r3 : RdK encU 1 w (.slice p3 cl.length c3) cl) (g1 : ∀ x ∈ pa, 0 ≤ x ∧ x < 4294967296) (g2 : ∀ x ∈ co, 0 ≤ x ∧ x < 4294967296) (g3 : ∀ x ∈ cl, 0 ≤ x ∧ x < 4294967296) (l1 : pa.length ≤ 3000) (l2 : co.length ≤ 3000) (l3 : cl.length ≤ 3000) (ht : Tab10 w) :
    Calls Tryz.prog 10 #[.agg #[.int .u32 a, .int .i64 b, .int .u32 ho, .int .i64 pf, .int .i64 me, .slice p1 pa.length c1, .slice p2 co.length c2, .int .u32 pe, .int .u32 pi, .bool ex, .int .u32 og, .slice p3 cl.length c3, .int .i64 se]] w fun e w' => e = .returned (.tuple #[(TxtA ⟨a, b, ho, pf, me, pa, co, pe, pi, ex, og, cl, se⟩).1, .int .i64 (TxtA ⟨a, b, ho, pf, me, pa, co, pe, pi, ex, og, cl, se⟩).2]) ∧ Below w.heap.size w w' := by
  have R1 := Lib.hid r1; have R2 := Lib.hid r2; have R3 := Lib.hid r3; have HG1 := Lib.hid g1; have HG2 := Lib.hid g2; have HG3 := Lib.hid g3; have HLL := Lib.hid (show pa.length ≤ 3000 ∧ co.length ≤ 3000 ∧ cl.length ≤ 3000 from ⟨l1, l2, l3⟩)
  have HHO := Lib.hid h_ho; have HPE := Lib.hid h_pe; have HPI := Lib.hid h_pi; have HOG := Lib.hid h_og
  clear r1 r2 r3 g1 g2 g3 l1 l2 l3 h_ho h_pe h_pi h_og
  obtain ⟨V, hV⟩ : ∃ V, TxtA ⟨a, b, ho, pf, me, pa, co, pe, pi, ex, og, cl, se⟩ = V := ⟨_, rfl⟩
  have HV := Lib.hid hV
  rw [hV]
  clear hV
  obtain ⟨W1, hW1⟩ : ∃ X, w.alloc (.cells #[.int .u32 a, .int .i64 b, .int .u32 ho, .int .i64 pf, .int .i64 me, .slice p1 pa.length c1, .slice p2 co.length c2, .int .u32 pe, .int .u32 pi, .bool ex, .int .u32 og, .slice p3 cl.length c3, .int .i64 se] 31) = X := ⟨_, rfl⟩
  have HB1 : Hid (Below w.heap.size w W1) := Lib.hid (by rw [← hW1]; exact (Below.refl _ _).alloc (Nat.le_refl _) _)
  have HX1 : Hid (W1.heap[w.heap.size]? = some (.cells #[.int .u32 a, .int .i64 b, .int .u32 ho, .int .i64 pf, .int .i64 me, .slice p1 pa.length c1, .slice p2 co.length c2, .int .u32 pe, .int .u32 pi, .bool ex, .int .u32 og, .slice p3 cl.length c3, .int .i64 se] 31 (0, 0))) := Lib.hid (by rw [← hW1]; exact heap_new' _ _)
  have HZ1 : Hid (w.heap.size < W1.heap.size) := Lib.hid (Array.getElem?_eq_some_iff.1 HX1.out).1
  have HCE : Hid (∀ W, Below W1.heap.size W1 W → W.cell? ⟨w.heap.size, 0, none⟩ = some (.int .u32 a) ∧ W.cell? ⟨w.heap.size, 1, none⟩ = some (.int .i64 b) ∧ W.cell? ⟨w.heap.size, 2, none⟩ = some (.int .u32 ho) ∧ W.cell? ⟨w.heap.size, 3, none⟩ = some (.int .i64 pf) ∧ W.cell? ⟨w.heap.size, 4, none⟩ = some (.int .i64 me) ∧ W.cell? ⟨w.heap.size, 5, none⟩ = some (.slice p1 pa.length c1) ∧ W.cell? ⟨w.heap.size, 6, none⟩ = some (.slice p2 co.length c2) ∧ W.cell? ⟨w.heap.size, 7, none⟩ = some (.int .u32 pe) ∧ W.cell? ⟨w.heap.size, 8, none⟩ = some (.int .u32 pi) ∧ W.cell? ⟨w.heap.size, 9, none⟩ = some (.bool ex) ∧ W.cell? ⟨w.heap.size, 10, none⟩ = some (.int .u32 og) ∧ W.cell? ⟨w.heap.size, 11, none⟩ = some (.slice p3 cl.length c3) ∧ W.cell? ⟨w.heap.size, 12, none⟩ = some (.int .i64 se)) := Lib.hid (fun W hb => by
    have e := (hb.block w.heap.size HZ1.out).trans HX1.out
    refine ⟨?_, ?_, ?_, ?_, ?_, ?_, ?_, ?_, ?_, ?_, ?_, ?_, ?_⟩ <;> (simp only [World.cell?, e]; rfl))
  obtain ⟨x0, x1, x2, x3, x4, x5, x6, x7, x8, x9, x10, x11, x12⟩ := HCE.out W1 (Below.refl _ _)
  have HT := Lib.hid ht
  have CM := Lib.hid (amay_any a b ho pf me p1 pa.length c1 p2 co.length c2 pe pi ex og p3 cl.length c3 se ha ha2 W1)
  obtain ⟨r, hr⟩ : ∃ r, mayA a b pf me se = r := ⟨_, rfl⟩
  rw [hr] at CM
  have HR := Lib.hid hr
  clear ht hr
  go_enter Tryz.func10, Tryz.ntmps10
  go_wp2_with fail
  go_at_call 34
  refine CM.out.mono ?_
  rintro e w2 ⟨rfl, hb2⟩
  have HB2 := Lib.hid hb2
  clear hb2 x0 x1 x2 x3 x4 x5 x6 x7 x8 x9 x10 x11 x12
  cases r with
  | false =>
    have HQ : Hid (V = (.string ⟨#[]⟩, 1)) := Lib.hid (by rw [← HV.out]; unfold TxtA mayAv; rw [HR.out]; rfl)
    go_wp2_with fail
    go_ret2
    exact ⟨ret_two HQ.out, HB1.out.trans (HB2.out.mono HB1.out.size)⟩
  | true =>
    obtain ⟨hck, hpf, hme, hse⟩ := mayA_parts HR.out
    obtain ⟨bn0, bn32, _⟩ := ck_ok a b hck
    have HQ : Hid (V = (.string ⟨(txA ⟨a, b, ho, pf, me, pa, co, pe, pi, ex, og, cl, se⟩).toArray⟩, 0)) := Lib.hid (by rw [← HV.out]; unfold TxtA mayAv; rw [HR.out]; rfl)
    obtain ⟨A, hA⟩ : ∃ A, (⟨(ptext a.toNat b).toArray⟩ : ByteArray) = A := ⟨_, rfl⟩
    obtain ⟨C, hC⟩ : ∃ A, (⟨(text ho.toNat).toArray⟩ : ByteArray) = A := ⟨_, rfl⟩
    obtain ⟨D, hD⟩ : ∃ A, (⟨(Lib.itoa pf).toArray⟩ : ByteArray) = A := ⟨_, rfl⟩
    obtain ⟨E, hE⟩ : ∃ A, (⟨(Lib.itoa me).toArray⟩ : ByteArray) = A := ⟨_, rfl⟩
    obtain ⟨G, hG⟩ : ∃ A, (⟨(text pe.toNat).toArray⟩ : ByteArray) = A := ⟨_, rfl⟩
    obtain ⟨H, hH⟩ : ∃ A, (⟨(text pi.toNat).toArray⟩ : ByteArray) = A := ⟨_, rfl⟩
    obtain ⟨I, hI⟩ : ∃ A, (⟨(wSide ex).toArray⟩ : ByteArray) = A := ⟨_, rfl⟩
    obtain ⟨J, hJ⟩ : ∃ A, (⟨(text og.toNat).toArray⟩ : ByteArray) = A := ⟨_, rfl⟩
    obtain ⟨K, hK⟩ : ∃ A, (⟨(Lib.itoa se).toArray⟩ : ByteArray) = A := ⟨_, rfl⟩
    have hsz : A.size ≤ 1000 ∧ C.size ≤ 1000 ∧ D.size ≤ 1000 ∧ E.size ≤ 1000 ∧ G.size ≤ 1000 ∧ H.size ≤ 1000 ∧ I.size ≤ 1000 ∧ J.size ≤ 1000 ∧ K.size ≤ 1000 := by
      refine ⟨?_, ?_, ?_, ?_, ?_, ?_, ?_, ?_, ?_⟩
      · rw [bsz_mk _ hA]; have := ptext_short a.toNat b (by omega) bn0 bn32; omega
      · rw [bsz_mk _ hC]; have := text_short ho.toNat (by have := HHO.out; omega); omega
      · rw [bsz_mk _ hD]; have := itoa_len pf (by omega) (by omega); omega
      · rw [bsz_mk _ hE]; have := itoa_len me (by omega) (by omega); omega
      · rw [bsz_mk _ hG]; have := text_short pe.toNat (by have := HPE.out; omega); omega
      · rw [bsz_mk _ hH]; have := text_short pi.toNat (by have := HPI.out; omega); omega
      · rw [bsz_mk _ hI]; cases ex <;> decide
      · rw [bsz_mk _ hJ]; have := text_short og.toNat (by have := HOG.out; omega); omega
      · rw [bsz_mk _ hK]; have := itoa_len se (by omega) (by omega); omega
    obtain ⟨sA, sC, sD, sE, sG, sH, sI, sJ, sK⟩ := hsz
    obtain ⟨M1, hM1⟩ : ∃ L, jn [] [A, ⟨#[118, 105, 97]⟩, C, ⟨#[112, 114, 101, 102]⟩, D, ⟨#[109, 101, 116, 114, 105, 99]⟩, E] = L := ⟨_, rfl⟩
    obtain ⟨M2, hM2⟩ : ∃ L, jn M1 [⟨#[112, 101, 101, 114]⟩, G, ⟨#[105, 100]⟩, H, I, ⟨#[111, 114, 105, 103, 105, 110]⟩, J, ⟨#[115, 101, 115, 115, 105, 111, 110]⟩, K] = L := ⟨_, rfl⟩
    have t1 : [A, ⟨#[118, 105, 97]⟩, C, ⟨#[112, 114, 101, 102]⟩, D, ⟨#[109, 101, 116, 114, 105, 99]⟩, E].all (fun s : ByteArray => decide (s.size ≤ 1000)) = true := by
      simp only [List.all_cons, List.all_nil, Bool.and_eq_true, decide_eq_true_eq, Bool.and_true]
      exact ⟨sA, by decide, sC, by decide, sD, by decide, sE⟩
    have t2 : [⟨#[112, 101, 101, 114]⟩, G, ⟨#[105, 100]⟩, H, I, ⟨#[111, 114, 105, 103, 105, 110]⟩, J, ⟨#[115, 101, 115, 115, 105, 111, 110]⟩, K].all (fun s : ByteArray => decide (s.size ≤ 1000)) = true := by
      simp only [List.all_cons, List.all_nil, Bool.and_eq_true, decide_eq_true_eq, Bool.and_true]
      exact ⟨by decide, sG, by decide, sH, sI, by decide, sJ, by decide, sK⟩
    have hm1 : M1.length ≤ 7007 := by
      have h := jn_le1 [A, ⟨#[118, 105, 97]⟩, C, ⟨#[112, 114, 101, 102]⟩, D, ⟨#[109, 101, 116, 114, 105, 99]⟩, E] [] (fun x hx => by simpa using List.all_eq_true.1 t1 x hx)
      rw [hM1] at h; simpa using h
    have hm2 : M2.length ≤ 16016 := by
      have h := jn_le1 [⟨#[112, 101, 101, 114]⟩, G, ⟨#[105, 100]⟩, H, I, ⟨#[111, 114, 105, 103, 105, 110]⟩, J, ⟨#[115, 101, 115, 115, 105, 111, 110]⟩, K] M1 (fun x hx => by simpa using List.all_eq_true.1 t2 x hx)
      rw [hM2] at h; simp at h; omega
    have HM1 := Lib.hid hm1; have HM2 := Lib.hid hm2; have HJ1 := Lib.hid hM1; have HJ2 := Lib.hid hM2
    have HPP := Lib.hid hA; have HEQ := Lib.hid (show True from trivial)
    have HWD : Hid ((A.data.toList = ptext a.toNat b ∧ C.data.toList = text ho.toNat ∧ D.data.toList = Lib.itoa pf ∧ E.data.toList = Lib.itoa me ∧ G.data.toList = text pe.toNat ∧ H.data.toList = text pi.toNat ∧ I.data.toList = wSide ex ∧ J.data.toList = text og.toNat ∧ K.data.toList = Lib.itoa se)) := Lib.hid (by
      refine ⟨?_, ?_, ?_, ?_, ?_, ?_, ?_, ?_, ?_⟩
      · rw [← hA]
      · rw [← hC]
      · rw [← hD]
      · rw [← hE]
      · rw [← hG]
      · rw [← hH]
      · rw [← hI]
      · rw [← hJ]
      · rw [← hK]
      )
    have HTT : Hid (∀ W, Below w2.heap.size w2 W → Tab10 W) := Lib.hid fun W hb => HT.out.on (Below.step HB1.out (Below.step HB2.out hb))
    have HSS : Hid (∀ W, Below w2.heap.size w2 W → W.cell? ⟨w.heap.size, 0, none⟩ = some (.int .u32 a) ∧ W.cell? ⟨w.heap.size, 1, none⟩ = some (.int .i64 b) ∧ W.cell? ⟨w.heap.size, 2, none⟩ = some (.int .u32 ho) ∧ W.cell? ⟨w.heap.size, 3, none⟩ = some (.int .i64 pf) ∧ W.cell? ⟨w.heap.size, 4, none⟩ = some (.int .i64 me) ∧ W.cell? ⟨w.heap.size, 5, none⟩ = some (.slice p1 pa.length c1) ∧ W.cell? ⟨w.heap.size, 6, none⟩ = some (.slice p2 co.length c2) ∧ W.cell? ⟨w.heap.size, 7, none⟩ = some (.int .u32 pe) ∧ W.cell? ⟨w.heap.size, 8, none⟩ = some (.int .u32 pi) ∧ W.cell? ⟨w.heap.size, 9, none⟩ = some (.bool ex) ∧ W.cell? ⟨w.heap.size, 10, none⟩ = some (.int .u32 og) ∧ W.cell? ⟨w.heap.size, 11, none⟩ = some (.slice p3 cl.length c3) ∧ W.cell? ⟨w.heap.size, 12, none⟩ = some (.int .i64 se)) := Lib.hid fun W hb => HCE.out W (Below.step HB2.out hb)
    have hb0 : Below w2.heap.size w2 w2 := Below.refl _ _
    obtain ⟨x0, x1, x2, x3, x4, x5, x6, x7, x8, x9, x10, x11, x12⟩ := HSS.out w2 (Below.refl _ _)
    have HPT : Hid (∀ W, Below w2.heap.size w2 W → Calls Tryz.prog 24 #[.agg #[.int .u32 a, .int .i64 b]] W fun e w' => e = .returned (.string A) ∧ Below W.heap.size W w') := Lib.hid fun W hb => by rw [← hA]; exact ptext_is a b W ha ha2 (by omega) (by omega) (HTT.out W hb)
    have HAC : Hid (∀ W, Below w2.heap.size w2 W → Calls Tryz.prog 26 #[.int .u32 ho] W fun e w' => e = .returned (.string C) ∧ Below W.heap.size W w') := Lib.hid fun W hb => by rw [← hC]; exact text_is ho W HHO.out.1 HHO.out.2 (HTT.out W hb)
    have HAG : Hid (∀ W, Below w2.heap.size w2 W → Calls Tryz.prog 26 #[.int .u32 pe] W fun e w' => e = .returned (.string G) ∧ Below W.heap.size W w') := Lib.hid fun W hb => by rw [← hG]; exact text_is pe W HPE.out.1 HPE.out.2 (HTT.out W hb)
    have HAH : Hid (∀ W, Below w2.heap.size w2 W → Calls Tryz.prog 26 #[.int .u32 pi] W fun e w' => e = .returned (.string H) ∧ Below W.heap.size W w') := Lib.hid fun W hb => by rw [← hH]; exact text_is pi W HPI.out.1 HPI.out.2 (HTT.out W hb)
    have HAJ : Hid (∀ W, Below w2.heap.size w2 W → Calls Tryz.prog 26 #[.int .u32 og] W fun e w' => e = .returned (.string J) ∧ Below W.heap.size W w') := Lib.hid fun W hb => by rw [← hJ]; exact text_is og W HOG.out.1 HOG.out.2 (HTT.out W hb)
    have HID : Hid (∀ W, Below w2.heap.size w2 W → Calls Tryz.prog 25 #[.int .i64 pf] W fun e w' => e = .returned (.string D) ∧ Below W.heap.size W w') := Lib.hid fun W hb => by rw [← hD]; exact itoa_is pf W (by omega) (by omega) (HTT.out W hb)
    have HIE : Hid (∀ W, Below w2.heap.size w2 W → Calls Tryz.prog 25 #[.int .i64 me] W fun e w' => e = .returned (.string E) ∧ Below W.heap.size W w') := Lib.hid fun W hb => by rw [← hE]; exact itoa_is me W (by omega) (by omega) (HTT.out W hb)
    have HIK : Hid (∀ W, Below w2.heap.size w2 W → Calls Tryz.prog 25 #[.int .i64 se] W fun e w' => e = .returned (.string K) ∧ Below W.heap.size W w') := Lib.hid fun W hb => by rw [← hK]; exact itoa_is se W (by omega) (by omega) (HTT.out W hb)
    have HSD : Hid (∀ W, Below w2.heap.size w2 W → Calls Tryz.prog 35 #[.bool ex] W fun e w' => e = .returned (.string I) ∧ Below W.heap.size W w') := Lib.hid fun W hb => by rw [← hI]; exact side_any ex W
    have HWR : Hid (∀ W, Below w2.heap.size w2 W → Calls Tryz.prog 23 #[.slice none 0 0, .slice (some ⟨W.heap.size, 0, none⟩) 7 7] (W.alloc (.cells #[.string A, .string ⟨#[118, 105, 97]⟩, .string C, .string ⟨#[112, 114, 101, 102]⟩, .string D, .string ⟨#[109, 101, 116, 114, 105, 99]⟩, .string E] 9)) (WrPost w2.heap.size M1 (W.alloc (.cells #[.string A, .string ⟨#[118, 105, 97]⟩, .string C, .string ⟨#[112, 114, 101, 102]⟩, .string D, .string ⟨#[109, 101, 116, 114, 105, 99]⟩, .string E] 9)))) := Lib.hid fun W hb => write_lit w2.heap.size [] [A, ⟨#[118, 105, 97]⟩, C, ⟨#[112, 114, 101, 102]⟩, D, ⟨#[109, 101, 116, 114, 105, 99]⟩, E] _ 7 W _ rfl (by simp) t1 (by decide) (World.ownsRow_nil _ _ _ _) hb.size hM1
    have HT2 := Lib.hid t2
    clear hA hC hD hE hG hH hI hJ hK hM1 t1 t2 hm1 hm2 sA sC sD sE sG sH sI sJ sK hpf hme hse hck
    go_wp2_with fail
    go_region_held3 (fun w' => w'.cell? ⟨w.heap.size, 0, none⟩ = some (.int .u32 a) ∧ w'.cell? ⟨w.heap.size, 1, none⟩ = some (.int .i64 b) ∧ w'.cell? ⟨w.heap.size, 2, none⟩ = some (.int .u32 ho) ∧ w'.cell? ⟨w.heap.size, 3, none⟩ = some (.int .i64 pf) ∧ w'.cell? ⟨w.heap.size, 4, none⟩ = some (.int .i64 me) ∧ w'.cell? ⟨w.heap.size, 5, none⟩ = some (.slice p1 pa.length c1) ∧ w'.cell? ⟨w.heap.size, 6, none⟩ = some (.slice p2 co.length c2) ∧ w'.cell? ⟨w.heap.size, 7, none⟩ = some (.int .u32 pe) ∧ w'.cell? ⟨w.heap.size, 8, none⟩ = some (.int .u32 pi) ∧ w'.cell? ⟨w.heap.size, 9, none⟩ = some (.bool ex) ∧ w'.cell? ⟨w.heap.size, 10, none⟩ = some (.int .u32 og) ∧ w'.cell? ⟨w.heap.size, 11, none⟩ = some (.slice p3 cl.length c3) ∧ w'.cell? ⟨w.heap.size, 12, none⟩ = some (.int .i64 se)) (first | exact HSS.out _ (by first | assumption | exact hb0.drew) | exact HSS.out _ (Below.alloc (by first | assumption | exact hb0.drew) (Below.size (by first | assumption | exact hb0.drew)) _) | go_keep | (trace_state; fail)) (first
      | (go_at_call 24; refine (HPT.out _ (by first | assumption | exact hb0.drew)).mono ?_; rintro e w3 ⟨rfl, hb3⟩; have hb3 := Below.step (a := w2) (by first | assumption | exact hb0.drew) hb3)
      | (go_at_call 26; refine (HAC.out _ (by first | assumption | exact hb0.drew)).mono ?_; rintro e w3 ⟨rfl, hb3⟩; have hb3 := Below.step (a := w2) (by first | assumption | exact hb0.drew) hb3)
      | (go_at_call 25; (first | ((with_reducible show Calls Tryz.prog 25 #[.int .i64 pf] _ _); refine (HID.out _ (by first | assumption | exact hb0.drew)).mono ?_) | refine (HIE.out _ (by first | assumption | exact hb0.drew)).mono ?_); rintro e w3 ⟨rfl, hb3⟩; have hb3 := Below.step (a := w2) (by first | assumption | exact hb0.drew) hb3)
      | (go_at_call 23; refine (HWR.out _ (by first | assumption | exact hb0.drew)).mono ?_; rintro e w3 ⟨v3, rfl, ho3, hb3, _⟩; have hb3 := Below.trans (Below.alloc (a := w2) (by first | assumption | exact hb0.drew) (Below.size (by first | assumption | exact hb0.drew)) _) hb3))
    have HO3 := Lib.hid ho3
    have HB3 := Lib.hid hb3
    clear x0 x1 x2 x3 x4 x5 x6 x7 x8 x9 x10 x11 x12 ho3 hb3 HWR
    obtain ⟨x0, x1, x2, x3, x4, x5, x6, x7, x8, x9, x10, x11, x12⟩ := HSS.out w3 HB3.out
    (try simp only [Exit.then])
    have hb1 : Below w3.heap.size w3 w3 := Below.refl _ _
    have HSS3 : Hid (∀ W, Below w3.heap.size w3 W → W.cell? ⟨w.heap.size, 0, none⟩ = some (.int .u32 a) ∧ W.cell? ⟨w.heap.size, 1, none⟩ = some (.int .i64 b) ∧ W.cell? ⟨w.heap.size, 2, none⟩ = some (.int .u32 ho) ∧ W.cell? ⟨w.heap.size, 3, none⟩ = some (.int .i64 pf) ∧ W.cell? ⟨w.heap.size, 4, none⟩ = some (.int .i64 me) ∧ W.cell? ⟨w.heap.size, 5, none⟩ = some (.slice p1 pa.length c1) ∧ W.cell? ⟨w.heap.size, 6, none⟩ = some (.slice p2 co.length c2) ∧ W.cell? ⟨w.heap.size, 7, none⟩ = some (.int .u32 pe) ∧ W.cell? ⟨w.heap.size, 8, none⟩ = some (.int .u32 pi) ∧ W.cell? ⟨w.heap.size, 9, none⟩ = some (.bool ex) ∧ W.cell? ⟨w.heap.size, 10, none⟩ = some (.int .u32 og) ∧ W.cell? ⟨w.heap.size, 11, none⟩ = some (.slice p3 cl.length c3) ∧ W.cell? ⟨w.heap.size, 12, none⟩ = some (.int .i64 se)) := Lib.hid fun W hb => HSS.out W (Below.step HB3.out hb)
    have HAG3 : Hid (∀ W, Below w3.heap.size w3 W → Calls Tryz.prog 26 #[.int .u32 pe] W fun e w' => e = .returned (.string G) ∧ Below W.heap.size W w') := Lib.hid fun W hb => HAG.out W (Below.step HB3.out hb)
    have HAH3 : Hid (∀ W, Below w3.heap.size w3 W → Calls Tryz.prog 26 #[.int .u32 pi] W fun e w' => e = .returned (.string H) ∧ Below W.heap.size W w') := Lib.hid fun W hb => HAH.out W (Below.step HB3.out hb)
    have HAJ3 : Hid (∀ W, Below w3.heap.size w3 W → Calls Tryz.prog 26 #[.int .u32 og] W fun e w' => e = .returned (.string J) ∧ Below W.heap.size W w') := Lib.hid fun W hb => HAJ.out W (Below.step HB3.out hb)
    have HIK3 : Hid (∀ W, Below w3.heap.size w3 W → Calls Tryz.prog 25 #[.int .i64 se] W fun e w' => e = .returned (.string K) ∧ Below W.heap.size W w') := Lib.hid fun W hb => HIK.out W (Below.step HB3.out hb)
    have HSD3 : Hid (∀ W, Below w3.heap.size w3 W → Calls Tryz.prog 35 #[.bool ex] W fun e w' => e = .returned (.string I) ∧ Below W.heap.size W w') := Lib.hid fun W hb => HSD.out W (Below.step HB3.out hb)
    have HWR3 : Hid (∀ W, Below w3.heap.size w3 W → Calls Tryz.prog 23 #[v3, .slice (some ⟨W.heap.size, 0, none⟩) 9 9] (W.alloc (.cells #[.string ⟨#[112, 101, 101, 114]⟩, .string G, .string ⟨#[105, 100]⟩, .string H, .string I, .string ⟨#[111, 114, 105, 103, 105, 110]⟩, .string J, .string ⟨#[115, 101, 115, 115, 105, 111, 110]⟩, .string K] 9)) (WrPost w2.heap.size M2 (W.alloc (.cells #[.string ⟨#[112, 101, 101, 114]⟩, .string G, .string ⟨#[105, 100]⟩, .string H, .string I, .string ⟨#[111, 114, 105, 103, 105, 110]⟩, .string J, .string ⟨#[115, 101, 115, 115, 105, 111, 110]⟩, .string K] 9)))) := Lib.hid fun W hb => write_lit w2.heap.size M1 [⟨#[112, 101, 101, 114]⟩, G, ⟨#[105, 100]⟩, H, I, ⟨#[111, 114, 105, 103, 105, 110]⟩, J, ⟨#[115, 101, 115, 115, 105, 111, 110]⟩, K] v3 9 W _ rfl (by simp) HT2.out (by have := HM1.out; omega) (own_below HO3.out hb) (Nat.le_trans HB3.out.size hb.size) HJ2.out
    go_wp2_with fail
    go_region_held3 (fun w' => w'.cell? ⟨w.heap.size, 0, none⟩ = some (.int .u32 a) ∧ w'.cell? ⟨w.heap.size, 1, none⟩ = some (.int .i64 b) ∧ w'.cell? ⟨w.heap.size, 2, none⟩ = some (.int .u32 ho) ∧ w'.cell? ⟨w.heap.size, 3, none⟩ = some (.int .i64 pf) ∧ w'.cell? ⟨w.heap.size, 4, none⟩ = some (.int .i64 me) ∧ w'.cell? ⟨w.heap.size, 5, none⟩ = some (.slice p1 pa.length c1) ∧ w'.cell? ⟨w.heap.size, 6, none⟩ = some (.slice p2 co.length c2) ∧ w'.cell? ⟨w.heap.size, 7, none⟩ = some (.int .u32 pe) ∧ w'.cell? ⟨w.heap.size, 8, none⟩ = some (.int .u32 pi) ∧ w'.cell? ⟨w.heap.size, 9, none⟩ = some (.bool ex) ∧ w'.cell? ⟨w.heap.size, 10, none⟩ = some (.int .u32 og) ∧ w'.cell? ⟨w.heap.size, 11, none⟩ = some (.slice p3 cl.length c3) ∧ w'.cell? ⟨w.heap.size, 12, none⟩ = some (.int .i64 se)) (first | exact HSS3.out _ (by first | assumption | exact hb1.drew) | exact HSS3.out _ (Below.alloc (by first | assumption | exact hb1.drew) (Below.size (by first | assumption | exact hb1.drew)) _) | exact HSS.out _ (by assumption) | go_keep | (trace_state; fail)) (first
      | (go_at_call 26; (first | ((with_reducible show Calls Tryz.prog 26 #[.int .u32 pe] _ _); refine (HAG3.out _ (by first | assumption | exact hb1.drew)).mono ?_) | ((with_reducible show Calls Tryz.prog 26 #[.int .u32 pi] _ _); refine (HAH3.out _ (by first | assumption | exact hb1.drew)).mono ?_) | refine (HAJ3.out _ (by first | assumption | exact hb1.drew)).mono ?_); rintro e w4 ⟨rfl, hb4⟩; have hb4 := Below.step (a := w3) (by first | assumption | exact hb1.drew) hb4)
      | (go_at_call 35; refine (HSD3.out _ (by first | assumption | exact hb1.drew)).mono ?_; rintro e w4 ⟨rfl, hb4⟩; have hb4 := Below.step (a := w3) (by first | assumption | exact hb1.drew) hb4)
      | (go_at_call 25; refine (HIK3.out _ (by first | assumption | exact hb1.drew)).mono ?_; rintro e w4 ⟨rfl, hb4⟩; have hb4 := Below.step (a := w3) (by first | assumption | exact hb1.drew) hb4)
      | (go_at_call 23; refine (HWR3.out _ (by first | assumption | exact hb1.drew)).mono ?_; rintro e w4 ⟨v4, rfl, ho4, hb4, _⟩; have hb4 := (HB3.out.trans ((Below.alloc (a := w3) (by first | assumption | exact hb1.drew) (Below.size (by first | assumption | exact hb1.drew)) _).mono HB3.out.size)).trans hb4))
    have HO4 := Lib.hid ho4
    have HB4 := Lib.hid hb4
    clear x0 x1 x2 x3 x4 x5 x6 x7 x8 x9 x10 x11 x12 ho4 hb4 HWR3
    obtain ⟨x0, x1, x2, x3, x4, x5, x6, x7, x8, x9, x10, x11, x12⟩ := HSS.out w4 HB4.out
    (try simp only [Exit.then])
    have HBW : Hid (∀ W, Below w2.heap.size w2 W → Below w.heap.size w W) := Lib.hid fun W hb => Below.step (Below.step HB1.out HB2.out) hb
    go_wp2_with fail
    go_at_call 23
    obtain ⟨M3, hM3⟩ : ∃ L, jn M2 [⟨#[112, 97, 116, 104]⟩] = L := ⟨_, rfl⟩
    have HM3 : Hid (M3.length ≤ 17017) := Lib.hid (by have h := jn_le1 [⟨#[112, 97, 116, 104]⟩] M2 (by intro x hx; simp at hx; subst hx; decide); rw [hM3] at h; have := HM2.out; simp at h; omega)
    refine (write_lit w2.heap.size M2 [⟨#[112, 97, 116, 104]⟩] _ 1 w4 M3 rfl (by simp) (by decide) (by have := HM2.out; omega) HO4.out HB4.out.size hM3).mono ?_
    rintro e w5 ⟨v5, rfl, ho, hb, _⟩
    have HB5 := Lib.hid (Below.trans (HB4.out.alloc HB4.out.size _) hb)
    have HO5 := Lib.hid ho
    have HJ3 := Lib.hid hM3
    clear x0 x1 x2 x3 x4 x5 x6 x7 x8 x9 x10 x11 x12 hb ho hM3
    obtain ⟨x0, x1, x2, x3, x4, x5, x6, x7, x8, x9, x10, x11, x12⟩ := HSS.out w5 HB5.out
    go_wp2_with fail
    go_at_call 36
    refine (texts_u _ pa w5 (R1.out.below (HBW.out _ HB5.out)) (by have := HLL.out; omega) HG1.out (HTT.out _ HB5.out)).mono ?_
    rintro e w6 ⟨u4, rfl, hu, hb⟩
    have HU4 : Hid (w6.ownsRow w5.heap.size 9 1 u4 (pa.map fun x => (⟨(Lib.decDigits x.toNat).toArray⟩ : ByteArray)).length (flatK encS (pa.map fun x => (⟨(Lib.decDigits x.toNat).toArray⟩ : ByteArray)))) := Lib.hid (by rw [List.length_map]; exact hu)
    have HB6 := Lib.hid (Below.step HB5.out hb)
    have HO6 := Lib.hid (own_below HO5.out hb)
    clear x0 x1 x2 x3 x4 x5 x6 x7 x8 x9 x10 x11 x12 hb hu
    obtain ⟨x0, x1, x2, x3, x4, x5, x6, x7, x8, x9, x10, x11, x12⟩ := HSS.out w6 HB6.out
    go_wp2_with fail
    go_at_call 23
    obtain ⟨M4, hM4⟩ : ∃ L, jn M3 (pa.map fun x => (⟨(Lib.decDigits x.toNat).toArray⟩ : ByteArray)) = L := ⟨_, rfl⟩
    have hs4 : ∀ s ∈ (pa.map fun x => (⟨(Lib.decDigits x.toNat).toArray⟩ : ByteArray)), s.size ≤ 15 := by
      intro s hs; obtain ⟨x, hx, rfl⟩ := List.mem_map.1 hs
      have := HG1.out x hx
      rw [mk_size]
      have := dec_short 9 x.toNat (by omega); omega
    have HM4 : Hid (M4.length ≤ 65017) := Lib.hid (by have h := jn_leN 15 (pa.map fun x => (⟨(Lib.decDigits x.toNat).toArray⟩ : ByteArray)) M3 hs4; rw [hM4, List.length_map] at h; have := HM3.out; have := HLL.out; omega)
    refine (write_lst w2.heap.size w5.heap.size M3 (pa.map fun x => (⟨(Lib.decDigits x.toNat).toArray⟩ : ByteArray)) _ _ w6 HO6.out HU4.out HB6.out.size (by rw [List.length_map]; have := HLL.out; omega) hs4 (by have := HM3.out; omega)).mono ?_
    rw [hM4]
    rintro e w7 ⟨v7, rfl, ho, hb, _⟩
    have HB7 := Lib.hid (HB6.out.trans hb)
    have HO7 := Lib.hid ho
    have HJ4 := Lib.hid hM4
    clear x0 x1 x2 x3 x4 x5 x6 x7 x8 x9 x10 x11 x12 hb ho hM4 hs4
    obtain ⟨x0, x1, x2, x3, x4, x5, x6, x7, x8, x9, x10, x11, x12⟩ := HSS.out w7 HB7.out
    go_wp2_with fail
    go_at_call 23
    obtain ⟨M5, hM5⟩ : ∃ L, jn M4 [⟨#[99, 111, 109, 109]⟩] = L := ⟨_, rfl⟩
    have HM5 : Hid (M5.length ≤ 66018) := Lib.hid (by have h := jn_le1 [⟨#[99, 111, 109, 109]⟩] M4 (by intro x hx; simp at hx; subst hx; decide); rw [hM5] at h; have := HM4.out; simp at h; omega)
    refine (write_lit w2.heap.size M4 [⟨#[99, 111, 109, 109]⟩] _ 1 w7 M5 rfl (by simp) (by decide) (by have := HM4.out; omega) HO7.out HB7.out.size hM5).mono ?_
    rintro e w8 ⟨v8, rfl, ho, hb, _⟩
    have HB8 := Lib.hid (Below.trans (HB7.out.alloc HB7.out.size _) hb)
    have HO8 := Lib.hid ho
    have HJ5 := Lib.hid hM5
    clear x0 x1 x2 x3 x4 x5 x6 x7 x8 x9 x10 x11 x12 hb ho hM5
    obtain ⟨x0, x1, x2, x3, x4, x5, x6, x7, x8, x9, x10, x11, x12⟩ := HSS.out w8 HB8.out
    go_wp2_with fail
    go_at_call 36
    refine (texts_u _ co w8 (R2.out.below (HBW.out _ HB8.out)) (by have := HLL.out; omega) HG2.out (HTT.out _ HB8.out)).mono ?_
    rintro e w9 ⟨u6, rfl, hu, hb⟩
    have HU6 : Hid (w9.ownsRow w8.heap.size 9 1 u6 (co.map fun x => (⟨(Lib.decDigits x.toNat).toArray⟩ : ByteArray)).length (flatK encS (co.map fun x => (⟨(Lib.decDigits x.toNat).toArray⟩ : ByteArray)))) := Lib.hid (by rw [List.length_map]; exact hu)
    have HB9 := Lib.hid (Below.step HB8.out hb)
    have HO9 := Lib.hid (own_below HO8.out hb)
    clear x0 x1 x2 x3 x4 x5 x6 x7 x8 x9 x10 x11 x12 hb hu
    obtain ⟨x0, x1, x2, x3, x4, x5, x6, x7, x8, x9, x10, x11, x12⟩ := HSS.out w9 HB9.out
    go_wp2_with fail
    go_at_call 23
    obtain ⟨M6, hM6⟩ : ∃ L, jn M5 (co.map fun x => (⟨(Lib.decDigits x.toNat).toArray⟩ : ByteArray)) = L := ⟨_, rfl⟩
    have hs6 : ∀ s ∈ (co.map fun x => (⟨(Lib.decDigits x.toNat).toArray⟩ : ByteArray)), s.size ≤ 15 := by
      intro s hs; obtain ⟨x, hx, rfl⟩ := List.mem_map.1 hs
      have := HG2.out x hx
      rw [mk_size]
      have := dec_short 9 x.toNat (by omega); omega
    have HM6 : Hid (M6.length ≤ 114018) := Lib.hid (by have h := jn_leN 15 (co.map fun x => (⟨(Lib.decDigits x.toNat).toArray⟩ : ByteArray)) M5 hs6; rw [hM6, List.length_map] at h; have := HM5.out; have := HLL.out; omega)
    refine (write_lst w2.heap.size w8.heap.size M5 (co.map fun x => (⟨(Lib.decDigits x.toNat).toArray⟩ : ByteArray)) _ _ w9 HO9.out HU6.out HB9.out.size (by rw [List.length_map]; have := HLL.out; omega) hs6 (by have := HM5.out; omega)).mono ?_
    rw [hM6]
    rintro e w10 ⟨v10, rfl, ho, hb, _⟩
    have HB10 := Lib.hid (HB9.out.trans hb)
    have HO10 := Lib.hid ho
    have HJ6 := Lib.hid hM6
    clear x0 x1 x2 x3 x4 x5 x6 x7 x8 x9 x10 x11 x12 hb ho hM6 hs6
    obtain ⟨x0, x1, x2, x3, x4, x5, x6, x7, x8, x9, x10, x11, x12⟩ := HSS.out w10 HB10.out
    go_wp2_with fail
    go_at_call 23
    obtain ⟨M7, hM7⟩ : ∃ L, jn M6 [⟨#[99, 108, 117, 115, 116, 101, 114, 115]⟩] = L := ⟨_, rfl⟩
    have HM7 : Hid (M7.length ≤ 115019) := Lib.hid (by have h := jn_le1 [⟨#[99, 108, 117, 115, 116, 101, 114, 115]⟩] M6 (by intro x hx; simp at hx; subst hx; decide); rw [hM7] at h; have := HM6.out; simp at h; omega)
    refine (write_lit w2.heap.size M6 [⟨#[99, 108, 117, 115, 116, 101, 114, 115]⟩] _ 1 w10 M7 rfl (by simp) (by decide) (by have := HM6.out; omega) HO10.out HB10.out.size hM7).mono ?_
    rintro e w11 ⟨v11, rfl, ho, hb, _⟩
    have HB11 := Lib.hid (Below.trans (HB10.out.alloc HB10.out.size _) hb)
    have HO11 := Lib.hid ho
    have HJ7 := Lib.hid hM7
    clear x0 x1 x2 x3 x4 x5 x6 x7 x8 x9 x10 x11 x12 hb ho hM7
    obtain ⟨x0, x1, x2, x3, x4, x5, x6, x7, x8, x9, x10, x11, x12⟩ := HSS.out w11 HB11.out
    go_wp2_with fail
    go_at_call 38
    refine (texts_a _ cl w11 (R3.out.below (HBW.out _ HB11.out)) (by have := HLL.out; omega) HG3.out (HTT.out _ HB11.out)).mono ?_
    rintro e w12 ⟨u8, rfl, hu, hb⟩
    have HU8 : Hid (w12.ownsRow w11.heap.size 9 1 u8 (cl.map fun x => (⟨(text x.toNat).toArray⟩ : ByteArray)).length (flatK encS (cl.map fun x => (⟨(text x.toNat).toArray⟩ : ByteArray)))) := Lib.hid (by rw [List.length_map]; exact hu)
    have HB12 := Lib.hid (Below.step HB11.out hb)
    have HO12 := Lib.hid (own_below HO11.out hb)
    clear x0 x1 x2 x3 x4 x5 x6 x7 x8 x9 x10 x11 x12 hb hu
    obtain ⟨x0, x1, x2, x3, x4, x5, x6, x7, x8, x9, x10, x11, x12⟩ := HSS.out w12 HB12.out
    go_wp2_with fail
    go_at_call 23
    obtain ⟨M8, hM8⟩ : ∃ L, jn M7 (cl.map fun x => (⟨(text x.toNat).toArray⟩ : ByteArray)) = L := ⟨_, rfl⟩
    have hs8 : ∀ s ∈ (cl.map fun x => (⟨(text x.toNat).toArray⟩ : ByteArray)), s.size ≤ 15 := by
      intro s hs; obtain ⟨x, hx, rfl⟩ := List.mem_map.1 hs
      have := HG3.out x hx
      rw [mk_size]
      exact text_short x.toNat (by omega)
    have HM8 : Hid (M8.length ≤ 163019) := Lib.hid (by have h := jn_leN 15 (cl.map fun x => (⟨(text x.toNat).toArray⟩ : ByteArray)) M7 hs8; rw [hM8, List.length_map] at h; have := HM7.out; have := HLL.out; omega)
    refine (write_lst w2.heap.size w11.heap.size M7 (cl.map fun x => (⟨(text x.toNat).toArray⟩ : ByteArray)) _ _ w12 HO12.out HU8.out HB12.out.size (by rw [List.length_map]; have := HLL.out; omega) hs8 (by have := HM7.out; omega)).mono ?_
    rw [hM8]
    rintro e w13 ⟨v13, rfl, ho, hb, _⟩
    have HB13 := Lib.hid (HB12.out.trans hb)
    have HO13 := Lib.hid ho
    have HJ8 := Lib.hid hM8
    clear x0 x1 x2 x3 x4 x5 x6 x7 x8 x9 x10 x11 x12 hb ho hM8 hs8
    obtain ⟨x0, x1, x2, x3, x4, x5, x6, x7, x8, x9, x10, x11, x12⟩ := HSS.out w13 HB13.out
    have hfin : M8 = txA ⟨a, b, ho, pf, me, pa, co, pe, pi, ex, og, cl, se⟩ := by
      rw [← HJ8.out, ← HJ7.out, ← HJ6.out, ← HJ5.out, ← HJ4.out, ← HJ3.out, ← HJ2.out, ← HJ1.out]
      simp only [jn_app, List.cons_append, List.nil_append]
      rw [jn_join _ _ (by rw [HWD.out.1]; simp [ptext])]
      obtain ⟨e1, e2, e3, e4, e5, e6, e7, e8, e9⟩ := HWD.out
      unfold txA wA tlA
      simp only [List.map_cons, List.map_append, List.map_nil, List.map_map, e1, e2, e3, e4, e5, e6, e7, e8, e9, List.cons_append, List.nil_append, List.append_assoc]
      rfl
    have hpos : 0 < M8.length := by rw [hfin]; unfold txA wA; rw [join_flat]; simp [ptext]; omega
    obtain ⟨g9, c9, rfl, _, _⟩ := World.ownsRow.form HO13.out hpos
    have hcv := conv_bytes (L := M8) HO13.out
    have HFI := Lib.hid hfin
    clear hfin hpos
    go_wp2
    go_ret2
    exact ⟨ret_two (x := .string ⟨M8.toArray⟩) (n := 0) (by rw [HQ.out, HFI.out]), HB1.out.trans ((Below.step HB2.out HB13.out).mono HB1.out.size)⟩
end Go.Proofs.YtmbkkjofikijiaaGreatDoor
