/- Text of package routes at any route. Conditions: the table of package strconv and the words of package routes are what their texts say. -/
import Derived.Test.YtmbkkjofikijiaaGreatDoorRbA
namespace Go.Proofs.YtmbkkjofikijiaaGreatDoor
open Go.RowKit
theorem text_short (a : Nat) (h : a < 4294967296) : (text a).length ≤ 15 := by
  have d : ∀ u, u < 256 → (Lib.decDigits u).length ≤ 3 := fun u hu => dec_short 2 u (by omega)
  have h1 := d (a / 16777216) (by omega)
  have h2 := d (a / 65536 % 256) (by omega)
  have h3 := d (a / 256 % 256) (by omega)
  have h4 := d (a % 256) (by omega)
  unfold text
  simp only [List.length_append, List.length_cons]
  omega
theorem ptext_short (a : Nat) (n : Int) (h : a < 4294967296) (n0 : 0 ≤ n) (n1 : n ≤ 32) : (ptext a n).length ≤ 40 := by
  have h1 := text_short a h
  have h2 := itoa_len n (by omega) (by omega)
  unfold ptext
  simp only [List.length_append, List.length_cons]
  omega
theorem Src9.at_ {w : World} (h : Src9 w) {k : Nat} (h1 : 1 ≤ k) (h2 : k ≤ 8) : w.cell? ⟨0, k, none⟩ = some (.string ⟨(srcW k).toArray⟩) := by
  obtain ⟨⟨y0, y1, y2, y3, y4, y5, y6, y7, y8⟩, _⟩ := h
  match k, h1, h2 with
  | 1, _, _ => exact y1
  | 2, _, _ => exact y2
  | 3, _, _ => exact y3
  | 4, _, _ => exact y4
  | 5, _, _ => exact y5
  | 6, _, _ => exact y6
  | 7, _, _ => exact y7
  | 8, _, _ => exact y8
  | k + 9, _, h => omega
theorem bsz_mk (l : List UInt8) {s : ByteArray} (h : (⟨l.toArray⟩ : ByteArray) = s) : s.size = l.length := by rw [← h]; simp [ByteArray.size]
theorem src_len {k : Nat} : (srcW k).length ≤ 9 := by
  unfold srcW
  split <;> decide
theorem mayR_parts {a b fr di me ta ho : Int} {nm : ByteArray} {dc : Bool} (h : mayR ⟨a, b, fr, di, me, ta, nm, ho, dc⟩ = true) : ck a b = 0 ∧ 1 ≤ fr ∧ fr ≤ 8 ∧ (0 ≤ di ∧ di ≤ 2147483647) ∧ (0 ≤ me ∧ me ≤ 2147483647) ∧ (0 ≤ ta ∧ ta ≤ 2147483647) ∧ nm.data.toList.length ≤ 32 := by
  unfold mayR at h
  simp only [Bool.and_eq_true, Bool.or_eq_true, decide_eq_true_eq, List.all_cons, List.all_nil, okN, Bool.and_true] at h
  obtain ⟨⟨⟨⟨⟨h1, h2⟩, h3⟩, h4, h5, h6⟩, h7⟩, _⟩ := h
  refine ⟨h1, h2, h3, h4, h5, h6, ?_⟩
  rcases h7 with h7 | h7
  · rw [h7]; simp
  · exact (isNm_no h7).2.2
theorem ret_two {V : Value × Int} {x : Value} {n : Int} (h : V = (x, n)) : Ending.returned (.tuple #[x, .int .i64 n]) = .returned (.tuple #[V.1, .int .i64 V.2]) := by rw [h]
/-- What Text tells of a route. -/
def TxtR (q : RtD) : Value × Int := if mayR q then (.string ⟨(txR q).toArray⟩, 0) else (.string ⟨#[]⟩, 1)
theorem jn_le1 : ∀ (ws : List ByteArray) (a : List UInt8), (∀ s ∈ ws, s.size ≤ 1000) → (jn a ws).length ≤ a.length + ws.length * 1001
  | [], a, _ => by simp [jn]
  | s :: ws, a, h => by
    have h1 := h s (List.mem_cons_self ..)
    have h2 := jn_le1 ws (jn1 a s) (fun t ht => h t (List.mem_cons_of_mem _ ht))
    have h3 : (jn1 a s).length ≤ a.length + 1001 := by
      unfold jn1
      rw [bsz] at h1
      simp only [List.length_append]
      split <;> simp only [List.length_nil, List.length_cons] <;> omega
    have e : jn a (s :: ws) = jn (jn1 a s) ws := rfl
    rw [e, List.length_cons]
    omega
set_option maxRecDepth 100000 in
set_option maxHeartbeats 4000000 in
theorem text_any (a b fr di me ta : Int) (nm : ByteArray) (ho : Int) (dc : Bool) (ha : 0 ≤ a) (ha2 : a < 4294967296) (hf : 0 ≤ fr) (hh0 : 0 ≤ ho) (hh1 : ho < 4294967296) (hn : nm.size ≤ 9223372036854775807) (w : World) (ht : Tab10 w) (hs : Src9 w) :
    Calls Tryz.prog 8 #[.agg #[.int .u32 a, .int .i64 b, .int .u8 fr, .int .i64 di, .int .i64 me, .int .i64 ta, .string nm, .int .u32 ho, .bool dc]] w fun e w' => e = .returned (.tuple #[(TxtR ⟨a, b, fr, di, me, ta, nm, ho, dc⟩).1, .int .i64 (TxtR ⟨a, b, fr, di, me, ta, nm, ho, dc⟩).2]) ∧ Below w.heap.size w w' := by
  obtain ⟨V, hV⟩ : ∃ V, TxtR ⟨a, b, fr, di, me, ta, nm, ho, dc⟩ = V := ⟨_, rfl⟩
  have HV := Lib.hid hV
  rw [hV]
  clear hV
  obtain ⟨W1, hW1⟩ : ∃ X, w.alloc (.cells #[.int .u32 a, .int .i64 b, .int .u8 fr, .int .i64 di, .int .i64 me, .int .i64 ta, .string nm, .int .u32 ho, .bool dc] 27) = X := ⟨_, rfl⟩
  have HB1 : Hid (Below w.heap.size w W1) := Lib.hid (by rw [← hW1]; exact (Below.refl _ _).alloc (Nat.le_refl _) _)
  have HX1 : Hid (W1.heap[w.heap.size]? = some (.cells #[.int .u32 a, .int .i64 b, .int .u8 fr, .int .i64 di, .int .i64 me, .int .i64 ta, .string nm, .int .u32 ho, .bool dc] 27 (0, 0))) := Lib.hid (by rw [← hW1]; exact heap_new' _ _)
  have HZ1 : Hid (w.heap.size < W1.heap.size) := Lib.hid (Array.getElem?_eq_some_iff.1 HX1.out).1
  have HCE : Hid (∀ W, Below W1.heap.size W1 W → W.cell? ⟨w.heap.size, 0, none⟩ = some (.int .u32 a) ∧ W.cell? ⟨w.heap.size, 1, none⟩ = some (.int .i64 b) ∧ W.cell? ⟨w.heap.size, 2, none⟩ = some (.int .u8 fr) ∧ W.cell? ⟨w.heap.size, 3, none⟩ = some (.int .i64 di) ∧ W.cell? ⟨w.heap.size, 4, none⟩ = some (.int .i64 me) ∧ W.cell? ⟨w.heap.size, 5, none⟩ = some (.int .i64 ta) ∧ W.cell? ⟨w.heap.size, 6, none⟩ = some (.string nm) ∧ W.cell? ⟨w.heap.size, 7, none⟩ = some (.int .u32 ho) ∧ W.cell? ⟨w.heap.size, 8, none⟩ = some (.bool dc)) := Lib.hid (fun W hb => by
    have e := (hb.block w.heap.size HZ1.out).trans HX1.out
    refine ⟨?_, ?_, ?_, ?_, ?_, ?_, ?_, ?_, ?_⟩ <;> (simp only [World.cell?, e]; rfl))
  obtain ⟨x0, x1, x2, x3, x4, x5, x6, x7, x8⟩ := HCE.out W1 (Below.refl _ _)
  have HT := Lib.hid ht
  have HS := Lib.hid hs
  have CM := Lib.hid (may_any a b fr di me ta nm ho dc ha ha2 hf hn W1)
  obtain ⟨r, hr⟩ : ∃ r, mayR ⟨a, b, fr, di, me, ta, nm, ho, dc⟩ = r := ⟨_, rfl⟩
  rw [hr] at CM
  have HR := Lib.hid hr
  clear ht hs hr
  go_enter Tryz.func8, Tryz.ntmps8
  go_wp2_with fail
  go_at_call 22
  refine CM.out.mono ?_
  rintro e w2 ⟨rfl, hb2⟩
  have HB2 := Lib.hid hb2
  clear hb2 x0 x1 x2 x3 x4 x5 x6 x7 x8
  cases r with
  | false =>
    have HQ : Hid (V = (.string ⟨#[]⟩, 1)) := Lib.hid (by rw [← HV.out]; unfold TxtR; rw [HR.out]; rfl)
    go_wp2_with fail
    go_ret2
    exact ⟨ret_two HQ.out, HB1.out.trans (HB2.out.mono HB1.out.size)⟩
  | true =>
    obtain ⟨hck, f1, f8, hdi, hme, hta, hnl⟩ := mayR_parts HR.out
    obtain ⟨bn0, bn32, _⟩ := ck_ok a b hck
    obtain ⟨kf, rfl⟩ : ∃ kf : Nat, fr = (kf : Int) := ⟨fr.toNat, by omega⟩
    have HQ : Hid (V = (.string ⟨(txR ⟨a, b, kf, di, me, ta, nm, ho, dc⟩).toArray⟩, 0)) := Lib.hid (by rw [← HV.out]; unfold TxtR; rw [HR.out]; rfl)
    obtain ⟨A, hA⟩ : ∃ A, (⟨(ptext a.toNat b).toArray⟩ : ByteArray) = A := ⟨_, rfl⟩
    obtain ⟨B, hB⟩ : ∃ A, (⟨(srcW kf).toArray⟩ : ByteArray) = A := ⟨_, rfl⟩
    obtain ⟨C, hC⟩ : ∃ A, (⟨(Lib.itoa di).toArray⟩ : ByteArray) = A := ⟨_, rfl⟩
    obtain ⟨D, hD⟩ : ∃ A, (⟨(Lib.itoa me).toArray⟩ : ByteArray) = A := ⟨_, rfl⟩
    obtain ⟨E, hE⟩ : ∃ A, (⟨(Lib.itoa ta).toArray⟩ : ByteArray) = A := ⟨_, rfl⟩
    obtain ⟨G, hG⟩ : ∃ A, (⟨(text ho.toNat).toArray⟩ : ByteArray) = A := ⟨_, rfl⟩
    obtain ⟨L1, hL1⟩ : ∃ L, jn [] [A, B, C, D, E] = L := ⟨_, rfl⟩
    have hsz : A.size ≤ 1000 ∧ B.size ≤ 1000 ∧ C.size ≤ 1000 ∧ D.size ≤ 1000 ∧ E.size ≤ 1000 ∧ G.size ≤ 1000 ∧ nm.size ≤ 1000 := by
      refine ⟨?_, ?_, ?_, ?_, ?_, ?_, ?_⟩
      · rw [bsz_mk _ hA]; have := ptext_short a.toNat b (by omega) bn0 bn32; omega
      · rw [bsz_mk _ hB]; have := src_len (k := kf); omega
      · rw [bsz_mk _ hC]; have := itoa_len di (by omega) (by omega); omega
      · rw [bsz_mk _ hD]; have := itoa_len me (by omega) (by omega); omega
      · rw [bsz_mk _ hE]; have := itoa_len ta (by omega) (by omega); omega
      · rw [bsz_mk _ hG]; have := text_short ho.toNat (by omega); omega
      · rw [← str_toList]; omega
    obtain ⟨sA, sB, sC, sD, sE, sG, sN⟩ := hsz
    have hl1 : L1.length ≤ 50000 := by
      have h := jn_le1 [A, B, C, D, E] [] (by intro x hx; simp at hx; rcases hx with rfl | rfl | rfl | rfl | rfl <;> assumption)
      rw [hL1] at h; simp at h; omega
    have HL1 := Lib.hid hl1
    have HW1 : Hid (∀ hs : List ByteArray, txR ⟨a, b, kf, di, me, ta, nm, ho, dc⟩ = jn L1 hs ↔ jn [] ([A, B, C, D, E] ++ hs) = txR ⟨a, b, kf, di, me, ta, nm, ho, dc⟩) := Lib.hid fun hs => by rw [← hL1, jn_app]; exact eq_comm
    have HF : Hid (∀ ws : List ByteArray, ws.map (fun s => s.data.toList) = tlR ⟨a, b, kf, di, me, ta, nm, ho, dc⟩ → jn L1 ws = txR ⟨a, b, kf, di, me, ta, nm, ho, dc⟩) := Lib.hid fun ws hws => by
      rw [← hL1, jn_app, List.cons_append, jn_join _ _ (by rw [← hA]; simp [ptext])]
      unfold txR wR
      rw [← hws, ← hA, ← hB, ← hC, ← hD, ← hE]
      simp
    have HSS : Hid (∀ W, Below w2.heap.size w2 W → W.cell? ⟨w.heap.size, 0, none⟩ = some (.int .u32 a) ∧ W.cell? ⟨w.heap.size, 1, none⟩ = some (.int .i64 b) ∧ W.cell? ⟨w.heap.size, 2, none⟩ = some (.int .u8 (kf : Int)) ∧ W.cell? ⟨w.heap.size, 3, none⟩ = some (.int .i64 di) ∧ W.cell? ⟨w.heap.size, 4, none⟩ = some (.int .i64 me) ∧ W.cell? ⟨w.heap.size, 5, none⟩ = some (.int .i64 ta) ∧ W.cell? ⟨w.heap.size, 6, none⟩ = some (.string nm) ∧ W.cell? ⟨w.heap.size, 7, none⟩ = some (.int .u32 ho) ∧ W.cell? ⟨w.heap.size, 8, none⟩ = some (.bool dc) ∧ W.cell? ⟨0, kf, none⟩ = some (.string B)) := Lib.hid (fun W hb => by
      obtain ⟨a0, a1, a2, a3, a4, a5, a6, a7, a8⟩ := HCE.out W (Below.step HB2.out hb)
      have h2 := (HS.out.on (Below.step HB1.out (Below.step HB2.out hb))).at_ (k := kf) (by omega) (by omega)
      rw [hB] at h2
      exact ⟨a0, a1, a2, a3, a4, a5, a6, a7, a8, h2⟩)
    have HTT : Hid (∀ W, Below w2.heap.size w2 W → Tab10 W) := Lib.hid fun W hb => HT.out.on (Below.step HB1.out (Below.step HB2.out hb))
    have hb0 : Below w2.heap.size w2 w2 := Below.refl _ _
    obtain ⟨x0, x1, x2, x3, x4, x5, x6, x7, x8, xs⟩ := HSS.out w2 (Below.refl _ _)
    have HPT : Hid (∀ W, Below w2.heap.size w2 W → Calls Tryz.prog 24 #[.agg #[.int .u32 a, .int .i64 b]] W fun e w' => e = .returned (.string A) ∧ Below W.heap.size W w') := Lib.hid fun W hb => by rw [← hA]; exact ptext_is a b W ha ha2 (by omega) (by omega) (HTT.out W hb)
    have HI0 : Hid (∀ W, Below w2.heap.size w2 W → Calls Tryz.prog 25 #[.int .i64 di] W fun e w' => e = .returned (.string C) ∧ Below W.heap.size W w') := Lib.hid fun W hb => by rw [← hC]; exact itoa_is di W (by omega) (by omega) (HTT.out W hb)
    have HI1 : Hid (∀ W, Below w2.heap.size w2 W → Calls Tryz.prog 25 #[.int .i64 me] W fun e w' => e = .returned (.string D) ∧ Below W.heap.size W w') := Lib.hid fun W hb => by rw [← hD]; exact itoa_is me W (by omega) (by omega) (HTT.out W hb)
    have HI2 : Hid (∀ W, Below w2.heap.size w2 W → Calls Tryz.prog 25 #[.int .i64 ta] W fun e w' => e = .returned (.string E) ∧ Below W.heap.size W w') := Lib.hid fun W hb => by rw [← hE]; exact itoa_is ta W (by omega) (by omega) (HTT.out W hb)
    have HAT : Hid (∀ W, Below w2.heap.size w2 W → Calls Tryz.prog 26 #[.int .u32 ho] W fun e w' => e = .returned (.string G) ∧ Below W.heap.size W w') := Lib.hid fun W hb => by rw [← hG]; exact text_is ho W hh0 hh1 (HTT.out W hb)
    have HWR : Hid (∀ W, Below w2.heap.size w2 W → Calls Tryz.prog 23 #[.slice none 0 0, .slice (some ⟨W.heap.size, 0, none⟩) 5 5] (W.alloc (.cells #[.string A, .string B, .string C, .string D, .string E] 9)) (WrPost w2.heap.size L1 (W.alloc (.cells #[.string A, .string B, .string C, .string D, .string E] 9)))) := Lib.hid fun W hb => write_lit w2.heap.size [] [A, B, C, D, E] _ 5 W _ rfl (by simp) (by simp; omega) (by decide) (World.ownsRow_nil _ _ _ _) hb.size hL1
    have i0 : (0 : Int) ≤ (kf : Int) := by omega
    have i1 : (kf : Int) < 9 := by omega
    have HG := Lib.hid hG
    clear hA hB hC hD hE hG hL1
    go_wp2_with fail
    go_region_held3 (fun w' => w'.cell? ⟨w.heap.size, 0, none⟩ = some (.int .u32 a) ∧ w'.cell? ⟨w.heap.size, 1, none⟩ = some (.int .i64 b) ∧ w'.cell? ⟨w.heap.size, 2, none⟩ = some (.int .u8 (kf : Int)) ∧ w'.cell? ⟨w.heap.size, 3, none⟩ = some (.int .i64 di) ∧ w'.cell? ⟨w.heap.size, 4, none⟩ = some (.int .i64 me) ∧ w'.cell? ⟨w.heap.size, 5, none⟩ = some (.int .i64 ta) ∧ w'.cell? ⟨w.heap.size, 6, none⟩ = some (.string nm) ∧ w'.cell? ⟨w.heap.size, 7, none⟩ = some (.int .u32 ho) ∧ w'.cell? ⟨w.heap.size, 8, none⟩ = some (.bool dc) ∧ w'.cell? ⟨0, kf, none⟩ = some (.string B)) (first | exact HSS.out _ (by first | assumption | exact hb0.drew) | exact HSS.out _ (Below.alloc (by first | assumption | exact hb0.drew) (Below.size (by first | assumption | exact hb0.drew)) _) | go_keep | (trace_state; fail)) (first
      | (go_at_call 24; refine (HPT.out _ (by first | assumption | exact hb0.drew)).mono ?_; rintro e w3 ⟨rfl, hb3⟩; have hb3 := Below.step (a := w2) (by first | assumption | exact hb0.drew) hb3)
      | (go_at_call 25; (first | refine (HI0.out _ (by first | assumption | exact hb0.drew)).mono ?_ | refine (HI1.out _ (by first | assumption | exact hb0.drew)).mono ?_ | refine (HI2.out _ (by first | assumption | exact hb0.drew)).mono ?_); rintro e w3 ⟨rfl, hb3⟩; have hb3 := Below.step (a := w2) (by first | assumption | exact hb0.drew) hb3)
      | (go_at_call 23; refine (HWR.out _ (by first | assumption | exact hb0.drew)).mono ?_; rintro e w3 ⟨v3, rfl, ho3, hb3, _⟩; have hb3 := Below.trans (Below.alloc (a := w2) (by first | assumption | exact hb0.drew) (Below.size (by first | assumption | exact hb0.drew)) _) hb3))
    have HO3 := Lib.hid ho3
    have HB3 := Lib.hid hb3
    clear x0 x1 x2 x3 x4 x5 x6 x7 x8 xs ho3 hb3
    obtain ⟨x0, x1, x2, x3, x4, x5, x6, x7, x8, xs⟩ := HSS.out w3 HB3.out
    (try simp only [Exit.then])
    by_cases h0 : ho = 0
    case pos =>
      have hh : (ho != 0) = false := by simpa using h0
      by_cases h1 : nm.data.toList = []
      case pos =>
        have e1 := isE_true h1
        cases dc with
        | false =>
          have hfin : L1 = txR ⟨a, b, kf, di, me, ta, nm, ho, false⟩ := by
            have h := HF.out [] (by simp [tlR, wVia, wOn, wDis, ← HG.out, h0, h1])
            rw [← h]; rfl
          have hpos : 0 < L1.length := by rw [hfin]; unfold txR wR; rw [join_flat]; simp [ptext]; omega
          obtain ⟨g9, c9, rfl, _, _⟩ := World.ownsRow.form HO3.out hpos
          have hcv := conv_bytes (L := L1) HO3.out
          have HFI := Lib.hid hfin
          clear hfin hpos
          go_wp2
          go_ret2
          exact ⟨ret_two (x := .string ⟨L1.toArray⟩) (n := 0) (by rw [HQ.out, HFI.out]), HB1.out.trans ((Below.step HB2.out HB3.out).mono HB1.out.size)⟩
        | true =>
          go_wp2_with fail
          go_at_call 23
          obtain ⟨L4, hL4⟩ : ∃ L, jn L1 [⟨#[100, 105, 115, 99, 97, 114, 100]⟩] = L := ⟨_, rfl⟩
          have HL4 : Hid (L4.length ≤ 64000) := Lib.hid (by have h := jn_le1 [⟨#[100, 105, 115, 99, 97, 114, 100]⟩] L1 (by intro x hx; simp at hx; first | (rcases hx with rfl | rfl <;> first | assumption | decide) | (subst hx; decide)); rw [hL4] at h; have := HL1.out; simp at h; omega)
          refine (write_lit w2.heap.size L1 [⟨#[100, 105, 115, 99, 97, 114, 100]⟩] _ 1 w3 L4 rfl (by simp) (by simp; first | exact ⟨by decide, by assumption⟩ | decide) (by have := HL1.out; omega) HO3.out HB3.out.size hL4).mono ?_
          rintro e w4 ⟨v4, rfl, ho4, hb4, _⟩
          have HB4 := Lib.hid (Below.trans (HB3.out.alloc HB3.out.size _) hb4)
          have HO4 := Lib.hid ho4
          have HJ4 := Lib.hid hL4
          clear x0 x1 x2 x3 x4 x5 x6 x7 x8 xs hb4 ho4 hL4
          obtain ⟨x0, x1, x2, x3, x4, x5, x6, x7, x8, xs⟩ := HSS.out w4 HB4.out
          have hfin : L4 = txR ⟨a, b, kf, di, me, ta, nm, ho, true⟩ := by
            have h := HF.out [⟨#[100, 105, 115, 99, 97, 114, 100]⟩] (by simp [tlR, wVia, wOn, wDis, ← HG.out, h0, h1])
            rw [← h]; rw [← HJ4.out]; try simp only [jn_app, List.cons_append, List.nil_append]
          have hpos : 0 < L4.length := by rw [hfin]; unfold txR wR; rw [join_flat]; simp [ptext]; omega
          obtain ⟨g9, c9, rfl, _, _⟩ := World.ownsRow.form HO4.out hpos
          have hcv := conv_bytes (L := L4) HO4.out
          have HFI := Lib.hid hfin
          clear hfin hpos
          go_wp2
          go_ret2
          exact ⟨ret_two (x := .string ⟨L4.toArray⟩) (n := 0) (by rw [HQ.out, HFI.out]), HB1.out.trans ((Below.step HB2.out HB4.out).mono HB1.out.size)⟩
      have e1 := isE_false h1
      go_wp2_with fail
      go_at_call 23
      obtain ⟨L5, hL5⟩ : ∃ L, jn L1 [⟨#[111, 110]⟩, nm] = L := ⟨_, rfl⟩
      have HL5 : Hid (L5.length ≤ 54000) := Lib.hid (by have h := jn_le1 [⟨#[111, 110]⟩, nm] L1 (by intro x hx; simp at hx; first | (rcases hx with rfl | rfl <;> first | assumption | decide) | (subst hx; decide)); rw [hL5] at h; have := HL1.out; simp at h; omega)
      refine (write_lit w2.heap.size L1 [⟨#[111, 110]⟩, nm] _ 2 w3 L5 rfl (by simp) (by simp; first | exact ⟨by decide, by assumption⟩ | decide) (by have := HL1.out; omega) HO3.out HB3.out.size hL5).mono ?_
      rintro e w5 ⟨v5, rfl, ho5, hb5, _⟩
      have HB5 := Lib.hid (Below.trans (HB3.out.alloc HB3.out.size _) hb5)
      have HO5 := Lib.hid ho5
      have HJ5 := Lib.hid hL5
      clear x0 x1 x2 x3 x4 x5 x6 x7 x8 xs hb5 ho5 hL5
      obtain ⟨x0, x1, x2, x3, x4, x5, x6, x7, x8, xs⟩ := HSS.out w5 HB5.out
      cases dc with
      | false =>
        have hfin : L5 = txR ⟨a, b, kf, di, me, ta, nm, ho, false⟩ := by
          have h := HF.out [⟨#[111, 110]⟩, nm] (by simp [tlR, wVia, wOn, wDis, ← HG.out, h0, h1])
          rw [← h]; rw [← HJ5.out]; try simp only [jn_app, List.cons_append, List.nil_append]
        have hpos : 0 < L5.length := by rw [hfin]; unfold txR wR; rw [join_flat]; simp [ptext]; omega
        obtain ⟨g9, c9, rfl, _, _⟩ := World.ownsRow.form HO5.out hpos
        have hcv := conv_bytes (L := L5) HO5.out
        have HFI := Lib.hid hfin
        clear hfin hpos
        go_wp2
        go_ret2
        exact ⟨ret_two (x := .string ⟨L5.toArray⟩) (n := 0) (by rw [HQ.out, HFI.out]), HB1.out.trans ((Below.step HB2.out HB5.out).mono HB1.out.size)⟩
      | true =>
        go_wp2_with fail
        go_at_call 23
        obtain ⟨L6, hL6⟩ : ∃ L, jn L5 [⟨#[100, 105, 115, 99, 97, 114, 100]⟩] = L := ⟨_, rfl⟩
        have HL6 : Hid (L6.length ≤ 64000) := Lib.hid (by have h := jn_le1 [⟨#[100, 105, 115, 99, 97, 114, 100]⟩] L5 (by intro x hx; simp at hx; first | (rcases hx with rfl | rfl <;> first | assumption | decide) | (subst hx; decide)); rw [hL6] at h; have := HL5.out; simp at h; omega)
        refine (write_lit w2.heap.size L5 [⟨#[100, 105, 115, 99, 97, 114, 100]⟩] _ 1 w5 L6 rfl (by simp) (by simp; first | exact ⟨by decide, by assumption⟩ | decide) (by have := HL5.out; omega) HO5.out HB5.out.size hL6).mono ?_
        rintro e w6 ⟨v6, rfl, ho6, hb6, _⟩
        have HB6 := Lib.hid (Below.trans (HB5.out.alloc HB5.out.size _) hb6)
        have HO6 := Lib.hid ho6
        have HJ6 := Lib.hid hL6
        clear x0 x1 x2 x3 x4 x5 x6 x7 x8 xs hb6 ho6 hL6
        obtain ⟨x0, x1, x2, x3, x4, x5, x6, x7, x8, xs⟩ := HSS.out w6 HB6.out
        have hfin : L6 = txR ⟨a, b, kf, di, me, ta, nm, ho, true⟩ := by
          have h := HF.out [⟨#[111, 110]⟩, nm, ⟨#[100, 105, 115, 99, 97, 114, 100]⟩] (by simp [tlR, wVia, wOn, wDis, ← HG.out, h0, h1])
          rw [← h]; rw [← HJ6.out]; rw [← HJ5.out]; try simp only [jn_app, List.cons_append, List.nil_append]
        have hpos : 0 < L6.length := by rw [hfin]; unfold txR wR; rw [join_flat]; simp [ptext]; omega
        obtain ⟨g9, c9, rfl, _, _⟩ := World.ownsRow.form HO6.out hpos
        have hcv := conv_bytes (L := L6) HO6.out
        have HFI := Lib.hid hfin
        clear hfin hpos
        go_wp2
        go_ret2
        exact ⟨ret_two (x := .string ⟨L6.toArray⟩) (n := 0) (by rw [HQ.out, HFI.out]), HB1.out.trans ((Below.step HB2.out HB6.out).mono HB1.out.size)⟩
    have hh : (ho != 0) = true := by simpa using h0
    go_wp2_with fail
    go_at_call 26
    refine (HAT.out _ HB3.out).mono ?_
    rintro e w40 ⟨rfl, hb4⟩
    have HB40 := Lib.hid (Below.step HB3.out hb4)
    have HO40 := Lib.hid (own_below HO3.out hb4)
    clear x0 x1 x2 x3 x4 x5 x6 x7 x8 xs hb4
    obtain ⟨x0, x1, x2, x3, x4, x5, x6, x7, x8, xs⟩ := HSS.out w40 HB40.out
    go_wp2_with fail
    go_at_call 23
    obtain ⟨L41, hL41⟩ : ∃ L, jn L1 [⟨#[118, 105, 97]⟩, G] = L := ⟨_, rfl⟩
    have HL41 : Hid (L41.length ≤ 54000) := Lib.hid (by have h := jn_le1 [⟨#[118, 105, 97]⟩, G] L1 (by intro x hx; simp at hx; first | (rcases hx with rfl | rfl <;> first | assumption | decide) | (subst hx; decide)); rw [hL41] at h; have := HL1.out; simp at h; omega)
    refine (write_lit w2.heap.size L1 [⟨#[118, 105, 97]⟩, G] _ 2 w40 L41 rfl (by simp) (by simp; first | exact ⟨by decide, by assumption⟩ | decide) (by have := HL1.out; omega) HO40.out HB40.out.size hL41).mono ?_
    rintro e w41 ⟨v41, rfl, ho41, hb41, _⟩
    have HB41 := Lib.hid (Below.trans (HB40.out.alloc HB40.out.size _) hb41)
    have HO41 := Lib.hid ho41
    have HJ41 := Lib.hid hL41
    clear x0 x1 x2 x3 x4 x5 x6 x7 x8 xs hb41 ho41 hL41
    obtain ⟨x0, x1, x2, x3, x4, x5, x6, x7, x8, xs⟩ := HSS.out w41 HB41.out
    by_cases h1 : nm.data.toList = []
    case pos =>
      have e1 := isE_true h1
      cases dc with
      | false =>
        have hfin : L41 = txR ⟨a, b, kf, di, me, ta, nm, ho, false⟩ := by
          have h := HF.out [⟨#[118, 105, 97]⟩, G] (by simp [tlR, wVia, wOn, wDis, ← HG.out, h0, h1])
          rw [← h]; rw [← HJ41.out]; try simp only [jn_app, List.cons_append, List.nil_append]
        have hpos : 0 < L41.length := by rw [hfin]; unfold txR wR; rw [join_flat]; simp [ptext]; omega
        obtain ⟨g9, c9, rfl, _, _⟩ := World.ownsRow.form HO41.out hpos
        have hcv := conv_bytes (L := L41) HO41.out
        have HFI := Lib.hid hfin
        clear hfin hpos
        go_wp2
        go_ret2
        exact ⟨ret_two (x := .string ⟨L41.toArray⟩) (n := 0) (by rw [HQ.out, HFI.out]), HB1.out.trans ((Below.step HB2.out HB41.out).mono HB1.out.size)⟩
      | true =>
        go_wp2_with fail
        go_at_call 23
        obtain ⟨L42, hL42⟩ : ∃ L, jn L41 [⟨#[100, 105, 115, 99, 97, 114, 100]⟩] = L := ⟨_, rfl⟩
        have HL42 : Hid (L42.length ≤ 64000) := Lib.hid (by have h := jn_le1 [⟨#[100, 105, 115, 99, 97, 114, 100]⟩] L41 (by intro x hx; simp at hx; first | (rcases hx with rfl | rfl <;> first | assumption | decide) | (subst hx; decide)); rw [hL42] at h; have := HL41.out; simp at h; omega)
        refine (write_lit w2.heap.size L41 [⟨#[100, 105, 115, 99, 97, 114, 100]⟩] _ 1 w41 L42 rfl (by simp) (by simp; first | exact ⟨by decide, by assumption⟩ | decide) (by have := HL41.out; omega) HO41.out HB41.out.size hL42).mono ?_
        rintro e w42 ⟨v42, rfl, ho42, hb42, _⟩
        have HB42 := Lib.hid (Below.trans (HB41.out.alloc HB41.out.size _) hb42)
        have HO42 := Lib.hid ho42
        have HJ42 := Lib.hid hL42
        clear x0 x1 x2 x3 x4 x5 x6 x7 x8 xs hb42 ho42 hL42
        obtain ⟨x0, x1, x2, x3, x4, x5, x6, x7, x8, xs⟩ := HSS.out w42 HB42.out
        have hfin : L42 = txR ⟨a, b, kf, di, me, ta, nm, ho, true⟩ := by
          have h := HF.out [⟨#[118, 105, 97]⟩, G, ⟨#[100, 105, 115, 99, 97, 114, 100]⟩] (by simp [tlR, wVia, wOn, wDis, ← HG.out, h0, h1])
          rw [← h]; rw [← HJ42.out]; rw [← HJ41.out]; try simp only [jn_app, List.cons_append, List.nil_append]
        have hpos : 0 < L42.length := by rw [hfin]; unfold txR wR; rw [join_flat]; simp [ptext]; omega
        obtain ⟨g9, c9, rfl, _, _⟩ := World.ownsRow.form HO42.out hpos
        have hcv := conv_bytes (L := L42) HO42.out
        have HFI := Lib.hid hfin
        clear hfin hpos
        go_wp2
        go_ret2
        exact ⟨ret_two (x := .string ⟨L42.toArray⟩) (n := 0) (by rw [HQ.out, HFI.out]), HB1.out.trans ((Below.step HB2.out HB42.out).mono HB1.out.size)⟩
    have e1 := isE_false h1
    go_wp2_with fail
    go_at_call 23
    obtain ⟨L43, hL43⟩ : ∃ L, jn L41 [⟨#[111, 110]⟩, nm] = L := ⟨_, rfl⟩
    have HL43 : Hid (L43.length ≤ 58000) := Lib.hid (by have h := jn_le1 [⟨#[111, 110]⟩, nm] L41 (by intro x hx; simp at hx; first | (rcases hx with rfl | rfl <;> first | assumption | decide) | (subst hx; decide)); rw [hL43] at h; have := HL41.out; simp at h; omega)
    refine (write_lit w2.heap.size L41 [⟨#[111, 110]⟩, nm] _ 2 w41 L43 rfl (by simp) (by simp; first | exact ⟨by decide, by assumption⟩ | decide) (by have := HL41.out; omega) HO41.out HB41.out.size hL43).mono ?_
    rintro e w43 ⟨v43, rfl, ho43, hb43, _⟩
    have HB43 := Lib.hid (Below.trans (HB41.out.alloc HB41.out.size _) hb43)
    have HO43 := Lib.hid ho43
    have HJ43 := Lib.hid hL43
    clear x0 x1 x2 x3 x4 x5 x6 x7 x8 xs hb43 ho43 hL43
    obtain ⟨x0, x1, x2, x3, x4, x5, x6, x7, x8, xs⟩ := HSS.out w43 HB43.out
    cases dc with
    | false =>
      have hfin : L43 = txR ⟨a, b, kf, di, me, ta, nm, ho, false⟩ := by
        have h := HF.out [⟨#[118, 105, 97]⟩, G, ⟨#[111, 110]⟩, nm] (by simp [tlR, wVia, wOn, wDis, ← HG.out, h0, h1])
        rw [← h]; rw [← HJ43.out]; rw [← HJ41.out]; try simp only [jn_app, List.cons_append, List.nil_append]
      have hpos : 0 < L43.length := by rw [hfin]; unfold txR wR; rw [join_flat]; simp [ptext]; omega
      obtain ⟨g9, c9, rfl, _, _⟩ := World.ownsRow.form HO43.out hpos
      have hcv := conv_bytes (L := L43) HO43.out
      have HFI := Lib.hid hfin
      clear hfin hpos
      go_wp2
      go_ret2
      exact ⟨ret_two (x := .string ⟨L43.toArray⟩) (n := 0) (by rw [HQ.out, HFI.out]), HB1.out.trans ((Below.step HB2.out HB43.out).mono HB1.out.size)⟩
    | true =>
      go_wp2_with fail
      go_at_call 23
      obtain ⟨L44, hL44⟩ : ∃ L, jn L43 [⟨#[100, 105, 115, 99, 97, 114, 100]⟩] = L := ⟨_, rfl⟩
      have HL44 : Hid (L44.length ≤ 64000) := Lib.hid (by have h := jn_le1 [⟨#[100, 105, 115, 99, 97, 114, 100]⟩] L43 (by intro x hx; simp at hx; first | (rcases hx with rfl | rfl <;> first | assumption | decide) | (subst hx; decide)); rw [hL44] at h; have := HL43.out; simp at h; omega)
      refine (write_lit w2.heap.size L43 [⟨#[100, 105, 115, 99, 97, 114, 100]⟩] _ 1 w43 L44 rfl (by simp) (by simp; first | exact ⟨by decide, by assumption⟩ | decide) (by have := HL43.out; omega) HO43.out HB43.out.size hL44).mono ?_
      rintro e w44 ⟨v44, rfl, ho44, hb44, _⟩
      have HB44 := Lib.hid (Below.trans (HB43.out.alloc HB43.out.size _) hb44)
      have HO44 := Lib.hid ho44
      have HJ44 := Lib.hid hL44
      clear x0 x1 x2 x3 x4 x5 x6 x7 x8 xs hb44 ho44 hL44
      obtain ⟨x0, x1, x2, x3, x4, x5, x6, x7, x8, xs⟩ := HSS.out w44 HB44.out
      have hfin : L44 = txR ⟨a, b, kf, di, me, ta, nm, ho, true⟩ := by
        have h := HF.out [⟨#[118, 105, 97]⟩, G, ⟨#[111, 110]⟩, nm, ⟨#[100, 105, 115, 99, 97, 114, 100]⟩] (by simp [tlR, wVia, wOn, wDis, ← HG.out, h0, h1])
        rw [← h]; rw [← HJ44.out]; rw [← HJ43.out]; rw [← HJ41.out]; try simp only [jn_app, List.cons_append, List.nil_append]
      have hpos : 0 < L44.length := by rw [hfin]; unfold txR wR; rw [join_flat]; simp [ptext]; omega
      obtain ⟨g9, c9, rfl, _, _⟩ := World.ownsRow.form HO44.out hpos
      have hcv := conv_bytes (L := L44) HO44.out
      have HFI := Lib.hid hfin
      clear hfin hpos
      go_wp2
      go_ret2
      exact ⟨ret_two (x := .string ⟨L44.toArray⟩) (n := 0) (by rw [HQ.out, HFI.out]), HB1.out.trans ((Below.step HB2.out HB44.out).mono HB1.out.size)⟩
end Go.Proofs.YtmbkkjofikijiaaGreatDoor
