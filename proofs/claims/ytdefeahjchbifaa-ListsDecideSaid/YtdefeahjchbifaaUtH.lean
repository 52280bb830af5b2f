/- ListsDecide: which line decides of a prefix or of communities, and how, is as the document says. Under the conditions that they name. -/
import Derived.Test.YtdefeahjchbifaaUtG
namespace Go.Proofs.Ytdefeahjchbifaa
open Go.Shelf Go.RowKit Go.Lib
theorem encE_len (e : EntD) : (encE e).length = 5 := rfl
theorem encE_one : ∀ x, ∀ u ∈ encE x, u.oneCell' = true := fun x u hu => by
  simp only [encE, List.mem_cons, List.not_mem_nil, or_false] at hu
  rcases hu with rfl | rfl | rfl | rfl | rfl <;> rfl
theorem encM_len (e : MemD) : (encM e).length = 2 := rfl
theorem encM_one : ∀ x, ∀ u ∈ encM x, u.oneCell' = true := fun x u hu => by
  simp only [encM, List.mem_cons, List.not_mem_nil, or_false] at hu
  rcases hu with rfl | rfl <;> rfl
theorem infoE : (Try.prog.info? 44).map (fun i => (i.zero, i.size, i.bytes)) = some (some (.agg #[.bool false, .int .u32 0, .int .i64 0, .int .i64 0, .int .i64 0]), 5, 40) := by kernel_rfl
theorem infoM : (Try.prog.info? 46).map (fun i => (i.zero, i.size, i.bytes)) = some (some (.agg #[.bool false, .slice none 0 0]), 2, 32) := by kernel_rfl
theorem boxL {A B C : World} {v0 v1 : Value} (h5 : A.alloc (.cells #[(.string ⟨#[]⟩), (.slice none 0 0)] 30) = B) (h6 : ((B.setCell ⟨A.heap.size, 0, none⟩ v0).setCell ⟨A.heap.size, 1, none⟩ v1) = C) : Hid (C.heap[A.heap.size]? = some (.cells #[v0, v1] 30 (0, 0))) ∧ Hid (Below A.heap.size A C) ∧ Hid (C.heap.size = A.heap.size + 1) ∧ Hid (B.heap[A.heap.size]? = some (.cells #[(.string ⟨#[]⟩), (.slice none 0 0)] 30 (0, 0))) := by
  have e := heap_alc h5
  have h : Below A.heap.size A B := by rw [← h5]; exact (Below.refl _ _).alloc (Nat.le_refl _) _
  refine ⟨Lib.hid ?_, Lib.hid ?_, Lib.hid ?_, Lib.hid e⟩
  · rw [← h6]; simpa using (heap_store (o := 1) (v := v1) (heap_store (o := 0) (v := v0) e))
  · rw [← h6]; exact (Below.setCell (p := ⟨A.heap.size, 1, none⟩) (Below.setCell (p := ⟨A.heap.size, 0, none⟩) h (Nat.le_refl _) _) (Nat.le_refl _) _)
  · rw [← h6]; simp; rw [← h5]; simp
theorem boxC {A B C : World} {v0 v1 : Value} (h5 : A.alloc (.cells #[(.string ⟨#[]⟩), (.slice none 0 0)] 32) = B) (h6 : ((B.setCell ⟨A.heap.size, 0, none⟩ v0).setCell ⟨A.heap.size, 1, none⟩ v1) = C) : Hid (C.heap[A.heap.size]? = some (.cells #[v0, v1] 32 (0, 0))) ∧ Hid (Below A.heap.size A C) ∧ Hid (C.heap.size = A.heap.size + 1) ∧ Hid (B.heap[A.heap.size]? = some (.cells #[(.string ⟨#[]⟩), (.slice none 0 0)] 32 (0, 0))) := by
  have e := heap_alc h5
  have h : Below A.heap.size A B := by rw [← h5]; exact (Below.refl _ _).alloc (Nat.le_refl _) _
  refine ⟨Lib.hid ?_, Lib.hid ?_, Lib.hid ?_, Lib.hid e⟩
  · rw [← h6]; simpa using (heap_store (o := 1) (v := v1) (heap_store (o := 0) (v := v0) e))
  · rw [← h6]; exact (Below.setCell (p := ⟨A.heap.size, 1, none⟩) (Below.setCell (p := ⟨A.heap.size, 0, none⟩) h (Nat.le_refl _) _) (Nat.le_refl _) _)
  · rw [← h6]; simp; rw [← h5]; simp
set_option maxRecDepth 100000 in
set_option maxHeartbeats 2000000 in
theorem ld_is (v0 : Value) (es : List EntD) (x n : Int) (v2 : Value) (ms : List MemD) (v3 : Value) (cs : List Int) (t : Int) (w : World) (h0 : RdK encE 5 w v0 es) (ho : OkE es) (hx : 0 ≤ x ∧ x < 4294967296) (h2 : RdK encM 2 w v2 ms) (hm : OkM w ms) (h3 : RdK encU 1 w v3 cs)
    (b0 : es.length * 40 ≤ 140737488351232) (b2 : ms.length * 32 ≤ 140737488351232) (b3 : cs.length * 4 ≤ 140737488351232) :
    Calls Try.prog 3 #[v0, .agg #[.int .u32 x, .int .i64 n], v2, v3, .int .i64 t] w fun e w' => e = .returned (.bool true) ∧ Below w.heap.size w w' := by
  have H0 := Lib.hid h0; have H2 := Lib.hid h2; have H3 := Lib.hid h3; have HM := Lib.hid hm; have HO := Lib.hid ho; have HX := Lib.hid hx
  obtain ⟨p0, c0, rfl, _⟩ := h0.sl
  obtain ⟨p2, c2, rfl, _⟩ := h2.sl
  obtain ⟨p3, c3, rfl, _⟩ := h3.sl
  clear h0 h2 h3 hm ho hx
  obtain ⟨W0, hW0⟩ : ∃ X, w.alloc (.cells #[.int .u32 x, .int .i64 n] 26) = X := ⟨_, rfl⟩
  have z0 : W0.heap.size = w.heap.size + 1 := by rw [← hW0]; simp
  have HP0 := Lib.hid (heap_alc hW0)
  have B0 : Hid (Below w.heap.size w W0) := Lib.hid (by rw [← hW0]; exact (Below.refl _ _).alloc (Nat.le_refl _) _)
  obtain ⟨Ea, hEa⟩ : ∃ X, W0.alloc (.cells #[] 44) = X := ⟨_, rfl⟩
  have zE : Ea.heap.size = W0.heap.size + 1 := by rw [← hEa]; simp
  have OE0 : Hid (Ea.ownsRow W0.heap.size 44 5 (.slice (some ⟨w.heap.size + 1, 0, none⟩) 0 0) 0 []) := Lib.hid (by first | exact own_empty (heap_alc hEa) (Nat.le_refl _) | (rw [← z0]; exact own_empty (heap_alc hEa) (Nat.le_refl _)))
  have BE0 : Hid (Below W0.heap.size W0 Ea) := Lib.hid (by rw [← hEa]; exact (Below.refl _ _).alloc (Nat.le_refl _) _)
  go_enter Try.func3, Try.ntmps3
  go_wp2_with (first
    | (at_builtin
       refine wpList_append_rdk (enc := encE) encE_len (by decide) encE_one rfl _ _ 22 44 rfl _ 40 Try.underlying22 rfl infoE W0.heap.size _ 0 [] rfl OE0.out _ es rfl ((H0.out.below (Below.step B0.out BE0.out))) (by unfold maxLen; omega) (by omega) (by omega) ?_
       intro vE Eb oE gE nE
       have BE : Hid (Below W0.heap.size W0 Eb) := Lib.hid (BE0.out.grown gE (by omega) (fun j hj => by first | (have h1 : some W0.heap.size = some j := hj; cases h1; exact Nat.le_refl _) | (have h1 : some (w.heap.size + 1) = some j := hj; cases h1; omega)))
       have RE : Hid (OwnR encE 5 44 W0.heap.size Eb.heap.size Eb vE es) := Lib.hid ⟨by simpa using oE, fun g hg => ((by simpa using oE : Eb.ownsRow W0.heap.size 44 5 vE es.length (flatK encE es)).lt g hg).2⟩
       obtain ⟨pE, cE, hsE, _⟩ := (RE.out.rd encE_len).sl
       clear oE gE nE OE0 BE0
       subst hsE
       obtain ⟨Ec, hEc⟩ : ∃ X, Eb.alloc (.cells #[.string ⟨#[]⟩, .slice none 0 0] 30) = X := ⟨_, rfl⟩
       obtain ⟨Ed, hEd⟩ : ∃ X, (Ec.setCell ⟨Eb.heap.size, 0, none⟩ (.string ⟨#[97]⟩)).setCell ⟨Eb.heap.size, 1, none⟩ (.slice pE es.length cE) = X := ⟨_, rfl⟩
       obtain ⟨NE, CE, ZE, YE⟩ := boxL hEc hEd
       obtain ⟨yE0, yE1⟩ : Ec.cell? ⟨Eb.heap.size, 0, none⟩ = some (.string ⟨#[]⟩) ∧ Ec.cell? ⟨Eb.heap.size, 1, none⟩ = some (.slice none 0 0) := ⟨cell_heap YE.out, cell_heap YE.out⟩
       have fE : ∀ o, Ec.frozen? ⟨Eb.heap.size, o, none⟩ = false := fun o => frozen_heap YE.out
       have S1 : Hid (Below w.heap.size w Eb) := Lib.hid (Below.step B0.out BE.out)
       have S2 : Hid (Below w.heap.size w Ed) := Lib.hid (Below.step S1.out CE.out)
       obtain ⟨Ma, hMa⟩ : ∃ X, Ed.alloc (.cells #[] 46) = X := ⟨_, rfl⟩
       have zM : Ma.heap.size = Ed.heap.size + 1 := by rw [← hMa]; simp
       have OM0 : Hid (Ma.ownsRow Ed.heap.size 46 2 (.slice (some ⟨Ed.heap.size, 0, none⟩) 0 0) 0 []) := Lib.hid (by first | exact own_empty (heap_alc hMa) (Nat.le_refl _) | (rw [← z0]; exact own_empty (heap_alc hMa) (Nat.le_refl _)))
       have BM0 : Hid (Below Ed.heap.size Ed Ma) := Lib.hid (by rw [← hMa]; exact (Below.refl _ _).alloc (Nat.le_refl _) _))
    | (at_builtin
       refine wpList_append_rdk (enc := encM) encM_len (by decide) encM_one rfl _ _ 27 46 rfl _ 32 Try.underlying27 rfl infoM Ed.heap.size _ 0 [] rfl OM0.out _ ms rfl ((H2.out.below (Below.step S2.out BM0.out))) (by unfold maxLen; omega) (by omega) (by omega) ?_
       intro vM Mb oM gM nM
       have BM : Hid (Below Ed.heap.size Ed Mb) := Lib.hid (BM0.out.grown gM (by omega) (fun j hj => by first | (have h1 : some Ed.heap.size = some j := hj; cases h1; exact Nat.le_refl _) | (have h1 : some (w.heap.size + 1) = some j := hj; cases h1; omega)))
       have RM : Hid (OwnR encM 2 46 Ed.heap.size Mb.heap.size Mb vM ms) := Lib.hid ⟨by simpa using oM, fun g hg => ((by simpa using oM : Mb.ownsRow Ed.heap.size 46 2 vM ms.length (flatK encM ms)).lt g hg).2⟩
       obtain ⟨pM, cM, hsM, _⟩ := (RM.out.rd encM_len).sl
       clear oM gM nM OM0 BM0
       subst hsM
       obtain ⟨Mc, hMc⟩ : ∃ X, Mb.alloc (.cells #[.string ⟨#[]⟩, .slice none 0 0] 32) = X := ⟨_, rfl⟩
       obtain ⟨Md, hMd⟩ : ∃ X, (Mc.setCell ⟨Mb.heap.size, 0, none⟩ (.string ⟨#[98]⟩)).setCell ⟨Mb.heap.size, 1, none⟩ (.slice pM ms.length cM) = X := ⟨_, rfl⟩
       obtain ⟨NM, CM, ZM, YM⟩ := boxC hMc hMd
       obtain ⟨yM0, yM1⟩ : Mc.cell? ⟨Mb.heap.size, 0, none⟩ = some (.string ⟨#[]⟩) ∧ Mc.cell? ⟨Mb.heap.size, 1, none⟩ = some (.slice none 0 0) := ⟨cell_heap YM.out, cell_heap YM.out⟩
       have fM : ∀ o, Mc.frozen? ⟨Mb.heap.size, o, none⟩ = false := fun o => frozen_heap YM.out
       have S3 : Hid (Below w.heap.size w Mb) := Lib.hid (Below.step S2.out BM.out)
       have S4 : Hid (Below w.heap.size w Md) := Lib.hid (Below.step S3.out CM.out)
       obtain ⟨Ua, hUa⟩ : ∃ X, Md.alloc (.cells #[] 23) = X := ⟨_, rfl⟩
       have zU : Ua.heap.size = Md.heap.size + 1 := by rw [← hUa]; simp
       have OU0 : Hid (Ua.ownsRow Md.heap.size 23 1 (.slice (some ⟨Md.heap.size, 0, none⟩) 0 0) 0 []) := Lib.hid (by first | exact own_empty (heap_alc hUa) (Nat.le_refl _) | (rw [← z0]; exact own_empty (heap_alc hUa) (Nat.le_refl _)))
       have BU0 : Hid (Below Md.heap.size Md Ua) := Lib.hid (by rw [← hUa]; exact (Below.refl _ _).alloc (Nat.le_refl _) _))
    | (at_builtin
       refine wpList_append_rdk (enc := encU) encU_len (by decide) encU_one rfl _ _ 28 23 rfl _ 4 Try.underlying28 rfl infoU Md.heap.size _ 0 [] rfl OU0.out _ cs rfl ((H3.out.below (Below.step S4.out BU0.out))) (by unfold maxLen; omega) (by omega) (by omega) ?_
       intro vU Ub oU gU nU
       have BU : Hid (Below Md.heap.size Md Ub) := Lib.hid (BU0.out.grown gU (by omega) (fun j hj => by first | (have h1 : some Md.heap.size = some j := hj; cases h1; exact Nat.le_refl _) | (have h1 : some (w.heap.size + 1) = some j := hj; cases h1; omega)))
       have RU : Hid (OwnR encU 1 23 Md.heap.size Ub.heap.size Ub vU cs) := Lib.hid ⟨by simpa using oU, fun g hg => ((by simpa using oU : Ub.ownsRow Md.heap.size 23 1 vU cs.length (flatK encU cs)).lt g hg).2⟩
       obtain ⟨pU, cU, hsU, _⟩ := (RU.out.rd encU_len).sl
       clear oU gU nU OU0 BU0
       subst hsU))
  have T3 := Lib.hid (Below.step CM.out BU.out)
  have T2 := Lib.hid (Below.step BM.out T3.out)
  have T1 := Lib.hid (Below.step CE.out T2.out)
  have T0 := Lib.hid (Below.step BE.out T1.out)
  have S5 : Hid (Below w.heap.size w Ub) := Lib.hid (Below.step B0.out T0.out)
  have SS : Hid (St w.heap.size Eb.heap.size Mb.heap.size x n (.slice pE es.length cE) (.slice pM ms.length cM) (.slice pU cs.length cU) cs es ms Ub) := Lib.hid (by
    have hbb := carryH NM.out BU.out
    refine ⟨carryH HP0.out T0.out, carryH NE.out T2.out, hbb, ?_, ?_, ?_, (Array.getElem?_eq_some_iff.1 hbb).1, ?_, ?_⟩
    · rw [← z0]; exact RE.out.below T1.out
    · rw [← ZE.out]; exact RM.out.below T3.out
    · rw [← ZM.out]; exact RU.out
    · have := BE.out.size; omega
    · have := BM.out.size; have := ZE.out; omega)
  have LE : Hid (es.length ≤ 35184372087808) := Lib.hid (by omega)
  have LM : Hid (ms.length ≤ 35184372087808) := Lib.hid (by omega)
  have LC : Hid (cs.length ≤ 35184372087808) := Lib.hid (by omega)
  have le1 : es.length ≤ 35184372087808 := LE.out
  have lm1 : ms.length ≤ 35184372087808 := LM.out
  have lc1 : cs.length ≤ 35184372087808 := LC.out
  clear T0 T1 T2 T3 B0 BE CE BM CM BU RE RM RU NE NM ZE ZM YE YM yE0 yE1 yM0 yM1 fE fM S1 S2 S3 S4 HP0 H0 H2 b0 b2 b3
  clear z0 zE zM zU hEd hMd hEc hMc hEa hMa
  generalize Eb.heap.size = ga at *
  generalize Mb.heap.size = gb at *
  go_loopw [14] (fun vi wr => ∃ (r : Nat) (es' : List EntD) (ms' : List MemD), vi = .int .i64 r ∧ r ≤ 2 ∧ Hid (es'.length = es.length ∧ ms'.length = ms.length) ∧ Hid (Below w.heap.size w wr) ∧ Hid (St w.heap.size ga gb x n (.slice pE es.length cE) (.slice pM ms.length cM) (.slice pU cs.length cU) cs es' ms' wr) ∧ Hid (OkE es') ∧ Hid (OkM w ms')) (fun vi _ => 2 - (intOf vi).toNat)
  case atStart => exact ⟨0, es, ms, rfl, Nat.zero_le _, Lib.hid ⟨rfl, rfl⟩, S5, SS, HO, HM⟩
  case round =>
    clear S5 SS HO HM
    obtain ⟨r, es', ms', rfl, hr, HL, HB, HS, HE, HMM⟩ := hrel
    by_cases hlt : r < 2
    · have hltz : (r : Int) < 2 := by omega
      have le' : es'.length ≤ 35184372087808 := by rw [HL.out.1]; exact LE.out
      have lm' : ms'.length ≤ 35184372087808 := by rw [HL.out.2]; exact LM.out
      obtain ⟨oE, hoE⟩ : ∃ o, fstI (fitE x n) es' = o := ⟨_, rfl⟩
      obtain ⟨oM, hoM⟩ : ∃ o, fstI (fitM cs) ms' = o := ⟨_, rfl⟩
      obtain ⟨pp, hpp⟩ : ∃ o, lets (fitE x n) EntD.perm es' = o := ⟨_, rfl⟩
      obtain ⟨pa, hpa⟩ : ∃ o, lets (fitM cs) MemD.perm ms' = o := ⟨_, rfl⟩
      have C5 := Lib.hid (entry_is ⟨#[97]⟩ (.slice pE es.length cE) es' x n wr (HS.out.e.rd encE_len) HE.out HX.out le')
      have C6 := Lib.hid fun W (hW : Below wr.heap.size wr W) => member_is ⟨#[98]⟩ (.slice pM ms.length cM) ms' (.slice pU cs.length cU) cs W ((HS.out.m.rd encM_len).below hW) ((HMM.out.below HB.out).below hW) ((HS.out.u.rd encU_len).below hW) LC.out lm'
      have C8 := Lib.hid fun W (hW : Below wr.heap.size wr W) => rentry_is ⟨#[97]⟩ (.slice pE es.length cE) es' x n W ((HS.out.e.rd encE_len).below hW) HE.out HX.out le'
      have C9 := Lib.hid fun W (hW : Below wr.heap.size wr W) => rmember_is ⟨#[98]⟩ (.slice pM ms.length cM) ms' (.slice p3 cs.length c3) cs W ((HS.out.m.rd encM_len).below hW) ((HMM.out.below HB.out).below hW) (H3.out.below (Below.step HB.out hW)) LC.out lm'
      have C10 := Lib.hid fun W (hW : Below wr.heap.size wr W) => permits_is ⟨#[97]⟩ (.slice pE es.length cE) es' x n W ((HS.out.e.rd encE_len).below hW) HE.out HX.out le'
      have C11 := Lib.hid fun W (hW : Below wr.heap.size wr W) => rpermits_is ⟨#[97]⟩ (.slice pE es.length cE) es' x n W ((HS.out.e.rd encE_len).below hW) HE.out HX.out le'
      have C12 := Lib.hid fun W (hW : Below wr.heap.size wr W) => allows_is ⟨#[98]⟩ (.slice pM ms.length cM) ms' (.slice pU cs.length cU) cs W ((HS.out.m.rd encM_len).below hW) ((HMM.out.below HB.out).below hW) ((HS.out.u.rd encU_len).below hW) LC.out lm'
      have C13 := Lib.hid fun W (hW : Below wr.heap.size wr W) => rallows_is ⟨#[98]⟩ (.slice pM ms.length cM) ms' (.slice p3 cs.length c3) cs W ((HS.out.m.rd encM_len).below hW) ((HMM.out.below HB.out).below hW) (H3.out.below (Below.step HB.out hW)) LC.out lm'
      have C14 := Lib.hid fun W (hW : Below wr.heap.size wr W) => same_is (.slice pU cs.length cU) (.slice p3 cs.length c3) cs W ((HS.out.u.rd encU_len).below hW) (H3.out.below (Below.step HB.out hW)) LC.out
      have C7 : Hid (∀ o W, Calls Try.prog 7 #[.int .i64 (outI o).1, .bool (outI o).2, .int .i64 (outR o)] W fun e w' => e = .returned (.bool true) ∧ Below W.heap.size W w') := Lib.hid fun o W => (place_is o W).mono (by rintro e w' ⟨rfl, rfl⟩; exact ⟨rfl, Below.refl _ _⟩)
      rw [hoE] at C5
      rw [hoM] at C6
      simp only [hoE] at C8
      simp only [hoM] at C9
      simp only [hpp] at C10 C11
      simp only [hpa] at C12 C13
      clear hoE hoM hpp hpa
      obtain ⟨a0, a1⟩ : wr.cell? ⟨ga, 0, none⟩ = some (.string ⟨#[97]⟩) ∧ wr.cell? ⟨ga, 1, none⟩ = some (.slice pE es.length cE) := ⟨cell_heap HS.out.ha, cell_heap HS.out.ha⟩
      obtain ⟨d0, d1⟩ : wr.cell? ⟨gb, 0, none⟩ = some (.string ⟨#[98]⟩) ∧ wr.cell? ⟨gb, 1, none⟩ = some (.slice pM ms.length cM) := ⟨cell_heap HS.out.hb, cell_heap HS.out.hb⟩
      obtain ⟨k0, k1⟩ : wr.cell? ⟨w.heap.size, 0, none⟩ = some (.int .u32 x) ∧ wr.cell? ⟨w.heap.size, 1, none⟩ = some (.int .i64 n) := ⟨cell_heap HS.out.hp, cell_heap HS.out.hp⟩
      go_wp2_with fail
      go_at_call 5
      (with_reducible refine C5.out.mono ?_)
      rintro e W3 ⟨rfl, hb3⟩
      have G3 := Lib.hid hb3
      have HS3 := Lib.hid (HS.out.below hb3)
      clear hb3 a0 a1 d0 d1 k0 k1 C5
      obtain ⟨a0, a1⟩ : W3.cell? ⟨ga, 0, none⟩ = some (.string ⟨#[97]⟩) ∧ W3.cell? ⟨ga, 1, none⟩ = some (.slice pE es.length cE) := ⟨cell_heap HS3.out.ha, cell_heap HS3.out.ha⟩
      obtain ⟨d0, d1⟩ : W3.cell? ⟨gb, 0, none⟩ = some (.string ⟨#[98]⟩) ∧ W3.cell? ⟨gb, 1, none⟩ = some (.slice pM ms.length cM) := ⟨cell_heap HS3.out.hb, cell_heap HS3.out.hb⟩
      obtain ⟨k0, k1⟩ : W3.cell? ⟨w.heap.size, 0, none⟩ = some (.int .u32 x) ∧ W3.cell? ⟨w.heap.size, 1, none⟩ = some (.int .i64 n) := ⟨cell_heap HS3.out.hp, cell_heap HS3.out.hp⟩
      go_wp2_with fail
      go_at_call 6
      (with_reducible refine (C6.out W3 G3.out).mono ?_)
      rintro e W4 ⟨rfl, hb4⟩
      have G4 := Lib.hid (Below.step G3.out hb4)
      have HS4 := Lib.hid (HS3.out.below hb4)
      have HB4 := Lib.hid (Below.step HB.out G4.out)
      clear hb4 a0 a1 d0 d1 k0 k1 C6 HS3 G3
      obtain ⟨a0, a1⟩ : W4.cell? ⟨ga, 0, none⟩ = some (.string ⟨#[97]⟩) ∧ W4.cell? ⟨ga, 1, none⟩ = some (.slice pE es.length cE) := ⟨cell_heap HS4.out.ha, cell_heap HS4.out.ha⟩
      obtain ⟨d0, d1⟩ : W4.cell? ⟨gb, 0, none⟩ = some (.string ⟨#[98]⟩) ∧ W4.cell? ⟨gb, 1, none⟩ = some (.slice pM ms.length cM) := ⟨cell_heap HS4.out.hb, cell_heap HS4.out.hb⟩
      obtain ⟨k0, k1⟩ : W4.cell? ⟨w.heap.size, 0, none⟩ = some (.int .u32 x) ∧ W4.cell? ⟨w.heap.size, 1, none⟩ = some (.int .i64 n) := ⟨cell_heap HS4.out.hp, cell_heap HS4.out.hp⟩
      have ta : ga < W4.heap.size := Nat.lt_trans HS4.out.l2 HS4.out.top
      have tb : gb < W4.heap.size := HS4.out.top
      have tp : w.heap.size < W4.heap.size := Nat.lt_trans HS4.out.l1 ta
      have q1 : (pp != pp) = false := by simp
      have q2 : (pa != pa) = false := by simp
      go_wp2_with fail
      refine wp_region_grows (by kernel_rfl) (by kernel_rfl) ?_
      refine grows_fact ga 0 _ a0 ta fun f0 => ?_
      refine grows_fact ga 1 _ a1 ta fun f1 => ?_
      refine grows_fact gb 0 _ d0 tb fun f2 => ?_
      refine grows_fact gb 1 _ d1 tb fun f3 => ?_
      refine grows_fact w.heap.size 0 _ k0 tp fun f4 => ?_
      refine grows_fact w.heap.size 1 _ k1 tp fun f5 => ?_
      repeat (go_big_quiet_step (first
        | (go_at_call 7; with_reducible exact Calls.grows_of (C7.out _ _))
        | (go_at_call 8; with_reducible exact Calls.grows_of (C8.out _ (Below.step G4.out (Grows.below _))))
        | (go_at_call 9; with_reducible exact Calls.grows_of (C9.out _ (Below.step G4.out (Grows.below _))))
        | (go_at_call 10; with_reducible exact Calls.grows_of (C10.out _ (Below.step G4.out (Grows.below _))))
        | (go_at_call 11; with_reducible exact Calls.grows_of (C11.out _ (Below.step G4.out (Grows.below _))))
        | (go_at_call 12; with_reducible exact Calls.grows_of (C12.out _ (Below.step G4.out (Grows.below _))))
        | (go_at_call 13; with_reducible exact Calls.grows_of (C13.out _ (Below.step G4.out (Grows.below _))))
        | (go_at_call 14; with_reducible exact Calls.grows_of (C14.out _ (Below.step G4.out (Grows.below _))))))
      refine wpQuiet_nil ?_
      rintro W5 ⟨⟨_, hb5⟩, rfl⟩
      have HS5 := Lib.hid (HS4.out.below hb5)
      have HB5 := Lib.hid (Below.step HB4.out hb5)
      clear hb5 f0 f1 f2 f3 f4 f5 a0 a1 d0 d1 k0 k1 C7 C8 C9 C10 C11 C12 C13 C14 HS4 HB4 G4 ta tb tp q1 q2
      go_wp2
      go_loopw [19] (fun vi wr => ∃ k : Nat, vi = .int .i64 k ∧ k ≤ es.length ∧ Hid (Below w.heap.size w wr) ∧ Hid (St w.heap.size ga gb x n (.slice pE es.length cE) (.slice pM ms.length cM) (.slice pU cs.length cU) cs es' ms' wr)) (fun vi _ => es.length - (intOf vi).toNat)
      case atStart => exact ⟨0, rfl, Nat.zero_le _, HB5, HS5⟩
      case round =>
        obtain ⟨k, rfl, hk, HB6, HS6⟩ := hrel
        clear HS5 HB5
        have ta : ga < wr.heap.size := Nat.lt_trans HS6.out.l2 HS6.out.top
        have tp : w.heap.size < wr.heap.size := Nat.lt_trans HS6.out.l1 ta
        obtain ⟨a0, a1⟩ : wr.cell? ⟨ga, 0, none⟩ = some (.string ⟨#[97]⟩) ∧ wr.cell? ⟨ga, 1, none⟩ = some (.slice pE es.length cE) := ⟨cell_heap HS6.out.ha, cell_heap HS6.out.ha⟩
        obtain ⟨d0, d1⟩ : wr.cell? ⟨gb, 0, none⟩ = some (.string ⟨#[98]⟩) ∧ wr.cell? ⟨gb, 1, none⟩ = some (.slice pM ms.length cM) := ⟨cell_heap HS6.out.hb, cell_heap HS6.out.hb⟩
        obtain ⟨k0, k1⟩ : wr.cell? ⟨w.heap.size, 0, none⟩ = some (.int .u32 x) ∧ wr.cell? ⟨w.heap.size, 1, none⟩ = some (.int .i64 n) := ⟨cell_heap HS6.out.hp, cell_heap HS6.out.hp⟩
        by_cases hkl : k < es.length
        · have hklz : (k : Int) < (es.length : Int) := by omega
          obtain ⟨s, hs⟩ : ∃ s, es'[k]? = some s := ⟨_, List.getElem?_eq_getElem (by rw [HL.out.1]; exact hkl)⟩
          obtain ⟨g, cg, hv, g1, g2, cf, hc, hset⟩ := HS6.out.e.at_ encE_len hs
          simp only [Value.slice.injEq] at hv
          obtain ⟨hv, hv2, hv3⟩ := hv
          clear hv2 hv3
          subst hv
          have c0 : wr.cell? ⟨g, k * 5, none⟩ = some (.bool s.perm) := hc 0 _ rfl
          have c1 : wr.cell? ⟨g, k * 5 + 1, none⟩ = some (.int .u32 s.a) := hc 1 _ rfl
          have c2 : wr.cell? ⟨g, k * 5 + 2, none⟩ = some (.int .i64 s.b) := hc 2 _ rfl
          have c3 : wr.cell? ⟨g, k * 5 + 3, none⟩ = some (.int .i64 s.ge) := hc 3 _ rfl
          have c4 : wr.cell? ⟨g, k * 5 + 4, none⟩ = some (.int .i64 s.le) := hc 4 _ rfl
          have HSET := Lib.hid hset
          clear hset hc
          have tg : g < wr.heap.size := Nat.lt_trans g2 ta
          have hsm := HE.out s (List.mem_of_getElem? hs)
          obtain ⟨r2, hr2⟩ : ∃ r2, fitE x n s = r2 := ⟨_, rfl⟩
          have CF := Lib.hid fun W => fits_is s.perm s.a s.b s.ge s.le x n W hsm HX.out
          have CR := Lib.hid fun W => rfits_is s.perm s.a s.b s.ge s.le x n W hsm HX.out
          have he : (⟨s.perm, s.a, s.b, s.ge, s.le⟩ : EntD) = s := rfl
          rw [he, hr2] at CF CR
          have q1 : (r2 != r2) = false := by simp
          clear HSET hr2 hsm he hs d0 d1
          go_wp2_with fail
          refine wp_region_grows (by kernel_rfl) (by kernel_rfl) ?_
          refine grows_fact ga 1 _ a1 ta fun f1 => ?_
          refine grows_fact w.heap.size 0 _ k0 tp fun f4 => ?_
          refine grows_fact w.heap.size 1 _ k1 tp fun f5 => ?_
          refine grows_fact g (k * 5) _ c0 tg fun h0 => ?_
          refine grows_fact g (k * 5 + 1) _ c1 tg fun h1 => ?_
          refine grows_fact g (k * 5 + 2) _ c2 tg fun h2 => ?_
          refine grows_fact g (k * 5 + 3) _ c3 tg fun h3 => ?_
          refine grows_fact g (k * 5 + 4) _ c4 tg fun h4 => ?_
          repeat (go_big_quiet_step (first
            | (go_at_call 15; with_reducible exact Calls.grows_of (CF.out _))
            | (go_at_call 16; with_reducible exact Calls.grows_of (CR.out _))))
          refine wpQuiet_nil ?_
          rintro W7 ⟨⟨_, hb7⟩, rfl⟩
          have HS7 := Lib.hid (HS6.out.below hb7)
          have HB7 := Lib.hid (Below.step HB6.out hb7)
          clear hb7 f1 f4 f5 h0 h1 h2 h3 h4 c0 c1 c2 c3 c4 cf HS6 HB6
          go_wp2
          go_roundw
          case rel => exact ⟨k + 1, by go_num, by omega, HB7, HS7⟩
          case measure => simp [intOf] <;> omega
        · have hge : ¬ (k : Int) < (es.length : Int) := by omega
          by_cases t0 : 0 ≤ t
          · obtain ⟨j, rfl⟩ : ∃ j : Nat, t = (j : Int) := ⟨t.toNat, by omega⟩
            by_cases t1 : j < es.length
            · have t1z : (j : Int) < (es.length : Int) := by omega
              obtain ⟨s, hs⟩ : ∃ s, es'[j]? = some s := ⟨_, List.getElem?_eq_getElem (by rw [HL.out.1]; exact t1)⟩
              obtain ⟨g, cg, hv, g1, g2, cf, hc, hset⟩ := HS6.out.e.at_ encE_len hs
              simp only [Value.slice.injEq] at hv
              obtain ⟨hv, hv2, hv3⟩ := hv
              clear hv2 hv3
              subst hv
              have c0 : wr.cell? ⟨g, j * 5, none⟩ = some (.bool s.perm) := hc 0 _ rfl
              have c1 : wr.cell? ⟨g, j * 5 + 1, none⟩ = some (.int .u32 s.a) := hc 1 _ rfl
              have c2 : wr.cell? ⟨g, j * 5 + 2, none⟩ = some (.int .i64 s.b) := hc 2 _ rfl
              have c3 : wr.cell? ⟨g, j * 5 + 3, none⟩ = some (.int .i64 s.ge) := hc 3 _ rfl
              have c4 : wr.cell? ⟨g, j * 5 + 4, none⟩ = some (.int .i64 s.le) := hc 4 _ rfl
              have HSET := Lib.hid hset
              clear hset hc
              have HSS := Lib.hid hs
              clear hs
              go_wp2
              have e6 := HSET.out 0 (.bool (!s.perm)) ⟨!s.perm, s.a, s.b, s.ge, s.le⟩ (by decide) rfl
              have HS8 : Hid (St w.heap.size ga gb x n (.slice (some ⟨g, 0, none⟩) es.length cE) (.slice pM ms.length cM) (.slice pU cs.length cU) cs (es'.set j ⟨!s.perm, s.a, s.b, s.ge, s.le⟩) ms' (wr.setCell ⟨g, j * 5, none⟩ (.bool (!s.perm))).drew) := Lib.hid ((HS6.out.setE g1 g2 e6).below (Below.refl _ _).drew)
              have HB8 : Hid (Below w.heap.size w (wr.setCell ⟨g, j * 5, none⟩ (.bool (!s.perm))).drew) := Lib.hid ((HB6.out.setCell (p := ⟨g, j * 5, none⟩) (by show w.heap.size ≤ g; omega) _).drew)
              have HE8 : Hid (OkE (es'.set j ⟨!s.perm, s.a, s.b, s.ge, s.le⟩)) := Lib.hid (HE.out.set j _ (HE.out s (List.mem_of_getElem? HSS.out)))
              have HL8 : Hid ((es'.set j ⟨!s.perm, s.a, s.b, s.ge, s.le⟩).length = es.length) := Lib.hid (by rw [List.length_set]; exact HL.out.1)
              have HSS8 : Hid ((es'.set j ⟨!s.perm, s.a, s.b, s.ge, s.le⟩)[j]? = some ⟨!s.perm, s.a, s.b, s.ge, s.le⟩) := Lib.hid (by rw [List.getElem?_set_self (List.getElem?_eq_some_iff.1 HSS.out).1])
              clear e6 HSET HB6 HS6
              go_region
              generalize (wr.setCell ⟨g, j * 5, none⟩ (.bool (!s.perm))).drew = W6 at *
              generalize es'.set j ⟨!s.perm, s.a, s.b, s.ge, s.le⟩ = E8 at *
              clear c0 c1 c2 c3 c4 cf a0 a1 d0 d1 k0 k1 ta tp
              obtain ⟨a0, a1⟩ : W6.cell? ⟨ga, 0, none⟩ = some (.string ⟨#[97]⟩) ∧ W6.cell? ⟨ga, 1, none⟩ = some (.slice (some ⟨g, 0, none⟩) es.length cE) := ⟨cell_heap HS8.out.ha, cell_heap HS8.out.ha⟩
              obtain ⟨d0, d1⟩ : W6.cell? ⟨gb, 0, none⟩ = some (.string ⟨#[98]⟩) ∧ W6.cell? ⟨gb, 1, none⟩ = some (.slice pM ms.length cM) := ⟨cell_heap HS8.out.hb, cell_heap HS8.out.hb⟩
              obtain ⟨k0, k1⟩ : W6.cell? ⟨w.heap.size, 0, none⟩ = some (.int .u32 x) ∧ W6.cell? ⟨w.heap.size, 1, none⟩ = some (.int .i64 n) := ⟨cell_heap HS8.out.hp, cell_heap HS8.out.hp⟩
              obtain ⟨g', cg', hv, _, _, cf, hc, hset⟩ := HS8.out.e.at_ encE_len HSS8.out
              simp only [Value.slice.injEq, Option.some.injEq, Addr.mk.injEq] at hv
              obtain ⟨⟨hv, hv4, hv5⟩, hv2, hv3⟩ := hv
              clear hv2 hv3 hv4 hv5
              subst hv
              have c3 : W6.cell? ⟨g, j * 5 + 3, none⟩ = some (.int .i64 s.ge) := hc 3 _ rfl
              have HSET := Lib.hid hset
              clear hset hc
              go_wp2
              have e9 := HSET.out 3 (.int .i64 (bits .xor .i64 s.ge 1)) ⟨!s.perm, s.a, s.b, bits .xor .i64 s.ge 1, s.le⟩ (by decide) rfl
              have HS9 : Hid (St w.heap.size ga gb x n (.slice (some ⟨g, 0, none⟩) es.length cE) (.slice pM ms.length cM) (.slice pU cs.length cU) cs (E8.set j ⟨!s.perm, s.a, s.b, bits .xor .i64 s.ge 1, s.le⟩) ms' (W6.setCell ⟨g, j * 5 + 3, none⟩ (.int .i64 (bits .xor .i64 s.ge 1))).drew) := Lib.hid ((HS8.out.setE g1 g2 e9).below (Below.refl _ _).drew)
              have HB9 : Hid (Below w.heap.size w (W6.setCell ⟨g, j * 5 + 3, none⟩ (.int .i64 (bits .xor .i64 s.ge 1))).drew) := Lib.hid ((HB8.out.setCell (p := ⟨g, j * 5 + 3, none⟩) (by show w.heap.size ≤ g; omega) _).drew)
              have HE9 : Hid (OkE (E8.set j ⟨!s.perm, s.a, s.b, bits .xor .i64 s.ge 1, s.le⟩)) := Lib.hid (HE8.out.set j _ (HE.out s (List.mem_of_getElem? HSS.out)))
              have HL9 : Hid ((E8.set j ⟨!s.perm, s.a, s.b, bits .xor .i64 s.ge 1, s.le⟩).length = es.length ∧ ms'.length = ms.length) := Lib.hid ⟨by rw [List.length_set]; exact HL8.out, HL.out.2⟩
              clear e9 HSET HB8 HS8
              go_region
              generalize (W6.setCell ⟨g, j * 5 + 3, none⟩ (.int .i64 (bits .xor .i64 s.ge 1))).drew = W8 at *
              generalize E8.set j ⟨!s.perm, s.a, s.b, bits .xor .i64 s.ge 1, s.le⟩ = E9 at *
              clear c3 cf a0 a1 d0 d1 k0 k1 HE8 HL8 HSS8 HSS
              by_cases t2 : j < ms.length
              · have t2z : (j : Int) < (ms.length : Int) := by omega
                obtain ⟨m, hm2⟩ : ∃ m, ms'[j]? = some m := ⟨_, List.getElem?_eq_getElem (by rw [HL9.out.2]; exact t2)⟩
                obtain ⟨gm, cg, hv, g1m, g2m, cf, hc, hset⟩ := HS9.out.m.at_ encM_len hm2
                simp only [Value.slice.injEq] at hv
                obtain ⟨hv, hv2, hv3⟩ := hv
                clear hv2 hv3
                subst hv
                have c0 : W8.cell? ⟨gm, j * 2, none⟩ = some (.bool m.perm) := hc 0 _ rfl
                have e6 := hset 0 (.bool (!m.perm)) ⟨!m.perm, m.p, m.c, m.all⟩ (by decide) rfl
                have HSM : Hid (St w.heap.size ga gb x n (.slice (some ⟨g, 0, none⟩) es.length cE) (.slice (some ⟨gm, 0, none⟩) ms.length cM) (.slice pU cs.length cU) cs E9 (ms'.set j ⟨!m.perm, m.p, m.c, m.all⟩) (W8.setCell ⟨gm, j * 2, none⟩ (.bool (!m.perm))).drew) := Lib.hid ((HS9.out.setM g1m g2m e6).below (Below.refl _ _).drew)
                have HBM : Hid (Below w.heap.size w (W8.setCell ⟨gm, j * 2, none⟩ (.bool (!m.perm))).drew) := Lib.hid ((HB9.out.setCell (p := ⟨gm, j * 2, none⟩) (by show w.heap.size ≤ gm; have := HS9.out.l1; omega) _).drew)
                have HOM : Hid (OkM w (ms'.set j ⟨!m.perm, m.p, m.c, m.all⟩)) := Lib.hid (HMM.out.set j hm2 (!m.perm))
                have HLM : Hid (E9.length = es.length ∧ (ms'.set j ⟨!m.perm, m.p, m.c, m.all⟩).length = ms.length) := Lib.hid ⟨HL9.out.1, by rw [List.length_set]; exact HL9.out.2⟩
                obtain ⟨d0, d1⟩ : W8.cell? ⟨gb, 0, none⟩ = some (.string ⟨#[98]⟩) ∧ W8.cell? ⟨gb, 1, none⟩ = some (.slice (some ⟨gm, 0, none⟩) ms.length cM) := ⟨cell_heap HS9.out.hb, cell_heap HS9.out.hb⟩
                clear e6 hset hc hm2
                go_wp2
                go_region
                go_wp2
                go_roundw
                case rel => exact ⟨r + 1, E9, _, by go_num, by omega, HLM, HBM, HSM, HE9, HOM⟩
                case measure => simp [intOf] <;> omega
              · have t2z : ¬ (j : Int) < (ms.length : Int) := by omega
                go_wp2
                go_roundw
                case rel => exact ⟨r + 1, E9, ms', by go_num, by omega, HL9, HB9, HS9, HE9, HMM⟩
                case measure => simp [intOf] <;> omega
            · have t1z : ¬ (j : Int) < (es.length : Int) := by omega
              clear a0 a1 d0 d1 k0 k1
              by_cases t2 : j < ms.length
              · have t2z : (j : Int) < (ms.length : Int) := by omega
                obtain ⟨m, hm2⟩ : ∃ m, ms'[j]? = some m := ⟨_, List.getElem?_eq_getElem (by rw [HL.out.2]; exact t2)⟩
                obtain ⟨gm, cg, hv, g1m, g2m, cf, hc, hset⟩ := HS6.out.m.at_ encM_len hm2
                simp only [Value.slice.injEq] at hv
                obtain ⟨hv, hv2, hv3⟩ := hv
                clear hv2 hv3
                subst hv
                have c0 : wr.cell? ⟨gm, j * 2, none⟩ = some (.bool m.perm) := hc 0 _ rfl
                have e6 := hset 0 (.bool (!m.perm)) ⟨!m.perm, m.p, m.c, m.all⟩ (by decide) rfl
                have HSM : Hid (St w.heap.size ga gb x n (.slice pE es.length cE) (.slice (some ⟨gm, 0, none⟩) ms.length cM) (.slice pU cs.length cU) cs es' (ms'.set j ⟨!m.perm, m.p, m.c, m.all⟩) (wr.setCell ⟨gm, j * 2, none⟩ (.bool (!m.perm))).drew) := Lib.hid ((HS6.out.setM g1m g2m e6).below (Below.refl _ _).drew)
                have HBM : Hid (Below w.heap.size w (wr.setCell ⟨gm, j * 2, none⟩ (.bool (!m.perm))).drew) := Lib.hid ((HB6.out.setCell (p := ⟨gm, j * 2, none⟩) (by show w.heap.size ≤ gm; have := HS6.out.l1; omega) _).drew)
                have HOM : Hid (OkM w (ms'.set j ⟨!m.perm, m.p, m.c, m.all⟩)) := Lib.hid (HMM.out.set j hm2 (!m.perm))
                have HLM : Hid (es'.length = es.length ∧ (ms'.set j ⟨!m.perm, m.p, m.c, m.all⟩).length = ms.length) := Lib.hid ⟨HL.out.1, by rw [List.length_set]; exact HL.out.2⟩
                obtain ⟨d0, d1⟩ : wr.cell? ⟨gb, 0, none⟩ = some (.string ⟨#[98]⟩) ∧ wr.cell? ⟨gb, 1, none⟩ = some (.slice (some ⟨gm, 0, none⟩) ms.length cM) := ⟨cell_heap HS6.out.hb, cell_heap HS6.out.hb⟩
                clear e6 hset hc hm2
                go_wp2
                go_region
                go_wp2
                go_roundw
                case rel => exact ⟨r + 1, es', _, by go_num, by omega, HLM, HBM, HSM, HE, HOM⟩
                case measure => simp [intOf] <;> omega
              · have t2z : ¬ (j : Int) < (ms.length : Int) := by omega
                go_wp2
                go_roundw
                case rel => exact ⟨r + 1, es', ms', by go_num, by omega, HL, HB6, HS6, HE, HMM⟩
                case measure => simp [intOf] <;> omega
          · go_wp2
            go_roundw
            case rel => exact ⟨r + 1, es', ms', by go_num, by omega, HL, HB6, HS6, HE, HMM⟩
            case measure => simp [intOf] <;> omega
    · have hge : ¬ (r : Int) < 2 := by omega
      go_wp2
      go_ret
      exact ⟨rfl, HB.out⟩
end Go.Proofs.Ytdefeahjchbifaa
