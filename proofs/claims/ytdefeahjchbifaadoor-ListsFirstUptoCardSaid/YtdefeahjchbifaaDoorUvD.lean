/- ListsFirst: the first line that fits decides, whatever stands behind it; lines ahead that do not fit change nothing. Where no list has more than 1048576 lines; the variables of package strconv are asked to hold what their text says. -/
import Derived.Test.YtdefeahjchbifaaDoorUvC
namespace Go.Proofs.YtdefeahjchbifaaDoor
open Go.Shelf Go.RowKit Go.Lib
def orI (o : Option Nat) (k : Nat) (o2 : Option Nat) : Option Nat := match o with | some i => some i | none => o2.map (· + k)
def orL (o : Option Nat) (a b : Bool) : Bool := match o with | some _ => a | none => b
theorem fst_app {α : Type} (p : α → Bool) (a b : List α) : fstI p (a ++ b) = orI (fstI p a) a.length (fstI p b) := by
  unfold orI
  induction a with
  | nil => simp [fstI]
  | cons x a ih =>
    rw [List.cons_append, fstI, fstI]
    by_cases h : p x = true
    · rw [if_pos h, if_pos h]
    · rw [if_neg h, if_neg h, ih]
      cases fstI p a with
      | some i => rfl
      | none => cases fstI p b with
        | none => rfl
        | some j => simp; omega
theorem lets_app {α : Type} (p f : α → Bool) (a b : List α) : lets p f (a ++ b) = orL (fstI p a) (lets p f a) (lets p f b) := by
  unfold lets orL
  rw [fst_app]
  unfold orI
  cases h : fstI p a with
  | some i =>
    obtain ⟨y, hy, _⟩ := fstI_some h
    have hl := (List.getElem?_eq_some_iff.1 hy).1
    simp only []
    rw [List.getElem?_append_left hl]
  | none =>
    cases h2 : fstI p b with
    | none => rfl
    | some j => simp only [Option.map_some]; rw [List.getElem?_append_right (by omega)]; simp
theorem encE_len (e : EntD) : (encE e).length = 5 := rfl
theorem encE_one : ∀ x, ∀ u ∈ encE x, u.oneCell' = true := fun x u hu => by
  simp only [encE, List.mem_cons, List.not_mem_nil, or_false] at hu
  rcases hu with rfl | rfl | rfl | rfl | rfl <;> rfl
theorem encM_len (e : MemD) : (encM e).length = 2 := rfl
theorem encM_one : ∀ x, ∀ u ∈ encM x, u.oneCell' = true := fun x u hu => by
  simp only [encM, List.mem_cons, List.not_mem_nil, or_false] at hu
  rcases hu with rfl | rfl <;> rfl
theorem infoE : (Tryd.prog.info? 44).map (fun i => (i.zero, i.size, i.bytes)) = some (some (.agg #[.bool false, .int .u32 0, .int .i64 0, .int .i64 0, .int .i64 0]), 5, 40) := by kernel_rfl
theorem infoM : (Tryd.prog.info? 50).map (fun i => (i.zero, i.size, i.bytes)) = some (some (.agg #[.bool false, .slice none 0 0]), 2, 32) := by kernel_rfl
theorem flat_app {α : Type} (enc : α → List Value) (a b : List α) : flatK enc (a ++ b) = flatK enc a ++ flatK enc b := by simp [flatK]
set_option maxRecDepth 100000 in
set_option maxHeartbeats 4000000 in
theorem lf_is (v0 v1 : Value) (l mo : List EntD) (x n : Int) (v3 v4 : Value) (m oth : List MemD) (v5 : Value) (cs : List Int) (w : World) (h0 : RdK encE 5 w v0 l) (h1 : RdK encE 5 w v1 mo) (ho0 : OkE l) (ho1 : OkE mo) (hx : 0 ≤ x ∧ x < 4294967296)
    (h3 : RdK encM 2 w v3 m) (h4 : RdK encM 2 w v4 oth) (hm3 : OkM w m) (hm4 : OkM w oth) (h5 : RdK encU 1 w v5 cs) (b0 : l.length ≤ 1048576) (b1 : mo.length ≤ 1048576) (b3 : m.length ≤ 1048576) (b4 : oth.length ≤ 1048576) (b5 : cs.length ≤ 1048576) (ht : Tab10 w) (hE : ErrV w) :
    Calls Tryd.prog 4 #[v0, v1, .agg #[.int .u32 x, .int .i64 n], v3, v4, v5] w fun e w' => e = .returned (.bool true) ∧ Below w.heap.size w w' := by
  have H0 := Lib.hid h0; have H1 := Lib.hid h1; have H3 := Lib.hid h3; have H4 := Lib.hid h4; have H5 := Lib.hid h5
  have HO0 := Lib.hid ho0; have HO1 := Lib.hid ho1; have HM3 := Lib.hid hm3; have HM4 := Lib.hid hm4; have HX := Lib.hid hx
  have HB0 := Lib.hid b0; have HB1 := Lib.hid b1; have HB3 := Lib.hid b3; have HB4 := Lib.hid b4; have HB5 := Lib.hid b5
  obtain ⟨p0, c0, rfl, _, _, q0⟩ := h0.sl
  have HQ0 := Lib.hid q0
  clear q0
  obtain ⟨p1, c1, rfl, _, _, q1⟩ := h1.sl
  have HQ1 := Lib.hid q1
  clear q1
  obtain ⟨p3, c3, rfl, _, _, q3⟩ := h3.sl
  have HQ3 := Lib.hid q3
  clear q3
  obtain ⟨p4, c4, rfl, _, _, q4⟩ := h4.sl
  have HQ4 := Lib.hid q4
  clear q4
  obtain ⟨p5, c5, rfl, _, _, q5⟩ := h5.sl
  have HQ5 := Lib.hid q5
  clear q5
  obtain ⟨LL, hLL⟩ : ∃ X, l ++ mo = X := ⟨_, rfl⟩
  obtain ⟨MM, hMM⟩ : ∃ X, m ++ oth = X := ⟨_, rfl⟩
  have HLL := Lib.hid hLL
  have HMM := Lib.hid hMM
  have HOL : Hid (OkE LL) := Lib.hid (by rw [← hLL]; intro e he; rcases List.mem_append.1 he with h | h; exact ho0 e h; exact ho1 e h)
  have HOM : Hid (OkM w MM) := Lib.hid (by rw [← hMM]; intro e he; rcases List.mem_append.1 he with h | h; exact hm3 e h; exact hm4 e h)
  clear h0 h1 h3 h4 h5 ho0 ho1 hm3 hm4 hx hLL hMM
  obtain ⟨W0, hW0⟩ : ∃ X, w.alloc (.cells #[.int .u32 x, .int .i64 n] 35) = X := ⟨_, rfl⟩
  have PP0 := Lib.hid (heap_alc hW0)
  have B0 : Hid (Below w.heap.size w W0) := Lib.hid (by rw [← hW0]; exact (Below.refl _ _).alloc (Nat.le_refl _) _)
  have CW := Lib.hid (works_is W0 (ht.on B0.out) (hE.on B0.out))
  clear ht hE
  go_enter Tryd.func4, Tryd.ntmps4
  go_wp2_with fail
  go_at_call 15
  (with_reducible refine CW.out.mono ?_)
  rintro e W1 ⟨rfl, hb1⟩
  have PP1 := Lib.hid (carryH PP0.out hb1)
  have SW : Hid (Below w.heap.size w W1) := Lib.hid (Below.step B0.out hb1)
  clear hb1 PP0 CW hW0
  have G0 : Hid (RdK encE 5 W1 (.slice p0 l.length c0) l) := Lib.hid (H0.out.below SW.out)
  have G1 : Hid (RdK encE 5 W1 (.slice p1 mo.length c1) mo) := Lib.hid (H1.out.below SW.out)
  obtain ⟨E0, hE0⟩ : ∃ X, W1.alloc (.cells #[] 44) = X := ⟨_, rfl⟩
  have OE0 : Hid (E0.ownsRow W1.heap.size 44 5 (.slice (some ⟨W1.heap.size, 0, none⟩) 0 0) 0 []) := Lib.hid (own_empty (heap_alc hE0) (Nat.le_refl _))
  have BE0 : Hid (Below W1.heap.size W1 E0) := Lib.hid (by rw [← hE0]; exact (Below.refl _ _).alloc (Nat.le_refl _) _)
  go_wp2_with (first
    | (at_builtin
       refine wpList_append_rdk (enc := encE) encE_len (by decide) encE_one rfl _ _ 32 44 rfl _ 40 Tryd.underlying32 rfl infoE W1.heap.size _ 0 [] rfl OE0.out _ l rfl (G0.out.below BE0.out) (by unfold maxLen; omega) (by omega) BE0.out.size ?_
       intro vE E1 oE gE nE
       have BE1 : Hid (Below W1.heap.size W1 E1) := Lib.hid (BE0.out.grown gE BE0.out.size (fun j hj => (OE0.out.lt j hj).1))
       have OE1 : Hid (E1.ownsRow W1.heap.size 44 5 vE l.length (flatK encE l)) := Lib.hid (by simpa using oE)
       obtain ⟨pE1, cE1, hsE⟩ := own_sl OE1.out
       clear oE gE nE
       subst hsE)
    | (at_builtin
       refine wpList_append_rdk (enc := encE) encE_len (by decide) encE_one rfl _ _ 32 44 rfl _ 40 Tryd.underlying32 rfl infoE W1.heap.size _ l.length (flatK encE l) rfl OE1.out _ mo rfl (G1.out.below BE1.out) (by unfold maxLen; omega) (by omega) BE1.out.size ?_
       intro vE E2 oE gE nE
       have BE2 : Hid (Below W1.heap.size W1 E2) := Lib.hid (BE1.out.grown gE BE1.out.size (fun j hj => (OE1.out.lt j hj).1))
       have OE2 : Hid (E2.ownsRow W1.heap.size 44 5 vE LL.length (flatK encE LL)) := Lib.hid (by have h := oE; rw [← flat_app, HLL.out, ← List.length_append, HLL.out] at h; exact h)
       have hlE : l.length + mo.length = LL.length := by rw [← HLL.out, List.length_append]
       obtain ⟨pE, cE, hsE⟩ := own_sl OE2.out
       clear oE gE nE
       subst hsE
       have HLE := Lib.hid hlE
       obtain ⟨E3, hE3⟩ : ∃ X, E2.alloc (.cells #[.string ⟨#[]⟩, .slice none 0 0] 39) = X := ⟨_, rfl⟩
       obtain ⟨E4, hE4⟩ : ∃ X, (E3.setCell ⟨E2.heap.size, 0, none⟩ (.string ⟨#[]⟩)).setCell ⟨E2.heap.size, 1, none⟩ (.slice pE LL.length cE) = X := ⟨_, rfl⟩
       obtain ⟨NE, CE, ZE, YE⟩ := boxL hE3 hE4
       obtain ⟨yE0, yE1⟩ : E3.cell? ⟨E2.heap.size, 0, none⟩ = some (.string ⟨#[]⟩) ∧ E3.cell? ⟨E2.heap.size, 1, none⟩ = some (.slice none 0 0) := ⟨cell_heap YE.out, cell_heap YE.out⟩
       have fE : ∀ o, E3.frozen? ⟨E2.heap.size, o, none⟩ = false := fun o => frozen_heap YE.out
       have TE : Hid (Below W1.heap.size W1 E4) := Lib.hid (Below.step BE2.out CE.out)
       have SE : Hid (Below w.heap.size w E4) := Lib.hid (Below.step SW.out TE.out)
       have PPE := Lib.hid (carryH PP1.out TE.out)
       obtain ⟨k0, k1⟩ : E4.cell? ⟨w.heap.size, 0, none⟩ = some (.int .u32 x) ∧ E4.cell? ⟨w.heap.size, 1, none⟩ = some (.int .i64 n) := ⟨cell_heap PPE.out, cell_heap PPE.out⟩
       have RE : Hid (RdK encE 5 E4 (.slice pE LL.length cE) LL) := Lib.hid ((RdK.of_own encE_len OE2.out).below CE.out)))
  have bLL : LL.length ≤ 2097152 := by rw [← HLE.out]; omega
  obtain ⟨oL, hoL⟩ : ∃ o, fstI (fitE x n) l = o := ⟨_, rfl⟩
  obtain ⟨oO, hoO⟩ : ∃ o, fstI (fitE x n) mo = o := ⟨_, rfl⟩
  obtain ⟨oA, hoA⟩ : ∃ o, fstI (fitE x n) LL = o := ⟨_, rfl⟩
  obtain ⟨qA, hqA⟩ : ∃ o, lets (fitE x n) EntD.perm LL = o := ⟨_, rfl⟩
  have HOL1 := Lib.hid hoL
  have HOO1 := Lib.hid hoO
  have HOA1 : Hid (oA = orI oL l.length oO) := Lib.hid (by rw [← hoA, ← HLL.out, fst_app, hoL, hoO])
  have HQA1 : Hid (qA = orL oL (lets (fitE x n) EntD.perm l) (lets (fitE x n) EntD.perm mo)) := Lib.hid (by rw [← hqA, ← HLL.out, lets_app, hoL])
  have C1 := Lib.hid fun W (hW : Below E4.heap.size E4 W) => entry_is ⟨#[]⟩ (.slice p0 l.length c0) l x n W (H0.out.below (Below.step SE.out hW)) HO0.out HX.out (Nat.le_trans HB0.out (by decide))
  have C2 := Lib.hid fun W (hW : Below E4.heap.size E4 W) => entry_is ⟨#[]⟩ (.slice p1 mo.length c1) mo x n W (H1.out.below (Below.step SE.out hW)) HO1.out HX.out (Nat.le_trans HB1.out (by decide))
  have C3 := Lib.hid fun W (hW : Below E4.heap.size E4 W) => entry_is ⟨#[]⟩ (.slice pE LL.length cE) LL x n W (RE.out.below hW) HOL.out HX.out (Nat.le_trans bLL (by decide))
  have C4 := Lib.hid fun W (hW : Below E4.heap.size E4 W) => permits_is ⟨#[]⟩ (.slice pE LL.length cE) LL x n W (RE.out.below hW) HOL.out HX.out (Nat.le_trans bLL (by decide))
  have C5 := Lib.hid fun W (hW : Below E4.heap.size E4 W) => permits_is ⟨#[]⟩ (.slice p1 mo.length c1) mo x n W (H1.out.below (Below.step SE.out hW)) HO1.out HX.out (Nat.le_trans HB1.out (by decide))
  have C6 : Hid (∀ W, Calls Tryd.prog 17 #[.agg #[.string ⟨#[]⟩, .slice none 0 0], .agg #[.int .u32 x, .int .i64 n]] W fun e w' => e = .returned (.bool false) ∧ Below W.heap.size W w') := Lib.hid fun W => permits_is ⟨#[]⟩ (.slice none 0 0) [] x n W (RdK.nil _) (fun e he => by cases he) HX.out (by decide)
  have C7 : Hid (∀ W, Below E4.heap.size E4 W → Calls Tryd.prog 18 #[.agg #[.string ⟨#[]⟩, .slice none 0 0], (.slice p5 cs.length c5)] W fun e w' => e = .returned (.bool false) ∧ Below W.heap.size W w') := Lib.hid fun W hW => allows_is ⟨#[]⟩ (.slice none 0 0) [] (.slice p5 cs.length c5) cs W (RdK.nil _) (fun e he => by cases he) (H5.out.below (Below.step SE.out hW)) (Nat.le_trans HB5.out (by decide)) (by decide)
  simp only [hoL] at C1
  simp only [hoO] at C2
  simp only [hoA] at C3
  simp only [hqA] at C4
  clear hoL hoO hoA hqA
  go_at_call 16
  (with_reducible refine (C1.out E4 (Below.refl _ _)).mono ?_)
  rintro e W5 ⟨rfl, hb5⟩
  have T5 := Lib.hid hb5
  have PP5 := Lib.hid (carryH PPE.out hb5)
  have NE5 := Lib.hid (carryH NE.out hb5)
  clear hb5 k0 k1 C1 yE0 yE1 fE
  obtain ⟨k0, k1⟩ : W5.cell? ⟨w.heap.size, 0, none⟩ = some (.int .u32 x) ∧ W5.cell? ⟨w.heap.size, 1, none⟩ = some (.int .i64 n) := ⟨cell_heap PP5.out, cell_heap PP5.out⟩
  obtain ⟨a0, a1⟩ : W5.cell? ⟨E2.heap.size, 0, none⟩ = some (.string ⟨#[]⟩) ∧ W5.cell? ⟨E2.heap.size, 1, none⟩ = some (.slice pE LL.length cE) := ⟨cell_heap NE5.out, cell_heap NE5.out⟩
  go_wp2_with fail
  go_at_call 16
  (with_reducible refine (C3.out W5 T5.out).mono ?_)
  rintro e W6 ⟨rfl, hb6⟩
  have T6 := Lib.hid (Below.step T5.out hb6)
  have PP6 := Lib.hid (carryH PP5.out hb6)
  have NE6 := Lib.hid (carryH NE5.out hb6)
  have S6 := Lib.hid (Below.step SE.out T6.out)
  clear hb6 k0 k1 a0 a1 C3 T5 PP5 NE5
  obtain ⟨k0, k1⟩ : W6.cell? ⟨w.heap.size, 0, none⟩ = some (.int .u32 x) ∧ W6.cell? ⟨w.heap.size, 1, none⟩ = some (.int .i64 n) := ⟨cell_heap PP6.out, cell_heap PP6.out⟩
  obtain ⟨a0, a1⟩ : W6.cell? ⟨E2.heap.size, 0, none⟩ = some (.string ⟨#[]⟩) ∧ W6.cell? ⟨E2.heap.size, 1, none⟩ = some (.slice pE LL.length cE) := ⟨cell_heap NE6.out, cell_heap NE6.out⟩
  have tk : w.heap.size < W6.heap.size := (Array.getElem?_eq_some_iff.1 PP6.out).1
  have ta : E2.heap.size < W6.heap.size := (Array.getElem?_eq_some_iff.1 NE6.out).1
  go_wp2_with fail
  go_cut [74] (fun s74 wx => s74 = .bool false ∧ Hid (Below W6.heap.size W6 wx))
  case first =>
    cases oL with
    | some i =>
      obtain ⟨y, hy, _⟩ := fstI_some HOL1.out
      obtain ⟨b, o, rfl, hbs, hc⟩ := HQ0.out i y hy
      have c0 : W6.cell? ⟨b, o + i * 5, none⟩ = some (.bool y.perm) := hc W6 S6.out 0 _ rfl
      have tb : b < W6.heap.size := Nat.lt_trans (Nat.lt_of_lt_of_le hbs (Nat.le_refl _)) tk
      have hil : i < l.length := (List.getElem?_eq_some_iff.1 hy).1
      have hilz : (i : Int) < (l.length : Int) := by omega
      have e1 : oA = some i := HOA1.out
      have e2 : qA = y.perm := by rw [HQA1.out]; simp [orL, lets, HOL1.out, hy]
      have x1 : ((i : Int) != (i : Int)) = false := by simp
      have x2 : (y.perm != y.perm) = false := by simp
      clear hc hy hbs
      subst e1 e2
      simp only [outI]
      refine wp_region_grows (by kernel_rfl) (by kernel_rfl) ?_
      refine grows_fact E2.heap.size 0 _ a0 ta fun f0 => ?_
      refine grows_fact E2.heap.size 1 _ a1 ta fun f1 => ?_
      refine grows_fact w.heap.size 0 _ k0 tk fun f2 => ?_
      refine grows_fact w.heap.size 1 _ k1 tk fun f3 => ?_
      refine grows_fact b (o + i * 5) _ c0 tb fun f4 => ?_
      repeat (go_big_quiet_step (first
        | (go_at_call 17; first | with_reducible exact Calls.grows_of (C6.out _) | with_reducible exact Calls.grows_of (C4.out _ (Below.step T6.out (Grows.below _))) | with_reducible exact Calls.grows_of (C5.out _ (Below.step T6.out (Grows.below _))))
        | (go_at_call 18; with_reducible exact Calls.grows_of (C7.out _ (Below.step T6.out (Grows.below _))))))
      refine wpQuiet_nil ?_
      rintro w2 ⟨⟨_, hb2⟩, rfl⟩
      go_wp2_with fail
      go_meet
      exact ⟨rfl, Lib.hid hb2⟩
    | none =>
      simp only [show outI (none : Option Nat) = ((0 : Int), false) from rfl]
      refine wp_region_grows (by kernel_rfl) (by kernel_rfl) ?_
      refine grows_fact E2.heap.size 0 _ a0 ta fun f0 => ?_
      refine grows_fact E2.heap.size 1 _ a1 ta fun f1 => ?_
      refine grows_fact w.heap.size 0 _ k0 tk fun f2 => ?_
      refine grows_fact w.heap.size 1 _ k1 tk fun f3 => ?_
      repeat (go_big_quiet_step (first
        | (go_at_call 17; first | with_reducible exact Calls.grows_of (C6.out _) | with_reducible exact Calls.grows_of (C4.out _ (Below.step T6.out (Grows.below _))) | with_reducible exact Calls.grows_of (C5.out _ (Below.step T6.out (Grows.below _))))
        | (go_at_call 18; with_reducible exact Calls.grows_of (C7.out _ (Below.step T6.out (Grows.below _))))))
      refine wpQuiet_nil ?_
      rintro w2 ⟨⟨_, hb2⟩, rfl⟩
      go_wp2_with fail
      go_meet
      exact ⟨rfl, Lib.hid hb2⟩
  case rest =>
    obtain ⟨rfl, hB7⟩ := hcut
    clear k0 k1 a0 a1 tk ta
    have T7 := Lib.hid (Below.step T6.out hB7.out)
    have S7 := Lib.hid (Below.step S6.out hB7.out)
    have PP7 := Lib.hid (carryH PP6.out hB7.out)
    have NE7 := Lib.hid (carryH NE6.out hB7.out)
    clear T6 S6 PP6 NE6 hB7
    go_upto_if 76 with fail
    go_cut [] (fun wx => Hid (Below wc.heap.size wc wx))
    case first =>
      cases oL with
      | some i =>
        simp only [show outI (some i) = ((i : Int), true) from rfl]
        go_wp2_with fail
        go_meet
        exact Lib.hid (Below.refl _ _)
      | none =>
        simp only [show outI (none : Option Nat) = ((0 : Int), false) from rfl]
        have e2 : qA = lets (fitE x n) EntD.perm mo := HQA1.out
        simp only [← e2] at C5
        clear e2
        obtain ⟨k0, k1⟩ : wc.cell? ⟨w.heap.size, 0, none⟩ = some (.int .u32 x) ∧ wc.cell? ⟨w.heap.size, 1, none⟩ = some (.int .i64 n) := ⟨cell_heap PP7.out, cell_heap PP7.out⟩
        go_wp2_with fail
        go_at_call 16
        (with_reducible refine (C2.out wc T7.out).mono ?_)
        rintro e W8 ⟨rfl, hb8⟩
        have T8 := Lib.hid (Below.step T7.out hb8)
        have T8c := Lib.hid hb8
        have PP8 := Lib.hid (carryH PP7.out hb8)
        have NE8 := Lib.hid (carryH NE7.out hb8)
        clear hb8 k0 k1
        obtain ⟨k0, k1⟩ : W8.cell? ⟨w.heap.size, 0, none⟩ = some (.int .u32 x) ∧ W8.cell? ⟨w.heap.size, 1, none⟩ = some (.int .i64 n) := ⟨cell_heap PP8.out, cell_heap PP8.out⟩
        obtain ⟨a0, a1⟩ : W8.cell? ⟨E2.heap.size, 0, none⟩ = some (.string ⟨#[]⟩) ∧ W8.cell? ⟨E2.heap.size, 1, none⟩ = some (.slice pE LL.length cE) := ⟨cell_heap NE8.out, cell_heap NE8.out⟩
        have tk : w.heap.size < W8.heap.size := (Array.getElem?_eq_some_iff.1 PP8.out).1
        have ta : E2.heap.size < W8.heap.size := (Array.getElem?_eq_some_iff.1 NE8.out).1
        have x3 : (qA != qA) = false := by simp
        go_wp2_with fail
        cases oO with
        | none =>
          have e1 : oA = none := HOA1.out
          subst e1
          simp only [show outI (none : Option Nat) = ((0 : Int), false) from rfl]
          refine wp_region_grows (by kernel_rfl) (by kernel_rfl) ?_
          refine grows_fact E2.heap.size 0 _ a0 ta fun f0 => ?_
          refine grows_fact E2.heap.size 1 _ a1 ta fun f1 => ?_
          refine grows_fact w.heap.size 0 _ k0 tk fun f2 => ?_
          refine grows_fact w.heap.size 1 _ k1 tk fun f3 => ?_
          repeat (go_big_quiet_step (first
            | (go_at_call 17; first | with_reducible exact Calls.grows_of (C4.out _ (Below.step T8.out (Grows.below _))) | with_reducible exact Calls.grows_of (C5.out _ (Below.step T8.out (Grows.below _))))))
          refine wpQuiet_nil ?_
          rintro w2 ⟨⟨_, hb2⟩, rfl⟩
          go_wp2_with fail
          go_meet
          exact Lib.hid (Below.step T8c.out hb2)
        | some j =>
          obtain ⟨kk, hkk⟩ : ∃ kk, j + l.length = kk := ⟨_, rfl⟩
          have e1 : oA = some kk := by rw [← hkk]; exact HOA1.out
          obtain ⟨yj, hyj, _⟩ := fstI_some HOO1.out
          have hjl := (List.getElem?_eq_some_iff.1 hyj).1
          have hw : IntKind.i64.wrap ((l.length : Int) + (j : Int)) = (l.length : Int) + (j : Int) := IntWalk.i64_in _ (by omega)
          have x4 : (kk : Int) = (l.length : Int) + (j : Int) := by omega
          have x5 : ((kk : Int) != (l.length : Int) + (j : Int)) = false := by rw [x4]; simp
          clear x4
          subst e1
          clear hkk hyj
          simp only [show outI (some kk) = ((kk : Int), true) from rfl, show outI (some j) = ((j : Int), true) from rfl]
          refine wp_region_grows (by kernel_rfl) (by kernel_rfl) ?_
          refine grows_fact E2.heap.size 0 _ a0 ta fun f0 => ?_
          refine grows_fact E2.heap.size 1 _ a1 ta fun f1 => ?_
          refine grows_fact w.heap.size 0 _ k0 tk fun f2 => ?_
          refine grows_fact w.heap.size 1 _ k1 tk fun f3 => ?_
          repeat (go_big_quiet_step (first
            | (go_at_call 17; first | with_reducible exact Calls.grows_of (C4.out _ (Below.step T8.out (Grows.below _))) | with_reducible exact Calls.grows_of (C5.out _ (Below.step T8.out (Grows.below _))))))
          refine wpQuiet_nil ?_
          rintro w2 ⟨⟨_, hb2⟩, rfl⟩
          go_wp2_with fail
          go_meet
          exact Lib.hid (Below.step T8c.out hb2)
    case rest =>
      have hB9 := hcut
      clear hcut
      have S9 := Lib.hid (Below.step S7.out hB9.out)
      have PP9 := Lib.hid (carryH PP7.out hB9.out)
      clear C2 C4 C5 C6 C7 T7 S7 NE7 PP7 HOL1 HOO1 HOA1 HQA1 hB9
      have G3 : Hid (RdK encM 2 wc (.slice p3 m.length c3) m) := Lib.hid (H3.out.below S9.out)
      have G4 : Hid (RdK encM 2 wc (.slice p4 oth.length c4) oth) := Lib.hid (H4.out.below S9.out)
      obtain ⟨M0, hM0⟩ : ∃ X, wc.alloc (.cells #[] 50) = X := ⟨_, rfl⟩
      have OM0 : Hid (M0.ownsRow wc.heap.size 50 2 (.slice (some ⟨wc.heap.size, 0, none⟩) 0 0) 0 []) := Lib.hid (own_empty (heap_alc hM0) (Nat.le_refl _))
      have BM0 : Hid (Below wc.heap.size wc M0) := Lib.hid (by rw [← hM0]; exact (Below.refl _ _).alloc (Nat.le_refl _) _)
      go_wp2_with (first
        | (at_builtin
           refine wpList_append_rdk (enc := encM) encM_len (by decide) encM_one rfl _ _ 36 50 rfl _ 32 Tryd.underlying36 rfl infoM wc.heap.size _ 0 [] rfl OM0.out _ m rfl (G3.out.below BM0.out) (by unfold maxLen; omega) (by omega) BM0.out.size ?_
           intro vM M1 oM gM nM
           have BM1 : Hid (Below wc.heap.size wc M1) := Lib.hid (BM0.out.grown gM BM0.out.size (fun j hj => (OM0.out.lt j hj).1))
           have OM1 : Hid (M1.ownsRow wc.heap.size 50 2 vM m.length (flatK encM m)) := Lib.hid (by simpa using oM)
           obtain ⟨pM1, cM1, hsM⟩ := own_sl OM1.out
           clear oM gM nM
           subst hsM)
        | (at_builtin
           refine wpList_append_rdk (enc := encM) encM_len (by decide) encM_one rfl _ _ 36 50 rfl _ 32 Tryd.underlying36 rfl infoM wc.heap.size _ m.length (flatK encM m) rfl OM1.out _ oth rfl (G4.out.below BM1.out) (by unfold maxLen; omega) (by omega) BM1.out.size ?_
           intro vM M2 oM gM nM
           have BM2 : Hid (Below wc.heap.size wc M2) := Lib.hid (BM1.out.grown gM BM1.out.size (fun j hj => (OM1.out.lt j hj).1))
           have OM2 : Hid (M2.ownsRow wc.heap.size 50 2 vM MM.length (flatK encM MM)) := Lib.hid (by have h := oM; rw [← flat_app, HMM.out, ← List.length_append, HMM.out] at h; exact h)
           have hlM : m.length + oth.length = MM.length := by rw [← HMM.out, List.length_append]
           obtain ⟨pM, cM, hsM⟩ := own_sl OM2.out
           clear oM gM nM
           subst hsM
           have HLM := Lib.hid hlM
           obtain ⟨M3, hM3⟩ : ∃ X, M2.alloc (.cells #[.string ⟨#[]⟩, .slice none 0 0] 47) = X := ⟨_, rfl⟩
           obtain ⟨M4, hM4⟩ : ∃ X, (M3.setCell ⟨M2.heap.size, 0, none⟩ (.string ⟨#[]⟩)).setCell ⟨M2.heap.size, 1, none⟩ (.slice pM MM.length cM) = X := ⟨_, rfl⟩
           obtain ⟨NM, CM, ZM, YM⟩ := boxC hM3 hM4
           obtain ⟨yM0, yM1⟩ : M3.cell? ⟨M2.heap.size, 0, none⟩ = some (.string ⟨#[]⟩) ∧ M3.cell? ⟨M2.heap.size, 1, none⟩ = some (.slice none 0 0) := ⟨cell_heap YM.out, cell_heap YM.out⟩
           have fM : ∀ o, M3.frozen? ⟨M2.heap.size, o, none⟩ = false := fun o => frozen_heap YM.out
           have TM : Hid (Below wc.heap.size wc M4) := Lib.hid (Below.step BM2.out CM.out)
           have SM : Hid (Below w.heap.size w M4) := Lib.hid (Below.step S9.out TM.out)
           have PPM := Lib.hid (carryH PP9.out TM.out)
           obtain ⟨k0, k1⟩ : M4.cell? ⟨w.heap.size, 0, none⟩ = some (.int .u32 x) ∧ M4.cell? ⟨w.heap.size, 1, none⟩ = some (.int .i64 n) := ⟨cell_heap PPM.out, cell_heap PPM.out⟩
           have RM : Hid (RdK encM 2 M4 (.slice pM MM.length cM) MM) := Lib.hid ((RdK.of_own encM_len OM2.out).below CM.out)))
      have bMM : MM.length ≤ 2097152 := by rw [← HLM.out]; omega
      obtain ⟨oL', hoL⟩ : ∃ o, fstI (fitM cs) m = o := ⟨_, rfl⟩
      obtain ⟨oO', hoO⟩ : ∃ o, fstI (fitM cs) oth = o := ⟨_, rfl⟩
      obtain ⟨oA', hoA⟩ : ∃ o, fstI (fitM cs) MM = o := ⟨_, rfl⟩
      obtain ⟨qA', hqA⟩ : ∃ o, lets (fitM cs) MemD.perm MM = o := ⟨_, rfl⟩
      have HOL1 := Lib.hid hoL
      have HOO1 := Lib.hid hoO
      have HOA1 : Hid (oA' = orI oL' m.length oO') := Lib.hid (by rw [← hoA, ← HMM.out, fst_app, hoL, hoO])
      have HQA1 : Hid (qA' = orL oL' (lets (fitM cs) MemD.perm m) (lets (fitM cs) MemD.perm oth)) := Lib.hid (by rw [← hqA, ← HMM.out, lets_app, hoL])
      have D1 := Lib.hid fun W (hW : Below M4.heap.size M4 W) => member_is ⟨#[]⟩ (.slice p3 m.length c3) m (.slice p5 cs.length c5) cs W (H3.out.below (Below.step SM.out hW)) (HM3.out.below (Below.step SM.out hW)) (H5.out.below (Below.step SM.out hW)) (Nat.le_trans HB5.out (by decide)) (Nat.le_trans HB3.out (by decide))
      have D2 := Lib.hid fun W (hW : Below M4.heap.size M4 W) => member_is ⟨#[]⟩ (.slice p4 oth.length c4) oth (.slice p5 cs.length c5) cs W (H4.out.below (Below.step SM.out hW)) (HM4.out.below (Below.step SM.out hW)) (H5.out.below (Below.step SM.out hW)) (Nat.le_trans HB5.out (by decide)) (Nat.le_trans HB4.out (by decide))
      have D3 := Lib.hid fun W (hW : Below M4.heap.size M4 W) => member_is ⟨#[]⟩ (.slice pM MM.length cM) MM (.slice p5 cs.length c5) cs W (RM.out.below hW) (HOM.out.below (Below.step SM.out hW)) (H5.out.below (Below.step SM.out hW)) (Nat.le_trans HB5.out (by decide)) (Nat.le_trans bMM (by decide))
      have D4 := Lib.hid fun W (hW : Below M4.heap.size M4 W) => allows_is ⟨#[]⟩ (.slice pM MM.length cM) MM (.slice p5 cs.length c5) cs W (RM.out.below hW) (HOM.out.below (Below.step SM.out hW)) (H5.out.below (Below.step SM.out hW)) (Nat.le_trans HB5.out (by decide)) (Nat.le_trans bMM (by decide))
      simp only [hoL] at D1
      simp only [hoO] at D2
      simp only [hoA] at D3
      simp only [hqA] at D4
      clear hoL hoO hoA hqA k0 k1 yM0 yM1 fM
      go_at_call 19
      (with_reducible refine (D1.out M4 (Below.refl _ _)).mono ?_)
      rintro e X5 ⟨rfl, hb5⟩
      have T5 := Lib.hid hb5
      have NM5 := Lib.hid (carryH NM.out hb5)
      clear hb5 D1
      obtain ⟨a0, a1⟩ : X5.cell? ⟨M2.heap.size, 0, none⟩ = some (.string ⟨#[]⟩) ∧ X5.cell? ⟨M2.heap.size, 1, none⟩ = some (.slice pM MM.length cM) := ⟨cell_heap NM5.out, cell_heap NM5.out⟩
      go_wp2_with fail
      go_at_call 19
      (with_reducible refine (D3.out X5 T5.out).mono ?_)
      rintro e X6 ⟨rfl, hb6⟩
      have T6 := Lib.hid (Below.step T5.out hb6)
      have NM6 := Lib.hid (carryH NM5.out hb6)
      have S6 := Lib.hid (Below.step SM.out T6.out)
      clear hb6 a0 a1 D3 T5 NM5
      obtain ⟨a0, a1⟩ : X6.cell? ⟨M2.heap.size, 0, none⟩ = some (.string ⟨#[]⟩) ∧ X6.cell? ⟨M2.heap.size, 1, none⟩ = some (.slice pM MM.length cM) := ⟨cell_heap NM6.out, cell_heap NM6.out⟩
      have ta : M2.heap.size < X6.heap.size := (Array.getElem?_eq_some_iff.1 NM6.out).1
      cases oL' with
      | some i =>
        obtain ⟨y, hy, _⟩ := fstI_some HOL1.out
        obtain ⟨b, o, rfl, hbs, hc⟩ := HQ3.out i y hy
        have c0 : X6.cell? ⟨b, o + i * 2, none⟩ = some (.bool y.perm) := hc X6 S6.out 0 _ rfl
        have tb : b < X6.heap.size := Nat.lt_of_lt_of_le hbs S6.out.size
        have hil : i < m.length := (List.getElem?_eq_some_iff.1 hy).1
        have hilz : (i : Int) < (m.length : Int) := by omega
        have e1 : oA' = some i := HOA1.out
        have e2 : qA' = y.perm := by rw [HQA1.out]; simp [orL, lets, HOL1.out, hy]
        have x1 : ((i : Int) == (i : Int)) = true := by simp
        have x2 : (y.perm == y.perm) = true := by simp
        clear hc hy hbs
        subst e1 e2
        simp only [show outI (some i) = ((i : Int), true) from rfl]
        go_wp2_with fail
        refine wp_region_grows (by kernel_rfl) (by kernel_rfl) ?_
        refine grows_fact M2.heap.size 0 _ a0 ta fun f0 => ?_
        refine grows_fact M2.heap.size 1 _ a1 ta fun f1 => ?_
        refine grows_fact b (o + i * 2) _ c0 tb fun f4 => ?_
        repeat (go_big_quiet_step (first
          | (go_at_call 18; with_reducible exact Calls.grows_of (D4.out _ (Below.step T6.out (Grows.below _))))))
        refine wpQuiet_nil ?_
        rintro w2 ⟨⟨_, hb2⟩, rfl⟩
        have HBF := Lib.hid (Below.step S6.out hb2)
        clear hb2 f0 f1 f4 c0
        go_wp2
        go_ret
        exact ⟨rfl, HBF.out⟩
      | none =>
        simp only [show outI (none : Option Nat) = ((0 : Int), false) from rfl]
        go_wp2_with fail
        go_at_call 19
        (with_reducible refine (D2.out X6 T6.out).mono ?_)
        rintro e X8 ⟨rfl, hb8⟩
        have HBF := Lib.hid (Below.step S6.out hb8)
        clear hb8
        cases oO' with
        | none =>
          have e1 : oA' = none := HOA1.out
          subst e1
          simp only [show outI (none : Option Nat) = ((0 : Int), false) from rfl]
          go_wp2
          go_ret
          exact ⟨rfl, HBF.out⟩
        | some j =>
          obtain ⟨kk, hkk⟩ : ∃ kk, j + m.length = kk := ⟨_, rfl⟩
          have e1 : oA' = some kk := by rw [← hkk]; exact HOA1.out
          obtain ⟨yj, hyj, _⟩ := fstI_some HOO1.out
          have hjl := (List.getElem?_eq_some_iff.1 hyj).1
          have hw : IntKind.i64.wrap ((m.length : Int) + (j : Int)) = (m.length : Int) + (j : Int) := IntWalk.i64_in _ (by omega)
          have x4 : (kk : Int) = (m.length : Int) + (j : Int) := by omega
          have x5 : ((kk : Int) == (m.length : Int) + (j : Int)) = true := by rw [x4]; simp
          clear x4
          subst e1
          clear hkk hyj
          simp only [show outI (some kk) = ((kk : Int), true) from rfl, show outI (some j) = ((j : Int), true) from rfl]
          go_wp2
          go_ret
          exact ⟨rfl, HBF.out⟩
end Go.Proofs.YtdefeahjchbifaaDoor
