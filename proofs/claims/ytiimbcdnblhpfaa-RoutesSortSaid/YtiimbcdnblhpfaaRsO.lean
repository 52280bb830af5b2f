/- The law RoutesSort. No condition. -/
import Derived.Test.YtiimbcdnblhpfaaRsM
import Derived.Test.YtiimbcdnblhpfaaRsN
import Derived.Deep.DeepCutAuto
namespace Go.Proofs.Ytiimbcdnblhpfaa
open Go.RowKit Go.Lib Go.Shelf
def sRt : RtD := ⟨0, 0, 0, 7, 0, 0, ⟨#[]⟩, 0, false⟩
theorem enc_sRt : encRt sRt = [.int .u32 0, .int .i64 0, .int .u8 0, .int .i64 7, .int .i64 0, .int .i64 0, .string ⟨#[]⟩, .int .u32 0, .bool false] := rfl
theorem seven_new (w : World) : RdK encRt 9 (w.alloc (.cells #[.int .u32 0, .int .i64 0, .int .u8 0, .int .i64 7, .int .i64 0, .int .i64 0, .string ⟨#[]⟩, .int .u32 0, .bool false] 28)) (.slice (some ⟨w.heap.size, 0, none⟩) 1 1) [sRt] := by
  refine ⟨_, 1, rfl, Nat.le_refl _, by unfold maxLen; omega, fun _ => ⟨w.heap.size, 0, rfl, by simp, fun i s hs j u hu => ?_⟩⟩
  match i, hs with
  | 0, hs =>
    simp at hs
    subst hs
    have hj : j < 9 := by have := (List.getElem?_eq_some_iff.1 hu).1; rwa [encRt_len] at this
    simp only [Nat.zero_mul, Nat.zero_add]
    refine cell_n ?_
    rw [enc_sRt] at hu
    simpa using hu
  | i + 1, hs => simp at hs
theorem app_empty {w w9 : World} {v9 : Value} {l : List RtD} {o : Obj} (h9 : w9.ownsRow w.heap.size 28 9 v9 (0 + l.length) ([] ++ flatK encRt l)) (hg : (w.alloc o).grownBy w9 (some w.heap.size)) : OwnR w.heap.size w9 v9 l ∧ Below w.heap.size w w9 := by
  refine ⟨?_, ((Below.refl w.heap.size w).alloc (Nat.le_refl _) o).grown hg (by simp) (fun k e => by cases e; exact Nat.le_refl _)⟩
  rw [Nat.zero_add, List.nil_append] at h9
  exact h9
theorem OwnR.keep {b : Nat} {w w' : World} {v : Value} {l : List RtD} (h : OwnR b w v l) (hk : ∀ g, v.ownBlock = some g → w'.heap[g]? = w.heap[g]?) : OwnR b w' v l := by
  have h0 : w.ownsRow b 28 9 v l.length (flatK encRt l) := h
  refine ⟨h0.1, ?_⟩
  rcases h0.2 with h1 | ⟨g, cap, cur, e, hg, hh, r⟩
  · exact .inl h1
  · exact .inr ⟨g, cap, cur, e, hg, (hk g (by rw [e]; rfl)).trans hh, r⟩
theorem set_other (w : World) (g o k : Nat) (v : Value) (h : k ≠ g) : (w.setCell ⟨g, o, none⟩ v).heap[k]? = w.heap[k]? := by
  unfold World.setCell
  simp only [Array.getElem?_modify]
  rw [if_neg (Ne.symm h)]
/-- One route's distance written over. -/
theorem RowR.di {w : World} {g cap i : Nat} {L : List RtD} {x : Int} {r : RtD} (h : RowR w g cap [] L 0) (hi : L[i]? = some r) (hc : L.length ≤ cap) : RowR (w.setCell ⟨g, i * 9 + 3, none⟩ (.int .i64 x)) g cap [] (L.set i { r with di := x }) 0 := by
  obtain ⟨cur, h1, h2, _, h4⟩ := h
  have hil := (List.getElem?_eq_some_iff.1 hi).1
  refine ⟨_, heap_set w g _ _ cur _ _ h1, by simpa using h2, fun k s hk => by simp at hk, fun k s _ hk j u hu => ?_⟩
  have hj : j < 9 := by have := (List.getElem?_eq_some_iff.1 hu).1; rwa [encRt_len] at this
  rw [Array.getElem?_setIfInBounds]
  rw [List.getElem?_set] at hk
  by_cases e : i = k
  · subst e
    rw [if_pos rfl, if_pos hil] at hk
    simp only [Option.some.injEq] at hk
    subst hk
    have hold := h4 i r (Nat.zero_le _) hi
    match j, hj with
    | 3, _ => rw [if_pos rfl, if_pos (by omega)]; exact hu
    | 0, _ => rw [if_neg (by omega)]; exact hold 0 u hu
    | 1, _ => rw [if_neg (by omega)]; exact hold 1 u hu
    | 2, _ => rw [if_neg (by omega)]; exact hold 2 u hu
    | 4, _ => rw [if_neg (by omega)]; exact hold 4 u hu
    | 5, _ => rw [if_neg (by omega)]; exact hold 5 u hu
    | 6, _ => rw [if_neg (by omega)]; exact hold 6 u hu
    | 7, _ => rw [if_neg (by omega)]; exact hold 7 u hu
    | 8, _ => rw [if_neg (by omega)]; exact hold 8 u hu
  · rw [if_neg e] at hk
    rw [if_neg (by omega)]
    exact h4 k s (Nat.zero_le _) hk j u hu
theorem own_slice {b : Nat} {w : World} {v : Value} {L : List RtD} {z : RtD} {xs : List Value} (h : w.ownsRow b 28 9 v (L.length + [z].length) xs) : ∃ p c, v = .slice p (L.length + 1) c := by
  rcases h.2 with ⟨_, e⟩ | ⟨g, cap, cur, e, _⟩
  · simp at e
  · exact ⟨_, _, e⟩
theorem rdk_at {w : World} {p : Option Addr} {n c i : Nat} {l : List RtD} {s : RtD} (h : RdK encRt 9 w (.slice p n c) l) (hs : l[i]? = some s) : ∃ b o, p = some ⟨b, o, none⟩ ∧ b < w.heap.size ∧ ∀ w', Below w.heap.size w w' → ∀ j u, (encRt s)[j]? = some u → w'.cell? ⟨b, o + i * 9 + j, none⟩ = some u := by
  obtain ⟨p', c', e, _, _, h4⟩ := h.sl
  simp only [Value.slice.injEq] at e
  obtain ⟨rfl, _, _⟩ := e
  exact h4 i s hs
theorem own_open {b : Nat} {w : World} {v : Value} {l : List RtD} (h : OwnR b w v l) : ∃ p c, v = .slice p l.length c := by
  rcases h.row with ⟨e, rfl⟩ | ⟨g, cap, e, _⟩
  · exact ⟨_, _, e⟩
  · exact ⟨_, _, e⟩
/-- What holds of the slices while one of them is written over and grows. -/
def Lp (wS wA : World) (vb : Value) (out : List RtD) (wr : World) (v : Value) (n : Nat) : Prop :=
  Below wS.heap.size wS wr ∧ OwnR wA.heap.size wr vb out ∧ (∃ L, OwnR wS.heap.size wr v L ∧ L.length = n) ∧ ∀ g, v.ownBlock = some g → vb.ownBlock ≠ some g
theorem Lp.di {wS wA wr : World} {vb : Value} {out : List RtD} {p : Option Addr} {n c i : Nat} (h : Lp wS wA vb out wr (.slice p n c) n) (hi : i < n) : ∃ g, p = some ⟨g, 0, none⟩ ∧ (∃ u, wr.cell? ⟨g, i * 9 + 3, none⟩ = some u) ∧ wr.frozen? ⟨g, i * 9 + 3, none⟩ = false ∧
    Lp wS wA vb out (wr.setCell ⟨g, i * 9 + 3, none⟩ (.int .i64 (-9))) (.slice p n c) n := by
  obtain ⟨h1, h2, ⟨L, h3, h5⟩, h4⟩ := h
  subst h5
  rcases h3.row with ⟨_, rfl⟩ | ⟨g, cap, e, hg, hle, hm, hr, hlt⟩
  · simp at hi
  · simp only [Value.slice.injEq] at e
    obtain ⟨rfl, _, rfl⟩ := e
    obtain ⟨r, hri⟩ : ∃ r, L[i]? = some r := ⟨_, List.getElem?_eq_getElem hi⟩
    refine ⟨g, rfl, Option.isSome_iff_exists.1 (hr.there (by omega)), hr.free _, h1.setCell (p := ⟨g, _, none⟩) hg _, h2.keep fun k hk => set_other _ _ _ _ _ fun e => ?_, ⟨L.set i { r with di := -9 }, ?_, List.length_set⟩, h4⟩
    · subst e; exact h4 k rfl hk
    · have := (hr.di (x := -9) hri hle).own hg (by rw [List.length_set]; exact hle) hm
      rwa [List.length_set] at this
theorem Lp.app {wS wA wr w9 : World} {vb v9 v : Value} {out L : List RtD} {o : Obj} (h1 : Below wS.heap.size wS wr) (h2 : OwnR wA.heap.size wr vb out) (h3 : OwnR wS.heap.size wr v L) (h4 : ∀ g, v.ownBlock = some g → vb.ownBlock ≠ some g)
    (h9 : w9.ownsRow wS.heap.size 28 9 v9 (L.length + [zRt].length) (flatK encRt L ++ flatK encRt [zRt])) (hg : (wr.alloc o).grownBy w9 v.ownBlock) (hor : v9.ownBlock = v.ownBlock ∨ v9.ownBlock = some (wr.alloc o).heap.size) : Lp wS wA vb out w9 v9 (L.length + 1) := by
  obtain ⟨hO, hB⟩ := app_facts h3 h1 h9 hg (Nat.le_refl _)
  have hlt := fun g (e : vb.ownBlock = some g) => ((h2 : wr.ownsRow wA.heap.size 28 9 vb out.length (flatK encRt out)).lt g e).2
  refine ⟨hB, h2.keep fun g e => ?_, ⟨L ++ [zRt], hO, by simp⟩, fun g e e2 => ?_⟩
  · rw [hg.block g (by have := hlt g e; simp; omega) (fun e3 => h4 g e3.symm e)]
    exact heap_old' _ _ _ (hlt g e)
  · rcases hor with h | h
    · exact h4 g (h ▸ e) e2
    · rw [h] at e
      simp only [Option.some.injEq] at e
      have := hlt g e2
      rw [← e] at this
      simp at this
      omega
set_option maxRecDepth 100000 in
set_option maxHeartbeats 16000000 in
theorem sort_law (v1 v2 : Value) (l0 m0 : List RtD) (w : World) (h1 : RdK encRt 9 w v1 l0) (h2 : RdK encRt 9 w v2 m0) :
    Calls Try.prog 3 #[v1, v2] w fun e w' => e = .returned (.bool true) ∧ Below w.heap.size w w' := by
  have H1 := Lib.hid h1
  have H2 := Lib.hid h2
  obtain ⟨p1, c1, rfl, hc1, hm1, _⟩ := h1.sl
  obtain ⟨p2, c2, rfl, hc2, hm2, _⟩ := h2.sl
  clear h1 h2
  go_enter Try.func3, Try.ntmps3
  go_wp2_with fail
  go_cut [0, 1] (fun s0 s1 wx => ∃ nl nm : Nat, s0 = .slice p1 nl c1 ∧ s1 = .slice p2 nm c2 ∧ nl ≤ 120 ∧ nm ≤ 120 ∧ nl ≤ l0.length ∧ nm ≤ m0.length ∧ Hid (Below w.heap.size w wx))
  case first =>
    have hB := Below.refl w.heap.size w
    go_quiet (fail)
    go_wp2_with fail
    go_meet
    exact ⟨_, _, rfl, rfl, by omega, by omega, by omega, by omega, Lib.hid (Below.draws hB _)⟩
  case rest =>
    obtain ⟨nl, nm, rfl, rfl, q1, q2, q3, q4, HW⟩ := hcut
    obtain ⟨l, hl⟩ : ∃ l, l0.take nl = l := ⟨_, rfl⟩
    obtain ⟨m, hm⟩ : ∃ m, m0.take nm = m := ⟨_, rfl⟩
    have hln : nl = l.length := by rw [← hl, List.length_take]; omega
    have hmn : nm = m.length := by rw [← hm, List.length_take]; omega
    have HL := Lib.hid ((H1.out.take q3).below HW.out)
    have HM := Lib.hid ((H2.out.take q4).below HW.out)
    rw [hl] at HL
    rw [hm] at HM
    subst hln hmn
    clear hl hm q3 q4 H1 H2 hm1 hm2
    go_wp2_with (first
      | (at_builtin; refine wpList_append_rdk (enc := encRt) encRt_len (by decide) encRt_one rfl (.tmp 25) (.tmp 26) 22 28 rfl zR 72 Try.underlying22 rfl infoA wc.heap.size (.slice (some ⟨wc.heap.size, 0, none⟩) 0 0) 0 [] rfl (own_empty (heap_new' _ _) (Nat.le_refl _)) _ l rfl (HL.out.below ((Below.refl _ _).alloc (Nat.le_refl _) _)) (by unfold maxLen; omega) (by omega) (by simp) ?_; intro v9 w9 hown9 hgr9 hor9; obtain ⟨hO9, hB9⟩ := app_empty hown9 hgr9; have H9 := Lib.hid (And.intro hO9 hB9); clear hown9 hgr9 hor9 hO9 hB9)
      | (at_builtin; refine wpList_append_rdk (enc := encRt) encRt_len (by decide) encRt_one rfl (.tmp 27) (.tmp 29) 22 28 rfl zR 72 Try.underlying22 rfl infoA wc.heap.size v9 l.length (flatK encRt l) rfl (own_new H9.out.1 H9.out.2) _ [sRt] rfl (seven_new _) (by unfold maxLen; simp; omega) (by simp; omega) (by have := H9.out.2.size; first | omega | (simp; omega)) ?_; intro v10 w10 hown10 hgr10 hor10; obtain ⟨hO10, hB10⟩ := app_facts H9.out.1 H9.out.2 hown10 hgr10; obtain ⟨g10, c10, rfl, hg10, hc10, hcm10, hrow10, hlt10⟩ := own_snoc hO10; have H10 := Lib.hid (And.intro hrow10 (And.intro hO10 hB10)); clear hown10 hgr10 hor10 hO10 hB10 hrow10))
    have HIN : Hid (RdK encRt 9 w10 (.slice (some ⟨g10, 0, none⟩) l.length c10) l) := Lib.hid (by
      have := H10.out.2.1.rd.take (m := l.length) (Nat.le_succ _)
      rwa [List.take_left'] at this
      rfl)
    go_at_call 4
    refine (rrsort_is _ l w10 (HL.out.below H10.out.2.2) (by omega)).mono ?_
    rintro e wS ⟨vw, out, rfl, hOw, hSw, hBw⟩
    obtain ⟨pw, cw, hvw⟩ := own_open hOw
    subst hvw
    have HWT := Lib.hid (And.intro hOw (And.intro hSw hBw))
    clear hOw hSw hBw
    go_wp2_with fail
    go_at_call 5
    refine (rsort_is _ l wS (HIN.out.below HWT.out.2.2) (by omega)).mono ?_
    rintro e wA ⟨va, out1, rfl, hOa, hSa, hBa⟩
    obtain rfl : out1 = out := hSa.one HWT.out.2.1
    have HA := Lib.hid (And.intro hOa hBa)
    clear hOa hSa hBa
    go_wp2_with fail
    go_at_call 5
    refine (rsort_is _ l wA ((HIN.out.below HWT.out.2.2).below HA.out.2) (by omega)).mono ?_
    rintro e wB ⟨vb, out2, rfl, hOb, hSb, hBb⟩
    obtain rfl : out2 = out1 := hSb.one HWT.out.2.1
    have HB := Lib.hid (And.intro hOb hBb)
    clear hOb hSb hBb
    have holen : out2.length ≤ l.length := srt_len HWT.out.2.1
    go_wp2_with fail
    go_at_call 6
    refine (rsame_is va _ out2 out2 wB (HA.out.1.rd.below HB.out.2) ((HWT.out.1.rd.below HA.out.2).below HB.out.2) (by omega) (by omega)).mono ?_
    rintro e x1 ⟨b, rfl, hi, hb1⟩
    obtain rfl : b = true := hi.2 rfl
    have HX1 := Lib.hid hb1
    clear hi hb1
    have HLB : Hid (RdK encRt 9 x1 (.slice p1 l.length c1) l ∧ RdK encRt 9 x1 (.slice p2 m.length c2) m ∧ RdK encRt 9 x1 va out2 ∧ RdK encRt 9 x1 vb out2) := Lib.hid ⟨((((HL.out.below H10.out.2.2).below HWT.out.2.2).below HA.out.2).below HB.out.2).below HX1.out, ((((HM.out.below H10.out.2.2).below HWT.out.2.2).below HA.out.2).below HB.out.2).below HX1.out, (HA.out.1.rd.below HB.out.2).below HX1.out, HB.out.1.rd.below HX1.out⟩
    go_wp2_with fail
    go_at_call 7
    refine (same_is _ _ l m x1 HLB.out.1 HLB.out.2.1 (by omega) (by omega)).mono ?_
    rintro e x2 ⟨b1, rfl, hi1, hb2⟩
    have HX2 := Lib.hid hb2
    have HI1 := Lib.hid hi1
    clear hi1 hb2
    go_wp2_with fail
    go_at_call 6
    refine (rsame_is _ _ l m x2 (HLB.out.1.below HX2.out) (HLB.out.2.1.below HX2.out) (by omega) (by omega)).mono ?_
    rintro e x3 ⟨b2, rfl, hi2, hb3⟩
    obtain rfl : b2 = b1 := Bool.eq_iff_iff.2 (hi2.trans HI1.out.symm)
    have HX3 := Lib.hid (HX2.out.trans (hb3.mono HX2.out.size))
    clear hi2 hb3 HX2
    go_wp2_with fail
    go_at_call 7
    refine (same_is va vb out2 out2 x3 (HLB.out.2.2.1.below HX3.out) (HLB.out.2.2.2.below HX3.out) (by omega) (by omega)).mono ?_
    rintro e x4 ⟨b3, rfl, hi3, hb4⟩
    obtain rfl : b3 = true := hi3.2 rfl
    have HX4 := Lib.hid (HX1.out.trans ((HX3.out.trans (hb4.mono HX3.out.size)).mono HX1.out.size))
    clear hi3 hb4 HX3 HX1 HLB HI1
    obtain ⟨pa, ca, hva⟩ := own_open HA.out.1
    subst hva
    have H4 : Hid (Lp wS wA vb out2 x4 (.slice pa out2.length ca) out2.length) := Lib.hid (by
      have hab := HB.out.2.trans (HX4.out.mono HB.out.2.size)
      refine ⟨HA.out.2.trans (hab.mono HA.out.2.size), HB.out.1.below HX4.out, ⟨out2, (HA.out.1.below HB.out.2).below HX4.out, rfl⟩, fun g e e2 => ?_⟩
      have k1 := ((HA.out.1 : wA.ownsRow wS.heap.size 28 9 (.slice pa out2.length ca) out2.length (flatK encRt out2)).lt g e).2
      have k2 := ((HB.out.1 : wB.ownsRow wA.heap.size 28 9 vb out2.length (flatK encRt out2)).lt g e2).1
      omega)
    go_wp2_with fail
    go_loopw [10] (fun si wr => ∃ i : Nat, i ≤ out2.length ∧ si = .int .i64 i ∧ Hid (Lp wS wA vb out2 wr (.slice pa out2.length ca) out2.length)) (fun si _ => out2.length - (intOf si).toNat)
    case atStart => exact ⟨0, Nat.zero_le _, rfl, H4⟩
    case round =>
      obtain ⟨i, hi, rfl, HI⟩ := hrel
      by_cases hlt : i < out2.length
      · have hlti : (i : Int) < (out2.length : Int) := by omega
        have i0 : (0 : Int) ≤ (i : Int) := by omega
        obtain ⟨ga, rfl, ⟨u, cu⟩, fu, hL⟩ := HI.out.di hlt
        have HN := Lib.hid hL
        clear hL
        go_wp2_with fail
        go_roundw
        case rel => exact ⟨i + 1, by omega, by go_num, HN⟩
        case measure => first | (simp [intOf]; done) | (simp [intOf]; omega)
      · have hlti : ¬ (i : Int) < (out2.length : Int) := by omega
        go_wp2_with fail
        go_loopw [8, 11] (fun sv si wy => ∃ (i n : Nat) (p : Option Addr) (c : Nat), i ≤ 70 ∧ si = .int .i64 i ∧ n = out2.length + i ∧ sv = .slice p n c ∧ Hid (Lp wS wA vb out2 wy (.slice p n c) n)) (fun _ si _ => 70 - (intOf si).toNat)
        case atStart => exact ⟨0, _, _, _, by omega, rfl, rfl, rfl, HI⟩
        case round =>
          obtain ⟨j, n, p, c, hj, rfl, hn, rfl, HJ⟩ := hrel
          by_cases hlt2 : j < 70
          · have hlti2 : (j : Int) < 70 := by omega
            obtain ⟨k1, k2, ⟨L, hL, hLn⟩, k4⟩ := HJ.out
            subst hLn
            have HO := Lib.hid (And.intro k1 (And.intro k2 (And.intro hL k4)))
            have hs1 := k1.size
            have HNJ := Lib.hid hn
            have hLm : L.length ≤ 1000 := by omega
            clear hn
            have HZ := Lib.hid hs1
            clear k1 k2 hL k4 HJ hs1
            go_wp2_with (first
              | (at_builtin; refine wpList_append_rdk (enc := encRt) encRt_len (by decide) encRt_one rfl (.tmp 72) (.tmp 74) 22 28 rfl zR 72 Try.underlying22 rfl infoA wS.heap.size (.slice p L.length c) L.length (flatK encRt L) rfl (own_new HO.out.2.2.1 HO.out.1) _ [zRt] rfl (zero_new _) (by unfold maxLen; simp; omega) (by simp; omega) (by have := HZ.out; first | omega | (simp; omega)) ?_; intro y9 x9 hown9 hgr9 hor9; have hLp := Lp.app HO.out.1 HO.out.2.1 HO.out.2.2.1 HO.out.2.2.2 hown9 hgr9 hor9; obtain ⟨p9, c9, rfl⟩ := own_slice hown9; have HN := Lib.hid hLp; clear hown9 hgr9 hor9 hLp))
            go_roundw
            case rel => exact ⟨j + 1, L.length + 1, p9, c9, by omega, by go_num, by have := HNJ.out; omega, rfl, HN⟩
            case measure => first | (simp [intOf]; done) | (simp [intOf]; omega)
          · have hlti2 : ¬ (j : Int) < 70 := by omega
            have hn70 : (n : Int) = (out2.length : Int) + 70 := by omega
            have HN70 := Lib.hid hn70
            clear hn70 hn
            have HLS : Hid (RdK encRt 9 wS (.slice p1 l.length c1) l ∧ RdK encRt 9 wS (.slice p2 m.length c2) m ∧ RdK encRt 9 wS (.slice pw out2.length cw) out2 ∧ RdK encRt 9 wS (.slice (some ⟨g10, 0, none⟩) l.length c10) l) := Lib.hid ⟨(HL.out.below H10.out.2.2).below HWT.out.2.2, (HM.out.below H10.out.2.2).below HWT.out.2.2, HWT.out.1.rd, HIN.out.below HWT.out.2.2⟩
            have H7 : Hid (∀ W, Below wS.heap.size wS W → W.cell? ⟨g10, l.length * 9 + 3, none⟩ = some (.int .i64 7)) := Lib.hid fun W hb => by
              have hc := H10.out.1.cells (k := l.length) (s := sRt) (Nat.zero_le _) (by simp) 3 _ rfl
              have hg := HWT.out.2.2.size
              exact (hb.cell (p := ⟨g10, _, none⟩) (by simp; omega)).trans ((HWT.out.2.2.cell (p := ⟨g10, _, none⟩) hlt10).trans hc)
            have HFB : Hid (Below w.heap.size w wS) := Lib.hid ((HW.out.trans (H10.out.2.2.mono HW.out.size)).trans (HWT.out.2.2.mono (HW.out.trans (H10.out.2.2.mono HW.out.size)).size))
            clear HL HM HIN H10 H9 HWT HA HB HX4 H4 HI HW
            obtain ⟨wo, hwo⟩ : ∃ wo : World, wo = wr := ⟨_, rfl⟩
            rw [← hwo] at HJ
            go_wp2_with fail
            go_loopw [12] (fun si wz => ∃ i : Nat, i ≤ l.length ∧ i ≤ m.length ∧ si = .int .i64 i ∧ Hid (Below wS.heap.size wS wz ∧ OwnR wA.heap.size wz vb out2)) (fun si _ => l.length - (intOf si).toNat)
            case atStart => exact ⟨0, by omega, by omega, rfl, Lib.hid (by rw [← hwo]; exact ⟨HJ.out.1, HJ.out.2.1⟩)⟩
            case round =>
              obtain ⟨i, hi1, hi2, rfl, HK⟩ := hrel
              clear hwo HJ
              by_cases hc1 : i < l.length
              · have hc1i : (i : Int) < (l.length : Int) := by omega
                by_cases hc2 : i < m.length
                · have hc2i : (i : Int) < (m.length : Int) := by omega
                  have i0 : (0 : Int) ≤ (i : Int) := by omega
                  obtain ⟨x, hx⟩ : ∃ x, l[i]? = some x := ⟨_, List.getElem?_eq_getElem hc1⟩
                  obtain ⟨y, hy⟩ : ∃ y, m[i]? = some y := ⟨_, List.getElem?_eq_getElem hc2⟩
                  obtain ⟨bx, ox, rfl, hbx, hcx⟩ := rdk_at HLS.out.1 hx
                  obtain ⟨byy, oy, rfl, hby, hcy⟩ := rdk_at HLS.out.2.1 hy
                  have HT1 : Hid (∀ W, Calls Try.prog 8 #[.agg (encRt x).toArray, .agg (encRt y).toArray] W fun e w' => e = .returned (.int .i64 (cR x y)) ∧ Below W.heap.size W w') := Lib.hid fun W => rcmp_is x y W
                  have HT2 : Hid (∀ W, Calls Try.prog 9 #[.agg (encRt x).toArray, .agg (encRt y).toArray] W fun e w' => e = .returned (.int .i64 (cR x y)) ∧ Below W.heap.size W w') := Lib.hid fun W => rrcmp_is x y W
                  obtain ⟨d, hd⟩ : ∃ d, cR x y = d := ⟨_, rfl⟩
                  rw [hd] at HT1 HT2
                  clear hd hx hy
                  obtain ⟨xa, xb, xfr, xdi, xme, xta, xnm, xho, xdc⟩ := x
                  obtain ⟨ya, yb, yfr, ydi, yme, yta, ynm, yho, ydc⟩ := y
                  simp only [encRt] at HT1 HT2
                  have cx0 : wr.cell? ⟨bx, ox + i * 9, none⟩ = some (.int .u32 xa) := by have := hcx wr HK.out.1 0 _ rfl; simpa only [Nat.add_zero] using this
                  have cy0 : wr.cell? ⟨byy, oy + i * 9, none⟩ = some (.int .u32 ya) := by have := hcy wr HK.out.1 0 _ rfl; simpa only [Nat.add_zero] using this
                  have cx1 : wr.cell? ⟨bx, ox + i * 9 + 1, none⟩ = some (.int .i64 xb) := by have := hcx wr HK.out.1 1 _ rfl; simpa only [Nat.add_zero] using this
                  have cy1 : wr.cell? ⟨byy, oy + i * 9 + 1, none⟩ = some (.int .i64 yb) := by have := hcy wr HK.out.1 1 _ rfl; simpa only [Nat.add_zero] using this
                  have cx2 : wr.cell? ⟨bx, ox + i * 9 + 2, none⟩ = some (.int .u8 xfr) := by have := hcx wr HK.out.1 2 _ rfl; simpa only [Nat.add_zero] using this
                  have cy2 : wr.cell? ⟨byy, oy + i * 9 + 2, none⟩ = some (.int .u8 yfr) := by have := hcy wr HK.out.1 2 _ rfl; simpa only [Nat.add_zero] using this
                  have cx3 : wr.cell? ⟨bx, ox + i * 9 + 3, none⟩ = some (.int .i64 xdi) := by have := hcx wr HK.out.1 3 _ rfl; simpa only [Nat.add_zero] using this
                  have cy3 : wr.cell? ⟨byy, oy + i * 9 + 3, none⟩ = some (.int .i64 ydi) := by have := hcy wr HK.out.1 3 _ rfl; simpa only [Nat.add_zero] using this
                  have cx4 : wr.cell? ⟨bx, ox + i * 9 + 4, none⟩ = some (.int .i64 xme) := by have := hcx wr HK.out.1 4 _ rfl; simpa only [Nat.add_zero] using this
                  have cy4 : wr.cell? ⟨byy, oy + i * 9 + 4, none⟩ = some (.int .i64 yme) := by have := hcy wr HK.out.1 4 _ rfl; simpa only [Nat.add_zero] using this
                  have cx5 : wr.cell? ⟨bx, ox + i * 9 + 5, none⟩ = some (.int .i64 xta) := by have := hcx wr HK.out.1 5 _ rfl; simpa only [Nat.add_zero] using this
                  have cy5 : wr.cell? ⟨byy, oy + i * 9 + 5, none⟩ = some (.int .i64 yta) := by have := hcy wr HK.out.1 5 _ rfl; simpa only [Nat.add_zero] using this
                  have cx6 : wr.cell? ⟨bx, ox + i * 9 + 6, none⟩ = some (.string xnm) := by have := hcx wr HK.out.1 6 _ rfl; simpa only [Nat.add_zero] using this
                  have cy6 : wr.cell? ⟨byy, oy + i * 9 + 6, none⟩ = some (.string ynm) := by have := hcy wr HK.out.1 6 _ rfl; simpa only [Nat.add_zero] using this
                  have cx7 : wr.cell? ⟨bx, ox + i * 9 + 7, none⟩ = some (.int .u32 xho) := by have := hcx wr HK.out.1 7 _ rfl; simpa only [Nat.add_zero] using this
                  have cy7 : wr.cell? ⟨byy, oy + i * 9 + 7, none⟩ = some (.int .u32 yho) := by have := hcy wr HK.out.1 7 _ rfl; simpa only [Nat.add_zero] using this
                  have cx8 : wr.cell? ⟨bx, ox + i * 9 + 8, none⟩ = some (.bool xdc) := by have := hcx wr HK.out.1 8 _ rfl; simpa only [Nat.add_zero] using this
                  have cy8 : wr.cell? ⟨byy, oy + i * 9 + 8, none⟩ = some (.bool ydc) := by have := hcy wr HK.out.1 8 _ rfl; simpa only [Nat.add_zero] using this
                  have g0 : bx < wr.heap.size := by have := HK.out.1.size; omega
                  have g1 : byy < wr.heap.size := by have := HK.out.1.size; omega
                  clear hcx hcy
                  go_wp2_with fail
                  refine wp_region_grows (by kernel_rfl) (by kernel_rfl) ?_
                  refine grows_fact _ _ _ cx0 g0 fun rx0 => ?_
                  refine grows_fact _ _ _ cy0 g1 fun ry0 => ?_
                  refine grows_fact _ _ _ cx1 g0 fun rx1 => ?_
                  refine grows_fact _ _ _ cy1 g1 fun ry1 => ?_
                  refine grows_fact _ _ _ cx2 g0 fun rx2 => ?_
                  refine grows_fact _ _ _ cy2 g1 fun ry2 => ?_
                  refine grows_fact _ _ _ cx3 g0 fun rx3 => ?_
                  refine grows_fact _ _ _ cy3 g1 fun ry3 => ?_
                  refine grows_fact _ _ _ cx4 g0 fun rx4 => ?_
                  refine grows_fact _ _ _ cy4 g1 fun ry4 => ?_
                  refine grows_fact _ _ _ cx5 g0 fun rx5 => ?_
                  refine grows_fact _ _ _ cy5 g1 fun ry5 => ?_
                  refine grows_fact _ _ _ cx6 g0 fun rx6 => ?_
                  refine grows_fact _ _ _ cy6 g1 fun ry6 => ?_
                  refine grows_fact _ _ _ cx7 g0 fun rx7 => ?_
                  refine grows_fact _ _ _ cy7 g1 fun ry7 => ?_
                  refine grows_fact _ _ _ cx8 g0 fun rx8 => ?_
                  refine grows_fact _ _ _ cy8 g1 fun ry8 => ?_
                  clear cx0 cy0 cx1 cy1 cx2 cy2 cx3 cy3 cx4 cy4 cx5 cy5 cx6 cy6 cx7 cy7 cx8 cy8 g0 g1
                  repeat (go_big_quiet_step ((first | (go_at_call 8; exact Calls.grows_of (HT1.out _)) | (go_at_call 9; exact Calls.grows_of (HT2.out _)))))
                  refine wpQuiet_nil ?_
                  rintro w7 ⟨⟨_, hb7⟩, rfl⟩
                  clear rx0 ry0 rx1 ry1 rx2 ry2 rx3 ry3 rx4 ry4 rx5 ry5 rx6 ry6 rx7 ry7 rx8 ry8
                  have HN : Hid (Below wS.heap.size wS w7 ∧ OwnR wA.heap.size w7 vb out2) := Lib.hid ⟨HK.out.1.trans (hb7.mono HK.out.1.size), HK.out.2.below hb7⟩
                  clear hb7
                  go_wp2_with fail
                  go_roundw
                  case rel => exact ⟨i + 1, by omega, by omega, by go_num, HN⟩
                  case measure => first | (simp [intOf]; done) | (simp [intOf]; omega)
                · have hc2i : ¬ (i : Int) < (m.length : Int) := by omega
                  have hn70 := HN70.out
                  have e70 : ((n : Int) == (out2.length : Int) + 70) = true := by simpa using hn70
                  have e71 : IntKind.i64.wrap ((out2.length : Int) + 70) = (out2.length : Int) + 70 := IntWalk.i64_in _ ⟨by omega, by omega⟩
                  clear hn70
                  go_wp2_with fail
                  go_at_call 6
                  refine (rsame_is vb _ out2 out2 wr HK.out.2.rd (HLS.out.2.2.1.below HK.out.1) (by omega) (by omega)).mono ?_
                  rintro e z1 ⟨b, rfl, hi, hb1⟩
                  obtain rfl : b = true := hi.2 rfl
                  have HZ1 := Lib.hid (HK.out.1.trans (hb1.mono HK.out.1.size))
                  clear hi hb1
                  go_wp2_with fail
                  go_at_call 6
                  refine (rsame_is _ _ l l z1 (HLS.out.2.2.2.below HZ1.out) (HLS.out.1.below HZ1.out) (by omega) (by omega)).mono ?_
                  rintro e z2 ⟨b', rfl, hi, hb2⟩
                  obtain rfl : b' = true := hi.2 rfl
                  have HZ2 := Lib.hid (HZ1.out.trans (hb2.mono HZ1.out.size))
                  clear hi hb2
                  have c7 := H7.out z2 HZ2.out
                  have n0 : (0 : Int) ≤ (l.length : Int) := by omega
                  have n1 : IntKind.i64.wrap ((l.length : Int) + 1) = (l.length : Int) + 1 := IntWalk.i64_in _ ⟨by omega, by omega⟩
                  have n2 : (0 : Int) ≤ (l.length : Int) + 1 := by omega
                  have n3 : (l.length : Int) + 1 ≤ (c10 : Int) := by omega
                  have n4 : ((l.length : Int) + 1).toNat = l.length + 1 := by omega
                  have n5 : l.length + 1 ≤ c10 := hc10
                  go_wp2_with fail
                  go_ret
                  exact ⟨by simp, HFB.out.trans (HZ2.out.mono HFB.out.size)⟩
              · have hc1i : ¬ (i : Int) < (l.length : Int) := by omega
                have hn70 := HN70.out
                have e70 : ((n : Int) == (out2.length : Int) + 70) = true := by simpa using hn70
                have e71 : IntKind.i64.wrap ((out2.length : Int) + 70) = (out2.length : Int) + 70 := IntWalk.i64_in _ ⟨by omega, by omega⟩
                clear hn70
                go_wp2_with fail
                go_at_call 6
                refine (rsame_is vb _ out2 out2 wr HK.out.2.rd (HLS.out.2.2.1.below HK.out.1) (by omega) (by omega)).mono ?_
                rintro e z1 ⟨b, rfl, hi, hb1⟩
                obtain rfl : b = true := hi.2 rfl
                have HZ1 := Lib.hid (HK.out.1.trans (hb1.mono HK.out.1.size))
                clear hi hb1
                go_wp2_with fail
                go_at_call 6
                refine (rsame_is _ _ l l z1 (HLS.out.2.2.2.below HZ1.out) (HLS.out.1.below HZ1.out) (by omega) (by omega)).mono ?_
                rintro e z2 ⟨b', rfl, hi, hb2⟩
                obtain rfl : b' = true := hi.2 rfl
                have HZ2 := Lib.hid (HZ1.out.trans (hb2.mono HZ1.out.size))
                clear hi hb2
                have c7 := H7.out z2 HZ2.out
                have n0 : (0 : Int) ≤ (l.length : Int) := by omega
                have n1 : IntKind.i64.wrap ((l.length : Int) + 1) = (l.length : Int) + 1 := IntWalk.i64_in _ ⟨by omega, by omega⟩
                have n2 : (0 : Int) ≤ (l.length : Int) + 1 := by omega
                have n3 : (l.length : Int) + 1 ≤ (c10 : Int) := by omega
                have n4 : ((l.length : Int) + 1).toNat = l.length + 1 := by omega
                have n5 : l.length + 1 ≤ c10 := hc10
                go_wp2_with fail
                go_ret
                exact ⟨by simp, HFB.out.trans (HZ2.out.mono HFB.out.size)⟩
end Go.Proofs.Ytiimbcdnblhpfaa
