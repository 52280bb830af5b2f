/- The law TrieCovered: what is covered is just what was, and by no two. Under the conditions that it names. -/
import Derived.Test.YtodfimnmbfdicaaTpK
import Derived.Test.YtodfimnmbfdicaaTpH
namespace Go.Proofs.Ytodfimnmbfdicaa
open Go.RowKit Go.Shelf
theorem build_ok {l : List (Int × Int)} (hrg : ∀ x ∈ l, 0 ≤ x.1 ∧ x.1 < 4294967296) : (build l).Ok := by
  have key : ∀ (l : List (Int × Int)) (T : Tr Unit), T.Ok → (∀ x ∈ l, 0 ≤ x.1 ∧ x.1 < 4294967296) → (l.foldl addP T).Ok := by
    intro l
    induction l with
    | nil => intro T h _; exact h
    | cons x l ih =>
      intro T h hr
      refine ih _ ?_ fun y hy => hr y (List.mem_cons_of_mem _ hy)
      unfold addP
      split
      · rename_i hk
        exact Tr.ok_ins ⟨(hr x (by simp)).1, (hr x (by simp)).2, hk⟩ h
      · exact h
  exact key l .nil trivial hrg
theorem build_has {l : List (Int × Int)} (hrg : ∀ x ∈ l, 0 ≤ x.1 ∧ x.1 < 4294967296) (b m : Int) : (∃ v, (build l).Has b m v) ↔ (b, m) ∈ l ∧ ck b m = 0 := by
  have key : ∀ (l : List (Int × Int)) (T : Tr Unit), T.Ok → (∀ x ∈ l, 0 ≤ x.1 ∧ x.1 < 4294967296) → ((∃ v, (l.foldl addP T).Has b m v) ↔ (∃ v, T.Has b m v) ∨ ((b, m) ∈ l ∧ ck b m = 0)) := by
    intro l
    induction l with
    | nil => intro T _ _; simp
    | cons x l ih =>
      intro T h hr
      have hx := hr x (by simp)
      have hok : (addP T x).Ok := by
        unfold addP
        split
        · rename_i hk
          exact Tr.ok_ins ⟨hx.1, hx.2, hk⟩ h
        · exact h
      have h1 : (∃ v, (addP T x).Has b m v) ↔ (∃ v, T.Has b m v) ∨ ((b, m) = x ∧ ck b m = 0) := by
        unfold addP
        split
        · rename_i hk
          simp only [Tr.has_ins (v := ()) ⟨hx.1, hx.2, hk⟩ b m _ h]
          constructor
          · rintro ⟨v, ⟨rfl, rfl, _⟩ | ⟨_, h2⟩⟩
            · exact .inr ⟨rfl, hk⟩
            · exact .inl ⟨v, h2⟩
          · rintro (⟨v, h2⟩ | ⟨rfl, h2⟩)
            · by_cases e : b = x.1 ∧ m = x.2
              · exact ⟨(), .inl ⟨e.1, e.2, trivial⟩⟩
              · exact ⟨v, .inr ⟨e, h2⟩⟩
            · exact ⟨(), .inl ⟨rfl, rfl, trivial⟩⟩
        · rename_i hk
          constructor
          · exact .inl
          · rintro (h2 | ⟨rfl, h2⟩)
            · exact h2
            · exact absurd h2 hk
      rw [List.foldl_cons, ih _ hok fun y hy => hr y (List.mem_cons_of_mem _ hy), h1]
      simp only [List.mem_cons]
      constructor
      · rintro ((h2 | ⟨h2, h3⟩) | ⟨h2, h3⟩)
        · exact .inl h2
        · exact .inr ⟨.inl h2, h3⟩
        · exact .inr ⟨.inr h2, h3⟩
      · rintro (h2 | ⟨h2 | h2, h3⟩)
        · exact .inl (.inl h2)
        · exact .inl (.inr ⟨h2, h3⟩)
        · exact .inr ⟨h2, h3⟩
  have := key l .nil trivial hrg
  simpa [build, Tr.Has] using this
/-- Is an address in one of a list? -/
def anyIn (x : Int) (l : List (Int × Int)) : Bool := l.any fun p => inB x p.1 p.2
def cntIn (x : Int) (l : List (Int × Int)) : Nat := (l.filter fun p => inB x p.1 p.2).length
theorem anyIn_step {x : Int} {l : List (Int × Int)} {q : Nat} {p : Int × Int} (h : l[q]? = some p) : anyIn x (l.take (q + 1)) = (anyIn x (l.take q) || inB x p.1 p.2) := by
  unfold anyIn
  rw [List.take_add_one, h]
  simp
theorem cntIn_step {x : Int} {l : List (Int × Int)} {q : Nat} {p : Int × Int} (h : l[q]? = some p) : cntIn x (l.take (q + 1)) = cntIn x (l.take q) + (if inB x p.1 p.2 then 1 else 0) := by
  unfold cntIn
  rw [List.take_add_one, h]
  simp only [Option.toList_some, List.filter_append, List.length_append]
  congr 1
  by_cases hb : inB x p.1 p.2 = true <;> simp [hb]
theorem cnt_law {l : List (Int × Int)} (hrg : ∀ x ∈ l, 0 ≤ x.1 ∧ x.1 < 4294967296) (x : Int) : cntIn x (Tr.cover (build l)) = if anyIn x l then 1 else 0 := by
  have hok := build_ok hrg
  have hall := all_reg0 hok
  have hca := Tr.cover_all hok hall
  have hcov := Tr.cover_cov (x := x) hok
  have hone := Tr.cover_one (x := x) hok hall
  have he : ∀ p ∈ Tr.cover (build l), inB x p.1 p.2 = decide (Eq32 p.2 x p.1) := fun p hp => by
    have h1 := in_iff (x := x) (hca p hp).1
    cases hb : inB x p.1 p.2 with
    | true => exact (decide_eq_true (h1.1 hb)).symm
    | false => exact (decide_eq_false fun e => by rw [h1.2 e] at hb; cases hb).symm
  have hf : (Tr.cover (build l)).filter (fun p => inB x p.1 p.2) = (Tr.cover (build l)).filter (fun p => decide (Eq32 p.2 x p.1)) := List.filter_congr he
  unfold cntIn
  rw [hf]
  have hiff : anyIn x l = true ↔ ∃ p ∈ Tr.cover (build l), Eq32 p.2 x p.1 := by
    rw [hcov]
    unfold anyIn
    rw [List.any_eq_true]
    constructor
    · rintro ⟨⟨b, m⟩, h1, h2⟩
      have hck : ck b m = 0 := by
        unfold inB at h2
        simp only [Bool.and_eq_true, decide_eq_true_eq] at h2
        exact h2.1
      obtain ⟨v, hv⟩ := (build_has hrg b m).2 ⟨h1, hck⟩
      exact ⟨b, m, v, hv, (in_iff ⟨(hrg _ h1).1, (hrg _ h1).2, hck⟩).1 h2⟩
    · rintro ⟨b, m, v, h1, h2⟩
      obtain ⟨h3, h4⟩ := (build_has hrg b m).1 ⟨v, h1⟩
      exact ⟨(b, m), h3, (in_iff ⟨(hrg _ h3).1, (hrg _ h3).2, h4⟩).2 h2⟩
  by_cases ha : anyIn x l = true
  · rw [if_pos ha]
    obtain ⟨p, h1, h2⟩ := hiff.1 ha
    have : 0 < ((Tr.cover (build l)).filter (fun p => decide (Eq32 p.2 x p.1))).length := List.length_pos_of_mem (List.mem_filter.2 ⟨h1, decide_eq_true h2⟩)
    omega
  · rw [if_neg ha]
    have : (Tr.cover (build l)).filter (fun p => decide (Eq32 p.2 x p.1)) = [] := by
      rw [List.filter_eq_nil_iff]
      intro p hp e
      exact ha (hiff.2 ⟨p, hp, of_decide_eq_true e⟩)
    rw [this]; rfl
theorem cover_pair {l : List (Int × Int)} (hrg : ∀ x ∈ l, 0 ≤ x.1 ∧ x.1 < 4294967296) {i k : Nat} {p q : Int × Int} (hik : i < k) (hp : (Tr.cover (build l))[i]? = some p) (hq : (Tr.cover (build l))[k]? = some q) :
    PfOk p.1 p.2 ∧ PfOk q.1 q.2 ∧ cmpI p.1 p.2 q.1 q.2 = -1 ∧ ¬ (p.2 = q.2 ∧ cmK p.1 p.2 q.1 q.2 = p.2 - 1) ∧ wiB p.1 p.2 q.1 q.2 = false ∧ wiB q.1 q.2 p.1 p.2 = false := by
  have hok := build_ok hrg
  have hca := Tr.cover_all hok (all_reg0 hok)
  have hs := Tr.cover_sep hok
  have h1 := (hca p (List.mem_of_getElem? hp)).1
  have h2 := (hca q (List.mem_of_getElem? hq)).1
  obtain ⟨hi, e1⟩ := List.getElem?_eq_some_iff.1 hp
  obtain ⟨hk, e2⟩ := List.getElem?_eq_some_iff.1 hq
  have h3 := List.pairwise_iff_getElem.1 hs i k hi hk hik
  rw [e1, e2] at h3
  exact ⟨h1, h2, h3.facts h1 h2⟩
set_option maxRecDepth 100000 in
set_option maxHeartbeats 16000000 in
theorem covered_is (l : List (Int × Int)) (lv : Value) (a : Int) (w : World) (hr : RdK encP 2 w lv l) (hrg : ∀ x ∈ l, 0 ≤ x.1 ∧ x.1 < 4294967296) (ha : 0 ≤ a) (ha2 : a < 4294967296) : Calls Try.prog 7 #[lv, .int .u32 a] w fun e w' => e = .returned (.bool true) ∧ Below w.heap.size w w' := by
  obtain ⟨p, c, rfl, hlc, hcm, _⟩ := hr.sl
  unfold maxLen at hcm
  obtain ⟨m, hm⟩ : ∃ m, min l.length 100 = m := ⟨_, rfl⟩
  have hmi : min (l.length : Int) 100 = (m : Int) := by omega
  have hml : m ≤ l.length := by omega
  have hm1 : m ≤ 100 := by omega
  obtain ⟨L, hL⟩ : ∃ L, l.take m = L := ⟨_, rfl⟩
  have hLm : L.length = m := by rw [← hL, List.length_take]; omega
  have HRD := Lib.hid (show ∀ W, Below w.heap.size w W → RdK encP 2 W (.slice p m c) L from fun W hW => by rw [← hL]; exact (hr.take hml).below hW)
  have HRG : Hid (∀ x ∈ L, 0 ≤ x.1 ∧ x.1 < 4294967296) := Lib.hid fun x hx => hrg x (by rw [← hL] at hx; exact List.mem_of_mem_take hx)
  have HLM := Lib.hid hLm
  have e1 : (0 : Int) ≤ (m : Int) := by omega
  have e2 : (m : Int) ≤ (c : Int) := by omega
  clear hr hrg hL hm hLm
  go_enter Try.func7, Try.ntmps7
  go_wp2_with fail
  go_at_call 20
  refine (awake_is w).mono ?_
  rintro e w1 ⟨rfl, hb1⟩
  have HB1 := Lib.hid hb1
  clear hb1
  go_wp2_with fail
  go_at_call 22
  refine (cover_fn L _ w1 (HRD.out w1 HB1.out) (by have := HLM.out; omega) HRG.out).mono ?_
  rintro e w2 ⟨cv, rfl, ho, hb2⟩
  obtain ⟨pc, cc, rfl⟩ := own_slice ho
  obtain ⟨C, hC⟩ : ∃ C, Tr.cover (build L) = C := ⟨_, rfl⟩
  have hlen : C.length ≤ 100 := by
    have h1 := Tr.cover_len (build L)
    have h2 := build_sz L
    have := HLM.out
    rw [hC] at h1
    omega
  rw [hC] at ho
  have HRC : Hid (∀ W, Below w2.heap.size w2 W → RdK encP 2 W (.slice pc C.length cc) C) := Lib.hid fun W hW => (RdK.of_own encP_len ho).below hW
  have hcl : C.length ≤ cc ∧ cc ≤ 9223372036854775807 := by
    obtain ⟨p', c', h1, h2, h3, _⟩ := (HRC.out w2 (Below.refl _ _)).sl
    simp only [Value.slice.injEq] at h1
    unfold maxLen at h3
    omega
  have HCNT : Hid (∀ x : Int, cntIn x C = if anyIn x L then 1 else 0) := Lib.hid fun x => by rw [← hC]; exact cnt_law HRG.out x
  have HPAIR : Hid (∀ (i k : Nat) (p q : Int × Int), i < k → C[i]? = some p → C[k]? = some q → PfOk p.1 p.2 ∧ PfOk q.1 q.2 ∧ cmpI p.1 p.2 q.1 q.2 = -1 ∧ ¬ (p.2 = q.2 ∧ cmK p.1 p.2 q.1 q.2 = p.2 - 1) ∧ wiB p.1 p.2 q.1 q.2 = false ∧ wiB q.1 q.2 p.1 p.2 = false) := Lib.hid fun i k p q h1 h2 h3 => by
    rw [← hC] at h2 h3
    exact cover_pair HRG.out h1 h2 h3
  have HCR : Hid (∀ q ∈ C, 0 ≤ q.1 ∧ q.1 < 4294967296) := Lib.hid fun q hq => by
    have hok := build_ok HRG.out
    rw [← hC] at hq
    have := (Tr.cover_all hok (all_reg0 hok) q hq).1
    exact ⟨this.1, this.2.1⟩
  have HB2 := Lib.hid (HB1.out.trans (hb2.mono HB1.out.size))
  rw [hC]
  clear ho hb2 hC
  go_wp2_with fail
  go_loopw [6, 7] (fun x i wr => ∃ kk xv : Int, -1 ≤ kk ∧ kk ≤ m ∧ x = .int .u32 xv ∧ 0 ≤ xv ∧ xv < 4294967296 ∧ i = .int .i64 kk ∧ Hid (Below w2.heap.size w2 wr)) (fun _ i _ => ((m : Int) - intOf i).toNat)
  case atStart => exact ⟨-1, a, by omega, by omega, rfl, ha, ha2, rfl, Lib.hid (Below.refl _ _)⟩
  case round =>
    obtain ⟨kk, xv, hk1, hk2, rfl, hx1, hx2, rfl, HW⟩ := hrel
    obtain ⟨wo, rfl⟩ : ∃ wo : World, wo = wr := ⟨_, rfl⟩
    by_cases hkm : kk < m
    · by_cases hk0 : 0 ≤ kk
      · obtain ⟨j, rfl⟩ : ∃ j : Nat, kk = j := ⟨kk.toNat, by omega⟩
        obtain ⟨y, hy⟩ : ∃ y, L[j]? = some y := ⟨_, List.getElem?_eq_getElem (by have := HLM.out; omega)⟩
        have hyr := HRG.out y (List.mem_of_getElem? hy)
        obtain ⟨b, o, c', he, hbl, hcy⟩ := rd_cells (HRD.out w2 HB2.out) hy
        simp only [Value.slice.injEq] at he
        obtain ⟨rfl, -, rfl⟩ := he
        have f0 := (hcy wo HW.out).1
        obtain ⟨y0, y1⟩ := y
        simp only at f0 hyr
        obtain ⟨hy1, hy2⟩ := hyr
        clear hy hcy hx1 hx2
        have HY := Lib.hid (And.intro hy1 hy2)
        go_wp2_with fail
        clear f0
        go_loopw [8, 10] (fun bv i wr => ∃ q : Nat, q ≤ m ∧ i = .int .i64 q ∧ bv = .bool (anyIn y0 (L.take q)) ∧ Hid (Below w2.heap.size w2 wr)) (fun _ i _ => m - (intOf i).toNat)
        case atStart => exact ⟨0, Nat.zero_le _, rfl, rfl, HW⟩
        case round =>
          obtain ⟨q, hq, rfl, rfl, HWq⟩ := hrel
          have g1 : (0 : Int) ≤ (q : Int) := by omega
          by_cases hqm : q < m
          · obtain ⟨z, hz⟩ : ∃ z, L[q]? = some z := ⟨_, List.getElem?_eq_getElem (by have := HLM.out; omega)⟩
            have hstep := anyIn_step (x := y0) hz
            have hzr := HRG.out z (List.mem_of_getElem? hz)
            obtain ⟨b', o', c'', he, hbl', hcz⟩ := rd_cells (HRD.out w2 HB2.out) hz
            simp only [Value.slice.injEq, Option.some.injEq, Addr.mk.injEq, and_true] at he
            obtain ⟨⟨rfl, rfl⟩, -, rfl⟩ := he
            obtain ⟨f0, f1⟩ := hcz wr HWq.out
            obtain ⟨z0, z1⟩ := z
            simp only at f0 f1 hstep hzr
            have HIN := Lib.hid fun W => rin_is y0 z0 z1 W HY.out.1 HY.out.2 hzr.1 hzr.2
            have HS := Lib.hid hstep
            have g2 : (q : Int) < (m : Int) := by omega
            obtain ⟨bb, hbb⟩ : ∃ bb, anyIn y0 (L.take q) = bb := ⟨_, rfl⟩
            rw [hbb] at HS ⊢
            clear hz hstep hzr hcz hbb
            cases bb
            · go_wp2_with fail
              go_at_call 26
              refine (HIN.out _).mono ?_
              rintro e w5 ⟨rfl, hb5⟩
              have HW5 := Lib.hid (Below.step HWq.out hb5)
              clear hb5 f0 f1
              go_wp2_with fail
              go_roundw
              case rel => exact ⟨q + 1, by omega, by go_num, by rw [HS.out, Bool.false_or], HW5⟩
              case measure => simp [intOf]; omega
            · clear f0 f1
              go_wp2_with fail
              go_roundw
              case rel => exact ⟨q + 1, by omega, by go_num, by rw [HS.out, Bool.true_or], HWq⟩
              case measure => simp [intOf]; omega
          · have hdq : decide ((q : Int) < (m : Int)) = false := by simp; omega
            have hqe : L.take q = L := List.take_of_length_le (by have := HLM.out; omega)
            rw [hqe]
            obtain ⟨wp, rfl⟩ : ∃ wp : World, wp = wr := ⟨_, rfl⟩
            clear hqe
            go_wp2_with fail
            go_loopw [9, 11] (fun nv i wr => ∃ r : Nat, r ≤ C.length ∧ i = .int .i64 r ∧ nv = .int .i64 (cntIn y0 (C.take r)) ∧ cntIn y0 (C.take r) ≤ r ∧ Hid (Below w2.heap.size w2 wr)) (fun _ i _ => C.length - (intOf i).toNat)
            case atStart => exact ⟨0, Nat.zero_le _, rfl, rfl, Nat.le_refl _, HWq⟩
            case round =>
              obtain ⟨r, hr, rfl, rfl, hcr, HWr⟩ := hrel
              have g3 : (0 : Int) ≤ (r : Int) := by omega
              by_cases hrm : r < C.length
              · obtain ⟨z, hz⟩ : ∃ z, C[r]? = some z := ⟨_, List.getElem?_eq_getElem hrm⟩
                have hstep := cntIn_step (x := y0) hz
                have hzr := HCR.out z (List.mem_of_getElem? hz)
                obtain ⟨b', o', c'', he, hbl', hcz⟩ := rd_cells (HRC.out w2 (Below.refl _ _)) hz
                simp only [Value.slice.injEq, true_and] at he
                obtain ⟨rfl, rfl⟩ := he
                obtain ⟨f0, f1⟩ := hcz wr HWr.out
                obtain ⟨z0, z1⟩ := z
                simp only at f0 f1 hstep hzr
                obtain ⟨bb, hbb⟩ : ∃ bb, inB y0 z0 z1 = bb := ⟨_, rfl⟩
                have HIN := Lib.hid fun W => rin_is y0 z0 z1 W HY.out.1 HY.out.2 hzr.1 hzr.2
                rw [hbb] at HIN hstep
                have HS := Lib.hid hstep
                have g4 : (r : Int) < (C.length : Int) := by omega
                obtain ⟨n0, hn0⟩ : ∃ n0, cntIn y0 (C.take r) = n0 := ⟨_, rfl⟩
                rw [hn0] at HS hcr ⊢
                clear hz hstep hzr hcz hbb hn0
                go_wp2_with fail
                go_at_call 26
                refine (HIN.out _).mono ?_
                rintro e w5 ⟨rfl, hb5⟩
                have HW5 := Lib.hid (Below.step HWr.out hb5)
                clear hb5 f0 f1
                cases bb
                · go_wp2_with fail
                  go_roundw
                  case rel => exact ⟨r + 1, by omega, by go_num, by rw [HS.out]; simp, by rw [HS.out]; simp; omega, HW5⟩
                  case measure => simp [intOf]; omega
                · go_wp2_with fail
                  go_roundw
                  case rel => exact ⟨r + 1, by omega, by go_num, by rw [HS.out]; simp, by rw [HS.out]; simp; omega, HW5⟩
                  case measure => simp [intOf]; omega
              · have hdr : decide ((r : Int) < (C.length : Int)) = false := by simp; omega
                have hre : C.take r = C := List.take_of_length_le (by omega)
                have hcn := HCNT.out y0
                rw [hre, hcn]
                clear hre hcn hcr
                cases anyIn y0 L
                · simp only [Bool.false_eq_true, if_false]
                  go_wp2_with fail
                  go_roundw
                  case rel => exact ⟨(j : Int) + 1, y0, by omega, by omega, rfl, HY.out.1, HY.out.2, by go_num, HWr⟩
                  case measure => simp [intOf]; omega
                · simp only [if_true]
                  go_wp2_with fail
                  go_roundw
                  case rel => exact ⟨(j : Int) + 1, y0, by omega, by omega, rfl, HY.out.1, HY.out.2, by go_num, HWr⟩
                  case measure => simp [intOf]; omega
      · have hd : (decide ((0 : Int) ≤ kk)) = false := by simpa using hk0
        have HY := Lib.hid (And.intro hx1 hx2)
        go_wp2_with fail
        go_loopw [8, 10] (fun bv i wr => ∃ q : Nat, q ≤ m ∧ i = .int .i64 q ∧ bv = .bool (anyIn xv (L.take q)) ∧ Hid (Below w2.heap.size w2 wr)) (fun _ i _ => m - (intOf i).toNat)
        case atStart => exact ⟨0, Nat.zero_le _, rfl, rfl, HW⟩
        case round =>
          obtain ⟨q, hq, rfl, rfl, HWq⟩ := hrel
          have g1 : (0 : Int) ≤ (q : Int) := by omega
          by_cases hqm : q < m
          · obtain ⟨z, hz⟩ : ∃ z, L[q]? = some z := ⟨_, List.getElem?_eq_getElem (by have := HLM.out; omega)⟩
            have hstep := anyIn_step (x := xv) hz
            have hzr := HRG.out z (List.mem_of_getElem? hz)
            obtain ⟨b', o', c'', he, hbl', hcz⟩ := rd_cells (HRD.out w2 HB2.out) hz
            simp only [Value.slice.injEq] at he
            obtain ⟨rfl, -, rfl⟩ := he
            obtain ⟨f0, f1⟩ := hcz wr HWq.out
            obtain ⟨z0, z1⟩ := z
            simp only at f0 f1 hstep hzr
            have HIN := Lib.hid fun W => rin_is xv z0 z1 W HY.out.1 HY.out.2 hzr.1 hzr.2
            have HS := Lib.hid hstep
            have g2 : (q : Int) < (m : Int) := by omega
            obtain ⟨bb, hbb⟩ : ∃ bb, anyIn xv (L.take q) = bb := ⟨_, rfl⟩
            rw [hbb] at HS ⊢
            clear hz hstep hzr hcz hbb
            cases bb
            · go_wp2_with fail
              go_at_call 26
              refine (HIN.out _).mono ?_
              rintro e w5 ⟨rfl, hb5⟩
              have HW5 := Lib.hid (Below.step HWq.out hb5)
              clear hb5 f0 f1
              go_wp2_with fail
              go_roundw
              case rel => exact ⟨q + 1, by omega, by go_num, by rw [HS.out, Bool.false_or], HW5⟩
              case measure => simp [intOf]; omega
            · clear f0 f1
              go_wp2_with fail
              go_roundw
              case rel => exact ⟨q + 1, by omega, by go_num, by rw [HS.out, Bool.true_or], HWq⟩
              case measure => simp [intOf]; omega
          · have hdq : decide ((q : Int) < (m : Int)) = false := by simp; omega
            have hqe : L.take q = L := List.take_of_length_le (by have := HLM.out; omega)
            rw [hqe]
            obtain ⟨wp, rfl⟩ : ∃ wp : World, wp = wr := ⟨_, rfl⟩
            clear hqe
            go_wp2_with fail
            go_loopw [9, 11] (fun nv i wr => ∃ r : Nat, r ≤ C.length ∧ i = .int .i64 r ∧ nv = .int .i64 (cntIn xv (C.take r)) ∧ cntIn xv (C.take r) ≤ r ∧ Hid (Below w2.heap.size w2 wr)) (fun _ i _ => C.length - (intOf i).toNat)
            case atStart => exact ⟨0, Nat.zero_le _, rfl, rfl, Nat.le_refl _, HWq⟩
            case round =>
              obtain ⟨r, hr, rfl, rfl, hcr, HWr⟩ := hrel
              have g3 : (0 : Int) ≤ (r : Int) := by omega
              by_cases hrm : r < C.length
              · obtain ⟨z, hz⟩ : ∃ z, C[r]? = some z := ⟨_, List.getElem?_eq_getElem hrm⟩
                have hstep := cntIn_step (x := xv) hz
                have hzr := HCR.out z (List.mem_of_getElem? hz)
                obtain ⟨b', o', c'', he, hbl', hcz⟩ := rd_cells (HRC.out w2 (Below.refl _ _)) hz
                simp only [Value.slice.injEq, true_and] at he
                obtain ⟨rfl, rfl⟩ := he
                obtain ⟨f0, f1⟩ := hcz wr HWr.out
                obtain ⟨z0, z1⟩ := z
                simp only at f0 f1 hstep hzr
                obtain ⟨bb, hbb⟩ : ∃ bb, inB xv z0 z1 = bb := ⟨_, rfl⟩
                have HIN := Lib.hid fun W => rin_is xv z0 z1 W HY.out.1 HY.out.2 hzr.1 hzr.2
                rw [hbb] at HIN hstep
                have HS := Lib.hid hstep
                have g4 : (r : Int) < (C.length : Int) := by omega
                obtain ⟨n0, hn0⟩ : ∃ n0, cntIn xv (C.take r) = n0 := ⟨_, rfl⟩
                rw [hn0] at HS hcr ⊢
                clear hz hstep hzr hcz hbb hn0
                go_wp2_with fail
                go_at_call 26
                refine (HIN.out _).mono ?_
                rintro e w5 ⟨rfl, hb5⟩
                have HW5 := Lib.hid (Below.step HWr.out hb5)
                clear hb5 f0 f1
                cases bb
                · go_wp2_with fail
                  go_roundw
                  case rel => exact ⟨r + 1, by omega, by go_num, by rw [HS.out]; simp, by rw [HS.out]; simp; omega, HW5⟩
                  case measure => simp [intOf]; omega
                · go_wp2_with fail
                  go_roundw
                  case rel => exact ⟨r + 1, by omega, by go_num, by rw [HS.out]; simp, by rw [HS.out]; simp; omega, HW5⟩
                  case measure => simp [intOf]; omega
              · have hdr : decide ((r : Int) < (C.length : Int)) = false := by simp; omega
                have hre : C.take r = C := List.take_of_length_le (by omega)
                have hcn := HCNT.out xv
                rw [hre, hcn]
                clear hre hcn hcr
                cases anyIn xv L
                · simp only [Bool.false_eq_true, if_false]
                  go_wp2_with fail
                  go_roundw
                  case rel => exact ⟨kk + 1, xv, by omega, by omega, rfl, HY.out.1, HY.out.2, by go_num, HWr⟩
                  case measure => simp [intOf]; omega
                · simp only [if_true]
                  go_wp2_with fail
                  go_roundw
                  case rel => exact ⟨kk + 1, xv, by omega, by omega, rfl, HY.out.1, HY.out.2, by go_num, HWr⟩
                  case measure => simp [intOf]; omega
    · have hd : decide (kk < (m : Int)) = false := by simpa using hkm
      go_wp2_with fail
      go_loopw [12] (fun i wr => ∃ i1 : Nat, i1 ≤ C.length ∧ i = .int .i64 i1 ∧ Hid (Below w2.heap.size w2 wr)) (fun i _ => C.length - (intOf i).toNat)
      case atStart => exact ⟨0, Nat.zero_le _, rfl, HW⟩
      case round =>
        obtain ⟨i1, hi1, rfl, HWi⟩ := hrel
        have g1 : (0 : Int) ≤ (i1 : Int) := by omega
        by_cases hic : i1 < C.length
        · have g2 : (i1 : Int) < (C.length : Int) := by omega
          obtain ⟨wq, rfl⟩ : ∃ wq : World, wq = wr := ⟨_, rfl⟩
          go_wp2_with fail
          go_loopw [13] (fun k wr => ∃ k1 : Nat, i1 < k1 ∧ k1 ≤ C.length ∧ k = .int .i64 k1 ∧ Hid (Below w2.heap.size w2 wr)) (fun k _ => C.length - (intOf k).toNat)
          case atStart => exact ⟨i1 + 1, by omega, by omega, by go_num, HWi⟩
          case round =>
            obtain ⟨k1, hk1, hk2, rfl, HWk⟩ := hrel
            have g3 : (0 : Int) ≤ (k1 : Int) := by omega
            by_cases hkc : k1 < C.length
            · have g4 : (k1 : Int) < (C.length : Int) := by omega
              obtain ⟨y, hy⟩ : ∃ y, C[i1]? = some y := ⟨_, List.getElem?_eq_getElem hic⟩
              obtain ⟨z, hz⟩ : ∃ z, C[k1]? = some z := ⟨_, List.getElem?_eq_getElem hkc⟩
              have hpair := HPAIR.out i1 k1 y z hk1 hy hz
              obtain ⟨b, o, c', he, hbl, hcy⟩ := rd_cells (HRC.out w2 (Below.refl _ _)) hy
              simp only [Value.slice.injEq, true_and] at he
              obtain ⟨rfl, rfl⟩ := he
              obtain ⟨b', o', c', he, hbl', hcz⟩ := rd_cells (HRC.out w2 (Below.refl _ _)) hz
              simp only [Value.slice.injEq, Option.some.injEq, Addr.mk.injEq, and_true, true_and] at he
              obtain ⟨⟨rfl, rfl⟩, rfl⟩ := he
              obtain ⟨y0, y1⟩ := y
              obtain ⟨z0, z1⟩ := z
              simp only at hpair hcy hcz
              have HY := Lib.hid hcy; have HZ := Lib.hid hcz; have HP := Lib.hid hpair
              obtain ⟨D, hD⟩ : ∃ D, y0 / pw (cmK y0 y1 z0 z1) * pw (cmK y0 y1 z0 z1) = D := ⟨_, rfl⟩
              obtain ⟨K, hK⟩ : ∃ K, cmK y0 y1 z0 z1 = K := ⟨_, rfl⟩
              have HCOM : Hid (∀ W, Calls Try.prog 31 #[.agg #[.int .u32 y0, .int .i64 y1], .agg #[.int .u32 z0, .int .i64 z1]] W fun e w' => e = .returned (.tuple #[.agg #[.int .u32 D, .int .i64 K], .int .i64 0]) ∧ Below W.heap.size W w') := Lib.hid fun W => by
                have := rcommon_ok y0 y1 z0 z1 W hpair.1.1 hpair.1.2.1 hpair.2.1.1 hpair.2.1.2.1 hpair.1.2.2 hpair.2.1.2.2
                rw [hD, hK] at this
                exact this
              have HCM : Hid (∀ W, Calls Try.prog 32 #[.agg #[.int .u32 y0, .int .i64 y1], .agg #[.int .u32 z0, .int .i64 z1]] W fun e w' => e = .returned (.int .i64 (-1)) ∧ Below W.heap.size W w') := Lib.hid fun W => by
                have := rcmp_is y0 y1 z0 z1 W
                rw [hpair.2.2.1] at this
                exact this
              have HW1 : Hid (∀ W, Calls Try.prog 28 #[.agg #[.int .u32 y0, .int .i64 y1], .agg #[.int .u32 z0, .int .i64 z1]] W fun e w' => e = .returned (.bool false) ∧ Below W.heap.size W w') := Lib.hid fun W => by
                have := rwithin_is y0 y1 z0 z1 W hpair.1.1 hpair.1.2.1 hpair.2.1.1 hpair.2.1.2.1
                rw [hpair.2.2.2.2.1] at this
                exact this
              have HW2 : Hid (∀ W, Calls Try.prog 28 #[.agg #[.int .u32 z0, .int .i64 z1], .agg #[.int .u32 y0, .int .i64 y1]] W fun e w' => e = .returned (.bool false) ∧ Below W.heap.size W w') := Lib.hid fun W => by
                have := rwithin_is z0 z1 y0 y1 W hpair.2.1.1 hpair.2.1.2.1 hpair.1.1 hpair.1.2.1
                rw [hpair.2.2.2.2.2] at this
                exact this
              have hKne : y1 = z1 → ¬ K = y1 - 1 := fun h1 h2 => hpair.2.2.2.1 ⟨h1, by rw [hK]; exact h2⟩
              have hyb := hpair.1.bits
              obtain ⟨hy5, hy6, _⟩ := hyb
              have HKN := Lib.hid hKne
              have hz0 : Below w2.heap.size w2 (wr.alloc (.cells #[.int .u32 0, .int .i64 0] 34)) := HWk.out.alloc HWk.out.size _
              obtain ⟨c0, c1⟩ := hcy wr HWk.out
              obtain ⟨c2, c3⟩ := hcz wr HWk.out
              obtain ⟨d0, d1⟩ := hcy _ hz0
              obtain ⟨d2, d3⟩ := hcz _ hz0
              clear hpair hcy hcz hy hz hD hK hKne hz0
              go_wp2_with fail
              go_cut [14, 15] from 95 to 106 (fun s14 s15 wx => ∃ g14 : Nat, s14 = .pointer (some ⟨g14, 0, none⟩) ∧ s15 = .int .i64 0 ∧ wx.heap[g14]? = some (.cells #[.int .u32 D, .int .i64 K] 34 (0, 0)) ∧ Below wr.heap.size wr wx)
              case first =>
                go_region_with (go_at_call 31; (with_reducible refine (HCOM.out _).mono ?_); rintro e w5 ⟨rfl, hb45⟩; (try (have zc : w5.heap[wr.heap.size]? = some (.cells #[.int .u32 0, .int .i64 0] 34 (0, 0)) := (hb45.block wr.heap.size (by simp)).trans (heap_alloc_new wr _); have zc0 : w5.cell? ⟨wr.heap.size, 0, none⟩ = some (.int .u32 0) := row_cell zc 0; have zc1 : w5.cell? ⟨wr.heap.size, 1, none⟩ = some (.int .i64 0) := row_cell zc 1; have zf0 := frozen_of_row _ _ 0 _ _ zc; have zf1 := frozen_of_row _ _ 1 _ _ zc)))
                all_goals
                  go_wp2_with fail
                  go_meet
                  refine ⟨_, rfl, rfl, ?_⟩
                  first
                    | exact (box_late_i hb45).2
                    | exact (box_early_i hb45 zc).2
              case rest =>
                obtain ⟨g14, rfl, rfl, hr14, hb14⟩ := hcut
                have HW5 := Lib.hid (Below.step HWk.out hb14)
                have gl := blk_lt hr14
                have k1c : wc.cell? ⟨g14, 1, none⟩ = some (.int .i64 K) := row_cell hr14 1
                obtain ⟨c0, c1⟩ := HY.out wc HW5.out
                obtain ⟨c2, c3⟩ := HZ.out wc HW5.out
                have bl : b < wc.heap.size := by have := HW5.out.size; omega
                clear hr14 hb14 d0 d1 d2 d3
                go_wp2_with fail
                by_cases heq : y1 = z1
                · have hk := HKN.out heq
                  have t1 : (y1 == z1) = true := by simpa using heq
                  have t2 : (K == y1 - 1) = false := by simpa using hk
                  clear heq hk
                  refine wp_region_grows (by kernel_rfl) (by kernel_rfl) ?_
                  refine grows_fact b (o + i1 * 2) (.int .u32 y0) c0 bl fun s0 => ?_
                  refine grows_fact b (o + i1 * 2 + 1) (.int .i64 y1) c1 bl fun s1 => ?_
                  refine grows_fact b (o + k1 * 2) (.int .u32 z0) c2 bl fun s2 => ?_
                  refine grows_fact b (o + k1 * 2 + 1) (.int .i64 z1) c3 bl fun s3 => ?_
                  refine grows_fact g14 1 (.int .i64 K) k1c gl fun s4 => ?_
                  repeat (go_big_quiet_step (first
                    | (go_at_call 32; with_reducible exact Calls.grows_of (HCM.out _))
                    | (go_at_call 28; with_reducible exact Calls.grows_of (HW1.out _))
                    | (go_at_call 28; with_reducible exact Calls.grows_of (HW2.out _))))
                  refine wpQuiet_nil ?_
                  rintro w8 ⟨⟨_, hb8⟩, rfl⟩
                  have HW8 := Lib.hid (Below.step HW5.out hb8)
                  clear s0 s1 s2 s3 s4 hb8 c0 c1 c2 c3 k1c
                  go_wp2_with fail
                  go_roundw
                  case rel => exact ⟨k1 + 1, by omega, by omega, by go_num, HW8⟩
                  case measure => simp [intOf]; omega
                · have t1 : (y1 == z1) = false := by simpa using heq
                  clear heq
                  refine wp_region_grows (by kernel_rfl) (by kernel_rfl) ?_
                  refine grows_fact b (o + i1 * 2) (.int .u32 y0) c0 bl fun s0 => ?_
                  refine grows_fact b (o + i1 * 2 + 1) (.int .i64 y1) c1 bl fun s1 => ?_
                  refine grows_fact b (o + k1 * 2) (.int .u32 z0) c2 bl fun s2 => ?_
                  refine grows_fact b (o + k1 * 2 + 1) (.int .i64 z1) c3 bl fun s3 => ?_
                  refine grows_fact g14 1 (.int .i64 K) k1c gl fun s4 => ?_
                  repeat (go_big_quiet_step (first
                    | (go_at_call 32; with_reducible exact Calls.grows_of (HCM.out _))
                    | (go_at_call 28; with_reducible exact Calls.grows_of (HW1.out _))
                    | (go_at_call 28; with_reducible exact Calls.grows_of (HW2.out _))))
                  refine wpQuiet_nil ?_
                  rintro w8 ⟨⟨_, hb8⟩, rfl⟩
                  have HW8 := Lib.hid (Below.step HW5.out hb8)
                  clear s0 s1 s2 s3 s4 hb8 c0 c1 c2 c3 k1c
                  go_wp2_with fail
                  go_roundw
                  case rel => exact ⟨k1 + 1, by omega, by omega, by go_num, HW8⟩
                  case measure => simp [intOf]; omega
            · have hdk : decide ((k1 : Int) < (C.length : Int)) = false := by simp; omega
              go_wp2_with fail
              go_roundw
              case rel => exact ⟨i1 + 1, by omega, by go_num, HWk⟩
              case measure => simp [intOf]; omega
        · have hdi : decide ((i1 : Int) < (C.length : Int)) = false := by simp; omega
          go_wp2_with fail
          go_ret
          exact ⟨rfl, HB2.out.trans (HWi.out.mono HB2.out.size)⟩
end Go.Proofs.Ytodfimnmbfdicaa
