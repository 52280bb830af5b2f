/- The document's own answer for communities in form: Normal, Join of waymarkref09. Under the conditions that they name. -/
import Derived.Test.YtkkhmdiffddllaaDoorVaB
import Derived.Test.YtkkhmdiffddllaaDoorUvC
namespace Go.Proofs.YtkkhmdiffddllaaDoor
open Go.Shelf Go.RowKit Go.Lib
/-- What is there of the form so far. -/
structure NI (comm out : List Int) : Prop where
  asc : out.Pairwise (· < ·)
  sub : ∀ x ∈ out, x ∈ comm
  low : ∀ x ∈ comm, x ∉ out → ∀ y ∈ out, y < x
  few : out.length + (comm.filter (fun x => decide (x ∉ out))).length ≤ comm.length
theorem NI.nil (comm : List Int) : NI comm [] := ⟨List.Pairwise.nil, fun x h => (by cases h), fun x _ _ y h => (by cases h), by simpa using List.length_filter_le _ _⟩
theorem filter_less {l : List Int} {p q : Int → Bool} (h : ∀ x, q x = true → p x = true) {m : Int} (hm : m ∈ l) (hp : p m = true) (hq : q m = false) : (l.filter q).length < (l.filter p).length := by
  induction l with
  | nil => cases hm
  | cons x l ih =>
    have hle : ∀ l : List Int, (l.filter q).length ≤ (l.filter p).length := fun l => by
      induction l with
      | nil => simp
      | cons y l ih =>
        simp only [List.filter_cons]
        by_cases h1 : q y = true
        · rw [if_pos h1, if_pos (h y h1)]; simp; exact ih
        · rw [if_neg h1]
          by_cases h2 : p y = true
          · rw [if_pos h2]; simp; omega
          · rw [if_neg h2]; exact ih
    simp only [List.filter_cons]
    rcases List.mem_cons.1 hm with rfl | h1
    · rw [if_pos hp, hq]
      simp
      have := hle l
      omega
    · have h2 := ih h1
      by_cases h3 : q x = true
      · rw [if_pos h3, if_pos (h x h3)]; simp; exact h2
      · rw [if_neg h3]
        by_cases h4 : p x = true
        · rw [if_pos h4]; simp; omega
        · rw [if_neg h4]; exact h2
theorem NI.put {comm out : List Int} (h : NI comm out) {m : Int} (hm : m ∈ comm) (hn : m ∉ out) (hl : ∀ x ∈ comm, x ∉ out → m ≤ x) : NI comm (out ++ [m]) ∧ out.length < comm.length := by
  have hlt := filter_less (l := comm) (p := fun x => decide (x ∉ out)) (q := fun x => decide (x ∉ out ++ [m])) (fun x hx => by simp at hx ⊢; exact hx.1) hm (by simpa using hn) (by simp)
  have := h.few
  refine ⟨⟨?_, ?_, ?_, ?_⟩, by omega⟩
  · refine List.pairwise_append.2 ⟨h.asc, by simp, fun x hx y hy => ?_⟩
    have := List.mem_singleton.1 hy
    subst this
    exact h.low _ hm hn x hx
  · intro x hx
    rcases List.mem_append.1 hx with h1 | h1
    · exact h.sub x h1
    · have := List.mem_singleton.1 h1; subst this; exact hm
  · intro x hx hxn y hy
    have h1 : x ∉ out := fun h2 => hxn (List.mem_append.2 (.inl h2))
    have h2 : x ≠ m := fun h3 => hxn (by subst h3; simp)
    rcases List.mem_append.1 hy with h3 | h3
    · exact h.low x hx h1 y h3
    · have h4 := List.mem_singleton.1 h3
      have := hl x hx h1
      omega
  · rw [List.length_append, List.length_singleton]; omega
theorem NI.done {comm out : List Int} (h : NI comm out) (ha : ∀ x ∈ comm, x ∈ out) : IsForm comm out := ⟨h.asc, fun x => ⟨h.sub x, ha x⟩⟩
/-- What a pass has found behind k numbers. -/
structure LI (comm out : List Int) (k : Nat) (f : Bool) (m : Int) : Prop where
  no : f = false → ∀ j x, j < k → comm[j]? = some x → x ∈ out
  yes : f = true → m ∈ comm ∧ m ∉ out ∧ ∀ j x, j < k → comm[j]? = some x → x ∉ out → m ≤ x
theorem LI.zero (comm out : List Int) (m : Int) : LI comm out 0 false m := ⟨fun _ j x h => (by omega), fun h => (by cases h)⟩
section
variable {comm out : List Int} {k : Nat} {f : Bool} {m x : Int}
theorem LI.skip (h : LI comm out k f m) (hx : comm[k]? = some x) (ho : x ∈ out) : LI comm out (k + 1) f m := by
  refine ⟨fun hf j y hj hy => ?_, fun hf => ⟨(h.yes hf).1, (h.yes hf).2.1, fun j y hj hy hn => ?_⟩⟩
  · by_cases e : j = k
    · subst e; rw [hx] at hy; cases hy; exact ho
    · exact h.no hf j y (by omega) hy
  · by_cases e : j = k
    · subst e; rw [hx] at hy; cases hy; exact absurd ho hn
    · exact (h.yes hf).2.2 j y (by omega) hy hn
theorem LI.take_ (h : LI comm out k f m) (hx : comm[k]? = some x) (ho : x ∉ out) (hlt : f = false ∨ x < m) : LI comm out (k + 1) true x := by
  refine ⟨fun hf => (by cases hf), fun _ => ⟨List.mem_of_getElem? hx, ho, fun j y hj hy hn => ?_⟩⟩
  by_cases e : j = k
  · subst e; rw [hx] at hy; cases hy; exact Int.le_refl _
  · cases f with
    | false => exact absurd (h.no rfl j y (by omega) hy) hn
    | true =>
      have h1 := (h.yes rfl).2.2 j y (by omega) hy hn
      have h2 : x < m := by rcases hlt with h | h; cases h; exact h
      omega
theorem LI.keep (h : LI comm out k true m) (hx : comm[k]? = some x) (hlt : ¬ x < m) : LI comm out (k + 1) true m := by
  refine ⟨fun hf => (by cases hf), fun _ => ⟨(h.yes rfl).1, (h.yes rfl).2.1, fun j y hj hy hn => ?_⟩⟩
  by_cases e : j = k
  · subst e; rw [hx] at hy; cases hy; omega
  · exact (h.yes rfl).2.2 j y (by omega) hy hn
theorem LI.all (h : LI comm out comm.length false m) : ∀ x ∈ comm, x ∈ out := fun x hx => by
  obtain ⟨j, hj⟩ := List.getElem?_of_mem hx
  exact h.no rfl j x (List.getElem?_eq_some_iff.1 hj).1 hj
theorem LI.least (h : LI comm out comm.length true m) : m ∈ comm ∧ m ∉ out ∧ ∀ x ∈ comm, x ∉ out → m ≤ x := by
  obtain ⟨h1, h2, h3⟩ := h.yes rfl
  refine ⟨h1, h2, fun x hx hn => ?_⟩
  obtain ⟨j, hj⟩ := List.getElem?_of_mem hx
  exact h3 j x (List.getElem?_eq_some_iff.1 hj).1 hj hn
end
def lenOf : Value → Nat | .slice _ n _ => n | _ => 0
set_option maxRecDepth 100000 in
set_option maxHeartbeats 2000000 in
theorem rnormal_is (v : Value) (l : List Int) (w : World) (hv : RdK encU 1 w v l) (hl : l.length ≤ 35184372087808) : Calls Tryd.prog 10 #[v] w fun e w' =>
    ∃ v' r, e = .returned v' ∧ OwnU w.heap.size w' v' r ∧ IsForm l r ∧ r.length ≤ l.length ∧ Below w.heap.size w w' := by
  have HV := Lib.hid hv
  obtain ⟨p, c, rfl, h2, h3, h4⟩ := hv.sl
  have H4 := Lib.hid h4
  clear h4 hv h2 h3
  go_enter Tryd.func10, Tryd.ntmps10
  go_wp2_with fail
  go_loopw [3] (fun v3 wr => ∃ out : List Int, Hid (OwnU w.heap.size wr v3 out) ∧ Hid (NI l out) ∧ out.length ≤ l.length ∧ Hid (Below w.heap.size w wr)) (fun v3 _ => l.length - lenOf v3)
  case atStart => exact ⟨[], Lib.hid (World.ownsRow_nil _ _ _ _), Lib.hid (NI.nil l), Nat.zero_le _, Lib.hid (Below.refl _ _)⟩
  case round =>
    obtain ⟨out, HO, HN, hol, HB⟩ := hrel
    obtain ⟨wo, rfl⟩ : ∃ wo : World, wo = wr := ⟨_, rfl⟩
    obtain ⟨p3, c3, hs3⟩ := own_sl HO.out
    subst hs3
    have RO := Lib.hid (RdK.of_own encU_len HO.out)
    go_wp2_with fail
    go_loop [4, 5, 6] (fun v4 v5 v6 => ∃ (k : Nat) (f : Bool) (m : Int), v4 = .bool f ∧ v5 = .int .u32 m ∧ v6 = .int .i64 k ∧ k ≤ l.length ∧ Hid (LI l out k f m)) (fun _ _ v6 => l.length - (intOf v6).toNat)
    case atStart => exact ⟨0, false, 0, rfl, rfl, rfl, Nat.zero_le _, Lib.hid (LI.zero _ _ _)⟩
    case round =>
      obtain ⟨k, f, m, rfl, rfl, rfl, hk, HL⟩ := hrel
      by_cases hlt : k < l.length
      · have hltz : (k : Int) < (l.length : Int) := by omega
        obtain ⟨x, hx⟩ : ∃ x, l[k]? = some x := ⟨_, List.getElem?_eq_getElem hlt⟩
        obtain ⟨g1, o1, rfl, g1s, d1⟩ := H4.out k x hx
        have e1 := d1 wo HB.out 0 _ (by rfl : (encU x)[0]? = some (.int .u32 x))
        simp only [Nat.mul_one, Nat.add_zero] at e1
        have C1 := Lib.hid (has_is (.slice p3 out.length c3) out x wo RO.out (by omega))
        have HX := Lib.hid hx
        clear d1 hx g1s
        by_cases ho : x ∈ out
        · have hd : decide (x ∈ out) = true := by simpa using ho
          rw [hd] at C1
          have NX := Lib.hid (HL.out.skip HX.out ho)
          clear ho hd
          go_wp2_with fail
          go_at_call 23
          (with_reducible refine C1.out.mono ?_)
          rintro e w1 ⟨rfl, rfl⟩
          go_wp2
          go_round
          case rel => exact ⟨k + 1, f, m, rfl, rfl, by go_num, by omega, NX⟩
          case measure => simp [intOf] <;> omega
        · have hd : decide (x ∈ out) = false := by simpa using ho
          rw [hd] at C1
          have HO2 := Lib.hid ho
          clear ho hd
          cases f with
          | false =>
            have NX := Lib.hid (HL.out.take_ HX.out HO2.out (.inl rfl))
            go_wp2_with fail
            go_at_call 23
            (with_reducible refine C1.out.mono ?_)
            rintro e w1 ⟨rfl, rfl⟩
            go_wp2
            go_round
            case rel => exact ⟨k + 1, true, x, rfl, rfl, by go_num, by omega, NX⟩
            case measure => simp [intOf] <;> omega
          | true =>
            by_cases hxm : x < m
            · have NX := Lib.hid (HL.out.take_ HX.out HO2.out (.inr hxm))
              go_wp2_with fail
              go_at_call 23
              (with_reducible refine C1.out.mono ?_)
              rintro e w1 ⟨rfl, rfl⟩
              go_wp2
              go_round
              case rel => exact ⟨k + 1, true, x, rfl, rfl, by go_num, by omega, NX⟩
              case measure => simp [intOf] <;> omega
            · have NX := Lib.hid (HL.out.keep HX.out hxm)
              go_wp2_with fail
              go_at_call 23
              (with_reducible refine C1.out.mono ?_)
              rintro e w1 ⟨rfl, rfl⟩
              go_wp2
              go_round
              case rel => exact ⟨k + 1, true, m, rfl, rfl, by go_num, by omega, NX⟩
              case measure => simp [intOf] <;> omega
      · have hge : ¬ (k : Int) < (l.length : Int) := by omega
        have hkl : k = l.length := by omega
        subst hkl
        cases f with
        | false =>
          have F := Lib.hid (HN.out.done HL.out.all)
          go_wp2_with fail
          go_ret
          exact ⟨_, rfl, out, HO.out, F.out, hol, HB.out⟩
        | true =>
          obtain ⟨m1, m2, m3⟩ := HL.out.least
          obtain ⟨n1, n2⟩ := HN.out.put m1 m2 m3
          have N1 := Lib.hid n1
          clear n1 m1 m2 m3
          obtain ⟨W1, hW1⟩ : ∃ X, wo.alloc (.cells #[.int .u32 m] 23) = X := ⟨_, rfl⟩
          have BW : Hid (Below wo.heap.size wo W1) := Lib.hid (by rw [← hW1]; exact (Below.refl _ _).alloc (Nat.le_refl _) _)
          have R1 : Hid (RdK encU 1 W1 (.slice (some ⟨wo.heap.size, 0, none⟩) 1 1) [m]) := Lib.hid (rd_block (l := [m]) encU_len (heap_alc hW1) rfl (by unfold maxLen; simp))
          have O1 : Hid (OwnU w.heap.size W1 (.slice p3 out.length c3) out) := Lib.hid (own_blw HO.out BW.out)
          have B1 : Hid (Below w.heap.size w W1) := Lib.hid (Below.step HB.out BW.out)
          go_wp2_with (first
            | (at_builtin; refine wpList_append_rdk encU_len (by decide) encU_one rfl _ _ 22 23 rfl (.int .u32 0) 4 Tryd.underlying22 rfl infoU w.heap.size _ out.length (flatK encU out) rfl O1.out _ [m] rfl R1.out (by unfold maxLen; simp only [List.length_singleton]; omega) (by simp only [List.length_singleton]; omega) B1.out.size ?_
               intro v2 W2 o2 g2 n2
               have O2 : Hid (OwnU w.heap.size W2 v2 (out ++ [m])) := Lib.hid (by show W2.ownsRow _ _ _ _ (out ++ [m]).length _; rw [List.length_append]; simpa [flatK, List.flatMap_append] using o2)
               have B2 : Hid (Below w.heap.size w W2) := Lib.hid (B1.out.grown g2 B1.out.size (fun j hj => (O1.out.lt j hj).1))
               clear o2 g2 n2
               obtain ⟨p4, c4, hs4⟩ := own_sl O2.out
               subst hs4
               have hln : (out ++ [m]).length = out.length + 1 := by simp
               rw [hln] at O2))
          go_roundw
          case rel => exact ⟨_, O2, N1, by rw [List.length_append, List.length_singleton]; omega, B2⟩
          case measure => simp [lenOf] <;> omega
set_option maxRecDepth 100000 in
set_option maxHeartbeats 1000000 in
theorem rjoin_is (v0 v1 : Value) (a b : List Int) (w : World) (h0 : RdK encU 1 w v0 a) (h1 : RdK encU 1 w v1 b) (ha : a.length ≤ 8796093022208) (hb : b.length ≤ 8796093022208) :
    Calls Tryd.prog 11 #[v0, v1] w fun e w' => ∃ v r, e = .returned v ∧ OwnU w.heap.size w' v r ∧ IsForm (a ++ b) r ∧ r.length ≤ (a ++ b).length ∧ Below w.heap.size w w' := by
  have H0 := Lib.hid h0
  have H1 := Lib.hid h1
  obtain ⟨p0, c0, rfl, _, _, q0⟩ := h0.sl
  clear q0
  obtain ⟨p1, c1, rfl, _, _, q1⟩ := h1.sl
  clear q1 h0 h1
  have C2 := Lib.hid fun v W (hv : OwnU w.heap.size W v (a ++ b)) => rnormal_is v (a ++ b) W (RdK.of_own encU_len hv) (by rw [List.length_append]; omega)
  go_enter Tryd.func11, Tryd.ntmps11
  go_wp2_with (first
    | (at_builtin; refine wpList_append_rdk encU_len (by decide) encU_one rfl _ _ 22 23 rfl (.int .u32 0) 4 Tryd.underlying22 rfl infoU w.heap.size _ 0 [] rfl (World.ownsRow_nil w w.heap.size 23 1) _ a rfl H0.out (by unfold maxLen; omega) (by omega) (Nat.le_refl _) ?_
       intro v2 W2 o2 g2 n2
       have O2 : Hid (OwnU w.heap.size W2 v2 a) := Lib.hid (by simpa using o2)
       have B2 : Hid (Below w.heap.size w W2) := Lib.hid ((Below.refl _ _).grown g2 (Nat.le_refl _) (fun j hj => by cases hj))
       obtain ⟨p3, c3, hs3⟩ := own_sl O2.out
       clear o2 g2 n2
       subst hs3)
    | (at_builtin; refine wpList_append_rdk encU_len (by decide) encU_one rfl _ _ 22 23 rfl (.int .u32 0) 4 Tryd.underlying22 rfl infoU w.heap.size _ a.length (flatK encU a) rfl O2.out _ b rfl (H1.out.below B2.out) (by unfold maxLen; omega) (by omega) B2.out.size ?_
       intro v4 W4 o4 g4 n4
       have O4 : Hid (OwnU w.heap.size W4 v4 (a ++ b)) := Lib.hid (by show W4.ownsRow _ _ _ _ (a ++ b).length _; rw [List.length_append]; simpa [flatK, List.flatMap_append] using o4)
       have B4 : Hid (Below w.heap.size w W4) := Lib.hid (B2.out.grown g4 B2.out.size (fun j hj => (O2.out.lt j hj).1))
       clear o4 g4 n4))
  go_at_call 10
  (with_reducible refine (C2.out v4 W4 O4.out).mono ?_)
  rintro e W5 ⟨v5, r, rfl, hO5, hf, hl, hb5⟩
  have O5 := Lib.hid (own_lower hO5 B4.out.size)
  have B5 : Hid (Below w.heap.size w W5) := Lib.hid (Below.step B4.out hb5)
  have F5 := Lib.hid hf
  have L5 := Lib.hid hl
  clear hO5 hb5 hf hl
  go_wp2
  go_ret
  exact ⟨_, r, rfl, O5.out, F5.out, L5.out, B5.out⟩
end Go.Proofs.YtkkhmdiffddllaaDoor
