/- What compares lists of numbers and adverts, field by field. Under the conditions that they name. -/
import Derived.Test.YtmbkkjofikijiaaGreatDoorRsH
import Derived.Test.YtmbkkjofikijiaaGreatDoorFlW
import Derived.Test.YtmbkkjofikijiaaGreatDoorRsG
namespace Go.Proofs.YtmbkkjofikijiaaGreatDoor
open Go.RowKit
/-- An advert: its lists as they read, and as values. -/
structure AdD where
  a : Int
  b : Int
  ho : Int
  pf : Int
  me : Int
  pa : List Int
  vpa : Value
  co : List Int
  vco : Value
  pe : Int
  pi : Int
  ex : Bool
  og : Int
  cl : List Int
  vcl : Value
  se : Int
def encAd (r : AdD) : List Value := [.int .u32 r.a, .int .i64 r.b, .int .u32 r.ho, .int .i64 r.pf, .int .i64 r.me, r.vpa, r.vco, .int .u32 r.pe, .int .u32 r.pi, .bool r.ex, .int .u32 r.og, r.vcl, .int .i64 r.se]
def encU (x : Int) : List Value := [.int .u32 x]
/-- Its lists read. -/
def RdA (w : World) (r : AdD) : Prop := RdK encU 1 w r.vpa r.pa ∧ RdK encU 1 w r.vco r.co ∧ RdK encU 1 w r.vcl r.cl
theorem RdA.on {w w' : World} {r : AdD} (h : RdA w r) (hb : Below w.heap.size w w') : RdA w' r := ⟨h.1.below hb, h.2.1.below hb, h.2.2.below hb⟩
/-- The order of lists of numbers: by their first unlike ones, a beginning ahead of what goes on. -/
def cN : List Int → List Int → Int
  | [], [] => 0
  | [], _ :: _ => -1
  | _ :: _, [] => 1
  | x :: xs, y :: ys => if cI x y = 0 then cN xs ys else cI x y
theorem cN_drop {l m : List Int} {k : Nat} {x y : Int} (hx : l[k]? = some x) (hy : m[k]? = some y) : cN (l.drop k) (m.drop k) = if cI x y = 0 then cN (l.drop (k + 1)) (m.drop (k + 1)) else cI x y := by
  have h1 := (List.getElem?_eq_some_iff.1 hx).1
  have h2 := (List.getElem?_eq_some_iff.1 hy).1
  have e1 : l[k] = x := by rw [List.getElem?_eq_getElem h1] at hx; simpa using hx
  have e2 : m[k] = y := by rw [List.getElem?_eq_getElem h2] at hy; simpa using hy
  rw [List.drop_eq_getElem_cons h1, List.drop_eq_getElem_cons h2, e1, e2]
  rfl
theorem cN_end {l m : List Int} {k : Nat} (h1 : k ≤ l.length) (h2 : k ≤ m.length) (h : k = l.length ∨ k = m.length) : cN (l.drop k) (m.drop k) = cI l.length m.length := by
  rcases Nat.lt_trichotomy l.length m.length with hlt | he | hgt
  · have e : k = l.length := by omega
    subst e
    rw [List.drop_of_length_le (Nat.le_refl _)]
    have : m.drop l.length ≠ [] := by intro h0; have := congrArg List.length h0; simp at this; omega
    obtain ⟨y, ys, e2⟩ := List.exists_cons_of_ne_nil this
    rw [e2]
    simp only [cN, cI]
    rw [if_pos (by omega)]
  · have e : k = l.length := by omega
    subst e
    rw [List.drop_of_length_le (Nat.le_refl _), List.drop_of_length_le (by omega)]
    simp only [cN, cI]
    rw [if_neg (by omega), if_neg (by omega)]
  · have e : k = m.length := by omega
    subst e
    rw [List.drop_of_length_le (Nat.le_refl m.length)]
    have : l.drop m.length ≠ [] := by intro h0; have := congrArg List.length h0; simp at this; omega
    obtain ⟨y, ys, e2⟩ := List.exists_cons_of_ne_nil this
    rw [e2]
    simp only [cN, cI]
    rw [if_neg (by omega), if_pos (by omega)]
theorem nanu (x : Int) (w : World) : Calls Tryz.prog 176 #[.int .u32 x] w fun e w' => e = .returned (.bool false) ∧ w = w' := by
  go_enter Tryz.func176, Tryz.ntmps176
  go_wp2
  go_ret
  exact ⟨ret_bool (by simp), rfl⟩
set_option maxHeartbeats 400000 in
theorem cmpu (x y : Int) (w : World) : Calls Tryz.prog 135 #[.int .u32 x, .int .u32 y] w fun e w' => e = .returned (.int .i64 (cI x y)) ∧ w = w' := by
  by_cases h1 : x < y
  · go_enter Tryz.func135, Tryz.ntmps135
    go_wp2_with (go_at_call 176; refine (nanu _ _).mono ?_; rintro e w' ⟨rfl, rfl⟩)
    go_ret
    exact ⟨ret_int (by simp [cI, h1]), rfl⟩
  · by_cases h2 : y < x
    · go_enter Tryz.func135, Tryz.ntmps135
      go_wp2_with (go_at_call 176; refine (nanu _ _).mono ?_; rintro e w' ⟨rfl, rfl⟩)
      go_ret
      exact ⟨ret_int (by simp [cI, h1, h2]), rfl⟩
    · go_enter Tryz.func135, Tryz.ntmps135
      go_wp2_with (go_at_call 176; refine (nanu _ _).mono ?_; rintro e w' ⟨rfl, rfl⟩)
      go_ret
      exact ⟨ret_int (by unfold cI; rw [if_neg (by omega), if_neg (by omega)]), rfl⟩
/-- What a comparison that reads leaves. -/
def CpP (w : World) (v : Int) (e : Ending) (w' : World) : Prop := e = .returned (.int .i64 v) ∧ Below w.heap.size w w' ∧ w.drawn ≤ w'.drawn
set_option maxHeartbeats 4000000 in
set_option maxRecDepth 100000 in
theorem nums32 (v1 v2 : Value) (l m : List Int) (w : World) (h1 : RdK encU 1 w v1 l) (h2 : RdK encU 1 w v2 m) : Calls Tryz.prog 94 #[v1, v2] w (CpP w (cN l m)) := by
  obtain ⟨p1, c1, rfl, hc1, hm1, hx1⟩ := h1.sl
  obtain ⟨p2, c2, rfl, hc2, hm2, hx2⟩ := h2.sl
  have H1 := Lib.hid hx1
  have H2 := Lib.hid hx2
  have k1 : l.length ≤ maxLen := by omega
  have k2 : m.length ≤ maxLen := by omega
  unfold maxLen at k1 k2
  clear hx1 hx2 h1 h2 hc1 hc2 hm1 hm2
  by_cases hlm : l.length ≤ m.length
  · go_enter Tryz.func94, Tryz.ntmps94
    go_wp2_with fail
    go_loopw [12] (fun si wr => ∃ i : Nat, i ≤ l.length ∧ i ≤ m.length ∧ si = .int .i64 i ∧ Hid (Below w.heap.size w wr ∧ w.drawn ≤ wr.drawn ∧ cN (l.drop i) (m.drop i) = cN l m)) (fun si _ => l.length - (intOf si).toNat)
    case atStart => exact ⟨0, Nat.zero_le _, Nat.zero_le _, rfl, Lib.hid ⟨Below.refl _ _, Nat.le_refl _, rfl⟩⟩
    case round =>
      obtain ⟨i, hi1, hi2, rfl, HI⟩ := hrel
      by_cases hlt : i < l.length ∧ i < m.length
      · have g1 : (i : Int) < (l.length : Int) := by omega
        have g2 : (i : Int) < (m.length : Int) := by omega
        have g3 : i < l.length := by omega
        have g0 : (0 : Int) ≤ (i : Int) := by omega
        obtain ⟨x, hx⟩ : ∃ x, l[i]? = some x := ⟨_, List.getElem?_eq_getElem hlt.1⟩
        obtain ⟨y, hy⟩ : ∃ y, m[i]? = some y := ⟨_, List.getElem?_eq_getElem hlt.2⟩
        obtain ⟨b0, o0, rfl, hb0, hcx⟩ := H1.out i x hx
        obtain ⟨b1, o1, rfl, hb1, hcy⟩ := H2.out i y hy
        have cx : wr.cell? ⟨b0, o0 + i, none⟩ = some (.int .u32 x) := by have := hcx wr HI.out.1 0 _ rfl; simpa only [Nat.add_zero, Nat.mul_one] using this
        have cy : wr.cell? ⟨b1, o1 + i, none⟩ = some (.int .u32 y) := by have := hcy wr HI.out.1 0 _ rfl; simpa only [Nat.add_zero, Nat.mul_one] using this
        have HD := Lib.hid (cN_drop hx hy)
        have HC := Lib.hid fun W => cmpu x y W
        obtain ⟨d, hd⟩ : ∃ d, cI x y = d := ⟨_, rfl⟩
        rw [hd] at HD HC
        clear hd hcx hcy hx hy hlt
        go_wp2_with fail
        go_quiet ((go_at_call 135; exact Calls.quiet_of_same ((HC.out _).mono (fun _ _ h => ⟨h.1, h.2.symm⟩))))
        have HB : Hid (Below w.heap.size w (wr.drewN nq) ∧ w.drawn ≤ (wr.drewN nq).drawn) := Lib.hid ⟨Below.draws HI.out.1 _, Nat.le_trans HI.out.2.1 (Nat.le_add_right _ _)⟩
        by_cases h0 : d = 0
        · subst h0
          have HN : Hid (cN (l.drop (i + 1)) (m.drop (i + 1)) = cN l m) := Lib.hid (by have := HD.out; rw [if_pos rfl] at this; rw [← this]; exact HI.out.2.2)
          go_wp2_with fail
          go_roundw
          case rel => exact ⟨i + 1, by omega, by omega, by go_num, Lib.hid ⟨HB.out.1, HB.out.2, HN.out⟩⟩
          case measure => first | (simp [intOf]; done) | (simp [intOf]; omega)
        · have e1 : (d != 0) = true := by simpa using h0
          have e2 : (d == 0) = false := by simpa using h0
          have HN : Hid (d = cN l m) := Lib.hid (by have := HD.out; rw [if_neg h0] at this; rw [← this]; exact HI.out.2.2)
          go_wp2_with fail
          go_ret
          exact ⟨ret_int HN.out, HB.out.1, HB.out.2⟩
      · have g3 : ¬ (i : Int) < (l.length : Int) := by omega
        have HN : Hid (cI (l.length : Int) (m.length : Int) = cN l m) := Lib.hid (by rw [← HI.out.2.2]; exact (cN_end hi1 hi2 (by omega)).symm)
        have HC := Lib.hid fun W => cmpi (l.length : Int) (m.length : Int) W
        rw [HN.out] at HC
        clear hlt
        go_wp2_with (go_at_call 83; refine (HC.out _).mono ?_; rintro e w' ⟨rfl, rfl⟩)
        go_ret
        exact ⟨rfl, HI.out.1, HI.out.2.1⟩
  · go_enter Tryz.func94, Tryz.ntmps94
    go_wp2_with fail
    go_loopw [12] (fun si wr => ∃ i : Nat, i ≤ l.length ∧ i ≤ m.length ∧ si = .int .i64 i ∧ Hid (Below w.heap.size w wr ∧ w.drawn ≤ wr.drawn ∧ cN (l.drop i) (m.drop i) = cN l m)) (fun si _ => l.length - (intOf si).toNat)
    case atStart => exact ⟨0, Nat.zero_le _, Nat.zero_le _, rfl, Lib.hid ⟨Below.refl _ _, Nat.le_refl _, rfl⟩⟩
    case round =>
      obtain ⟨i, hi1, hi2, rfl, HI⟩ := hrel
      by_cases hlt : i < l.length ∧ i < m.length
      · have g1 : (i : Int) < (l.length : Int) := by omega
        have g2 : (i : Int) < (m.length : Int) := by omega
        have g3 : i < l.length := by omega
        have g0 : (0 : Int) ≤ (i : Int) := by omega
        obtain ⟨x, hx⟩ : ∃ x, l[i]? = some x := ⟨_, List.getElem?_eq_getElem hlt.1⟩
        obtain ⟨y, hy⟩ : ∃ y, m[i]? = some y := ⟨_, List.getElem?_eq_getElem hlt.2⟩
        obtain ⟨b0, o0, rfl, hb0, hcx⟩ := H1.out i x hx
        obtain ⟨b1, o1, rfl, hb1, hcy⟩ := H2.out i y hy
        have cx : wr.cell? ⟨b0, o0 + i, none⟩ = some (.int .u32 x) := by have := hcx wr HI.out.1 0 _ rfl; simpa only [Nat.add_zero, Nat.mul_one] using this
        have cy : wr.cell? ⟨b1, o1 + i, none⟩ = some (.int .u32 y) := by have := hcy wr HI.out.1 0 _ rfl; simpa only [Nat.add_zero, Nat.mul_one] using this
        have HD := Lib.hid (cN_drop hx hy)
        have HC := Lib.hid fun W => cmpu x y W
        obtain ⟨d, hd⟩ : ∃ d, cI x y = d := ⟨_, rfl⟩
        rw [hd] at HD HC
        clear hd hcx hcy hx hy hlt
        go_wp2_with fail
        go_quiet ((go_at_call 135; exact Calls.quiet_of_same ((HC.out _).mono (fun _ _ h => ⟨h.1, h.2.symm⟩))))
        have HB : Hid (Below w.heap.size w (wr.drewN nq) ∧ w.drawn ≤ (wr.drewN nq).drawn) := Lib.hid ⟨Below.draws HI.out.1 _, Nat.le_trans HI.out.2.1 (Nat.le_add_right _ _)⟩
        by_cases h0 : d = 0
        · subst h0
          have HN : Hid (cN (l.drop (i + 1)) (m.drop (i + 1)) = cN l m) := Lib.hid (by have := HD.out; rw [if_pos rfl] at this; rw [← this]; exact HI.out.2.2)
          go_wp2_with fail
          go_roundw
          case rel => exact ⟨i + 1, by omega, by omega, by go_num, Lib.hid ⟨HB.out.1, HB.out.2, HN.out⟩⟩
          case measure => first | (simp [intOf]; done) | (simp [intOf]; omega)
        · have e1 : (d != 0) = true := by simpa using h0
          have e2 : (d == 0) = false := by simpa using h0
          have HN : Hid (d = cN l m) := Lib.hid (by have := HD.out; rw [if_neg h0] at this; rw [← this]; exact HI.out.2.2)
          go_wp2_with fail
          go_ret
          exact ⟨ret_int HN.out, HB.out.1, HB.out.2⟩
      · have g3 : ¬ (i : Int) < (m.length : Int) := by omega
        have HN : Hid (cI (l.length : Int) (m.length : Int) = cN l m) := Lib.hid (by rw [← HI.out.2.2]; exact (cN_end hi1 hi2 (by omega)).symm)
        have HC := Lib.hid fun W => cmpi (l.length : Int) (m.length : Int) W
        rw [HN.out] at HC
        clear hlt
        go_wp2_with (go_at_call 83; refine (HC.out _).mono ?_; rintro e w' ⟨rfl, rfl⟩)
        go_ret
        exact ⟨rfl, HI.out.1, HI.out.2.1⟩
set_option maxHeartbeats 4000000 in
set_option maxRecDepth 100000 in
theorem numsA (v1 v2 : Value) (l m : List Int) (w : World) (h1 : RdK encU 1 w v1 l) (h2 : RdK encU 1 w v2 m) : Calls Tryz.prog 97 #[v1, v2] w (CpP w (cN l m)) := by
  obtain ⟨p1, c1, rfl, hc1, hm1, hx1⟩ := h1.sl
  obtain ⟨p2, c2, rfl, hc2, hm2, hx2⟩ := h2.sl
  have H1 := Lib.hid hx1
  have H2 := Lib.hid hx2
  have k1 : l.length ≤ maxLen := by omega
  have k2 : m.length ≤ maxLen := by omega
  unfold maxLen at k1 k2
  clear hx1 hx2 h1 h2 hc1 hc2 hm1 hm2
  by_cases hlm : l.length ≤ m.length
  · go_enter Tryz.func97, Tryz.ntmps97
    go_wp2_with fail
    go_loopw [12] (fun si wr => ∃ i : Nat, i ≤ l.length ∧ i ≤ m.length ∧ si = .int .i64 i ∧ Hid (Below w.heap.size w wr ∧ w.drawn ≤ wr.drawn ∧ cN (l.drop i) (m.drop i) = cN l m)) (fun si _ => l.length - (intOf si).toNat)
    case atStart => exact ⟨0, Nat.zero_le _, Nat.zero_le _, rfl, Lib.hid ⟨Below.refl _ _, Nat.le_refl _, rfl⟩⟩
    case round =>
      obtain ⟨i, hi1, hi2, rfl, HI⟩ := hrel
      by_cases hlt : i < l.length ∧ i < m.length
      · have g1 : (i : Int) < (l.length : Int) := by omega
        have g2 : (i : Int) < (m.length : Int) := by omega
        have g3 : i < l.length := by omega
        have g0 : (0 : Int) ≤ (i : Int) := by omega
        obtain ⟨x, hx⟩ : ∃ x, l[i]? = some x := ⟨_, List.getElem?_eq_getElem hlt.1⟩
        obtain ⟨y, hy⟩ : ∃ y, m[i]? = some y := ⟨_, List.getElem?_eq_getElem hlt.2⟩
        obtain ⟨b0, o0, rfl, hb0, hcx⟩ := H1.out i x hx
        obtain ⟨b1, o1, rfl, hb1, hcy⟩ := H2.out i y hy
        have cx : wr.cell? ⟨b0, o0 + i, none⟩ = some (.int .u32 x) := by have := hcx wr HI.out.1 0 _ rfl; simpa only [Nat.add_zero, Nat.mul_one] using this
        have cy : wr.cell? ⟨b1, o1 + i, none⟩ = some (.int .u32 y) := by have := hcy wr HI.out.1 0 _ rfl; simpa only [Nat.add_zero, Nat.mul_one] using this
        have HD := Lib.hid (cN_drop hx hy)
        have HC := Lib.hid fun W => cmpa x y W
        obtain ⟨d, hd⟩ : ∃ d, cI x y = d := ⟨_, rfl⟩
        rw [hd] at HD HC
        clear hd hcx hcy hx hy hlt
        go_wp2_with fail
        go_quiet ((go_at_call 87; exact Calls.quiet_of_same ((HC.out _).mono (fun _ _ h => ⟨h.1, h.2.symm⟩))))
        have HB : Hid (Below w.heap.size w (wr.drewN nq) ∧ w.drawn ≤ (wr.drewN nq).drawn) := Lib.hid ⟨Below.draws HI.out.1 _, Nat.le_trans HI.out.2.1 (Nat.le_add_right _ _)⟩
        by_cases h0 : d = 0
        · subst h0
          have HN : Hid (cN (l.drop (i + 1)) (m.drop (i + 1)) = cN l m) := Lib.hid (by have := HD.out; rw [if_pos rfl] at this; rw [← this]; exact HI.out.2.2)
          go_wp2_with fail
          go_roundw
          case rel => exact ⟨i + 1, by omega, by omega, by go_num, Lib.hid ⟨HB.out.1, HB.out.2, HN.out⟩⟩
          case measure => first | (simp [intOf]; done) | (simp [intOf]; omega)
        · have e1 : (d != 0) = true := by simpa using h0
          have e2 : (d == 0) = false := by simpa using h0
          have HN : Hid (d = cN l m) := Lib.hid (by have := HD.out; rw [if_neg h0] at this; rw [← this]; exact HI.out.2.2)
          go_wp2_with fail
          go_ret
          exact ⟨ret_int HN.out, HB.out.1, HB.out.2⟩
      · have g3 : ¬ (i : Int) < (l.length : Int) := by omega
        have HN : Hid (cI (l.length : Int) (m.length : Int) = cN l m) := Lib.hid (by rw [← HI.out.2.2]; exact (cN_end hi1 hi2 (by omega)).symm)
        have HC := Lib.hid fun W => cmpi (l.length : Int) (m.length : Int) W
        rw [HN.out] at HC
        clear hlt
        go_wp2_with (go_at_call 83; refine (HC.out _).mono ?_; rintro e w' ⟨rfl, rfl⟩)
        go_ret
        exact ⟨rfl, HI.out.1, HI.out.2.1⟩
  · go_enter Tryz.func97, Tryz.ntmps97
    go_wp2_with fail
    go_loopw [12] (fun si wr => ∃ i : Nat, i ≤ l.length ∧ i ≤ m.length ∧ si = .int .i64 i ∧ Hid (Below w.heap.size w wr ∧ w.drawn ≤ wr.drawn ∧ cN (l.drop i) (m.drop i) = cN l m)) (fun si _ => l.length - (intOf si).toNat)
    case atStart => exact ⟨0, Nat.zero_le _, Nat.zero_le _, rfl, Lib.hid ⟨Below.refl _ _, Nat.le_refl _, rfl⟩⟩
    case round =>
      obtain ⟨i, hi1, hi2, rfl, HI⟩ := hrel
      by_cases hlt : i < l.length ∧ i < m.length
      · have g1 : (i : Int) < (l.length : Int) := by omega
        have g2 : (i : Int) < (m.length : Int) := by omega
        have g3 : i < l.length := by omega
        have g0 : (0 : Int) ≤ (i : Int) := by omega
        obtain ⟨x, hx⟩ : ∃ x, l[i]? = some x := ⟨_, List.getElem?_eq_getElem hlt.1⟩
        obtain ⟨y, hy⟩ : ∃ y, m[i]? = some y := ⟨_, List.getElem?_eq_getElem hlt.2⟩
        obtain ⟨b0, o0, rfl, hb0, hcx⟩ := H1.out i x hx
        obtain ⟨b1, o1, rfl, hb1, hcy⟩ := H2.out i y hy
        have cx : wr.cell? ⟨b0, o0 + i, none⟩ = some (.int .u32 x) := by have := hcx wr HI.out.1 0 _ rfl; simpa only [Nat.add_zero, Nat.mul_one] using this
        have cy : wr.cell? ⟨b1, o1 + i, none⟩ = some (.int .u32 y) := by have := hcy wr HI.out.1 0 _ rfl; simpa only [Nat.add_zero, Nat.mul_one] using this
        have HD := Lib.hid (cN_drop hx hy)
        have HC := Lib.hid fun W => cmpa x y W
        obtain ⟨d, hd⟩ : ∃ d, cI x y = d := ⟨_, rfl⟩
        rw [hd] at HD HC
        clear hd hcx hcy hx hy hlt
        go_wp2_with fail
        go_quiet ((go_at_call 87; exact Calls.quiet_of_same ((HC.out _).mono (fun _ _ h => ⟨h.1, h.2.symm⟩))))
        have HB : Hid (Below w.heap.size w (wr.drewN nq) ∧ w.drawn ≤ (wr.drewN nq).drawn) := Lib.hid ⟨Below.draws HI.out.1 _, Nat.le_trans HI.out.2.1 (Nat.le_add_right _ _)⟩
        by_cases h0 : d = 0
        · subst h0
          have HN : Hid (cN (l.drop (i + 1)) (m.drop (i + 1)) = cN l m) := Lib.hid (by have := HD.out; rw [if_pos rfl] at this; rw [← this]; exact HI.out.2.2)
          go_wp2_with fail
          go_roundw
          case rel => exact ⟨i + 1, by omega, by omega, by go_num, Lib.hid ⟨HB.out.1, HB.out.2, HN.out⟩⟩
          case measure => first | (simp [intOf]; done) | (simp [intOf]; omega)
        · have e1 : (d != 0) = true := by simpa using h0
          have e2 : (d == 0) = false := by simpa using h0
          have HN : Hid (d = cN l m) := Lib.hid (by have := HD.out; rw [if_neg h0] at this; rw [← this]; exact HI.out.2.2)
          go_wp2_with fail
          go_ret
          exact ⟨ret_int HN.out, HB.out.1, HB.out.2⟩
      · have g3 : ¬ (i : Int) < (m.length : Int) := by omega
        have HN : Hid (cI (l.length : Int) (m.length : Int) = cN l m) := Lib.hid (by rw [← HI.out.2.2]; exact (cN_end hi1 hi2 (by omega)).symm)
        have HC := Lib.hid fun W => cmpi (l.length : Int) (m.length : Int) W
        rw [HN.out] at HC
        clear hlt
        go_wp2_with (go_at_call 83; refine (HC.out _).mono ?_; rintro e w' ⟨rfl, rfl⟩)
        go_ret
        exact ⟨rfl, HI.out.1, HI.out.2.1⟩
end Go.Proofs.YtmbkkjofikijiaaGreatDoor
