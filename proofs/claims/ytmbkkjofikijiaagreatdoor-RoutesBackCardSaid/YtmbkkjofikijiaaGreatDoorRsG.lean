/- The order of routes is an order. No condition; nothing here is walked. -/
import Derived.Test.YtmbkkjofikijiaaGreatDoorRsB
namespace Go.Proofs.YtmbkkjofikijiaaGreatDoor
open Go.RowKit
/-- What compares two things is an order: turned about it is the other way round; what is not above leads on. -/
structure Tot {α : Type} (c : α → α → Int) : Prop where
  anti : ∀ x y, c y x = - c x y
  trans : ∀ x y z, c x y ≤ 0 → c y z ≤ 0 → c x z ≤ 0
theorem Tot.self {α : Type} {c : α → α → Int} (h : Tot c) (x : α) : c x x = 0 := by have := h.anti x x; omega
theorem Tot.lt {α : Type} {c : α → α → Int} (h : Tot c) {x y z : α} (h1 : c x y < 0) (h2 : c y z ≤ 0) : c x z < 0 := by
  have h3 := h.trans x y z (by omega) h2
  rcases Int.lt_or_eq_of_le h3 with h4 | h4
  · exact h4
  · have h5 := h.anti x z
    have h6 := h.trans y z x h2 (by omega)
    have h7 := h.anti x y
    omega
theorem Tot.lt' {α : Type} {c : α → α → Int} (h : Tot c) {x y z : α} (h1 : c x y ≤ 0) (h2 : c y z < 0) : c x z < 0 := by
  have h3 := h.trans x y z h1 (by omega)
  rcases Int.lt_or_eq_of_le h3 with h4 | h4
  · exact h4
  · have h5 := h.anti x z
    have h6 := h.trans z x y (by omega) h1
    have h7 := h.anti y z
    omega
theorem Tot.lex {α : Type} {c d : α → α → Int} (h : Tot c) (k : Tot d) : Tot fun x y => if c x y = 0 then d x y else c x y where
  anti x y := by
    have h1 := h.anti x y
    have k1 := k.anti x y
    show (if c y x = 0 then d y x else c y x) = -(if c x y = 0 then d x y else c x y)
    split <;> split <;> omega
  trans x y z h1 h2 := by
    show (if c x z = 0 then d x z else c x z) ≤ 0
    replace h1 : (if c x y = 0 then d x y else c x y) ≤ 0 := h1
    replace h2 : (if c y z = 0 then d y z else c y z) ≤ 0 := h2
    by_cases e1 : c x y = 0
    · rw [if_pos e1] at h1
      by_cases e2 : c y z = 0
      · rw [if_pos e2] at h2
        have a1 := h.trans x y z (by omega) (by omega)
        have b1 := h.anti x y
        have b2 := h.anti y z
        have b3 := h.anti x z
        have a2 := h.trans z y x (by omega) (by omega)
        rw [if_pos (by omega)]
        exact k.trans x y z h1 h2
      · rw [if_neg e2] at h2
        have := h.lt' (x := x) (y := y) (z := z) (by omega) (by omega)
        rw [if_neg (by omega)]; omega
    · rw [if_neg e1] at h1
      have h3 : c y z ≤ 0 := by split at h2 <;> omega
      have := h.lt (x := x) (y := y) (z := z) (by omega) h3
      rw [if_neg (by omega)]; omega
theorem Tot.on {α β : Type} {c : α → α → Int} (h : Tot c) (f : β → α) : Tot fun x y => c (f x) (f y) := ⟨fun x y => h.anti _ _, fun x y z => h.trans _ _ _⟩
theorem tot_cI : Tot cI where
  anti x y := by unfold cI; split <;> split <;> (try split) <;> omega
  trans x y z := by unfold cI; split <;> split <;> (try split) <;> (try split) <;> (try split) <;> (try split) <;> omega
theorem bl_self : ∀ x : List UInt8, Op.bytesLess x x = false
  | [] => rfl
  | a :: x => by simp [Op.bytesLess, bl_self x]
theorem bl_trans : ∀ x y z : List UInt8, Op.bytesLess x y = true → Op.bytesLess y z = true → Op.bytesLess x z = true
  | _, [], _, h, _ => by cases ‹List UInt8› <;> simp [Op.bytesLess] at h
  | _, _ :: _, [], _, h => by simp [Op.bytesLess] at h
  | [], _ :: _, _ :: _, _, _ => rfl
  | a :: x, b :: y, c :: z, h, k => by
    simp only [Op.bytesLess, Bool.or_eq_true, Bool.and_eq_true, decide_eq_true_eq, beq_iff_eq] at h k ⊢
    rcases h with h | ⟨rfl, h⟩
    · rcases k with k | ⟨rfl, k⟩
      · exact .inl (UInt8.lt_trans h k)
      · exact .inl h
    · rcases k with k | ⟨rfl, k⟩
      · exact .inl k
      · exact .inr ⟨rfl, bl_trans x y z h k⟩
theorem bl_one : ∀ x y : List UInt8, Op.bytesLess x y = false → Op.bytesLess y x = false → x = y
  | [], [], _, _ => rfl
  | [], _ :: _, h, _ => by simp [Op.bytesLess] at h
  | _ :: _, [], _, h => by simp [Op.bytesLess] at h
  | a :: x, b :: y, h, k => by
    simp only [Op.bytesLess, Bool.or_eq_false_iff, Bool.and_eq_false_iff, decide_eq_false_iff_not, beq_eq_false_iff_ne] at h k
    have e : a = b := by
      have h1 := h.1; have k1 := k.1
      rw [UInt8.not_lt] at h1 k1
      exact UInt8.le_antisymm k1 h1
    subst e
    rw [bl_one x y (h.2.resolve_left (by simp)) (k.2.resolve_left (by simp))]
theorem cS_neg {x y : ByteArray} (h : cS x y < 0) : Op.bytesLess x.toList y.toList = true := by
  unfold cS at h
  split at h
  · assumption
  · split at h <;> omega
theorem bl_no {x y : List UInt8} (h : Op.bytesLess x y = true) : Op.bytesLess y x = false := by
  cases k : Op.bytesLess y x with
  | false => rfl
  | true => have := bl_trans x y x h k; rw [bl_self] at this; cases this
theorem cS_three (x y : ByteArray) : (cS x y = -1 ∧ Op.bytesLess x.toList y.toList = true) ∨ (cS x y = 0 ∧ x.toList = y.toList) ∨ (cS x y = 1 ∧ Op.bytesLess y.toList x.toList = true) := by
  unfold cS
  cases h : Op.bytesLess x.toList y.toList with
  | true => exact .inl ⟨rfl, rfl⟩
  | false =>
    by_cases e : x.toList = y.toList
    · exact .inr (.inl ⟨by simp [e], e⟩)
    · refine .inr (.inr ⟨by simp [e], ?_⟩)
      cases k : Op.bytesLess y.toList x.toList with
      | true => rfl
      | false => exact absurd (bl_one _ _ h k) e
theorem tot_cS : Tot cS where
  anti x y := by
    rcases cS_three x y with ⟨h, a⟩ | ⟨h, a⟩ | ⟨h, a⟩ <;> rcases cS_three y x with ⟨k, b⟩ | ⟨k, b⟩ | ⟨k, b⟩ <;> first | omega | skip
    · rw [bl_no a] at b; cases b
    · rw [b, bl_self] at a; cases a
    · rw [a, bl_self] at b; cases b
    · rw [a, bl_self] at b; cases b
    · rw [b, bl_self] at a; cases a
    · rw [bl_no a] at b; cases b
  trans x y z h1 h2 := by
    rcases cS_three x z with ⟨h, a⟩ | ⟨h, a⟩ | ⟨h, a⟩
    · omega
    · omega
    · rcases cS_three x y with ⟨k, b⟩ | ⟨k, b⟩ | ⟨k, b⟩
      · rcases cS_three y z with ⟨l, c⟩ | ⟨l, c⟩ | ⟨l, c⟩
        · have := bl_no (bl_trans _ _ _ b c); rw [a] at this; cases this
        · rw [← c, bl_no b] at a; cases a
        · omega
      · rw [b] at a
        rcases cS_three y z with ⟨l, c⟩ | ⟨l, c⟩ | ⟨l, c⟩
        · rw [bl_no c] at a; cases a
        · rw [c, bl_self] at a; cases a
        · omega
      · omega
theorem cS_one {x y : ByteArray} (h : cS x y = 0) : x = y := by
  rcases cS_three x y with ⟨k, _⟩ | ⟨_, a⟩ | ⟨k, _⟩
  · omega
  · have : x.data.toList = y.data.toList := by simpa [ByteArray.toList_eq] using a
    exact ByteArray.ext (Array.ext' this)
  · omega
theorem tot_cB : Tot cB where
  anti := by decide
  trans := by decide
theorem tot_cP : Tot fun (x y : Int × Int) => cP x.1 x.2 y.1 y.2 := (tot_cI.on (fun x : Int × Int => x.1)).lex (tot_cI.on (fun x : Int × Int => x.2))
theorem tot_0 {α : Type} : Tot fun (_ _ : α) => (0 : Int) := ⟨fun _ _ => rfl, fun _ _ _ _ _ => by omega⟩
theorem tot_cR : Tot cR := by
  have h := (tot_cP.on fun r : RtD => (r.a, r.b)).lex ((tot_cI.on fun r : RtD => r.fr).lex ((tot_cI.on fun r : RtD => r.di).lex ((tot_cI.on fun r : RtD => r.me).lex ((tot_cI.on fun r : RtD => r.ta).lex ((tot_cI.on fun r : RtD => r.ho).lex ((tot_cS.on fun r : RtD => r.nm).lex ((tot_cB.on fun r : RtD => r.dc).lex tot_0)))))))
  exact h
theorem cI_one {x y : Int} (h : cI x y = 0) : x = y := by unfold cI at h; split at h <;> (try split at h) <;> omega
theorem cB_one {x y : Bool} (h : cB x y = 0) : x = y := by cases x <;> cases y <;> simp [cB] at h ⊢
theorem cR_one {r s : RtD} (h : cR r s = 0) : r = s := by
  obtain ⟨a, b, fr, di, me, ta, nm, ho, dc⟩ := r
  obtain ⟨a2, b2, fr2, di2, me2, ta2, nm2, ho2, dc2⟩ := s
  simp only [cR, ords, fst0, cP] at h
  repeat' split at h
  all_goals first | contradiction | skip
  rename_i p0 p1 p2 p3 p4 p5 p6 p7 p8
  rw [cI_one p0, cI_one p1, cI_one p2, cI_one p3, cI_one p4, cI_one p5, cI_one p6, cS_one p7, cB_one p8]
theorem cR_self (r : RtD) : cR r r = 0 := tot_cR.self r
end Go.Proofs.YtmbkkjofikijiaaGreatDoor
