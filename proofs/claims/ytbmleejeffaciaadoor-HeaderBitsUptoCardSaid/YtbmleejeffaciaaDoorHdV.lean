/- Plain facts on rows of bytes as numbers: which comes first, one bit set, the next one. No condition but those named. -/
import Derived.Test.YtbmleejeffaciaaDoorHdW0
import Derived.Test.YtbmleejeffaciaaDoorHdN
import Derived.Lib.Bytealg
import Derived.Lib.Bytes
namespace Go.Proofs.YtbmleejeffaciaaDoor
/-- Bytes as one number. -/
def V : List Int → Nat
  | [] => 0
  | x :: r => x.toNat * 256 ^ r.length + V r
/-- Each is a byte. -/
def Byt (l : List Int) : Prop := ∀ x ∈ l, 0 ≤ x ∧ x < 256
theorem B13.byt {l : List Int} (h : B13 l) : Byt l := fun x hx => ⟨h.lo x hx, h.hi x hx⟩
theorem V_lt : ∀ {l : List Int}, Byt l → V l < 256 ^ l.length
  | [], _ => by simp [V]
  | x :: r, h => by
    have ih := V_lt (l := r) fun y hy => h y (List.mem_cons_of_mem _ hy)
    have hx := h x List.mem_cons_self
    have hx2 : x.toNat + 1 ≤ 256 := by omega
    have hm := Nat.mul_le_mul_right (256 ^ r.length) hx2
    rw [Nat.add_mul, Nat.one_mul] at hm
    simp only [V, List.length_cons, Nat.pow_succ]
    omega
theorem V_append : ∀ (a b : List Int), V (a ++ b) = V a * 256 ^ b.length + V b
  | [], b => by simp [V]
  | x :: r, b => by
    simp only [List.cons_append, V, V_append r b, List.length_append, Nat.pow_add, Nat.add_mul, Nat.mul_assoc]
    omega
theorem V_zeros : ∀ k : Nat, V (List.replicate k 0) = 0
  | 0 => rfl
  | k + 1 => by simp [List.replicate_succ, V, V_zeros k]
theorem V_fulls : ∀ k : Nat, V (List.replicate k 255) + 1 = 256 ^ k
  | 0 => rfl
  | k + 1 => by
    have ih := V_fulls k
    simp only [List.replicate_succ, V, List.length_replicate, Nat.pow_succ]
    have : (255 : Int).toNat = 255 := rfl
    rw [this]
    omega
/-- Which of two rows of bytes comes first. -/
def cmpV (a b : List Int) : Int := Lib.compareBytes (Lib.bytesOf a) (Lib.bytesOf b)
theorem byte_lt {x y : Int} (hx : 0 ≤ x ∧ x < 256) (hy : 0 ≤ y ∧ y < 256) : (UInt8.ofNat x.toNat < UInt8.ofNat y.toNat) ↔ x < y := by
  rw [UInt8.lt_iff_toNat_lt, UInt8.toNat_ofNat', UInt8.toNat_ofNat']
  omega
theorem cmpV_V : ∀ {a b : List Int}, a.length = b.length → Byt a → Byt b → cmpV a b = if V a < V b then -1 else if V b < V a then 1 else 0
  | [], [], _, _, _ => by simp [cmpV, Lib.bytesOf, Lib.compareBytes, V]
  | [], _ :: _, h, _, _ => by simp at h
  | _ :: _, [], h, _, _ => by simp at h
  | x :: r, y :: s, h, ha, hb => by
    have hl : r.length = s.length := by simpa using h
    have hr : Byt r := fun z hz => ha z (List.mem_cons_of_mem _ hz)
    have hs : Byt s := fun z hz => hb z (List.mem_cons_of_mem _ hz)
    have ih := cmpV_V hl hr hs
    have hx := ha x List.mem_cons_self
    have hy := hb y List.mem_cons_self
    have e : cmpV (x :: r) (y :: s) = if UInt8.ofNat x.toNat < UInt8.ofNat y.toNat then -1 else if UInt8.ofNat y.toNat < UInt8.ofNat x.toNat then 1 else cmpV r s := rfl
    rw [e, ih]
    have v1 := V_lt hr
    have v2 := V_lt hs
    rw [hl] at v1
    simp only [V, hl]
    by_cases h1 : x < y
    · rw [if_pos ((byte_lt hx hy).2 h1)]
      have hm := Nat.mul_le_mul_right (256 ^ s.length) (show x.toNat + 1 ≤ y.toNat by omega)
      rw [Nat.add_mul, Nat.one_mul] at hm
      rw [if_pos (by omega)]
    · rw [if_neg (fun c => h1 ((byte_lt hx hy).1 c))]
      by_cases h2 : y < x
      · rw [if_pos ((byte_lt hy hx).2 h2)]
        have hm := Nat.mul_le_mul_right (256 ^ s.length) (show y.toNat + 1 ≤ x.toNat by omega)
        rw [Nat.add_mul, Nat.one_mul] at hm
        rw [if_neg (by omega), if_pos (by omega)]
      · rw [if_neg (fun c => h2 ((byte_lt hy hx).1 c))]
        have e2 : x = y := by omega
        subst e2
        by_cases h3 : V r < V s
        · rw [if_pos h3, if_pos (by omega)]
        · rw [if_neg h3, if_neg (show ¬ x.toNat * 256 ^ s.length + V r < x.toNat * 256 ^ s.length + V s by omega)]
          by_cases h4 : V s < V r
          · rw [if_pos h4, if_pos (show x.toNat * 256 ^ s.length + V s < x.toNat * 256 ^ s.length + V r by omega)]
          · rw [if_neg h4, if_neg (show ¬ x.toNat * 256 ^ s.length + V s < x.toNat * 256 ^ s.length + V r by omega)]
theorem V_inj : ∀ {a b : List Int}, a.length = b.length → Byt a → Byt b → V a = V b → a = b
  | [], [], _, _, _, _ => rfl
  | [], _ :: _, h, _, _, _ => by simp at h
  | _ :: _, [], h, _, _, _ => by simp at h
  | x :: r, y :: s, h, ha, hb, hv => by
    have hl : r.length = s.length := by simpa using h
    have hr : Byt r := fun z hz => ha z (List.mem_cons_of_mem _ hz)
    have hs : Byt s := fun z hz => hb z (List.mem_cons_of_mem _ hz)
    have hx := ha x List.mem_cons_self
    have hy := hb y List.mem_cons_self
    have v1 := V_lt hr
    have v2 := V_lt hs
    rw [hl] at v1
    simp only [V, hl] at hv
    have e : x = y := by
      rcases Int.lt_trichotomy x y with h1 | h1 | h1
      · have hm := Nat.mul_le_mul_right (256 ^ s.length) (show x.toNat + 1 ≤ y.toNat by omega)
        rw [Nat.add_mul, Nat.one_mul] at hm
        omega
      · exact h1
      · have hm := Nat.mul_le_mul_right (256 ^ s.length) (show y.toNat + 1 ≤ x.toNat by omega)
        rw [Nat.add_mul, Nat.one_mul] at hm
        omega
    subst e
    rw [V_inj hl hr hs (by omega)]
theorem V_set : ∀ (l : List Int) (q : Nat) (y z : Int), l[q]? = some y → 0 ≤ y → 0 ≤ z → V (l.set q z) + y.toNat * 256 ^ (l.length - 1 - q) = V l + z.toNat * 256 ^ (l.length - 1 - q)
  | [], q, y, z, h, _, _ => by simp at h
  | x :: r, 0, y, z, h, hy, hz => by
    simp at h; subst h
    simp only [List.set_cons_zero, V, List.length_cons, Nat.add_sub_cancel, Nat.sub_zero]
    omega
  | x :: r, q + 1, y, z, h, hy, hz => by
    have h' : r[q]? = some y := by simpa using h
    have ih := V_set r q y z h' hy hz
    have hq := (List.getElem?_eq_some_iff.1 h').1
    have e : (x :: r).length - 1 - (q + 1) = r.length - 1 - q := by simp; omega
    rw [e]
    simp only [List.set_cons_succ, V, List.length_set]
    omega
/-- One bit set so: the number moves that way. -/
theorem V_bit {l : List Int} (h : B13 l) (i : Nat) (hi : i < 104) : (tb l i = false → V l < V (wb l i true)) ∧ (tb l i = true → V (wb l i false) < V l) := by
  have hq : i / 8 < 13 := by omega
  have y0 := h.at_lo hq
  have y1 := h.at_hi hq
  have hg : l[i / 8]? = some (l.getD (i / 8) 0) := by
    rw [List.getD_eq_getElem?_getD, List.getElem?_eq_getElem (by rw [h.len]; exact hq)]; rfl
  have hp := pm_cases i
  have hm := Int.emod_two_eq (l.getD (i / 8) 0 / pm i)
  have hpos : 0 < 256 ^ (l.length - 1 - i / 8) := Nat.pow_pos (by omega)
  refine ⟨fun ht => ?_, fun ht => ?_⟩
  · have h0 : l.getD (i / 8) 0 / pm i % 2 = 0 := by
      unfold tb at ht; simp only [decide_eq_false_iff_not] at ht; omega
    have hs : stb (l.getD (i / 8) 0) i true = l.getD (i / 8) 0 + pm i := by unfold stb; rw [h0]; simp
    have hv := V_set l (i / 8) _ (stb (l.getD (i / 8) 0) i true) hg y0 (by rw [hs]; omega)
    unfold wb
    rw [hs] at hv ⊢
    have hlt : (l.getD (i / 8) 0).toNat * 256 ^ (l.length - 1 - i / 8) < (l.getD (i / 8) 0 + pm i).toNat * 256 ^ (l.length - 1 - i / 8) := Nat.mul_lt_mul_of_pos_right (by omega) hpos
    omega
  · have h0 : l.getD (i / 8) 0 / pm i % 2 = 1 := by
      unfold tb at ht; simpa using ht
    have hs : stb (l.getD (i / 8) 0) i false = l.getD (i / 8) 0 - pm i := by unfold stb; rw [h0]; simp
    have hge : pm i ≤ l.getD (i / 8) 0 := by
      have h1 : l.getD (i / 8) 0 / pm i ≠ 0 := fun e => by rw [e] at h0; simp at h0
      by_cases hlt : l.getD (i / 8) 0 < pm i
      · exact absurd (Int.ediv_eq_zero_of_lt y0 hlt) h1
      · omega
    have hv := V_set l (i / 8) _ (stb (l.getD (i / 8) 0) i false) hg y0 (by rw [hs]; omega)
    unfold wb
    rw [hs] at hv ⊢
    have hlt : (l.getD (i / 8) 0 - pm i).toNat * 256 ^ (l.length - 1 - i / 8) < (l.getD (i / 8) 0).toNat * 256 ^ (l.length - 1 - i / 8) := Nat.mul_lt_mul_of_pos_right (by omega) hpos
    omega
theorem fulls_of {l : List Int} {n : Nat} (hl : l.length = n) (h : ∀ j, j < n → l[j]? = some 255) : l = List.replicate n 255 := by
  apply List.ext_getElem?
  intro j
  rw [List.getElem?_replicate]
  by_cases hj : j < n
  · rw [if_pos hj]; exact h j hj
  · rw [if_neg hj]; exact List.getElem?_eq_none (by omega)
/-- The next one. -/
theorem V_next {l : List Int} (h : B13 l) {k q : Nat} {y : Int} (hk : k < 13) (hq : q = 12 - k) (hf : ∀ j, 13 - k ≤ j → j < 13 → l[j]? = some 255) (hy : l[q]? = some y) (y0 : 0 ≤ y) : V ((nx l k).set q (y + 1)) = V l + 1 := by
  subst hq
  have hlen := h.len
  have e1 : l = l.take (12 - k) ++ y :: List.replicate k 255 := by
    apply List.ext_getElem?
    intro j
    have ht : (l.take (12 - k)).length = 12 - k := by rw [List.length_take]; omega
    by_cases h1 : j < 12 - k
    · rw [List.getElem?_append_left (by omega), List.getElem?_take, if_pos h1]
    · rw [List.getElem?_append_right (by omega), ht]
      by_cases h2 : j = 12 - k
      · subst h2; rw [Nat.sub_self]; simpa using hy
      · obtain ⟨m, hm⟩ : ∃ m, j - (12 - k) = m + 1 := ⟨j - (12 - k) - 1, by omega⟩
        rw [hm, List.getElem?_cons_succ, List.getElem?_replicate]
        by_cases h3 : j < 13
        · rw [if_pos (by omega)]; exact hf j (by omega) h3
        · rw [if_neg (by omega)]; exact List.getElem?_eq_none (by omega)
  have e2 : (nx l k).set (12 - k) (y + 1) = l.take (12 - k) ++ (y + 1) :: List.replicate k 0 := by
    unfold nx
    apply List.ext_getElem?
    intro j
    have ht : (l.take (12 - k)).length = 12 - k := by rw [List.length_take]; omega
    have ht2 : (l.take (13 - k)).length = 13 - k := by rw [List.length_take]; omega
    rw [List.getElem?_set]
    by_cases h1 : j < 12 - k
    · rw [if_neg (by omega), List.getElem?_append_left (by omega), List.getElem?_append_left (by omega), List.getElem?_take, List.getElem?_take, if_pos (by omega), if_pos h1]
    · by_cases h2 : 12 - k = j
      · rw [if_pos h2, if_pos (by rw [List.length_append, ht2, List.length_replicate]; omega), List.getElem?_append_right (by omega), ht, ← h2, Nat.sub_self]; rfl
      · obtain ⟨m, hm⟩ : ∃ m, j - (12 - k) = m + 1 := ⟨j - (12 - k) - 1, by omega⟩
        rw [if_neg h2, List.getElem?_append_right (by omega), List.getElem?_append_right (by omega), ht, ht2, hm, List.getElem?_cons_succ, List.getElem?_replicate, List.getElem?_replicate]
        by_cases h3 : j < 13
        · rw [if_pos (by omega), if_pos (by omega)]
        · rw [if_neg (by omega), if_neg (by omega)]
  rw [e2]
  have e3 : V l = V (l.take (12 - k)) * 256 ^ (k + 1) + (y.toNat * 256 ^ k + V (List.replicate k 255)) := by
    have h := congrArg V e1
    rw [V_append] at h
    simpa [V] using h
  rw [e3, V_append]
  have hfl := V_fulls k
  have hz := V_zeros k
  have e4 : (y + 1).toNat = y.toNat + 1 := by omega
  simp only [V, List.length_cons, List.length_replicate, hz, e4, Nat.add_mul, Nat.one_mul]
  omega
/-- The fields that bytes make. -/
theorem ofL_hdr {l : List Int} (h : B13 l) : ∃ f0 f1 f2 f3 f4 : Int, ofL l = .agg #[.int .u32 f0, .int .u32 f1, .int .u8 f2, .int .u16 f3, .int .u16 f4] ∧ Hdr f0 f1 f2 f3 f4 ∧ byL f0 f1 f2 f3 f4 = l := by
  obtain ⟨hl, h0, h1⟩ := h
  match l, hl, h0, h1 with
  | [x0, x1, x2, x3, x4, x5, x6, x7, x8, x9, x10, x11, x12], _, h0, h1 =>
    simp only [List.mem_cons, List.not_mem_nil, or_false, forall_eq_or_imp, forall_eq] at h0 h1
    obtain ⟨a0, a1, a2, a3, a4, a5, a6, a7, a8, a9, a10, a11, a12⟩ := h0
    obtain ⟨b0, b1, b2, b3, b4, b5, b6, b7, b8, b9, b10, b11, b12⟩ := h1
    refine ⟨_, _, _, _, _, rfl, ⟨?_, ?_, ?_, ?_, ?_, ?_, ?_, ?_, ?_, ?_⟩, ?_⟩
    all_goals simp only [List.getD_cons_zero, List.getD_cons_succ]
    any_goals omega
    simp only [byL, List.cons.injEq, and_true]
    refine ⟨?_, ?_, ?_, ?_, ?_, ?_, ?_, ?_, trivial, ?_, ?_, ?_, ?_⟩ <;> omega
end Go.Proofs.YtbmleejeffaciaaDoor
