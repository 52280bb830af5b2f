/- Plain facts on a header's 104 bits as one number: its bits, its fields, its bytes, bit by bit. No condition but those named. -/
import Derived.Test.YtbmleejeffaciaaDoorHdV
import Derived.Test.YtbmleejeffaciaaDoorHdX
namespace Go.Proofs.YtbmleejeffaciaaDoor
/-- The bit j of 104, the highest one first. -/
def bt (N j : Nat) : Bool := decide (N / 2 ^ (103 - j) % 2 = 1)
/-- All of them. -/
def bl (N : Nat) : List Bool := (List.range 104).map (bt N)
theorem bl_len (N : Nat) : (bl N).length = 104 := by simp [bl]
theorem bl_at (N j : Nat) (h : j < 104) : (bl N)[j]? = some (bt N j) := by
  simp [bl, List.getElem?_map, List.getElem?_range h]
theorem bl_take (N j : Nat) (h : j < 104) : (bl N).take (j + 1) = (bl N).take j ++ [bt N j] := by
  have hj : j < (bl N).length := by rw [bl_len]; exact h
  have e := bl_at N j h
  rw [List.getElem?_eq_getElem hj] at e
  rw [List.take_succ_eq_append_getElem hj, Option.some.inj e]
/-- The number of c bits from a on. -/
def fv (N a c : Nat) : Nat := N / 2 ^ (104 - a - c) % 2 ^ c
theorem fv_lt (N a c : Nat) : fv N a c < 2 ^ c := Nat.mod_lt _ (Nat.pow_pos (by omega))
theorem fv_0 (N a : Nat) : fv N a 0 = 0 := by unfold fv; rw [Nat.pow_zero, Nat.mod_one]
theorem fv_step (N a c : Nat) (h : a + c < 104) : fv N a (c + 1) = 2 * fv N a c + if bt N (a + c) then 1 else 0 := by
  have e1 : 104 - a - c = (103 - (a + c)) + 1 := by omega
  have e2 : 104 - a - (c + 1) = 103 - (a + c) := by omega
  unfold fv bt
  rw [e1, e2, Nat.pow_succ 2 c, Nat.mul_comm (2 ^ c) 2, Nat.mod_mul, Nat.pow_succ 2 (103 - (a + c)), ← Nat.div_div_eq_div_mul]
  have h2 := Nat.mod_two_eq_zero_or_one (N / 2 ^ (103 - (a + c)))
  rcases h2 with h2 | h2 <;> simp [h2] <;> omega
theorem fv_bit (N a w c : Nat) (h : a + w ≤ 104) (hc : c < w) : fv N a w / 2 ^ (w - 1 - c) % 2 = N / 2 ^ (103 - (a + c)) % 2 := by
  unfold fv
  have e : 103 - (a + c) = (104 - a - w) + (w - 1 - c) := by omega
  rw [e, Nat.pow_add, ← Nat.div_div_eq_div_mul]
  generalize N / 2 ^ (104 - a - w) = M
  have h1 := Nat.testBit_mod_two_pow M w (w - 1 - c)
  rw [show decide (w - 1 - c < w) = true by simp; omega, Bool.true_and, Nat.testBit_eq_decide_div_mod_eq, Nat.testBit_eq_decide_div_mod_eq] at h1
  have h2 := decide_eq_decide.1 h1
  omega
/-- The header of a number. -/
def hdrN (N : Nat) : Value := .agg #[.int .u32 (fv N 0 32 : Nat), .int .u32 (fv N 32 32 : Nat), .int .u8 (fv N 64 8 : Nat), .int .u16 (fv N 72 16 : Nat), .int .u16 (fv N 88 16 : Nat)]
theorem split4 (S : Nat) : S / 16777216 * 16777216 + S / 65536 % 256 * 65536 + S / 256 % 256 * 256 + S % 256 = S := by omega
theorem split2 (S : Nat) : S / 256 * 256 + S % 256 = S := by omega
theorem toNat_div (S : Nat) (c : Nat) : ((S : Int) / (c : Int)).toNat = S / c := by rw [← Int.natCast_ediv, Int.toNat_natCast]
theorem toNat_mod (S : Nat) (c : Nat) : ((S : Int) % (c : Int)).toNat = S % c := by rw [← Int.natCast_emod, Int.toNat_natCast]
theorem toNat_div_mod (S : Nat) (c e : Nat) : ((S : Int) / (c : Int) % (e : Int)).toNat = S / c % e := by rw [← Int.natCast_ediv, ← Int.natCast_emod, Int.toNat_natCast]
theorem V_nat (S D P X Y : Nat) : V (byL S D P X Y) = S * 4722366482869645213696 + D * 1099511627776 + P * 4294967296 + X * 65536 + Y := by
  have e1 := toNat_div S 16777216
  have e2 := toNat_div_mod S 65536 256
  have e3 := toNat_div_mod S 256 256
  have e4 := toNat_mod S 256
  have f1 := toNat_div D 16777216
  have f2 := toNat_div_mod D 65536 256
  have f3 := toNat_div_mod D 256 256
  have f4 := toNat_mod D 256
  have g1 := toNat_div X 256
  have g2 := toNat_mod X 256
  have k1 := toNat_div Y 256
  have k2 := toNat_mod Y 256
  simp only [Int.cast_ofNat_Int] at e1 e2 e3 e4 f1 f2 f3 f4 g1 g2 k1 k2
  simp only [byL, V, List.length_cons, List.length_nil, Nat.reduceAdd, Nat.reducePow, e1, e2, e3, e4, f1, f2, f3, f4, g1, g2, k1, k2, Int.toNat_natCast]
  have h1 := split4 S
  have h2 := split4 D
  have h3 := split2 X
  have h4 := split2 Y
  clear e1 e2 e3 e4 f1 f2 f3 f4 g1 g2 k1 k2
  generalize S / 16777216 = a3 at *
  generalize S / 65536 % 256 = a2 at *
  generalize S / 256 % 256 = a1 at *
  generalize S % 256 = a0 at *
  generalize D / 16777216 = b3 at *
  generalize D / 65536 % 256 = b2 at *
  generalize D / 256 % 256 = b1 at *
  generalize D % 256 = b0 at *
  generalize X / 256 = c1 at *
  generalize X % 256 = c0 at *
  generalize Y / 256 = d1 at *
  generalize Y % 256 = d0 at *
  subst h1 h2 h3 h4
  simp only [Nat.add_mul, Nat.mul_assoc, Nat.reduceMul]
  omega
theorem V_by {s d p sp dp : Int} (h : Hdr s d p sp dp) : V (byL s d p sp dp) = s.toNat * 4722366482869645213696 + d.toNat * 1099511627776 + p.toNat * 4294967296 + sp.toNat * 65536 + dp.toNat := by
  obtain ⟨hs0, hs1, hd0, hd1, hp0, hp1, hsp0, hsp1, hdp0, hdp1⟩ := h
  have := V_nat s.toNat d.toNat p.toNat sp.toNat dp.toNat
  rwa [Int.toNat_of_nonneg hs0, Int.toNat_of_nonneg hd0, Int.toNat_of_nonneg hp0, Int.toNat_of_nonneg hsp0, Int.toNat_of_nonneg hdp0] at this
theorem fv_by {s d p sp dp : Int} (h : Hdr s d p sp dp) : (fv (V (byL s d p sp dp)) 0 32 : Int) = s ∧ (fv (V (byL s d p sp dp)) 32 32 : Int) = d ∧ (fv (V (byL s d p sp dp)) 64 8 : Int) = p ∧ (fv (V (byL s d p sp dp)) 72 16 : Int) = sp ∧ (fv (V (byL s d p sp dp)) 88 16 : Int) = dp := by
  have hv := V_by h
  obtain ⟨hs0, hs1, hd0, hd1, hp0, hp1, hsp0, hsp1, hdp0, hdp1⟩ := h
  generalize V (byL s d p sp dp) = N at *
  unfold fv
  simp only [Nat.reduceSub, Nat.reducePow]
  refine ⟨?_, ?_, ?_, ?_, ?_⟩ <;> omega
theorem hdrN_by {s d p sp dp : Int} (h : Hdr s d p sp dp) : hdrN (V (byL s d p sp dp)) = .agg #[.int .u32 s, .int .u32 d, .int .u8 p, .int .u16 sp, .int .u16 dp] := by
  obtain ⟨h0, h1, h2, h3, h4⟩ := fv_by h
  unfold hdrN
  rw [h0, h1, h2, h3, h4]
theorem hdrN_V {l : List Int} (h : B13 l) : hdrN (V l) = ofL l := by
  obtain ⟨f0, f1, f2, f3, f4, hf, hH, hby⟩ := ofL_hdr h
  rw [hf, ← hby]
  exact hdrN_by hH
/-- The byte at q. -/
theorem V_byte {l : List Int} (h : B13 l) {q : Nat} (hq : q < 13) : (fv (V l) (8 * q) 8 : Int) = l.getD q 0 := by
  have hql : q < l.length := by rw [h.len]; exact hq
  have y0 := h.at_lo hq
  have y1 := h.at_hi hq
  have hg : l.getD q 0 = l[q] := by rw [List.getD_eq_getElem?_getD, List.getElem?_eq_getElem hql]; rfl
  have e1 : l = l.take q ++ l[q] :: l.drop (q + 1) := by
    rw [← List.drop_eq_getElem_cons hql, List.take_append_drop]
  have hR : V (l.drop (q + 1)) < 256 ^ (l.drop (q + 1)).length := V_lt fun x hx => h.byt x (List.mem_of_mem_drop hx)
  have hd : (l.drop (q + 1)).length = 12 - q := by rw [List.length_drop, h.len]; omega
  have hv := congrArg V e1
  rw [V_append] at hv
  rw [hg] at y0 y1 ⊢
  generalize V (l.take q) = A at hv
  simp only [V, List.length_cons, hd] at hv
  rw [hd] at hR
  generalize V (l.drop (q + 1)) = R at hv hR
  generalize l[q] = x at *
  have e2 : (2 : Nat) ^ (104 - 8 * q - 8) = 256 ^ (12 - q) := by
    rw [show 104 - 8 * q - 8 = 8 * (12 - q) by omega, Nat.pow_mul]
  unfold fv
  rw [e2, hv, Nat.pow_succ]
  have hB : 0 < 256 ^ (12 - q) := Nat.pow_pos (by omega)
  generalize 256 ^ (12 - q) = B at *
  have e3 : A * (B * 256) + (x.toNat * B + R) = B * (A * 256 + x.toNat) + R := by
    rw [Nat.mul_add, Nat.mul_comm x.toNat B, Nat.mul_left_comm A B 256]; omega
  rw [e3, Nat.mul_add_div hB, Nat.div_eq_of_lt hR]
  omega
theorem tb_V {l : List Int} (h : B13 l) {j : Nat} (hj : j < 104) : tb l j = bt (V l) j := by
  have hb := V_byte h (q := j / 8) (by omega)
  have hbit := fv_bit (V l) (8 * (j / 8)) 8 (j % 8) (by omega) (by omega)
  rw [show 8 * (j / 8) + j % 8 = j by omega] at hbit
  unfold tb bt
  rw [← hb, ← hbit, pm_at rfl]
  generalize fv (V l) (8 * (j / 8)) 8 = y
  have hr : j % 8 < 8 := by omega
  generalize j % 8 = r at *
  have hr' : r = 0 ∨ r = 1 ∨ r = 2 ∨ r = 3 ∨ r = 4 ∨ r = 5 ∨ r = 6 ∨ r = 7 := by omega
  clear hbit hb hr
  rcases hr' with rfl | rfl | rfl | rfl | rfl | rfl | rfl | rfl <;> simp only [Nat.reduceSub, Nat.reducePow, Int.reducePow, Int.reduceDiv, decide_eq_decide] <;> omega
theorem bl_wb {l : List Int} (h : B13 l) {i : Nat} (hi : i < 104) (b : Bool) : (bl (V l)).set i b = bl (V (wb l i b)) := by
  apply List.ext_getElem?
  intro j
  by_cases hj : j < 104
  · rw [bl_at _ _ hj, ← tb_V (h.wb i hi b) hj, tb_wb h hi hj, List.getElem?_set]
    by_cases e : i = j
    · subst e; rw [if_pos rfl, if_pos (by rw [bl_len]; exact hi), if_pos rfl]
    · rw [if_neg e, bl_at _ _ hj, if_neg (fun x => e x.symm), tb_V h hj]
  · rw [List.getElem?_eq_none (by rw [List.length_set, bl_len]; omega), List.getElem?_eq_none (by rw [bl_len]; omega)]
/-- A bit read off a field, as a walk reads it. -/
theorem and_one (x : Nat) (h : x < 18446744073709551616) : (bits .and .u64 (x : Int) 1 == 1) = decide (x % 2 = 1) := by
  rw [show (1 : Int) = ((1 : Nat) : Int) from rfl, u64_and_nat x 1 h (by omega), Nat.and_one_is_mod, Bool.eq_iff_iff]
  simp only [beq_iff_eq, decide_eq_true_iff]
  omega
end Go.Proofs.YtbmleejeffaciaaDoor
