/- Are two routes the same in the order; of package waymarkref08: one, first. Under the conditions that they name. -/
import Derived.Test.YtiimbcdnblhpfaaRsB
namespace Go.Proofs.Ytiimbcdnblhpfaa
open Go.RowKit Go.Shelf
theorem one_is (x y : Bool) (w : World) : Calls Try.prog 15 #[.bool x, .bool y] w fun e w' => e = .returned (.int .i64 (if x = true then -1 else if y = true then 1 else 0)) ∧ w = w' := by
  cases x <;> cases y
  all_goals
    go_enter Try.func15, Try.ntmps15
    go_wp2
    go_ret
    exact ⟨rfl, rfl⟩
theorem fst0_drop {l : List Int} {k : Nat} (hk : k < l.length) : fst0 (l.drop k) = if l[k] = 0 then fst0 (l.drop (k + 1)) else l[k] := by
  rw [List.drop_eq_getElem_cons hk]
  rfl
theorem first_is (l : List Int) (g : Nat) (w : World) (hl : l.length ≤ 1000) (hc : ∀ i (hi : i < l.length), w.cell? ⟨g, i, none⟩ = some (.int .i64 l[i])) : Calls Try.prog 13 #[.slice (some ⟨g, 0, none⟩) l.length l.length] w fun e w' => e = .returned (.int .i64 (fst0 l)) ∧ w = w' := by
  have HC := Lib.hid hc
  clear hc
  go_enter Try.func13, Try.ntmps13
  go_wp2
  go_loopw [3] (fun i wr => ∃ k : Nat, k ≤ l.length ∧ i = .int .i64 k ∧ Hid (fst0 (l.drop k) = fst0 l) ∧ wr = w) (fun i _ => l.length - (intOf i).toNat)
  case atStart => exact ⟨0, Nat.zero_le _, rfl, Lib.hid (by simp), rfl⟩
  case round =>
    obtain ⟨k, hk, rfl, HF, rfl⟩ := hrel
    by_cases hlt : k < l.length
    · have c0 := HC.out k hlt
      have i1 : (0 : Int) ≤ (k : Int) := by omega
      have i2 : (k : Int) < (l.length : Int) := by omega
      have hf := HF.out
      rw [fst0_drop hlt] at hf
      obtain ⟨x, hx⟩ : ∃ x, l[k] = x := ⟨_, rfl⟩
      rw [hx] at c0 hf
      clear hx
      by_cases h0 : x = 0
      · subst h0
        rw [if_pos rfl] at hf
        have HF2 := Lib.hid hf
        clear hf
        go_wp2_with fail
        go_roundw
        case rel => exact ⟨k + 1, by omega, by go_num, HF2, by first | rfl | trivial⟩
        case measure => first | (simp [intOf]; done) | (simp [intOf]; omega)
      · rw [if_neg h0] at hf
        have e1 : (x != 0) = true := by simpa using h0
        have e2 : (x == 0) = false := by simpa using h0
        have HF2 := Lib.hid hf
        clear hf
        go_wp2_with fail
        go_ret
        rw [HF2.out]
        exact ⟨rfl, rfl⟩
    · have hkl : k = l.length := by omega
      have i2 : ¬ (k : Int) < (l.length : Int) := by omega
      have hf := HF.out
      rw [List.drop_of_length_le (by omega)] at hf
      have HF2 := Lib.hid hf
      clear hlt hf
      go_wp2_with fail
      go_ret
      rw [← HF2.out]
      exact ⟨rfl, rfl⟩
set_option maxRecDepth 100000 in
set_option maxHeartbeats 8000000 in
theorem even_at (r s : RtD) (w : World) (q h p : Nat) (ho : OrdAt w q h) (hp : p < w.heap.size) (hc : w.cell? ⟨p, 0, none⟩ = some (.func (.func 38) #[] #[.pointer (some ⟨q, 0, none⟩)])) :
    Calls Try.prog 37 #[.agg (encRt r).toArray, .agg (encRt s).toArray, .pointer (some ⟨p, 0, none⟩)] w fun e w' => e = .returned (.bool (cR r s == 0)) ∧ Below w.heap.size w w' := by
  have HT : Hid (∀ (W : World), OrdAt W q h → Calls Try.prog 38 #[.agg (encRt r).toArray, .agg (encRt s).toArray, .pointer (some ⟨q, 0, none⟩)] W fun e w' => e = .returned (.int .i64 (cR r s)) ∧ Below W.heap.size W w') := Lib.hid fun W ho => turn_is r s W q h ho
  have eg : ∀ args w, (callFunc 38 args).run Try.prog w = .ok (.enter 38 args) w := enters_of Try.func38 (by kernel_rfl) rfl
  obtain ⟨v, hv⟩ : ∃ v, cR r s = v := ⟨_, rfl⟩
  rw [hv] at HT ⊢
  clear hv
  obtain ⟨a, b, fr, di, me, ta, nm, ho', dc⟩ := r
  obtain ⟨a2, b2, fr2, di2, me2, ta2, nm2, ho2, dc2⟩ := s
  simp only [encRt] at *
  have HO := Lib.hid (ho.on (((Below.refl _ w).alloc (Nat.le_refl _) (.cells #[.int .u32 a, .int .i64 b, .int .u8 fr, .int .i64 di, .int .i64 me, .int .i64 ta, .string nm, .int .u32 ho', .bool dc] 28)).alloc (by simp) (.cells #[.int .u32 a2, .int .i64 b2, .int .u8 fr2, .int .i64 di2, .int .i64 me2, .int .i64 ta2, .string nm2, .int .u32 ho2, .bool dc2] 28)))
  have HBZ := Lib.hid (((Below.refl _ w).alloc (Nat.le_refl _) (.cells #[.int .u32 a, .int .i64 b, .int .u8 fr, .int .i64 di, .int .i64 me, .int .i64 ta, .string nm, .int .u32 ho', .bool dc] 28)).alloc (by simp) (.cells #[.int .u32 a2, .int .i64 b2, .int .u8 fr2, .int .i64 di2, .int .i64 me2, .int .i64 ta2, .string nm2, .int .u32 ho2, .bool dc2] 28))
  have hc2 := (HBZ.out.cell (p := ⟨p, 0, none⟩) hp).trans hc
  clear ho
  go_enter Try.func37, Try.ntmps37
  go_wp2_with fail
  refine (HT.out _ HO.out).mono ?_
  rintro e w4 ⟨rfl, hb4⟩
  have HB4 := Lib.hid (Below.step HBZ.out hb4)
  clear hb4
  go_wp2
  go_ret
  exact ⟨rfl, HB4.out⟩
end Go.Proofs.Ytiimbcdnblhpfaa
