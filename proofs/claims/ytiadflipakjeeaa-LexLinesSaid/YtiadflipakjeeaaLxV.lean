/- What closed of package waymarkref07 hands back. No condition but those named. -/
import Derived.Test.YtiadflipakjeeaaLxQ
import Derived.Test.YtiadflipakjeeaaLxP
namespace Go.Proofs.Ytiadflipakjeeaa
open Go.RowKit
theorem cntU_free (p : List UInt8 → Int → Bool) (hp : ∀ l a b, p l a = p l b) : ∀ (l : List UInt8) (q q' : Int × Int), cntU p l q = cntU p l q'
  | [], _, _ => rfl
  | b :: r, q, q' => by
    simp only [cntU]
    rw [hp (b :: r) q.1 q'.1, cntU_free p hp r (stp b q) (stp b q')]
/-- Where a quoted word ends whose text begins at k; -1: it does not. -/
def clQ (l : List UInt8) (k : Nat) : Int := if [34].isPrefixOf (l.drop (k + cntU pQuo (l.drop k) (0, 0))) = true then ((k + cntU pQuo (l.drop k) (0, 0) + 1 : Nat) : Int) else -1
/-- Where a comment ends whose text begins at k; -1: it does not. -/
def clC (l : List UInt8) (k : Nat) : Int := if [42, 47].isPrefixOf (l.drop (k + cntU pCom (l.drop k) (0, 0))) = true then ((k + cntU pCom (l.drop k) (0, 0) + 2 : Nat) : Int) else -1
theorem pQuo_cons (b : UInt8) (r : List UInt8) (x : Int) : pQuo (b :: r) x = (b == 34 || b == 10) := by
  unfold pQuo pEnd
  simp only [List.isPrefixOf, Bool.and_true]
  rw [Bool.eq_iff_iff]
  simp only [Bool.or_eq_true, beq_iff_eq]
  exact ⟨fun h => h.imp Eq.symm Eq.symm, fun h => h.imp Eq.symm Eq.symm⟩
theorem one_cons (c b : UInt8) (r : List UInt8) : [c].isPrefixOf (b :: r) = (b == c) := by
  simp only [List.isPrefixOf, Bool.and_true]
  rw [Bool.eq_iff_iff]
  simp only [beq_iff_eq]
  exact ⟨Eq.symm, Eq.symm⟩
theorem clQ_end {l : List UInt8} {k : Nat} (h : l.length ≤ k) : clQ l k = -1 := by
  unfold clQ
  rw [if_neg]
  rw [List.drop_of_length_le (by omega)]
  simp
theorem clQ_at {l : List UInt8} {k : Nat} (h : k < l.length) (hb : l[k] = 34) : clQ l k = ((k + 1 : Nat) : Int) := by
  unfold clQ
  rw [List.drop_eq_getElem_cons h, hb]
  have e : cntU pQuo (34 :: l.drop (k + 1)) (0, 0) = 0 := by simp only [cntU]; rw [if_pos (by rw [pQuo_cons]; rfl)]
  rw [e, Nat.add_zero, List.drop_eq_getElem_cons h, one_cons, hb, if_pos (by rfl)]
theorem clQ_nl {l : List UInt8} {k : Nat} (h : k < l.length) (hb : l[k] = 10) : clQ l k = -1 := by
  unfold clQ
  rw [List.drop_eq_getElem_cons h, hb]
  have e : cntU pQuo (10 :: l.drop (k + 1)) (0, 0) = 0 := by simp only [cntU]; rw [if_pos (by rw [pQuo_cons]; rfl)]
  rw [e, Nat.add_zero, List.drop_eq_getElem_cons h, one_cons, hb, if_neg (by decide)]
theorem clQ_step {l : List UInt8} {k : Nat} (h : k < l.length) (h1 : l[k] ≠ 34) (h2 : l[k] ≠ 10) : clQ l k = clQ l (k + 1) := by
  have e : cntU pQuo (l.drop k) (0, 0) = cntU pQuo (l.drop (k + 1)) (0, 0) + 1 := by
    rw [List.drop_eq_getElem_cons h]
    simp only [cntU]
    rw [if_neg (by rw [pQuo_cons]; simp [h1, h2]), cntU_free pQuo (fun _ _ _ => rfl) _ (stp l[k] (0, 0)) (0, 0)]
  unfold clQ
  rw [e]
  have e2 : k + (cntU pQuo (l.drop (k + 1)) (0, 0) + 1) = k + 1 + cntU pQuo (l.drop (k + 1)) (0, 0) := by omega
  rw [e2]
theorem clC_end {l : List UInt8} {k : Nat} (h : ¬ k + 1 < l.length) : clC l k = -1 := by
  unfold clC
  rw [if_neg]
  rw [pre_long _ _ (by rw [List.length_drop]; simp; omega)]
  simp
theorem two_com (l : List UInt8) (i : Nat) (h : i + 1 < l.length) : [42, 47].isPrefixOf (l.drop i) = ((l[i]'(by omega)) == 42 && (l[i + 1]'h) == 47) := by
  rw [List.drop_eq_getElem_cons (by omega : i < l.length), List.drop_eq_getElem_cons h]
  simp only [List.isPrefixOf, Bool.and_true]
  rw [Bool.eq_iff_iff]
  simp only [Bool.and_eq_true, beq_iff_eq]
  exact ⟨fun ⟨a, b⟩ => ⟨a.symm, b.symm⟩, fun ⟨a, b⟩ => ⟨a.symm, b.symm⟩⟩
theorem clC_at {l : List UInt8} {k : Nat} (h : k + 1 < l.length) (hp : [42, 47].isPrefixOf (l.drop k) = true) : clC l k = ((k + 2 : Nat) : Int) := by
  have e : cntU pCom (l.drop k) (0, 0) = 0 := by
    rw [List.drop_eq_getElem_cons (by omega : k < l.length)] at hp ⊢
    simp only [cntU]
    rw [if_pos (by unfold pCom; exact hp)]
  unfold clC
  rw [e, Nat.add_zero, if_pos hp]
theorem clC_step {l : List UInt8} {k : Nat} (h : k + 1 < l.length) (hp : [42, 47].isPrefixOf (l.drop k) = false) : clC l k = clC l (k + 1) := by
  have e : cntU pCom (l.drop k) (0, 0) = cntU pCom (l.drop (k + 1)) (0, 0) + 1 := by
    rw [List.drop_eq_getElem_cons (by omega : k < l.length)] at hp ⊢
    simp only [cntU]
    rw [if_neg (by unfold pCom; rw [hp]; simp), cntU_free pCom (fun _ _ _ => rfl) _ (stp l[k] (0, 0)) (0, 0)]
  unfold clC
  rw [e]
  have e2 : k + (cntU pCom (l.drop (k + 1)) (0, 0) + 1) = k + 1 + cntU pCom (l.drop (k + 1)) (0, 0) := by omega
  rw [e2]
theorem byte_eq (l : List UInt8) (i : Nat) (h : i < (⟨l.toArray⟩ : ByteArray).size) (hl : i < l.length) (c : UInt8) (C : Int) (hC : C = (c.toNat : Int)) : ((((⟨l.toArray⟩ : ByteArray)[i]'h).toNat : Int) == C) = ((l[i]'hl) == c) := by
  rw [get_at' l i h hl, hC, Bool.eq_iff_iff]
  simp only [beq_iff_eq]
  exact ⟨fun h => UInt8.toNat_inj.mp (by omega), fun h => by rw [h]⟩
set_option maxRecDepth 100000 in
set_option maxHeartbeats 4000000 in
theorem closedQ_is (l : List UInt8) (i : Nat) (hl : l.length ≤ 65536) (hi : i < l.length) (h34 : l[i] = 34) (W : World) : Calls Try.prog 21 #[.string ⟨l.toArray⟩, .int .i64 i] W fun e w' => e = .returned (.int .i64 (clQ l (i + 1))) ∧ W = w' := by
  have hsz := mk_size l
  have hi1 : i < (⟨l.toArray⟩ : ByteArray).size := by rw [mk_size]; exact hi
  have f0 := byte_eq l i hi1 hi 34 34 rfl
  rw [beq_iff_eq.2 h34] at f0
  obtain ⟨X, hX⟩ : ∃ X, clQ l (i + 1) = X := ⟨_, rfl⟩
  have hil : (i : Int) < (l.length : Int) := by omega
  rw [hX]
  have HX := Lib.hid hX
  clear hX
  go_enter Try.func21, Try.ntmps21
  go_wp2_with fail
  go_loop [5] (fun s5 => ∃ k : Nat, k ≤ l.length ∧ s5 = .int .i64 k ∧ Hid (clQ l k = X)) (fun s5 => l.length - (intOf s5).toNat)
  case atStart => exact ⟨i + 1, by omega, by go_num, HX⟩
  case round =>
    obtain ⟨k, hk, rfl, HK⟩ := hrel
    by_cases hlt : k < l.length
    · have hk1 : k < (⟨l.toArray⟩ : ByteArray).size := by rw [mk_size]; exact hlt
      have hki : (k : Int) < (l.length : Int) := by omega
      have g1 := byte_eq l k hk1 hlt 34 34 rfl
      have g2 := byte_eq l k hk1 hlt 10 10 rfl
      by_cases h1 : l[k] = 34
      · have H : Hid (X = ((k + 1 : Nat) : Int)) := Lib.hid (by rw [← HK.out, clQ_at hlt h1])
        rw [beq_iff_eq.2 h1] at g1
        rw [show (l[k] == 10) = false by rw [h1]; rfl] at g2
        clear h1
        go_wp2_with fail
        go_ret
        exact ⟨by rw [H.out]; rfl, rfl⟩
      · by_cases h2 : l[k] = 10
        · have H : Hid (X = -1) := Lib.hid (by rw [← HK.out, clQ_nl hlt h2])
          rw [beq_eq_false_iff_ne.2 h1] at g1
          rw [beq_iff_eq.2 h2] at g2
          clear h1 h2
          go_wp2_with fail
          go_ret
          exact ⟨by rw [H.out]; rfl, rfl⟩
        · have HK2 : Hid (clQ l (k + 1) = X) := Lib.hid (by rw [← clQ_step hlt h1 h2]; exact HK.out)
          rw [beq_eq_false_iff_ne.2 h1] at g1
          rw [beq_eq_false_iff_ne.2 h2] at g2
          clear h1 h2
          go_wp2_with fail
          go_round
          case rel => exact ⟨k + 1, by omega, by go_num, HK2⟩
          case measure => first | (simp [intOf]; done) | (simp [intOf]; omega)
    · have H : Hid (X = -1) := Lib.hid (by rw [← HK.out, clQ_end (by omega)])
      obtain rfl : k = l.length := by omega
      clear hlt
      go_wp2_with fail
      go_ret
      exact ⟨by rw [H.out]; rfl, rfl⟩
set_option maxRecDepth 100000 in
set_option maxHeartbeats 4000000 in
theorem closedC_is (l : List UInt8) (i : Nat) (hl : l.length ≤ 65536) (hi : i < l.length) (h34 : l[i] ≠ 34) (W : World) : Calls Try.prog 21 #[.string ⟨l.toArray⟩, .int .i64 i] W fun e w' => e = .returned (.int .i64 (clC l (i + 2))) ∧ W = w' := by
  have hsz := mk_size l
  have hi1 : i < (⟨l.toArray⟩ : ByteArray).size := by rw [mk_size]; exact hi
  have f0 := byte_eq l i hi1 hi 34 34 rfl
  rw [beq_eq_false_iff_ne.2 h34] at f0
  obtain ⟨X, hX⟩ : ∃ X, clC l (i + 2) = X := ⟨_, rfl⟩
  have hil : (i : Int) < (l.length : Int) := by omega
  rw [hX]
  have HX := Lib.hid hX
  clear hX
  go_enter Try.func21, Try.ntmps21
  go_wp2_with fail
  go_loop [6] (fun s6 => ∃ k : Nat, k ≤ l.length + 1 ∧ s6 = .int .i64 k ∧ Hid (clC l k = X)) (fun s6 => l.length + 1 - (intOf s6).toNat)
  case atStart => exact ⟨i + 2, by omega, by go_num, HX⟩
  case round =>
    obtain ⟨k, hk, rfl, HK⟩ := hrel
    by_cases hlt : k + 1 < l.length
    · have hk1 : k < (⟨l.toArray⟩ : ByteArray).size := by rw [mk_size]; omega
      have hk2 : k + 1 < (⟨l.toArray⟩ : ByteArray).size := by rw [mk_size]; omega
      have hki : (k : Int) < (l.length : Int) := by omega
      have hki2 : (k : Int) + 1 < (l.length : Int) := by omega
      have g1 := byte_eq l k hk1 (by omega) 42 42 rfl
      have g2 := byte_eq l (k + 1) hk2 hlt 47 47 rfl
      have htw := two_com l k hlt
      obtain ⟨x, hx⟩ : ∃ x, ((l[k]'(by omega)) == 42) = x := ⟨_, rfl⟩
      obtain ⟨y, hy⟩ : ∃ y, ((l[k + 1]'hlt) == 47) = y := ⟨_, rfl⟩
      rw [hx] at g1 htw
      rw [hy] at g2 htw
      clear hx hy
      have HTW := Lib.hid htw
      clear htw
      have hyes : x = true → y = true → X = ((k + 2 : Nat) : Int) := fun h1 h2 => by rw [← HK.out, clC_at hlt (by rw [HTW.out, h1, h2]; rfl)]
      have hno : (x && y) = false → clC l (k + 1) = X := fun h1 => by rw [← clC_step hlt (by rw [HTW.out]; exact h1)]; exact HK.out
      have HYES := Lib.hid hyes; have HNO := Lib.hid hno
      clear hyes hno
      cases x <;> cases y
      · go_wp2_with fail
        go_round
        case rel => exact ⟨k + 1, by omega, by go_num, Lib.hid (HNO.out rfl)⟩
        case measure => first | (simp [intOf]; done) | (simp [intOf]; omega)
      · go_wp2_with fail
        go_round
        case rel => exact ⟨k + 1, by omega, by go_num, Lib.hid (HNO.out rfl)⟩
        case measure => first | (simp [intOf]; done) | (simp [intOf]; omega)
      · go_wp2_with fail
        go_round
        case rel => exact ⟨k + 1, by omega, by go_num, Lib.hid (HNO.out rfl)⟩
        case measure => first | (simp [intOf]; done) | (simp [intOf]; omega)
      · have H := Lib.hid (HYES.out rfl rfl)
        go_wp2_with fail
        go_ret
        exact ⟨by rw [H.out]; rfl, rfl⟩
    · have H : Hid (X = -1) := Lib.hid (by rw [← HK.out, clC_end hlt])
      have hki2 : ¬ (k : Int) + 1 < (l.length : Int) := by omega
      clear hlt
      go_wp2_with fail
      go_ret
      exact ⟨by rw [H.out]; rfl, rfl⟩
end Go.Proofs.Ytiadflipakjeeaa
