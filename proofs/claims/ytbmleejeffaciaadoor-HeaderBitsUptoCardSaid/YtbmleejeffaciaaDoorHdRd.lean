/- What Cmp and Next of package waymarkref03 hand back. Under the condition that the fields are what their types hold. -/
import Derived.Test.YtbmleejeffaciaaDoorHdRb
import Derived.Test.YtbmleejeffaciaaDoorHdC
namespace Go.Proofs.YtbmleejeffaciaaDoor
open Go.RowKit
theorem V_lt104 {l : List Int} (h : B13 l) : V l < 2 ^ 104 := by
  have := V_lt h.byt
  rw [h.len] at this
  exact this
theorem div_bit (N c : Nat) (hc : c < 104) : N / 2 ^ (103 - c) = 2 * (N / 2 ^ (104 - c)) + if bt N c then 1 else 0 := by
  have e : 104 - c = (103 - c) + 1 := by omega
  unfold bt
  rw [e, Nat.pow_succ, ← Nat.div_div_eq_div_mul]
  have h2 := Nat.mod_two_eq_zero_or_one (N / 2 ^ (103 - c))
  rcases h2 with h2 | h2 <;> simp [h2] <;> omega
theorem differ_bit {M N c : Nat} (hc : c < 104) (hp : M / 2 ^ (104 - c) = N / 2 ^ (104 - c)) {x y : Bool} (hx : bt M c = x) (hy : bt N c = y) : (x = y → M / 2 ^ (103 - c) = N / 2 ^ (103 - c)) ∧ (x = false → y = true → M < N) ∧ (x = true → y = false → N < M) := by
  have h1 := div_bit M c hc
  have h2 := div_bit N c hc
  rw [hx, hp] at h1
  rw [hy] at h2
  refine ⟨fun e => by rw [h1, h2, e], fun ex ey => ?_, fun ex ey => ?_⟩
  · subst ex ey
    by_cases hle : N ≤ M
    · have := Nat.div_le_div_right (c := 2 ^ (103 - c)) hle
      simp at h1 h2; omega
    · omega
  · subst ex ey
    by_cases hle : M ≤ N
    · have := Nat.div_le_div_right (c := 2 ^ (103 - c)) hle
      simp at h1 h2; omega
    · omega
set_option maxRecDepth 100000 in
set_option maxHeartbeats 4000000 in
theorem cmpR_is (s d p sp dp s' d' p' sp' dp' : Int) (w : World) (h : Hdr s d p sp dp) (h' : Hdr s' d' p' sp' dp') :
    Calls Tryd.prog 17 #[.agg #[.int .u32 s, .int .u32 d, .int .u8 p, .int .u16 sp, .int .u16 dp], .agg #[.int .u32 s', .int .u32 d', .int .u8 p', .int .u16 sp', .int .u16 dp']] w fun e w' => e = .returned (.int .i64 (cmpH (byL s d p sp dp) (byL s' d' p' sp' dp'))) ∧ Below w.heap.size w w' := by
  have hA := byL_13 h
  have hB := byL_13 h'
  have e1 := cmpV_V (hA.len.trans hB.len.symm) hA.byt hB.byt
  change cmpH _ _ = _ at e1
  have HBA : Hid (∀ W, Calls Tryd.prog 30 #[.agg #[.int .u32 s, .int .u32 d, .int .u8 p, .int .u16 sp, .int .u16 dp]] W fun e w' => ∃ v, e = .returned v ∧ w'.ownsRow W.heap.size 4 1 v 104 ((bl (V (byL s d p sp dp))).map .bool) ∧ Below W.heap.size W w') := Lib.hid fun W => bits_is s d p sp dp W h
  have HBB : Hid (∀ W, Calls Tryd.prog 30 #[.agg #[.int .u32 s', .int .u32 d', .int .u8 p', .int .u16 sp', .int .u16 dp']] W fun e w' => ∃ v, e = .returned v ∧ w'.ownsRow W.heap.size 4 1 v 104 ((bl (V (byL s' d' p' sp' dp'))).map .bool) ∧ Below W.heap.size W w') := Lib.hid fun W => bits_is s' d' p' sp' dp' W h'
  have ha := V_lt104 hA
  have hb := V_lt104 hB
  rw [e1]
  clear e1 h h' hA hB
  generalize V (byL s d p sp dp) = M at *
  generalize V (byL s' d' p' sp' dp') = N at *
  obtain ⟨r, hr⟩ : ∃ r : Int, (if M < N then -1 else if N < M then 1 else 0) = r := ⟨_, rfl⟩
  rw [hr]
  obtain ⟨Z, hZ⟩ : ∃ Z, (w.alloc (.cells #[.int .u32 s, .int .u32 d, .int .u8 p, .int .u16 sp, .int .u16 dp] 27)).alloc (.cells #[.int .u32 s', .int .u32 d', .int .u8 p', .int .u16 sp', .int .u16 dp'] 27) = Z := ⟨_, rfl⟩
  have hb0 : Below w.heap.size w Z := by rw [← hZ]; exact ((Below.refl _ _).alloc (Nat.le_refl _) _).alloc (by simp) _
  have hBZ : Z.heap[w.heap.size + 1]? = some (.cells #[.int .u32 s', .int .u32 d', .int .u8 p', .int .u16 sp', .int .u16 dp'] 27 (0, 0)) := by rw [← hZ]; exact heap_alloc2_new w _ _
  have hAZ : Z.heap[w.heap.size]? = some (.cells #[.int .u32 s, .int .u32 d, .int .u8 p, .int .u16 sp, .int .u16 dp] 27 (0, 0)) := by rw [← hZ]; exact heap_alloc2_old w _ _
  have hz1 : w.heap.size + 1 < Z.heap.size := (Array.getElem?_eq_some_iff.1 hBZ).1
  have HB0 := Lib.hid hb0; have HBZ := Lib.hid hBZ; have HR := Lib.hid hr; have HLA := Lib.hid ha; have HLB := Lib.hid hb
  obtain ⟨k0, kf0⟩ := row_cell' (j := 0) hAZ rfl
  obtain ⟨k1, kf1⟩ := row_cell' (j := 1) hAZ rfl
  obtain ⟨k2, kf2⟩ := row_cell' (j := 2) hAZ rfl
  obtain ⟨k3, kf3⟩ := row_cell' (j := 3) hAZ rfl
  obtain ⟨k4, kf4⟩ := row_cell' (j := 4) hAZ rfl
  clear hb0 hBZ hAZ hr ha hb
  go_enter Tryd.func17, Tryd.ntmps17
  go_wp2_with fail
  go_at_call 30
  (with_reducible refine (HBA.out _).mono ?_)
  rintro e w1 ⟨v, rfl, hown, hb1⟩
  obtain ⟨g, cap, rfl, hg, hBa⟩ := bools_of hown
  have hB1 := (hb1.block _ hz1).trans HBZ.out
  clear k0 k1 k2 k3 k4 kf0 kf1 kf2 kf3 kf4 hown
  obtain ⟨k0, kf0⟩ := row_cell' (j := 0) hB1 rfl
  obtain ⟨k1, kf1⟩ := row_cell' (j := 1) hB1 rfl
  obtain ⟨k2, kf2⟩ := row_cell' (j := 2) hB1 rfl
  obtain ⟨k3, kf3⟩ := row_cell' (j := 3) hB1 rfl
  obtain ⟨k4, kf4⟩ := row_cell' (j := 4) hB1 rfl
  clear hB1
  go_wp2_with fail
  go_at_call 30
  (with_reducible refine (HBB.out _).mono ?_)
  rintro e w2 ⟨v, rfl, hown, hb2⟩
  obtain ⟨g', cap', rfl, hg', hBb⟩ := bools_of hown
  have hBa2 := hBa.on hb2
  have hb02 := Below.step hb1 hb2
  clear k0 k1 k2 k3 k4 kf0 kf1 kf2 kf3 kf4 hown hBa hb1 hb2
  go_wp2_with fail
  go_loopw [7] (fun s7 wr => ∃ c : Nat, c ≤ 104 ∧ s7 = .int .i64 c ∧ M / 2 ^ (104 - c) = N / 2 ^ (104 - c) ∧ Below w2.heap.size w2 wr) (fun s7 _ => 104 - (intOf s7).toNat)
  case atStart => exact ⟨0, by omega, rfl, by rw [Nat.sub_zero, Nat.div_eq_of_lt HLA.out, Nat.div_eq_of_lt HLB.out], Below.refl _ _⟩
  case round =>
    obtain ⟨c, hc, rfl, hp, hbr⟩ := hrel
    have HP := Lib.hid hp
    clear hp
    by_cases hlt : c < 104
    · have hc0 : (c : Int) < 104 := by omega
      obtain ⟨x, hx⟩ : ∃ x, bt M c = x := ⟨_, rfl⟩
      obtain ⟨y, hy⟩ : ∃ y, bt N c = y := ⟨_, rfl⟩
      obtain ⟨u0, _⟩ := (hBa2.on hbr).cell ((bl_at M c hlt).trans (congrArg some hx))
      obtain ⟨u1, _⟩ := (hBb.on hbr).cell ((bl_at N c hlt).trans (congrArg some hy))
      obtain ⟨d1, d2, d3⟩ := differ_bit hlt HP.out hx hy
      have D1 := Lib.hid d1; have D2 := Lib.hid d2; have D3 := Lib.hid d3
      have hbr' : Below w2.heap.size w2 wr.drew := hbr.drew
      clear d1 d2 d3 hx hy
      cases x <;> cases y
      · go_wp2_with fail
        go_quiet (fail)
        go_wp2
        go_roundw
        case rel => exact ⟨c + 1, by omega, by go_num, by rw [show 104 - (c + 1) = 103 - c by omega]; exact D1.out (by simp), by first | exact hbr | exact hbr' | exact Below.draws hbr _⟩
        case measure => first | (simp [intOf]; done) | (simp [intOf]; omega)
      · have H : Hid (r = -1) := Lib.hid (by have := D2.out (by simp) (by simp); rw [← HR.out, if_pos this])
        go_wp2_with fail
        go_quiet (fail)
        go_wp2
        go_ret
        exact ⟨ret_int H.out.symm, Below.step HB0.out (Below.step hb02 (by first | exact hbr | exact hbr' | exact Below.draws hbr _))⟩
      · have H : Hid (r = 1) := Lib.hid (by have := D3.out (by simp) (by simp); rw [← HR.out, if_neg (by omega), if_pos this])
        go_wp2_with fail
        go_quiet (fail)
        go_wp2
        go_ret
        exact ⟨ret_int H.out.symm, Below.step HB0.out (Below.step hb02 (by first | exact hbr | exact hbr' | exact Below.draws hbr _))⟩
      · go_wp2_with fail
        go_quiet (fail)
        go_wp2
        go_roundw
        case rel => exact ⟨c + 1, by omega, by go_num, by rw [show 104 - (c + 1) = 103 - c by omega]; exact D1.out (by simp), by first | exact hbr | exact hbr' | exact Below.draws hbr _⟩
        case measure => first | (simp [intOf]; done) | (simp [intOf]; omega)
    · obtain rfl : c = 104 := by omega
      have H : Hid (r = 0) := Lib.hid (by
        have h := HP.out
        rw [Nat.sub_self, Nat.pow_zero, Nat.div_one, Nat.div_one] at h
        rw [← HR.out, h, if_neg (by omega), if_neg (by omega)])
      clear hlt
      go_wp2_with fail
      go_ret
      exact ⟨ret_int H.out.symm, Below.step HB0.out (Below.step hb02 hbr)⟩
end Go.Proofs.YtbmleejeffaciaaDoor
