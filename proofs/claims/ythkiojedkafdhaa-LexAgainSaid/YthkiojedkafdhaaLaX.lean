/- anew of LexAgain returns true. Under the conditions that it names. -/
import Derived.Test.YthkiojedkafdhaaLaC
import Derived.Test.YthkiojedkafdhaaLaK
namespace Go.Proofs.Ythkiojedkafdhaa
open Go.RowKit
set_option maxRecDepth 100000 in
set_option maxHeartbeats 8000000 in
theorem anew_is (s : ByteArray) (g c : List UInt8) (hP : Put g c) (w : World) (hs : s.size ≤ 9223372036854775807) :
    Calls Try.prog 6 #[.string s, .string ⟨g.toArray⟩, .string ⟨c.toArray⟩] w fun e w' => e = .returned (.bool true) ∧ Below w.heap.size w w' := by
  have HT := Lib.hid (tk_way s.data.toList w (by simpa using hs))
  rw [← all_of' s] at HT
  have HP := Lib.hid hP
  clear hP
  go_enter Try.func6, Try.ntmps6
  go_wp2_with fail
  go_at_call 8
  refine HT.out.mono ?_
  clear HT
  rintro e w2 ⟨hb2, ⟨u, v, E, hE, hno, rfl⟩ | ⟨sv, hck, rfl, hown⟩⟩
  · have e1 : (E != 0) = true := by simpa using hE
    have e2 : (E == 0) = false := by simpa using hE
    have HB2 := Lib.hid (hb2.alloc hb2.size (.cells #[.int .i64 u, .int .i64 v] 27))
    clear hb2 hno
    go_wp2_with fail
    go_ret
    exact ⟨rfl, HB2.out⟩
  · have HB2 := Lib.hid (hb2.alloc hb2.size (.cells #[.int .i64 0, .int .i64 0] 27))
    have HO := Lib.hid hown
    have HCK := Lib.hid hck
    obtain ⟨p, cp, rfl, hpg⟩ := own_form hown
    have HPG := Lib.hid hpg
    obtain ⟨d, hd⟩ : ∃ d, (toks s.data.toList.length s.data.toList (1, 1)).1 = d := ⟨_, rfl⟩
    have HD := Lib.hid hd
    rw [hd] at HO HPG ⊢
    clear hb2 hown hck hpg hd
    by_cases h1 : 10000 < s.size
    · have q1 : decide ((s.size : Int) > 10000) = true := by simp; omega
      have q2 : (s.size : Int) > 10000 := by omega
      go_wp2_with fail
      go_ret
      exact ⟨rfl, HB2.out⟩
    have q1 : decide ((s.size : Int) > 10000) = false := by simp; omega
    have q2 : ¬ (s.size : Int) > 10000 := by omega
    by_cases h2 : 1000 < d.length
    · have q3 : (d.length : Int) > 1000 := by omega
      go_wp2_with fail
      go_ret
      exact ⟨rfl, HB2.out⟩
    have q3 : ¬ (d.length : Int) > 1000 := by omega
    clear h1 h2
    go_wp2_with fail
    obtain ⟨W3, hW3⟩ : ∃ X, w2.alloc (.cells #[.int .i64 0, .int .i64 0] 27) = X := ⟨_, rfl⟩
    have HO3 : Hid (W3.ownsRow w.heap.size 40 4 (.slice p d.length cp) d.length (d.flatMap tokC)) := Lib.hid (by rw [← hW3]; exact HO.out.alloc _)
    rw [hW3] at HB2 ⊢
    clear HO hW3
    obtain ⟨T, hT⟩ : ∃ T, d.map bareT = T := ⟨_, rfl⟩
    have HTT := Lib.hid hT
    have hTl : T.length = d.length := by rw [← hT]; simp
    have htl : ∀ t ∈ T, t.2.length ≤ 65536 := fun t ht => by
      rw [← hT] at ht
      obtain ⟨y, hy, rfl⟩ := List.mem_map.1 ht
      have h1 := toks_tl _ _ _ y (by rw [HD.out]; exact hy)
      have h2 := (chk_of HCK.out).1
      simp only [bareT]; omega
    have HVL : Hid (∀ k, k ≤ d.length → ((T.take k).flatMap (pce g c)).length ≤ 100000000) := Lib.hid fun k hk => by
      have h1 := flat_le (f := pce g c) (M := 65596) (T.take k) fun x hx => pce_le HP.out (htl x (List.mem_of_mem_take hx))
      rw [List.length_take, Nat.min_eq_left (by omega)] at h1
      have h2 : k * 65596 ≤ 1000 * 65596 := Nat.mul_le_mul_right _ (by omega)
      omega
    have HTL := Lib.hid htl
    clear hT htl
    go_loopw [10, 11] (fun v i wr => ∃ k : Nat, k ≤ d.length ∧ i = .int .i64 k ∧ v = .string ⟨((T.take k).flatMap (pce g c)).toArray⟩ ∧ wr = W3) (fun _ i _ => d.length - (intOf i).toNat)
    case atStart => exact ⟨0, Nat.zero_le _, rfl, rfl, rfl⟩
    case round =>
      obtain ⟨k, hk, rfl, rfl, rfl⟩ := hrel
      by_cases hlt : k < d.length
      · obtain ⟨gt, rfl, hg1, hg2⟩ := HPG.out (by omega)
        obtain ⟨a0, a1, _, _⟩ := tok_cells HO3.out hlt
        have i1 : (0 : Int) ≤ (k : Int) := by omega
        have i2 : (k : Int) < (d.length : Int) := by omega
        have htk : T[k]? = some (d[k].1, d[k].2.1) := by rw [← HTT.out]; simp [hlt, bareT]
        obtain ⟨kd, hkd⟩ : ∃ x, d[k].1 = x := ⟨_, rfl⟩
        obtain ⟨tx, htx⟩ : ∃ x, d[k].2.1 = x := ⟨_, rfl⟩
        rw [hkd, htx] at htk
        rw [hkd] at a0; rw [htx] at a1
        have hxl : tx.length ≤ 65536 := HTL.out _ (List.mem_of_getElem? htk)
        have hvl := HVL.out k hk
        have hgl := HP.out.gl
        have hcl := HP.out.cl
        obtain ⟨vv, hvv⟩ : ∃ x, (T.take k).flatMap (pce g c) = x := ⟨_, rfl⟩
        rw [hvv] at hvl
        have HVV := Lib.hid hvv
        have HTK := Lib.hid htk
        try rw [hvv]
        clear hvv
        clear htk hkd htx
        by_cases hk1 : kd = 1
        · subst hk1
          go_wp2_with fail
          all_goals first | (exfalso; omega) | skip
          go_roundw
          case rel =>
            refine ⟨k + 1, by omega, by go_num, ?_, by first | rfl | trivial⟩
            rw [take_flat HTK.out, HVV.out]
            exact str_eq (by simp [pce, wordT, tailT])
          case measure => first | (simp [intOf]; done) | (simp [intOf]; omega)
        · have k2 : (kd == 1) = false := by simpa using hk1
          go_wp2_with fail
          all_goals first | (exfalso; omega) | skip
          go_roundw
          case rel =>
            refine ⟨k + 1, by omega, by go_num, ?_, by first | rfl | trivial⟩
            rw [take_flat HTK.out, HVV.out]
            exact str_eq (by simp [pce, wordT, tailT, hk1])
          case measure => first | (simp [intOf]; done) | (simp [intOf]; omega)
      · have hkl : k = d.length := by omega
        have i2 : ¬ (k : Int) < (d.length : Int) := by omega
        clear hlt
        subst hkl
        have hvl := HVL.out d.length (Nat.le_refl _)
        have htake : T.take d.length = T := List.take_of_length_le (by omega)
        have htB : tB s.data.toList = T := by unfold tB; rw [HD.out]; exact HTT.out
        rw [htake] at hvl ⊢
        obtain ⟨vv, hvv⟩ : ∃ x, T.flatMap (pce g c) = x := ⟨_, rfl⟩
        rw [hvv] at hvl ⊢
        obtain ⟨hs1, hs2⟩ := toks_same (l := s.data.toList) HP.out
        rw [htB, hvv] at hs1 hs2
        have hs3 : ChkV vv = chk0 ∨ 65536 < vv.length := by
          by_cases hl : vv.length ≤ 65536
          · have := toks_chk HP.out HCK.out (by rw [htB]; omega) (by rw [htB, hvv]; exact hl)
            rw [htB, hvv] at this
            exact .inl this
          · exact .inr (by omega)
        have HS1 := Lib.hid hs1; have HS2 := Lib.hid hs2; have HS3 := Lib.hid hs3
        have hsz : (⟨vv.toArray⟩ : ByteArray).size = vv.length := mk_size vv
        clear htake htB hvv hs1 hs2 hs3 HCK HVL HTL
        go_wp2_with fail
        go_at_call 8
        refine (tk_way vv wr (by omega)).mono ?_
        rintro e w5 ⟨hb5, ⟨u, v, E, hE, hno, rfl⟩ | ⟨sv, hck5, rfl, hown5⟩⟩
        · have e1 : (E != 0) = true := by simpa using hE
          have e2 : (E == 0) = false := by simpa using hE
          have HB5 := Lib.hid (Below.step HB2.out (hb5.alloc hb5.size (.cells #[.int .i64 u, .int .i64 v] 27)))
          have hbig : 65536 < vv.length := by
            rcases hno with h | h
            · exact HS3.out.resolve_left h
            · exact absurd HS2.out h
          have q5 : (vv.length : Int) > 65536 := by omega
          clear hb5 hno
          go_wp2_with fail
          go_ret
          refine ⟨?_, HB5.out⟩
          simp
        · obtain ⟨d2, hd2⟩ : ∃ d, (toks vv.length vv (1, 1)).1 = d := ⟨_, rfl⟩
          have HD2 := Lib.hid (show d2.map bareT = T from by rw [← hd2]; exact HS1.out)
          rw [hd2] at hown5
          have hl2 : d2.length = d.length := by rw [← hTl, ← HD2.out]; simp
          obtain ⟨p2, cp2, rfl, hpg2⟩ := own_form hown5
          have HB5 := Lib.hid (Below.step HB2.out (hb5.alloc hb5.size (.cells #[.int .i64 0, .int .i64 0] 27)))
          have HO5 := Lib.hid (hown5.alloc (.cells #[.int .i64 0, .int .i64 0] 27))
          have HO4 : Hid ((w5.alloc (.cells #[.int .i64 0, .int .i64 0] 27)).ownsRow w.heap.size 40 4 (.slice p d.length cp) d.length (d.flatMap tokC)) := Lib.hid ((ownsRow_of HO3.out fun x _ _ hx => hb5.block x hx).alloc _)
          have HPG2 := Lib.hid hpg2
          rw [hl2] at HPG2
          clear hb5 hown5 hpg2 hd2 HO3
          try rw [hl2]
          go_wp2_with fail
          obtain ⟨W6, hW6⟩ : ∃ X, w5.alloc (.cells #[.int .i64 0, .int .i64 0] 27) = X := ⟨_, rfl⟩
          rw [hW6] at HB5 HO5 HO4 ⊢
          clear hW6
          go_loopw [15] (fun i wr => ∃ k : Nat, k ≤ d.length ∧ i = .int .i64 k ∧ Below W6.heap.size W6 wr) (fun i _ => d.length - (intOf i).toNat)
          case atStart => exact ⟨0, Nat.zero_le _, rfl, Below.refl _ _⟩
          case round =>
            obtain ⟨k, hk, rfl, hbw⟩ := hrel
            by_cases hlt : k < d.length
            · obtain ⟨gt, rfl, _, _⟩ := HPG.out (by omega)
              obtain ⟨gu, rfl, _, _⟩ := HPG2.out (by omega)
              have hlt2 : k < d2.length := by omega
              obtain ⟨a0, a1, _, _⟩ := tok_cells (ownsRow_of HO4.out fun x _ _ hx => hbw.block x hx) hlt
              have hO5 := ownsRow_of HO5.out fun x _ _ hx => hbw.block x hx
              obtain ⟨b0, b1, _, _⟩ := tok_cells hO5 hlt2
              have ht1 : T[k]? = some (d[k].1, d[k].2.1) := by rw [← HTT.out]; simp [hlt, bareT]
              have ht2 : T[k]? = some (d2[k].1, d2[k].2.1) := by rw [← HD2.out]; simp [hlt2, bareT]
              rw [ht1] at ht2
              simp only [Option.some.injEq, Prod.mk.injEq] at ht2
              rw [← ht2.1] at b0
              rw [← ht2.2] at b1
              have e1 : (0 : Int) ≤ (k : Int) := by omega
              have e2 : (k : Int) < (d.length : Int) := by omega
              obtain ⟨kd, hkd⟩ : ∃ x, d[k].1 = x := ⟨_, rfl⟩
              obtain ⟨tx, htx⟩ : ∃ x, d[k].2.1 = x := ⟨_, rfl⟩
              rw [hkd] at a0 b0; rw [htx] at a1 b1
              clear hkd htx ht1 ht2 hO5
              go_wp2_with fail
              go_quiet (fail)
              go_wp2_with fail
              refine ⟨⟨k + 1, by omega, by go_num, Below.draws hbw _⟩, ?_⟩
              first | (simp [intOf]; done) | (simp [intOf]; omega)
            · have hkl : k = d.length := by omega
              have e2 : ¬ (k : Int) < (d.length : Int) := by omega
              clear hlt hkl
              go_wp2_with fail
              go_ret
              exact ⟨rfl, HB5.out.trans (hbw.mono HB5.out.size)⟩
end Go.Proofs.Ythkiojedkafdhaa
