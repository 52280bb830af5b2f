/- Parse of package waymarkref10: what it hands back for whatever text of at most 1048576 bytes. No other condition. -/
import Derived.Test.YtgggmhaopcgkkaaGreatDoorFbU
import Derived.Test.YtgggmhaopcgkkaaGreatDoorFtM
import Derived.Test.YtgggmhaopcgkkaaGreatDoorFtA
import Derived.Test.YtgggmhaopcgkkaaGreatDoorFtB
import Derived.Test.YtgggmhaopcgkkaaGreatDoorRPreH
import Derived.Deep.CutBlock
namespace Go.Proofs.YtgggmhaopcgkkaaGreatDoor
open Go.RowKit
/-- How far the text has been cut: k bytes are read, the piece begun at f; d are the pieces before it. -/
def SpRel32 (s : ByteArray) (w wr : World) (s4 s5 s6 : Value) : Prop := ∃ (k f : Nat) (d : List (List UInt8)) (v : Value), s4 = v ∧ s5 = .int .i64 f ∧ s6 = .int .i64 k ∧ k ≤ s.size + 1 ∧ f ≤ s.size + 1 ∧ d.length ≤ f ∧ wr.ownsRow w.heap.size 9 1 v d.length (d.map strV) ∧ Below w.heap.size w wr ∧
    Hid (k ≤ s.size → f ≤ k ∧ sp32 s.data.toList = d ++ sp32 (s.data.toList.drop f) ∧ 32 ∉ (s.data.toList.drop f).take (k - f)) ∧ Hid (k = s.size + 1 → sp32 s.data.toList = d)
theorem far2 {W : World} {b c o o' p : Nat} {v v' u : Value} (h : W.cell? ⟨c, p, none⟩ = some u) (hne : b ≠ c) : ((W.setCell ⟨b, o, none⟩ v).setCell ⟨b, o', none⟩ v').cell? ⟨c, p, none⟩ = some u := by
  rw [World.cell?_setCell_far _ _ _ _ hne, World.cell?_setCell_far _ _ _ _ hne]
  exact h
theorem own_sl10 {w : World} {b : Nat} {e : TypeId} {k : Nat} {v : Value} {n : Nat} {xs : List Value} (h : w.ownsRow b e k v n xs) : ∃ p c, v = .slice p n c := by
  rcases h.2 with ⟨rfl, rfl⟩ | ⟨g, cap, cur, rfl, _⟩
  · exact ⟨_, _, rfl⟩
  · exact ⟨_, _, rfl⟩
set_option maxRecDepth 100000 in
set_option maxHeartbeats 60000000 in
theorem rparse10 (s : ByteArray) (w : World) (hs : s.size ≤ 1048576) : Calls Tryz.prog 8 #[.string s] w (ParseP s.data.toList w) := by
  obtain ⟨W1, hW1⟩ : ∃ X, w.alloc (.cells #[.bool false, .int .i64 0, .int .u32 0, .int .i64 0, .int .u32 0, .int .i64 0, .int .u32 0, .int .u32 0, .int .u32 0, .int .u32 0] 29) = X := ⟨_, rfl⟩
  have S1 : Hid (Bx w W1 w.heap.size 29 [.bool false, .int .i64 0, .int .u32 0, .int .i64 0, .int .u32 0, .int .i64 0, .int .u32 0, .int .u32 0, .int .u32 0, .int .u32 0]) := Lib.hid (by rw [← hW1]; exact Bx.mk1 _ _ _)
  go_enter Tryz.func8, Tryz.ntmps8
  go_wp2_with fail
  go_loopw [4, 5, 6] (fun s4 s5 s6 wr => SpRel32 s W1 wr s4 s5 s6) (fun _ _ s6 _ => s.size + 1 - (intOf s6).toNat)
  case atStart => exact ⟨0, 0, [], _, rfl, rfl, rfl, by omega, by omega, by simp, World.ownsRow_nil _ _ _ _, Below.refl _ _, Lib.hid fun _ => ⟨Nat.le_refl _, by simp, by simp⟩, Lib.hid fun h => by omega⟩
  case round =>
    obtain ⟨k, f, d, v, rfl, rfl, rfl, hk, hf, hd, hown, hbw, H1, H2⟩ := hrel
    have hle : W1.heap.size ≤ wr.heap.size := hbw.size
    obtain ⟨i0, hi0, hz0, hz1, hz2⟩ := info_parts infoS
    by_cases hlt : k ≤ s.size
    · obtain ⟨hfk, hsp, hno⟩ := H1.out hlt
      have HSP := Lib.hid hsp
      have HNO := Lib.hid hno
      clear H1 H2 hsp hno
      by_cases hend : k = s.size
      · subst hend
        have HF : Hid (sp32 s.data.toList = d ++ [(s.data.toList.drop f).take (s.size - f)]) := Lib.hid (by
          rw [HSP.out]
          have e : (s.data.toList.drop f).take (s.size - f) = s.data.toList.drop f := List.take_of_length_le (by simp)
          have h := HNO.out
          rw [e] at h ⊢
          rw [sp32_none _ h])
        go_wp2_with (first
          | (at_builtin; refine wpList_append_own _ rfl _ _ 58 rfl W1.heap.size 9 i0 (.string ⟨#[]⟩) 1 16 Tryz.underlying58 hi0 hz0 hz1 hz2 rfl (by decide) _ _ _ rfl (hown.alloc _) ⟨wr.heap.size, 0, none⟩ 1 1 [.string (s.extract f s.size)] rfl rfl (cell_one_new _ _ _) (fun x hx => by simp at hx; rcases hx with rfl; rfl) (by unfold maxLen; omega) (by omega) (by simp; omega) ?_; intro v' w3 hown' hgrow3 hnil3))
        have hbw3 : Below W1.heap.size W1 w3 := Below.grown (hbw.alloc hle _) hgrow3 (by simp; omega) (fun j hj => (hown.lt _ hj).1)
        have ho6 : w3.ownsRow W1.heap.size 9 1 v' (d ++ [(s.data.toList.drop f).take (s.size - f)]).length ((d ++ [(s.data.toList.drop f).take (s.size - f)]).map strV) := by
          have h := hown'
          rw [ext_mid] at h
          simpa [strV] using h
        go_roundw
        case rel => exact ⟨s.size + 1, s.size + 1, _, v', rfl, by go_num, by go_num, by omega, by omega, by simp; omega, ho6, hbw3, Lib.hid fun h => by omega, Lib.hid fun _ => HF.out⟩
        case measure => first | (simp [intOf]; done) | (simp [intOf]; omega)
      · have hks : k < s.size := by omega
        have hkl : k < s.data.toList.length := by rw [str_toList]; exact hks
        have hget := get_at s k hks hkl
        have hdp := drop_piece s.data.toList f k hfk hkl
        have htp := take_piece s.data.toList f k hfk hkl
        rw [hget] at hdp htp
        have HDP := Lib.hid hdp
        have HTP := Lib.hid htp
        have hne : ((k : Int) == (s.size : Int)) = false := by simp; omega
        clear hend hget hdp htp
        by_cases hc : s[k]'hks = 32
        · have hc1 : (((s[k]'hks).toNat : Int) == 32) = true := by rw [hc]; rfl
          have HF : Hid (sp32 s.data.toList = (d ++ [(s.data.toList.drop f).take (k - f)]) ++ sp32 (s.data.toList.drop (k + 1))) := Lib.hid (by
            have e : sp32 (s.data.toList.drop f) = (s.data.toList.drop f).take (k - f) :: sp32 (s.data.toList.drop (k + 1)) := by
              conv => lhs; rw [HDP.out, hc]
              exact sp32_dot _ _ HNO.out
            rw [HSP.out, e, List.append_assoc]; rfl)
          clear hc
          go_wp2_with (first
            | (at_builtin; refine wpList_append_own _ rfl _ _ 58 rfl W1.heap.size 9 i0 (.string ⟨#[]⟩) 1 16 Tryz.underlying58 hi0 hz0 hz1 hz2 rfl (by decide) _ _ _ rfl (hown.alloc _) ⟨wr.heap.size, 0, none⟩ 1 1 [.string (s.extract f k)] rfl rfl (cell_one_new _ _ _) (fun x hx => by simp at hx; rcases hx with rfl; rfl) (by unfold maxLen; omega) (by omega) (by simp; omega) ?_; intro v' w3 hown' hgrow3 hnil3))
          have hbw3 : Below W1.heap.size W1 w3 := Below.grown (hbw.alloc hle _) hgrow3 (by simp; omega) (fun j hj => (hown.lt _ hj).1)
          have ho6 : w3.ownsRow W1.heap.size 9 1 v' (d ++ [(s.data.toList.drop f).take (k - f)]).length ((d ++ [(s.data.toList.drop f).take (k - f)]).map strV) := by
            have h := hown'
            rw [ext_mid] at h
            simpa [strV] using h
          go_roundw
          case rel => exact ⟨k + 1, k + 1, _, v', rfl, by go_num, by go_num, by omega, by omega, by simp; omega, ho6, hbw3, Lib.hid fun _ => ⟨Nat.le_refl _, HF.out, by simp⟩, Lib.hid fun h => by omega⟩
          case measure => first | (simp [intOf]; done) | (simp [intOf]; omega)
        · have hc1 : (((s[k]'hks).toNat : Int) == 32) = false := by
            simp only [beq_eq_false_iff_ne, ne_eq]
            exact fun h => hc (UInt8.toNat_inj.mp (by have h32 : (32 : UInt8).toNat = 32 := rfl; omega))
          have HN2 : Hid (32 ∉ (s.data.toList.drop f).take (k + 1 - f)) := Lib.hid (by
            rw [HTP.out]
            simp only [List.mem_append, List.mem_singleton, not_or]
            exact ⟨HNO.out, fun h => hc h.symm⟩)
          clear hc
          go_wp2_with fail
          go_roundw
          case rel => exact ⟨k + 1, f, d, _, rfl, rfl, by go_num, by omega, by omega, by omega, hown, hbw, Lib.hid fun _ => ⟨by omega, HSP.out, HN2.out⟩, Lib.hid fun h => by omega⟩
          case measure => first | (simp [intOf]; done) | (simp [intOf]; omega)
    · have hk1 : k = s.size + 1 := by omega
      have HS := Lib.hid (H2.out hk1)
      clear H1 H2
      subst hk1
      rw [show ((s.size + 1 : Nat) : Int) = (s.size : Int) + 1 by omega]
      have hdd : decide ((s.size : Int) + 1 ≤ (s.size : Int)) = false := by simp; omega
      have HW : Hid (∀ q : RuleD, Good q → rtext q = s.data.toList → rwords q = d) := Lib.hid fun q hq e => by
        have h := sp32_text hq.pt (may_p hq.may) e
        rw [HS.out] at h
        exact h.symm
      have S2 := Lib.hid (S1.out.on hbw)
      by_cases h6 : d.length = 6
      · obtain ⟨u0, u1, u2, u3, u4, u5, rfl⟩ := six_of d h6
        clear h6
        have hlen := fun p hp => sp32_len s.data.toList p (by rw [HS.out]; exact hp)
        have z1 := hlen u1 (by simp); have z2 := hlen u2 (by simp); have z3 := hlen u3 (by simp); have z4 := hlen u4 (by simp); have z5 := hlen u5 (by simp)
        rw [str_toList] at z1 z2 z3 z4 z5
        clear hlen
        have HO := Lib.hid hown
        obtain ⟨_, hor⟩ := hown
        rcases hor with ⟨_, hz⟩ | ⟨g, cap, cur, rfl, hg, hh, hcap, hmax, hcs, htk⟩
        · simp at hz
        · have HSL : Hid (∀ W, Below wr.heap.size wr W → W.cell? ⟨g, 0, none⟩ = some (.string ⟨u0.toArray⟩) ∧ W.cell? ⟨g, 1, none⟩ = some (.string ⟨u1.toArray⟩) ∧ W.cell? ⟨g, 2, none⟩ = some (.string ⟨u2.toArray⟩) ∧ W.cell? ⟨g, 3, none⟩ = some (.string ⟨u3.toArray⟩) ∧ W.cell? ⟨g, 4, none⟩ = some (.string ⟨u4.toArray⟩) ∧ W.cell? ⟨g, 5, none⟩ = some (.string ⟨u5.toArray⟩)) := Lib.hid fun W hb => by
            have hx : ∀ j x, ([u0, u1, u2, u3, u4, u5].map strV)[j]? = some x → W.cell? ⟨g, j, none⟩ = some x := fun j x hj => by
              have h := HO.out.cells (g := g) rfl j x hj
              rw [Addr.add_lit, Nat.zero_add] at h
              exact (hb.cell (p := ⟨g, j, none⟩) (block_lt_of_cell h)).trans h
            exact ⟨hx 0 _ rfl, hx 1 _ rfl, hx 2 _ rfl, hx 3 _ rfl, hx 4 _ rfl, hx 5 _ rfl⟩
          have hcap6 : 6 ≤ cap := by simpa using hcap
          simp only [List.length_cons, List.length_nil, Nat.zero_add, Nat.reduceAdd]
          clear hg hh hcap hmax hcs htk HO
          obtain ⟨P, hP⟩ : ∃ P, (u0 == [112, 101, 114, 109, 105, 116]) = P := ⟨_, rfl⟩
          obtain ⟨⟨a, n, e2⟩, hA⟩ : ∃ X, pparse u2 = X := ⟨_, rfl⟩
          obtain ⟨⟨c, m, e3⟩, hC⟩ : ∃ X, pparse u3 = X := ⟨_, rfl⟩
          have ra := (pparse_range (l := u2)); have rc := (pparse_range (l := u3))
          rw [hA] at ra
          rw [hC] at rc
          have C2 : Hid (∀ W, Calls Tryz.prog 26 #[.string ⟨u2.toArray⟩] W fun e w' => e = .returned (.tuple #[.agg #[.int .u32 a, .int .i64 n], .int .i64 e2]) ∧ Below W.heap.size W w') := Lib.hid fun W => by
            have h := rpparse_is ⟨u2.toArray⟩ W (by rw [mk_size]; omega)
            rw [mk_toList, hA] at h
            exact h
          have C3 : Hid (∀ W, Calls Tryz.prog 26 #[.string ⟨u3.toArray⟩] W fun e w' => e = .returned (.tuple #[.agg #[.int .u32 c, .int .i64 m], .int .i64 e3]) ∧ Below W.heap.size W w') := Lib.hid fun W => by
            have h := rpparse_is ⟨u3.toArray⟩ W (by rw [mk_size]; omega)
            rw [mk_toList, hC] at h
            exact h
          have HA := Lib.hid hA; have HC := Lib.hid hC
          clear hA hC
          obtain ⟨l0, l1, l2, l3, l4, l5⟩ := HSL.out wr (Below.refl _ _)
          obtain ⟨m0, m1, m2, m3, m4, m5⟩ := HSL.out (wr.alloc (.cells #[.bool P, .int .i64 (-1), .int .u32 0, .int .i64 0, .int .u32 0, .int .i64 0, .int .u32 0, .int .u32 0, .int .u32 0, .int .u32 0] 29)) ((Below.refl _ _).alloc (Nat.le_refl _) _)
          by_cases hy : u1 = anyW
          · have k1 : (u1 == [97, 110, 121]) = true := by rw [hy]; decide
            have k2 : (u1 != [97, 110, 121]) = false := by rw [hy]; decide
            have HV : Hid (∀ n : Int, -1 ≤ n → n ≤ 255 → protoT n = u1 → (-1 : Int) = n) := Lib.hid fun n h0 _ h => (proto_any h0 (h.trans hy)).symm
            clear hy
            go_upto_region 17 with fail
            obtain ⟨X, hX⟩ : ∃ X, wr.alloc (.cells #[.bool P, .int .i64 (-1), .int .u32 0, .int .i64 0, .int .u32 0, .int .i64 0, .int .u32 0, .int .u32 0, .int .u32 0, .int .u32 0] 29) = X := ⟨_, rfl⟩
            have T : Hid (Bx wr X wr.heap.size 29 [.bool P, .int .i64 (-1), .int .u32 0, .int .i64 0, .int .u32 0, .int .i64 0, .int .u32 0, .int .u32 0, .int .u32 0, .int .u32 0]) := Lib.hid (by rw [← hX]; exact Bx.mk1 _ _ _)
            rw [hX]
            clear hX k1 k2 l0 l1 l2 l3 l4 l5 m0 m1 m2 m3 m4 m5
            obtain ⟨l0, l1, l2, l3, l4, l5⟩ := HSL.out X T.out.bel
            go_wp2_with fail
            go_at_call 26
            refine (C2.out _).mono ?_
            rintro e w4 ⟨rfl, hb4⟩
            have T4 := Lib.hid (T.out.on hb4)
            clear hb4
            clear l0 l1 l2 l3 l4 l5
            obtain ⟨l0, l1, l2, l3, l4, l5⟩ := HSL.out w4 T4.out.bel
            have xc2 : w4.cell? ⟨wr.heap.size, 2, none⟩ = some (.int .u32 0) := T4.out.cells 2
            have xc3 : w4.cell? ⟨wr.heap.size, 3, none⟩ = some (.int .i64 0) := T4.out.cells 3
            have xf2 := T4.out.free 2; have xf3 := T4.out.free 3
            obtain ⟨m0, m1, m2, m3, m4, m5⟩ := HSL.out ((w4.setCell ⟨wr.heap.size, 2, none⟩ (.int .u32 a)).setCell ⟨wr.heap.size, 3, none⟩ (.int .i64 n)) ((T4.out.st 2 (.int .u32 a)).st 3 (.int .i64 n)).bel
            go_wp2_with fail
            clear m0 m1 m2 m3 m4 m5
            obtain ⟨w5, hw5⟩ : ∃ V, ((w4.setCell ⟨wr.heap.size, 2, none⟩ (.int .u32 a)).setCell ⟨wr.heap.size, 3, none⟩ (.int .i64 n)) = V := ⟨_, rfl⟩
            have T5 : Hid (Bx wr w5 wr.heap.size 29 [.bool P, .int .i64 (-1), .int .u32 a, .int .i64 n, .int .u32 0, .int .i64 0, .int .u32 0, .int .u32 0, .int .u32 0, .int .u32 0]) := Lib.hid (by rw [← hw5]; exact (T4.out.st 2 (.int .u32 a)).st 3 (.int .i64 n))
            rw [hw5]
            clear hw5 xc2 xc3 xf2 xf3 l0 l1 l2 l3 l4 l5
            go_at_call 26
            refine (C3.out _).mono ?_
            rintro e w6 ⟨rfl, hb6⟩
            have T6 := Lib.hid (T5.out.on hb6)
            clear hb6
            have xc4 : w6.cell? ⟨wr.heap.size, 4, none⟩ = some (.int .u32 0) := T6.out.cells 4
            have xc5 : w6.cell? ⟨wr.heap.size, 5, none⟩ = some (.int .i64 0) := T6.out.cells 5
            have xf4 := T6.out.free 4; have xf5 := T6.out.free 5
            obtain ⟨m0, m1, m2, m3, m4, m5⟩ := HSL.out ((w6.setCell ⟨wr.heap.size, 4, none⟩ (.int .u32 c)).setCell ⟨wr.heap.size, 5, none⟩ (.int .i64 m)) ((T6.out.st 4 (.int .u32 c)).st 5 (.int .i64 m)).bel
            go_wp2_with fail
            clear m0 m1 m2 m3 m4 m5
            obtain ⟨w7, hw7⟩ : ∃ V, ((w6.setCell ⟨wr.heap.size, 4, none⟩ (.int .u32 c)).setCell ⟨wr.heap.size, 5, none⟩ (.int .i64 m)) = V := ⟨_, rfl⟩
            have T7 : Hid (Bx wr w7 wr.heap.size 29 [.bool P, .int .i64 (-1), .int .u32 a, .int .i64 n, .int .u32 c, .int .i64 m, .int .u32 0, .int .u32 0, .int .u32 0, .int .u32 0]) := Lib.hid (by rw [← hw7]; exact (T6.out.st 4 (.int .u32 c)).st 5 (.int .i64 m))
            rw [hw7]
            clear hw7 xc4 xc5 xf4 xf5
            go_at_call 27
            refine (rports_is ⟨u4.toArray⟩ (by rw [mk_size]; omega) _).mono ?_
            rintro e w8 ⟨hb8, a1, a2, t4, rfl, r0, r1, r2, r3, hv4⟩
            rw [mk_toList] at hv4
            have T8 := Lib.hid (T7.out.on hb8)
            have V4 := Lib.hid hv4
            clear hb8 hv4
            have T9 : Hid (Bx wr (w8.alloc (.cells #[.int .u32 a1, .int .u32 a2] 27)) wr.heap.size 29 [.bool P, .int .i64 (-1), .int .u32 a, .int .i64 n, .int .u32 c, .int .i64 m, .int .u32 0, .int .u32 0, .int .u32 0, .int .u32 0]) := Lib.hid (T8.out.on ((Below.refl _ _).alloc (Nat.le_refl _) _))
            have D9 : Hid (Bx w8 (w8.alloc (.cells #[.int .u32 a1, .int .u32 a2] 27)) w8.heap.size 27 [.int .u32 a1, .int .u32 a2]) := Lib.hid (Bx.mk1 _ _ _)
            obtain ⟨m0, m1, m2, m3, m4, m5⟩ := HSL.out (w8.alloc (.cells #[.int .u32 a1, .int .u32 a2] 27)) T9.out.bel
            go_wp2_with fail
            clear m0 m1 m2 m3 m4 m5
            go_at_call 27
            refine (rports_is ⟨u5.toArray⟩ (by rw [mk_size]; omega) _).mono ?_
            rintro e w10 ⟨hb10, d1, d2, t5, rfl, r4, r5, r6, r7, hv5⟩
            rw [mk_toList] at hv5
            have T10 := Lib.hid (T9.out.on hb10)
            have D10 := Lib.hid (D9.out.on hb10)
            have V5 := Lib.hid hv5
            clear hb10 hv5
            go_upto_region 21 with fail
            obtain ⟨w11, hw11⟩ : ∃ V, w10.alloc (.cells #[.int .u32 d1, .int .u32 d2] 27) = V := ⟨_, rfl⟩
            have T11 : Hid (Bx wr w11 wr.heap.size 29 [.bool P, .int .i64 (-1), .int .u32 a, .int .i64 n, .int .u32 c, .int .i64 m, .int .u32 0, .int .u32 0, .int .u32 0, .int .u32 0]) := Lib.hid (by rw [← hw11]; exact T10.out.on ((Below.refl _ _).alloc (Nat.le_refl _) _))
            have D11 : Hid (Bx w8 w11 w8.heap.size 27 [.int .u32 a1, .int .u32 a2]) := Lib.hid (by rw [← hw11]; exact D10.out.on ((Below.refl _ _).alloc (Nat.le_refl _) _))
            have E11 : Hid (Bx w10 w11 w10.heap.size 27 [.int .u32 d1, .int .u32 d2]) := Lib.hid (by rw [← hw11]; exact Bx.mk1 _ _ _)
            have hA8 : wr.heap.size ≠ w8.heap.size := Nat.ne_of_lt T8.out.sz
            have hB10 : wr.heap.size ≠ w10.heap.size := Nat.ne_of_lt T10.out.sz
            rw [hw11]
            clear hw11
            go_cut [7] (fun q7 wx => q7 = .pointer (some ⟨wr.heap.size, 0, none⟩) ∧ Bx wr wx wr.heap.size 29 [.bool P, .int .i64 (-1), .int .u32 a, .int .i64 n, .int .u32 c, .int .i64 m, .int .u32 a1, .int .u32 a2, .int .u32 d1, .int .u32 d2])
            case first =>
              obtain ⟨wd, hwd⟩ : ∃ V, w11.drew = V := ⟨_, rfl⟩
              have hT0 : Bx wr w11.drew wr.heap.size 29 [.bool P, .int .i64 (-1), .int .u32 a, .int .i64 n, .int .u32 c, .int .i64 m, .int .u32 0, .int .u32 0, .int .u32 0, .int .u32 0] := T11.out.on ((Below.refl _ _).drew)
              have hTd : Bx wr wd wr.heap.size 29 [.bool P, .int .i64 (-1), .int .u32 a, .int .i64 n, .int .u32 c, .int .i64 m, .int .u32 0, .int .u32 0, .int .u32 0, .int .u32 0] := by rw [← hwd]; exact hT0
              have hD0 := D11.out.on (W' := w11.drew) ((Below.refl _ _).drew)
              have hE0 := E11.out.on (W' := w11.drew) ((Below.refl _ _).drew)
              have y0 : w11.drew.cell? ⟨w8.heap.size, 0, none⟩ = some (.int .u32 a1) := hD0.cells 0
              have y1 : w11.drew.cell? ⟨w8.heap.size, 1, none⟩ = some (.int .u32 a2) := hD0.cells 1
              have y2 : w11.drew.cell? ⟨w10.heap.size, 0, none⟩ = some (.int .u32 d1) := hE0.cells 0
              have y3 : w11.drew.cell? ⟨w10.heap.size, 1, none⟩ = some (.int .u32 d2) := hE0.cells 1
              have v0 : wd.cell? ⟨w8.heap.size, 0, none⟩ = some (.int .u32 a1) := by rw [← hwd]; exact y0
              have v1 : wd.cell? ⟨w8.heap.size, 1, none⟩ = some (.int .u32 a2) := by rw [← hwd]; exact y1
              have v2 : wd.cell? ⟨w10.heap.size, 0, none⟩ = some (.int .u32 d1) := by rw [← hwd]; exact y2
              have v3 : wd.cell? ⟨w10.heap.size, 1, none⟩ = some (.int .u32 d2) := by rw [← hwd]; exact y3
              have q6 := hTd.cells 6; have g6 := hTd.free 6
              have q7 := hTd.cells 7; have g7 := hTd.free 7
              have q8 := hTd.cells 8; have g8 := hTd.free 8
              have q9 := hTd.cells 9; have g9 := hTd.free 9
              simp only [List.getElem?_cons_zero, List.getElem?_cons_succ] at q6 q7 q8 q9
              clear hD0 hE0
              go_region_held3 (fun w' => w'.cell? ⟨w8.heap.size, 0, none⟩ = some (.int .u32 a1) ∧ w'.cell? ⟨w8.heap.size, 1, none⟩ = some (.int .u32 a2) ∧ w'.cell? ⟨w10.heap.size, 0, none⟩ = some (.int .u32 d1) ∧ w'.cell? ⟨w10.heap.size, 1, none⟩ = some (.int .u32 d2)) ((refine ⟨?_, ?_, ?_, ?_⟩ <;> (first | with_reducible assumption | with_reducible exact far2 (by with_reducible assumption) hA8 | with_reducible exact far2 (by with_reducible assumption) hB10 | with_reducible exact far2 (far2 (by with_reducible assumption) hA8) hA8 | with_reducible exact far2 (far2 (by with_reducible assumption) hB10) hB10))) (fail)
              all_goals
                go_wp2_with fail
                go_meet
                refine ⟨rfl, ?_⟩
                first
                  | exact (((hTd.st 6 (.int .u32 a1)).st 7 (.int .u32 a2)).st 8 (.int .u32 d1)).st 9 (.int .u32 d2)
                  | exact (((hTd.st 8 (.int .u32 d1)).st 9 (.int .u32 d2)).st 6 (.int .u32 a1)).st 7 (.int .u32 a2)
            case rest =>
              obtain ⟨rfl, hbx⟩ := hcut
              have T12 := Lib.hid hbx
              clear hbx hA8 hB10
              have hok : (⟨P, -1, a, n, c, m, a1, a2, d1, d2⟩ : RuleD).ok := ⟨ra.1, ra.2.1, rc.1, rc.2.1⟩
              have hpt : PortsOk (⟨P, -1, a, n, c, m, a1, a2, d1, d2⟩ : RuleD) := ⟨r0, r1, r2, r3, r4, r5, r6, r7⟩
              have HFIN : Hid (∀ q : RuleD, Good q → rtext q = s.data.toList → e2 = 0 ∧ e3 = 0 ∧ t4 = true ∧ t5 = true ∧ (⟨P, -1, a, n, c, m, a1, a2, d1, d2⟩ : RuleD) = q) := Lib.hid fun q hq hw => by
                have hm := may_p hq.may
                have hp := hq.pt
                have h := HW.out q hq hw
                simp only [rwords, List.cons.injEq, and_true] at h
                obtain ⟨h0, h1, h2, h3, h4, h5⟩ := h
                have f0 := act_read h0
                have f1 := HV.out _ hm.p0 hm.p1 h1
                have f2 := pfx_read hq.ok.a0 hq.ok.a1 hm.s h2
                have f3 := pfx_read hq.ok.b0 hq.ok.b1 hm.d h3
                rw [HA.out] at f2
                rw [HC.out] at f3
                obtain ⟨f4, f5, f6⟩ := V4.out _ _ hp.a0 hm.x hm.x1 h4
                obtain ⟨f7, f8, f9⟩ := V5.out _ _ hp.c0 hm.y hm.y1 h5
                have tp : P = q.perm := by rw [← f0, ← hP]; rfl
                obtain ⟨qp, qn, x2, x3, x4, x5, x6, x7, x8, x9⟩ := q
                simp only [Prod.mk.injEq] at f1 f2 f3 f4 f5 f7 f8 tp
                simp only [RuleD.mk.injEq]
                exact ⟨f2.2.2, f3.2.2, f6, f9, tp, f1, f2.1, f2.2.1, f3.1, f3.2.1, f4, f5, f7, f8⟩
              obtain ⟨TX, hTX⟩ : ∃ V, rtext (⟨P, -1, a, n, c, m, a1, a2, d1, d2⟩ : RuleD) = V := ⟨_, rfl⟩
              have HX := Lib.hid hTX
              have HG := Lib.hid (fun h => (⟨hok, hpt, h⟩ : Good (⟨P, -1, a, n, c, m, a1, a2, d1, d2⟩ : RuleD)))
              have HTT : Hid (∀ W : World, Calls Tryz.prog 6 #[.agg #[.bool P, .int .i64 (-1), .int .u32 a, .int .i64 n, .int .u32 c, .int .i64 m, .int .u32 a1, .int .u32 a2, .int .u32 d1, .int .u32 d2]] W fun e w' => ∃ (tx : List UInt8) (gg : Int), e = .returned (.tuple #[.string ⟨tx.toArray⟩, .int .i64 gg]) ∧ Below W.heap.size W w' ∧ ((mayB (⟨P, -1, a, n, c, m, a1, a2, d1, d2⟩ : RuleD) = true ∧ gg = 0 ∧ tx = TX) ∨ (mayB (⟨P, -1, a, n, c, m, a1, a2, d1, d2⟩ : RuleD) = false ∧ gg = 121))) := Lib.hid fun W => by
                cases hM : mayB (⟨P, -1, a, n, c, m, a1, a2, d1, d2⟩ : RuleD) with
                | false => exact (rtext_no (⟨P, -1, a, n, c, m, a1, a2, d1, d2⟩ : RuleD) W hok hM).mono fun e w' ⟨h1, h2⟩ => ⟨[], 121, h1, h2, .inr ⟨rfl, rfl⟩⟩
                | true => exact (rtext_yes (⟨P, -1, a, n, c, m, a1, a2, d1, d2⟩ : RuleD) W hok hpt hM).mono fun e w' ⟨h1, h2⟩ => ⟨TX, 0, by rw [← hTX]; exact h1, h2, .inl ⟨rfl, rfl, rfl⟩⟩
              clear hTX hok hpt
              have dd0 : wc.cell? ⟨wr.heap.size, 0, none⟩ = some (.bool P) := T12.out.cells 0
              have dd1 : wc.cell? ⟨wr.heap.size, 1, none⟩ = some (.int .i64 (-1)) := T12.out.cells 1
              have dd2 : wc.cell? ⟨wr.heap.size, 2, none⟩ = some (.int .u32 a) := T12.out.cells 2
              have dd3 : wc.cell? ⟨wr.heap.size, 3, none⟩ = some (.int .i64 n) := T12.out.cells 3
              have dd4 : wc.cell? ⟨wr.heap.size, 4, none⟩ = some (.int .u32 c) := T12.out.cells 4
              have dd5 : wc.cell? ⟨wr.heap.size, 5, none⟩ = some (.int .i64 m) := T12.out.cells 5
              have dd6 : wc.cell? ⟨wr.heap.size, 6, none⟩ = some (.int .u32 a1) := T12.out.cells 6
              have dd7 : wc.cell? ⟨wr.heap.size, 7, none⟩ = some (.int .u32 a2) := T12.out.cells 7
              have dd8 : wc.cell? ⟨wr.heap.size, 8, none⟩ = some (.int .u32 d1) := T12.out.cells 8
              have dd9 : wc.cell? ⟨wr.heap.size, 9, none⟩ = some (.int .u32 d2) := T12.out.cells 9
              go_wp2_with fail
              go_at_call 6
              refine (HTT.out _).mono ?_
              rintro e w13 ⟨tx, gg, rfl, hb13, hgg⟩
              have T13 := Lib.hid (T12.out.on hb13)
              have U13 := Lib.hid (S2.out.on T13.out.bel)
              have HGG := Lib.hid hgg
              clear hb13 hgg dd0 dd1 dd2 dd3 dd4 dd5 dd6 dd7 dd8 dd9
              clear z1 z2 z3 z4 z5 ra rc r0 r1 r2 r3 r4 r5 r6 r7 V4 V5 HV HW HA HC C2 C3 HSL T12 HTT hP
              by_cases he2 : e2 = 0
              · have k1 : (e2 == 0) = true := by simpa using he2
                have k2 : (e2 != 0) = false := by simpa using he2
                clear he2
                by_cases he3 : e3 = 0
                · have k3 : (e3 == 0) = true := by simpa using he3
                  have k4 : (e3 != 0) = false := by simpa using he3
                  clear he3
                  cases t4 with
                  | false =>
                    have HNO : Hid (∀ q : RuleD, Good q → rtext q ≠ s.data.toList) := Lib.hid fun q hq h => by have := (HFIN.out q hq h).2.2.1; simp at this
                    have c0 : w13.cell? ⟨w.heap.size, 0, none⟩ = some (.bool false) := U13.out.cells 0
                    have c1 : w13.cell? ⟨w.heap.size, 1, none⟩ = some (.int .i64 0) := U13.out.cells 1
                    have c2 : w13.cell? ⟨w.heap.size, 2, none⟩ = some (.int .u32 0) := U13.out.cells 2
                    have c3 : w13.cell? ⟨w.heap.size, 3, none⟩ = some (.int .i64 0) := U13.out.cells 3
                    have c4 : w13.cell? ⟨w.heap.size, 4, none⟩ = some (.int .u32 0) := U13.out.cells 4
                    have c5 : w13.cell? ⟨w.heap.size, 5, none⟩ = some (.int .i64 0) := U13.out.cells 5
                    have c6 : w13.cell? ⟨w.heap.size, 6, none⟩ = some (.int .u32 0) := U13.out.cells 6
                    have c7 : w13.cell? ⟨w.heap.size, 7, none⟩ = some (.int .u32 0) := U13.out.cells 7
                    have c8 : w13.cell? ⟨w.heap.size, 8, none⟩ = some (.int .u32 0) := U13.out.cells 8
                    have c9 : w13.cell? ⟨w.heap.size, 9, none⟩ = some (.int .u32 0) := U13.out.cells 9
                    have g0 := U13.out.free 0
                    have g1 := U13.out.free 1
                    have g2 := U13.out.free 2
                    have g3 := U13.out.free 3
                    have g4 := U13.out.free 4
                    have g5 := U13.out.free 5
                    have g6 := U13.out.free 6
                    have g7 := U13.out.free 7
                    have g8 := U13.out.free 8
                    have g9 := U13.out.free 9
                    go_wp2
                    obtain ⟨w9, hw9⟩ : ∃ V, ((((((((((w13.setCell ⟨w.heap.size, 0, none⟩ (.bool false)).setCell ⟨w.heap.size, 1, none⟩ (.int .i64 0)).setCell ⟨w.heap.size, 2, none⟩ (.int .u32 0)).setCell ⟨w.heap.size, 3, none⟩ (.int .i64 0)).setCell ⟨w.heap.size, 4, none⟩ (.int .u32 0)).setCell ⟨w.heap.size, 5, none⟩ (.int .i64 0)).setCell ⟨w.heap.size, 6, none⟩ (.int .u32 0)).setCell ⟨w.heap.size, 7, none⟩ (.int .u32 0)).setCell ⟨w.heap.size, 8, none⟩ (.int .u32 0)).setCell ⟨w.heap.size, 9, none⟩ (.int .u32 0)) = V := ⟨_, rfl⟩
                    have U9 : Hid (Bx w w9 w.heap.size 29 [.bool false, .int .i64 0, .int .u32 0, .int .i64 0, .int .u32 0, .int .i64 0, .int .u32 0, .int .u32 0, .int .u32 0, .int .u32 0]) := Lib.hid (by rw [← hw9]; exact (((((((((U13.out.st 0 (.bool false)).st 1 (.int .i64 0)).st 2 (.int .u32 0)).st 3 (.int .i64 0)).st 4 (.int .u32 0)).st 5 (.int .i64 0)).st 6 (.int .u32 0)).st 7 (.int .u32 0)).st 8 (.int .u32 0)).st 9 (.int .u32 0))
                    rw [hw9]
                    clear hw9 c0 g0 c1 g1 c2 g2 c3 g3 c4 g4 c5 g5 c6 g6 c7 g7 c8 g8 c9 g9
                    have c0 : w9.cell? ⟨w.heap.size, 0, none⟩ = some (.bool false) := U9.out.cells 0
                    have c1 : w9.cell? ⟨w.heap.size, 1, none⟩ = some (.int .i64 0) := U9.out.cells 1
                    have c2 : w9.cell? ⟨w.heap.size, 2, none⟩ = some (.int .u32 0) := U9.out.cells 2
                    have c3 : w9.cell? ⟨w.heap.size, 3, none⟩ = some (.int .i64 0) := U9.out.cells 3
                    have c4 : w9.cell? ⟨w.heap.size, 4, none⟩ = some (.int .u32 0) := U9.out.cells 4
                    have c5 : w9.cell? ⟨w.heap.size, 5, none⟩ = some (.int .i64 0) := U9.out.cells 5
                    have c6 : w9.cell? ⟨w.heap.size, 6, none⟩ = some (.int .u32 0) := U9.out.cells 6
                    have c7 : w9.cell? ⟨w.heap.size, 7, none⟩ = some (.int .u32 0) := U9.out.cells 7
                    have c8 : w9.cell? ⟨w.heap.size, 8, none⟩ = some (.int .u32 0) := U9.out.cells 8
                    have c9 : w9.cell? ⟨w.heap.size, 9, none⟩ = some (.int .u32 0) := U9.out.cells 9
                    exact bodyPost_ret (v := .tuple #[.agg #[.bool false, .int .i64 0, .int .u32 0, .int .i64 0, .int .u32 0, .int .i64 0, .int .u32 0, .int .u32 0, .int .u32 0, .int .u32 0], .int .i64 4]) (by simp [results, Tryz.results8, go_sem, c0, c1, c2, c3, c4, c5, c6, c7, c8, c9]) rfl ⟨U9.out.bel, .inr ⟨HNO.out, rfl⟩⟩
                  | true =>
                    cases t5 with
                    | false =>
                      have HNO : Hid (∀ q : RuleD, Good q → rtext q ≠ s.data.toList) := Lib.hid fun q hq h => by have := (HFIN.out q hq h).2.2.2.1; simp at this
                      have c0 : w13.cell? ⟨w.heap.size, 0, none⟩ = some (.bool false) := U13.out.cells 0
                      have c1 : w13.cell? ⟨w.heap.size, 1, none⟩ = some (.int .i64 0) := U13.out.cells 1
                      have c2 : w13.cell? ⟨w.heap.size, 2, none⟩ = some (.int .u32 0) := U13.out.cells 2
                      have c3 : w13.cell? ⟨w.heap.size, 3, none⟩ = some (.int .i64 0) := U13.out.cells 3
                      have c4 : w13.cell? ⟨w.heap.size, 4, none⟩ = some (.int .u32 0) := U13.out.cells 4
                      have c5 : w13.cell? ⟨w.heap.size, 5, none⟩ = some (.int .i64 0) := U13.out.cells 5
                      have c6 : w13.cell? ⟨w.heap.size, 6, none⟩ = some (.int .u32 0) := U13.out.cells 6
                      have c7 : w13.cell? ⟨w.heap.size, 7, none⟩ = some (.int .u32 0) := U13.out.cells 7
                      have c8 : w13.cell? ⟨w.heap.size, 8, none⟩ = some (.int .u32 0) := U13.out.cells 8
                      have c9 : w13.cell? ⟨w.heap.size, 9, none⟩ = some (.int .u32 0) := U13.out.cells 9
                      have g0 := U13.out.free 0
                      have g1 := U13.out.free 1
                      have g2 := U13.out.free 2
                      have g3 := U13.out.free 3
                      have g4 := U13.out.free 4
                      have g5 := U13.out.free 5
                      have g6 := U13.out.free 6
                      have g7 := U13.out.free 7
                      have g8 := U13.out.free 8
                      have g9 := U13.out.free 9
                      go_wp2
                      obtain ⟨w9, hw9⟩ : ∃ V, ((((((((((w13.setCell ⟨w.heap.size, 0, none⟩ (.bool false)).setCell ⟨w.heap.size, 1, none⟩ (.int .i64 0)).setCell ⟨w.heap.size, 2, none⟩ (.int .u32 0)).setCell ⟨w.heap.size, 3, none⟩ (.int .i64 0)).setCell ⟨w.heap.size, 4, none⟩ (.int .u32 0)).setCell ⟨w.heap.size, 5, none⟩ (.int .i64 0)).setCell ⟨w.heap.size, 6, none⟩ (.int .u32 0)).setCell ⟨w.heap.size, 7, none⟩ (.int .u32 0)).setCell ⟨w.heap.size, 8, none⟩ (.int .u32 0)).setCell ⟨w.heap.size, 9, none⟩ (.int .u32 0)) = V := ⟨_, rfl⟩
                      have U9 : Hid (Bx w w9 w.heap.size 29 [.bool false, .int .i64 0, .int .u32 0, .int .i64 0, .int .u32 0, .int .i64 0, .int .u32 0, .int .u32 0, .int .u32 0, .int .u32 0]) := Lib.hid (by rw [← hw9]; exact (((((((((U13.out.st 0 (.bool false)).st 1 (.int .i64 0)).st 2 (.int .u32 0)).st 3 (.int .i64 0)).st 4 (.int .u32 0)).st 5 (.int .i64 0)).st 6 (.int .u32 0)).st 7 (.int .u32 0)).st 8 (.int .u32 0)).st 9 (.int .u32 0))
                      rw [hw9]
                      clear hw9 c0 g0 c1 g1 c2 g2 c3 g3 c4 g4 c5 g5 c6 g6 c7 g7 c8 g8 c9 g9
                      have c0 : w9.cell? ⟨w.heap.size, 0, none⟩ = some (.bool false) := U9.out.cells 0
                      have c1 : w9.cell? ⟨w.heap.size, 1, none⟩ = some (.int .i64 0) := U9.out.cells 1
                      have c2 : w9.cell? ⟨w.heap.size, 2, none⟩ = some (.int .u32 0) := U9.out.cells 2
                      have c3 : w9.cell? ⟨w.heap.size, 3, none⟩ = some (.int .i64 0) := U9.out.cells 3
                      have c4 : w9.cell? ⟨w.heap.size, 4, none⟩ = some (.int .u32 0) := U9.out.cells 4
                      have c5 : w9.cell? ⟨w.heap.size, 5, none⟩ = some (.int .i64 0) := U9.out.cells 5
                      have c6 : w9.cell? ⟨w.heap.size, 6, none⟩ = some (.int .u32 0) := U9.out.cells 6
                      have c7 : w9.cell? ⟨w.heap.size, 7, none⟩ = some (.int .u32 0) := U9.out.cells 7
                      have c8 : w9.cell? ⟨w.heap.size, 8, none⟩ = some (.int .u32 0) := U9.out.cells 8
                      have c9 : w9.cell? ⟨w.heap.size, 9, none⟩ = some (.int .u32 0) := U9.out.cells 9
                      exact bodyPost_ret (v := .tuple #[.agg #[.bool false, .int .i64 0, .int .u32 0, .int .i64 0, .int .u32 0, .int .i64 0, .int .u32 0, .int .u32 0, .int .u32 0, .int .u32 0], .int .i64 4]) (by simp [results, Tryz.results8, go_sem, c0, c1, c2, c3, c4, c5, c6, c7, c8, c9]) rfl ⟨U9.out.bel, .inr ⟨HNO.out, rfl⟩⟩
                    | true =>
                      rcases HGG.out with ⟨hM, rfl, rfl⟩ | ⟨hM, rfl⟩
                      · by_cases hx : tx = s.data.toList
                        · have HXX := Lib.hid hx
                          have k5 : (tx == s.toList) = true := by rw [hx]; simp [ByteArray.toList_eq]
                          have k6 : (tx != s.toList) = false := by rw [hx]; simp [ByteArray.toList_eq]
                          have HM := Lib.hid hM
                          clear hx hM
                          have dd0 : w13.cell? ⟨wr.heap.size, 0, none⟩ = some (.bool P) := T13.out.cells 0
                          have dd1 : w13.cell? ⟨wr.heap.size, 1, none⟩ = some (.int .i64 (-1)) := T13.out.cells 1
                          have dd2 : w13.cell? ⟨wr.heap.size, 2, none⟩ = some (.int .u32 a) := T13.out.cells 2
                          have dd3 : w13.cell? ⟨wr.heap.size, 3, none⟩ = some (.int .i64 n) := T13.out.cells 3
                          have dd4 : w13.cell? ⟨wr.heap.size, 4, none⟩ = some (.int .u32 c) := T13.out.cells 4
                          have dd5 : w13.cell? ⟨wr.heap.size, 5, none⟩ = some (.int .i64 m) := T13.out.cells 5
                          have dd6 : w13.cell? ⟨wr.heap.size, 6, none⟩ = some (.int .u32 a1) := T13.out.cells 6
                          have dd7 : w13.cell? ⟨wr.heap.size, 7, none⟩ = some (.int .u32 a2) := T13.out.cells 7
                          have dd8 : w13.cell? ⟨wr.heap.size, 8, none⟩ = some (.int .u32 d1) := T13.out.cells 8
                          have dd9 : w13.cell? ⟨wr.heap.size, 9, none⟩ = some (.int .u32 d2) := T13.out.cells 9
                          have c0 : w13.cell? ⟨w.heap.size, 0, none⟩ = some (.bool false) := U13.out.cells 0
                          have c1 : w13.cell? ⟨w.heap.size, 1, none⟩ = some (.int .i64 0) := U13.out.cells 1
                          have c2 : w13.cell? ⟨w.heap.size, 2, none⟩ = some (.int .u32 0) := U13.out.cells 2
                          have c3 : w13.cell? ⟨w.heap.size, 3, none⟩ = some (.int .i64 0) := U13.out.cells 3
                          have c4 : w13.cell? ⟨w.heap.size, 4, none⟩ = some (.int .u32 0) := U13.out.cells 4
                          have c5 : w13.cell? ⟨w.heap.size, 5, none⟩ = some (.int .i64 0) := U13.out.cells 5
                          have c6 : w13.cell? ⟨w.heap.size, 6, none⟩ = some (.int .u32 0) := U13.out.cells 6
                          have c7 : w13.cell? ⟨w.heap.size, 7, none⟩ = some (.int .u32 0) := U13.out.cells 7
                          have c8 : w13.cell? ⟨w.heap.size, 8, none⟩ = some (.int .u32 0) := U13.out.cells 8
                          have c9 : w13.cell? ⟨w.heap.size, 9, none⟩ = some (.int .u32 0) := U13.out.cells 9
                          have g0 := U13.out.free 0
                          have g1 := U13.out.free 1
                          have g2 := U13.out.free 2
                          have g3 := U13.out.free 3
                          have g4 := U13.out.free 4
                          have g5 := U13.out.free 5
                          have g6 := U13.out.free 6
                          have g7 := U13.out.free 7
                          have g8 := U13.out.free 8
                          have g9 := U13.out.free 9
                          go_wp2
                          obtain ⟨w9, hw9⟩ : ∃ V, ((((((((((w13.setCell ⟨w.heap.size, 0, none⟩ (.bool P)).setCell ⟨w.heap.size, 1, none⟩ (.int .i64 (-1))).setCell ⟨w.heap.size, 2, none⟩ (.int .u32 a)).setCell ⟨w.heap.size, 3, none⟩ (.int .i64 n)).setCell ⟨w.heap.size, 4, none⟩ (.int .u32 c)).setCell ⟨w.heap.size, 5, none⟩ (.int .i64 m)).setCell ⟨w.heap.size, 6, none⟩ (.int .u32 a1)).setCell ⟨w.heap.size, 7, none⟩ (.int .u32 a2)).setCell ⟨w.heap.size, 8, none⟩ (.int .u32 d1)).setCell ⟨w.heap.size, 9, none⟩ (.int .u32 d2)) = V := ⟨_, rfl⟩
                          have U9 : Hid (Bx w w9 w.heap.size 29 [.bool P, .int .i64 (-1), .int .u32 a, .int .i64 n, .int .u32 c, .int .i64 m, .int .u32 a1, .int .u32 a2, .int .u32 d1, .int .u32 d2]) := Lib.hid (by rw [← hw9]; exact (((((((((U13.out.st 0 (.bool P)).st 1 (.int .i64 (-1))).st 2 (.int .u32 a)).st 3 (.int .i64 n)).st 4 (.int .u32 c)).st 5 (.int .i64 m)).st 6 (.int .u32 a1)).st 7 (.int .u32 a2)).st 8 (.int .u32 d1)).st 9 (.int .u32 d2))
                          rw [hw9]
                          clear hw9 c0 g0 c1 g1 c2 g2 c3 g3 c4 g4 c5 g5 c6 g6 c7 g7 c8 g8 c9 g9
                          have c0 : w9.cell? ⟨w.heap.size, 0, none⟩ = some (.bool P) := U9.out.cells 0
                          have c1 : w9.cell? ⟨w.heap.size, 1, none⟩ = some (.int .i64 (-1)) := U9.out.cells 1
                          have c2 : w9.cell? ⟨w.heap.size, 2, none⟩ = some (.int .u32 a) := U9.out.cells 2
                          have c3 : w9.cell? ⟨w.heap.size, 3, none⟩ = some (.int .i64 n) := U9.out.cells 3
                          have c4 : w9.cell? ⟨w.heap.size, 4, none⟩ = some (.int .u32 c) := U9.out.cells 4
                          have c5 : w9.cell? ⟨w.heap.size, 5, none⟩ = some (.int .i64 m) := U9.out.cells 5
                          have c6 : w9.cell? ⟨w.heap.size, 6, none⟩ = some (.int .u32 a1) := U9.out.cells 6
                          have c7 : w9.cell? ⟨w.heap.size, 7, none⟩ = some (.int .u32 a2) := U9.out.cells 7
                          have c8 : w9.cell? ⟨w.heap.size, 8, none⟩ = some (.int .u32 d1) := U9.out.cells 8
                          have c9 : w9.cell? ⟨w.heap.size, 9, none⟩ = some (.int .u32 d2) := U9.out.cells 9
                          exact bodyPost_ret (v := .tuple #[.agg #[.bool P, .int .i64 (-1), .int .u32 a, .int .i64 n, .int .u32 c, .int .i64 m, .int .u32 a1, .int .u32 a2, .int .u32 d1, .int .u32 d2], .int .i64 0]) (by simp [results, Tryz.results8, go_sem, c0, c1, c2, c3, c4, c5, c6, c7, c8, c9]) rfl ⟨U9.out.bel, .inl ⟨_, HG.out HM.out, HX.out.trans HXX.out, rfl, fun q hq h => (HFIN.out q hq h).2.2.2.2⟩⟩
                        · have HXX := Lib.hid hx
                          have k5 : (tx == s.toList) = false := by simpa [ByteArray.toList_eq] using hx
                          have k6 : (tx != s.toList) = true := by simpa [ByteArray.toList_eq] using hx
                          clear hx
                          have HNO : Hid (∀ q : RuleD, Good q → rtext q ≠ s.data.toList) := Lib.hid fun q hq h => by
                            have e := (HFIN.out q hq h).2.2.2.2
                            subst e
                            exact HXX.out (HX.out.symm.trans h)
                          have c0 : w13.cell? ⟨w.heap.size, 0, none⟩ = some (.bool false) := U13.out.cells 0
                          have c1 : w13.cell? ⟨w.heap.size, 1, none⟩ = some (.int .i64 0) := U13.out.cells 1
                          have c2 : w13.cell? ⟨w.heap.size, 2, none⟩ = some (.int .u32 0) := U13.out.cells 2
                          have c3 : w13.cell? ⟨w.heap.size, 3, none⟩ = some (.int .i64 0) := U13.out.cells 3
                          have c4 : w13.cell? ⟨w.heap.size, 4, none⟩ = some (.int .u32 0) := U13.out.cells 4
                          have c5 : w13.cell? ⟨w.heap.size, 5, none⟩ = some (.int .i64 0) := U13.out.cells 5
                          have c6 : w13.cell? ⟨w.heap.size, 6, none⟩ = some (.int .u32 0) := U13.out.cells 6
                          have c7 : w13.cell? ⟨w.heap.size, 7, none⟩ = some (.int .u32 0) := U13.out.cells 7
                          have c8 : w13.cell? ⟨w.heap.size, 8, none⟩ = some (.int .u32 0) := U13.out.cells 8
                          have c9 : w13.cell? ⟨w.heap.size, 9, none⟩ = some (.int .u32 0) := U13.out.cells 9
                          have g0 := U13.out.free 0
                          have g1 := U13.out.free 1
                          have g2 := U13.out.free 2
                          have g3 := U13.out.free 3
                          have g4 := U13.out.free 4
                          have g5 := U13.out.free 5
                          have g6 := U13.out.free 6
                          have g7 := U13.out.free 7
                          have g8 := U13.out.free 8
                          have g9 := U13.out.free 9
                          go_wp2
                          obtain ⟨w9, hw9⟩ : ∃ V, ((((((((((w13.setCell ⟨w.heap.size, 0, none⟩ (.bool false)).setCell ⟨w.heap.size, 1, none⟩ (.int .i64 0)).setCell ⟨w.heap.size, 2, none⟩ (.int .u32 0)).setCell ⟨w.heap.size, 3, none⟩ (.int .i64 0)).setCell ⟨w.heap.size, 4, none⟩ (.int .u32 0)).setCell ⟨w.heap.size, 5, none⟩ (.int .i64 0)).setCell ⟨w.heap.size, 6, none⟩ (.int .u32 0)).setCell ⟨w.heap.size, 7, none⟩ (.int .u32 0)).setCell ⟨w.heap.size, 8, none⟩ (.int .u32 0)).setCell ⟨w.heap.size, 9, none⟩ (.int .u32 0)) = V := ⟨_, rfl⟩
                          have U9 : Hid (Bx w w9 w.heap.size 29 [.bool false, .int .i64 0, .int .u32 0, .int .i64 0, .int .u32 0, .int .i64 0, .int .u32 0, .int .u32 0, .int .u32 0, .int .u32 0]) := Lib.hid (by rw [← hw9]; exact (((((((((U13.out.st 0 (.bool false)).st 1 (.int .i64 0)).st 2 (.int .u32 0)).st 3 (.int .i64 0)).st 4 (.int .u32 0)).st 5 (.int .i64 0)).st 6 (.int .u32 0)).st 7 (.int .u32 0)).st 8 (.int .u32 0)).st 9 (.int .u32 0))
                          rw [hw9]
                          clear hw9 c0 g0 c1 g1 c2 g2 c3 g3 c4 g4 c5 g5 c6 g6 c7 g7 c8 g8 c9 g9
                          have c0 : w9.cell? ⟨w.heap.size, 0, none⟩ = some (.bool false) := U9.out.cells 0
                          have c1 : w9.cell? ⟨w.heap.size, 1, none⟩ = some (.int .i64 0) := U9.out.cells 1
                          have c2 : w9.cell? ⟨w.heap.size, 2, none⟩ = some (.int .u32 0) := U9.out.cells 2
                          have c3 : w9.cell? ⟨w.heap.size, 3, none⟩ = some (.int .i64 0) := U9.out.cells 3
                          have c4 : w9.cell? ⟨w.heap.size, 4, none⟩ = some (.int .u32 0) := U9.out.cells 4
                          have c5 : w9.cell? ⟨w.heap.size, 5, none⟩ = some (.int .i64 0) := U9.out.cells 5
                          have c6 : w9.cell? ⟨w.heap.size, 6, none⟩ = some (.int .u32 0) := U9.out.cells 6
                          have c7 : w9.cell? ⟨w.heap.size, 7, none⟩ = some (.int .u32 0) := U9.out.cells 7
                          have c8 : w9.cell? ⟨w.heap.size, 8, none⟩ = some (.int .u32 0) := U9.out.cells 8
                          have c9 : w9.cell? ⟨w.heap.size, 9, none⟩ = some (.int .u32 0) := U9.out.cells 9
                          exact bodyPost_ret (v := .tuple #[.agg #[.bool false, .int .i64 0, .int .u32 0, .int .i64 0, .int .u32 0, .int .i64 0, .int .u32 0, .int .u32 0, .int .u32 0, .int .u32 0], .int .i64 4]) (by simp [results, Tryz.results8, go_sem, c0, c1, c2, c3, c4, c5, c6, c7, c8, c9]) rfl ⟨U9.out.bel, .inr ⟨HNO.out, rfl⟩⟩
                      · have HNO : Hid (∀ q : RuleD, Good q → rtext q ≠ s.data.toList) := Lib.hid fun q hq h => by
                          have e := (HFIN.out q hq h).2.2.2.2
                          subst e
                          have := hq.may
                          rw [hM] at this
                          simp at this
                        clear hM
                        have c0 : w13.cell? ⟨w.heap.size, 0, none⟩ = some (.bool false) := U13.out.cells 0
                        have c1 : w13.cell? ⟨w.heap.size, 1, none⟩ = some (.int .i64 0) := U13.out.cells 1
                        have c2 : w13.cell? ⟨w.heap.size, 2, none⟩ = some (.int .u32 0) := U13.out.cells 2
                        have c3 : w13.cell? ⟨w.heap.size, 3, none⟩ = some (.int .i64 0) := U13.out.cells 3
                        have c4 : w13.cell? ⟨w.heap.size, 4, none⟩ = some (.int .u32 0) := U13.out.cells 4
                        have c5 : w13.cell? ⟨w.heap.size, 5, none⟩ = some (.int .i64 0) := U13.out.cells 5
                        have c6 : w13.cell? ⟨w.heap.size, 6, none⟩ = some (.int .u32 0) := U13.out.cells 6
                        have c7 : w13.cell? ⟨w.heap.size, 7, none⟩ = some (.int .u32 0) := U13.out.cells 7
                        have c8 : w13.cell? ⟨w.heap.size, 8, none⟩ = some (.int .u32 0) := U13.out.cells 8
                        have c9 : w13.cell? ⟨w.heap.size, 9, none⟩ = some (.int .u32 0) := U13.out.cells 9
                        have g0 := U13.out.free 0
                        have g1 := U13.out.free 1
                        have g2 := U13.out.free 2
                        have g3 := U13.out.free 3
                        have g4 := U13.out.free 4
                        have g5 := U13.out.free 5
                        have g6 := U13.out.free 6
                        have g7 := U13.out.free 7
                        have g8 := U13.out.free 8
                        have g9 := U13.out.free 9
                        go_wp2
                        obtain ⟨w9, hw9⟩ : ∃ V, ((((((((((w13.setCell ⟨w.heap.size, 0, none⟩ (.bool false)).setCell ⟨w.heap.size, 1, none⟩ (.int .i64 0)).setCell ⟨w.heap.size, 2, none⟩ (.int .u32 0)).setCell ⟨w.heap.size, 3, none⟩ (.int .i64 0)).setCell ⟨w.heap.size, 4, none⟩ (.int .u32 0)).setCell ⟨w.heap.size, 5, none⟩ (.int .i64 0)).setCell ⟨w.heap.size, 6, none⟩ (.int .u32 0)).setCell ⟨w.heap.size, 7, none⟩ (.int .u32 0)).setCell ⟨w.heap.size, 8, none⟩ (.int .u32 0)).setCell ⟨w.heap.size, 9, none⟩ (.int .u32 0)) = V := ⟨_, rfl⟩
                        have U9 : Hid (Bx w w9 w.heap.size 29 [.bool false, .int .i64 0, .int .u32 0, .int .i64 0, .int .u32 0, .int .i64 0, .int .u32 0, .int .u32 0, .int .u32 0, .int .u32 0]) := Lib.hid (by rw [← hw9]; exact (((((((((U13.out.st 0 (.bool false)).st 1 (.int .i64 0)).st 2 (.int .u32 0)).st 3 (.int .i64 0)).st 4 (.int .u32 0)).st 5 (.int .i64 0)).st 6 (.int .u32 0)).st 7 (.int .u32 0)).st 8 (.int .u32 0)).st 9 (.int .u32 0))
                        rw [hw9]
                        clear hw9 c0 g0 c1 g1 c2 g2 c3 g3 c4 g4 c5 g5 c6 g6 c7 g7 c8 g8 c9 g9
                        have c0 : w9.cell? ⟨w.heap.size, 0, none⟩ = some (.bool false) := U9.out.cells 0
                        have c1 : w9.cell? ⟨w.heap.size, 1, none⟩ = some (.int .i64 0) := U9.out.cells 1
                        have c2 : w9.cell? ⟨w.heap.size, 2, none⟩ = some (.int .u32 0) := U9.out.cells 2
                        have c3 : w9.cell? ⟨w.heap.size, 3, none⟩ = some (.int .i64 0) := U9.out.cells 3
                        have c4 : w9.cell? ⟨w.heap.size, 4, none⟩ = some (.int .u32 0) := U9.out.cells 4
                        have c5 : w9.cell? ⟨w.heap.size, 5, none⟩ = some (.int .i64 0) := U9.out.cells 5
                        have c6 : w9.cell? ⟨w.heap.size, 6, none⟩ = some (.int .u32 0) := U9.out.cells 6
                        have c7 : w9.cell? ⟨w.heap.size, 7, none⟩ = some (.int .u32 0) := U9.out.cells 7
                        have c8 : w9.cell? ⟨w.heap.size, 8, none⟩ = some (.int .u32 0) := U9.out.cells 8
                        have c9 : w9.cell? ⟨w.heap.size, 9, none⟩ = some (.int .u32 0) := U9.out.cells 9
                        exact bodyPost_ret (v := .tuple #[.agg #[.bool false, .int .i64 0, .int .u32 0, .int .i64 0, .int .u32 0, .int .i64 0, .int .u32 0, .int .u32 0, .int .u32 0, .int .u32 0], .int .i64 4]) (by simp [results, Tryz.results8, go_sem, c0, c1, c2, c3, c4, c5, c6, c7, c8, c9]) rfl ⟨U9.out.bel, .inr ⟨HNO.out, rfl⟩⟩
                · have HNO : Hid (∀ q : RuleD, Good q → rtext q ≠ s.data.toList) := Lib.hid fun q hq h => he3 (HFIN.out q hq h).2.1
                  have k3 : (e3 == 0) = false := by simpa using he3
                  have k4 : (e3 != 0) = true := by simpa using he3
                  clear he3
                  have c0 : w13.cell? ⟨w.heap.size, 0, none⟩ = some (.bool false) := U13.out.cells 0
                  have c1 : w13.cell? ⟨w.heap.size, 1, none⟩ = some (.int .i64 0) := U13.out.cells 1
                  have c2 : w13.cell? ⟨w.heap.size, 2, none⟩ = some (.int .u32 0) := U13.out.cells 2
                  have c3 : w13.cell? ⟨w.heap.size, 3, none⟩ = some (.int .i64 0) := U13.out.cells 3
                  have c4 : w13.cell? ⟨w.heap.size, 4, none⟩ = some (.int .u32 0) := U13.out.cells 4
                  have c5 : w13.cell? ⟨w.heap.size, 5, none⟩ = some (.int .i64 0) := U13.out.cells 5
                  have c6 : w13.cell? ⟨w.heap.size, 6, none⟩ = some (.int .u32 0) := U13.out.cells 6
                  have c7 : w13.cell? ⟨w.heap.size, 7, none⟩ = some (.int .u32 0) := U13.out.cells 7
                  have c8 : w13.cell? ⟨w.heap.size, 8, none⟩ = some (.int .u32 0) := U13.out.cells 8
                  have c9 : w13.cell? ⟨w.heap.size, 9, none⟩ = some (.int .u32 0) := U13.out.cells 9
                  have g0 := U13.out.free 0
                  have g1 := U13.out.free 1
                  have g2 := U13.out.free 2
                  have g3 := U13.out.free 3
                  have g4 := U13.out.free 4
                  have g5 := U13.out.free 5
                  have g6 := U13.out.free 6
                  have g7 := U13.out.free 7
                  have g8 := U13.out.free 8
                  have g9 := U13.out.free 9
                  go_wp2
                  obtain ⟨w9, hw9⟩ : ∃ V, ((((((((((w13.setCell ⟨w.heap.size, 0, none⟩ (.bool false)).setCell ⟨w.heap.size, 1, none⟩ (.int .i64 0)).setCell ⟨w.heap.size, 2, none⟩ (.int .u32 0)).setCell ⟨w.heap.size, 3, none⟩ (.int .i64 0)).setCell ⟨w.heap.size, 4, none⟩ (.int .u32 0)).setCell ⟨w.heap.size, 5, none⟩ (.int .i64 0)).setCell ⟨w.heap.size, 6, none⟩ (.int .u32 0)).setCell ⟨w.heap.size, 7, none⟩ (.int .u32 0)).setCell ⟨w.heap.size, 8, none⟩ (.int .u32 0)).setCell ⟨w.heap.size, 9, none⟩ (.int .u32 0)) = V := ⟨_, rfl⟩
                  have U9 : Hid (Bx w w9 w.heap.size 29 [.bool false, .int .i64 0, .int .u32 0, .int .i64 0, .int .u32 0, .int .i64 0, .int .u32 0, .int .u32 0, .int .u32 0, .int .u32 0]) := Lib.hid (by rw [← hw9]; exact (((((((((U13.out.st 0 (.bool false)).st 1 (.int .i64 0)).st 2 (.int .u32 0)).st 3 (.int .i64 0)).st 4 (.int .u32 0)).st 5 (.int .i64 0)).st 6 (.int .u32 0)).st 7 (.int .u32 0)).st 8 (.int .u32 0)).st 9 (.int .u32 0))
                  rw [hw9]
                  clear hw9 c0 g0 c1 g1 c2 g2 c3 g3 c4 g4 c5 g5 c6 g6 c7 g7 c8 g8 c9 g9
                  have c0 : w9.cell? ⟨w.heap.size, 0, none⟩ = some (.bool false) := U9.out.cells 0
                  have c1 : w9.cell? ⟨w.heap.size, 1, none⟩ = some (.int .i64 0) := U9.out.cells 1
                  have c2 : w9.cell? ⟨w.heap.size, 2, none⟩ = some (.int .u32 0) := U9.out.cells 2
                  have c3 : w9.cell? ⟨w.heap.size, 3, none⟩ = some (.int .i64 0) := U9.out.cells 3
                  have c4 : w9.cell? ⟨w.heap.size, 4, none⟩ = some (.int .u32 0) := U9.out.cells 4
                  have c5 : w9.cell? ⟨w.heap.size, 5, none⟩ = some (.int .i64 0) := U9.out.cells 5
                  have c6 : w9.cell? ⟨w.heap.size, 6, none⟩ = some (.int .u32 0) := U9.out.cells 6
                  have c7 : w9.cell? ⟨w.heap.size, 7, none⟩ = some (.int .u32 0) := U9.out.cells 7
                  have c8 : w9.cell? ⟨w.heap.size, 8, none⟩ = some (.int .u32 0) := U9.out.cells 8
                  have c9 : w9.cell? ⟨w.heap.size, 9, none⟩ = some (.int .u32 0) := U9.out.cells 9
                  exact bodyPost_ret (v := .tuple #[.agg #[.bool false, .int .i64 0, .int .u32 0, .int .i64 0, .int .u32 0, .int .i64 0, .int .u32 0, .int .u32 0, .int .u32 0, .int .u32 0], .int .i64 4]) (by simp [results, Tryz.results8, go_sem, c0, c1, c2, c3, c4, c5, c6, c7, c8, c9]) rfl ⟨U9.out.bel, .inr ⟨HNO.out, rfl⟩⟩
              · have HNO : Hid (∀ q : RuleD, Good q → rtext q ≠ s.data.toList) := Lib.hid fun q hq h => he2 (HFIN.out q hq h).1
                have k1 : (e2 == 0) = false := by simpa using he2
                have k2 : (e2 != 0) = true := by simpa using he2
                clear he2
                have c0 : w13.cell? ⟨w.heap.size, 0, none⟩ = some (.bool false) := U13.out.cells 0
                have c1 : w13.cell? ⟨w.heap.size, 1, none⟩ = some (.int .i64 0) := U13.out.cells 1
                have c2 : w13.cell? ⟨w.heap.size, 2, none⟩ = some (.int .u32 0) := U13.out.cells 2
                have c3 : w13.cell? ⟨w.heap.size, 3, none⟩ = some (.int .i64 0) := U13.out.cells 3
                have c4 : w13.cell? ⟨w.heap.size, 4, none⟩ = some (.int .u32 0) := U13.out.cells 4
                have c5 : w13.cell? ⟨w.heap.size, 5, none⟩ = some (.int .i64 0) := U13.out.cells 5
                have c6 : w13.cell? ⟨w.heap.size, 6, none⟩ = some (.int .u32 0) := U13.out.cells 6
                have c7 : w13.cell? ⟨w.heap.size, 7, none⟩ = some (.int .u32 0) := U13.out.cells 7
                have c8 : w13.cell? ⟨w.heap.size, 8, none⟩ = some (.int .u32 0) := U13.out.cells 8
                have c9 : w13.cell? ⟨w.heap.size, 9, none⟩ = some (.int .u32 0) := U13.out.cells 9
                have g0 := U13.out.free 0
                have g1 := U13.out.free 1
                have g2 := U13.out.free 2
                have g3 := U13.out.free 3
                have g4 := U13.out.free 4
                have g5 := U13.out.free 5
                have g6 := U13.out.free 6
                have g7 := U13.out.free 7
                have g8 := U13.out.free 8
                have g9 := U13.out.free 9
                go_wp2
                obtain ⟨w9, hw9⟩ : ∃ V, ((((((((((w13.setCell ⟨w.heap.size, 0, none⟩ (.bool false)).setCell ⟨w.heap.size, 1, none⟩ (.int .i64 0)).setCell ⟨w.heap.size, 2, none⟩ (.int .u32 0)).setCell ⟨w.heap.size, 3, none⟩ (.int .i64 0)).setCell ⟨w.heap.size, 4, none⟩ (.int .u32 0)).setCell ⟨w.heap.size, 5, none⟩ (.int .i64 0)).setCell ⟨w.heap.size, 6, none⟩ (.int .u32 0)).setCell ⟨w.heap.size, 7, none⟩ (.int .u32 0)).setCell ⟨w.heap.size, 8, none⟩ (.int .u32 0)).setCell ⟨w.heap.size, 9, none⟩ (.int .u32 0)) = V := ⟨_, rfl⟩
                have U9 : Hid (Bx w w9 w.heap.size 29 [.bool false, .int .i64 0, .int .u32 0, .int .i64 0, .int .u32 0, .int .i64 0, .int .u32 0, .int .u32 0, .int .u32 0, .int .u32 0]) := Lib.hid (by rw [← hw9]; exact (((((((((U13.out.st 0 (.bool false)).st 1 (.int .i64 0)).st 2 (.int .u32 0)).st 3 (.int .i64 0)).st 4 (.int .u32 0)).st 5 (.int .i64 0)).st 6 (.int .u32 0)).st 7 (.int .u32 0)).st 8 (.int .u32 0)).st 9 (.int .u32 0))
                rw [hw9]
                clear hw9 c0 g0 c1 g1 c2 g2 c3 g3 c4 g4 c5 g5 c6 g6 c7 g7 c8 g8 c9 g9
                have c0 : w9.cell? ⟨w.heap.size, 0, none⟩ = some (.bool false) := U9.out.cells 0
                have c1 : w9.cell? ⟨w.heap.size, 1, none⟩ = some (.int .i64 0) := U9.out.cells 1
                have c2 : w9.cell? ⟨w.heap.size, 2, none⟩ = some (.int .u32 0) := U9.out.cells 2
                have c3 : w9.cell? ⟨w.heap.size, 3, none⟩ = some (.int .i64 0) := U9.out.cells 3
                have c4 : w9.cell? ⟨w.heap.size, 4, none⟩ = some (.int .u32 0) := U9.out.cells 4
                have c5 : w9.cell? ⟨w.heap.size, 5, none⟩ = some (.int .i64 0) := U9.out.cells 5
                have c6 : w9.cell? ⟨w.heap.size, 6, none⟩ = some (.int .u32 0) := U9.out.cells 6
                have c7 : w9.cell? ⟨w.heap.size, 7, none⟩ = some (.int .u32 0) := U9.out.cells 7
                have c8 : w9.cell? ⟨w.heap.size, 8, none⟩ = some (.int .u32 0) := U9.out.cells 8
                have c9 : w9.cell? ⟨w.heap.size, 9, none⟩ = some (.int .u32 0) := U9.out.cells 9
                exact bodyPost_ret (v := .tuple #[.agg #[.bool false, .int .i64 0, .int .u32 0, .int .i64 0, .int .u32 0, .int .i64 0, .int .u32 0, .int .u32 0, .int .u32 0, .int .u32 0], .int .i64 4]) (by simp [results, Tryz.results8, go_sem, c0, c1, c2, c3, c4, c5, c6, c7, c8, c9]) rfl ⟨U9.out.bel, .inr ⟨HNO.out, rfl⟩⟩
          · have k1 : (u1 == [97, 110, 121]) = false := by simpa [anyW] using hy
            have k2 : (u1 != [97, 110, 121]) = true := by simpa [anyW] using hy
            obtain ⟨M, hM⟩ : ∃ X, numR (num u1 255) = X := ⟨_, rfl⟩
            have HRD : Hid (∀ W : World, Calls Tryz.prog 25 #[.string ⟨u1.toArray⟩, .int .i64 255] W fun e w' => e = .returned (.int .i64 M) ∧ W = w') := Lib.hid fun W => by
              have h := read_is ⟨u1.toArray⟩ 255 W (by omega) (by rw [mk_size]; omega)
              rw [mk_toList, hM] at h
              exact h
            have HV : Hid (∀ n : Int, -1 ≤ n → n ≤ 255 → protoT n = u1 → M = n) := Lib.hid fun n h0 h1 h => by
              have h2 := proto_num255 h0 h1 h hy
              have hn : n ≠ -1 := fun e => by subst e; exact hy h.symm
              rw [h2] at hM
              simp only [numR] at hM
              omega
            have HNEG : Hid (M < 0 → ∀ n : Int, -1 ≤ n → n ≤ 255 → protoT n ≠ u1) := Lib.hid fun hm n h0 h1 h => by
              have h2 := proto_num255 h0 h1 h hy
              rw [h2] at hM
              simp only [numR] at hM
              omega
            clear hy hM
            obtain ⟨X, hX⟩ : ∃ X, wr.alloc (.cells #[.bool P, .int .i64 (-1), .int .u32 0, .int .i64 0, .int .u32 0, .int .i64 0, .int .u32 0, .int .u32 0, .int .u32 0, .int .u32 0] 29) = X := ⟨_, rfl⟩
            have T0 : Hid (Bx wr X wr.heap.size 29 [.bool P, .int .i64 (-1), .int .u32 0, .int .i64 0, .int .u32 0, .int .i64 0, .int .u32 0, .int .u32 0, .int .u32 0, .int .u32 0]) := Lib.hid (by rw [← hX]; exact Bx.mk1 _ _ _)
            have hX2 : Hid (wr.alloc (.cells #[.bool P, .int .i64 (-1), .int .u32 0, .int .i64 0, .int .u32 0, .int .i64 0, .int .u32 0, .int .u32 0, .int .u32 0, .int .u32 0] 29) = X) := Lib.hid hX
            clear hX
            go_wp2_with fail
            rw [hX2.out]
            clear m0 m1 m2 m3 m4 m5 hX2
            go_at_call 25
            refine (HRD.out _).mono ?_
            rintro _ _ ⟨rfl, rfl⟩
            have xc1 : X.cell? ⟨wr.heap.size, 1, none⟩ = some (.int .i64 (-1)) := T0.out.cells 1
            have xf1 := T0.out.free 1
            have T : Hid (Bx wr (X.setCell ⟨wr.heap.size, 1, none⟩ (.int .i64 M)) wr.heap.size 29 [.bool P, .int .i64 M, .int .u32 0, .int .i64 0, .int .u32 0, .int .i64 0, .int .u32 0, .int .u32 0, .int .u32 0, .int .u32 0]) := Lib.hid (T0.out.st 1 (.int .i64 M))
            have U : Hid (Bx w (X.setCell ⟨wr.heap.size, 1, none⟩ (.int .i64 M)) w.heap.size 29 [.bool false, .int .i64 0, .int .u32 0, .int .i64 0, .int .u32 0, .int .i64 0, .int .u32 0, .int .u32 0, .int .u32 0, .int .u32 0]) := Lib.hid (S2.out.on T.out.bel)
            have hn1 : ¬ w.heap.size = wr.heap.size := by have := S2.out.sz; omega
            have hn2 : ¬ wr.heap.size = w.heap.size := by omega
            by_cases hm0 : M < 0
            · have HNO : Hid (∀ q : RuleD, Good q → rtext q ≠ s.data.toList) := Lib.hid fun q hq e => by
                have h := HW.out q hq e
                simp only [rwords, List.cons.injEq, and_true] at h
                have hm := may_p hq.may
                exact HNEG.out hm0 _ hm.p0 hm.p1 h.2.1
              have c0 : (X.setCell ⟨wr.heap.size, 1, none⟩ (.int .i64 M)).cell? ⟨w.heap.size, 0, none⟩ = some (.bool false) := U.out.cells 0
              have c1 : (X.setCell ⟨wr.heap.size, 1, none⟩ (.int .i64 M)).cell? ⟨w.heap.size, 1, none⟩ = some (.int .i64 0) := U.out.cells 1
              have c2 : (X.setCell ⟨wr.heap.size, 1, none⟩ (.int .i64 M)).cell? ⟨w.heap.size, 2, none⟩ = some (.int .u32 0) := U.out.cells 2
              have c3 : (X.setCell ⟨wr.heap.size, 1, none⟩ (.int .i64 M)).cell? ⟨w.heap.size, 3, none⟩ = some (.int .i64 0) := U.out.cells 3
              have c4 : (X.setCell ⟨wr.heap.size, 1, none⟩ (.int .i64 M)).cell? ⟨w.heap.size, 4, none⟩ = some (.int .u32 0) := U.out.cells 4
              have c5 : (X.setCell ⟨wr.heap.size, 1, none⟩ (.int .i64 M)).cell? ⟨w.heap.size, 5, none⟩ = some (.int .i64 0) := U.out.cells 5
              have c6 : (X.setCell ⟨wr.heap.size, 1, none⟩ (.int .i64 M)).cell? ⟨w.heap.size, 6, none⟩ = some (.int .u32 0) := U.out.cells 6
              have c7 : (X.setCell ⟨wr.heap.size, 1, none⟩ (.int .i64 M)).cell? ⟨w.heap.size, 7, none⟩ = some (.int .u32 0) := U.out.cells 7
              have c8 : (X.setCell ⟨wr.heap.size, 1, none⟩ (.int .i64 M)).cell? ⟨w.heap.size, 8, none⟩ = some (.int .u32 0) := U.out.cells 8
              have c9 : (X.setCell ⟨wr.heap.size, 1, none⟩ (.int .i64 M)).cell? ⟨w.heap.size, 9, none⟩ = some (.int .u32 0) := U.out.cells 9
              have g0 := U.out.free 0
              have g1 := U.out.free 1
              have g2 := U.out.free 2
              have g3 := U.out.free 3
              have g4 := U.out.free 4
              have g5 := U.out.free 5
              have g6 := U.out.free 6
              have g7 := U.out.free 7
              have g8 := U.out.free 8
              have g9 := U.out.free 9
              go_wp2
              obtain ⟨w9, hw9⟩ : ∃ V, (((((((((((X.setCell ⟨wr.heap.size, 1, none⟩ (.int .i64 M)).setCell ⟨w.heap.size, 0, none⟩ (.bool false)).setCell ⟨w.heap.size, 1, none⟩ (.int .i64 0)).setCell ⟨w.heap.size, 2, none⟩ (.int .u32 0)).setCell ⟨w.heap.size, 3, none⟩ (.int .i64 0)).setCell ⟨w.heap.size, 4, none⟩ (.int .u32 0)).setCell ⟨w.heap.size, 5, none⟩ (.int .i64 0)).setCell ⟨w.heap.size, 6, none⟩ (.int .u32 0)).setCell ⟨w.heap.size, 7, none⟩ (.int .u32 0)).setCell ⟨w.heap.size, 8, none⟩ (.int .u32 0)).setCell ⟨w.heap.size, 9, none⟩ (.int .u32 0)) = V := ⟨_, rfl⟩
              have U9 : Hid (Bx w w9 w.heap.size 29 [.bool false, .int .i64 0, .int .u32 0, .int .i64 0, .int .u32 0, .int .i64 0, .int .u32 0, .int .u32 0, .int .u32 0, .int .u32 0]) := Lib.hid (by rw [← hw9]; exact (((((((((U.out.st 0 (.bool false)).st 1 (.int .i64 0)).st 2 (.int .u32 0)).st 3 (.int .i64 0)).st 4 (.int .u32 0)).st 5 (.int .i64 0)).st 6 (.int .u32 0)).st 7 (.int .u32 0)).st 8 (.int .u32 0)).st 9 (.int .u32 0))
              rw [hw9]
              clear hw9 c0 g0 c1 g1 c2 g2 c3 g3 c4 g4 c5 g5 c6 g6 c7 g7 c8 g8 c9 g9
              have c0 : w9.cell? ⟨w.heap.size, 0, none⟩ = some (.bool false) := U9.out.cells 0
              have c1 : w9.cell? ⟨w.heap.size, 1, none⟩ = some (.int .i64 0) := U9.out.cells 1
              have c2 : w9.cell? ⟨w.heap.size, 2, none⟩ = some (.int .u32 0) := U9.out.cells 2
              have c3 : w9.cell? ⟨w.heap.size, 3, none⟩ = some (.int .i64 0) := U9.out.cells 3
              have c4 : w9.cell? ⟨w.heap.size, 4, none⟩ = some (.int .u32 0) := U9.out.cells 4
              have c5 : w9.cell? ⟨w.heap.size, 5, none⟩ = some (.int .i64 0) := U9.out.cells 5
              have c6 : w9.cell? ⟨w.heap.size, 6, none⟩ = some (.int .u32 0) := U9.out.cells 6
              have c7 : w9.cell? ⟨w.heap.size, 7, none⟩ = some (.int .u32 0) := U9.out.cells 7
              have c8 : w9.cell? ⟨w.heap.size, 8, none⟩ = some (.int .u32 0) := U9.out.cells 8
              have c9 : w9.cell? ⟨w.heap.size, 9, none⟩ = some (.int .u32 0) := U9.out.cells 9
              exact bodyPost_ret (v := .tuple #[.agg #[.bool false, .int .i64 0, .int .u32 0, .int .i64 0, .int .u32 0, .int .i64 0, .int .u32 0, .int .u32 0, .int .u32 0, .int .u32 0], .int .i64 4]) (by simp [results, Tryz.results8, go_sem, c0, c1, c2, c3, c4, c5, c6, c7, c8, c9]) rfl ⟨U9.out.bel, .inr ⟨HNO.out, rfl⟩⟩
            · go_upto_region 17 with fail
              obtain ⟨Y, hY⟩ : ∃ Y, X.setCell ⟨wr.heap.size, 1, none⟩ (.int .i64 M) = Y := ⟨_, rfl⟩
              rw [hY] at T
              clear U
              rw [hY]
              clear hY xc1 xf1 hm0
              clear l0 l1 l2 l3 l4 l5 T0 k1 k2
              obtain ⟨l0, l1, l2, l3, l4, l5⟩ := HSL.out Y T.out.bel
              go_wp2_with fail
              go_at_call 26
              refine (C2.out _).mono ?_
              rintro e w4 ⟨rfl, hb4⟩
              have T4 := Lib.hid (T.out.on hb4)
              clear hb4
              clear l0 l1 l2 l3 l4 l5
              obtain ⟨l0, l1, l2, l3, l4, l5⟩ := HSL.out w4 T4.out.bel
              have xc2 : w4.cell? ⟨wr.heap.size, 2, none⟩ = some (.int .u32 0) := T4.out.cells 2
              have xc3 : w4.cell? ⟨wr.heap.size, 3, none⟩ = some (.int .i64 0) := T4.out.cells 3
              have xf2 := T4.out.free 2; have xf3 := T4.out.free 3
              obtain ⟨m0, m1, m2, m3, m4, m5⟩ := HSL.out ((w4.setCell ⟨wr.heap.size, 2, none⟩ (.int .u32 a)).setCell ⟨wr.heap.size, 3, none⟩ (.int .i64 n)) ((T4.out.st 2 (.int .u32 a)).st 3 (.int .i64 n)).bel
              go_wp2_with fail
              clear m0 m1 m2 m3 m4 m5
              obtain ⟨w5, hw5⟩ : ∃ V, ((w4.setCell ⟨wr.heap.size, 2, none⟩ (.int .u32 a)).setCell ⟨wr.heap.size, 3, none⟩ (.int .i64 n)) = V := ⟨_, rfl⟩
              have T5 : Hid (Bx wr w5 wr.heap.size 29 [.bool P, .int .i64 M, .int .u32 a, .int .i64 n, .int .u32 0, .int .i64 0, .int .u32 0, .int .u32 0, .int .u32 0, .int .u32 0]) := Lib.hid (by rw [← hw5]; exact (T4.out.st 2 (.int .u32 a)).st 3 (.int .i64 n))
              rw [hw5]
              clear hw5 xc2 xc3 xf2 xf3 l0 l1 l2 l3 l4 l5
              go_at_call 26
              refine (C3.out _).mono ?_
              rintro e w6 ⟨rfl, hb6⟩
              have T6 := Lib.hid (T5.out.on hb6)
              clear hb6
              have xc4 : w6.cell? ⟨wr.heap.size, 4, none⟩ = some (.int .u32 0) := T6.out.cells 4
              have xc5 : w6.cell? ⟨wr.heap.size, 5, none⟩ = some (.int .i64 0) := T6.out.cells 5
              have xf4 := T6.out.free 4; have xf5 := T6.out.free 5
              obtain ⟨m0, m1, m2, m3, m4, m5⟩ := HSL.out ((w6.setCell ⟨wr.heap.size, 4, none⟩ (.int .u32 c)).setCell ⟨wr.heap.size, 5, none⟩ (.int .i64 m)) ((T6.out.st 4 (.int .u32 c)).st 5 (.int .i64 m)).bel
              go_wp2_with fail
              clear m0 m1 m2 m3 m4 m5
              obtain ⟨w7, hw7⟩ : ∃ V, ((w6.setCell ⟨wr.heap.size, 4, none⟩ (.int .u32 c)).setCell ⟨wr.heap.size, 5, none⟩ (.int .i64 m)) = V := ⟨_, rfl⟩
              have T7 : Hid (Bx wr w7 wr.heap.size 29 [.bool P, .int .i64 M, .int .u32 a, .int .i64 n, .int .u32 c, .int .i64 m, .int .u32 0, .int .u32 0, .int .u32 0, .int .u32 0]) := Lib.hid (by rw [← hw7]; exact (T6.out.st 4 (.int .u32 c)).st 5 (.int .i64 m))
              rw [hw7]
              clear hw7 xc4 xc5 xf4 xf5
              go_at_call 27
              refine (rports_is ⟨u4.toArray⟩ (by rw [mk_size]; omega) _).mono ?_
              rintro e w8 ⟨hb8, a1, a2, t4, rfl, r0, r1, r2, r3, hv4⟩
              rw [mk_toList] at hv4
              have T8 := Lib.hid (T7.out.on hb8)
              have V4 := Lib.hid hv4
              clear hb8 hv4
              have T9 : Hid (Bx wr (w8.alloc (.cells #[.int .u32 a1, .int .u32 a2] 27)) wr.heap.size 29 [.bool P, .int .i64 M, .int .u32 a, .int .i64 n, .int .u32 c, .int .i64 m, .int .u32 0, .int .u32 0, .int .u32 0, .int .u32 0]) := Lib.hid (T8.out.on ((Below.refl _ _).alloc (Nat.le_refl _) _))
              have D9 : Hid (Bx w8 (w8.alloc (.cells #[.int .u32 a1, .int .u32 a2] 27)) w8.heap.size 27 [.int .u32 a1, .int .u32 a2]) := Lib.hid (Bx.mk1 _ _ _)
              obtain ⟨m0, m1, m2, m3, m4, m5⟩ := HSL.out (w8.alloc (.cells #[.int .u32 a1, .int .u32 a2] 27)) T9.out.bel
              go_wp2_with fail
              clear m0 m1 m2 m3 m4 m5
              go_at_call 27
              refine (rports_is ⟨u5.toArray⟩ (by rw [mk_size]; omega) _).mono ?_
              rintro e w10 ⟨hb10, d1, d2, t5, rfl, r4, r5, r6, r7, hv5⟩
              rw [mk_toList] at hv5
              have T10 := Lib.hid (T9.out.on hb10)
              have D10 := Lib.hid (D9.out.on hb10)
              have V5 := Lib.hid hv5
              clear hb10 hv5
              go_upto_region 21 with fail
              obtain ⟨w11, hw11⟩ : ∃ V, w10.alloc (.cells #[.int .u32 d1, .int .u32 d2] 27) = V := ⟨_, rfl⟩
              have T11 : Hid (Bx wr w11 wr.heap.size 29 [.bool P, .int .i64 M, .int .u32 a, .int .i64 n, .int .u32 c, .int .i64 m, .int .u32 0, .int .u32 0, .int .u32 0, .int .u32 0]) := Lib.hid (by rw [← hw11]; exact T10.out.on ((Below.refl _ _).alloc (Nat.le_refl _) _))
              have D11 : Hid (Bx w8 w11 w8.heap.size 27 [.int .u32 a1, .int .u32 a2]) := Lib.hid (by rw [← hw11]; exact D10.out.on ((Below.refl _ _).alloc (Nat.le_refl _) _))
              have E11 : Hid (Bx w10 w11 w10.heap.size 27 [.int .u32 d1, .int .u32 d2]) := Lib.hid (by rw [← hw11]; exact Bx.mk1 _ _ _)
              have hA8 : wr.heap.size ≠ w8.heap.size := Nat.ne_of_lt T8.out.sz
              have hB10 : wr.heap.size ≠ w10.heap.size := Nat.ne_of_lt T10.out.sz
              rw [hw11]
              clear hw11
              go_cut [7] (fun q7 wx => q7 = .pointer (some ⟨wr.heap.size, 0, none⟩) ∧ Bx wr wx wr.heap.size 29 [.bool P, .int .i64 M, .int .u32 a, .int .i64 n, .int .u32 c, .int .i64 m, .int .u32 a1, .int .u32 a2, .int .u32 d1, .int .u32 d2])
              case first =>
                obtain ⟨wd, hwd⟩ : ∃ V, w11.drew = V := ⟨_, rfl⟩
                have hT0 : Bx wr w11.drew wr.heap.size 29 [.bool P, .int .i64 M, .int .u32 a, .int .i64 n, .int .u32 c, .int .i64 m, .int .u32 0, .int .u32 0, .int .u32 0, .int .u32 0] := T11.out.on ((Below.refl _ _).drew)
                have hTd : Bx wr wd wr.heap.size 29 [.bool P, .int .i64 M, .int .u32 a, .int .i64 n, .int .u32 c, .int .i64 m, .int .u32 0, .int .u32 0, .int .u32 0, .int .u32 0] := by rw [← hwd]; exact hT0
                have hD0 := D11.out.on (W' := w11.drew) ((Below.refl _ _).drew)
                have hE0 := E11.out.on (W' := w11.drew) ((Below.refl _ _).drew)
                have y0 : w11.drew.cell? ⟨w8.heap.size, 0, none⟩ = some (.int .u32 a1) := hD0.cells 0
                have y1 : w11.drew.cell? ⟨w8.heap.size, 1, none⟩ = some (.int .u32 a2) := hD0.cells 1
                have y2 : w11.drew.cell? ⟨w10.heap.size, 0, none⟩ = some (.int .u32 d1) := hE0.cells 0
                have y3 : w11.drew.cell? ⟨w10.heap.size, 1, none⟩ = some (.int .u32 d2) := hE0.cells 1
                have v0 : wd.cell? ⟨w8.heap.size, 0, none⟩ = some (.int .u32 a1) := by rw [← hwd]; exact y0
                have v1 : wd.cell? ⟨w8.heap.size, 1, none⟩ = some (.int .u32 a2) := by rw [← hwd]; exact y1
                have v2 : wd.cell? ⟨w10.heap.size, 0, none⟩ = some (.int .u32 d1) := by rw [← hwd]; exact y2
                have v3 : wd.cell? ⟨w10.heap.size, 1, none⟩ = some (.int .u32 d2) := by rw [← hwd]; exact y3
                have q6 := hTd.cells 6; have g6 := hTd.free 6
                have q7 := hTd.cells 7; have g7 := hTd.free 7
                have q8 := hTd.cells 8; have g8 := hTd.free 8
                have q9 := hTd.cells 9; have g9 := hTd.free 9
                simp only [List.getElem?_cons_zero, List.getElem?_cons_succ] at q6 q7 q8 q9
                clear hD0 hE0
                go_region_held3 (fun w' => w'.cell? ⟨w8.heap.size, 0, none⟩ = some (.int .u32 a1) ∧ w'.cell? ⟨w8.heap.size, 1, none⟩ = some (.int .u32 a2) ∧ w'.cell? ⟨w10.heap.size, 0, none⟩ = some (.int .u32 d1) ∧ w'.cell? ⟨w10.heap.size, 1, none⟩ = some (.int .u32 d2)) ((refine ⟨?_, ?_, ?_, ?_⟩ <;> (first | with_reducible assumption | with_reducible exact far2 (by with_reducible assumption) hA8 | with_reducible exact far2 (by with_reducible assumption) hB10 | with_reducible exact far2 (far2 (by with_reducible assumption) hA8) hA8 | with_reducible exact far2 (far2 (by with_reducible assumption) hB10) hB10))) (fail)
                all_goals
                  go_wp2_with fail
                  go_meet
                  refine ⟨rfl, ?_⟩
                  first
                    | exact (((hTd.st 6 (.int .u32 a1)).st 7 (.int .u32 a2)).st 8 (.int .u32 d1)).st 9 (.int .u32 d2)
                    | exact (((hTd.st 8 (.int .u32 d1)).st 9 (.int .u32 d2)).st 6 (.int .u32 a1)).st 7 (.int .u32 a2)
              case rest =>
                obtain ⟨rfl, hbx⟩ := hcut
                have T12 := Lib.hid hbx
                clear hbx hA8 hB10
                have hok : (⟨P, M, a, n, c, m, a1, a2, d1, d2⟩ : RuleD).ok := ⟨ra.1, ra.2.1, rc.1, rc.2.1⟩
                have hpt : PortsOk (⟨P, M, a, n, c, m, a1, a2, d1, d2⟩ : RuleD) := ⟨r0, r1, r2, r3, r4, r5, r6, r7⟩
                have HFIN : Hid (∀ q : RuleD, Good q → rtext q = s.data.toList → e2 = 0 ∧ e3 = 0 ∧ t4 = true ∧ t5 = true ∧ (⟨P, M, a, n, c, m, a1, a2, d1, d2⟩ : RuleD) = q) := Lib.hid fun q hq hw => by
                  have hm := may_p hq.may
                  have hp := hq.pt
                  have h := HW.out q hq hw
                  simp only [rwords, List.cons.injEq, and_true] at h
                  obtain ⟨h0, h1, h2, h3, h4, h5⟩ := h
                  have f0 := act_read h0
                  have f1 := HV.out _ hm.p0 hm.p1 h1
                  have f2 := pfx_read hq.ok.a0 hq.ok.a1 hm.s h2
                  have f3 := pfx_read hq.ok.b0 hq.ok.b1 hm.d h3
                  rw [HA.out] at f2
                  rw [HC.out] at f3
                  obtain ⟨f4, f5, f6⟩ := V4.out _ _ hp.a0 hm.x hm.x1 h4
                  obtain ⟨f7, f8, f9⟩ := V5.out _ _ hp.c0 hm.y hm.y1 h5
                  have tp : P = q.perm := by rw [← f0, ← hP]; rfl
                  obtain ⟨qp, qn, x2, x3, x4, x5, x6, x7, x8, x9⟩ := q
                  simp only [Prod.mk.injEq] at f1 f2 f3 f4 f5 f7 f8 tp
                  simp only [RuleD.mk.injEq]
                  exact ⟨f2.2.2, f3.2.2, f6, f9, tp, f1, f2.1, f2.2.1, f3.1, f3.2.1, f4, f5, f7, f8⟩
                obtain ⟨TX, hTX⟩ : ∃ V, rtext (⟨P, M, a, n, c, m, a1, a2, d1, d2⟩ : RuleD) = V := ⟨_, rfl⟩
                have HX := Lib.hid hTX
                have HG := Lib.hid (fun h => (⟨hok, hpt, h⟩ : Good (⟨P, M, a, n, c, m, a1, a2, d1, d2⟩ : RuleD)))
                have HTT : Hid (∀ W : World, Calls Tryz.prog 6 #[.agg #[.bool P, .int .i64 M, .int .u32 a, .int .i64 n, .int .u32 c, .int .i64 m, .int .u32 a1, .int .u32 a2, .int .u32 d1, .int .u32 d2]] W fun e w' => ∃ (tx : List UInt8) (gg : Int), e = .returned (.tuple #[.string ⟨tx.toArray⟩, .int .i64 gg]) ∧ Below W.heap.size W w' ∧ ((mayB (⟨P, M, a, n, c, m, a1, a2, d1, d2⟩ : RuleD) = true ∧ gg = 0 ∧ tx = TX) ∨ (mayB (⟨P, M, a, n, c, m, a1, a2, d1, d2⟩ : RuleD) = false ∧ gg = 121))) := Lib.hid fun W => by
                  cases hM : mayB (⟨P, M, a, n, c, m, a1, a2, d1, d2⟩ : RuleD) with
                  | false => exact (rtext_no (⟨P, M, a, n, c, m, a1, a2, d1, d2⟩ : RuleD) W hok hM).mono fun e w' ⟨h1, h2⟩ => ⟨[], 121, h1, h2, .inr ⟨rfl, rfl⟩⟩
                  | true => exact (rtext_yes (⟨P, M, a, n, c, m, a1, a2, d1, d2⟩ : RuleD) W hok hpt hM).mono fun e w' ⟨h1, h2⟩ => ⟨TX, 0, by rw [← hTX]; exact h1, h2, .inl ⟨rfl, rfl, rfl⟩⟩
                clear hTX hok hpt
                have dd0 : wc.cell? ⟨wr.heap.size, 0, none⟩ = some (.bool P) := T12.out.cells 0
                have dd1 : wc.cell? ⟨wr.heap.size, 1, none⟩ = some (.int .i64 M) := T12.out.cells 1
                have dd2 : wc.cell? ⟨wr.heap.size, 2, none⟩ = some (.int .u32 a) := T12.out.cells 2
                have dd3 : wc.cell? ⟨wr.heap.size, 3, none⟩ = some (.int .i64 n) := T12.out.cells 3
                have dd4 : wc.cell? ⟨wr.heap.size, 4, none⟩ = some (.int .u32 c) := T12.out.cells 4
                have dd5 : wc.cell? ⟨wr.heap.size, 5, none⟩ = some (.int .i64 m) := T12.out.cells 5
                have dd6 : wc.cell? ⟨wr.heap.size, 6, none⟩ = some (.int .u32 a1) := T12.out.cells 6
                have dd7 : wc.cell? ⟨wr.heap.size, 7, none⟩ = some (.int .u32 a2) := T12.out.cells 7
                have dd8 : wc.cell? ⟨wr.heap.size, 8, none⟩ = some (.int .u32 d1) := T12.out.cells 8
                have dd9 : wc.cell? ⟨wr.heap.size, 9, none⟩ = some (.int .u32 d2) := T12.out.cells 9
                go_wp2_with fail
                go_at_call 6
                refine (HTT.out _).mono ?_
                rintro e w13 ⟨tx, gg, rfl, hb13, hgg⟩
                have T13 := Lib.hid (T12.out.on hb13)
                have U13 := Lib.hid (S2.out.on T13.out.bel)
                have HGG := Lib.hid hgg
                clear hb13 hgg dd0 dd1 dd2 dd3 dd4 dd5 dd6 dd7 dd8 dd9
                clear z1 z2 z3 z4 z5 ra rc r0 r1 r2 r3 r4 r5 r6 r7 V4 V5 HV HW HA HC C2 C3 HSL T12 HTT hP
                by_cases he2 : e2 = 0
                · have k1 : (e2 == 0) = true := by simpa using he2
                  have k2 : (e2 != 0) = false := by simpa using he2
                  clear he2
                  by_cases he3 : e3 = 0
                  · have k3 : (e3 == 0) = true := by simpa using he3
                    have k4 : (e3 != 0) = false := by simpa using he3
                    clear he3
                    cases t4 with
                    | false =>
                      have HNO : Hid (∀ q : RuleD, Good q → rtext q ≠ s.data.toList) := Lib.hid fun q hq h => by have := (HFIN.out q hq h).2.2.1; simp at this
                      have c0 : w13.cell? ⟨w.heap.size, 0, none⟩ = some (.bool false) := U13.out.cells 0
                      have c1 : w13.cell? ⟨w.heap.size, 1, none⟩ = some (.int .i64 0) := U13.out.cells 1
                      have c2 : w13.cell? ⟨w.heap.size, 2, none⟩ = some (.int .u32 0) := U13.out.cells 2
                      have c3 : w13.cell? ⟨w.heap.size, 3, none⟩ = some (.int .i64 0) := U13.out.cells 3
                      have c4 : w13.cell? ⟨w.heap.size, 4, none⟩ = some (.int .u32 0) := U13.out.cells 4
                      have c5 : w13.cell? ⟨w.heap.size, 5, none⟩ = some (.int .i64 0) := U13.out.cells 5
                      have c6 : w13.cell? ⟨w.heap.size, 6, none⟩ = some (.int .u32 0) := U13.out.cells 6
                      have c7 : w13.cell? ⟨w.heap.size, 7, none⟩ = some (.int .u32 0) := U13.out.cells 7
                      have c8 : w13.cell? ⟨w.heap.size, 8, none⟩ = some (.int .u32 0) := U13.out.cells 8
                      have c9 : w13.cell? ⟨w.heap.size, 9, none⟩ = some (.int .u32 0) := U13.out.cells 9
                      have g0 := U13.out.free 0
                      have g1 := U13.out.free 1
                      have g2 := U13.out.free 2
                      have g3 := U13.out.free 3
                      have g4 := U13.out.free 4
                      have g5 := U13.out.free 5
                      have g6 := U13.out.free 6
                      have g7 := U13.out.free 7
                      have g8 := U13.out.free 8
                      have g9 := U13.out.free 9
                      go_wp2
                      obtain ⟨w9, hw9⟩ : ∃ V, ((((((((((w13.setCell ⟨w.heap.size, 0, none⟩ (.bool false)).setCell ⟨w.heap.size, 1, none⟩ (.int .i64 0)).setCell ⟨w.heap.size, 2, none⟩ (.int .u32 0)).setCell ⟨w.heap.size, 3, none⟩ (.int .i64 0)).setCell ⟨w.heap.size, 4, none⟩ (.int .u32 0)).setCell ⟨w.heap.size, 5, none⟩ (.int .i64 0)).setCell ⟨w.heap.size, 6, none⟩ (.int .u32 0)).setCell ⟨w.heap.size, 7, none⟩ (.int .u32 0)).setCell ⟨w.heap.size, 8, none⟩ (.int .u32 0)).setCell ⟨w.heap.size, 9, none⟩ (.int .u32 0)) = V := ⟨_, rfl⟩
                      have U9 : Hid (Bx w w9 w.heap.size 29 [.bool false, .int .i64 0, .int .u32 0, .int .i64 0, .int .u32 0, .int .i64 0, .int .u32 0, .int .u32 0, .int .u32 0, .int .u32 0]) := Lib.hid (by rw [← hw9]; exact (((((((((U13.out.st 0 (.bool false)).st 1 (.int .i64 0)).st 2 (.int .u32 0)).st 3 (.int .i64 0)).st 4 (.int .u32 0)).st 5 (.int .i64 0)).st 6 (.int .u32 0)).st 7 (.int .u32 0)).st 8 (.int .u32 0)).st 9 (.int .u32 0))
                      rw [hw9]
                      clear hw9 c0 g0 c1 g1 c2 g2 c3 g3 c4 g4 c5 g5 c6 g6 c7 g7 c8 g8 c9 g9
                      have c0 : w9.cell? ⟨w.heap.size, 0, none⟩ = some (.bool false) := U9.out.cells 0
                      have c1 : w9.cell? ⟨w.heap.size, 1, none⟩ = some (.int .i64 0) := U9.out.cells 1
                      have c2 : w9.cell? ⟨w.heap.size, 2, none⟩ = some (.int .u32 0) := U9.out.cells 2
                      have c3 : w9.cell? ⟨w.heap.size, 3, none⟩ = some (.int .i64 0) := U9.out.cells 3
                      have c4 : w9.cell? ⟨w.heap.size, 4, none⟩ = some (.int .u32 0) := U9.out.cells 4
                      have c5 : w9.cell? ⟨w.heap.size, 5, none⟩ = some (.int .i64 0) := U9.out.cells 5
                      have c6 : w9.cell? ⟨w.heap.size, 6, none⟩ = some (.int .u32 0) := U9.out.cells 6
                      have c7 : w9.cell? ⟨w.heap.size, 7, none⟩ = some (.int .u32 0) := U9.out.cells 7
                      have c8 : w9.cell? ⟨w.heap.size, 8, none⟩ = some (.int .u32 0) := U9.out.cells 8
                      have c9 : w9.cell? ⟨w.heap.size, 9, none⟩ = some (.int .u32 0) := U9.out.cells 9
                      exact bodyPost_ret (v := .tuple #[.agg #[.bool false, .int .i64 0, .int .u32 0, .int .i64 0, .int .u32 0, .int .i64 0, .int .u32 0, .int .u32 0, .int .u32 0, .int .u32 0], .int .i64 4]) (by simp [results, Tryz.results8, go_sem, c0, c1, c2, c3, c4, c5, c6, c7, c8, c9]) rfl ⟨U9.out.bel, .inr ⟨HNO.out, rfl⟩⟩
                    | true =>
                      cases t5 with
                      | false =>
                        have HNO : Hid (∀ q : RuleD, Good q → rtext q ≠ s.data.toList) := Lib.hid fun q hq h => by have := (HFIN.out q hq h).2.2.2.1; simp at this
                        have c0 : w13.cell? ⟨w.heap.size, 0, none⟩ = some (.bool false) := U13.out.cells 0
                        have c1 : w13.cell? ⟨w.heap.size, 1, none⟩ = some (.int .i64 0) := U13.out.cells 1
                        have c2 : w13.cell? ⟨w.heap.size, 2, none⟩ = some (.int .u32 0) := U13.out.cells 2
                        have c3 : w13.cell? ⟨w.heap.size, 3, none⟩ = some (.int .i64 0) := U13.out.cells 3
                        have c4 : w13.cell? ⟨w.heap.size, 4, none⟩ = some (.int .u32 0) := U13.out.cells 4
                        have c5 : w13.cell? ⟨w.heap.size, 5, none⟩ = some (.int .i64 0) := U13.out.cells 5
                        have c6 : w13.cell? ⟨w.heap.size, 6, none⟩ = some (.int .u32 0) := U13.out.cells 6
                        have c7 : w13.cell? ⟨w.heap.size, 7, none⟩ = some (.int .u32 0) := U13.out.cells 7
                        have c8 : w13.cell? ⟨w.heap.size, 8, none⟩ = some (.int .u32 0) := U13.out.cells 8
                        have c9 : w13.cell? ⟨w.heap.size, 9, none⟩ = some (.int .u32 0) := U13.out.cells 9
                        have g0 := U13.out.free 0
                        have g1 := U13.out.free 1
                        have g2 := U13.out.free 2
                        have g3 := U13.out.free 3
                        have g4 := U13.out.free 4
                        have g5 := U13.out.free 5
                        have g6 := U13.out.free 6
                        have g7 := U13.out.free 7
                        have g8 := U13.out.free 8
                        have g9 := U13.out.free 9
                        go_wp2
                        obtain ⟨w9, hw9⟩ : ∃ V, ((((((((((w13.setCell ⟨w.heap.size, 0, none⟩ (.bool false)).setCell ⟨w.heap.size, 1, none⟩ (.int .i64 0)).setCell ⟨w.heap.size, 2, none⟩ (.int .u32 0)).setCell ⟨w.heap.size, 3, none⟩ (.int .i64 0)).setCell ⟨w.heap.size, 4, none⟩ (.int .u32 0)).setCell ⟨w.heap.size, 5, none⟩ (.int .i64 0)).setCell ⟨w.heap.size, 6, none⟩ (.int .u32 0)).setCell ⟨w.heap.size, 7, none⟩ (.int .u32 0)).setCell ⟨w.heap.size, 8, none⟩ (.int .u32 0)).setCell ⟨w.heap.size, 9, none⟩ (.int .u32 0)) = V := ⟨_, rfl⟩
                        have U9 : Hid (Bx w w9 w.heap.size 29 [.bool false, .int .i64 0, .int .u32 0, .int .i64 0, .int .u32 0, .int .i64 0, .int .u32 0, .int .u32 0, .int .u32 0, .int .u32 0]) := Lib.hid (by rw [← hw9]; exact (((((((((U13.out.st 0 (.bool false)).st 1 (.int .i64 0)).st 2 (.int .u32 0)).st 3 (.int .i64 0)).st 4 (.int .u32 0)).st 5 (.int .i64 0)).st 6 (.int .u32 0)).st 7 (.int .u32 0)).st 8 (.int .u32 0)).st 9 (.int .u32 0))
                        rw [hw9]
                        clear hw9 c0 g0 c1 g1 c2 g2 c3 g3 c4 g4 c5 g5 c6 g6 c7 g7 c8 g8 c9 g9
                        have c0 : w9.cell? ⟨w.heap.size, 0, none⟩ = some (.bool false) := U9.out.cells 0
                        have c1 : w9.cell? ⟨w.heap.size, 1, none⟩ = some (.int .i64 0) := U9.out.cells 1
                        have c2 : w9.cell? ⟨w.heap.size, 2, none⟩ = some (.int .u32 0) := U9.out.cells 2
                        have c3 : w9.cell? ⟨w.heap.size, 3, none⟩ = some (.int .i64 0) := U9.out.cells 3
                        have c4 : w9.cell? ⟨w.heap.size, 4, none⟩ = some (.int .u32 0) := U9.out.cells 4
                        have c5 : w9.cell? ⟨w.heap.size, 5, none⟩ = some (.int .i64 0) := U9.out.cells 5
                        have c6 : w9.cell? ⟨w.heap.size, 6, none⟩ = some (.int .u32 0) := U9.out.cells 6
                        have c7 : w9.cell? ⟨w.heap.size, 7, none⟩ = some (.int .u32 0) := U9.out.cells 7
                        have c8 : w9.cell? ⟨w.heap.size, 8, none⟩ = some (.int .u32 0) := U9.out.cells 8
                        have c9 : w9.cell? ⟨w.heap.size, 9, none⟩ = some (.int .u32 0) := U9.out.cells 9
                        exact bodyPost_ret (v := .tuple #[.agg #[.bool false, .int .i64 0, .int .u32 0, .int .i64 0, .int .u32 0, .int .i64 0, .int .u32 0, .int .u32 0, .int .u32 0, .int .u32 0], .int .i64 4]) (by simp [results, Tryz.results8, go_sem, c0, c1, c2, c3, c4, c5, c6, c7, c8, c9]) rfl ⟨U9.out.bel, .inr ⟨HNO.out, rfl⟩⟩
                      | true =>
                        rcases HGG.out with ⟨hM, rfl, rfl⟩ | ⟨hM, rfl⟩
                        · by_cases hx : tx = s.data.toList
                          · have HXX := Lib.hid hx
                            have k5 : (tx == s.toList) = true := by rw [hx]; simp [ByteArray.toList_eq]
                            have k6 : (tx != s.toList) = false := by rw [hx]; simp [ByteArray.toList_eq]
                            have HM := Lib.hid hM
                            clear hx hM
                            have dd0 : w13.cell? ⟨wr.heap.size, 0, none⟩ = some (.bool P) := T13.out.cells 0
                            have dd1 : w13.cell? ⟨wr.heap.size, 1, none⟩ = some (.int .i64 M) := T13.out.cells 1
                            have dd2 : w13.cell? ⟨wr.heap.size, 2, none⟩ = some (.int .u32 a) := T13.out.cells 2
                            have dd3 : w13.cell? ⟨wr.heap.size, 3, none⟩ = some (.int .i64 n) := T13.out.cells 3
                            have dd4 : w13.cell? ⟨wr.heap.size, 4, none⟩ = some (.int .u32 c) := T13.out.cells 4
                            have dd5 : w13.cell? ⟨wr.heap.size, 5, none⟩ = some (.int .i64 m) := T13.out.cells 5
                            have dd6 : w13.cell? ⟨wr.heap.size, 6, none⟩ = some (.int .u32 a1) := T13.out.cells 6
                            have dd7 : w13.cell? ⟨wr.heap.size, 7, none⟩ = some (.int .u32 a2) := T13.out.cells 7
                            have dd8 : w13.cell? ⟨wr.heap.size, 8, none⟩ = some (.int .u32 d1) := T13.out.cells 8
                            have dd9 : w13.cell? ⟨wr.heap.size, 9, none⟩ = some (.int .u32 d2) := T13.out.cells 9
                            have c0 : w13.cell? ⟨w.heap.size, 0, none⟩ = some (.bool false) := U13.out.cells 0
                            have c1 : w13.cell? ⟨w.heap.size, 1, none⟩ = some (.int .i64 0) := U13.out.cells 1
                            have c2 : w13.cell? ⟨w.heap.size, 2, none⟩ = some (.int .u32 0) := U13.out.cells 2
                            have c3 : w13.cell? ⟨w.heap.size, 3, none⟩ = some (.int .i64 0) := U13.out.cells 3
                            have c4 : w13.cell? ⟨w.heap.size, 4, none⟩ = some (.int .u32 0) := U13.out.cells 4
                            have c5 : w13.cell? ⟨w.heap.size, 5, none⟩ = some (.int .i64 0) := U13.out.cells 5
                            have c6 : w13.cell? ⟨w.heap.size, 6, none⟩ = some (.int .u32 0) := U13.out.cells 6
                            have c7 : w13.cell? ⟨w.heap.size, 7, none⟩ = some (.int .u32 0) := U13.out.cells 7
                            have c8 : w13.cell? ⟨w.heap.size, 8, none⟩ = some (.int .u32 0) := U13.out.cells 8
                            have c9 : w13.cell? ⟨w.heap.size, 9, none⟩ = some (.int .u32 0) := U13.out.cells 9
                            have g0 := U13.out.free 0
                            have g1 := U13.out.free 1
                            have g2 := U13.out.free 2
                            have g3 := U13.out.free 3
                            have g4 := U13.out.free 4
                            have g5 := U13.out.free 5
                            have g6 := U13.out.free 6
                            have g7 := U13.out.free 7
                            have g8 := U13.out.free 8
                            have g9 := U13.out.free 9
                            go_wp2
                            obtain ⟨w9, hw9⟩ : ∃ V, ((((((((((w13.setCell ⟨w.heap.size, 0, none⟩ (.bool P)).setCell ⟨w.heap.size, 1, none⟩ (.int .i64 M)).setCell ⟨w.heap.size, 2, none⟩ (.int .u32 a)).setCell ⟨w.heap.size, 3, none⟩ (.int .i64 n)).setCell ⟨w.heap.size, 4, none⟩ (.int .u32 c)).setCell ⟨w.heap.size, 5, none⟩ (.int .i64 m)).setCell ⟨w.heap.size, 6, none⟩ (.int .u32 a1)).setCell ⟨w.heap.size, 7, none⟩ (.int .u32 a2)).setCell ⟨w.heap.size, 8, none⟩ (.int .u32 d1)).setCell ⟨w.heap.size, 9, none⟩ (.int .u32 d2)) = V := ⟨_, rfl⟩
                            have U9 : Hid (Bx w w9 w.heap.size 29 [.bool P, .int .i64 M, .int .u32 a, .int .i64 n, .int .u32 c, .int .i64 m, .int .u32 a1, .int .u32 a2, .int .u32 d1, .int .u32 d2]) := Lib.hid (by rw [← hw9]; exact (((((((((U13.out.st 0 (.bool P)).st 1 (.int .i64 M)).st 2 (.int .u32 a)).st 3 (.int .i64 n)).st 4 (.int .u32 c)).st 5 (.int .i64 m)).st 6 (.int .u32 a1)).st 7 (.int .u32 a2)).st 8 (.int .u32 d1)).st 9 (.int .u32 d2))
                            rw [hw9]
                            clear hw9 c0 g0 c1 g1 c2 g2 c3 g3 c4 g4 c5 g5 c6 g6 c7 g7 c8 g8 c9 g9
                            have c0 : w9.cell? ⟨w.heap.size, 0, none⟩ = some (.bool P) := U9.out.cells 0
                            have c1 : w9.cell? ⟨w.heap.size, 1, none⟩ = some (.int .i64 M) := U9.out.cells 1
                            have c2 : w9.cell? ⟨w.heap.size, 2, none⟩ = some (.int .u32 a) := U9.out.cells 2
                            have c3 : w9.cell? ⟨w.heap.size, 3, none⟩ = some (.int .i64 n) := U9.out.cells 3
                            have c4 : w9.cell? ⟨w.heap.size, 4, none⟩ = some (.int .u32 c) := U9.out.cells 4
                            have c5 : w9.cell? ⟨w.heap.size, 5, none⟩ = some (.int .i64 m) := U9.out.cells 5
                            have c6 : w9.cell? ⟨w.heap.size, 6, none⟩ = some (.int .u32 a1) := U9.out.cells 6
                            have c7 : w9.cell? ⟨w.heap.size, 7, none⟩ = some (.int .u32 a2) := U9.out.cells 7
                            have c8 : w9.cell? ⟨w.heap.size, 8, none⟩ = some (.int .u32 d1) := U9.out.cells 8
                            have c9 : w9.cell? ⟨w.heap.size, 9, none⟩ = some (.int .u32 d2) := U9.out.cells 9
                            exact bodyPost_ret (v := .tuple #[.agg #[.bool P, .int .i64 M, .int .u32 a, .int .i64 n, .int .u32 c, .int .i64 m, .int .u32 a1, .int .u32 a2, .int .u32 d1, .int .u32 d2], .int .i64 0]) (by simp [results, Tryz.results8, go_sem, c0, c1, c2, c3, c4, c5, c6, c7, c8, c9]) rfl ⟨U9.out.bel, .inl ⟨_, HG.out HM.out, HX.out.trans HXX.out, rfl, fun q hq h => (HFIN.out q hq h).2.2.2.2⟩⟩
                          · have HXX := Lib.hid hx
                            have k5 : (tx == s.toList) = false := by simpa [ByteArray.toList_eq] using hx
                            have k6 : (tx != s.toList) = true := by simpa [ByteArray.toList_eq] using hx
                            clear hx
                            have HNO : Hid (∀ q : RuleD, Good q → rtext q ≠ s.data.toList) := Lib.hid fun q hq h => by
                              have e := (HFIN.out q hq h).2.2.2.2
                              subst e
                              exact HXX.out (HX.out.symm.trans h)
                            have c0 : w13.cell? ⟨w.heap.size, 0, none⟩ = some (.bool false) := U13.out.cells 0
                            have c1 : w13.cell? ⟨w.heap.size, 1, none⟩ = some (.int .i64 0) := U13.out.cells 1
                            have c2 : w13.cell? ⟨w.heap.size, 2, none⟩ = some (.int .u32 0) := U13.out.cells 2
                            have c3 : w13.cell? ⟨w.heap.size, 3, none⟩ = some (.int .i64 0) := U13.out.cells 3
                            have c4 : w13.cell? ⟨w.heap.size, 4, none⟩ = some (.int .u32 0) := U13.out.cells 4
                            have c5 : w13.cell? ⟨w.heap.size, 5, none⟩ = some (.int .i64 0) := U13.out.cells 5
                            have c6 : w13.cell? ⟨w.heap.size, 6, none⟩ = some (.int .u32 0) := U13.out.cells 6
                            have c7 : w13.cell? ⟨w.heap.size, 7, none⟩ = some (.int .u32 0) := U13.out.cells 7
                            have c8 : w13.cell? ⟨w.heap.size, 8, none⟩ = some (.int .u32 0) := U13.out.cells 8
                            have c9 : w13.cell? ⟨w.heap.size, 9, none⟩ = some (.int .u32 0) := U13.out.cells 9
                            have g0 := U13.out.free 0
                            have g1 := U13.out.free 1
                            have g2 := U13.out.free 2
                            have g3 := U13.out.free 3
                            have g4 := U13.out.free 4
                            have g5 := U13.out.free 5
                            have g6 := U13.out.free 6
                            have g7 := U13.out.free 7
                            have g8 := U13.out.free 8
                            have g9 := U13.out.free 9
                            go_wp2
                            obtain ⟨w9, hw9⟩ : ∃ V, ((((((((((w13.setCell ⟨w.heap.size, 0, none⟩ (.bool false)).setCell ⟨w.heap.size, 1, none⟩ (.int .i64 0)).setCell ⟨w.heap.size, 2, none⟩ (.int .u32 0)).setCell ⟨w.heap.size, 3, none⟩ (.int .i64 0)).setCell ⟨w.heap.size, 4, none⟩ (.int .u32 0)).setCell ⟨w.heap.size, 5, none⟩ (.int .i64 0)).setCell ⟨w.heap.size, 6, none⟩ (.int .u32 0)).setCell ⟨w.heap.size, 7, none⟩ (.int .u32 0)).setCell ⟨w.heap.size, 8, none⟩ (.int .u32 0)).setCell ⟨w.heap.size, 9, none⟩ (.int .u32 0)) = V := ⟨_, rfl⟩
                            have U9 : Hid (Bx w w9 w.heap.size 29 [.bool false, .int .i64 0, .int .u32 0, .int .i64 0, .int .u32 0, .int .i64 0, .int .u32 0, .int .u32 0, .int .u32 0, .int .u32 0]) := Lib.hid (by rw [← hw9]; exact (((((((((U13.out.st 0 (.bool false)).st 1 (.int .i64 0)).st 2 (.int .u32 0)).st 3 (.int .i64 0)).st 4 (.int .u32 0)).st 5 (.int .i64 0)).st 6 (.int .u32 0)).st 7 (.int .u32 0)).st 8 (.int .u32 0)).st 9 (.int .u32 0))
                            rw [hw9]
                            clear hw9 c0 g0 c1 g1 c2 g2 c3 g3 c4 g4 c5 g5 c6 g6 c7 g7 c8 g8 c9 g9
                            have c0 : w9.cell? ⟨w.heap.size, 0, none⟩ = some (.bool false) := U9.out.cells 0
                            have c1 : w9.cell? ⟨w.heap.size, 1, none⟩ = some (.int .i64 0) := U9.out.cells 1
                            have c2 : w9.cell? ⟨w.heap.size, 2, none⟩ = some (.int .u32 0) := U9.out.cells 2
                            have c3 : w9.cell? ⟨w.heap.size, 3, none⟩ = some (.int .i64 0) := U9.out.cells 3
                            have c4 : w9.cell? ⟨w.heap.size, 4, none⟩ = some (.int .u32 0) := U9.out.cells 4
                            have c5 : w9.cell? ⟨w.heap.size, 5, none⟩ = some (.int .i64 0) := U9.out.cells 5
                            have c6 : w9.cell? ⟨w.heap.size, 6, none⟩ = some (.int .u32 0) := U9.out.cells 6
                            have c7 : w9.cell? ⟨w.heap.size, 7, none⟩ = some (.int .u32 0) := U9.out.cells 7
                            have c8 : w9.cell? ⟨w.heap.size, 8, none⟩ = some (.int .u32 0) := U9.out.cells 8
                            have c9 : w9.cell? ⟨w.heap.size, 9, none⟩ = some (.int .u32 0) := U9.out.cells 9
                            exact bodyPost_ret (v := .tuple #[.agg #[.bool false, .int .i64 0, .int .u32 0, .int .i64 0, .int .u32 0, .int .i64 0, .int .u32 0, .int .u32 0, .int .u32 0, .int .u32 0], .int .i64 4]) (by simp [results, Tryz.results8, go_sem, c0, c1, c2, c3, c4, c5, c6, c7, c8, c9]) rfl ⟨U9.out.bel, .inr ⟨HNO.out, rfl⟩⟩
                        · have HNO : Hid (∀ q : RuleD, Good q → rtext q ≠ s.data.toList) := Lib.hid fun q hq h => by
                            have e := (HFIN.out q hq h).2.2.2.2
                            subst e
                            have := hq.may
                            rw [hM] at this
                            simp at this
                          clear hM
                          have c0 : w13.cell? ⟨w.heap.size, 0, none⟩ = some (.bool false) := U13.out.cells 0
                          have c1 : w13.cell? ⟨w.heap.size, 1, none⟩ = some (.int .i64 0) := U13.out.cells 1
                          have c2 : w13.cell? ⟨w.heap.size, 2, none⟩ = some (.int .u32 0) := U13.out.cells 2
                          have c3 : w13.cell? ⟨w.heap.size, 3, none⟩ = some (.int .i64 0) := U13.out.cells 3
                          have c4 : w13.cell? ⟨w.heap.size, 4, none⟩ = some (.int .u32 0) := U13.out.cells 4
                          have c5 : w13.cell? ⟨w.heap.size, 5, none⟩ = some (.int .i64 0) := U13.out.cells 5
                          have c6 : w13.cell? ⟨w.heap.size, 6, none⟩ = some (.int .u32 0) := U13.out.cells 6
                          have c7 : w13.cell? ⟨w.heap.size, 7, none⟩ = some (.int .u32 0) := U13.out.cells 7
                          have c8 : w13.cell? ⟨w.heap.size, 8, none⟩ = some (.int .u32 0) := U13.out.cells 8
                          have c9 : w13.cell? ⟨w.heap.size, 9, none⟩ = some (.int .u32 0) := U13.out.cells 9
                          have g0 := U13.out.free 0
                          have g1 := U13.out.free 1
                          have g2 := U13.out.free 2
                          have g3 := U13.out.free 3
                          have g4 := U13.out.free 4
                          have g5 := U13.out.free 5
                          have g6 := U13.out.free 6
                          have g7 := U13.out.free 7
                          have g8 := U13.out.free 8
                          have g9 := U13.out.free 9
                          go_wp2
                          obtain ⟨w9, hw9⟩ : ∃ V, ((((((((((w13.setCell ⟨w.heap.size, 0, none⟩ (.bool false)).setCell ⟨w.heap.size, 1, none⟩ (.int .i64 0)).setCell ⟨w.heap.size, 2, none⟩ (.int .u32 0)).setCell ⟨w.heap.size, 3, none⟩ (.int .i64 0)).setCell ⟨w.heap.size, 4, none⟩ (.int .u32 0)).setCell ⟨w.heap.size, 5, none⟩ (.int .i64 0)).setCell ⟨w.heap.size, 6, none⟩ (.int .u32 0)).setCell ⟨w.heap.size, 7, none⟩ (.int .u32 0)).setCell ⟨w.heap.size, 8, none⟩ (.int .u32 0)).setCell ⟨w.heap.size, 9, none⟩ (.int .u32 0)) = V := ⟨_, rfl⟩
                          have U9 : Hid (Bx w w9 w.heap.size 29 [.bool false, .int .i64 0, .int .u32 0, .int .i64 0, .int .u32 0, .int .i64 0, .int .u32 0, .int .u32 0, .int .u32 0, .int .u32 0]) := Lib.hid (by rw [← hw9]; exact (((((((((U13.out.st 0 (.bool false)).st 1 (.int .i64 0)).st 2 (.int .u32 0)).st 3 (.int .i64 0)).st 4 (.int .u32 0)).st 5 (.int .i64 0)).st 6 (.int .u32 0)).st 7 (.int .u32 0)).st 8 (.int .u32 0)).st 9 (.int .u32 0))
                          rw [hw9]
                          clear hw9 c0 g0 c1 g1 c2 g2 c3 g3 c4 g4 c5 g5 c6 g6 c7 g7 c8 g8 c9 g9
                          have c0 : w9.cell? ⟨w.heap.size, 0, none⟩ = some (.bool false) := U9.out.cells 0
                          have c1 : w9.cell? ⟨w.heap.size, 1, none⟩ = some (.int .i64 0) := U9.out.cells 1
                          have c2 : w9.cell? ⟨w.heap.size, 2, none⟩ = some (.int .u32 0) := U9.out.cells 2
                          have c3 : w9.cell? ⟨w.heap.size, 3, none⟩ = some (.int .i64 0) := U9.out.cells 3
                          have c4 : w9.cell? ⟨w.heap.size, 4, none⟩ = some (.int .u32 0) := U9.out.cells 4
                          have c5 : w9.cell? ⟨w.heap.size, 5, none⟩ = some (.int .i64 0) := U9.out.cells 5
                          have c6 : w9.cell? ⟨w.heap.size, 6, none⟩ = some (.int .u32 0) := U9.out.cells 6
                          have c7 : w9.cell? ⟨w.heap.size, 7, none⟩ = some (.int .u32 0) := U9.out.cells 7
                          have c8 : w9.cell? ⟨w.heap.size, 8, none⟩ = some (.int .u32 0) := U9.out.cells 8
                          have c9 : w9.cell? ⟨w.heap.size, 9, none⟩ = some (.int .u32 0) := U9.out.cells 9
                          exact bodyPost_ret (v := .tuple #[.agg #[.bool false, .int .i64 0, .int .u32 0, .int .i64 0, .int .u32 0, .int .i64 0, .int .u32 0, .int .u32 0, .int .u32 0, .int .u32 0], .int .i64 4]) (by simp [results, Tryz.results8, go_sem, c0, c1, c2, c3, c4, c5, c6, c7, c8, c9]) rfl ⟨U9.out.bel, .inr ⟨HNO.out, rfl⟩⟩
                  · have HNO : Hid (∀ q : RuleD, Good q → rtext q ≠ s.data.toList) := Lib.hid fun q hq h => he3 (HFIN.out q hq h).2.1
                    have k3 : (e3 == 0) = false := by simpa using he3
                    have k4 : (e3 != 0) = true := by simpa using he3
                    clear he3
                    have c0 : w13.cell? ⟨w.heap.size, 0, none⟩ = some (.bool false) := U13.out.cells 0
                    have c1 : w13.cell? ⟨w.heap.size, 1, none⟩ = some (.int .i64 0) := U13.out.cells 1
                    have c2 : w13.cell? ⟨w.heap.size, 2, none⟩ = some (.int .u32 0) := U13.out.cells 2
                    have c3 : w13.cell? ⟨w.heap.size, 3, none⟩ = some (.int .i64 0) := U13.out.cells 3
                    have c4 : w13.cell? ⟨w.heap.size, 4, none⟩ = some (.int .u32 0) := U13.out.cells 4
                    have c5 : w13.cell? ⟨w.heap.size, 5, none⟩ = some (.int .i64 0) := U13.out.cells 5
                    have c6 : w13.cell? ⟨w.heap.size, 6, none⟩ = some (.int .u32 0) := U13.out.cells 6
                    have c7 : w13.cell? ⟨w.heap.size, 7, none⟩ = some (.int .u32 0) := U13.out.cells 7
                    have c8 : w13.cell? ⟨w.heap.size, 8, none⟩ = some (.int .u32 0) := U13.out.cells 8
                    have c9 : w13.cell? ⟨w.heap.size, 9, none⟩ = some (.int .u32 0) := U13.out.cells 9
                    have g0 := U13.out.free 0
                    have g1 := U13.out.free 1
                    have g2 := U13.out.free 2
                    have g3 := U13.out.free 3
                    have g4 := U13.out.free 4
                    have g5 := U13.out.free 5
                    have g6 := U13.out.free 6
                    have g7 := U13.out.free 7
                    have g8 := U13.out.free 8
                    have g9 := U13.out.free 9
                    go_wp2
                    obtain ⟨w9, hw9⟩ : ∃ V, ((((((((((w13.setCell ⟨w.heap.size, 0, none⟩ (.bool false)).setCell ⟨w.heap.size, 1, none⟩ (.int .i64 0)).setCell ⟨w.heap.size, 2, none⟩ (.int .u32 0)).setCell ⟨w.heap.size, 3, none⟩ (.int .i64 0)).setCell ⟨w.heap.size, 4, none⟩ (.int .u32 0)).setCell ⟨w.heap.size, 5, none⟩ (.int .i64 0)).setCell ⟨w.heap.size, 6, none⟩ (.int .u32 0)).setCell ⟨w.heap.size, 7, none⟩ (.int .u32 0)).setCell ⟨w.heap.size, 8, none⟩ (.int .u32 0)).setCell ⟨w.heap.size, 9, none⟩ (.int .u32 0)) = V := ⟨_, rfl⟩
                    have U9 : Hid (Bx w w9 w.heap.size 29 [.bool false, .int .i64 0, .int .u32 0, .int .i64 0, .int .u32 0, .int .i64 0, .int .u32 0, .int .u32 0, .int .u32 0, .int .u32 0]) := Lib.hid (by rw [← hw9]; exact (((((((((U13.out.st 0 (.bool false)).st 1 (.int .i64 0)).st 2 (.int .u32 0)).st 3 (.int .i64 0)).st 4 (.int .u32 0)).st 5 (.int .i64 0)).st 6 (.int .u32 0)).st 7 (.int .u32 0)).st 8 (.int .u32 0)).st 9 (.int .u32 0))
                    rw [hw9]
                    clear hw9 c0 g0 c1 g1 c2 g2 c3 g3 c4 g4 c5 g5 c6 g6 c7 g7 c8 g8 c9 g9
                    have c0 : w9.cell? ⟨w.heap.size, 0, none⟩ = some (.bool false) := U9.out.cells 0
                    have c1 : w9.cell? ⟨w.heap.size, 1, none⟩ = some (.int .i64 0) := U9.out.cells 1
                    have c2 : w9.cell? ⟨w.heap.size, 2, none⟩ = some (.int .u32 0) := U9.out.cells 2
                    have c3 : w9.cell? ⟨w.heap.size, 3, none⟩ = some (.int .i64 0) := U9.out.cells 3
                    have c4 : w9.cell? ⟨w.heap.size, 4, none⟩ = some (.int .u32 0) := U9.out.cells 4
                    have c5 : w9.cell? ⟨w.heap.size, 5, none⟩ = some (.int .i64 0) := U9.out.cells 5
                    have c6 : w9.cell? ⟨w.heap.size, 6, none⟩ = some (.int .u32 0) := U9.out.cells 6
                    have c7 : w9.cell? ⟨w.heap.size, 7, none⟩ = some (.int .u32 0) := U9.out.cells 7
                    have c8 : w9.cell? ⟨w.heap.size, 8, none⟩ = some (.int .u32 0) := U9.out.cells 8
                    have c9 : w9.cell? ⟨w.heap.size, 9, none⟩ = some (.int .u32 0) := U9.out.cells 9
                    exact bodyPost_ret (v := .tuple #[.agg #[.bool false, .int .i64 0, .int .u32 0, .int .i64 0, .int .u32 0, .int .i64 0, .int .u32 0, .int .u32 0, .int .u32 0, .int .u32 0], .int .i64 4]) (by simp [results, Tryz.results8, go_sem, c0, c1, c2, c3, c4, c5, c6, c7, c8, c9]) rfl ⟨U9.out.bel, .inr ⟨HNO.out, rfl⟩⟩
                · have HNO : Hid (∀ q : RuleD, Good q → rtext q ≠ s.data.toList) := Lib.hid fun q hq h => he2 (HFIN.out q hq h).1
                  have k1 : (e2 == 0) = false := by simpa using he2
                  have k2 : (e2 != 0) = true := by simpa using he2
                  clear he2
                  have c0 : w13.cell? ⟨w.heap.size, 0, none⟩ = some (.bool false) := U13.out.cells 0
                  have c1 : w13.cell? ⟨w.heap.size, 1, none⟩ = some (.int .i64 0) := U13.out.cells 1
                  have c2 : w13.cell? ⟨w.heap.size, 2, none⟩ = some (.int .u32 0) := U13.out.cells 2
                  have c3 : w13.cell? ⟨w.heap.size, 3, none⟩ = some (.int .i64 0) := U13.out.cells 3
                  have c4 : w13.cell? ⟨w.heap.size, 4, none⟩ = some (.int .u32 0) := U13.out.cells 4
                  have c5 : w13.cell? ⟨w.heap.size, 5, none⟩ = some (.int .i64 0) := U13.out.cells 5
                  have c6 : w13.cell? ⟨w.heap.size, 6, none⟩ = some (.int .u32 0) := U13.out.cells 6
                  have c7 : w13.cell? ⟨w.heap.size, 7, none⟩ = some (.int .u32 0) := U13.out.cells 7
                  have c8 : w13.cell? ⟨w.heap.size, 8, none⟩ = some (.int .u32 0) := U13.out.cells 8
                  have c9 : w13.cell? ⟨w.heap.size, 9, none⟩ = some (.int .u32 0) := U13.out.cells 9
                  have g0 := U13.out.free 0
                  have g1 := U13.out.free 1
                  have g2 := U13.out.free 2
                  have g3 := U13.out.free 3
                  have g4 := U13.out.free 4
                  have g5 := U13.out.free 5
                  have g6 := U13.out.free 6
                  have g7 := U13.out.free 7
                  have g8 := U13.out.free 8
                  have g9 := U13.out.free 9
                  go_wp2
                  obtain ⟨w9, hw9⟩ : ∃ V, ((((((((((w13.setCell ⟨w.heap.size, 0, none⟩ (.bool false)).setCell ⟨w.heap.size, 1, none⟩ (.int .i64 0)).setCell ⟨w.heap.size, 2, none⟩ (.int .u32 0)).setCell ⟨w.heap.size, 3, none⟩ (.int .i64 0)).setCell ⟨w.heap.size, 4, none⟩ (.int .u32 0)).setCell ⟨w.heap.size, 5, none⟩ (.int .i64 0)).setCell ⟨w.heap.size, 6, none⟩ (.int .u32 0)).setCell ⟨w.heap.size, 7, none⟩ (.int .u32 0)).setCell ⟨w.heap.size, 8, none⟩ (.int .u32 0)).setCell ⟨w.heap.size, 9, none⟩ (.int .u32 0)) = V := ⟨_, rfl⟩
                  have U9 : Hid (Bx w w9 w.heap.size 29 [.bool false, .int .i64 0, .int .u32 0, .int .i64 0, .int .u32 0, .int .i64 0, .int .u32 0, .int .u32 0, .int .u32 0, .int .u32 0]) := Lib.hid (by rw [← hw9]; exact (((((((((U13.out.st 0 (.bool false)).st 1 (.int .i64 0)).st 2 (.int .u32 0)).st 3 (.int .i64 0)).st 4 (.int .u32 0)).st 5 (.int .i64 0)).st 6 (.int .u32 0)).st 7 (.int .u32 0)).st 8 (.int .u32 0)).st 9 (.int .u32 0))
                  rw [hw9]
                  clear hw9 c0 g0 c1 g1 c2 g2 c3 g3 c4 g4 c5 g5 c6 g6 c7 g7 c8 g8 c9 g9
                  have c0 : w9.cell? ⟨w.heap.size, 0, none⟩ = some (.bool false) := U9.out.cells 0
                  have c1 : w9.cell? ⟨w.heap.size, 1, none⟩ = some (.int .i64 0) := U9.out.cells 1
                  have c2 : w9.cell? ⟨w.heap.size, 2, none⟩ = some (.int .u32 0) := U9.out.cells 2
                  have c3 : w9.cell? ⟨w.heap.size, 3, none⟩ = some (.int .i64 0) := U9.out.cells 3
                  have c4 : w9.cell? ⟨w.heap.size, 4, none⟩ = some (.int .u32 0) := U9.out.cells 4
                  have c5 : w9.cell? ⟨w.heap.size, 5, none⟩ = some (.int .i64 0) := U9.out.cells 5
                  have c6 : w9.cell? ⟨w.heap.size, 6, none⟩ = some (.int .u32 0) := U9.out.cells 6
                  have c7 : w9.cell? ⟨w.heap.size, 7, none⟩ = some (.int .u32 0) := U9.out.cells 7
                  have c8 : w9.cell? ⟨w.heap.size, 8, none⟩ = some (.int .u32 0) := U9.out.cells 8
                  have c9 : w9.cell? ⟨w.heap.size, 9, none⟩ = some (.int .u32 0) := U9.out.cells 9
                  exact bodyPost_ret (v := .tuple #[.agg #[.bool false, .int .i64 0, .int .u32 0, .int .i64 0, .int .u32 0, .int .i64 0, .int .u32 0, .int .u32 0, .int .u32 0, .int .u32 0], .int .i64 4]) (by simp [results, Tryz.results8, go_sem, c0, c1, c2, c3, c4, c5, c6, c7, c8, c9]) rfl ⟨U9.out.bel, .inr ⟨HNO.out, rfl⟩⟩
      · have HNO : Hid (∀ q : RuleD, Good q → rtext q ≠ s.data.toList) := Lib.hid fun q hq e => h6 (by rw [← HW.out q hq e]; rfl)
        obtain ⟨p, c, rfl⟩ := own_sl10 hown
        obtain ⟨N, hN⟩ : ∃ X, d.length = X := ⟨_, rfl⟩
        rw [hN] at h6 ⊢
        have hne : ((N : Int) == 6) = false := by simpa using (by omega : ¬ ((N : Int) = 6))
        clear h6 hown hbw hN
        have c0 : wr.cell? ⟨w.heap.size, 0, none⟩ = some (.bool false) := S2.out.cells 0
        have c1 : wr.cell? ⟨w.heap.size, 1, none⟩ = some (.int .i64 0) := S2.out.cells 1
        have c2 : wr.cell? ⟨w.heap.size, 2, none⟩ = some (.int .u32 0) := S2.out.cells 2
        have c3 : wr.cell? ⟨w.heap.size, 3, none⟩ = some (.int .i64 0) := S2.out.cells 3
        have c4 : wr.cell? ⟨w.heap.size, 4, none⟩ = some (.int .u32 0) := S2.out.cells 4
        have c5 : wr.cell? ⟨w.heap.size, 5, none⟩ = some (.int .i64 0) := S2.out.cells 5
        have c6 : wr.cell? ⟨w.heap.size, 6, none⟩ = some (.int .u32 0) := S2.out.cells 6
        have c7 : wr.cell? ⟨w.heap.size, 7, none⟩ = some (.int .u32 0) := S2.out.cells 7
        have c8 : wr.cell? ⟨w.heap.size, 8, none⟩ = some (.int .u32 0) := S2.out.cells 8
        have c9 : wr.cell? ⟨w.heap.size, 9, none⟩ = some (.int .u32 0) := S2.out.cells 9
        have g0 := S2.out.free 0
        have g1 := S2.out.free 1
        have g2 := S2.out.free 2
        have g3 := S2.out.free 3
        have g4 := S2.out.free 4
        have g5 := S2.out.free 5
        have g6 := S2.out.free 6
        have g7 := S2.out.free 7
        have g8 := S2.out.free 8
        have g9 := S2.out.free 9
        go_wp2
        obtain ⟨w9, hw9⟩ : ∃ X, ((((((((((wr.setCell ⟨w.heap.size, 0, none⟩ (.bool false)).setCell ⟨w.heap.size, 1, none⟩ (.int .i64 0)).setCell ⟨w.heap.size, 2, none⟩ (.int .u32 0)).setCell ⟨w.heap.size, 3, none⟩ (.int .i64 0)).setCell ⟨w.heap.size, 4, none⟩ (.int .u32 0)).setCell ⟨w.heap.size, 5, none⟩ (.int .i64 0)).setCell ⟨w.heap.size, 6, none⟩ (.int .u32 0)).setCell ⟨w.heap.size, 7, none⟩ (.int .u32 0)).setCell ⟨w.heap.size, 8, none⟩ (.int .u32 0)).setCell ⟨w.heap.size, 9, none⟩ (.int .u32 0)) = X := ⟨_, rfl⟩
        have U9 : Hid (Bx w w9 w.heap.size 29 [.bool false, .int .i64 0, .int .u32 0, .int .i64 0, .int .u32 0, .int .i64 0, .int .u32 0, .int .u32 0, .int .u32 0, .int .u32 0]) := Lib.hid (by rw [← hw9]; exact (((((((((S2.out.st 0 (.bool false)).st 1 (.int .i64 0)).st 2 (.int .u32 0)).st 3 (.int .i64 0)).st 4 (.int .u32 0)).st 5 (.int .i64 0)).st 6 (.int .u32 0)).st 7 (.int .u32 0)).st 8 (.int .u32 0)).st 9 (.int .u32 0))
        rw [hw9]
        clear hw9 c0 g0 c1 g1 c2 g2 c3 g3 c4 g4 c5 g5 c6 g6 c7 g7 c8 g8 c9 g9
        have c0 : w9.cell? ⟨w.heap.size, 0, none⟩ = some (.bool false) := U9.out.cells 0
        have c1 : w9.cell? ⟨w.heap.size, 1, none⟩ = some (.int .i64 0) := U9.out.cells 1
        have c2 : w9.cell? ⟨w.heap.size, 2, none⟩ = some (.int .u32 0) := U9.out.cells 2
        have c3 : w9.cell? ⟨w.heap.size, 3, none⟩ = some (.int .i64 0) := U9.out.cells 3
        have c4 : w9.cell? ⟨w.heap.size, 4, none⟩ = some (.int .u32 0) := U9.out.cells 4
        have c5 : w9.cell? ⟨w.heap.size, 5, none⟩ = some (.int .i64 0) := U9.out.cells 5
        have c6 : w9.cell? ⟨w.heap.size, 6, none⟩ = some (.int .u32 0) := U9.out.cells 6
        have c7 : w9.cell? ⟨w.heap.size, 7, none⟩ = some (.int .u32 0) := U9.out.cells 7
        have c8 : w9.cell? ⟨w.heap.size, 8, none⟩ = some (.int .u32 0) := U9.out.cells 8
        have c9 : w9.cell? ⟨w.heap.size, 9, none⟩ = some (.int .u32 0) := U9.out.cells 9
        exact bodyPost_ret (v := .tuple #[.agg #[.bool false, .int .i64 0, .int .u32 0, .int .i64 0, .int .u32 0, .int .i64 0, .int .u32 0, .int .u32 0, .int .u32 0, .int .u32 0], .int .i64 4]) (by simp [results, Tryz.results8, go_sem, c0, c1, c2, c3, c4, c5, c6, c7, c8, c9]) rfl ⟨U9.out.bel, .inr ⟨HNO.out, rfl⟩⟩
end Go.Proofs.YtgggmhaopcgkkaaGreatDoor
