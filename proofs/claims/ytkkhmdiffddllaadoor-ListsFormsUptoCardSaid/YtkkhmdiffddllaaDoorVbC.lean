/- ListsForms: communities are put in form, joined, written and read as the document says; in new memory. Where no list has more than 1048576 entries; the variables of package strconv are asked to hold what their text says. -/
import Derived.Test.YtkkhmdiffddllaaDoorVbA
import Derived.Test.YtkkhmdiffddllaaDoorVbB
import Derived.Test.YtkkhmdiffddllaaDoorUtG
namespace Go.Proofs.YtkkhmdiffddllaaDoor
open Go.Shelf Go.RowKit Go.Lib
set_option maxRecDepth 100000 in
set_option maxHeartbeats 4000000 in
theorem lfo_is (v0 v1 : Value) (a b : List Int) (x : Int) (s : ByteArray) (w : World) (h0 : RdK encU 1 w v0 a) (h1 : RdK encU 1 w v1 b) (hx : 0 ≤ x ∧ x < 4294967296)
    (b0 : a.length ≤ 1048576) (b1 : b.length ≤ 1048576) (b3 : s.size ≤ 1048576) (ht : Tab10 w) (hE : ErrV w) :
    Calls Tryd.prog 3 #[v0, v1, .int .u32 x, .string s] w fun e w' => e = .returned (.bool true) ∧ Below w.heap.size w w' := by
  obtain ⟨c, rfl⟩ : ∃ c : Nat, x = (c : Int) := ⟨x.toNat, by omega⟩
  have hc : c < 4294967296 := by omega
  have H0 := Lib.hid h0; have H1 := Lib.hid h1
  have HT := Lib.hid ht; have HE := Lib.hid hE; have HC := Lib.hid hc
  obtain ⟨p0, c0, rfl, _, _, q0⟩ := h0.sl
  clear q0
  obtain ⟨p1, c1, rfl, _, _, q1⟩ := h1.sl
  clear q1 h0 h1 ht hE hx hc
  obtain ⟨E2, hE2⟩ : ∃ X, w.alloc (.cells #[] 23) = X := ⟨_, rfl⟩
  have OE2 : Hid (E2.ownsRow w.heap.size 23 1 (.slice (some ⟨w.heap.size, 0, none⟩) 0 0) 0 []) := Lib.hid (own_empty (heap_alc hE2) (Nat.le_refl _))
  have BE2 : Hid (Below w.heap.size w E2) := Lib.hid (by rw [← hE2]; exact (Below.refl _ _).alloc (Nat.le_refl _) _)
  go_enter Tryd.func3, Tryd.ntmps3
  go_upto_region 2 with (first
    | (at_builtin; refine wpList_append_rdk encU_len (by decide) encU_one rfl _ _ 22 23 rfl (.int .u32 0) 4 Tryd.underlying22 rfl infoU w.heap.size _ 0 [] rfl OE2.out _ a rfl (H0.out.below (BE2.out)) (by unfold maxLen; omega) (by omega) BE2.out.size ?_
       intro v2 X2 o2 g2 n2
       have D2 : Hid (Below w.heap.size w X2) := Lib.hid (BE2.out.grown g2 BE2.out.size (fun j hj => by have h1 : some w.heap.size = some j := hj; cases h1; exact Nat.le_refl _))
       have O2 : Hid (OwnU w.heap.size X2 v2 a) := Lib.hid (by simpa using o2)
       obtain ⟨px2, cx2, hs2⟩ := own_sl O2.out
       clear o2 g2 n2 hE2
       subst hs2
       have R2 : Hid (RdK encU 1 X2 (.slice px2 a.length cx2) a) := Lib.hid (RdK.of_own encU_len O2.out)))
  obtain ⟨E3, hE3⟩ : ∃ X, X2.alloc (.cells #[] 23) = X := ⟨_, rfl⟩
  have OE3 : Hid (E3.ownsRow X2.heap.size 23 1 (.slice (some ⟨X2.heap.size, 0, none⟩) 0 0) 0 []) := Lib.hid (own_empty (heap_alc hE3) (Nat.le_refl _))
  have BE3 : Hid (Below X2.heap.size X2 E3) := Lib.hid (by rw [← hE3]; exact (Below.refl _ _).alloc (Nat.le_refl _) _)
  go_wp2_with (first
    | (at_builtin; refine wpList_append_rdk encU_len (by decide) encU_one rfl _ _ 22 23 rfl (.int .u32 0) 4 Tryd.underlying22 rfl infoU X2.heap.size _ 0 [] rfl OE3.out _ b rfl (H1.out.below (Below.step D2.out BE3.out)) (by unfold maxLen; omega) (by omega) BE3.out.size ?_
       intro v3 X3 o3 g3 n3
       have D3 : Hid (Below X2.heap.size X2 X3) := Lib.hid (BE3.out.grown g3 BE3.out.size (fun j hj => by have h1 : some X2.heap.size = some j := hj; cases h1; exact Nat.le_refl _))
       have O3 : Hid (OwnU X2.heap.size X3 v3 b) := Lib.hid (by simpa using o3)
       obtain ⟨px3, cx3, hs3⟩ := own_sl O3.out
       clear o3 g3 n3 hE3
       subst hs3
       have R3 : Hid (RdK encU 1 X3 (.slice px3 b.length cx3) b) := Lib.hid (RdK.of_own encU_len O3.out)))
  have S3 : Hid (Below w.heap.size w X3) := Lib.hid (Below.step D2.out D3.out)
  have R2b : Hid (RdK encU 1 X3 (.slice px2 a.length cx2) a) := Lib.hid (R2.out.below D3.out)
  have RA : Hid (∀ W, Below X3.heap.size X3 W → RdK encU 1 W (.slice p0 a.length c0) a) := Lib.hid fun W hW => H0.out.below (Below.step S3.out hW)
  have RB : Hid (∀ W, Below X3.heap.size X3 W → RdK encU 1 W (.slice p1 b.length c1) b) := Lib.hid fun W hW => H1.out.below (Below.step S3.out hW)
  have RX : Hid (∀ W, Below X3.heap.size X3 W → RdK encU 1 W (.slice px2 a.length cx2) a) := Lib.hid fun W hW => R2b.out.below hW
  have RY : Hid (∀ W, Below X3.heap.size X3 W → RdK encU 1 W (.slice px3 b.length cx3) b) := Lib.hid fun W hW => R3.out.below hW
  clear R2b R2 R3 O2 O3 OE2 OE3 BE2 BE3
  go_at_call 5
  (with_reducible refine (normal_is (.slice px2 a.length cx2) a X3 (RX.out _ (Below.refl _ _)) (by omega)).mono ?_)
  rintro e W4 ⟨vN, r, rfl, hO4, hf4, hl4, hb4⟩
  have T4 := Lib.hid hb4
  have F4 := Lib.hid hf4
  have L4 : r.length ≤ 1048576 := Nat.le_trans hl4 b0
  obtain ⟨pN, cN, hsN⟩ := own_sl hO4
  subst hsN
  have N4 : Hid (OwnR encU 1 23 X3.heap.size W4.heap.size W4 (.slice pN r.length cN) r) := Lib.hid ⟨hO4, fun g hg => (hO4.lt g hg).2⟩
  clear hO4 hf4 hl4 hb4
  go_wp2_with fail
  go_at_call 6
  (with_reducible refine (join_is (.slice px2 a.length cx2) (.slice px3 b.length cx3) a b W4 (RX.out _ T4.out) (RY.out _ T4.out) (by omega) (by omega)).mono ?_)
  rintro e W5 ⟨vJ, rj, rfl, hO5, hf5, hl5, hb5⟩
  have T5 := Lib.hid (Below.step T4.out hb5)
  have F5 := Lib.hid hf5
  have L5 : rj.length ≤ 2097152 := by rw [List.length_append] at hl5; omega
  obtain ⟨pJ, cJ, hsJ⟩ := own_sl hO5
  subst hsJ
  have J5 : Hid (OwnR encU 1 23 W4.heap.size W5.heap.size W5 (.slice pJ rj.length cJ) rj) := Lib.hid ⟨hO5, fun g hg => (hO5.lt g hg).2⟩
  have N5 : Hid (OwnR encU 1 23 X3.heap.size W4.heap.size W5 (.slice pN r.length cN) r) := Lib.hid (N4.out.below hb5)
  have h54 := hb5.size
  clear hO5 hf5 hl5 hb5 N4
  go_wp2_with fail
  go_at_call 7
  (with_reducible refine (lparse_is s (Nat.le_trans b3 (by decide)) W5 (HT.out.on (Below.step S3.out T5.out)) (HE.out.on (Below.step S3.out T5.out))).mono ?_)
  rintro e W6 ⟨rfl, hb6⟩
  have U6 := Lib.hid hb6
  clear hb6
  have CP := Lib.hid (rparC_is s (Nat.le_trans b3 (by decide)) W6)
  obtain ⟨dd, hdd⟩ : ∃ d, (parE (parV s.data.toList)).1 = d := ⟨_, rfl⟩
  obtain ⟨ee, hee⟩ : ∃ d, (parE (parV s.data.toList)).2 = d := ⟨_, rfl⟩
  rw [hdd, hee] at CP ⊢
  clear hdd hee
  go_wp2_with fail
  go_at_call 8
  (with_reducible refine CP.out.mono ?_)
  rintro e w7 ⟨rfl, rfl⟩
  have x1 : (dd != dd) = false := by simp
  have x2 : (ee != ee) = false := by simp
  clear CP
  go_wp2_with fail
  go_at_call 10
  (with_reducible refine (rnormal_is (.slice p0 a.length c0) a W6 (RA.out _ (Below.step T5.out U6.out)) (by omega)).mono ?_)
  rintro e W7 ⟨vM, rm, rfl, hO, hf, _, hb⟩
  have U7 := Lib.hid (Below.step U6.out hb)
  have e1 : rm = r := IsForm.one hf F4.out (fun _ => Iff.rfl)
  subst e1
  have RM := Lib.hid (RdK.of_own encU_len hO)
  obtain ⟨pM, cM, hsM⟩ := own_sl hO
  subst hsM
  clear hO hf
  clear hb
  go_wp2_with fail
  go_at_call 9
  (with_reducible refine (same_is (.slice pN rm.length cN) (.slice pM rm.length cM) rm W7 ((N5.out.below U7.out).rd encU_len) RM.out (by omega)).mono ?_)
  rintro e W8 ⟨rfl, hb⟩
  have U8 := Lib.hid (Below.step U7.out hb)
  clear hb
  go_wp2_with fail
  go_at_call 11
  (with_reducible refine (rjoin_is (.slice p0 a.length c0) (.slice p1 b.length c1) a b W8 (RA.out _ (Below.step T5.out U8.out)) (RB.out _ (Below.step T5.out U8.out)) (by omega) (by omega)).mono ?_)
  rintro e W9 ⟨vQ, rq, rfl, hO, hf, _, hb⟩
  have U9 := Lib.hid (Below.step U8.out hb)
  have e1 : rq = rj := IsForm.one hf F5.out (fun _ => Iff.rfl)
  subst e1
  have RQ := Lib.hid (RdK.of_own encU_len hO)
  obtain ⟨pQ, cQ, hsQ⟩ := own_sl hO
  subst hsQ
  clear hO hf
  clear hb
  go_wp2_with fail
  go_at_call 9
  (with_reducible refine (same_is (.slice pJ rq.length cJ) (.slice pQ rq.length cQ) rq W9 ((J5.out.below U9.out).rd encU_len) RQ.out (by omega)).mono ?_)
  rintro e W10 ⟨rfl, hb⟩
  have U10 := Lib.hid (Below.step U9.out hb)
  clear hb
  go_wp2_with fail
  go_at_call 9
  (with_reducible refine (same_is (.slice px2 a.length cx2) (.slice p0 a.length c0) a W10 (RX.out _ (Below.step T5.out U10.out)) (RA.out _ (Below.step T5.out U10.out)) (by omega)).mono ?_)
  rintro e W11 ⟨rfl, hb⟩
  have U11 := Lib.hid (Below.step U10.out hb)
  clear hb
  go_wp2_with fail
  go_at_call 9
  (with_reducible refine (same_is (.slice px3 b.length cx3) (.slice p1 b.length c1) b W11 (RY.out _ (Below.step T5.out U11.out)) (RB.out _ (Below.step T5.out U11.out)) (by omega)).mono ?_)
  rintro e W12 ⟨rfl, hb⟩
  have U12 := Lib.hid (Below.step U11.out hb)
  clear hb
  go_wp2_with fail
  go_at_call 12
  (with_reducible refine (ltext_is c HC.out W12 (HT.out.on (Below.step S3.out (Below.step T5.out U12.out)))).mono ?_)
  rintro e W13 ⟨rfl, hb⟩
  have U13 := Lib.hid (Below.step U12.out hb)
  clear hb
  go_wp2_with fail
  go_at_call 13
  (with_reducible refine (rtxC_is c HC.out W13).mono ?_)
  rintro e W14 ⟨rfl, hb⟩
  have U14 := Lib.hid (Below.step U13.out hb)
  clear hb
  obtain ⟨TX, hTX⟩ : ∃ x, txC c = x := ⟨_, rfl⟩
  rw [hTX]
  have x3 : (TX != TX) = false := by simp
  clear hTX
  have N8 : Hid (OwnR encU 1 23 X3.heap.size W4.heap.size W14 (.slice pN rm.length cN) rm) := Lib.hid (N5.out.below U14.out)
  have J8 : Hid (OwnR encU 1 23 W4.heap.size W5.heap.size W14 (.slice pJ rq.length cJ) rq) := Lib.hid (J5.out.below U14.out)
  have T8 : Hid (Below X3.heap.size X3 W14) := Lib.hid (Below.step T5.out U14.out)
  go_wp2_with fail
  go_loopw [17] (fun vi wr => ∃ (k : Nat) (l : List Int), vi = .int .i64 k ∧ k ≤ rm.length ∧ l.length = rm.length ∧ Hid (OwnR encU 1 23 X3.heap.size W4.heap.size wr (.slice pN rm.length cN) l) ∧ Hid (OwnR encU 1 23 W4.heap.size W5.heap.size wr (.slice pJ rq.length cJ) rq) ∧ Hid (Below X3.heap.size X3 wr)) (fun vi _ => rm.length - (intOf vi).toNat)
  case atStart => exact ⟨0, rm, rfl, Nat.zero_le _, rfl, N8, J8, T8⟩
  case round =>
    obtain ⟨k, l, rfl, hk, hl, HN, HJ, HB⟩ := hrel
    by_cases hlt : k < rm.length
    · have hltz : (k : Int) < (rm.length : Int) := by omega
      obtain ⟨x, hx⟩ : ∃ x, l[k]? = some x := ⟨_, List.getElem?_eq_getElem (by omega)⟩
      obtain ⟨g, cc, hv, hlo, hhi, hfz, hcell, hset⟩ := HN.out.at_ encU_len hx
      simp only [Value.slice.injEq] at hv
      obtain ⟨rfl, -, rfl⟩ := hv
      have e1 := hcell 0 _ (by rfl : (encU x)[0]? = some (.int .u32 x))
      have e2 := hset 0 (.int .u32 7) 7 (by decide) rfl
      have e3 : (OwnR encU 1 23 W4.heap.size W5.heap.size (wr.setCell ⟨g, k * 1 + 0, none⟩ (.int .u32 7)) (.slice pJ rq.length cJ) rq) := HJ.out.other (.inl hhi)
      have e4 : Below X3.heap.size X3 (wr.setCell ⟨g, k * 1 + 0, none⟩ (.int .u32 7)) := Below.setCell (p := ⟨g, k * 1 + 0, none⟩) HB.out (by show X3.heap.size ≤ g; omega) _
      simp only [Nat.mul_one, Nat.add_zero] at e1 e2 e3 e4
      have f1 := hfz k
      have K2 := Lib.hid e2
      have K3 := Lib.hid e3
      have K4 := Lib.hid e4
      have hl2 : Hid ((l.set k 7).length = rm.length) := Lib.hid (by rw [List.length_set]; exact hl)
      clear hcell hset hx hfz e2 e3 e4 hl
      go_wp2_with fail
      go_roundw
      case rel => exact ⟨k + 1, l.set k 7, by go_num, by omega, hl2.out, K2, K3, K4⟩
      case measure => simp [intOf] <;> omega
    · have hge : ¬ (k : Int) < (rm.length : Int) := by omega
      clear hlt hk hl
      go_wp2_with fail
      obtain ⟨ll, hll⟩ : ∃ ll, l = ll := ⟨_, rfl⟩
      rw [hll] at HN
      have h4 := T4.out.size
      clear hll
      obtain ⟨wo, rfl⟩ : ∃ wo : World, wo = wr := ⟨_, rfl⟩
      go_loopw [18] (fun vi wr => ∃ (k : Nat) (l : List Int), vi = .int .i64 k ∧ k ≤ rq.length ∧ l.length = rq.length ∧ Hid (OwnR encU 1 23 W4.heap.size W5.heap.size wr (.slice pJ rq.length cJ) l) ∧ Hid (OwnR encU 1 23 X3.heap.size W4.heap.size wr (.slice pN rm.length cN) ll) ∧ Hid (Below X3.heap.size X3 wr)) (fun vi _ => rq.length - (intOf vi).toNat)
      case atStart => exact ⟨0, rq, rfl, Nat.zero_le _, rfl, HJ, HN, HB⟩
      case round =>
        clear HN HJ HB
        obtain ⟨k, l, rfl, hk, hl, HN, HJ, HB⟩ := hrel
        by_cases hlt : k < rq.length
        · have hltz : (k : Int) < (rq.length : Int) := by omega
          obtain ⟨x, hx⟩ : ∃ x, l[k]? = some x := ⟨_, List.getElem?_eq_getElem (by omega)⟩
          obtain ⟨g, cc, hv, hlo, hhi, hfz, hcell, hset⟩ := HN.out.at_ encU_len hx
          simp only [Value.slice.injEq] at hv
          obtain ⟨rfl, -, rfl⟩ := hv
          have e1 := hcell 0 _ (by rfl : (encU x)[0]? = some (.int .u32 x))
          have e2 := hset 0 (.int .u32 7) 7 (by decide) rfl
          have e3 : (OwnR encU 1 23 X3.heap.size W4.heap.size (wr.setCell ⟨g, k * 1 + 0, none⟩ (.int .u32 7)) (.slice pN rm.length cN) ll) := HJ.out.other (.inr hlo)
          have e4 : Below X3.heap.size X3 (wr.setCell ⟨g, k * 1 + 0, none⟩ (.int .u32 7)) := Below.setCell (p := ⟨g, k * 1 + 0, none⟩) HB.out (by show X3.heap.size ≤ g; omega) _
          simp only [Nat.mul_one, Nat.add_zero] at e1 e2 e3 e4
          have f1 := hfz k
          have K2 := Lib.hid e2
          have K3 := Lib.hid e3
          have K4 := Lib.hid e4
          have hl2 : Hid ((l.set k 7).length = rq.length) := Lib.hid (by rw [List.length_set]; exact hl)
          clear hcell hset hx hfz e2 e3 e4 hl
          go_wp2_with fail
          go_roundw
          case rel => exact ⟨k + 1, l.set k 7, by go_num, by omega, hl2.out, K2, K3, K4⟩
          case measure => simp [intOf] <;> omega
        · have hge : ¬ (k : Int) < (rq.length : Int) := by omega
          clear hlt hk hl
          go_wp2_with fail
          go_at_call 9
          (with_reducible refine (same_is (.slice px2 a.length cx2) (.slice p0 a.length c0) a wr (RX.out _ HB.out) (RA.out _ HB.out) (by omega)).mono ?_)
          rintro e W20 ⟨rfl, hb20⟩
          have B20 := Lib.hid (Below.step HB.out hb20)
          clear hb20
          go_wp2_with fail
          go_at_call 9
          (with_reducible refine (same_is (.slice px3 b.length cx3) (.slice p1 b.length c1) b W20 (RY.out _ B20.out) (RB.out _ B20.out) (by omega)).mono ?_)
          rintro e W21 ⟨rfl, hb21⟩
          have B21 := Lib.hid (Below.step S3.out (Below.step B20.out hb21))
          clear hb21
          go_wp2_with fail
          go_ret
          exact ⟨rfl, B21.out⟩
end Go.Proofs.YtkkhmdiffddllaaDoor
