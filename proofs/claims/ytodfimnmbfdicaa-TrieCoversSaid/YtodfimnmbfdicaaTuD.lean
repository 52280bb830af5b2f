/- What Over of the reference does with rows. Under the conditions that it names. -/
import Derived.Test.YtodfimnmbfdicaaTuC
namespace Go.Proofs.Ytodfimnmbfdicaa
open Go.RowKit Go.Shelf
attribute [local go_sem] Oper.semAt_some
def overP (a : Int) (k : Nat) (x : Kv) : Bool := decide (x.1.2 = (k : Int)) && inB a x.1.1 x.1.2
def overUp (a : Int) (L : List Kv) (k : Nat) : List Kv := (List.range k).flatMap fun i => L.filter (overP a i)
def overR (a : Int) (L : List Kv) : List Kv := overUp a L 33
theorem overUp_succ (a : Int) (L : List Kv) (k : Nat) : overUp a L (k + 1) = overUp a L k ++ L.filter (overP a k) := by
  unfold overUp
  rw [List.range_succ, List.flatMap_append]
  simp
theorem overUp_len (a : Int) (L : List Kv) (k : Nat) : (overUp a L k).length ≤ k * L.length := by
  induction k with
  | zero => simp [overUp]
  | succ k ih =>
    rw [overUp_succ, List.length_append, Nat.succ_mul]
    have := List.length_filter_le (overP a k) L
    omega
structure OverJ (w : World) (C : List Kv) (s : Value) (wr : World) : Prop where
  own : wr.ownsRow w.heap.size 77 3 s C.length (flatK encRow C)
  bel : Below w.heap.size w wr
set_option maxRecDepth 100000 in
set_option maxHeartbeats 4000000 in
theorem rover_is (L : List Kv) (lv : Value) (a : Int) (w : World) (hr : RdK encRow 3 w lv L) (hl : L.length ≤ 100000) (hrg : ∀ x ∈ L, 0 ≤ x.1.1 ∧ x.1.1 < 4294967296) (ha : 0 ≤ a) (ha2 : a < 4294967296) :
    Calls Try.prog 19 #[lv, .int .u32 a] w fun e w' => ∃ v', e = .returned v' ∧ RdK encRow 3 w' v' (overR a L) ∧ Below w.heap.size w w' := by
  have HR := Lib.hid hr; have HRG := Lib.hid hrg
  obtain ⟨p, c, rfl, hlc, hcm, _⟩ := hr.sl
  unfold maxLen at hcm
  clear hr hrg
  go_enter Try.func19, Try.ntmps19
  go_wp2_with fail
  go_loopw [5, 6] (fun s5 s6 wr => ∃ k : Nat, k ≤ 33 ∧ s6 = .int .i64 k ∧ Hid (OverJ w (overUp a L k) s5 wr)) (fun _ s6 _ => 33 - (intOf s6).toNat)
  case atStart => exact ⟨0, Nat.zero_le _, rfl, Lib.hid ⟨own_none _ _, Below.refl _ _⟩⟩
  case round =>
    obtain ⟨k, hk, rfl, HK⟩ := hrel
    obtain ⟨wo, hwo⟩ : ∃ wo : World, wo = wr := ⟨_, rfl⟩
    subst hwo
    have hul := overUp_len a L k
    obtain ⟨U, hU⟩ : ∃ U, overUp a L k = U := ⟨_, rfl⟩
    rw [hU] at hul HK
    have HU := Lib.hid hU
    obtain ⟨q9, k9, hq9⟩ := own_slice HK.out.own
    clear hU
    by_cases hk2 : k ≤ 32
    · have hul2 : U.length ≤ 3200000 := Nat.le_trans hul (Nat.le_trans (Nat.mul_le_mul hk2 hl) (by omega))
      have e0 : (k : Int) ≤ 32 := by omega
      clear hul
      subst hq9
      go_wp2_with fail
      go_loopw [5, 7] (fun s5 s7 wr => ∃ j : Nat, j ≤ L.length ∧ s7 = .int .i64 j ∧ Hid (OverJ w (U ++ (L.take j).filter (overP a k)) s5 wr)) (fun _ s7 _ => L.length - (intOf s7).toNat)
      case atStart => exact ⟨0, Nat.zero_le _, rfl, by simpa using HK⟩
      case round =>
        obtain ⟨j, hj, rfl, HJ⟩ := hrel
        have e1 : (0 : Int) ≤ (j : Int) := by omega
        have hol := filter_len (overP a k) L j
        obtain ⟨K, hK⟩ : ∃ K, U ++ (L.take j).filter (overP a k) = K := ⟨_, rfl⟩
        have hkl : K.length ≤ 3300000 := by rw [← hK, List.length_append]; omega
        rw [hK] at HJ
        obtain ⟨q8, k8, hq8⟩ := own_slice HJ.out.own
        have HKK := Lib.hid hK
        clear hol hK
        subst hq8
        by_cases hlt : j < L.length
        · obtain ⟨⟨⟨x0, x1⟩, xv⟩, hx⟩ : ∃ x, L[j]? = some x := ⟨_, List.getElem?_eq_getElem hlt⟩
          have hrx := HRG.out _ (List.mem_of_getElem? hx)
          simp only at hrx
          obtain ⟨b, o, c', he, hbl, hcx⟩ := rd_row HR.out hx
          simp only [Value.slice.injEq] at he
          obtain ⟨rfl, -, rfl⟩ := he
          obtain ⟨f0, f1, f2⟩ := hcx wr HJ.out.bel
          simp only at f0 f1 f2
          have HCX := Lib.hid hcx
          have HX := Lib.hid hx
          have e2 : (j : Int) < (L.length : Int) := by omega
          have hzr : w.heap.size ≤ wr.heap.size := HJ.out.bel.size
          clear hcx hx
          by_cases hb : x1 = (k : Int)
          · have hbe : (x1 == (k : Int)) = true := by simpa using hb
            obtain ⟨tv, htv⟩ : ∃ t, inB a x0 x1 = t := ⟨_, rfl⟩
            have HIN := Lib.hid (show ∀ W, Calls Try.prog 26 #[.int .u32 a, .agg #[.int .u32 x0, .int .i64 x1]] W fun e w' => e = .returned (.bool tv) ∧ Below W.heap.size W w' from fun W => by rw [← htv]; exact rin_is a x0 x1 W ha ha2 hrx.1 hrx.2)
            have HPV : Hid (overP a k ((x0, x1), xv) = tv) := Lib.hid (by unfold overP; simp only; rw [htv, show decide (x1 = (k : Int)) = true by simpa using hb]; rfl)
            clear htv hb hrx
            cases tv with
            | true =>
              have HS := Lib.hid (show U ++ (L.take (j + 1)).filter (overP a k) = K ++ [((x0, x1), xv)] by rw [filter_step HX.out, HPV.out, ← HKK.out]; simp)
              go_wp2_with fail
              go_at_call 26
              refine (HIN.out wr).mono ?_
              rintro e w2 ⟨rfl, hb2⟩
              obtain ⟨f0, f1, f2⟩ := HCX.out w2 (Below.step HJ.out.bel hb2)
              (try simp only at f0 f1 f2)
              have HO3 := Lib.hid (own_on HJ.out.own hb2)
              have HJ2 := Lib.hid (Below.step HJ.out.bel hb2)
              have hZ2 : w.heap.size ≤ w2.heap.size := HJ2.out.size
              clear hb2
              go_wp2_with (at_builtin; refine wpList_append_rdk (enc := encRow) encRow_len (by decide) encRow_one rfl (.tmp 35) (.tmp 40) 26 77 rfl _ 24 Try.underlying26 rfl infoRow w.heap.size _ K.length _ rfl (HO3.out.alloc _) _ [((x0, x1), xv)] rfl (own_row1 _ _ _ _) (by unfold maxLen; simp; omega) (by simp; omega) (by first | (simp; done) | (simp; omega)) ?_; intro v9 w9 hown hgr hor; clear hor; have HV9 := Lib.hid hown; have HG9 := Lib.hid hgr; clear hown hgr; obtain ⟨p9, c9, rfl⟩ := own_slice HV9.out)
              go_roundw
              case rel => exact ⟨j + 1, by omega, by go_num, Lib.hid ⟨by rw [HS.out]; simpa [flatK] using HV9.out, HJ2.out.trans (Below.grown ((Below.refl _ _).alloc hZ2 _) HG9.out (by simp; omega) fun x hx => (HO3.out.lt x hx).1)⟩⟩
              case measure => simp [intOf]; omega
            | false =>
              have HS := Lib.hid (show U ++ (L.take (j + 1)).filter (overP a k) = K by rw [filter_step HX.out, HPV.out, ← HKK.out]; simp)
              go_wp2_with fail
              go_at_call 26
              refine (HIN.out wr).mono ?_
              rintro e w2 ⟨rfl, hb2⟩
              have HO3 := Lib.hid (own_on HJ.out.own hb2)
              have HJ2 := Lib.hid (Below.step HJ.out.bel hb2)
              clear hb2
              go_wp2_with fail
              go_roundw
              case rel => exact ⟨j + 1, by omega, by go_num, Lib.hid ⟨by rw [HS.out]; exact HO3.out, HJ2.out⟩⟩
              case measure => simp [intOf]; omega
          · have hbe : (x1 == (k : Int)) = false := by simpa using hb
            have HPV : Hid (overP a k ((x0, x1), xv) = false) := Lib.hid (by unfold overP; simp only; rw [show decide (x1 = (k : Int)) = false by simpa using hb]; rfl)
            have HS := Lib.hid (show U ++ (L.take (j + 1)).filter (overP a k) = K by rw [filter_step HX.out, HPV.out, ← HKK.out]; simp)
            clear hb hrx
            go_wp2_with fail
            go_roundw
            case rel => exact ⟨j + 1, by omega, by go_num, Lib.hid ⟨by rw [HS.out]; exact HJ.out.own, HJ.out.bel⟩⟩
            case measure => simp [intOf]; omega
        · have hjl : j = L.length := by omega
          subst hjl
          have hd : decide ((L.length : Int) < (L.length : Int)) = false := by simp
          have HE : Hid (overUp a L (k + 1) = K) := Lib.hid (by rw [overUp_succ, HU.out, ← HKK.out, List.take_length])
          go_wp2_with fail
          go_roundw
          case rel => exact ⟨k + 1, by omega, by go_num, Lib.hid ⟨by rw [HE.out]; exact HJ.out.own, by rw [HE.out] at *; exact HJ.out.bel⟩⟩
          case measure => simp [intOf]; omega
    · have hk3 : k = 33 := by omega
      subst hk3
      clear hk hul
      subst hq9
      go_wp2_with fail
      go_ret
      refine ⟨_, rfl, ?_, HK.out.bel⟩
      rw [show overR a L = U from HU.out]
      exact RdK.of_own encRow_len HK.out.own
end Go.Proofs.Ytodfimnmbfdicaa
