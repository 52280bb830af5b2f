/- The reader of package lex: what until hands back, whatever it is handed to ask. Under the conditions that it names. -/
import Derived.Test.YthkiojedkafdhaaLxT
namespace Go.Proofs.Ythkiojedkafdhaa
open Go.RowKit
/-- The place behind one more byte. -/
def stp (b : UInt8) (p : Int × Int) : Int × Int := if b = 10 then (p.1 + 1, 1) else (p.1, p.2 + 1)
/-- How many bytes stand ahead of where p says yes for the first time. -/
def cntU (p : List UInt8 → Int → Bool) : List UInt8 → Int × Int → Nat
  | [], _ => 0
  | b :: r, q => if p (b :: r) q.1 = true then 0 else cntU p r (stp b q) + 1
theorem cntU_le (p : List UInt8 → Int → Bool) : ∀ (l : List UInt8) (q : Int × Int), cntU p l q ≤ l.length
  | [], _ => by simp [cntU]
  | b :: r, q => by
    simp only [cntU, List.length_cons]
    split
    · omega
    · have := cntU_le p r (stp b q); omega
/-- How much is left, of a reader in memory. -/
def leftN (W : World) (g : Nat) : Nat := match W.heap[g]? with
  | some (Obj.cells cs _ _) => match (cs[0]? : Option Value) with
    | some (Value.string s) => s.size
    | _ => 0
  | _ => 0
theorem Rd.left {W : World} {g : Nat} {l : List UInt8} {ln c : Int} (h : Rd W g l ln c) : leftN W g = l.length := by
  unfold Rd at h
  unfold leftN
  rw [h]
  exact mk_size l
theorem step_facts {l r : List UInt8} {k : Nat} {b : UInt8} {q : Int × Int} {u v : Int} (hd : l.drop k = b :: r) (ha : adv (l.take k) q = (u, v)) : k < l.length ∧ l.drop (k + 1) = r ∧ adv (l.take (k + 1)) q = stp b (u, v) := by
  have hk : k < l.length := by
    by_cases hk : k < l.length
    · exact hk
    · rw [List.drop_of_length_le (by omega)] at hd; cases hd
  have e := List.drop_eq_getElem_cons hk
  rw [hd] at e
  obtain ⟨e1, e2⟩ := List.cons.inj e
  refine ⟨hk, e2.symm, ?_⟩
  rw [adv_take l k hk q, ha, ← e1]
  rfl
theorem ret_st {a b : ByteArray} (h : a = b) : Ending.returned (.string a) = .returned (.string b) := by rw [h]
theorem ext_front (l : List UInt8) (n : Nat) : (⟨l.toArray⟩ : ByteArray).extract 0 n = ⟨(l.take n).toArray⟩ := by
  apply WideShapes.bytes_inj
  simp [ByteArray.data_extract]
set_option maxRecDepth 100000 in
set_option maxHeartbeats 4000000 in
theorem until_is (g fk : Nat) (fst cap : Array Value) (p : List UInt8 → Int → Bool) (J : World → Prop) (hJ : ∀ A B, A.grownBy B (some g) → J A → J B) (hg : ∀ args w, (callFunc fk args).run Try.prog w = .ok (.enter fk args) w)
    (hp : ∀ (W : World) (l : List UInt8) (ln c : Int), l ≠ [] → l.length ≤ 65536 → Rd W g l ln c → J W → Calls Try.prog fk (fst ++ cap) W fun e w' => e = .returned (.bool (p l ln)) ∧ W = w')
    (l : List UInt8) (ln c : Int) (W : World) (h : Rd W g l ln c) (h0 : J W) (hl : l.length ≤ 65536) (hln : 0 ≤ ln) (hln2 : ln ≤ 1000000000) (hc : 0 ≤ c) (hc2 : c ≤ 1000000000) :
    Calls Try.prog 15 #[.pointer (some ⟨g, 0, none⟩), .func (.func fk) fst cap] W fun e w' => e = .returned (.string ⟨(l.take (cntU p l (ln, c))).toArray⟩) ∧ Rd w' g (l.drop (cntU p l (ln, c))) (adv (l.take (cntU p l (ln, c))) (ln, c)).1 (adv (l.take (cntU p l (ln, c))) (ln, c)).2 ∧ W.grownBy w' (some g) := by
  obtain ⟨N, hN⟩ : ∃ N, cntU p l (ln, c) = N := ⟨_, rfl⟩
  have hNl : N ≤ l.length := by rw [← hN]; exact cntU_le p l (ln, c)
  rw [hN]
  have HN := Lib.hid hN; have HP := Lib.hid hp; have HJ := Lib.hid hJ; have HG := Lib.hid hg; have HH := Lib.hid h; have HJ0 := Lib.hid h0
  have hs := mk_size l
  obtain ⟨k0, _⟩ := row_cell' (j := 0) h rfl
  clear hN hp hJ hg h h0
  go_enter Try.func15, Try.ntmps15
  go_wp2_with fail
  go_loopw [10] (fun _ wr => ∃ k : Nat, k ≤ l.length ∧ k + cntU p (l.drop k) (adv (l.take k) (ln, c)) = N ∧ Rd wr g (l.drop k) (adv (l.take k) (ln, c)).1 (adv (l.take k) (ln, c)).2 ∧ W.grownBy wr (some g) ∧ Hid (J wr)) (fun _ wr => leftN wr g)
  case atStart => exact ⟨0, by omega, by simpa [adv] using HN.out, HH.out, gb_refl _ _, HJ0⟩
  case round =>
    obtain ⟨k, hk, hkN, hrd, hbw, HJr⟩ := hrel
    obtain ⟨rest, hrest⟩ : ∃ rest, l.drop k = rest := ⟨_, rfl⟩
    have hbd := adv_bound (l.take k) (ln, c) hln hc
    have hkl : (l.take k).length = k := by rw [List.length_take]; omega
    rw [hkl] at hbd
    obtain ⟨u, v, huv⟩ : ∃ u v, adv (l.take k) (ln, c) = (u, v) := ⟨_, _, rfl⟩
    rw [hrest, huv] at hrd hkN
    rw [huv] at hbd
    simp only at hrd hbd
    obtain ⟨b1, b2, b3, b4⟩ := hbd
    have hrl : rest.length = l.length - k := by rw [← hrest, List.length_drop]
    have HD := Lib.hid (fun W h => done_is g rest u v W h)
    have HREST := Lib.hid hrest; have HUV := Lib.hid huv
    have hg1 := HG.out
    cases rest with
    | nil =>
      have hkl2 : k = l.length := by simp at hrl; omega
      have hkn : k = N := by simpa [cntU] using hkN
      obtain ⟨j0, _⟩ := row_cell' (j := 0) hrd rfl
      have HRD := Lib.hid hrd
      clear hrest huv hkN hrl
      go_wp2_with (go_at_call 11; (refine (HD.out _ HRD.out).mono ?_); rintro e w1 ⟨rfl, rfl⟩)
      go_ret
      subst hkn
      exact ⟨ret_st (by rw [← ext_front]; congr 1 <;> omega), by rw [HREST.out, HUV.out]; exact HRD.out, hbw⟩
    | cons b r =>
      obtain ⟨y, hy⟩ : ∃ y, p (b :: r) u = y := ⟨_, rfl⟩
      have HQ : Hid (Calls Try.prog fk (fst ++ cap) wr fun e w' => e = .returned (.bool y) ∧ wr = w') := Lib.hid (by rw [← hy]; exact HP.out wr (b :: r) u v (by simp) (by omega) hrd HJr.out)
      have HRD := Lib.hid hrd
      cases y with
      | true =>
        have hkn : k = N := by simpa [cntU, hy] using hkN
        obtain ⟨j0, _⟩ := row_cell' (j := 0) hrd rfl
        have hx := ext_front l N
        have hrs := mk_size (b :: r)
        have hsub : (l.length : Int) - ((b :: r).length : Int) = (N : Int) := by omega
        have hsub2 : (l.length : Int) - ((r.length : Int) + 1) = (N : Int) := by simp at hrl; omega
        have hNi : (N : Int) ≤ (l.length : Int) := by omega
        clear hrest huv hkN hy hrd
        go_wp2_with (first | (go_at_call 11; (refine (HD.out _ HRD.out).mono ?_); rintro e w1 ⟨rfl, rfl⟩) | (refine HQ.out.mono ?_; rintro e w1 ⟨rfl, rfl⟩))
        go_ret
        subst hkn
        exact ⟨ret_st (by rw [← ext_front]; congr 1; omega), by rw [HREST.out, HUV.out]; exact HRD.out, hbw⟩
      | false =>
        have hkn : k + 1 + cntU p r (stp b (u, v)) = N := by rw [← hkN]; simp [cntU, hy]; omega
        have htk := take_is g (b :: r) u v 1 wr hrd (by omega) (by simp) b1 (by omega) b3 (by omega)
        have HT : Hid (Calls Try.prog 22 #[.pointer (some ⟨g, 0, none⟩), .int .i64 1] wr fun e w' => e = .returned (.string ⟨[b].toArray⟩) ∧ Rd w' g r (stp b (u, v)).1 (stp b (u, v)).2 ∧ wr.grownBy w' (some g)) := Lib.hid htk
        clear hrest huv hkN hy hrd htk
        go_wp2_with (first | (go_at_call 11; (refine (HD.out _ HRD.out).mono ?_); rintro e w1 ⟨rfl, rfl⟩) | (refine HQ.out.mono ?_; rintro e w1 ⟨rfl, rfl⟩) | (go_at_call 22; (refine HT.out.mono ?_); rintro e w2 ⟨rfl, hrd2, hb2⟩))
        obtain ⟨hkl3, hd1, ha1⟩ := step_facts HREST.out HUV.out
        go_roundw
        case rel =>
          refine ⟨k + 1, hkl3, ?_, ?_, gb_trans hbw hb2, Lib.hid (HJ.out _ _ hb2 HJr.out)⟩
          · rw [hd1, ha1]; exact hkn
          · rw [hd1, ha1]; exact hrd2
        case measure =>
          rw [hrd2.left, HRD.out.left]
          simp
end Go.Proofs.Ythkiojedkafdhaa
