/- What Parse of package lists reads of a text: the community whose text it is, if it is one's. The variables ErrSyntax and ErrRange of package strconv are asked to hold errors, the table of powers of ten to be what its text says. -/
import Derived.Test.YtkkhmdiffddllaaDoorUvA
namespace Go.Proofs.YtkkhmdiffddllaaDoor
open Go.Shelf Go.RowKit Go.Lib
/-- The community of a text. -/
def parV (l : List UInt8) : Option Nat := match num (cut1 l 58).1 65535, num (cut1 l 58).2.1 65535 with
  | some a, some b => some (a * 65536 + b)
  | _, _ => none
theorem numE (t : Nat) : num [] t = none := by unfold num; simp
theorem cut1_gone (l : List UInt8) (c : UInt8) (h : (cut1 l c).2.2 = false) : (cut1 l c).2.1 = [] := by
  by_cases hm : c ∈ l
  · obtain ⟨p, r, e, hp⟩ := List.eq_append_cons_of_mem hm
    rw [e, cut1_mk p r c hp] at h
    cases h
  · rw [cut1_none l c hm]
/-- What a community's text is read as. -/
theorem par_tx (c : Nat) (hc : c < 4294967296) : num (cut1 (txC c) 58).1 65535 = some (c / 65536) ∧ num (cut1 (txC c) 58).2.1 65535 = some (c % 65536) := by
  unfold txC
  rw [show Lib.decDigits (c / 65536) ++ [58] ++ Lib.decDigits (c % 65536) = Lib.decDigits (c / 65536) ++ 58 :: Lib.decDigits (c % 65536) by simp, cut1_mk _ _ _ (dec_no _ _ (by decide))]
  exact ⟨num_dec _ _ (by omega), num_dec _ _ (by omega)⟩
theorem tx_par {l : List UInt8} {a b : Nat} (h1 : num (cut1 l 58).1 65535 = some a) (h2 : num (cut1 l 58).2.1 65535 = some b) : txC (a * 65536 + b) = l ∧ a ≤ 65535 ∧ b ≤ 65535 := by
  have ha := (num_some h1).2.2.2.1
  have hb := (num_some h2).2.2.2.1
  refine ⟨?_, ha, hb⟩
  cases hf : (cut1 l 58).2.2 with
  | false => rw [cut1_gone l 58 hf, numE] at h2; cases h2
  | true =>
    have h := cut1_yes l 58 hf
    unfold txC
    rw [show (a * 65536 + b) / 65536 = a by omega, show (a * 65536 + b) % 65536 = b by omega, dec_num h1, dec_num h2]
    simpa using h.symm
theorem parV_tx (c : Nat) (hc : c < 4294967296) : parV (txC c) = some c := by
  obtain ⟨h1, h2⟩ := par_tx c hc
  unfold parV
  rw [h1, h2]
  simp only [Option.some.injEq]
  omega
theorem parV_some {l : List UInt8} {c : Nat} (h : parV l = some c) : txC c = l ∧ c < 4294967296 := by
  unfold parV at h
  split at h
  · rename_i a b h1 h2
    obtain ⟨h3, h4, h5⟩ := tx_par h1 h2
    cases h
    exact ⟨h3, by omega⟩
  · cases h
/-- What Parse tells. -/
def parE : Option Nat → Int × Int
  | some c => (c, 0)
  | none => (0, 4)
theorem or32 (x y : Int) : 0 ≤ bits .or .u32 x y ∧ bits .or .u32 x y < 4294967296 := by
  unfold bits
  exact wrap32 _
theorem join32 (a b : Nat) (ha : a ≤ 65535) (hb : b ≤ 65535) : bits .or .u32 ((a : Int) * 65536 % 4294967296) (b : Int) = ((a * 65536 + b : Nat) : Int) := by
  have e : (a : Int) * 65536 % 4294967296 = (a : Int) * 65536 := by omega
  rw [e, bits_join .u32 32 (by decide) wraps_u32 16 ((a : Int) * 65536) (b : Int) (by omega) (by omega) (by omega) (by omega) (by omega) (by omega)]
  omega
set_option maxRecDepth 100000 in
set_option maxHeartbeats 1000000 in
theorem lparse_is (s : ByteArray) (hs : s.size ≤ 140737488355328) (w : World) (ht : Tab10 w) (hE : ErrV w) : Calls Tryd.prog 7 #[.string s] w fun e w' =>
    e = .returned (.tuple #[.int .u32 (parE (parV s.data.toList)).1, .int .i64 (parE (parV s.data.toList)).2]) ∧ Below w.heap.size w w' := by
  have C1 := Lib.hid (scut_is s 58 w (by omega))
  obtain ⟨l, hl⟩ : ∃ l, s.data.toList = l := ⟨_, rfl⟩
  have hll : l.length = s.size := by rw [← hl]; simp
  have hlen := cut1_len l 58
  obtain ⟨p, hp⟩ : ∃ p, parE (parV l) = p := ⟨_, rfl⟩
  have HP := Lib.hid hp
  rw [hl] at C1 ⊢
  rw [hp]
  have HK := Lib.hid fun (c : Nat) (hc : c < 4294967296) => par_tx c hc
  have HT := Lib.hid (fun (a b : Nat) => tx_par (l := l) (a := a) (b := b))
  have HPV : Hid (parV l = match num (cut1 l 58).1 65535, num (cut1 l 58).2.1 65535 with | some a, some b => some (a * 65536 + b) | _, _ => none) := Lib.hid rfl
  have HSL := Lib.hid hl
  obtain ⟨L1, hL1⟩ : ∃ x, (cut1 l 58).1 = x := ⟨_, rfl⟩
  obtain ⟨L2, hL2⟩ : ∃ x, (cut1 l 58).2.1 = x := ⟨_, rfl⟩
  obtain ⟨fb, hfb⟩ : ∃ x, (cut1 l 58).2.2 = x := ⟨_, rfl⟩
  have HL1 := Lib.hid hL1
  have HL2 := Lib.hid hL2
  rw [hL1, hL2, hfb] at C1
  rw [hL1, hL2] at hlen
  have C2 := Lib.hid fun W (hW : Below w.heap.size w W) => half_is ⟨L1.toArray⟩ (by simp [ByteArray.size]; omega) W (hE.on hW)
  have C3 := Lib.hid fun W (hW : Below w.heap.size w W) => half_is ⟨L2.toArray⟩ (by simp [ByteArray.size]; omega) W (hE.on hW)
  have C4 := Lib.hid fun (c : Nat) (hc : c < 4294967296) W (hW : Below w.heap.size w W) => ltext_is c hc W (ht.on hW)
  clear hl hp hL1 hL2 hfb hll hlen ht hE
  go_enter Tryd.func7, Tryd.ntmps7
  go_wp2_with fail
  go_at_call 20
  (with_reducible refine C1.out.mono ?_)
  rintro e w1 ⟨rfl, hb1⟩
  have B1 := Lib.hid hb1
  clear hb1 C1
  go_wp2_with fail
  go_at_call 21
  (with_reducible refine (C2.out _ B1.out).mono ?_)
  rintro e w2 ⟨hb2, v1, v10, v11, rfl, hv1⟩
  have B2 := Lib.hid (Below.step B1.out hb2)
  have V1 := Lib.hid hv1
  clear hb2 hv1 C2
  go_wp2_with fail
  go_at_call 21
  (with_reducible refine (C3.out _ B2.out).mono ?_)
  rintro e w3 ⟨hb3, v2, v20, v21, rfl, hv2⟩
  have B3 := Lib.hid (Below.step B2.out hb3)
  have V2 := Lib.hid hv2
  clear hb3 hv2 C3
  obtain ⟨E, hEE⟩ : ∃ E, bits .or .u32 (v1 * 65536 % 4294967296) v2 = E := ⟨_, rfl⟩
  have E0 : 0 ≤ E ∧ E < 4294967296 := by rw [← hEE]; exact or32 _ _
  obtain ⟨c, rfl⟩ : ∃ c : Nat, E = (c : Int) := ⟨E.toNat, by omega⟩
  have hc : c < 4294967296 := by omega
  have HEE := Lib.hid hEE
  have HSA : Hid (s = ⟨l.toArray⟩) := Lib.hid (by rw [← HSL.out])
  have hpv : txC c = l → p = ((c : Int), 0) := fun h => by rw [← HP.out, ← h, parV_tx c hc]; rfl
  have hno : txC c ≠ l → p = (0, 4) := fun h => by
    rw [← HP.out]
    have : parV l = none := by
      cases hh : parV l with
      | none => rfl
      | some c0 =>
        exfalso
        obtain ⟨h1, h2⟩ := parV_some hh
        obtain ⟨h3, h4⟩ := par_tx c0 h2
        rw [h1, HL1.out] at h3
        rw [h1, HL2.out] at h4
        have e1 := V1.out (c0 / 65536) (by simpa using h3)
        have e2 := V2.out (c0 % 65536) (by simpa using h4)
        have e3 := HEE.out
        rw [e1, e2, join32 _ _ (by omega) (by omega)] at e3
        have : c0 = c := by omega
        exact h (this ▸ h1)
    rw [this]; rfl
  have HPV2 := Lib.hid hpv
  have HNO := Lib.hid hno
  clear hpv hno E0
  go_wp2_with fail
  go_at_call 12
  (with_reducible refine (C4.out c hc w3 B3.out).mono ?_)
  rintro e w4 ⟨rfl, hb4⟩
  have B4 := Lib.hid (Below.step B3.out hb4)
  clear hb4
  obtain ⟨TX, hTX⟩ : ∃ x, txC c = x := ⟨_, rfl⟩
  rw [hTX] at HPV2 HNO ⊢
  by_cases hx : TX = l
  · have k2 : (TX == s.toList) = true := by rw [hx, HSA.out]; simp [ByteArray.toList_eq]
    have HX := Lib.hid hx
    clear hx
    go_wp2
    go_ret2
    exact ⟨by rw [HPV2.out HX.out]; rfl, B4.out⟩
  · have k2 : (TX == s.toList) = false := by rw [HSA.out]; simpa [ByteArray.toList_eq] using hx
    have HX := Lib.hid hx
    clear hx
    go_wp2
    go_ret2
    exact ⟨by rw [HNO.out HX.out]; rfl, B4.out⟩
end Go.Proofs.YtkkhmdiffddllaaDoor
