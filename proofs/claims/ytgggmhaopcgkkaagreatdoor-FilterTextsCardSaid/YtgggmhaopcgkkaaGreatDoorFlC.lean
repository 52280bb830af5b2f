/- What Check of package filter and of waymarkref10 does. No condition but that what is handed in is of its kind. -/
import Derived.Test.YtgggmhaopcgkkaaGreatDoorFlA
import Derived.Test.YtgggmhaopcgkkaaGreatDoorFlW
namespace Go.Proofs.YtgggmhaopcgkkaaGreatDoor
open Go.RowKit
/-- Rules in a slice: they read, and each is of its kind. -/
structure RdR (w : World) (v : Value) (l : List RuleD) : Prop where
  rd : RdK encR 10 w v l
  ok : ∀ r ∈ l, r.ok
theorem RdR.below {w w' : World} {v : Value} {l : List RuleD} (h : RdR w v l) (hb : Below w.heap.size w w') : RdR w' v l := ⟨h.rd.below hb, h.ok⟩
/-- What Check tells. -/
def ckF (l : List RuleD) : Int := if l.length ≤ 256 ∧ l.all mayB = true then 0 else 121
theorem ckF_ok {l : List RuleD} (h : l.length ≤ 256) (h2 : ∀ (i : Nat) (s : RuleD), l[i]? = some s → mayB s = true) : ckF l = 0 := by
  unfold ckF
  rw [if_pos ⟨h, by
    rw [List.all_eq_true]
    intro s hs
    obtain ⟨i, hi, e⟩ := List.mem_iff_getElem.1 hs
    exact h2 i s (by rw [List.getElem?_eq_getElem hi, e])⟩]
theorem ckF_long {l : List RuleD} (h : 256 < l.length) : ckF l = 121 := by
  unfold ckF
  rw [if_neg (by omega)]
theorem ckF_no {l : List RuleD} {i : Nat} {s : RuleD} (h : l[i]? = some s) (h2 : mayB s = false) : ckF l = 121 := by
  unfold ckF
  rw [if_neg]
  rintro ⟨_, h3⟩
  rw [List.all_eq_true] at h3
  have := h3 s (List.mem_of_getElem? h)
  rw [h2] at this
  cases this
set_option maxHeartbeats 1000000 in
theorem check_f (nm : ByteArray) (v : Value) (l : List RuleD) (w : World) (hr : RdR w v l) : Calls Tryz.prog 28 #[.agg #[.string nm, v]] w fun e w' => e = .returned (.int .i64 (ckF l)) ∧ Below w.heap.size w w' := by
  obtain ⟨p, c, rfl, hlc, hcm, hp⟩ := hr.rd.sl
  have HP := Lib.hid hp
  have HOK := Lib.hid hr.ok
  clear hp hr
  unfold maxLen at hcm
  by_cases hlong : 256 < l.length
  · have HL := Lib.hid (ckF_long hlong)
    have h1 : (256 : Int) < (l.length : Int) := by omega
    clear hlong
    go_enter Tryz.func28, Tryz.ntmps28
    go_wp2
    go_ret
    exact ⟨ret_int HL.out.symm, by go_grown⟩
  · have h1 : ¬ (256 : Int) < (l.length : Int) := by omega
    have HS : Hid (l.length ≤ 256) := Lib.hid (by omega)
    clear hlong
    have hb0 : Below w.heap.size w (w.alloc (.cells #[.string nm, .slice p l.length c] 39)) := (Below.refl _ _).alloc (Nat.le_refl _) _
    have HB0 := Lib.hid hb0
    clear hb0
    go_enter Tryz.func28, Tryz.ntmps28
    go_wp2
    go_loopw [12] (fun i wr => ∃ k : Nat, k ≤ l.length ∧ i = .int .i64 k ∧ Hid (∀ (i : Nat) (s : RuleD), i < k → l[i]? = some s → mayB s = true) ∧ Below w.heap.size w wr ∧ Below (w.alloc (.cells #[.string nm, .slice p l.length c] 39)).heap.size (w.alloc (.cells #[.string nm, .slice p l.length c] 39)) wr) (fun i _ => l.length - (intOf i).toNat)
    case atStart => exact ⟨0, Nat.zero_le _, rfl, Lib.hid (fun i s h => by omega), HB0.out, Below.refl _ _⟩
    case round =>
      obtain ⟨k, hk, rfl, HA, hbw, hbx⟩ := hrel
      have f0 : wr.cell? ⟨w.heap.size, 0, none⟩ = some (.string nm) := (hbx.cell (p := ⟨w.heap.size, 0, none⟩) (by simp)).trans (by go_simp)
      have f1 : wr.cell? ⟨w.heap.size, 1, none⟩ = some (.slice p l.length c) := (hbx.cell (p := ⟨w.heap.size, 1, none⟩) (by simp)).trans (by go_simp)
      have HW := Lib.hid hbw; have HX := Lib.hid hbx
      clear hbw hbx
      by_cases hlt : k < l.length
      · obtain ⟨s, hs⟩ : ∃ s, l[k]? = some s := ⟨_, List.getElem?_eq_getElem hlt⟩
        obtain ⟨b, o, rfl, hbs, hc⟩ := HP.out k s hs
        have hc := hc wr HW.out
        have hok := HOK.out s (List.mem_of_getElem? hs)
        have HS2 := Lib.hid hs
        have e1 : (0 : Int) ≤ (k : Int) := by omega
        have e2 : (k : Int) < (l.length : Int) := by omega
        have hz := HW.out.size
        obtain ⟨q, hq⟩ : ∃ q, mayB s = q := ⟨_, rfl⟩
        have HQ := Lib.hid hq
        clear hs
        obtain ⟨perm, proto, sa, sn, da, dn, sl, sh, dl, dh⟩ := s
        have hcall : ∀ W, Calls Tryz.prog 13 #[.agg #[.bool perm, .int .i64 proto, .int .u32 sa, .int .i64 sn, .int .u32 da, .int .i64 dn, .int .u32 sl, .int .u32 sh, .int .u32 dl, .int .u32 dh]] W fun e w' => e = .returned (.bool q) ∧ Below W.heap.size W w' := fun W => by rw [← hq]; exact ruleMay_is _ W hok
        have HC := Lib.hid hcall
        clear hq hcall hok
        simp only [encR] at hc
        have c0 : wr.cell? ⟨b, o + k * 10, none⟩ = some (.bool perm) := hc 0 _ rfl
        have c1 : wr.cell? ⟨b, o + k * 10 + 1, none⟩ = some (.int .i64 proto) := hc 1 _ rfl
        have c2 : wr.cell? ⟨b, o + k * 10 + 2, none⟩ = some (.int .u32 sa) := hc 2 _ rfl
        have c3 : wr.cell? ⟨b, o + k * 10 + 3, none⟩ = some (.int .i64 sn) := hc 3 _ rfl
        have c4 : wr.cell? ⟨b, o + k * 10 + 4, none⟩ = some (.int .u32 da) := hc 4 _ rfl
        have c5 : wr.cell? ⟨b, o + k * 10 + 5, none⟩ = some (.int .i64 dn) := hc 5 _ rfl
        have c6 : wr.cell? ⟨b, o + k * 10 + 6, none⟩ = some (.int .u32 sl) := hc 6 _ rfl
        have c7 : wr.cell? ⟨b, o + k * 10 + 7, none⟩ = some (.int .u32 sh) := hc 7 _ rfl
        have c8 : wr.cell? ⟨b, o + k * 10 + 8, none⟩ = some (.int .u32 dl) := hc 8 _ rfl
        have c9 : wr.cell? ⟨b, o + k * 10 + 9, none⟩ = some (.int .u32 dh) := hc 9 _ rfl
        clear hc
        cases q with
        | true =>
          go_wp2_with (go_at_call 13; (with_reducible refine (HC.out _).mono ?_); rintro e w1 ⟨rfl, hb1⟩; have HB1 := Lib.hid hb1; clear hb1)
          go_roundw
          case rel =>
            refine ⟨k + 1, by omega, by go_num, Lib.hid fun i s hi h => ?_, Below.step (by first | exact HW.out | exact HW.out.alloc hz _) HB1.out, Below.step (by first | exact HX.out | exact HX.out.alloc HX.out.size _) HB1.out⟩
            rcases Nat.lt_succ_iff_lt_or_eq.1 hi with h2 | rfl
            · exact HA.out i s h2 h
            · rw [HS2.out] at h
              cases h
              exact HQ.out
          case measure => simp [intOf]; omega
        | false =>
          go_wp2_with (go_at_call 13; (with_reducible refine (HC.out _).mono ?_); rintro e w1 ⟨rfl, hb1⟩; have HB1 := Lib.hid hb1; clear hb1)
          go_ret
          exact ⟨ret_int (ckF_no HS2.out HQ.out).symm, Below.step (by first | exact HW.out | exact HW.out.alloc hz _) HB1.out⟩
      · go_wp2
        go_ret
        exact ⟨ret_int (ckF_ok HS.out fun i s h => HA.out i s (by have := (List.getElem?_eq_some_iff.1 h).1; omega) h).symm, HW.out⟩
end Go.Proofs.YtgggmhaopcgkkaaGreatDoor
