/- The reader of package lex: what take and until hand back. Under the conditions that they name. -/
import Derived.Test.YthkiojedkafdhaaLxR
import Derived.Lib.BufferMore
namespace Go.Proofs.Ythkiojedkafdhaa
open Go.RowKit
theorem adv_take (t : List UInt8) (k : Nat) (hk : k < t.length) (p : Int × Int) : adv (t.take (k + 1)) p = (if t[k] = 10 then ((adv (t.take k) p).1 + 1, 1) else ((adv (t.take k) p).1, (adv (t.take k) p).2 + 1)) := by
  rw [List.take_succ_eq_append_getElem hk]
  generalize t.take k = u
  induction u generalizing p with
  | nil => rfl
  | cons b u ih => exact ih _
theorem adv_bound : ∀ (t : List UInt8) (p : Int × Int), 0 ≤ p.1 → 0 ≤ p.2 → 0 ≤ (adv t p).1 ∧ (adv t p).1 ≤ p.1 + t.length ∧ 0 ≤ (adv t p).2 ∧ (adv t p).2 ≤ p.2 + 1 + t.length
  | [], p, h1, h2 => by simp [adv, h1, h2]; omega
  | b :: r, p, h1, h2 => by
    simp only [adv, List.length_cons]
    split
    · have := adv_bound r (p.1 + 1, 1) (by simp; omega) (by simp)
      simp only at this; omega
    · have := adv_bound r (p.1, p.2 + 1) h1 (by simp; omega)
      simp only at this; omega
theorem gb_draw (W : World) (n g : Nat) : W.grownBy (W.drewN n) (some g) := ⟨rfl, rfl, rfl, Nat.le_refl _, fun _ _ _ => rfl⟩
theorem gb_refl (W : World) (g : Nat) : W.grownBy W (some g) := ⟨rfl, rfl, rfl, Nat.le_refl _, fun _ _ _ => rfl⟩
theorem gb_set {a w : World} {g : Nat} (h : a.grownBy w (some g)) (i : Nat) (v : Value) : a.grownBy (w.setCell ⟨g, i, none⟩ v) (some g) :=
  ⟨h.os, h.tape, h.output, by simpa using h.size, fun k hk hne => (Below.heap_setCell w ⟨g, i, none⟩ v k (fun e => hne (by rw [e]))).trans (h.block k hk hne)⟩
theorem gb_trans {a b c : World} {g : Nat} (h : a.grownBy b (some g)) (k : b.grownBy c (some g)) : a.grownBy c (some g) :=
  ⟨k.os.trans h.os, k.tape.trans h.tape, k.output.trans h.output, Nat.le_trans h.size k.size, fun i hi hne => (k.block i (Nat.lt_of_lt_of_le hi h.size) hne).trans (h.block i hi hne)⟩
theorem gb_below {a b : World} {g : Nat} (h : a.grownBy b (some g)) (hg : g < a.heap.size) : Below g a b :=
  ⟨h.os, h.tape, h.output, h.size, fun k hk => h.block k (by omega) (fun e => by cases e; omega)⟩
set_option maxRecDepth 100000 in
set_option maxHeartbeats 4000000 in
theorem take_is (g : Nat) (l : List UInt8) (ln c : Int) (n : Nat) (W : World) (h : Rd W g l ln c) (hl : l.length ≤ 65536) (hn : n ≤ l.length) (hln : 0 ≤ ln) (hln2 : ln ≤ 1000000000000) (hc : 0 ≤ c) (hc2 : c ≤ 1000000000000) :
    Calls Try.prog 22 #[.pointer (some ⟨g, 0, none⟩), .int .i64 n] W fun e w' => e = .returned (.string ⟨(l.take n).toArray⟩) ∧ Rd w' g (l.drop n) (adv (l.take n) (ln, c)).1 (adv (l.take n) (ln, c)).2 ∧ W.grownBy w' (some g) := by
  have hs := mk_size l
  obtain ⟨k0, kf0⟩ := row_cell' (j := 0) h rfl
  obtain ⟨k1, kf1⟩ := row_cell' (j := 1) h rfl
  obtain ⟨k2, kf2⟩ := row_cell' (j := 2) h rfl
  have HH := Lib.hid h
  have hx1 : (⟨l.toArray⟩ : ByteArray).extract 0 n = ⟨(l.take n).toArray⟩ := by
    apply WideShapes.bytes_inj
    simp [ByteArray.data_extract]
  have hx2 : (⟨l.toArray⟩ : ByteArray).extract n l.length = ⟨(l.drop n).toArray⟩ := by
    apply WideShapes.bytes_inj
    simp [ByteArray.data_extract]
    try rw [List.take_of_length_le (by simp)]
  have htl : (l.take n).length = n := by rw [List.length_take]; omega
  have hmn : min n l.length = n := by omega
  have hnl : (n : Int) ≤ (l.length : Int) := by omega
  obtain ⟨t, ht⟩ : ∃ t, l.take n = t := ⟨_, rfl⟩
  obtain ⟨d, hd⟩ : ∃ d, l.drop n = d := ⟨_, rfl⟩
  rw [ht] at hx1 htl ⊢
  rw [hd] at hx2 ⊢
  have hts := mk_size t
  clear h ht hd
  go_enter Try.func22, Try.ntmps22
  go_wp2_with fail
  go_quiet (fail)
  go_wp2_with fail
  go_loopw [31] (fun s31 wr => ∃ k : Nat, k ≤ n ∧ s31 = .int .i64 k ∧ Rd wr g d (adv (t.take k) (ln, c)).1 (adv (t.take k) (ln, c)).2 ∧ W.grownBy wr (some g)) (fun s31 _ => n - (intOf s31).toNat)
  case atStart =>
    refine ⟨0, by omega, rfl, ?_, ?_⟩
    · exact Lib.heap_setCell_same (i := 0) HH.out _
    · exact gb_set (gb_draw W _ g) _ _
  case round =>
    obtain ⟨k, hk, rfl, hrd, hbw⟩ := hrel
    have hbd := adv_bound (t.take k) (ln, c) hln hc
    have hkl : (t.take k).length = k := by rw [List.length_take]; omega
    rw [hkl] at hbd
    by_cases hlt : k < n
    · have hkt : k < t.length := by omega
      have hst := adv_take t k hkt (ln, c)
      obtain ⟨p, q, hpq⟩ : ∃ p q, adv (t.take k) (ln, c) = (p, q) := ⟨_, _, rfl⟩
      rw [hpq] at hrd hbd hst
      simp only at hrd hbd hst
      obtain ⟨b1, b2, b3, b4⟩ := hbd
      obtain ⟨j0, jf0⟩ := row_cell' (j := 0) hrd rfl
      obtain ⟨j1, jf1⟩ := row_cell' (j := 1) hrd rfl
      obtain ⟨j2, jf2⟩ := row_cell' (j := 2) hrd rfl
      have HRD := Lib.hid hrd
      have hkn : (k : Int) < (n : Int) := by omega
      have hp1 : p + 1 ≤ 9223372036854775807 := by omega
      have hq1 : q + 1 ≤ 9223372036854775807 := by omega
      have hk' : k < (⟨t.toArray⟩ : ByteArray).size := by rw [mk_size]; exact hkt
      have hget := get_at' t k hk' hkt
      by_cases h10 : t[k] = 10
      · have hc10 : ((((⟨t.toArray⟩ : ByteArray)[k]'hk').toNat : Int) == 10) = true := by rw [hget, h10]; rfl
        rw [if_pos h10] at hst
        have HST := Lib.hid hst
        clear hrd hst h10 hpq hkl hget
        go_wp2_with fail
        go_roundw
        case rel => exact ⟨k + 1, by omega, by go_num, by rw [HST.out]; exact Lib.heap_setCell_same (i := 2) (Lib.heap_setCell_same (i := 1) (Lib.heap_setCell_same (i := 2) HRD.out _) _) _, by
          repeat refine gb_set ?_ _ _
          exact hbw⟩
        case measure => first | (simp [intOf]; done) | (simp [intOf]; omega)
      · have hc10 : ((((⟨t.toArray⟩ : ByteArray)[k]'hk').toNat : Int) == 10) = false := by
          rw [hget]
          simp only [beq_eq_false_iff_ne, ne_eq]
          exact fun h => h10 (UInt8.toNat_inj.mp (by have h10 : (10 : UInt8).toNat = 10 := rfl; omega))
        rw [if_neg h10] at hst
        have HST := Lib.hid hst
        clear hrd hst h10 hpq hkl hget
        go_wp2_with fail
        go_roundw
        case rel => exact ⟨k + 1, by omega, by go_num, by rw [HST.out]; exact Lib.heap_setCell_same (i := 2) HRD.out _, by
          repeat refine gb_set ?_ _ _
          exact hbw⟩
        case measure => first | (simp [intOf]; done) | (simp [intOf]; omega)
    · obtain rfl : k = n := by omega
      have hfull : t.take k = t := List.take_of_length_le (by omega)
      rw [hfull] at hrd
      clear hlt
      go_wp2_with fail
      go_ret
      exact ⟨rfl, hrd, hbw⟩
end Go.Proofs.Ythkiojedkafdhaa
