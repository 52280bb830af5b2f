/- span of package spans: the span that a text is. Condition: the text is one that can be. -/
import Derived.Test.YtbplkeopdfciiaaDoorSqN
import Derived.Test.YtbplkeopdfciiaaDoorSCutS
import Derived.Test.YtbplkeopdfciiaaDoorSpRow
namespace Go.Proofs.YtbplkeopdfciiaaDoor
open Go.RowKit
/-- What span hands back: the span, if there is one. -/
def SpanPost (l : List UInt8) (w : World) (e : Ending) (w' : World) : Prop :=
  ∃ x y : Int, 0 ≤ x ∧ x < 4294967296 ∧ 0 ≤ y ∧ y < 4294967296 ∧ (∀ t : Nat × Nat, rdS l = some t → x = t.1 ∧ y = t.2) ∧ e = .returned (.tuple #[.agg #[.int .u32 x, .int .u32 y], .bool (rdS l).isSome]) ∧ Below w.heap.size w w'
theorem bytes_toList (l : List UInt8) : (⟨l.toArray⟩ : ByteArray).data.toList = l := rfl
theorem bytes_size (l : List UInt8) : (⟨l.toArray⟩ : ByteArray).size = l.length := rfl
theorem snum_l (l : List UInt8) (w : World) (hl : l.length ≤ 9223372036854775807) : Calls Tryd.prog 30 #[.string ⟨l.toArray⟩] w fun e w' => e = .returned (.tuple #[.int .u32 (numI (rdN l)), .bool (rdN l).isSome]) ∧ w = w' := by
  have := snumber_is ⟨l.toArray⟩ w (by rw [bytes_size]; exact hl)
  rw [bytes_toList] at this
  exact this
theorem numI_lt {l : List UInt8} {A : Option Nat} (h : rdN l = A) : 0 ≤ numI A ∧ numI A < 4294967296 := by
  cases A with
  | none => exact ⟨Int.le_refl _, by simp [numI]⟩
  | some n => have := rdN_lt h; exact ⟨by simp [numI], by simp only [numI]; omega⟩
theorem rdS_yes {l : List UInt8} {A B : Option Nat} (h : (cut1 l 45).2.2 = true) (hA : rdN (cut1 l 45).1 = A) (hB : rdN (cut1 l 45).2.1 = B) : rdS l = pairN A B := by unfold rdS; rw [if_pos h, hA, hB]
theorem rdS_no {l : List UInt8} {A : Option Nat} (h : (cut1 l 45).2.2 = false) (hA : rdN l = A) : rdS l = A.map fun n => (n, n) := by unfold rdS; rw [if_neg (by rw [h]; simp), hA]
theorem post_of {l : List UInt8} {w w' : World} {x y : Int} {b : Bool} {o : Option (Nat × Nat)} (ho : rdS l = o) (hx : 0 ≤ x ∧ x < 4294967296) (hy : 0 ≤ y ∧ y < 4294967296) (ht : ∀ t, o = some t → x = t.1 ∧ y = t.2) (hb : b = o.isSome) (hw : Below w.heap.size w w') :
    SpanPost l w (.returned (.tuple #[.agg #[.int .u32 x, .int .u32 y], .bool b])) w' := ⟨x, y, hx.1, hx.2, hy.1, hy.2, ho ▸ ht, by rw [ho, hb], hw⟩
theorem two_at {w1 : World} {b : Nat} {t : TypeId} {p q : Value} (hx : w1.heap[b]? = some (.cells #[p, q] t (0, 0))) (u v : Value) :
    ((w1.setCell ⟨b, 0, none⟩ u).setCell ⟨b, 1, none⟩ v).cell? ⟨b, 0, none⟩ = some u ∧ ((w1.setCell ⟨b, 0, none⟩ u).setCell ⟨b, 1, none⟩ v).cell? ⟨b, 1, none⟩ = some v := by
  have h := heap_setCell (o := 1) v (heap_setCell (o := 0) u hx)
  exact ⟨by rw [cell_of_heap h]; rfl, by rw [cell_of_heap h]; rfl⟩
theorem two_below {w w1 : World} {b : Nat} (h : Below b w w1) (u v : Value) : Below b w ((w1.setCell ⟨b, 0, none⟩ u).setCell ⟨b, 1, none⟩ v) :=
  (h.setCell (p := ⟨b, 0, none⟩) (Nat.le_refl _) _).setCell (p := ⟨b, 1, none⟩) (Nat.le_refl _) _
set_option maxRecDepth 100000 in
set_option maxHeartbeats 400000 in
theorem sspan_is (s : ByteArray) (w : World) (hs : s.size ≤ 9223372036854775807) : Calls Tryd.prog 17 #[.string s] w (SpanPost s.data.toList w) := by
  obtain ⟨L, hL⟩ : ∃ L, s.data.toList = L := ⟨_, rfl⟩
  have hlen : L.length ≤ 9223372036854775807 := by rw [← hL, str_toList]; exact hs
  obtain ⟨hl1, hl2⟩ := cut1_len L 45
  have hcut : ∀ W, Calls Tryd.prog 29 #[.string s, .string ⟨#[45]⟩] W fun e w' => e = .returned (.tuple #[.string ⟨(cut1 L 45).1.toArray⟩, .string ⟨(cut1 L 45).2.1.toArray⟩, .bool (cut1 L 45).2.2]) ∧ Below W.heap.size W w' := fun W => hL ▸ scut_is s 45 W hs
  rw [hL]
  obtain ⟨a, ha⟩ : ∃ a, (cut1 L 45).1 = a := ⟨_, rfl⟩
  obtain ⟨b, hb⟩ : ∃ b, (cut1 L 45).2.1 = b := ⟨_, rfl⟩
  have hn1 := fun W => snum_l a W (by rw [← ha]; omega)
  have hn2 := fun W => snum_l b W (by rw [← hb]; omega)
  obtain ⟨A, hA⟩ : ∃ A, rdN a = A := ⟨_, rfl⟩
  obtain ⟨B, hB⟩ : ∃ B, rdN b = B := ⟨_, rfl⟩
  have hi1 := numI_lt hA
  have hi2 := numI_lt hB
  rw [ha, hb] at hcut
  rw [hA] at hn1
  rw [hB] at hn2
  obtain ⟨i, hi⟩ : ∃ i, numI A = i := ⟨_, rfl⟩
  obtain ⟨k, hk⟩ : ∃ k, numI B = k := ⟨_, rfl⟩
  rw [hi] at hn1 hi1
  rw [hk] at hn2 hi2
  have HN1 := Lib.hid hn1; have HN2 := Lib.hid hn2
  obtain ⟨sa, hsa⟩ : ∃ x : ByteArray, x = ⟨a.toArray⟩ := ⟨_, rfl⟩
  obtain ⟨sb, hsb⟩ : ∃ x : ByteArray, x = ⟨b.toArray⟩ := ⟨_, rfl⟩
  rw [← hsa, ← hsb] at hcut
  rw [← hsa] at HN1
  rw [← hsb] at HN2
  have h100 : 0 ≤ i := hi1.1
  have h101 : i < 4294967296 := hi1.2
  have h102 : 0 ≤ k := hi2.1
  have h103 : k < 4294967296 := hi2.2
  cases h2 : (cut1 L 45).2.2 with
  | false =>
    have haL : a = L := by rw [← ha]; exact cut1_no L 45 h2
    have HR := Lib.hid (rdS_no (A := A) h2 (by rw [← haL]; exact hA))
    rw [h2] at hcut
    have HC := Lib.hid hcut
    have HI := Lib.hid hi
    clear hcut hn1 hn2 hA hB hL ha hb hsa hsb haL h2 hi hk hl1 hl2 hlen
    rcases A with _ | n
    · rw [show (none : Option Nat).isSome = false from rfl] at HN1
      go_enter Tryd.func17, Tryd.ntmps17
      go_wp2_with (first
        | (go_at_call 29; (with_reducible refine (HC.out _).mono ?_); rintro e w1 ⟨rfl, hb1⟩; have HB1 := Lib.hid (Below.step ((Below.refl w.heap.size w).alloc (Nat.le_refl _) _) hb1); have hx1 := (hb1.block w.heap.size (by simp)).trans (heap_new _ _); have HX1 := Lib.hid hx1; have c0 := cell_of_row _ _ 0 _ _ (0, 0) hx1; have c1 := cell_of_row _ _ 1 _ _ (0, 0) hx1; have f0 := frozen_of_row _ _ 0 _ _ hx1; have f1 := frozen_of_row _ _ 1 _ _ hx1; clear hb1 hx1)
        | (go_at_call 30; (with_reducible refine (HN1.out _).mono ?_); rintro e w2 ⟨rfl, rfl⟩))
      have hd := two_at HX1.out (.int .u32 i) (.int .u32 i)
      refine bodyPost_ret (v := .tuple #[.agg #[.int .u32 i, .int .u32 i], .bool false]) (by simp [results, Tryd.results17, go_sem, hd.1, hd.2]) rfl ?_
      exact post_of HR.out hi1 hi1 (fun t h => by cases h) rfl (two_below HB1.out _ _)
    · rw [show (some n : Option Nat).isSome = true from rfl] at HN1
      go_enter Tryd.func17, Tryd.ntmps17
      go_wp2_with (first
        | (go_at_call 29; (with_reducible refine (HC.out _).mono ?_); rintro e w1 ⟨rfl, hb1⟩; have HB1 := Lib.hid (Below.step ((Below.refl w.heap.size w).alloc (Nat.le_refl _) _) hb1); have hx1 := (hb1.block w.heap.size (by simp)).trans (heap_new _ _); have HX1 := Lib.hid hx1; have c0 := cell_of_row _ _ 0 _ _ (0, 0) hx1; have c1 := cell_of_row _ _ 1 _ _ (0, 0) hx1; have f0 := frozen_of_row _ _ 0 _ _ hx1; have f1 := frozen_of_row _ _ 1 _ _ hx1; clear hb1 hx1)
        | (go_at_call 30; (with_reducible refine (HN1.out _).mono ?_); rintro e w2 ⟨rfl, rfl⟩))
      have hd := two_at HX1.out (.int .u32 i) (.int .u32 i)
      refine bodyPost_ret (v := .tuple #[.agg #[.int .u32 i, .int .u32 i], .bool true]) (by simp [results, Tryd.results17, go_sem, hd.1, hd.2]) rfl ?_
      exact post_of HR.out hi1 hi1 (fun t h => by cases h; exact ⟨HI.out.symm, HI.out.symm⟩) rfl (two_below HB1.out _ _)
  | true =>
    have HR := Lib.hid (rdS_yes (A := A) (B := B) h2 (by rw [ha]; exact hA) (by rw [hb]; exact hB))
    rw [h2] at hcut
    have HC := Lib.hid hcut
    have HI := Lib.hid hi; have HK := Lib.hid hk
    clear hcut hn1 hn2 hA hB hL ha hb hsa hsb h2 hi hk hl1 hl2 hlen
    rcases A with _ | n <;> rcases B with _ | m
    · rw [show (none : Option Nat).isSome = false from rfl] at HN1; rw [show (none : Option Nat).isSome = false from rfl] at HN2
      go_enter Tryd.func17, Tryd.ntmps17
      go_wp2_with (first
        | (go_at_call 29; (with_reducible refine (HC.out _).mono ?_); rintro e w1 ⟨rfl, hb1⟩; have HB1 := Lib.hid (Below.step ((Below.refl w.heap.size w).alloc (Nat.le_refl _) _) hb1); have hx1 := (hb1.block w.heap.size (by simp)).trans (heap_new _ _); have HX1 := Lib.hid hx1; have c0 := cell_of_row _ _ 0 _ _ (0, 0) hx1; have c1 := cell_of_row _ _ 1 _ _ (0, 0) hx1; have f0 := frozen_of_row _ _ 0 _ _ hx1; have f1 := frozen_of_row _ _ 1 _ _ hx1; clear hb1 hx1)
        | (go_at_call 30; (first | (with_reducible refine (HN1.out _).mono ?_) | (with_reducible refine (HN2.out _).mono ?_)); rintro e w2 ⟨rfl, rfl⟩))
      have hd := two_at HX1.out (.int .u32 i) (.int .u32 k)
      refine bodyPost_ret (v := .tuple #[.agg #[.int .u32 i, .int .u32 k], .bool false]) (by simp [results, Tryd.results17, go_sem, hd.1, hd.2]) rfl ?_
      exact post_of HR.out hi1 hi2 (fun t h => by cases h) rfl (two_below HB1.out _ _)
    · rw [show (none : Option Nat).isSome = false from rfl] at HN1; rw [show (some m : Option Nat).isSome = true from rfl] at HN2
      go_enter Tryd.func17, Tryd.ntmps17
      go_wp2_with (first
        | (go_at_call 29; (with_reducible refine (HC.out _).mono ?_); rintro e w1 ⟨rfl, hb1⟩; have HB1 := Lib.hid (Below.step ((Below.refl w.heap.size w).alloc (Nat.le_refl _) _) hb1); have hx1 := (hb1.block w.heap.size (by simp)).trans (heap_new _ _); have HX1 := Lib.hid hx1; have c0 := cell_of_row _ _ 0 _ _ (0, 0) hx1; have c1 := cell_of_row _ _ 1 _ _ (0, 0) hx1; have f0 := frozen_of_row _ _ 0 _ _ hx1; have f1 := frozen_of_row _ _ 1 _ _ hx1; clear hb1 hx1)
        | (go_at_call 30; (first | (with_reducible refine (HN1.out _).mono ?_) | (with_reducible refine (HN2.out _).mono ?_)); rintro e w2 ⟨rfl, rfl⟩))
      have hd := two_at HX1.out (.int .u32 i) (.int .u32 k)
      refine bodyPost_ret (v := .tuple #[.agg #[.int .u32 i, .int .u32 k], .bool false]) (by simp [results, Tryd.results17, go_sem, hd.1, hd.2]) rfl ?_
      exact post_of HR.out hi1 hi2 (fun t h => by cases h) rfl (two_below HB1.out _ _)
    · rw [show (some n : Option Nat).isSome = true from rfl] at HN1; rw [show (none : Option Nat).isSome = false from rfl] at HN2
      go_enter Tryd.func17, Tryd.ntmps17
      go_wp2_with (first
        | (go_at_call 29; (with_reducible refine (HC.out _).mono ?_); rintro e w1 ⟨rfl, hb1⟩; have HB1 := Lib.hid (Below.step ((Below.refl w.heap.size w).alloc (Nat.le_refl _) _) hb1); have hx1 := (hb1.block w.heap.size (by simp)).trans (heap_new _ _); have HX1 := Lib.hid hx1; have c0 := cell_of_row _ _ 0 _ _ (0, 0) hx1; have c1 := cell_of_row _ _ 1 _ _ (0, 0) hx1; have f0 := frozen_of_row _ _ 0 _ _ hx1; have f1 := frozen_of_row _ _ 1 _ _ hx1; clear hb1 hx1)
        | (go_at_call 30; (first | (with_reducible refine (HN1.out _).mono ?_) | (with_reducible refine (HN2.out _).mono ?_)); rintro e w2 ⟨rfl, rfl⟩))
      have hd := two_at HX1.out (.int .u32 i) (.int .u32 k)
      refine bodyPost_ret (v := .tuple #[.agg #[.int .u32 i, .int .u32 k], .bool false]) (by simp [results, Tryd.results17, go_sem, hd.1, hd.2]) rfl ?_
      exact post_of HR.out hi1 hi2 (fun t h => by cases h) rfl (two_below HB1.out _ _)
    · rw [show (some n : Option Nat).isSome = true from rfl] at HN1; rw [show (some m : Option Nat).isSome = true from rfl] at HN2
      have e1 : i = (n : Int) := HI.out.symm
      have e2 : k = (m : Int) := HK.out.symm
      by_cases hlt : n < m
      · have hik : i < k := by omega
        have HP : Hid (pairN (some n) (some m) = some (n, m)) := Lib.hid (if_pos hlt)
        have E1 := Lib.hid e1; have E2 := Lib.hid e2
        clear e1 e2 hlt
        go_enter Tryd.func17, Tryd.ntmps17
        go_wp2_with (first
          | (go_at_call 29; (with_reducible refine (HC.out _).mono ?_); rintro e w1 ⟨rfl, hb1⟩; have HB1 := Lib.hid (Below.step ((Below.refl w.heap.size w).alloc (Nat.le_refl _) _) hb1); have hx1 := (hb1.block w.heap.size (by simp)).trans (heap_new _ _); have HX1 := Lib.hid hx1; have c0 := cell_of_row _ _ 0 _ _ (0, 0) hx1; have c1 := cell_of_row _ _ 1 _ _ (0, 0) hx1; have f0 := frozen_of_row _ _ 0 _ _ hx1; have f1 := frozen_of_row _ _ 1 _ _ hx1; clear hb1 hx1)
          | (go_at_call 30; (first | (with_reducible refine (HN1.out _).mono ?_) | (with_reducible refine (HN2.out _).mono ?_)); rintro e w2 ⟨rfl, rfl⟩))
        have hd := two_at HX1.out (.int .u32 i) (.int .u32 k)
        refine bodyPost_ret (v := .tuple #[.agg #[.int .u32 i, .int .u32 k], .bool true]) (by simp [results, Tryd.results17, go_sem, hd.1, hd.2]) rfl ?_
        exact post_of (HR.out.trans HP.out) hi1 hi2 (fun t h => by cases h; exact ⟨E1.out, E2.out⟩) rfl (two_below HB1.out _ _)
      · have hik : ¬ i < k := by omega
        have HP : Hid (pairN (some n) (some m) = none) := Lib.hid (if_neg hlt)
        clear e1 e2 hlt
        go_enter Tryd.func17, Tryd.ntmps17
        go_wp2_with (first
          | (go_at_call 29; (with_reducible refine (HC.out _).mono ?_); rintro e w1 ⟨rfl, hb1⟩; have HB1 := Lib.hid (Below.step ((Below.refl w.heap.size w).alloc (Nat.le_refl _) _) hb1); have hx1 := (hb1.block w.heap.size (by simp)).trans (heap_new _ _); have HX1 := Lib.hid hx1; have c0 := cell_of_row _ _ 0 _ _ (0, 0) hx1; have c1 := cell_of_row _ _ 1 _ _ (0, 0) hx1; have f0 := frozen_of_row _ _ 0 _ _ hx1; have f1 := frozen_of_row _ _ 1 _ _ hx1; clear hb1 hx1)
          | (go_at_call 30; (first | (with_reducible refine (HN1.out _).mono ?_) | (with_reducible refine (HN2.out _).mono ?_)); rintro e w2 ⟨rfl, rfl⟩))
        have hd := two_at HX1.out (.int .u32 i) (.int .u32 k)
        refine bodyPost_ret (v := .tuple #[.agg #[.int .u32 i, .int .u32 k], .bool false]) (by simp [results, Tryd.results17, go_sem, hd.1, hd.2]; omega) rfl ?_
        exact post_of (HR.out.trans HP.out) hi1 hi2 (fun t h => by cases h) rfl (two_below HB1.out _ _)
end Go.Proofs.YtbplkeopdfciiaaDoor
