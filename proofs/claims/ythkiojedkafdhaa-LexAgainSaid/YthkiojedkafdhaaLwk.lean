/- works returns true. No condition. -/
import Derived.Test.YthkiojedkafdhaaLnP
import Derived.Laws.OwnMore
namespace Go.Proofs.Ythkiojedkafdhaa
open Go.RowKit
def txt1 : List UInt8 := [97, 32, 32, 98, 10, 33, 32, 99, 10, 10, 32, 100]
def txt2 : List UInt8 := [97, 32, 123, 32, 98, 32, 34, 99, 32, 100, 34, 59, 32, 125, 32, 35, 32, 101]
theorem chk1 : ChkV txt1 = .tuple #[.agg #[.int .i64 0, .int .i64 0], .int .i64 0] := by kernel_rfl
theorem chk2 : ChkV txt2 = .tuple #[.agg #[.int .i64 0, .int .i64 0], .int .i64 0] := by kernel_rfl
theorem lnk1 : lnk txt1 1 = [(1, 0, [([97], 1), ([98], 4)]), (4, 1, [([100], 2)])] := by decide +kernel
theorem toks2 : toks txt2.length txt2 (1, 1) = ([(1, [97], (1, 1)), (2, [123], (1, 3)), (1, [98], (1, 5)), (1, [99, 32, 100], (1, 7)), (4, [59], (1, 12)), (3, [125], (1, 14))], none) := by decide +kernel
theorem first_is (W : World) : Calls Try.prog 7 #[.string ⟨txt1.toArray⟩] W fun e w' => ∃ (g h cap ca cb : Nat) (pa : Option Addr), e = .returned (.tuple #[.slice (some ⟨g, 0, none⟩) 2 cap, .agg #[.int .i64 0, .int .i64 0], .int .i64 0]) ∧ g < w'.heap.size ∧ h < w'.heap.size ∧
    w'.cell? ⟨g, 1, none⟩ = some (.slice pa 2 ca) ∧ w'.cell? ⟨g, 2, none⟩ = some (.int .i64 1) ∧ w'.cell? ⟨g, 3, none⟩ = some (.slice (some ⟨h, 0, none⟩) 1 cb) ∧ w'.cell? ⟨h, 0, none⟩ = some (.string ⟨#[100]⟩) ∧ Below W.heap.size W w' := by
  refine (lines_is ⟨txt1.toArray⟩ W (by decide)).mono fun e w' hh => ?_
  obtain ⟨hb, ⟨u, v, E, hE, hc, he⟩ | ⟨s, L, hc, he, hL, ho⟩⟩ := hh
  · rw [chk1] at hc
    simp at hc
    omega
  · rw [show (⟨txt1.toArray⟩ : ByteArray).data.toList = txt1 by simp, lnk1] at hL
    match L, hL, ho with
    | [(l1, v1), (l2, v2)], hL, ho =>
      simp only [List.map_cons, List.map_nil, List.cons.injEq, and_true] at hL
      obtain ⟨rfl, rfl⟩ := hL
      obtain ⟨g, cap, rfl, hg1, hg2⟩ := ho.1.form (by simp)
      obtain ⟨r1, -⟩ := ho.2 ((1, 0, [([97], 1), ([98], 4)]), v1) (by simp)
      obtain ⟨r2, -⟩ := ho.2 ((4, 1, [([100], 2)]), v2) (by simp)
      have r1' : w'.ownsRow W.heap.size 38 3 v1 2 _ := r1
      have r2' : w'.ownsRow W.heap.size 38 3 v2 1 (([([100], 2)] : List (List UInt8 × Int)).flatMap (wdC 4)) := r2
      clear r1 r2
      obtain ⟨pa, ca, rfl⟩ := own_sl r1'
      obtain ⟨h, cb, rfl, hh1, hh2⟩ := r2'.form (by simp)
      refine ⟨g, h, cap, ca, cb, pa, he, hg2, hh2, ?_, ?_, ?_, ?_, hb⟩
      · rw [ho.1.cellAt 1 (by simp)]; rfl
      · rw [ho.1.cellAt 2 (by simp)]; rfl
      · rw [ho.1.cellAt 3 (by simp)]; rfl
      · rw [r2'.cellAt 0 (by simp)]; rfl
theorem second_is (W : World) : Calls Try.prog 8 #[.string ⟨txt2.toArray⟩] W fun e w' => ∃ (g cap : Nat), e = .returned (.tuple #[.slice (some ⟨g, 0, none⟩) 6 cap, .agg #[.int .i64 0, .int .i64 0], .int .i64 0]) ∧ g < w'.heap.size ∧
    w'.cell? ⟨g, 13, none⟩ = some (.string ⟨#[99, 32, 100]⟩) ∧ w'.cell? ⟨g, 20, none⟩ = some (.int .u8 3) ∧ Below W.heap.size W w' := by
  refine (tokens_is ⟨txt2.toArray⟩ W (by decide)).mono fun e w' hh => ?_
  unfold TokPost at hh
  rw [show (⟨txt2.toArray⟩ : ByteArray).data.toList = txt2 by simp, toks2, chk2] at hh
  obtain ⟨hb, ⟨u, v, E, hE, hc, he⟩ | ⟨u, v, hc, ht, he⟩ | ⟨s, hc, ht, he, ho⟩⟩ := hh
  · simp at hc
    omega
  · cases ht
  · obtain ⟨g, cap, rfl, hg1, hg2⟩ := ho.form (by decide)
    refine ⟨g, cap, he, hg2, ?_, ?_, hb⟩
    · rw [ho.cellAt 13 (by decide)]; rfl
    · rw [ho.cellAt 20 (by decide)]; rfl
set_option maxRecDepth 100000 in
set_option maxHeartbeats 4000000 in
theorem works_is (W : World) : Calls Try.prog 4 #[] W fun e w' => e = .returned (.bool true) ∧ Below W.heap.size W w' := by
  have H1 := Lib.hid (fun W => first_is W)
  have H2 := Lib.hid (fun W => second_is W)
  unfold txt1 at H1
  unfold txt2 at H2
  go_enter Try.func4, Try.ntmps4
  go_wp2_with fail
  go_at_call 7
  refine (H1.out _).mono ?_
  rintro e w1 ⟨g, h, cap, ca, cb, pa, rfl, hg, hh, c1, c2, c3, c4, hb1⟩
  go_wp2_with fail
  obtain ⟨W1, hW1⟩ : ∃ W1, w1.alloc (.cells #[.int .i64 0, .int .i64 0] 27) = W1 := ⟨_, rfl⟩
  have hB1 : Below w1.heap.size w1 W1 := by rw [← hW1]; exact (Below.refl _ _).alloc (Nat.le_refl _) _
  rw [hW1]
  have C1 := Lib.hid c1; have C2 := Lib.hid c2; have C3 := Lib.hid c3; have C4 := Lib.hid c4
  clear hW1 c1 c2 c3 c4
  have HA := Lib.hid (Below.step hb1 hB1)
  go_at_call 8
  refine (H2.out _).mono ?_
  rintro e w2 ⟨k, cap2, rfl, hk, d1, d2, hb2⟩
  have hs1 := hB1.size
  have hb12 : Below w1.heap.size w1 w2 := Below.step hB1 hb2
  have c1 : w2.cell? ⟨g, 1, none⟩ = some (.slice pa 2 ca) := (hb12.cell (p := ⟨g, 1, none⟩) hg).trans C1.out
  have c2 : w2.cell? ⟨g, 2, none⟩ = some (.int .i64 1) := (hb12.cell (p := ⟨g, 2, none⟩) hg).trans C2.out
  have c3 : w2.cell? ⟨g, 3, none⟩ = some (.slice (some ⟨h, 0, none⟩) 1 cb) := (hb12.cell (p := ⟨g, 3, none⟩) hg).trans C3.out
  have c4 : w2.cell? ⟨h, 0, none⟩ = some (.string ⟨#[100]⟩) := (hb12.cell (p := ⟨h, 0, none⟩) hh).trans C4.out
  have HE := Lib.hid (Below.step HA.out hb2)
  have hs2 := hb12.size
  have hg3 : g < w2.heap.size := by omega
  have hh3 : h < w2.heap.size := by omega
  clear hb12 hb2 hb1 hB1
  go_wp2_with fail
  go_ret
  exact ⟨rfl, HE.out.alloc (by have := HE.out.size; omega) _⟩
end Go.Proofs.Ythkiojedkafdhaa
