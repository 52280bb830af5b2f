/- The reader of package lex on a line: spaces, words, up to the line's end, and behind it. Under the conditions that they name. -/
import Derived.Test.YthkiojedkafdhaaLnM
import Derived.Test.YthkiojedkafdhaaLxP
namespace Go.Proofs.Ythkiojedkafdhaa
open Go.RowKit
theorem enters_sp : ∀ args w, (callFunc 18 args).run Try.prog w = .ok (.enter 18 args) w := enters_of Try.func18 (by kernel_rfl) rfl
theorem enters_bl : ∀ args w, (callFunc 21 args).run Try.prog w = .ok (.enter 21 args) w := enters_of Try.func21 (by kernel_rfl) rfl
theorem enters_le : ∀ args w, (callFunc 20 args).run Try.prog w = .ok (.enter 20 args) w := enters_of Try.func20 (by kernel_rfl) rfl
theorem skip_is (g : Nat) (l : List UInt8) (ln c : Int) (W : World) (h : Rd W g l ln c) (hl : l.length ≤ 65536) (hln : 0 ≤ ln) (hln2 : ln ≤ 1000000000) (hc : 0 ≤ c) (hc2 : c ≤ 1000000000) :
    Calls Try.prog 15 #[.pointer (some ⟨g, 0, none⟩), .func (.func 18) #[.pointer (some ⟨g, 0, none⟩)] #[]] W fun e w' => e = .returned (.string ⟨(l.take (nS l)).toArray⟩) ∧ Rd w' g (l.drop (nS l)) ln (c + nS l) ∧ W.grownBy w' (some g) := by
  have hu := until_is g 18 #[.pointer (some ⟨g, 0, none⟩)] #[] pSp (fun _ => True) (fun _ _ _ _ => trivial) enters_sp (fun W l ln c _ hll h _ => behind_is g l ln c W h (by omega)) l ln c W h trivial hl hln hln2 hc hc2
  rw [cnt_any pSp (fun _ _ _ => rfl)] at hu
  change Calls _ _ _ W fun e w' => e = .returned (.string ⟨(l.take (nS l)).toArray⟩) ∧ Rd w' g (l.drop (nS l)) (adv (l.take (nS l)) (ln, c)).1 (adv (l.take (nS l)) (ln, c)).2 ∧ W.grownBy w' (some g) at hu
  rw [adv_noNl _ _ _ (take_nS l), List.length_take, Nat.min_eq_left (nS_le l)] at hu
  exact hu
theorem word_is (g : Nat) (l : List UInt8) (ln c : Int) (W : World) (h : Rd W g l ln c) (hl : l.length ≤ 65536) (hln : 0 ≤ ln) (hln2 : ln ≤ 1000000000) (hc : 0 ≤ c) (hc2 : c ≤ 1000000000) :
    Calls Try.prog 15 #[.pointer (some ⟨g, 0, none⟩), .func (.func 21) #[.pointer (some ⟨g, 0, none⟩)] #[]] W fun e w' => e = .returned (.string ⟨(l.take (nB l)).toArray⟩) ∧ Rd w' g (l.drop (nB l)) ln (c + nB l) ∧ W.grownBy w' (some g) := by
  have hu := until_is g 21 #[.pointer (some ⟨g, 0, none⟩)] #[] pBl (fun _ => True) (fun _ _ _ _ => trivial) enters_bl (fun W l ln c _ hll h _ => blank_is g l ln c W h (by omega)) l ln c W h trivial hl hln hln2 hc hc2
  rw [cnt_any pBl (fun _ _ _ => rfl)] at hu
  change Calls _ _ _ W fun e w' => e = .returned (.string ⟨(l.take (nB l)).toArray⟩) ∧ Rd w' g (l.drop (nB l)) (adv (l.take (nB l)) (ln, c)).1 (adv (l.take (nB l)) (ln, c)).2 ∧ W.grownBy w' (some g) at hu
  rw [adv_noNl _ _ _ (take_nB l), List.length_take, Nat.min_eq_left (nB_le l)] at hu
  exact hu
theorem eol_is (g : Nat) (l : List UInt8) (ln c : Int) (W : World) (h : Rd W g l ln c) (hl : l.length ≤ 65536) (hln : 0 ≤ ln) (hln2 : ln ≤ 1000000000) (hc : 0 ≤ c) (hc2 : c ≤ 1000000000) :
    Calls Try.prog 15 #[.pointer (some ⟨g, 0, none⟩), .func (.func 20) #[.pointer (some ⟨g, 0, none⟩)] #[]] W fun e w' => e = .returned (.string ⟨(l.take (nE l)).toArray⟩) ∧ Rd w' g (l.drop (nE l)) ln (c + nE l) ∧ W.grownBy w' (some g) := by
  have hu := until_is g 20 #[.pointer (some ⟨g, 0, none⟩)] #[] pE (fun _ => True) (fun _ _ _ _ => trivial) enters_le (fun W l ln c _ hll h _ => lineEnd_is g l ln c W h (by omega)) l ln c W h trivial hl hln hln2 hc hc2
  rw [cnt_any pE (fun _ _ _ => rfl)] at hu
  change Calls _ _ _ W fun e w' => e = .returned (.string ⟨(l.take (nE l)).toArray⟩) ∧ Rd w' g (l.drop (nE l)) (adv (l.take (nE l)) (ln, c)).1 (adv (l.take (nE l)) (ln, c)).2 ∧ W.grownBy w' (some g) at hu
  rw [adv_noNl _ _ _ (take_nE l), List.length_take, Nat.min_eq_left (nE_le l)] at hu
  exact hu
/-- Behind the line's end. -/
theorem next_is (g : Nat) (l : List UInt8) (ln c : Int) (W : World) (h : Rd W g l ln c) (he : AtEnd l) (hl : l.length ≤ 65536) (hln : 0 ≤ ln) (hln2 : ln ≤ 1000000000) (hc : 0 ≤ c) (hc2 : c ≤ 1000000000) :
    Calls Try.prog 22 #[.pointer (some ⟨g, 0, none⟩), .int .i64 1] W fun e w' => (∃ v, e = .returned v) ∧ (∃ ln' c', Rd w' g (l.drop 1) ln' c' ∧ (l ≠ [] → ln' = ln + 1 ∧ c' = 1) ∧ 0 ≤ ln' ∧ ln' ≤ ln + 1 ∧ 0 ≤ c' ∧ c' ≤ 1000000000) ∧ W.grownBy w' (some g) := by
  rcases he with rfl | ⟨r, rfl⟩
  · refine (take_nil g ln c W h).mono fun e w' hh => ?_
    obtain ⟨he, hr, hg⟩ := hh
    exact ⟨⟨_, he⟩, ⟨ln, c, hr, fun h => absurd rfl h, hln, by omega, hc, hc2⟩, hg⟩
  · refine (take_is g (10 :: r) ln c 1 W h hl (by simp) hln (by omega) hc (by omega)).mono fun e w' hh => ?_
    obtain ⟨he, hr, hg⟩ := hh
    exact ⟨⟨_, he⟩, ⟨_, _, hr, fun _ => ⟨rfl, rfl⟩, by simp [adv]; omega, by simp [adv], by simp [adv], by simp [adv]⟩, hg⟩
end Go.Proofs.Ythkiojedkafdhaa
