/- The order of adverts is an order. No condition; nothing here is walked. -/
import Derived.Test.YtmbkkjofikijiaaGreatDoorRaA
namespace Go.Proofs.YtmbkkjofikijiaaGreatDoor
open Go.RowKit
theorem cN_anti : ∀ x y : List Int, cN y x = - cN x y
  | [], [] => rfl
  | [], _ :: _ => rfl
  | _ :: _, [] => rfl
  | a :: x, b :: y => by
    have h := tot_cI.anti a b
    have k := cN_anti x y
    simp only [cN]
    split <;> split <;> omega
theorem cN_trans : ∀ x y z : List Int, cN x y ≤ 0 → cN y z ≤ 0 → cN x z ≤ 0
  | [], _, [], _, _ => by simp [cN]
  | [], _, _ :: _, _, _ => by simp [cN]
  | _ :: _, [], _, h, _ => by simp [cN] at h
  | _ :: _, _ :: _, [], _, h => by simp [cN] at h
  | a :: x, b :: y, c :: z, h1, h2 => by
    have := Tot.lex (c := fun (p q : Int × List Int) => cI p.1 q.1) (d := fun (p q : Int × List Int) => 0) (tot_cI.on fun p : Int × List Int => p.1) tot_0
    simp only [cN] at h1 h2 ⊢
    have t1 := tot_cI.anti a b; have t2 := tot_cI.anti b c; have t3 := tot_cI.anti a c
    by_cases e1 : cI a b = 0
    · rw [if_pos e1] at h1
      by_cases e2 : cI b c = 0
      · rw [if_pos e2] at h2
        have a1 := tot_cI.trans a b c (by omega) (by omega)
        have a2 := tot_cI.trans c b a (by omega) (by omega)
        rw [if_pos (by omega)]
        exact cN_trans x y z h1 h2
      · rw [if_neg e2] at h2
        have := tot_cI.lt' (x := a) (y := b) (z := c) (by omega) (by omega)
        rw [if_neg (by omega)]; omega
    · rw [if_neg e1] at h1
      have h3 : cI b c ≤ 0 := by split at h2 <;> omega
      have := tot_cI.lt (x := a) (y := b) (z := c) (by omega) h3
      rw [if_neg (by omega)]; omega
theorem tot_cN : Tot cN := ⟨cN_anti, cN_trans⟩
def ordsA (r s : AdD) : List Int := [cP r.a r.b s.a s.b, cI r.se s.se, cI r.pf s.pf, cI r.me s.me, cI r.ho s.ho, cI r.pe s.pe, cI r.pi s.pi, cB r.ex s.ex, cI r.og s.og, cN r.pa s.pa, cN r.co s.co, cN r.cl s.cl]
def cA (r s : AdD) : Int := fst0 (ordsA r s)
theorem tot_cA : Tot cA := by
  have h := (tot_cP.on fun r : AdD => (r.a, r.b)).lex ((tot_cI.on fun r : AdD => r.se).lex ((tot_cI.on fun r : AdD => r.pf).lex ((tot_cI.on fun r : AdD => r.me).lex ((tot_cI.on fun r : AdD => r.ho).lex ((tot_cI.on fun r : AdD => r.pe).lex ((tot_cI.on fun r : AdD => r.pi).lex ((tot_cB.on fun r : AdD => r.ex).lex ((tot_cI.on fun r : AdD => r.og).lex ((tot_cN.on fun r : AdD => r.pa).lex ((tot_cN.on fun r : AdD => r.co).lex ((tot_cN.on fun r : AdD => r.cl).lex tot_0)))))))))))
  exact h
theorem cI_abs (x y : Int) : -1 ≤ cI x y ∧ cI x y ≤ 1 := by unfold cI; split <;> (try split) <;> omega
theorem cP_abs (a b c d : Int) : -1 ≤ cP a b c d ∧ cP a b c d ≤ 1 := by unfold cP; split <;> exact cI_abs _ _
theorem cB_abs (x y : Bool) : -1 ≤ cB x y ∧ cB x y ≤ 1 := by cases x <;> cases y <;> decide
theorem cS_abs (x y : ByteArray) : -1 ≤ cS x y ∧ cS x y ≤ 1 := by unfold cS; split <;> (try split) <;> omega
theorem cN_abs : ∀ x y : List Int, -1 ≤ cN x y ∧ cN x y ≤ 1
  | [], [] => by simp [cN]
  | [], _ :: _ => by simp [cN]
  | _ :: _, [] => by simp [cN]
  | a :: x, b :: y => by
    simp only [cN]
    split
    · exact cN_abs x y
    · exact cI_abs a b
theorem fst0_abs : ∀ l : List Int, (∀ x ∈ l, -1 ≤ x ∧ x ≤ 1) → -1 ≤ fst0 l ∧ fst0 l ≤ 1
  | [], _ => by simp [fst0]
  | x :: l, h => by
    simp only [fst0]
    split
    · exact fst0_abs l fun y hy => h y (List.mem_cons_of_mem _ hy)
    · exact h x (List.mem_cons_self ..)
theorem cA_abs (r s : AdD) : -1 ≤ cA r s ∧ cA r s ≤ 1 := by
  refine fst0_abs _ fun x hx => ?_
  simp only [ordsA, List.mem_cons, List.not_mem_nil, or_false] at hx
  rcases hx with rfl | rfl | rfl | rfl | rfl | rfl | rfl | rfl | rfl | rfl | rfl | rfl
  all_goals first | exact cP_abs _ _ _ _ | exact cI_abs _ _ | exact cB_abs _ _ | exact cN_abs _ _
theorem cR_abs (r s : RtD) : -1 ≤ cR r s ∧ cR r s ≤ 1 := by
  refine fst0_abs _ fun x hx => ?_
  simp only [ords, List.mem_cons, List.not_mem_nil, or_false] at hx
  rcases hx with rfl | rfl | rfl | rfl | rfl | rfl | rfl | rfl
  all_goals first | exact cP_abs _ _ _ _ | exact cI_abs _ _ | exact cB_abs _ _ | exact cS_abs _ _
end Go.Proofs.YtmbkkjofikijiaaGreatDoor
