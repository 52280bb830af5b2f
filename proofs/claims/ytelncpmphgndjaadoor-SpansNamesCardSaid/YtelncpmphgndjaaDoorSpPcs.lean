/- What Pieces of package spans hands back: the pieces into which the numbers up to most are cut, in new memory; or the refusal. Under the conditions that it names. -/
import Derived.Test.YtelncpmphgndjaaDoorSpBtw
namespace Go.Proofs.YtelncpmphgndjaaDoor
open Go.RowKit
/-- What Pieces hands back where the sets are no more than 1024. -/
def PcsPost (most : Nat) (ls : List (List (Nat × Nat))) (w : World) (e : Ending) (w' : World) : Prop :=
  ∃ R, Beg most ls R ∧ Below w.heap.size w w' ∧ ((R.length ≤ 65536 ∧ ∃ v, e = .returned (.tuple #[v, .int .i64 0]) ∧ Own w.heap.size w' v (pcs most R)) ∨ (65536 < R.length ∧ e = .returned (.tuple #[.slice none 0 0, .int .i64 1])))
set_option maxRecDepth 100000 in
set_option maxHeartbeats 1000000 in
theorem pieces_is (most : Nat) (hmt : most < top) (ls : List (List (Nat × Nat))) (v : Value) (w : World) (hr : RdS w v ls) (hn : ls.length ≤ 1024) (hl : ls.flatten.length ≤ 90000000) :
    Calls Tryd.prog 13 #[.int .u32 most, v] w (PcsPost most ls w) := by
  have H := Lib.hid (beg_all ls.length most hmt ls v w (Nat.le_refl _) hr (by omega))
  obtain ⟨p, c, hv, _⟩ := hr
  subst hv
  have d0 : decide (1024 < ls.length) = false := by simp; omega
  go_enter Tryd.func13, Tryd.ntmps13
  go_wp2_with fail
  refine H.out.mono ?_
  rintro e w1 ⟨v1, R, rfl, hb, ho, hb1⟩
  have hlen := hb.len
  have HBG := Lib.hid hb
  have hne : R ≠ [] := fun e => by have := (hb.mem 0).2 (.inl rfl); rw [e] at this; cases this
  have HBT := Lib.hid (between_is most hmt R hb.le hb.rising v1 _ w1 ho (by omega) hne)
  rcases ho.row with ⟨_, h⟩ | ⟨gR, capR, curR, rfl, _⟩
  · exact absurd h hne
  clear H hb ho hne hlen
  by_cases h5 : 65536 < R.length
  · have d5 : decide (65536 < R.length) = true := by simpa using h5
    go_wp2
    go_ret2
    exact ⟨R, HBG.out, hb1, .inr ⟨h5, rfl⟩⟩
  · have d5 : decide (65536 < R.length) = false := by simpa using h5
    go_wp2_with fail
    go_at_call 27
    refine HBT.out.mono ?_
    rintro e w2 ⟨v2, rfl, ho2, hb2⟩
    go_wp2
    go_ret2
    exact ⟨R, HBG.out, Below.step hb1 hb2, .inl ⟨by omega, _, rfl, ho2.base hb1.size⟩⟩
set_option maxHeartbeats 1000000 in
theorem pieces_no (most : Nat) (p : Option Addr) (n c : Nat) (w : World) (hn : 1024 < n) :
    Calls Tryd.prog 13 #[.int .u32 most, .slice p n c] w fun e w' => e = .returned (.tuple #[.slice none 0 0, .int .i64 1]) ∧ w = w' := by
  have d0 : decide (1024 < n) = true := by simpa using hn
  go_enter Tryd.func13, Tryd.ntmps13
  go_wp2
  go_ret2
  exact ⟨rfl, rfl⟩
end Go.Proofs.YtelncpmphgndjaaDoor
