/- What the calls of package addr do that cut a range: the closure that hands out one prefix after the other, and Cut. Each under the conditions that it names; the table of package math/bits is asked to be what its text says. -/
import Derived.Test.YtdjjogcagolcjaaDoorAddrW1
import Derived.Test.YtdjjogcagolcjaaDoorCutMath
namespace Go.Proofs.YtdjjogcagolcjaaDoor
open Go.RowKit
/-- The table that TrailingZeros64 reads, in its place. -/
def Tab (w : World) : Prop := TabAt 0 Lib.deBruijn64tab w ∧ 0 < w.heap.size
theorem Tab.on {w w' : World} (h : Tab w) (hb : Below w.heap.size w w') : Tab w' :=
  ⟨fun j hj => (hb.cell (p := ⟨0, j, none⟩) h.2).trans (h.1 j hj), Nat.lt_of_lt_of_le h.2 hb.size⟩
theorem tz_is (f : Int) (w : World) (h0 : 0 ≤ f) (h1 : f < 18446744073709551616) (hT : Tab w) :
    Calls Tryd.prog 47 #[.int .u64 f] w fun e w' => e = .returned (.int .i64 (Lib.ctz 64 f.toNat)) ∧ w = w' := by
  obtain ⟨x, rfl⟩ := Int.eq_ofNat_of_zero_le h0
  refine (Tryd.bits_TrailingZeros64 x (by omega) w (fun _ => hT.1)).mono fun e w' ⟨he, hw⟩ => ⟨?_, hw.symm⟩
  rw [he]; rfl
theorem ret_pb {v v' : Value} {c : Bool} (h : v = v') : Ending.returned (.tuple #[v, .bool c]) = .returned (.tuple #[v', .bool c]) := by rw [h]
set_option maxHeartbeats 400000 in
theorem next_end (f : Int) (bf be : Nat) (w : World) (c0 : w.cell? ⟨bf, 0, none⟩ = some (.int .u64 f)) (c1 : w.cell? ⟨be, 0, none⟩ = some (.int .u64 f)) (l0 : bf < w.heap.size) (l1 : be < w.heap.size) :
    Calls Tryd.prog 46 #[.pointer (some ⟨bf, 0, none⟩), .pointer (some ⟨be, 0, none⟩)] w fun e w' => e = .returned (.tuple #[.agg #[.int .u32 0, .int .i64 0], .bool false]) ∧ Below w.heap.size w w' := by
  go_enter Tryd.func46, Tryd.ntmps46
  go_wp2_with fail
  go_returns
  exact ⟨rfl, by go_grown⟩
set_option maxHeartbeats 400000 in
theorem next_step (f E : Int) (bf be : Nat) (w : World) (c0 : w.cell? ⟨bf, 0, none⟩ = some (.int .u64 f)) (c1 : w.cell? ⟨be, 0, none⟩ = some (.int .u64 E)) (f0 : w.frozen? ⟨bf, 0, none⟩ = false) (l0 : bf < w.heap.size) (l1 : be < w.heap.size)
    (h0 : 0 ≤ f) (h1 : f < E) (h2 : E ≤ 4294967296) (hT : Tab w) :
    Calls Tryd.prog 46 #[.pointer (some ⟨bf, 0, none⟩), .pointer (some ⟨be, 0, none⟩)] w fun e w' => e = .returned (.tuple #[.agg #[.int .u32 f, .int .i64 (stp f E)], .bool true]) ∧ Below w.heap.size (w.setCell ⟨bf, 0, none⟩ (.int .u64 (f + pw (stp f E)))) w' := by
  obtain ⟨hs, hc, hb33, hb1⟩ := stp_step f E h0 h1 h2
  have hn := hs.1
  have hn2 := hs.2.1
  have hle := hs.2.2.2.1
  have hp := pw_pos (stp f E)
  obtain ⟨c, hcc⟩ : ∃ c : Nat, Lib.ctz 64 f.toNat = c := ⟨_, rfl⟩
  obtain ⟨L, hL⟩ : ∃ L : Nat, Lib.bitLen (E - f).toNat = L := ⟨_, rfl⟩
  have hst : stp f E = 32 - (if (c : Int) ≤ (L : Int) - 1 then (c : Int) else (L : Int) - 1) := by rw [← hcc, ← hL]; rfl
  rw [hcc] at hc
  rw [hL] at hb33 hb1
  have HC := Lib.hid hcc
  have HL := Lib.hid hL
  have hd : (f == E) = false := by simp; omega
  have B1 : 0 ≤ E - f := by omega
  have B2 : E - f ≤ 18446744073709551615 := by omega
  have B3 : f < 18446744073709551616 := by omega
  have e1 : IntKind.u64.wrap (E - f) = E - f := IntWalk.u64_in _ ⟨by omega, by omega⟩
  have e2 : IntKind.u32.wrap f = f := IntWalk.u32_in _ ⟨by omega, by omega⟩
  obtain ⟨n, hnn⟩ : ∃ n, stp f E = n := ⟨_, rfl⟩
  rw [hnn] at hn hn2 hle hp hst ⊢
  clear hcc hL hs hnn
  have hmin : (if (c : Int) ≤ (L : Int) - 1 then (c : Int) else (L : Int) - 1) = min (c : Int) ((L : Int) - 1) := by rw [Int.min_def]
  rw [hmin] at hst
  have hm0 : 0 ≤ min (c : Int) ((L : Int) - 1) := by omega
  have hm1 : min (c : Int) ((L : Int) - 1) ≤ 32 := by omega
  have HS : Hid (32 - min (c : Int) ((L : Int) - 1) = n) := Lib.hid (by omega)
  have hpw : (2 : Int) ^ (min (c : Int) ((L : Int) - 1)).toNat = pw n := by rw [← HS.out]; unfold pw; congr 1; omega
  have hpl := pw_le n hn
  have eI : IntKind.u64.wrap ((2 : Int) ^ (min (c : Int) ((L : Int) - 1)).toNat) = pw n := by rw [hpw]; exact IntWalk.u64_in _ ⟨by omega, by omega⟩
  have e3 : IntKind.u64.wrap (f + pw n) = f + pw n := IntWalk.u64_in _ ⟨by omega, by omega⟩
  clear hst hmin hpw
  go_enter Tryd.func46, Tryd.ntmps46
  go_wp2_with (first | (go_at_call 47; (with_reducible refine (tz_is f _ h0 B3 (hT.on (by go_grown))).mono ?_); rintro e w' ⟨rfl, rfl⟩; rw [HC.out]) | (go_at_call 48; (with_reducible refine (Tryd.bits_Len64 _ _ B1 B2).mono ?_); rintro e w' ⟨rfl, rfl⟩; rw [HL.out]))
  refine wp_region_still_tail 4 (by kernel_rfl) (by kernel_rfl) ?_
  simp only [List.take_succ_cons, List.take_zero, List.drop_succ_cons, List.drop_zero]
  change wpStill _ _ (World.drew (World.alloc _ _)) _ _ _
  repeat still_step
  refine wpStill_nil ?_
  change wpList _ _ _ _ _ (World.drew (World.alloc _ _))
  go_wp2
  go_returns
  refine ⟨ret_pb (agg_eq rfl HS.out), ?_⟩
  exact (((Below.refl _ _).alloc (by simp) _).alloc (by simp) _).drew
set_option maxHeartbeats 400000 in
theorem cutter_is (lo hi : Int) (w : World) (h0 : 0 ≤ lo) (h1 : lo < 4294967296) (h2 : 0 ≤ hi) (h3 : hi < 4294967296) :
    Calls Tryd.prog 35 #[.int .u32 lo, .int .u32 hi] w fun e w' => e = .returned (.func (.func 46) #[] #[.pointer (some ⟨w.heap.size, 0, none⟩), .pointer (some ⟨w.heap.size + 1, 0, none⟩)]) ∧ w' = (w.alloc (.cells #[.int .u64 lo] 71)).alloc (.cells #[.int .u64 (hi + 1)] 71) := by
  have hmf : ∀ (fn : Fn) (first cap : Array Value) (w : World), (Instr.makeFunc fn first cap).run Tryd.prog w = .ok (.func fn first cap) w := fun _ _ _ _ => rfl
  have e1 : IntKind.u64.wrap lo = lo := IntWalk.u64_in _ ⟨by omega, by omega⟩
  have e2 : IntKind.u64.wrap hi = hi := IntWalk.u64_in _ ⟨by omega, by omega⟩
  have e3 : IntKind.u64.wrap (hi + 1) = hi + 1 := IntWalk.u64_in _ ⟨by omega, by omega⟩
  go_enter Tryd.func35, Tryd.ntmps35
  go_wp2
  go_ret
  exact ⟨rfl, rfl⟩
end Go.Proofs.YtdjjogcagolcjaaDoor
