/- What the calls of package spans do that read one span or look through a list: empty, behind, cmp.Compare, the order by which Form sorts, Has. Each under the conditions that it names. -/
import Derived.Test.YtbplkeopdfciiaaDoorRows
import Derived.Test.YtbplkeopdfciiaaDoorSpKit
namespace Go.Proofs.YtbplkeopdfciiaaDoor
open Go.RowKit
/-- -1, 0, 1: below, the same, above. -/
def cmpI (x y : Int) : Int := if x < y then -1 else if y < x then 1 else 0
set_option maxHeartbeats 400000 in
theorem empty_is (lo hi : Int) (w : World) :
    Calls Tryd.prog 23 #[.agg #[.int .u32 lo, .int .u32 hi]] w fun e w' => e = .returned (.bool (decide (hi < lo))) ∧ Below w.heap.size w w' := by
  go_enter Tryd.func23, Tryd.ntmps23
  go_wp2
  go_ret
  exact ⟨rfl, (Below.refl _ _).alloc (Nat.le_refl _) _⟩
set_option maxHeartbeats 400000 in
theorem behind_is (lo hi : Int) (w : World) (h0 : 0 ≤ hi) (h1 : hi < 4294967296) :
    Calls Tryd.prog 18 #[.agg #[.int .u32 lo, .int .u32 hi]] w fun e w' => e = .returned (.int .u64 (hi + 1)) ∧ Below w.heap.size w w' := by
  go_enter Tryd.func18, Tryd.ntmps18
  go_wp2
  go_ret
  exact ⟨rfl, (Below.refl _ _).alloc (Nat.le_refl _) _⟩
set_option maxHeartbeats 400000 in
theorem isNaN_is (x : Int) (w : World) :
    Calls Tryd.prog 37 #[.int .u32 x] w fun e w' => e = .returned (.bool false) ∧ w = w' := by
  go_enter Tryd.func37, Tryd.ntmps37
  go_wp2
  go_ret
  exact ⟨ret_bool (by simp), rfl⟩
set_option maxHeartbeats 400000 in
theorem compare_is (x y : Int) (w : World) :
    Calls Tryd.prog 26 #[.int .u32 x, .int .u32 y] w fun e w' => e = .returned (.int .i64 (cmpI x y)) ∧ w = w' := by
  by_cases h1 : x < y
  · go_enter Tryd.func26, Tryd.ntmps26
    go_wp2_with (go_at_call 37; refine (isNaN_is _ _).mono ?_; rintro e w' ⟨rfl, rfl⟩)
    go_ret
    exact ⟨ret_int (by simp [cmpI, h1]), rfl⟩
  · by_cases h2 : y < x
    · go_enter Tryd.func26, Tryd.ntmps26
      go_wp2_with (go_at_call 37; refine (isNaN_is _ _).mono ?_; rintro e w' ⟨rfl, rfl⟩)
      go_ret
      exact ⟨ret_int (by simp [cmpI, h1, h2]), rfl⟩
    · go_enter Tryd.func26, Tryd.ntmps26
      go_wp2_with (go_at_call 37; refine (isNaN_is _ _).mono ?_; rintro e w' ⟨rfl, rfl⟩)
      go_ret
      exact ⟨ret_int (by unfold cmpI; rw [if_neg (by omega), if_neg (by omega)]), rfl⟩
set_option maxHeartbeats 400000 in
theorem formcmp_is (a b c d : Int) (w : World) :
    Calls Tryd.prog 25 #[.agg #[.int .u32 a, .int .u32 b], .agg #[.int .u32 c, .int .u32 d]] w fun e w' => e = .returned (.int .i64 (cmpI a c)) ∧ ∃ o1 o2, w' = (w.alloc o1).alloc o2 := by
  go_enter Tryd.func25, Tryd.ntmps25
  go_wp2_with (go_at_call 26; refine (compare_is _ _ _).mono ?_; rintro e w' ⟨rfl, rfl⟩)
  go_ret
  exact ⟨rfl, _, _, rfl⟩
set_option maxHeartbeats 400000 in
theorem has_any (l : List (Nat × Nat)) (v : Value) (x : Int) (w : World) (hr : Rd w v l) (h0 : 0 ≤ x) (hlen : l.length ≤ 1000000000) :
    Calls Tryd.prog 15 #[v, .int .u32 x] w fun e w' => e = .returned (.bool (has l x.toNat)) ∧ Below w.heap.size w w' := by
  obtain ⟨hsm, ⟨p0, c0, rfl, _, rfl⟩ | ⟨b, o, cap, rfl, hle, hcap, hb, hc⟩⟩ := hr
  · go_enter Tryd.func15, Tryd.ntmps15
    go_wp2
    refine wp_loop_rounds 1 ?_
    rw [rounds_succ]
    go_wp2
    go_ret
    exact ⟨rfl, Below.refl _ _⟩
  · go_enter Tryd.func15, Tryd.ntmps15
    go_wp2
    go_loopw [9] (fun i wr => ∃ k : Nat, k ≤ l.length ∧ i = .int .i64 k ∧ Hid (∀ s ∈ l.take k, ¬(s.1 ≤ x.toNat ∧ x.toNat ≤ s.2)) ∧ Below w.heap.size w wr) (fun i _ => l.length - (intOf i).toNat)
    case atStart => exact ⟨0, Nat.zero_le _, rfl, Lib.hid (by simp), Below.refl _ _⟩
    case round =>
      obtain ⟨k, hk, rfl, H, hbw⟩ := hrel
      by_cases hlt : k < l.length
      · obtain ⟨c1, c2⟩ := hc k _ (List.getElem?_eq_getElem hlt)
        replace c1 := (hbw.cell (p := ⟨b, _, none⟩) hb).trans c1
        replace c2 := (hbw.cell (p := ⟨b, _, none⟩) hb).trans c2
        obtain ⟨s, hs⟩ : ∃ s, s = l[k] := ⟨_, rfl⟩
        rw [← hs] at c1 c2
        obtain ⟨lo, hlo⟩ : ∃ lo : Int, lo = (s.1 : Int) := ⟨_, rfl⟩
        obtain ⟨hi, hhi⟩ : ∃ hi : Int, hi = (s.2 : Int) := ⟨_, rfl⟩
        rw [← hlo] at c1
        rw [← hhi] at c2
        have HS := Lib.hid hs; have HL := Lib.hid hlo; have HH := Lib.hid hhi
        have hbz := hbw.size
        clear hs hlo hhi hc hsm
        go_wp2
        · go_ret
          refine ⟨ret_bool ?_, hbw.alloc hbz _⟩
          have h1 : lo ≤ x := by assumption
          have h2 : x ≤ hi := by assumption
          exact (has_iff.2 ⟨s, by rw [HS.out]; exact List.getElem_mem hlt, by rw [HL.out] at h1; omega, by rw [HH.out] at h2; omega⟩).symm
        all_goals
          go_roundw
          case rel =>
            refine ⟨k + 1, by omega, by go_num, Lib.hid fun t ht => ?_, hbw.alloc hbz _⟩
            rw [List.take_succ_eq_append_getElem hlt, List.mem_append, List.mem_singleton, ← HS.out] at ht
            rcases ht with ht | rfl
            · exact H.out t ht
            · have := HL.out; have := HH.out; omega
          case measure => simp [intOf]; omega
      · go_wp2
        go_ret
        refine ⟨ret_bool (has_false.2 fun s hs h1 => ?_).symm, hbw⟩
        have := H.out s (by rw [List.take_of_length_le (by omega)]; exact hs)
        omega
end Go.Proofs.YtbplkeopdfciiaaDoor
