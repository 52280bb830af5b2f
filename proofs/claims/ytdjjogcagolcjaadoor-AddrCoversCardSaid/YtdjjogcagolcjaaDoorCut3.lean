/- What Cut and Same of package waymarkref01 answer: the one list of prefixes that the range is cut into, in new memory; whether two lists are the same. -/
import Derived.Test.YtdjjogcagolcjaaDoorCut2
namespace Go.Proofs.YtdjjogcagolcjaaDoor
open Go.RowKit
set_option maxHeartbeats 400000 in
theorem rcut_no (lo hi : Int) (w : World) (h : hi < lo) :
    Calls Tryd.prog 25 #[.int .u32 lo, .int .u32 hi] w fun e w' => e = .returned (.tuple #[.slice none 0 0, .int .i64 1]) ∧ w = w' := by
  go_enter Tryd.func25, Tryd.ntmps25
  go_wp2_with fail
  go_ret2
  exact ⟨rfl, rfl⟩
set_option maxRecDepth 100000 in
set_option maxHeartbeats 400000 in
theorem rcut_ok (lo hi : Int) (w : World) (h0 : 0 ≤ lo) (h1 : lo ≤ hi) (h2 : hi < 4294967296) :
    Calls Tryd.prog 25 #[.int .u32 lo, .int .u32 hi] w (CutPost lo hi w) := by
  have hd : decide (hi < lo) = false := by simp; omega
  have e1 : IntKind.u64.wrap lo = lo := IntWalk.u64_in _ ⟨by omega, by omega⟩
  have e2 : IntKind.u64.wrap hi = hi := IntWalk.u64_in _ ⟨by omega, by omega⟩
  go_enter Tryd.func25, Tryd.ntmps25
  go_wp2_with fail
  go_loopw [6, 7] (fun s6 s7 wr => ∃ (d : List (Int × Int)) (a : Int) (v : Value), v = s6 ∧ s7 = .int .u64 a ∧ lo ≤ a ∧ a ≤ hi + 1 ∧ (d.length : Int) ≤ a - lo ∧ Hid (Done (hi + 1) lo a d) ∧ wr.ownsRow w.heap.size 30 2 v d.length (flat d) ∧ Below w.heap.size w wr) (fun _ s7 _ => (hi + 1 - intOf s7).toNat)
  case atStart => exact ⟨[], lo, _, rfl, rfl, by omega, by omega, by simp, Lib.hid (Done.start _ _), World.ownsRow_nil _ _ _ _, Below.refl _ _⟩
  case round =>
    obtain ⟨d, a, v, rfl, rfl, ha, haE, hlen, HD, hown, hbw⟩ := hrel
    obtain ⟨wo, rfl⟩ : ∃ wo : World, wo = wr := ⟨_, rfl⟩
    have hle := hbw.size
    by_cases hlt : a < hi + 1
    · have hah : a ≤ hi := by omega
      obtain ⟨m, hm⟩ : ∃ m, stp a (hi + 1) = m := ⟨_, rfl⟩
      have hst := (stp_step a (hi + 1) (by omega) hlt (by omega)).1
      rw [hm] at hst
      clear hm
      have m0 := hst.1
      have m32 := hst.2.1
      have HST := Lib.hid hst
      have hle2 : a + pw m ≤ hi + 1 := hst.2.2.2.1
      clear hst
      go_wp2_with fail
      go_loop [6, 7, 8] (fun s6 s7 s8 => ∃ k : Int, s6 = v ∧ s7 = .int .u64 a ∧ 0 ≤ k ∧ k ≤ m ∧ s8 = .int .i64 k) (fun _ _ s8 => 33 - (intOf s8).toNat)
      case atStart => exact ⟨0, rfl, rfl, by omega, m0, rfl⟩
      case round =>
        obtain ⟨k, rfl, rfl, k0, k1, rfl⟩ := hrel
        have k32 : k ≤ 32 := by omega
        have hp := pw_pos k
        have hpl := pw_le k k0
        have hp0 : ¬ pw k = 0 := by omega
        by_cases hk : k = m
        · obtain rfl : k = m := hk
          have hmod : (a % pw k == 0) = true := by simp [HST.out.2.2.1]
          have e3 : IntKind.u64.wrap (a + pw k) = a + pw k := IntWalk.u64_in _ ⟨by omega, by omega⟩
          have e4 : IntKind.u64.wrap (a + pw k - 1) = a + pw k - 1 := IntWalk.u64_in _ ⟨by omega, by omega⟩
          have e5 : a + pw k - 1 ≤ hi := by omega
          have e6 : IntKind.u32.wrap a = a := IntWalk.u32_in _ ⟨by omega, by omega⟩
          obtain ⟨i0, hi0, hz0, hz1, hz2⟩ := info_parts infoP
          go_wp2_with (first
            | (go_at_call 41; (with_reducible refine (size_is k _ k0 k32).mono ?_); rintro e w' ⟨rfl, rfl⟩)
            | (at_builtin; refine wpList_append_own _ rfl _ _ 40 rfl w.heap.size 30 i0 (.agg #[.int .u32 0, .int .i64 0]) 2 16 Tryd.underlying40 hi0 hz0 hz1 hz2 rfl (by decide) _ _ _ rfl (hown.alloc _) ⟨wo.heap.size, 0, none⟩ 1 1 [.int .u32 a, .int .i64 k] rfl rfl (cell_two_new _ _ _ _) (fun x hx => by simp at hx; rcases hx with rfl | rfl <;> rfl) (by unfold maxLen; omega) (by omega) (by simp; omega) ?_; intro v' w3 hown' hgrow3 hnil3))
          have hbw3 : Below w.heap.size w w3 := Below.grown (hbw.alloc (by omega) _) hgrow3 (by simp; omega) (fun j hj => (hown.lt _ hj).1)
          refine ⟨⟨d ++ [(a, k)], a + pw k, v', rfl, rfl, by omega, by omega, by simp; omega, Lib.hid (HD.out.snoc hlt HST.out), ?_, hbw3⟩, ?_⟩
          · rw [flat_snoc, List.length_append]
            exact hown'
          · simp [intOf]
            omega
        · have hkm : k < m := by omega
          have hno := HST.out.2.2.2.2 k k0 hkm
          have e4 : IntKind.u64.wrap (a + pw k) = a + pw k := IntWalk.u64_in _ ⟨by omega, by omega⟩
          have e5 : IntKind.u64.wrap (a + pw k - 1) = a + pw k - 1 := IntWalk.u64_in _ ⟨by omega, by omega⟩
          by_cases hmod : a % pw k = 0
          · have hmod2 : (a % pw k == 0) = true := by simp [hmod]
            have hfar : ¬ a + pw k ≤ hi + 1 := fun h => hno ⟨hmod, h⟩
            have hfar2 : decide (a + pw k - 1 ≤ hi) = false := by simp; omega
            clear hno hmod hfar hk
            go_wp2_with (first
              | (go_at_call 41; (with_reducible refine (size_is k _ k0 k32).mono ?_); rintro e w' ⟨rfl, rfl⟩))
            go_round
            case rel => exact ⟨k + 1, rfl, rfl, by omega, by omega, rfl⟩
            case measure => simp [intOf]; omega
          · have hmod2 : (a % pw k == 0) = false := by simpa using hmod
            clear hno hmod hk
            go_wp2_with (first
              | (go_at_call 41; (with_reducible refine (size_is k _ k0 k32).mono ?_); rintro e w' ⟨rfl, rfl⟩))
            go_round
            case rel => exact ⟨k + 1, rfl, rfl, by omega, by omega, rfl⟩
            case measure => simp [intOf]; omega
    · have hae : a = hi + 1 := by omega
      have HA := Lib.hid hae
      have hgt : decide (a ≤ hi) = false := by simp; omega
      clear hlt hae
      go_wp2_with fail
      go_ret2
      exact ⟨_, d, rfl, by have h := HD.out; rw [HA.out] at h; exact h.all, hown, hbw⟩
end Go.Proofs.YtdjjogcagolcjaaDoor
