/- What the calls of package waymarkref02 do that look through lists of spans: Has and so. Each under the conditions that it names. -/
import Derived.Test.YtbplkeopdfciiaaDoorSpAsk
namespace Go.Proofs.YtbplkeopdfciiaaDoor
open Go.RowKit
set_option maxHeartbeats 400000 in
theorem rhas_any (l : List (Nat × Nat)) (v : Value) (x : Int) (w : World) (hr : Rd w v l) (h0 : 0 ≤ x) (hlen : l.length ≤ 1000000000) :
    Calls Tryd.prog 61 #[v, .int .u32 x] w fun e w' => e = .returned (.bool (has l x.toNat)) ∧ w = w' := by
  obtain ⟨p, c, rfl, _, _, hp⟩ := hr.sl
  have HP := Lib.hid hp
  clear hp hr
  go_enter Tryd.func61, Tryd.ntmps61
  go_wp2
  go_loop [5] (fun i => ∃ k : Nat, k ≤ l.length ∧ i = .int .i64 k ∧ Hid (∀ s ∈ l.take k, ¬(s.1 ≤ x.toNat ∧ x.toNat ≤ s.2))) (fun i => l.length - (intOf i).toNat)
  case atStart => exact ⟨0, Nat.zero_le _, rfl, Lib.hid (by simp)⟩
  case round =>
    obtain ⟨k, hk, rfl, H⟩ := hrel
    by_cases hlt : k < l.length
    · obtain ⟨s, hs⟩ : ∃ s, l[k]? = some s := ⟨_, List.getElem?_eq_getElem hlt⟩
      obtain ⟨b, o, rfl, hb, _, _, hc⟩ := HP.out k s hs
      obtain ⟨c1, c2⟩ := hc w (Below.refl _ _)
      have HT : Hid (∀ t, t ∈ l.take (k + 1) ↔ t ∈ l.take k ∨ t = s) := Lib.hid fun t => by rw [List.take_add_one, hs]; simp
      have HM := Lib.hid (List.mem_of_getElem? hs)
      obtain ⟨lo, hlo⟩ : ∃ lo : Int, lo = (s.1 : Int) := ⟨_, rfl⟩
      obtain ⟨hi, hhi⟩ : ∃ hi : Int, hi = (s.2 : Int) := ⟨_, rfl⟩
      rw [← hlo] at c1
      rw [← hhi] at c2
      have HL := Lib.hid hlo; have HH := Lib.hid hhi
      have e1 : (0 : Int) ≤ (k : Int) := by omega
      have e2 : (k : Int) < (l.length : Int) := by omega
      clear hs hlo hhi hc
      go_wp2
      · go_ret
        refine ⟨ret_bool ?_, rfl⟩
        have h1 : lo ≤ x := by assumption
        have h2 : x ≤ hi := by assumption
        exact (has_iff.2 ⟨s, HM.out, by rw [HL.out] at h1; omega, by rw [HH.out] at h2; omega⟩).symm
      all_goals
        go_round
        case rel =>
          refine ⟨k + 1, by omega, by go_num, Lib.hid fun t ht => ?_⟩
          rcases (HT.out t).1 ht with ht | rfl
          · exact H.out t ht
          · have := HL.out; have := HH.out; omega
        case measure => simp [intOf]; omega
    · go_wp2
      go_ret
      refine ⟨ret_bool (has_false.2 fun s hs h1 => ?_).symm, rfl⟩
      have := H.out s (by rw [List.take_of_length_le (by omega)]; exact hs)
      omega
theorem rhas_is (l : List (Nat × Nat)) (v : Value) (x : Int) (b : Bool) (hb : has l x.toNat = b) (w : World) (hr : Rd w v l) (h0 : 0 ≤ x) (hlen : l.length ≤ 1000000000) :
    Calls Tryd.prog 61 #[v, .int .u32 x] w fun e w' => e = .returned (.bool b) ∧ w = w' := hb ▸ rhas_any l v x w hr h0 hlen
/-- What so tells. -/
def soB (how : Nat) (p q : Bool) : Bool := if how = 1 then p || q else if how = 2 then p && q else if how = 3 then p && !q else !p
set_option maxHeartbeats 1000000 in
theorem so_is (l m : List (Nat × Nat)) (v u : Value) (x : Int) (how : Nat) (hh : how = 1 ∨ how = 2 ∨ how = 3 ∨ how = 4) (w : World) (hr : Rd w v l) (hs : Rd w u m) (h0 : 0 ≤ x) (hl : l.length ≤ 1000000000) (hm : m.length ≤ 1000000000) :
    Calls Tryd.prog 43 #[v, u, .int .u32 x, .int .i64 how] w fun e w' => e = .returned (.bool (soB how (has l x.toNat) (has m x.toNat))) ∧ w = w' := by
  obtain ⟨p, hp⟩ : ∃ p, has l x.toNat = p := ⟨_, rfl⟩
  obtain ⟨q, hq⟩ : ∃ q, has m x.toNat = q := ⟨_, rfl⟩
  have k1 := rhas_is l v x p hp w hr h0 hl
  have k2 := rhas_is m u x q hq w hs h0 hm
  rw [hp, hq]
  have K1 := Lib.hid k1
  have K2 := Lib.hid k2
  clear hp hq k1 k2 hr hs
  rcases hh with rfl | rfl | rfl | rfl <;> cases p <;> cases q
  all_goals
    go_enter Tryd.func43, Tryd.ntmps43
    go_wp2_with fail
    refine K1.out.mono ?_
    rintro e w' ⟨rfl, rfl⟩
    go_wp2_with fail
    try
      refine K2.out.mono ?_
      rintro e w' ⟨rfl, rfl⟩
    go_wp2
    go_ret
    exact ⟨rfl, rfl⟩
end Go.Proofs.YtbplkeopdfciiaaDoor
