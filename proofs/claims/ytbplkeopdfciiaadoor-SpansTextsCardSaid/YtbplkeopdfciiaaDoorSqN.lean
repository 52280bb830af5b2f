/- number of package spans: the number below 2^32 that a text is. Condition: the text is one that can be. -/
import Derived.Test.YtbplkeopdfciiaaDoorSqM
import Derived.Test.YtbplkeopdfciiaaDoorNumS
import Derived.Test.YtbplkeopdfciiaaDoorSpW1
namespace Go.Proofs.YtbplkeopdfciiaaDoor
open Go.RowKit
theorem unum_none {o : Option Nat} (h : o = none) : Ending.returned (.tuple #[.int .u32 0, .bool false]) = .returned (.tuple #[.int .u32 (numI o), .bool o.isSome]) := by rw [h]; rfl
theorem unum_some {o : Option Nat} {n : Nat} {x : Int} (h : o = some n) (hx : x = n) : Ending.returned (.tuple #[.int .u32 x, .bool true]) = .returned (.tuple #[.int .u32 (numI o), .bool o.isSome]) := by rw [h, hx]; rfl
theorem rdN_nodig {l : List UInt8} {k : Nat} (h : k < l.length) (hd : dig (l[k]) = false) : rdN l = none := num_nodig h hd
theorem rdN_big {l : List UInt8} {k : Nat} (hd : 4294967295 < val (l.take k) 0) : rdN l = none := num_big hd
theorem rdN_mk {l : List UInt8} (h1 : l ≠ []) (h2 : lead l = false) (h3 : l.all dig = true) (h4 : val l 0 ≤ 4294967295) : rdN l = some (val l 0) := num_mk h1 h2 h3 h4
theorem rdN_nil : rdN [] = none := rfl
set_option maxRecDepth 100000 in
set_option maxHeartbeats 400000 in
theorem snumber_loop (s : ByteArray) (w : World) (hs : s.size ≤ 9223372036854775807) (hpos : 0 < s.size) (hE : s.toList.isEmpty = false)
    (hlead : s.size ≤ 1 ∨ (1 < s.size ∧ (((s[0]'hpos).toNat : Int) == 48) = false)) :
    Calls Tryd.prog 30 #[.string s] w fun e w' => e = .returned (.tuple #[.int .u32 (numI (rdN s.data.toList)), .bool (rdN s.data.toList).isSome]) ∧ w = w' := by
  have hln : s.data.toList ≠ [] := fun h => by have := str_toList s; rw [h] at this; simp at this; omega
  have hll : Hid (lead s.data.toList = false) := Lib.hid (by
    unfold lead
    rcases hlead with h | ⟨h, h2⟩
    · have e : decide (1 < s.data.toList.length) = false := by rw [str_toList]; simp; omega
      rw [e]; rfl
    · rw [head_at s hpos]
      have h3 : ¬ (s[0]'hpos) = 48 := fun h4 => by rw [h4] at h2; simp at h2
      simp [h3])
  have HLN := Lib.hid hln
  clear hln
  rcases hlead with hlead | ⟨hlead, hl2⟩
  all_goals
    go_enter Tryd.func30, Tryd.ntmps30
    go_wp2_with fail
    go_loop [4, 21] (fun o i => ∃ k : Nat, k ≤ s.size ∧ i = .int .i64 k ∧ o = .int .u64 (val (s.data.toList.take k) 0) ∧ Hid ((s.data.toList.take k).all dig = true) ∧ val (s.data.toList.take k) 0 ≤ 4294967295) (fun _ i => s.size - (intOf i).toNat)
    case atStart => exact ⟨0, by omega, rfl, rfl, Lib.hid rfl, by simp [val]⟩
    case round =>
      obtain ⟨k, hk, rfl, rfl, HA, hv⟩ := hrel
      by_cases hlt : k < s.size
      · have hkl : k < s.data.toList.length := by rw [str_toList]; exact hlt
        have hget := get_at s k hlt hkl
        have ha := all_take s.data.toList k hkl
        have hv2 := val_take s.data.toList k hkl
        rw [hget] at ha hv2
        obtain ⟨v, hvv⟩ : ∃ v, val (s.data.toList.take k) 0 = v := ⟨_, rfl⟩
        rw [hvv] at hv hv2 ⊢
        have HV := Lib.hid hvv
        have HV2 := Lib.hid hv2
        have HA2 := Lib.hid ha
        have HG := Lib.hid hget
        have hb := (s[k]'hlt).toNat_lt
        clear ha hv2 hvv hget
        by_cases hd1 : (s[k]'hlt).toNat < 48
        · have H : Hid (rdN s.data.toList = none) := Lib.hid (rdN_nodig hkl (by rw [HG.out]; simp [dig]; omega))
          go_wp2_with fail
          go_ret2
          exact ⟨unum_none H.out, rfl⟩
        · by_cases hd2 : 57 < (s[k]'hlt).toNat
          · have H : Hid (rdN s.data.toList = none) := Lib.hid (rdN_nodig hkl (by rw [HG.out]; simp [dig]; omega))
            go_wp2_with fail
            go_ret2
            exact ⟨unum_none H.out, rfl⟩
          · have hw : IntKind.u8.wrap (((s[k]'hlt).toNat : Int) - 48) = ((s[k]'hlt).toNat : Int) - 48 := by rw [IntKind.wrap_u8']; omega
            have hw2 : IntKind.u64.wrap (((s[k]'hlt).toNat : Int) - 48) = ((s[k]'hlt).toNat : Int) - 48 := IntWalk.u64_in _ ⟨by omega, by omega⟩
            by_cases hbig : 4294967295 < v * 10 + ((s[k]'hlt).toNat - 48)
            · have H : Hid (rdN s.data.toList = none) := Lib.hid (rdN_big (k := k + 1) (by rw [HV2.out]; exact hbig))
              go_wp2_with fail
              go_ret2
              exact ⟨unum_none H.out, rfl⟩
            · go_wp2_with fail
              go_round
              case rel =>
                refine ⟨k + 1, by omega, by go_num, ?_, Lib.hid ?_, ?_⟩
                · rw [HV2.out]; go_num
                · rw [HA2.out, HA.out, Bool.true_and]; simp [dig]; omega
                · rw [HV2.out]; omega
              case measure => simp [intOf]; omega
      · have hks : k = s.size := by omega
        have hfull : s.data.toList.take k = s.data.toList := List.take_of_length_le (by rw [str_toList]; omega)
        rw [hfull] at HA hv ⊢
        have HN : Hid (rdN s.data.toList = some (val s.data.toList 0)) := Lib.hid (rdN_mk HLN.out hll.out HA.out hv)
        subst hks
        clear hlt hfull
        go_wp2_with fail
        go_ret2
        exact ⟨unum_some HN.out rfl, rfl⟩
set_option maxHeartbeats 400000 in
theorem snumber_is (s : ByteArray) (w : World) (hs : s.size ≤ 9223372036854775807) :
    Calls Tryd.prog 30 #[.string s] w fun e w' => e = .returned (.tuple #[.int .u32 (numI (rdN s.data.toList)), .bool (rdN s.data.toList).isSome]) ∧ w = w' := by
  by_cases h0 : s.size = 0
  · have e : s.data.toList = [] := List.eq_nil_of_length_eq_zero (by rw [str_toList]; exact h0)
    have H : Hid (rdN s.data.toList = none) := Lib.hid (by rw [e]; rfl)
    have hE : s.toList.isEmpty = true := by rw [Lib.toList_data, e]; rfl
    clear e h0
    go_enter Tryd.func30, Tryd.ntmps30
    go_wp2_with fail
    go_ret2
    exact ⟨unum_none H.out, rfl⟩
  · have hpos : 0 < s.size := by omega
    have hne : s.data.toList ≠ [] := fun h => by have := str_toList s; rw [h] at this; simp at this; omega
    have hE : s.toList.isEmpty = false := by rw [Lib.toList_data]; simpa using hne
    by_cases h1 : 1 < s.size
    · by_cases h2 : (s[0]'hpos) = 48
      · have H : Hid (rdN s.data.toList = none) := Lib.hid (by
          unfold rdN num
          rw [if_pos]
          refine .inr (.inl ?_)
          unfold lead
          rw [head_at s hpos, h2, str_toList]
          simpa using h1)
        have hl2 : (((s[0]'hpos).toNat : Int) == 48) = true := by rw [h2]; rfl
        clear h2 h0 hne
        go_enter Tryd.func30, Tryd.ntmps30
        go_wp2_with fail
        go_ret2
        exact ⟨unum_none H.out, rfl⟩
      · exact snumber_loop s w hs hpos hE (.inr ⟨h1, by
          simp only [beq_eq_false_iff_ne, ne_eq]
          exact fun h => h2 (UInt8.toNat_inj.mp (by have h48 : (48 : UInt8).toNat = 48 := rfl; omega))⟩)
    · exact snumber_loop s w hs hpos hE (.inl (by omega))
end Go.Proofs.YtbplkeopdfciiaaDoor
