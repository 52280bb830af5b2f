/- What the calls of package addr do that read a text: number, Parse, ParsePrefix; and strings.Cut at one byte. Each under the conditions that it names. -/
import Derived.Test.YtmbkkjofikijiaaGreatDoorAddrW1
import Derived.Test.YtmbkkjofikijiaaGreatDoorTextMath
import Derived.PlainAid
import Derived.Lib.IndexBytes
namespace Go.Proofs.YtmbkkjofikijiaaGreatDoor
open Go.RowKit
/-- A number that may be none, as the program hands it back. -/
def numI : Option Nat → Int | some n => (n : Int) | none => 0
theorem str_toList (s : ByteArray) : s.data.toList.length = s.size := by simp
theorem all_take (l : List UInt8) (k : Nat) (h : k < l.length) : (l.take (k + 1)).all dig = ((l.take k).all dig && dig (l[k])) := by
  rw [List.take_succ_eq_append_getElem h, List.all_append]; simp
theorem val_take (l : List UInt8) (k : Nat) (h : k < l.length) : val (l.take (k + 1)) 0 = val (l.take k) 0 * 10 + ((l[k]).toNat - 48) := by
  rw [List.take_succ_eq_append_getElem h, val_snoc]
theorem val_take_le (l : List UInt8) (k : Nat) : val (l.take k) 0 ≤ val l 0 := by
  have e : val l 0 = val (l.drop k) (val (l.take k) 0) := by rw [← val_append, List.take_append_drop]
  rw [e]; exact val_ge _ _
theorem num_nodig {l : List UInt8} {top k : Nat} (h : k < l.length) (hd : dig (l[k]) = false) : num l top = none := by
  unfold num
  rw [if_pos]
  refine .inr (.inr (.inl ?_))
  rw [List.all_eq_false]
  exact ⟨l[k], List.getElem_mem h, by rw [hd]; simp⟩
theorem num_big {l : List UInt8} {top k : Nat} (hd : top < val (l.take k) 0) : num l top = none := by
  unfold num
  rw [if_pos]
  exact .inr (.inr (.inr (Nat.lt_of_lt_of_le hd (val_take_le l k))))
theorem bnum_none {o : Option Nat} (h : o = none) : Ending.returned (.tuple #[.int .i64 0, .bool false]) = .returned (.tuple #[.int .i64 (numI o), .bool o.isSome]) := by rw [h]; rfl
theorem bnum_some {o : Option Nat} {n : Nat} {x : Int} (h : o = some n) (hx : x = n) : Ending.returned (.tuple #[.int .i64 x, .bool true]) = .returned (.tuple #[.int .i64 (numI o), .bool o.isSome]) := by rw [h, hx]; rfl
theorem head_at (s : ByteArray) (h : 0 < s.size) : s.data.toList.head? = some (s[0]'h) := by
  rw [List.head?_eq_getElem?]
  exact Lib.data_getElem? s 0 h
theorem get_at (s : ByteArray) (k : Nat) (h : k < s.size) (hl : k < s.data.toList.length) : s.data.toList[k]'hl = s[k]'h := by
  have := Lib.data_getElem? s k h
  rw [List.getElem?_eq_getElem hl] at this
  exact Option.some.inj this
set_option maxRecDepth 100000 in
set_option maxHeartbeats 400000 in
theorem number_loop (s : ByteArray) (top : Nat) (w : World) (htop : top ≤ 1000) (hs : s.size ≤ 9223372036854775807) (hpos : 0 < s.size) (hE : s.toList.isEmpty = false)
    (hlead : s.size ≤ 1 ∨ (1 < s.size ∧ (((s[0]'hpos).toNat : Int) == 48) = false)) :
    Calls Tryz.prog 172 #[.string s, .int .i64 top] w fun e w' => e = .returned (.tuple #[.int .i64 (numI (num s.data.toList top)), .bool (num s.data.toList top).isSome]) ∧ w = w' := by
  have hln : s.data.toList ≠ [] := fun h => by have := str_toList s; rw [h] at this; simp at this; omega
  have hll : Hid (lead s.data.toList = false) := Lib.hid (by
    unfold lead
    rcases hlead with h | ⟨h, h2⟩
    · have e : decide (1 < s.data.toList.length) = false := by rw [str_toList]; simp; omega
      rw [e]; rfl
    · rw [head_at s hpos]
      have h3 : ¬ (s[0]'hpos) = 48 := fun h4 => by rw [h4] at h2; simp at h2
      simp [h3])
  have HLN := Lib.hid hln
  clear hln
  rcases hlead with hlead | ⟨hlead, hl2⟩
  all_goals
    go_enter Tryz.func172, Tryz.ntmps172
    go_wp2_with fail
    go_loop [6, 23] (fun o i => ∃ k : Nat, k ≤ s.size ∧ i = .int .i64 k ∧ o = .int .i64 (val (s.data.toList.take k) 0) ∧ Hid ((s.data.toList.take k).all dig = true) ∧ val (s.data.toList.take k) 0 ≤ top) (fun _ i => s.size - (intOf i).toNat)
    case atStart => exact ⟨0, by omega, rfl, rfl, Lib.hid rfl, by simp [val]⟩
    case round =>
      obtain ⟨k, hk, rfl, rfl, HA, hv⟩ := hrel
      by_cases hlt : k < s.size
      · have hkl : k < s.data.toList.length := by rw [str_toList]; exact hlt
        have hget := get_at s k hlt hkl
        have ha := all_take s.data.toList k hkl
        have hv2 := val_take s.data.toList k hkl
        rw [hget] at ha hv2
        obtain ⟨v, hvv⟩ : ∃ v, val (s.data.toList.take k) 0 = v := ⟨_, rfl⟩
        rw [hvv] at hv hv2 ⊢
        have HV := Lib.hid hvv
        have HV2 := Lib.hid hv2
        have HA2 := Lib.hid ha
        have HG := Lib.hid hget
        have hb := (s[k]'hlt).toNat_lt
        clear ha hv2 hvv hget
        by_cases hd1 : (s[k]'hlt).toNat < 48
        · have H : Hid (num s.data.toList top = none) := Lib.hid (num_nodig hkl (by rw [HG.out]; simp [dig]; omega))
          go_wp2_with fail
          go_ret2
          exact ⟨bnum_none H.out, rfl⟩
        · by_cases hd2 : 57 < (s[k]'hlt).toNat
          · have H : Hid (num s.data.toList top = none) := Lib.hid (num_nodig hkl (by rw [HG.out]; simp [dig]; omega))
            go_wp2_with fail
            go_ret2
            exact ⟨bnum_none H.out, rfl⟩
          · have hw : IntKind.u8.wrap (((s[k]'hlt).toNat : Int) - 48) = ((s[k]'hlt).toNat : Int) - 48 := by rw [IntKind.wrap_u8']; omega
            by_cases hbig : top < v * 10 + ((s[k]'hlt).toNat - 48)
            · have H : Hid (num s.data.toList top = none) := Lib.hid (num_big (k := k + 1) (by rw [HV2.out]; exact hbig))
              go_wp2_with fail
              go_ret2
              exact ⟨bnum_none H.out, rfl⟩
            · go_wp2_with fail
              go_round
              case rel =>
                refine ⟨k + 1, by omega, by go_num, ?_, Lib.hid ?_, ?_⟩
                · rw [HV2.out]; go_num
                · rw [HA2.out, HA.out, Bool.true_and]; simp [dig]; omega
                · rw [HV2.out]; omega
              case measure => simp [intOf]; omega
      · have hks : k = s.size := by omega
        have hfull : s.data.toList.take k = s.data.toList := List.take_of_length_le (by rw [str_toList]; omega)
        rw [hfull] at HA hv ⊢
        have HN : Hid (num s.data.toList top = some (val s.data.toList 0)) := Lib.hid (num_mk HLN.out hll.out HA.out hv)
        subst hks
        clear hlt hfull
        go_wp2_with fail
        go_ret2
        exact ⟨bnum_some HN.out rfl, rfl⟩
set_option maxHeartbeats 400000 in
theorem number_is (s : ByteArray) (top : Nat) (w : World) (htop : top ≤ 1000) (hs : s.size ≤ 9223372036854775807) :
    Calls Tryz.prog 172 #[.string s, .int .i64 top] w fun e w' => e = .returned (.tuple #[.int .i64 (numI (num s.data.toList top)), .bool (num s.data.toList top).isSome]) ∧ w = w' := by
  by_cases h0 : s.size = 0
  · have e : s.data.toList = [] := List.eq_nil_of_length_eq_zero (by rw [str_toList]; exact h0)
    have H : Hid (num s.data.toList top = none) := Lib.hid (by rw [e]; rfl)
    have hE : s.toList.isEmpty = true := by rw [Lib.toList_data, e]; rfl
    clear e h0
    go_enter Tryz.func172, Tryz.ntmps172
    go_wp2_with fail
    go_ret2
    exact ⟨bnum_none H.out, rfl⟩
  · have hpos : 0 < s.size := by omega
    have hne : s.data.toList ≠ [] := fun h => by have := str_toList s; rw [h] at this; simp at this; omega
    have hE : s.toList.isEmpty = false := by rw [Lib.toList_data]; simpa using hne
    by_cases h1 : 1 < s.size
    · by_cases h2 : (s[0]'hpos) = 48
      · have H : Hid (num s.data.toList top = none) := Lib.hid (by
          unfold num
          rw [if_pos]
          refine .inr (.inl ?_)
          unfold lead
          rw [head_at s hpos, h2, str_toList]
          simpa using h1)
        have hl2 : (((s[0]'hpos).toNat : Int) == 48) = true := by rw [h2]; rfl
        clear h2 h0 hne
        go_enter Tryz.func172, Tryz.ntmps172
        go_wp2_with fail
        go_ret2
        exact ⟨bnum_none H.out, rfl⟩
      · exact number_loop s top w htop hs hpos hE (.inr ⟨h1, by
          simp only [beq_eq_false_iff_ne, ne_eq]
          exact fun h => h2 (UInt8.toNat_inj.mp (by have h48 : (48 : UInt8).toNat = 48 := rfl; omega))⟩)
    · exact number_loop s top w htop hs hpos hE (.inl (by omega))
end Go.Proofs.YtmbkkjofikijiaaGreatDoor
