/- What Parse and ParsePrefix of package addr read in a text. No condition but that the text is one that can be. -/
import Derived.Test.YtbmleejeffaciaaDoorSCut
namespace Go.Proofs.YtbmleejeffaciaaDoor
open Go.RowKit
theorem mk_toList (l : List UInt8) : (⟨l.toArray⟩ : ByteArray).data.toList = l := by simp
theorem mk_size (l : List UInt8) : (⟨l.toArray⟩ : ByteArray).size = l.length := by simp [ByteArray.size]
/-- An address that may be none, and the error. -/
def adrI : Option Nat → Int × Int | some n => ((n : Int), 0) | none => (0, 4)
theorem ret_adr {o : Option Nat} {x y : Int} (h : adrI o = (x, y)) : Ending.returned (.tuple #[.int .u32 x, .int .i64 y]) = .returned (.tuple #[.int .u32 (adrI o).1, .int .i64 (adrI o).2]) := by rw [h]
theorem parseN_bad {k : Nat} {l : List UInt8} {a : Nat} (h : num (cut1 l 46).1 255 = none) : parseN (k + 1) l a = none := by unfold parseN; rw [h]
theorem parseN_dot {k : Nat} {l : List UInt8} {a n : Nat} (h : num (cut1 l 46).1 255 = some n) (h2 : (cut1 l 46).2.2 = decide (k = 0)) : parseN (k + 1) l a = none := by unfold parseN; rw [h]; simp [h2]
theorem parseN_next {k : Nat} {l : List UInt8} {a n : Nat} (h : num (cut1 l 46).1 255 = some n) (h2 : ¬ (cut1 l 46).2.2 = decide (k = 0)) : parseN (k + 1) l a = parseN k (cut1 l 46).2.1 (a * 256 + n) := by
  conv => lhs; unfold parseN
  rw [h]; simp [h2]
theorem shl8_or (a n : Int) (h0 : 0 ≤ a) (h1 : a < 16777216) (h2 : 0 ≤ n) (h3 : n ≤ 255) : bits .or .u32 (a * 256) n = a * 256 + n := by
  rw [u32_or _ _ (by omega) (by omega) h2 (by omega), nat_join 8 _ _ (by omega) (by omega)]
  omega
theorem number_255 (s : ByteArray) (w : World) (hs : s.size ≤ 9223372036854775807) :
    Calls Tryd.prog 50 #[.string s, .int .i64 255] w fun e w' => e = .returned (.tuple #[.int .i64 (numI (num s.data.toList 255)), .bool (num s.data.toList 255).isSome]) ∧ w = w' := number_is s 255 w (by omega) hs
theorem number_32 (s : ByteArray) (w : World) (hs : s.size ≤ 9223372036854775807) :
    Calls Tryd.prog 50 #[.string s, .int .i64 32] w fun e w' => e = .returned (.tuple #[.int .i64 (numI (num s.data.toList 32)), .bool (num s.data.toList 32).isSome]) ∧ w = w' := number_is s 32 w (by omega) hs
set_option maxRecDepth 100000 in
set_option maxHeartbeats 400000 in
theorem parse_is (s : ByteArray) (w : World) (hs : s.size ≤ 9223372036854775807) :
    Calls Tryd.prog 41 #[.string s] w fun e w' => e = .returned (.tuple #[.int .u32 (adrI (parse s.data.toList)).1, .int .i64 (adrI (parse s.data.toList)).2]) ∧ Below w.heap.size w w' := by
  go_enter Tryd.func41, Tryd.ntmps41
  go_wp2_with fail
  go_loopw [4, 5, 14] (fun a r i wr => ∃ (j k v : Nat) (l : List UInt8), j + k = 4 ∧ i = .int .i64 j ∧ a = .int .u32 v ∧ r = .string ⟨l.toArray⟩ ∧ l.length ≤ 9223372036854775807 ∧ v < 256 ^ j ∧ Hid (parse s.data.toList = parseN k l v) ∧ Below w.heap.size w wr) (fun _ _ i _ => 4 - (intOf i).toNat)
  case atStart => exact ⟨0, 4, 0, s.data.toList, by omega, rfl, rfl, by rw [← all_of], by rw [str_toList]; exact hs, by simp, Lib.hid rfl, Below.refl _ _⟩
  case round =>
    obtain ⟨j, k, v, l, hj, rfl, rfl, rfl, hl, hv, HP, hbw⟩ := hrel
    have hlen := cut1_len l 46
    cases k with
    | zero =>
      have HE : Hid (adrI (parse s.data.toList) = ((v : Int), 0)) := Lib.hid (by rw [HP.out]; rfl)
      clear hlen hv
      go_wp2_with fail
      go_ret2
      exact ⟨ret_adr HE.out, hbw⟩
    | succ k =>
      have hj3 : j ≤ 3 := by omega
      have hl1 : (⟨l.toArray⟩ : ByteArray).size ≤ 9223372036854775807 := by rw [mk_size]; exact hl
      have hl2 : (⟨(cut1 l 46).1.toArray⟩ : ByteArray).size ≤ 9223372036854775807 := by rw [mk_size]; omega
      have hl3 : (cut1 l 46).2.1.length ≤ 9223372036854775807 := by omega
      have hv24 : v < 16777216 := by
        have : 256 ^ j ≤ 256 ^ 3 := Nat.pow_le_pow_right (by omega) hj3
        omega
      have HJ := Lib.hid hj
      have HV := Lib.hid hv
      have HL1 := Lib.hid hl1
      have HL2 := Lib.hid hl2
      have HL3 := Lib.hid hl3
      clear hlen hl1 hl2 hl3 hl hv
      cases hn : num (cut1 l 46).1 255 with
      | none =>
        have HN := Lib.hid hn
        have HE : Hid (adrI (parse s.data.toList) = (0, 4)) := Lib.hid (by rw [HP.out, parseN_bad hn]; rfl)
        clear hn hj
        go_wp2_with (first
          | (go_at_call 27; (with_reducible refine (scut_is _ 46 _ HL1.out).mono ?_); rintro e w1 ⟨rfl, hb1⟩; rw [mk_toList])
          | (go_at_call 50; (with_reducible refine (number_255 _ _ HL2.out).mono ?_); rintro e w' ⟨rfl, rfl⟩; rw [mk_toList, HN.out]; simp only [numI, Option.isSome]))
        go_ret2
        exact ⟨ret_adr HE.out, Below.step hbw hb1⟩
      | some n =>
        have hn255 := (num_some hn).2.2.2.1
        have e1 : IntKind.u32.wrap (n : Int) = (n : Int) := IntWalk.u32_in _ ⟨by omega, by omega⟩
        have e2 := shl8_or (v : Int) (n : Int) (by omega) (by omega) (by omega) (by omega)
        cases hd : (cut1 l 46).2.2 with
        | true =>
          by_cases hk0 : k = 0
          · have h3 : ((j : Int) == 3) = true := by simp; omega
            have HN := Lib.hid hn
            have HD := Lib.hid hd
            have HE : Hid (adrI (parse s.data.toList) = (0, 4)) := Lib.hid (by rw [HP.out, parseN_dot hn (by rw [hd, hk0]; rfl)]; rfl)
            clear hn hd hj hk0
            go_wp2_with (first
              | (go_at_call 27; (with_reducible refine (scut_is _ 46 _ HL1.out).mono ?_); rintro e w1 ⟨rfl, hb1⟩; rw [mk_toList, HD.out])
              | (go_at_call 50; (with_reducible refine (number_255 _ _ HL2.out).mono ?_); rintro e w' ⟨rfl, rfl⟩; rw [mk_toList, HN.out]; simp only [numI, Option.isSome]))
            go_ret2
            exact ⟨ret_adr HE.out, Below.step hbw hb1⟩
          · have h3 : ((j : Int) == 3) = false := by simp; omega
            have HN := Lib.hid hn
            have HD := Lib.hid hd
            have HE := Lib.hid (parseN_next (k := k) (a := v) hn (by rw [hd]; simp [hk0]))
            clear hn hd hj hk0
            go_wp2_with (first
              | (go_at_call 27; (with_reducible refine (scut_is _ 46 _ HL1.out).mono ?_); rintro e w1 ⟨rfl, hb1⟩; rw [mk_toList, HD.out])
              | (go_at_call 50; (with_reducible refine (number_255 _ _ HL2.out).mono ?_); rintro e w' ⟨rfl, rfl⟩; rw [mk_toList, HN.out]; simp only [numI, Option.isSome]))
            refine ⟨⟨j + 1, k, v * 256 + n, (cut1 l 46).2.1, by have := HJ.out; omega, by go_num, by go_num, rfl, HL3.out, ?_, Lib.hid (by rw [HP.out, HE.out]), Below.step hbw hb1⟩, by simp [intOf]; omega⟩
            have := HV.out
            rw [Nat.pow_succ]
            omega
        | false =>
          by_cases hk0 : k = 0
          · have h3 : ((j : Int) == 3) = true := by simp; omega
            have HN := Lib.hid hn
            have HD := Lib.hid hd
            have HE := Lib.hid (parseN_next (k := k) (a := v) hn (by rw [hd]; simp [hk0]))
            clear hn hd hj hk0
            go_wp2_with (first
              | (go_at_call 27; (with_reducible refine (scut_is _ 46 _ HL1.out).mono ?_); rintro e w1 ⟨rfl, hb1⟩; rw [mk_toList, HD.out])
              | (go_at_call 50; (with_reducible refine (number_255 _ _ HL2.out).mono ?_); rintro e w' ⟨rfl, rfl⟩; rw [mk_toList, HN.out]; simp only [numI, Option.isSome]))
            refine ⟨⟨j + 1, k, v * 256 + n, (cut1 l 46).2.1, by have := HJ.out; omega, by go_num, by go_num, rfl, HL3.out, ?_, Lib.hid (by rw [HP.out, HE.out]), Below.step hbw hb1⟩, by simp [intOf]; omega⟩
            have := HV.out
            rw [Nat.pow_succ]
            omega
          · have h3 : ((j : Int) == 3) = false := by simp; omega
            have HN := Lib.hid hn
            have HD := Lib.hid hd
            have HE : Hid (adrI (parse s.data.toList) = (0, 4)) := Lib.hid (by rw [HP.out, parseN_dot hn (by rw [hd]; simp [hk0])]; rfl)
            clear hn hd hj hk0
            go_wp2_with (first
              | (go_at_call 27; (with_reducible refine (scut_is _ 46 _ HL1.out).mono ?_); rintro e w1 ⟨rfl, hb1⟩; rw [mk_toList, HD.out])
              | (go_at_call 50; (with_reducible refine (number_255 _ _ HL2.out).mono ?_); rintro e w' ⟨rfl, rfl⟩; rw [mk_toList, HN.out]; simp only [numI, Option.isSome]))
            go_ret2
            exact ⟨ret_adr HE.out, Below.step hbw hb1⟩
theorem ret_pp {q : Int × Int × Int} {x y z : Int} (h : q = (x, y, z)) : Ending.returned (.tuple #[.agg #[.int .u32 x, .int .i64 y], .int .i64 z]) = .returned (.tuple #[.agg #[.int .u32 q.1, .int .i64 q.2.1], .int .i64 q.2.2]) := by rw [h]
end Go.Proofs.YtbmleejeffaciaaDoor
