/- What Parse and ParsePrefix of package addr read in a text. No condition but that the text is one that can be. -/
import Derived.Test.YtmbkkjofikijiaaGreatDoorSCut
namespace Go.Proofs.YtmbkkjofikijiaaGreatDoor
open Go.RowKit
theorem mk_toList (l : List UInt8) : (⟨l.toArray⟩ : ByteArray).data.toList = l := by simp
theorem mk_size (l : List UInt8) : (⟨l.toArray⟩ : ByteArray).size = l.length := by simp [ByteArray.size]
/-- An address that may be none, and the error. -/
def adrI : Option Nat → Int × Int | some n => ((n : Int), 0) | none => (0, 4)
theorem ret_adr {o : Option Nat} {x y : Int} (h : adrI o = (x, y)) : Ending.returned (.tuple #[.int .u32 x, .int .i64 y]) = .returned (.tuple #[.int .u32 (adrI o).1, .int .i64 (adrI o).2]) := by rw [h]
theorem parseN_bad {k : Nat} {l : List UInt8} {a : Nat} (h : num (cut1 l 46).1 255 = none) : parseN (k + 1) l a = none := by unfold parseN; rw [h]
theorem parseN_dot {k : Nat} {l : List UInt8} {a n : Nat} (h : num (cut1 l 46).1 255 = some n) (h2 : (cut1 l 46).2.2 = decide (k = 0)) : parseN (k + 1) l a = none := by unfold parseN; rw [h]; simp [h2]
theorem parseN_next {k : Nat} {l : List UInt8} {a n : Nat} (h : num (cut1 l 46).1 255 = some n) (h2 : ¬ (cut1 l 46).2.2 = decide (k = 0)) : parseN (k + 1) l a = parseN k (cut1 l 46).2.1 (a * 256 + n) := by
  conv => lhs; unfold parseN
  rw [h]; simp [h2]
theorem shl8_or (a n : Int) (h0 : 0 ≤ a) (h1 : a < 16777216) (h2 : 0 ≤ n) (h3 : n ≤ 255) : bits .or .u32 (a * 256) n = a * 256 + n := by
  rw [u32_or _ _ (by omega) (by omega) h2 (by omega), nat_join 8 _ _ (by omega) (by omega)]
  omega
theorem number_255 (s : ByteArray) (w : World) (hs : s.size ≤ 9223372036854775807) :
    Calls Tryz.prog 172 #[.string s, .int .i64 255] w fun e w' => e = .returned (.tuple #[.int .i64 (numI (num s.data.toList 255)), .bool (num s.data.toList 255).isSome]) ∧ w = w' := number_is s 255 w (by omega) hs
theorem number_32 (s : ByteArray) (w : World) (hs : s.size ≤ 9223372036854775807) :
    Calls Tryz.prog 172 #[.string s, .int .i64 32] w fun e w' => e = .returned (.tuple #[.int .i64 (numI (num s.data.toList 32)), .bool (num s.data.toList 32).isSome]) ∧ w = w' := number_is s 32 w (by omega) hs
set_option maxRecDepth 100000 in
set_option maxHeartbeats 400000 in
theorem parse_is (s : ByteArray) (w : World) (hs : s.size ≤ 9223372036854775807) :
    Calls Tryz.prog 129 #[.string s] w fun e w' => e = .returned (.tuple #[.int .u32 (adrI (parse s.data.toList)).1, .int .i64 (adrI (parse s.data.toList)).2]) ∧ Below w.heap.size w w' := by
  go_enter Tryz.func129, Tryz.ntmps129
  go_wp2_with fail
  go_loopw [4, 5, 14] (fun a r i wr => ∃ (j k v : Nat) (l : List UInt8), j + k = 4 ∧ i = .int .i64 j ∧ a = .int .u32 v ∧ r = .string ⟨l.toArray⟩ ∧ l.length ≤ 9223372036854775807 ∧ v < 256 ^ j ∧ Hid (parse s.data.toList = parseN k l v) ∧ Below w.heap.size w wr) (fun _ _ i _ => 4 - (intOf i).toNat)
  case atStart => exact ⟨0, 4, 0, s.data.toList, by omega, rfl, rfl, by rw [← all_of], by rw [str_toList]; exact hs, by simp, Lib.hid rfl, Below.refl _ _⟩
  case round =>
    obtain ⟨j, k, v, l, hj, rfl, rfl, rfl, hl, hv, HP, hbw⟩ := hrel
    have hlen := cut1_len l 46
    cases k with
    | zero =>
      have HE : Hid (adrI (parse s.data.toList) = ((v : Int), 0)) := Lib.hid (by rw [HP.out]; rfl)
      clear hlen hv
      go_wp2_with fail
      go_ret2
      exact ⟨ret_adr HE.out, hbw⟩
    | succ k =>
      have hj3 : j ≤ 3 := by omega
      have hl1 : (⟨l.toArray⟩ : ByteArray).size ≤ 9223372036854775807 := by rw [mk_size]; exact hl
      have hl2 : (⟨(cut1 l 46).1.toArray⟩ : ByteArray).size ≤ 9223372036854775807 := by rw [mk_size]; omega
      have hl3 : (cut1 l 46).2.1.length ≤ 9223372036854775807 := by omega
      have hv24 : v < 16777216 := by
        have : 256 ^ j ≤ 256 ^ 3 := Nat.pow_le_pow_right (by omega) hj3
        omega
      have HJ := Lib.hid hj
      have HV := Lib.hid hv
      have HL1 := Lib.hid hl1
      have HL2 := Lib.hid hl2
      have HL3 := Lib.hid hl3
      clear hlen hl1 hl2 hl3 hl hv
      cases hn : num (cut1 l 46).1 255 with
      | none =>
        have HN := Lib.hid hn
        have HE : Hid (adrI (parse s.data.toList) = (0, 4)) := Lib.hid (by rw [HP.out, parseN_bad hn]; rfl)
        clear hn hj
        go_wp2_with (first
          | (go_at_call 126; (with_reducible refine (scut_is _ 46 _ HL1.out).mono ?_); rintro e w1 ⟨rfl, hb1⟩; rw [mk_toList])
          | (go_at_call 172; (with_reducible refine (number_255 _ _ HL2.out).mono ?_); rintro e w' ⟨rfl, rfl⟩; rw [mk_toList, HN.out]; simp only [numI, Option.isSome]))
        go_ret2
        exact ⟨ret_adr HE.out, Below.step hbw hb1⟩
      | some n =>
        have hn255 := (num_some hn).2.2.2.1
        have e1 : IntKind.u32.wrap (n : Int) = (n : Int) := IntWalk.u32_in _ ⟨by omega, by omega⟩
        have e2 := shl8_or (v : Int) (n : Int) (by omega) (by omega) (by omega) (by omega)
        cases hd : (cut1 l 46).2.2 with
        | true =>
          by_cases hk0 : k = 0
          · have h3 : ((j : Int) == 3) = true := by simp; omega
            have HN := Lib.hid hn
            have HD := Lib.hid hd
            have HE : Hid (adrI (parse s.data.toList) = (0, 4)) := Lib.hid (by rw [HP.out, parseN_dot hn (by rw [hd, hk0]; rfl)]; rfl)
            clear hn hd hj hk0
            go_wp2_with (first
              | (go_at_call 126; (with_reducible refine (scut_is _ 46 _ HL1.out).mono ?_); rintro e w1 ⟨rfl, hb1⟩; rw [mk_toList, HD.out])
              | (go_at_call 172; (with_reducible refine (number_255 _ _ HL2.out).mono ?_); rintro e w' ⟨rfl, rfl⟩; rw [mk_toList, HN.out]; simp only [numI, Option.isSome]))
            go_ret2
            exact ⟨ret_adr HE.out, Below.step hbw hb1⟩
          · have h3 : ((j : Int) == 3) = false := by simp; omega
            have HN := Lib.hid hn
            have HD := Lib.hid hd
            have HE := Lib.hid (parseN_next (k := k) (a := v) hn (by rw [hd]; simp [hk0]))
            clear hn hd hj hk0
            go_wp2_with (first
              | (go_at_call 126; (with_reducible refine (scut_is _ 46 _ HL1.out).mono ?_); rintro e w1 ⟨rfl, hb1⟩; rw [mk_toList, HD.out])
              | (go_at_call 172; (with_reducible refine (number_255 _ _ HL2.out).mono ?_); rintro e w' ⟨rfl, rfl⟩; rw [mk_toList, HN.out]; simp only [numI, Option.isSome]))
            refine ⟨⟨j + 1, k, v * 256 + n, (cut1 l 46).2.1, by have := HJ.out; omega, by go_num, by go_num, rfl, HL3.out, ?_, Lib.hid (by rw [HP.out, HE.out]), Below.step hbw hb1⟩, by simp [intOf]; omega⟩
            have := HV.out
            rw [Nat.pow_succ]
            omega
        | false =>
          by_cases hk0 : k = 0
          · have h3 : ((j : Int) == 3) = true := by simp; omega
            have HN := Lib.hid hn
            have HD := Lib.hid hd
            have HE := Lib.hid (parseN_next (k := k) (a := v) hn (by rw [hd]; simp [hk0]))
            clear hn hd hj hk0
            go_wp2_with (first
              | (go_at_call 126; (with_reducible refine (scut_is _ 46 _ HL1.out).mono ?_); rintro e w1 ⟨rfl, hb1⟩; rw [mk_toList, HD.out])
              | (go_at_call 172; (with_reducible refine (number_255 _ _ HL2.out).mono ?_); rintro e w' ⟨rfl, rfl⟩; rw [mk_toList, HN.out]; simp only [numI, Option.isSome]))
            refine ⟨⟨j + 1, k, v * 256 + n, (cut1 l 46).2.1, by have := HJ.out; omega, by go_num, by go_num, rfl, HL3.out, ?_, Lib.hid (by rw [HP.out, HE.out]), Below.step hbw hb1⟩, by simp [intOf]; omega⟩
            have := HV.out
            rw [Nat.pow_succ]
            omega
          · have h3 : ((j : Int) == 3) = false := by simp; omega
            have HN := Lib.hid hn
            have HD := Lib.hid hd
            have HE : Hid (adrI (parse s.data.toList) = (0, 4)) := Lib.hid (by rw [HP.out, parseN_dot hn (by rw [hd]; simp [hk0])]; rfl)
            clear hn hd hj hk0
            go_wp2_with (first
              | (go_at_call 126; (with_reducible refine (scut_is _ 46 _ HL1.out).mono ?_); rintro e w1 ⟨rfl, hb1⟩; rw [mk_toList, HD.out])
              | (go_at_call 172; (with_reducible refine (number_255 _ _ HL2.out).mono ?_); rintro e w' ⟨rfl, rfl⟩; rw [mk_toList, HN.out]; simp only [numI, Option.isSome]))
            go_ret2
            exact ⟨ret_adr HE.out, Below.step hbw hb1⟩
theorem ret_pp {q : Int × Int × Int} {x y z : Int} (h : q = (x, y, z)) : Ending.returned (.tuple #[.agg #[.int .u32 x, .int .i64 y], .int .i64 z]) = .returned (.tuple #[.agg #[.int .u32 q.1, .int .i64 q.2.1], .int .i64 q.2.2]) := by rw [h]
set_option maxRecDepth 100000 in
set_option maxHeartbeats 400000 in
theorem pparse_is (s : ByteArray) (w : World) (hs : s.size ≤ 9223372036854775807) :
    Calls Tryz.prog 127 #[.string s] w fun e w' => e = .returned (.tuple #[.agg #[.int .u32 (pparse s.data.toList).1, .int .i64 (pparse s.data.toList).2.1], .int .i64 (pparse s.data.toList).2.2]) ∧ Below w.heap.size w w' := by
  have hlen := cut1_len s.data.toList 47
  rw [str_toList] at hlen
  have HL1 : Hid ((⟨(cut1 s.data.toList 47).1.toArray⟩ : ByteArray).size ≤ 9223372036854775807) := Lib.hid (by rw [mk_size]; omega)
  have HL2 : Hid ((⟨(cut1 s.data.toList 47).2.1.toArray⟩ : ByteArray).size ≤ 9223372036854775807) := Lib.hid (by rw [mk_size]; omega)
  clear hlen
  cases ha : parse (cut1 s.data.toList 47).1 with
  | none =>
    have HP : Hid (pparse s.data.toList = (0, 0, 4)) := Lib.hid (by unfold pparse; rw [ha])
    have HA : Hid (adrI (parse (cut1 s.data.toList 47).1) = (0, 4)) := Lib.hid (by rw [ha]; rfl)
    obtain ⟨o, ho⟩ : ∃ o, num (cut1 s.data.toList 47).2.1 32 = o := ⟨_, rfl⟩
    have HN := Lib.hid ho
    clear ha ho
    cases o with
    | none =>
      go_enter Tryz.func127, Tryz.ntmps127
      go_wp2_with (first
        | (go_at_call 126; (with_reducible refine (scut_is s 47 _ hs).mono ?_); rintro e w1 ⟨rfl, hb1⟩; have hz1 := hb1.size; simp at hz1; obtain ⟨hc1, hf1⟩ := bcell hb1)
        | (go_at_call 129; (with_reducible refine (parse_is _ _ HL1.out).mono ?_); rintro e w2 ⟨rfl, hb2⟩; rw [mk_toList, HA.out]; have hz2 := hb2.size; obtain ⟨hc2, hf2⟩ := bcell hb2; have hy0 : w.heap.size < w1.heap.size := (by omega); have hy1 : w.heap.size < w2.heap.size := (by omega))
        | (go_at_call 172; (with_reducible refine (number_32 _ _ HL2.out).mono ?_); rintro e w' ⟨rfl, rfl⟩; rw [mk_toList, HN.out]; simp only [numI, Option.isSome]))
      refine bodyPost_ret (by simp [results, Tryz.results127, go_sem, hc1, hc2, hy0]; try rfl) rfl ?_
      exact ⟨ret_pp HP.out, (((Below.step (Below.step (by go_grown) hb1) hb2).setCell (by go_size) _).setCell (by go_size) _)⟩
    | some n =>
      go_enter Tryz.func127, Tryz.ntmps127
      go_wp2_with (first
        | (go_at_call 126; (with_reducible refine (scut_is s 47 _ hs).mono ?_); rintro e w1 ⟨rfl, hb1⟩; have hz1 := hb1.size; simp at hz1; obtain ⟨hc1, hf1⟩ := bcell hb1)
        | (go_at_call 129; (with_reducible refine (parse_is _ _ HL1.out).mono ?_); rintro e w2 ⟨rfl, hb2⟩; rw [mk_toList, HA.out]; have hz2 := hb2.size; obtain ⟨hc2, hf2⟩ := bcell hb2; have hy0 : w.heap.size < w1.heap.size := (by omega); have hy1 : w.heap.size < w2.heap.size := (by omega))
        | (go_at_call 172; (with_reducible refine (number_32 _ _ HL2.out).mono ?_); rintro e w' ⟨rfl, rfl⟩; rw [mk_toList, HN.out]; simp only [numI, Option.isSome]))
      refine bodyPost_ret (by simp [results, Tryz.results127, go_sem, hc1, hc2, hy0]; try rfl) rfl ?_
      exact ⟨ret_pp HP.out, (((Below.step (Below.step (by go_grown) hb1) hb2).setCell (by go_size) _).setCell (by go_size) _)⟩
  | some a =>
    have hlt := parse_lt ha
    have HA : Hid (adrI (parse (cut1 s.data.toList 47).1) = ((a : Int), 0)) := Lib.hid (by rw [ha]; rfl)
    cases hd : (cut1 s.data.toList 47).2.2 with
    | false =>
      have HP : Hid (pparse s.data.toList = (0, 0, 4)) := Lib.hid (by unfold pparse; rw [ha, hd]; cases num (cut1 s.data.toList 47).2.1 32 <;> rfl)
      have HD := Lib.hid hd
      obtain ⟨o, ho⟩ : ∃ o, num (cut1 s.data.toList 47).2.1 32 = o := ⟨_, rfl⟩
      have HN := Lib.hid ho
      clear ha ho hd hlt
      cases o with
      | none =>
        go_enter Tryz.func127, Tryz.ntmps127
        go_wp2_with (first
          | (go_at_call 126; (with_reducible refine (scut_is s 47 _ hs).mono ?_); rintro e w1 ⟨rfl, hb1⟩; rw [HD.out]; have hz1 := hb1.size; simp at hz1; obtain ⟨hc1, hf1⟩ := bcell hb1)
          | (go_at_call 129; (with_reducible refine (parse_is _ _ HL1.out).mono ?_); rintro e w2 ⟨rfl, hb2⟩; rw [mk_toList, HA.out]; have hz2 := hb2.size; obtain ⟨hc2, hf2⟩ := bcell hb2; have hy0 : w.heap.size < w1.heap.size := (by omega); have hy1 : w.heap.size < w2.heap.size := (by omega))
          | (go_at_call 172; (with_reducible refine (number_32 _ _ HL2.out).mono ?_); rintro e w' ⟨rfl, rfl⟩; rw [mk_toList, HN.out]; simp only [numI, Option.isSome]))
        refine bodyPost_ret (by simp [results, Tryz.results127, go_sem, hc1, hc2, hy0]; try rfl) rfl ?_
        exact ⟨ret_pp HP.out, (((Below.step (Below.step (by go_grown) hb1) hb2).setCell (by go_size) _).setCell (by go_size) _)⟩
      | some n =>
        go_enter Tryz.func127, Tryz.ntmps127
        go_wp2_with (first
          | (go_at_call 126; (with_reducible refine (scut_is s 47 _ hs).mono ?_); rintro e w1 ⟨rfl, hb1⟩; rw [HD.out]; have hz1 := hb1.size; simp at hz1; obtain ⟨hc1, hf1⟩ := bcell hb1)
          | (go_at_call 129; (with_reducible refine (parse_is _ _ HL1.out).mono ?_); rintro e w2 ⟨rfl, hb2⟩; rw [mk_toList, HA.out]; have hz2 := hb2.size; obtain ⟨hc2, hf2⟩ := bcell hb2; have hy0 : w.heap.size < w1.heap.size := (by omega); have hy1 : w.heap.size < w2.heap.size := (by omega))
          | (go_at_call 172; (with_reducible refine (number_32 _ _ HL2.out).mono ?_); rintro e w' ⟨rfl, rfl⟩; rw [mk_toList, HN.out]; simp only [numI, Option.isSome]))
        refine bodyPost_ret (by simp [results, Tryz.results127, go_sem, hc1, hc2, hy0]; try rfl) rfl ?_
        exact ⟨ret_pp HP.out, (((Below.step (Below.step (by go_grown) hb1) hb2).setCell (by go_size) _).setCell (by go_size) _)⟩
    | true =>
      cases hn : num (cut1 s.data.toList 47).2.1 32 with
      | none =>
        have HP : Hid (pparse s.data.toList = (0, 0, 4)) := Lib.hid (by unfold pparse; rw [ha, hn])
        have HD := Lib.hid hd
        have HN := Lib.hid hn
        clear ha hn hd hlt
        go_enter Tryz.func127, Tryz.ntmps127
        go_wp2_with (first
          | (go_at_call 126; (with_reducible refine (scut_is s 47 _ hs).mono ?_); rintro e w1 ⟨rfl, hb1⟩; rw [HD.out]; have hz1 := hb1.size; simp at hz1; obtain ⟨hc1, hf1⟩ := bcell hb1)
          | (go_at_call 129; (with_reducible refine (parse_is _ _ HL1.out).mono ?_); rintro e w2 ⟨rfl, hb2⟩; rw [mk_toList, HA.out]; have hz2 := hb2.size; obtain ⟨hc2, hf2⟩ := bcell hb2; have hy0 : w.heap.size < w1.heap.size := (by omega); have hy1 : w.heap.size < w2.heap.size := (by omega))
          | (go_at_call 172; (with_reducible refine (number_32 _ _ HL2.out).mono ?_); rintro e w' ⟨rfl, rfl⟩; rw [mk_toList, HN.out]; simp only [numI, Option.isSome]))
        refine bodyPost_ret (by simp [results, Tryz.results127, go_sem, hc1, hc2, hy0]; try rfl) rfl ?_
        exact ⟨ret_pp HP.out, (((Below.step (Below.step (by go_grown) hb1) hb2).setCell (by go_size) _).setCell (by go_size) _)⟩
      | some n =>
        have hn32 := (num_some hn).2.2.2.1
        have A1 : 0 ≤ (a : Int) := by omega
        have A2 : (a : Int) < 4294967296 := by omega
        have HD := Lib.hid hd
        have HN := Lib.hid hn
        obtain ⟨c, hc⟩ : ∃ c, ck (a : Int) (n : Int) = c := ⟨_, rfl⟩
        have HK := Lib.hid hc
        by_cases hc0 : c = 0
        · have HP : Hid (pparse s.data.toList = ((a : Int), (n : Int), 0)) := Lib.hid (by unfold pparse; rw [ha, hn, hd]; simp only [hc, hc0, if_true])
          subst hc0
          clear ha hn hd hlt hc
          go_enter Tryz.func127, Tryz.ntmps127
          go_wp2_with (first
            | (go_at_call 126; (with_reducible refine (scut_is s 47 _ hs).mono ?_); rintro e w1 ⟨rfl, hb1⟩; rw [HD.out]; have hz1 := hb1.size; simp at hz1; obtain ⟨hc1, hf1⟩ := bcell hb1)
            | (go_at_call 129; (with_reducible refine (parse_is _ _ HL1.out).mono ?_); rintro e w2 ⟨rfl, hb2⟩; rw [mk_toList, HA.out]; have hz2 := hb2.size; obtain ⟨hc2, hf2⟩ := bcell hb2; have hy0 : w.heap.size < w1.heap.size := (by omega); have hy1 : w.heap.size < w2.heap.size := (by omega))
            | (go_at_call 172; (with_reducible refine (number_32 _ _ HL2.out).mono ?_); rintro e w' ⟨rfl, rfl⟩; rw [mk_toList, HN.out]; simp only [numI, Option.isSome])
            | (go_at_call 60; (with_reducible refine (check_is _ _ _ A1 A2).mono ?_); rintro e w3 ⟨rfl, hb3⟩; rw [HK.out]; have hz3 := hb3.size; simp at hz3; obtain ⟨hc3, hf3⟩ := bcell hb3; have hx0 : w.heap.size < w3.heap.size := (by omega); have hx1 : w2.heap.size < w3.heap.size := (by omega); have hx2 : w.heap.size < w2.heap.size + 1 := (by omega)))
          refine bodyPost_ret (by simp [results, Tryz.results127, go_sem, hc1, hc2, hc3, hy0, hy1, hx2]; try rfl) rfl ?_
          exact ⟨ret_pp HP.out, (((Below.step ((Below.step (Below.step (by go_grown) hb1) hb2).alloc (by go_size) _) hb3).setCell (by go_size) _).setCell (by go_size) _)⟩
        · have HP : Hid (pparse s.data.toList = (0, 0, c)) := Lib.hid (by unfold pparse; rw [ha, hn, hd]; simp only [hc, if_neg hc0])
          have hc2' : (c != 0) = true := by simpa using hc0
          clear ha hn hd hlt hc hc0
          go_enter Tryz.func127, Tryz.ntmps127
          go_wp2_with (first
            | (go_at_call 126; (with_reducible refine (scut_is s 47 _ hs).mono ?_); rintro e w1 ⟨rfl, hb1⟩; rw [HD.out]; have hz1 := hb1.size; simp at hz1; obtain ⟨hc1, hf1⟩ := bcell hb1)
            | (go_at_call 129; (with_reducible refine (parse_is _ _ HL1.out).mono ?_); rintro e w2 ⟨rfl, hb2⟩; rw [mk_toList, HA.out]; have hz2 := hb2.size; obtain ⟨hc2, hf2⟩ := bcell hb2; have hy0 : w.heap.size < w1.heap.size := (by omega); have hy1 : w.heap.size < w2.heap.size := (by omega))
            | (go_at_call 172; (with_reducible refine (number_32 _ _ HL2.out).mono ?_); rintro e w' ⟨rfl, rfl⟩; rw [mk_toList, HN.out]; simp only [numI, Option.isSome])
            | (go_at_call 60; (with_reducible refine (check_is _ _ _ A1 A2).mono ?_); rintro e w3 ⟨rfl, hb3⟩; rw [HK.out]; have hz3 := hb3.size; simp at hz3; obtain ⟨hc3, hf3⟩ := bcell hb3; have hx0 : w.heap.size < w3.heap.size := (by omega); have hx1 : w2.heap.size < w3.heap.size := (by omega); have hx2 : w.heap.size < w2.heap.size + 1 := (by omega)))
          refine bodyPost_ret (by simp [results, Tryz.results127, go_sem, hc1, hc2, hc3, hy0, hy1, hx2]; try rfl) rfl ?_
          exact ⟨ret_pp HP.out, (((Below.step ((Below.step (Below.step (by go_grown) hb1) hb2).alloc (by go_size) _) hb3).setCell (by go_size) _).setCell (by go_size) _)⟩
end Go.Proofs.YtmbkkjofikijiaaGreatDoor
