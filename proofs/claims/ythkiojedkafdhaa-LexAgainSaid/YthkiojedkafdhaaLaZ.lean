/- LexAgain returns true, and nothing that was there changes. Under the condition that it names. -/
import Derived.Test.YthkiojedkafdhaaLaX
import Derived.Test.YthkiojedkafdhaaLaY
import Derived.Test.YthkiojedkafdhaaLwk
namespace Go.Proofs.Ythkiojedkafdhaa
open Go.RowKit
theorem ext_one {note : ByteArray} {k : Nat} (h : k < note.size) {c : List UInt8} : ((⟨c.toArray⟩ : ByteArray) ++ note.extract k (k + 1)).data.toList = (⟨(c ++ [note[k]'h]).toArray⟩ : ByteArray).data.toList := by
  have hl : k < note.data.toList.length := by simpa using h
  simp [ByteArray.data_extract]
  rw [List.drop_eq_getElem_cons hl, List.take_succ_cons, List.take_zero]
  rfl
theorem put_of {m : Nat} {c : List UInt8} (hm : m ≤ 2) (hc : ∀ b ∈ c, 97 ≤ b.toNat ∧ b.toNat ≤ 122) (hl : c.length ≤ 20) : Put (List.replicate (m + 1) 32) c :=
  ⟨by simp, fun _ hb => (List.mem_replicate.1 hb).2, hc, by simp; omega, hl⟩
set_option maxRecDepth 100000 in
set_option maxHeartbeats 8000000 in
theorem lexAgain_is (s note : ByteArray) (x : Int) (w : World) (hs : s.size ≤ 9223372036854775807) (_hn : note.size ≤ 9223372036854775807) (hx : 0 ≤ x) (hx2 : x < 256) :
    Calls Try.prog 3 #[.string s, .int .u8 x, .string note] w fun e w' => e = .returned (.bool true) ∧ Below w.heap.size w w' := by
  have HW := Lib.hid (works_is w)
  go_enter Try.func3, Try.ntmps3
  go_wp2_with fail
  go_at_call 4
  refine HW.out.mono ?_
  rintro e w1 ⟨rfl, hb1⟩
  have HB1 := Lib.hid hb1
  clear hb1 HW
  go_wp2_with fail
  go_loopw [7, 8] (fun v i wr => ∃ (k : Nat) (c : List UInt8), k ≤ note.size ∧ k ≤ 20 ∧ c.length ≤ k ∧ Hid (∀ b ∈ c, 97 ≤ b.toNat ∧ b.toNat ≤ 122) ∧ i = .int .i64 k ∧ v = .string ⟨c.toArray⟩ ∧ wr = w1) (fun _ i _ => 20 - (intOf i).toNat)
  case atStart => exact ⟨0, [], Nat.zero_le _, by omega, by simp, Lib.hid (fun b hb => by simp at hb), rfl, rfl, rfl⟩
  case round =>
    obtain ⟨k, c, hk, hk2, hcl, HC, rfl, rfl, rfl⟩ := hrel
    have i1 : (0 : Int) ≤ (k : Int) := by omega
    by_cases hlt : k < note.size ∧ k < 20
    · obtain ⟨h1, h2⟩ := hlt
      have i2 : (k : Int) < (note.size : Int) := by omega
      have i3 : (k : Int) < 20 := by omega
      obtain ⟨B, hB⟩ : ∃ B, note[k]'h1 = B := ⟨_, rfl⟩
      have hB2 := B.toNat_lt
      by_cases h97 : 97 ≤ B.toNat
      · by_cases h122 : B.toNat ≤ 122
        · go_wp2_with fail
          refine ⟨⟨k + 1, c ++ [B], by omega, by omega, by simp; omega, Lib.hid fun b hb => ?_, by go_num, str_eq (by rw [← hB]; exact ext_one h1), trivial⟩, ?_⟩
          · rcases List.mem_append.1 hb with hb | hb
            · exact HC.out b hb
            · simp only [List.mem_singleton] at hb
              subst hb
              exact ⟨h97, h122⟩
          · first | (simp [intOf]; done) | (simp [intOf]; omega)
        · go_wp2_with fail
          refine ⟨⟨k + 1, c, by omega, by omega, by omega, HC, by go_num, rfl, trivial⟩, ?_⟩
          first | (simp [intOf]; done) | (simp [intOf]; omega)
      · go_wp2_with fail
        refine ⟨⟨k + 1, c, by omega, by omega, by omega, HC, by go_num, rfl, trivial⟩, ?_⟩
        first | (simp [intOf]; done) | (simp [intOf]; omega)
    · have hend : ¬ (k : Int) < (note.size : Int) ∨ ((k : Int) < (note.size : Int) ∧ ¬ (k : Int) < 20) := by omega
      clear hlt hk
      have HR : Hid (∀ (m : Nat) (gg : List UInt8) (W : World), m ≤ 2 → gg = List.replicate (m + 1) 32 → Calls Try.prog 5 #[.string s, .string ⟨gg.toArray⟩, .string ⟨c.toArray⟩] W fun e w' => e = .returned (.bool true) ∧ Below W.heap.size W w') := Lib.hid fun m gg W hm hg => again_is s gg c (hg ▸ put_of hm HC.out (by omega)) W hs
      have HN : Hid (∀ (m : Nat) (gg : List UInt8) (W : World), m ≤ 2 → gg = List.replicate (m + 1) 32 → Calls Try.prog 6 #[.string s, .string ⟨gg.toArray⟩, .string ⟨c.toArray⟩] W fun e w' => e = .returned (.bool true) ∧ Below W.heap.size W w') := Lib.hid fun m gg W hm hg => anew_is s gg c (hg ▸ put_of hm HC.out (by omega)) W hs
      clear hk2 hcl HC
      obtain ⟨X, hX⟩ : ∃ X : Nat, x = (X : Int) := ⟨x.toNat, by omega⟩
      subst hX
      rcases hend with h1 | ⟨h0, h1⟩
      all_goals
        go_wp2_with fail
        go_loopw [9, 10] (fun v j wx => ∃ (m : Nat) (gg : List UInt8), m ≤ X % 3 ∧ Hid (gg = List.replicate (m + 1) 32) ∧ j = .int .i64 m ∧ v = .string ⟨gg.toArray⟩ ∧ wx = wr) (fun _ j _ => X % 3 - (intOf j).toNat)
        case atStart => exact ⟨0, [32], Nat.zero_le _, Lib.hid rfl, rfl, rfl, rfl⟩
        case round =>
          obtain ⟨m, gg, hm, HG, rfl, rfl, rfl⟩ := hrel
          have j1 : (0 : Int) ≤ (m : Int) := by omega
          have j5 : (X : Int).tmod 3 = ((X % 3 : Nat) : Int) := by rfl
          have hm2 : m ≤ 2 := by omega
          have hgl : gg.length ≤ 3 := by rw [HG.out]; simp; omega
          by_cases hml : m < X % 3
          · have j2 : (m : Int) < ((X % 3 : Nat) : Int) := by omega
            go_wp2_with fail
            all_goals first | (exfalso; simp at *; omega) | skip
            refine ⟨⟨m + 1, gg ++ [32], by omega, Lib.hid (by rw [HG.out]; exact List.replicate_succ'.symm), by go_num, str_eq (by simp), trivial⟩, ?_⟩
            first | (simp [intOf]; done) | (simp [intOf]; omega)
          · have j2 : ¬ (m : Int) < ((X % 3 : Nat) : Int) := by omega
            go_wp2_with fail
            go_at_call 5
            refine (HR.out m gg _ hm2 HG.out).mono ?_
            rintro e w5 ⟨rfl, hb5⟩
            have HB5 := Lib.hid (Below.step HB1.out hb5)
            clear hb5
            go_wp2_with fail
            go_at_call 6
            refine (HN.out m gg _ hm2 HG.out).mono ?_
            rintro e w6 ⟨rfl, hb6⟩
            have HB6 := Lib.hid (Below.step HB5.out hb6)
            clear hb6
            go_wp2_with fail
            go_ret
            exact ⟨rfl, HB6.out⟩
end Go.Proofs.Ythkiojedkafdhaa
