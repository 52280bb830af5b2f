/- What Text, Same, cut, end and Parse of package waymarkref03 hand back. Under the conditions that they name; texts of at most 1048576 bytes. -/
import Derived.Test.YtbmleejeffaciaaDoorHdRb
import Derived.Test.YtbmleejeffaciaaDoorRPars
import Derived.Test.YtbmleejeffaciaaDoorRText
import Derived.Test.YtbmleejeffaciaaDoorHdE
import Derived.Test.YtbmleejeffaciaaDoorHdT
namespace Go.Proofs.YtbmleejeffaciaaDoor
open Go.RowKit
set_option maxRecDepth 100000 in
set_option maxHeartbeats 2000000 in
theorem sameR_is (s d p sp dp s' d' p' sp' dp' : Int) (w : World) :
    Calls Tryd.prog 15 #[.agg #[.int .u32 s, .int .u32 d, .int .u8 p, .int .u16 sp, .int .u16 dp], .agg #[.int .u32 s', .int .u32 d', .int .u8 p', .int .u16 sp', .int .u16 dp']] w fun e w' => e = .returned (.bool (decide ((s = s' ∧ d = d') ∧ p = p' ∧ sp = sp' ∧ dp = dp'))) ∧ Below w.heap.size w w' := by
  go_enter Tryd.func15, Tryd.ntmps15
  go_wp2
  all_goals
    go_ret
    exact ⟨ret_bool (by first | (simp [*]; done) | (simp [*]; rfl)), ((Below.refl _ _).alloc (Nat.le_refl _) _).alloc (by simp) _⟩
theorem rnum_any (x : Int) (u : Nat) (w : World) (h : x = (u : Int)) (hu : u < 65536) :
    Calls Tryd.prog 39 #[.int .i64 x] w fun e w' => e = .returned (.string ⟨(Lib.decDigits u).toArray⟩) ∧ Below w.heap.size w w' := by
  have hc := rnumber_is x w (by omega) (by omega)
  have e : Lib.itoa x = Lib.decDigits u := by unfold Lib.itoa; rw [if_neg (by omega)]; congr 1; omega
  rwa [e] at hc
set_option maxRecDepth 100000 in
set_option maxHeartbeats 2000000 in
theorem textR_is (s d p sp dp : Int) (w : World) (h : Hdr s d p sp dp) :
    Calls Tryd.prog 21 #[.agg #[.int .u32 s, .int .u32 d, .int .u8 p, .int .u16 sp, .int .u16 dp]] w fun e w' => e = .returned (.string ⟨(htext s d p sp dp).toArray⟩) ∧ Below w.heap.size w w' := by
  obtain ⟨hs0, hs1, hd0, hd1, hp0, hp1, hsp0, hsp1, hdp0, hdp1⟩ := h
  have HTX : Hid (htext s d p sp dp = (text s.toNat ++ 58 :: Lib.decDigits sp.toNat) ++ 32 :: ((text d.toNat ++ 58 :: Lib.decDigits dp.toNat) ++ 32 :: Lib.decDigits p.toNat)) := Lib.hid rfl
  have l0 := text_len s.toNat (by omega)
  have l1 := dec_short 4 sp.toNat (by omega)
  have l2 := text_len d.toNat (by omega)
  have l3 := dec_short 4 dp.toNat (by omega)
  have l4 := dec_short 4 p.toNat (by omega)
  have K0 : Hid (∀ W, Calls Tryd.prog 38 #[.int .u32 s] W fun e w' => e = .returned (.string ⟨(text s.toNat).toArray⟩) ∧ Below W.heap.size W w') := Lib.hid fun W => rtext_is s W hs0 hs1
  have K2 : Hid (∀ W, Calls Tryd.prog 38 #[.int .u32 d] W fun e w' => e = .returned (.string ⟨(text d.toNat).toArray⟩) ∧ Below W.heap.size W w') := Lib.hid fun W => rtext_is d W hd0 hd1
  have K1 : Hid (∀ W, Calls Tryd.prog 39 #[.int .i64 sp] W fun e w' => e = .returned (.string ⟨(Lib.decDigits sp.toNat).toArray⟩) ∧ Below W.heap.size W w') := Lib.hid fun W => rnum_any sp sp.toNat W (by omega) (by omega)
  have K3 : Hid (∀ W, Calls Tryd.prog 39 #[.int .i64 dp] W fun e w' => e = .returned (.string ⟨(Lib.decDigits dp.toNat).toArray⟩) ∧ Below W.heap.size W w') := Lib.hid fun W => rnum_any dp dp.toNat W (by omega) (by omega)
  have K4 : Hid (∀ W, Calls Tryd.prog 39 #[.int .i64 p] W fun e w' => e = .returned (.string ⟨(Lib.decDigits p.toNat).toArray⟩) ∧ Below W.heap.size W w') := Lib.hid fun W => rnum_any p p.toNat W (by omega) (by omega)
  generalize text s.toNat = d0 at *
  generalize Lib.decDigits sp.toNat = d1 at *
  generalize text d.toNat = d2 at *
  generalize Lib.decDigits dp.toNat = d3 at *
  generalize Lib.decDigits p.toNat = d4 at *
  have m1 : (9223372036854775807 < d0.length + 1) = False := by simp; omega
  have m2 : (9223372036854775807 < d0.length + 1 + d1.length) = False := by simp; omega
  have m3 : (9223372036854775807 < d0.length + 1 + d1.length + 1) = False := by simp; omega
  have m4 : (9223372036854775807 < d0.length + 1 + d1.length + 1 + d2.length) = False := by simp; omega
  have m5 : (9223372036854775807 < d0.length + 1 + d1.length + 1 + d2.length + 1) = False := by simp; omega
  have m6 : (9223372036854775807 < d0.length + 1 + d1.length + 1 + d2.length + 1 + d3.length) = False := by simp; omega
  have m7 : (9223372036854775807 < d0.length + 1 + d1.length + 1 + d2.length + 1 + d3.length + 1) = False := by simp; omega
  have m8 : (9223372036854775807 < d0.length + 1 + d1.length + 1 + d2.length + 1 + d3.length + 1 + d4.length) = False := by simp; omega
  clear l0 l1 l2 l3 l4
  go_enter Tryd.func21, Tryd.ntmps21
  go_wp2_with fail
  refine wp_region_grows (by kernel_rfl) (by kernel_rfl) ?_
  refine grows_fact w.heap.size 0 (.int .u32 s) (by go_simp) (by simp) fun r0 => ?_
  refine grows_fact w.heap.size 1 (.int .u32 d) (by go_simp) (by simp) fun r1 => ?_
  refine grows_fact w.heap.size 2 (.int .u8 p) (by go_simp) (by simp) fun r2 => ?_
  refine grows_fact w.heap.size 3 (.int .u16 sp) (by go_simp) (by simp) fun r3 => ?_
  refine grows_fact w.heap.size 4 (.int .u16 dp) (by go_simp) (by simp) fun r4 => ?_
  repeat (go_big_quiet_step ((first | (go_at_call 38; with_reducible exact Calls.grows_of (K0.out _)) | (go_at_call 38; with_reducible exact Calls.grows_of (K2.out _)) | (go_at_call 39; with_reducible exact Calls.grows_of (K1.out _)) | (go_at_call 39; with_reducible exact Calls.grows_of (K3.out _)) | (go_at_call 39; with_reducible exact Calls.grows_of (K4.out _)))))
  refine wpQuiet_nil ?_
  rintro wB ⟨⟨_, hswB⟩, rfl⟩
  clear r0 r1 r2 r3 r4
  go_wp2
  go_ret
  refine ⟨ret_str (WideShapes.bytes_inj ?_), Below.step ((Below.refl _ _).alloc (Nat.le_refl _) _) hswB⟩
  rw [HTX.out]
  simp
/-- What cut hands back of a text. -/
def rcut (l : List UInt8) (c : UInt8) : List UInt8 × List UInt8 × Bool := if (cut1 l c).2.2 = true then cut1 l c else ([], [], false)
theorem rcut_none {l : List UInt8} {c : UInt8} (h : c ∉ l) : rcut l c = ([], [], false) := by
  unfold rcut; rw [cut1_none l c h]; rfl
theorem rcut_at {l : List UInt8} {c : UInt8} {k : Nat} (h : k < l.length) (hc : l[k] = c) (hno : c ∉ l.take k) : rcut l c = (l.take k, l.drop (k + 1), true) := by
  have e : l = l.take k ++ c :: l.drop (k + 1) := by
    conv => lhs; rw [← List.take_append_drop k l, List.drop_eq_getElem_cons h, hc]
  have h2 : cut1 l c = (l.take k, l.drop (k + 1), true) := by
    conv => lhs; rw [e]
    exact cut1_mk _ _ c hno
  unfold rcut; rw [h2]; rfl
set_option maxRecDepth 100000 in
set_option maxHeartbeats 1000000 in
theorem cutR_is (s : ByteArray) (c : UInt8) (C : Int) (hC : C = (c.toNat : Int)) (w : World) (hs : s.size ≤ 9223372036854775806) :
    Calls Tryd.prog 33 #[.string s, .int .u8 C] w fun e w' => e = .returned (.tuple #[.string ⟨(rcut s.data.toList c).1.toArray⟩, .string ⟨(rcut s.data.toList c).2.1.toArray⟩, .bool (rcut s.data.toList c).2.2]) ∧ Below w.heap.size w w' := by
  subst hC
  go_enter Tryd.func33, Tryd.ntmps33
  go_wp2_with fail
  go_loop [7] (fun s7 => ∃ k : Nat, k ≤ s.size ∧ s7 = .int .i64 k ∧ Hid (c ∉ s.data.toList.take k)) (fun s7 => s.size - (intOf s7).toNat)
  case atStart => exact ⟨0, by omega, rfl, Lib.hid (by simp)⟩
  case round =>
    obtain ⟨k, hk, rfl, HN⟩ := hrel
    by_cases hlt : k < s.size
    · have hkl : k < s.data.toList.length := by rw [str_toList]; exact hlt
      have hget := get_at s k hlt hkl
      by_cases hc : s[k]'hlt = c
      · have H := Lib.hid (rcut_at hkl (hget.trans hc) HN.out)
        have hc1 : (((s[k]'hlt).toNat : Int) == (c.toNat : Int)) = true := by rw [hc]; simp
        clear hget hc
        go_wp2_with fail
        go_quiet (fail)
        go_wp2
        go_ret3
        exact ⟨ret_cut (by rw [H.out, ext_take]) (by rw [H.out, ext_drop]) (by rw [H.out]), Below.draws (Below.refl _ _) _⟩
      · have hc1 : (((s[k]'hlt).toNat : Int) == (c.toNat : Int)) = false := by
          simp only [beq_eq_false_iff_ne, ne_eq]
          exact fun h => hc (UInt8.toNat_inj.mp (by omega))
        have HN2 : Hid (c ∉ s.data.toList.take (k + 1)) := Lib.hid (by
          rw [List.take_succ_eq_append_getElem hkl, hget]
          simp only [List.mem_append, List.mem_singleton, not_or]
          exact ⟨HN.out, fun h => hc h.symm⟩)
        clear hget hc
        go_wp2_with fail
        go_round
        case rel => exact ⟨k + 1, by omega, by go_num, HN2⟩
        case measure => first | (simp [intOf]; done) | (simp [intOf]; omega)
    · obtain rfl : k = s.size := by omega
      have H : Hid (rcut s.data.toList c = ([], [], false)) := Lib.hid (rcut_none (by have := HN.out; rwa [List.take_of_length_le (by rw [str_toList]; omega)] at this))
      clear hlt
      go_wp2_with fail
      go_ret3
      exact ⟨ret_cut (by rw [H.out]) (by rw [H.out]) (by rw [H.out]), Below.refl _ _⟩
end Go.Proofs.YtbmleejeffaciaaDoor
