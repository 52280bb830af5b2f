/- What Text of package header hands back. The table of powers of ten of package strconv is asked to be what its text says. -/
import Derived.Test.YtbmleejeffaciaaDoorHdE
import Derived.Test.YtbmleejeffaciaaDoorText
namespace Go.Proofs.YtbmleejeffaciaaDoor
open Go.RowKit
/-- An address's and a port's text. -/
def endText (a n : Nat) : List UInt8 := text a ++ 58 :: Lib.decDigits n
/-- A header's text. -/
def htext (s d p sp dp : Int) : List UInt8 := endText s.toNat sp.toNat ++ 32 :: (endText d.toNat dp.toNat ++ 32 :: Lib.decDigits p.toNat)
theorem endText_len (a n : Nat) (ha : a < 4294967296) (hn : n < 65536) : (endText a n).length ≤ 1050 := by
  have h1 := text_len a ha
  have h2 := dec_short 4 n (by omega)
  unfold endText
  simp only [List.length_append, List.length_cons]
  omega
theorem cat_bytes (a b : List UInt8) : (⟨a.toArray⟩ : ByteArray) ++ ⟨b.toArray⟩ = ⟨(a ++ b).toArray⟩ := by
  apply ByteArray.ext
  simp [ByteArray.data_append]
set_option maxRecDepth 100000 in
set_option maxHeartbeats 2000000 in
theorem endText_is (a n : Int) (w : World) (a0 : 0 ≤ a) (a1 : a < 4294967296) (n0 : 0 ≤ n) (n1 : n < 65536) (hT : Tab10 w) :
    Calls Tryd.prog 36 #[.int .u32 a, .int .u16 n] w fun e w' => e = .returned (.string ⟨(endText a.toNat n.toNat).toArray⟩) ∧ Below w.heap.size w w' := by
  have HT := Lib.hid hT
  clear hT
  have hl1 := text_len a.toNat (by omega)
  have hl2 := itoa_len n (by omega) (by omega)
  have hL1 : (9223372036854775807 < (text a.toNat).length + 1) = False := by simp; omega
  have hL2 : (9223372036854775807 < (text a.toNat).length + 1 + (Lib.itoa n).length) = False := by simp; omega
  clear hl1 hl2
  have hn : Hid (Lib.itoa n = Lib.decDigits n.toNat) := Lib.hid (by
    obtain ⟨N, rfl⟩ := Int.eq_ofNat_of_zero_le n0
    rw [Lib.itoa_nonneg]; rfl)
  go_enter Tryd.func36, Tryd.ntmps36
  go_wp2_with fail
  go_at_call 46
  refine (text_is a _ a0 a1 HT.out).mono ?_
  rintro e w1 ⟨rfl, hb1⟩
  go_wp2_with fail
  go_at_call 37
  refine (itoa_is n _ (by omega) (by omega) (HT.out.on hb1)).mono ?_
  rintro e w2 ⟨rfl, hb2⟩
  go_wp2
  go_ret
  refine ⟨ret_str (WideShapes.bytes_inj ?_), Below.step hb1 hb2⟩
  rw [hn.out]
  simp [endText]
set_option maxRecDepth 100000 in
set_option maxHeartbeats 4000000 in
theorem htext_is (s d p sp dp : Int) (w : World) (h : Hdr s d p sp dp) (hT : Tab10 w) :
    Calls Tryd.prog 20 #[.agg #[.int .u32 s, .int .u32 d, .int .u8 p, .int .u16 sp, .int .u16 dp]] w fun e w' => e = .returned (.string ⟨(htext s d p sp dp).toArray⟩) ∧ Below w.heap.size w w' := by
  obtain ⟨hs0, hs1, hd0, hd1, hp0, hp1, hsp0, hsp1, hdp0, hdp1⟩ := h
  have hT0 : Tab10 (w.alloc (.cells #[.int .u32 s, .int .u32 d, .int .u8 p, .int .u16 sp, .int .u16 dp] 27)) := hT.on ((Below.refl _ _).alloc (Nat.le_refl _) _)
  have HT := Lib.hid hT0
  have HTX : Hid (htext s d p sp dp = endText s.toNat sp.toNat ++ 32 :: (endText d.toNat dp.toNat ++ 32 :: Lib.decDigits p.toNat)) := Lib.hid rfl
  have hl1 := endText_len s.toNat sp.toNat (by omega) (by omega)
  have hl2 := endText_len d.toNat dp.toNat (by omega) (by omega)
  have hl3 := itoa_len p (by omega) (by omega)
  obtain ⟨E1, hE1⟩ : ∃ E, endText s.toNat sp.toNat = E := ⟨_, rfl⟩
  obtain ⟨E2, hE2⟩ : ∃ E, endText d.toNat dp.toNat = E := ⟨_, rfl⟩
  have K1 : Hid (∀ W, Tab10 W → Calls Tryd.prog 36 #[.int .u32 s, .int .u16 sp] W fun e w' => e = .returned (.string ⟨E1.toArray⟩) ∧ Below W.heap.size W w') := Lib.hid fun W hW => by rw [← hE1]; exact endText_is s sp W hs0 hs1 hsp0 hsp1 hW
  have K2 : Hid (∀ W, Tab10 W → Calls Tryd.prog 36 #[.int .u32 d, .int .u16 dp] W fun e w' => e = .returned (.string ⟨E2.toArray⟩) ∧ Below W.heap.size W w') := Lib.hid fun W hW => by rw [← hE2]; exact endText_is d dp W hd0 hd1 hdp0 hdp1 hW
  rw [hE1] at hl1 HTX
  rw [hE2] at hl2 HTX
  have hL1 : (9223372036854775807 < E1.length + 1) = False := by simp; omega
  have hL2 : (9223372036854775807 < E1.length + 1 + E2.length) = False := by simp; omega
  have hL3 : (9223372036854775807 < E1.length + 1 + E2.length + 1) = False := by simp; omega
  have hL4 : (9223372036854775807 < E1.length + 1 + E2.length + 1 + (Lib.itoa p).length) = False := by simp; omega
  have hn : Hid (Lib.itoa p = Lib.decDigits p.toNat) := Lib.hid (by
    obtain ⟨N, rfl⟩ := Int.eq_ofNat_of_zero_le hp0
    rw [Lib.itoa_nonneg]; rfl)
  clear hl1 hl2 hl3 hE1 hE2 hT0 hT
  go_enter Tryd.func20, Tryd.ntmps20
  go_wp2_with fail
  refine wp_region_grows (by kernel_rfl) (by kernel_rfl) ?_
  refine grows_fact w.heap.size 0 (.int .u32 s) (by go_simp) (by simp) fun r0 => ?_
  refine grows_fact w.heap.size 1 (.int .u32 d) (by go_simp) (by simp) fun r1 => ?_
  refine grows_fact w.heap.size 2 (.int .u8 p) (by go_simp) (by simp) fun r2 => ?_
  refine grows_fact w.heap.size 3 (.int .u16 sp) (by go_simp) (by simp) fun r3 => ?_
  refine grows_fact w.heap.size 4 (.int .u16 dp) (by go_simp) (by simp) fun r4 => ?_
  repeat (go_big_quiet_step ((first | (go_at_call 36; with_reducible exact Calls.grows_of (K1.out _ (HT.out.on (Grows.below _)))) | (go_at_call 36; with_reducible exact Calls.grows_of (K2.out _ (HT.out.on (Grows.below _)))) | (go_at_call 37; with_reducible exact Calls.grows_of (itoa_is p _ (by omega) (by omega) (HT.out.on (Grows.below _)))))))
  refine wpQuiet_nil ?_
  rintro wB ⟨⟨_, hswB⟩, rfl⟩
  clear r0 r1 r2 r3 r4
  go_wp2
  go_ret
  refine ⟨ret_str (WideShapes.bytes_inj ?_), Below.step ((Below.refl _ _).alloc (Nat.le_refl _) _) hswB⟩
  rw [HTX.out, hn.out]
  simp
end Go.Proofs.YtbmleejeffaciaaDoor
