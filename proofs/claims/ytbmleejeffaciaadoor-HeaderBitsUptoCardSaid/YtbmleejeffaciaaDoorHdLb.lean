/- The law HeaderBits for whatever it is handed with a text of at most 1048576 bytes: it answers true; what was there stands. The variables ErrSyntax and ErrRange of package strconv are asked to hold errors, the table of powers of ten to be what its text says. -/
import Derived.Test.YtbmleejeffaciaaDoorHdLw
import Derived.Test.YtbmleejeffaciaaDoorHdRp
import Derived.Test.YtbmleejeffaciaaDoorHdRc
import Derived.Test.YtbmleejeffaciaaDoorHdRy
import Derived.Test.YtbmleejeffaciaaDoorHdRe
import Derived.Test.YtbmleejeffaciaaDoorHdNo
import Derived.Test.YtbmleejeffaciaaDoorHdW
import Derived.Test.YtbmleejeffaciaaDoorHdC
namespace Go.Proofs.YtbmleejeffaciaaDoor
open Go.RowKit
theorem bit_ways (s d p sp dp i : Int) (bit : Bool) (h : Hdr s d p sp dp) : ∃ (x : Bool) (E G c0 c1 c2 c3 c4 : Int),
    (∀ W, Calls Tryd.prog 12 #[.agg #[.int .u32 s, .int .u32 d, .int .u8 p, .int .u16 sp, .int .u16 dp], .int .i64 i] W fun e w' => e = .returned (.tuple #[.bool x, .int .i64 E]) ∧ Below W.heap.size W w') ∧ (∀ W, Calls Tryd.prog 13 #[.agg #[.int .u32 s, .int .u32 d, .int .u8 p, .int .u16 sp, .int .u16 dp], .int .i64 i] W fun e w' => e = .returned (.tuple #[.bool x, .int .i64 E]) ∧ Below W.heap.size W w') ∧
    (∀ W, Calls Tryd.prog 8 #[.agg #[.int .u32 s, .int .u32 d, .int .u8 p, .int .u16 sp, .int .u16 dp], .int .i64 i, .bool bit] W fun e w' => e = .returned (.tuple #[.agg #[.int .u32 c0, .int .u32 c1, .int .u8 c2, .int .u16 c3, .int .u16 c4], .int .i64 G]) ∧ Below W.heap.size W w') ∧ (∀ W, Calls Tryd.prog 14 #[.agg #[.int .u32 s, .int .u32 d, .int .u8 p, .int .u16 sp, .int .u16 dp], .int .i64 i, .bool bit] W fun e w' => e = .returned (.tuple #[.agg #[.int .u32 c0, .int .u32 c1, .int .u8 c2, .int .u16 c3, .int .u16 c4], .int .i64 G]) ∧ Below W.heap.size W w') := by
  by_cases hi : i < 0 ∨ 104 ≤ i
  · exact ⟨false, 1, 1, 0, 0, 0, 0, 0, fun W => bit_no s d p sp dp i hi W, fun W => bitR_no s d p sp dp i hi W, fun W => with_no s d p sp dp i bit hi W, fun W => withR_no s d p sp dp i bit hi W⟩
  · obtain ⟨I, rfl⟩ := Int.eq_ofNat_of_zero_le (show 0 ≤ i by omega)
    have hI : I < 104 := by omega
    obtain ⟨f0, f1, f2, f3, f4, hf⟩ := ofL_form (wb (byL s d p sp dp) I bit)
    refine ⟨tb (byL s d p sp dp) I, 0, 0, f0, f1, f2, f3, f4, fun W => bit_is s d p sp dp I hI W h, fun W => bitR_is s d p sp dp I hI W h, fun W => ?_, fun W => ?_⟩
    · rw [← hf]; exact with_is s d p sp dp I bit hI W h
    · rw [← hf]; exact withR_is s d p sp dp I bit hI W h
theorem nextV_form (N : Nat) : ∃ n0 n1 n2 n3 n4 J : Int, nextV N = .tuple #[.agg #[.int .u32 n0, .int .u32 n1, .int .u8 n2, .int .u16 n3, .int .u16 n4], .int .i64 J] := by
  unfold nextV
  split
  · exact ⟨_, _, _, _, _, _, rfl⟩
  · exact ⟨_, _, _, _, _, _, rfl⟩
theorem HpVal_form (o : Option (Nat × Nat × Nat × Nat × Nat)) : ∃ n0 n1 n2 n3 n4 J : Int, HpVal o = .tuple #[.agg #[.int .u32 n0, .int .u32 n1, .int .u8 n2, .int .u16 n3, .int .u16 n4], .int .i64 J] := by
  cases o <;> exact ⟨_, _, _, _, _, _, rfl⟩
theorem row13_form {l : List Int} (h : B13 l) : ∃ x0 x1 x2 x3 x4 x5 x6 x7 x8 x9 x10 x11 x12 : Int, (l.map u8V).toArray = #[.int .u8 x0, .int .u8 x1, .int .u8 x2, .int .u8 x3, .int .u8 x4, .int .u8 x5, .int .u8 x6, .int .u8 x7, .int .u8 x8, .int .u8 x9, .int .u8 x10, .int .u8 x11, .int .u8 x12] := by
  obtain ⟨hl, _, _⟩ := h
  match l, hl with
  | [x0, x1, x2, x3, x4, x5, x6, x7, x8, x9, x10, x11, x12], _ => exact ⟨x0, x1, x2, x3, x4, x5, x6, x7, x8, x9, x10, x11, x12, rfl⟩
theorem bits_any (s d p sp dp s' d' p' sp' dp' i : Int) (bit : Bool) (r : List Int) (tt : ByteArray) (w : World) (h : Hdr s d p sp dp) (h' : Hdr s' d' p' sp' dp') (hr : B13 r) (hsz : tt.size ≤ 1048576) (hE : ErrV w) (hT : Tab10 w) :
    Calls Tryd.prog 4 #[.agg #[.int .u32 s, .int .u32 d, .int .u8 p, .int .u16 sp, .int .u16 dp], .agg #[.int .u32 s', .int .u32 d', .int .u8 p', .int .u16 sp', .int .u16 dp'], .int .i64 i, .bool bit, .agg (r.map u8V).toArray, .string tt] w fun e w' => e = .returned (.bool true) ∧ Below w.heap.size w w' := by
  obtain ⟨x, E, G, c0, c1, c2, c3, c4, k1, k2, k3, k4⟩ := bit_ways s d p sp dp i bit h
  obtain ⟨n0, n1, n2, n3, n4, J, hn⟩ := nextV_form (V (byL s d p sp dp))
  obtain ⟨q0, q1, q2, q3, q4, K, hq⟩ := HpVal_form (hparse tt.data.toList)
  obtain ⟨o0, o1, o2, o3, o4, ho⟩ := ofL_form r
  obtain ⟨x0, x1, x2, x3, x4, x5, x6, x7, x8, x9, x10, x11, x12, hX⟩ := row13_form hr
  obtain ⟨y0, y1, y2, y3, y4, y5, y6, y7, y8, y9, y10, y11, y12, hY⟩ := row13_form (byL_13 h)
  have hlen : tt.data.toList.length ≤ 1048576 := by rw [str_toList]; exact hsz
  have hA := byL_13 h
  have KN : ∀ W, Calls Tryd.prog 11 #[.agg #[.int .u32 s, .int .u32 d, .int .u8 p, .int .u16 sp, .int .u16 dp]] W fun e w' => e = .returned (nextV (V (byL s d p sp dp))) ∧ Below W.heap.size W w' := fun W => (next_is s d p sp dp W h).mono fun e w' hp => ⟨next_v hA hp, hp.1⟩
  have KNr : ∀ W, Calls Tryd.prog 18 #[.agg #[.int .u32 s, .int .u32 d, .int .u8 p, .int .u16 sp, .int .u16 dp]] W fun e w' => e = .returned (nextV (V (byL s d p sp dp))) ∧ Below W.heap.size W w' := fun W => nextR_is s d p sp dp W h
  have KP : ∀ W, Below w.heap.size w W → Calls Tryd.prog 10 #[.string tt] W fun e w' => e = .returned (HpVal (hparse tt.data.toList)) ∧ Below W.heap.size W w' := fun W hb => by
    have := hparse_is tt.data.toList (by omega) W (hE.on hb) (hT.on hb)
    rwa [← all_of tt] at this
  have KPr : ∀ W, Calls Tryd.prog 19 #[.string tt] W fun e w' => e = .returned (HpVal (hparse tt.data.toList)) ∧ Below W.heap.size W w' := fun W => by
    have := parseR_is tt.data.toList hlen W
    rwa [← all_of tt] at this
  have KO : ∀ W, Calls Tryd.prog 24 #[.agg (r.map u8V).toArray] W fun e w' => e = .returned (ofL r) ∧ Below W.heap.size W w' := fun W => of_l r W hr
  have KOr : ∀ W, Calls Tryd.prog 25 #[.agg (r.map u8V).toArray] W fun e w' => e = .returned (ofL r) ∧ Below W.heap.size W w' := fun W => ofR_is r W hr
  have KY : ∀ W, Calls Tryd.prog 22 #[.agg #[.int .u32 s, .int .u32 d, .int .u8 p, .int .u16 sp, .int .u16 dp]] W fun e w' => e = .returned (.agg ((byL s d p sp dp).map u8V).toArray) ∧ Below W.heap.size W w' := fun W => bytes_l s d p sp dp W h
  have KYr : ∀ W, Calls Tryd.prog 23 #[.agg #[.int .u32 s, .int .u32 d, .int .u8 p, .int .u16 sp, .int .u16 dp]] W fun e w' => e = .returned (.agg ((byL s d p sp dp).map u8V).toArray) ∧ Below W.heap.size W w' := fun W => bytesR_is s d p sp dp W h
  rw [hn] at KN KNr
  rw [hq] at KP KPr
  rw [ho, hX] at KO KOr
  rw [hY] at KY KYr
  rw [hX]
  exact law_is s d p sp dp s' d' p' sp' dp' i bit x0 x1 x2 x3 x4 x5 x6 x7 x8 x9 x10 x11 x12 tt w E G J K x (cmpH (byL s d p sp dp) (byL s' d' p' sp' dp')) c0 c1 c2 c3 c4 n0 n1 n2 n3 n4 q0 q1 q2 q3 q4 o0 o1 o2 o3 o4 y0 y1 y2 y3 y4 y5 y6 y7 y8 y9 y10 y11 y12 ⟨(htext s d p sp dp).toArray⟩
    k1 k2 k3 k4 (fun W => cmp_is s d p sp dp s' d' p' sp' dp' W h h') (fun W => cmpR_is s d p sp dp s' d' p' sp' dp' W h h') KN KNr KP KPr (fun W hb => htext_is s d p sp dp W h (hT.on hb)) (fun W => textR_is s d p sp dp W h) KY KYr KO KOr
end Go.Proofs.YtbmleejeffaciaaDoor
