/- What HeaderNames asks of single headers and texts: With at the first bits, Parse at four texts that are none, Next at three headers. No condition; ErrSyntax, ErrRange and the table of powers of ten as HdP has them, for Parse. -/
import Derived.Test.YtbmleejeffaciaaDoorHdNo
import Derived.Test.YtbmleejeffaciaaDoorHdW
import Derived.Test.YtbmleejeffaciaaDoorHdN
import Derived.Test.YtbmleejeffaciaaDoorHdH
namespace Go.Proofs.YtbmleejeffaciaaDoor
open Go.RowKit
theorem hdr0 : Hdr 0 0 0 0 0 := by constructor <;> decide
theorem w_0 : ofL (wb (byL 0 0 0 0 0) 0 true) = .agg #[.int .u32 2147483648, .int .u32 0, .int .u8 0, .int .u16 0, .int .u16 0] := by kernel_rfl
theorem w_32 : ofL (wb (byL 0 0 0 0 0) 32 true) = .agg #[.int .u32 0, .int .u32 2147483648, .int .u8 0, .int .u16 0, .int .u16 0] := by kernel_rfl
theorem w_64 : ofL (wb (byL 0 0 0 0 0) 64 true) = .agg #[.int .u32 0, .int .u32 0, .int .u8 128, .int .u16 0, .int .u16 0] := by kernel_rfl
theorem w_72 : ofL (wb (byL 0 0 0 0 0) 72 true) = .agg #[.int .u32 0, .int .u32 0, .int .u8 0, .int .u16 32768, .int .u16 0] := by kernel_rfl
theorem w_88 : ofL (wb (byL 0 0 0 0 0) 88 true) = .agg #[.int .u32 0, .int .u32 0, .int .u8 0, .int .u16 0, .int .u16 32768] := by kernel_rfl
theorem w_103 : ofL (wb (byL 0 0 0 0 0) 103 true) = .agg #[.int .u32 0, .int .u32 0, .int .u8 0, .int .u16 0, .int .u16 1] := by kernel_rfl
/-- The four texts. -/
def t0 : List UInt8 := [49, 48, 46, 48, 46, 48, 46, 49, 58, 48, 49, 48, 50, 52, 32, 49, 48, 46, 48, 46, 48, 46, 50, 58, 56, 48, 32, 54]
def t1 : List UInt8 := [49, 48, 46, 48, 46, 48, 46, 49, 58, 49, 48, 50, 52, 32, 49, 48, 46, 48, 46, 48, 46, 50, 58, 56, 48, 32, 48, 54]
def t2 : List UInt8 := [49, 48, 46, 48, 46, 48, 46, 49, 58, 49, 48, 50, 52, 32, 32, 49, 48, 46, 48, 46, 48, 46, 50, 58, 56, 48, 32, 54]
def t3 : List UInt8 := [49, 48, 46, 48, 46, 48, 46, 49, 58, 43, 49, 32, 49, 48, 46, 48, 46, 48, 46, 50, 58, 56, 48, 32, 54]
set_option maxRecDepth 100000 in
theorem t0_no : hparse t0 = none := by decide +kernel
set_option maxRecDepth 100000 in
theorem t1_no : hparse t1 = none := by decide +kernel
set_option maxRecDepth 100000 in
theorem t2_no : hparse t2 = none := by decide +kernel
set_option maxRecDepth 100000 in
theorem t3_no : hparse t3 = none := by decide +kernel
theorem nfar : byL 16777215 4294967295 255 65535 65535 = [0, 255, 255, 255, 255, 255, 255, 255, 255, 255, 255, 255, 255] := by decide
theorem nall : byL 4294967295 4294967295 255 65535 65535 = [255, 255, 255, 255, 255, 255, 255, 255, 255, 255, 255, 255, 255] := by decide
theorem n78 : byL 0 0 0 7 65535 = [0, 0, 0, 0, 0, 0, 0, 0, 0, 0, 7, 255, 255] := by decide -- 7 = 0x0007
theorem next_far (w : World) : Calls Tryd.prog 11 #[.agg #[.int .u32 16777215, .int .u32 4294967295, .int .u8 255, .int .u16 65535, .int .u16 65535]] w fun e w' => e = .returned (.tuple #[.agg #[.int .u32 16777216, .int .u32 0, .int .u8 0, .int .u16 0, .int .u16 0], .int .i64 0]) ∧ Below w.heap.size w w' :=
  (next_is 16777215 4294967295 255 65535 65535 w (by constructor <;> decide)).mono fun e w' h => by
    obtain ⟨hb, h⟩ := h
    rw [nfar] at h
    refine ⟨?_, hb⟩
    rcases h with ⟨k, q, y, hk, hq, _, hy, _, y1, rfl⟩ | ⟨h, _⟩
    · have : q = 0 ∨ q = 1 ∨ q = 2 ∨ q = 3 ∨ q = 4 ∨ q = 5 ∨ q = 6 ∨ q = 7 ∨ q = 8 ∨ q = 9 ∨ q = 10 ∨ q = 11 ∨ q = 12 := by omega
      rcases this with rfl | rfl | rfl | rfl | rfl | rfl | rfl | rfl | rfl | rfl | rfl | rfl | rfl <;> simp at hy <;> subst hy <;> first | (exfalso; omega) | skip
      obtain rfl : k = 12 := by omega
      show _ = _
      kernel_rfl
    · have := h 0 (by decide)
      simp at this
theorem next_all (w : World) : Calls Tryd.prog 11 #[.agg #[.int .u32 4294967295, .int .u32 4294967295, .int .u8 255, .int .u16 65535, .int .u16 65535]] w fun e w' => e = .returned (.tuple #[.agg #[.int .u32 0, .int .u32 0, .int .u8 0, .int .u16 0, .int .u16 0], .int .i64 5]) ∧ Below w.heap.size w w' :=
  (next_is 4294967295 4294967295 255 65535 65535 w (by constructor <;> decide)).mono fun e w' h => by
    obtain ⟨hb, h⟩ := h
    rw [nall] at h
    refine ⟨?_, hb⟩
    rcases h with ⟨k, q, y, hk, hq, _, hy, _, y1, rfl⟩ | ⟨_, rfl⟩
    · exfalso
      have : q = 0 ∨ q = 1 ∨ q = 2 ∨ q = 3 ∨ q = 4 ∨ q = 5 ∨ q = 6 ∨ q = 7 ∨ q = 8 ∨ q = 9 ∨ q = 10 ∨ q = 11 ∨ q = 12 := by omega
      rcases this with rfl | rfl | rfl | rfl | rfl | rfl | rfl | rfl | rfl | rfl | rfl | rfl | rfl <;> simp at hy <;> subst hy <;> omega
    · rfl
theorem next_78 (w : World) : Calls Tryd.prog 11 #[.agg #[.int .u32 0, .int .u32 0, .int .u8 0, .int .u16 7, .int .u16 65535]] w fun e w' => e = .returned (.tuple #[.agg #[.int .u32 0, .int .u32 0, .int .u8 0, .int .u16 8, .int .u16 0], .int .i64 0]) ∧ Below w.heap.size w w' :=
  (next_is 0 0 0 7 65535 w (by constructor <;> decide)).mono fun e w' h => by
    obtain ⟨hb, h⟩ := h
    rw [n78] at h
    refine ⟨?_, hb⟩
    rcases h with ⟨k, q, y, hk, hq, hf, hy, _, y1, rfl⟩ | ⟨h, _⟩
    · have : q = 12 ∨ q = 11 ∨ q = 10 ∨ q < 10 := by omega
      rcases this with rfl | rfl | rfl | hlt
      · simp at hy; subst hy; omega
      · simp at hy; subst hy; omega
      · simp at hy; subst hy
        obtain rfl : k = 2 := by omega
        show _ = _
        kernel_rfl
      · have := hf 10 (by omega) (by decide)
        simp at this
    · have := h 0 (by decide)
      simp at this
end Go.Proofs.YtbmleejeffaciaaDoor
