/- The law HeaderBack for whatever it is handed of no more than 2^47 bytes: it answers true; what was there stands. The variables ErrSyntax and ErrRange of package strconv are asked to hold errors, the table of powers of ten to be what its text says. -/
import Derived.Test.YtbmleejeffaciaaDoorHdBk0
import Derived.Test.YtbmleejeffaciaaDoorHdBk1
namespace Go.Proofs.YtbmleejeffaciaaDoor
open Go.RowKit
theorem back_any (s d p sp dp : Int) (t : ByteArray) (r : List Int) (w : World) (h : Hdr s d p sp dp) (hr : B13 r) (hlen : t.size ≤ 140737488355328) (hE : ErrV w) (hT : Tab10 w) :
    Calls Tryd.prog 5 #[.agg #[.int .u32 s, .int .u32 d, .int .u8 p, .int .u16 sp, .int .u16 dp], .string t, .agg (r.map u8V).toArray] w fun e w' => e = .returned (.bool true) ∧ Below w.heap.size w w' := by
  have hl : t.data.toList.length ≤ 140737488355328 := by rw [str_toList]; exact hlen
  cases hx : hparse t.data.toList with
  | none => have := back_none s d p sp dp t.data.toList r w h hr hl hx hE hT; rw [← all_of t] at this; exact this
  | some x => have := back_some s d p sp dp t.data.toList r w h hr hl x hx hE hT; rw [← all_of t] at this; exact this
end Go.Proofs.YtbmleejeffaciaaDoor
