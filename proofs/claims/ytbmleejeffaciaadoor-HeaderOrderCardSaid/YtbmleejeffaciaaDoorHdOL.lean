/- The law HeaderOrder for whatever it is handed. The variables ErrSyntax and ErrRange of package strconv are asked to hold errors, the table of powers of ten to be what its text says. -/
import Derived.Test.YtbmleejeffaciaaDoorHdO
namespace Go.Proofs.YtbmleejeffaciaaDoor
open Go.RowKit
theorem order_any (s d p sp dp s' d' p' sp' dp' i : Int) (w : World) (h : Hdr s d p sp dp) (h' : Hdr s' d' p' sp' dp') (hE : ErrV w) (hT : Tab10 w) :
    Calls Tryd.prog 6 #[.agg #[.int .u32 s, .int .u32 d, .int .u8 p, .int .u16 sp, .int .u16 dp], .agg #[.int .u32 s', .int .u32 d', .int .u8 p', .int .u16 sp', .int .u16 dp'], .int .i64 i] w fun e w' => e = .returned (.bool true) ∧ Below w.heap.size w w' := by
  obtain ⟨I, hI, hIw⟩ := wrap_104 i
  exact order_is _ s d p sp dp s' d' p' sp' dp' i I hI hIw rfl w h h' hE hT
end Go.Proofs.YtbmleejeffaciaaDoor
