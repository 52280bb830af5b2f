/- The law HeaderOrder: whatever headers and number it is handed it answers true; what was there stands. The variables ErrSyntax and ErrRange of package strconv are asked to hold errors, the table of powers of ten to be what its text says. -/
import Derived.Test.YtbmleejeffaciaaDoorHdO00
import Derived.Test.YtbmleejeffaciaaDoorHdO01
import Derived.Test.YtbmleejeffaciaaDoorHdO10
import Derived.Test.YtbmleejeffaciaaDoorHdO11
import Derived.Test.YtbmleejeffaciaaDoorHdO20
import Derived.Test.YtbmleejeffaciaaDoorHdO21
namespace Go.Proofs.YtbmleejeffaciaaDoor
open Go.RowKit
theorem order_is (x : Bool) (s d p sp dp s' d' p' sp' dp' i : Int) (I : Nat) (hI : I < 104) (hIw : wrap64 ((IntKind.u64.wrap i).tmod 104) = (I : Int)) (hx : tb (byL s d p sp dp) I = x) (w : World) (h : Hdr s d p sp dp) (h' : Hdr s' d' p' sp' dp') (hE : ErrV w) (hT : Tab10 w) :
    Calls Tryd.prog 6 #[.agg #[.int .u32 s, .int .u32 d, .int .u8 p, .int .u16 sp, .int .u16 dp], .agg #[.int .u32 s', .int .u32 d', .int .u8 p', .int .u16 sp', .int .u16 dp'], .int .i64 i] w fun e w' => e = .returned (.bool true) ∧ Below w.heap.size w w' := by
  have hk : cmpH (byL s d p sp dp) (byL s' d' p' sp' dp') = -1 ∨ cmpH (byL s d p sp dp) (byL s' d' p' sp' dp') = 0 ∨ cmpH (byL s d p sp dp) (byL s' d' p' sp' dp') = 1 := by
    obtain ⟨m, m', sb, hm, _, _, hw⟩ := ways_of h h'
    rw [hm]
    rcases hw with ⟨h0, _⟩ | ⟨h0, _⟩ | ⟨h0, _⟩
    · exact .inl h0
    · exact .inr (.inl h0)
    · exact .inr (.inr h0)
  cases x with
  | false =>
    rcases hk with hk | hk | hk
    · exact order_00 s d p sp dp s' d' p' sp' dp' i I hI hIw hx hk w h h' hE hT
    · exact order_10 s d p sp dp s' d' p' sp' dp' i I hI hIw hx hk w h h' hE hT
    · exact order_20 s d p sp dp s' d' p' sp' dp' i I hI hIw hx hk w h h' hE hT
  | true =>
    rcases hk with hk | hk | hk
    · exact order_01 s d p sp dp s' d' p' sp' dp' i I hI hIw hx hk w h h' hE hT
    · exact order_11 s d p sp dp s' d' p' sp' dp' i I hI hIw hx hk w h h' hE hT
    · exact order_21 s d p sp dp s' d' p' sp' dp' i I hI hIw hx hk w h h' hE hT
end Go.Proofs.YtbmleejeffaciaaDoor
