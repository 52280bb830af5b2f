/- The law LexWords for whatever it is handed of at most 2^48 bytes: it answers true; what was there stands. The variables ErrSyntax and ErrRange of package strconv are asked to hold errors, the table of powers of ten to be what its text says. -/
import Derived.Test.YtmhaejagbjmocaaDoorLxA
import Derived.Test.YtmhaejagbjmocaaDoorLxN
namespace Go.Proofs.YtmhaejagbjmocaaDoor
open Go.RowKit
set_option maxRecDepth 100000 in
set_option maxHeartbeats 2000000 in
theorem words_is (s : ByteArray) (most : Int) (hs : s.size ≤ 281474976710656) (w : World) (hE : ErrV w) (hT : Tab10 w) :
    Calls Tryd.prog 3 #[.string s, .int .i64 most] w fun e w' => e = .returned (.bool true) ∧ Below w.heap.size w w' := by
  have H1 := Lib.hid (number_is s most hs w hE hT)
  have H2 := Lib.hid (fun W => rnum_is s most hs W)
  have H3 := Lib.hid (fun W => name_is s W (by omega))
  have H4 := Lib.hid (fun W => rname_is s W (by omega))
  obtain ⟨a, ha⟩ : ∃ a, numI (numOf s.data.toList most) = a := ⟨_, rfl⟩
  obtain ⟨b, hb⟩ : ∃ b, (numOf s.data.toList most).isSome = b := ⟨_, rfl⟩
  obtain ⟨c, hc⟩ : ∃ c, nameB s.data.toList = c := ⟨_, rfl⟩
  have hv : NVal (numOf s.data.toList most) = .tuple #[.int .i64 a, .bool b] := by unfold NVal; rw [ha, hb]
  rw [hv] at H1 H2
  rw [hc] at H3 H4
  clear hE hT hv ha hb hc
  go_enter Tryd.func3, Tryd.ntmps3
  go_wp2_with (first | (go_at_call 4; (refine H1.out.mono ?_); rintro e w1 ⟨rfl, hb1⟩) | (go_at_call 5; (with_reducible refine (H2.out _).mono ?_); rintro e w2 ⟨rfl, hb2⟩) | (go_at_call 6; (with_reducible refine (H3.out _).mono ?_); rintro e w3 ⟨rfl, rfl⟩) | (go_at_call 7; (with_reducible refine (H4.out _).mono ?_); rintro e w4 ⟨rfl, rfl⟩))
  go_ret
  exact ⟨rfl, Below.step hb1 hb2⟩
end Go.Proofs.YtmhaejagbjmocaaDoor
