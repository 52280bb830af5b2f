/- Halves of communities read and written, communities written and read. The variables ErrSyntax and ErrRange of package strconv are asked to hold errors, the table of powers of ten to be what its text says. -/
import Derived.Test.YtkkhmdiffddllaaDoorUtF
import Derived.Test.YtkkhmdiffddllaaDoorSCut
import Derived.Test.YtkkhmdiffddllaaDoorHdF
import Derived.Test.YtkkhmdiffddllaaDoorFbP
import Derived.Lib.VarintBits
namespace Go.Proofs.YtkkhmdiffddllaaDoor
open Go.Shelf Go.RowKit Go.Lib
theorem half_is (s : ByteArray) (hs : s.size ≤ 140737488355328) (w : World) (hE : ErrV w) :
    Calls Tryd.prog 21 #[.string s] w (NumP (num s.data.toList 65535) w) := by
  have H := Lib.hid (pu_is 16 (.inr rfl) s hs w hE)
  clear hE hs
  go_enter Tryd.func21, Tryd.ntmps21
  go_wp2_with fail
  go_at_call 33
  refine H.out.mono ?_
  rintro e w1 ⟨hb, ⟨u, h, rfl⟩ | ⟨h, v, N, t, rfl, v0, v1⟩⟩
  · have HB := Lib.hid hb
    have HU := Lib.hid h
    clear hb h
    go_wp2
    go_ret
    refine ⟨HB.out, _, (wrap32 _).1, (wrap32 _).2, rfl, fun n hn => ?_⟩
    have h1 := num_pu (.inr rfl) HU.out
    have h2 := pu_num (B := 16) (.inr rfl) hn
    rw [HU.out] at h2
    have h3 : u = n := by simpa using h2
    have h4 := (num_some hn).2.2.2.1
    subst h3
    exact IntWalk.u32_in _ (by omega)
  · have HB := Lib.hid hb
    have HN := Lib.hid h
    clear hb h
    go_wp2
    go_ret
    refine ⟨HB.out, _, (wrap32 _).1, (wrap32 _).2, rfl, fun n hn => ?_⟩
    have h1 := num_bad (B := 16) (.inr rfl) HN.out
    rw [show (65535 : Nat) = 2 ^ 16 - 1 by decide, h1] at hn
    simp at hn
theorem htext_is (n : Nat) (hn : n < 4294967296) (w : World) (ht : Tab10 w) : Calls Tryd.prog 24 #[.int .u32 n] w fun e w' => e = .returned (.string ⟨(Lib.decDigits n).toArray⟩) ∧ Below w.heap.size w w' := by
  have H := Lib.hid (fmt_is n (by omega) w ht)
  have hz : (0 : Int) ≤ (n : Int) ∧ (n : Int) < 18446744073709551616 := by omega
  have hw : IntKind.u64.wrap (n : Int) = (n : Int) := IntWalk.u64_in _ (by omega)
  go_enter Tryd.func24, Tryd.ntmps24
  go_wp2_with fail
  go_at_call 34
  (with_reducible refine H.out.mono ?_)
  rintro e w1 ⟨rfl, hb⟩
  go_wp2
  go_ret
  exact ⟨rfl, hb⟩
theorem bytes_app (a b : List UInt8) : (⟨a.toArray⟩ : ByteArray) ++ ⟨b.toArray⟩ = ⟨(a ++ b).toArray⟩ := by apply WideShapes.bytes_inj; simp
/-- A community's text. -/
def txC (c : Nat) : List UInt8 := Lib.decDigits (c / 65536) ++ [58] ++ Lib.decDigits (c % 65536)
theorem ltext_is (c : Nat) (hc : c < 4294967296) (w : World) (ht : Tab10 w) : Calls Tryd.prog 12 #[.int .u32 c] w fun e w' => e = .returned (.string ⟨(txC c).toArray⟩) ∧ Below w.heap.size w w' := by
  have hm0 : bits .and .u32 (c : Int) 65535 = (c : Int) % 65536 := bits_mask .u32 32 (by decide) wraps_u32 16 (by decide) (c : Int) (by omega) (by omega)
  unfold txC
  obtain ⟨q, hq⟩ : ∃ q, c / 65536 = q := ⟨_, rfl⟩
  obtain ⟨r, hr⟩ : ∃ r, c % 65536 = r := ⟨_, rfl⟩
  rw [hq, hr]
  have H1 := Lib.hid (htext_is q (by omega) w ht)
  have H2 := Lib.hid fun W (hW : Below w.heap.size w W) => htext_is r (by omega) W (ht.on hW)
  have hqz : (c : Int) / 65536 = (q : Int) := by omega
  have hrz : bits .and .u32 (c : Int) 65535 = (r : Int) := by rw [hm0]; omega
  obtain ⟨d1, hd1⟩ : ∃ d, Lib.decDigits q = d := ⟨_, rfl⟩
  obtain ⟨d2, hd2⟩ : ∃ d, Lib.decDigits r = d := ⟨_, rfl⟩
  have l1 : d1.length ≤ 4294967296 := by have := dec_len q; rw [hd1] at this; omega
  have l2 : d2.length ≤ 4294967296 := by have := dec_len r; rw [hd2] at this; omega
  have n1 : ¬ 9223372036854775807 < d1.length + 1 := by omega
  have n2 : ¬ 9223372036854775807 < d1.length + 1 + d2.length := by omega
  rw [hd1] at H1
  simp only [hd2] at H2
  rw [hd1, hd2]
  clear hd1 hd2 hm0 hq hr
  go_enter Tryd.func12, Tryd.ntmps12
  go_wp2_with fail
  (with_reducible refine H1.out.mono ?_)
  rintro e w1 ⟨rfl, hb1⟩
  have B1 := Lib.hid hb1
  clear hb1
  go_wp2_with fail
  (with_reducible refine (H2.out _ B1.out).mono ?_)
  rintro e w2 ⟨rfl, hb2⟩
  have B2 := Lib.hid (Below.step B1.out hb2)
  clear hb2
  go_wp2
  go_ret
  have e1 : (⟨d1.toArray⟩ : ByteArray) ++ ⟨#[58]⟩ = ⟨(d1 ++ [58]).toArray⟩ := bytes_app d1 [58]
  refine ⟨?_, B2.out⟩
  show Ending.returned (.string (((⟨d1.toArray⟩ : ByteArray) ++ ⟨#[58]⟩) ++ ⟨d2.toArray⟩)) = _
  rw [e1, bytes_app]
end Go.Proofs.YtkkhmdiffddllaaDoor
