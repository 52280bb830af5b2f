/- AddrCuts answers true for every two addresses: Cut of package addr and Cut of package waymarkref01 hand back the same prefixes, and those handed back are new memory. The table of package math/bits is asked to be what its text says. -/
import Derived.Test.YtdjjogcagolcjaaDoorCut4
namespace Go.Proofs.YtdjjogcagolcjaaDoor
open Go.RowKit
set_option maxHeartbeats 400000 in
theorem cuts_no (lo hi : Int) (w : World) (h : hi < lo) :
    Calls Tryd.prog 5 #[.int .u32 lo, .int .u32 hi] w fun e w' => e = .returned (.bool true) ∧ Below w.heap.size w w' := by
  go_enter Tryd.func5, Tryd.ntmps5
  go_wp2_with (first | (go_at_call 17; (with_reducible refine (cut_no lo hi _ h).mono ?_); rintro e w' ⟨rfl, rfl⟩) | (go_at_call 25; (with_reducible refine (rcut_no lo hi _ h).mono ?_); rintro e w' ⟨rfl, rfl⟩) | (go_at_call 26; (with_reducible refine (same_nil _).mono ?_); rintro e w1 ⟨rfl, hb⟩))
  refine wp_loop_rounds 1 ?_
  rw [rounds_succ]
  have tok := hb
  clear hb
  go_wp2_with (first | (go_at_call 17; (with_reducible refine (cut_no lo hi _ h).mono ?_); rintro e w' ⟨rfl, rfl⟩) | (go_at_call 25; (with_reducible refine (rcut_no lo hi _ h).mono ?_); rintro e w' ⟨rfl, rfl⟩) | (go_at_call 26; (with_reducible refine (same_nil _).mono ?_); rintro e w1 ⟨rfl, hb⟩))
  go_ret
  exact ⟨rfl, Below.step tok hb⟩
set_option maxRecDepth 100000 in
set_option maxHeartbeats 400000 in
theorem cuts_ok (lo hi : Int) (w : World) (h0 : 0 ≤ lo) (h1 : lo ≤ hi) (h2 : hi < 4294967296) (hT : Tab w) :
    Calls Tryd.prog 5 #[.int .u32 lo, .int .u32 hi] w fun e w' => e = .returned (.bool true) ∧ Below w.heap.size w w' := by
  go_enter Tryd.func5, Tryd.ntmps5
  go_wp2_with fail
  go_at_call 17
  refine (cut_ok lo hi _ h0 h1 h2 hT).mono ?_
  rintro e w1 ⟨v, l, rfl, hC, hown, hb1⟩
  go_wp2_with fail
  go_at_call 25
  refine (rcut_ok lo hi _ h0 h1 h2).mono ?_
  rintro e w2 ⟨v2, l2, rfl, hC2, hown2, hb2⟩
  obtain rfl : l = l2 := hC.one hC2
  have hne := hC.ne (by omega)
  have hle := hC.le.2
  have hll : l.length ≤ 9223372036854775807 := by omega
  have hown' := ownsRow_of (w' := w2) hown (fun k _ _ hk => hb2.block k hk)
  have hB2 : Below w.heap.size w w2 := Below.step hb1 hb2
  have HNE := Lib.hid hne
  have HC := Lib.hid hC
  clear hC hC2 hne
  go_wp2_with fail
  go_at_call 26
  refine (same_true l _ _ _ hll HNE.out (reads_of_owns hown') (reads_of_owns hown2)).mono ?_
  rintro e w3 ⟨rfl, hb3⟩
  have hown3 := ownsRow_of (w' := w3) hown' (fun k _ _ hk => hb3.block k hk)
  have hown4 := ownsRow_of (w' := w3) hown2 (fun k _ _ hk => hb3.block k hk)
  have hlt1 := hown.lt
  have hB3 : Below w.heap.size w w3 := Below.step hB2 hb3
  rcases hown3.2 with ⟨_, hz⟩ | ⟨g, cap, cur, rfl, hg, hh, hcap, hmax, hcs, _⟩
  · exact absurd (List.eq_nil_of_length_eq_zero hz) HNE.out
  have hg1 := (hlt1 g rfl).2
  clear hown hown' hown2 hown3 hlt1
  go_wp2_with fail
  go_loopw [9] (fun s9 wr => ∃ (k : Nat) (c : Array Value), k ≤ l.length ∧ s9 = .int .i64 k ∧ Below w.heap.size w wr ∧ wr.ownsRow w1.heap.size 30 2 v2 l.length (flat l) ∧ wr.heap[g]? = some (.cells c 30 (0, 0)) ∧ c.size = cap * 2) (fun s9 _ => l.length - (intOf s9).toNat)
  case atStart => exact ⟨0, cur, by omega, rfl, hB3, hown4, hh, hcs⟩
  case round =>
    obtain ⟨k, c, hk, rfl, hbw, ho, hgc, hsz⟩ := hrel
    by_cases hlt : k < l.length
    · have hin : k * 2 + 1 < c.size := by omega
      have c0 : wr.cell? ⟨g, k * 2 + 1, none⟩ = some (c[k * 2 + 1]) := by simp [World.cell?, hgc, hin]
      have f0 : wr.frozen? ⟨g, k * 2 + 1, none⟩ = false := by simp [World.frozen?, hgc]
      have HG := Lib.hid hgc
      have HO := Lib.hid ho
      clear hgc ho
      go_wp2_with fail
      go_roundw
      case rel =>
        refine ⟨k + 1, c.setIfInBounds (k * 2 + 1) (.int .i64 (-1)), by omega, by go_num, hbw.setCell hg _, ?_, ?_, by simpa using hsz⟩
        · exact ownsRow_of HO.out (fun b _ hb _ => Below.heap_setCell _ _ _ _ (by simp; omega))
        · simp [World.setCell, Array.getElem?_modify, HG.out]
      case measure => simp [intOf]; omega
    · have hkl : k = l.length := by omega
      subst hkl
      clear hlt
      go_wp2_with fail
      go_at_call 17
      refine (cut_ok lo hi _ h0 h1 h2 (hT.on hbw)).mono ?_
      rintro e w5 ⟨v5, l5, rfl, hC5, hown5, hb5⟩
      obtain rfl : l = l5 := HC.out.one hC5
      have ho5 := ownsRow_of (w' := w5) ho (fun k _ _ hk => hb5.block k hk)
      clear hC5
      go_wp2_with fail
      go_at_call 26
      refine (same_true l _ _ _ hll HNE.out (reads_of_owns hown5) (reads_of_owns ho5)).mono ?_
      rintro e w6 ⟨rfl, hb6⟩
      go_wp2_with fail
      go_ret
      exact ⟨rfl, Below.step (Below.step hbw hb5) hb6⟩
theorem cuts_any (lo hi : Int) (w : World) (h0 : 0 ≤ lo) (h2 : hi < 4294967296) (hT : Tab w) :
    Calls Tryd.prog 5 #[.int .u32 lo, .int .u32 hi] w fun e w' => e = .returned (.bool true) ∧ Below w.heap.size w w' := by
  by_cases h : hi < lo
  · exact cuts_no lo hi w h
  · exact cuts_ok lo hi w h0 (by omega) h2 hT
end Go.Proofs.YtdjjogcagolcjaaDoor
