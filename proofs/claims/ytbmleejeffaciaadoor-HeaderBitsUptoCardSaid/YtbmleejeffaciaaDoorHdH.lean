/- What Parse of package header hands back. The variables ErrSyntax and ErrRange of package strconv are asked to hold errors, the table of powers of ten to be what its text says. -/
import Derived.Test.YtbmleejeffaciaaDoorHdE
import Derived.Laws.Rows
namespace Go.Proofs.YtbmleejeffaciaaDoor
open Go.RowKit
theorem row_cell' {W : World} {g j : Nat} {cs : Array Value} {t : TypeId} {v : Value} (h : W.heap[g]? = some (.cells cs t (0, 0))) (hj : cs[j]? = some v) : W.cell? ⟨g, j, none⟩ = some v ∧ W.frozen? ⟨g, j, none⟩ = false :=
  ⟨(cell_of_row _ _ j _ _ (0, 0) h).trans hj, frozen_of_row _ _ j _ _ h⟩
/-- A header's fields, out of a text: source, destination, protocol, ports. -/
def hparse (l : List UInt8) : Option (Nat × Nat × Nat × Nat × Nat) := match endOf (cut1 l 32).1, endOf (cut1 (cut1 l 32).2.1 32).1, num (cut1 (cut1 l 32).2.1 32).2.1 255 with
  | some a, some b, some p => some (a.1, b.1, p, a.2, b.2)
  | _, _, _ => none
/-- What Parse hands back. -/
def HpVal : Option (Nat × Nat × Nat × Nat × Nat) → Value
  | some x => .tuple #[.agg #[.int .u32 (x.1 : Int), .int .u32 (x.2.1 : Int), .int .u8 (x.2.2.1 : Int), .int .u16 (x.2.2.2.1 : Int), .int .u16 (x.2.2.2.2 : Int)], .int .i64 0]
  | none => .tuple #[.agg #[.int .u32 0, .int .u32 0, .int .u8 0, .int .u16 0, .int .u16 0], .int .i64 4]
theorem hparse_no {l : List UInt8} (h : endOf (cut1 l 32).1 = none ∨ endOf (cut1 (cut1 l 32).2.1 32).1 = none ∨ num (cut1 (cut1 l 32).2.1 32).2.1 255 = none) : hparse l = none := by
  unfold hparse
  rcases h with h | h | h
  · rw [h]
  · rw [h]; cases endOf (cut1 l 32).1 <;> rfl
  · rw [h]; cases endOf (cut1 l 32).1 <;> cases endOf (cut1 (cut1 l 32).2.1 32).1 <;> rfl
theorem hparse_yes {l : List UInt8} {a b : Nat × Nat} {p : Nat} (h1 : endOf (cut1 l 32).1 = some a) (h2 : endOf (cut1 (cut1 l 32).2.1 32).1 = some b) (h3 : num (cut1 (cut1 l 32).2.1 32).2.1 255 = some p) : hparse l = some (a.1, b.1, p, a.2, b.2) := by
  unfold hparse; rw [h1, h2, h3]
set_option maxRecDepth 100000 in
set_option maxHeartbeats 4000000 in
theorem hparse_is (l : List UInt8) (hs : l.length ≤ 140737488355328) (w : World) (hE : ErrV w) (hT : Tab10 w) :
    Calls Tryd.prog 10 #[.string ⟨l.toArray⟩] w fun e w' => e = .returned (HpVal (hparse l)) ∧ Below w.heap.size w w' := by
  obtain ⟨W0, hW0⟩ : ∃ W0, w.alloc (.cells #[.int .u32 0, .int .u32 0, .int .u8 0, .int .u16 0, .int .u16 0] 27) = W0 := ⟨_, rfl⟩
  have hb0 : Below w.heap.size w W0 := by rw [← hW0]; exact (Below.refl _ _).alloc (Nat.le_refl _) _
  have hr0 : W0.heap[w.heap.size]? = some (.cells #[.int .u32 0, .int .u32 0, .int .u8 0, .int .u16 0, .int .u16 0] 27 (0, 0)) := by rw [← hW0]; exact heap_alloc_new w _
  have hz0 : w.heap.size < W0.heap.size := by rw [← hW0]; simp
  have HE := Lib.hid (hE.on hb0); have HT := Lib.hid (hT.on hb0); have HS := Lib.hid hs; have HR0 := Lib.hid hr0
  have HC1 := Lib.hid (cut1_len l 32); have HC2 := Lib.hid (cut1_len (cut1 l 32).2.1 32)
  clear hE hT hs hr0
  go_enter Tryd.func10, Tryd.ntmps10
  go_wp2_with fail
  go_at_call 27
  refine (cut_l l 32 W0 HS.out).mono ?_
  rintro e w1 ⟨rfl, hb1⟩
  go_wp2_with fail
  go_at_call 27
  refine (cut_l (cut1 l 32).2.1 32 w1 (by have := HC1.out.2; have := HS.out; omega)).mono ?_
  rintro e w2 ⟨rfl, hb2⟩
  have hb02 := Below.step hb1 hb2
  have HQ1 := Lib.hid (end_is (cut1 l 32).1 (by have := HC1.out.1; have := HS.out; omega) w2 (HE.out.on hb02) (HT.out.on hb02))
  go_wp2_with fail
  go_at_call 28
  refine HQ1.out.mono ?_
  rintro e w3 ⟨hb3, a, v, a0, a1, v0, v1, rfl, hav⟩
  have hb03 := Below.step hb02 hb3
  have HQ2 := Lib.hid (end_is (cut1 (cut1 l 32).2.1 32).1 (by have := HC1.out.2; have := HC2.out.1; have := HS.out; omega) w3 (HE.out.on hb03) (HT.out.on hb03))
  have HAV := Lib.hid hav
  clear HQ1 hav
  go_wp2_with fail
  go_at_call 28
  refine HQ2.out.mono ?_
  rintro e w4 ⟨hb4, b, u, b0, b1, u0, u1, rfl, hbu⟩
  have hb04 := Below.step hb03 hb4
  have HQ3 := Lib.hid (hnum_l 8 (.inl rfl) (cut1 (cut1 l 32).2.1 32).2.1 (by have := HC1.out.2; have := HC2.out.2; have := HS.out; omega) w4 (HE.out.on hb04) (HT.out.on hb04))
  have HBU := Lib.hid hbu
  clear HQ2 hbu
  go_wp2_with fail
  go_at_call 29
  refine HQ3.out.mono ?_
  rintro e w5 ⟨hb5, z, z0, z1, rfl, hz⟩
  have hb05 := Below.step hb04 hb5
  have HZ : Hid (∀ n, num (cut1 (cut1 l 32).2.1 32).2.1 255 = some n → z = n) := Lib.hid hz
  have hr5 : w5.heap[w.heap.size]? = some (.cells #[.int .u32 0, .int .u32 0, .int .u8 0, .int .u16 0, .int .u16 0] 27 (0, 0)) := (hb05.block _ hz0).trans HR0.out
  obtain ⟨d0, e0⟩ := row_cell' (j := 0) hr5 rfl
  obtain ⟨d1, e1⟩ := row_cell' (j := 1) hr5 rfl
  obtain ⟨d2, e2⟩ := row_cell' (j := 2) hr5 rfl
  obtain ⟨d3, e3⟩ := row_cell' (j := 3) hr5 rfl
  obtain ⟨d4, e4⟩ := row_cell' (j := 4) hr5 rfl
  have HBB := Lib.hid (Below.step hb0 hb05)
  obtain ⟨oa, hoa⟩ : ∃ o, endOf (cut1 l 32).1 = o := ⟨_, rfl⟩
  obtain ⟨ob, hob⟩ : ∃ o, endOf (cut1 (cut1 l 32).2.1 32).1 = o := ⟨_, rfl⟩
  obtain ⟨oz, hoz⟩ : ∃ o, num (cut1 (cut1 l 32).2.1 32).2.1 255 = o := ⟨_, rfl⟩
  have hoz' : num (cut1 (cut1 l 32).2.1 32).2.1 (2 ^ 8 - 1) = oz := hoz
  rw [hoa] at HAV ⊢
  rw [hob] at HBU ⊢
  rw [hoz] at HZ
  rw [hoz']
  have HOA := Lib.hid hoa; have HOB := Lib.hid hob; have HOZ := Lib.hid hoz
  clear HQ3 hz hr5 hoa hob hoz hoz' hb1 hb2 hb3 hb4 hb5 hb02 hb03 hb04 hb05 hW0
  cases oa with
  | none =>
    have HN := Lib.hid (hparse_no (l := l) (.inl HOA.out))
    go_wp2
    exact bodyPost_ret (v := .tuple #[.agg #[.int .u32 0, .int .u32 0, .int .u8 0, .int .u16 0, .int .u16 0], .int .i64 4]) (by simp [results, Tryd.results10, go_sem, d0, d1, d2, d3, d4]) rfl ⟨by rw [HN.out]; rfl, by
      repeat refine Below.setCell ?_ (by simp) _
      exact HBB.out⟩
  | some oa =>
    cases ob with
    | none =>
      have HN := Lib.hid (hparse_no (l := l) (.inr (.inl HOB.out)))
      go_wp2
      exact bodyPost_ret (v := .tuple #[.agg #[.int .u32 0, .int .u32 0, .int .u8 0, .int .u16 0, .int .u16 0], .int .i64 4]) (by simp [results, Tryd.results10, go_sem, d0, d1, d2, d3, d4]) rfl ⟨by rw [HN.out]; rfl, by
        repeat refine Below.setCell ?_ (by simp) _
        exact HBB.out⟩
    | some ob =>
      cases oz with
      | none =>
        have HN := Lib.hid (hparse_no (l := l) (.inr (.inr HOZ.out)))
        go_wp2
        exact bodyPost_ret (v := .tuple #[.agg #[.int .u32 0, .int .u32 0, .int .u8 0, .int .u16 0, .int .u16 0], .int .i64 4]) (by simp [results, Tryd.results10, go_sem, d0, d1, d2, d3, d4]) rfl ⟨by rw [HN.out]; rfl, by
          repeat refine Below.setCell ?_ (by simp) _
          exact HBB.out⟩
      | some n =>
        have HN := Lib.hid (hparse_yes HOA.out HOB.out HOZ.out)
        obtain ⟨ha, hv⟩ := HAV.out oa rfl
        obtain ⟨hb, hu⟩ := HBU.out ob rfl
        have hz := HZ.out n rfl
        have hle := (num_some HOZ.out).2.2.2.1
        have z2 : z < 256 := by omega
        have HH := Lib.hid (And.intro ha (And.intro hv (And.intro hb (And.intro hu hz))))
        clear ha hv hb hu hz
        go_wp2
        refine bodyPost_ret (v := .tuple #[.agg #[.int .u32 a, .int .u32 b, .int .u8 z, .int .u16 v, .int .u16 u], .int .i64 0]) (by simp [results, Tryd.results10, go_sem, d0, d1, d2, d3, d4]) rfl ⟨?_, ?_⟩
        · obtain ⟨ha, hv, hb, hu, hz⟩ := HH.out
          rw [HN.out, ha, hv, hb, hu, hz]; rfl
        · repeat refine Below.setCell ?_ (by simp) _
          exact HBB.out
end Go.Proofs.YtbmleejeffaciaaDoor
