/- What cuts of package spans hands back: the numbers at which one goes into the set or out of it, rising, in new memory. Under the conditions that it names. -/
import Derived.Test.YtelncpmphgndjaaDoorSpR2
import Derived.Deep.AppendLies
namespace Go.Proofs.YtelncpmphgndjaaDoor
open Go.RowKit
theorem infoU64 : (Tryd.prog.info? 35).map (fun i => (i.zero, i.size, i.bytes)) = some (some (.int .u64 0), 1, 8) := by kernel_rfl
theorem cutsOf_take {f : List (Nat × Nat)} {k : Nat} {s : Nat × Nat} (h : f[k]? = some s) : cutsOf (f.take (k + 1)) = cutsOf (f.take k) ++ [s.1, s.2 + 1] := by
  rw [List.take_add_one, h, cutsOf_append]; rfl
/-- What cuts hands back. -/
def CutPost (l : List (Nat × Nat)) (w : World) (e : Ending) (w' : World) : Prop := ∃ v, e = .returned v ∧ OwnN 35 .u64 w.heap.size w' v (cutsOf (Cn (has l))) ∧ Below w.heap.size w w'
set_option maxRecDepth 100000 in
set_option maxHeartbeats 1000000 in
theorem cuts_is (l : List (Nat × Nat)) (v : Value) (w : World) (hr : Rd w v l) (hl : l.length ≤ 400000000) :
    Calls Tryd.prog 41 #[v] w (CutPost l w) := by
  have h1 := CnHas_length hr.1.two
  have H := Lib.hid (form_is l v w hr (by omega))
  go_enter Tryd.func41, Tryd.ntmps41
  go_wp2_with fail
  refine H.out.mono ?_
  rintro e w1 ⟨v1, rfl, ho1, hb1⟩
  have hsm := Cn_small (has l)
  generalize hgf : Cn (has l) = f at *
  have HF := Lib.hid hgf
  clear hgf H
  have hlf : f.length ≤ 400000000 := by omega
  clear h1 hr
  obtain ⟨p, c, rfl, _, _, hp⟩ := ho1.rd.sl
  have HP := Lib.hid hp
  have HSM := Lib.hid hsm
  clear hp hsm ho1
  obtain ⟨i0, hi0, hz0, hz1, hz2⟩ := info_parts infoU64
  go_wp2_with (at_make; refine wpList_make_own _ rfl _ _ 49 rfl w1.heap.size 35 i0 (.int .u64 0) 1 Tryd.underlying49 hi0 hz0 hz1 .i64 .i64 _ (2 * f.length) rfl rfl (by omega) (by rw [hz2]; omega) (by unfold maxLen; omega) (Nat.le_refl _) ?_; intro w2 hown2 hgrow2)
  have hb2 : Below w1.heap.size w1 w2 := Below.grown (Below.refl _ _) hgrow2 (Nat.le_refl _) (fun j hj => by cases hj)
  clear hgrow2
  go_loopw [4, 15] (fun o i wr => ∃ k : Nat, k ≤ f.length ∧ i = .int .i64 k ∧ OwnN 35 .u64 w1.heap.size wr o (cutsOf (f.take k)) ∧ Below w1.heap.size w1 wr) (fun _ i _ => f.length - (intOf i).toNat)
  case atStart => exact ⟨0, Nat.zero_le _, rfl, hown2, hb2⟩
  case round =>
    obtain ⟨k, hk, rfl, hown, hbw⟩ := hrel
    by_cases hlt : k < f.length
    · obtain ⟨s, hs⟩ : ∃ s, f[k]? = some s := ⟨_, List.getElem?_eq_getElem hlt⟩
      obtain ⟨b, o, rfl, hb, ht1, ht2, hc⟩ := HP.out k s hs
      obtain ⟨c1, c2⟩ := hc wr hbw
      have HT := Lib.hid (cutsOf_take hs)
      have hcl : (cutsOf (f.take k)).length ≤ 2 * k := by rw [cutsOf_length, List.length_take]; omega
      clear hs hc
      obtain ⟨lo, hlo⟩ : ∃ x : Int, x = (s.1 : Int) := ⟨_, rfl⟩
      obtain ⟨hi, hhi⟩ : ∃ x : Int, x = (s.2 : Int) := ⟨_, rfl⟩
      rw [← hlo] at c1; rw [← hhi] at c2
      rw [top_def] at ht1 ht2
      have b0 : 0 ≤ lo := by omega
      have b1 : lo < 4294967296 := by omega
      have b2 : hi < 4294967296 := by omega
      have b3 : 0 ≤ hi := by omega
      have HL := Lib.hid hlo; have HH := Lib.hid hhi
      have e1 : (0 : Int) ≤ (k : Int) := by omega
      have e2 : (k : Int) < (f.length : Int) := by omega
      have hz := hbw.size
      clear hlo hhi ht1 ht2
      generalize hgd : cutsOf (f.take k) = d at *
      have HD := Lib.hid hgd
      clear hgd
      have hown' : World.ownsRow wr w1.heap.size 35 1 u4 d.length (d.map (numV .u64)) := hown
      have HW := Lib.hid hown'
      clear hown'
      have x3 : (wr.alloc (.cells #[.int .u32 lo, .int .u32 hi] 32)).cell? ⟨wr.heap.size, 0, none⟩ = some (.int .u32 lo) := by go_simp
      have x4 : (wr.alloc (.cells #[.int .u32 lo, .int .u32 hi] 32)).cell? ⟨wr.heap.size, 1, none⟩ = some (.int .u32 hi) := by go_simp
      have s0 : IntKind.u64.wrap lo = lo := IntWalk.u64_in _ ⟨by omega, by omega⟩
      have HNE : Hid (u4.ownBlock ≠ some wr.heap.size) := Lib.hid fun h => by have := (World.ownsRow.lt HW.out _ h).2; omega
      have X3 := Lib.hid x3; have X4 := Lib.hid x4
      go_wp2
      go_region_held3 (fun w' => w'.cell? ⟨wr.heap.size, 0, none⟩ = some (.int .u32 lo) ∧ w'.cell? ⟨wr.heap.size, 1, none⟩ = some (.int .u32 hi)) (first | go_keep | (simp [*, World.cell?_alloc_some]; done) | (trace_state; fail)) (first
        | (go_at_call 21; ((with_reducible refine (behind_is lo hi _ b3 b2).mono ?_)); rintro e wz ⟨rfl, hbz⟩; (have hbzz : Below wr.heap.size wr wz := Below.step (((Below.refl _ _).alloc (Nat.le_refl _) _).drew) hbz); (have hoz : World.ownsRow wz w1.heap.size 35 1 u4 d.length (d.map (numV .u64)) := ownsRow_of HW.out (fun g _ _ hg => hbzz.block g hg)); (have z0 : wz.cell? ⟨wr.heap.size, 0, none⟩ = some (.int .u32 lo) := (hbz.cell (p := ⟨wr.heap.size, 0, none⟩) (by simp)).trans X3.out); (have z1 : wz.cell? ⟨wr.heap.size, 1, none⟩ = some (.int .u32 hi) := (hbz.cell (p := ⟨wr.heap.size, 1, none⟩) (by simp)).trans X4.out); have hzz := hbzz.size)
        | ((refine step_append_lies _ rfl (.tmp 19) (.tmp 25) 49 rfl w1.heap.size 35 i0 (.int .u64 0) 1 8 Tryd.underlying49 hi0 hz0 hz1 hz2 rfl (by decide) _ _ _ rfl (World.ownsRow.alloc hoz _) ⟨wz.heap.size, 0, none⟩ 2 2 [.int .u64 lo, .int .u64 (hi + 1)] rfl rfl (two_new (by simp) _ _ _) (fun x hx => by simp at hx; rcases hx with rfl | rfl <;> rfl) (by omega) (by unfold maxLen; omega) (by omega) (by simp; omega) _ rfl ?_); intro g9 cap9 w9 hown9 hgr9 hor9 hlt9; have y0 : w9.cell? ⟨wr.heap.size, 0, none⟩ = some (.int .u32 lo) := World.grownBy.cell hgr9 (by first | exact (World.cell?_alloc_some _ _ _ _ z0) | simp [z0, World.cell?_alloc_some]) (fun h => HNE.out h.symm); have y1 : w9.cell? ⟨wr.heap.size, 1, none⟩ = some (.int .u32 hi) := World.grownBy.cell hgr9 (by first | exact (World.cell?_alloc_some _ _ _ _ z1) | simp [z1, World.cell?_alloc_some]) (fun h => HNE.out h.symm)))
      go_wp2
      go_roundw
      case rel =>
        refine ⟨k + 1, by omega, by go_num, ?_, ?_⟩
        · rw [HT.out]
          unfold OwnN
          rw [List.length_append, List.map_append]
          rw [HL.out, HH.out] at hown9
          exact hown9
        · exact Below.grown (Below.alloc (hbw.trans (hbzz.mono hz)) (by omega) _) hgr9 (by simp; omega) (fun j hj => (World.ownsRow.lt HW.out j hj).1)
      case measure => simp [intOf]; omega
    · go_wp2
      go_ret
      obtain rfl : k = f.length := by omega
      rw [List.take_length] at hown
      exact ⟨_, rfl, by rw [HF.out]; exact hown.base hb1.size, hb1.trans (hbw.mono hb1.size)⟩
end Go.Proofs.YtelncpmphgndjaaDoor
