/- What Each of package spans gives. Under the conditions that they name. -/
import Derived.Test.YtnlmploeildapaaSpR2
import Derived.RangeFuncFrom
import Derived.RangeFuncWrites
import Derived.RangeFuncNested
import Derived.RangeFuncBound
import Derived.RangeFuncCalls
import Derived.RangeFuncLeaves
import Derived.Shelf.Abstract
import Derived.Shelf.RegionOpen
import Derived.WalkKit
import Derived.OwnWalkIn
import Derived.TacticsInMore
import Derived.LoopNIn
import Derived.LoopIn
namespace Go.Proofs.Ytnlmploeildapaa
open Go.RowKit Go.Shelf
attribute [local go_sem] Oper.semAt_some
/-- The numbers of a set, rising. -/
def nums (F : List (Nat × Nat)) : List Nat := F.flatMap fun s => List.range' s.1 (s.2 + 1 - s.1)
theorem nums_take {F : List (Nat × Nat)} {k : Nat} {s : Nat × Nat} (h : F[k]? = some s) : nums (F.take (k + 1)) = nums (F.take k) ++ List.range' s.1 (s.2 + 1 - s.1) := by
  unfold nums
  rw [List.take_add_one, h, List.flatMap_append]
  simp
theorem nums_pre (F : List (Nat × Nat)) (k : Nat) : nums (F.take k) <+: nums F := by
  refine ⟨nums (F.drop k), ?_⟩
  unfold nums
  rw [← List.flatMap_append, List.take_append_drop]
/-- What a round leaves alone: what lies below n0, and cells from m0 on. -/
def KpE (n0 m0 : Nat) (W W' : World) : Prop := Below n0 W W' ∧ ∀ (x : Nat) (cs : Array Value) (t : TypeId) (f : Nat × Nat), m0 ≤ x → W.heap[x]? = some (.cells cs t f) → W'.heap[x]? = some (.cells cs t f)
theorem kpE_t {n0 m0 : Nat} {A B C : World} (h : KpE n0 m0 A B) (k : KpE n0 m0 B C) : KpE n0 m0 A C := ⟨h.1.trans k.1, fun x cs t f hx hc => k.2 x cs t f hx (h.2 x cs t f hx hc)⟩
theorem kpE_b {n0 m0 : Nat} {w : World} (hn : n0 ≤ w.heap.size) (W : World) (l : Nat) (o o' : Obj) (hl : w.heap.size ≤ l) (h : W.heap[l]? = some o) (hc : o.isCells = false) (hw : o.isWalk = false) : KpE n0 m0 W (W.putObj l o') :=
  ⟨belowK_b hn W l o o' hl h hc hw, fun x cs t f _ hx => ((grownBy_putObj' W l o').block x (Array.getElem?_eq_some_iff.1 hx).1 (fun e => by
    cases e
    rw [h] at hx
    cases hx
    simp [Obj.isCells] at hc)).trans hx⟩
abbrev encN (x : Nat) : Array Value := #[.int .u32 (x : Int)]
set_option maxRecDepth 100000 in
set_option maxHeartbeats 4000000 in
theorem each_stops (n n0 b : Nat) (F : List (Nat × Nat)) (p : Option Addr) (c : Nat) (w0 : World) (hb : w0.heap[b]? = some (.cells #[.slice p F.length c] 22 (0, 0))) (hr : Rd w0 (.slice p F.length c) F) (hF : ∀ s ∈ F, s.1 ≤ s.2) (hl : F.length ≤ 1000000) (hp : ∀ g o k, p = some ⟨g, o, k⟩ → g < n0) (hn0 : n0 ≤ w0.heap.size) :
    SeqStopsK Fence.wide n Try.prog 11 #[.pointer (some ⟨b, 0, none⟩)] encN (KpE n0 w0.heap.size) (fun xs => xs = nums F) (fun pre => pre <+: nums F) (nums F).length w0 := by
  intro l J Jx W hW hJ hJx hY h0
  have ltb := (Array.getElem?_eq_some_iff.1 hb).1
  have g1 := (cell_of_row _ _ 0 _ _ (0, 0) ((hW.block b ltb).trans hb)).trans (rfl : _ = some (Value.slice p F.length c))
  have HRW := Lib.hid (hr.below hW)
  have hn0W : n0 ≤ W.heap.size := by have := hW.size; omega
  have HJ := Lib.hid hJ; have HY := Lib.hid hY; have H0 := Lib.hid h0; have HF := Lib.hid hF; have HP := Lib.hid hp
  have hzW := hW.size
  clear hJ hJx hY h0 hW hb hr hF hp
  refine callsIn_of_wp Try.func11 rfl trivial ?_ rfl
  simp only [Try.ntmps11, List.size_toArray, List.length_cons, List.length_nil, Nat.reduceAdd, Nat.reduceSub, Array.replicate_succ, Array.replicate_zero, List.push_toArray, List.append_toArray, List.nil_append, List.cons_append]
  gi_wp2
  gi_loopw [8] (fun s8 wr => ∃ k : Nat, k ≤ F.length ∧ s8 = .int .i64 k ∧ Hid (J (nums (F.take k)) wr) ∧ Below n0 W wr) (fun s8 _ => F.length - (intOf s8).toNat)
  case atStart => exact ⟨0, Nat.zero_le _, rfl, H0, Below.refl _ _⟩
  case round =>
    obtain ⟨k, hk, rfl, hJr, hbr⟩ := hrel
    have HBR := Lib.hid hbr
    have hzr := hbr.size
    clear hbr
    by_cases hlt : k < F.length
    · obtain ⟨sp, hsp⟩ : ∃ s, F[k]? = some s := ⟨_, List.getElem?_eq_getElem hlt⟩
      have hmem := List.mem_of_getElem? hsp
      have hle := HF.out sp hmem
      obtain ⟨p2, c2, hpe, _, _, hat⟩ := HRW.out.sl
      obtain ⟨g, o, hp2, hgl, hs1, hs2, hcells⟩ := hat k sp hsp
      have hpp : p = p2 := by simpa using (Value.slice.inj hpe).1
      rw [← hpp] at hp2
      have hgn := HP.out g o none hp2
      obtain ⟨d0, d1⟩ := hcells W (Below.refl _ _)
      have e0 := (HBR.out.cell (p := ⟨g, o + k * 2, none⟩) hgn).trans d0
      have e1 := (HBR.out.cell (p := ⟨g, o + k * 2 + 1, none⟩) hgn).trans d1
      have hg1 : (0 : Int) ≤ (k : Int) := by omega
      have hg2 : (k : Int) < (F.length : Int) := by omega
      have HTK := Lib.hid (nums_take hsp)
      have HPRE : Hid (nums (F.take (k + 1)) <+: nums F) := Lib.hid (nums_pre F (k + 1))
      obtain ⟨lo, hi⟩ := sp
      simp only at hle hs1 hs2 e0 e1
      rw [top_def] at hs1 hs2
      subst hp2
      obtain ⟨B, hB⟩ : ∃ B, wr.heap.size = B := ⟨_, rfl⟩
      obtain ⟨Z, hZ⟩ : ∃ Z, wr.alloc (.cells #[.int .u32 (lo : Int), .int .u32 (hi : Int)] 30) = Z := ⟨_, rfl⟩
      have hq : Z.heap[B]? = some (.cells #[.int .u32 (lo : Int), .int .u32 (hi : Int)] 30 (0, 0)) := by rw [← hZ, ← hB]; exact heap_alloc_new wr _
      have hbZ : Below wr.heap.size wr Z := by rw [← hZ]; exact (Below.refl _ _).alloc (Nat.le_refl _) _
      have HJZ : Hid (J (nums (F.take k)) Z) := Lib.hid (HJ.out _ wr Z none hJr.out ⟨hbZ.os, hbZ.tape, hbZ.output, hbZ.size, fun x hx _ => hbZ.block x hx⟩ (fun r e => by cases e))
      have HBZ : Hid (Below n0 W Z) := Lib.hid (HBR.out.trans (hbZ.mono (by omega)))
      have HQ := Lib.hid hq; have HZZ := Lib.hid hZ; have HBB := Lib.hid hB
      have hBm : w0.heap.size ≤ B := by omega
      clear hq hbZ hsp hmem hat hcells hpe hpp hgn d0 d1 hZ hB hJr
      gi_wp2
      rw [HZZ.out, HBB.out]
      gi_loopw [5] (fun s5 wx => ∃ X : Nat, lo ≤ X ∧ X ≤ hi + 1 ∧ s5 = .int .u64 X ∧ Hid (J (nums (F.take k) ++ List.range' lo (X - lo)) wx) ∧ Below n0 W wx ∧ wx.heap[B]? = some (.cells #[.int .u32 (lo : Int), .int .u32 (hi : Int)] 30 (0, 0))) (fun s5 _ => hi + 1 - (intOf s5).toNat)
      case atStart => exact ⟨lo, Nat.le_refl _, by omega, rfl, by simpa using HJZ, HBZ.out, HQ.out⟩
      case round =>
        obtain ⟨X, hX1, hX2, rfl, hJx, hbx, hqx⟩ := hrel
        have q0 := (cell_of_row _ _ 0 _ _ (0, 0) hqx).trans (rfl : _ = some (Value.int .u32 (lo : Int)))
        have q1 := (cell_of_row _ _ 1 _ _ (0, 0) hqx).trans (rfl : _ = some (Value.int .u32 (hi : Int)))
        have HQX := Lib.hid hqx; have HBX := Lib.hid hbx
        have hzx := hbx.size
        have hBx : B < wr.heap.size := (Array.getElem?_eq_some_iff.1 hqx).1
        have HPOST : Hid (nums (F.take (k + 1)) = nums (F.take k) ++ List.range' lo (hi + 1 - lo)) := HTK
        clear hqx hbx
        gi_wp2_with fail
        refine ⟨trivial, (fun e => by cases e), ?_⟩
        refine (callsIn_wide.2 (behind_is lo hi _ (by omega) (by omega))).mono ?_
        rintro e w2 ⟨rfl, hb2⟩
        have hJ2 : J (nums (F.take k) ++ List.range' lo (X - lo)) w2 := HJ.out _ wr w2 none hJx.out ⟨hb2.os, hb2.tape, hb2.output, hb2.size, fun x hx _ => hb2.block x hx⟩ (fun r e => by cases e)
        have HB2 := Lib.hid (HBX.out.trans (hb2.mono (by omega))); have HQ2 := Lib.hid ((hb2.block B hBx).trans HQX.out)
        have HJ2 := Lib.hid hJ2
        clear hb2 hJx hJ2 q0 q1
        by_cases hXl : X < hi + 1
        · have e5 : (X : Int) < (hi : Int) + 1 := by omega
          have hxs : List.range' lo (X - lo) ++ [X] = List.range' lo (X + 1 - lo) := by
            rw [show X + 1 - lo = (X - lo) + 1 by omega, List.range'_1_concat, show lo + (X - lo) = X by omega]
          have hpx : nums (F.take k) ++ List.range' lo (X - lo) ++ [X] <+: nums F := by
            refine List.IsPrefix.trans ?_ HPRE.out
            rw [HPOST.out, List.append_assoc, hxs, List.prefix_append_right_inj]
            refine ⟨List.range' (lo + (X + 1 - lo)) (hi + 1 - lo - (X + 1 - lo)), ?_⟩
            rw [List.range'_append_1]
            congr 1
            omega
          have hlen : (nums (F.take k) ++ List.range' lo (X - lo)).length < (nums F).length := by
            have := hpx.length_le
            rw [List.length_append] at this
            simp only [List.length_singleton] at this
            omega
          obtain ⟨fn, tmps, assign, body, hy, hR⟩ := HY.out _ X w2 HJ2.out hlen
          have HR := Lib.hid hR; have HPX := Lib.hid hpx; have HXS := Lib.hid hxs
          clear hR hpx hxs hlen
          dsimp only [encN] at hy
          have hX0 : (0 : Int) ≤ (X : Int) := by omega
          have hXt : (X : Int) < 4294967296 := by omega
          gi_wp2
          refine ⟨(fun e => by cases e), ?_⟩
          refine HR.out.mono ?_
          rintro e W' (⟨rfl, hJ', hk'⟩ | ⟨rfl, hJx'⟩)
          · have HJ3 := Lib.hid hJ'; have HK3 := Lib.hid hk'
            clear hJ' hk' hy
            gi_wp2
            go_roundw
            case rel => exact ⟨X + 1, by omega, by omega, by go_num, Lib.hid (by rw [← HXS.out, ← List.append_assoc]; exact HJ3.out), HB2.out.trans HK3.out.1, HK3.out.2 B _ _ _ hBm HQ2.out⟩
            case measure => first | (simp [intOf]; done) | (simp [intOf]; omega)
          · have HJ3 := Lib.hid hJx'
            clear hJx' hy
            gi_wp2
            refine bodyPost_ret (results_none rfl _ _ _) rfl ?_
            exact ⟨⟨_, rfl⟩, .inr ⟨_, HPX.out, HJ3.out⟩⟩
        · have e5 : ¬ (X : Int) < (hi : Int) + 1 := by omega
          obtain rfl : X = hi + 1 := by omega
          have HJ4 : Hid (J (nums (F.take (k + 1))) w2) := Lib.hid (by rw [HPOST.out]; exact HJ2.out)
          clear hXl
          gi_wp2
          go_roundw
          case rel => exact ⟨k + 1, by omega, by go_num, HJ4, HB2.out⟩
          case measure => first | (simp [intOf]; done) | (simp [intOf]; omega)
    · have e2 : ¬ (k : Int) < (F.length : Int) := by omega
      obtain rfl : k = F.length := by omega
      have hJf := hJr.out
      rw [List.take_length] at hJf
      have HJF := Lib.hid hJf
      clear hJf hlt
      gi_wp2
      go_end0
      exact ⟨⟨_, rfl⟩, .inl HJF.out⟩
end Go.Proofs.Ytnlmploeildapaa
