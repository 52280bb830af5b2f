/- The iterator of strings.SplitSeq at a comma: it hands the parts of its text one by one; what is left stands in a cell of its own. Under the conditions that it names. -/
import Derived.Test.YtbplkeopdfciiaaDoorSCutS
import Derived.Test.YtbplkeopdfciiaaDoorSqM
import Derived.Test.YtbplkeopdfciiaaDoorSqR
import Derived.Test.YtbplkeopdfciiaaDoorSpRow
import Derived.RangeFuncFrom
import Derived.RangeFuncWrites
import Derived.RangeFuncNested
import Derived.RangeFuncBound
import Derived.RangeFuncCalls
import Derived.RangeFuncLeaves
import Derived.Shelf.Abstract
import Derived.Shelf.RegionOpen
import Derived.WalkKit
import Derived.OwnWalkIn
import Derived.TacticsInMore
import Derived.LoopNIn
import Derived.LoopIn
namespace Go.Proofs.YtbplkeopdfciiaaDoor
open Go.RowKit Go.Shelf
attribute [local go_sem] Oper.semAt_some
/-- The longest part that is spoken of. -/
def longP : Nat := 100000
/-- A part, as it is handed on. -/
def strP (x : List UInt8) : ByteArray := ⟨(x.take longP).toArray⟩
abbrev encP (x : List UInt8) : Array Value := #[.string (strP x)]
theorem encP_of {x : List UInt8} {S : ByteArray} (h : S = ⟨x.toArray⟩) (hl : x.length ≤ longP) : encP x = #[.string S] := by
  unfold encP strP
  rw [List.take_of_length_le hl, h]
def szAt (b : Nat) (w : World) : Nat := match w.cell? ⟨b, 0, none⟩ with
  | some (.string s) => s.size
  | _ => 0
/-- What a round leaves alone: the iterator's three cells. -/
def Kp3 (p q r : Nat) (W W' : World) : Prop := W'.heap[p]? = W.heap[p]? ∧ W'.heap[q]? = W.heap[q]? ∧ W'.heap[r]? = W.heap[r]?
theorem kp3_t {p q r : Nat} {A B C : World} (h : Kp3 p q r A B) (k : Kp3 p q r B C) : Kp3 p q r A C := ⟨k.1.trans h.1, k.2.1.trans h.2.1, k.2.2.trans h.2.2⟩
theorem kp3_b {p q r : Nat} {w : World} (hp : p < w.heap.size) (hq : q < w.heap.size) (hr : r < w.heap.size) (W : World) (l : Nat) (o o' : Obj) (hl : w.heap.size ≤ l) (_ : W.heap[l]? = some o) (_ : o.isCells = false) (_ : o.isWalk = false) : Kp3 p q r W (W.putObj l o') :=
  ⟨World.putObj_heap_other (by omega), World.putObj_heap_other (by omega), World.putObj_heap_other (by omega)⟩
theorem szAt_of {b : Nat} {w : World} {s : ByteArray} {t : TypeId} (h : w.heap[b]? = some (.cells #[.string s] t (0, 0))) : szAt b w = s.size := by
  unfold szAt
  rw [cell_of_heap h]
  rfl
theorem index_is (s : ByteArray) (c : UInt8) (w : World) : Calls Tryd.prog 40 #[.string s, .string ⟨#[c]⟩] w fun e w' => e = .returned (.int .i64 (Lib.indexByte s.data.toList c)) ∧ w = w' := by
  have H := Lib.hid (Tryd.stringslite_Index_one s c w)
  go_enter Tryd.func40, Tryd.ntmps40
  go_wp2_with fail
  go_at_call 59
  (with_reducible refine H.out.mono ?_)
  rintro e w' ⟨rfl, rfl⟩
  go_wp2
  go_ret
  exact ⟨rfl, rfl⟩
theorem cut_split {S : ByteArray} {i : Int} (h : Lib.indexByte S.data.toList 44 = i) (h0 : 0 ≤ i) : (cut1 S.data.toList 44).2.2 = true ∧ S.extract 0 i.toNat = ⟨(cut1 S.data.toList 44).1.toArray⟩ ∧ S.extract (i.toNat + 1) S.size = ⟨(cut1 S.data.toList 44).2.1.toArray⟩ := by
  have := cut1_parts S.data.toList 44 (by rw [h]; exact h0)
  rw [h] at this
  rw [this]
  exact ⟨rfl, ext_take _ _, ext_drop _ _⟩
theorem cut_whole {S : ByteArray} {i : Int} (h : Lib.indexByte S.data.toList 44 = i) (h0 : ¬ 0 ≤ i) : parts S.data.toList = [S.data.toList] := by
  refine parts_no _ ?_
  rw [cut1_whole S.data.toList 44 (by rw [h]; exact h0)]
set_option maxRecDepth 100000 in
set_option maxHeartbeats 4000000 in
theorem splits (n bp bs bv : Nat) (L : List UInt8) (w0 : World) (hsep : w0.heap[bp]? = some (.cells #[.string ⟨#[44]⟩] 9 (0, 0))) (hs : w0.heap[bs]? = some (.cells #[.string ⟨L.toArray⟩] 9 (0, 0))) (hv : w0.heap[bv]? = some (.cells #[.int .i64 0] 3 (0, 0)))
    (hl : L.length ≤ longP) (h12 : bp ≠ bs) (h32 : bv ≠ bs) :
    SeqC Fence.wide n Tryd.prog 38 #[.pointer (some ⟨bp, 0, none⟩), .pointer (some ⟨bs, 0, none⟩), .pointer (some ⟨bv, 0, none⟩)] encP (Kp3 bp bs bv) (fun xs => xs = parts L) (fun pre => pre <+: parts L) (parts L).length bs w0 := by
  intro l J Jx W hW hJ hJx hbJ hbJx hY h0
  have q1 := (hW.block bp (Array.getElem?_eq_some_iff.1 hsep).1).trans hsep
  have q2 := (hW.block bs (Array.getElem?_eq_some_iff.1 hs).1).trans hs
  have q3 := (hW.block bv (Array.getElem?_eq_some_iff.1 hv).1).trans hv
  have g1 := (cell_of_row _ _ 0 _ _ (0, 0) q1).trans (rfl : _ = some (Value.string ⟨#[44]⟩))
  have HY := Lib.hid hY; have H0 := Lib.hid h0; have HBJ := Lib.hid hbJ
  have Q1 := Lib.hid q1; have Q2 := Lib.hid q2; have Q3 := Lib.hid q3
  have hzW := hW.size
  have hone : (⟨#[44]⟩ : ByteArray).size = 1 := rfl
  clear hJ hJx hY h0 hW hsep hs hv q1 q2 q3 hbJ hbJx
  unfold longP at hl
  refine callsIn_of_wp Tryd.func38 rfl trivial ?_ rfl
  simp only [Tryd.ntmps38, List.size_toArray, List.length_cons, List.length_nil, Nat.reduceAdd, Nat.reduceSub, Array.replicate_succ, Array.replicate_zero, List.push_toArray, List.append_toArray, List.nil_append, List.cons_append]
  gi_wp2
  gi_loopw [7] (fun s7 wr => ∃ (u : Value) (pre : List (List UInt8)) (S : ByteArray), s7 = u ∧ Hid (parts L = pre ++ parts S.data.toList) ∧ S.size ≤ L.length ∧ Hid (J pre wr) ∧ wr.heap[bs]? = some (.cells #[.string S] 9 (0, 0)) ∧ wr.heap[bp]? = some (.cells #[.string ⟨#[44]⟩] 9 (0, 0)) ∧ wr.heap[bv]? = some (.cells #[.int .i64 0] 3 (0, 0))) (fun _ wr => szAt bs wr)
  case atStart => exact ⟨_, [], ⟨L.toArray⟩, rfl, Lib.hid rfl, by rw [show (⟨L.toArray⟩ : ByteArray).size = L.length from rfl]; exact Nat.le_refl _, H0, Q2.out, Q1.out, Q3.out⟩
  case round =>
    obtain ⟨u, pre, S, rfl, HP, hS, HJr, q2, q1, q3⟩ := hrel
    have g1 := (cell_of_row _ _ 0 _ _ (0, 0) q1).trans (rfl : _ = some (Value.string ⟨#[44]⟩))
    have g2 := (cell_of_row _ _ 0 _ _ (0, 0) q2).trans (rfl : _ = some (Value.string S))
    have g3 := (cell_of_row _ _ 0 _ _ (0, 0) q3).trans (rfl : _ = some (Value.int .i64 0))
    have Q1 := Lib.hid q1; have Q2 := Lib.hid q2; have Q3 := Lib.hid q3
    have hlt := indexByte_lt S.data.toList 44
    rw [str_toList] at hlt
    obtain ⟨i, hi⟩ : ∃ i, Lib.indexByte S.data.toList 44 = i := ⟨_, rfl⟩
    rw [hi] at hlt
    have HI := Lib.hid hi
    clear q1 q2 q3 hi
    gi_wp2_with fail
    refine ⟨trivial, (fun e => by cases e), ?_⟩
    refine (callsIn_wide.2 (index_is S 44 wr)).mono ?_
    rintro e w2 ⟨rfl, rfl⟩
    rw [HI.out]
    by_cases hn : 0 ≤ i
    · obtain ⟨hc, ha, hb⟩ := cut_split HI.out hn
      obtain ⟨a, hae⟩ : ∃ a, (cut1 S.data.toList 44).1 = a := ⟨_, rfl⟩
      obtain ⟨r, hre⟩ : ∃ r, (cut1 S.data.toList 44).2.1 = r := ⟨_, rfl⟩
      have hpy := parts_yes _ hc
      have hcy := cut1_yes _ _ hc
      rw [hae] at ha hpy hcy
      rw [hre] at hb hpy hcy
      have hsz : a.length + 1 + r.length = S.size := by rw [← str_toList, hcy]; simp; try omega
      have hPP : parts L = (pre ++ [a]) ++ parts r := by rw [HP.out, hpy]; simp
      have hlen : pre.length < (parts L).length := by rw [hPP]; simp
      obtain ⟨fn, tmps, assign, body, hy, hR⟩ := HY.out pre a wr HJr.out hlen
      have hen : encP a = #[.string (S.extract 0 i.toNat)] := encP_of ha (by unfold longP; omega)
      rw [hen] at hy
      have HR := Lib.hid hR; have HPP := Lib.hid hPP; have HB := Lib.hid hb; have HSZ := Lib.hid hsz
      have hd : decide (i < 0) = false := decide_eq_false (by omega)
      have hw0 : IntKind.i64.wrap (i + 0) = i := by rw [Int.add_zero]; exact IntWalk.i64_in _ ⟨by omega, by omega⟩
      have hw1 : IntKind.i64.wrap (i + 1) = i + 1 := IntWalk.i64_in _ ⟨by omega, by omega⟩
      clear hR hPP hb hc hae hre hpy hcy hsz ha hlen hen HP
      gi_wp2_with fail
      refine ⟨(fun e => by cases e), ?_⟩
      refine HR.out.mono ?_
      rintro e W' (⟨rfl, hJ', hk'⟩ | ⟨rfl, hJx'⟩)
      · have q1 := hk'.1.trans Q1.out
        have q2 := hk'.2.1.trans Q2.out
        have q3 := hk'.2.2.trans Q3.out
        have g1 := (cell_of_row _ _ 0 _ _ (0, 0) q1).trans (rfl : _ = some (Value.string ⟨#[44]⟩))
        have g2 := (cell_of_row _ _ 0 _ _ (0, 0) q2).trans (rfl : _ = some (Value.string S))
        have f2 := frozen_of_row _ _ 0 _ _ q2
        have e3 : (i + 1).toNat = i.toNat + 1 := by omega
        obtain ⟨Z, hZ⟩ : ∃ Z, W'.setCell ⟨bs, 0, none⟩ (.string (S.extract (i + 1).toNat S.size)) = Z := ⟨_, rfl⟩
        have HJ3 : Hid (J (pre ++ [a]) Z) := Lib.hid (by rw [← hZ]; exact HBJ.out _ _ _ hJ' (grownBy_setCell' W' bs _))
        have z2 : Hid (Z.heap[bs]? = some (.cells #[.string (S.extract (i + 1).toNat S.size)] 9 (0, 0))) := Lib.hid (by rw [← hZ, heap_setCell _ q2]; rfl)
        have z1 : Hid (Z.heap[bp]? = some (.cells #[.string ⟨#[44]⟩] 9 (0, 0))) := Lib.hid (by rw [← hZ, heap_setCell_ne _ (Ne.symm h12)]; exact q1)
        have z3 : Hid (Z.heap[bv]? = some (.cells #[.int .i64 0] 3 (0, 0))) := Lib.hid (by rw [← hZ, heap_setCell_ne _ (Ne.symm h32)]; exact q3)
        have HZ := Lib.hid hZ
        have hxr : S.extract (i + 1).toNat S.size = ⟨r.toArray⟩ := by rw [e3]; exact HB.out
        have HXR := Lib.hid hxr
        clear hJ' hk' q1 q2 q3 hy hZ e3 hxr
        gi_wp2_with fail
        rw [HZ.out]
        go_roundw
        case rel => exact ⟨_, pre ++ [a], _, rfl, Lib.hid (by rw [HXR.out]; exact HPP.out), by rw [HXR.out]; have := HSZ.out; have e : (⟨r.toArray⟩ : ByteArray).size = r.length := rfl; omega, HJ3, z2.out, z1.out, z3.out⟩
        case measure => rw [szAt_of z2.out, szAt_of Q2.out, HXR.out]; have := HSZ.out; have e : (⟨r.toArray⟩ : ByteArray).size = r.length := rfl; omega
      · have HJ3 := Lib.hid hJx'
        clear hJx' hy
        gi_wp2
        refine bodyPost_ret (results_none rfl _ _ _) rfl ?_
        exact ⟨⟨_, rfl⟩, .inr ⟨_, ⟨parts r, HPP.out.symm⟩, HJ3.out⟩⟩
    · have hpn := cut_whole HI.out hn
      have hPP : parts L = pre ++ [S.data.toList] := by rw [HP.out, hpn]
      have hlen : pre.length < (parts L).length := by rw [hPP]; simp
      obtain ⟨fn, tmps, assign, body, hy, hR⟩ := HY.out pre S.data.toList wr HJr.out hlen
      have hen : encP S.data.toList = #[.string S] := encP_of (all_of S) (by unfold longP; rw [str_toList]; omega)
      rw [hen] at hy
      have HR := Lib.hid hR; have HPP := Lib.hid hPP
      have hd : decide (i < 0) = true := decide_eq_true (by omega)
      clear hR hPP hpn hlen hen HP
      gi_wp2_with fail
      refine ⟨(fun e => by cases e), ?_⟩
      refine HR.out.mono ?_
      rintro e W' (⟨rfl, hJ', hk'⟩ | ⟨rfl, hJx'⟩)
      · have HJ3 := Lib.hid hJ'
        clear hJ' hk' hy
        gi_wp2
        go_end0
        exact ⟨⟨_, rfl⟩, .inl ⟨_, HPP.out.symm, HJ3.out⟩⟩
      · have HJ3 := Lib.hid hJx'
        clear hJx' hy
        gi_wp2
        go_end0
        exact ⟨⟨_, rfl⟩, .inr ⟨_, by rw [HPP.out]; exact List.prefix_refl _, HJ3.out⟩⟩
/-- SplitSeq's iterator, as it is handed back: three cells of its own. -/
theorem split_is (s : ByteArray) (w : World) : Calls Tryd.prog 16 #[.string s, .string ⟨#[44]⟩] w fun e w' =>
    e = .returned (.func (.func 38) #[] #[.pointer (some ⟨w.heap.size + 1, 0, none⟩), .pointer (some ⟨w.heap.size, 0, none⟩), .pointer (some ⟨w.heap.size + 2, 0, none⟩)]) ∧ w'.heap[w.heap.size]? = some (.cells #[.string s] 9 (0, 0)) ∧
    w'.heap[w.heap.size + 1]? = some (.cells #[.string ⟨#[44]⟩] 9 (0, 0)) ∧ w'.heap[w.heap.size + 2]? = some (.cells #[.int .i64 0] 3 (0, 0)) ∧ w'.heap.size = w.heap.size + 3 ∧ Below w.heap.size w w' := by
  have H : Hid (∀ w, Calls Tryd.prog 28 #[.string s, .string ⟨#[44]⟩, .int .i64 0] w fun e w' => e = .returned (.func (.func 38) #[] #[.pointer (some ⟨w.heap.size + 1, 0, none⟩), .pointer (some ⟨w.heap.size, 0, none⟩), .pointer (some ⟨w.heap.size + 2, 0, none⟩)]) ∧ w' = ((w.alloc (.cells #[.string s] 9)).alloc (.cells #[.string ⟨#[44]⟩] 9)).alloc (.cells #[.int .i64 0] 3)) := by
    refine Lib.hid (fun w => ?_)
    go_enter Tryd.func28, Tryd.ntmps28
    go_wp2
    go_ret
    exact ⟨rfl, rfl⟩
  go_enter Tryd.func16, Tryd.ntmps16
  go_wp2_with fail
  go_at_call 28
  (with_reducible refine (H.out _).mono ?_)
  rintro e w' ⟨rfl, rfl⟩
  go_wp2
  go_ret
  have b1 : Below w.heap.size w (w.alloc (.cells #[.string s] 9)) := (Below.refl _ _).alloc (Nat.le_refl _) _
  have b2 : Below (w.alloc (.cells #[.string s] 9)).heap.size (w.alloc (.cells #[.string s] 9)) ((w.alloc (.cells #[.string s] 9)).alloc (.cells #[.string ⟨#[44]⟩] 9)) := (Below.refl _ _).alloc (Nat.le_refl _) _
  have b3 : Below ((w.alloc (.cells #[.string s] 9)).alloc (.cells #[.string ⟨#[44]⟩] 9)).heap.size _ (((w.alloc (.cells #[.string s] 9)).alloc (.cells #[.string ⟨#[44]⟩] 9)).alloc (.cells #[.int .i64 0] 3)) := (Below.refl _ _).alloc (Nat.le_refl _) _
  have z1 : (w.alloc (.cells #[.string s] 9)).heap.size = w.heap.size + 1 := by simp
  have z2 : ((w.alloc (.cells #[.string s] 9)).alloc (.cells #[.string ⟨#[44]⟩] 9)).heap.size = w.heap.size + 2 := by simp
  refine ⟨rfl, (b3.block _ (by rw [z2]; omega)).trans ((b2.block _ (by rw [z1]; omega)).trans (heap_new _ _)), (b3.block _ (by rw [z2]; omega)).trans (by have := heap_new (w.alloc (.cells #[.string s] 9)) (.cells #[.string ⟨#[44]⟩] 9); rwa [z1] at this), by have := heap_new ((w.alloc (.cells #[.string s] 9)).alloc (.cells #[.string ⟨#[44]⟩] 9)) (.cells #[.int .i64 0] 3); rwa [z2] at this, by simp, Below.step (Below.step b1 b2) b3⟩
end Go.Proofs.YtbplkeopdfciiaaDoor
