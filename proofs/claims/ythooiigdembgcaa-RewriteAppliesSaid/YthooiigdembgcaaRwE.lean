/- What repeats of package rewrite does: whether one ahead is of the same kind and has the same filter. Under the conditions that it names. -/
import Derived.Test.YthooiigdembgcaaShelf
import Derived.Test.YthooiigdembgcaaRwD
namespace Go.Proofs.Ythooiigdembgcaa
open Go.RowKit Go.Shelf
instance instW : Inhabited RewD := ⟨⟨false, ⟨#[]⟩, 0⟩⟩
/-- Is a rewrite of one kind with another, with its filter? -/
def repB (r q : RewD) : Bool := (q.dest == r.dest) && sEq q.flt r.flt
theorem rep_pred (dest : Bool) (flt : ByteArray) (aim : Int) (B : Nat) (w : World) (hB : B < w.heap.size) (h0 : w.cell? ⟨B, 0, none⟩ = some (.bool dest)) (h1 : w.cell? ⟨B, 1, none⟩ = some (.string flt)) :
    PredBelow Try.prog 42 #[.pointer (some ⟨B, 0, none⟩)] (fun x => .agg (encW x).toArray) (fun x => repB ⟨dest, flt, aim⟩ x) w := fun W x hb => by
  have c0 : W.cell? ⟨B, 0, none⟩ = some (.bool dest) := (hb.cell (p := ⟨B, 0, none⟩) hB).trans h0
  have c1 : W.cell? ⟨B, 1, none⟩ = some (.string flt) := (hb.cell (p := ⟨B, 1, none⟩) hB).trans h1
  have hBW : B < W.heap.size := Nat.lt_of_lt_of_le hB hb.size
  have hne : ¬ B = W.heap.size := by omega
  obtain ⟨xd, xf, xa⟩ := x
  show Calls Try.prog 42 #[.agg #[.bool xd, .string xf, .int .u32 xa], .pointer (some ⟨B, 0, none⟩)] W _
  obtain ⟨q, hq⟩ : ∃ q, (xd == dest) = q := ⟨_, rfl⟩
  obtain ⟨s, hs⟩ : ∃ s, (xf.toList == flt.toList) = s := ⟨_, rfl⟩
  have HE : Hid (repB ⟨dest, flt, aim⟩ ⟨xd, xf, xa⟩ = (q && s)) := Lib.hid (by unfold repB sEq; rw [← hq, ← hs])
  have HB := Lib.hid hb
  clear hb h0 h1
  cases q <;> cases s
  all_goals
    go_enter Try.func42, Try.ntmps42
    go_wp2
    go_ret
    exact ⟨ret_bool (by rw [HE.out]; rfl), HB.out.alloc HB.out.size _⟩
set_option maxHeartbeats 1000000 in
theorem repeats_is (ws : List RewD) (dest : Bool) (flt : ByteArray) (aim : Int) (b o n c : Nat) (w : World) (hn : n ≤ ws.length) (hbig : ws.length ≤ 9223372036854775807) (hb : b < w.heap.size)
    (hc : ∀ i s, ws[i]? = some s → ∀ j u, (encW s)[j]? = some u → w.cell? ⟨b, o + i * 3 + j, none⟩ = some u) :
    Calls Try.prog 37 #[.slice (some ⟨b, o, none⟩) n c, .agg #[.bool dest, .string flt, .int .u32 aim]] w fun e w' => e = .returned (.bool ((ws.take n).any (repB ⟨dest, flt, aim⟩))) ∧ Below w.heap.size w w' := by
  have eg : ∀ args w, (callFunc 42 args).run Try.prog w = .ok (.enter 42 args) w := enters_of Try.func42 (by kernel_rfl) rfl
  have hcon := AnyQ.slices_ContainsFunc Try.hasL 3 Try.isAgg57 Try.sizeOf57 encW (fun _ => rfl) (fun x => repB ⟨dest, flt, aim⟩ x) 42 #[.pointer (some ⟨w.heap.size, 0, none⟩)] eg b o n c ws (w.alloc (.cells #[.bool dest, .string flt, .int .u32 aim] 57))
    (rep_pred dest flt aim w.heap.size _ (by simp) (by simp) (by simp)) hn (by omega) (by simp; omega) (fun j hj i v hi => by
      refine Lib.cell?_alloc_some _ ?_
      exact hc j ws[j]! (by rw [List.getElem?_eq_getElem hj, List.getElem!_eq_getElem?_getD, List.getElem?_eq_getElem hj]; rfl) i v hi)
  change Calls Try.prog 41 _ _ _ at hcon
  clear hc
  obtain ⟨z, hz⟩ : ∃ z, (ws.take n).any (fun x => repB ⟨dest, flt, aim⟩ x) = z := ⟨_, rfl⟩
  rw [hz] at hcon
  rw [show (ws.take n).any (repB ⟨dest, flt, aim⟩) = z from hz]
  go_enter Try.func37, Try.ntmps37
  go_wp2_with (go_at_call 41; (with_reducible refine hcon.mono ?_); rintro e w' ⟨rfl, hb'⟩)
  go_ret
  exact ⟨rfl, ((Below.refl _ w).alloc (Nat.le_refl _) _).trans (hb'.mono (by simp))⟩
end Go.Proofs.Ythooiigdembgcaa
