/- What trie.Cover hands back: what covers the tree of all prefixes that may be. Under the conditions that it names. -/
import Derived.Test.YtodfimnmbfdicaaTpG
namespace Go.Proofs.Ytodfimnmbfdicaa
open Go.RowKit Go.Shelf
theorem with_is_s : ∀ t : Tr Unit, With_s t
  | .nil => with_nil_s
  | .node a n u l r => with_node_s a n u l r (with_is_s l) (with_is_s r)
theorem cover_is : ∀ t : Tr Unit, CoverC t
  | .nil => cover_nil
  | .node a n (some v) l r => cover_some a n v l r
  | .node a n none l r => cover_none a n l r (cover_is l) (cover_is r)
theorem Tr.sz_ins {V : Type} (b m : Int) (v : V) : ∀ t : Tr V, (t.ins b m v).sz ≤ t.sz + 1
  | .nil => by simp [Tr.ins, Tr.sz]
  | .node a n u l r => by
    have h1 := Tr.sz_ins b m v l
    have h2 := Tr.sz_ins b m v r
    unfold Tr.ins
    repeat' split
    all_goals (simp [Tr.sz]; try omega)
/-- The tree of all prefixes of a list that may be. -/
def addP (T : Tr Unit) (x : Int × Int) : Tr Unit := if ck x.1 x.2 = 0 then T.ins x.1 x.2 () else T
def build (l : List (Int × Int)) : Tr Unit := l.foldl addP .nil
theorem build_step {l : List (Int × Int)} {j : Nat} {x : Int × Int} (h : l[j]? = some x) : build (l.take (j + 1)) = addP (build (l.take j)) x := by
  rw [List.take_add_one, h]
  simp [build]
theorem build_sz (l : List (Int × Int)) : (build l).sz ≤ l.length := by
  have key : ∀ (l : List (Int × Int)) (T : Tr Unit), (l.foldl addP T).sz ≤ T.sz + l.length := by
    intro l
    induction l with
    | nil => intro T; exact Nat.le_refl _
    | cons x l ih =>
      intro T
      have h1 := ih (addP T x)
      have h2 : (addP T x).sz ≤ T.sz + 1 := by
        unfold addP
        split
        · exact Tr.sz_ins _ _ _ _
        · omega
      simp only [List.foldl_cons, List.length_cons]
      omega
  have := key l .nil
  simpa [build, Tr.sz] using this
set_option maxRecDepth 100000 in
set_option maxHeartbeats 4000000 in
theorem cover_fn (l : List (Int × Int)) (lv : Value) (w : World) (hr : RdK encP 2 w lv l) (hl : l.length ≤ 1000) (hrg : ∀ x ∈ l, 0 ≤ x.1 ∧ x.1 < 4294967296) : Calls Try.prog 22 #[lv] w fun e w' => ∃ v', e = .returned v' ∧ w'.ownsRow w.heap.size 34 2 v' (Tr.cover (build l)).length (flatK encP (Tr.cover (build l))) ∧ Below w.heap.size w w' := by
  obtain ⟨p, c, rfl, hlc, hcm, hp⟩ := hr.sl
  have HP := Lib.hid hp; have HRG := Lib.hid hrg
  clear hp hrg hr
  unfold maxLen at hcm
  go_enter Try.func22, Try.ntmps22
  go_wp2_with fail
  go_at_call 45
  refine (new_is_s w).mono ?_
  rintro e w1 ⟨t, r, rfl, ht, hr, htab, hb1⟩
  have HT := Lib.hid htab; have HB1 := Lib.hid hb1
  clear htab hb1
  go_wp2_with fail
  go_loopw [9] (fun i wr => ∃ j : Nat, j ≤ l.length ∧ i = .int .i64 j ∧ Hid (∃ L, TabAt_s wr t r L (build (l.take j))) ∧ Hid (Below w.heap.size w wr)) (fun i _ => l.length - (intOf i).toNat)
  case atStart => exact ⟨0, Nat.zero_le _, rfl, Lib.hid ⟨_, HT.out⟩, HB1⟩
  case round =>
    obtain ⟨j, hj, rfl, HTJ, HBJ⟩ := hrel
    have e1 : (0 : Int) ≤ (j : Int) := by omega
    by_cases hlt : j < l.length
    · obtain ⟨x, hx⟩ : ∃ x, l[j]? = some x := ⟨_, List.getElem?_eq_getElem hlt⟩
      obtain ⟨b, o, rfl, hbs, hc⟩ := HP.out j x hx
      obtain ⟨x0, x1⟩ := x
      have hc := hc wr HBJ.out
      have c0 : wr.cell? ⟨b, o + j * 2, none⟩ = some (.int .u32 x0) := hc 0 _ rfl
      have c1 : wr.cell? ⟨b, o + j * 2 + 1, none⟩ = some (.int .i64 x1) := hc 1 _ rfl
      have hrx := HRG.out _ (List.mem_of_getElem? hx)
      have HX := Lib.hid hx
      have e2 : (j : Int) < (l.length : Int) := by omega
      have HZ : Hid (Below wr.heap.size wr (wr.alloc (.cells #[.int .u32 x0, .int .i64 x1] 34))) := Lib.hid ((Below.refl _ _).alloc (Nat.le_refl _) _)
      have HRX := Lib.hid hrx
      clear hc hrx hx
      go_wp2_with fail
      go_at_call 46
      by_cases hk : ck x0 x1 = 0
      · obtain ⟨L, hL⟩ := HTJ.out
        refine (put_is_s with_is_s t r L _ x0 x1 () _ (hL.on HZ.out) ⟨HRX.out.1, HRX.out.2, hk⟩).mono ?_
        rintro e w5 ⟨rfl, htab, hkeep⟩
        have HT5 : Hid (∃ L, TabAt_s w5 t r L (build (l.take (j + 1)))) := Lib.hid ⟨_, by rw [build_step HX.out]; unfold addP; rw [if_pos hk]; exact htab⟩
        have HB5 : Hid (Below w.heap.size w w5) := Lib.hid ((HBJ.out.alloc HBJ.out.size _).trans (hkeep.below ht hr (by have := HBJ.out.size; simp; omega)))
        clear htab hkeep
        go_wp2_with fail
        go_roundw
        case rel => exact ⟨j + 1, by omega, by go_num, HT5, HB5⟩
        case measure => simp [intOf]; omega
      · refine (put_bad_s _ x0 x1 _ () _ HRX.out.1 HRX.out.2 rfl hk).mono ?_
        rintro e w5 ⟨rfl, hb5⟩
        have HT5 : Hid (∃ L, TabAt_s w5 t r L (build (l.take (j + 1)))) := Lib.hid (by
          obtain ⟨L, hL⟩ := HTJ.out
          exact ⟨L, by rw [build_step HX.out]; unfold addP; rw [if_neg hk]; exact (hL.on HZ.out).on hb5⟩)
        have HB5 : Hid (Below w.heap.size w w5) := Lib.hid (Below.step (HBJ.out.alloc HBJ.out.size _) hb5)
        clear hb5
        go_wp2_with fail
        go_roundw
        case rel => exact ⟨j + 1, by omega, by go_num, HT5, HB5⟩
        case measure => simp [intOf]; omega
    · have hdd : decide ((j : Int) < (l.length : Int)) = false := by simp; omega
      have hjl : j = l.length := by omega
      obtain ⟨L, hL⟩ := HTJ.out
      rw [hjl, List.take_length] at hL
      obtain ⟨root, hrow, hnd⟩ := hL.row
      have c1 : wr.cell? ⟨t, 1, none⟩ = some (.pointer root) := row_cell hrow 1
      have HC := Lib.hid (cover_is (build l) (fun x => x < wr.heap.size) root wr.heap.size 0 (.slice none 0 0) [] wr hL.ok (TrAt.keep (fun x hx _ => ⟨hx, rfl⟩) hnd) (fun x h => h) (Nat.le_refl _) ⟨rfl, .inl ⟨rfl, rfl⟩⟩ (by have := build_sz l; omega))
      clear hL hrow hnd
      go_wp2_with fail
      go_at_call 47
      refine HC.out.mono ?_
      rintro e w5 ⟨v', rfl, ho, hb5⟩
      have HO := Lib.hid ho; have HB5 := Lib.hid hb5
      clear ho hb5
      go_wp2_with fail
      go_ret
      exact ⟨v', rfl, ownsRow_base (by simpa using HO.out) HBJ.out.size, Below.step HBJ.out HB5.out⟩
end Go.Proofs.Ytodfimnmbfdicaa
