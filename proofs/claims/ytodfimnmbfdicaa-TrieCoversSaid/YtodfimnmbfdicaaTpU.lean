/- A table of prefixes, each with its place as its value: laid. Under the conditions that it names. -/
import Derived.Test.YtodfimnmbfdicaaTpT
import Derived.Test.YtodfimnmbfdicaaTpK
import Derived.Test.YtodfimnmbfdicaaTpF
namespace Go.Proofs.Ytodfimnmbfdicaa
open Go.RowKit Go.Shelf
/-- A list and a tree that hold the first j prefixes of l that may be, each with its last place. -/
structure LaidOf (l : List (Int × Int)) (j : Nat) (L : List Kv) (T : Tr Int) : Prop where
  same : ∀ (b m v : Int), getL (b, m) L = some v ↔ T.Has b m v
  from_ : ∀ (b m v : Int), T.Has b m v → ∃ i : Nat, v = i ∧ i < j ∧ l[i]? = some (b, m) ∧ ck b m = 0
  to_ : ∀ (i : Nat) (b m : Int), i < j → l[i]? = some (b, m) → ck b m = 0 → ∃ v, T.Has b m v
theorem LaidOf.zero (l : List (Int × Int)) : LaidOf l 0 [] .nil := ⟨fun b m v => by simp [getL, Tr.Has], fun b m v h => h.elim, fun i b m h => by omega⟩
theorem LaidOf.put {l : List (Int × Int)} {j : Nat} {L : List Kv} {T : Tr Int} {b m : Int} (h : LaidOf l j L T) (hx : l[j]? = some (b, m)) (hok : T.Ok) (hbm : PfOk b m) : LaidOf l (j + 1) (putL (b, m) (j : Int) L) (T.ins b m j) := by
  have hi := fun x y z => Tr.has_ins (v := (j : Int)) hbm x y z hok
  refine ⟨fun x y z => ?_, fun x y z hz => ?_, fun i x y hij hl hk => ?_⟩
  · rw [getL_putL, hi]
    by_cases e : (b, m) = (x, y)
    · obtain ⟨rfl, rfl⟩ := Prod.mk.inj e
      rw [if_pos rfl]
      simp only [Option.some.injEq]
      constructor
      · intro h; exact .inl ⟨trivial, trivial, h.symm⟩
      · rintro (⟨_, _, h⟩ | ⟨h, _⟩)
        · exact h.symm
        · exact absurd ⟨trivial, trivial⟩ h
    · rw [if_neg e, h.same]
      constructor
      · intro h2; exact .inr ⟨fun e2 => e (by rw [e2.1, e2.2]), h2⟩
      · rintro (⟨e1, e2, _⟩ | ⟨_, h2⟩)
        · exact absurd (by rw [e1, e2]) e
        · exact h2
  · rcases (hi x y z).1 hz with ⟨rfl, rfl, rfl⟩ | ⟨_, h2⟩
    · exact ⟨j, rfl, by omega, hx, hbm.2.2⟩
    · obtain ⟨i, h3, h4, h5, h6⟩ := h.from_ x y z h2
      exact ⟨i, h3, by omega, h5, h6⟩
  · by_cases e : x = b ∧ y = m
    · exact ⟨j, (hi x y j).2 (.inl ⟨e.1, e.2, rfl⟩)⟩
    · have hij' : i < j := by
        rcases Nat.lt_or_ge i j with h2 | h2
        · exact h2
        · have : i = j := by omega
          subst this
          rw [hx] at hl
          obtain ⟨e1, e2⟩ := Prod.mk.inj (Option.some.inj hl)
          exact absurd ⟨e1.symm, e2.symm⟩ e
      obtain ⟨v, hv⟩ := h.to_ i x y hij' hl hk
      exact ⟨v, (hi x y v).2 (.inr ⟨e, hv⟩)⟩
theorem LaidOf.skip {l : List (Int × Int)} {j : Nat} {L : List Kv} {T : Tr Int} {b m : Int} (h : LaidOf l j L T) (hx : l[j]? = some (b, m)) (hk : ck b m ≠ 0) : LaidOf l (j + 1) L T := by
  refine ⟨h.same, fun x y z hz => ?_, fun i x y hij hl hk2 => ?_⟩
  · obtain ⟨i, h3, h4, h5, h6⟩ := h.from_ x y z hz
    exact ⟨i, h3, by omega, h5, h6⟩
  · refine h.to_ i x y ?_ hl hk2
    rcases Nat.lt_or_ge i j with h2 | h2
    · exact h2
    · have : i = j := by omega
      subst this
      rw [hx] at hl
      obtain ⟨rfl, rfl⟩ := Prod.mk.inj (Option.some.inj hl)
      exact absurd hk2 hk
set_option maxRecDepth 100000 in
set_option maxHeartbeats 4000000 in
theorem laid_is (l : List (Int × Int)) (lv : Value) (w : World) (hr : RdK encP 2 w lv l) (hl : l.length ≤ 200) (hrg : ∀ x ∈ l, 0 ≤ x.1 ∧ x.1 < 4294967296) : Calls Try.prog 24 #[lv] w fun e w' => ∃ (t r : Nat) (L : List Kv) (T : Tr Int), e = .returned (.pointer (some ⟨t, 0, none⟩)) ∧ TabAt_i w' t r L T ∧ LaidOf l l.length L T ∧ w.heap.size ≤ t ∧ w.heap.size ≤ r ∧ Below w.heap.size w w' := by
  obtain ⟨p, c, rfl, hlc, hcm, hp⟩ := hr.sl
  have HP := Lib.hid hp; have HRG := Lib.hid hrg
  clear hp hrg hr
  unfold maxLen at hcm
  go_enter Try.func24, Try.ntmps24
  go_wp2_with fail
  go_at_call 8
  refine (new_is_i w).mono ?_
  rintro e w1 ⟨t, r, rfl, ht, hr, htab, hb1⟩
  have HT := Lib.hid htab; have HB1 := Lib.hid hb1
  clear htab hb1
  go_wp2_with fail
  go_loopw [4] (fun i wr => ∃ j : Nat, j ≤ l.length ∧ i = .int .i64 j ∧ Hid (∃ L T, TabAt_i wr t r L T ∧ LaidOf l j L T) ∧ Hid (Below w.heap.size w wr)) (fun i _ => l.length - (intOf i).toNat)
  case atStart => exact ⟨0, Nat.zero_le _, rfl, Lib.hid ⟨_, _, HT.out, LaidOf.zero l⟩, HB1⟩
  case round =>
    obtain ⟨j, hj, rfl, HTJ, HBJ⟩ := hrel
    have e1 : (0 : Int) ≤ (j : Int) := by omega
    by_cases hlt : j < l.length
    · obtain ⟨x, hx⟩ : ∃ x, l[j]? = some x := ⟨_, List.getElem?_eq_getElem hlt⟩
      obtain ⟨b, o, rfl, hbs, hc⟩ := HP.out j x hx
      obtain ⟨x0, x1⟩ := x
      have hc := hc wr HBJ.out
      have c0 : wr.cell? ⟨b, o + j * 2, none⟩ = some (.int .u32 x0) := hc 0 _ rfl
      have c1 : wr.cell? ⟨b, o + j * 2 + 1, none⟩ = some (.int .i64 x1) := hc 1 _ rfl
      have hrx := HRG.out _ (List.mem_of_getElem? hx)
      have HX := Lib.hid hx
      have e2 : (j : Int) < (l.length : Int) := by omega
      have e3 : (j : Int) < 200 := by omega
      have HRX := Lib.hid hrx
      clear hc hrx hx
      go_wp2_with fail
      go_at_call 11
      by_cases hk : ck x0 x1 = 0
      · obtain ⟨L, T, hL, hla⟩ := HTJ.out
        refine (put_is_i with_is_i t r L T x0 x1 j _ hL ⟨HRX.out.1, HRX.out.2, hk⟩).mono ?_
        rintro e w5 ⟨rfl, htab, hkeep⟩
        have HT5 : Hid (∃ L T, TabAt_i w5 t r L T ∧ LaidOf l (j + 1) L T) := Lib.hid ⟨_, _, htab, hla.put HX.out hL.ok ⟨HRX.out.1, HRX.out.2, hk⟩⟩
        have HB5 : Hid (Below w.heap.size w w5) := Lib.hid (HBJ.out.trans (hkeep.below ht hr HBJ.out.size))
        clear htab hkeep
        go_wp2_with fail
        go_roundw
        case rel => exact ⟨j + 1, by omega, by go_num, HT5, HB5⟩
        case measure => simp [intOf]; omega
      · refine (put_bad_i _ x0 x1 _ j _ HRX.out.1 HRX.out.2 rfl hk).mono ?_
        rintro e w5 ⟨rfl, hb5⟩
        have HT5 : Hid (∃ L T, TabAt_i w5 t r L T ∧ LaidOf l (j + 1) L T) := Lib.hid (by
          obtain ⟨L, T, hL, hla⟩ := HTJ.out
          exact ⟨L, T, hL.on hb5, hla.skip HX.out hk⟩)
        have HB5 : Hid (Below w.heap.size w w5) := Lib.hid (Below.step HBJ.out hb5)
        clear hb5
        go_wp2_with fail
        go_roundw
        case rel => exact ⟨j + 1, by omega, by go_num, HT5, HB5⟩
        case measure => simp [intOf]; omega
    · have hdd : decide ((j : Int) < (l.length : Int)) = false := by simp; omega
      have hjl : j = l.length := by omega
      obtain ⟨L, T, hL, hla⟩ := HTJ.out
      have HL := Lib.hid hL; have HLA := Lib.hid (hjl ▸ hla)
      clear hL hla hjl
      go_wp2_with fail
      go_ret
      exact ⟨t, r, L, T, rfl, HL.out, HLA.out, ht, hr, HBJ.out⟩
end Go.Proofs.Ytodfimnmbfdicaa
