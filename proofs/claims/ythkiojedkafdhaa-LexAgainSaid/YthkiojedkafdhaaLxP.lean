/- The reader of package lex: what part hands back. Under the conditions that it names. -/
import Derived.Test.YthkiojedkafdhaaLxB
namespace Go.Proofs.Ythkiojedkafdhaa
open Go.RowKit Go.Shelf
/-- A token's kind, its text, whether it is closed, what is left, and the place. -/
structure PartR where
  kind : Int
  text : List UInt8
  ok : Bool
  rest : List UInt8
  at' : Int × Int
/-- What between leaves. -/
def btw (k : Int) (keep : Bool) (cl l : List UInt8) (n : Nat) (q : Int × Int) : PartR :=
  if cl.isPrefixOf (l.drop n) = true then ⟨k, if keep then l.take n else [], true, (l.drop n).drop cl.length, adv cl (adv (l.take n) q)⟩
  else ⟨k, [], false, l.drop n, adv (l.take n) q⟩
def pCom (l : List UInt8) (_ : Int) : Bool := [42, 47].isPrefixOf l
def pQuo (l : List UInt8) (_ : Int) : Bool := [34].isPrefixOf l || pEnd l
def partR (l : List UInt8) (q : Int × Int) : PartR := match l with
  | [] => ⟨0, [], false, [], q⟩
  | b :: r =>
    if sgn b.toNat ≠ 0 then ⟨sgn b.toNat, [b], true, r, stp b q⟩ else
    if pBlank (b :: r) = true then ⟨0, [], true, r, stp b q⟩ else
    if [35].isPrefixOf (b :: r) = true then ⟨0, [], true, (b :: r).drop (cntU (fun l _ => pEnd l) (b :: r) q), adv ((b :: r).take (cntU (fun l _ => pEnd l) (b :: r) q)) q⟩ else
    if [47, 42].isPrefixOf (b :: r) = true then btw 0 false [42, 47] ((b :: r).drop 2) (cntU pCom ((b :: r).drop 2) (adv [47, 42] q)) (adv [47, 42] q) else
    if [34].isPrefixOf (b :: r) = true then btw 1 true [34] ((b :: r).drop 1) (cntU pQuo ((b :: r).drop 1) (adv [34] q)) (adv [34] q) else
    ⟨1, (b :: r).take (cntU (fun l _ => pWord l) (b :: r) q), true, (b :: r).drop (cntU (fun l _ => pWord l) (b :: r) q), adv ((b :: r).take (cntU (fun l _ => pWord l) (b :: r) q)) q⟩
theorem pre_split {m a : List UInt8} (h : m.isPrefixOf a = true) : a = m ++ a.drop m.length := by
  conv => lhs; rw [← List.take_append_drop m.length a, (pre_drop h).1]
theorem gb_alloc (W : World) (o : Obj) (g : Nat) : W.grownBy (W.alloc o) (some g) := World.grownBy_alloc W o (some g)
/-- What part hands back. -/
def PartPost (x : PartR) (g : Nat) (W : World) (e : Ending) (w' : World) : Prop := e = .returned (.tuple #[.int .u8 x.kind, .string ⟨x.text.toArray⟩, .bool x.ok]) ∧ Rd w' g x.rest x.at'.1 x.at'.2 ∧ W.grownBy w' (some g)
set_option maxRecDepth 100000 in
set_option maxHeartbeats 8000000 in
theorem part_is (g : Nat) (b : UInt8) (r : List UInt8) (ln c : Int) (W : World) (h : Rd W g (b :: r) ln c) (hl : (b :: r).length ≤ 65536) (hln : 0 ≤ ln) (hln2 : ln ≤ 100000000) (hc : 0 ≤ c) (hc2 : c ≤ 100000000) :
    Calls Try.prog 13 #[.pointer (some ⟨g, 0, none⟩)] W (PartPost (partR (b :: r) (ln, c)) g W) := by
  obtain ⟨Z, hZ⟩ : ∃ Z, W.alloc (.cells #[.pointer (some ⟨g, 0, none⟩)] 43) = Z := ⟨_, rfl⟩
  have hgW := h.lt
  have hgz : W.grownBy Z (some g) := by rw [← hZ]; exact gb_alloc _ _ _
  have hbz : Z.heap[W.heap.size]? = some (.cells #[.pointer (some ⟨g, 0, none⟩)] 43 (0, 0)) := by rw [← hZ]; exact heap_alloc_new W _
  have hrz : Rd Z g (b :: r) ln c := by unfold Rd; rw [← hZ]; exact (heap_alloc_old _ _ hgW).trans h
  obtain ⟨kb, _⟩ := row_cell' (j := 0) hbz rfl
  have hbx : Bx Z W.heap.size g := kb
  have hne : W.heap.size ≠ g := by omega
  have HS := Lib.hid (sign_is g b r ln c Z hrz)
  have HB := Lib.hid (blank_is g (b :: r) ln c Z hrz (by omega))
  have H35 := Lib.hid (at_is g (b :: r) [35] ln c Z hrz (by omega))
  have H47 := Lib.hid (at_is g (b :: r) [47, 42] ln c Z hrz (by omega))
  have H34 := Lib.hid (at_is g (b :: r) [34] ln c Z hrz (by omega))
  have ht1 := take_is g (b :: r) ln c 1 Z hrz hl (by simp) hln (by omega) hc (by omega)
  have HT : Hid (Calls Try.prog 22 #[.pointer (some ⟨g, 0, none⟩), .int .i64 1] Z fun e w' => e = .returned (.string ⟨[b].toArray⟩) ∧ Rd w' g r (stp b (ln, c)).1 (stp b (ln, c)).2 ∧ Z.grownBy w' (some g)) := Lib.hid ht1
  have HGZ := Lib.hid hgz
  clear ht1 h
  by_cases h1 : sgn b.toNat ≠ 0
  · have HP : Hid (partR (b :: r) (ln, c) = ⟨sgn b.toNat, [b], true, r, stp b (ln, c)⟩) := Lib.hid (by simp only [partR]; rw [if_pos h1])
    obtain ⟨k, hk⟩ : ∃ k, sgn b.toNat = k := ⟨_, rfl⟩
    rw [hk] at HS HP h1
    have hk1 : (k != 0) = true := by simpa using h1
    clear hgz hbz hrz hbx hk h1
    go_enter Try.func13, Try.ntmps13
    go_wp2_with (first | (go_at_call 23; (refine HS.out.mono ?_); rintro e w1 ⟨rfl, rfl⟩) | (go_at_call 21; (refine HB.out.mono ?_); rintro e w1 ⟨rfl, rfl⟩) | (go_at_call 19; (with_reducible refine H35.out.mono ?_); rintro e w1 ⟨rfl, rfl⟩) | (go_at_call 19; (with_reducible refine H47.out.mono ?_); rintro e w1 ⟨rfl, rfl⟩) | (go_at_call 19; (with_reducible refine H34.out.mono ?_); rintro e w1 ⟨rfl, rfl⟩) | (go_at_call 22; (refine HT.out.mono ?_); rintro e w2 ⟨rfl, hr2, hb2⟩))
    go_ret3
    rw [HP.out]
    exact ⟨rfl, hr2, gb_trans HGZ.out hb2⟩
  · have h1' : sgn b.toNat = 0 := by simpa using h1
    rw [h1'] at HS
    by_cases h2 : pBlank (b :: r) = true
    · have HP : Hid (partR (b :: r) (ln, c) = ⟨0, [], true, r, stp b (ln, c)⟩) := Lib.hid (by simp only [partR]; rw [if_neg h1, if_pos h2])
      rw [h2] at HB
      clear hgz hbz hrz hbx h1 h1' h2
      go_enter Try.func13, Try.ntmps13
      go_wp2_with (first | (go_at_call 23; (refine HS.out.mono ?_); rintro e w1 ⟨rfl, rfl⟩) | (go_at_call 21; (refine HB.out.mono ?_); rintro e w1 ⟨rfl, rfl⟩) | (go_at_call 19; (with_reducible refine H35.out.mono ?_); rintro e w1 ⟨rfl, rfl⟩) | (go_at_call 19; (with_reducible refine H47.out.mono ?_); rintro e w1 ⟨rfl, rfl⟩) | (go_at_call 19; (with_reducible refine H34.out.mono ?_); rintro e w1 ⟨rfl, rfl⟩) | (go_at_call 22; (refine HT.out.mono ?_); rintro e w2 ⟨rfl, hr2, hb2⟩))
      go_ret3
      rw [HP.out]
      exact ⟨rfl, hr2, gb_trans HGZ.out hb2⟩
    · have h2' : pBlank (b :: r) = false := Bool.eq_false_iff.2 h2
      rw [h2'] at HB
      by_cases h3 : [35].isPrefixOf (b :: r) = true
      · have HP : Hid (partR (b :: r) (ln, c) = ⟨0, [], true, (b :: r).drop (cntU (fun l _ => pEnd l) (b :: r) (ln, c)), adv ((b :: r).take (cntU (fun l _ => pEnd l) (b :: r) (ln, c))) (ln, c)⟩) := Lib.hid (by simp only [partR]; rw [if_neg h1, if_neg h2, if_pos h3])
        rw [h3] at H35
        have hu := until_is g 20 #[.pointer (some ⟨g, 0, none⟩)] #[] (fun l _ => pEnd l) (fun _ => True) (fun _ _ _ _ => trivial) (enters_of Try.func20 (by kernel_rfl) rfl) (fun W l ln c _ hll h _ => lineEnd_is g l ln c W h (by omega)) (b :: r) ln c Z hrz trivial hl hln (by omega) hc (by omega)
        have HU := Lib.hid hu
        clear hgz hbz hrz hbx h1 h1' h2 h2' h3 hu
        go_enter Try.func13, Try.ntmps13
        go_wp2_with (first | (go_at_call 23; (refine HS.out.mono ?_); rintro e w1 ⟨rfl, rfl⟩) | (go_at_call 21; (refine HB.out.mono ?_); rintro e w1 ⟨rfl, rfl⟩) | (go_at_call 19; (with_reducible refine H35.out.mono ?_); rintro e w1 ⟨rfl, rfl⟩) | (go_at_call 19; (with_reducible refine H47.out.mono ?_); rintro e w1 ⟨rfl, rfl⟩) | (go_at_call 19; (with_reducible refine H34.out.mono ?_); rintro e w1 ⟨rfl, rfl⟩) | (go_at_call 15; (refine HU.out.mono ?_); rintro e w2 ⟨rfl, hr2, hb2⟩))
        go_ret3
        rw [HP.out]
        exact ⟨rfl, hr2, gb_trans HGZ.out hb2⟩
      · have h3' : [35].isPrefixOf (b :: r) = false := Bool.eq_false_iff.2 h3
        rw [h3'] at H35
        by_cases h4 : [47, 42].isPrefixOf (b :: r) = true
        · have HP : Hid (partR (b :: r) (ln, c) = btw 0 false [42, 47] ((b :: r).drop 2) (cntU pCom ((b :: r).drop 2) (adv [47, 42] (ln, c))) (adv [47, 42] (ln, c))) := Lib.hid (by simp only [partR]; rw [if_neg h1, if_neg h2, if_neg h3, if_pos h4])
          rw [h4] at H47
          have hsp := pre_split h4
          rw [hsp] at hrz
          have hb := between_is g 25 #[] #[.pointer (some ⟨W.heap.size, 0, none⟩)] pCom (fun A => Bx A W.heap.size g) (fun A B hh hj => Bx.on hne A B hh hj) (enters_of Try.func25 (by kernel_rfl) rfl) (fun A l ln c _ hll h hj => part1_is g W.heap.size l ln c A h hll hj) [47, 42] [42, 47] ((b :: r).drop 2) ln c Z hrz hbx (by rw [hsp] at hl; exact hl) hln (by omega) hc (by omega)
          have HBt := Lib.hid hb
          clear hgz hbz hrz hbx h1 h1' h2 h2' h3 h3' h4 hb hsp
          go_enter Try.func13, Try.ntmps13
          go_wp2_with (first | (go_at_call 23; (refine HS.out.mono ?_); rintro e w1 ⟨rfl, rfl⟩) | (go_at_call 21; (refine HB.out.mono ?_); rintro e w1 ⟨rfl, rfl⟩) | (go_at_call 19; (with_reducible refine H35.out.mono ?_); rintro e w1 ⟨rfl, rfl⟩) | (go_at_call 19; (with_reducible refine H47.out.mono ?_); rintro e w1 ⟨rfl, rfl⟩) | (go_at_call 19; (with_reducible refine H34.out.mono ?_); rintro e w1 ⟨rfl, rfl⟩) | (go_at_call 24; (refine HBt.out.mono ?_); rintro e w2 ⟨hb2, (⟨hq, rfl, hr2⟩ | ⟨hq, rfl, hr2⟩)⟩))
          all_goals
            have HQ := Lib.hid hq
            clear hq
            go_wp2
            go_ret3
            rw [HP.out]
          · refine ⟨?_, ?_, gb_trans HGZ.out hb2⟩
            · unfold btw; rw [if_pos HQ.out]; rfl
            · unfold btw; rw [if_pos HQ.out]; exact hr2
          · refine ⟨?_, ?_, gb_trans HGZ.out hb2⟩
            · unfold btw; rw [if_neg (by rw [HQ.out]; simp)]; rfl
            · unfold btw; rw [if_neg (by rw [HQ.out]; simp)]; exact hr2
        · have h4' : [47, 42].isPrefixOf (b :: r) = false := Bool.eq_false_iff.2 h4
          rw [h4'] at H47
          by_cases h5 : [34].isPrefixOf (b :: r) = true
          · have HP : Hid (partR (b :: r) (ln, c) = btw 1 true [34] ((b :: r).drop 1) (cntU pQuo ((b :: r).drop 1) (adv [34] (ln, c))) (adv [34] (ln, c))) := Lib.hid (by simp only [partR]; rw [if_neg h1, if_neg h2, if_neg h3, if_neg h4, if_pos h5])
            rw [h5] at H34
            have hsp := pre_split h5
            rw [hsp] at hrz
            have hb := between_is g 26 #[] #[.pointer (some ⟨W.heap.size, 0, none⟩)] pQuo (fun A => Bx A W.heap.size g) (fun A B hh hj => Bx.on hne A B hh hj) (enters_of Try.func26 (by kernel_rfl) rfl) (fun A l ln c _ hll h hj => part2_is g W.heap.size l ln c A h hll hj) [34] [34] ((b :: r).drop 1) ln c Z hrz hbx (by rw [hsp] at hl; exact hl) hln (by omega) hc (by omega)
            have HBt := Lib.hid hb
            clear hgz hbz hrz hbx h1 h1' h2 h2' h3 h3' h4 h4' h5 hb hsp
            go_enter Try.func13, Try.ntmps13
            go_wp2_with (first | (go_at_call 23; (refine HS.out.mono ?_); rintro e w1 ⟨rfl, rfl⟩) | (go_at_call 21; (refine HB.out.mono ?_); rintro e w1 ⟨rfl, rfl⟩) | (go_at_call 19; (with_reducible refine H35.out.mono ?_); rintro e w1 ⟨rfl, rfl⟩) | (go_at_call 19; (with_reducible refine H47.out.mono ?_); rintro e w1 ⟨rfl, rfl⟩) | (go_at_call 19; (with_reducible refine H34.out.mono ?_); rintro e w1 ⟨rfl, rfl⟩) | (go_at_call 24; (refine HBt.out.mono ?_); rintro e w2 ⟨hb2, (⟨hq, rfl, hr2⟩ | ⟨hq, rfl, hr2⟩)⟩))
            all_goals
              have HQ := Lib.hid hq
              clear hq
              go_wp2
              go_ret3
              rw [HP.out]
            · refine ⟨?_, ?_, gb_trans HGZ.out hb2⟩
              · unfold btw; rw [if_pos HQ.out]; rfl
              · unfold btw; rw [if_pos HQ.out]; exact hr2
            · refine ⟨?_, ?_, gb_trans HGZ.out hb2⟩
              · unfold btw; rw [if_neg (by rw [HQ.out]; simp)]; rfl
              · unfold btw; rw [if_neg (by rw [HQ.out]; simp)]; exact hr2
          · have h5' : [34].isPrefixOf (b :: r) = false := Bool.eq_false_iff.2 h5
            rw [h5'] at H34
            have HP : Hid (partR (b :: r) (ln, c) = ⟨1, (b :: r).take (cntU (fun l _ => pWord l) (b :: r) (ln, c)), true, (b :: r).drop (cntU (fun l _ => pWord l) (b :: r) (ln, c)), adv ((b :: r).take (cntU (fun l _ => pWord l) (b :: r) (ln, c))) (ln, c)⟩) := Lib.hid (by simp only [partR]; rw [if_neg h1, if_neg h2, if_neg h3, if_neg h4, if_neg h5])
            have hu := until_is g 27 #[.pointer (some ⟨g, 0, none⟩)] #[] (fun l _ => pWord l) (fun _ => True) (fun _ _ _ _ => trivial) (enters_of Try.func27 (by kernel_rfl) rfl)
              (fun W l ln c hne hll h _ => by
                cases l with
                | nil => exact absurd rfl hne
                | cons b' r' => exact wordEnd_is g b' r' ln c W h hll) (b :: r) ln c Z hrz trivial hl hln (by omega) hc (by omega)
            have HU := Lib.hid hu
            clear hgz hbz hrz hbx h1 h1' h2 h2' h3 h3' h4 h4' h5 h5' hu
            go_enter Try.func13, Try.ntmps13
            go_wp2_with (first | (go_at_call 23; (refine HS.out.mono ?_); rintro e w1 ⟨rfl, rfl⟩) | (go_at_call 21; (refine HB.out.mono ?_); rintro e w1 ⟨rfl, rfl⟩) | (go_at_call 19; (with_reducible refine H35.out.mono ?_); rintro e w1 ⟨rfl, rfl⟩) | (go_at_call 19; (with_reducible refine H47.out.mono ?_); rintro e w1 ⟨rfl, rfl⟩) | (go_at_call 19; (with_reducible refine H34.out.mono ?_); rintro e w1 ⟨rfl, rfl⟩) | (go_at_call 15; (refine HU.out.mono ?_); rintro e w2 ⟨rfl, hr2, hb2⟩))
            go_ret3
            rw [HP.out]
            exact ⟨rfl, hr2, gb_trans HGZ.out hb2⟩
end Go.Proofs.Ythkiojedkafdhaa
