/- The reader of package lex: between, and what the two functions in part hand back. Under the conditions that they name. -/
import Derived.Test.YthkiojedkafdhaaLxS
namespace Go.Proofs.Ythkiojedkafdhaa
open Go.RowKit Go.Shelf
theorem adv_app : ∀ (a b : List UInt8) (q : Int × Int), adv (a ++ b) q = adv b (adv a q)
  | [], _, _ => rfl
  | _ :: a, b, q => adv_app a b _
theorem pre_drop {m a : List UInt8} (h : m.isPrefixOf a = true) : a.take m.length = m ∧ m.length ≤ a.length := by
  have hp := List.isPrefixOf_iff_prefix.1 h
  exact ⟨(List.prefix_iff_eq_take.1 hp).symm, hp.length_le⟩
/-- What between hands back, of what stands behind the opening mark. -/
def BtwPost (cl l : List UInt8) (n : Nat) (q : Int × Int) (g : Nat) (W : World) (e : Ending) (w' : World) : Prop := W.grownBy w' (some g) ∧
  ((cl.isPrefixOf (l.drop n) = true ∧ e = .returned (.tuple #[.string ⟨(l.take n).toArray⟩, .bool true]) ∧ Rd w' g ((l.drop n).drop cl.length) (adv cl (adv (l.take n) q)).1 (adv cl (adv (l.take n) q)).2) ∨
   (cl.isPrefixOf (l.drop n) = false ∧ e = .returned (.tuple #[.string ⟨#[]⟩, .bool false]) ∧ Rd w' g (l.drop n) (adv (l.take n) q).1 (adv (l.take n) q).2))
set_option maxRecDepth 100000 in
set_option maxHeartbeats 4000000 in
theorem between_is (g fk : Nat) (fst cap : Array Value) (p : List UInt8 → Int → Bool) (J : World → Prop) (hJ : ∀ A B, A.grownBy B (some g) → J A → J B) (hg : ∀ args w, (callFunc fk args).run Try.prog w = .ok (.enter fk args) w)
    (hp : ∀ (W : World) (l : List UInt8) (ln c : Int), l ≠ [] → l.length ≤ 65536 → Rd W g l ln c → J W → Calls Try.prog fk (fst ++ cap) W fun e w' => e = .returned (.bool (p l ln)) ∧ W = w')
    (op cl l : List UInt8) (ln c : Int) (W : World) (h : Rd W g (op ++ l) ln c) (h0 : J W) (hl : (op ++ l).length ≤ 65536) (hln : 0 ≤ ln) (hln2 : ln ≤ 100000000) (hc : 0 ≤ c) (hc2 : c ≤ 100000000) :
    Calls Try.prog 24 #[.pointer (some ⟨g, 0, none⟩), .string ⟨op.toArray⟩, .string ⟨cl.toArray⟩, .func (.func fk) fst cap] W (BtwPost cl l (cntU p l (adv op (ln, c))) (adv op (ln, c)) g W) := by
  have ht := take_is g (op ++ l) ln c op.length W h hl (by simp) hln (by omega) hc (by omega)
  have e1 : (op ++ l).take op.length = op := List.take_left
  have e2 : (op ++ l).drop op.length = l := List.drop_left
  rw [e1, e2] at ht
  have hbd := adv_bound op (ln, c) hln hc
  obtain ⟨u, v, huv⟩ : ∃ u v, adv op (ln, c) = (u, v) := ⟨_, _, rfl⟩
  rw [huv] at ht hbd ⊢
  simp only at ht hbd
  have hol : op.length ≤ 65536 := by simp at hl; omega
  have hll : l.length ≤ 65536 := by simp at hl; omega
  obtain ⟨b1, b2, b3, b4⟩ := hbd
  have hso := mk_size op
  have hsc := mk_size cl
  obtain ⟨n, hn⟩ : ∃ n, cntU p l (u, v) = n := ⟨_, rfl⟩
  have hnl : n ≤ l.length := by rw [← hn]; exact cntU_le _ _ _
  rw [hn]
  have HT := Lib.hid ht
  have HU := Lib.hid (fun W1 (h1 : Rd W1 g l u v) (hj : J W1) => until_is g fk fst cap p J hJ hg hp l u v W1 h1 hj hll b1 (by omega) b3 (by omega))
  have HJ := Lib.hid hJ; have HJ0 := Lib.hid h0; have HN := Lib.hid hn
  clear ht e1 e2 huv h h0 hJ hg hp hn
  go_enter Try.func24, Try.ntmps24
  go_wp2_with fail
  go_at_call 22
  refine HT.out.mono ?_
  rintro e w1 ⟨rfl, hr1, hb1⟩
  go_wp2_with fail
  go_at_call 15
  refine (HU.out w1 hr1 (HJ.out _ _ hb1 HJ0.out)).mono ?_
  rw [HN.out]
  rintro e w2 ⟨rfl, hr2, hb2⟩
  have hb02 := gb_trans hb1 hb2
  have hbd := adv_bound (l.take n) (u, v) b1 b3
  have htl : (l.take n).length = n := by rw [List.length_take]; omega
  rw [htl] at hbd
  have HQ : Hid (adv (l.take n) (u, v) = adv (l.take n) (u, v)) := Lib.hid rfl
  obtain ⟨u2, v2, huv2⟩ : ∃ u2 v2, adv (l.take n) (u, v) = (u2, v2) := ⟨_, _, rfl⟩
  rw [huv2] at hr2 hbd
  simp only at hr2 hbd
  obtain ⟨d1, d2, d3, d4⟩ := hbd
  have hdl : (l.drop n).length = l.length - n := List.length_drop
  have HUV := Lib.hid huv2
  have HA := Lib.hid (at_is g (l.drop n) cl u2 v2 w2 hr2 (by omega))
  cases hpre : cl.isPrefixOf (l.drop n) with
  | true =>
    obtain ⟨e3, e4⟩ := pre_drop hpre
    have ht2 := take_is g (l.drop n) u2 v2 cl.length w2 hr2 (by omega) e4 d1 (by omega) d3 (by omega)
    rw [e3] at ht2
    rw [hpre] at HA
    have HT2 := Lib.hid ht2
    have HPRE := Lib.hid hpre
    clear ht2 hr2 hpre huv2 e3 htl
    go_wp2_with (first | (go_at_call 19; (refine HA.out.mono ?_); rintro e w3 ⟨rfl, rfl⟩) | (go_at_call 22; (refine HT2.out.mono ?_); rintro e w4 ⟨rfl, hr4, hb4⟩))
    go_ret2
    exact ⟨gb_trans hb02 hb4, .inl ⟨HPRE.out, rfl, by rw [HUV.out]; exact hr4⟩⟩
  | false =>
    rw [hpre] at HA
    have HPRE := Lib.hid hpre
    have HR2 := Lib.hid hr2
    clear hr2 hpre huv2 htl
    go_wp2_with (go_at_call 19; (refine HA.out.mono ?_); rintro e w3 ⟨rfl, rfl⟩)
    go_ret2
    exact ⟨hb02, .inr ⟨HPRE.out, rfl, by rw [HUV.out]; exact HR2.out⟩⟩
/-- A box that holds the reader. -/
def Bx (W : World) (bx g : Nat) : Prop := W.cell? ⟨bx, 0, none⟩ = some (.pointer (some ⟨g, 0, none⟩))
theorem Bx.on {bx g : Nat} (hne : bx ≠ g) (A B : World) (h : A.grownBy B (some g)) (hb : Bx A bx g) : Bx B bx g :=
  (World.cell?_of_block (h.block bx (block_lt_of_cell hb) (fun e => hne (by cases e; rfl)))).trans hb
theorem part1_is (g bx : Nat) (l : List UInt8) (ln c : Int) (W : World) (h : Rd W g l ln c) (hl : l.length ≤ 65536) (hb : Bx W bx g) :
    Calls Try.prog 25 #[.pointer (some ⟨bx, 0, none⟩)] W fun e w' => e = .returned (.bool ([42, 47].isPrefixOf l)) ∧ W = w' := by
  have H := Lib.hid (at_is g l [42, 47] ln c W h (by omega))
  unfold Bx at hb
  obtain ⟨y, hy⟩ : ∃ y, [42, 47].isPrefixOf l = y := ⟨_, rfl⟩
  rw [hy] at H ⊢
  clear h hy
  go_enter Try.func25, Try.ntmps25
  go_wp2_with (go_at_call 19; (refine H.out.mono ?_); rintro e w1 ⟨rfl, rfl⟩)
  go_ret
  exact ⟨rfl, rfl⟩
theorem part2_is (g bx : Nat) (l : List UInt8) (ln c : Int) (W : World) (h : Rd W g l ln c) (hl : l.length ≤ 65536) (hb : Bx W bx g) :
    Calls Try.prog 26 #[.pointer (some ⟨bx, 0, none⟩)] W fun e w' => e = .returned (.bool ([34].isPrefixOf l || pEnd l)) ∧ W = w' := by
  have H := Lib.hid (at_is g l [34] ln c W h (by omega))
  have H2 := Lib.hid (lineEnd_is g l ln c W h (by omega))
  unfold Bx at hb
  obtain ⟨y, hy⟩ : ∃ y, [34].isPrefixOf l = y := ⟨_, rfl⟩
  obtain ⟨z, hz⟩ : ∃ z, pEnd l = z := ⟨_, rfl⟩
  rw [hy] at H ⊢
  rw [hz] at H2 ⊢
  clear h hy hz
  cases y
  all_goals
    go_enter Try.func26, Try.ntmps26
    go_wp2_with (first | (go_at_call 19; (refine H.out.mono ?_); rintro e w1 ⟨rfl, rfl⟩) | (go_at_call 20; (refine H2.out.mono ?_); rintro e w1 ⟨rfl, rfl⟩))
    go_ret
    exact ⟨ret_bool (by first | rfl | simp), rfl⟩
end Go.Proofs.Ythkiojedkafdhaa
