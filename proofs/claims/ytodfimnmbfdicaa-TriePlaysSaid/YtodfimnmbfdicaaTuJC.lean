/- For every list of steps, every list of addresses and every number TriePlays answers true, and both lists read as before: through the first one hundred and twenty steps (a prefix put, dropped, or a copy that goes its own way) a table answers At, Len, Longest, All, Over and Within as the document's list of rows does, and iterators tell what was there when they were asked for, also gone over again. No condition. -/
import Derived.Test.YtodfimnmbfdicaaRows
import Derived.Test.YtodfimnmbfdicaaTpP
import Derived.Test.YtodfimnmbfdicaaTuJ
namespace Go.Proofs.Ytodfimnmbfdicaa
open Go.ChangeShapes Go.WideShapes Go.ChangeAt Go.RowKit Go.Joins
set_option maxRecDepth 20000
theorem cS4 : Try.prog.cellsOf 36 = 4 := by kernel_rfl
theorem cU1 : Try.prog.cellsOf 31 = 1 := by kernel_rfl
section
variable {H : Type} {enc : TypeId × Value → H} {w w' : World} {base : Nat} {spare : Nat → Bool} {held : Bool}
theorem st_of (n : Nat) (cs : List Value) (y : DataW H × List MemPlace) (h : DataW.trod enc Try.prog w base spare held n 36 cs = some y) : ∃ x : St4, encSt x = cs ∧ (0 ≤ x.2.1.1 ∧ x.2.1.1 < 4294967296) := by
  obtain ⟨xs, m, _, _, hlen, hxl, hf⟩ := DataW.trod_struct Try.underlying36 h
  rw [cS4] at hlen
  match cs, hlen, xs, hxl with
  | [c0, c1, c2, c3], _, [y0, y1, y2], _ =>
    have g0 : DataW.trod enc Try.prog w base spare held m 3 [c0] = some y0 := by simpa [cI1, cP2] using hf 0 _ rfl
    have g1 : DataW.trod enc Try.prog w base spare held m 34 [c1, c2] = some y1 := by simpa [cI1, cP2] using hf 1 _ rfl
    have g2 : DataW.trod enc Try.prog w base spare held m 3 [c3] = some y2 := by simpa [cI1, cP2] using hf 2 _ rfl
    obtain ⟨a, e0, _, _⟩ := DataW.trod_int Try.underlying3 g0
    obtain ⟨⟨p0, p1⟩, e1, hp⟩ := pfx_of _ _ _ g1
    obtain ⟨b, e2, _, _⟩ := DataW.trod_int Try.underlying3 g2
    simp at e0 e2
    simp only [encP, List.cons.injEq, and_true] at e1
    obtain ⟨rfl, rfl⟩ := e1
    subst e0 e2
    exact ⟨(a, (p0, p1), b), rfl, hp⟩
theorem u_of (n : Nat) (cs : List Value) (y : DataW H × List MemPlace) (h : DataW.trod enc Try.prog w base spare held n 31 cs = some y) : ∃ x : Int, encU x = cs ∧ (0 ≤ x ∧ x < 4294967296) := by
  obtain ⟨a, e0, _, w0⟩ := DataW.trod_int Try.underlying31 h
  subst e0
  exact ⟨a, rfl, u32_wf w0⟩
instance instSt : Inhabited St4 := ⟨(0, (0, 0), 0)⟩
theorem sts_of {fuel : Nat} {v : Value} {x : DataW H × List MemPlace} (h : DataW.trod enc Try.prog w base spare held fuel 22 [v] = some x) : ∃ l, RdK encSt 4 w v l ∧ ∀ x ∈ l, 0 ≤ x.2.1.1 ∧ x.2.1.1 < 4294967296 :=
  rdk_of (ok := fun x : St4 => 0 ≤ x.2.1.1 ∧ x.2.1.1 < 4294967296) Try.underlying22 cS4 (by decide) st_of h
theorem us_of {fuel : Nat} {v : Value} {x : DataW H × List MemPlace} (h : DataW.trod enc Try.prog w base spare held fuel 23 [v] = some x) : ∃ l, RdK encU 1 w v l ∧ ∀ x ∈ l, 0 ≤ x ∧ x < 4294967296 :=
  rdk_of (ok := fun x : Int => 0 ≤ x ∧ x < 4294967296) Try.underlying23 cU1 (by decide) u_of h
end
set_option maxRecDepth 100000 in
theorem triePlays_lifted (os : Os) (started : os.Started) (H : Type) (enc : TypeId × Value → H) :
    ReturnsInHanded {} Try.checked os 3 .any (Rows.triePlaysSpec.pre6 enc Try.prog Try.f3 Rows.triePlaysRow.domain false) (Rows.triePlaysSpec.post enc Try.prog Try.f3 false true false false) := by
  refine returnsInHanded_of_change (C := Try.checked) Try.own started (by kernel_rfl) Try.func3
    (ChangeSpec.witness6 (enc := enc) (C := Try.checked) false ⟨#[], #[.slice none 0 0, .slice none 0 0, .int .i64 0], []⟩ 8 (by kernel_rfl) (by kernel_rfl) (by kernel_rfl) (by kernel_rfl)) ?_
  intro W base args ds gs before hval0 hW _ _
  have hval : ∀ (j : Nat) t v, Try.f3.params[j]? = some t → args[j]? = some v → Value.okWide Try.prog W .any base t v := hval0
  have hW' := hW
  have hlt : ∀ p ∈ before, p.block < W.heap.size := fun p hp => hW.lt p hp
  obtain ⟨p, q, hA0, hV, rfl, _, _⟩ := hW
  have hA : DataW.TrodAll enc Try.prog W 0 (fun _ => true) true Try.f3.params.toList args.toList ds p := hA0
  have hAk := hA
  rw [Try.params3] at hA hval
  obtain ⟨v0, v1, v2, d0, d1, d2, p0, p1, p2, rfl, rfl, rfl, h0, h1, h2⟩ := trodAll_three hA
  obtain ⟨rfl, rfl⟩ := trodVars_none hV
  obtain ⟨l0, R0, G0⟩ : ∃ l, RdK encSt 4 W v0 l ∧ ∀ x ∈ l, 0 ≤ x.2.1.1 ∧ x.2.1.1 < 4294967296 := by
    obtain ⟨a0, n0, c0, rfl⟩ := okWide_slice Try.underlying22 (hval 0 22 v0 rfl rfl)
    obtain ⟨f, hf⟩ := h0
    exact sts_of hf
  obtain ⟨l1, R1, G1⟩ : ∃ l, RdK encU 1 W v1 l ∧ ∀ x ∈ l, 0 ≤ x ∧ x < 4294967296 := by
    obtain ⟨a1, n1, c1, rfl⟩ := okWide_slice Try.underlying23 (hval 1 23 v1 rfl rfl)
    obtain ⟨f, hf⟩ := h1
    exact us_of hf
  obtain ⟨x2, rfl, rfl, rfl, w2⟩ := open_int Try.underlying3 (hval 2 3 v2 rfl rfl) h2
  refine (plays_law l0 _ l1 _ x2 W R0 G0 R1 G1).mono fun e W' ⟨he, hw⟩ => ?_
  subst he
  refine ⟨_, rfl, post_grown (pv := []) hW' hw rfl (fun _ _ _ => trodAll_mk1 (shut_bool Try.underlying4 true)) (fun sp hsp => ?_) (fun _ _ => rfl) (ok_one (by kernel_rfl) rfl (okWide_bool_mk Try.underlying4 true))⟩
  exact again hw (by rw [Try.params3]; decide +kernel) (fun p hp => hlt p (by simpa using hp)) hAk (fun p hp => hsp p (by simpa using hp))
theorem triePlays_holds : Rows.TriePlaysSaid :=
  OpenClaim.holds_of_wide 3 Try.f3 rfl rfl rfl rfl rfl rfl rfl ⟨rfl, rfl, rfl, rfl, rfl⟩ rfl rfl rfl rfl rfl (by kernel_rfl) Try.func3 (by kernel_rfl)
    (of_decide_eq_true (by kernel_rfl)) (by unfold Func.isWrapper; first | (rw [if_pos (by decide +kernel)]; kernel_rfl) | (rw [if_neg (by decide +kernel)]; exact ⟨rfl, rfl⟩))
    (fun os started H enc _ => triePlays_lifted os started H enc)
end Go.Proofs.Ytodfimnmbfdicaa
