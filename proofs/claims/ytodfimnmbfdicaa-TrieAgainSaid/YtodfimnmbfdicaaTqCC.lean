/- For every list of prefixes, every number, every prefix and every address TrieAgain answers true, and the list reads as before: two tables into which the list's first hundred prefixes are put, in two orders, have as many prefixes, the same values for them, and find the same longest prefix of the address, also behind a prefix that was put into one of them and dropped again. No condition. -/
import Derived.Test.YtodfimnmbfdicaaRows
import Derived.Test.YtodfimnmbfdicaaTpP
import Derived.Test.YtodfimnmbfdicaaTqC
namespace Go.Proofs.Ytodfimnmbfdicaa
open Go.ChangeShapes Go.WideShapes Go.ChangeAt Go.RowKit Go.Joins
set_option maxRecDepth 100000 in
theorem trieAgain_lifted (os : Os) (started : os.Started) (H : Type) (enc : TypeId × Value → H) :
    ReturnsInHanded {} Try.checked os 6 .any (Rows.trieAgainSpec.pre6 enc Try.prog Try.f6 Rows.trieAgainRow.domain false) (Rows.trieAgainSpec.post enc Try.prog Try.f6 false true false false) := by
  refine returnsInHanded_of_change (C := Try.checked) Try.own started (by kernel_rfl) Try.func6
    (ChangeSpec.witness6 (enc := enc) (C := Try.checked) false ⟨#[], #[.slice none 0 0, .int .i64 0, .agg #[.int .u32 0, .int .i64 0], .int .u32 0], []⟩ 8 (by kernel_rfl) (by kernel_rfl) (by kernel_rfl) (by kernel_rfl)) ?_
  intro W base args ds gs before hval0 hW _ _
  have hval : ∀ (j : Nat) t v, Try.f6.params[j]? = some t → args[j]? = some v → Value.okWide Try.prog W .any base t v := hval0
  have hW' := hW
  have hlt : ∀ p ∈ before, p.block < W.heap.size := fun p hp => hW.lt p hp
  obtain ⟨p, q, hA0, hV, rfl, _, _⟩ := hW
  have hA : DataW.TrodAll enc Try.prog W 0 (fun _ => true) true Try.f6.params.toList args.toList ds p := hA0
  have hAk := hA
  rw [Try.params6] at hA hval
  obtain ⟨v0, v1, v2, v3, d0, d1, d2, d3, p0, p1, p2, p3, rfl, rfl, rfl, h0, h1, h2, h3⟩ := trodAll_four hA
  obtain ⟨rfl, rfl⟩ := trodVars_none hV
  obtain ⟨a0, n0, c0, rfl⟩ := okWide_slice Try.underlying48 (hval 0 48 v0 rfl rfl)
  obtain ⟨l0, R0, G0⟩ : ∃ l, RdK encP 2 W (.slice a0 n0 c0) l ∧ ∀ x ∈ l, 0 ≤ x.1 ∧ x.1 < 4294967296 := by
    obtain ⟨f, hf⟩ := h0
    exact pfs_of hf
  obtain ⟨x1, rfl, rfl, rfl, w1⟩ := open_int Try.underlying3 (hval 1 3 v1 rfl rfl) h1
  obtain ⟨x3, rfl, rfl, rfl, w3⟩ := open_int Try.underlying31 (hval 3 31 v3 rfl rfl) h3
  obtain ⟨c2, c3, y2, y3, m2, rfl, rfl, rfl, hy2, hy3⟩ := open_agg2 Try.underlying34 (by kernel_rfl) cP2 (hval 2 34 v2 rfl rfl) h2
  obtain ⟨b, e2, rfl, wb⟩ := DataW.trod_int Try.underlying32 hy2
  obtain ⟨m, e3, rfl, wm⟩ := DataW.trod_int Try.underlying3 hy3
  simp at e2 e3
  subst e2 e3
  refine (again_law l0 _ x1 b m x3 W R0 G0 (u32_wf w3).1 (u32_wf w3).2 (u32_wf wb).1 (u32_wf wb).2).mono fun e W' ⟨he, hw⟩ => ?_
  subst he
  refine ⟨_, rfl, post_grown (pv := []) hW' hw rfl (fun _ _ _ => trodAll_mk1 (shut_bool Try.underlying4 true)) (fun sp hsp => ?_) (fun _ _ => rfl) (ok_one (by kernel_rfl) rfl (okWide_bool_mk Try.underlying4 true))⟩
  exact again hw (by rw [Try.params6]; decide +kernel) (fun p hp => hlt p (by simpa using hp)) hAk (fun p hp => hsp p (by simpa using hp))
theorem trieAgain_holds : Rows.TrieAgainSaid :=
  OpenClaim.holds_of_wide 6 Try.f6 rfl rfl rfl rfl rfl rfl rfl ⟨rfl, rfl, rfl, rfl, rfl⟩ rfl rfl rfl rfl rfl (by kernel_rfl) Try.func6 (by kernel_rfl)
    (of_decide_eq_true (by kernel_rfl)) (by unfold Func.isWrapper; first | (rw [if_pos (by decide +kernel)]; kernel_rfl) | (rw [if_neg (by decide +kernel)]; exact ⟨rfl, rfl⟩))
    (fun os started H enc _ => trieAgain_lifted os started H enc)
end Go.Proofs.Ytodfimnmbfdicaa
