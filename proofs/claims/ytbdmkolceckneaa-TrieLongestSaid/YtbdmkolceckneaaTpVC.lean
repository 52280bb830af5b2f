/- For every list of prefixes, every address and every prefix TrieLongest answers true, and they read as before: in a table of the list's first two hundred prefixes Longest finds the longest that holds the address, Over goes over those that hold it, each longer than the one before, Within over those within the prefix, and All over all of them, each of which At finds. No condition. -/
import Derived.Test.YtbdmkolceckneaaRows
import Derived.Test.YtbdmkolceckneaaTpP
import Derived.Test.YtbdmkolceckneaaTpV
namespace Go.Proofs.Ytbdmkolceckneaa
open Go.ChangeShapes Go.WideShapes Go.ChangeAt Go.RowKit Go.Joins
set_option maxRecDepth 100000 in
theorem trieLongest_lifted (os : Os) (started : os.Started) (H : Type) (enc : TypeId × Value → H) :
    ReturnsInHanded {} Try.checked os 5 .any (Rows.trieLongestSpec.pre6 enc Try.prog Try.f5 Rows.trieLongestRow.domain false) (Rows.trieLongestSpec.post enc Try.prog Try.f5 false true false false) := by
  refine returnsInHanded_of_change (C := Try.checked) Try.own started (by kernel_rfl) Try.func5
    (ChangeSpec.witness6 (enc := enc) (C := Try.checked) false ⟨#[], #[.slice none 0 0, .int .u32 0, .agg #[.int .u32 0, .int .i64 0]], []⟩ 8 (by kernel_rfl) (by kernel_rfl) (by kernel_rfl) (by kernel_rfl)) ?_
  intro W base args ds gs before hval0 hW _ _
  have hval : ∀ (j : Nat) t v, Try.f5.params[j]? = some t → args[j]? = some v → Value.okWide Try.prog W .any base t v := hval0
  have hW' := hW
  have hlt : ∀ p ∈ before, p.block < W.heap.size := fun p hp => hW.lt p hp
  obtain ⟨p, q, hA0, hV, rfl, _, _⟩ := hW
  have hA : DataW.TrodAll enc Try.prog W 0 (fun _ => true) true Try.f5.params.toList args.toList ds p := hA0
  have hAk := hA
  rw [Try.params5] at hA hval
  obtain ⟨v0, v1, v2, d0, d1, d2, p0, p1, p2, rfl, rfl, rfl, h0, h1, h2⟩ := trodAll_three hA
  obtain ⟨rfl, rfl⟩ := trodVars_none hV
  obtain ⟨a0, n0, c0, rfl⟩ := okWide_slice Try.underlying48 (hval 0 48 v0 rfl rfl)
  obtain ⟨l0, R0, G0⟩ : ∃ l, RdK encP 2 W (.slice a0 n0 c0) l ∧ ∀ x ∈ l, 0 ≤ x.1 ∧ x.1 < 4294967296 := by
    obtain ⟨f, hf⟩ := h0
    exact pfs_of hf
  obtain ⟨x1, rfl, rfl, rfl, w1⟩ := open_int Try.underlying31 (hval 1 31 v1 rfl rfl) h1
  obtain ⟨c2, c3, y2, y3, m2, rfl, rfl, rfl, hy2, hy3⟩ := open_agg2 Try.underlying34 (by kernel_rfl) cP2 (hval 2 34 v2 rfl rfl) h2
  obtain ⟨b, e2, rfl, wb⟩ := DataW.trod_int Try.underlying32 hy2
  obtain ⟨m, e3, rfl, wm⟩ := DataW.trod_int Try.underlying3 hy3
  simp at e2 e3
  subst e2 e3
  refine (longest_law l0 _ x1 b m W R0 G0 (u32_wf w1).1 (u32_wf w1).2 (u32_wf wb).1 (u32_wf wb).2).mono fun e W' ⟨he, hw⟩ => ?_
  subst he
  refine ⟨_, rfl, post_grown (pv := []) hW' hw rfl (fun _ _ _ => trodAll_mk1 (shut_bool Try.underlying4 true)) (fun sp hsp => ?_) (fun _ _ => rfl) (ok_one (by kernel_rfl) rfl (okWide_bool_mk Try.underlying4 true))⟩
  exact again hw (by rw [Try.params5]; decide +kernel) (fun p hp => hlt p (by simpa using hp)) hAk (fun p hp => hsp p (by simpa using hp))
theorem trieLongest_holds : Rows.TrieLongestSaid :=
  OpenClaim.holds_of_wide 5 Try.f5 rfl rfl rfl rfl rfl rfl rfl ⟨rfl, rfl, rfl, rfl, rfl⟩ rfl rfl rfl rfl rfl (by kernel_rfl) Try.func5 (by kernel_rfl)
    (of_decide_eq_true (by kernel_rfl)) (by unfold Func.isWrapper; first | (rw [if_pos (by decide +kernel)]; kernel_rfl) | (rw [if_neg (by decide +kernel)]; exact ⟨rfl, rfl⟩))
    (fun os started H enc _ => trieLongest_lifted os started H enc)
end Go.Proofs.Ytbdmkolceckneaa
