/- For every number and every list of sets of together no more than 1048576 values, SpansPieces answers true, and they read as before: the numbers up to the first one are cut just where a set begins or ends, as the document says, in new memory. -/
import Derived.Test.YtdjlbenjbhkfiaaSpOpenB
import Derived.Test.YtdjlbenjbhkfiaaSpPcsLawA
import Derived.Test.YtdjlbenjbhkfiaaSpPcsLawB
import Derived.JoinedCond
namespace Go.Proofs.Ytdjlbenjbhkfiaa
open Go.ChangeShapes Go.WideShapes Go.ChangeAt Go.RowKit Go.Joins
theorem pieces_law (most : Nat) (hmt : most < top) (ls : List (List (Nat × Nat))) (v : Value) (w : World) (hr : RdS w v ls) (hfl : ls.flatten.length ≤ 1048576) :
    Calls Try.prog 6 #[.int .u32 most, v] w fun e w' => e = .returned (.bool true) ∧ Below w.heap.size w w' :=
  if h : 20 < ls.length then pieces_many most hmt ls v w hr hfl h else pieces_few most hmt ls v w hr hfl (by omega)
set_option maxRecDepth 100000 in
theorem spansPieces_lifted (os : Os) (started : os.Started) (H : Type) (enc : TypeId × Value → H) (F : Stop.Interp) :
    ReturnsInHanded {} Try.checked os 6 .any ((Rows.OpenSpec.upto Rows.spansPiecesSpec).pre6 enc Try.prog Try.f6 Rows.spansPiecesUptoRow.domain false) (((Rows.OpenSpec.upto Rows.spansPiecesSpec).at F).post enc Try.prog Try.f6 false true false false) := by
  refine returnsInHanded_of_cond (C := Try.checked) (s := Rows.OpenSpec.upto Rows.spansPiecesSpec) (k := Rows.uptoSmall) rfl Try.own started (by kernel_rfl) Try.func6
    (OpenSpec.witness (enc := enc) (C := Try.checked) (s := Rows.OpenSpec.upto Rows.spansPiecesSpec) (k := Rows.uptoSmall) rfl false ⟨#[], #[.int .u32 0, .slice none 0 0], []⟩ 8 (by kernel_rfl) (by kernel_rfl) (by kernel_rfl)
      (x := ([.lit (.int .u32 0), .nil], [], [])) (by kernel_rfl) rfl (by kernel_rfl)) ?_
  intro W base args ds gs before hval0 hW _ hk _
  have hval : ∀ (j : Nat) t v, Try.f6.params[j]? = some t → args[j]? = some v → Value.okWide Try.prog W .any base t v := hval0
  have hW' := hW
  have hlt : ∀ p ∈ before, p.block < W.heap.size := fun p hp => hW.lt p hp
  obtain ⟨p, q, hA0, hV, rfl, _, _⟩ := hW
  have hA : DataW.TrodAll enc Try.prog W 0 (fun _ => true) true Try.f6.params.toList args.toList ds p := hA0
  have hAk := hA
  rw [Try.params6] at hA hval
  obtain ⟨v0, v1, d0, d1, p0, p1, rfl, rfl, rfl, h0, h1⟩ := trodAll_two hA
  obtain ⟨rfl, rfl⟩ := trodVars_none hV
  obtain ⟨x0, rfl, rfl, rfl, w0⟩ := open_int Try.underlying23 (hval 0 23 v0 rfl rfl) h0
  have r0 := u32_wf w0
  obtain ⟨a1, n1, c1, rfl⟩ := okWide_slice Try.underlying31 (hval 1 31 v1 rfl rfl)
  obtain ⟨l1, R1, hb1⟩ : ∃ l, RdS W (.slice a1 n1 c1) l ∧ l.flatten.length ≤ Rows.uptoBulk d1 := by
    obtain ⟨f, hf⟩ := h1
    exact rdsb_of hf
  have hbulk : l1.flatten.length ≤ 1048576 := by
    have h := of_decide_eq_true hk
    simp only [Rows.uptoBulkAll, List.cons_append, List.nil_append] at h
    omega
  refine ((show (((x0.toNat : Nat) : Int)) = x0 by omega) ▸ pieces_law x0.toNat (by rw [top_def]; omega) l1 (.slice a1 n1 c1) W R1 hbulk).mono fun e W' ⟨he, hw⟩ => ?_
  subst he
  refine ⟨_, rfl, post_grown (pv := []) hW' hw rfl (fun _ _ _ => trodAll_mk1 (shut_bool Try.underlying4 true)) (fun sp hsp => ?_) (fun _ _ => rfl) (ok_one (by kernel_rfl) rfl (okWide_bool_mk Try.underlying4 true))⟩
  exact again hw (by rw [Try.params6]; decide +kernel) (fun p hp => hlt p (by simpa using hp)) hAk (fun p hp => hsp p (by simpa using hp))
theorem spansPieces_holds : Rows.SpansPiecesUptoSaid :=
  OpenClaim.holds_of_cond 6 Try.f6 rfl rfl rfl rfl rfl rfl rfl ⟨rfl, rfl, rfl, rfl, rfl⟩ rfl rfl rfl rfl rfl (by kernel_rfl) Try.func6 (by kernel_rfl)
    (of_decide_eq_true (by kernel_rfl)) (by unfold Func.isWrapper; first | (rw [if_pos (by decide +kernel)]; kernel_rfl) | (rw [if_neg (by decide +kernel)]; exact ⟨rfl, rfl⟩))
    (fun os started H enc _ F => spansPieces_lifted os started H enc F)
end Go.Proofs.Ytdjlbenjbhkfiaa
