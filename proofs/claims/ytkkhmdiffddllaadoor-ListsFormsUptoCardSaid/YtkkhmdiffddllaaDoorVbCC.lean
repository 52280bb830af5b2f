/- For all lists of communities, every community and every text of bulk at most 1048576 ListsForms answers true, and they read as before: communities are put in form, joined, written and read as the document says. Conditions: the listed variables of packages math/bits, internal/strconv and strconv hold what the program's text lays; the card ties that to the text; the bulk of what is given is at most 1048576. -/
import Derived.Test.YtkkhmdiffddllaaDoorUvO
import Derived.Test.YtkkhmdiffddllaaDoorVbC
import Derived.Test.YtkkhmdiffddllaaDoorCards
import Derived.SevenTiedAt
import Derived.Deep.DeepHandedRow
namespace Go.Proofs.YtkkhmdiffddllaaDoor
open Go.ChangeShapes Go.WideShapes Go.ChangeAt Go.RowKit Go.Joins
theorem lfo_met (os : Os) : laidMetH Tryd.prog Rows.listsFormsUptoRow.laid ((World.doorLaid Tryd.prog 400 os).forCall (fun _ _ => 0) ⟨#[], #[.slice none 0 0, .slice none 0 0, .int .u32 0, .string ⟨#[]⟩], []⟩).memory :=
  laidMetH_of_parts3 (fuel := 8) (laidMet_of_run' 8 (by kernel_rfl) (by kernel_rfl)) (by kernel_rfl) (by kernel_rfl)
theorem lfo_reads (os : Os) {H : Type} (enc : TypeId × Value → H) : ∃ places, DataW.whole enc Tryd.prog ((World.doorLaid Tryd.prog 400 os).forCall (fun _ _ => 0) ⟨#[], #[.slice none 0 0, .slice none 0 0, .int .u32 0, .string ⟨#[]⟩], []⟩).memory Tryd.f3.params.toList Rows.listsFormsSpec.vars false #[Value.slice none 0 0, .slice none 0 0, .int .u32 0, .string ⟨#[]⟩].toList 8 = some ([.nil, .nil, .lit (.int .u32 0), .lit (.string [])], [], places) :=
  ⟨[], by kernel_rfl⟩
set_option maxRecDepth 100000 in
theorem lfo_lifted (os : Os) (started : os.Started) (H : Type) (enc : TypeId × Value → H) (F : Stop.Interp) :
    ReturnsInHanded {} Tryd.checked os 3 .any ((Rows.OpenSpec.upto Rows.listsFormsSpec).preRow enc Tryd.prog Tryd.f3 Rows.listsFormsUptoRow.domain false Rows.listsFormsUptoRow.laid) (((Rows.OpenSpec.upto Rows.listsFormsSpec).at F).post enc Tryd.prog Tryd.f3 false true false false) := by
  obtain ⟨places, hx⟩ := lfo_reads os enc
  refine returnsInHanded_of_row (C := Tryd.checked) (s := Rows.OpenSpec.upto Rows.listsFormsSpec) Tryd.own started (by kernel_rfl) Tryd.func3
    (witness_row_at (enc := enc) (C := Tryd.checked) false (World.doorLaid Tryd.prog 400 os) #[.slice none 0 0, .slice none 0 0, .int .u32 0, .string ⟨#[]⟩] rfl (by kernel_rfl) (by kernel_rfl) (by kernel_rfl)
      (OpenSpec.preRow_of_cond 8 hx (by kernel_rfl) (fun k hk => by cases hk; kernel_rfl) (by kernel_rfl) (lfo_met os))) ?_
  intro W base args ds gs before hval0 hW _ hcond _ hL _ _
  have hval : ∀ (j : Nat) t v, Tryd.f3.params[j]? = some t → args[j]? = some v → Value.okWide Tryd.prog W .any base t v := hval0
  have hW' := hW
  have hlt : ∀ p ∈ before, p.block < W.heap.size := fun p hp => hW.lt p hp
  obtain ⟨p, q, hA0, hV, rfl, _, _⟩ := hW
  have hA : DataW.TrodAll enc Tryd.prog W 0 (fun _ => true) true Tryd.f3.params.toList args.toList ds p := hA0
  have hAk := hA
  rw [Tryd.params3] at hA hval
  obtain ⟨v0, v1, v2, v3, d0, d1, d2, d3, p0, p1, p2, p3, rfl, rfl, rfl, h0, h1, h2, h3⟩ := trodAll_four hA
  obtain ⟨rfl, rfl⟩ := trodVars_none hV
  have hbulk : Rows.uptoBulkAll (([d0, d1, d2, d3] : List (DataW H)) ++ []) ≤ 1048576 := of_decide_eq_true (hcond _ rfl)
  simp only [List.append_nil, Rows.uptoBulkAll] at hbulk
  obtain ⟨a0, n0, c0, rfl⟩ := okWide_slice Tryd.underlying22 (hval 0 22 v0 rfl rfl)
  obtain ⟨l0, R0⟩ : ∃ l, RdK encU 1 W (.slice a0 n0 c0) l ∧ (∀ x ∈ l, 0 ≤ x ∧ x < 4294967296) ∧ l.length ≤ 1048576 := by
    obtain ⟨f, hf⟩ := h0
    exact nums_of hf (by show Rows.uptoBulk d0 ≤ 1048576; omega)
  obtain ⟨a1, n1, c1, rfl⟩ := okWide_slice Tryd.underlying22 (hval 1 22 v1 rfl rfl)
  obtain ⟨l1, R1⟩ : ∃ l, RdK encU 1 W (.slice a1 n1 c1) l ∧ (∀ x ∈ l, 0 ≤ x ∧ x < 4294967296) ∧ l.length ≤ 1048576 := by
    obtain ⟨f, hf⟩ := h1
    exact nums_of hf (by show Rows.uptoBulk d1 ≤ 1048576; omega)
  obtain ⟨x2, rfl, rfl, rfl, R2⟩ := open_int Tryd.underlying23 (hval 2 23 v2 rfl rfl) h2
  have hb3 : Rows.uptoBulk d3 ≤ 1048576 := by omega
  obtain ⟨x3, rfl, rfl, rfl, w3⟩ := ChangeMaps.open_string Tryd.underlying9 (hval 3 9 v3 rfl rfl) h3
  have hsz3 : x3.size ≤ 1048576 := by
    simp only [Rows.uptoBulk] at hb3
    rw [str_toList] at hb3
    omega
  clear hbulk
  have hE : ErrV W := errv_of_laid (by kernel_rfl) (by simp [Rows.listsFormsUptoRow]) (by simp [Rows.listsFormsUptoRow]) hL
  have hT : Tab10 W := tab10_of_laid (by kernel_rfl) (by simp [Rows.listsFormsUptoRow]) hL
  refine (lfo_is _ _ l0 l1 x2 x3 W R0.1 R1.1 (u32_wf R2) R0.2.2 R1.2.2 hsz3 hT hE).mono fun e W' ⟨he, hw⟩ => ?_
  subst he
  refine ⟨_, rfl, post_grown (pv := []) hW' hw rfl (fun _ _ _ => trodAll_mk1 (shut_bool Tryd.underlying4 true)) (fun sp hsp => ?_) (fun _ _ => rfl) (ok_one (by kernel_rfl) rfl (okWide_bool_mk Tryd.underlying4 true))⟩
  exact again hw (by rw [Tryd.params3]; decide +kernel) (fun p hp => hlt p (by simpa using hp)) hAk (fun p hp => hsp p (by simpa using hp))
theorem lfo_holds : Rows.ListsFormsUptoSaid :=
  OpenClaim.holds_of_cond 3 Tryd.f3 rfl rfl rfl rfl rfl rfl rfl ⟨rfl, rfl, rfl, rfl, rfl⟩ rfl rfl rfl rfl rfl (by kernel_rfl) Tryd.func3 (by kernel_rfl)
    (of_decide_eq_true (by kernel_rfl)) (by unfold Func.isWrapper; first | (rw [if_pos (by decide +kernel)]; kernel_rfl) | (rw [if_neg (by decide +kernel)]; exact ⟨rfl, rfl⟩))
    (fun os started H enc _ F => by rw [OpenClaim.pre_eq_preRow]; exact lfo_lifted os started H enc F)
theorem lfo_card : Rows.ListsFormsUptoCardSaid :=
  Claim7.holds_tied_plain_at .later [] [.data, .data, .data, .sentinel, .sentinel] true Rows.listsFormsUptoCard.stood.harness true
    lfo_holds (fun _ h => by cases h) (by kernel_rfl) (fun _ h => by cases h) listsFormsUpto_row_tie rfl ⟨rfl, rfl⟩ (by kernel_rfl) rfl
    (fun f fn hf hfn => by
      obtain rfl : f = 3 := Option.some.inj ((show Tryd.prog.funcNamed "waymark/waymarklaw09.ListsForms" = some 3 by kernel_rfl).symm.trans hf) |>.symm
      obtain rfl : fn = Tryd.f3 := (Option.some.inj (Tryd.func3.symm.trans hfn)).symm
      exact ⟨by kernel_rfl, fun j t ht => by
        rw [Tryd.params3] at ht
        have hm : t ∈ [22, 22, 23, 9] := by simpa using Array.mem_of_getElem? ht
        have hall : ([22, 22, 23, 9].all fun u => !Tryd.prog.wantsStandIn u) = true := by kernel_rfl
        exact (show Tryd.prog.wantsStandIn t = false by simpa using List.all_eq_true.1 hall t hm)⟩)
    (by kernel_rfl)
end Go.Proofs.YtkkhmdiffddllaaDoor
