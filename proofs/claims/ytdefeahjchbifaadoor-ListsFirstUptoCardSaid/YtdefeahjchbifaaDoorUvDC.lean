/- For all lists of entries, every prefix, all lists of members and of communities of bulk at most 1048576 ListsFirst answers true, and they read as before: the first line that fits decides, whatever stands behind it; lines ahead that do not fit change nothing. Conditions: the listed variables of packages math/bits, internal/strconv and strconv hold what the program's text lays; the card ties that to the text; the bulk of what is given is at most 1048576. -/
import Derived.Test.YtdefeahjchbifaaDoorUvO
import Derived.Test.YtdefeahjchbifaaDoorCards
import Derived.SevenTiedAt
import Derived.Deep.DeepHandedRow
namespace Go.Proofs.YtdefeahjchbifaaDoor
open Go.ChangeShapes Go.WideShapes Go.ChangeAt Go.RowKit Go.Joins
theorem lf_met (os : Os) : laidMetH Tryd.prog Rows.listsFirstUptoRow.laid ((World.doorLaid Tryd.prog 400 os).forCall (fun _ _ => 0) ⟨#[], #[.slice none 0 0, .slice none 0 0, .agg #[.int .u32 0, .int .i64 0], .slice none 0 0, .slice none 0 0, .slice none 0 0], []⟩).memory :=
  laidMetH_of_parts3 (fuel := 8) (laidMet_of_run' 8 (by kernel_rfl) (by kernel_rfl)) (by kernel_rfl) (by kernel_rfl)
theorem lf_reads (os : Os) {H : Type} (enc : TypeId × Value → H) : ∃ places, DataW.whole enc Tryd.prog ((World.doorLaid Tryd.prog 400 os).forCall (fun _ _ => 0) ⟨#[], #[.slice none 0 0, .slice none 0 0, .agg #[.int .u32 0, .int .i64 0], .slice none 0 0, .slice none 0 0, .slice none 0 0], []⟩).memory Tryd.f4.params.toList Rows.listsFirstSpec.vars false #[Value.slice none 0 0, .slice none 0 0, .agg #[.int .u32 0, .int .i64 0], .slice none 0 0, .slice none 0 0, .slice none 0 0].toList 8 = some ([.nil, .nil, .agg [.lit (.int .u32 0), .lit (.int .i64 0)], .nil, .nil, .nil], [], places) :=
  ⟨[], by kernel_rfl⟩
set_option maxRecDepth 100000 in
theorem lf_lifted (os : Os) (started : os.Started) (H : Type) (enc : TypeId × Value → H) (F : Stop.Interp) :
    ReturnsInHanded {} Tryd.checked os 4 .any ((Rows.OpenSpec.upto Rows.listsFirstSpec).preRow enc Tryd.prog Tryd.f4 Rows.listsFirstUptoRow.domain false Rows.listsFirstUptoRow.laid) (((Rows.OpenSpec.upto Rows.listsFirstSpec).at F).post enc Tryd.prog Tryd.f4 false true false false) := by
  obtain ⟨places, hx⟩ := lf_reads os enc
  refine returnsInHanded_of_row (C := Tryd.checked) (s := Rows.OpenSpec.upto Rows.listsFirstSpec) Tryd.own started (by kernel_rfl) Tryd.func4
    (witness_row_at (enc := enc) (C := Tryd.checked) false (World.doorLaid Tryd.prog 400 os) #[.slice none 0 0, .slice none 0 0, .agg #[.int .u32 0, .int .i64 0], .slice none 0 0, .slice none 0 0, .slice none 0 0] rfl (by kernel_rfl) (by kernel_rfl) (by kernel_rfl)
      (OpenSpec.preRow_of_cond 8 hx (by kernel_rfl) (fun k hk => by cases hk; kernel_rfl) (by kernel_rfl) (lf_met os))) ?_
  intro W base args ds gs before hval0 hW _ hcond _ hL _ _
  have hval : ∀ (j : Nat) t v, Tryd.f4.params[j]? = some t → args[j]? = some v → Value.okWide Tryd.prog W .any base t v := hval0
  have hW' := hW
  have hlt : ∀ p ∈ before, p.block < W.heap.size := fun p hp => hW.lt p hp
  obtain ⟨p, q, hA0, hV, rfl, _, _⟩ := hW
  have hA : DataW.TrodAll enc Tryd.prog W 0 (fun _ => true) true Tryd.f4.params.toList args.toList ds p := hA0
  have hAk := hA
  rw [Tryd.params4] at hA hval
  obtain ⟨v0, v1, v2, v3, v4, v5, d0, d1, d2, d3, d4, d5, p0, p1, p2, p3, p4, p5, rfl, rfl, rfl, h0, h1, h2, h3, h4, h5⟩ := trodAll_six hA
  obtain ⟨rfl, rfl⟩ := trodVars_none hV
  have hbulk : Rows.uptoBulkAll (([d0, d1, d2, d3, d4, d5] : List (DataW H)) ++ []) ≤ 1048576 := of_decide_eq_true (hcond _ rfl)
  simp only [List.append_nil, Rows.uptoBulkAll] at hbulk
  obtain ⟨a0, n0, c0, rfl⟩ := okWide_slice Tryd.underlying32 (hval 0 32 v0 rfl rfl)
  obtain ⟨l0, R0⟩ : ∃ l, RdK encE 5 W (.slice a0 n0 c0) l ∧ OkE l ∧ l.length ≤ 1048576 := by
    obtain ⟨f, hf⟩ := h0
    exact ents_of hf (by show Rows.uptoBulk d0 ≤ 1048576; omega)
  obtain ⟨a1, n1, c1, rfl⟩ := okWide_slice Tryd.underlying32 (hval 1 32 v1 rfl rfl)
  obtain ⟨l1, R1⟩ : ∃ l, RdK encE 5 W (.slice a1 n1 c1) l ∧ OkE l ∧ l.length ≤ 1048576 := by
    obtain ⟨f, hf⟩ := h1
    exact ents_of hf (by show Rows.uptoBulk d1 ≤ 1048576; omega)
  obtain ⟨x2, y2, rfl, R2⟩ := pre_arg (hval 2 35 v2 rfl rfl) h2
  obtain ⟨a3, n3, c3, rfl⟩ := okWide_slice Tryd.underlying36 (hval 3 36 v3 rfl rfl)
  obtain ⟨l3, R3⟩ : ∃ l, RdK encM 2 W (.slice a3 n3 c3) l ∧ OkM W l ∧ l.length ≤ 1048576 := by
    obtain ⟨f, hf⟩ := h3
    exact mems_of hf (by show Rows.uptoBulk d3 ≤ 1048576; omega)
  obtain ⟨a4, n4, c4, rfl⟩ := okWide_slice Tryd.underlying36 (hval 4 36 v4 rfl rfl)
  obtain ⟨l4, R4⟩ : ∃ l, RdK encM 2 W (.slice a4 n4 c4) l ∧ OkM W l ∧ l.length ≤ 1048576 := by
    obtain ⟨f, hf⟩ := h4
    exact mems_of hf (by show Rows.uptoBulk d4 ≤ 1048576; omega)
  obtain ⟨a5, n5, c5, rfl⟩ := okWide_slice Tryd.underlying22 (hval 5 22 v5 rfl rfl)
  obtain ⟨l5, R5⟩ : ∃ l, RdK encU 1 W (.slice a5 n5 c5) l ∧ (∀ x ∈ l, 0 ≤ x ∧ x < 4294967296) ∧ l.length ≤ 1048576 := by
    obtain ⟨f, hf⟩ := h5
    exact nums_of hf (by show Rows.uptoBulk d5 ≤ 1048576; omega)
  clear hbulk
  have hE : ErrV W := errv_of_laid (by kernel_rfl) (by simp [Rows.listsFirstUptoRow]) (by simp [Rows.listsFirstUptoRow]) hL
  have hT : Tab10 W := tab10_of_laid (by kernel_rfl) (by simp [Rows.listsFirstUptoRow]) hL
  refine (lf_is _ _ l0 l1 x2 y2 _ _ l3 l4 _ l5 W R0.1 R1.1 R0.2.1 R1.2.1 R2 R3.1 R4.1 R3.2.1 R4.2.1 R5.1 R0.2.2 R1.2.2 R3.2.2 R4.2.2 R5.2.2 hT hE).mono fun e W' ⟨he, hw⟩ => ?_
  subst he
  refine ⟨_, rfl, post_grown (pv := []) hW' hw rfl (fun _ _ _ => trodAll_mk1 (shut_bool Tryd.underlying4 true)) (fun sp hsp => ?_) (fun _ _ => rfl) (ok_one (by kernel_rfl) rfl (okWide_bool_mk Tryd.underlying4 true))⟩
  exact again hw (by rw [Tryd.params4]; decide +kernel) (fun p hp => hlt p (by simpa using hp)) hAk (fun p hp => hsp p (by simpa using hp))
theorem lf_holds : Rows.ListsFirstUptoSaid :=
  OpenClaim.holds_of_cond 4 Tryd.f4 rfl rfl rfl rfl rfl rfl rfl ⟨rfl, rfl, rfl, rfl, rfl⟩ rfl rfl rfl rfl rfl (by kernel_rfl) Tryd.func4 (by kernel_rfl)
    (of_decide_eq_true (by kernel_rfl)) (by unfold Func.isWrapper; first | (rw [if_pos (by decide +kernel)]; kernel_rfl) | (rw [if_neg (by decide +kernel)]; exact ⟨rfl, rfl⟩))
    (fun os started H enc _ F => by rw [OpenClaim.pre_eq_preRow]; exact lf_lifted os started H enc F)
theorem lf_card : Rows.ListsFirstUptoCardSaid :=
  Claim7.holds_tied_plain_at .later [] [.data, .data, .data, .sentinel, .sentinel] true Rows.listsFirstUptoCard.stood.harness true
    lf_holds (fun _ h => by cases h) (by kernel_rfl) (fun _ h => by cases h) listsFirstUpto_row_tie rfl ⟨rfl, rfl⟩ (by kernel_rfl) rfl
    (fun f fn hf hfn => by
      obtain rfl : f = 4 := Option.some.inj ((show Tryd.prog.funcNamed "waymark/waymarklaw09.ListsFirst" = some 4 by kernel_rfl).symm.trans hf) |>.symm
      obtain rfl : fn = Tryd.f4 := (Option.some.inj (Tryd.func4.symm.trans hfn)).symm
      exact ⟨by kernel_rfl, fun j t ht => by
        rw [Tryd.params4] at ht
        have hm : t ∈ [32, 32, 35, 36, 36, 22] := by simpa using Array.mem_of_getElem? ht
        have hall : ([32, 32, 35, 36, 36, 22].all fun u => !Tryd.prog.wantsStandIn u) = true := by kernel_rfl
        exact (show Tryd.prog.wantsStandIn t = false by simpa using List.all_eq_true.1 hall t hm)⟩)
    (by kernel_rfl)
end Go.Proofs.YtdefeahjchbifaaDoor
