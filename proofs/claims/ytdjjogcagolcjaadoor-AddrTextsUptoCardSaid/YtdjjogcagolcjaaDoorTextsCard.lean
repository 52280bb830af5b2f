/- For every text, address and prefix of bulk at most 1048576 AddrTexts answers true, and what it was given reads as before: addresses and prefixes are read and written as the document says. Conditions: the listed table of package internal/strconv holds what the program's text lays; the card ties that to the text; the bulk of what is given is at most 1048576. -/
import Derived.Test.YtdjjogcagolcjaaDoorTexts
import Derived.Test.YtdjjogcagolcjaaDoorLaid10
import Derived.Test.YtdjjogcagolcjaaDoorLaid
import Derived.Test.YtdjjogcagolcjaaDoorCards
import Derived.SevenTiedAt
import Derived.Deep.DeepHandedRow
namespace Go.Proofs.YtdjjogcagolcjaaDoor
open Go.ChangeShapes Go.WideShapes Go.ChangeAt Go.RowKit Go.Joins
theorem texts_laid (os : Os) : laidMet Tryd.prog Rows.addrTextsUptoRow.laid ((World.doorLaid Tryd.prog 400 os).forCall (fun _ _ => 0) ⟨#[], #[.string ⟨#[]⟩, .int .u32 0, .agg #[.int .u32 0, .int .i64 0]], []⟩).memory :=
  laidMet_of_run' 8 (by kernel_rfl) (by kernel_rfl)
theorem texts_reads (os : Os) {H : Type} (enc : TypeId × Value → H) : ∃ places, DataW.whole enc Tryd.prog ((World.doorLaid Tryd.prog 400 os).forCall (fun _ _ => 0) ⟨#[], #[.string ⟨#[]⟩, .int .u32 0, .agg #[.int .u32 0, .int .i64 0]], []⟩).memory Tryd.f4.params.toList Rows.addrTextsSpec.vars false #[Value.string ⟨#[]⟩, .int .u32 0, .agg #[.int .u32 0, .int .i64 0]].toList 8 = some ([.lit (.string []), .lit (.int .u32 0), .agg [.lit (.int .u32 0), .lit (.int .i64 0)]], [], places) :=
  ⟨[], by kernel_rfl⟩
set_option maxRecDepth 100000 in
theorem texts_lifted (os : Os) (started : os.Started) (H : Type) (enc : TypeId × Value → H) (F : Stop.Interp) :
    ReturnsInHanded {} Tryd.checked os 4 .any ((Rows.OpenSpec.upto Rows.addrTextsSpec).preRow enc Tryd.prog Tryd.f4 Rows.addrTextsUptoRow.domain false Rows.addrTextsUptoRow.laid) (((Rows.OpenSpec.upto Rows.addrTextsSpec).at F).post enc Tryd.prog Tryd.f4 false true false false) := by
  obtain ⟨places, hx⟩ := texts_reads os enc
  refine returnsInHanded_of_row (C := Tryd.checked) (s := Rows.OpenSpec.upto Rows.addrTextsSpec) own started (by kernel_rfl) Tryd.func4
    (witness_row_at (enc := enc) (C := Tryd.checked) false (World.doorLaid Tryd.prog 400 os) #[.string ⟨#[]⟩, .int .u32 0, .agg #[.int .u32 0, .int .i64 0]] rfl (by kernel_rfl) (by kernel_rfl) (by kernel_rfl)
      (OpenSpec.preRow_of_cond 8 hx (by kernel_rfl) (fun k hk => by cases hk; kernel_rfl) (by kernel_rfl) (texts_laid os))) ?_
  intro W base args ds gs before hval0 hW _ hcond _ hL _ _
  have hval : ∀ (j : Nat) t v, Tryd.f4.params[j]? = some t → args[j]? = some v → Value.okWide Tryd.prog W .any base t v := hval0
  have hW' := hW
  obtain ⟨p, q, hA0, hV, rfl, _, _⟩ := hW
  have hA : DataW.TrodAll enc Tryd.prog W 0 (fun _ => true) true Tryd.f4.params.toList args.toList ds p := hA0
  rw [Tryd.params4] at hA hval
  obtain ⟨args⟩ := args
  obtain ⟨v0, vs0, d0, ds0, p0, q0, hv0, hd0, hp0, h0, hr0⟩ := trodAll_cons hA
  simp only at hv0
  subst hv0 hd0 hp0
  obtain ⟨v1, vs1, d1, ds1, p1, q1, hv1, hd1, hp1, h1, hr1⟩ := trodAll_cons hr0
  subst hv1 hd1 hp1
  obtain ⟨v2, vs2, d2, ds2, p2, q2, hv2, hd2, hp2, h2, hr2⟩ := trodAll_cons hr1
  subst hv2 hd2 hp2
  obtain ⟨rfl, rfl, rfl⟩ := trodAll_none hr2
  obtain ⟨rfl, rfl⟩ := trodVars_none hV
  obtain ⟨x0, rfl, rfl, rfl, w0⟩ := ChangeMaps.open_string Tryd.underlying9 (hval 0 9 v0 rfl rfl) h0
  have r0 : x0.size ≤ 9223372036854775807 := by unfold maxLen at w0; omega
  obtain ⟨x1, rfl, rfl, rfl, w1⟩ := open_int Tryd.underlying25 (hval 1 25 v1 rfl rfl) h1
  have r1 := bounds_u32 w1
  obtain ⟨c2, e2, y2, z2, m2, rfl, rfl, rfl, hy2, hz2⟩ := open_agg2 Tryd.underlying30 (by kernel_rfl) cellsPf (hval 2 30 v2 rfl rfl) h2
  obtain ⟨x2, g2, rfl, w2⟩ := DataW.trod_int Tryd.underlying25 hy2
  obtain ⟨b2, k2, rfl, u2⟩ := DataW.trod_int Tryd.underlying3 hz2
  simp at g2 k2
  subst g2 k2
  have r2 := bounds_u32 w2
  have t2 := bounds_i64 u2
  clear hA0 hval0
  simp only [List.append_nil, List.nil_append] at hW'
  have readsP : ∀ (u v : Int), (Lit.int .u32 u).wf = true → (Lit.int .i64 v).wf = true → ∀ (W' : World) (sp : Nat → Bool), DataW.Trod enc Tryd.prog W' 0 sp true 30 (.agg #[.int .u32 u, .int .i64 v]) (.agg [.lit (.int .u32 u), .lit (.int .i64 v)]) [] := fun u v wu wv W' sp =>
    shut_agg2 (y0 := (.lit (.int .u32 u), [])) (y1 := (.lit (.int .i64 v), [])) Tryd.underlying30 (by kernel_rfl) cellsPf ⟨1, by simp [DataW.trod, Tryd.underlying25, wu]⟩ ⟨1, by simp [DataW.trod, Tryd.underlying3, wv]⟩
  have hbulk : Rows.uptoBulkAll (([.lit (.string x0.data.toList), .lit (.int .u32 x1), .agg [.lit (.int .u32 x2), .lit (.int .i64 b2)]] : List (DataW H)) ++ []) ≤ 1048576 := of_decide_eq_true (hcond _ rfl)
  have hsz : x0.size ≤ 1048576 := by
    simp only [List.append_nil, Rows.uptoBulkAll, Rows.uptoBulk] at hbulk
    rw [str_toList] at hbulk
    omega
  clear hbulk
  have h10 : Tab10 W := tab10_of_laid (by kernel_rfl) (by simp [Rows.addrTextsUptoRow]) hL
  refine (texts_any x0 x1 x2 b2 W hsz r1.1 (by omega) r2.1 (by omega) t2.1 (by omega) h10).mono fun e W' ⟨he, hw⟩ => ?_
  subst he
  exact ⟨_, rfl, post_grown (pa := []) (pv := []) hW' hw rfl (fun _ _ _ => trodAll_mk1 (shut_bool Tryd.underlying4 true)) (fun sp _ => (trodAll_cons_mk (ChangeMaps.shut_string Tryd.underlying9 w0) (trodAll_cons_mk (shut_int Tryd.underlying25 w1) (trodAll_cons_mk (readsP x2 b2 w2 u2 _ sp) trodAll_nil_mk)))) (fun _ _ => rfl) (ok_one (by kernel_rfl) rfl (okWide_bool_mk Tryd.underlying4 true))⟩
theorem texts_holds : Rows.AddrTextsUptoSaid :=
  OpenClaim.holds_of_cond 4 Tryd.f4 rfl rfl rfl rfl rfl rfl rfl ⟨rfl, rfl, rfl, rfl, rfl⟩ rfl rfl rfl rfl rfl (by kernel_rfl) Tryd.func4 (by kernel_rfl)
    (of_decide_eq_true (by kernel_rfl)) (by unfold Func.isWrapper; first | (rw [if_pos (by decide +kernel)]; kernel_rfl) | (rw [if_neg (by decide +kernel)]; exact ⟨rfl, rfl⟩))
    (fun os started H enc _ F => by rw [OpenClaim.pre_eq_preRow]; exact texts_lifted os started H enc F)
theorem texts_card : Rows.AddrTextsUptoCardSaid :=
  Claim7.holds_tied_plain_at .later [] [.data, .data, .data] true Rows.addrTextsUptoCard.stood.harness false
    texts_holds (fun _ h => by cases h) (by kernel_rfl) (fun _ h => by cases h) addrTextsUpto_row_tie rfl ⟨rfl, rfl⟩ (by kernel_rfl) rfl
    (fun f fn hf hfn => by
      obtain rfl : f = 4 := Option.some.inj ((show Tryd.prog.funcNamed "waymark/waymarklaw01.AddrTexts" = some 4 by kernel_rfl).symm.trans hf) |>.symm
      obtain rfl : fn = Tryd.f4 := (Option.some.inj (Tryd.func4.symm.trans hfn)).symm
      exact ⟨by kernel_rfl, fun j t ht => by
        rw [Tryd.params4] at ht
        have hm : t ∈ [9, 25, 30] := by simpa using Array.mem_of_getElem? ht
        have hall : ([9, 25, 30].all fun u => !Tryd.prog.wantsStandIn u) = true := by kernel_rfl
        exact (show Tryd.prog.wantsStandIn t = false by simpa using List.all_eq_true.1 hall t hm)⟩)
    (by kernel_rfl)
end Go.Proofs.YtdjjogcagolcjaaDoor
