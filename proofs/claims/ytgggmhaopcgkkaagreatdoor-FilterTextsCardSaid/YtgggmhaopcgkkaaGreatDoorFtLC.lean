/- For every rule, text, list of filters and name FilterTexts answers true, and they read as before: a rule has in package filter the text that it has in package waymarkref10, any text is read as the same rule or refused alike, and the first filter of a name is found, its rules in memory of their own. Conditions: the listed tables of packages math/bits, internal/strconv and unicode/utf8 and the errors of package strconv hold what the program's text lays; the card ties that to the text. -/
import Derived.Test.YtgggmhaopcgkkaaGreatDoorFtC
import Derived.Test.YtgggmhaopcgkkaaGreatDoorFtL
import Derived.Test.YtgggmhaopcgkkaaGreatDoorFtLd
import Derived.Test.YtgggmhaopcgkkaaGreatDoorFbO
import Derived.Test.YtgggmhaopcgkkaaGreatDoorFtO
import Derived.Test.YtgggmhaopcgkkaaGreatDoorCards
import Derived.SevenTiedAt
import Derived.Lay
namespace Go.Proofs.YtgggmhaopcgkkaaGreatDoor
open Go.ChangeShapes Go.WideShapes Go.ChangeAt Go.RowKit Go.Joins
set_option maxRecDepth 100000 in
theorem ftexts_lifted (os : Os) (started : os.Started) (H : Type) (enc : TypeId × Value → H) :
    ReturnsInHanded {} Tryz.checked os 3 .any (fun w args => (Rows.filterTextsSpec.pre enc Tryz.prog Tryz.f3 [] false w args ∧ laidMetH Tryz.prog Rows.filterTextsRow.laid w) ∧ sizedMet enc Tryz.prog Tryz.f3 (OpenSpec.ofChange Rows.filterTextsSpec) false w args)
      (Rows.filterTextsSpec.post enc Tryz.prog Tryz.f3 false true false false) := by
  refine wrap_sized (C := Tryz.checked) (X := fun w _ => laidMetH Tryz.prog Rows.filterTextsRow.laid w) (fun _ _ _ hh h => h.of_heap hh) Tryz.own started (by kernel_rfl) Tryz.func3
    (ChangeSpec.witness_shaped (enc := enc) (C := Tryz.checked) (os := os) (X := fun w _ => laidMetH Tryz.prog Rows.filterTextsRow.laid w) false (World.laidAll Tryz.prog os Rows.filterTextsRow.laid) #[.agg #[.bool false, .int .i64 0, .int .u32 0, .int .i64 0, .int .u32 0, .int .i64 0, .int .u32 0, .int .u32 0, .int .u32 0, .int .u32 0], .string ⟨#[]⟩, .slice none 0 0, .string ⟨#[]⟩] 8 rfl (World.shaped_of_RefB (by kernel_rfl) (by kernel_rfl)) (by kernel_rfl) (by kernel_rfl) (by kernel_rfl)
      (by rw [MakeChecks.laidMetH_plain _ _ _ (by kernel_rfl)]; exact laidMet_laidAll _ (by kernel_rfl) (by kernel_rfl))) ?_
  intro W base args ds gs before hval0 hW hL hsh hsz0
  have hval : ∀ (j : Nat) t v, Tryz.f3.params[j]? = some t → args[j]? = some v → Value.okWide Tryz.prog W .any base t v := hval0
  have hW' := hW
  have hlt : ∀ p ∈ before, p.block < W.heap.size := fun p hp => hW.lt p hp
  obtain ⟨p, q, hA0, hV, rfl, _, _⟩ := hW
  have hA : DataW.TrodAll enc Tryz.prog W 0 (fun _ => true) true Tryz.f3.params.toList args.toList ds p := hA0
  have hAk := hA
  rw [Tryz.params3] at hA hval
  obtain ⟨args⟩ := args
  obtain ⟨v0, vs0, d0, ds0, p0, q0, hv0, hd0, hp0, h0, hr0⟩ := trodAll_cons hA
  simp only at hv0
  subst hv0 hd0 hp0
  obtain ⟨v1, vs1, d1, ds1, p1, q1, hv1, hd1, hp1, h1, hr1⟩ := trodAll_cons hr0
  subst hv1 hd1 hp1
  obtain ⟨v2, vs2, d2, ds2, p2, q2, hv2, hd2, hp2, h2, hr2⟩ := trodAll_cons hr1
  subst hv2 hd2 hp2
  obtain ⟨v3, vs3, d3, ds3, p3, q3, hv3, hd3, hp3, h3, hr3⟩ := trodAll_cons hr2
  subst hv3 hd3 hp3
  obtain ⟨rfl, rfl, rfl⟩ := trodAll_none hr3
  obtain ⟨rfl, rfl⟩ := trodVars_none hV
  obtain ⟨r, rfl, hok, hpt⟩ := rule_argp (hval 0 29 v0 rfl rfl) h0
  obtain ⟨s, rfl, _, _, _⟩ := ChangeMaps.open_string Tryz.underlying9 (hval 1 9 v1 rfl rfl) h1
  obtain ⟨a2, n2, c2, rfl⟩ := okWide_slice Tryz.underlying30 (hval 2 30 v2 rfl rfl)
  have S2 : ∀ n ∈ d2.weights Tryz.prog 30, n ≤ reachBytes := fun n hn => by simpa using List.all_eq_true.1 hsz0 _ (DataW.weights_mem_each (j := 2) rfl rfl n hn)
  obtain ⟨fs, R2⟩ : ∃ l, RdF W (.slice a2 n2 c2) l := by
    obtain ⟨f, hf⟩ := h2
    exact filters_of hf S2
  obtain ⟨nm, rfl, _, _, _⟩ := ChangeMaps.open_string Tryz.underlying9 (hval 3 9 v3 rfl rfl) h3
  have h10 : Tab10 W := tab10_of_laid (by kernel_rfl) (by simp [Rows.filterTextsRow]) hL
  have hE : ErrV W := errv_of_laid (by kernel_rfl) (by simp [Rows.filterTextsRow]) (by simp [Rows.filterTextsRow]) hL
  have hM : MaxL W := maxl_of hsh
  have hlaw : Calls Tryz.prog 3 #[vR r, .string s, .slice a2 n2 c2, .string nm] W fun e w' => e = .returned (.bool true) ∧ Below W.heap.size W w' := by
    by_cases hs : 2000 < s.size
    · exact texts_long r s _ nm W hs
    · exact texts_short r s _ fs nm W hok hpt (by omega) R2 hM hE h10 (fun V => rparse10 s V (by omega))
  refine hlaw.mono fun e W' ⟨he, hw⟩ => ?_
  subst he
  refine ⟨_, rfl, post_grown (pv := []) hW' hw rfl (fun _ _ _ => trodAll_mk1 (shut_bool Tryz.underlying4 true)) (fun sp hsp => ?_) (fun _ _ => rfl) (ok_one (by kernel_rfl) rfl (okWide_bool_mk Tryz.underlying4 true))⟩
  exact again hw (by rw [Tryz.params3]; decide +kernel) (fun p hp => hlt p (by simpa using hp)) hAk (fun p hp => hsp p (by simpa using hp))
theorem ftexts_holds : Rows.FilterTextsSaid :=
  OpenClaim.holds_of_wide 3 Tryz.f3 rfl rfl rfl rfl rfl rfl rfl ⟨rfl, rfl, rfl, rfl, rfl⟩ rfl rfl rfl rfl rfl (by kernel_rfl) Tryz.func3 (by kernel_rfl)
    (of_decide_eq_true (by kernel_rfl)) (by unfold Func.isWrapper; first | (rw [if_pos (by decide +kernel)]; kernel_rfl) | (rw [if_neg (by decide +kernel)]; exact ⟨rfl, rfl⟩))
    (fun os started H enc _ => ftexts_lifted os started H enc)
theorem ftexts_card : Rows.FilterTextsCardSaid :=
  Claim7.holds_tied_plain_at .later [] [.data, .data, .data, .data, .sentinel, .sentinel, .pinned] true Rows.filterTextsCard.stood.harness true
    ftexts_holds (fun _ h => by cases h) (by kernel_rfl) (fun _ h => by cases h) filterTexts_row_tie rfl ⟨rfl, rfl⟩ (by kernel_rfl) rfl
    (fun f fn hf hfn => by
      obtain rfl : f = 3 := Option.some.inj ((show Tryz.prog.funcNamed "waymark/waymarklaw10.FilterTexts" = some 3 by kernel_rfl).symm.trans hf) |>.symm
      obtain rfl : fn = Tryz.f3 := (Option.some.inj (Tryz.func3.symm.trans hfn)).symm
      exact ⟨by kernel_rfl, fun j t ht => by
        rw [Tryz.params3] at ht
        have hm : t ∈ [29, 9, 30, 9] := by simpa using Array.mem_of_getElem? ht
        have hall : ([29, 9, 30, 9].all fun u => !Tryz.prog.wantsStandIn u) = true := by kernel_rfl
        exact (show Tryz.prog.wantsStandIn t = false by simpa using List.all_eq_true.1 hall t hm)⟩)
    (by kernel_rfl)
end Go.Proofs.YtgggmhaopcgkkaaGreatDoor
