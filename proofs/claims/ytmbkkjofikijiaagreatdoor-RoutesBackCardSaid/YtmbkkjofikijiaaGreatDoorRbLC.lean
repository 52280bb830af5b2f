/- For all routes, adverts and texts RoutesBack answers true, and they read as before: a route that may be written is read back out of its text, two routes have one text just if they are the same, an advert that may be written is read back out of its text, and a text that is read as a route or an advert is what that is written as. Conditions: the listed tables of packages math/bits, internal/strconv and unicode/utf8, the errors of package strconv and the words of package routes hold what the program's text lays; the card ties that to the text. -/
import Derived.Test.YtmbkkjofikijiaaGreatDoorRbL
import Derived.Test.YtmbkkjofikijiaaGreatDoorRbO
import Derived.Test.YtmbkkjofikijiaaGreatDoorRbLd
import Derived.Test.YtmbkkjofikijiaaGreatDoorCards
import Derived.SevenTiedAt
import Derived.Lay
namespace Go.Proofs.YtmbkkjofikijiaaGreatDoor
open Go.ChangeShapes Go.WideShapes Go.ChangeAt Go.RowKit Go.Joins
set_option maxRecDepth 100000 in
theorem rback_lifted (os : Os) (started : os.Started) (H : Type) (enc : TypeId × Value → H) :
    ReturnsInHanded {} Tryz.checked os 4 .any (fun w args => (Rows.routesBackSpec.pre enc Tryz.prog Tryz.f4 [] false w args ∧ laidMetH Tryz.prog Rows.routesBackRow.laid w) ∧ sizedMet enc Tryz.prog Tryz.f4 (OpenSpec.ofChange Rows.routesBackSpec) false w args)
      (Rows.routesBackSpec.post enc Tryz.prog Tryz.f4 false true false false) := by
  refine returnsInHanded_of_change_and (C := Tryz.checked) (X := fun w _ => laidMetH Tryz.prog Rows.routesBackRow.laid w) (fun _ _ _ hh h => h.of_heap hh) Tryz.own started (by kernel_rfl) Tryz.func4
    (ChangeSpec.witness_shaped (enc := enc) (C := Tryz.checked) (os := os) (X := fun w _ => laidMetH Tryz.prog Rows.routesBackRow.laid w) false (World.laidAll Tryz.prog os Rows.routesBackRow.laid) #[.agg #[.int .u32 0, .int .i64 0, .int .u8 0, .int .i64 0, .int .i64 0, .int .i64 0, .string ⟨#[]⟩, .int .u32 0, .bool false], .agg #[.int .u32 0, .int .i64 0, .int .u8 0, .int .i64 0, .int .i64 0, .int .i64 0, .string ⟨#[]⟩, .int .u32 0, .bool false], .agg #[.int .u32 0, .int .i64 0, .int .u32 0, .int .i64 0, .int .i64 0, .slice none 0 0, .slice none 0 0, .int .u32 0, .int .u32 0, .bool false, .int .u32 0, .slice none 0 0, .int .i64 0], .string ⟨#[]⟩] 8 (World.laidAll_os _ _ _) (World.shaped_of_ZipB (by kernel_rfl) (by kernel_rfl)) (by kernel_rfl) (by kernel_rfl) (by kernel_rfl)
      (by rw [MakeChecks.laidMetH_plain _ _ _ (by kernel_rfl)]; exact laidMet_laidAll _ (by kernel_rfl) (by kernel_rfl))) ?_
  intro W base args ds gs before hval0 hW _ hsz0 hL _
  have hval : ∀ (j : Nat) t v, Tryz.f4.params[j]? = some t → args[j]? = some v → Value.okWide Tryz.prog W .any base t v := hval0
  have hW' := hW
  have hlt : ∀ p ∈ before, p.block < W.heap.size := fun p hp => hW.lt p hp
  obtain ⟨p, q, hA0, hV, rfl, _, _⟩ := hW
  have hA : DataW.TrodAll enc Tryz.prog W 0 (fun _ => true) true Tryz.f4.params.toList args.toList ds p := hA0
  have hAk := hA
  rw [Tryz.params4] at hA hval
  obtain ⟨args⟩ := args
  obtain ⟨v0, vs0, d0, ds0, p0, q0, hv0, hd0, hp0, h0, hr0⟩ := trodAll_cons hA
  simp only at hv0
  subst hv0 hd0 hp0
  obtain ⟨v1, vs1, d1, ds1, p1, q1, hv1, hd1, hp1, h1, hr1⟩ := trodAll_cons hr0
  skip
  subst hv1 hd1 hp1
  obtain ⟨v2, vs2, d2, ds2, p2, q2, hv2, hd2, hp2, h2, hr2⟩ := trodAll_cons hr1
  skip
  subst hv2 hd2 hp2
  obtain ⟨v3, vs3, d3, ds3, p3, q3, hv3, hd3, hp3, h3, hr3⟩ := trodAll_cons hr2
  skip
  subst hv3 hd3 hp3
  obtain ⟨rfl, rfl, rfl⟩ := trodAll_none hr3
  obtain ⟨rfl, rfl⟩ := trodVars_none hV
  obtain ⟨r0, rfl, u0⟩ := rt_argB (hval 0 27 v0 rfl rfl) h0
  obtain ⟨r0a, r0b, r0f, r0d, r0m, r0t, r0n, r0h, r0c⟩ := r0
  obtain ⟨r1, rfl, u1⟩ := rt_argB (hval 1 27 v1 rfl rfl) h1
  obtain ⟨r1a, r1b, r1f, r1d, r1m, r1t, r1n, r1h, r1c⟩ := r1
  have S2 : ∀ n ∈ d2.weights Tryz.prog 31, n ≤ reachBytes := fun n hn => by simpa using List.all_eq_true.1 hsz0 _ (DataW.weights_mem_each (j := 2) rfl rfl n hn)
  obtain ⟨a, b, ho, pf, me, p1, c1, p2, c2, pa, co, pe, pi, ex, og, p3, c3, cl, se, rfl, g9, rd1, rd2, rd3, l1, l2, l3⟩ := ad_argB (hval 2 31 v2 rfl rfl) h2 S2
  obtain ⟨s3, rfl, _, _, z3⟩ := ChangeMaps.open_string Tryz.underlying9 (hval 3 9 v3 rfl rfl) h3
  have h10 : Tab10 W := tab10_of_laid (by kernel_rfl) (by simp [Rows.routesBackRow]) hL
  have hsr : Src9 W := src_of_laid (by kernel_rfl) (by simp [Rows.routesBackRow]) hL
  have hE : ErrV W := errv_of_laid (by kernel_rfl) (by simp [Rows.routesBackRow]) (by simp [Rows.routesBackRow]) hL
  refine (rback_is r0a r0b r0f r0d r0m r0t r0n r0h r0c r1a r1b r1f r1d r1m r1t r1n r1h r1c a b ho pf me p1 c1 p2 c2 pa co pe pi ex og p3 c3 cl se s3 W u0.1 u0.2.1 u0.2.2.1 u0.2.2.2 u1.1 u1.2.1 u1.2.2.1 u1.2.2.2 g9 rd1 rd2 rd3 l1 l2 l3 h10 hsr hE).mono fun e W' ⟨he, hw⟩ => ?_
  subst he
  refine ⟨_, rfl, post_grown (pv := []) hW' hw rfl (fun _ _ _ => trodAll_mk1 (shut_bool Tryz.underlying4 true)) (fun sp hsp => ?_) (fun _ _ => rfl) (ok_one (by kernel_rfl) rfl (okWide_bool_mk Tryz.underlying4 true))⟩
  exact again hw (by rw [Tryz.params4]; decide +kernel) (fun p hp => hlt p (by simpa using hp)) hAk (fun p hp => hsp p (by simpa using hp))
theorem rback_holds : Rows.RoutesBackSaid :=
  OpenClaim.holds_of_wide 4 Tryz.f4 rfl rfl rfl rfl rfl rfl rfl ⟨rfl, rfl, rfl, rfl, rfl⟩ rfl rfl rfl rfl rfl (by kernel_rfl) Tryz.func4 (by kernel_rfl)
    (of_decide_eq_true (by kernel_rfl)) (by unfold Func.isWrapper; first | (rw [if_pos (by decide +kernel)]; kernel_rfl) | (rw [if_neg (by decide +kernel)]; exact ⟨rfl, rfl⟩))
    (fun os started H enc _ => rback_lifted os started H enc)
theorem rback_card : Rows.RoutesBackCardSaid :=
  Claim7.holds_tied_plain_at .later [] [.data, .data, .data, .data, .sentinel, .sentinel, .data, .pinned] true Rows.routesBackCard.stood.harness true
    rback_holds (fun _ h => by cases h) (by kernel_rfl) (fun _ h => by cases h) routesBack_row_tie rfl ⟨rfl, rfl⟩ (by kernel_rfl) rfl
    (fun f fn hf hfn => by
      obtain rfl : f = 4 := Option.some.inj ((show Tryz.prog.funcNamed "waymark/waymarklaw08.RoutesBack" = some 4 by kernel_rfl).symm.trans hf) |>.symm
      obtain rfl : fn = Tryz.f4 := (Option.some.inj (Tryz.func4.symm.trans hfn)).symm
      exact ⟨by kernel_rfl, fun j t ht => by
        rw [Tryz.params4] at ht
        have hm : t ∈ [27, 27, 31, 9] := by simpa using Array.mem_of_getElem? ht
        have hall : ([27, 27, 31, 9].all fun u => !Tryz.prog.wantsStandIn u) = true := by kernel_rfl
        exact (show Tryz.prog.wantsStandIn t = false by simpa using List.all_eq_true.1 hall t hm)⟩)
    (by kernel_rfl)
end Go.Proofs.YtmbkkjofikijiaaGreatDoor
