/- For all routes, lists of routes and adverts RoutesOrder answers true, and they read as before: the order of routes is an order and tells routes apart, that of adverts is an order, and a list's routes stand in one order, however often and wherever they came. Conditions: the listed tables of packages math/bits, internal/strconv and unicode/utf8, the errors of package strconv and the words of package routes hold what the program's text lays; the card ties that to the text. -/
import Derived.Test.YtgpoeeccgpjnlaaGreatDoorRaM
import Derived.Test.YtgpoeeccgpjnlaaGreatDoorRaLd
import Derived.Test.YtgpoeeccgpjnlaaGreatDoorRaXp
import Derived.Test.YtgpoeeccgpjnlaaGreatDoorCards
import Derived.SevenTiedAt
import Derived.Lay
namespace Go.Proofs.YtgpoeeccgpjnlaaGreatDoor
open Go.ChangeShapes Go.WideShapes Go.ChangeAt Go.RowKit Go.Joins
set_option maxRecDepth 100000 in
theorem rorder_lifted (os : Os) (started : os.Started) (H : Type) (enc : TypeId × Value → H) :
    ReturnsInHanded {} Tryz.checked os 3 .any (fun w args => (Rows.routesOrderSpec.pre enc Tryz.prog Tryz.f3 [] false w args ∧ laidMetH Tryz.prog Rows.routesOrderRow.laid w) ∧ sizedMet enc Tryz.prog Tryz.f3 (OpenSpec.ofChange Rows.routesOrderSpec) false w args)
      (Rows.routesOrderSpec.post enc Tryz.prog Tryz.f3 false true false false) := by
  refine returnsInHanded_of_change_and (C := Tryz.checked) (X := fun w _ => laidMetH Tryz.prog Rows.routesOrderRow.laid w) (fun _ _ _ hh h => h.of_heap hh) Tryz.own started (by kernel_rfl) Tryz.func3
    (ChangeSpec.witness_shaped (enc := enc) (C := Tryz.checked) (os := os) (X := fun w _ => laidMetH Tryz.prog Rows.routesOrderRow.laid w) false (World.laidAll Tryz.prog os Rows.routesOrderRow.laid) #[.agg #[.int .u32 0, .int .i64 0, .int .u8 0, .int .i64 0, .int .i64 0, .int .i64 0, .string ⟨#[]⟩, .int .u32 0, .bool false], .agg #[.int .u32 0, .int .i64 0, .int .u8 0, .int .i64 0, .int .i64 0, .int .i64 0, .string ⟨#[]⟩, .int .u32 0, .bool false], .agg #[.int .u32 0, .int .i64 0, .int .u8 0, .int .i64 0, .int .i64 0, .int .i64 0, .string ⟨#[]⟩, .int .u32 0, .bool false], .slice none 0 0, .agg #[.int .u32 0, .int .i64 0, .int .u32 0, .int .i64 0, .int .i64 0, .slice none 0 0, .slice none 0 0, .int .u32 0, .int .u32 0, .bool false, .int .u32 0, .slice none 0 0, .int .i64 0], .agg #[.int .u32 0, .int .i64 0, .int .u32 0, .int .i64 0, .int .i64 0, .slice none 0 0, .slice none 0 0, .int .u32 0, .int .u32 0, .bool false, .int .u32 0, .slice none 0 0, .int .i64 0], .agg #[.int .u32 0, .int .i64 0, .int .u32 0, .int .i64 0, .int .i64 0, .slice none 0 0, .slice none 0 0, .int .u32 0, .int .u32 0, .bool false, .int .u32 0, .slice none 0 0, .int .i64 0]] 8 (World.laidAll_os _ _ _) (World.shaped_of_ZipB (by kernel_rfl) (by kernel_rfl)) (by kernel_rfl) (by kernel_rfl) (by kernel_rfl)
      (by rw [MakeChecks.laidMetH_plain _ _ _ (by kernel_rfl)]; exact laidMet_laidAll _ (by kernel_rfl) (by kernel_rfl))) ?_
  intro W base args ds gs before hval0 hW _ _ hL _
  have hval : ∀ (j : Nat) t v, Tryz.f3.params[j]? = some t → args[j]? = some v → Value.okWide Tryz.prog W .any base t v := hval0
  have hW' := hW
  have hlt : ∀ p ∈ before, p.block < W.heap.size := fun p hp => hW.lt p hp
  obtain ⟨p, q, hA0, hV, rfl, _, _⟩ := hW
  have hA : DataW.TrodAll enc Tryz.prog W 0 (fun _ => true) true Tryz.f3.params.toList args.toList ds p := hA0
  have hAk := hA
  rw [Tryz.params3] at hA hval
  obtain ⟨args⟩ := args
  obtain ⟨v0, vs0, d0, ds0, p0, q0, hv0, hd0, hp0, h0, hr0⟩ := trodAll_cons hA
  simp only at hv0
  subst hv0 hd0 hp0
  obtain ⟨v1, vs1, d1, ds1, p1, q1, hv1, hd1, hp1, h1, hr1⟩ := trodAll_cons hr0
  skip
  subst hv1 hd1 hp1
  obtain ⟨v2, vs2, d2, ds2, p2, q2, hv2, hd2, hp2, h2, hr2⟩ := trodAll_cons hr1
  skip
  subst hv2 hd2 hp2
  obtain ⟨v3, vs3, d3, ds3, p3, q3, hv3, hd3, hp3, h3, hr3⟩ := trodAll_cons hr2
  skip
  subst hv3 hd3 hp3
  obtain ⟨v4, vs4, d4, ds4, p4, q4, hv4, hd4, hp4, h4, hr4⟩ := trodAll_cons hr3
  skip
  subst hv4 hd4 hp4
  obtain ⟨v5, vs5, d5, ds5, p5, q5, hv5, hd5, hp5, h5, hr5⟩ := trodAll_cons hr4
  skip
  subst hv5 hd5 hp5
  obtain ⟨v6, vs6, d6, ds6, p6, q6, hv6, hd6, hp6, h6, hr6⟩ := trodAll_cons hr5
  skip
  subst hv6 hd6 hp6
  obtain ⟨rfl, rfl, rfl⟩ := trodAll_none hr6
  obtain ⟨rfl, rfl⟩ := trodVars_none hV
  obtain ⟨a, rfl⟩ := rt_arg (hval 0 27 v0 rfl rfl) h0
  obtain ⟨b, rfl⟩ := rt_arg (hval 1 27 v1 rfl rfl) h1
  obtain ⟨c, rfl⟩ := rt_arg (hval 2 27 v2 rfl rfl) h2
  obtain ⟨l, R3⟩ : ∃ l, RdK encRt 9 W v3 l := by
    obtain ⟨a0, n0, c0, rfl⟩ := okWide_slice Tryz.underlying28 (hval 3 28 v3 rfl rfl)
    obtain ⟨f, hf⟩ := h3
    exact rts_of hf
  obtain ⟨x, rfl, RX⟩ := ad_arg (hval 4 32 v4 rfl rfl) h4
  obtain ⟨y, rfl, RY⟩ := ad_arg (hval 5 32 v5 rfl rfl) h5
  obtain ⟨z, rfl, RZ⟩ := ad_arg (hval 6 32 v6 rfl rfl) h6
  have h10 : Tab10 W := tab10_of_laid (by kernel_rfl) (by simp [Rows.routesOrderRow]) hL
  have hsr : Src9 W := src_of_laid (by kernel_rfl) (by simp [Rows.routesOrderRow]) hL
  refine (order_law a b c v3 l x y z W R3 RX RY RZ h10 hsr).mono fun e W' ⟨he, hw⟩ => ?_
  subst he
  refine ⟨_, rfl, post_grown (pv := []) hW' hw rfl (fun _ _ _ => trodAll_mk1 (shut_bool Tryz.underlying4 true)) (fun sp hsp => ?_) (fun _ _ => rfl) (ok_one (by kernel_rfl) rfl (okWide_bool_mk Tryz.underlying4 true))⟩
  exact again hw (by rw [Tryz.params3]; decide +kernel) (fun p hp => hlt p (by simpa using hp)) hAk (fun p hp => hsp p (by simpa using hp))
theorem rorder_holds : Rows.RoutesOrderSaid :=
  OpenClaim.holds_of_wide 3 Tryz.f3 rfl rfl rfl rfl rfl rfl rfl ⟨rfl, rfl, rfl, rfl, rfl⟩ rfl rfl rfl rfl rfl (by kernel_rfl) Tryz.func3 (by kernel_rfl)
    (of_decide_eq_true (by kernel_rfl)) (by unfold Func.isWrapper; first | (rw [if_pos (by decide +kernel)]; kernel_rfl) | (rw [if_neg (by decide +kernel)]; exact ⟨rfl, rfl⟩))
    (fun os started H enc _ => rorder_lifted os started H enc)
theorem rorder_card : Rows.RoutesOrderCardSaid :=
  Claim7.holds_tied_plain_at .later [] [.data, .data, .data, .data, .sentinel, .sentinel, .data, .pinned] true Rows.routesOrderCard.stood.harness true
    rorder_holds (fun _ h => by cases h) (by kernel_rfl) (fun _ h => by cases h) routesOrder_row_tie rfl ⟨rfl, rfl⟩ (by kernel_rfl) rfl
    (fun f fn hf hfn => by
      obtain rfl : f = 3 := Option.some.inj ((show Tryz.prog.funcNamed "waymark/waymarklaw08.RoutesOrder" = some 3 by kernel_rfl).symm.trans hf) |>.symm
      obtain rfl : fn = Tryz.f3 := (Option.some.inj (Tryz.func3.symm.trans hfn)).symm
      exact ⟨by kernel_rfl, fun j t ht => by
        rw [Tryz.params3] at ht
        have hm : t ∈ [27, 27, 27, 28, 32, 32, 32] := by simpa using Array.mem_of_getElem? ht
        have hall : ([27, 27, 27, 28, 32, 32, 32].all fun u => !Tryz.prog.wantsStandIn u) = true := by kernel_rfl
        exact (show Tryz.prog.wantsStandIn t = false by simpa using List.all_eq_true.1 hall t hm)⟩)
    (by kernel_rfl)
end Go.Proofs.YtgpoeeccgpjnlaaGreatDoor
