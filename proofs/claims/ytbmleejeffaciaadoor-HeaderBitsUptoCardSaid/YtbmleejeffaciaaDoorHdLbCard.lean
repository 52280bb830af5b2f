/- For every two headers, number, bit, thirteen bytes and text of bulk at most 1048576 HeaderBits answers true, and what it was given reads as before: a header's bits, bytes, order and texts are as the document says. Conditions: the listed variables of packages math/bits, internal/strconv and strconv hold what the program's text lays; the card ties that to the text; the bulk of what is given is at most 1048576. -/
import Derived.Test.YtbmleejeffaciaaDoorHdLb
import Derived.Test.YtbmleejeffaciaaDoorHdArr
import Derived.Test.YtbmleejeffaciaaDoorLaidH
import Derived.Test.YtbmleejeffaciaaDoorCards
import Derived.SevenTiedAt
import Derived.Deep.DeepHandedRow
namespace Go.Proofs.YtbmleejeffaciaaDoor
open Go.ChangeShapes Go.WideShapes Go.ChangeAt Go.RowKit Go.Joins
theorem bits_met (os : Os) : laidMetH Tryd.prog Rows.headerBitsUptoRow.laid ((World.doorLaid Tryd.prog 400 os).forCall (fun _ _ => 0) ⟨#[], #[.agg #[.int .u32 0, .int .u32 0, .int .u8 0, .int .u16 0, .int .u16 0], .agg #[.int .u32 0, .int .u32 0, .int .u8 0, .int .u16 0, .int .u16 0], .int .i64 0, .bool false, .agg #[.int .u8 0, .int .u8 0, .int .u8 0, .int .u8 0, .int .u8 0, .int .u8 0, .int .u8 0, .int .u8 0, .int .u8 0, .int .u8 0, .int .u8 0, .int .u8 0, .int .u8 0], .string ⟨#[]⟩], []⟩).memory :=
  laidMetH_of_parts3 (fuel := 8) (laidMet_of_run' 8 (by kernel_rfl) (by kernel_rfl)) (by kernel_rfl) (by kernel_rfl)
theorem bits_reads (os : Os) {H : Type} (enc : TypeId × Value → H) : ∃ places, DataW.whole enc Tryd.prog ((World.doorLaid Tryd.prog 400 os).forCall (fun _ _ => 0) ⟨#[], #[.agg #[.int .u32 0, .int .u32 0, .int .u8 0, .int .u16 0, .int .u16 0], .agg #[.int .u32 0, .int .u32 0, .int .u8 0, .int .u16 0, .int .u16 0], .int .i64 0, .bool false, .agg #[.int .u8 0, .int .u8 0, .int .u8 0, .int .u8 0, .int .u8 0, .int .u8 0, .int .u8 0, .int .u8 0, .int .u8 0, .int .u8 0, .int .u8 0, .int .u8 0, .int .u8 0], .string ⟨#[]⟩], []⟩).memory Tryd.f4.params.toList Rows.headerBitsSpec.vars false #[Value.agg #[.int .u32 0, .int .u32 0, .int .u8 0, .int .u16 0, .int .u16 0], .agg #[.int .u32 0, .int .u32 0, .int .u8 0, .int .u16 0, .int .u16 0], .int .i64 0, .bool false, .agg #[.int .u8 0, .int .u8 0, .int .u8 0, .int .u8 0, .int .u8 0, .int .u8 0, .int .u8 0, .int .u8 0, .int .u8 0, .int .u8 0, .int .u8 0, .int .u8 0, .int .u8 0], .string ⟨#[]⟩].toList 8 = some ([.agg [.lit (.int .u32 0), .lit (.int .u32 0), .lit (.int .u8 0), .lit (.int .u16 0), .lit (.int .u16 0)], .agg [.lit (.int .u32 0), .lit (.int .u32 0), .lit (.int .u8 0), .lit (.int .u16 0), .lit (.int .u16 0)], .lit (.int .i64 0), .lit (.bool false), .agg [.lit (.int .u8 0), .lit (.int .u8 0), .lit (.int .u8 0), .lit (.int .u8 0), .lit (.int .u8 0), .lit (.int .u8 0), .lit (.int .u8 0), .lit (.int .u8 0), .lit (.int .u8 0), .lit (.int .u8 0), .lit (.int .u8 0), .lit (.int .u8 0), .lit (.int .u8 0)], .lit (.string [])], [], places) :=
  ⟨[], by kernel_rfl⟩
set_option maxRecDepth 100000 in
theorem bits_lifted (os : Os) (started : os.Started) (H : Type) (enc : TypeId × Value → H) (F : Stop.Interp) :
    ReturnsInHanded {} Tryd.checked os 4 .any ((Rows.OpenSpec.upto Rows.headerBitsSpec).preRow enc Tryd.prog Tryd.f4 Rows.headerBitsUptoRow.domain false Rows.headerBitsUptoRow.laid) (((Rows.OpenSpec.upto Rows.headerBitsSpec).at F).post enc Tryd.prog Tryd.f4 false true false false) := by
  obtain ⟨places, hx⟩ := bits_reads os enc
  refine returnsInHanded_of_row (C := Tryd.checked) (s := Rows.OpenSpec.upto Rows.headerBitsSpec) own started (by kernel_rfl) Tryd.func4
    (witness_row_at (enc := enc) (C := Tryd.checked) false (World.doorLaid Tryd.prog 400 os) #[.agg #[.int .u32 0, .int .u32 0, .int .u8 0, .int .u16 0, .int .u16 0], .agg #[.int .u32 0, .int .u32 0, .int .u8 0, .int .u16 0, .int .u16 0], .int .i64 0, .bool false, .agg #[.int .u8 0, .int .u8 0, .int .u8 0, .int .u8 0, .int .u8 0, .int .u8 0, .int .u8 0, .int .u8 0, .int .u8 0, .int .u8 0, .int .u8 0, .int .u8 0, .int .u8 0], .string ⟨#[]⟩] rfl (by kernel_rfl) (by kernel_rfl) (by kernel_rfl)
      (OpenSpec.preRow_of_cond 8 hx (by kernel_rfl) (fun k hk => by cases hk; kernel_rfl) (by kernel_rfl) (bits_met os))) ?_
  intro W base args ds gs before hval0 hW _ hcond _ hL _ _
  have hval : ∀ (j : Nat) t v, Tryd.f4.params[j]? = some t → args[j]? = some v → Value.okWide Tryd.prog W .any base t v := hval0
  have hW' := hW
  obtain ⟨p, q, hA0, hV, rfl, _, _⟩ := hW
  have hA : DataW.TrodAll enc Tryd.prog W 0 (fun _ => true) true Tryd.f4.params.toList args.toList ds p := hA0
  rw [Tryd.params4] at hA hval
  obtain ⟨args⟩ := args
  obtain ⟨v0, vs0, d0, ds0, p0, q0, hv0, hd0, hp0, h0, hr0⟩ := trodAll_cons hA
  simp only at hv0
  subst hv0 hd0 hp0
  obtain ⟨v1, vs1, d1, ds1, p1, q1, hv1, hd1, hp1, h1, hr1⟩ := trodAll_cons hr0
  subst hv1 hd1 hp1
  obtain ⟨v2, vs2, d2, ds2, p2, q2, hv2, hd2, hp2, h2, hr2⟩ := trodAll_cons hr1
  subst hv2 hd2 hp2
  obtain ⟨v3, vs3, d3, ds3, p3, q3, hv3, hd3, hp3, h3, hr3⟩ := trodAll_cons hr2
  subst hv3 hd3 hp3
  obtain ⟨v4, vs4, d4, ds4, p4, q4, hv4, hd4, hp4, h4, hr4⟩ := trodAll_cons hr3
  subst hv4 hd4 hp4
  obtain ⟨v5, vs5, d5, ds5, p5, q5, hv5, hd5, hp5, h5, hr5⟩ := trodAll_cons hr4
  subst hv5 hd5 hp5
  obtain ⟨rfl, rfl, rfl⟩ := trodAll_none hr5
  obtain ⟨rfl, rfl⟩ := trodVars_none hV
  obtain ⟨x00, x01, x02, x03, x04, rfl, rfl, rfl, w00, w01, w02, w03, w04⟩ := open_hdr (hval 0 27 v0 rfl rfl) h0
  have H0 : Hdr x00 x01 x02 x03 x04 := by
    have b0 := bounds_u32 w00
    have b1 := bounds_u32 w01
    have b2 := bounds_u8 w02
    have b3 := bounds_u16 w03
    have b4 := bounds_u16 w04
    constructor <;> omega
  obtain ⟨x10, x11, x12, x13, x14, rfl, rfl, rfl, w10, w11, w12, w13, w14⟩ := open_hdr (hval 1 27 v1 rfl rfl) h1
  have H1 : Hdr x10 x11 x12 x13 x14 := by
    have b0 := bounds_u32 w10
    have b1 := bounds_u32 w11
    have b2 := bounds_u8 w12
    have b3 := bounds_u16 w13
    have b4 := bounds_u16 w14
    constructor <;> omega
  obtain ⟨x2, rfl, rfl, rfl, w2⟩ := open_int Tryd.underlying3 (hval 2 3 v2 rfl rfl) h2
  have r2 := bounds_i64 w2
  obtain ⟨x3, rfl, rfl, rfl⟩ := open_bool Tryd.underlying4 (hval 3 4 v3 rfl rfl) h3
  obtain ⟨x4, H4, rfl, rfl, rfl⟩ := open_arr (hval 4 39 v4 rfl rfl) h4
  obtain ⟨x5, rfl, rfl, rfl, w5⟩ := ChangeMaps.open_string Tryd.underlying9 (hval 5 9 v5 rfl rfl) h5
  have r5 : x5.size ≤ 9223372036854775807 := by unfold maxLen at w5; omega
  clear hA0 hval0
  simp only [List.append_nil, List.nil_append] at hW'
  have hbulk : Rows.uptoBulkAll (([.agg [.lit (.int .u32 x00), .lit (.int .u32 x01), .lit (.int .u8 x02), .lit (.int .u16 x03), .lit (.int .u16 x04)], .agg [.lit (.int .u32 x10), .lit (.int .u32 x11), .lit (.int .u8 x12), .lit (.int .u16 x13), .lit (.int .u16 x14)], .lit (.int .i64 x2), .lit (.bool x3), .agg (x4.map (u8D H)), .lit (.string x5.data.toList)] : List (DataW H)) ++ []) ≤ 1048576 := of_decide_eq_true (hcond _ rfl)
  have hsz5 : x5.size ≤ 1048576 := by
    simp only [List.append_nil, Rows.uptoBulkAll, Rows.uptoBulk] at hbulk
    rw [str_toList] at hbulk
    omega
  clear hbulk
  have hE : ErrV W := errv_of_laid (by kernel_rfl) (by simp [Rows.headerBitsUptoRow]) (by simp [Rows.headerBitsUptoRow]) hL
  have hT : Tab10 W := tab10_of_laid (by kernel_rfl) (by simp [Rows.headerBitsUptoRow]) hL
  refine (bits_any x00 x01 x02 x03 x04 x10 x11 x12 x13 x14 x2 x3 x4 x5 W H0 H1 H4 (by omega) hE hT).mono fun e W' ⟨he, hw⟩ => ?_
  subst he
  exact ⟨_, rfl, post_grown (pa := []) (pv := []) hW' hw rfl (fun _ _ _ => trodAll_mk1 (shut_bool Tryd.underlying4 true)) (fun sp _ => (trodAll_cons_mk (shut_hdr w00 w01 w02 w03 w04) (trodAll_cons_mk (shut_hdr w10 w11 w12 w13 w14) (trodAll_cons_mk (shut_int Tryd.underlying3 w2) (trodAll_cons_mk (shut_bool Tryd.underlying4 x3) (trodAll_cons_mk (shut_arr H4) (trodAll_cons_mk (ChangeMaps.shut_string Tryd.underlying9 w5) trodAll_nil_mk))))))) (fun _ _ => rfl) (ok_one (by kernel_rfl) rfl (okWide_bool_mk Tryd.underlying4 true))⟩
theorem bits_holds : Rows.HeaderBitsUptoSaid :=
  OpenClaim.holds_of_cond 4 Tryd.f4 rfl rfl rfl rfl rfl rfl rfl ⟨rfl, rfl, rfl, rfl, rfl⟩ rfl rfl rfl rfl rfl (by kernel_rfl) Tryd.func4 (by kernel_rfl)
    (of_decide_eq_true (by kernel_rfl)) (by unfold Func.isWrapper; first | (rw [if_pos (by decide +kernel)]; kernel_rfl) | (rw [if_neg (by decide +kernel)]; exact ⟨rfl, rfl⟩))
    (fun os started H enc _ F => by rw [OpenClaim.pre_eq_preRow]; exact bits_lifted os started H enc F)
theorem bits_card : Rows.HeaderBitsUptoCardSaid :=
  Claim7.holds_tied_plain_at .later [] [.data, .data, .data, .sentinel, .sentinel] true Rows.headerBitsUptoCard.stood.harness true
    bits_holds (fun _ h => by cases h) (by kernel_rfl) (fun _ h => by cases h) headerBitsUpto_row_tie rfl ⟨rfl, rfl⟩ (by kernel_rfl) rfl
    (fun f fn hf hfn => by
      obtain rfl : f = 4 := Option.some.inj ((show Tryd.prog.funcNamed "waymark/waymarklaw03.HeaderBits" = some 4 by kernel_rfl).symm.trans hf) |>.symm
      obtain rfl : fn = Tryd.f4 := (Option.some.inj (Tryd.func4.symm.trans hfn)).symm
      exact ⟨by kernel_rfl, fun j t ht => by
        rw [Tryd.params4] at ht
        have hm : t ∈ [27, 27, 3, 4, 39, 9] := by simpa using Array.mem_of_getElem? ht
        have hall : ([27, 27, 3, 4, 39, 9].all fun u => !Tryd.prog.wantsStandIn u) = true := by kernel_rfl
        exact (show Tryd.prog.wantsStandIn t = false by simpa using List.all_eq_true.1 hall t hm)⟩)
    (by kernel_rfl)
end Go.Proofs.YtbmleejeffaciaaDoor
