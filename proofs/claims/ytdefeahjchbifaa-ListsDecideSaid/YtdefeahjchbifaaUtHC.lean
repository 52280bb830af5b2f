/- For every list of entries, every prefix, every list of members, every list of communities and every number ListsDecide answers true, and they read as before: which line decides of a prefix or of communities, and how, is in package lists what it is in package waymarkref09, also when a line is changed. No condition. -/
import Derived.Test.YtdefeahjchbifaaRows
import Derived.Test.YtdefeahjchbifaaUtO
namespace Go.Proofs.Ytdefeahjchbifaa
open Go.ChangeShapes Go.WideShapes Go.ChangeAt Go.RowKit Go.Joins
set_option maxRecDepth 100000 in
theorem listsDecide_lifted (os : Os) (started : os.Started) (H : Type) (enc : TypeId × Value → H) :
    ReturnsInHanded {} Try.checked os 3 .any (Rows.listsDecideSpec.pre6 enc Try.prog Try.f3 Rows.listsDecideRow.domain false) (Rows.listsDecideSpec.post enc Try.prog Try.f3 false true false false) := by
  refine returnsInHanded_of_change_sized (C := Try.checked) Try.own started (by kernel_rfl) Try.func3
    (ChangeSpec.witness6 (enc := enc) (C := Try.checked) false ⟨#[], #[.slice none 0 0, .agg #[.int .u32 0, .int .i64 0], .slice none 0 0, .slice none 0 0, .int .i64 0], []⟩ 8 (by kernel_rfl) (by kernel_rfl) (by kernel_rfl) (by kernel_rfl)) ?_
  intro W base args ds gs before hval0 hW _ hsz0 _
  have hval : ∀ (j : Nat) t v, Try.f3.params[j]? = some t → args[j]? = some v → Value.okWide Try.prog W .any base t v := hval0
  have hW' := hW
  have hlt : ∀ p ∈ before, p.block < W.heap.size := fun p hp => hW.lt p hp
  obtain ⟨p, q, hA0, hV, rfl, _, _⟩ := hW
  have hA : DataW.TrodAll enc Try.prog W 0 (fun _ => true) true Try.f3.params.toList args.toList ds p := hA0
  have hAk := hA
  rw [Try.params3] at hA hval
  obtain ⟨v0, v1, v2, v3, v4, d0, d1, d2, d3, d4, p0, p1, p2, p3, p4, rfl, rfl, rfl, h0, h1, h2, h3, h4⟩ := trodAll_five hA
  obtain ⟨rfl, rfl⟩ := trodVars_none hV
  obtain ⟨a0, n0, c0, rfl⟩ := okWide_slice Try.underlying22 (hval 0 22 v0 rfl rfl)
  have S0 : ∀ n ∈ d0.weights Try.prog 22, n ≤ reachBytes := fun n hn => by simpa using List.all_eq_true.1 hsz0 _ (DataW.weights_mem_each (j := 0) rfl rfl n hn)
  obtain ⟨l0, R0⟩ : ∃ l, RdK encE 5 W (.slice a0 n0 c0) l ∧ OkE l ∧ l.length * 40 ≤ 140737488351232 := by
    obtain ⟨f, hf⟩ := h0
    exact ents_of hf S0
  obtain ⟨x1, y1, rfl, R1⟩ := pre_arg (hval 1 26 v1 rfl rfl) h1
  obtain ⟨a2, n2, c2, rfl⟩ := okWide_slice Try.underlying27 (hval 2 27 v2 rfl rfl)
  have S2 : ∀ n ∈ d2.weights Try.prog 27, n ≤ reachBytes := fun n hn => by simpa using List.all_eq_true.1 hsz0 _ (DataW.weights_mem_each (j := 2) rfl rfl n hn)
  obtain ⟨l2, R2⟩ : ∃ l, RdK encM 2 W (.slice a2 n2 c2) l ∧ OkM W l ∧ l.length * 32 ≤ 140737488351232 := by
    obtain ⟨f, hf⟩ := h2
    exact mems_of hf S2
  obtain ⟨a3, n3, c3, rfl⟩ := okWide_slice Try.underlying28 (hval 3 28 v3 rfl rfl)
  have S3 : ∀ n ∈ d3.weights Try.prog 28, n ≤ reachBytes := fun n hn => by simpa using List.all_eq_true.1 hsz0 _ (DataW.weights_mem_each (j := 3) rfl rfl n hn)
  obtain ⟨l3, R3⟩ : ∃ l, RdK encU 1 W (.slice a3 n3 c3) l ∧ (∀ x ∈ l, 0 ≤ x ∧ x < 4294967296) ∧ l.length * 4 ≤ 140737488351232 := by
    obtain ⟨f, hf⟩ := h3
    exact nums_of hf S3
  obtain ⟨x4, rfl, rfl, rfl, w4⟩ := open_int Try.underlying3 (hval 4 3 v4 rfl rfl) h4
  refine (ld_is _ l0 x1 y1 _ l2 _ l3 x4 W R0.1 R0.2.1 R1 R2.1 R2.2.1 R3.1 R0.2.2 R2.2.2 R3.2.2).mono fun e W' ⟨he, hw⟩ => ?_
  subst he
  refine ⟨_, rfl, post_grown (pv := []) hW' hw rfl (fun _ _ _ => trodAll_mk1 (shut_bool Try.underlying4 true)) (fun sp hsp => ?_) (fun _ _ => rfl) (ok_one (by kernel_rfl) rfl (okWide_bool_mk Try.underlying4 true))⟩
  exact again hw (by rw [Try.params3]; decide +kernel) (fun p hp => hlt p (by simpa using hp)) hAk (fun p hp => hsp p (by simpa using hp))
theorem listsDecide_holds : Rows.ListsDecideSaid :=
  OpenClaim.holds_of_wide 3 Try.f3 rfl rfl rfl rfl rfl rfl rfl ⟨rfl, rfl, rfl, rfl, rfl⟩ rfl rfl rfl rfl rfl (by kernel_rfl) Try.func3 (by kernel_rfl)
    (of_decide_eq_true (by kernel_rfl)) (by unfold Func.isWrapper; first | (rw [if_pos (by decide +kernel)]; kernel_rfl) | (rw [if_neg (by decide +kernel)]; exact ⟨rfl, rfl⟩))
    (fun os started H enc _ => listsDecide_lifted os started H enc)
end Go.Proofs.Ytdefeahjchbifaa
