/- What merge of package spans hands back, and Or, And, Less and Not: the set that is meant, in its form, in new memory. Under the conditions that they name. -/
import Derived.Test.YtelncpmphgndjaaDoorSpMerge
namespace Go.Proofs.YtelncpmphgndjaaDoor
open Go.RowKit
theorem cut_top {a : List (Nat × Nat)} (h : ∀ s ∈ a, s.2 < top) (hc : Canon a) : ∀ c ∈ cutsOf a, c ≤ top := by
  intro c hm
  obtain ⟨s, hs, e⟩ := mem_cutsOf.1 hm
  have := h s hs
  have := hc.some s hs
  omega
theorem OwnN.rdn {t : TypeId} {b : Nat} {w : World} {v : Value} {A : List Nat} (h : OwnN t .u64 b w v A) {w' : World} (hw : ∀ g, b ≤ g → g < w.heap.size → w'.heap[g]? = w.heap[g]?) : RdN w' v A := by
  rcases h.row with ⟨rfl, rfl⟩ | ⟨g, cap, cur, rfl, hg, _, _, hh, _, hlt, _, hc⟩
  · exact ⟨none, 0, rfl, fun i x hi => by simp at hi⟩
  · refine ⟨_, cap, rfl, fun i x hi => ⟨g, 0, rfl, ?_⟩⟩
    rw [Nat.zero_add]
    have := hc i x hi
    rw [cell_of_heap hh] at this
    rw [cell_of_heap ((hw g hg hlt).trans hh)]
    exact this
set_option maxRecDepth 100000 in
set_option maxHeartbeats 1000000 in
theorem merge_is (kf : Nat) (k : Bool → Bool → Bool) (hk : ∀ p q W, Calls Tryd.prog kf #[.bool p, .bool q] W fun e w' => e = .returned (.bool (k p q)) ∧ W = w') (hkf : ∀ args w, (callFunc kf args).run Tryd.prog w = .ok (.enter kf args) w) (hk0 : k false false = false)
    (l m : List (Nat × Nat)) (v u : Value) (w : World) (hr : Rd w v l) (hs : Rd w u m) (hll : l.length ≤ 200000000) (hlm : m.length ≤ 200000000) :
    Calls Tryd.prog 44 #[v, u, .func (.func kf) #[] #[]] w (NewSet (fun x => k (has l x) (has m x)) w) := by
  have hlf := CnHas_length hr.1.two
  have hmf := CnHas_length hs.1.two
  have HR := Lib.hid hr; have HS := Lib.hid hs; have HK := Lib.hid hk; have HKF := Lib.hid hkf
  have hsv := hr.sl
  obtain ⟨p1, d1, hv1, _⟩ := hsv
  have hsu := hs.sl
  obtain ⟨p2, d2, hv2, _⟩ := hsu
  subst hv1 hv2
  clear hr hs hk hkf
  go_enter Tryd.func44, Tryd.ntmps44
  go_wp2_with fail
  go_at_call 41
  have hB4 : Below w.heap.size w ((((w.alloc (.cells #[.func (.func kf) #[] #[]] 67)).alloc (.cells #[.slice none 0 0] 22)).alloc (.cells #[.int .u64 0] 35)).alloc (.cells #[.bool false] 4)) :=
    ((((Below.refl _ _).alloc (Nat.le_refl _) _).alloc (by simp) _).alloc (by simp; omega) _).alloc (by simp; omega) _
  have q0 : ((((w.alloc (.cells #[.func (.func kf) #[] #[]] 67)).alloc (.cells #[.slice none 0 0] 22)).alloc (.cells #[.int .u64 0] 35)).alloc (.cells #[.bool false] 4)).heap[w.heap.size]? = some (.cells #[.func (.func kf) #[] #[]] 67 (0, 0)) := by
    rw [heap_alloc _ (by simp <;> omega), heap_alloc _ (by simp <;> omega), heap_alloc _ (by simp <;> omega)]; exact heap_new _ _
  have q1 : ((((w.alloc (.cells #[.func (.func kf) #[] #[]] 67)).alloc (.cells #[.slice none 0 0] 22)).alloc (.cells #[.int .u64 0] 35)).alloc (.cells #[.bool false] 4)).heap[w.heap.size + 1]? = some (.cells #[.slice none 0 0] 22 (0, 0)) := by
    rw [heap_alloc _ (by simp <;> omega), heap_alloc _ (by simp <;> omega)]; have := heap_new (w.alloc (.cells #[.func (.func kf) #[] #[]] 67)) (.cells #[.slice none 0 0] 22); simpa using this
  have q2 : ((((w.alloc (.cells #[.func (.func kf) #[] #[]] 67)).alloc (.cells #[.slice none 0 0] 22)).alloc (.cells #[.int .u64 0] 35)).alloc (.cells #[.bool false] 4)).heap[w.heap.size + 2]? = some (.cells #[.int .u64 0] 35 (0, 0)) := by
    rw [heap_alloc _ (by simp)]; have := heap_new ((w.alloc (.cells #[.func (.func kf) #[] #[]] 67)).alloc (.cells #[.slice none 0 0] 22)) (.cells #[.int .u64 0] 35); simpa using this
  have q3 : ((((w.alloc (.cells #[.func (.func kf) #[] #[]] 67)).alloc (.cells #[.slice none 0 0] 22)).alloc (.cells #[.int .u64 0] 35)).alloc (.cells #[.bool false] 4)).heap[w.heap.size + 3]? = some (.cells #[.bool false] 4 (0, 0)) := by
    have := heap_new (((w.alloc (.cells #[.func (.func kf) #[] #[]] 67)).alloc (.cells #[.slice none 0 0] 22)).alloc (.cells #[.int .u64 0] 35)) (.cells #[.bool false] 4); simpa using this
  have q4 : ((((w.alloc (.cells #[.func (.func kf) #[] #[]] 67)).alloc (.cells #[.slice none 0 0] 22)).alloc (.cells #[.int .u64 0] 35)).alloc (.cells #[.bool false] 4)).heap.size = w.heap.size + 4 := by simp
  generalize ((((w.alloc (.cells #[.func (.func kf) #[] #[]] 67)).alloc (.cells #[.slice none 0 0] 22)).alloc (.cells #[.int .u64 0] 35)).alloc (.cells #[.bool false] 4)) = W4 at *
  have Q0 := Lib.hid q0; have Q1 := Lib.hid q1; have Q2 := Lib.hid q2; have Q3 := Lib.hid q3; have Q4 := Lib.hid q4
  clear q0 q1 q2 q3 q4
  refine (cuts_is l _ W4 (HR.out.below hB4) (by omega)).mono ?_
  rintro e w1 ⟨v1, rfl, ho1, hb1⟩
  go_wp2_with fail
  go_at_call 41
  refine (cuts_is m _ w1 ((HS.out.below hB4).below hb1) (by omega)).mono ?_
  rintro e w2 ⟨v2, rfl, ho2, hb2⟩
  have hb42 : Below W4.heap.size W4 w2 := Below.step hb1 hb2
  have hz2 := hb42.size
  rw [Q4.out] at hz2
  have HO1 := Lib.hid (ho1.below hb2)
  have HO2 := Lib.hid ho2
  have hz1 := hb1.size
  have hz12 := hb2.size
  clear ho1 ho2
  have hca := Cn_canon (has l)
  have hcb := Cn_canon (has m)
  have hta := cut_top (Cn_small (has l)).two hca
  have htb := cut_top (Cn_small (has m)).two hcb
  have hla := cutsOf_length (Cn (has l))
  have hlb := cutsOf_length (Cn (has m))
  have HF : Hid (∀ x, has (Cn (has l)) x = has l x ∧ has (Cn (has m)) x = has m x) := Lib.hid fun x => by
    rw [Cn_has, Cn_has]
    by_cases hx : x < top
    · simp [hx]
    · rw [has_top HR.out.1.two (by omega), has_top HS.out.1.two (by omega)]; simp
  generalize hgl : Cn (has l) = fl at *
  generalize hgm : Cn (has m) = fm at *
  have hask : Asks 59 #[.pointer (some ⟨w.heap.size, 0, none⟩), .pointer (some ⟨w.heap.size + 3, 0, none⟩), .pointer (some ⟨w.heap.size + 2, 0, none⟩), .pointer (some ⟨w.heap.size + 1, 0, none⟩)] (cutsOf fl) (cutsOf fm) v1 v2
      (fun i j y W => ∃ M bg mv, MJ w.heap.size kf k (fun x => k (has fl x) (has fm x)) w w2 i j y M bg mv W) := by
    refine ⟨?_, ?_, ?_⟩
    · rintro i j y W ⟨M, bg, mv, hj⟩
      have h4 := Q4.out
      exact ⟨HO1.out.rdn fun g h1 h2 => hj.old g (by omega) h2, HO2.out.rdn fun g h1 h2 => hj.old g (by omega) h2⟩
    · rintro i j y W n ⟨M, bg, mv, hj⟩
      exact ⟨M, bg, mv, hj.mrg, hj.len, hj.bgt, hj.own, hj.b0, hj.b1, hj.b2, hj.b3, hj.old, Below.draws hj.below n, hj.size⟩
    · rintro i j y c i' j' W ⟨M, bg, mv, hj⟩ hsp hnx
      have hc := (hnx.split hca.cuts hcb.cuts hsp).2.2.1
      have h1 := hsp.ia
      have h2 := hsp.jb
      exact ask_is w.heap.size kf k HK.out HKF.out fl fm hca hcb w w2 (by omega) i j y c i' j' M bg mv W hj hsp hnx (hc.elim (hta c) (htb c)) (by omega)
  have hJ0 : ∃ M bg mv, MJ w.heap.size kf k (fun x => k (has fl x) (has fm x)) w w2 0 0 0 M bg mv w2 := by
    have e : k (decide (0 % 2 = 1)) (decide (0 % 2 = 1)) = false := hk0
    have h4 := Q4.out
    refine ⟨[], 0, .slice none 0 0, by rw [e]; exact Mrg.start _ _, Nat.le_refl _, Nat.zero_le _, ⟨fun _ h => (by cases h), World.ownsRow_nil _ _ _ _⟩, ?_, ?_, ?_, ?_, fun _ _ _ => rfl, hB4.trans (hb42.mono (by omega)), Nat.le_refl _⟩
    · exact (hb42.block _ (by omega)).trans Q0.out
    · exact (hb42.block _ (by omega)).trans Q1.out
    · exact (hb42.block _ (by omega)).trans Q2.out
    · rw [e]; exact (hb42.block _ (by omega)).trans Q3.out
  have hsw := sweep_is 59 _ (enters_of Tryd.func59 (by kernel_rfl) rfl) (cutsOf fl) (cutsOf fm) v1 v2 _ hask hca.cuts hcb.cuts hta htb (by omega) (by omega) w2 hJ0
  have HSW := Lib.hid hsw
  have HCA := Lib.hid hca; have HCB := Lib.hid hcb
  clear hsw hJ0 hask hca hcb hta htb hla hlb hgl hgm
  go_wp2_with fail
  go_at_call 42
  refine HSW.out.mono ?_
  rintro e w3 ⟨rfl, y, hsp, M, bg, mv, hj⟩
  have hM := hj.mrg.done HCA.out HCB.out k hk0 rfl hsp
  have y1 : w3.cell? ⟨w.heap.size + 1, 0, none⟩ = some mv := cell_of_heap hj.b1
  have HJ := Lib.hid hj; have HM := Lib.hid hM
  clear hsp hj hM
  go_wp2
  go_ret
  refine ⟨_, rfl, ?_, HJ.out.below⟩
  have e : Cn (fun x => k (has l x) (has m x)) = M := by
    rw [HM.out]
    exact Cn_congr fun x _ => by rw [(HF.out x).1, (HF.out x).2]
  rw [e]
  exact HJ.out.own.base (by omega)
end Go.Proofs.YtelncpmphgndjaaDoor
