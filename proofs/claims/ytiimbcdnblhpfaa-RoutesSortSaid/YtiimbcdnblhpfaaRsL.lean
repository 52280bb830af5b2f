/- Sort of package waymarkref08: the routes in order, each once, in new memory. No condition but the list's length. -/
import Derived.Test.YtiimbcdnblhpfaaRsK
import Derived.Test.YtiimbcdnblhpfaaRsF
namespace Go.Proofs.Ytiimbcdnblhpfaa
open Go.RowKit Go.Lib Go.Shelf
theorem flat_nil : flatK encRt [] = [] := rfl
theorem flat_one (s : RtD) : flatK encRt [s] = encRt s := by simp [flatK]
theorem flat_oneCell (l : List RtD) : ∀ u ∈ flatK encRt l, u.oneCell' = true := by
  intro u hu
  obtain ⟨s, _, h⟩ := List.mem_flatMap.1 hu
  exact encRt_one s u h
/-- Elements written over elements. -/
theorem RowR.over {w : World} {g cap p : Nat} {L : List RtD} (h : RowR w g cap [] L 0) (cs : List RtD) (hp : p + cs.length ≤ L.length) (hc : L.length ≤ cap) : RowR (w.setCells g (p * 9) (flatK encRt cs)) g cap [] (L.take p ++ (cs ++ L.drop (p + cs.length))) 0 := by
  obtain ⟨cur, h1, h2, _, h4⟩ := h
  obtain ⟨cur', k1, k2, k3, k4⟩ := heap_sets (flatK encRt cs) w g (p * 9) cur _ _ h1
  rw [flatK_length encRt_len] at k3 k4
  refine ⟨cur', k1, by omega, fun k s hk => by simp at hk, fun k s _ hk j u hu => ?_⟩
  have hj : j < 9 := by have := (List.getElem?_eq_some_iff.1 hu).1; rwa [encRt_len] at this
  have ht : (L.take p).length = p := by rw [List.length_take]; omega
  rw [List.getElem?_append, ht] at hk
  split at hk
  · rename_i hkp
    rw [List.getElem?_take, if_pos hkp] at hk
    rw [k3 _ (.inl (by omega))]
    exact h4 k s (Nat.zero_le _) hk j u hu
  · rename_i hkp
    rw [List.getElem?_append] at hk
    split at hk
    · rename_i hkc
      have := k4 ((k - p) * 9 + j) u (by omega) (by rw [flatK_at encRt_len hk hj]; exact hu)
      rwa [show p * 9 + ((k - p) * 9 + j) = k * 9 + j from by omega] at this
    · rename_i hkc
      rw [List.getElem?_drop, show p + cs.length + (k - p - cs.length) = k from by omega] at hk
      rw [k3 _ (.inr (by omega))]
      exact h4 k s (Nat.zero_le _) hk j u hu
theorem run_copy_rt (w : World) (ty : TypeId) (dp sp : Option Addr) (dLen dCap sLen sCap g off o' : Nat) (g' : Nat) (cs : List RtD) (hn : cs.length = Nat.min sLen dLen)
    (hpos : 0 < cs.length → dp = some ⟨g, off, none⟩ ∧ sp = some ⟨g', o', none⟩ ∧ ∀ j u, (flatK encRt cs)[j]? = some u → w.cell? ((⟨g', o', none⟩ : Addr).add j) = some u)
    (hc : ∀ j, j < cs.length * 9 → (w.cell? ⟨g, off + j, none⟩).isSome = true) (hf : ∀ j, j < cs.length * 9 → w.frozen? ⟨g, off + j, none⟩ = false) :
    (Builtin.copy_ #[22, 22] ty #[.slice dp dLen dCap, .slice sp sLen sCap]).run Try.prog w = .ok (goInt cs.length) (w.setCells g off (flatK encRt cs)) := by
  obtain ⟨i0, hi0, he⟩ := Option.map_eq_some_iff.1 infoA
  simp only [Prod.mk.injEq] at he
  obtain ⟨e1, e2, e3⟩ := he
  by_cases h0 : cs.length = 0
  · obtain rfl : cs = [] := List.eq_nil_of_length_eq_zero h0
    have hn' : Nat.min sLen dLen = 0 := hn.symm
    rcases sp with _ | sp <;> rcases dp with _ | dp <;> simp [Builtin.copy_, run_underlying Try.underlying22, Builtin.lenOf, Builtin.firstCells, sizeOf, typeInfo, hi0, hn', loadCells, loadCellsFrom, storeCells, flat_nil, World.setCells]
  · obtain ⟨rfl, rfl, hsrc⟩ := hpos (by omega)
    have hl := run_loadCells_list (P := Try.prog) w ⟨g', o', none⟩ (flatK encRt cs) hsrc
    rw [flatK_length encRt_len] at hl
    have hst := run_storeCells_cells (P := Try.prog) g off (flatK encRt cs) 0 w (by rw [flatK_length encRt_len]; simpa using hc) (by rw [flatK_length encRt_len]; simpa using hf) (flat_oneCell cs)
    simp only [Nat.add_zero] at hst
    simp [Builtin.copy_, run_underlying Try.underlying22, Builtin.lenOf, Builtin.firstCells, sizeOf, typeInfo, hi0, e2, ← hn, hl, hst]
theorem wpList_copy_rt {ops : Array Oper} {rest : List Oper} {o : Oper} {a : Act} {w : World} {Q : Exit → Act → World → Prop} (hgd : o.guard = none) (d s : Operand)
    (ho : o.op = .call { callee := .builtin .copy, args := #[d, s], argTypes := #[22, 22] })
    (dp sp : Option Addr) (dLen dCap sLen sCap : Nat) (hd : a.eval d = .slice dp dLen dCap) (hs : a.eval s = .slice sp sLen sCap) (g off g' o' : Nat) (cs : List RtD) (hn : cs.length = Nat.min sLen dLen)
    (hpos : 0 < cs.length → dp = some ⟨g, off, none⟩ ∧ sp = some ⟨g', o', none⟩ ∧ ∀ j u, (flatK encRt cs)[j]? = some u → w.cell? ((⟨g', o', none⟩ : Addr).add j) = some u)
    (hc : ∀ j, j < cs.length * 9 → (w.cell? ⟨g, off + j, none⟩).isSome = true) (hf : ∀ j, j < cs.length * 9 → w.frozen? ⟨g, off + j, none⟩ = false)
    (h : wpList Try.prog ops Q rest (a.put o.dst (goInt cs.length)) (w.setCells g off (flatK encRt cs))) : wpList Try.prog ops Q (o :: rest) a w := by
  refine wpList_plain hgd fun K hK => ?_
  have hrun := run_copy_rt w o.type dp sp dLen dCap sLen sCap g off o' g' cs hn hpos hc hf
  unfold Oper.wp
  simp [execOp, ho, resolve, invoke, builtin, hd, hs, hrun, Result.andThen]
  exact hK _ _ h
/-- One more is in its place. -/
theorem srt_put {l out : List RtD} {s : RtD} {i k : Nat} (h : Srt (l.take i) out) (hs : l[i]? = some s) (hk : k ≤ out.length) (hi : ∀ j t, k ≤ j → out[j]? = some t → cR s t < 0) (hlo : ∀ t, 0 < k → out[k - 1]? = some t → 0 < cR s t) : Srt (l.take (i + 1)) (out.take k ++ s :: out.drop k) := by
  obtain ⟨h1, h2⟩ := h
  have hlow : ∀ t ∈ out.take k, cR t s < 0 := fun t ht => by
    obtain ⟨j, hj, rfl⟩ := List.getElem_of_mem ht
    rw [List.length_take] at hj
    rw [List.getElem_take]
    have hk1 := hlo _ (by omega) (List.getElem?_eq_getElem (by omega : k - 1 < out.length))
    have ha := tot_cR.anti s (out[k - 1]'(by omega))
    rcases Nat.lt_or_ge j (k - 1) with hjk | hjk
    · have := List.pairwise_iff_getElem.1 h1 j (k - 1) (by omega) (by omega) hjk
      exact tot_cR.lt this (by omega)
    · have e : j = k - 1 := by omega
      subst e; omega
  refine ⟨List.pairwise_append.2 ⟨h1.sublist (List.take_sublist _ _), List.pairwise_cons.2 ⟨fun t ht => ?_, h1.sublist (List.drop_sublist _ _)⟩, fun a ha b hb => ?_⟩, fun t => ?_⟩
  · obtain ⟨j, hj, rfl⟩ := List.getElem_of_mem ht
    rw [List.getElem_drop]
    rw [List.length_drop] at hj
    exact hi (k + j) _ (by omega) (List.getElem?_eq_getElem (by omega))
  · rcases List.mem_cons.1 hb with rfl | hb
    · exact hlow a ha
    · obtain ⟨j, hj, rfl⟩ := List.getElem_of_mem hb
      rw [List.getElem_drop]
      rw [List.length_drop] at hj
      have := hi (k + j) _ (by omega) (List.getElem?_eq_getElem (by omega))
      exact tot_cR.lt (hlow a ha) (by omega)
  · have hm : t ∈ out ↔ t ∈ out.take k ∨ t ∈ out.drop k := by rw [← List.mem_append, List.take_append_drop]
    rw [List.take_add_one, hs, List.mem_append, List.mem_append, List.mem_cons, ← h2 t, hm]
    simp only [Option.toList_some, List.mem_singleton]
    constructor
    · rintro (h | h | h) <;> simp [h]
    · rintro ((h | h) | h) <;> simp [h]
theorem srt_skip {l out : List RtD} {s : RtD} {i : Nat} (h : Srt (l.take i) out) (hs : l[i]? = some s) (hm : s ∈ out) : Srt (l.take (i + 1)) out := by
  refine ⟨h.1, fun t => ?_⟩
  rw [List.take_add_one, hs, List.mem_append, ← h.2 t]
  simp only [Option.toList_some, List.mem_singleton]
  constructor
  · exact .inl
  · rintro (h | rfl)
    · exact h
    · exact hm
theorem srt_len {l out : List RtD} (h : Srt l out) : out.length ≤ l.length := by
  have hn : out.Nodup := h.1.imp fun {a b} hab e => by rw [e, cR_self] at hab; omega
  exact hn.length_le_of_subset fun a ha => (h.2 a).1 ha
end Go.Proofs.Ytiimbcdnblhpfaa
