/- The law TrieAgain. Under the conditions that it names. -/
import Derived.Test.YtodfimnmbfdicaaTqB
namespace Go.Proofs.Ytodfimnmbfdicaa
open Go.RowKit Go.Shelf
attribute [local go_sem] Oper.semAt_some
theorem row_beside {w w' : World} {t r x : Nat} {L : List Kv} {T : Tr Int} {cs : Array Value} {ty : TypeId} (h : TabAt_i w t r L T) (hk : Kept2_i t r w w') (hx : w.heap[x]? = some (.cells cs ty (0, 0))) (hty : ty ≠ 70) : w'.heap[x]? = some (.cells cs ty (0, 0)) := by
  obtain ⟨root, hrow, _⟩ := h.row
  obtain ⟨⟨es, k, hmap, _⟩⟩ := h.map
  refine (hk.block x (blk_lt hx) ?_ ?_).trans hx
  · rintro rfl; rw [hrow] at hx; simp at hx; exact hty hx.2.symm
  · rintro rfl; rw [hmap] at hx; cases hx
/-- The law's variables, and what stood before. -/
structure St (w0 : World) (n0 nt : Nat) (q0 q1 : Int) (tt : Nat) (w : World) : Prop where
  bel : Below w0.heap.size w0 w
  r6 : w.heap[n0]? = some (.cells #[.int .u32 q0, .int .i64 q1] 34 (0, 0))
  r8 : w.heap[n0 + 1]? = some (.cells #[.bool false] 4 (0, 0))
  rt : w.heap[nt]? = some (.cells #[.pointer (some ⟨tt, 0, none⟩)] 24 (0, 0))
section
variable {w0 w w' : World} {n0 nt tt : Nat} {q0 q1 : Int}
theorem St.call (h : St w0 n0 nt q0 q1 tt w) (hb : Below w.heap.size w w') : St w0 n0 nt q0 q1 tt w' :=
  ⟨Below.step h.bel hb, (hb.block _ (blk_lt h.r6)).trans h.r6, (hb.block _ (blk_lt h.r8)).trans h.r8, (hb.block _ (blk_lt h.rt)).trans h.rt⟩
theorem St.kept {t r : Nat} {L : List Kv} {T : Tr Int} (h : St w0 n0 nt q0 q1 tt w) (hT : TabAt_i w t r L T) (hk : Kept2_i t r w w') (ht : w0.heap.size ≤ t) (hr : w0.heap.size ≤ r) : St w0 n0 nt q0 q1 tt w' :=
  ⟨h.bel.trans (hk.below ht hr h.bel.size), row_beside hT hk h.r6 (by decide), row_beside hT hk h.r8 (by decide), row_beside hT hk h.rt (by decide)⟩
end
/-- Two tables of a list's prefixes, one with its first j, the other with its first i. -/
structure Two (E : List (Int × Int)) (j i : Nat) (ts rs tt rt : Nat) (w : World) : Prop where
  two : ∃ Ls Ts Lt Tt, TabAt_i w ts rs Ls Ts ∧ FitsL E Ls Ts ∧ FullL E j Ts ∧ TabAt_i w tt rt Lt Tt ∧ FitsL E Lt Tt ∧ FullL E i Tt
theorem Two.on {E : List (Int × Int)} {j i ts rs tt rt : Nat} {w w' : World} (h : Two E j i ts rs tt rt w) (hb : Below w.heap.size w w') : Two E j i ts rs tt rt w' := by
  obtain ⟨Ls, Ts, Lt, Tt, h1, h2, h3, h4, h5, h6⟩ := h.two
  exact ⟨⟨Ls, Ts, Lt, Tt, h1.on hb, h2, h3, h4.on hb, h5, h6⟩⟩
/-- Two tables of the same prefixes and values. -/
structure Fin2 (E : List (Int × Int)) (ts rs tt rt : Nat) (w : World) : Prop where
  two : ∃ Ls Ts Lt Tt, TabAt_i w ts rs Ls Ts ∧ FitsL E Ls Ts ∧ TabAt_i w tt rt Lt Tt ∧ (∀ b m v, getL (b, m) Lt = some v ↔ Tt.Has b m v) ∧ Uniq Lt ∧ ∀ b m v, Ts.Has b m v ↔ Tt.Has b m v
theorem Fin2.on {E : List (Int × Int)} {ts rs tt rt : Nat} {w w' : World} (h : Fin2 E ts rs tt rt w) (hb : Below w.heap.size w w') : Fin2 E ts rs tt rt w' := by
  obtain ⟨Ls, Ts, Lt, Tt, h1, h2, h3, h4, h5, h6⟩ := h.two
  exact ⟨⟨Ls, Ts, Lt, Tt, h1.on hb, h2, h3.on hb, h4, h5, h6⟩⟩
theorem Two.fin {E : List (Int × Int)} {k ts rs tt rt : Nat} {w : World} (h : Two E k k ts rs tt rt w) (hE : E.length = k) : Fin2 E ts rs tt rt w := by
  obtain ⟨Ls, Ts, Lt, Tt, h1, h2, h3, h4, h5, h6⟩ := h.two
  refine ⟨⟨Ls, Ts, Lt, Tt, h1, h2, h4, h5.same, h5.uniq, fun b m v => ⟨fun hh => ?_, fun hh => ?_⟩⟩⟩
  · obtain ⟨rfl, hm, hc⟩ := h2.from_ _ _ _ hh
    obtain ⟨i, hi, he⟩ := List.getElem_of_mem hm
    exact h6 i b m (by omega) (by rw [List.getElem?_eq_getElem hi, he]) hc
  · obtain ⟨rfl, hm, hc⟩ := h5.from_ _ _ _ hh
    obtain ⟨i, hi, he⟩ := List.getElem_of_mem hm
    exact h3 i b m (by omega) (by rw [List.getElem?_eq_getElem hi, he]) hc
theorem uniq_short {V : Type} : ∀ {E : List (Int × Int)} {L : List ((Int × Int) × V)}, Uniq L → (∀ x v, getL x L = some v → x ∈ E) → L.length ≤ E.length
  | [], [], _, _ => Nat.le_refl _
  | [], x :: L, _, h => by
    have := h x.1 x.2 (by simp [getL])
    cases this
  | e :: E, L, hu, h => by
    have h1 := uniq_short (E := E) (uniq_del e hu) (fun x v hx => by
      rw [getL_delL e x hu] at hx
      split at hx
      · cases hx
      · rename_i hne
        rcases List.mem_cons.1 (h x v hx) with h2 | h2
        · exact absurd h2.symm hne
        · exact h2)
    rw [List.length_cons]
    cases hg : getL e L with
    | some v => have := delL_len e hg; omega
    | none =>
      have : ∀ {M : List ((Int × Int) × V)}, getL e M = none → delL e M = M := by
        intro M
        induction M with
        | nil => intro _; rfl
        | cons y M ih =>
          intro hn
          unfold getL at hn
          split at hn
          · cases hn
          · rename_i hne
            unfold delL
            rw [if_neg hne, ih hn]
      rw [this hg] at h1
      omega
theorem uniq_len {V : Type} {L M : List ((Int × Int) × V)} (hL : Uniq L) (hM : Uniq M) (h : ∀ x, getL x L = getL x M) : L.length = M.length := by
  have key : ∀ {M : List ((Int × Int) × V)} {x : Int × Int} {v : V}, getL x M = some v → x ∈ M.map (·.1) := by
    intro M
    induction M with
    | nil => intro x v hx; cases hx
    | cons y M ih =>
      intro x v hx
      unfold getL at hx
      rw [List.map_cons]
      split at hx
      · rename_i he; rw [he]; exact List.mem_cons_self ..
      · exact List.mem_cons_of_mem _ (ih hx)
  have h1 := uniq_short (E := M.map (·.1)) hL fun x v hx => key (by rw [← h x]; exact hx)
  have h2 := uniq_short (E := L.map (·.1)) hM fun x v hx => key (by rw [h x]; exact hx)
  rw [List.length_map] at h1 h2
  omega
theorem wrap_sum {b m : Int} (h : PfOk b m) : wrap64 (b + m) = b + m := by
  have h1 := h.bits
  have h2 := h.1
  have h3 := h.2.1
  unfold wrap64
  omega
theorem FullL.keep {l : List (Int × Int)} {j : Nat} {T : Tr Int} {b m : Int} (h : FullL l j T) (hok : T.Ok) (hbm : PfOk b m) : FullL l j (T.ins b m (b + m)) := by
  intro i c k hi he hc
  refine (Tr.has_ins (v := b + m) hbm c k (c + k) hok).2 ?_
  by_cases e : c = b ∧ k = m
  · exact .inl ⟨e.1, e.2, by rw [e.1, e.2]⟩
  · exact .inr ⟨e, h i c k hi he hc⟩
theorem put_any (t r : Nat) (L : List Kv) (T : Tr Int) (x0 x1 v : Int) (w : World) (hT : TabAt_i w t r L T) (h0 : 0 ≤ x0) (h1 : x0 < 4294967296) : Calls Try.prog 11 #[.pointer (some ⟨t, 0, none⟩), .agg #[.int .u32 x0, .int .i64 x1], .int .i64 v] w fun e w' => (∃ n, e = .returned (.int .i64 n)) ∧ ((PfOk x0 x1 ∧ TabAt_i w' t r (putL (x0, x1) v L) (T.ins x0 x1 v)) ∨ (ck x0 x1 ≠ 0 ∧ TabAt_i w' t r L T)) ∧ Kept2_i t r w w' := by
  by_cases hk : ck x0 x1 = 0
  · refine (put_is_i with_is_i t r L T x0 x1 v w hT ⟨h0, h1, hk⟩).mono ?_
    rintro e w' ⟨rfl, h2, h3⟩
    exact ⟨⟨_, rfl⟩, .inl ⟨⟨h0, h1, hk⟩, h2⟩, h3⟩
  · refine (put_bad_i _ x0 x1 _ v w h0 h1 rfl hk).mono ?_
    rintro e w' ⟨rfl, hb⟩
    exact ⟨⟨_, rfl⟩, .inr ⟨hk, hT.on hb⟩, Kept2_i.of hb⟩
section
variable {E : List (Int × Int)} {j i ts rs tt rt n0 nt : Nat} {q0 q1 x0 x1 v : Int} {w0 w : World}
theorem two_s (hS : St w0 n0 nt q0 q1 tt w) (hb : w0.heap.size ≤ ts ∧ w0.heap.size ≤ rs ∧ w0.heap.size ≤ tt ∧ w0.heap.size ≤ rt) (hne : ts ≠ tt ∧ rs ≠ rt) (h : Two E j i ts rs tt rt w) (hx : E[j]? = some (x0, x1)) (h0 : 0 ≤ x0) (h1 : x0 < 4294967296) (hv : PfOk x0 x1 → v = x0 + x1) :
    Calls Try.prog 11 #[.pointer (some ⟨ts, 0, none⟩), .agg #[.int .u32 x0, .int .i64 x1], .int .i64 v] w fun e w' => (∃ n, e = .returned (.int .i64 n)) ∧ St w0 n0 nt q0 q1 tt w' ∧ Two E (j + 1) i ts rs tt rt w' := by
  obtain ⟨Ls, Ts, Lt, Tt, t1, t2, t3, t4, t5, t6⟩ := h.two
  refine (put_any ts rs Ls Ts x0 x1 v w t1 h0 h1).mono ?_
  rintro e w' ⟨he, hc, hk⟩
  refine ⟨he, hS.kept t1 hk hb.1 hb.2.1, ?_⟩
  have t4' := t1.beside t4 hne.1 hne.2 hk
  rcases hc with ⟨hp, ht⟩ | ⟨hp, ht⟩
  · rw [hv hp] at ht
    exact ⟨⟨_, _, Lt, Tt, ht, t2.put (List.mem_of_getElem? hx) t1.ok hp, t3.put (L := Ls) t1.ok hp hx, t4', t5, t6⟩⟩
  · exact ⟨⟨_, _, Lt, Tt, ht, t2, t3.skip hx hp, t4', t5, t6⟩⟩
theorem two_t (hS : St w0 n0 nt q0 q1 tt w) (hb : w0.heap.size ≤ ts ∧ w0.heap.size ≤ rs ∧ w0.heap.size ≤ tt ∧ w0.heap.size ≤ rt) (hne : ts ≠ tt ∧ rs ≠ rt) (h : Two E j i ts rs tt rt w) (hx : (x0, x1) ∈ E) (h0 : 0 ≤ x0) (h1 : x0 < 4294967296) (hv : PfOk x0 x1 → v = x0 + x1) :
    Calls Try.prog 11 #[.pointer (some ⟨tt, 0, none⟩), .agg #[.int .u32 x0, .int .i64 x1], .int .i64 v] w fun e w' => (∃ n, e = .returned (.int .i64 n)) ∧ St w0 n0 nt q0 q1 tt w' ∧ Two E j i ts rs tt rt w' ∧ (E[i]? = some (x0, x1) → Two E j (i + 1) ts rs tt rt w') := by
  obtain ⟨Ls, Ts, Lt, Tt, t1, t2, t3, t4, t5, t6⟩ := h.two
  refine (put_any tt rt Lt Tt x0 x1 v w t4 h0 h1).mono ?_
  rintro e w' ⟨he, hc, hk⟩
  have t1' := t4.beside t1 (fun e => hne.1 e.symm) (fun e => hne.2 e.symm) hk
  refine ⟨he, hS.kept t4 hk hb.2.2.1 hb.2.2.2, ?_⟩
  rcases hc with ⟨hp, ht⟩ | ⟨hp, ht⟩
  · rw [hv hp] at ht
    exact ⟨⟨Ls, Ts, _, _, t1', t2, t3, ht, t5.put hx t4.ok hp, t6.keep t4.ok hp⟩, fun hi => ⟨Ls, Ts, _, _, t1', t2, t3, ht, t5.put hx t4.ok hp, t6.put (L := Lt) t4.ok hp hi⟩⟩
  · exact ⟨⟨Ls, Ts, _, _, t1', t2, t3, ht, t5, t6⟩, fun hi => ⟨Ls, Ts, _, _, t1', t2, t3, ht, t5, t6.skip hi hp⟩⟩
end
set_option maxRecDepth 100000 in
set_option maxHeartbeats 16000000 in
theorem again_law (l : List (Int × Int)) (lv : Value) (by_ q0 q1 a : Int) (w : World) (hr : RdK encP 2 w lv l) (hrg : ∀ x ∈ l, 0 ≤ x.1 ∧ x.1 < 4294967296) (ha : 0 ≤ a) (ha2 : a < 4294967296) (hq : 0 ≤ q0) (hq2 : q0 < 4294967296) : Calls Try.prog 6 #[lv, .int .i64 by_, .agg #[.int .u32 q0, .int .i64 q1], .int .u32 a] w fun e w' => e = .returned (.bool true) ∧ Below w.heap.size w w' := by
  obtain ⟨p, c, rfl, hlc, hcm, _⟩ := hr.sl
  unfold maxLen at hcm
  obtain ⟨m, hm⟩ : ∃ m, min l.length 100 = m := ⟨_, rfl⟩
  have hmi : min (l.length : Int) 100 = (m : Int) := by omega
  have hml : m ≤ l.length := by omega
  have hm1 : m ≤ 100 := by omega
  obtain ⟨E, hE⟩ : ∃ E, l.take m = E := ⟨_, rfl⟩
  have hEm : E.length = m := by rw [← hE, List.length_take]; omega
  have HRD := Lib.hid (show ∀ W, Below w.heap.size w W → RdK encP 2 W (.slice p m c) E from fun W hW => by rw [← hE]; exact (hr.take hml).below hW)
  have HRG : Hid (∀ x ∈ E, 0 ≤ x.1 ∧ x.1 < 4294967296) := Lib.hid fun x hx => hrg x (by rw [← hE] at hx; exact List.mem_of_mem_take hx)
  have HEM := Lib.hid hEm
  have e1 : (0 : Int) ≤ (m : Int) := by omega
  have e2 : (m : Int) ≤ (c : Int) := by omega
  clear hr hrg hE hm hEm
  obtain ⟨n0, hn0⟩ : ∃ n0, w.heap.size = n0 := ⟨_, rfl⟩
  obtain ⟨Z, hZ⟩ : ∃ Z, ((w.alloc (.cells #[.int .u32 q0, .int .i64 q1] 34)).alloc (.cells #[.bool false] 4)) = Z := ⟨_, rfl⟩
  have hBZ : Below w.heap.size w Z := by rw [← hZ]; exact ((Below.refl _ _).alloc (Nat.le_refl _) _).alloc (by simp) _
  have hq5 : Z.heap[n0]? = some (.cells #[.int .u32 q0, .int .i64 q1] 34 (0, 0)) := by rw [← hZ, ← hn0]; exact (two_rows w _ _).1
  have hq6 : Z.heap[n0 + 1]? = some (.cells #[.bool false] 4 (0, 0)) := by rw [← hZ, ← hn0]; exact (two_rows w _ _).2
  have HBZ := Lib.hid hBZ; have HQ5 := Lib.hid hq5; have HQ6 := Lib.hid hq6; have HN0 := Lib.hid hn0
  clear hBZ hq5 hq6
  refine (callsIn_wide (n := 8)).1 ?_
  refine callsIn_of_wp_marks Try.func6 rfl trivial ?_ rfl
  simp only [Try.ntmps6, List.size_toArray, List.length_cons, List.length_nil, Nat.reduceAdd, Nat.reduceSub, Array.replicate_succ, Array.replicate_zero, List.push_toArray, List.append_toArray, List.nil_append, List.cons_append]
  refine wpIn_wide.2 ?_
  go_wp2_with fail
  go_at_call 20
  refine (awake_is Z).mono ?_
  rintro e w1 ⟨rfl, hb1⟩
  have HB1 := Lib.hid (Below.step HBZ.out hb1)
  have HR5 := Lib.hid ((hb1.block n0 (blk_lt HQ5.out)).trans HQ5.out)
  have HR6 := Lib.hid ((hb1.block (n0 + 1) (blk_lt HQ6.out)).trans HQ6.out)
  clear hb1 hZ hn0
  go_wp2_with fail
  go_at_call 8
  refine (new_is_i w1).mono ?_
  rintro e w2 ⟨ts, rs, rfl, hts, hrs, htab, hb2⟩
  have HT2 := Lib.hid htab; have HB2 := Lib.hid hb2
  clear htab hb2
  go_wp2_with fail
  go_at_call 8
  refine (new_is_i w2).mono ?_
  rintro e w3 ⟨tt, rt, rfl, htt, hrt, htab, hb3⟩
  have HT3 := Lib.hid htab; have HB3 := Lib.hid hb3
  clear htab hb3
  obtain ⟨nt, hnt⟩ : ∃ n, w3.heap.size = n := ⟨_, rfl⟩
  obtain ⟨w4, hw4⟩ : ∃ X, w3.alloc (.cells #[.pointer (some ⟨tt, 0, none⟩)] 24) = X := ⟨_, rfl⟩
  have hb4 : Below w3.heap.size w3 w4 := by rw [← hw4]; exact (Below.refl _ _).alloc (Nat.le_refl _) _
  have hb24 := Below.step (Below.step HB2.out HB3.out) hb4
  have HST : Hid (St w n0 nt q0 q1 tt w4) := Lib.hid ⟨Below.step HB1.out hb24, (hb24.block n0 (blk_lt HR5.out)).trans HR5.out, (hb24.block (n0 + 1) (blk_lt HR6.out)).trans HR6.out, by rw [← hw4, ← hnt]; exact heap_alloc_new w3 _⟩
  have HTW : Hid (Two E 0 0 ts rs tt rt w4) := Lib.hid ⟨⟨[], .nil, [], .nil, HT2.out.on (Below.step HB3.out hb4), FitsL.nil E, fun i _ _ hi => by omega, HT3.out.on hb4, FitsL.nil E, fun i _ _ hi => by omega⟩⟩
  have hsz1 := HB1.out.size
  have hsz2 := HB2.out.size
  have hl2 := HT2.out.lt
  have HNE : Hid (ts ≠ tt ∧ rs ≠ rt) := Lib.hid ⟨by omega, by omega⟩
  have HTS : Hid (w.heap.size ≤ ts ∧ w.heap.size ≤ rs ∧ w.heap.size ≤ tt ∧ w.heap.size ≤ rt) := Lib.hid ⟨by omega, by omega, by omega, by omega⟩
  clear hts hrs htt hrt hsz1 hsz2 hl2 HT2 HT3 HB2 HB3 HB1 HR5 HR6 HQ5 HQ6 hb4 hb24
  go_wp2_with fail
  try rw [hw4]
  try rw [hnt]
  clear hw4 hnt
  go_loopw [11] (fun s11 wx => ∃ k : Nat, k ≤ m ∧ s11 = .int .i64 k ∧ Hid (St w n0 nt q0 q1 tt wx) ∧ Hid (Two E k 0 ts rs tt rt wx)) (fun s11 _ => m - (intOf s11).toNat)
  case atStart => exact ⟨0, Nat.zero_le _, rfl, HST, HTW⟩
  case round =>
    obtain ⟨k, hk, rfl, HS, H2⟩ := hrel
    by_cases hkm : k < m
    · obtain ⟨⟨x0, x1⟩, hx⟩ : ∃ y, E[k]? = some y := ⟨_, List.getElem?_eq_getElem (by rw [HEM.out]; exact hkm)⟩
      obtain ⟨b, o, c', he, hbl, hcx⟩ := rd_cells (HRD.out wr HS.out.bel) hx
      simp only [Value.slice.injEq] at he
      obtain ⟨rfl, -, rfl⟩ := he
      obtain ⟨f0, f1⟩ := hcx wr (Below.refl _ _)
      simp only at f0 f1
      have hrx := HRG.out _ (List.mem_of_getElem? hx)
      have hx0 : 0 ≤ x0 := hrx.1
      have hx1 : x0 < 4294967296 := hrx.2
      have HX := Lib.hid hx
      have i1 : (0 : Int) ≤ (k : Int) := by omega
      have i2 : (k : Int) < (m : Int) := by omega
      clear hcx hx hrx hbl
      go_wp2_with fail
      go_still_tail 17, (by kernel_rfl)
      change wpList _ _ _ _ _ wr.drew
      have hbd : Below wr.heap.size wr wr.drew := (Below.refl _ _).drew
      have HSd := Lib.hid (HS.out.call hbd)
      have H2d := Lib.hid (H2.out.on hbd)
      clear hbd
      generalize wr.drew = w5 at HSd H2d ⊢
      clear f0 f1 HS H2
      go_wp2_with fail
      go_at_call 11
      obtain ⟨sv, hsv⟩ : ∃ z, wrap64 (x0 + x1) = z := ⟨_, rfl⟩
      have HSV : Hid (PfOk x0 x1 → sv = x0 + x1) := Lib.hid fun h => by rw [← hsv]; exact wrap_sum h
      rw [hsv]
      clear hsv
      refine (two_s HSd.out HTS.out HNE.out H2d.out HX.out hx0 hx1 HSV.out).mono ?_
      rintro e w6 ⟨⟨r1, rfl⟩, hs6, h26⟩
      have HS6 := Lib.hid hs6; have H26 := Lib.hid h26
      clear hs6 h26 HSd H2d HX hx0 hx1 HSV
      have hm0 : (0 : Int) < (m : Int) := by omega
      go_wp2_with fail
      · obtain ⟨k2, hk2, hk2m⟩ : ∃ k2 : Nat, ((k : Int) * 7 + 3) % (m : Int) = (k2 : Int) ∧ k2 < m := ⟨(((k : Int) * 7 + 3) % (m : Int)).toNat, by have := Int.emod_nonneg ((k : Int) * 7 + 3) (show (m : Int) ≠ 0 by omega); omega, by have := Int.emod_lt_of_pos ((k : Int) * 7 + 3) hm0; have := Int.emod_nonneg ((k : Int) * 7 + 3) (show (m : Int) ≠ 0 by omega); omega⟩
        rw [hk2]
        clear hk2
        obtain ⟨⟨z0, z1⟩, hz⟩ : ∃ y, E[k2]? = some y := ⟨_, List.getElem?_eq_getElem (by rw [HEM.out]; exact hk2m)⟩
        obtain ⟨b', o', c', he, hbl, hcx⟩ := rd_cells (HRD.out w6 HS6.out.bel) hz
        simp only [Value.slice.injEq, Option.some.injEq, Addr.mk.injEq] at he
        obtain ⟨⟨rfl, rfl, -⟩, -, rfl⟩ := he
        obtain ⟨f0, f1⟩ := hcx w6 (Below.refl _ _)
        simp only at f0 f1
        have hrx := HRG.out _ (List.mem_of_getElem? hz)
        have hz0 : 0 ≤ z0 := hrx.1
        have hz1 : z0 < 4294967296 := hrx.2
        have HZ := Lib.hid (List.mem_of_getElem? hz)
        have j1 : (0 : Int) ≤ (k2 : Int) := by omega
        have j2 : (k2 : Int) < (m : Int) := by omega
        have ct : w6.cell? ⟨nt, 0, none⟩ = some (.pointer (some ⟨tt, 0, none⟩)) := row_cell HS6.out.rt 0
        clear hcx hz hrx hbl
        go_wp2_with fail
        go_still_tail 17, (by kernel_rfl)
        change wpList _ _ _ _ _ w6.drew
        have hbd : Below w6.heap.size w6 w6.drew := (Below.refl _ _).drew
        have HSd := Lib.hid (HS6.out.call hbd)
        have H2d := Lib.hid (H26.out.on hbd)
        clear hbd
        generalize w6.drew = w7 at HSd H2d ⊢
        clear f0 f1 HS6 H26 ct
        go_wp2_with fail
        go_at_call 11
        obtain ⟨sv, hsv⟩ : ∃ z, wrap64 (z0 + z1) = z := ⟨_, rfl⟩
        have HSV : Hid (PfOk z0 z1 → sv = z0 + z1) := Lib.hid fun h => by rw [← hsv]; exact wrap_sum h
        rw [hsv]
        clear hsv
        refine (two_t HSd.out HTS.out HNE.out H2d.out HZ.out hz0 hz1 HSV.out).mono ?_
        rintro e w8 ⟨⟨r2, rfl⟩, hs8, h28, _⟩
        have HS8 := Lib.hid hs8; have H28 := Lib.hid h28
        clear hs8 h28 HSd H2d HZ hz0 hz1 HSV
        go_wp2_with fail
        go_roundw
        case rel => exact ⟨k + 1, by omega, by go_num, HS8, H28⟩
        case measure => first | (simp [intOf]; done) | (simp [intOf]; omega)
      · obtain ⟨k2, hk2, hk2m⟩ : ∃ k2 : Nat, (m : Int) - 1 - (k : Int) = (k2 : Int) ∧ k2 < m := ⟨m - 1 - k, by omega, by omega⟩
        rw [hk2]
        clear hk2
        obtain ⟨⟨z0, z1⟩, hz⟩ : ∃ y, E[k2]? = some y := ⟨_, List.getElem?_eq_getElem (by rw [HEM.out]; exact hk2m)⟩
        obtain ⟨b', o', c', he, hbl, hcx⟩ := rd_cells (HRD.out w6 HS6.out.bel) hz
        simp only [Value.slice.injEq, Option.some.injEq, Addr.mk.injEq] at he
        obtain ⟨⟨rfl, rfl, -⟩, -, rfl⟩ := he
        obtain ⟨f0, f1⟩ := hcx w6 (Below.refl _ _)
        simp only at f0 f1
        have hrx := HRG.out _ (List.mem_of_getElem? hz)
        have hz0 : 0 ≤ z0 := hrx.1
        have hz1 : z0 < 4294967296 := hrx.2
        have HZ := Lib.hid (List.mem_of_getElem? hz)
        have j1 : (0 : Int) ≤ (k2 : Int) := by omega
        have j2 : (k2 : Int) < (m : Int) := by omega
        have ct : w6.cell? ⟨nt, 0, none⟩ = some (.pointer (some ⟨tt, 0, none⟩)) := row_cell HS6.out.rt 0
        clear hcx hz hrx hbl
        go_wp2_with fail
        go_still_tail 17, (by kernel_rfl)
        change wpList _ _ _ _ _ w6.drew
        have hbd : Below w6.heap.size w6 w6.drew := (Below.refl _ _).drew
        have HSd := Lib.hid (HS6.out.call hbd)
        have H2d := Lib.hid (H26.out.on hbd)
        clear hbd
        generalize w6.drew = w7 at HSd H2d ⊢
        clear f0 f1 HS6 H26 ct
        go_wp2_with fail
        go_at_call 11
        obtain ⟨sv, hsv⟩ : ∃ z, wrap64 (z0 + z1) = z := ⟨_, rfl⟩
        have HSV : Hid (PfOk z0 z1 → sv = z0 + z1) := Lib.hid fun h => by rw [← hsv]; exact wrap_sum h
        rw [hsv]
        clear hsv
        refine (two_t HSd.out HTS.out HNE.out H2d.out HZ.out hz0 hz1 HSV.out).mono ?_
        rintro e w8 ⟨⟨r2, rfl⟩, hs8, h28, _⟩
        have HS8 := Lib.hid hs8; have H28 := Lib.hid h28
        clear hs8 h28 HSd H2d HZ hz0 hz1 HSV
        go_wp2_with fail
        go_roundw
        case rel => exact ⟨k + 1, by omega, by go_num, HS8, H28⟩
        case measure => first | (simp [intOf]; done) | (simp [intOf]; omega)
    · have e4 : ¬ (k : Int) < (m : Int) := by omega
      obtain rfl : k = m := by omega
      clear hkm
      have HSA := HS; have H2A := H2
      clear HS H2
      go_wp2_with fail
      go_loopw [13] (fun s13 wx => ∃ j : Nat, j ≤ k ∧ s13 = .int .i64 j ∧ Hid (St w n0 nt q0 q1 tt wx) ∧ Hid (Two E k j ts rs tt rt wx)) (fun s13 _ => k - (intOf s13).toNat)
      case atStart => exact ⟨0, Nat.zero_le _, rfl, HSA, H2A⟩
      case round =>
        obtain ⟨j, hj, rfl, HS, H2⟩ := hrel
        by_cases hjk : j < k
        · obtain ⟨⟨z0, z1⟩, hz⟩ : ∃ y, E[j]? = some y := ⟨_, List.getElem?_eq_getElem (by rw [HEM.out]; exact hjk)⟩
          obtain ⟨b, o, c', he, hbl, hcx⟩ := rd_cells (HRD.out _ HS.out.bel) hz
          simp only [Value.slice.injEq] at he
          obtain ⟨rfl, -, rfl⟩ := he
          obtain ⟨f0, f1⟩ := hcx _ (Below.refl _ _)
          simp only at f0 f1
          have hrx := HRG.out _ (List.mem_of_getElem? hz)
          have hz0 : 0 ≤ z0 := hrx.1
          have hz1 : z0 < 4294967296 := hrx.2
          have HZ := Lib.hid hz
          have j1 : (0 : Int) ≤ (j : Int) := by omega
          have j2 : (j : Int) < (k : Int) := by omega
          have ct : wr.cell? ⟨nt, 0, none⟩ = some (.pointer (some ⟨tt, 0, none⟩)) := row_cell HS.out.rt 0
          clear hcx hz hrx hbl
          go_wp2_with fail
          go_still_tail 17, (by kernel_rfl)
          change wpList _ _ _ _ _ wr.drew
          have hbd : Below wr.heap.size wr wr.drew := (Below.refl _ _).drew
          have HSd := Lib.hid (HS.out.call hbd)
          have H2d := Lib.hid (H2.out.on hbd)
          clear hbd
          generalize wr.drew = w7 at HSd H2d ⊢
          clear f0 f1 HS H2 ct
          go_wp2_with fail
          go_at_call 11
          obtain ⟨sv, hsv⟩ : ∃ z, wrap64 (z0 + z1) = z := ⟨_, rfl⟩
          have HSV : Hid (PfOk z0 z1 → sv = z0 + z1) := Lib.hid fun h => by rw [← hsv]; exact wrap_sum h
          rw [hsv]
          clear hsv
          refine (two_t HSd.out HTS.out HNE.out H2d.out (List.mem_of_getElem? HZ.out) hz0 hz1 HSV.out).mono ?_
          rintro e w8 ⟨⟨r2, rfl⟩, hs8, _, h28⟩
          have HS8 := Lib.hid hs8; have H28 := Lib.hid (h28 HZ.out)
          clear hs8 h28 HSd H2d HZ hz0 hz1 HSV
          go_wp2_with fail
          go_roundw
          case rel => exact ⟨j + 1, by omega, by go_num, HS8, H28⟩
          case measure => first | (simp [intOf]; done) | (simp [intOf]; omega)
        · have e5 : ¬ (j : Int) < (k : Int) := by omega
          obtain rfl : j = k := by omega
          clear hjk e4
          have HFN : Hid (Fin2 E ts rs tt rt wr) := Lib.hid (H2.out.fin HEM.out)
          have ct : wr.cell? ⟨nt, 0, none⟩ = some (.pointer (some ⟨tt, 0, none⟩)) := row_cell HS.out.rt 0
          have t0 : wr.cell? ⟨n0, 0, none⟩ = some (.int .u32 q0) := row_cell HS.out.r6 0
          have t1 : wr.cell? ⟨n0, 1, none⟩ = some (.int .i64 q1) := row_cell HS.out.r6 1
          clear H2
          go_wp2_with fail
          obtain ⟨Ls, Ts, Lt, Tt, h1, h2, h3, h4, h5, h6⟩ := HFN.out.two
          have H1 := Lib.hid h1; have H2 := Lib.hid h2; have H3 := Lib.hid h3; have H4 := Lib.hid h4; have H5 := Lib.hid h5; have H6 := Lib.hid h6
          clear h1 h2 h3 h4 h5 h6
          go_at_call 27
          refine (at_is tt rt Lt Tt q0 q1 wr H3.out).mono ?_
          rintro e w5 ⟨rfl, hb5⟩
          have HS5 := Lib.hid (HS.out.call hb5)
          have HF5 := Lib.hid (HFN.out.on hb5)
          have HT5 := Lib.hid (H3.out.on hb5)
          have HU5 := Lib.hid (H1.out.on hb5)
          clear hb5 ct t0 t1 HS HFN
          have ct : w5.cell? ⟨nt, 0, none⟩ = some (.pointer (some ⟨tt, 0, none⟩)) := row_cell HS5.out.rt 0
          have t0 : w5.cell? ⟨n0, 0, none⟩ = some (.int .u32 q0) := row_cell HS5.out.r6 0
          have t1 : w5.cell? ⟨n0, 1, none⟩ = some (.int .i64 q1) := row_cell HS5.out.r6 1
          cases hg : getL (q0, q1) Lt with
          | some v =>
            simp only [Option.getD_some, Option.isSome_some]
            clear hg
            go_wp2_with fail
            obtain ⟨Ls, Ts, Lt, Tt, h1, h2, h3, h4, h5, h6⟩ := HF5.out.two
            have hlen : Ls.length = Lt.length := uniq_len h2.uniq h5 fun x => Option.ext fun v => by
              obtain ⟨b, m⟩ := x
              have g1 := h2.same b m v
              have g2 := h4 b m v
              rw [h6] at g1
              exact g1.trans g2.symm
            have hshort : Ls.length ≤ 100000 := by
              have := uniq_short h2.uniq fun x v hx => (h2.from_ x.1 x.2 v ((h2.same _ _ _).1 hx)).2.1
              have := HEM.out
              omega
            have hshort2 : Lt.length ≤ 100000 := by omega
            have ct : w5.cell? ⟨nt, 0, none⟩ = some (.pointer (some ⟨tt, 0, none⟩)) := row_cell HS5.out.rt 0
            have HLS := Lib.hid (show ∀ x : Grows w5, Calls Try.prog 30 #[.pointer (some ⟨ts, 0, none⟩)] x.val fun e w' => e = .returned (.int .i64 Lt.length) ∧ x.val = w' from fun x => hlen ▸ len_is ts rs Ls Ts x.val (h1.on x.below) hshort)
            have HLT := Lib.hid (show ∀ x : Grows w5, Calls Try.prog 30 #[.pointer (some ⟨tt, 0, none⟩)] x.val fun e w' => e = .returned (.int .i64 Lt.length) ∧ x.val = w' from fun x => len_is tt rt Lt Tt x.val (h3.on x.below) hshort2)
            have HLE := Lib.hid hlen
            have H1X := Lib.hid h1; have H3X := Lib.hid h3; have H4X := Lib.hid h4; have H6X := Lib.hid h6; have H2X := Lib.hid h2
            clear h1 h2 h3 h4 h5 h6 hlen hshort hshort2
            refine wp_region_grows (by kernel_rfl) (by kernel_rfl) ?_
            refine grows_fact nt 0 (.pointer (some ⟨tt, 0, none⟩)) ct (blk_lt HS5.out.rt) fun g0 => ?_
            clear ct
            repeat (go_big_quiet_step ((go_at_call 30; first | (with_reducible exact Calls.grows_same (HLS.out _)) | (with_reducible exact Calls.grows_same (HLT.out _)))))
            refine wpQuiet_nil ?_
            rintro WY ⟨⟨_, hbd⟩, rfl⟩
            have HSY := Lib.hid (HS5.out.call hbd)
            have H1Y := Lib.hid (H1X.out.on hbd)
            have H3Y := Lib.hid (H3X.out.on hbd)
            clear hbd
            clear g0 HLS HLT HLE H1X H3X
            go_wp2_with fail
            obtain ⟨root, hroot, hnd⟩ := H1Y.out.row
            have HND := Lib.hid hnd
            go_at_call 9
            refine (tall_is ts (.map (some rs)) root WY hroot).mono ?_
            rintro e wa ⟨rfl, hseq, hba, hza⟩
            obtain ⟨b1, hb1⟩ : ∃ b, WY.heap.size = b := ⟨_, rfl⟩
            obtain ⟨na, hna⟩ : ∃ n, wa.heap.size = n := ⟨_, rfl⟩
            have HSA := Lib.hid (HSY.out.call hba)
            have H1A := Lib.hid (H1Y.out.on hba)
            have H3A := Lib.hid (H3Y.out.on hba)
            rw [hb1] at hseq hza
            rw [hb1]
            rw [hna] at hza
            have HSQ := Lib.hid (any_stops encN encN_ok 7 na (fun _ => False) b1 root Ts wa hseq H1Y.out.ok (TrAt.keep (fun y hy _ => ⟨⟨by omega, fun h => h⟩, hba.block y hy⟩) HND.out) (by omega) ⟨by omega, fun h => h⟩ ⟨by omega, fun h => h⟩)
            have HNA := Lib.hid hna
            clear hseq hba hza hb1 hna hroot hnd HSY H1Y H3Y HND
            go_wp2_with fail
            refine (wpIn_wide (n := 8)).1 ?_
            refine' range_all (n1 := na) (rows := rowsT allP Ts) _ (gf := 50) (lb := #[.pointer (some ⟨b1, 0, none⟩), .pointer (some ⟨b1 + 1, 0, none⟩)]) rfl rfl trivial (enters_of Try.func50 (by kernel_rfl) rfl) HSQ.out (rows_pf H1A.out.ok) HNA.out ?assigna ?bodya ?donea
            case assigna =>
              intro l y W C K hC hK
              have HCC := Lib.hid hC
              clear hC
              gi_wp2
              rw [HCC.out]
              exact hK.out
            case bodya =>
              rintro l pre x ⟨⟨y0, y1⟩, yv⟩ B W hxy hy0 hy1 hI hB hB1 hlen
              simp only at hy0 hy1 hB
              have hIw : Below wa.heap.size wa W := by rw [HNA.out]; exact hI
              have HSW := Lib.hid (HSA.out.call hIw)
              have H3W := Lib.hid (H3A.out.on hIw)
              have HI := Lib.hid hI; have HXY := Lib.hid hxy; have HB := Lib.hid hB
              have ct : W.cell? ⟨nt, 0, none⟩ = some (.pointer (some ⟨tt, 0, none⟩)) := row_cell HSW.out.rt 0
              have p0 : W.cell? ⟨B, 0, none⟩ = some (.int .u32 y0) := row_cell hB 0
              have p1 : W.cell? ⟨B, 1, none⟩ = some (.int .i64 y1) := row_cell hB 1
              clear hI hIw hxy hB hlen
              gi_wp2
              refine ⟨trivial, ?_⟩
              refine ((callsIn_wide.2 (at_is tt rt Lt Tt y0 y1 W H3W.out)).inRound l).mono ?_
              rintro e w1 ⟨rfl, hb1⟩
              have s6 := (hb1.block (n0 + 1) (blk_lt HSW.out.r8)).trans HSW.out.r8
              have d6 : w1.cell? ⟨n0 + 1, 0, none⟩ = some (.bool false) := row_cell s6 0
              have f6 := frozen_of_row _ _ 0 _ _ s6
              have HKF := Lib.hid (below_keeps na hb1)
              have HKP : Hid (Kpx na (fun _ => False) W w1) := Lib.hid (Kpx.of hb1 (by have := HI.out.size; have := HNA.out; omega))
              have HI1 := Lib.hid (HI.out.trans (hb1.mono (by have := HI.out.size; have := HNA.out; omega)))
              clear hb1 s6 ct p0 p1
              have HMEM : Hid (((y0, y1), yv) ∈ rowsT allP Ts ↔ getL (y0, y1) Lt = some yv) := Lib.hid (by rw [mem_rows, H4X.out]; exact H6X.out _ _ _)
              cases hg : getL (y0, y1) Lt with
              | none =>
                have HBAD : Hid (((y0, y1), yv) ∉ rowsT allP Ts) := Lib.hid fun hm => by
                  have := HMEM.out.1 hm
                  rw [hg] at this
                  cases this
                simp only [Option.getD_none, Option.isSome_none]
                clear hg
                gi_wp2
                exact ⟨HKF.out.trans ((KeepsOthers.setCell _ _ _).from _), not_pre HXY.out HBAD.out⟩
              | some v' =>
                simp only [Option.getD_some, Option.isSome_some]
                by_cases hv : v' = yv
                · subst hv
                  clear hg
                  gi_wp2
                  exact ⟨HKF.out, HKP.out, HI1.out⟩
                · have HBAD : Hid (((y0, y1), yv) ∉ rowsT allP Ts) := Lib.hid fun hm => by
                    have := HMEM.out.1 hm
                    rw [hg] at this
                    exact hv (Option.some.inj this)
                  clear hg
                  gi_wp2
                  exact ⟨HKF.out.trans ((KeepsOthers.setCell _ _ _).from _), not_pre HXY.out HBAD.out⟩
            case donea =>
              rintro D W hD hI hK
              have hIw : Below wa.heap.size wa W := by rw [HNA.out]; exact hI
              have HSW := Lib.hid (HSA.out.call hIw)
              have H1W := Lib.hid (H1A.out.on hIw)
              have H3W := Lib.hid (H3A.out.on hIw)
              have HK := Lib.hid hK
              have hDl : D < W.heap.size := (Array.getElem?_eq_some_iff.1 hK).1
              clear hI hIw hK HSQ
              go_wp2_with fail
              go_at_call 25
              obtain ⟨RX, hRX⟩ : ∃ R, rowsT (inB a) Tt = R := ⟨_, rfl⟩
              refine (longest_is ts rs a Ls Ts W H1W.out).mono ?_
              rw [lst_same a H1W.out.ok H3W.out.ok H6X.out, hRX]
              obtain ⟨px, hpx⟩ : ∃ z, (lst RX).1.1 = z := ⟨_, rfl⟩
              obtain ⟨pn, hpn⟩ : ∃ z, (lst RX).1.2 = z := ⟨_, rfl⟩
              obtain ⟨pv, hpv⟩ : ∃ z, (lst RX).2.1 = z := ⟨_, rfl⟩
              obtain ⟨is, his⟩ : ∃ z, (lst RX).2.2 = z := ⟨_, rfl⟩
              have HLO := Lib.hid (show ∀ W', TabAt_i W' tt rt Lt Tt → Calls Try.prog 25 #[.pointer (some ⟨tt, 0, none⟩), .int .u32 a] W' fun e w' => e = .returned (.tuple #[.agg #[.int .u32 px, .int .i64 pn], .int .i64 pv, .bool is]) ∧ Below W'.heap.size W' w' from fun W' hW' => by
                have h := longest_is tt rt a Lt Tt W' hW'
                rw [hRX, hpx, hpn, hpv, his] at h
                exact h)
              rw [hpx, hpn, hpv, his]
              clear hRX hpx hpn hpv his
              rintro e wb ⟨rfl, hbb⟩
              obtain ⟨n9, hn9⟩ : ∃ n9, wb.heap.size = n9 := ⟨_, rfl⟩
              obtain ⟨wc, hwc⟩ : ∃ X, wb.alloc (.cells #[.int .u32 px, .int .i64 pn] 34) = X := ⟨_, rfl⟩
              have hbc : Below wb.heap.size wb wc := by rw [← hwc]; exact (Below.refl _ _).alloc (Nat.le_refl _) _
              have hWc := Below.step hbb hbc
              have hr9 : wc.heap[n9]? = some (.cells #[.int .u32 px, .int .i64 pn] 34 (0, 0)) := by rw [← hwc, ← hn9]; exact heap_alloc_new wb _
              have HSC := Lib.hid (HSW.out.call hWc)
              have H3C := Lib.hid (H3W.out.on hWc)
              have hkc : wc.heap[D]? = some (.deferred (some [])) := (hWc.block D hDl).trans HK.out
              have HKC := Lib.hid hkc
              have HR9 := Lib.hid hr9
              have ct : wc.cell? ⟨nt, 0, none⟩ = some (.pointer (some ⟨tt, 0, none⟩)) := row_cell HSC.out.rt 0
              clear hbb hbc hWc hr9 hkc hDl HSW H1W H3W HK
              go_wp2_with fail
              clear hwc hn9 ct
              go_at_call 25
              refine (HLO.out wc H3C.out).mono ?_
              rintro e wd ⟨rfl, hbd⟩
              obtain ⟨n10, hn10⟩ : ∃ n9, wd.heap.size = n9 := ⟨_, rfl⟩
              obtain ⟨we, hwe⟩ : ∃ X, wd.alloc (.cells #[.int .u32 px, .int .i64 pn] 34) = X := ⟨_, rfl⟩
              have hbe : Below wd.heap.size wd we := by rw [← hwe]; exact (Below.refl _ _).alloc (Nat.le_refl _) _
              have hCe := Below.step hbd hbe
              have hr10 : we.heap[n10]? = some (.cells #[.int .u32 px, .int .i64 pn] 34 (0, 0)) := by rw [← hwe, ← hn10]; exact heap_alloc_new wd _
              have hr9 := (hCe.block n9 (blk_lt HR9.out)).trans HR9.out
              have HSE := Lib.hid (HSC.out.call hCe)
              have hDl : D < wc.heap.size := (Array.getElem?_eq_some_iff.1 HKC.out).1
              have HKE : Hid (we.heap[D]? = some (.deferred (some []))) := Lib.hid ((hCe.block D hDl).trans HKC.out)
              have c90 : we.cell? ⟨n9, 0, none⟩ = some (.int .u32 px) := row_cell hr9 0
              have c91 : we.cell? ⟨n9, 1, none⟩ = some (.int .i64 pn) := row_cell hr9 1
              have d90 : we.cell? ⟨n10, 0, none⟩ = some (.int .u32 px) := row_cell hr10 0
              have d91 : we.cell? ⟨n10, 1, none⟩ = some (.int .i64 pn) := row_cell hr10 1
              have d6 : we.cell? ⟨n0 + 1, 0, none⟩ = some (.bool false) := row_cell HSE.out.r8 0
              have f6 := frozen_of_row _ _ 0 _ _ HSE.out.r8
              have hge := guardP .eql
              have heq : ∀ W, (binOp .eql 34 (.agg #[.int .u32 px, .int .i64 pn]) (.agg #[.int .u32 px, .int .i64 pn])).run Try.prog W = .ok (.bool true) W := fun W => (eqlP px pn px pn W).trans (by simp)
              have HDN : Hid (D ≠ n0 + 1) := Lib.hid (by
                have h1 := HSA.out.r8
                have h2 := blk_lt h1
                have := HNA.out
                omega)
              clear hbd hbe hCe hr10 hr9 hDl HSC HKC H3C HLO HR9
              cases is <;>
              · go_wp2_with fail
                obtain ⟨WE, hWE⟩ : ∃ X, we.setCell ⟨n0 + 1, 0, none⟩ (.bool true) = X := ⟨_, rfl⟩
                obtain ⟨a1, b1', _, d1'⟩ := set1 (v := .bool true) (i := 0) HSE.out.r8 hWE
                rw [hWE]
                have hdn := HDN.out
                have q0' := HN0.out
                have q1' := HNA.out
                have q2' := HSA.out.bel.size
                have e1' := (b1' D (by omega)).trans HKE.out
                have hBE : Below w.heap.size w WE := HSE.out.bel.trans (d1'.mono (by omega))
                obtain ⟨z1, y1⟩ := drop_mark WE D (.deferred none)
                obtain ⟨V1, hV1⟩ : ∃ V, WE.putObj D (.deferred none) = V := ⟨_, rfl⟩
                rw [hV1] at z1 y1
                have yr := (z1 (n0 + 1) (by omega)).trans a1
                have yc : V1.cell? ⟨n0 + 1, 0, none⟩ = some (.bool true) := row_cell yr 0
                refine ⟨by simp, .inl ⟨_, V1, rfl, hV1 ▸ run_takeDeferred e1', ?_⟩⟩
                refine ⟨.bool true, ?_, rfl, hBE.trans (y1.mono (by omega))⟩
                simp [results, Try.f6, go_sem, yc]
          | none =>
            simp only [Option.getD_none, Option.isSome_none]
            have HGN := Lib.hid hg
            clear hg
            go_wp2_with fail
            go_at_call 16
            refine (rcheck_is q0 q1 w5 hq hq2).mono ?_
            rintro e w6 ⟨rfl, hb6⟩
            have HS6 := Lib.hid (HS5.out.call hb6)
            have HF6 := Lib.hid (HF5.out.on hb6)
            have HT6 := Lib.hid (HT5.out.on hb6)
            have HU6 := Lib.hid (HU5.out.on hb6)
            clear hb6 ct t0 t1 HS5 HF5 HT5 HU5
            have ct : w6.cell? ⟨nt, 0, none⟩ = some (.pointer (some ⟨tt, 0, none⟩)) := row_cell HS6.out.rt 0
            have t0 : w6.cell? ⟨n0, 0, none⟩ = some (.int .u32 q0) := row_cell HS6.out.r6 0
            have t1 : w6.cell? ⟨n0, 1, none⟩ = some (.int .i64 q1) := row_cell HS6.out.r6 1
            by_cases hc : ck q0 q1 = 0
            · have HPF : Hid (PfOk q0 q1) := Lib.hid ⟨hq, hq2, hc⟩
              rw [hc]
              clear hc
              go_wp2_with fail
              go_at_call 11
              refine (put_is_i with_is_i tt rt Lt Tt q0 q1 5 w6 HT6.out HPF.out).mono ?_
              rintro e w7 ⟨rfl, hp7, hk7⟩
              have HS7 := Lib.hid (HS6.out.kept HT6.out hk7 HTS.out.2.2.1 HTS.out.2.2.2)
              have HU7 := Lib.hid (HT6.out.beside HU6.out (fun e => HNE.out.1 e.symm) (fun e => HNE.out.2 e.symm) hk7)
              have HP7 := Lib.hid hp7
              clear hp7 hk7 ct t0 t1 HS6 HF6 HT6 HU6
              have ct : w7.cell? ⟨nt, 0, none⟩ = some (.pointer (some ⟨tt, 0, none⟩)) := row_cell HS7.out.rt 0
              have t0 : w7.cell? ⟨n0, 0, none⟩ = some (.int .u32 q0) := row_cell HS7.out.r6 0
              have t1 : w7.cell? ⟨n0, 1, none⟩ = some (.int .i64 q1) := row_cell HS7.out.r6 1
              go_wp2_with fail
              go_at_call 13
              refine (drop_is tt rt _ _ q0 q1 5 w7 HP7.out HPF.out (by rw [getL_putL, if_pos rfl])).mono ?_
              rintro e w8 ⟨rfl, hp8, hk8⟩
              have HS8 := Lib.hid (HS7.out.kept HP7.out hk8 HTS.out.2.2.1 HTS.out.2.2.2)
              have HF8 : Hid (Fin2 E ts rs tt rt w8) := Lib.hid (by
                have hb := back_has (z := 5) H3.out.ok HPF.out H4.out HGN.out
                refine ⟨⟨Ls, Ts, _, _, HP7.out.beside HU7.out (fun e => HNE.out.1 e.symm) (fun e => HNE.out.2 e.symm) hk8, H2.out, hp8, fun b m v => ?_, uniq_del _ (uniq_put _ _ H5.out), fun b m v => ?_⟩⟩
                · rw [back_get H5.out HGN.out, H4.out, hb]
                · rw [hb, H6.out])
              clear hp8 hk8 ct t0 t1 HS7 HU7 HP7
              go_wp2_with fail
              obtain ⟨Ls, Ts, Lt, Tt, h1, h2, h3, h4, h5, h6⟩ := HF8.out.two
              have hlen : Ls.length = Lt.length := uniq_len h2.uniq h5 fun x => Option.ext fun v => by
                obtain ⟨b, m⟩ := x
                have g1 := h2.same b m v
                have g2 := h4 b m v
                rw [h6] at g1
                exact g1.trans g2.symm
              have hshort : Ls.length ≤ 100000 := by
                have := uniq_short h2.uniq fun x v hx => (h2.from_ x.1 x.2 v ((h2.same _ _ _).1 hx)).2.1
                have := HEM.out
                omega
              have hshort2 : Lt.length ≤ 100000 := by omega
              have ct : w8.cell? ⟨nt, 0, none⟩ = some (.pointer (some ⟨tt, 0, none⟩)) := row_cell HS8.out.rt 0
              have HLS := Lib.hid (show ∀ x : Grows w8, Calls Try.prog 30 #[.pointer (some ⟨ts, 0, none⟩)] x.val fun e w' => e = .returned (.int .i64 Lt.length) ∧ x.val = w' from fun x => hlen ▸ len_is ts rs Ls Ts x.val (h1.on x.below) hshort)
              have HLT := Lib.hid (show ∀ x : Grows w8, Calls Try.prog 30 #[.pointer (some ⟨tt, 0, none⟩)] x.val fun e w' => e = .returned (.int .i64 Lt.length) ∧ x.val = w' from fun x => len_is tt rt Lt Tt x.val (h3.on x.below) hshort2)
              have HLE := Lib.hid hlen
              have H1X := Lib.hid h1; have H3X := Lib.hid h3; have H4X := Lib.hid h4; have H6X := Lib.hid h6; have H2X := Lib.hid h2
              clear h1 h2 h3 h4 h5 h6 hlen hshort hshort2
              refine wp_region_grows (by kernel_rfl) (by kernel_rfl) ?_
              refine grows_fact nt 0 (.pointer (some ⟨tt, 0, none⟩)) ct (blk_lt HS8.out.rt) fun g0 => ?_
              clear ct
              repeat (go_big_quiet_step ((go_at_call 30; first | (with_reducible exact Calls.grows_same (HLS.out _)) | (with_reducible exact Calls.grows_same (HLT.out _)))))
              refine wpQuiet_nil ?_
              rintro WY ⟨⟨_, hbd⟩, rfl⟩
              have HSY := Lib.hid (HS8.out.call hbd)
              have H1Y := Lib.hid (H1X.out.on hbd)
              have H3Y := Lib.hid (H3X.out.on hbd)
              clear hbd
              clear g0 HLS HLT HLE H1X H3X
              go_wp2_with fail
              obtain ⟨root, hroot, hnd⟩ := H1Y.out.row
              have HND := Lib.hid hnd
              go_at_call 9
              refine (tall_is ts (.map (some rs)) root WY hroot).mono ?_
              rintro e wa ⟨rfl, hseq, hba, hza⟩
              obtain ⟨b1, hb1⟩ : ∃ b, WY.heap.size = b := ⟨_, rfl⟩
              obtain ⟨na, hna⟩ : ∃ n, wa.heap.size = n := ⟨_, rfl⟩
              have HSA := Lib.hid (HSY.out.call hba)
              have H1A := Lib.hid (H1Y.out.on hba)
              have H3A := Lib.hid (H3Y.out.on hba)
              rw [hb1] at hseq hza
              rw [hb1]
              rw [hna] at hza
              have HSQ := Lib.hid (any_stops encN encN_ok 7 na (fun _ => False) b1 root Ts wa hseq H1Y.out.ok (TrAt.keep (fun y hy _ => ⟨⟨by omega, fun h => h⟩, hba.block y hy⟩) HND.out) (by omega) ⟨by omega, fun h => h⟩ ⟨by omega, fun h => h⟩)
              have HNA := Lib.hid hna
              clear hseq hba hza hb1 hna hroot hnd HSY H1Y H3Y HND
              go_wp2_with fail
              refine (wpIn_wide (n := 8)).1 ?_
              refine' range_all (n1 := na) (rows := rowsT allP Ts) _ (gf := 50) (lb := #[.pointer (some ⟨b1, 0, none⟩), .pointer (some ⟨b1 + 1, 0, none⟩)]) rfl rfl trivial (enters_of Try.func50 (by kernel_rfl) rfl) HSQ.out (rows_pf H1A.out.ok) HNA.out ?assignc ?bodyc ?donec
              case assignc =>
                intro l y W C K hC hK
                have HCC := Lib.hid hC
                clear hC
                gi_wp2
                rw [HCC.out]
                exact hK.out
              case bodyc =>
                rintro l pre x ⟨⟨y0, y1⟩, yv⟩ B W hxy hy0 hy1 hI hB hB1 hlen
                simp only at hy0 hy1 hB
                have hIw : Below wa.heap.size wa W := by rw [HNA.out]; exact hI
                have HSW := Lib.hid (HSA.out.call hIw)
                have H3W := Lib.hid (H3A.out.on hIw)
                have HI := Lib.hid hI; have HXY := Lib.hid hxy; have HB := Lib.hid hB
                have ct : W.cell? ⟨nt, 0, none⟩ = some (.pointer (some ⟨tt, 0, none⟩)) := row_cell HSW.out.rt 0
                have p0 : W.cell? ⟨B, 0, none⟩ = some (.int .u32 y0) := row_cell hB 0
                have p1 : W.cell? ⟨B, 1, none⟩ = some (.int .i64 y1) := row_cell hB 1
                clear hI hIw hxy hB hlen
                gi_wp2
                refine ⟨trivial, ?_⟩
                refine ((callsIn_wide.2 (at_is tt rt Lt Tt y0 y1 W H3W.out)).inRound l).mono ?_
                rintro e w1 ⟨rfl, hb1⟩
                have s6 := (hb1.block (n0 + 1) (blk_lt HSW.out.r8)).trans HSW.out.r8
                have d6 : w1.cell? ⟨n0 + 1, 0, none⟩ = some (.bool false) := row_cell s6 0
                have f6 := frozen_of_row _ _ 0 _ _ s6
                have HKF := Lib.hid (below_keeps na hb1)
                have HKP : Hid (Kpx na (fun _ => False) W w1) := Lib.hid (Kpx.of hb1 (by have := HI.out.size; have := HNA.out; omega))
                have HI1 := Lib.hid (HI.out.trans (hb1.mono (by have := HI.out.size; have := HNA.out; omega)))
                clear hb1 s6 ct p0 p1
                have HMEM : Hid (((y0, y1), yv) ∈ rowsT allP Ts ↔ getL (y0, y1) Lt = some yv) := Lib.hid (by rw [mem_rows, H4X.out]; exact H6X.out _ _ _)
                cases hg : getL (y0, y1) Lt with
                | none =>
                  have HBAD : Hid (((y0, y1), yv) ∉ rowsT allP Ts) := Lib.hid fun hm => by
                    have := HMEM.out.1 hm
                    rw [hg] at this
                    cases this
                  simp only [Option.getD_none, Option.isSome_none]
                  clear hg
                  gi_wp2
                  exact ⟨HKF.out.trans ((KeepsOthers.setCell _ _ _).from _), not_pre HXY.out HBAD.out⟩
                | some v' =>
                  simp only [Option.getD_some, Option.isSome_some]
                  by_cases hv : v' = yv
                  · subst hv
                    clear hg
                    gi_wp2
                    exact ⟨HKF.out, HKP.out, HI1.out⟩
                  · have HBAD : Hid (((y0, y1), yv) ∉ rowsT allP Ts) := Lib.hid fun hm => by
                      have := HMEM.out.1 hm
                      rw [hg] at this
                      exact hv (Option.some.inj this)
                    clear hg
                    gi_wp2
                    exact ⟨HKF.out.trans ((KeepsOthers.setCell _ _ _).from _), not_pre HXY.out HBAD.out⟩
              case donec =>
                rintro D W hD hI hK
                have hIw : Below wa.heap.size wa W := by rw [HNA.out]; exact hI
                have HSW := Lib.hid (HSA.out.call hIw)
                have H1W := Lib.hid (H1A.out.on hIw)
                have H3W := Lib.hid (H3A.out.on hIw)
                have HK := Lib.hid hK
                have hDl : D < W.heap.size := (Array.getElem?_eq_some_iff.1 hK).1
                clear hI hIw hK HSQ
                go_wp2_with fail
                go_at_call 25
                obtain ⟨RX, hRX⟩ : ∃ R, rowsT (inB a) Tt = R := ⟨_, rfl⟩
                refine (longest_is ts rs a Ls Ts W H1W.out).mono ?_
                rw [lst_same a H1W.out.ok H3W.out.ok H6X.out, hRX]
                obtain ⟨px, hpx⟩ : ∃ z, (lst RX).1.1 = z := ⟨_, rfl⟩
                obtain ⟨pn, hpn⟩ : ∃ z, (lst RX).1.2 = z := ⟨_, rfl⟩
                obtain ⟨pv, hpv⟩ : ∃ z, (lst RX).2.1 = z := ⟨_, rfl⟩
                obtain ⟨is, his⟩ : ∃ z, (lst RX).2.2 = z := ⟨_, rfl⟩
                have HLO := Lib.hid (show ∀ W', TabAt_i W' tt rt Lt Tt → Calls Try.prog 25 #[.pointer (some ⟨tt, 0, none⟩), .int .u32 a] W' fun e w' => e = .returned (.tuple #[.agg #[.int .u32 px, .int .i64 pn], .int .i64 pv, .bool is]) ∧ Below W'.heap.size W' w' from fun W' hW' => by
                  have h := longest_is tt rt a Lt Tt W' hW'
                  rw [hRX, hpx, hpn, hpv, his] at h
                  exact h)
                rw [hpx, hpn, hpv, his]
                clear hRX hpx hpn hpv his
                rintro e wb ⟨rfl, hbb⟩
                obtain ⟨n9, hn9⟩ : ∃ n9, wb.heap.size = n9 := ⟨_, rfl⟩
                obtain ⟨wc, hwc⟩ : ∃ X, wb.alloc (.cells #[.int .u32 px, .int .i64 pn] 34) = X := ⟨_, rfl⟩
                have hbc : Below wb.heap.size wb wc := by rw [← hwc]; exact (Below.refl _ _).alloc (Nat.le_refl _) _
                have hWc := Below.step hbb hbc
                have hr9 : wc.heap[n9]? = some (.cells #[.int .u32 px, .int .i64 pn] 34 (0, 0)) := by rw [← hwc, ← hn9]; exact heap_alloc_new wb _
                have HSC := Lib.hid (HSW.out.call hWc)
                have H3C := Lib.hid (H3W.out.on hWc)
                have hkc : wc.heap[D]? = some (.deferred (some [])) := (hWc.block D hDl).trans HK.out
                have HKC := Lib.hid hkc
                have HR9 := Lib.hid hr9
                have ct : wc.cell? ⟨nt, 0, none⟩ = some (.pointer (some ⟨tt, 0, none⟩)) := row_cell HSC.out.rt 0
                clear hbb hbc hWc hr9 hkc hDl HSW H1W H3W HK
                go_wp2_with fail
                clear hwc hn9 ct
                go_at_call 25
                refine (HLO.out wc H3C.out).mono ?_
                rintro e wd ⟨rfl, hbd⟩
                obtain ⟨n10, hn10⟩ : ∃ n9, wd.heap.size = n9 := ⟨_, rfl⟩
                obtain ⟨we, hwe⟩ : ∃ X, wd.alloc (.cells #[.int .u32 px, .int .i64 pn] 34) = X := ⟨_, rfl⟩
                have hbe : Below wd.heap.size wd we := by rw [← hwe]; exact (Below.refl _ _).alloc (Nat.le_refl _) _
                have hCe := Below.step hbd hbe
                have hr10 : we.heap[n10]? = some (.cells #[.int .u32 px, .int .i64 pn] 34 (0, 0)) := by rw [← hwe, ← hn10]; exact heap_alloc_new wd _
                have hr9 := (hCe.block n9 (blk_lt HR9.out)).trans HR9.out
                have HSE := Lib.hid (HSC.out.call hCe)
                have hDl : D < wc.heap.size := (Array.getElem?_eq_some_iff.1 HKC.out).1
                have HKE : Hid (we.heap[D]? = some (.deferred (some []))) := Lib.hid ((hCe.block D hDl).trans HKC.out)
                have c90 : we.cell? ⟨n9, 0, none⟩ = some (.int .u32 px) := row_cell hr9 0
                have c91 : we.cell? ⟨n9, 1, none⟩ = some (.int .i64 pn) := row_cell hr9 1
                have d90 : we.cell? ⟨n10, 0, none⟩ = some (.int .u32 px) := row_cell hr10 0
                have d91 : we.cell? ⟨n10, 1, none⟩ = some (.int .i64 pn) := row_cell hr10 1
                have d6 : we.cell? ⟨n0 + 1, 0, none⟩ = some (.bool false) := row_cell HSE.out.r8 0
                have f6 := frozen_of_row _ _ 0 _ _ HSE.out.r8
                have hge := guardP .eql
                have heq : ∀ W, (binOp .eql 34 (.agg #[.int .u32 px, .int .i64 pn]) (.agg #[.int .u32 px, .int .i64 pn])).run Try.prog W = .ok (.bool true) W := fun W => (eqlP px pn px pn W).trans (by simp)
                have HDN : Hid (D ≠ n0 + 1) := Lib.hid (by
                  have h1 := HSA.out.r8
                  have h2 := blk_lt h1
                  have := HNA.out
                  omega)
                clear hbd hbe hCe hr10 hr9 hDl HSC HKC H3C HLO HR9
                cases is <;>
                · go_wp2_with fail
                  obtain ⟨WE, hWE⟩ : ∃ X, we.setCell ⟨n0 + 1, 0, none⟩ (.bool true) = X := ⟨_, rfl⟩
                  obtain ⟨a1, b1', _, d1'⟩ := set1 (v := .bool true) (i := 0) HSE.out.r8 hWE
                  rw [hWE]
                  have hdn := HDN.out
                  have q0' := HN0.out
                  have q1' := HNA.out
                  have q2' := HSA.out.bel.size
                  have e1' := (b1' D (by omega)).trans HKE.out
                  have hBE : Below w.heap.size w WE := HSE.out.bel.trans (d1'.mono (by omega))
                  obtain ⟨z1, y1⟩ := drop_mark WE D (.deferred none)
                  obtain ⟨V1, hV1⟩ : ∃ V, WE.putObj D (.deferred none) = V := ⟨_, rfl⟩
                  rw [hV1] at z1 y1
                  have yr := (z1 (n0 + 1) (by omega)).trans a1
                  have yc : V1.cell? ⟨n0 + 1, 0, none⟩ = some (.bool true) := row_cell yr 0
                  refine ⟨by simp, .inl ⟨_, V1, rfl, hV1 ▸ run_takeDeferred e1', ?_⟩⟩
                  refine ⟨.bool true, ?_, rfl, hBE.trans (y1.mono (by omega))⟩
                  simp [results, Try.f6, go_sem, yc]
            · have hc2 : decide (ck q0 q1 = 0) = false := by simp [hc]
              obtain ⟨cc, hcc⟩ : ∃ z, ck q0 q1 = z := ⟨_, rfl⟩
              rw [hcc] at hc hc2 ⊢
              clear hcc
              go_wp2_with fail
              obtain ⟨Ls, Ts, Lt, Tt, h1, h2, h3, h4, h5, h6⟩ := HF6.out.two
              have hlen : Ls.length = Lt.length := uniq_len h2.uniq h5 fun x => Option.ext fun v => by
                obtain ⟨b, m⟩ := x
                have g1 := h2.same b m v
                have g2 := h4 b m v
                rw [h6] at g1
                exact g1.trans g2.symm
              have hshort : Ls.length ≤ 100000 := by
                have := uniq_short h2.uniq fun x v hx => (h2.from_ x.1 x.2 v ((h2.same _ _ _).1 hx)).2.1
                have := HEM.out
                omega
              have hshort2 : Lt.length ≤ 100000 := by omega
              have ct : w6.cell? ⟨nt, 0, none⟩ = some (.pointer (some ⟨tt, 0, none⟩)) := row_cell HS6.out.rt 0
              have HLS := Lib.hid (show ∀ x : Grows w6, Calls Try.prog 30 #[.pointer (some ⟨ts, 0, none⟩)] x.val fun e w' => e = .returned (.int .i64 Lt.length) ∧ x.val = w' from fun x => hlen ▸ len_is ts rs Ls Ts x.val (h1.on x.below) hshort)
              have HLT := Lib.hid (show ∀ x : Grows w6, Calls Try.prog 30 #[.pointer (some ⟨tt, 0, none⟩)] x.val fun e w' => e = .returned (.int .i64 Lt.length) ∧ x.val = w' from fun x => len_is tt rt Lt Tt x.val (h3.on x.below) hshort2)
              have HLE := Lib.hid hlen
              have H1X := Lib.hid h1; have H3X := Lib.hid h3; have H4X := Lib.hid h4; have H6X := Lib.hid h6; have H2X := Lib.hid h2
              clear h1 h2 h3 h4 h5 h6 hlen hshort hshort2
              refine wp_region_grows (by kernel_rfl) (by kernel_rfl) ?_
              refine grows_fact nt 0 (.pointer (some ⟨tt, 0, none⟩)) ct (blk_lt HS6.out.rt) fun g0 => ?_
              clear ct
              repeat (go_big_quiet_step ((go_at_call 30; first | (with_reducible exact Calls.grows_same (HLS.out _)) | (with_reducible exact Calls.grows_same (HLT.out _)))))
              refine wpQuiet_nil ?_
              rintro WY ⟨⟨_, hbd⟩, rfl⟩
              have HSY := Lib.hid (HS6.out.call hbd)
              have H1Y := Lib.hid (H1X.out.on hbd)
              have H3Y := Lib.hid (H3X.out.on hbd)
              clear hbd
              clear g0 HLS HLT HLE H1X H3X
              go_wp2_with fail
              obtain ⟨root, hroot, hnd⟩ := H1Y.out.row
              have HND := Lib.hid hnd
              go_at_call 9
              refine (tall_is ts (.map (some rs)) root WY hroot).mono ?_
              rintro e wa ⟨rfl, hseq, hba, hza⟩
              obtain ⟨b1, hb1⟩ : ∃ b, WY.heap.size = b := ⟨_, rfl⟩
              obtain ⟨na, hna⟩ : ∃ n, wa.heap.size = n := ⟨_, rfl⟩
              have HSA := Lib.hid (HSY.out.call hba)
              have H1A := Lib.hid (H1Y.out.on hba)
              have H3A := Lib.hid (H3Y.out.on hba)
              rw [hb1] at hseq hza
              rw [hb1]
              rw [hna] at hza
              have HSQ := Lib.hid (any_stops encN encN_ok 7 na (fun _ => False) b1 root Ts wa hseq H1Y.out.ok (TrAt.keep (fun y hy _ => ⟨⟨by omega, fun h => h⟩, hba.block y hy⟩) HND.out) (by omega) ⟨by omega, fun h => h⟩ ⟨by omega, fun h => h⟩)
              have HNA := Lib.hid hna
              clear hseq hba hza hb1 hna hroot hnd HSY H1Y H3Y HND
              go_wp2_with fail
              refine (wpIn_wide (n := 8)).1 ?_
              refine' range_all (n1 := na) (rows := rowsT allP Ts) _ (gf := 50) (lb := #[.pointer (some ⟨b1, 0, none⟩), .pointer (some ⟨b1 + 1, 0, none⟩)]) rfl rfl trivial (enters_of Try.func50 (by kernel_rfl) rfl) HSQ.out (rows_pf H1A.out.ok) HNA.out ?assignb ?bodyb ?doneb
              case assignb =>
                intro l y W C K hC hK
                have HCC := Lib.hid hC
                clear hC
                gi_wp2
                rw [HCC.out]
                exact hK.out
              case bodyb =>
                rintro l pre x ⟨⟨y0, y1⟩, yv⟩ B W hxy hy0 hy1 hI hB hB1 hlen
                simp only at hy0 hy1 hB
                have hIw : Below wa.heap.size wa W := by rw [HNA.out]; exact hI
                have HSW := Lib.hid (HSA.out.call hIw)
                have H3W := Lib.hid (H3A.out.on hIw)
                have HI := Lib.hid hI; have HXY := Lib.hid hxy; have HB := Lib.hid hB
                have ct : W.cell? ⟨nt, 0, none⟩ = some (.pointer (some ⟨tt, 0, none⟩)) := row_cell HSW.out.rt 0
                have p0 : W.cell? ⟨B, 0, none⟩ = some (.int .u32 y0) := row_cell hB 0
                have p1 : W.cell? ⟨B, 1, none⟩ = some (.int .i64 y1) := row_cell hB 1
                clear hI hIw hxy hB hlen
                gi_wp2
                refine ⟨trivial, ?_⟩
                refine ((callsIn_wide.2 (at_is tt rt Lt Tt y0 y1 W H3W.out)).inRound l).mono ?_
                rintro e w1 ⟨rfl, hb1⟩
                have s6 := (hb1.block (n0 + 1) (blk_lt HSW.out.r8)).trans HSW.out.r8
                have d6 : w1.cell? ⟨n0 + 1, 0, none⟩ = some (.bool false) := row_cell s6 0
                have f6 := frozen_of_row _ _ 0 _ _ s6
                have HKF := Lib.hid (below_keeps na hb1)
                have HKP : Hid (Kpx na (fun _ => False) W w1) := Lib.hid (Kpx.of hb1 (by have := HI.out.size; have := HNA.out; omega))
                have HI1 := Lib.hid (HI.out.trans (hb1.mono (by have := HI.out.size; have := HNA.out; omega)))
                clear hb1 s6 ct p0 p1
                have HMEM : Hid (((y0, y1), yv) ∈ rowsT allP Ts ↔ getL (y0, y1) Lt = some yv) := Lib.hid (by rw [mem_rows, H4X.out]; exact H6X.out _ _ _)
                cases hg : getL (y0, y1) Lt with
                | none =>
                  have HBAD : Hid (((y0, y1), yv) ∉ rowsT allP Ts) := Lib.hid fun hm => by
                    have := HMEM.out.1 hm
                    rw [hg] at this
                    cases this
                  simp only [Option.getD_none, Option.isSome_none]
                  clear hg
                  gi_wp2
                  exact ⟨HKF.out.trans ((KeepsOthers.setCell _ _ _).from _), not_pre HXY.out HBAD.out⟩
                | some v' =>
                  simp only [Option.getD_some, Option.isSome_some]
                  by_cases hv : v' = yv
                  · subst hv
                    clear hg
                    gi_wp2
                    exact ⟨HKF.out, HKP.out, HI1.out⟩
                  · have HBAD : Hid (((y0, y1), yv) ∉ rowsT allP Ts) := Lib.hid fun hm => by
                      have := HMEM.out.1 hm
                      rw [hg] at this
                      exact hv (Option.some.inj this)
                    clear hg
                    gi_wp2
                    exact ⟨HKF.out.trans ((KeepsOthers.setCell _ _ _).from _), not_pre HXY.out HBAD.out⟩
              case doneb =>
                rintro D W hD hI hK
                have hIw : Below wa.heap.size wa W := by rw [HNA.out]; exact hI
                have HSW := Lib.hid (HSA.out.call hIw)
                have H1W := Lib.hid (H1A.out.on hIw)
                have H3W := Lib.hid (H3A.out.on hIw)
                have HK := Lib.hid hK
                have hDl : D < W.heap.size := (Array.getElem?_eq_some_iff.1 hK).1
                clear hI hIw hK HSQ
                go_wp2_with fail
                go_at_call 25
                obtain ⟨RX, hRX⟩ : ∃ R, rowsT (inB a) Tt = R := ⟨_, rfl⟩
                refine (longest_is ts rs a Ls Ts W H1W.out).mono ?_
                rw [lst_same a H1W.out.ok H3W.out.ok H6X.out, hRX]
                obtain ⟨px, hpx⟩ : ∃ z, (lst RX).1.1 = z := ⟨_, rfl⟩
                obtain ⟨pn, hpn⟩ : ∃ z, (lst RX).1.2 = z := ⟨_, rfl⟩
                obtain ⟨pv, hpv⟩ : ∃ z, (lst RX).2.1 = z := ⟨_, rfl⟩
                obtain ⟨is, his⟩ : ∃ z, (lst RX).2.2 = z := ⟨_, rfl⟩
                have HLO := Lib.hid (show ∀ W', TabAt_i W' tt rt Lt Tt → Calls Try.prog 25 #[.pointer (some ⟨tt, 0, none⟩), .int .u32 a] W' fun e w' => e = .returned (.tuple #[.agg #[.int .u32 px, .int .i64 pn], .int .i64 pv, .bool is]) ∧ Below W'.heap.size W' w' from fun W' hW' => by
                  have h := longest_is tt rt a Lt Tt W' hW'
                  rw [hRX, hpx, hpn, hpv, his] at h
                  exact h)
                rw [hpx, hpn, hpv, his]
                clear hRX hpx hpn hpv his
                rintro e wb ⟨rfl, hbb⟩
                obtain ⟨n9, hn9⟩ : ∃ n9, wb.heap.size = n9 := ⟨_, rfl⟩
                obtain ⟨wc, hwc⟩ : ∃ X, wb.alloc (.cells #[.int .u32 px, .int .i64 pn] 34) = X := ⟨_, rfl⟩
                have hbc : Below wb.heap.size wb wc := by rw [← hwc]; exact (Below.refl _ _).alloc (Nat.le_refl _) _
                have hWc := Below.step hbb hbc
                have hr9 : wc.heap[n9]? = some (.cells #[.int .u32 px, .int .i64 pn] 34 (0, 0)) := by rw [← hwc, ← hn9]; exact heap_alloc_new wb _
                have HSC := Lib.hid (HSW.out.call hWc)
                have H3C := Lib.hid (H3W.out.on hWc)
                have hkc : wc.heap[D]? = some (.deferred (some [])) := (hWc.block D hDl).trans HK.out
                have HKC := Lib.hid hkc
                have HR9 := Lib.hid hr9
                have ct : wc.cell? ⟨nt, 0, none⟩ = some (.pointer (some ⟨tt, 0, none⟩)) := row_cell HSC.out.rt 0
                clear hbb hbc hWc hr9 hkc hDl HSW H1W H3W HK
                go_wp2_with fail
                clear hwc hn9 ct
                go_at_call 25
                refine (HLO.out wc H3C.out).mono ?_
                rintro e wd ⟨rfl, hbd⟩
                obtain ⟨n10, hn10⟩ : ∃ n9, wd.heap.size = n9 := ⟨_, rfl⟩
                obtain ⟨we, hwe⟩ : ∃ X, wd.alloc (.cells #[.int .u32 px, .int .i64 pn] 34) = X := ⟨_, rfl⟩
                have hbe : Below wd.heap.size wd we := by rw [← hwe]; exact (Below.refl _ _).alloc (Nat.le_refl _) _
                have hCe := Below.step hbd hbe
                have hr10 : we.heap[n10]? = some (.cells #[.int .u32 px, .int .i64 pn] 34 (0, 0)) := by rw [← hwe, ← hn10]; exact heap_alloc_new wd _
                have hr9 := (hCe.block n9 (blk_lt HR9.out)).trans HR9.out
                have HSE := Lib.hid (HSC.out.call hCe)
                have hDl : D < wc.heap.size := (Array.getElem?_eq_some_iff.1 HKC.out).1
                have HKE : Hid (we.heap[D]? = some (.deferred (some []))) := Lib.hid ((hCe.block D hDl).trans HKC.out)
                have c90 : we.cell? ⟨n9, 0, none⟩ = some (.int .u32 px) := row_cell hr9 0
                have c91 : we.cell? ⟨n9, 1, none⟩ = some (.int .i64 pn) := row_cell hr9 1
                have d90 : we.cell? ⟨n10, 0, none⟩ = some (.int .u32 px) := row_cell hr10 0
                have d91 : we.cell? ⟨n10, 1, none⟩ = some (.int .i64 pn) := row_cell hr10 1
                have d6 : we.cell? ⟨n0 + 1, 0, none⟩ = some (.bool false) := row_cell HSE.out.r8 0
                have f6 := frozen_of_row _ _ 0 _ _ HSE.out.r8
                have hge := guardP .eql
                have heq : ∀ W, (binOp .eql 34 (.agg #[.int .u32 px, .int .i64 pn]) (.agg #[.int .u32 px, .int .i64 pn])).run Try.prog W = .ok (.bool true) W := fun W => (eqlP px pn px pn W).trans (by simp)
                have HDN : Hid (D ≠ n0 + 1) := Lib.hid (by
                  have h1 := HSA.out.r8
                  have h2 := blk_lt h1
                  have := HNA.out
                  omega)
                clear hbd hbe hCe hr10 hr9 hDl HSC HKC H3C HLO HR9
                cases is <;>
                · go_wp2_with fail
                  obtain ⟨WE, hWE⟩ : ∃ X, we.setCell ⟨n0 + 1, 0, none⟩ (.bool true) = X := ⟨_, rfl⟩
                  obtain ⟨a1, b1', _, d1'⟩ := set1 (v := .bool true) (i := 0) HSE.out.r8 hWE
                  rw [hWE]
                  have hdn := HDN.out
                  have q0' := HN0.out
                  have q1' := HNA.out
                  have q2' := HSA.out.bel.size
                  have e1' := (b1' D (by omega)).trans HKE.out
                  have hBE : Below w.heap.size w WE := HSE.out.bel.trans (d1'.mono (by omega))
                  obtain ⟨z1, y1⟩ := drop_mark WE D (.deferred none)
                  obtain ⟨V1, hV1⟩ : ∃ V, WE.putObj D (.deferred none) = V := ⟨_, rfl⟩
                  rw [hV1] at z1 y1
                  have yr := (z1 (n0 + 1) (by omega)).trans a1
                  have yc : V1.cell? ⟨n0 + 1, 0, none⟩ = some (.bool true) := row_cell yr 0
                  refine ⟨by simp, .inl ⟨_, V1, rfl, hV1 ▸ run_takeDeferred e1', ?_⟩⟩
                  refine ⟨.bool true, ?_, rfl, hBE.trans (y1.mono (by omega))⟩
                  simp [results, Try.f6, go_sem, yc]
end Go.Proofs.Ytodfimnmbfdicaa
