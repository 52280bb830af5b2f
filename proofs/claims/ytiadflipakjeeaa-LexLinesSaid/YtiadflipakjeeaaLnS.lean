/- What sameLines says of two lists that are the same. Under the conditions that it names. -/
import Derived.Test.YtiadflipakjeeaaLnD
import Derived.Test.YtiadflipakjeeaaLxSP
import Derived.Laws.OwnMore
import Derived.BigQuiet
namespace Go.Proofs.Ytiadflipakjeeaa
open Go.RowKit
theorem flat_at {α β : Type} (f : α → List β) (m : Nat) (hf : ∀ x, (f x).length = m) : ∀ (d : List α) (k : Nat) (hk : k < d.length) (o : Nat), o < m → (d.flatMap f)[k * m + o]? = (f d[k])[o]?
  | [], k, hk, _, _ => by simp at hk
  | t :: r, k, hk, o, ho => by
    rw [List.flatMap_cons]
    cases k with
    | zero => rw [List.getElem?_append_left (by rw [hf]; omega)]; simp
    | succ k =>
      rw [List.getElem?_append_right (by rw [hf, Nat.add_mul]; omega), hf, show (k + 1) * m + o - m = k * m + o by rw [Nat.add_mul]; omega, flat_at f m hf r k (by simpa using hk) o ho]
      simp
theorem ln_cells {W : World} {B g cap : Nat} {e : TypeId} {L : List (Ln × Value)} (h : W.ownsRow B e 2 (.slice (some ⟨g, 0, none⟩) L.length cap) L.length (L.flatMap lnC)) {k : Nat} (hk : k < L.length) :
    W.cell? ⟨g, k * 2, none⟩ = some (.int .i64 L[k].1.2.1) ∧ W.cell? ⟨g, k * 2 + 1, none⟩ = some L[k].2 := by
  refine ⟨?_, ?_⟩
  · rw [h.cellAt (k * 2) (by omega)]; exact flat_at lnC 2 (fun _ => rfl) L k hk 0 (by omega)
  · rw [h.cellAt (k * 2 + 1) (by omega)]; exact flat_at lnC 2 (fun _ => rfl) L k hk 1 (by omega)
theorem wd_cells {W : World} {B g cap : Nat} {e : TypeId} {num : Int} {d : List (List UInt8 × Int)} (h : W.ownsRow B e 3 (.slice (some ⟨g, 0, none⟩) d.length cap) d.length (d.flatMap (wdC num))) {k : Nat} (hk : k < d.length) :
    W.cell? ⟨g, k * 3, none⟩ = some (.string ⟨d[k].1.toArray⟩) ∧ W.cell? ⟨g, k * 3 + 1, none⟩ = some (.int .i64 num) ∧ W.cell? ⟨g, k * 3 + 2, none⟩ = some (.int .i64 d[k].2) := by
  refine ⟨?_, ?_, ?_⟩
  · rw [h.cellAt (k * 3) (by omega)]; exact flat_at (wdC num) 3 (fun _ => rfl) d k hk 0 (by omega)
  · rw [h.cellAt (k * 3 + 1) (by omega)]; exact flat_at (wdC num) 3 (fun _ => rfl) d k hk 1 (by omega)
  · rw [h.cellAt (k * 3 + 2) (by omega)]; exact flat_at (wdC num) 3 (fun _ => rfl) d k hk 2 (by omega)
set_option maxRecDepth 100000 in
set_option maxHeartbeats 8000000 in
theorem sameLines_is (L L2 : List (Ln × Value)) (v u : Value) (W : World) (B B2 : Nat) (hv : LinesAt W B 35 37 v L) (hu : LinesAt W B2 56 58 u L2) (heq : L.map Prod.fst = L2.map Prod.fst) (hl : L.length ≤ 65536) (hw : ∀ x ∈ L, x.1.2.2.length ≤ 65536) :
    Calls Try.prog 7 #[v, u] W fun e w' => e = .returned (.bool true) ∧ Below W.heap.size W w' := by
  have hlen : L.length = L2.length := by have := congrArg List.length heq; simpa using this
  by_cases h0 : L.length = 0
  · have hd : L = [] := List.length_eq_zero_iff.1 h0
    have hd2 : L2 = [] := List.length_eq_zero_iff.1 (by omega)
    subst hd hd2
    obtain ⟨p, c, rfl⟩ := own_sl hv.1
    obtain ⟨q, c', rfl⟩ := own_sl hu.1
    clear hv hu h0 hlen heq hw
    go_enter Try.func7, Try.ntmps7
    go_wp2
    refine wp_loop_rounds 1 ?_
    rw [rounds_succ]
    go_wp2
    go_ret
    exact ⟨rfl, Below.refl _ _⟩
  · obtain ⟨g, cap, rfl, _, hgl⟩ := hv.1.form (by omega)
    obtain ⟨g2, cap2, rfl, _, hg2l⟩ := hu.1.form (by omega)
    rw [← hlen] at hu ⊢
    have hu1 := hu.1
    rw [hlen] at hu1
    have hcv : ∀ k, (hk : k < L.length) → ∀ w, Below W.heap.size W w → _ := fun k hk w hb => ln_cells (ownsRow_of hv.1 fun x _ _ hx => hb.block x hx) hk
    have hcu : ∀ k, (hk : k < L2.length) → ∀ w, Below W.heap.size W w → _ := fun k hk w hb => ln_cells (ownsRow_of hu1 fun x _ _ hx => hb.block x hx) hk
    have HCV := Lib.hid hcv; have HCU := Lib.hid hcu; have HV := Lib.hid hv; have HU := Lib.hid hu; have HLEN := Lib.hid hlen; have HEQ := Lib.hid heq; have HW := Lib.hid hw
    clear hcv hcu hv hu hu1 h0 hlen heq hw
    go_enter Try.func7, Try.ntmps7
    go_wp2
    go_loopw [5] (fun s wr => ∃ i : Nat, i ≤ L.length ∧ s = .int .i64 i ∧ Below W.heap.size W wr) (fun s _ => L.length - (intOf s).toNat)
    case atStart => exact ⟨0, Nat.zero_le _, rfl, Below.refl _ _⟩
    case round =>
      obtain ⟨i, hi, rfl, hbw⟩ := hrel
      by_cases hlt : i < L.length
      · have hlt2 : i < L2.length := by have := HLEN.out; omega
        have hx : L[i].1 = L2[i].1 := by
          have h1 : (L.map Prod.fst)[i]? = some L[i].1 := by simp [hlt]
          have h2 : (L2.map Prod.fst)[i]? = some L2[i].1 := by simp [hlt2]
          rw [HEQ.out, h2] at h1
          exact (Option.some.inj h1).symm
        obtain ⟨a0, a1⟩ := HCV.out i hlt wr hbw
        obtain ⟨b0, b1⟩ := HCU.out i hlt2 wr hbw
        obtain ⟨hr1, -⟩ := HV.out.2 L[i] (List.getElem_mem hlt)
        obtain ⟨hr2, -⟩ := HU.out.2 L2[i] (List.getElem_mem hlt2)
        have hwl := HW.out L[i] (List.getElem_mem hlt)
        rw [← hx] at b0 hr2
        obtain ⟨x1, hx1⟩ : ∃ x, L[i].2 = x := ⟨_, rfl⟩
        obtain ⟨x2, hx2⟩ : ∃ x, L2[i].2 = x := ⟨_, rfl⟩
        obtain ⟨y, hy⟩ : ∃ y, L[i].1 = y := ⟨_, rfl⟩
        rw [hx1] at a1 hr1
        rw [hx2] at b1 hr2
        rw [hy] at a0 b0 hr1 hr2 hwl
        obtain ⟨num, ind, ws⟩ := y
        simp only at a0 b0 hr1 hr2 hwl
        obtain ⟨p, q, rfl⟩ := own_sl hr1
        obtain ⟨p2, q2, rfl⟩ := own_sl hr2
        have hA : ∀ w, Below W.heap.size W w → w.cell? ⟨g, i * 2 + 1, none⟩ = some (.slice p ws.length q) := fun w hb => by rw [(HCV.out i hlt w hb).2, hx1]
        have hB : ∀ w, Below W.heap.size W w → w.cell? ⟨g2, i * 2 + 1, none⟩ = some (.slice p2 ws.length q2) := fun w hb => by rw [(HCU.out i hlt2 w hb).2, hx2]
        have e1 : (0 : Int) ≤ (i : Int) := by omega
        have e2 : (i : Int) < (L.length : Int) := by omega
        have HR1 := Lib.hid hr1; have HR2 := Lib.hid hr2; have HA := Lib.hid hA; have HB := Lib.hid hB
        have hsw := hbw.size
        clear hx hx1 hx2 hy hr1 hr2 hA hB
        go_wp2_with fail
        go_quiet (fail)
        have hbq : Below W.heap.size W (wr.drewN nq) := Below.draws hbw _
        generalize wr.drewN nq = wo at hbq ⊢
        clear a0 a1 b0 b1 hbw hsw
        have hbo : Hid (Below W.heap.size W wo) := Lib.hid hbq
        clear hbq
        go_wp2_with fail
        go_loopw [6] (fun s wx => ∃ k : Nat, k ≤ ws.length ∧ s = .int .i64 k ∧ Below W.heap.size W wx) (fun s _ => ws.length - (intOf s).toNat)
        case atStart => exact ⟨0, Nat.zero_le _, rfl, hbo.out⟩
        case round =>
          obtain ⟨k, hk, rfl, hbx⟩ := hrel
          have a1 := HA.out wr hbx
          have b1 := HB.out wr hbx
          have hsx := hbx.size
          by_cases hkl : k < ws.length
          · obtain ⟨h1, c1, hsl, _, hh1⟩ := HR1.out.form (by omega)
            obtain ⟨hp, -⟩ : p = some ⟨h1, 0, none⟩ ∧ q = c1 := by simpa using hsl
            subst hp
            obtain ⟨h2, c2, hsl2, _, hh2⟩ := HR2.out.form (by omega)
            obtain ⟨hp, -⟩ : p2 = some ⟨h2, 0, none⟩ ∧ q2 = c2 := by simpa using hsl2
            subst hp
            obtain ⟨c0, d1, d2⟩ := wd_cells (ownsRow_of HR1.out fun x _ _ hx => hbx.block x hx) hkl
            obtain ⟨x0, x1, x2⟩ := wd_cells (ownsRow_of HR2.out fun x _ _ hx => hbx.block x hx) hkl
            obtain ⟨tx, htx⟩ : ∃ x, ws[k].1 = x := ⟨_, rfl⟩
            obtain ⟨col, hcol⟩ : ∃ x, ws[k].2 = x := ⟨_, rfl⟩
            rw [htx] at c0 x0; rw [hcol] at d2 x2
            have e3 : (0 : Int) ≤ (k : Int) := by omega
            have e4 : (k : Int) < (ws.length : Int) := by omega
            have HA1 := Lib.hid a1; have HB1 := Lib.hid b1; have HC0 := Lib.hid c0; have HC1 := Lib.hid d1; have HC2 := Lib.hid d2; have HD0 := Lib.hid x0; have HD1 := Lib.hid x1; have HD2 := Lib.hid x2
            clear hsl hsl2 htx hcol
            go_wp2_with fail
            go_region_held3 (fun w' => w'.cell? ⟨g, i * 2 + 1, none⟩ = some (.slice (some ⟨h1, 0, none⟩) ws.length q) ∧ w'.cell? ⟨g2, i * 2 + 1, none⟩ = some (.slice (some ⟨h2, 0, none⟩) ws.length q2) ∧ w'.cell? ⟨h1, k * 3, none⟩ = some (.string ⟨tx.toArray⟩) ∧ w'.cell? ⟨h1, k * 3 + 1, none⟩ = some (.int .i64 num) ∧ w'.cell? ⟨h1, k * 3 + 2, none⟩ = some (.int .i64 col) ∧ w'.cell? ⟨h2, k * 3, none⟩ = some (.string ⟨tx.toArray⟩) ∧ w'.cell? ⟨h2, k * 3 + 1, none⟩ = some (.int .i64 num) ∧ w'.cell? ⟨h2, k * 3 + 2, none⟩ = some (.int .i64 col)) (first | go_keep | (simp [*, World.cell?_alloc_some]; done) | (trace_state; fail)) ((go_at_call 8; (with_reducible refine (samePos_same _ _ _).mono ?_); rintro e wz ⟨rfl, hbz⟩; (have hbzz : Below wr.heap.size wr wz := Below.step ((Below.refl _ _).drew) hbz); (have zA1 : wz.cell? ⟨g, i * 2 + 1, none⟩ = some (.slice (some ⟨h1, 0, none⟩) ws.length q) := (hbzz.cell (p := ⟨g, i * 2 + 1, none⟩) (by simp; omega)).trans HA1.out); (have zB1 : wz.cell? ⟨g2, i * 2 + 1, none⟩ = some (.slice (some ⟨h2, 0, none⟩) ws.length q2) := (hbzz.cell (p := ⟨g2, i * 2 + 1, none⟩) (by simp; omega)).trans HB1.out); (have zC0 : wz.cell? ⟨h1, k * 3, none⟩ = some (.string ⟨tx.toArray⟩) := (hbzz.cell (p := ⟨h1, k * 3, none⟩) (by simp; omega)).trans HC0.out); (have zC1 : wz.cell? ⟨h1, k * 3 + 1, none⟩ = some (.int .i64 num) := (hbzz.cell (p := ⟨h1, k * 3 + 1, none⟩) (by simp; omega)).trans HC1.out); (have zC2 : wz.cell? ⟨h1, k * 3 + 2, none⟩ = some (.int .i64 col) := (hbzz.cell (p := ⟨h1, k * 3 + 2, none⟩) (by simp; omega)).trans HC2.out); (have zD0 : wz.cell? ⟨h2, k * 3, none⟩ = some (.string ⟨tx.toArray⟩) := (hbzz.cell (p := ⟨h2, k * 3, none⟩) (by simp; omega)).trans HD0.out); (have zD1 : wz.cell? ⟨h2, k * 3 + 1, none⟩ = some (.int .i64 num) := (hbzz.cell (p := ⟨h2, k * 3 + 1, none⟩) (by simp; omega)).trans HD1.out); (have zD2 : wz.cell? ⟨h2, k * 3 + 2, none⟩ = some (.int .i64 col) := (hbzz.cell (p := ⟨h2, k * 3 + 2, none⟩) (by simp; omega)).trans HD2.out)))
            go_wp2_with fail
            go_roundw
            case rel => exact ⟨k + 1, by omega, by go_num, Below.step hbx hbzz⟩
            case measure => first | (simp [intOf]; done) | (simp [intOf]; omega)
          · have e4 : ¬ (k : Int) < (ws.length : Int) := by omega
            clear hkl
            go_wp2_with fail
            go_roundw
            case rel => exact ⟨i + 1, by omega, by go_num, hbx⟩
            case measure => first | (simp [intOf]; done) | (simp [intOf]; omega)
      · have e2 : ¬ (i : Int) < (L.length : Int) := by omega
        clear hlt
        go_wp2_with fail
        go_ret
        exact ⟨rfl, hbw⟩
end Go.Proofs.Ytiadflipakjeeaa
