/- What sameTokens says of two lists that are the same. Under the conditions that it names. -/
import Derived.Test.YtiadflipakjeeaaLxY
import Derived.Laws.OwnMore
namespace Go.Proofs.Ytiadflipakjeeaa
open Go.RowKit
theorem samePos_same (a b : Int) (W : World) : Calls Try.prog 8 #[.agg #[.int .i64 a, .int .i64 b], .agg #[.int .i64 a, .int .i64 b]] W fun e w' => e = .returned (.bool true) ∧ Below W.heap.size W w' := by
  go_enter Try.func8, Try.ntmps8
  go_wp2
  go_ret
  exact ⟨rfl, ((Below.refl _ _).alloc (Nat.le_refl _) _).alloc (by simp) _⟩
theorem tok_at (d : List (Int × List UInt8 × (Int × Int))) (k : Nat) (hk : k < d.length) (o : Nat) (ho : o < 4) : (d.flatMap tokC)[k * 4 + o]? = (tokC d[k])[o]? := by
  induction d generalizing k with
  | nil => simp at hk
  | cons t r ih =>
    have ht : (tokC t).length = 4 := rfl
    rw [List.flatMap_cons]
    cases k with
    | zero => rw [List.getElem?_append_left (by omega)]; simp
    | succ k =>
      rw [List.getElem?_append_right (by omega), ht, show (k + 1) * 4 + o - 4 = k * 4 + o by omega, ih k (by simpa using hk)]
      simp
theorem tok_cells {W : World} {B g cap : Nat} {e : TypeId} {d : List (Int × List UInt8 × (Int × Int))} (h : W.ownsRow B e 4 (.slice (some ⟨g, 0, none⟩) d.length cap) d.length (d.flatMap tokC)) {k : Nat} (hk : k < d.length) :
    W.cell? ⟨g, k * 4, none⟩ = some (.int .u8 d[k].1) ∧ W.cell? ⟨g, k * 4 + 1, none⟩ = some (.string ⟨d[k].2.1.toArray⟩) ∧ W.cell? ⟨g, k * 4 + 2, none⟩ = some (.int .i64 d[k].2.2.1) ∧ W.cell? ⟨g, k * 4 + 3, none⟩ = some (.int .i64 d[k].2.2.2) := by
  refine ⟨?_, ?_, ?_, ?_⟩
  · rw [h.cellAt (k * 4) (by omega)]; exact tok_at d k hk 0 (by omega)
  · rw [h.cellAt (k * 4 + 1) (by omega)]; exact tok_at d k hk 1 (by omega)
  · rw [h.cellAt (k * 4 + 2) (by omega)]; exact tok_at d k hk 2 (by omega)
  · rw [h.cellAt (k * 4 + 3) (by omega)]; exact tok_at d k hk 3 (by omega)
set_option maxRecDepth 100000 in
set_option maxHeartbeats 4000000 in
theorem sameTok_is (d : List (Int × List UInt8 × (Int × Int))) (v u : Value) (W : World) (B1 B2 : Nat) (hv : W.ownsRow B1 47 4 v d.length (d.flatMap tokC)) (hu : W.ownsRow B2 67 4 u d.length (d.flatMap tokC)) (hl : d.length ≤ 65536) :
    Calls Try.prog 11 #[v, u] W fun e w' => e = .returned (.bool true) ∧ Below W.heap.size W w' := by
  by_cases h0 : d.length = 0
  · have hd : d = [] := List.length_eq_zero_iff.1 h0
    subst hd
    have e1 : ∃ p c, v = .slice p 0 c := by
      rcases hv.2 with ⟨rfl, _⟩ | ⟨g, cap, cur, rfl, _⟩ <;> exact ⟨_, _, rfl⟩
    have e2 : ∃ p c, u = .slice p 0 c := by
      rcases hu.2 with ⟨rfl, _⟩ | ⟨g, cap, cur, rfl, _⟩ <;> exact ⟨_, _, rfl⟩
    obtain ⟨p, c, rfl⟩ := e1
    obtain ⟨q, c', rfl⟩ := e2
    clear hv hu h0
    go_enter Try.func11, Try.ntmps11
    go_wp2
    refine wp_loop_rounds 1 ?_
    rw [rounds_succ]
    go_wp2
    go_ret
    exact ⟨rfl, Below.refl _ _⟩
  · obtain ⟨g, cap, rfl, _, _⟩ := hv.form (by omega)
    obtain ⟨g', cap', rfl, _, _⟩ := hu.form (by omega)
    have hg := hv.lt g rfl
    have hg' := hu.lt g' rfl
    have hcv : ∀ k, (hk : k < d.length) → ∀ w, Below W.heap.size W w → _ := fun k hk w hb => tok_cells (ownsRow_of hv fun x _ _ hx => hb.block x hx) hk
    have hcu : ∀ k, (hk : k < d.length) → ∀ w, Below W.heap.size W w → _ := fun k hk w hb => tok_cells (ownsRow_of hu fun x _ _ hx => hb.block x hx) hk
    have HCV := Lib.hid hcv; have HCU := Lib.hid hcu
    clear hcv hcu hv hu h0
    go_enter Try.func11, Try.ntmps11
    go_wp2
    go_loopw [5] (fun i wr => ∃ k : Nat, k ≤ d.length ∧ i = .int .i64 k ∧ Below W.heap.size W wr) (fun i _ => d.length - (intOf i).toNat)
    case atStart => exact ⟨0, Nat.zero_le _, rfl, Below.refl _ _⟩
    case round =>
      obtain ⟨k, hk, rfl, hbw⟩ := hrel
      by_cases hlt : k < d.length
      · obtain ⟨a0, a1, a2, a3⟩ := HCV.out k hlt wr hbw
        obtain ⟨b0, b1, b2, b3⟩ := HCU.out k hlt wr hbw
        have e1 : (0 : Int) ≤ (k : Int) := by omega
        have e2 : (k : Int) < (d.length : Int) := by omega
        obtain ⟨kd, hkd⟩ : ∃ x, d[k].1 = x := ⟨_, rfl⟩
        obtain ⟨tx, htx⟩ : ∃ x, d[k].2.1 = x := ⟨_, rfl⟩
        obtain ⟨x, hx⟩ : ∃ x, d[k].2.2.1 = x := ⟨_, rfl⟩
        obtain ⟨y, hy⟩ : ∃ x, d[k].2.2.2 = x := ⟨_, rfl⟩
        rw [hkd] at a0 b0; rw [htx] at a1 b1; rw [hx] at a2 b2; rw [hy] at a3 b3
        clear hkd htx hx hy
        have hsw := hbw.size
        have A0 := Lib.hid a0; have A1 := Lib.hid a1; have A2 := Lib.hid a2; have A3 := Lib.hid a3
        have B0 := Lib.hid b0; have B1 := Lib.hid b1; have B2 := Lib.hid b2; have B3 := Lib.hid b3
        go_wp2_with fail
        go_region_held3 (fun w' => w'.cell? ⟨g, k * 4, none⟩ = some (.int .u8 kd) ∧ w'.cell? ⟨g, k * 4 + 1, none⟩ = some (.string ⟨tx.toArray⟩) ∧ w'.cell? ⟨g, k * 4 + 2, none⟩ = some (.int .i64 x) ∧ w'.cell? ⟨g, k * 4 + 3, none⟩ = some (.int .i64 y) ∧ w'.cell? ⟨g', k * 4, none⟩ = some (.int .u8 kd) ∧ w'.cell? ⟨g', k * 4 + 1, none⟩ = some (.string ⟨tx.toArray⟩) ∧ w'.cell? ⟨g', k * 4 + 2, none⟩ = some (.int .i64 x) ∧ w'.cell? ⟨g', k * 4 + 3, none⟩ = some (.int .i64 y)) (first | go_keep | (simp [*, World.cell?_alloc_some]; done) | (trace_state; fail)) ((go_at_call 8; (with_reducible refine (samePos_same _ _ _).mono ?_); rintro e wz ⟨rfl, hbz⟩; (have hbzz : Below wr.heap.size wr wz := Below.step ((Below.refl _ _).drew) hbz); (have z0 : wz.cell? ⟨g, k * 4, none⟩ = some (.int .u8 kd) := (hbzz.cell (p := ⟨g, _, none⟩) (by simp; omega)).trans A0.out); (have z1 : wz.cell? ⟨g, k * 4 + 1, none⟩ = some (.string ⟨tx.toArray⟩) := (hbzz.cell (p := ⟨g, _, none⟩) (by simp; omega)).trans A1.out); (have z2 : wz.cell? ⟨g, k * 4 + 2, none⟩ = some (.int .i64 x) := (hbzz.cell (p := ⟨g, _, none⟩) (by simp; omega)).trans A2.out); (have z3 : wz.cell? ⟨g, k * 4 + 3, none⟩ = some (.int .i64 y) := (hbzz.cell (p := ⟨g, _, none⟩) (by simp; omega)).trans A3.out); (have y0 : wz.cell? ⟨g', k * 4, none⟩ = some (.int .u8 kd) := (hbzz.cell (p := ⟨g', _, none⟩) (by simp; omega)).trans B0.out); (have y1 : wz.cell? ⟨g', k * 4 + 1, none⟩ = some (.string ⟨tx.toArray⟩) := (hbzz.cell (p := ⟨g', _, none⟩) (by simp; omega)).trans B1.out); (have y2 : wz.cell? ⟨g', k * 4 + 2, none⟩ = some (.int .i64 x) := (hbzz.cell (p := ⟨g', _, none⟩) (by simp; omega)).trans B2.out); (have y3 : wz.cell? ⟨g', k * 4 + 3, none⟩ = some (.int .i64 y) := (hbzz.cell (p := ⟨g', _, none⟩) (by simp; omega)).trans B3.out)))
        go_wp2_with fail
        go_roundw
        case rel => exact ⟨k + 1, by omega, by go_num, Below.step hbw hbzz⟩
        case measure => first | (simp [intOf]; done) | (simp [intOf]; omega)
      · have hkl : k = d.length := by omega
        have e2 : ¬ (k : Int) < (d.length : Int) := by omega
        clear hlt hkl
        go_wp2_with fail
        go_ret
        exact ⟨rfl, hbw⟩
end Go.Proofs.Ytiadflipakjeeaa
