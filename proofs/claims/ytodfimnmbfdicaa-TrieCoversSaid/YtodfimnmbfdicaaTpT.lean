/- What trie's Within and At hand back. Under the conditions that they name. -/
import Derived.Test.YtodfimnmbfdicaaTpS
namespace Go.Proofs.Ytodfimnmbfdicaa
open Go.RowKit Go.Shelf
attribute [local go_sem] Oper.semAt_some
theorem look_all {V : Type} {R : Value → V → Prop} {tm te : TypeId} (ht : Try.prog.underlying tm = some (.map 34 te)) {w : World} {r : Nat} {L : List ((Int × Int) × V)} (h : MapAt R w r L) (k : Int × Int) (z : Value) (hz : ∀ W, (zeroValue te).run Try.prog W = .ok z W) :
    (getL k L = none ∧ ∀ W : World, W.heap = w.heap → (Instr.lookup tm (.map (some r)) (kv k) true).run Try.prog W = .ok (.tuple #[z, .bool false]) W) ∨ (∃ v y, getL k L = some v ∧ R y v ∧ ∀ W : World, W.heap = w.heap → (Instr.lookup tm (.map (some r)) (kv k) true).run Try.prog W = .ok (.tuple #[y, .bool true]) W) := by
  obtain ⟨⟨es, c, h1, h2⟩⟩ := h
  rcases find_is k w h2 with ⟨h3, h4⟩ | ⟨j, e, v0, h3, h4, h5, h6, h7, h8⟩
  · refine .inl ⟨h4, fun W hW => ?_⟩
    have e1 := MapKept.run_getObj_map (P := Try.prog) (w := W) (by rw [hW]; exact h1)
    rcases find_is k W h2 with ⟨k3, k4⟩ | ⟨j', e', v1, k3, k4, k5, k6, k7, k8⟩
    · unfold Instr.lookup
      simp [run_underlying ht, e1, key_ok, k3, hz, go_sem]
    · rw [h4] at k6; cases k6
  · refine .inr ⟨v0, e.val, h6, h7, fun W hW => ?_⟩
    have e1 := MapKept.run_getObj_map (P := Try.prog) (w := W) (by rw [hW]; exact h1)
    rcases find_is k W h2 with ⟨k3, k4⟩ | ⟨j', e', v1, k3, k4, k5, k6, k7, k8⟩
    · rw [h6] at k4; cases k4
    · have hj : j = j' := by
        rcases Nat.lt_trichotomy j j' with hl | hl | hl
        · exact absurd h5 (k8 j e hl h4)
        · exact hl
        · exact absurd k5 (h8 j' e' hl k4)
      subst hj
      rw [h4] at k4
      obtain rfl := Option.some.inj k4
      unfold Instr.lookup
      simp [run_underlying ht, e1, key_ok, k3, go_sem]
theorem within_after {P : Nat → Prop} {W1 w5 w6 : World} {root' : Option Addr} {T : Tr Int} {s : Value} (hnd : Nd_i P w5 root' T) (hb : Below W1.heap.size W1 w5) (h : ∃ X : World, X.heap = w5.heap ∧ s = seqV X.heap.size ∧ w6 = (X.alloc (.cells #[.pointer root'] 68)).alloc (.cells #[.func (.func 35) #[] #[]] 73)) (hos : w6.os = w5.os ∧ w6.tape = w5.tape ∧ w6.output = w5.output) :
    ∃ (g : Nat) (root'' : Option Addr), s = seqV g ∧ W1.heap.size ≤ g ∧ g + 2 ≤ w6.heap.size ∧ SeqA w6 g root'' ∧ Nd_i P w6 root'' T ∧ Below W1.heap.size W1 w6 := by
  obtain ⟨X, hX, rfl, rfl⟩ := h
  obtain ⟨h0, h1⟩ := two_rows X (.cells #[.pointer root'] 68) (.cells #[.func (.func 35) #[] #[]] 73)
  have hbx : Below w5.heap.size w5 ((X.alloc (.cells #[.pointer root'] 68)).alloc (.cells #[.func (.func 35) #[] #[]] 73)) := by
    have h2 : Below X.heap.size X ((X.alloc (.cells #[.pointer root'] 68)).alloc (.cells #[.func (.func 35) #[] #[]] 73)) := ((Below.refl _ _).alloc (Nat.le_refl _) _).alloc (by simp) _
    exact ⟨hos.1, hos.2.1, hos.2.2, by rw [← hX]; exact h2.size, fun k hk => by rw [← hX] at hk ⊢; exact h2.block k hk⟩
  exact ⟨_, root', rfl, by rw [hX]; exact hb.size, by simp, ⟨h0, h1⟩, TrAt.on hbx hnd, Below.step hb hbx⟩
set_option maxRecDepth 100000 in
set_option maxHeartbeats 4000000 in
theorem twi_is (P : Nat → Prop) (t : Nat) (mv : Value) (root : Option Addr) (T : Tr Int) (b m : Int) (w : World) (ht : w.heap[t]? = some (.cells #[mv, .pointer root] 70 (0, 0))) (hok : T.Ok) (hnd : Nd_i P w root T) (hb0 : 0 ≤ b) (hb1 : b < 4294967296) :
    Calls Try.prog 29 #[.pointer (some ⟨t, 0, none⟩), .agg #[.int .u32 b, .int .i64 m]] w fun e w' => ∃ (g : Nat) (root' : Option Addr), e = .returned (seqV g) ∧ w.heap.size ≤ g ∧ g + 2 ≤ w'.heap.size ∧ SeqA w' g root' ∧ Nd_i P w' root' (Tr.under b m T) ∧ Below w.heap.size w w' := by
  obtain ⟨W1, hW1⟩ : ∃ X, w.alloc (.cells #[.int .u32 b, .int .i64 m] 34) = X := ⟨_, rfl⟩
  have hB1 : Below w.heap.size w W1 := by rw [← hW1]; exact (Below.refl _ _).alloc (Nat.le_refl _) _
  have hq1 : W1.heap[w.heap.size]? = some (.cells #[.int .u32 b, .int .i64 m] 34 (0, 0)) := by rw [← hW1]; exact heap_alloc_new w _
  obtain ⟨n0, hn0⟩ : ∃ n0, w.heap.size = n0 := ⟨_, rfl⟩
  rw [hn0] at hq1
  have HB1 := Lib.hid hB1; have HN0 := Lib.hid hn0
  have H33 : Hid (∀ W, Below W1.heap.size W1 W → Calls Try.prog 33 #[.pointer (some ⟨t, 0, none⟩)] W fun e w' => e = .returned (.pointer root) ∧ W = w') := Lib.hid fun W hW => top_is t mv root W ((hW.block t (by have := hB1.size; have := blk_lt ht; omega)).trans ((hB1.block t (blk_lt ht)).trans ht))
  have H48 : Hid (∀ W, Below W1.heap.size W1 W → Calls Try.prog 48 #[.pointer root, .agg #[.int .u32 b, .int .i64 m]] W fun e w' => ∃ root', e = .returned (.pointer root') ∧ Nd_i P w' root' (Tr.under b m T) ∧ Below W.heap.size W w') := Lib.hid fun W hW => under_is P root T b m W hok (TrAt.on hW (TrAt.on hB1 hnd)) hb0 hb1
  have HALL := Lib.hid fun q fn cs W => all_is q fn cs W
  have p0 : W1.cell? ⟨n0, 0, none⟩ = some (.int .u32 b) := row_cell hq1 0
  have p1 : W1.cell? ⟨n0, 1, none⟩ = some (.int .i64 m) := row_cell hq1 1
  clear hB1 hq1 ht hnd hok
  go_enter Try.func29, Try.ntmps29
  go_wp2_with fail
  clear hW1 hn0
  go_cut [4] from 5 to 9 (fun s4 wx => ∃ (g : Nat) (root' : Option Addr), s4 = seqV g ∧ W1.heap.size ≤ g ∧ g + 2 ≤ wx.heap.size ∧ SeqA wx g root' ∧ Nd_i P wx root' (Tr.under b m T) ∧ Below W1.heap.size W1 wx)
  case first =>
    go_region_with (first
      | (go_at_call 33; (with_reducible refine (H33.out _ (by first | exact Below.refl _ _ | exact (Below.refl _ _).drew | exact ((Below.refl _ _).drew).drew)).mono ?_); rintro e w3 ⟨rfl, rfl⟩)
      | (go_at_call 48; (with_reducible refine (H48.out _ (by first | exact Below.refl _ _ | exact (Below.refl _ _).drew | exact ((Below.refl _ _).drew).drew)).mono ?_); rintro e w5 ⟨root', rfl, hnd5, hb5⟩; (have HND5 := Lib.hid hnd5); (have HB5 := Lib.hid (Below.step (by first | exact Below.refl _ _ | exact (Below.refl _ _).drew | exact ((Below.refl _ _).drew).drew : Below W1.heap.size W1 _) hb5)); clear hnd5 hb5)
      | (go_at_call 34; (with_reducible refine (HALL.out _ _ _ _).mono ?_); rintro e w6 ⟨rfl, hw6⟩; (have HW6 := Lib.hid hw6); clear hw6))
    all_goals
      go_wp2_with fail
      go_meet
      exact within_after HND5.out HB5.out ⟨w5, rfl, rfl, HW6.out⟩ (by rw [HW6.out]; exact ⟨rfl, rfl, rfl⟩)
  case rest =>
    obtain ⟨g, root', rfl, h1, h2, h3, h4, h5⟩ := hcut
    have HH := Lib.hid (And.intro h1 (And.intro h2 (And.intro h3 (And.intro h4 h5))))
    clear h1 h2 h3 h4 h5
    go_wp2_with fail
    go_ret
    exact ⟨g, root', rfl, Nat.le_trans HB1.out.size HH.out.1, HH.out.2.1, HH.out.2.2.1, HH.out.2.2.2.1, HB1.out.trans (HH.out.2.2.2.2.mono HB1.out.size)⟩
set_option maxRecDepth 100000 in
set_option maxHeartbeats 4000000 in
theorem at_is (t r : Nat) (L : List Kv) (T : Tr Int) (a n : Int) (w : World) (hT : TabAt_i w t r L T) : Calls Try.prog 27 #[.pointer (some ⟨t, 0, none⟩), .agg #[.int .u32 a, .int .i64 n]] w fun e w' => e = .returned (.tuple #[.int .i64 ((getL (a, n) L).getD 0), .bool (getL (a, n) L).isSome]) ∧ Below w.heap.size w w' := by
  obtain ⟨W1, hW1⟩ : ∃ X, w.alloc (.cells #[.int .u32 a, .int .i64 n] 34) = X := ⟨_, rfl⟩
  have hB1 : Below w.heap.size w W1 := by rw [← hW1]; exact (Below.refl _ _).alloc (Nat.le_refl _) _
  have hq1 : W1.heap[w.heap.size]? = some (.cells #[.int .u32 a, .int .i64 n] 34 (0, 0)) := by rw [← hW1]; exact heap_alloc_new w _
  obtain ⟨n0, hn0⟩ : ∃ n0, w.heap.size = n0 := ⟨_, rfl⟩
  rw [hn0] at hq1
  have hT1 := hT.on hB1
  obtain ⟨root, hrow, _⟩ := hT1.row
  have HB1 := Lib.hid hB1; have HN0 := Lib.hid hn0
  have p0 : W1.cell? ⟨n0, 0, none⟩ = some (.int .u32 a) := row_cell hq1 0
  have p1 : W1.cell? ⟨n0, 1, none⟩ = some (.int .i64 n) := row_cell hq1 1
  have c0 : W1.cell? ⟨t, 0, none⟩ = some (.map (some r)) := row_cell hrow 0
  have hlk := look_all Try.underlying67 hT1.map (a, n) (.pointer none) (fun _ => by kernel_rfl)
  cases hg : getL (a, n) L with
  | none =>
    have hrun : ∀ k : Nat, (Instr.lookup 67 (.map (some r)) (.agg #[.int .u32 a, .int .i64 n]) true).run Try.prog (W1.drewN k) = .ok (.tuple #[.pointer none, .bool false]) (W1.drewN k) := fun k => by
      rcases hlk with ⟨_, h⟩ | ⟨v, y, h, _⟩
      · exact h _ rfl
      · rw [hg] at h; cases h
    clear hlk hT hT1 hrow hq1 hB1 hg
    go_enter Try.func27, Try.ntmps27
    go_wp2_with fail
    clear hW1 hn0
    go_quiet (fail)
    go_wp2_with fail
    go_ret2
    exact ⟨rfl, Below.draws HB1.out _⟩
  | some v =>
    obtain ⟨q, hrun0⟩ : ∃ q : Nat, W1.heap[q]? = some (.cells #[.int .i64 v] 3 (0, 0)) ∧ ∀ k : Nat, (Instr.lookup 67 (.map (some r)) (.agg #[.int .u32 a, .int .i64 n]) true).run Try.prog (W1.drewN k) = .ok (.tuple #[.pointer (some ⟨q, 0, none⟩), .bool true]) (W1.drewN k) := by
      rcases hlk with ⟨h, _⟩ | ⟨v', y, h, ⟨q0, rfl, q, rfl, _, hq⟩, hr0⟩
      · rw [hg] at h; cases h
      · rw [hg] at h
        obtain rfl := Option.some.inj h
        exact ⟨q, hq, fun k => hr0 _ rfl⟩
    obtain ⟨hq, hrun⟩ := hrun0
    have v0 : W1.cell? ⟨q, 0, none⟩ = some (.int .i64 v) := row_cell hq 0
    clear hlk hT hT1 hrow hq1 hB1 hg hq
    go_enter Try.func27, Try.ntmps27
    go_wp2_with fail
    clear hW1 hn0
    go_quiet (fail)
    go_wp2_with fail
    go_ret2
    exact ⟨rfl, Below.draws HB1.out _⟩
end Go.Proofs.Ytodfimnmbfdicaa
