/- What Same of package waymarkref01 answers of two lists that read alike: true. -/
import Derived.Test.YtdjjogcagolcjaaDoorCut3
namespace Go.Proofs.YtdjjogcagolcjaaDoor
open Go.RowKit
/-- The value reads as this list. -/
def Reads (w : World) (v : Value) (l : List (Int × Int)) : Prop := (v = .slice none 0 0 ∧ l = []) ∨ ∃ (g cap : Nat), v = .slice (some ⟨g, 0, none⟩) l.length cap ∧ g < w.heap.size ∧ l.length ≤ cap ∧ ∀ i (h : i < l.length), w.cell? ⟨g, i * 2, none⟩ = some (.int .u32 (l[i]).1) ∧ w.cell? ⟨g, i * 2 + 1, none⟩ = some (.int .i64 (l[i]).2)
theorem Reads.on {w w' : World} {v : Value} {l : List (Int × Int)} (h : Reads w v l) (hb : Below w.heap.size w w') : Reads w' v l := by
  rcases h with h | ⟨g, cap, h1, h2, h3, h4⟩
  · exact .inl h
  · exact .inr ⟨g, cap, h1, Nat.lt_of_lt_of_le h2 hb.size, h3, fun i hi => ⟨(hb.cell (p := ⟨g, i * 2, none⟩) h2).trans (h4 i hi).1, (hb.cell (p := ⟨g, i * 2 + 1, none⟩) h2).trans (h4 i hi).2⟩⟩
theorem reads_of_owns {w : World} {b : Nat} {v : Value} {l : List (Int × Int)} (h : w.ownsRow b 30 2 v l.length (flat l)) : Reads w v l := by
  have hlt := h.lt
  have hcells : ∀ {g : Nat}, v.ownBlock = some g → ∀ j u, (flat l)[j]? = some u → w.cell? ((⟨g, 0, none⟩ : Addr).add j) = some u := fun hg => h.cells hg
  rcases h.2 with ⟨h1, h2⟩ | ⟨g, cap, cur, rfl, hg, hh, hc, rest⟩
  · exact .inl ⟨h1, List.eq_nil_of_length_eq_zero h2⟩
  · refine .inr ⟨g, cap, rfl, (hlt g rfl).2, hc, fun i hi => ?_⟩
    have h5 := flat_at l i hi
    have h6 := hcells (g := g) rfl _ _ h5.1
    have h7 := hcells (g := g) rfl _ _ h5.2
    rw [Addr.add_lit, Nat.zero_add] at h6 h7
    exact ⟨h6, h7⟩
set_option maxHeartbeats 400000 in
theorem same_nil (w : World) :
    Calls Tryd.prog 26 #[.slice none 0 0, .slice none 0 0] w fun e w' => e = .returned (.bool true) ∧ Below w.heap.size w w' := by
  go_enter Tryd.func26, Tryd.ntmps26
  go_wp2
  refine wp_loop_rounds 1 ?_
  rw [rounds_succ]
  go_wp2
  go_ret
  exact ⟨rfl, Below.refl _ _⟩
set_option maxRecDepth 100000 in
set_option maxHeartbeats 400000 in
theorem same_rows (l : List (Int × Int)) (g cap g' cap' : Nat) (w : World) (hl : l.length ≤ 9223372036854775807) (hg : g < w.heap.size) (hg' : g' < w.heap.size) (hc : l.length ≤ cap) (hc' : l.length ≤ cap')
    (r : ∀ i (h : i < l.length), w.cell? ⟨g, i * 2, none⟩ = some (.int .u32 (l[i]).1) ∧ w.cell? ⟨g, i * 2 + 1, none⟩ = some (.int .i64 (l[i]).2))
    (r' : ∀ i (h : i < l.length), w.cell? ⟨g', i * 2, none⟩ = some (.int .u32 (l[i]).1) ∧ w.cell? ⟨g', i * 2 + 1, none⟩ = some (.int .i64 (l[i]).2)) :
    Calls Tryd.prog 26 #[.slice (some ⟨g, 0, none⟩) l.length cap, .slice (some ⟨g', 0, none⟩) l.length cap'] w fun e w' => e = .returned (.bool true) ∧ Below w.heap.size w w' := by
  have R := Lib.hid r
  have R' := Lib.hid r'
  clear r r'
  go_enter Tryd.func26, Tryd.ntmps26
  go_wp2_with fail
  go_loopw [5] (fun s5 wr => ∃ k : Nat, k ≤ l.length ∧ s5 = .int .i64 k ∧ Below w.heap.size w wr) (fun s5 _ => l.length - (intOf s5).toNat)
  case atStart => exact ⟨0, by omega, rfl, Below.refl _ _⟩
  case round =>
    obtain ⟨k, hk, rfl, hbw⟩ := hrel
    by_cases hlt : k < l.length
    · obtain ⟨x, hx⟩ : ∃ x, (l[k]'hlt).1 = x := ⟨_, rfl⟩
      obtain ⟨y, hy⟩ : ∃ y, (l[k]'hlt).2 = y := ⟨_, rfl⟩
      have c0 : wr.cell? ⟨g, k * 2, none⟩ = some (.int .u32 x) := (hbw.cell (p := ⟨g, k * 2, none⟩) hg).trans (by rw [← hx]; exact (R.out k hlt).1)
      have c1 : wr.cell? ⟨g, k * 2 + 1, none⟩ = some (.int .i64 y) := (hbw.cell (p := ⟨g, k * 2 + 1, none⟩) hg).trans (by rw [← hy]; exact (R.out k hlt).2)
      have d0 : wr.cell? ⟨g', k * 2, none⟩ = some (.int .u32 x) := (hbw.cell (p := ⟨g', k * 2, none⟩) hg').trans (by rw [← hx]; exact (R'.out k hlt).1)
      have d1 : wr.cell? ⟨g', k * 2 + 1, none⟩ = some (.int .i64 y) := (hbw.cell (p := ⟨g', k * 2 + 1, none⟩) hg').trans (by rw [← hy]; exact (R'.out k hlt).2)
      clear hx hy
      go_wp2_with fail
      go_quiet (fail)
      go_wp2_with fail
      go_roundw
      case rel => exact ⟨k + 1, by omega, by go_num, Below.draws hbw _⟩
      case measure => simp [intOf]; omega
    · have hkl : k = l.length := by omega
      subst hkl
      clear hlt
      go_wp2_with fail
      go_ret
      exact ⟨rfl, hbw⟩
theorem same_true (l : List (Int × Int)) (v v' : Value) (w : World) (hl : l.length ≤ 9223372036854775807) (hne : l ≠ []) (r : Reads w v l) (r' : Reads w v' l) :
    Calls Tryd.prog 26 #[v, v'] w fun e w' => e = .returned (.bool true) ∧ Below w.heap.size w w' := by
  rcases r with ⟨_, h⟩ | ⟨g, cap, rfl, h2, h3, h4⟩
  · exact absurd h hne
  · rcases r' with ⟨_, h⟩ | ⟨g', cap', rfl, h2', h3', h4'⟩
    · exact absurd h hne
    · exact same_rows l g cap g' cap' w hl h2 h2' h3 h3' h4 h4'
theorem Cuts.ne {e f : Int} {l : List (Int × Int)} (h : Cuts e f l) (hlt : f < e) : l ≠ [] := by
  cases h with
  | nil => omega
  | cons n l _ _ _ => exact List.cons_ne_nil _ _
/-- No more prefixes than addresses. -/
theorem Cuts.le {e f : Int} {l : List (Int × Int)} (h : Cuts e f l) : f ≤ e ∧ (l.length : Int) ≤ e - f := by
  induction h with
  | nil => simp
  | cons f n l hlt hs _ ih =>
    have := pw_pos n
    simp only [List.length_cons]
    omega
end Go.Proofs.YtdjjogcagolcjaaDoor
