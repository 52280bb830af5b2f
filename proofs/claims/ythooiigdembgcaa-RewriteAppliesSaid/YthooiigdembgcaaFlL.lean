/- The law FilterDecides: it answers true; what was there stands. No condition but that what is handed in is of its kind. -/
import Derived.Test.YthooiigdembgcaaFlQ
import Derived.Deep.RegionHeld3
import Derived.Deep.DeepCutAuto
import Derived.BigQuiet
import Derived.Laws.Rows
import Derived.Deep.AppendLies
namespace Go.Proofs.Ythooiigdembgcaa
open Go.RowKit
theorem encR_len (r : RuleD) : (encR r).length = 10 := rfl
theorem encR_one (r : RuleD) : ∀ u ∈ encR r, u.oneCell' = true := by
  intro u hu
  simp only [encR, List.mem_cons, List.not_mem_nil, or_false] at hu
  rcases hu with rfl | rfl | rfl | rfl | rfl | rfl | rfl | rfl | rfl | rfl <;> rfl
theorem infoR : (Try.prog.info? 33).map (fun i => (i.zero, i.size, i.bytes)) = some (some (.agg #[.bool false, .int .i64 0, .int .u32 0, .int .i64 0, .int .u32 0, .int .i64 0, .int .u32 0, .int .u32 0, .int .u32 0, .int .u32 0]), 10, 64) := by kernel_rfl
theorem RdR.take {w : World} {p : Option Addr} {n c m : Nat} {l : List RuleD} (h : RdR w (.slice p n c) l) (hm : m ≤ n) : RdR w (.slice p m c) (l.take m) := ⟨h.rd.take hm, fun r hr => h.ok r (List.mem_of_mem_take hr)⟩
theorem ownBlock_len (p : Option Addr) (a b c : Nat) : (Value.slice p a c).ownBlock = (Value.slice p b c).ownBlock := by cases p <;> rfl
theorem ownsRow_of {w w' : World} {b : Nat} {e : TypeId} {k : Nat} {v : Value} {n : Nat} {xs : List Value} (h : w.ownsRow b e k v n xs) (hk : ∀ g, v.ownBlock = some g → b ≤ g → g < w.heap.size → w'.heap[g]? = w.heap[g]?) : w'.ownsRow b e k v n xs := by
  have hlt := h.lt
  refine ⟨h.1, ?_⟩
  rcases h.2 with hn | ⟨g, cap, cur, rfl, hg, hh, rest⟩
  · exact .inl hn
  · have := hlt g rfl
    exact .inr ⟨g, cap, cur, rfl, hg, by rw [hk g rfl this.1 this.2]; exact hh, rest⟩
theorem heap_setCell {w : World} {g o : Nat} {cur : Array Value} {e : TypeId} {f : Nat × Nat} (v : Value) (h : w.heap[g]? = some (.cells cur e f)) : (w.setCell ⟨g, o, none⟩ v).heap[g]? = some (.cells (cur.setIfInBounds o v) e f) := by
  unfold World.setCell
  simp [Array.getElem?_modify, h]
theorem own_at0 {W : World} {x : Obj} {n : Nat} (h : W.heap.size = n) : (W.alloc x).drew.heap[n]? = some x := by rw [← h]; exact heap_new _ _
theorem own_at1 {W : World} {x y : Obj} {n : Nat} (h : W.heap.size = n) : ((W.alloc x).alloc y).drew.heap[n]? = some x := by
  rw [← h]; exact (heap_alloc _ (by simp)).trans (heap_new _ _)
theorem own_at2 {W : World} {x y : Obj} {n : Nat} (h : W.heap.size = n) : ((W.alloc y).alloc x).drew.heap[n + 1]? = some x := by
  have e : ((W.alloc y).alloc x).heap[W.heap.size + 1]? = some x := by simpa using heap_new (W.alloc y) x
  rw [← h]
  exact e
theorem close_a {W1 w9 : World} {nm : ByteArray} {p9 : Option Addr} {c9 : Nat} {l : List RuleD} (hB : Below W1.heap.size W1 w9) (ho : w9.ownsRow W1.heap.size 33 10 (.slice p9 l.length c9) l.length (flatK encR l)) (hok : ∀ r ∈ l, r.ok) :
    ∃ g v9, Value.pointer (some ⟨w9.heap.size, 0, none⟩) = .pointer (some ⟨g, 0, none⟩) ∧ (w9.alloc (.cells #[.string nm, .slice p9 l.length c9] 24)).heap[g]? = some (.cells #[.string nm, v9] 24 (0, 0)) ∧ RdR (w9.alloc (.cells #[.string nm, .slice p9 l.length c9] 24)) v9 l ∧ Below W1.heap.size W1 (w9.alloc (.cells #[.string nm, .slice p9 l.length c9] 24)) :=
  ⟨_, _, rfl, heap_new _ _, ⟨(RdK.of_own encR_len ho).below ((Below.refl _ _).alloc (Nat.le_refl _) _), hok⟩, hB.alloc hB.size _⟩
theorem close_b {W1 w9 : World} {nm : ByteArray} {p9 : Option Addr} {c9 g : Nat} {l : List RuleD} (hB : Below W1.heap.size W1 w9) (ho : w9.ownsRow W1.heap.size 33 10 (.slice p9 l.length c9) l.length (flatK encR l)) (hok : ∀ r ∈ l, r.ok)
    (hx : w9.heap[g]? = some (.cells #[.string ⟨#[]⟩, .slice none 0 0] 24 (0, 0))) (hg : W1.heap.size ≤ g) (hne : ∀ x, (Value.slice p9 l.length c9).ownBlock = some x → x ≠ g) :
    ∃ g' v9, Value.pointer (some ⟨g, 0, none⟩) = .pointer (some ⟨g', 0, none⟩) ∧ ((w9.setCell ⟨g, 0, none⟩ (.string nm)).setCell ⟨g, 1, none⟩ (.slice p9 l.length c9)).heap[g']? = some (.cells #[.string nm, v9] 24 (0, 0)) ∧ RdR ((w9.setCell ⟨g, 0, none⟩ (.string nm)).setCell ⟨g, 1, none⟩ (.slice p9 l.length c9)) v9 l ∧ Below W1.heap.size W1 ((w9.setCell ⟨g, 0, none⟩ (.string nm)).setCell ⟨g, 1, none⟩ (.slice p9 l.length c9)) := by
  refine ⟨_, _, rfl, heap_setCell _ (heap_setCell _ hx), ⟨RdK.of_own encR_len (ownsRow_of ho fun x h1 _ _ => ?_), hok⟩, (hB.setCell (p := ⟨g, 0, none⟩) hg _).setCell (p := ⟨g, 1, none⟩) hg _⟩
  rw [Below.heap_setCell _ _ _ _ (hne x h1), Below.heap_setCell _ _ _ _ (hne x h1)]
theorem cell_far2 {W : World} {b o g i j : Nat} {v x y : Value} (h : W.cell? ⟨b, o, none⟩ = some v) (hne : b ≠ g) : ((W.setCell ⟨g, i, none⟩ x).setCell ⟨g, j, none⟩ y).cell? ⟨b, o, none⟩ = some v := by
  rw [← h]
  have e1 := Below.heap_setCell W ⟨g, i, none⟩ x b hne
  have e2 := Below.heap_setCell (W.setCell ⟨g, i, none⟩ x) ⟨g, j, none⟩ y b hne
  simp only [World.cell?, e2, e1]
theorem own_slice {w : World} {b : Nat} {e : TypeId} {k : Nat} {v : Value} {n : Nat} {xs : List Value} (h : w.ownsRow b e k v n xs) : ∃ p c, v = .slice p n c := by
  rcases h.2 with ⟨rfl, rfl⟩ | ⟨g, cap, cur, rfl, _⟩
  · exact ⟨_, _, rfl⟩
  · exact ⟨_, _, rfl⟩
theorem grown_all {W1 W w9 : World} {g : Nat} {v : Value} (hb : Below W1.heap.size W1 W) (h : W.grownBy w9 v.ownBlock) (hv : v.ownBlock = some g) (hg : W1.heap.size ≤ g) : (∀ b o, b < W.heap.size → b ≠ g → w9.cell? ⟨b, o, none⟩ = W.cell? ⟨b, o, none⟩) ∧ (∀ b o, b < W.heap.size → b ≠ g → w9.frozen? ⟨b, o, none⟩ = W.frozen? ⟨b, o, none⟩) ∧ (∀ b o, b < W1.heap.size → w9.cell? ⟨b, o, none⟩ = W1.cell? ⟨b, o, none⟩) ∧ (∀ b, b < W.heap.size → b ≠ g → w9.heap[b]? = W.heap[b]?) ∧ W.heap.size ≤ w9.heap.size ∧ Below W1.heap.size W1 w9 := by
  rw [hv] at h
  have h1 : ∀ b o, b < W.heap.size → b ≠ g → w9.cell? ⟨b, o, none⟩ = W.cell? ⟨b, o, none⟩ := fun b o h1 h2 => by
    have := h.block b h1 (fun e => h2 (Option.some.inj e))
    simp only [World.cell?, this]
  refine ⟨h1, fun b o h1 h2 => ?_, fun b o h2 => ?_, fun b h1 h2 => h.block b h1 (fun e => h2 (Option.some.inj e)), h.size, ?_⟩
  · have := h.block b h1 (fun e => h2 (Option.some.inj e))
    simp only [World.frozen?, this]
  · exact (h1 b o (by have := hb.size; omega) (by omega)).trans (hb.cell (p := ⟨b, o, none⟩) h2)
  · refine hb.trans ⟨h.os, h.tape, h.output, ?_, fun b hlt => ?_⟩
    · have := h.size; have := hb.size; omega
    · exact h.block b (by have := hb.size; omega) (fun e => by have := Option.some.inj e; omega)
set_option maxRecDepth 100000 in
set_option maxHeartbeats 8000000 in
theorem fd_is (nm : ByteArray) (v : Value) (l : List RuleD) (u : Value) (asks : List HdrD) (r : RuleD) (w : World) (hr : RdR w v l) (hs : RdK encH 5 w u asks) (hso : ∀ h ∈ asks, h.ok) (hro : r.ok) :
    Calls Try.prog 3 #[.agg #[.string nm, v], u, vR r] w fun e w' => e = .returned (.bool true) ∧ Below w.heap.size w w' := by
  obtain ⟨p, c, rfl, hlc, hcm, _⟩ := hr.rd.sl
  obtain ⟨q, d, rfl, had, hdm, hq⟩ := hs.sl
  have HQ := Lib.hid hq
  have HSO := Lib.hid hso
  have HRO := Lib.hid hro
  have HR := Lib.hid hr
  clear hq hso hro hr hs
  unfold maxLen at hcm hdm
  obtain ⟨perm, proto, sa, sn, da, dn, sl, sh, dl, dh⟩ := r
  show Calls _ _ #[_, _, .agg #[.bool perm, .int .i64 proto, .int .u32 sa, .int .i64 sn, .int .u32 da, .int .i64 dn, .int .u32 sl, .int .u32 sh, .int .u32 dl, .int .u32 dh]] _ _
  obtain ⟨W1, hW1⟩ : ∃ W1, (w.alloc (.cells #[.string nm, .slice p l.length c] 24)).alloc (.cells #[.bool perm, .int .i64 proto, .int .u32 sa, .int .i64 sn, .int .u32 da, .int .i64 dn, .int .u32 sl, .int .u32 sh, .int .u32 dl, .int .u32 dh] 33) = W1 := ⟨_, rfl⟩
  have hb1 : Below w.heap.size w W1 := by rw [← hW1]; exact ((Below.refl _ _).alloc (Nat.le_refl _) _).alloc (by simp) _
  have hz1 : W1.heap.size = w.heap.size + 1 + 1 := by rw [← hW1]; simp
  have hF1 : W1.heap[w.heap.size]? = some (.cells #[.string nm, .slice p l.length c] 24 (0, 0)) := by
    rw [← hW1, heap_alloc _ (by simp)]; exact heap_new _ _
  have hR1 : W1.heap[w.heap.size + 1]? = some (.cells #[.bool perm, .int .i64 proto, .int .u32 sa, .int .i64 sn, .int .u32 da, .int .i64 dn, .int .u32 sl, .int .u32 sh, .int .u32 dl, .int .u32 dh] 33 (0, 0)) := by
    rw [← hW1]
    have := heap_new (w.alloc (.cells #[.string nm, .slice p l.length c] 24)) (.cells #[.bool perm, .int .i64 proto, .int .u32 sa, .int .i64 sn, .int .u32 da, .int .i64 dn, .int .u32 sl, .int .u32 sh, .int .u32 dl, .int .u32 dh] 33)
    simpa using this
  have f0 : W1.cell? ⟨w.heap.size, 0, none⟩ = some (.string nm) := by rw [cell_of_heap hF1]; rfl
  have f1 : W1.cell? ⟨w.heap.size, 1, none⟩ = some (.slice p l.length c) := by rw [cell_of_heap hF1]; rfl
  have z1 : W1.frozen? ⟨w.heap.size, 1, none⟩ = false := by simp [World.frozen?, hF1]
  have HB1 := Lib.hid hb1; have HZ1 := Lib.hid hz1; have HF1 := Lib.hid hF1; have HR1 := Lib.hid hR1
  clear hb1 hz1 hF1 hR1
  by_cases hlong : 300 < l.length
  · have hl1 : (300 : Int) < (l.length : Int) := by omega
    have hl2 : ¬ (c : Int) < 300 := by omega
    have hl3 : ¬ (300 : Int) > (c : Int) := by omega
    obtain ⟨W2, hW2⟩ : ∃ W2, W1.setCell ⟨w.heap.size, 1, none⟩ (.slice p 300 c) = W2 := ⟨_, rfl⟩
    go_enter Try.func3, Try.ntmps3
    go_wp2_with fail
    clear f0 f1 z1 hl1 hl2 hl3
    obtain ⟨l', hl'⟩ : ∃ l', l.take 300 = l' := ⟨_, rfl⟩
    have hlen : l'.length ≤ 300 := by rw [← hl', List.length_take]; omega
    have HB2 : Hid (Below w.heap.size w W2) := Lib.hid (by rw [← hW2]; exact HB1.out.setCell (p := ⟨w.heap.size, 1, none⟩) (Nat.le_refl _) _)
    have HZ2 : Hid (W2.heap.size = w.heap.size + 1 + 1) := Lib.hid (by rw [← hW2]; exact Eq.trans (by simp [World.setCell]) HZ1.out)
    have HF2 : Hid (W2.heap[w.heap.size]? = some (.cells #[.string nm, .slice p 300 c] 24 (0, 0))) := Lib.hid (by rw [← hW2]; exact heap_setCell _ HF1.out)
    have HR1x := Lib.hid (show W2.heap[w.heap.size + 1]? = some (.cells #[.bool perm, .int .i64 proto, .int .u32 sa, .int .i64 sn, .int .u32 da, .int .i64 dn, .int .u32 sl, .int .u32 sh, .int .u32 dl, .int .u32 dh] 33 (0, 0)) from by rw [← hW2]; exact (Below.heap_setCell W1 ⟨w.heap.size, 1, none⟩ _ (w.heap.size + 1) (by simp)).trans HR1.out)
    have HR2 : Hid (RdR W2 (.slice p 300 c) l') := Lib.hid (by rw [← hl']; exact (HR.out.take (by omega)).below HB2.out)
    have f0 : W2.cell? ⟨w.heap.size, 0, none⟩ = some (.string nm) := by rw [cell_of_heap HF2.out]; rfl
    have f1 : W2.cell? ⟨w.heap.size, 1, none⟩ = some (.slice p 300 c) := by rw [cell_of_heap HF2.out]; rfl
    clear hW2 hl' hlong
    have HRD : Hid (∀ W, Below W2.heap.size W2 W → RdK encR 10 W (.slice p 300 c) l') := Lib.hid fun W hb => (HR2.out.below hb).rd
    have hz2 := HZ2.out
    go_cut [7] (fun a7 wx => ∃ g v9, a7 = .pointer (some ⟨g, 0, none⟩) ∧ wx.heap[g]? = some (.cells #[.string nm, v9] 24 (0, 0)) ∧ RdR wx v9 l' ∧ Below W2.heap.size W2 wx)
    case first =>
      go_wp2_with fail
      go_region_held3 (fun w' => w'.cell? ⟨w.heap.size, 0, none⟩ = some (.string nm) ∧ w'.cell? ⟨w.heap.size, 1, none⟩ = some (.slice p 300 c)) (first | (exact ⟨cell_far2 y0 (by omega), cell_far2 y1 (by omega)⟩) | go_keep | (simp [*, World.cell?_alloc_some]; done) | (trace_state; fail)) (first
        | ((refine step_append_rdk (enc := encR) encR_len (by decide) encR_one rfl (.tmp 24) (.tmp 26) 22 33 rfl _ 64 Try.underlying22 rfl infoR W2.heap.size (.slice (some ⟨w.heap.size + 1 + 1, 0, none⟩) 0 0) 0 [] (by first | rfl | (simp only [← hz2]; rfl)) (own_empty (by first | exact own_at0 hz2 | exact own_at1 hz2 | exact own_at2 hz2) (by omega)) _ l' rfl (HRD.out _ (by go_grown)) (by unfold maxLen; omega) (by omega) (by first | (simp; done) | (simp; omega)) ?_); intro v9 w9 hown9 hgr9 hor9; obtain ⟨hc9, hf9, hd9, hh9, hs9, hB9⟩ := grown_all (W1 := W2) (g := w.heap.size + 1 + 1) (by go_grown) hgr9 rfl (by omega); obtain ⟨p9, c9, rfl⟩ := own_slice hown9; have y0 := (hd9 w.heap.size 0 (by omega)).trans f0; have y1 := (hd9 w.heap.size 1 (by omega)).trans f1)
        | ((refine step_append_rdk (enc := encR) encR_len (by decide) encR_one rfl (.tmp 24) (.tmp 26) 22 33 rfl _ 64 Try.underlying22 rfl infoR W2.heap.size (.slice (some ⟨w.heap.size + 1 + 1 + 1, 0, none⟩) 0 0) 0 [] (by first | rfl | (simp only [← hz2]; rfl)) (own_empty (by first | exact own_at0 hz2 | exact own_at1 hz2 | exact own_at2 hz2) (by omega)) _ l' rfl (HRD.out _ (by go_grown)) (by unfold maxLen; omega) (by omega) (by first | (simp; done) | (simp; omega)) ?_); intro v9 w9 hown9 hgr9 hor9; obtain ⟨hc9, hf9, hd9, hh9, hs9, hB9⟩ := grown_all (W1 := W2) (g := w.heap.size + 1 + 1 + 1) (by go_grown) hgr9 rfl (by omega); obtain ⟨p9, c9, rfl⟩ := own_slice hown9; have y0 := (hd9 w.heap.size 0 (by omega)).trans f0; have y1 := (hd9 w.heap.size 1 (by omega)).trans f1))
      all_goals
        have ho9 : World.ownsRow w9 W2.heap.size 33 10 (.slice p9 l'.length c9) l'.length (flatK encR l') := by simpa using hown9
        go_wp2_with fail
        go_meet
        first
          | exact close_a hB9 ho9 HR2.out.ok
          | exact close_b hB9 ho9 HR2.out.ok ((hh9 _ (by simp; omega) (by omega)).trans (by first | exact own_at0 hz2 | exact own_at1 hz2 | exact own_at2 hz2)) (by omega) (fun x hx => by rcases hor9 with h | h <;> (rw [ownBlock_len p9 _ l'.length c9, hx] at h; have h := Option.some.inj h; first | omega | (simp at h; omega)))
    case rest =>
      obtain ⟨g, v9, rfl, hx9, hr9, hb9⟩ := hcut
      obtain ⟨p9, c9, rfl, hlc9, hcm9, _⟩ := hr9.rd.sl
      unfold maxLen at hcm9
      have hzc := hb9.size
      have hgc : g < wc.heap.size := (Array.getElem?_eq_some_iff.1 hx9).1
      have hFc := (hb9.block w.heap.size (by omega)).trans HF2.out
      have hRc := (hb9.block (w.heap.size + 1) (by omega)).trans HR1x.out
      have HCF : Hid (∀ W, Below wc.heap.size wc W → (W.cell? ⟨g, 0, none⟩ = some (.string nm) ∧ W.cell? ⟨g, 1, none⟩ = some (.slice p9 l'.length c9)) ∧ (W.cell? ⟨w.heap.size, 0, none⟩ = some (.string nm) ∧ W.cell? ⟨w.heap.size, 1, none⟩ = some (.slice p 300 c))) := Lib.hid fun W hb => by
        have e1 := (hb.block g hgc).trans hx9
        have e2 := (hb.block w.heap.size (by omega)).trans hFc
        refine ⟨⟨?_, ?_⟩, ?_, ?_⟩ <;> (first | rw [cell_of_heap e1] | rw [cell_of_heap e2]) <;> rfl
      have HCR : Hid (∀ W, Below wc.heap.size wc W → W.cell? ⟨w.heap.size + 1, 0, none⟩ = some (.bool perm) ∧ W.cell? ⟨w.heap.size + 1, 1, none⟩ = some (.int .i64 proto) ∧ W.cell? ⟨w.heap.size + 1, 2, none⟩ = some (.int .u32 sa) ∧ W.cell? ⟨w.heap.size + 1, 3, none⟩ = some (.int .i64 sn) ∧ W.cell? ⟨w.heap.size + 1, 4, none⟩ = some (.int .u32 da) ∧ W.cell? ⟨w.heap.size + 1, 5, none⟩ = some (.int .i64 dn) ∧ W.cell? ⟨w.heap.size + 1, 6, none⟩ = some (.int .u32 sl) ∧ W.cell? ⟨w.heap.size + 1, 7, none⟩ = some (.int .u32 sh) ∧ W.cell? ⟨w.heap.size + 1, 8, none⟩ = some (.int .u32 dl) ∧ W.cell? ⟨w.heap.size + 1, 9, none⟩ = some (.int .u32 dh)) := Lib.hid fun W hb => by
        have e3 := (hb.block (w.heap.size + 1) (by omega)).trans hRc
        rw [cell_of_heap e3, cell_of_heap e3, cell_of_heap e3, cell_of_heap e3, cell_of_heap e3, cell_of_heap e3, cell_of_heap e3, cell_of_heap e3, cell_of_heap e3, cell_of_heap e3]
        exact ⟨rfl, rfl, rfl, rfl, rfl, rfl, rfl, rfl, rfl, rfl⟩
      have HWC := Lib.hid (Below.step HB2.out hb9)
      have HRO9 := Lib.hid (HR2.out.below hb9)
      have HR9 := Lib.hid hr9
      have HGC := Lib.hid hgc
      obtain ⟨c0, hc0⟩ : ∃ c, ckF l' = c := ⟨_, rfl⟩
      have HCK : Hid (∀ W, Below wc.heap.size wc W → Calls Try.prog 5 #[.agg #[.string nm, .slice p 300 c]] W fun e w' => e = .returned (.int .i64 c0) ∧ Below W.heap.size W w') := Lib.hid fun W hb => by rw [← hc0]; exact rcheck_f nm _ _ W (HRO9.out.below hb)
      have HCO : Hid (∀ W, Below wc.heap.size wc W → Calls Try.prog 6 #[.agg #[.string nm, .slice p9 l'.length c9]] W fun e w' => e = .returned (.int .i64 c0) ∧ Below W.heap.size W w') := Lib.hid fun W hb => by rw [← hc0]; exact check_f nm _ _ W (HR9.out.below hb)
      obtain ⟨⟨g0, g1⟩, f0, f1⟩ := HCF.out wc (Below.refl _ _)
      have hcc : (c0 != c0) = false := by simp
      have HC0 := Lib.hid hc0
      have HZC := Lib.hid hzc
      clear hx9 hr9 hb9 hzc hgc hFc hRc hc0
      go_wp2_with fail
      go_at_call 5
      (with_reducible refine (HCK.out _ (Below.refl _ _)).mono ?_)
      rintro e w4 ⟨rfl, hb4⟩
      have HB4 := Lib.hid hb4
      clear hb4 g0 g1 f0 f1
      obtain ⟨⟨g0, g1⟩, f0, f1⟩ := HCF.out w4 HB4.out
      go_wp2_with fail
      go_at_call 6
      (with_reducible refine (HCO.out _ HB4.out).mono ?_)
      rintro e w5 ⟨rfl, hb5⟩
      have HB5 := Lib.hid (Below.step HB4.out hb5)
      clear hb5 g0 g1 f0 f1 HB4
      go_wp2_with fail
      by_cases hcz : c0 = 0
      · have hcn : (c0 != 0) = false := by simpa using hcz
        have HC00 : Hid (ckF l' = 0) := Lib.hid (by rw [HC0.out]; exact hcz)
        subst hcz
        go_loopw [9] (fun i wr => ∃ k : Nat, k ≤ asks.length ∧ i = .int .i64 k ∧ Below wc.heap.size wc wr) (fun i _ => asks.length - (intOf i).toNat)
        case atStart => exact ⟨0, Nat.zero_le _, rfl, HB5.out⟩
        case round =>
          obtain ⟨k, hk, rfl, hbk⟩ := hrel
          have HBK := Lib.hid hbk
          have HWK := Lib.hid (Below.step HWC.out hbk)
          clear hbk
          by_cases hgo : k < asks.length ∧ k < 30
          · obtain ⟨hlt, h30⟩ := hgo
            obtain ⟨h, hs⟩ : ∃ h, asks[k]? = some h := ⟨_, List.getElem?_eq_getElem hlt⟩
            obtain ⟨b, o, rfl, hbs, hc⟩ := HQ.out k h hs
            have hok := HSO.out h (List.mem_of_getElem? hs)
            have e1 : (0 : Int) ≤ (k : Int) := by omega
            have e2 : (k : Int) < (asks.length : Int) := by omega
            have e3 : (k : Int) < 30 := by omega
            obtain ⟨z, hz⟩ : ∃ z, decI l' h = z := ⟨_, rfl⟩
            obtain ⟨ib, hib⟩ : ∃ z, prmB l' h = z := ⟨_, rfl⟩
            obtain ⟨fb, hfb⟩ : ∃ z, fitB ⟨perm, proto, sa, sn, da, dn, sl, sh, dl, dh⟩ h = z := ⟨_, rfl⟩
            obtain ⟨src, dst, pr, sp, dp⟩ := h
            have HHC : Hid (∀ W, Below wc.heap.size wc W → W.cell? ⟨b, o + k * 5, none⟩ = some (.int .u32 src) ∧ W.cell? ⟨b, o + k * 5 + 1, none⟩ = some (.int .u32 dst) ∧ W.cell? ⟨b, o + k * 5 + 2, none⟩ = some (.int .u8 pr) ∧ W.cell? ⟨b, o + k * 5 + 3, none⟩ = some (.int .u16 sp) ∧ W.cell? ⟨b, o + k * 5 + 4, none⟩ = some (.int .u16 dp)) := Lib.hid fun W hb => by
              have hw := Below.step HWC.out hb
              exact ⟨hc W hw 0 _ rfl, hc W hw 1 _ rfl, hc W hw 2 _ rfl, hc W hw 3 _ rfl, hc W hw 4 _ rfl⟩
            have HD : Hid (∀ W, Below wc.heap.size wc W → Calls Try.prog 7 #[.agg #[.string nm, .slice p9 l'.length c9], .agg #[.int .u32 src, .int .u32 dst, .int .u8 pr, .int .u16 sp, .int .u16 dp]] W fun e w' => e = .returned (.tuple #[.int .i64 z, .int .i64 0]) ∧ Below W.heap.size W w') := Lib.hid fun W hb => by rw [← hz]; exact decides_ok nm _ _ _ W (HR9.out.below hb) hok HC00.out
            have HP : Hid (∀ W, Below wc.heap.size wc W → Calls Try.prog 8 #[.agg #[.string nm, .slice p9 l'.length c9], .agg #[.int .u32 src, .int .u32 dst, .int .u8 pr, .int .u16 sp, .int .u16 dp]] W fun e w' => e = .returned (.tuple #[.bool ib, .int .i64 0]) ∧ Below W.heap.size W w') := Lib.hid fun W hb => by rw [← hib]; exact permits_ok nm _ _ _ W (HR9.out.below hb) hok HC00.out
            have HF : Hid (∀ W, Below wc.heap.size wc W → Calls Try.prog 9 #[.agg #[.bool perm, .int .i64 proto, .int .u32 sa, .int .i64 sn, .int .u32 da, .int .i64 dn, .int .u32 sl, .int .u32 sh, .int .u32 dl, .int .u32 dh], .agg #[.int .u32 src, .int .u32 dst, .int .u8 pr, .int .u16 sp, .int .u16 dp]] W fun e w' => e = .returned (.bool fb) ∧ Below W.heap.size W w') := Lib.hid fun W hb => by rw [← hfb]; exact fits_is _ _ W HRO.out hok
            have HRF : Hid (∀ W, Below wc.heap.size wc W → Calls Try.prog 10 #[.agg #[.bool perm, .int .i64 proto, .int .u32 sa, .int .i64 sn, .int .u32 da, .int .i64 dn, .int .u32 sl, .int .u32 sh, .int .u32 dl, .int .u32 dh], .agg #[.int .u32 src, .int .u32 dst, .int .u8 pr, .int .u16 sp, .int .u16 dp]] W fun e w' => e = .returned (.bool fb) ∧ Below W.heap.size W w') := Lib.hid fun W hb => by rw [← hfb]; exact rfits_is _ _ W HRO.out hok
            have HRD' : Hid (∀ W, Below wc.heap.size wc W → Calls Try.prog 11 #[.agg #[.string nm, .slice p 300 c], .agg #[.int .u32 src, .int .u32 dst, .int .u8 pr, .int .u16 sp, .int .u16 dp]] W fun e w' => e = .returned (.int .i64 z) ∧ Below W.heap.size W w') := Lib.hid fun W hb => by rw [← hz]; exact rdecides_is nm _ _ _ W (HRO9.out.below hb) hok
            have HRP : Hid (∀ W, Below wc.heap.size wc W → Calls Try.prog 12 #[.agg #[.string nm, .slice p 300 c], .agg #[.int .u32 src, .int .u32 dst, .int .u8 pr, .int .u16 sp, .int .u16 dp]] W fun e w' => e = .returned (.bool ib) ∧ Below W.heap.size W w') := Lib.hid fun W hb => by rw [← hib]; exact rpermits_is nm _ _ _ W (HRO9.out.below hb) hok
            have hfn : (fb != fb) = false := by simp
            have hzn : (z != z) = false := by simp
            have hin : (ib != ib) = false := by simp
            clear hs hc hok hz hib hfb
            have HBS := Lib.hid hbs
            obtain ⟨⟨g0, g1⟩, f0, f1⟩ := HCF.out wr HBK.out
            obtain ⟨d0, d1, d2, d3, d4⟩ := HHC.out wr HBK.out
            go_wp2_with fail
            refine wp_region_grows (by kernel_rfl) (by kernel_rfl) ?_
            refine grows_fact (g) (0) (.string nm) g0 (by have := HGC.out; have := HBK.out.size; omega) fun k0 => ?_
            refine grows_fact (g) (1) (.slice p9 l'.length c9) g1 (by have := HGC.out; have := HBK.out.size; omega) fun k1 => ?_
            refine grows_fact (b) (o + k * 5) (.int .u32 src) d0 (by have := HWK.out.size; omega) fun k2 => ?_
            refine grows_fact (b) (o + k * 5 + 1) (.int .u32 dst) d1 (by have := HWK.out.size; omega) fun k3 => ?_
            refine grows_fact (b) (o + k * 5 + 2) (.int .u8 pr) d2 (by have := HWK.out.size; omega) fun k4 => ?_
            refine grows_fact (b) (o + k * 5 + 3) (.int .u16 sp) d3 (by have := HWK.out.size; omega) fun k5 => ?_
            refine grows_fact (b) (o + k * 5 + 4) (.int .u16 dp) d4 (by have := HWK.out.size; omega) fun k6 => ?_
            repeat (go_big_quiet_step (((go_at_call 7; with_reducible exact Calls.grows_of (HD.out _ (Below.step HBK.out (Grows.below _)))))))
            refine wpQuiet_nil ?_
            rintro w6 ⟨⟨_, hbq⟩, rfl⟩
            have HBK := Lib.hid (Below.step HBK.out hbq)
            have HWK := Lib.hid (Below.step HWC.out HBK.out)
            clear hbq
            clear k0 k1 k2 k3 k4 k5 k6 g0 g1 f0 f1 d0 d1 d2 d3 d4
            obtain ⟨⟨g0, g1⟩, f0, f1⟩ := HCF.out w6 HBK.out
            obtain ⟨d0, d1, d2, d3, d4⟩ := HHC.out w6 HBK.out
            go_wp2_with fail
            refine wp_region_grows (by kernel_rfl) (by kernel_rfl) ?_
            refine grows_fact (g) (0) (.string nm) g0 (by have := HGC.out; have := HBK.out.size; omega) fun k0 => ?_
            refine grows_fact (g) (1) (.slice p9 l'.length c9) g1 (by have := HGC.out; have := HBK.out.size; omega) fun k1 => ?_
            refine grows_fact (b) (o + k * 5) (.int .u32 src) d0 (by have := HWK.out.size; omega) fun k2 => ?_
            refine grows_fact (b) (o + k * 5 + 1) (.int .u32 dst) d1 (by have := HWK.out.size; omega) fun k3 => ?_
            refine grows_fact (b) (o + k * 5 + 2) (.int .u8 pr) d2 (by have := HWK.out.size; omega) fun k4 => ?_
            refine grows_fact (b) (o + k * 5 + 3) (.int .u16 sp) d3 (by have := HWK.out.size; omega) fun k5 => ?_
            refine grows_fact (b) (o + k * 5 + 4) (.int .u16 dp) d4 (by have := HWK.out.size; omega) fun k6 => ?_
            repeat (go_big_quiet_step (((go_at_call 8; with_reducible exact Calls.grows_of (HP.out _ (Below.step HBK.out (Grows.below _)))))))
            refine wpQuiet_nil ?_
            rintro w7 ⟨⟨_, hbq⟩, rfl⟩
            have HBK := Lib.hid (Below.step HBK.out hbq)
            have HWK := Lib.hid (Below.step HWC.out HBK.out)
            clear hbq
            clear k0 k1 k2 k3 k4 k5 k6 g0 g1 f0 f1 d0 d1 d2 d3 d4
            obtain ⟨r0, r1, r2, r3, r4, r5, r6, r7, r8, r9⟩ := HCR.out w7 HBK.out
            obtain ⟨d0, d1, d2, d3, d4⟩ := HHC.out w7 HBK.out
            go_wp2_with fail
            refine wp_region_grows (by kernel_rfl) (by kernel_rfl) ?_
            refine grows_fact (b) (o + k * 5) (.int .u32 src) d0 (by have := HWK.out.size; omega) fun k0 => ?_
            refine grows_fact (b) (o + k * 5 + 1) (.int .u32 dst) d1 (by have := HWK.out.size; omega) fun k1 => ?_
            refine grows_fact (b) (o + k * 5 + 2) (.int .u8 pr) d2 (by have := HWK.out.size; omega) fun k2 => ?_
            refine grows_fact (b) (o + k * 5 + 3) (.int .u16 sp) d3 (by have := HWK.out.size; omega) fun k3 => ?_
            refine grows_fact (b) (o + k * 5 + 4) (.int .u16 dp) d4 (by have := HWK.out.size; omega) fun k4 => ?_
            refine grows_fact (w.heap.size + 1) (0) (.bool perm) r0 (by have := HZC.out; have := HBK.out.size; omega) fun k5 => ?_
            refine grows_fact (w.heap.size + 1) (1) (.int .i64 proto) r1 (by have := HZC.out; have := HBK.out.size; omega) fun k6 => ?_
            refine grows_fact (w.heap.size + 1) (2) (.int .u32 sa) r2 (by have := HZC.out; have := HBK.out.size; omega) fun k7 => ?_
            refine grows_fact (w.heap.size + 1) (3) (.int .i64 sn) r3 (by have := HZC.out; have := HBK.out.size; omega) fun k8 => ?_
            refine grows_fact (w.heap.size + 1) (4) (.int .u32 da) r4 (by have := HZC.out; have := HBK.out.size; omega) fun k9 => ?_
            refine grows_fact (w.heap.size + 1) (5) (.int .i64 dn) r5 (by have := HZC.out; have := HBK.out.size; omega) fun k10 => ?_
            refine grows_fact (w.heap.size + 1) (6) (.int .u32 sl) r6 (by have := HZC.out; have := HBK.out.size; omega) fun k11 => ?_
            refine grows_fact (w.heap.size + 1) (7) (.int .u32 sh) r7 (by have := HZC.out; have := HBK.out.size; omega) fun k12 => ?_
            refine grows_fact (w.heap.size + 1) (8) (.int .u32 dl) r8 (by have := HZC.out; have := HBK.out.size; omega) fun k13 => ?_
            refine grows_fact (w.heap.size + 1) (9) (.int .u32 dh) r9 (by have := HZC.out; have := HBK.out.size; omega) fun k14 => ?_
            repeat (go_big_quiet_step (first | (go_at_call 9; with_reducible exact Calls.grows_of (HF.out _ (Below.step HBK.out (Grows.below _)))) | (go_at_call 10; with_reducible exact Calls.grows_of (HRF.out _ (Below.step HBK.out (Grows.below _))))))
            refine wpQuiet_nil ?_
            rintro w8 ⟨⟨_, hbq⟩, rfl⟩
            have HBK := Lib.hid (Below.step HBK.out hbq)
            have HWK := Lib.hid (Below.step HWC.out HBK.out)
            clear hbq
            clear k0 k1 k2 k3 k4 k5 k6 k7 k8 k9 k10 k11 k12 k13 k14 r0 r1 r2 r3 r4 r5 r6 r7 r8 r9 d0 d1 d2 d3 d4
            obtain ⟨⟨g0, g1⟩, f0, f1⟩ := HCF.out w8 HBK.out
            obtain ⟨d0, d1, d2, d3, d4⟩ := HHC.out w8 HBK.out
            go_wp2_with fail
            refine wp_region_grows (by kernel_rfl) (by kernel_rfl) ?_
            refine grows_fact (w.heap.size) (0) (.string nm) f0 (by have := HZC.out; have := HBK.out.size; omega) fun k0 => ?_
            refine grows_fact (w.heap.size) (1) (.slice p 300 c) f1 (by have := HZC.out; have := HBK.out.size; omega) fun k1 => ?_
            refine grows_fact (b) (o + k * 5) (.int .u32 src) d0 (by have := HWK.out.size; omega) fun k2 => ?_
            refine grows_fact (b) (o + k * 5 + 1) (.int .u32 dst) d1 (by have := HWK.out.size; omega) fun k3 => ?_
            refine grows_fact (b) (o + k * 5 + 2) (.int .u8 pr) d2 (by have := HWK.out.size; omega) fun k4 => ?_
            refine grows_fact (b) (o + k * 5 + 3) (.int .u16 sp) d3 (by have := HWK.out.size; omega) fun k5 => ?_
            refine grows_fact (b) (o + k * 5 + 4) (.int .u16 dp) d4 (by have := HWK.out.size; omega) fun k6 => ?_
            repeat (go_big_quiet_step (first | (go_at_call 11; with_reducible exact Calls.grows_of (HRD'.out _ (Below.step HBK.out (Grows.below _)))) | (go_at_call 12; with_reducible exact Calls.grows_of (HRP.out _ (Below.step HBK.out (Grows.below _))))))
            refine wpQuiet_nil ?_
            rintro w10 ⟨⟨_, hbq⟩, rfl⟩
            have HBK := Lib.hid (Below.step HBK.out hbq)
            have HWK := Lib.hid (Below.step HWC.out HBK.out)
            clear hbq
            clear k0 k1 k2 k3 k4 k5 k6 g0 g1 f0 f1 d0 d1 d2 d3 d4
            go_wp2_with fail
            go_roundw
            case rel => exact ⟨k + 1, by omega, by go_num, HBK.out⟩
            case measure => simp [intOf]; omega
          · by_cases hlt : k < asks.length
            · have e2 : (k : Int) < (asks.length : Int) := by omega
              have e3 : ¬ (k : Int) < 30 := by omega
              obtain ⟨⟨g0, g1⟩, f0, f1⟩ := HCF.out wr HBK.out
              go_wp2_with fail
              go_at_call 13
              refine (rules_same l' _ _ _ (HR9.out.below HBK.out) (HRO9.out.below HBK.out)).mono ?_
              rintro e w11 ⟨rfl, hb11⟩
              have HB11 := Lib.hid (Below.step HWK.out hb11)
              clear hb11 g0 g1 f0 f1
              go_wp2_with fail
              go_at_call 14
              refine (awake_is _).mono ?_
              rintro e w12 ⟨rfl, hb12⟩
              have HB12 := Lib.hid (Below.step HB11.out hb12)
              clear hb12
              go_wp2
              go_ret
              exact ⟨rfl, HB12.out⟩
            · have e2 : ¬ (k : Int) < (asks.length : Int) := by omega
              obtain ⟨⟨g0, g1⟩, f0, f1⟩ := HCF.out wr HBK.out
              go_wp2_with fail
              go_at_call 13
              refine (rules_same l' _ _ _ (HR9.out.below HBK.out) (HRO9.out.below HBK.out)).mono ?_
              rintro e w11 ⟨rfl, hb11⟩
              have HB11 := Lib.hid (Below.step HWK.out hb11)
              clear hb11 g0 g1 f0 f1
              go_wp2_with fail
              go_at_call 14
              refine (awake_is _).mono ?_
              rintro e w12 ⟨rfl, hb12⟩
              have HB12 := Lib.hid (Below.step HB11.out hb12)
              clear hb12
              go_wp2
              go_ret
              exact ⟨rfl, HB12.out⟩
      · have hcn : (c0 != 0) = true := by simpa using hcz
        have HCZ := Lib.hid hcz
        clear hcz
        go_loopw [9] (fun i wr => ∃ k : Nat, k ≤ asks.length ∧ i = .int .i64 k ∧ Below wc.heap.size wc wr) (fun i _ => asks.length - (intOf i).toNat)
        case atStart => exact ⟨0, Nat.zero_le _, rfl, HB5.out⟩
        case round =>
          obtain ⟨k, hk, rfl, hbk⟩ := hrel
          have HBK := Lib.hid hbk
          have HWK := Lib.hid (Below.step HWC.out hbk)
          clear hbk
          by_cases hgo : k < asks.length ∧ k < 30
          · obtain ⟨hlt, h30⟩ := hgo
            obtain ⟨h, hs⟩ : ∃ h, asks[k]? = some h := ⟨_, List.getElem?_eq_getElem hlt⟩
            obtain ⟨b, o, rfl, hbs, hc⟩ := HQ.out k h hs
            have hok := HSO.out h (List.mem_of_getElem? hs)
            have e1 : (0 : Int) ≤ (k : Int) := by omega
            have e2 : (k : Int) < (asks.length : Int) := by omega
            have e3 : (k : Int) < 30 := by omega
            obtain ⟨z, hz⟩ : ∃ z, decI l' h = z := ⟨_, rfl⟩
            obtain ⟨ib, hib⟩ : ∃ z, prmB l' h = z := ⟨_, rfl⟩
            obtain ⟨fb, hfb⟩ : ∃ z, fitB ⟨perm, proto, sa, sn, da, dn, sl, sh, dl, dh⟩ h = z := ⟨_, rfl⟩
            obtain ⟨src, dst, pr, sp, dp⟩ := h
            have HHC : Hid (∀ W, Below wc.heap.size wc W → W.cell? ⟨b, o + k * 5, none⟩ = some (.int .u32 src) ∧ W.cell? ⟨b, o + k * 5 + 1, none⟩ = some (.int .u32 dst) ∧ W.cell? ⟨b, o + k * 5 + 2, none⟩ = some (.int .u8 pr) ∧ W.cell? ⟨b, o + k * 5 + 3, none⟩ = some (.int .u16 sp) ∧ W.cell? ⟨b, o + k * 5 + 4, none⟩ = some (.int .u16 dp)) := Lib.hid fun W hb => by
              have hw := Below.step HWC.out hb
              exact ⟨hc W hw 0 _ rfl, hc W hw 1 _ rfl, hc W hw 2 _ rfl, hc W hw 3 _ rfl, hc W hw 4 _ rfl⟩
            have HD : Hid (∀ W, Below wc.heap.size wc W → Calls Try.prog 7 #[.agg #[.string nm, .slice p9 l'.length c9], .agg #[.int .u32 src, .int .u32 dst, .int .u8 pr, .int .u16 sp, .int .u16 dp]] W fun e w' => e = .returned (.tuple #[.int .i64 0, .int .i64 c0]) ∧ Below W.heap.size W w') := Lib.hid fun W hb => by exact decides_no nm _ _ ⟨src, dst, pr, sp, dp⟩ W _ (HR9.out.below hb) HC0.out HCZ.out
            have HP : Hid (∀ W, Below wc.heap.size wc W → Calls Try.prog 8 #[.agg #[.string nm, .slice p9 l'.length c9], .agg #[.int .u32 src, .int .u32 dst, .int .u8 pr, .int .u16 sp, .int .u16 dp]] W fun e w' => e = .returned (.tuple #[.bool false, .int .i64 c0]) ∧ Below W.heap.size W w') := Lib.hid fun W hb => by exact permits_no nm _ _ ⟨src, dst, pr, sp, dp⟩ W _ (HR9.out.below hb) HC0.out HCZ.out
            have HF : Hid (∀ W, Below wc.heap.size wc W → Calls Try.prog 9 #[.agg #[.bool perm, .int .i64 proto, .int .u32 sa, .int .i64 sn, .int .u32 da, .int .i64 dn, .int .u32 sl, .int .u32 sh, .int .u32 dl, .int .u32 dh], .agg #[.int .u32 src, .int .u32 dst, .int .u8 pr, .int .u16 sp, .int .u16 dp]] W fun e w' => e = .returned (.bool fb) ∧ Below W.heap.size W w') := Lib.hid fun W hb => by rw [← hfb]; exact fits_is _ _ W HRO.out hok
            have HRF : Hid (∀ W, Below wc.heap.size wc W → Calls Try.prog 10 #[.agg #[.bool perm, .int .i64 proto, .int .u32 sa, .int .i64 sn, .int .u32 da, .int .i64 dn, .int .u32 sl, .int .u32 sh, .int .u32 dl, .int .u32 dh], .agg #[.int .u32 src, .int .u32 dst, .int .u8 pr, .int .u16 sp, .int .u16 dp]] W fun e w' => e = .returned (.bool fb) ∧ Below W.heap.size W w') := Lib.hid fun W hb => by rw [← hfb]; exact rfits_is _ _ W HRO.out hok
            have HRD' : Hid (∀ W, Below wc.heap.size wc W → Calls Try.prog 11 #[.agg #[.string nm, .slice p 300 c], .agg #[.int .u32 src, .int .u32 dst, .int .u8 pr, .int .u16 sp, .int .u16 dp]] W fun e w' => e = .returned (.int .i64 z) ∧ Below W.heap.size W w') := Lib.hid fun W hb => by rw [← hz]; exact rdecides_is nm _ _ _ W (HRO9.out.below hb) hok
            have HRP : Hid (∀ W, Below wc.heap.size wc W → Calls Try.prog 12 #[.agg #[.string nm, .slice p 300 c], .agg #[.int .u32 src, .int .u32 dst, .int .u8 pr, .int .u16 sp, .int .u16 dp]] W fun e w' => e = .returned (.bool ib) ∧ Below W.heap.size W w') := Lib.hid fun W hb => by rw [← hib]; exact rpermits_is nm _ _ _ W (HRO9.out.below hb) hok
            have hfn : (fb != fb) = false := by simp
            have hzn : (z != z) = false := by simp
            have hin : (ib != ib) = false := by simp
            clear hs hc hok hz hib hfb
            have HBS := Lib.hid hbs
            obtain ⟨⟨g0, g1⟩, f0, f1⟩ := HCF.out wr HBK.out
            obtain ⟨d0, d1, d2, d3, d4⟩ := HHC.out wr HBK.out
            go_wp2_with fail
            refine wp_region_grows (by kernel_rfl) (by kernel_rfl) ?_
            refine grows_fact (g) (0) (.string nm) g0 (by have := HGC.out; have := HBK.out.size; omega) fun k0 => ?_
            refine grows_fact (g) (1) (.slice p9 l'.length c9) g1 (by have := HGC.out; have := HBK.out.size; omega) fun k1 => ?_
            refine grows_fact (b) (o + k * 5) (.int .u32 src) d0 (by have := HWK.out.size; omega) fun k2 => ?_
            refine grows_fact (b) (o + k * 5 + 1) (.int .u32 dst) d1 (by have := HWK.out.size; omega) fun k3 => ?_
            refine grows_fact (b) (o + k * 5 + 2) (.int .u8 pr) d2 (by have := HWK.out.size; omega) fun k4 => ?_
            refine grows_fact (b) (o + k * 5 + 3) (.int .u16 sp) d3 (by have := HWK.out.size; omega) fun k5 => ?_
            refine grows_fact (b) (o + k * 5 + 4) (.int .u16 dp) d4 (by have := HWK.out.size; omega) fun k6 => ?_
            repeat (go_big_quiet_step (((go_at_call 7; with_reducible exact Calls.grows_of (HD.out _ (Below.step HBK.out (Grows.below _)))))))
            refine wpQuiet_nil ?_
            rintro w6 ⟨⟨_, hbq⟩, rfl⟩
            have HBK := Lib.hid (Below.step HBK.out hbq)
            have HWK := Lib.hid (Below.step HWC.out HBK.out)
            clear hbq
            clear k0 k1 k2 k3 k4 k5 k6 g0 g1 f0 f1 d0 d1 d2 d3 d4
            obtain ⟨⟨g0, g1⟩, f0, f1⟩ := HCF.out w6 HBK.out
            obtain ⟨d0, d1, d2, d3, d4⟩ := HHC.out w6 HBK.out
            go_wp2_with fail
            refine wp_region_grows (by kernel_rfl) (by kernel_rfl) ?_
            refine grows_fact (g) (0) (.string nm) g0 (by have := HGC.out; have := HBK.out.size; omega) fun k0 => ?_
            refine grows_fact (g) (1) (.slice p9 l'.length c9) g1 (by have := HGC.out; have := HBK.out.size; omega) fun k1 => ?_
            refine grows_fact (b) (o + k * 5) (.int .u32 src) d0 (by have := HWK.out.size; omega) fun k2 => ?_
            refine grows_fact (b) (o + k * 5 + 1) (.int .u32 dst) d1 (by have := HWK.out.size; omega) fun k3 => ?_
            refine grows_fact (b) (o + k * 5 + 2) (.int .u8 pr) d2 (by have := HWK.out.size; omega) fun k4 => ?_
            refine grows_fact (b) (o + k * 5 + 3) (.int .u16 sp) d3 (by have := HWK.out.size; omega) fun k5 => ?_
            refine grows_fact (b) (o + k * 5 + 4) (.int .u16 dp) d4 (by have := HWK.out.size; omega) fun k6 => ?_
            repeat (go_big_quiet_step (((go_at_call 8; with_reducible exact Calls.grows_of (HP.out _ (Below.step HBK.out (Grows.below _)))))))
            refine wpQuiet_nil ?_
            rintro w7 ⟨⟨_, hbq⟩, rfl⟩
            have HBK := Lib.hid (Below.step HBK.out hbq)
            have HWK := Lib.hid (Below.step HWC.out HBK.out)
            clear hbq
            clear k0 k1 k2 k3 k4 k5 k6 g0 g1 f0 f1 d0 d1 d2 d3 d4
            obtain ⟨r0, r1, r2, r3, r4, r5, r6, r7, r8, r9⟩ := HCR.out w7 HBK.out
            obtain ⟨d0, d1, d2, d3, d4⟩ := HHC.out w7 HBK.out
            go_wp2_with fail
            refine wp_region_grows (by kernel_rfl) (by kernel_rfl) ?_
            refine grows_fact (b) (o + k * 5) (.int .u32 src) d0 (by have := HWK.out.size; omega) fun k0 => ?_
            refine grows_fact (b) (o + k * 5 + 1) (.int .u32 dst) d1 (by have := HWK.out.size; omega) fun k1 => ?_
            refine grows_fact (b) (o + k * 5 + 2) (.int .u8 pr) d2 (by have := HWK.out.size; omega) fun k2 => ?_
            refine grows_fact (b) (o + k * 5 + 3) (.int .u16 sp) d3 (by have := HWK.out.size; omega) fun k3 => ?_
            refine grows_fact (b) (o + k * 5 + 4) (.int .u16 dp) d4 (by have := HWK.out.size; omega) fun k4 => ?_
            refine grows_fact (w.heap.size + 1) (0) (.bool perm) r0 (by have := HZC.out; have := HBK.out.size; omega) fun k5 => ?_
            refine grows_fact (w.heap.size + 1) (1) (.int .i64 proto) r1 (by have := HZC.out; have := HBK.out.size; omega) fun k6 => ?_
            refine grows_fact (w.heap.size + 1) (2) (.int .u32 sa) r2 (by have := HZC.out; have := HBK.out.size; omega) fun k7 => ?_
            refine grows_fact (w.heap.size + 1) (3) (.int .i64 sn) r3 (by have := HZC.out; have := HBK.out.size; omega) fun k8 => ?_
            refine grows_fact (w.heap.size + 1) (4) (.int .u32 da) r4 (by have := HZC.out; have := HBK.out.size; omega) fun k9 => ?_
            refine grows_fact (w.heap.size + 1) (5) (.int .i64 dn) r5 (by have := HZC.out; have := HBK.out.size; omega) fun k10 => ?_
            refine grows_fact (w.heap.size + 1) (6) (.int .u32 sl) r6 (by have := HZC.out; have := HBK.out.size; omega) fun k11 => ?_
            refine grows_fact (w.heap.size + 1) (7) (.int .u32 sh) r7 (by have := HZC.out; have := HBK.out.size; omega) fun k12 => ?_
            refine grows_fact (w.heap.size + 1) (8) (.int .u32 dl) r8 (by have := HZC.out; have := HBK.out.size; omega) fun k13 => ?_
            refine grows_fact (w.heap.size + 1) (9) (.int .u32 dh) r9 (by have := HZC.out; have := HBK.out.size; omega) fun k14 => ?_
            repeat (go_big_quiet_step (first | (go_at_call 9; with_reducible exact Calls.grows_of (HF.out _ (Below.step HBK.out (Grows.below _)))) | (go_at_call 10; with_reducible exact Calls.grows_of (HRF.out _ (Below.step HBK.out (Grows.below _))))))
            refine wpQuiet_nil ?_
            rintro w8 ⟨⟨_, hbq⟩, rfl⟩
            have HBK := Lib.hid (Below.step HBK.out hbq)
            have HWK := Lib.hid (Below.step HWC.out HBK.out)
            clear hbq
            clear k0 k1 k2 k3 k4 k5 k6 k7 k8 k9 k10 k11 k12 k13 k14 r0 r1 r2 r3 r4 r5 r6 r7 r8 r9 d0 d1 d2 d3 d4
            go_wp2_with fail
            go_roundw
            case rel => exact ⟨k + 1, by omega, by go_num, HBK.out⟩
            case measure => simp [intOf]; omega
          · by_cases hlt : k < asks.length
            · have e2 : (k : Int) < (asks.length : Int) := by omega
              have e3 : ¬ (k : Int) < 30 := by omega
              obtain ⟨⟨g0, g1⟩, f0, f1⟩ := HCF.out wr HBK.out
              go_wp2_with fail
              go_at_call 13
              refine (rules_same l' _ _ _ (HR9.out.below HBK.out) (HRO9.out.below HBK.out)).mono ?_
              rintro e w11 ⟨rfl, hb11⟩
              have HB11 := Lib.hid (Below.step HWK.out hb11)
              clear hb11 g0 g1 f0 f1
              go_wp2_with fail
              go_at_call 14
              refine (awake_is _).mono ?_
              rintro e w12 ⟨rfl, hb12⟩
              have HB12 := Lib.hid (Below.step HB11.out hb12)
              clear hb12
              go_wp2
              go_ret
              exact ⟨rfl, HB12.out⟩
            · have e2 : ¬ (k : Int) < (asks.length : Int) := by omega
              obtain ⟨⟨g0, g1⟩, f0, f1⟩ := HCF.out wr HBK.out
              go_wp2_with fail
              go_at_call 13
              refine (rules_same l' _ _ _ (HR9.out.below HBK.out) (HRO9.out.below HBK.out)).mono ?_
              rintro e w11 ⟨rfl, hb11⟩
              have HB11 := Lib.hid (Below.step HWK.out hb11)
              clear hb11 g0 g1 f0 f1
              go_wp2_with fail
              go_at_call 14
              refine (awake_is _).mono ?_
              rintro e w12 ⟨rfl, hb12⟩
              have HB12 := Lib.hid (Below.step HB11.out hb12)
              clear hb12
              go_wp2
              go_ret
              exact ⟨rfl, HB12.out⟩
  · have hl1 : ¬ (300 : Int) < (l.length : Int) := by omega
    go_enter Try.func3, Try.ntmps3
    go_wp2_with fail
    have HR2 := Lib.hid (HR.out.below HB1.out)
    have HZ2 := HZ1; have HF2 := HF1; have HR1x := HR1; have HB2 := HB1
    have HRD : Hid (∀ W, Below W1.heap.size W1 W → RdK encR 10 W (.slice p l.length c) l) := Lib.hid fun W hb => (HR2.out.below hb).rd
    have hz2 := HZ2.out
    go_cut [7] (fun a7 wx => ∃ g v9, a7 = .pointer (some ⟨g, 0, none⟩) ∧ wx.heap[g]? = some (.cells #[.string nm, v9] 24 (0, 0)) ∧ RdR wx v9 l ∧ Below W1.heap.size W1 wx)
    case first =>
      go_wp2_with fail
      go_region_held3 (fun w' => w'.cell? ⟨w.heap.size, 0, none⟩ = some (.string nm) ∧ w'.cell? ⟨w.heap.size, 1, none⟩ = some (.slice p l.length c)) (first | (exact ⟨cell_far2 y0 (by omega), cell_far2 y1 (by omega)⟩) | go_keep | (simp [*, World.cell?_alloc_some]; done) | (trace_state; fail)) (first
        | ((refine step_append_rdk (enc := encR) encR_len (by decide) encR_one rfl (.tmp 24) (.tmp 26) 22 33 rfl _ 64 Try.underlying22 rfl infoR W1.heap.size (.slice (some ⟨w.heap.size + 1 + 1, 0, none⟩) 0 0) 0 [] (by first | rfl | (simp only [← hz2]; rfl)) (own_empty (by first | exact own_at0 hz2 | exact own_at1 hz2 | exact own_at2 hz2) (by omega)) _ l rfl (HRD.out _ (by go_grown)) (by unfold maxLen; omega) (by omega) (by first | (simp; done) | (simp; omega)) ?_); intro v9 w9 hown9 hgr9 hor9; obtain ⟨hc9, hf9, hd9, hh9, hs9, hB9⟩ := grown_all (W1 := W1) (g := w.heap.size + 1 + 1) (by go_grown) hgr9 rfl (by omega); obtain ⟨p9, c9, rfl⟩ := own_slice hown9; have y0 := (hd9 w.heap.size 0 (by omega)).trans f0; have y1 := (hd9 w.heap.size 1 (by omega)).trans f1)
        | ((refine step_append_rdk (enc := encR) encR_len (by decide) encR_one rfl (.tmp 24) (.tmp 26) 22 33 rfl _ 64 Try.underlying22 rfl infoR W1.heap.size (.slice (some ⟨w.heap.size + 1 + 1 + 1, 0, none⟩) 0 0) 0 [] (by first | rfl | (simp only [← hz2]; rfl)) (own_empty (by first | exact own_at0 hz2 | exact own_at1 hz2 | exact own_at2 hz2) (by omega)) _ l rfl (HRD.out _ (by go_grown)) (by unfold maxLen; omega) (by omega) (by first | (simp; done) | (simp; omega)) ?_); intro v9 w9 hown9 hgr9 hor9; obtain ⟨hc9, hf9, hd9, hh9, hs9, hB9⟩ := grown_all (W1 := W1) (g := w.heap.size + 1 + 1 + 1) (by go_grown) hgr9 rfl (by omega); obtain ⟨p9, c9, rfl⟩ := own_slice hown9; have y0 := (hd9 w.heap.size 0 (by omega)).trans f0; have y1 := (hd9 w.heap.size 1 (by omega)).trans f1))
      all_goals
        have ho9 : World.ownsRow w9 W1.heap.size 33 10 (.slice p9 l.length c9) l.length (flatK encR l) := by simpa using hown9
        go_wp2_with fail
        go_meet
        first
          | exact close_a hB9 ho9 HR2.out.ok
          | exact close_b hB9 ho9 HR2.out.ok ((hh9 _ (by simp; omega) (by omega)).trans (by first | exact own_at0 hz2 | exact own_at1 hz2 | exact own_at2 hz2)) (by omega) (fun x hx => by rcases hor9 with h | h <;> (rw [ownBlock_len p9 _ l.length c9, hx] at h; have h := Option.some.inj h; first | omega | (simp at h; omega)))
    case rest =>
      obtain ⟨g, v9, rfl, hx9, hr9, hb9⟩ := hcut
      obtain ⟨p9, c9, rfl, hlc9, hcm9, _⟩ := hr9.rd.sl
      unfold maxLen at hcm9
      have hzc := hb9.size
      have hgc : g < wc.heap.size := (Array.getElem?_eq_some_iff.1 hx9).1
      have hFc := (hb9.block w.heap.size (by omega)).trans HF2.out
      have hRc := (hb9.block (w.heap.size + 1) (by omega)).trans HR1x.out
      have HCF : Hid (∀ W, Below wc.heap.size wc W → (W.cell? ⟨g, 0, none⟩ = some (.string nm) ∧ W.cell? ⟨g, 1, none⟩ = some (.slice p9 l.length c9)) ∧ (W.cell? ⟨w.heap.size, 0, none⟩ = some (.string nm) ∧ W.cell? ⟨w.heap.size, 1, none⟩ = some (.slice p l.length c))) := Lib.hid fun W hb => by
        have e1 := (hb.block g hgc).trans hx9
        have e2 := (hb.block w.heap.size (by omega)).trans hFc
        refine ⟨⟨?_, ?_⟩, ?_, ?_⟩ <;> (first | rw [cell_of_heap e1] | rw [cell_of_heap e2]) <;> rfl
      have HCR : Hid (∀ W, Below wc.heap.size wc W → W.cell? ⟨w.heap.size + 1, 0, none⟩ = some (.bool perm) ∧ W.cell? ⟨w.heap.size + 1, 1, none⟩ = some (.int .i64 proto) ∧ W.cell? ⟨w.heap.size + 1, 2, none⟩ = some (.int .u32 sa) ∧ W.cell? ⟨w.heap.size + 1, 3, none⟩ = some (.int .i64 sn) ∧ W.cell? ⟨w.heap.size + 1, 4, none⟩ = some (.int .u32 da) ∧ W.cell? ⟨w.heap.size + 1, 5, none⟩ = some (.int .i64 dn) ∧ W.cell? ⟨w.heap.size + 1, 6, none⟩ = some (.int .u32 sl) ∧ W.cell? ⟨w.heap.size + 1, 7, none⟩ = some (.int .u32 sh) ∧ W.cell? ⟨w.heap.size + 1, 8, none⟩ = some (.int .u32 dl) ∧ W.cell? ⟨w.heap.size + 1, 9, none⟩ = some (.int .u32 dh)) := Lib.hid fun W hb => by
        have e3 := (hb.block (w.heap.size + 1) (by omega)).trans hRc
        rw [cell_of_heap e3, cell_of_heap e3, cell_of_heap e3, cell_of_heap e3, cell_of_heap e3, cell_of_heap e3, cell_of_heap e3, cell_of_heap e3, cell_of_heap e3, cell_of_heap e3]
        exact ⟨rfl, rfl, rfl, rfl, rfl, rfl, rfl, rfl, rfl, rfl⟩
      have HWC := Lib.hid (Below.step HB2.out hb9)
      have HRO9 := Lib.hid (HR2.out.below hb9)
      have HR9 := Lib.hid hr9
      have HGC := Lib.hid hgc
      obtain ⟨c0, hc0⟩ : ∃ c, ckF l = c := ⟨_, rfl⟩
      have HCK : Hid (∀ W, Below wc.heap.size wc W → Calls Try.prog 5 #[.agg #[.string nm, .slice p l.length c]] W fun e w' => e = .returned (.int .i64 c0) ∧ Below W.heap.size W w') := Lib.hid fun W hb => by rw [← hc0]; exact rcheck_f nm _ _ W (HRO9.out.below hb)
      have HCO : Hid (∀ W, Below wc.heap.size wc W → Calls Try.prog 6 #[.agg #[.string nm, .slice p9 l.length c9]] W fun e w' => e = .returned (.int .i64 c0) ∧ Below W.heap.size W w') := Lib.hid fun W hb => by rw [← hc0]; exact check_f nm _ _ W (HR9.out.below hb)
      obtain ⟨⟨g0, g1⟩, f0, f1⟩ := HCF.out wc (Below.refl _ _)
      have hcc : (c0 != c0) = false := by simp
      have HC0 := Lib.hid hc0
      have HZC := Lib.hid hzc
      clear hx9 hr9 hb9 hzc hgc hFc hRc hc0
      go_wp2_with fail
      go_at_call 5
      (with_reducible refine (HCK.out _ (Below.refl _ _)).mono ?_)
      rintro e w4 ⟨rfl, hb4⟩
      have HB4 := Lib.hid hb4
      clear hb4 g0 g1 f0 f1
      obtain ⟨⟨g0, g1⟩, f0, f1⟩ := HCF.out w4 HB4.out
      go_wp2_with fail
      go_at_call 6
      (with_reducible refine (HCO.out _ HB4.out).mono ?_)
      rintro e w5 ⟨rfl, hb5⟩
      have HB5 := Lib.hid (Below.step HB4.out hb5)
      clear hb5 g0 g1 f0 f1 HB4
      go_wp2_with fail
      by_cases hcz : c0 = 0
      · have hcn : (c0 != 0) = false := by simpa using hcz
        have HC00 : Hid (ckF l = 0) := Lib.hid (by rw [HC0.out]; exact hcz)
        subst hcz
        go_loopw [9] (fun i wr => ∃ k : Nat, k ≤ asks.length ∧ i = .int .i64 k ∧ Below wc.heap.size wc wr) (fun i _ => asks.length - (intOf i).toNat)
        case atStart => exact ⟨0, Nat.zero_le _, rfl, HB5.out⟩
        case round =>
          obtain ⟨k, hk, rfl, hbk⟩ := hrel
          have HBK := Lib.hid hbk
          have HWK := Lib.hid (Below.step HWC.out hbk)
          clear hbk
          by_cases hgo : k < asks.length ∧ k < 30
          · obtain ⟨hlt, h30⟩ := hgo
            obtain ⟨h, hs⟩ : ∃ h, asks[k]? = some h := ⟨_, List.getElem?_eq_getElem hlt⟩
            obtain ⟨b, o, rfl, hbs, hc⟩ := HQ.out k h hs
            have hok := HSO.out h (List.mem_of_getElem? hs)
            have e1 : (0 : Int) ≤ (k : Int) := by omega
            have e2 : (k : Int) < (asks.length : Int) := by omega
            have e3 : (k : Int) < 30 := by omega
            obtain ⟨z, hz⟩ : ∃ z, decI l h = z := ⟨_, rfl⟩
            obtain ⟨ib, hib⟩ : ∃ z, prmB l h = z := ⟨_, rfl⟩
            obtain ⟨fb, hfb⟩ : ∃ z, fitB ⟨perm, proto, sa, sn, da, dn, sl, sh, dl, dh⟩ h = z := ⟨_, rfl⟩
            obtain ⟨src, dst, pr, sp, dp⟩ := h
            have HHC : Hid (∀ W, Below wc.heap.size wc W → W.cell? ⟨b, o + k * 5, none⟩ = some (.int .u32 src) ∧ W.cell? ⟨b, o + k * 5 + 1, none⟩ = some (.int .u32 dst) ∧ W.cell? ⟨b, o + k * 5 + 2, none⟩ = some (.int .u8 pr) ∧ W.cell? ⟨b, o + k * 5 + 3, none⟩ = some (.int .u16 sp) ∧ W.cell? ⟨b, o + k * 5 + 4, none⟩ = some (.int .u16 dp)) := Lib.hid fun W hb => by
              have hw := Below.step HWC.out hb
              exact ⟨hc W hw 0 _ rfl, hc W hw 1 _ rfl, hc W hw 2 _ rfl, hc W hw 3 _ rfl, hc W hw 4 _ rfl⟩
            have HD : Hid (∀ W, Below wc.heap.size wc W → Calls Try.prog 7 #[.agg #[.string nm, .slice p9 l.length c9], .agg #[.int .u32 src, .int .u32 dst, .int .u8 pr, .int .u16 sp, .int .u16 dp]] W fun e w' => e = .returned (.tuple #[.int .i64 z, .int .i64 0]) ∧ Below W.heap.size W w') := Lib.hid fun W hb => by rw [← hz]; exact decides_ok nm _ _ _ W (HR9.out.below hb) hok HC00.out
            have HP : Hid (∀ W, Below wc.heap.size wc W → Calls Try.prog 8 #[.agg #[.string nm, .slice p9 l.length c9], .agg #[.int .u32 src, .int .u32 dst, .int .u8 pr, .int .u16 sp, .int .u16 dp]] W fun e w' => e = .returned (.tuple #[.bool ib, .int .i64 0]) ∧ Below W.heap.size W w') := Lib.hid fun W hb => by rw [← hib]; exact permits_ok nm _ _ _ W (HR9.out.below hb) hok HC00.out
            have HF : Hid (∀ W, Below wc.heap.size wc W → Calls Try.prog 9 #[.agg #[.bool perm, .int .i64 proto, .int .u32 sa, .int .i64 sn, .int .u32 da, .int .i64 dn, .int .u32 sl, .int .u32 sh, .int .u32 dl, .int .u32 dh], .agg #[.int .u32 src, .int .u32 dst, .int .u8 pr, .int .u16 sp, .int .u16 dp]] W fun e w' => e = .returned (.bool fb) ∧ Below W.heap.size W w') := Lib.hid fun W hb => by rw [← hfb]; exact fits_is _ _ W HRO.out hok
            have HRF : Hid (∀ W, Below wc.heap.size wc W → Calls Try.prog 10 #[.agg #[.bool perm, .int .i64 proto, .int .u32 sa, .int .i64 sn, .int .u32 da, .int .i64 dn, .int .u32 sl, .int .u32 sh, .int .u32 dl, .int .u32 dh], .agg #[.int .u32 src, .int .u32 dst, .int .u8 pr, .int .u16 sp, .int .u16 dp]] W fun e w' => e = .returned (.bool fb) ∧ Below W.heap.size W w') := Lib.hid fun W hb => by rw [← hfb]; exact rfits_is _ _ W HRO.out hok
            have HRD' : Hid (∀ W, Below wc.heap.size wc W → Calls Try.prog 11 #[.agg #[.string nm, .slice p l.length c], .agg #[.int .u32 src, .int .u32 dst, .int .u8 pr, .int .u16 sp, .int .u16 dp]] W fun e w' => e = .returned (.int .i64 z) ∧ Below W.heap.size W w') := Lib.hid fun W hb => by rw [← hz]; exact rdecides_is nm _ _ _ W (HRO9.out.below hb) hok
            have HRP : Hid (∀ W, Below wc.heap.size wc W → Calls Try.prog 12 #[.agg #[.string nm, .slice p l.length c], .agg #[.int .u32 src, .int .u32 dst, .int .u8 pr, .int .u16 sp, .int .u16 dp]] W fun e w' => e = .returned (.bool ib) ∧ Below W.heap.size W w') := Lib.hid fun W hb => by rw [← hib]; exact rpermits_is nm _ _ _ W (HRO9.out.below hb) hok
            have hfn : (fb != fb) = false := by simp
            have hzn : (z != z) = false := by simp
            have hin : (ib != ib) = false := by simp
            clear hs hc hok hz hib hfb
            have HBS := Lib.hid hbs
            obtain ⟨⟨g0, g1⟩, f0, f1⟩ := HCF.out wr HBK.out
            obtain ⟨d0, d1, d2, d3, d4⟩ := HHC.out wr HBK.out
            go_wp2_with fail
            refine wp_region_grows (by kernel_rfl) (by kernel_rfl) ?_
            refine grows_fact (g) (0) (.string nm) g0 (by have := HGC.out; have := HBK.out.size; omega) fun k0 => ?_
            refine grows_fact (g) (1) (.slice p9 l.length c9) g1 (by have := HGC.out; have := HBK.out.size; omega) fun k1 => ?_
            refine grows_fact (b) (o + k * 5) (.int .u32 src) d0 (by have := HWK.out.size; omega) fun k2 => ?_
            refine grows_fact (b) (o + k * 5 + 1) (.int .u32 dst) d1 (by have := HWK.out.size; omega) fun k3 => ?_
            refine grows_fact (b) (o + k * 5 + 2) (.int .u8 pr) d2 (by have := HWK.out.size; omega) fun k4 => ?_
            refine grows_fact (b) (o + k * 5 + 3) (.int .u16 sp) d3 (by have := HWK.out.size; omega) fun k5 => ?_
            refine grows_fact (b) (o + k * 5 + 4) (.int .u16 dp) d4 (by have := HWK.out.size; omega) fun k6 => ?_
            repeat (go_big_quiet_step (((go_at_call 7; with_reducible exact Calls.grows_of (HD.out _ (Below.step HBK.out (Grows.below _)))))))
            refine wpQuiet_nil ?_
            rintro w6 ⟨⟨_, hbq⟩, rfl⟩
            have HBK := Lib.hid (Below.step HBK.out hbq)
            have HWK := Lib.hid (Below.step HWC.out HBK.out)
            clear hbq
            clear k0 k1 k2 k3 k4 k5 k6 g0 g1 f0 f1 d0 d1 d2 d3 d4
            obtain ⟨⟨g0, g1⟩, f0, f1⟩ := HCF.out w6 HBK.out
            obtain ⟨d0, d1, d2, d3, d4⟩ := HHC.out w6 HBK.out
            go_wp2_with fail
            refine wp_region_grows (by kernel_rfl) (by kernel_rfl) ?_
            refine grows_fact (g) (0) (.string nm) g0 (by have := HGC.out; have := HBK.out.size; omega) fun k0 => ?_
            refine grows_fact (g) (1) (.slice p9 l.length c9) g1 (by have := HGC.out; have := HBK.out.size; omega) fun k1 => ?_
            refine grows_fact (b) (o + k * 5) (.int .u32 src) d0 (by have := HWK.out.size; omega) fun k2 => ?_
            refine grows_fact (b) (o + k * 5 + 1) (.int .u32 dst) d1 (by have := HWK.out.size; omega) fun k3 => ?_
            refine grows_fact (b) (o + k * 5 + 2) (.int .u8 pr) d2 (by have := HWK.out.size; omega) fun k4 => ?_
            refine grows_fact (b) (o + k * 5 + 3) (.int .u16 sp) d3 (by have := HWK.out.size; omega) fun k5 => ?_
            refine grows_fact (b) (o + k * 5 + 4) (.int .u16 dp) d4 (by have := HWK.out.size; omega) fun k6 => ?_
            repeat (go_big_quiet_step (((go_at_call 8; with_reducible exact Calls.grows_of (HP.out _ (Below.step HBK.out (Grows.below _)))))))
            refine wpQuiet_nil ?_
            rintro w7 ⟨⟨_, hbq⟩, rfl⟩
            have HBK := Lib.hid (Below.step HBK.out hbq)
            have HWK := Lib.hid (Below.step HWC.out HBK.out)
            clear hbq
            clear k0 k1 k2 k3 k4 k5 k6 g0 g1 f0 f1 d0 d1 d2 d3 d4
            obtain ⟨r0, r1, r2, r3, r4, r5, r6, r7, r8, r9⟩ := HCR.out w7 HBK.out
            obtain ⟨d0, d1, d2, d3, d4⟩ := HHC.out w7 HBK.out
            go_wp2_with fail
            refine wp_region_grows (by kernel_rfl) (by kernel_rfl) ?_
            refine grows_fact (b) (o + k * 5) (.int .u32 src) d0 (by have := HWK.out.size; omega) fun k0 => ?_
            refine grows_fact (b) (o + k * 5 + 1) (.int .u32 dst) d1 (by have := HWK.out.size; omega) fun k1 => ?_
            refine grows_fact (b) (o + k * 5 + 2) (.int .u8 pr) d2 (by have := HWK.out.size; omega) fun k2 => ?_
            refine grows_fact (b) (o + k * 5 + 3) (.int .u16 sp) d3 (by have := HWK.out.size; omega) fun k3 => ?_
            refine grows_fact (b) (o + k * 5 + 4) (.int .u16 dp) d4 (by have := HWK.out.size; omega) fun k4 => ?_
            refine grows_fact (w.heap.size + 1) (0) (.bool perm) r0 (by have := HZC.out; have := HBK.out.size; omega) fun k5 => ?_
            refine grows_fact (w.heap.size + 1) (1) (.int .i64 proto) r1 (by have := HZC.out; have := HBK.out.size; omega) fun k6 => ?_
            refine grows_fact (w.heap.size + 1) (2) (.int .u32 sa) r2 (by have := HZC.out; have := HBK.out.size; omega) fun k7 => ?_
            refine grows_fact (w.heap.size + 1) (3) (.int .i64 sn) r3 (by have := HZC.out; have := HBK.out.size; omega) fun k8 => ?_
            refine grows_fact (w.heap.size + 1) (4) (.int .u32 da) r4 (by have := HZC.out; have := HBK.out.size; omega) fun k9 => ?_
            refine grows_fact (w.heap.size + 1) (5) (.int .i64 dn) r5 (by have := HZC.out; have := HBK.out.size; omega) fun k10 => ?_
            refine grows_fact (w.heap.size + 1) (6) (.int .u32 sl) r6 (by have := HZC.out; have := HBK.out.size; omega) fun k11 => ?_
            refine grows_fact (w.heap.size + 1) (7) (.int .u32 sh) r7 (by have := HZC.out; have := HBK.out.size; omega) fun k12 => ?_
            refine grows_fact (w.heap.size + 1) (8) (.int .u32 dl) r8 (by have := HZC.out; have := HBK.out.size; omega) fun k13 => ?_
            refine grows_fact (w.heap.size + 1) (9) (.int .u32 dh) r9 (by have := HZC.out; have := HBK.out.size; omega) fun k14 => ?_
            repeat (go_big_quiet_step (first | (go_at_call 9; with_reducible exact Calls.grows_of (HF.out _ (Below.step HBK.out (Grows.below _)))) | (go_at_call 10; with_reducible exact Calls.grows_of (HRF.out _ (Below.step HBK.out (Grows.below _))))))
            refine wpQuiet_nil ?_
            rintro w8 ⟨⟨_, hbq⟩, rfl⟩
            have HBK := Lib.hid (Below.step HBK.out hbq)
            have HWK := Lib.hid (Below.step HWC.out HBK.out)
            clear hbq
            clear k0 k1 k2 k3 k4 k5 k6 k7 k8 k9 k10 k11 k12 k13 k14 r0 r1 r2 r3 r4 r5 r6 r7 r8 r9 d0 d1 d2 d3 d4
            obtain ⟨⟨g0, g1⟩, f0, f1⟩ := HCF.out w8 HBK.out
            obtain ⟨d0, d1, d2, d3, d4⟩ := HHC.out w8 HBK.out
            go_wp2_with fail
            refine wp_region_grows (by kernel_rfl) (by kernel_rfl) ?_
            refine grows_fact (w.heap.size) (0) (.string nm) f0 (by have := HZC.out; have := HBK.out.size; omega) fun k0 => ?_
            refine grows_fact (w.heap.size) (1) (.slice p l.length c) f1 (by have := HZC.out; have := HBK.out.size; omega) fun k1 => ?_
            refine grows_fact (b) (o + k * 5) (.int .u32 src) d0 (by have := HWK.out.size; omega) fun k2 => ?_
            refine grows_fact (b) (o + k * 5 + 1) (.int .u32 dst) d1 (by have := HWK.out.size; omega) fun k3 => ?_
            refine grows_fact (b) (o + k * 5 + 2) (.int .u8 pr) d2 (by have := HWK.out.size; omega) fun k4 => ?_
            refine grows_fact (b) (o + k * 5 + 3) (.int .u16 sp) d3 (by have := HWK.out.size; omega) fun k5 => ?_
            refine grows_fact (b) (o + k * 5 + 4) (.int .u16 dp) d4 (by have := HWK.out.size; omega) fun k6 => ?_
            repeat (go_big_quiet_step (first | (go_at_call 11; with_reducible exact Calls.grows_of (HRD'.out _ (Below.step HBK.out (Grows.below _)))) | (go_at_call 12; with_reducible exact Calls.grows_of (HRP.out _ (Below.step HBK.out (Grows.below _))))))
            refine wpQuiet_nil ?_
            rintro w10 ⟨⟨_, hbq⟩, rfl⟩
            have HBK := Lib.hid (Below.step HBK.out hbq)
            have HWK := Lib.hid (Below.step HWC.out HBK.out)
            clear hbq
            clear k0 k1 k2 k3 k4 k5 k6 g0 g1 f0 f1 d0 d1 d2 d3 d4
            go_wp2_with fail
            go_roundw
            case rel => exact ⟨k + 1, by omega, by go_num, HBK.out⟩
            case measure => simp [intOf]; omega
          · by_cases hlt : k < asks.length
            · have e2 : (k : Int) < (asks.length : Int) := by omega
              have e3 : ¬ (k : Int) < 30 := by omega
              obtain ⟨⟨g0, g1⟩, f0, f1⟩ := HCF.out wr HBK.out
              go_wp2_with fail
              go_at_call 13
              refine (rules_same l _ _ _ (HR9.out.below HBK.out) (HRO9.out.below HBK.out)).mono ?_
              rintro e w11 ⟨rfl, hb11⟩
              have HB11 := Lib.hid (Below.step HWK.out hb11)
              clear hb11 g0 g1 f0 f1
              go_wp2_with fail
              go_at_call 14
              refine (awake_is _).mono ?_
              rintro e w12 ⟨rfl, hb12⟩
              have HB12 := Lib.hid (Below.step HB11.out hb12)
              clear hb12
              go_wp2
              go_ret
              exact ⟨rfl, HB12.out⟩
            · have e2 : ¬ (k : Int) < (asks.length : Int) := by omega
              obtain ⟨⟨g0, g1⟩, f0, f1⟩ := HCF.out wr HBK.out
              go_wp2_with fail
              go_at_call 13
              refine (rules_same l _ _ _ (HR9.out.below HBK.out) (HRO9.out.below HBK.out)).mono ?_
              rintro e w11 ⟨rfl, hb11⟩
              have HB11 := Lib.hid (Below.step HWK.out hb11)
              clear hb11 g0 g1 f0 f1
              go_wp2_with fail
              go_at_call 14
              refine (awake_is _).mono ?_
              rintro e w12 ⟨rfl, hb12⟩
              have HB12 := Lib.hid (Below.step HB11.out hb12)
              clear hb12
              go_wp2
              go_ret
              exact ⟨rfl, HB12.out⟩
      · have hcn : (c0 != 0) = true := by simpa using hcz
        have HCZ := Lib.hid hcz
        clear hcz
        go_loopw [9] (fun i wr => ∃ k : Nat, k ≤ asks.length ∧ i = .int .i64 k ∧ Below wc.heap.size wc wr) (fun i _ => asks.length - (intOf i).toNat)
        case atStart => exact ⟨0, Nat.zero_le _, rfl, HB5.out⟩
        case round =>
          obtain ⟨k, hk, rfl, hbk⟩ := hrel
          have HBK := Lib.hid hbk
          have HWK := Lib.hid (Below.step HWC.out hbk)
          clear hbk
          by_cases hgo : k < asks.length ∧ k < 30
          · obtain ⟨hlt, h30⟩ := hgo
            obtain ⟨h, hs⟩ : ∃ h, asks[k]? = some h := ⟨_, List.getElem?_eq_getElem hlt⟩
            obtain ⟨b, o, rfl, hbs, hc⟩ := HQ.out k h hs
            have hok := HSO.out h (List.mem_of_getElem? hs)
            have e1 : (0 : Int) ≤ (k : Int) := by omega
            have e2 : (k : Int) < (asks.length : Int) := by omega
            have e3 : (k : Int) < 30 := by omega
            obtain ⟨z, hz⟩ : ∃ z, decI l h = z := ⟨_, rfl⟩
            obtain ⟨ib, hib⟩ : ∃ z, prmB l h = z := ⟨_, rfl⟩
            obtain ⟨fb, hfb⟩ : ∃ z, fitB ⟨perm, proto, sa, sn, da, dn, sl, sh, dl, dh⟩ h = z := ⟨_, rfl⟩
            obtain ⟨src, dst, pr, sp, dp⟩ := h
            have HHC : Hid (∀ W, Below wc.heap.size wc W → W.cell? ⟨b, o + k * 5, none⟩ = some (.int .u32 src) ∧ W.cell? ⟨b, o + k * 5 + 1, none⟩ = some (.int .u32 dst) ∧ W.cell? ⟨b, o + k * 5 + 2, none⟩ = some (.int .u8 pr) ∧ W.cell? ⟨b, o + k * 5 + 3, none⟩ = some (.int .u16 sp) ∧ W.cell? ⟨b, o + k * 5 + 4, none⟩ = some (.int .u16 dp)) := Lib.hid fun W hb => by
              have hw := Below.step HWC.out hb
              exact ⟨hc W hw 0 _ rfl, hc W hw 1 _ rfl, hc W hw 2 _ rfl, hc W hw 3 _ rfl, hc W hw 4 _ rfl⟩
            have HD : Hid (∀ W, Below wc.heap.size wc W → Calls Try.prog 7 #[.agg #[.string nm, .slice p9 l.length c9], .agg #[.int .u32 src, .int .u32 dst, .int .u8 pr, .int .u16 sp, .int .u16 dp]] W fun e w' => e = .returned (.tuple #[.int .i64 0, .int .i64 c0]) ∧ Below W.heap.size W w') := Lib.hid fun W hb => by exact decides_no nm _ _ ⟨src, dst, pr, sp, dp⟩ W _ (HR9.out.below hb) HC0.out HCZ.out
            have HP : Hid (∀ W, Below wc.heap.size wc W → Calls Try.prog 8 #[.agg #[.string nm, .slice p9 l.length c9], .agg #[.int .u32 src, .int .u32 dst, .int .u8 pr, .int .u16 sp, .int .u16 dp]] W fun e w' => e = .returned (.tuple #[.bool false, .int .i64 c0]) ∧ Below W.heap.size W w') := Lib.hid fun W hb => by exact permits_no nm _ _ ⟨src, dst, pr, sp, dp⟩ W _ (HR9.out.below hb) HC0.out HCZ.out
            have HF : Hid (∀ W, Below wc.heap.size wc W → Calls Try.prog 9 #[.agg #[.bool perm, .int .i64 proto, .int .u32 sa, .int .i64 sn, .int .u32 da, .int .i64 dn, .int .u32 sl, .int .u32 sh, .int .u32 dl, .int .u32 dh], .agg #[.int .u32 src, .int .u32 dst, .int .u8 pr, .int .u16 sp, .int .u16 dp]] W fun e w' => e = .returned (.bool fb) ∧ Below W.heap.size W w') := Lib.hid fun W hb => by rw [← hfb]; exact fits_is _ _ W HRO.out hok
            have HRF : Hid (∀ W, Below wc.heap.size wc W → Calls Try.prog 10 #[.agg #[.bool perm, .int .i64 proto, .int .u32 sa, .int .i64 sn, .int .u32 da, .int .i64 dn, .int .u32 sl, .int .u32 sh, .int .u32 dl, .int .u32 dh], .agg #[.int .u32 src, .int .u32 dst, .int .u8 pr, .int .u16 sp, .int .u16 dp]] W fun e w' => e = .returned (.bool fb) ∧ Below W.heap.size W w') := Lib.hid fun W hb => by rw [← hfb]; exact rfits_is _ _ W HRO.out hok
            have HRD' : Hid (∀ W, Below wc.heap.size wc W → Calls Try.prog 11 #[.agg #[.string nm, .slice p l.length c], .agg #[.int .u32 src, .int .u32 dst, .int .u8 pr, .int .u16 sp, .int .u16 dp]] W fun e w' => e = .returned (.int .i64 z) ∧ Below W.heap.size W w') := Lib.hid fun W hb => by rw [← hz]; exact rdecides_is nm _ _ _ W (HRO9.out.below hb) hok
            have HRP : Hid (∀ W, Below wc.heap.size wc W → Calls Try.prog 12 #[.agg #[.string nm, .slice p l.length c], .agg #[.int .u32 src, .int .u32 dst, .int .u8 pr, .int .u16 sp, .int .u16 dp]] W fun e w' => e = .returned (.bool ib) ∧ Below W.heap.size W w') := Lib.hid fun W hb => by rw [← hib]; exact rpermits_is nm _ _ _ W (HRO9.out.below hb) hok
            have hfn : (fb != fb) = false := by simp
            have hzn : (z != z) = false := by simp
            have hin : (ib != ib) = false := by simp
            clear hs hc hok hz hib hfb
            have HBS := Lib.hid hbs
            obtain ⟨⟨g0, g1⟩, f0, f1⟩ := HCF.out wr HBK.out
            obtain ⟨d0, d1, d2, d3, d4⟩ := HHC.out wr HBK.out
            go_wp2_with fail
            refine wp_region_grows (by kernel_rfl) (by kernel_rfl) ?_
            refine grows_fact (g) (0) (.string nm) g0 (by have := HGC.out; have := HBK.out.size; omega) fun k0 => ?_
            refine grows_fact (g) (1) (.slice p9 l.length c9) g1 (by have := HGC.out; have := HBK.out.size; omega) fun k1 => ?_
            refine grows_fact (b) (o + k * 5) (.int .u32 src) d0 (by have := HWK.out.size; omega) fun k2 => ?_
            refine grows_fact (b) (o + k * 5 + 1) (.int .u32 dst) d1 (by have := HWK.out.size; omega) fun k3 => ?_
            refine grows_fact (b) (o + k * 5 + 2) (.int .u8 pr) d2 (by have := HWK.out.size; omega) fun k4 => ?_
            refine grows_fact (b) (o + k * 5 + 3) (.int .u16 sp) d3 (by have := HWK.out.size; omega) fun k5 => ?_
            refine grows_fact (b) (o + k * 5 + 4) (.int .u16 dp) d4 (by have := HWK.out.size; omega) fun k6 => ?_
            repeat (go_big_quiet_step (((go_at_call 7; with_reducible exact Calls.grows_of (HD.out _ (Below.step HBK.out (Grows.below _)))))))
            refine wpQuiet_nil ?_
            rintro w6 ⟨⟨_, hbq⟩, rfl⟩
            have HBK := Lib.hid (Below.step HBK.out hbq)
            have HWK := Lib.hid (Below.step HWC.out HBK.out)
            clear hbq
            clear k0 k1 k2 k3 k4 k5 k6 g0 g1 f0 f1 d0 d1 d2 d3 d4
            obtain ⟨⟨g0, g1⟩, f0, f1⟩ := HCF.out w6 HBK.out
            obtain ⟨d0, d1, d2, d3, d4⟩ := HHC.out w6 HBK.out
            go_wp2_with fail
            refine wp_region_grows (by kernel_rfl) (by kernel_rfl) ?_
            refine grows_fact (g) (0) (.string nm) g0 (by have := HGC.out; have := HBK.out.size; omega) fun k0 => ?_
            refine grows_fact (g) (1) (.slice p9 l.length c9) g1 (by have := HGC.out; have := HBK.out.size; omega) fun k1 => ?_
            refine grows_fact (b) (o + k * 5) (.int .u32 src) d0 (by have := HWK.out.size; omega) fun k2 => ?_
            refine grows_fact (b) (o + k * 5 + 1) (.int .u32 dst) d1 (by have := HWK.out.size; omega) fun k3 => ?_
            refine grows_fact (b) (o + k * 5 + 2) (.int .u8 pr) d2 (by have := HWK.out.size; omega) fun k4 => ?_
            refine grows_fact (b) (o + k * 5 + 3) (.int .u16 sp) d3 (by have := HWK.out.size; omega) fun k5 => ?_
            refine grows_fact (b) (o + k * 5 + 4) (.int .u16 dp) d4 (by have := HWK.out.size; omega) fun k6 => ?_
            repeat (go_big_quiet_step (((go_at_call 8; with_reducible exact Calls.grows_of (HP.out _ (Below.step HBK.out (Grows.below _)))))))
            refine wpQuiet_nil ?_
            rintro w7 ⟨⟨_, hbq⟩, rfl⟩
            have HBK := Lib.hid (Below.step HBK.out hbq)
            have HWK := Lib.hid (Below.step HWC.out HBK.out)
            clear hbq
            clear k0 k1 k2 k3 k4 k5 k6 g0 g1 f0 f1 d0 d1 d2 d3 d4
            obtain ⟨r0, r1, r2, r3, r4, r5, r6, r7, r8, r9⟩ := HCR.out w7 HBK.out
            obtain ⟨d0, d1, d2, d3, d4⟩ := HHC.out w7 HBK.out
            go_wp2_with fail
            refine wp_region_grows (by kernel_rfl) (by kernel_rfl) ?_
            refine grows_fact (b) (o + k * 5) (.int .u32 src) d0 (by have := HWK.out.size; omega) fun k0 => ?_
            refine grows_fact (b) (o + k * 5 + 1) (.int .u32 dst) d1 (by have := HWK.out.size; omega) fun k1 => ?_
            refine grows_fact (b) (o + k * 5 + 2) (.int .u8 pr) d2 (by have := HWK.out.size; omega) fun k2 => ?_
            refine grows_fact (b) (o + k * 5 + 3) (.int .u16 sp) d3 (by have := HWK.out.size; omega) fun k3 => ?_
            refine grows_fact (b) (o + k * 5 + 4) (.int .u16 dp) d4 (by have := HWK.out.size; omega) fun k4 => ?_
            refine grows_fact (w.heap.size + 1) (0) (.bool perm) r0 (by have := HZC.out; have := HBK.out.size; omega) fun k5 => ?_
            refine grows_fact (w.heap.size + 1) (1) (.int .i64 proto) r1 (by have := HZC.out; have := HBK.out.size; omega) fun k6 => ?_
            refine grows_fact (w.heap.size + 1) (2) (.int .u32 sa) r2 (by have := HZC.out; have := HBK.out.size; omega) fun k7 => ?_
            refine grows_fact (w.heap.size + 1) (3) (.int .i64 sn) r3 (by have := HZC.out; have := HBK.out.size; omega) fun k8 => ?_
            refine grows_fact (w.heap.size + 1) (4) (.int .u32 da) r4 (by have := HZC.out; have := HBK.out.size; omega) fun k9 => ?_
            refine grows_fact (w.heap.size + 1) (5) (.int .i64 dn) r5 (by have := HZC.out; have := HBK.out.size; omega) fun k10 => ?_
            refine grows_fact (w.heap.size + 1) (6) (.int .u32 sl) r6 (by have := HZC.out; have := HBK.out.size; omega) fun k11 => ?_
            refine grows_fact (w.heap.size + 1) (7) (.int .u32 sh) r7 (by have := HZC.out; have := HBK.out.size; omega) fun k12 => ?_
            refine grows_fact (w.heap.size + 1) (8) (.int .u32 dl) r8 (by have := HZC.out; have := HBK.out.size; omega) fun k13 => ?_
            refine grows_fact (w.heap.size + 1) (9) (.int .u32 dh) r9 (by have := HZC.out; have := HBK.out.size; omega) fun k14 => ?_
            repeat (go_big_quiet_step (first | (go_at_call 9; with_reducible exact Calls.grows_of (HF.out _ (Below.step HBK.out (Grows.below _)))) | (go_at_call 10; with_reducible exact Calls.grows_of (HRF.out _ (Below.step HBK.out (Grows.below _))))))
            refine wpQuiet_nil ?_
            rintro w8 ⟨⟨_, hbq⟩, rfl⟩
            have HBK := Lib.hid (Below.step HBK.out hbq)
            have HWK := Lib.hid (Below.step HWC.out HBK.out)
            clear hbq
            clear k0 k1 k2 k3 k4 k5 k6 k7 k8 k9 k10 k11 k12 k13 k14 r0 r1 r2 r3 r4 r5 r6 r7 r8 r9 d0 d1 d2 d3 d4
            go_wp2_with fail
            go_roundw
            case rel => exact ⟨k + 1, by omega, by go_num, HBK.out⟩
            case measure => simp [intOf]; omega
          · by_cases hlt : k < asks.length
            · have e2 : (k : Int) < (asks.length : Int) := by omega
              have e3 : ¬ (k : Int) < 30 := by omega
              obtain ⟨⟨g0, g1⟩, f0, f1⟩ := HCF.out wr HBK.out
              go_wp2_with fail
              go_at_call 13
              refine (rules_same l _ _ _ (HR9.out.below HBK.out) (HRO9.out.below HBK.out)).mono ?_
              rintro e w11 ⟨rfl, hb11⟩
              have HB11 := Lib.hid (Below.step HWK.out hb11)
              clear hb11 g0 g1 f0 f1
              go_wp2_with fail
              go_at_call 14
              refine (awake_is _).mono ?_
              rintro e w12 ⟨rfl, hb12⟩
              have HB12 := Lib.hid (Below.step HB11.out hb12)
              clear hb12
              go_wp2
              go_ret
              exact ⟨rfl, HB12.out⟩
            · have e2 : ¬ (k : Int) < (asks.length : Int) := by omega
              obtain ⟨⟨g0, g1⟩, f0, f1⟩ := HCF.out wr HBK.out
              go_wp2_with fail
              go_at_call 13
              refine (rules_same l _ _ _ (HR9.out.below HBK.out) (HRO9.out.below HBK.out)).mono ?_
              rintro e w11 ⟨rfl, hb11⟩
              have HB11 := Lib.hid (Below.step HWK.out hb11)
              clear hb11 g0 g1 f0 f1
              go_wp2_with fail
              go_at_call 14
              refine (awake_is _).mono ?_
              rintro e w12 ⟨rfl, hb12⟩
              have HB12 := Lib.hid (Below.step HB11.out hb12)
              clear hb12
              go_wp2
              go_ret
              exact ⟨rfl, HB12.out⟩
end Go.Proofs.Ythooiigdembgcaa
