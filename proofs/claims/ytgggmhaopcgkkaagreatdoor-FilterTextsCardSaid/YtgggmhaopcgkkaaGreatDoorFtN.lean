/- Named of package filter: the first filter of a name, its rules in new memory. Conditions: those of reading filters. -/
import Derived.Test.YtgggmhaopcgkkaaGreatDoorRwB
namespace Go.Proofs.YtgggmhaopcgkkaaGreatDoor
open Go.RowKit
/-- What Named hands back. -/
def Found2 (fs : List FilD) (s : ByteArray) (W : World) (e : Ending) (w' : World) : Prop := ∃ nm p n c b, e = .returned (.tuple #[.agg #[.string nm, .slice p n c], .bool b]) ∧ Below W.heap.size W w' ∧ ((b = false ∧ nmO fs s = none ∧ nm = ⟨#[]⟩ ∧ p = none ∧ n = 0 ∧ c = 0) ∨ (b = true ∧ ∃ k f B, nmO fs s = some k ∧ fs[k]? = some f ∧ nm = f.nm ∧ n = f.l.length ∧ W.heap.size ≤ B ∧ w'.ownsRow B 29 10 (.slice p n c) f.l.length (flatK encR f.l)))
theorem named_after2 {w wr w9 : World} {fn : ByteArray} {fp : Option Addr} {fc : Nat} {fl : List RuleD} {v9 : Value} (hz : w.heap.size < wr.heap.size) (hX : wr.heap[w.heap.size]? = some (.cells #[.string ⟨#[]⟩, .slice none 0 0] 39 (0, 0))) (hB : Below w.heap.size w wr)
    (hown9 : w9.ownsRow (wr.heap.size + 1) 29 10 v9 (0 + fl.length) ([] ++ flatK encR fl)) (hgr9 : (wr.alloc (.cells #[.string fn, .slice fp fl.length fc] 39)).grownBy w9 (Value.slice none 0 0).ownBlock) :
    ∃ p9 c9 W6 W7, v9 = .slice p9 (0 + fl.length) c9 ∧ w9.cell? ⟨wr.heap.size, 0, none⟩ = some (.string fn) ∧ w9.cell? ⟨wr.heap.size, 1, none⟩ = some (.slice fp fl.length fc) ∧ w9.frozen? ⟨wr.heap.size, 1, none⟩ = false ∧
      w9.setCell ⟨wr.heap.size, 1, none⟩ (.slice p9 fl.length c9) = W6 ∧ W6.cell? ⟨wr.heap.size, 0, none⟩ = some (.string fn) ∧ W6.cell? ⟨wr.heap.size, 1, none⟩ = some (.slice p9 fl.length c9) ∧ W6.cell? ⟨w.heap.size, 0, none⟩ = some (.string ⟨#[]⟩) ∧ W6.cell? ⟨w.heap.size, 1, none⟩ = some (.slice none 0 0) ∧ W6.frozen? ⟨w.heap.size, 0, none⟩ = false ∧ W6.frozen? ⟨w.heap.size, 1, none⟩ = false ∧
      (W6.setCell ⟨w.heap.size, 0, none⟩ (.string fn)).setCell ⟨w.heap.size, 1, none⟩ (.slice p9 fl.length c9) = W7 ∧ W7.cell? ⟨w.heap.size, 0, none⟩ = some (.string fn) ∧ W7.cell? ⟨w.heap.size, 1, none⟩ = some (.slice p9 fl.length c9) ∧ Below w.heap.size w W7 ∧ World.ownsRow W7 (wr.heap.size + 1) 29 10 (.slice p9 fl.length c9) fl.length (flatK encR fl) := by
  have hne : ¬ w.heap.size = wr.heap.size := by omega
  have hb9 := grown_none hgr9
  obtain ⟨p9, c9, rfl⟩ := own_slice hown9
  have ho9 : World.ownsRow w9 (wr.heap.size + 1) 29 10 (.slice p9 fl.length c9) fl.length (flatK encR fl) := by simpa using hown9
  have hXb := (hb9.block wr.heap.size (by simp)).trans (heap_new _ _)
  have hXr := (hb9.block w.heap.size (by show w.heap.size < (wr.alloc _).heap.size; simp; omega)).trans ((heap_alloc _ hz).trans hX)
  obtain ⟨W6, hW6⟩ : ∃ W6, w9.setCell ⟨wr.heap.size, 1, none⟩ (.slice p9 fl.length c9) = W6 := ⟨_, rfl⟩
  have hX6 := (Below.heap_setCell w9 ⟨wr.heap.size, 1, none⟩ (.slice p9 fl.length c9) w.heap.size hne).trans hXr
  have hY6 := heap_setCell (o := 1) (.slice p9 fl.length c9) hXb
  rw [hW6] at hX6 hY6
  obtain ⟨W7, hW7⟩ : ∃ W7, (W6.setCell ⟨w.heap.size, 0, none⟩ (.string fn)).setCell ⟨w.heap.size, 1, none⟩ (.slice p9 fl.length c9) = W7 := ⟨_, rfl⟩
  have hX7 := heap_setCell (o := 1) (.slice p9 fl.length c9) (heap_setCell (o := 0) (.string fn) hX6)
  rw [hW7] at hX7
  refine ⟨p9, c9, W6, W7, rfl, (cell_of_heap hXb).trans rfl, (cell_of_heap hXb).trans rfl, by simp [World.frozen?, hXb], hW6, (cell_of_heap hY6).trans rfl, (cell_of_heap hY6).trans rfl, (cell_of_heap hX6).trans rfl, (cell_of_heap hX6).trans rfl, by simp [World.frozen?, hX6], by simp [World.frozen?, hX6], hW7, (cell_of_heap hX7).trans rfl, (cell_of_heap hX7).trans rfl, ?_, ?_⟩
  · rw [← hW7, ← hW6]
    exact (((Below.step (hB.alloc hB.size _) hb9).setCell (p := ⟨wr.heap.size, 1, none⟩) hB.size _).setCell (p := ⟨w.heap.size, 0, none⟩) (Nat.le_refl _) _).setCell (p := ⟨w.heap.size, 1, none⟩) (Nat.le_refl _) _
  · refine ownsRow_of ho9 fun x h1 h2 h3 => ?_
    rw [← hW7, ← hW6, Below.heap_setCell _ _ _ _ (by show x ≠ w.heap.size; omega), Below.heap_setCell _ _ _ _ (by show x ≠ w.heap.size; omega), Below.heap_setCell _ _ _ _ (by show x ≠ wr.heap.size; omega)]
set_option maxHeartbeats 2000000 in
theorem named_f2 (fs : List FilD) (s : ByteArray) (v : Value) (w : World) (hr : RdF w v fs) : Calls Tryz.prog 9 #[v, .string s] w (Found2 fs s w) := by
  obtain ⟨p, c, rfl, hlc, hcm, hp⟩ := hr.rd.sl
  have HP := Lib.hid hp
  have HOK := Lib.hid hr.ok
  clear hp hr
  unfold maxLen at hcm
  have hb0 : Below w.heap.size w (w.alloc (.cells #[.string ⟨#[]⟩, .slice none 0 0] 39)) := (Below.refl _ _).alloc (Nat.le_refl _) _
  have HB0 := Lib.hid hb0
  clear hb0
  go_enter Tryz.func9, Tryz.ntmps9
  go_wp2
  go_loopw [10] (fun i wr => ∃ k : Nat, k ≤ fs.length ∧ i = .int .i64 k ∧ Hid (∀ (i : Nat) (f : FilD), i < k → fs[i]? = some f → sEq f.nm s = false) ∧ Hid (wr.heap[w.heap.size]? = some (.cells #[.string ⟨#[]⟩, .slice none 0 0] 39 (0, 0))) ∧ Below w.heap.size w wr) (fun i _ => fs.length - (intOf i).toNat)
  case atStart => exact ⟨0, Nat.zero_le _, rfl, Lib.hid (fun i f h => by omega), Lib.hid (heap_new _ _), HB0.out⟩
  case round =>
    obtain ⟨k, hk, rfl, HA, HX, hbw⟩ := hrel
    have HW := Lib.hid hbw
    have hz : w.heap.size < wr.heap.size := (Array.getElem?_eq_some_iff.1 HX.out).1
    clear hbw
    by_cases hlt : k < fs.length
    · obtain ⟨f, hf⟩ : ∃ f, fs[k]? = some f := ⟨_, List.getElem?_eq_getElem hlt⟩
      obtain ⟨b, o, rfl, hbs, hc⟩ := HP.out k f hf
      have hc := hc wr HW.out
      have hok := HOK.out f (List.mem_of_getElem? hf)
      have HF := Lib.hid hf
      have e1 : (0 : Int) ≤ (k : Int) := by omega
      have e2 : (k : Int) < (fs.length : Int) := by omega
      obtain ⟨q, hq⟩ : ∃ q, sEq f.nm s = q := ⟨_, rfl⟩
      have HQ := Lib.hid hq
      clear hf
      obtain ⟨fn, fv, fl⟩ := f
      obtain ⟨fp, fc, hfv⟩ := hok.1.slice
      simp only at hfv
      subst hfv
      have HOF := Lib.hid hok
      simp only [encF] at hc
      have c0 : wr.cell? ⟨b, o + k * 2, none⟩ = some (.string fn) := hc 0 _ rfl
      have c1 : wr.cell? ⟨b, o + k * 2 + 1, none⟩ = some (.slice fp fl.length fc) := hc 1 _ rfl
      have hqq : (fn.toList == s.toList) = q := hq
      clear hc hok hq
      cases q with
      | true =>
        have hbx : Below w.heap.size w (wr.alloc (.cells #[.string fn, .slice fp fl.length fc] 39)) := HW.out.alloc HW.out.size _
        have HRD := Lib.hid ((HOF.out.1.below hbx).rd)
        have hl47 : fl.length * 64 ≤ 140737488351232 := HOF.out.2
        have hne : ¬ w.heap.size = wr.heap.size := by omega
        clear hbx
        go_wp2_with (at_builtin; refine wpList_append_rdk (enc := encR) encR_len (by decide) encR_one rfl (.const (.slice none 0 0)) (.tmp 19) 37 29 rfl _ 64 Tryz.underlying37 rfl infoR (wr.heap.size + 1) _ 0 [] rfl (own_none _ _) _ fl rfl HRD.out (by unfold maxLen; omega) (by omega) (by simp) ?_; intro v9 w9 hown9 hgr9 hor9; clear hor9; obtain ⟨p9, c9, W6, W7, rfl, y0, y1, yf, hW6, u0, u1, x0, x1, xf0, xf1, hW7, z0, z1, hB7, hR7⟩ := named_after2 hz HX.out HW.out hown9 hgr9; have HB7 := Lib.hid hB7; have HR7 := Lib.hid hR7; clear hown9 hgr9 hB7 hR7)
        (try simp only [Exit.inBlock, Exit.then])
        refine bodyPost_ret (by simp [results, Tryz.results9, go_sem, z0, z1]; try rfl) rfl ?_
        have hfo := nmO_some HF.out HQ.out HA.out
        exact ⟨_, _, _, _, _, rfl, HB7.out, .inr ⟨rfl, k, _, _, hfo, HF.out, rfl, rfl, by have := HW.out.size; omega, HR7.out⟩⟩
      | false =>
        go_wp2_with fail
        go_roundw
        case rel => exact ⟨k + 1, by omega, by go_num, Lib.hid (fun i f hi h => by
            rcases Nat.lt_succ_iff_lt_or_eq.1 hi with h2 | rfl
            · exact HA.out i f h2 h
            · rw [HF.out] at h
              cases h
              exact HQ.out), Lib.hid ((heap_alloc _ hz).trans HX.out), HW.out.alloc HW.out.size _⟩
        case measure => simp [intOf]; omega
    · have hnn := nmO_none (fs := fs) (s := s) fun i f h => HA.out i f (by have := (List.getElem?_eq_some_iff.1 h).1; omega) h
      have HNN := Lib.hid hnn
      have x0 : wr.cell? ⟨w.heap.size, 0, none⟩ = some (.string ⟨#[]⟩) := by rw [cell_of_heap HX.out]; rfl
      have x1 : wr.cell? ⟨w.heap.size, 1, none⟩ = some (.slice none 0 0) := by rw [cell_of_heap HX.out]; rfl
      have xf0 : wr.frozen? ⟨w.heap.size, 0, none⟩ = false := by simp [World.frozen?, HX.out]
      have xf1 : wr.frozen? ⟨w.heap.size, 1, none⟩ = false := by simp [World.frozen?, HX.out]
      clear hnn
      obtain ⟨W5, hW5⟩ : ∃ W5, (wr.setCell ⟨w.heap.size, 0, none⟩ (.string ⟨#[]⟩)).setCell ⟨w.heap.size, 1, none⟩ (.slice none 0 0) = W5 := ⟨_, rfl⟩
      have hX5 := heap_setCell (o := 1) (.slice none 0 0) (heap_setCell (o := 0) (.string ⟨#[]⟩) HX.out)
      rw [hW5] at hX5
      have z0 : W5.cell? ⟨w.heap.size, 0, none⟩ = some (.string ⟨#[]⟩) := by rw [cell_of_heap hX5]; rfl
      have z1 : W5.cell? ⟨w.heap.size, 1, none⟩ = some (.slice none 0 0) := by rw [cell_of_heap hX5]; rfl
      have HB5 : Hid (Below w.heap.size w W5) := Lib.hid (by rw [← hW5]; exact (HW.out.setCell (p := ⟨w.heap.size, 0, none⟩) (Nat.le_refl _) _).setCell (p := ⟨w.heap.size, 1, none⟩) (Nat.le_refl _) _)
      clear hX5
      go_wp2
      (try simp only [Exit.inBlock, Exit.then])
      refine bodyPost_ret (by simp [results, Tryz.results9, go_sem, z0, z1]; try rfl) rfl ?_
      exact ⟨_, _, _, _, _, rfl, HB5.out, .inl ⟨rfl, HNN.out, rfl, rfl, rfl, rfl⟩⟩
end Go.Proofs.YtgggmhaopcgkkaaGreatDoor
