/- The law TrieCovers. Under the conditions that it names. -/
import Derived.Test.YtodfimnmbfdicaaTwC
import Derived.Test.YtodfimnmbfdicaaTwD
import Derived.Test.YtodfimnmbfdicaaTpH
import Derived.Deep.QuietTactic
namespace Go.Proofs.Ytodfimnmbfdicaa
open Go.RowKit Go.Shelf
attribute [local go_sem] Oper.semAt_some
theorem heap_setP {w : World} {g o : Nat} {cur : Array Value} {e : TypeId} {f : Nat × Nat} (v : Value) (h : w.heap[g]? = some (.cells cur e f)) : (w.setCell ⟨g, o, none⟩ v).heap[g]? = some (.cells (cur.setIfInBounds o v) e f) := by
  unfold World.setCell
  simp [Array.getElem?_modify, h]
theorem cell_rowP {w : World} {g o : Nat} {cur : Array Value} {e : TypeId} {f : Nat × Nat} (h : w.heap[g]? = some (.cells cur e f)) : w.cell? ⟨g, o, none⟩ = cur[o]? := by
  simp [World.cell?, h]
theorem own_storeP {wr : World} {B g n cap : Nat} {cur : Array Value} (hg : B ≤ g) (hh : wr.heap[g]? = some (.cells cur 34 (0, 0))) (hcap : n ≤ cap) (hmax : cap ≤ maxLen) (hcs : cur.size = cap * 2) (o : Nat) (v : Value) :
    ∃ xs, (wr.setCell ⟨g, o, none⟩ v).ownsRow B 34 2 (.slice (some ⟨g, 0, none⟩) n cap) n xs := by
  refine ⟨(cur.setIfInBounds o v).toList.take (n * 2), ?_, .inr ⟨g, cap, cur.setIfInBounds o v, rfl, hg, heap_setP v hh, hcap, hmax, ?_, ?_⟩⟩
  · simp; omega
  · simpa using hcs
  · simp
/-- What stands while the law writes into what Cover handed back first. -/
structure Wr (B1 B2 : Nat) (wC W : World) (va : Value) (n : Nat) : Prop where
  own : ∃ xs, W.ownsRow B1 34 2 va n xs
  far : ∀ g, va.ownBlock = some g → g < B2 ∨ wC.heap.size ≤ g
  mid : ∀ g, B2 ≤ g → g < wC.heap.size → W.heap[g]? = wC.heap[g]?
  bel : Below B1 wC W
theorem Wr.store {B1 B2 : Nat} {wC W : World} {g n cap : Nat} (h : Wr B1 B2 wC W (.slice (some ⟨g, 0, none⟩) n cap) n) {cur : Array Value} (hg : B1 ≤ g) (hh : W.heap[g]? = some (.cells cur 34 (0, 0))) (hcap : n ≤ cap) (hmax : cap ≤ maxLen) (hcs : cur.size = cap * 2) (o : Nat) (v : Value) :
    Wr B1 B2 wC (W.setCell ⟨g, o, none⟩ v) (.slice (some ⟨g, 0, none⟩) n cap) n :=
  ⟨own_storeP hg hh hcap hmax hcs o v, h.far, fun x h1 h2 => (Below.heap_setCell _ _ _ _ (by have := h.far g rfl; show x ≠ g; omega)).trans (h.mid x h1 h2), h.bel.setCell (p := ⟨g, o, none⟩) hg v⟩
theorem Wr.app {B1 B2 : Nat} {wC W W9 : World} {va v9 : Value} {n : Nat} {xs : List Value} {X : Obj} (h : Wr B1 B2 wC W va n) (hB : B1 ≤ wC.heap.size) (ho : W9.ownsRow B1 34 2 v9 (n + 1) xs) (hg : (W.alloc X).grownBy W9 va.ownBlock) (hor : v9.ownBlock = va.ownBlock ∨ v9.ownBlock = some (W.alloc X).heap.size) : Wr B1 B2 wC W9 v9 (n + 1) := by
  have hz := h.bel.size
  obtain ⟨ys, hys⟩ := h.own
  refine ⟨⟨xs, ho⟩, fun g e => ?_, fun x h1 h2 => ?_, Below.grown (h.bel.alloc (by omega) _) hg (by simp; omega) fun x hx => (hys.lt x hx).1⟩
  · rcases hor with e2 | e2
    · exact h.far g (e2.symm.trans e)
    · rw [e2] at e
      have := Option.some.inj e
      simp at this
      omega
  · refine (hg.block x (by simp; omega) (fun e => ?_)).trans ((((Below.refl W.heap.size W).alloc (Nat.le_refl _) X).block x (by omega)).trans (h.mid x h1 h2))
    have := h.far x e.symm
    omega
set_option maxRecDepth 100000 in
set_option maxHeartbeats 16000000 in
theorem covers_is (l : List (Int × Int)) (lv : Value) (w : World) (hr : RdK encP 2 w lv l) (hrg : ∀ x ∈ l, 0 ≤ x.1 ∧ x.1 < 4294967296) : Calls Try.prog 4 #[lv] w fun e w' => e = .returned (.bool true) ∧ Below w.heap.size w w' := by
  obtain ⟨p, c, rfl, hlc, hcm, _⟩ := hr.sl
  unfold maxLen at hcm
  obtain ⟨m, hm⟩ : ∃ m, min l.length 80 = m := ⟨_, rfl⟩
  have hmi : min (l.length : Int) 80 = (m : Int) := by omega
  have hml : m ≤ l.length := by omega
  have hm1 : m ≤ 80 := by omega
  obtain ⟨L, hL⟩ : ∃ L, l.take m = L := ⟨_, rfl⟩
  have hLm : L.length = m := by rw [← hL, List.length_take]; omega
  have HRD := Lib.hid (show ∀ W, Below w.heap.size w W → RdK encP 2 W (.slice p m c) L from fun W hW => by rw [← hL]; exact (hr.take hml).below hW)
  have HRG : Hid (∀ x ∈ L, 0 ≤ x.1 ∧ x.1 < 4294967296) := Lib.hid fun x hx => hrg x (by rw [← hL] at hx; exact List.mem_of_mem_take hx)
  have e1 : (0 : Int) ≤ (m : Int) := by omega
  have e2 : (m : Int) ≤ (c : Int) := by omega
  clear hr hrg hL hm
  subst hLm
  go_enter Try.func4, Try.ntmps4
  go_wp2_with (first
    | (at_builtin; refine wpList_append_rdk (enc := encP) encP_len (by decide) encP_one rfl (.tmp 17) (.tmp 18) 48 34 rfl _ 16 Try.underlying48 rfl infoP w.heap.size _ 0 [] rfl (own_empty (heap_alloc_new _ _) (Nat.le_refl _)) _ L rfl (HRD.out _ ((Below.refl _ _).alloc (Nat.le_refl _) _)) (by unfold maxLen; omega) (by omega) (by simp) ?_; intro v9 w9 hown hgr hor; clear hor; rw [Nat.zero_add, List.nil_append] at hown; have HV9 := Lib.hid hown; have HB9 := Lib.hid (Below.grown ((Below.refl _ _).alloc (Nat.le_refl _) _) hgr (by simp) fun x hx => (by have h : w.heap.size = x := Option.some.inj hx; omega)); clear hown hgr; obtain ⟨p9, c9, rfl⟩ := own_slice HV9.out)
    | (at_builtin; refine wpList_append_rdk (enc := encP) encP_len (by decide) encP_one rfl (.tmp 19) (.tmp 21) 48 34 rfl _ 16 Try.underlying48 rfl infoP w.heap.size _ L.length _ rfl (HV9.out.alloc _) _ [((0 : Int), (7 : Int))] rfl (own_one _ _ _) (by unfold maxLen; simp; omega) (by simp; omega) (by have := HB9.out.size; simp; omega) ?_; intro v8 w8 hown hgr hor; clear hor; have HB8 := Lib.hid (Below.grown (HB9.out.alloc HB9.out.size _) hgr (by have := HB9.out.size; simp; omega) fun x hx => (HV9.out.lt x hx).1); obtain ⟨p8, c8, rfl⟩ := own_slice hown; have hr8 : RdK encP 2 w8 (.slice p8 (L.length + 1) c8) (L ++ [((0 : Int), (7 : Int))]) := RdK.of_own encP_len (by simpa [flatK] using hown); have HR8 := Lib.hid hr8; have hc8 : (L.length : Int) ≤ (c8 : Int) ∧ ((L.length : Int) + 1 ≤ (c8 : Int)) ∧ c8 ≤ 9223372036854775807 := (by obtain ⟨p', c', h1, h2, h3, _⟩ := hr8.sl; simp only [Value.slice.injEq] at h1; simp only [List.length_append, List.length_singleton] at h2; unfold maxLen at h3; omega); obtain ⟨hc8, hc9, hc10⟩ := hc8; clear hown hgr hr8))
  have HIN : Hid (∀ W, Below w8.heap.size w8 W → RdK encP 2 W (.slice p8 L.length c8) L) := Lib.hid fun W hW => by
    have h := ((HR8.out.take (m := L.length) (by omega)).below hW)
    simpa using h
  go_at_call 21
  refine (rcover_is L _ w8 (HRD.out w8 HB8.out) (by omega) HRG.out).mono ?_
  rintro e w2 ⟨vw, rfl, hw, hb2⟩
  have hlen : (Tr.cover (build L)).length ≤ 80 := by
    have h1 := Tr.cover_len (build L)
    have h2 := build_sz L
    omega
  have HCR : Hid (∀ q ∈ Tr.cover (build L), 0 ≤ q.1 ∧ q.1 < 4294967296) := Lib.hid fun q hq => by
    have hok := build_ok HRG.out
    have := (Tr.cover_all hok (all_reg0 hok) q hq).1
    exact ⟨this.1, this.2.1⟩
  obtain ⟨C, hC⟩ : ∃ C, Tr.cover (build L) = C := ⟨_, rfl⟩
  rw [hC] at hw hlen HCR
  have HC := Lib.hid hC
  obtain ⟨pw, cw, rfl, hcw, hcwm, _⟩ := hw.sl
  unfold maxLen at hcwm
  have HW : Hid (∀ W, Below w2.heap.size w2 W → RdK encP 2 W (.slice pw C.length cw) C) := Lib.hid fun W hW => hw.below hW
  have HB2 := Lib.hid (Below.step HB8.out hb2)
  have HB2' := Lib.hid hb2
  clear hw hb2 hC
  go_wp2_with fail
  go_at_call 22
  refine (cover_fn L _ w2 (HIN.out w2 HB2'.out) (by omega) HRG.out).mono ?_
  rintro e w3 ⟨va, rfl, hoa, hb3⟩
  rw [HC.out] at hoa
  obtain ⟨pa, ca, rfl⟩ := own_slice hoa
  have HOA := Lib.hid hoa; have HB3 := Lib.hid hb3
  clear hoa hb3
  go_wp2_with fail
  go_at_call 22
  refine (cover_fn L _ w3 (HIN.out w3 (Below.step HB2'.out HB3.out)) (by omega) HRG.out).mono ?_
  rintro e w4 ⟨vb, rfl, hob, hb4⟩
  rw [HC.out] at hob
  obtain ⟨pb, cb, rfl⟩ := own_slice hob
  have HOB := Lib.hid hob; have HB4 := Lib.hid hb4
  clear hob hb4
  go_wp2_with fail
  go_at_call 23
  refine (psame_is C _ _ w4 (RdK.of_own encP_len (own_on HOA.out HB4.out)) (HW.out w4 (Below.step HB3.out HB4.out)) HCR.out).mono ?_
  rintro e w5 ⟨rfl, hb5⟩
  have HB5 := Lib.hid hb5
  have hz5 : w2.heap.size ≤ w3.heap.size ∧ w3.heap.size ≤ w4.heap.size ∧ w4.heap.size ≤ w5.heap.size := ⟨HB3.out.size, HB4.out.size, hb5.size⟩
  have HZ5 := Lib.hid hz5
  have hca : C.length ≤ ca ∧ ca ≤ 9223372036854775807 := by
    obtain ⟨p', c', h1, h2, h3, _⟩ := (RdK.of_own encP_len HOA.out).sl
    simp only [Value.slice.injEq] at h1
    unfold maxLen at h3
    omega
  have HWR : Hid (Wr w2.heap.size w3.heap.size w5 w5 (.slice pa C.length ca) C.length) := Lib.hid ⟨⟨_, own_on (own_on HOA.out HB4.out) hb5⟩, fun g hg => .inl (HOA.out.lt g hg).2, fun _ _ _ => rfl, Below.refl _ _⟩
  clear hb5 hz5
  go_wp2_with fail
  go_loopw [8] (fun s8 wr => ∃ i : Nat, i ≤ C.length ∧ s8 = .int .i64 i ∧ Hid (Wr w2.heap.size w3.heap.size w5 wr (.slice pa C.length ca) C.length)) (fun s8 _ => C.length - (intOf s8).toNat)
  case atStart => exact ⟨0, Nat.zero_le _, rfl, HWR⟩
  case round =>
    obtain ⟨i, hi, rfl, HX⟩ := hrel
    clear HWR
    have k0 : (0 : Int) ≤ (i : Int) := by omega
    by_cases hlt : i < C.length
    · obtain ⟨xs, hxs⟩ := HX.out.own
      obtain ⟨hxl, hor⟩ := hxs
      rcases hor with ⟨_, hz⟩ | ⟨g, cap, cur, hv, hg, hh, hcap, hmax, hcs, htk⟩
      · exfalso; omega
      · obtain ⟨rfl, rfl⟩ : pa = some ⟨g, 0, none⟩ ∧ ca = cap := by simpa using hv
        have hin : i * 2 + 1 < cur.size := by rw [hcs]; omega
        obtain ⟨old, hold⟩ : ∃ u, cur[i * 2 + 1]? = some u := ⟨_, Array.getElem?_eq_getElem hin⟩
        have x0 : wr.cell? ⟨g, i * 2 + 1, none⟩ = some old := (cell_rowP hh).trans hold
        have xf : wr.frozen? ⟨g, i * 2 + 1, none⟩ = false := by simp [World.frozen?, hh]
        have HX2 := Lib.hid (HX.out.store hg hh hcap hmax hcs (i * 2 + 1) (.int .i64 99))
        have k1 : (i : Int) < (C.length : Int) := by omega
        clear hxl hv hh hcap hmax hcs htk hin hold
        go_wp2_with fail
        go_roundw
        case rel => exact ⟨i + 1, by omega, by go_num, HX2⟩
        case measure => simp [intOf]; omega
    · obtain rfl : i = C.length := by omega
      have hd : decide ((C.length : Int) < (C.length : Int)) = false := by simp
      go_wp2_with fail
      go_loopw [6, 9] (fun s6 s9 wx => ∃ k : Nat, k ≤ 70 ∧ s9 = .int .i64 k ∧ Hid (Wr w2.heap.size w3.heap.size w5 wx s6 (C.length + k))) (fun _ s9 _ => 70 - (intOf s9).toNat)
      case atStart => exact ⟨0, Nat.zero_le _, rfl, HX⟩
      case round =>
        obtain ⟨k, hk, rfl, HY⟩ := hrel
        clear HX
        have k0 : (0 : Int) ≤ (k : Int) := by omega
        obtain ⟨ys, hys⟩ := HY.out.own
        have HYS := Lib.hid hys
        obtain ⟨py, cy, rfl⟩ := own_slice hys
        clear hys
        by_cases hk70 : k < 70
        · have k1 : (k : Int) < 70 := by omega
          go_wp2_with (at_builtin; refine wpList_append_rdk (enc := encP) encP_len (by decide) encP_one rfl (.tmp 49) (.tmp 51) 48 34 rfl _ 16 Try.underlying48 rfl infoP w2.heap.size _ (C.length + k) _ rfl (HYS.out.alloc _) _ [((0 : Int), (0 : Int))] rfl (own_one _ _ _) (by unfold maxLen; simp; omega) (by simp; omega) (by have := HY.out.bel.size; have := HZ5.out; simp; omega) ?_; intro v9 w9 hown hgr hor; have HY2 := Lib.hid (HY.out.app (by have := HZ5.out; omega) hown hgr hor); clear hown hgr hor)
          go_roundw
          case rel => exact ⟨k + 1, by omega, by go_num, HY2⟩
          case measure => simp [intOf]; omega
        · obtain rfl : k = 70 := by omega
          have hz5 := HZ5.out
          have HBW : Hid (Below w2.heap.size w2 wr) := Lib.hid ((((HB3.out.trans (HB4.out.mono HB3.out.size)).trans (HB5.out.mono (by omega)))).trans HY.out.bel)
          have HOBW := Lib.hid (ownsRow_of (own_on HOB.out HB5.out) fun g _ h2 h3 => HY.out.mid g h2 h3)
          have HLB : Hid (Below w.heap.size w wr) := Lib.hid (Below.step HB2.out HBW.out)
          obtain ⟨b7, o7, he7, hbl7, hcx7⟩ : ∃ b o, p8 = some ⟨b, o, none⟩ ∧ b < w8.heap.size ∧ ∀ W, Below w8.heap.size w8 W → W.cell? ⟨b, o + L.length * 2 + 1, none⟩ = some (.int .i64 7) := by
            obtain ⟨b, o, c', he, hb, hc⟩ := rd_cells HR8.out (i := L.length) (x := ((0 : Int), (7 : Int))) (by simp)
            simp only [Value.slice.injEq] at he
            exact ⟨b, o, he.1, hb, fun W hW => (hc W hW).2⟩
          subst he7
          have f7 := hcx7 wr (Below.step HB2'.out HBW.out)
          have HC7 := Lib.hid hcx7
          have hs70 : (((C.length + 70 : Nat) : Int) == (C.length : Int) + 70) = true := by simp
          clear hz5 hbl7 hcx7
          go_wp2_with fail
          refine (psame_is C _ _ wr (RdK.of_own encP_len HOBW.out) (HW.out wr HBW.out) HCR.out).mono ?_
          rintro e wx ⟨rfl, hbx⟩
          have HBX := Lib.hid hbx
          clear hbx f7
          go_wp2_with fail
          refine (psame_is L _ _ wx (HIN.out wx (Below.step (Below.step HB2'.out HBW.out) HBX.out)) (HRD.out wx (Below.step HLB.out HBX.out)) HRG.out).mono ?_
          rintro e wy ⟨rfl, hby⟩
          have HBY := Lib.hid (Below.step HLB.out (HBX.out.trans (hby.mono HBX.out.size)))
          have f7 := HC7.out wy (Below.step (Below.step (Below.step HB2'.out HBW.out) HBX.out) hby)
          have i0 : (0 : Int) ≤ (L.length : Int) + 1 := by omega
          have i1 : (L.length : Int) < (L.length : Int) + 1 := by omega
          have i2 : IntKind.i64.wrap ((L.length : Int) + 1) = (L.length : Int) + 1 := IntWalk.i64_in _ ⟨by omega, by omega⟩
          clear hby
          go_wp2_with fail
          go_ret
          exact ⟨rfl, HBY.out⟩
end Go.Proofs.Ytodfimnmbfdicaa
