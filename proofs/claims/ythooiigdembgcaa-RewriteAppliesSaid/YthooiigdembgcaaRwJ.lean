/- The law RewriteApplies: it answers true; what was there stands. Under the condition that what is handed in reads, and that the rewrites fit where they are copied to. -/
import Derived.Test.YthooiigdembgcaaRwI
namespace Go.Proofs.Ythooiigdembgcaa
open Go.RowKit
theorem encW_len (r : RewD) : (encW r).length = 3 := rfl
theorem encW_one (r : RewD) : ∀ u ∈ encW r, u.oneCell' = true := by
  intro u hu
  simp [encW] at hu
  rcases hu with rfl | rfl | rfl <;> rfl
theorem infoW : (Try.prog.info? 57).map (fun i => (i.zero, i.size, i.bytes)) = some (some (.agg #[.bool false, .string ⟨#[]⟩, .int .u32 0]), 3, 32) := by kernel_rfl
theorem eqW : Try.prog.eqGuardType Try.prog.depth 57 = false := by kernel_rfl
theorem neqW (dest : Bool) (flt : ByteArray) (aim : Int) (w : World) : (binOp .neq 57 (.agg #[.bool dest, .string flt, .int .u32 aim]) (.agg #[.bool dest, .string flt, .int .u32 aim])).run Try.prog w = .ok (.bool false) w := by
  simp [go_sem]
theorem guardW (op : BinOp) (a b : Operand) (x y : Array Value) (w : World) : (eqGuard op 57 a b (.agg x) (.agg y)).run Try.prog w = .ok () w :=
  run_eqGuard_agg _ _ _ _ _ _ _ eqW
/-- A whole list was copied into a new row. -/
theorem copied {W w9 : World} {v9 : Value} {ws : List RewD} {n : Nat} (hn : ws.length = n) (ho : w9.ownsRow W.heap.size 57 3 v9 (0 + ws.length) ([] ++ flatK encW ws)) (hg : (W.alloc (.cells #[] 57)).grownBy w9 (Value.slice (some ⟨W.heap.size, 0, none⟩) 0 0).ownBlock) :
    ∃ p c, v9 = .slice p n c ∧ Below W.heap.size W w9 ∧ w9.ownsRow W.heap.size 57 3 (.slice p n c) n (flatK encW ws) := by
  subst hn
  rw [Nat.zero_add, List.nil_append] at ho
  obtain ⟨p, c, rfl⟩ := own_slice ho
  exact ⟨p, c, rfl, (grown_all (W1 := W) (g := W.heap.size) ((Below.refl _ _).alloc (Nat.le_refl _) _) hg rfl (Nat.le_refl _)).2.2.2.2.2, ho⟩
theorem flatW_cons (x : RewD) (l : List RewD) : flatK encW (x :: l) = .bool x.dest :: .string x.flt :: .int .u32 x.aim :: flatK encW l := rfl
theorem flatW_set {dest b : Bool} {flt : ByteArray} {aim a : Int} : ∀ (l : List RewD) (m : Nat), l[m]? = some ⟨dest, flt, aim⟩ → ((flatK encW l).set (m * 3) (.bool b)).set (m * 3 + 2) (.int .u32 a) = flatK encW (l.set m ⟨b, flt, a⟩)
  | [], m, h => by simp at h
  | x :: l, 0, h => by
    simp at h; subst h
    rfl
  | x :: l, m + 1, h => by
    have e : (m + 1) * 3 = m * 3 + 1 + 1 + 1 := by omega
    rw [List.set_cons_succ, flatW_cons, flatW_cons, e, ← flatW_set l m (by simpa using h)]
    rfl
theorem rewAt {W : World} {p : Option Addr} {n c m : Nat} {l : List RewD} {dest : Bool} {flt : ByteArray} {aim : Int} (h : RdK encW 3 W (.slice p n c) l) (hs : l[m]? = some ⟨dest, flt, aim⟩) :
    ∃ b o, p = some ⟨b, o, none⟩ ∧ W.cell? ⟨b, o + m * 3, none⟩ = some (.bool dest) ∧ W.cell? ⟨b, o + m * 3 + 1, none⟩ = some (.string flt) ∧ W.cell? ⟨b, o + m * 3 + 2, none⟩ = some (.int .u32 aim) := by
  obtain ⟨p', c', e, _, _, h4⟩ := h
  simp only [Value.slice.injEq] at e
  obtain ⟨rfl, rfl, rfl⟩ := e
  obtain ⟨b, o, rfl, _, h6⟩ := h4 (by have := (List.getElem?_eq_some_iff.1 hs).1; omega)
  exact ⟨b, o, rfl, h6 m _ hs 0 _ rfl, h6 m _ hs 1 _ rfl, h6 m _ hs 2 _ rfl⟩
theorem rowAt {W : World} {base : Nat} {p : Option Addr} {n c m : Nat} {l : List RewD} {dest : Bool} {flt : ByteArray} {aim : Int} (h : W.ownsRow base 57 3 (.slice p n c) n (flatK encW l)) (hn : l.length = n) (hs : l[m]? = some ⟨dest, flt, aim⟩) :
    ∃ g, base ≤ g ∧ p = some ⟨g, 0, none⟩ ∧ W.cell? ⟨g, m * 3, none⟩ = some (.bool dest) ∧ W.cell? ⟨g, m * 3 + 2, none⟩ = some (.int .u32 aim) ∧ W.frozen? ⟨g, m * 3, none⟩ = false ∧ W.frozen? ⟨g, m * 3 + 2, none⟩ = false ∧
      (∀ b : Bool, (W.setCell ⟨g, m * 3, none⟩ (.bool b)).cell? ⟨g, m * 3 + 2, none⟩ = some (.int .u32 aim) ∧ (W.setCell ⟨g, m * 3, none⟩ (.bool b)).frozen? ⟨g, m * 3 + 2, none⟩ = false) ∧
      ∀ (b : Bool) (a : Int), ((W.setCell ⟨g, m * 3, none⟩ (.bool b)).setCell ⟨g, m * 3 + 2, none⟩ (.int .u32 a)).ownsRow base 57 3 (.slice (some ⟨g, 0, none⟩) n c) n (flatK encW (l.set m ⟨b, flt, a⟩)) := by
  have hm := (List.getElem?_eq_some_iff.1 hs).1
  have hh := h
  rcases h.2 with ⟨_, h0⟩ | ⟨g, cap, cur, e, hb, _⟩
  · omega
  · simp only [Value.slice.injEq] at e
    obtain ⟨rfl, _, rfl⟩ := e
    refine ⟨g, hb, rfl, ?_, ?_, hh.frozenAt _, hh.frozenAt _, fun b => ⟨?_, (hh.stored _ _).1.frozenAt _⟩, fun b a => ?_⟩
    · rw [hh.cellAt _ (by omega)]; exact (flatK_at (enc := encW) encW_len hs (j := 0) (by decide)).trans rfl
    · rw [hh.cellAt _ (by omega)]; exact (flatK_at (enc := encW) encW_len hs (j := 2) (by decide)).trans rfl
    · rw [(hh.stored _ _).1.cellAt _ (by omega), List.getElem?_set_ne (by omega)]; exact (flatK_at (enc := encW) encW_len hs (j := 2) (by decide)).trans rfl
    · rw [← flatW_set l m hs]
      exact ((hh.stored _ _).1.stored _ _).1
theorem tells (ws : List RewD) (fs : List FilD) (d : Bool) (src dst pr sp dp : Int) (hh : HdrD.ok ⟨src, dst, pr, sp, dp⟩) : ∃ i c a0 a1 a2 a3 a4 : Int, ∀ (x y u : Value) (W : World), RdK encW 3 W x ws → RdK encW 3 W y ws → RdF W u fs →
    (Calls Try.prog 15 #[x, u, .bool d, .agg #[.int .u32 src, .int .u32 dst, .int .u8 pr, .int .u16 sp, .int .u16 dp]] W fun e w' => e = .returned (.tuple #[.int .i64 i, .int .i64 c]) ∧ Below W.heap.size W w') ∧ (Calls Try.prog 16 #[y, u, .bool d, .agg #[.int .u32 src, .int .u32 dst, .int .u8 pr, .int .u16 sp, .int .u16 dp]] W fun e w' => e = .returned (.tuple #[.int .i64 i, .int .i64 c]) ∧ Below W.heap.size W w') ∧ (Calls Try.prog 17 #[x, u, .bool d, .agg #[.int .u32 src, .int .u32 dst, .int .u8 pr, .int .u16 sp, .int .u16 dp]] W fun e w' => e = .returned (.tuple #[.agg #[.int .u32 a0, .int .u32 a1, .int .u8 a2, .int .u16 a3, .int .u16 a4], .int .i64 c]) ∧ Below W.heap.size W w') ∧ (Calls Try.prog 18 #[y, u, .bool d, .agg #[.int .u32 src, .int .u32 dst, .int .u8 pr, .int .u16 sp, .int .u16 dp]] W fun e w' => e = .returned (.tuple #[.agg #[.int .u32 a0, .int .u32 a1, .int .u8 a2, .int .u16 a3, .int .u16 a4], .int .i64 c]) ∧ Below W.heap.size W w') ∧ (Calls Try.prog 19 #[x, u] W fun e w' => e = .returned (.int .i64 c) ∧ Below W.heap.size W w') ∧ (Calls Try.prog 20 #[y, u] W fun e w' => e = .returned (.int .i64 c) ∧ Below W.heap.size W w') := by
  obtain ⟨c, hc⟩ : ∃ c, ckWs ws fs = c := ⟨_, rfl⟩
  by_cases h0 : c = 0
  · subst h0
    obtain ⟨⟨a0, a1, a2, a3, a4⟩, ha⟩ : ∃ a, appH ws fs d ⟨src, dst, pr, sp, dp⟩ = a := ⟨_, rfl⟩
    refine ⟨firI ws fs d ⟨src, dst, pr, sp, dp⟩, 0, a0, a1, a2, a3, a4, fun x y u W hx hy hu => ⟨first_ok ws fs x u d _ W hx hu hh hc, rfirst_ok ws fs y u d _ W hy hu hh hc, ?_, ?_, ?_, ?_⟩⟩
    · have := apply_ok ws fs x u d _ W hx hu hh hc
      rw [ha] at this; exact this
    · have := rapply_ok ws fs y u d _ W hy hu hh hc
      rw [ha] at this; exact this
    · have := chk_is ws fs x u W hx hu
      rw [hc] at this; exact this
    · have := rchk_is ws fs y u W hy hu
      rw [hc] at this; exact this
  · refine ⟨0, c, 0, 0, 0, 0, 0, fun x y u W hx hy hu => ⟨first_no ws fs x u d ⟨src, dst, pr, sp, dp⟩ W c hx hu hc h0, rfirst_no ws fs y u d ⟨src, dst, pr, sp, dp⟩ W c hy hu hc h0, apply_no ws fs x u d ⟨src, dst, pr, sp, dp⟩ W c hx hu hc h0, rapply_no ws fs y u d ⟨src, dst, pr, sp, dp⟩ W c hy hu hc h0, ?_, ?_⟩⟩
    · have := chk_is ws fs x u W hx hu
      rw [hc] at this; exact this
    · have := rchk_is ws fs y u W hy hu
      rw [hc] at this; exact this
set_option maxRecDepth 100000 in
set_option maxHeartbeats 8000000 in
theorem ra_is (ws : List RewD) (fs : List FilD) (v u : Value) (d : Bool) (h : HdrD) (pl : Int) (w : World) (hr : RdK encW 3 w v ws) (hlen : ws.length * 32 ≤ 140737488351232) (hf : RdF w u fs) (hh : h.ok) :
    Calls Try.prog 4 #[v, u, .bool d, vH h, .int .i64 pl] w fun e w' => e = .returned (.bool true) ∧ Below w.heap.size w w' := by
  obtain ⟨p, c, rfl, hlc, hcm, hp⟩ := hr.sl
  obtain ⟨src, dst, pr, sp, dp⟩ := h
  obtain ⟨W1, hW1⟩ : ∃ W, w.alloc (.cells #[.int .u32 src, .int .u32 dst, .int .u8 pr, .int .u16 sp, .int .u16 dp] 40) = W := ⟨_, rfl⟩
  have HB1 : Hid (Below w.heap.size w W1) := Lib.hid (by rw [← hW1]; exact (Below.refl _ _).alloc (Nat.le_refl _) _)
  have HX1 : Hid (W1.heap[w.heap.size]? = some (.cells #[.int .u32 src, .int .u32 dst, .int .u8 pr, .int .u16 sp, .int .u16 dp] 40 (0, 0))) := Lib.hid (by rw [← hW1]; exact heap_new _ _)
  have HR1 : Hid (RdK encW 3 (W1.alloc (.cells #[] 57)) (.slice p ws.length c) ws) := Lib.hid ((hr.below HB1.out).below ((Below.refl _ _).alloc (Nat.le_refl _) _))
  have HHC : Hid (∀ W, Below W1.heap.size W1 W → W.cell? ⟨w.heap.size, 0, none⟩ = some (.int .u32 src) ∧ W.cell? ⟨w.heap.size, 1, none⟩ = some (.int .u32 dst) ∧ W.cell? ⟨w.heap.size, 2, none⟩ = some (.int .u8 pr) ∧ W.cell? ⟨w.heap.size, 3, none⟩ = some (.int .u16 sp) ∧ W.cell? ⟨w.heap.size, 4, none⟩ = some (.int .u16 dp)) := Lib.hid fun W hb => by
    have hlt := (Array.getElem?_eq_some_iff.1 HX1.out).1
    exact hdr_cells ((hb.block w.heap.size hlt).trans HX1.out)
  have HF : Hid (RdF W1 u fs) := Lib.hid (hf.below HB1.out)
  have HH := Lib.hid hh
  have HL := Lib.hid hlen
  have hml : ws.length ≤ maxLen := by unfold maxLen; omega
  have HML := Lib.hid hml
  have hw63 : ws.length ≤ 4398046511104 := by omega
  show Calls _ _ #[_, _, _, .agg #[.int .u32 src, .int .u32 dst, .int .u8 pr, .int .u16 sp, .int .u16 dp], _] _ _
  clear hp hr hf hh hlen hml hcm
  go_enter Try.func4, Try.ntmps4
  go_wp2_with (at_builtin; refine wpList_append_rdk (enc := encW) encW_len (by decide) encW_one rfl (.tmp 23) (.tmp 24) 49 57 rfl _ 32 Try.underlying49 rfl infoW W1.heap.size (.slice (some ⟨W1.heap.size, 0, none⟩) 0 0) 0 [] rfl (own_empty (heap_new _ _) (Nat.le_refl _)) _ ws rfl HR1.out (by have := HML.out; omega) (by have := HL.out; omega) (by simp) ?_; intro v9 w9 hown9 hgr9 hor9; clear hor9; obtain ⟨p9, c9, rfl, hB9, hO9⟩ := copied rfl hown9 hgr9; have HB9 := Lib.hid hB9; have HO9 := Lib.hid hO9; clear hown9 hgr9 hB9 hO9)
  go_loopw [12] (fun t wr => ∃ (k : Nat) (l : List RewD), k ≤ 2 ∧ t = .int .i64 k ∧ Hid (l.length = ws.length) ∧ Hid (wr.ownsRow W1.heap.size 57 3 (.slice p9 ws.length c9) ws.length (flatK encW l)) ∧ Below W1.heap.size W1 wr) (fun t _ => 2 - (intOf t).toNat)
  case atStart => exact ⟨0, ws, by omega, rfl, Lib.hid rfl, HO9, HB9.out⟩
  case round =>
    obtain ⟨wo, rfl⟩ : ∃ wo : World, wo = wr := ⟨_, rfl⟩
    obtain ⟨k, l, hk, rfl, HLL, HOW, hbw⟩ := hrel
    have HW := Lib.hid hbw
    clear hbw
    by_cases hk2 : k < 2
    · have k1 : (k : Int) < 2 := by omega
      have HRI : Hid (RdK encW 3 (wo.alloc (.cells #[] 57)) (.slice p9 ws.length c9) l) := Lib.hid ((RdK.of_own encW_len (by rw [HLL.out]; exact HOW.out)).below ((Below.refl _ _).alloc (Nat.le_refl _) _))
      go_wp2_with (at_builtin; refine wpList_append_rdk (enc := encW) encW_len (by decide) encW_one rfl (.tmp 30) (.tmp 31) 49 57 rfl _ 32 Try.underlying49 rfl infoW wo.heap.size (.slice (some ⟨wo.heap.size, 0, none⟩) 0 0) 0 [] rfl (own_empty (heap_new _ _) (Nat.le_refl _)) _ l rfl HRI.out (by have := HML.out; have := HLL.out; omega) (by have := HL.out; have := HLL.out; omega) (by simp) ?_; intro v10 w10 hown10 hgr10 hor10; clear hor10; obtain ⟨p10, c10, rfl, hB10, hO10⟩ := copied HLL.out hown10 hgr10; have HB10 := Lib.hid hB10; have HO10 := Lib.hid hO10; clear hown10 hgr10 hB10 hO10; obtain ⟨x0, x1, x2, x3, x4⟩ := HHC.out w10 (Below.trans HW.out (HB10.out.mono HW.out.size)))
      obtain ⟨i, cc, a0, a1, a2, a3, a4, HT⟩ := tells l fs d src dst pr sp dp HH.out
      have HT : Hid (∀ W, Below w10.heap.size w10 W → (Calls Try.prog 15 #[.slice p9 ws.length c9, u, .bool d, .agg #[.int .u32 src, .int .u32 dst, .int .u8 pr, .int .u16 sp, .int .u16 dp]] W fun e w' => e = .returned (.tuple #[.int .i64 i, .int .i64 cc]) ∧ Below W.heap.size W w') ∧ (Calls Try.prog 16 #[.slice p10 ws.length c10, u, .bool d, .agg #[.int .u32 src, .int .u32 dst, .int .u8 pr, .int .u16 sp, .int .u16 dp]] W fun e w' => e = .returned (.tuple #[.int .i64 i, .int .i64 cc]) ∧ Below W.heap.size W w') ∧ (Calls Try.prog 17 #[.slice p9 ws.length c9, u, .bool d, .agg #[.int .u32 src, .int .u32 dst, .int .u8 pr, .int .u16 sp, .int .u16 dp]] W fun e w' => e = .returned (.tuple #[.agg #[.int .u32 a0, .int .u32 a1, .int .u8 a2, .int .u16 a3, .int .u16 a4], .int .i64 cc]) ∧ Below W.heap.size W w') ∧ (Calls Try.prog 18 #[.slice p10 ws.length c10, u, .bool d, .agg #[.int .u32 src, .int .u32 dst, .int .u8 pr, .int .u16 sp, .int .u16 dp]] W fun e w' => e = .returned (.tuple #[.agg #[.int .u32 a0, .int .u32 a1, .int .u8 a2, .int .u16 a3, .int .u16 a4], .int .i64 cc]) ∧ Below W.heap.size W w') ∧ (Calls Try.prog 19 #[.slice p9 ws.length c9, u] W fun e w' => e = .returned (.int .i64 cc) ∧ Below W.heap.size W w') ∧ (Calls Try.prog 20 #[.slice p10 ws.length c10, u] W fun e w' => e = .returned (.int .i64 cc) ∧ Below W.heap.size W w')) := Lib.hid fun W hb =>
        have hW10 := Below.trans HW.out (HB10.out.mono HW.out.size)
        HT _ _ _ W (((RdK.of_own encW_len (by rw [HLL.out]; exact HOW.out)).below HB10.out).below hb) ((RdK.of_own encW_len (by rw [HLL.out]; exact HO10.out)).below hb) ((HF.out.below hW10).below hb)
      have HW10 := Lib.hid (Below.trans HW.out (HB10.out.mono HW.out.size))
      have hzz : (cc != cc) = false := by simp
      have hii : (i != i) = false := by simp
      go_at_call 15
      (with_reducible refine ((HT.out w10 (Below.refl _ _)).1).mono ?_)
      rintro e w11 ⟨rfl, hbw11⟩
      have HB11 := Lib.hid hbw11
      clear hbw11
      clear x0 x1 x2 x3 x4
      obtain ⟨x0, x1, x2, x3, x4⟩ := HHC.out w11 (Below.trans HW10.out (HB11.out.mono HW10.out.size))
      go_wp2_with fail
      go_at_call 16
      (with_reducible refine ((HT.out w11 HB11.out).2.1).mono ?_)
      rintro e w12 ⟨rfl, hbw12⟩
      have HB12 := Lib.hid (Below.step HB11.out hbw12)
      clear hbw12
      clear x0 x1 x2 x3 x4
      obtain ⟨x0, x1, x2, x3, x4⟩ := HHC.out w12 (Below.trans HW10.out (HB12.out.mono HW10.out.size))
      go_wp2_with fail
      go_at_call 17
      (with_reducible refine ((HT.out w12 HB12.out).2.2.1).mono ?_)
      rintro e w13 ⟨rfl, hbw13⟩
      have HB13 := Lib.hid (Below.step HB12.out hbw13)
      obtain ⟨w14, hw14⟩ : ∃ X, w13.alloc (.cells #[.int .u32 a0, .int .u32 a1, .int .u8 a2, .int .u16 a3, .int .u16 a4] 40) = X := ⟨_, rfl⟩
      have hbw14 : Below w13.heap.size w13 w14 := by rw [← hw14]; exact (Below.refl _ _).alloc (Nat.le_refl _) _
      have HA14 : Hid (w14.heap[w13.heap.size]? = some (.cells #[.int .u32 a0, .int .u32 a1, .int .u8 a2, .int .u16 a3, .int .u16 a4] 40 (0, 0))) := Lib.hid (by rw [← hw14]; exact heap_new _ _)
      have HB14 := Lib.hid (Below.step HB13.out hbw14)
      clear hbw13 hbw14
      clear x0 x1 x2 x3 x4
      obtain ⟨x0, x1, x2, x3, x4⟩ := HHC.out w14 (Below.trans HW10.out (HB14.out.mono HW10.out.size))
      go_wp2_with fail
      go_at_call 18
      (with_reducible refine ((HT.out w14 HB14.out).2.2.2.1).mono ?_)
      rintro e w15 ⟨rfl, hbw15⟩
      have HB15 := Lib.hid (Below.step HB14.out hbw15)
      have HA15 := Lib.hid ((hbw15.block w13.heap.size (Array.getElem?_eq_some_iff.1 HA14.out).1).trans HA14.out)
      obtain ⟨w16, hw16⟩ : ∃ X, w15.alloc (.cells #[.int .u32 a0, .int .u32 a1, .int .u8 a2, .int .u16 a3, .int .u16 a4] 40) = X := ⟨_, rfl⟩
      have hbw16 : Below w15.heap.size w15 w16 := by rw [← hw16]; exact (Below.refl _ _).alloc (Nat.le_refl _) _
      have HA16 : Hid (w16.heap[w15.heap.size]? = some (.cells #[.int .u32 a0, .int .u32 a1, .int .u8 a2, .int .u16 a3, .int .u16 a4] 40 (0, 0))) := Lib.hid (by rw [← hw16]; exact heap_new _ _)
      have HB16 := Lib.hid (Below.step HB15.out hbw16)
      have HA17 := Lib.hid ((hbw16.block w13.heap.size (Array.getElem?_eq_some_iff.1 HA15.out).1).trans HA15.out)
      clear hbw15 hbw16
      clear x0 x1 x2 x3 x4
      obtain ⟨x0, x1, x2, x3, x4⟩ := HHC.out w16 (Below.trans HW10.out (HB16.out.mono HW10.out.size))
      go_wp2_with fail
      go_at_call 19
      (with_reducible refine ((HT.out w16 HB16.out).2.2.2.2.1).mono ?_)
      rintro e w17 ⟨rfl, hbw17⟩
      have HB17 := Lib.hid (Below.step HB16.out hbw17)
      have HBX := Lib.hid hbw17
      clear hbw17
      go_wp2_with fail
      go_at_call 20
      (with_reducible refine ((HT.out w17 HB17.out).2.2.2.2.2).mono ?_)
      rintro e w18 ⟨rfl, hbw18⟩
      have HB18 := Lib.hid (Below.step HB17.out hbw18)
      obtain ⟨y0, y1, y2, y3, y4⟩ := hdr_cells (((Below.step HBX.out hbw18).block w13.heap.size (Array.getElem?_eq_some_iff.1 HA17.out).1).trans HA17.out)
      obtain ⟨z0, z1, z2, z3, z4⟩ := hdr_cells (((Below.step HBX.out hbw18).block w15.heap.size (Array.getElem?_eq_some_iff.1 HA16.out).1).trans HA16.out)
      have HSM : Hid (Calls Try.prog 21 #[.agg #[.int .u32 a0, .int .u32 a1, .int .u8 a2, .int .u16 a3, .int .u16 a4], .agg #[.int .u32 a0, .int .u32 a1, .int .u8 a2, .int .u16 a3, .int .u16 a4]] w18 fun e w' => e = .returned (.bool true) ∧ Below w18.heap.size w18 w') := Lib.hid (same_is ⟨a0, a1, a2, a3, a4⟩ w18)
      clear hbw18 x0 x1 x2 x3 x4
      go_wp2_with fail
      go_at_call 21
      (with_reducible refine HSM.out.mono ?_)
      rintro e w19 ⟨rfl, hbw19⟩
      have HB19 := Lib.hid (Below.step HB18.out hbw19)
      clear hbw19 y0 y1 y2 y3 y4 z0 z1 z2 z3 z4
      go_wp2
      go_loopw [22] (fun j wr => ∃ m : Nat, m ≤ ws.length ∧ j = .int .i64 m ∧ Below w10.heap.size w10 wr) (fun j _ => ws.length - (intOf j).toNat)
      case atStart => exact ⟨0, Nat.zero_le _, rfl, HB19.out⟩
      case round =>
        obtain ⟨m, hm, rfl, hbm⟩ := hrel
        have HM := Lib.hid hbm
        clear hbm
        by_cases hlt : m < ws.length
        · obtain ⟨⟨dest, flt, aim⟩, hs⟩ : ∃ r, l[m]? = some r := ⟨_, List.getElem?_eq_getElem (by rw [HLL.out]; exact hlt)⟩
          obtain ⟨b, o, rfl, c0, c1, c2⟩ := rewAt (((RdK.of_own encW_len (by rw [HLL.out]; exact HOW.out)).below HB10.out).below HM.out) hs
          obtain ⟨b', o', rfl, d0, d1, d2⟩ := rewAt ((RdK.of_own encW_len (by rw [HLL.out]; exact HO10.out)).below HM.out) hs
          have e1 : (0 : Int) ≤ (m : Int) := by omega
          have e2 : (m : Int) < (ws.length : Int) := by omega
          have hn1 := neqW dest flt aim
          have hg1 := fun op a b w => guardW op a b #[.bool dest, .string flt, .int .u32 aim] #[.bool dest, .string flt, .int .u32 aim] w
          clear hs
          go_wp2
          go_quiet (fail)
          go_wp2
          go_roundw
          case rel => exact ⟨m + 1, by omega, by go_num, by first | exact HM.out.drew | exact Below.draws HM.out _⟩
          case measure => simp [intOf]; omega
        · have e2 : ¬ (m : Int) < (ws.length : Int) := by omega
          have HBW := Lib.hid (Below.trans HW10.out (HM.out.mono HW10.out.size))
          have HOR : Hid (wr.ownsRow W1.heap.size 57 3 (.slice p9 ws.length c9) ws.length (flatK encW l)) := Lib.hid (ownsRow_of HOW.out fun g _ _ hg => by
            have := HB10.out.size
            exact (HM.out.block g (by omega)).trans (HB10.out.block g hg))
          by_cases hat : 0 ≤ pl ∧ pl < (ws.length : Int)
          · obtain ⟨q, rfl⟩ : ∃ q : Nat, pl = q := ⟨pl.toNat, by omega⟩
            obtain ⟨h1, h2⟩ := hat
            have hql : q < ws.length := by omega
            obtain ⟨⟨dest, flt, aim⟩, hq⟩ : ∃ r, l[q]? = some r := ⟨_, List.getElem?_eq_getElem (by rw [HLL.out]; exact hql)⟩
            obtain ⟨g, hg, rfl, c0, c2, f0, f2, hx, hst⟩ := rowAt HOR.out HLL.out hq
            have HG := Lib.hid hg
            have HST := Lib.hid hst
            have HQ := Lib.hid hq
            clear hg hst hq
            obtain ⟨W20, hW20⟩ : ∃ X, wr.setCell ⟨g, q * 3, none⟩ (.bool !dest) = X := ⟨_, rfl⟩
            have x2 : W20.cell? ⟨g, q * 3 + 2, none⟩ = some (.int .u32 aim) := by rw [← hW20]; exact (hx _).1
            have xf : W20.frozen? ⟨g, q * 3 + 2, none⟩ = false := by rw [← hW20]; exact (hx _).2
            clear hx
            have HST : Hid (∀ a : Int, (W20.setCell ⟨g, q * 3 + 2, none⟩ (.int .u32 a)).ownsRow W1.heap.size 57 3 (.slice (some ⟨g, 0, none⟩) ws.length c9) ws.length (flatK encW (l.set q ⟨!dest, flt, a⟩))) := Lib.hid fun a => by rw [← hW20]; exact HST.out _ _
            have HB20 : Hid (Below W1.heap.size W1 W20) := Lib.hid (by rw [← hW20]; exact HBW.out.setCell (p := ⟨g, q * 3, none⟩) HG.out _)
            go_wp2
            go_roundw
            case rel => exact ⟨k + 1, _, by omega, by go_num, Lib.hid (by rw [List.length_set]; exact HLL.out), Lib.hid (HST.out _), HB20.out.setCell (p := ⟨g, q * 3 + 2, none⟩) HG.out _⟩
            case measure => simp [intOf]; omega
          · by_cases h1 : 0 ≤ pl
            · have h2 : ¬ pl < (ws.length : Int) := fun h => hat ⟨h1, h⟩
              clear hat
              go_wp2
              go_roundw
              case rel => exact ⟨k + 1, l, by omega, by go_num, HLL, HOR, HBW.out⟩
              case measure => simp [intOf]; omega
            · clear hat
              go_wp2
              go_roundw
              case rel => exact ⟨k + 1, l, by omega, by go_num, HLL, HOR, HBW.out⟩
              case measure => simp [intOf]; omega
    · have k1 : ¬ (k : Int) < 2 := by omega
      go_wp2
      go_ret
      exact ⟨rfl, HB1.out.trans (HW.out.mono HB1.out.size)⟩
end Go.Proofs.Ythooiigdembgcaa
