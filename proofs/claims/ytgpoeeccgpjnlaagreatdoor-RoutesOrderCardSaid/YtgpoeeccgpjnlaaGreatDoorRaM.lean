/- The law RoutesOrder. Conditions: the table of package strconv and the words of package routes are what their texts say. -/
import Derived.Test.YtgpoeeccgpjnlaaGreatDoorRaV
import Derived.Test.YtgpoeeccgpjnlaaGreatDoorRaN
namespace Go.Proofs.YtgpoeeccgpjnlaaGreatDoor
open Go.RowKit Go.Shelf
set_option maxRecDepth 100000 in
set_option maxHeartbeats 32000000 in
theorem order_law (a b c : RtD) (v : Value) (l0 : List RtD) (x y z : AdD) (w : World) (hl : RdK encRt 9 w v l0) (hx : RdA w x) (hy : RdA w y) (hz : RdA w z) (ht : Tab10 w) (hs : Src9 w) :
    Calls Tryz.prog 3 #[.agg #[.int .u32 a.a, .int .i64 a.b, .int .u8 a.fr, .int .i64 a.di, .int .i64 a.me, .int .i64 a.ta, .string a.nm, .int .u32 a.ho, .bool a.dc], .agg #[.int .u32 b.a, .int .i64 b.b, .int .u8 b.fr, .int .i64 b.di, .int .i64 b.me, .int .i64 b.ta, .string b.nm, .int .u32 b.ho, .bool b.dc], .agg #[.int .u32 c.a, .int .i64 c.b, .int .u8 c.fr, .int .i64 c.di, .int .i64 c.me, .int .i64 c.ta, .string c.nm, .int .u32 c.ho, .bool c.dc], v, .agg #[.int .u32 x.a, .int .i64 x.b, .int .u32 x.ho, .int .i64 x.pf, .int .i64 x.me, x.vpa, x.vco, .int .u32 x.pe, .int .u32 x.pi, .bool x.ex, .int .u32 x.og, x.vcl, .int .i64 x.se], .agg #[.int .u32 y.a, .int .i64 y.b, .int .u32 y.ho, .int .i64 y.pf, .int .i64 y.me, y.vpa, y.vco, .int .u32 y.pe, .int .u32 y.pi, .bool y.ex, .int .u32 y.og, y.vcl, .int .i64 y.se], .agg #[.int .u32 z.a, .int .i64 z.b, .int .u32 z.ho, .int .i64 z.pf, .int .i64 z.me, z.vpa, z.vco, .int .u32 z.pe, .int .u32 z.pi, .bool z.ex, .int .u32 z.og, z.vcl, .int .i64 z.se]] w fun e w' => e = .returned (.bool true) ∧ Below w.heap.size w w' := by
  obtain ⟨p0, c0, rfl, hc0, hm0, _⟩ := hl.sl
  have HL := Lib.hid hl; have HRX := Lib.hid (And.intro hx (And.intro hy hz)); have HT := Lib.hid ht; have HS := Lib.hid hs
  clear hl hx hy hz ht hs
  obtain ⟨Z, hZ⟩ : ∃ X, ((((((w.alloc (.cells #[.int .u32 a.a, .int .i64 a.b, .int .u8 a.fr, .int .i64 a.di, .int .i64 a.me, .int .i64 a.ta, .string a.nm, .int .u32 a.ho, .bool a.dc] 27)).alloc (.cells #[.int .u32 b.a, .int .i64 b.b, .int .u8 b.fr, .int .i64 b.di, .int .i64 b.me, .int .i64 b.ta, .string b.nm, .int .u32 b.ho, .bool b.dc] 27)).alloc (.cells #[.int .u32 c.a, .int .i64 c.b, .int .u8 c.fr, .int .i64 c.di, .int .i64 c.me, .int .i64 c.ta, .string c.nm, .int .u32 c.ho, .bool c.dc] 27)).alloc (.cells #[.int .u32 x.a, .int .i64 x.b, .int .u32 x.ho, .int .i64 x.pf, .int .i64 x.me, x.vpa, x.vco, .int .u32 x.pe, .int .u32 x.pi, .bool x.ex, .int .u32 x.og, x.vcl, .int .i64 x.se] 32)).alloc (.cells #[.int .u32 y.a, .int .i64 y.b, .int .u32 y.ho, .int .i64 y.pf, .int .i64 y.me, y.vpa, y.vco, .int .u32 y.pe, .int .u32 y.pi, .bool y.ex, .int .u32 y.og, y.vcl, .int .i64 y.se] 32)).alloc (.cells #[.int .u32 z.a, .int .i64 z.b, .int .u32 z.ho, .int .i64 z.pf, .int .i64 z.me, z.vpa, z.vco, .int .u32 z.pe, .int .u32 z.pi, .bool z.ex, .int .u32 z.og, z.vcl, .int .i64 z.se] 32)) = X := ⟨_, rfl⟩
  have HBZ : Hid (Below w.heap.size w Z) := Lib.hid (by rw [← hZ]; exact (((((((Below.refl _ _).alloc (Nat.le_refl _) _)).alloc (by simp <;> omega) _).alloc (by simp <;> omega) _).alloc (by simp <;> omega) _).alloc (by simp <;> omega) _).alloc (by simp <;> omega) _)
  have hz : Z.heap.size = w.heap.size + 6 := by rw [← hZ]; simp
  have z0 : Z.heap[w.heap.size]? = some (.cells #[.int .u32 a.a, .int .i64 a.b, .int .u8 a.fr, .int .i64 a.di, .int .i64 a.me, .int .i64 a.ta, .string a.nm, .int .u32 a.ho, .bool a.dc] 27 (0, 0)) := by
    rw [← hZ, heap_old' _ _ _ (by simp <;> omega), heap_old' _ _ _ (by simp <;> omega), heap_old' _ _ _ (by simp <;> omega), heap_old' _ _ _ (by simp <;> omega), heap_old' _ _ _ (by simp <;> omega)]
    have := heap_new' w (.cells #[.int .u32 a.a, .int .i64 a.b, .int .u8 a.fr, .int .i64 a.di, .int .i64 a.me, .int .i64 a.ta, .string a.nm, .int .u32 a.ho, .bool a.dc] 27)
    simpa using this
  have z1 : Z.heap[w.heap.size + 1]? = some (.cells #[.int .u32 b.a, .int .i64 b.b, .int .u8 b.fr, .int .i64 b.di, .int .i64 b.me, .int .i64 b.ta, .string b.nm, .int .u32 b.ho, .bool b.dc] 27 (0, 0)) := by
    rw [← hZ, heap_old' _ _ _ (by simp <;> omega), heap_old' _ _ _ (by simp <;> omega), heap_old' _ _ _ (by simp <;> omega), heap_old' _ _ _ (by simp <;> omega)]
    have := heap_new' (w.alloc (.cells #[.int .u32 a.a, .int .i64 a.b, .int .u8 a.fr, .int .i64 a.di, .int .i64 a.me, .int .i64 a.ta, .string a.nm, .int .u32 a.ho, .bool a.dc] 27)) (.cells #[.int .u32 b.a, .int .i64 b.b, .int .u8 b.fr, .int .i64 b.di, .int .i64 b.me, .int .i64 b.ta, .string b.nm, .int .u32 b.ho, .bool b.dc] 27)
    simpa using this
  have z2 : Z.heap[w.heap.size + 2]? = some (.cells #[.int .u32 c.a, .int .i64 c.b, .int .u8 c.fr, .int .i64 c.di, .int .i64 c.me, .int .i64 c.ta, .string c.nm, .int .u32 c.ho, .bool c.dc] 27 (0, 0)) := by
    rw [← hZ, heap_old' _ _ _ (by simp <;> omega), heap_old' _ _ _ (by simp <;> omega), heap_old' _ _ _ (by simp <;> omega)]
    have := heap_new' ((w.alloc (.cells #[.int .u32 a.a, .int .i64 a.b, .int .u8 a.fr, .int .i64 a.di, .int .i64 a.me, .int .i64 a.ta, .string a.nm, .int .u32 a.ho, .bool a.dc] 27)).alloc (.cells #[.int .u32 b.a, .int .i64 b.b, .int .u8 b.fr, .int .i64 b.di, .int .i64 b.me, .int .i64 b.ta, .string b.nm, .int .u32 b.ho, .bool b.dc] 27)) (.cells #[.int .u32 c.a, .int .i64 c.b, .int .u8 c.fr, .int .i64 c.di, .int .i64 c.me, .int .i64 c.ta, .string c.nm, .int .u32 c.ho, .bool c.dc] 27)
    simpa using this
  have z3 : Z.heap[w.heap.size + 3]? = some (.cells #[.int .u32 x.a, .int .i64 x.b, .int .u32 x.ho, .int .i64 x.pf, .int .i64 x.me, x.vpa, x.vco, .int .u32 x.pe, .int .u32 x.pi, .bool x.ex, .int .u32 x.og, x.vcl, .int .i64 x.se] 32 (0, 0)) := by
    rw [← hZ, heap_old' _ _ _ (by simp <;> omega), heap_old' _ _ _ (by simp <;> omega)]
    have := heap_new' (((w.alloc (.cells #[.int .u32 a.a, .int .i64 a.b, .int .u8 a.fr, .int .i64 a.di, .int .i64 a.me, .int .i64 a.ta, .string a.nm, .int .u32 a.ho, .bool a.dc] 27)).alloc (.cells #[.int .u32 b.a, .int .i64 b.b, .int .u8 b.fr, .int .i64 b.di, .int .i64 b.me, .int .i64 b.ta, .string b.nm, .int .u32 b.ho, .bool b.dc] 27)).alloc (.cells #[.int .u32 c.a, .int .i64 c.b, .int .u8 c.fr, .int .i64 c.di, .int .i64 c.me, .int .i64 c.ta, .string c.nm, .int .u32 c.ho, .bool c.dc] 27)) (.cells #[.int .u32 x.a, .int .i64 x.b, .int .u32 x.ho, .int .i64 x.pf, .int .i64 x.me, x.vpa, x.vco, .int .u32 x.pe, .int .u32 x.pi, .bool x.ex, .int .u32 x.og, x.vcl, .int .i64 x.se] 32)
    simpa using this
  have z4 : Z.heap[w.heap.size + 4]? = some (.cells #[.int .u32 y.a, .int .i64 y.b, .int .u32 y.ho, .int .i64 y.pf, .int .i64 y.me, y.vpa, y.vco, .int .u32 y.pe, .int .u32 y.pi, .bool y.ex, .int .u32 y.og, y.vcl, .int .i64 y.se] 32 (0, 0)) := by
    rw [← hZ, heap_old' _ _ _ (by simp <;> omega)]
    have := heap_new' ((((w.alloc (.cells #[.int .u32 a.a, .int .i64 a.b, .int .u8 a.fr, .int .i64 a.di, .int .i64 a.me, .int .i64 a.ta, .string a.nm, .int .u32 a.ho, .bool a.dc] 27)).alloc (.cells #[.int .u32 b.a, .int .i64 b.b, .int .u8 b.fr, .int .i64 b.di, .int .i64 b.me, .int .i64 b.ta, .string b.nm, .int .u32 b.ho, .bool b.dc] 27)).alloc (.cells #[.int .u32 c.a, .int .i64 c.b, .int .u8 c.fr, .int .i64 c.di, .int .i64 c.me, .int .i64 c.ta, .string c.nm, .int .u32 c.ho, .bool c.dc] 27)).alloc (.cells #[.int .u32 x.a, .int .i64 x.b, .int .u32 x.ho, .int .i64 x.pf, .int .i64 x.me, x.vpa, x.vco, .int .u32 x.pe, .int .u32 x.pi, .bool x.ex, .int .u32 x.og, x.vcl, .int .i64 x.se] 32)) (.cells #[.int .u32 y.a, .int .i64 y.b, .int .u32 y.ho, .int .i64 y.pf, .int .i64 y.me, y.vpa, y.vco, .int .u32 y.pe, .int .u32 y.pi, .bool y.ex, .int .u32 y.og, y.vcl, .int .i64 y.se] 32)
    simpa using this
  have z5 : Z.heap[w.heap.size + 5]? = some (.cells #[.int .u32 z.a, .int .i64 z.b, .int .u32 z.ho, .int .i64 z.pf, .int .i64 z.me, z.vpa, z.vco, .int .u32 z.pe, .int .u32 z.pi, .bool z.ex, .int .u32 z.og, z.vcl, .int .i64 z.se] 32 (0, 0)) := by
    rw [← hZ]
    have := heap_new' (((((w.alloc (.cells #[.int .u32 a.a, .int .i64 a.b, .int .u8 a.fr, .int .i64 a.di, .int .i64 a.me, .int .i64 a.ta, .string a.nm, .int .u32 a.ho, .bool a.dc] 27)).alloc (.cells #[.int .u32 b.a, .int .i64 b.b, .int .u8 b.fr, .int .i64 b.di, .int .i64 b.me, .int .i64 b.ta, .string b.nm, .int .u32 b.ho, .bool b.dc] 27)).alloc (.cells #[.int .u32 c.a, .int .i64 c.b, .int .u8 c.fr, .int .i64 c.di, .int .i64 c.me, .int .i64 c.ta, .string c.nm, .int .u32 c.ho, .bool c.dc] 27)).alloc (.cells #[.int .u32 x.a, .int .i64 x.b, .int .u32 x.ho, .int .i64 x.pf, .int .i64 x.me, x.vpa, x.vco, .int .u32 x.pe, .int .u32 x.pi, .bool x.ex, .int .u32 x.og, x.vcl, .int .i64 x.se] 32)).alloc (.cells #[.int .u32 y.a, .int .i64 y.b, .int .u32 y.ho, .int .i64 y.pf, .int .i64 y.me, y.vpa, y.vco, .int .u32 y.pe, .int .u32 y.pi, .bool y.ex, .int .u32 y.og, y.vcl, .int .i64 y.se] 32)) (.cells #[.int .u32 z.a, .int .i64 z.b, .int .u32 z.ho, .int .i64 z.pf, .int .i64 z.me, z.vpa, z.vco, .int .u32 z.pe, .int .u32 z.pi, .bool z.ex, .int .u32 z.og, z.vcl, .int .i64 z.se] 32)
    simpa using this
  have HK : Hid (∀ W, Below Z.heap.size Z W → W.heap[w.heap.size]? = some (.cells #[.int .u32 a.a, .int .i64 a.b, .int .u8 a.fr, .int .i64 a.di, .int .i64 a.me, .int .i64 a.ta, .string a.nm, .int .u32 a.ho, .bool a.dc] 27 (0, 0)) ∧ W.heap[w.heap.size + 1]? = some (.cells #[.int .u32 b.a, .int .i64 b.b, .int .u8 b.fr, .int .i64 b.di, .int .i64 b.me, .int .i64 b.ta, .string b.nm, .int .u32 b.ho, .bool b.dc] 27 (0, 0)) ∧ W.heap[w.heap.size + 2]? = some (.cells #[.int .u32 c.a, .int .i64 c.b, .int .u8 c.fr, .int .i64 c.di, .int .i64 c.me, .int .i64 c.ta, .string c.nm, .int .u32 c.ho, .bool c.dc] 27 (0, 0)) ∧ W.heap[w.heap.size + 3]? = some (.cells #[.int .u32 x.a, .int .i64 x.b, .int .u32 x.ho, .int .i64 x.pf, .int .i64 x.me, x.vpa, x.vco, .int .u32 x.pe, .int .u32 x.pi, .bool x.ex, .int .u32 x.og, x.vcl, .int .i64 x.se] 32 (0, 0)) ∧ W.heap[w.heap.size + 4]? = some (.cells #[.int .u32 y.a, .int .i64 y.b, .int .u32 y.ho, .int .i64 y.pf, .int .i64 y.me, y.vpa, y.vco, .int .u32 y.pe, .int .u32 y.pi, .bool y.ex, .int .u32 y.og, y.vcl, .int .i64 y.se] 32 (0, 0)) ∧ W.heap[w.heap.size + 5]? = some (.cells #[.int .u32 z.a, .int .i64 z.b, .int .u32 z.ho, .int .i64 z.pf, .int .i64 z.me, z.vpa, z.vco, .int .u32 z.pe, .int .u32 z.pi, .bool z.ex, .int .u32 z.og, z.vcl, .int .i64 z.se] 32 (0, 0))) := Lib.hid fun W hb => ⟨(hb.block _ (by omega)).trans z0, (hb.block _ (by omega)).trans z1, (hb.block _ (by omega)).trans z2, (hb.block _ (by omega)).trans z3, (hb.block _ (by omega)).trans z4, (hb.block _ (by omega)).trans z5⟩
  clear z0 z1 z2 z3 z4 z5 hz
  go_enter Tryz.func3, Tryz.ntmps3
  go_wp2_with fail
  try rw [hZ]
  go_at_call 4
  refine (awake_is Z (HT.out.on HBZ.out) (HS.out.on HBZ.out)).mono ?_
  rintro e w1 ⟨rfl, hb1⟩
  have HB1 := Lib.hid hb1
  clear hb1 hZ
  have HX : Hid (∀ W, Below w1.heap.size w1 W → Below w1.heap.size w1 W ∧ W.cell? ⟨w.heap.size, 0, none⟩ = some (.int .u32 a.a) ∧ W.cell? ⟨w.heap.size, 1, none⟩ = some (.int .i64 a.b) ∧ W.cell? ⟨w.heap.size, 2, none⟩ = some (.int .u8 a.fr) ∧ W.cell? ⟨w.heap.size, 3, none⟩ = some (.int .i64 a.di) ∧ W.cell? ⟨w.heap.size, 4, none⟩ = some (.int .i64 a.me) ∧ W.cell? ⟨w.heap.size, 5, none⟩ = some (.int .i64 a.ta) ∧ W.cell? ⟨w.heap.size, 6, none⟩ = some (.string a.nm) ∧ W.cell? ⟨w.heap.size, 7, none⟩ = some (.int .u32 a.ho) ∧ W.cell? ⟨w.heap.size, 8, none⟩ = some (.bool a.dc) ∧ W.cell? ⟨w.heap.size + 1, 0, none⟩ = some (.int .u32 b.a) ∧ W.cell? ⟨w.heap.size + 1, 1, none⟩ = some (.int .i64 b.b) ∧ W.cell? ⟨w.heap.size + 1, 2, none⟩ = some (.int .u8 b.fr) ∧ W.cell? ⟨w.heap.size + 1, 3, none⟩ = some (.int .i64 b.di) ∧ W.cell? ⟨w.heap.size + 1, 4, none⟩ = some (.int .i64 b.me) ∧ W.cell? ⟨w.heap.size + 1, 5, none⟩ = some (.int .i64 b.ta) ∧ W.cell? ⟨w.heap.size + 1, 6, none⟩ = some (.string b.nm) ∧ W.cell? ⟨w.heap.size + 1, 7, none⟩ = some (.int .u32 b.ho) ∧ W.cell? ⟨w.heap.size + 1, 8, none⟩ = some (.bool b.dc) ∧ W.cell? ⟨w.heap.size + 2, 0, none⟩ = some (.int .u32 c.a) ∧ W.cell? ⟨w.heap.size + 2, 1, none⟩ = some (.int .i64 c.b) ∧ W.cell? ⟨w.heap.size + 2, 2, none⟩ = some (.int .u8 c.fr) ∧ W.cell? ⟨w.heap.size + 2, 3, none⟩ = some (.int .i64 c.di) ∧ W.cell? ⟨w.heap.size + 2, 4, none⟩ = some (.int .i64 c.me) ∧ W.cell? ⟨w.heap.size + 2, 5, none⟩ = some (.int .i64 c.ta) ∧ W.cell? ⟨w.heap.size + 2, 6, none⟩ = some (.string c.nm) ∧ W.cell? ⟨w.heap.size + 2, 7, none⟩ = some (.int .u32 c.ho) ∧ W.cell? ⟨w.heap.size + 2, 8, none⟩ = some (.bool c.dc)) := Lib.hid fun W hb => by
    obtain ⟨e0, e1, e2, _, _, _⟩ := HK.out W (Below.step HB1.out hb)
    refine ⟨hb, ?_, ?_, ?_, ?_, ?_, ?_, ?_, ?_, ?_, ?_, ?_, ?_, ?_, ?_, ?_, ?_, ?_, ?_, ?_, ?_, ?_, ?_, ?_, ?_, ?_, ?_, ?_⟩ <;> first | (simp only [World.cell?, e0]; rfl) | (simp only [World.cell?, e1]; rfl) | (simp only [World.cell?, e2]; rfl)
  go_wp2_with fail
  go_cut [3, 11, 12, 13, 56] (fun s3 s11 s12 s13 s56 wx => s3 = .slice p0 l0.length c0 ∧ s11 = .pointer (some ⟨w.heap.size + 3, 0, none⟩) ∧ s12 = .pointer (some ⟨w.heap.size + 4, 0, none⟩) ∧ s13 = .pointer (some ⟨w.heap.size + 5, 0, none⟩) ∧ s56 = .bool false ∧ Hid (Below w1.heap.size w1 wx))
  case first =>
    have hba0 : cR b a = - cR a b := tot_cR.anti a b
    have kab := cR_abs a b
    have kbc := cR_abs b c
    rcases (show cR a b = 0 ∨ cR a b = 1 ∨ (cR a b = -1 ∧ cR b c = 0) ∨ (cR a b = -1 ∧ cR b c = 1) ∨ (cR a b = -1 ∧ cR b c = -1) by omega) with hab | hab | ⟨hab, hbc⟩ | ⟨hab, hbc⟩ | ⟨hab, hbc⟩
    · as_aux_lemma =>
        have hba : cR b a = 0 := by omega
        clear hba0 kab kbc
        have HAB : Hid (∀ W, Below w1.heap.size w1 W → Calls Tryz.prog 5 #[.agg #[.int .u32 a.a, .int .i64 a.b, .int .u8 a.fr, .int .i64 a.di, .int .i64 a.me, .int .i64 a.ta, .string a.nm, .int .u32 a.ho, .bool a.dc], .agg #[.int .u32 b.a, .int .i64 b.b, .int .u8 b.fr, .int .i64 b.di, .int .i64 b.me, .int .i64 b.ta, .string b.nm, .int .u32 b.ho, .bool b.dc]] W fun e w' => e = .returned (.int .i64 (0)) ∧ Below W.heap.size W w') := Lib.hid fun W _ => (rcmp_is a b W).mono fun e w' h => ⟨hab ▸ h.1, h.2⟩
        have HBA : Hid (∀ W, Below w1.heap.size w1 W → Calls Tryz.prog 5 #[.agg #[.int .u32 b.a, .int .i64 b.b, .int .u8 b.fr, .int .i64 b.di, .int .i64 b.me, .int .i64 b.ta, .string b.nm, .int .u32 b.ho, .bool b.dc], .agg #[.int .u32 a.a, .int .i64 a.b, .int .u8 a.fr, .int .i64 a.di, .int .i64 a.me, .int .i64 a.ta, .string a.nm, .int .u32 a.ho, .bool a.dc]] W fun e w' => e = .returned (.int .i64 (0)) ∧ Below W.heap.size W w') := Lib.hid fun W _ => (rcmp_is b a W).mono fun e w' h => ⟨hba ▸ h.1, h.2⟩
        have eq : ∀ W : World, (binOp .eql 27 (.agg #[.int .u32 a.a, .int .i64 a.b, .int .u8 a.fr, .int .i64 a.di, .int .i64 a.me, .int .i64 a.ta, .string a.nm, .int .u32 a.ho, .bool a.dc]) (.agg #[.int .u32 b.a, .int .i64 b.b, .int .u8 b.fr, .int .i64 b.di, .int .i64 b.me, .int .i64 b.ta, .string b.nm, .int .u32 b.ho, .bool b.dc])).run Tryz.prog W = .ok (.bool true) W := fun W => by rw [eqlR a b W, hab]; rfl
        have eg : ∀ (op : BinOp) (o1 o2 : Operand) (W : World), (eqGuard op 27 o1 o2 (.agg #[.int .u32 a.a, .int .i64 a.b, .int .u8 a.fr, .int .i64 a.di, .int .i64 a.me, .int .i64 a.ta, .string a.nm, .int .u32 a.ho, .bool a.dc]) (.agg #[.int .u32 b.a, .int .i64 b.b, .int .u8 b.fr, .int .i64 b.di, .int .i64 b.me, .int .i64 b.ta, .string b.nm, .int .u32 b.ho, .bool b.dc])).run Tryz.prog W = .ok () W := fun op o1 o2 W => eqg op o1 o2 a b W
        clear hab hba
        refine wp_region_held_drew (S := (fun w' => Below w1.heap.size w1 w' ∧ w'.cell? ⟨w.heap.size, 0, none⟩ = some (.int .u32 a.a) ∧ w'.cell? ⟨w.heap.size, 1, none⟩ = some (.int .i64 a.b) ∧ w'.cell? ⟨w.heap.size, 2, none⟩ = some (.int .u8 a.fr) ∧ w'.cell? ⟨w.heap.size, 3, none⟩ = some (.int .i64 a.di) ∧ w'.cell? ⟨w.heap.size, 4, none⟩ = some (.int .i64 a.me) ∧ w'.cell? ⟨w.heap.size, 5, none⟩ = some (.int .i64 a.ta) ∧ w'.cell? ⟨w.heap.size, 6, none⟩ = some (.string a.nm) ∧ w'.cell? ⟨w.heap.size, 7, none⟩ = some (.int .u32 a.ho) ∧ w'.cell? ⟨w.heap.size, 8, none⟩ = some (.bool a.dc) ∧ w'.cell? ⟨w.heap.size + 1, 0, none⟩ = some (.int .u32 b.a) ∧ w'.cell? ⟨w.heap.size + 1, 1, none⟩ = some (.int .i64 b.b) ∧ w'.cell? ⟨w.heap.size + 1, 2, none⟩ = some (.int .u8 b.fr) ∧ w'.cell? ⟨w.heap.size + 1, 3, none⟩ = some (.int .i64 b.di) ∧ w'.cell? ⟨w.heap.size + 1, 4, none⟩ = some (.int .i64 b.me) ∧ w'.cell? ⟨w.heap.size + 1, 5, none⟩ = some (.int .i64 b.ta) ∧ w'.cell? ⟨w.heap.size + 1, 6, none⟩ = some (.string b.nm) ∧ w'.cell? ⟨w.heap.size + 1, 7, none⟩ = some (.int .u32 b.ho) ∧ w'.cell? ⟨w.heap.size + 1, 8, none⟩ = some (.bool b.dc) ∧ w'.cell? ⟨w.heap.size + 2, 0, none⟩ = some (.int .u32 c.a) ∧ w'.cell? ⟨w.heap.size + 2, 1, none⟩ = some (.int .i64 c.b) ∧ w'.cell? ⟨w.heap.size + 2, 2, none⟩ = some (.int .u8 c.fr) ∧ w'.cell? ⟨w.heap.size + 2, 3, none⟩ = some (.int .i64 c.di) ∧ w'.cell? ⟨w.heap.size + 2, 4, none⟩ = some (.int .i64 c.me) ∧ w'.cell? ⟨w.heap.size + 2, 5, none⟩ = some (.int .i64 c.ta) ∧ w'.cell? ⟨w.heap.size + 2, 6, none⟩ = some (.string c.nm) ∧ w'.cell? ⟨w.heap.size + 2, 7, none⟩ = some (.int .u32 c.ho) ∧ w'.cell? ⟨w.heap.size + 2, 8, none⟩ = some (.bool c.dc))) (by kernel_rfl) ?_ (fun hHeld => ?_)
        · exact HX.out _ (Below.refl _ _).drew
        refine tk1 (i := 0) (oi := { dst := some 21, op := Op.load 27 (Operand.tmp 7), type := 27, pos := "outright.go:24", after := #[], guard := none }) (v := ?v0r0) rfl (by kernel_rfl) (fun _ _ _ h => h) (Or.inl ⟨by rfl, ?hy0r0⟩) (by assumption) ?rest0r0
        case hy0r0 => (intro w hSw; (try dsimp only at hSw); go_simp; try with_reducible rfl)
        try simp only [Act.put, List.setIfInBounds_toArray, List.set_cons_zero, List.set_cons_succ]
        refine tk1 (i := 1) (oi := { dst := some 22, op := Op.load 27 (Operand.tmp 8), type := 27, pos := "outright.go:24", after := #[], guard := none }) (v := ?v1r0) rfl (by kernel_rfl) (fun _ _ _ h => h) (Or.inl ⟨by rfl, ?hy1r0⟩) (by assumption) ?rest1r0
        case hy1r0 => (intro w hSw; (try dsimp only at hSw); go_simp; try with_reducible rfl)
        try simp only [Act.put, List.setIfInBounds_toArray, List.set_cons_zero, List.set_cons_succ]
        refine tk1 (i := 3) (oi := { dst := some 24, op := Op.load 27 (Operand.tmp 8), type := 27, pos := "outright.go:24", after := #[], guard := none }) (v := ?v3r0) rfl (by kernel_rfl) (fun _ _ _ h => h) (Or.inl ⟨by rfl, ?hy3r0⟩) (by assumption) ?rest3r0
        case hy3r0 => (intro w hSw; (try dsimp only at hSw); go_simp; try with_reducible rfl)
        try simp only [Act.put, List.setIfInBounds_toArray, List.set_cons_zero, List.set_cons_succ]
        refine tk1 (i := 4) (oi := { dst := some 25, op := Op.load 27 (Operand.tmp 7), type := 27, pos := "outright.go:24", after := #[], guard := none }) (v := ?v4r0) rfl (by kernel_rfl) (fun _ _ _ h => h) (Or.inl ⟨by rfl, ?hy4r0⟩) (by assumption) ?rest4r0
        case hy4r0 => (intro w hSw; (try dsimp only at hSw); go_simp; try with_reducible rfl)
        try simp only [Act.put, List.setIfInBounds_toArray, List.set_cons_zero, List.set_cons_succ]
        refine wpAnyH_ready (rs := [2]) (by kernel_rfl) (by simp) ?_
        refine AllReadyH.cons (o := { dst := some 23, op := Op.call { callee := Callee.value (Operand.func 5), args := #[Operand.tmp 21, Operand.tmp 22], argTypes := #[27, 27] }, type := 3, pos := "outright.go:24", after := #[{ on := 0, ground := Ground.data }, { on := 1, ground := Ground.data }], guard := none }) rfl (fun K hK => ?_) AllReadyH.nil
        go_simp
        refine (HAB.out _ hHeld.1).mono ?_
        rintro e w4 ⟨rfl, hb4⟩
        replace hb4 := Below.step hHeld.1 hb4
        try go_wp2_with fail
        refine hK.out _ _ (HX.out _ hb4) (fun hHeld => ?_)
        clear hK K
        try simp only [Act.put, List.setIfInBounds_toArray, List.set_cons_zero, List.set_cons_succ]
        refine wpAnyH_ready (rs := [5]) (by kernel_rfl) (by simp) ?_
        refine AllReadyH.cons (o := { dst := some 26, op := Op.call { callee := Callee.value (Operand.func 5), args := #[Operand.tmp 24, Operand.tmp 25], argTypes := #[27, 27] }, type := 3, pos := "outright.go:24", after := #[{ on := 3, ground := Ground.data }, { on := 4, ground := Ground.data }, { on := 2, ground := Ground.chain }], guard := none }) rfl (fun K hK => ?_) AllReadyH.nil
        go_simp
        refine (HBA.out _ hHeld.1).mono ?_
        rintro e w4 ⟨rfl, hb4⟩
        replace hb4 := Below.step hHeld.1 hb4
        try go_wp2_with fail
        refine hK.out _ _ (HX.out _ hb4) (fun hHeld => ?_)
        clear hK K
        try simp only [Act.put, List.setIfInBounds_toArray, List.set_cons_zero, List.set_cons_succ]
        refine tk1 (i := 6) (oi := { dst := some 27, op := Op.unOp UnOp.neg 3 (Operand.tmp 26), type := 3, pos := "outright.go:24", after := #[{ on := 5, ground := Ground.data }], guard := none }) (v := ?v6r0) rfl (by kernel_rfl) (fun _ _ _ h => h) (Or.inl ⟨by rfl, ?hy6r0⟩) (by assumption) ?rest6r0
        case hy6r0 => (intro w hSw; (try dsimp only at hSw); go_simp; try with_reducible rfl)
        try simp only [Act.put, List.setIfInBounds_toArray, List.set_cons_zero, List.set_cons_succ]
        refine tk1 (i := 7) (oi := { dst := some 28, op := Op.binOp BinOp.neq 3 (Operand.tmp 23) (Operand.tmp 27) 3, type := 4, pos := "outright.go:24", after := #[{ on := 2, ground := Ground.data }, { on := 6, ground := Ground.data }], guard := none }) (v := ?v7r0) rfl (by kernel_rfl) (fun _ _ _ h => h) (Or.inl ⟨by rfl, ?hy7r0⟩) (by assumption) ?rest7r0
        case hy7r0 => (intro w hSw; (try dsimp only at hSw); go_simp; try with_reducible rfl)
        try simp only [Act.put, List.setIfInBounds_toArray, List.set_cons_zero, List.set_cons_succ]
        refine tk1 (i := 8) (oi := { dst := some 29, op := Op.move (Operand.tmp 28), type := 4, pos := "outright.go:24", after := #[{ on := 7, ground := Ground.data }, { on := 5, ground := Ground.chain }], guard := none }) (v := ?v8r0) rfl (by kernel_rfl) (fun _ _ _ h => h) (Or.inl ⟨by rfl, ?hy8r0⟩) (by assumption) ?rest8r0
        case hy8r0 => (intro w hSw; (try dsimp only at hSw); go_simp; try with_reducible rfl)
        try simp only [Act.put, List.setIfInBounds_toArray, List.set_cons_zero, List.set_cons_succ]
        refine tk1 (i := 9) (oi := { dst := some 30, op := Op.load 27 (Operand.tmp 7), type := 27, pos := "outright.go:24", after := #[{ on := 8, ground := Ground.guard }], guard := some (8, false) }) (v := ?v9r0) rfl (by kernel_rfl) (fun _ _ _ h => h) (Or.inl ⟨by rfl, ?hy9r0⟩) (by assumption) ?rest9r0
        case hy9r0 => (intro w hSw; (try dsimp only at hSw); go_simp; try with_reducible rfl)
        try simp only [Act.put, List.setIfInBounds_toArray, List.set_cons_zero, List.set_cons_succ]
        refine tk1 (i := 10) (oi := { dst := some 31, op := Op.load 27 (Operand.tmp 8), type := 27, pos := "outright.go:24", after := #[{ on := 8, ground := Ground.guard }], guard := some (8, false) }) (v := ?v10r0) rfl (by kernel_rfl) (fun _ _ _ h => h) (Or.inl ⟨by rfl, ?hy10r0⟩) (by assumption) ?rest10r0
        case hy10r0 => (intro w hSw; (try dsimp only at hSw); go_simp; try with_reducible rfl)
        try simp only [Act.put, List.setIfInBounds_toArray, List.set_cons_zero, List.set_cons_succ]
        refine tk1 (i := 13) (oi := { dst := some 34, op := Op.load 27 (Operand.tmp 7), type := 27, pos := "outright.go:24", after := #[{ on := 8, ground := Ground.guard }], guard := some (8, false) }) (v := ?v13r0) rfl (by kernel_rfl) (fun _ _ _ h => h) (Or.inl ⟨by rfl, ?hy13r0⟩) (by assumption) ?rest13r0
        case hy13r0 => (intro w hSw; (try dsimp only at hSw); go_simp; try with_reducible rfl)
        try simp only [Act.put, List.setIfInBounds_toArray, List.set_cons_zero, List.set_cons_succ]
        refine tk1 (i := 14) (oi := { dst := some 35, op := Op.load 27 (Operand.tmp 8), type := 27, pos := "outright.go:24", after := #[{ on := 8, ground := Ground.guard }], guard := some (8, false) }) (v := ?v14r0) rfl (by kernel_rfl) (fun _ _ _ h => h) (Or.inl ⟨by rfl, ?hy14r0⟩) (by assumption) ?rest14r0
        case hy14r0 => (intro w hSw; (try dsimp only at hSw); go_simp; try with_reducible rfl)
        try simp only [Act.put, List.setIfInBounds_toArray, List.set_cons_zero, List.set_cons_succ]
        refine tk1 (i := 15) (oi := { dst := some 36, op := Op.binOp BinOp.eql 27 (Operand.tmp 34) (Operand.tmp 35) 27, type := 4, pos := "outright.go:24", after := #[{ on := 13, ground := Ground.data }, { on := 14, ground := Ground.data }, { on := 8, ground := Ground.guard }], guard := some (8, false) }) (v := ?v15r0) rfl (by kernel_rfl) (fun _ _ _ h => h) (Or.inl ⟨by rfl, ?hy15r0⟩) (by assumption) ?rest15r0
        case hy15r0 => (intro w hSw; (try dsimp only at hSw); go_simp; try with_reducible rfl)
        try simp only [Act.put, List.setIfInBounds_toArray, List.set_cons_zero, List.set_cons_succ]
        refine wpAnyH_ready (rs := [11]) (by kernel_rfl) (by simp) ?_
        refine AllReadyH.cons (o := { dst := some 32, op := Op.call { callee := Callee.value (Operand.func 5), args := #[Operand.tmp 30, Operand.tmp 31], argTypes := #[27, 27] }, type := 3, pos := "outright.go:24", after := #[{ on := 9, ground := Ground.data }, { on := 10, ground := Ground.data }, { on := 8, ground := Ground.chain }, { on := 8, ground := Ground.guard }], guard := some (8, false) }) rfl (fun K hK => ?_) AllReadyH.nil
        go_simp
        refine (HAB.out _ hHeld.1).mono ?_
        rintro e w4 ⟨rfl, hb4⟩
        replace hb4 := Below.step hHeld.1 hb4
        try go_wp2_with fail
        refine hK.out _ _ (HX.out _ hb4) (fun hHeld => ?_)
        clear hK K
        try simp only [Act.put, List.setIfInBounds_toArray, List.set_cons_zero, List.set_cons_succ]
        refine tk1 (i := 12) (oi := { dst := some 33, op := Op.binOp BinOp.eql 3 (Operand.tmp 32) (Operand.const (Go.Value.int Go.IntKind.i64 0)) 3, type := 4, pos := "outright.go:24", after := #[{ on := 11, ground := Ground.data }, { on := 8, ground := Ground.guard }], guard := some (8, false) }) (v := ?v12r0) rfl (by kernel_rfl) (fun _ _ _ h => h) (Or.inl ⟨by rfl, ?hy12r0⟩) (by assumption) ?rest12r0
        case hy12r0 => (intro w hSw; (try dsimp only at hSw); go_simp; try with_reducible rfl)
        try simp only [Act.put, List.setIfInBounds_toArray, List.set_cons_zero, List.set_cons_succ]
        refine tk1 (i := 16) (oi := { dst := some 37, op := Op.binOp BinOp.neq 4 (Operand.tmp 33) (Operand.tmp 36) 4, type := 4, pos := "outright.go:24", after := #[{ on := 12, ground := Ground.data }, { on := 15, ground := Ground.data }, { on := 8, ground := Ground.guard }], guard := some (8, false) }) (v := ?v16r0) rfl (by kernel_rfl) (fun _ _ _ h => h) (Or.inl ⟨by rfl, ?hy16r0⟩) (by assumption) ?rest16r0
        case hy16r0 => (intro w hSw; (try dsimp only at hSw); go_simp; try with_reducible rfl)
        try simp only [Act.put, List.setIfInBounds_toArray, List.set_cons_zero, List.set_cons_succ]
        refine tk1 (i := 17) (oi := { dst := some 38, op := Op.pick (Operand.tmp 29) (Operand.const (Go.Value.bool true)) (Operand.tmp 37), type := 4, pos := "outright.go:24", after := #[{ on := 8, ground := Ground.data }, { on := 16, ground := Ground.data }], guard := none }) (v := ?v17r0) rfl (by kernel_rfl) (fun _ _ _ h => h) (Or.inl ⟨by rfl, ?hy17r0⟩) (by assumption) ?rest17r0
        case hy17r0 => (intro w hSw; (try dsimp only at hSw); go_simp; try with_reducible rfl)
        try simp only [Act.put, List.setIfInBounds_toArray, List.set_cons_zero, List.set_cons_succ]
        refine tk1 (i := 18) (oi := { dst := some 39, op := Op.move (Operand.tmp 38), type := 4, pos := "outright.go:24", after := #[{ on := 17, ground := Ground.data }, { on := 11, ground := Ground.chain }], guard := none }) (v := ?v18r0) rfl (by kernel_rfl) (fun _ _ _ h => h) (Or.inl ⟨by rfl, ?hy18r0⟩) (by assumption) ?rest18r0
        case hy18r0 => (intro w hSw; (try dsimp only at hSw); go_simp; try with_reducible rfl)
        try simp only [Act.put, List.setIfInBounds_toArray, List.set_cons_zero, List.set_cons_succ]
        refine tk1 (i := 19) (oi := { dst := some 40, op := Op.load 27 (Operand.tmp 7), type := 27, pos := "outright.go:24", after := #[{ on := 18, ground := Ground.guard }], guard := some (18, false) }) (v := ?v19r0) rfl (by kernel_rfl) (fun _ _ _ h => h) (Or.inl ⟨by rfl, ?hy19r0⟩) (by assumption) ?rest19r0
        case hy19r0 => (intro w hSw; (try dsimp only at hSw); go_simp; try with_reducible rfl)
        try simp only [Act.put, List.setIfInBounds_toArray, List.set_cons_zero, List.set_cons_succ]
        refine tk1 (i := 20) (oi := { dst := some 41, op := Op.load 27 (Operand.tmp 8), type := 27, pos := "outright.go:24", after := #[{ on := 18, ground := Ground.guard }], guard := some (18, false) }) (v := ?v20r0) rfl (by kernel_rfl) (fun _ _ _ h => h) (Or.inl ⟨by rfl, ?hy20r0⟩) (by assumption) ?rest20r0
        case hy20r0 => (intro w hSw; (try dsimp only at hSw); go_simp; try with_reducible rfl)
        try simp only [Act.put, List.setIfInBounds_toArray, List.set_cons_zero, List.set_cons_succ]
        refine wpAnyH_ready (rs := [21]) (by kernel_rfl) (by simp) ?_
        refine AllReadyH.cons (o := { dst := some 42, op := Op.call { callee := Callee.value (Operand.func 5), args := #[Operand.tmp 40, Operand.tmp 41], argTypes := #[27, 27] }, type := 3, pos := "outright.go:24", after := #[{ on := 19, ground := Ground.data }, { on := 20, ground := Ground.data }, { on := 18, ground := Ground.chain }, { on := 18, ground := Ground.guard }], guard := some (18, false) }) rfl (fun K hK => ?_) AllReadyH.nil
        go_simp
        refine (HAB.out _ hHeld.1).mono ?_
        rintro e w4 ⟨rfl, hb4⟩
        replace hb4 := Below.step hHeld.1 hb4
        try go_wp2_with fail
        refine hK.out _ _ (HX.out _ hb4) (fun hHeld => ?_)
        clear hK K
        try simp only [Act.put, List.setIfInBounds_toArray, List.set_cons_zero, List.set_cons_succ]
        refine tk1 (i := 22) (oi := { dst := some 43, op := Op.binOp BinOp.lss 3 (Operand.tmp 42) (Operand.const (Go.Value.int Go.IntKind.i64 0)) 3, type := 4, pos := "outright.go:24", after := #[{ on := 21, ground := Ground.data }, { on := 18, ground := Ground.guard }], guard := some (18, false) }) (v := ?v22r0) rfl (by kernel_rfl) (fun _ _ _ h => h) (Or.inl ⟨by rfl, ?hy22r0⟩) (by assumption) ?rest22r0
        case hy22r0 => (intro w hSw; (try dsimp only at hSw); go_simp; try with_reducible rfl)
        try simp only [Act.put, List.setIfInBounds_toArray, List.set_cons_zero, List.set_cons_succ]
        refine tk1 (i := 23) (oi := { dst := some 44, op := Op.move (Operand.tmp 43), type := 4, pos := "outright.go:24", after := #[{ on := 22, ground := Ground.data }, { on := 21, ground := Ground.chain }, { on := 18, ground := Ground.guard }], guard := some (18, false) }) (v := ?v23r0) rfl (by kernel_rfl) (fun _ _ _ h => h) (Or.inl ⟨by rfl, ?hy23r0⟩) (by assumption) ?rest23r0
        case hy23r0 => (intro w hSw; (try dsimp only at hSw); go_simp; try with_reducible rfl)
        try simp only [Act.put, List.setIfInBounds_toArray, List.set_cons_zero, List.set_cons_succ]
        refine tk1 (i := 24) (oi := { dst := some 45, op := Op.load 27 (Operand.tmp 8), type := 27, pos := "outright.go:24", after := #[{ on := 23, ground := Ground.guard }], guard := some (23, true) }) (v := undef) rfl (by kernel_rfl) (fun _ _ _ h => h) (Or.inr ⟨by rfl, rfl⟩) (by assumption) ?_
        try simp only [Act.put, List.setIfInBounds_toArray, List.set_cons_zero, List.set_cons_succ]
        refine tk1 (i := 25) (oi := { dst := some 46, op := Op.load 27 (Operand.tmp 9), type := 27, pos := "outright.go:24", after := #[{ on := 23, ground := Ground.guard }], guard := some (23, true) }) (v := undef) rfl (by kernel_rfl) (fun _ _ _ h => h) (Or.inr ⟨by rfl, rfl⟩) (by assumption) ?_
        try simp only [Act.put, List.setIfInBounds_toArray, List.set_cons_zero, List.set_cons_succ]
        refine wpAnyH_ready (rs := [26]) (by kernel_rfl) (by simp) ?_
        refine AllReadyH.cons (o := { dst := some 47, op := Op.call { callee := Callee.value (Operand.func 5), args := #[Operand.tmp 45, Operand.tmp 46], argTypes := #[27, 27] }, type := 3, pos := "outright.go:24", after := #[{ on := 24, ground := Ground.data }, { on := 25, ground := Ground.data }, { on := 23, ground := Ground.chain }, { on := 23, ground := Ground.guard }], guard := some (23, true) }) rfl (fun K hK => ?_) AllReadyH.nil
        go_simp
        refine hK.out _ _ (by assumption) (fun hHeld => ?_)
        clear hK K
        try simp only [Act.put, List.setIfInBounds_toArray, List.set_cons_zero, List.set_cons_succ]
        refine tk1 (i := 27) (oi := { dst := some 48, op := Op.binOp BinOp.lss 3 (Operand.tmp 47) (Operand.const (Go.Value.int Go.IntKind.i64 0)) 3, type := 4, pos := "outright.go:24", after := #[{ on := 26, ground := Ground.data }, { on := 23, ground := Ground.guard }], guard := some (23, true) }) (v := undef) rfl (by kernel_rfl) (fun _ _ _ h => h) (Or.inr ⟨by rfl, rfl⟩) (by assumption) ?_
        try simp only [Act.put, List.setIfInBounds_toArray, List.set_cons_zero, List.set_cons_succ]
        refine tk1 (i := 28) (oi := { dst := some 49, op := Op.pick (Operand.tmp 44) (Operand.tmp 48) (Operand.const (Go.Value.bool false)), type := 4, pos := "outright.go:24", after := #[{ on := 23, ground := Ground.data }, { on := 27, ground := Ground.data }, { on := 18, ground := Ground.guard }], guard := some (18, false) }) (v := ?v28r0) rfl (by kernel_rfl) (fun _ _ _ h => h) (Or.inl ⟨by rfl, ?hy28r0⟩) (by assumption) ?rest28r0
        case hy28r0 => (intro w hSw; (try dsimp only at hSw); go_simp; try with_reducible rfl)
        try simp only [Act.put, List.setIfInBounds_toArray, List.set_cons_zero, List.set_cons_succ]
        refine tk1 (i := 29) (oi := { dst := some 50, op := Op.move (Operand.tmp 49), type := 4, pos := "outright.go:24", after := #[{ on := 28, ground := Ground.data }, { on := 26, ground := Ground.chain }, { on := 18, ground := Ground.guard }], guard := some (18, false) }) (v := ?v29r0) rfl (by kernel_rfl) (fun _ _ _ h => h) (Or.inl ⟨by rfl, ?hy29r0⟩) (by assumption) ?rest29r0
        case hy29r0 => (intro w hSw; (try dsimp only at hSw); go_simp; try with_reducible rfl)
        try simp only [Act.put, List.setIfInBounds_toArray, List.set_cons_zero, List.set_cons_succ]
        refine tk1 (i := 30) (oi := { dst := some 51, op := Op.load 27 (Operand.tmp 7), type := 27, pos := "outright.go:24", after := #[{ on := 29, ground := Ground.guard }], guard := some (29, true) }) (v := undef) rfl (by kernel_rfl) (fun _ _ _ h => h) (Or.inr ⟨by rfl, rfl⟩) (by assumption) ?_
        try simp only [Act.put, List.setIfInBounds_toArray, List.set_cons_zero, List.set_cons_succ]
        refine tk1 (i := 31) (oi := { dst := some 52, op := Op.load 27 (Operand.tmp 9), type := 27, pos := "outright.go:24", after := #[{ on := 29, ground := Ground.guard }], guard := some (29, true) }) (v := undef) rfl (by kernel_rfl) (fun _ _ _ h => h) (Or.inr ⟨by rfl, rfl⟩) (by assumption) ?_
        try simp only [Act.put, List.setIfInBounds_toArray, List.set_cons_zero, List.set_cons_succ]
        refine wpAnyH_ready (rs := [32]) (by kernel_rfl) (by simp) ?_
        refine AllReadyH.cons (o := { dst := some 53, op := Op.call { callee := Callee.value (Operand.func 5), args := #[Operand.tmp 51, Operand.tmp 52], argTypes := #[27, 27] }, type := 3, pos := "outright.go:24", after := #[{ on := 30, ground := Ground.data }, { on := 31, ground := Ground.data }, { on := 29, ground := Ground.chain }, { on := 29, ground := Ground.guard }], guard := some (29, true) }) rfl (fun K hK => ?_) AllReadyH.nil
        go_simp
        refine hK.out _ _ (by assumption) (fun hHeld => ?_)
        clear hK K
        try simp only [Act.put, List.setIfInBounds_toArray, List.set_cons_zero, List.set_cons_succ]
        refine tk1 (i := 33) (oi := { dst := some 54, op := Op.binOp BinOp.geq 3 (Operand.tmp 53) (Operand.const (Go.Value.int Go.IntKind.i64 0)) 3, type := 4, pos := "outright.go:24", after := #[{ on := 32, ground := Ground.data }, { on := 29, ground := Ground.guard }], guard := some (29, true) }) (v := undef) rfl (by kernel_rfl) (fun _ _ _ h => h) (Or.inr ⟨by rfl, rfl⟩) (by assumption) ?_
        try simp only [Act.put, List.setIfInBounds_toArray, List.set_cons_zero, List.set_cons_succ]
        refine tk1 (i := 34) (oi := { dst := some 55, op := Op.pick (Operand.tmp 50) (Operand.tmp 54) (Operand.const (Go.Value.bool false)), type := 4, pos := "outright.go:24", after := #[{ on := 29, ground := Ground.data }, { on := 33, ground := Ground.data }, { on := 18, ground := Ground.guard }], guard := some (18, false) }) (v := ?v34r0) rfl (by kernel_rfl) (fun _ _ _ h => h) (Or.inl ⟨by rfl, ?hy34r0⟩) (by assumption) ?rest34r0
        case hy34r0 => (intro w hSw; (try dsimp only at hSw); go_simp; try with_reducible rfl)
        try simp only [Act.put, List.setIfInBounds_toArray, List.set_cons_zero, List.set_cons_succ]
        refine tk1 (i := 35) (oi := { dst := some 56, op := Op.pick (Operand.tmp 39) (Operand.const (Go.Value.bool true)) (Operand.tmp 55), type := 4, pos := "outright.go:24", after := #[{ on := 18, ground := Ground.data }, { on := 34, ground := Ground.data }], guard := none }) (v := ?v35r0) rfl (by kernel_rfl) (fun _ _ _ h => h) (Or.inl ⟨by rfl, ?hy35r0⟩) (by assumption) ?rest35r0
        case hy35r0 => (intro w hSw; (try dsimp only at hSw); go_simp; try with_reducible rfl)
        try simp only [Act.put, List.setIfInBounds_toArray, List.set_cons_zero, List.set_cons_succ]
        refine wpAnyH_done (by kernel_rfl) ?_ _
        try go_wp2_with fail
        try go_meet
        exact ⟨rfl, rfl, rfl, rfl, rfl, Lib.hid hHeld.1⟩
    · as_aux_lemma =>
        have hba : cR b a = -1 := by omega
        clear hba0 kab kbc
        have HAB : Hid (∀ W, Below w1.heap.size w1 W → Calls Tryz.prog 5 #[.agg #[.int .u32 a.a, .int .i64 a.b, .int .u8 a.fr, .int .i64 a.di, .int .i64 a.me, .int .i64 a.ta, .string a.nm, .int .u32 a.ho, .bool a.dc], .agg #[.int .u32 b.a, .int .i64 b.b, .int .u8 b.fr, .int .i64 b.di, .int .i64 b.me, .int .i64 b.ta, .string b.nm, .int .u32 b.ho, .bool b.dc]] W fun e w' => e = .returned (.int .i64 (1)) ∧ Below W.heap.size W w') := Lib.hid fun W _ => (rcmp_is a b W).mono fun e w' h => ⟨hab ▸ h.1, h.2⟩
        have HBA : Hid (∀ W, Below w1.heap.size w1 W → Calls Tryz.prog 5 #[.agg #[.int .u32 b.a, .int .i64 b.b, .int .u8 b.fr, .int .i64 b.di, .int .i64 b.me, .int .i64 b.ta, .string b.nm, .int .u32 b.ho, .bool b.dc], .agg #[.int .u32 a.a, .int .i64 a.b, .int .u8 a.fr, .int .i64 a.di, .int .i64 a.me, .int .i64 a.ta, .string a.nm, .int .u32 a.ho, .bool a.dc]] W fun e w' => e = .returned (.int .i64 (-1)) ∧ Below W.heap.size W w') := Lib.hid fun W _ => (rcmp_is b a W).mono fun e w' h => ⟨hba ▸ h.1, h.2⟩
        have eq : ∀ W : World, (binOp .eql 27 (.agg #[.int .u32 a.a, .int .i64 a.b, .int .u8 a.fr, .int .i64 a.di, .int .i64 a.me, .int .i64 a.ta, .string a.nm, .int .u32 a.ho, .bool a.dc]) (.agg #[.int .u32 b.a, .int .i64 b.b, .int .u8 b.fr, .int .i64 b.di, .int .i64 b.me, .int .i64 b.ta, .string b.nm, .int .u32 b.ho, .bool b.dc])).run Tryz.prog W = .ok (.bool false) W := fun W => by rw [eqlR a b W, hab]; rfl
        have eg : ∀ (op : BinOp) (o1 o2 : Operand) (W : World), (eqGuard op 27 o1 o2 (.agg #[.int .u32 a.a, .int .i64 a.b, .int .u8 a.fr, .int .i64 a.di, .int .i64 a.me, .int .i64 a.ta, .string a.nm, .int .u32 a.ho, .bool a.dc]) (.agg #[.int .u32 b.a, .int .i64 b.b, .int .u8 b.fr, .int .i64 b.di, .int .i64 b.me, .int .i64 b.ta, .string b.nm, .int .u32 b.ho, .bool b.dc])).run Tryz.prog W = .ok () W := fun op o1 o2 W => eqg op o1 o2 a b W
        clear hab hba
        refine wp_region_held_drew (S := (fun w' => Below w1.heap.size w1 w' ∧ w'.cell? ⟨w.heap.size, 0, none⟩ = some (.int .u32 a.a) ∧ w'.cell? ⟨w.heap.size, 1, none⟩ = some (.int .i64 a.b) ∧ w'.cell? ⟨w.heap.size, 2, none⟩ = some (.int .u8 a.fr) ∧ w'.cell? ⟨w.heap.size, 3, none⟩ = some (.int .i64 a.di) ∧ w'.cell? ⟨w.heap.size, 4, none⟩ = some (.int .i64 a.me) ∧ w'.cell? ⟨w.heap.size, 5, none⟩ = some (.int .i64 a.ta) ∧ w'.cell? ⟨w.heap.size, 6, none⟩ = some (.string a.nm) ∧ w'.cell? ⟨w.heap.size, 7, none⟩ = some (.int .u32 a.ho) ∧ w'.cell? ⟨w.heap.size, 8, none⟩ = some (.bool a.dc) ∧ w'.cell? ⟨w.heap.size + 1, 0, none⟩ = some (.int .u32 b.a) ∧ w'.cell? ⟨w.heap.size + 1, 1, none⟩ = some (.int .i64 b.b) ∧ w'.cell? ⟨w.heap.size + 1, 2, none⟩ = some (.int .u8 b.fr) ∧ w'.cell? ⟨w.heap.size + 1, 3, none⟩ = some (.int .i64 b.di) ∧ w'.cell? ⟨w.heap.size + 1, 4, none⟩ = some (.int .i64 b.me) ∧ w'.cell? ⟨w.heap.size + 1, 5, none⟩ = some (.int .i64 b.ta) ∧ w'.cell? ⟨w.heap.size + 1, 6, none⟩ = some (.string b.nm) ∧ w'.cell? ⟨w.heap.size + 1, 7, none⟩ = some (.int .u32 b.ho) ∧ w'.cell? ⟨w.heap.size + 1, 8, none⟩ = some (.bool b.dc) ∧ w'.cell? ⟨w.heap.size + 2, 0, none⟩ = some (.int .u32 c.a) ∧ w'.cell? ⟨w.heap.size + 2, 1, none⟩ = some (.int .i64 c.b) ∧ w'.cell? ⟨w.heap.size + 2, 2, none⟩ = some (.int .u8 c.fr) ∧ w'.cell? ⟨w.heap.size + 2, 3, none⟩ = some (.int .i64 c.di) ∧ w'.cell? ⟨w.heap.size + 2, 4, none⟩ = some (.int .i64 c.me) ∧ w'.cell? ⟨w.heap.size + 2, 5, none⟩ = some (.int .i64 c.ta) ∧ w'.cell? ⟨w.heap.size + 2, 6, none⟩ = some (.string c.nm) ∧ w'.cell? ⟨w.heap.size + 2, 7, none⟩ = some (.int .u32 c.ho) ∧ w'.cell? ⟨w.heap.size + 2, 8, none⟩ = some (.bool c.dc))) (by kernel_rfl) ?_ (fun hHeld => ?_)
        · exact HX.out _ (Below.refl _ _).drew
        refine tk1 (i := 0) (oi := { dst := some 21, op := Op.load 27 (Operand.tmp 7), type := 27, pos := "outright.go:24", after := #[], guard := none }) (v := ?v0r1) rfl (by kernel_rfl) (fun _ _ _ h => h) (Or.inl ⟨by rfl, ?hy0r1⟩) (by assumption) ?rest0r1
        case hy0r1 => (intro w hSw; (try dsimp only at hSw); go_simp; try with_reducible rfl)
        try simp only [Act.put, List.setIfInBounds_toArray, List.set_cons_zero, List.set_cons_succ]
        refine tk1 (i := 1) (oi := { dst := some 22, op := Op.load 27 (Operand.tmp 8), type := 27, pos := "outright.go:24", after := #[], guard := none }) (v := ?v1r1) rfl (by kernel_rfl) (fun _ _ _ h => h) (Or.inl ⟨by rfl, ?hy1r1⟩) (by assumption) ?rest1r1
        case hy1r1 => (intro w hSw; (try dsimp only at hSw); go_simp; try with_reducible rfl)
        try simp only [Act.put, List.setIfInBounds_toArray, List.set_cons_zero, List.set_cons_succ]
        refine tk1 (i := 3) (oi := { dst := some 24, op := Op.load 27 (Operand.tmp 8), type := 27, pos := "outright.go:24", after := #[], guard := none }) (v := ?v3r1) rfl (by kernel_rfl) (fun _ _ _ h => h) (Or.inl ⟨by rfl, ?hy3r1⟩) (by assumption) ?rest3r1
        case hy3r1 => (intro w hSw; (try dsimp only at hSw); go_simp; try with_reducible rfl)
        try simp only [Act.put, List.setIfInBounds_toArray, List.set_cons_zero, List.set_cons_succ]
        refine tk1 (i := 4) (oi := { dst := some 25, op := Op.load 27 (Operand.tmp 7), type := 27, pos := "outright.go:24", after := #[], guard := none }) (v := ?v4r1) rfl (by kernel_rfl) (fun _ _ _ h => h) (Or.inl ⟨by rfl, ?hy4r1⟩) (by assumption) ?rest4r1
        case hy4r1 => (intro w hSw; (try dsimp only at hSw); go_simp; try with_reducible rfl)
        try simp only [Act.put, List.setIfInBounds_toArray, List.set_cons_zero, List.set_cons_succ]
        refine wpAnyH_ready (rs := [2]) (by kernel_rfl) (by simp) ?_
        refine AllReadyH.cons (o := { dst := some 23, op := Op.call { callee := Callee.value (Operand.func 5), args := #[Operand.tmp 21, Operand.tmp 22], argTypes := #[27, 27] }, type := 3, pos := "outright.go:24", after := #[{ on := 0, ground := Ground.data }, { on := 1, ground := Ground.data }], guard := none }) rfl (fun K hK => ?_) AllReadyH.nil
        go_simp
        refine (HAB.out _ hHeld.1).mono ?_
        rintro e w4 ⟨rfl, hb4⟩
        replace hb4 := Below.step hHeld.1 hb4
        try go_wp2_with fail
        refine hK.out _ _ (HX.out _ hb4) (fun hHeld => ?_)
        clear hK K
        try simp only [Act.put, List.setIfInBounds_toArray, List.set_cons_zero, List.set_cons_succ]
        refine wpAnyH_ready (rs := [5]) (by kernel_rfl) (by simp) ?_
        refine AllReadyH.cons (o := { dst := some 26, op := Op.call { callee := Callee.value (Operand.func 5), args := #[Operand.tmp 24, Operand.tmp 25], argTypes := #[27, 27] }, type := 3, pos := "outright.go:24", after := #[{ on := 3, ground := Ground.data }, { on := 4, ground := Ground.data }, { on := 2, ground := Ground.chain }], guard := none }) rfl (fun K hK => ?_) AllReadyH.nil
        go_simp
        refine (HBA.out _ hHeld.1).mono ?_
        rintro e w4 ⟨rfl, hb4⟩
        replace hb4 := Below.step hHeld.1 hb4
        try go_wp2_with fail
        refine hK.out _ _ (HX.out _ hb4) (fun hHeld => ?_)
        clear hK K
        try simp only [Act.put, List.setIfInBounds_toArray, List.set_cons_zero, List.set_cons_succ]
        refine tk1 (i := 6) (oi := { dst := some 27, op := Op.unOp UnOp.neg 3 (Operand.tmp 26), type := 3, pos := "outright.go:24", after := #[{ on := 5, ground := Ground.data }], guard := none }) (v := ?v6r1) rfl (by kernel_rfl) (fun _ _ _ h => h) (Or.inl ⟨by rfl, ?hy6r1⟩) (by assumption) ?rest6r1
        case hy6r1 => (intro w hSw; (try dsimp only at hSw); go_simp; try with_reducible rfl)
        try simp only [Act.put, List.setIfInBounds_toArray, List.set_cons_zero, List.set_cons_succ]
        refine tk1 (i := 7) (oi := { dst := some 28, op := Op.binOp BinOp.neq 3 (Operand.tmp 23) (Operand.tmp 27) 3, type := 4, pos := "outright.go:24", after := #[{ on := 2, ground := Ground.data }, { on := 6, ground := Ground.data }], guard := none }) (v := ?v7r1) rfl (by kernel_rfl) (fun _ _ _ h => h) (Or.inl ⟨by rfl, ?hy7r1⟩) (by assumption) ?rest7r1
        case hy7r1 => (intro w hSw; (try dsimp only at hSw); go_simp; try with_reducible rfl)
        try simp only [Act.put, List.setIfInBounds_toArray, List.set_cons_zero, List.set_cons_succ]
        refine tk1 (i := 8) (oi := { dst := some 29, op := Op.move (Operand.tmp 28), type := 4, pos := "outright.go:24", after := #[{ on := 7, ground := Ground.data }, { on := 5, ground := Ground.chain }], guard := none }) (v := ?v8r1) rfl (by kernel_rfl) (fun _ _ _ h => h) (Or.inl ⟨by rfl, ?hy8r1⟩) (by assumption) ?rest8r1
        case hy8r1 => (intro w hSw; (try dsimp only at hSw); go_simp; try with_reducible rfl)
        try simp only [Act.put, List.setIfInBounds_toArray, List.set_cons_zero, List.set_cons_succ]
        refine tk1 (i := 9) (oi := { dst := some 30, op := Op.load 27 (Operand.tmp 7), type := 27, pos := "outright.go:24", after := #[{ on := 8, ground := Ground.guard }], guard := some (8, false) }) (v := ?v9r1) rfl (by kernel_rfl) (fun _ _ _ h => h) (Or.inl ⟨by rfl, ?hy9r1⟩) (by assumption) ?rest9r1
        case hy9r1 => (intro w hSw; (try dsimp only at hSw); go_simp; try with_reducible rfl)
        try simp only [Act.put, List.setIfInBounds_toArray, List.set_cons_zero, List.set_cons_succ]
        refine tk1 (i := 10) (oi := { dst := some 31, op := Op.load 27 (Operand.tmp 8), type := 27, pos := "outright.go:24", after := #[{ on := 8, ground := Ground.guard }], guard := some (8, false) }) (v := ?v10r1) rfl (by kernel_rfl) (fun _ _ _ h => h) (Or.inl ⟨by rfl, ?hy10r1⟩) (by assumption) ?rest10r1
        case hy10r1 => (intro w hSw; (try dsimp only at hSw); go_simp; try with_reducible rfl)
        try simp only [Act.put, List.setIfInBounds_toArray, List.set_cons_zero, List.set_cons_succ]
        refine tk1 (i := 13) (oi := { dst := some 34, op := Op.load 27 (Operand.tmp 7), type := 27, pos := "outright.go:24", after := #[{ on := 8, ground := Ground.guard }], guard := some (8, false) }) (v := ?v13r1) rfl (by kernel_rfl) (fun _ _ _ h => h) (Or.inl ⟨by rfl, ?hy13r1⟩) (by assumption) ?rest13r1
        case hy13r1 => (intro w hSw; (try dsimp only at hSw); go_simp; try with_reducible rfl)
        try simp only [Act.put, List.setIfInBounds_toArray, List.set_cons_zero, List.set_cons_succ]
        refine tk1 (i := 14) (oi := { dst := some 35, op := Op.load 27 (Operand.tmp 8), type := 27, pos := "outright.go:24", after := #[{ on := 8, ground := Ground.guard }], guard := some (8, false) }) (v := ?v14r1) rfl (by kernel_rfl) (fun _ _ _ h => h) (Or.inl ⟨by rfl, ?hy14r1⟩) (by assumption) ?rest14r1
        case hy14r1 => (intro w hSw; (try dsimp only at hSw); go_simp; try with_reducible rfl)
        try simp only [Act.put, List.setIfInBounds_toArray, List.set_cons_zero, List.set_cons_succ]
        refine tk1 (i := 15) (oi := { dst := some 36, op := Op.binOp BinOp.eql 27 (Operand.tmp 34) (Operand.tmp 35) 27, type := 4, pos := "outright.go:24", after := #[{ on := 13, ground := Ground.data }, { on := 14, ground := Ground.data }, { on := 8, ground := Ground.guard }], guard := some (8, false) }) (v := ?v15r1) rfl (by kernel_rfl) (fun _ _ _ h => h) (Or.inl ⟨by rfl, ?hy15r1⟩) (by assumption) ?rest15r1
        case hy15r1 => (intro w hSw; (try dsimp only at hSw); go_simp; try with_reducible rfl)
        try simp only [Act.put, List.setIfInBounds_toArray, List.set_cons_zero, List.set_cons_succ]
        refine wpAnyH_ready (rs := [11]) (by kernel_rfl) (by simp) ?_
        refine AllReadyH.cons (o := { dst := some 32, op := Op.call { callee := Callee.value (Operand.func 5), args := #[Operand.tmp 30, Operand.tmp 31], argTypes := #[27, 27] }, type := 3, pos := "outright.go:24", after := #[{ on := 9, ground := Ground.data }, { on := 10, ground := Ground.data }, { on := 8, ground := Ground.chain }, { on := 8, ground := Ground.guard }], guard := some (8, false) }) rfl (fun K hK => ?_) AllReadyH.nil
        go_simp
        refine (HAB.out _ hHeld.1).mono ?_
        rintro e w4 ⟨rfl, hb4⟩
        replace hb4 := Below.step hHeld.1 hb4
        try go_wp2_with fail
        refine hK.out _ _ (HX.out _ hb4) (fun hHeld => ?_)
        clear hK K
        try simp only [Act.put, List.setIfInBounds_toArray, List.set_cons_zero, List.set_cons_succ]
        refine tk1 (i := 12) (oi := { dst := some 33, op := Op.binOp BinOp.eql 3 (Operand.tmp 32) (Operand.const (Go.Value.int Go.IntKind.i64 0)) 3, type := 4, pos := "outright.go:24", after := #[{ on := 11, ground := Ground.data }, { on := 8, ground := Ground.guard }], guard := some (8, false) }) (v := ?v12r1) rfl (by kernel_rfl) (fun _ _ _ h => h) (Or.inl ⟨by rfl, ?hy12r1⟩) (by assumption) ?rest12r1
        case hy12r1 => (intro w hSw; (try dsimp only at hSw); go_simp; try with_reducible rfl)
        try simp only [Act.put, List.setIfInBounds_toArray, List.set_cons_zero, List.set_cons_succ]
        refine tk1 (i := 16) (oi := { dst := some 37, op := Op.binOp BinOp.neq 4 (Operand.tmp 33) (Operand.tmp 36) 4, type := 4, pos := "outright.go:24", after := #[{ on := 12, ground := Ground.data }, { on := 15, ground := Ground.data }, { on := 8, ground := Ground.guard }], guard := some (8, false) }) (v := ?v16r1) rfl (by kernel_rfl) (fun _ _ _ h => h) (Or.inl ⟨by rfl, ?hy16r1⟩) (by assumption) ?rest16r1
        case hy16r1 => (intro w hSw; (try dsimp only at hSw); go_simp; try with_reducible rfl)
        try simp only [Act.put, List.setIfInBounds_toArray, List.set_cons_zero, List.set_cons_succ]
        refine tk1 (i := 17) (oi := { dst := some 38, op := Op.pick (Operand.tmp 29) (Operand.const (Go.Value.bool true)) (Operand.tmp 37), type := 4, pos := "outright.go:24", after := #[{ on := 8, ground := Ground.data }, { on := 16, ground := Ground.data }], guard := none }) (v := ?v17r1) rfl (by kernel_rfl) (fun _ _ _ h => h) (Or.inl ⟨by rfl, ?hy17r1⟩) (by assumption) ?rest17r1
        case hy17r1 => (intro w hSw; (try dsimp only at hSw); go_simp; try with_reducible rfl)
        try simp only [Act.put, List.setIfInBounds_toArray, List.set_cons_zero, List.set_cons_succ]
        refine tk1 (i := 18) (oi := { dst := some 39, op := Op.move (Operand.tmp 38), type := 4, pos := "outright.go:24", after := #[{ on := 17, ground := Ground.data }, { on := 11, ground := Ground.chain }], guard := none }) (v := ?v18r1) rfl (by kernel_rfl) (fun _ _ _ h => h) (Or.inl ⟨by rfl, ?hy18r1⟩) (by assumption) ?rest18r1
        case hy18r1 => (intro w hSw; (try dsimp only at hSw); go_simp; try with_reducible rfl)
        try simp only [Act.put, List.setIfInBounds_toArray, List.set_cons_zero, List.set_cons_succ]
        refine tk1 (i := 19) (oi := { dst := some 40, op := Op.load 27 (Operand.tmp 7), type := 27, pos := "outright.go:24", after := #[{ on := 18, ground := Ground.guard }], guard := some (18, false) }) (v := ?v19r1) rfl (by kernel_rfl) (fun _ _ _ h => h) (Or.inl ⟨by rfl, ?hy19r1⟩) (by assumption) ?rest19r1
        case hy19r1 => (intro w hSw; (try dsimp only at hSw); go_simp; try with_reducible rfl)
        try simp only [Act.put, List.setIfInBounds_toArray, List.set_cons_zero, List.set_cons_succ]
        refine tk1 (i := 20) (oi := { dst := some 41, op := Op.load 27 (Operand.tmp 8), type := 27, pos := "outright.go:24", after := #[{ on := 18, ground := Ground.guard }], guard := some (18, false) }) (v := ?v20r1) rfl (by kernel_rfl) (fun _ _ _ h => h) (Or.inl ⟨by rfl, ?hy20r1⟩) (by assumption) ?rest20r1
        case hy20r1 => (intro w hSw; (try dsimp only at hSw); go_simp; try with_reducible rfl)
        try simp only [Act.put, List.setIfInBounds_toArray, List.set_cons_zero, List.set_cons_succ]
        refine wpAnyH_ready (rs := [21]) (by kernel_rfl) (by simp) ?_
        refine AllReadyH.cons (o := { dst := some 42, op := Op.call { callee := Callee.value (Operand.func 5), args := #[Operand.tmp 40, Operand.tmp 41], argTypes := #[27, 27] }, type := 3, pos := "outright.go:24", after := #[{ on := 19, ground := Ground.data }, { on := 20, ground := Ground.data }, { on := 18, ground := Ground.chain }, { on := 18, ground := Ground.guard }], guard := some (18, false) }) rfl (fun K hK => ?_) AllReadyH.nil
        go_simp
        refine (HAB.out _ hHeld.1).mono ?_
        rintro e w4 ⟨rfl, hb4⟩
        replace hb4 := Below.step hHeld.1 hb4
        try go_wp2_with fail
        refine hK.out _ _ (HX.out _ hb4) (fun hHeld => ?_)
        clear hK K
        try simp only [Act.put, List.setIfInBounds_toArray, List.set_cons_zero, List.set_cons_succ]
        refine tk1 (i := 22) (oi := { dst := some 43, op := Op.binOp BinOp.lss 3 (Operand.tmp 42) (Operand.const (Go.Value.int Go.IntKind.i64 0)) 3, type := 4, pos := "outright.go:24", after := #[{ on := 21, ground := Ground.data }, { on := 18, ground := Ground.guard }], guard := some (18, false) }) (v := ?v22r1) rfl (by kernel_rfl) (fun _ _ _ h => h) (Or.inl ⟨by rfl, ?hy22r1⟩) (by assumption) ?rest22r1
        case hy22r1 => (intro w hSw; (try dsimp only at hSw); go_simp; try with_reducible rfl)
        try simp only [Act.put, List.setIfInBounds_toArray, List.set_cons_zero, List.set_cons_succ]
        refine tk1 (i := 23) (oi := { dst := some 44, op := Op.move (Operand.tmp 43), type := 4, pos := "outright.go:24", after := #[{ on := 22, ground := Ground.data }, { on := 21, ground := Ground.chain }, { on := 18, ground := Ground.guard }], guard := some (18, false) }) (v := ?v23r1) rfl (by kernel_rfl) (fun _ _ _ h => h) (Or.inl ⟨by rfl, ?hy23r1⟩) (by assumption) ?rest23r1
        case hy23r1 => (intro w hSw; (try dsimp only at hSw); go_simp; try with_reducible rfl)
        try simp only [Act.put, List.setIfInBounds_toArray, List.set_cons_zero, List.set_cons_succ]
        refine tk1 (i := 24) (oi := { dst := some 45, op := Op.load 27 (Operand.tmp 8), type := 27, pos := "outright.go:24", after := #[{ on := 23, ground := Ground.guard }], guard := some (23, true) }) (v := undef) rfl (by kernel_rfl) (fun _ _ _ h => h) (Or.inr ⟨by rfl, rfl⟩) (by assumption) ?_
        try simp only [Act.put, List.setIfInBounds_toArray, List.set_cons_zero, List.set_cons_succ]
        refine tk1 (i := 25) (oi := { dst := some 46, op := Op.load 27 (Operand.tmp 9), type := 27, pos := "outright.go:24", after := #[{ on := 23, ground := Ground.guard }], guard := some (23, true) }) (v := undef) rfl (by kernel_rfl) (fun _ _ _ h => h) (Or.inr ⟨by rfl, rfl⟩) (by assumption) ?_
        try simp only [Act.put, List.setIfInBounds_toArray, List.set_cons_zero, List.set_cons_succ]
        refine wpAnyH_ready (rs := [26]) (by kernel_rfl) (by simp) ?_
        refine AllReadyH.cons (o := { dst := some 47, op := Op.call { callee := Callee.value (Operand.func 5), args := #[Operand.tmp 45, Operand.tmp 46], argTypes := #[27, 27] }, type := 3, pos := "outright.go:24", after := #[{ on := 24, ground := Ground.data }, { on := 25, ground := Ground.data }, { on := 23, ground := Ground.chain }, { on := 23, ground := Ground.guard }], guard := some (23, true) }) rfl (fun K hK => ?_) AllReadyH.nil
        go_simp
        refine hK.out _ _ (by assumption) (fun hHeld => ?_)
        clear hK K
        try simp only [Act.put, List.setIfInBounds_toArray, List.set_cons_zero, List.set_cons_succ]
        refine tk1 (i := 27) (oi := { dst := some 48, op := Op.binOp BinOp.lss 3 (Operand.tmp 47) (Operand.const (Go.Value.int Go.IntKind.i64 0)) 3, type := 4, pos := "outright.go:24", after := #[{ on := 26, ground := Ground.data }, { on := 23, ground := Ground.guard }], guard := some (23, true) }) (v := undef) rfl (by kernel_rfl) (fun _ _ _ h => h) (Or.inr ⟨by rfl, rfl⟩) (by assumption) ?_
        try simp only [Act.put, List.setIfInBounds_toArray, List.set_cons_zero, List.set_cons_succ]
        refine tk1 (i := 28) (oi := { dst := some 49, op := Op.pick (Operand.tmp 44) (Operand.tmp 48) (Operand.const (Go.Value.bool false)), type := 4, pos := "outright.go:24", after := #[{ on := 23, ground := Ground.data }, { on := 27, ground := Ground.data }, { on := 18, ground := Ground.guard }], guard := some (18, false) }) (v := ?v28r1) rfl (by kernel_rfl) (fun _ _ _ h => h) (Or.inl ⟨by rfl, ?hy28r1⟩) (by assumption) ?rest28r1
        case hy28r1 => (intro w hSw; (try dsimp only at hSw); go_simp; try with_reducible rfl)
        try simp only [Act.put, List.setIfInBounds_toArray, List.set_cons_zero, List.set_cons_succ]
        refine tk1 (i := 29) (oi := { dst := some 50, op := Op.move (Operand.tmp 49), type := 4, pos := "outright.go:24", after := #[{ on := 28, ground := Ground.data }, { on := 26, ground := Ground.chain }, { on := 18, ground := Ground.guard }], guard := some (18, false) }) (v := ?v29r1) rfl (by kernel_rfl) (fun _ _ _ h => h) (Or.inl ⟨by rfl, ?hy29r1⟩) (by assumption) ?rest29r1
        case hy29r1 => (intro w hSw; (try dsimp only at hSw); go_simp; try with_reducible rfl)
        try simp only [Act.put, List.setIfInBounds_toArray, List.set_cons_zero, List.set_cons_succ]
        refine tk1 (i := 30) (oi := { dst := some 51, op := Op.load 27 (Operand.tmp 7), type := 27, pos := "outright.go:24", after := #[{ on := 29, ground := Ground.guard }], guard := some (29, true) }) (v := undef) rfl (by kernel_rfl) (fun _ _ _ h => h) (Or.inr ⟨by rfl, rfl⟩) (by assumption) ?_
        try simp only [Act.put, List.setIfInBounds_toArray, List.set_cons_zero, List.set_cons_succ]
        refine tk1 (i := 31) (oi := { dst := some 52, op := Op.load 27 (Operand.tmp 9), type := 27, pos := "outright.go:24", after := #[{ on := 29, ground := Ground.guard }], guard := some (29, true) }) (v := undef) rfl (by kernel_rfl) (fun _ _ _ h => h) (Or.inr ⟨by rfl, rfl⟩) (by assumption) ?_
        try simp only [Act.put, List.setIfInBounds_toArray, List.set_cons_zero, List.set_cons_succ]
        refine wpAnyH_ready (rs := [32]) (by kernel_rfl) (by simp) ?_
        refine AllReadyH.cons (o := { dst := some 53, op := Op.call { callee := Callee.value (Operand.func 5), args := #[Operand.tmp 51, Operand.tmp 52], argTypes := #[27, 27] }, type := 3, pos := "outright.go:24", after := #[{ on := 30, ground := Ground.data }, { on := 31, ground := Ground.data }, { on := 29, ground := Ground.chain }, { on := 29, ground := Ground.guard }], guard := some (29, true) }) rfl (fun K hK => ?_) AllReadyH.nil
        go_simp
        refine hK.out _ _ (by assumption) (fun hHeld => ?_)
        clear hK K
        try simp only [Act.put, List.setIfInBounds_toArray, List.set_cons_zero, List.set_cons_succ]
        refine tk1 (i := 33) (oi := { dst := some 54, op := Op.binOp BinOp.geq 3 (Operand.tmp 53) (Operand.const (Go.Value.int Go.IntKind.i64 0)) 3, type := 4, pos := "outright.go:24", after := #[{ on := 32, ground := Ground.data }, { on := 29, ground := Ground.guard }], guard := some (29, true) }) (v := undef) rfl (by kernel_rfl) (fun _ _ _ h => h) (Or.inr ⟨by rfl, rfl⟩) (by assumption) ?_
        try simp only [Act.put, List.setIfInBounds_toArray, List.set_cons_zero, List.set_cons_succ]
        refine tk1 (i := 34) (oi := { dst := some 55, op := Op.pick (Operand.tmp 50) (Operand.tmp 54) (Operand.const (Go.Value.bool false)), type := 4, pos := "outright.go:24", after := #[{ on := 29, ground := Ground.data }, { on := 33, ground := Ground.data }, { on := 18, ground := Ground.guard }], guard := some (18, false) }) (v := ?v34r1) rfl (by kernel_rfl) (fun _ _ _ h => h) (Or.inl ⟨by rfl, ?hy34r1⟩) (by assumption) ?rest34r1
        case hy34r1 => (intro w hSw; (try dsimp only at hSw); go_simp; try with_reducible rfl)
        try simp only [Act.put, List.setIfInBounds_toArray, List.set_cons_zero, List.set_cons_succ]
        refine tk1 (i := 35) (oi := { dst := some 56, op := Op.pick (Operand.tmp 39) (Operand.const (Go.Value.bool true)) (Operand.tmp 55), type := 4, pos := "outright.go:24", after := #[{ on := 18, ground := Ground.data }, { on := 34, ground := Ground.data }], guard := none }) (v := ?v35r1) rfl (by kernel_rfl) (fun _ _ _ h => h) (Or.inl ⟨by rfl, ?hy35r1⟩) (by assumption) ?rest35r1
        case hy35r1 => (intro w hSw; (try dsimp only at hSw); go_simp; try with_reducible rfl)
        try simp only [Act.put, List.setIfInBounds_toArray, List.set_cons_zero, List.set_cons_succ]
        refine wpAnyH_done (by kernel_rfl) ?_ _
        try go_wp2_with fail
        try go_meet
        exact ⟨rfl, rfl, rfl, rfl, rfl, Lib.hid hHeld.1⟩
    · as_aux_lemma =>
        have hba : cR b a = 1 := by omega
        clear hba0 kab kbc
        have HAB : Hid (∀ W, Below w1.heap.size w1 W → Calls Tryz.prog 5 #[.agg #[.int .u32 a.a, .int .i64 a.b, .int .u8 a.fr, .int .i64 a.di, .int .i64 a.me, .int .i64 a.ta, .string a.nm, .int .u32 a.ho, .bool a.dc], .agg #[.int .u32 b.a, .int .i64 b.b, .int .u8 b.fr, .int .i64 b.di, .int .i64 b.me, .int .i64 b.ta, .string b.nm, .int .u32 b.ho, .bool b.dc]] W fun e w' => e = .returned (.int .i64 (-1)) ∧ Below W.heap.size W w') := Lib.hid fun W _ => (rcmp_is a b W).mono fun e w' h => ⟨hab ▸ h.1, h.2⟩
        have HBA : Hid (∀ W, Below w1.heap.size w1 W → Calls Tryz.prog 5 #[.agg #[.int .u32 b.a, .int .i64 b.b, .int .u8 b.fr, .int .i64 b.di, .int .i64 b.me, .int .i64 b.ta, .string b.nm, .int .u32 b.ho, .bool b.dc], .agg #[.int .u32 a.a, .int .i64 a.b, .int .u8 a.fr, .int .i64 a.di, .int .i64 a.me, .int .i64 a.ta, .string a.nm, .int .u32 a.ho, .bool a.dc]] W fun e w' => e = .returned (.int .i64 (1)) ∧ Below W.heap.size W w') := Lib.hid fun W _ => (rcmp_is b a W).mono fun e w' h => ⟨hba ▸ h.1, h.2⟩
        have HBC : Hid (∀ W, Below w1.heap.size w1 W → Calls Tryz.prog 5 #[.agg #[.int .u32 b.a, .int .i64 b.b, .int .u8 b.fr, .int .i64 b.di, .int .i64 b.me, .int .i64 b.ta, .string b.nm, .int .u32 b.ho, .bool b.dc], .agg #[.int .u32 c.a, .int .i64 c.b, .int .u8 c.fr, .int .i64 c.di, .int .i64 c.me, .int .i64 c.ta, .string c.nm, .int .u32 c.ho, .bool c.dc]] W fun e w' => e = .returned (.int .i64 (0)) ∧ Below W.heap.size W w') := Lib.hid fun W _ => (rcmp_is b c W).mono fun e w' h => ⟨hbc ▸ h.1, h.2⟩
        have eq : ∀ W : World, (binOp .eql 27 (.agg #[.int .u32 a.a, .int .i64 a.b, .int .u8 a.fr, .int .i64 a.di, .int .i64 a.me, .int .i64 a.ta, .string a.nm, .int .u32 a.ho, .bool a.dc]) (.agg #[.int .u32 b.a, .int .i64 b.b, .int .u8 b.fr, .int .i64 b.di, .int .i64 b.me, .int .i64 b.ta, .string b.nm, .int .u32 b.ho, .bool b.dc])).run Tryz.prog W = .ok (.bool false) W := fun W => by rw [eqlR a b W, hab]; rfl
        have eg : ∀ (op : BinOp) (o1 o2 : Operand) (W : World), (eqGuard op 27 o1 o2 (.agg #[.int .u32 a.a, .int .i64 a.b, .int .u8 a.fr, .int .i64 a.di, .int .i64 a.me, .int .i64 a.ta, .string a.nm, .int .u32 a.ho, .bool a.dc]) (.agg #[.int .u32 b.a, .int .i64 b.b, .int .u8 b.fr, .int .i64 b.di, .int .i64 b.me, .int .i64 b.ta, .string b.nm, .int .u32 b.ho, .bool b.dc])).run Tryz.prog W = .ok () W := fun op o1 o2 W => eqg op o1 o2 a b W
        clear hab hba hbc
        refine wp_region_held_drew (S := (fun w' => Below w1.heap.size w1 w' ∧ w'.cell? ⟨w.heap.size, 0, none⟩ = some (.int .u32 a.a) ∧ w'.cell? ⟨w.heap.size, 1, none⟩ = some (.int .i64 a.b) ∧ w'.cell? ⟨w.heap.size, 2, none⟩ = some (.int .u8 a.fr) ∧ w'.cell? ⟨w.heap.size, 3, none⟩ = some (.int .i64 a.di) ∧ w'.cell? ⟨w.heap.size, 4, none⟩ = some (.int .i64 a.me) ∧ w'.cell? ⟨w.heap.size, 5, none⟩ = some (.int .i64 a.ta) ∧ w'.cell? ⟨w.heap.size, 6, none⟩ = some (.string a.nm) ∧ w'.cell? ⟨w.heap.size, 7, none⟩ = some (.int .u32 a.ho) ∧ w'.cell? ⟨w.heap.size, 8, none⟩ = some (.bool a.dc) ∧ w'.cell? ⟨w.heap.size + 1, 0, none⟩ = some (.int .u32 b.a) ∧ w'.cell? ⟨w.heap.size + 1, 1, none⟩ = some (.int .i64 b.b) ∧ w'.cell? ⟨w.heap.size + 1, 2, none⟩ = some (.int .u8 b.fr) ∧ w'.cell? ⟨w.heap.size + 1, 3, none⟩ = some (.int .i64 b.di) ∧ w'.cell? ⟨w.heap.size + 1, 4, none⟩ = some (.int .i64 b.me) ∧ w'.cell? ⟨w.heap.size + 1, 5, none⟩ = some (.int .i64 b.ta) ∧ w'.cell? ⟨w.heap.size + 1, 6, none⟩ = some (.string b.nm) ∧ w'.cell? ⟨w.heap.size + 1, 7, none⟩ = some (.int .u32 b.ho) ∧ w'.cell? ⟨w.heap.size + 1, 8, none⟩ = some (.bool b.dc) ∧ w'.cell? ⟨w.heap.size + 2, 0, none⟩ = some (.int .u32 c.a) ∧ w'.cell? ⟨w.heap.size + 2, 1, none⟩ = some (.int .i64 c.b) ∧ w'.cell? ⟨w.heap.size + 2, 2, none⟩ = some (.int .u8 c.fr) ∧ w'.cell? ⟨w.heap.size + 2, 3, none⟩ = some (.int .i64 c.di) ∧ w'.cell? ⟨w.heap.size + 2, 4, none⟩ = some (.int .i64 c.me) ∧ w'.cell? ⟨w.heap.size + 2, 5, none⟩ = some (.int .i64 c.ta) ∧ w'.cell? ⟨w.heap.size + 2, 6, none⟩ = some (.string c.nm) ∧ w'.cell? ⟨w.heap.size + 2, 7, none⟩ = some (.int .u32 c.ho) ∧ w'.cell? ⟨w.heap.size + 2, 8, none⟩ = some (.bool c.dc))) (by kernel_rfl) ?_ (fun hHeld => ?_)
        · exact HX.out _ (Below.refl _ _).drew
        refine tk1 (i := 0) (oi := { dst := some 21, op := Op.load 27 (Operand.tmp 7), type := 27, pos := "outright.go:24", after := #[], guard := none }) (v := ?v0r2) rfl (by kernel_rfl) (fun _ _ _ h => h) (Or.inl ⟨by rfl, ?hy0r2⟩) (by assumption) ?rest0r2
        case hy0r2 => (intro w hSw; (try dsimp only at hSw); go_simp; try with_reducible rfl)
        try simp only [Act.put, List.setIfInBounds_toArray, List.set_cons_zero, List.set_cons_succ]
        refine tk1 (i := 1) (oi := { dst := some 22, op := Op.load 27 (Operand.tmp 8), type := 27, pos := "outright.go:24", after := #[], guard := none }) (v := ?v1r2) rfl (by kernel_rfl) (fun _ _ _ h => h) (Or.inl ⟨by rfl, ?hy1r2⟩) (by assumption) ?rest1r2
        case hy1r2 => (intro w hSw; (try dsimp only at hSw); go_simp; try with_reducible rfl)
        try simp only [Act.put, List.setIfInBounds_toArray, List.set_cons_zero, List.set_cons_succ]
        refine tk1 (i := 3) (oi := { dst := some 24, op := Op.load 27 (Operand.tmp 8), type := 27, pos := "outright.go:24", after := #[], guard := none }) (v := ?v3r2) rfl (by kernel_rfl) (fun _ _ _ h => h) (Or.inl ⟨by rfl, ?hy3r2⟩) (by assumption) ?rest3r2
        case hy3r2 => (intro w hSw; (try dsimp only at hSw); go_simp; try with_reducible rfl)
        try simp only [Act.put, List.setIfInBounds_toArray, List.set_cons_zero, List.set_cons_succ]
        refine tk1 (i := 4) (oi := { dst := some 25, op := Op.load 27 (Operand.tmp 7), type := 27, pos := "outright.go:24", after := #[], guard := none }) (v := ?v4r2) rfl (by kernel_rfl) (fun _ _ _ h => h) (Or.inl ⟨by rfl, ?hy4r2⟩) (by assumption) ?rest4r2
        case hy4r2 => (intro w hSw; (try dsimp only at hSw); go_simp; try with_reducible rfl)
        try simp only [Act.put, List.setIfInBounds_toArray, List.set_cons_zero, List.set_cons_succ]
        refine wpAnyH_ready (rs := [2]) (by kernel_rfl) (by simp) ?_
        refine AllReadyH.cons (o := { dst := some 23, op := Op.call { callee := Callee.value (Operand.func 5), args := #[Operand.tmp 21, Operand.tmp 22], argTypes := #[27, 27] }, type := 3, pos := "outright.go:24", after := #[{ on := 0, ground := Ground.data }, { on := 1, ground := Ground.data }], guard := none }) rfl (fun K hK => ?_) AllReadyH.nil
        go_simp
        refine (HAB.out _ hHeld.1).mono ?_
        rintro e w4 ⟨rfl, hb4⟩
        replace hb4 := Below.step hHeld.1 hb4
        try go_wp2_with fail
        refine hK.out _ _ (HX.out _ hb4) (fun hHeld => ?_)
        clear hK K
        try simp only [Act.put, List.setIfInBounds_toArray, List.set_cons_zero, List.set_cons_succ]
        refine wpAnyH_ready (rs := [5]) (by kernel_rfl) (by simp) ?_
        refine AllReadyH.cons (o := { dst := some 26, op := Op.call { callee := Callee.value (Operand.func 5), args := #[Operand.tmp 24, Operand.tmp 25], argTypes := #[27, 27] }, type := 3, pos := "outright.go:24", after := #[{ on := 3, ground := Ground.data }, { on := 4, ground := Ground.data }, { on := 2, ground := Ground.chain }], guard := none }) rfl (fun K hK => ?_) AllReadyH.nil
        go_simp
        refine (HBA.out _ hHeld.1).mono ?_
        rintro e w4 ⟨rfl, hb4⟩
        replace hb4 := Below.step hHeld.1 hb4
        try go_wp2_with fail
        refine hK.out _ _ (HX.out _ hb4) (fun hHeld => ?_)
        clear hK K
        try simp only [Act.put, List.setIfInBounds_toArray, List.set_cons_zero, List.set_cons_succ]
        refine tk1 (i := 6) (oi := { dst := some 27, op := Op.unOp UnOp.neg 3 (Operand.tmp 26), type := 3, pos := "outright.go:24", after := #[{ on := 5, ground := Ground.data }], guard := none }) (v := ?v6r2) rfl (by kernel_rfl) (fun _ _ _ h => h) (Or.inl ⟨by rfl, ?hy6r2⟩) (by assumption) ?rest6r2
        case hy6r2 => (intro w hSw; (try dsimp only at hSw); go_simp; try with_reducible rfl)
        try simp only [Act.put, List.setIfInBounds_toArray, List.set_cons_zero, List.set_cons_succ]
        refine tk1 (i := 7) (oi := { dst := some 28, op := Op.binOp BinOp.neq 3 (Operand.tmp 23) (Operand.tmp 27) 3, type := 4, pos := "outright.go:24", after := #[{ on := 2, ground := Ground.data }, { on := 6, ground := Ground.data }], guard := none }) (v := ?v7r2) rfl (by kernel_rfl) (fun _ _ _ h => h) (Or.inl ⟨by rfl, ?hy7r2⟩) (by assumption) ?rest7r2
        case hy7r2 => (intro w hSw; (try dsimp only at hSw); go_simp; try with_reducible rfl)
        try simp only [Act.put, List.setIfInBounds_toArray, List.set_cons_zero, List.set_cons_succ]
        refine tk1 (i := 8) (oi := { dst := some 29, op := Op.move (Operand.tmp 28), type := 4, pos := "outright.go:24", after := #[{ on := 7, ground := Ground.data }, { on := 5, ground := Ground.chain }], guard := none }) (v := ?v8r2) rfl (by kernel_rfl) (fun _ _ _ h => h) (Or.inl ⟨by rfl, ?hy8r2⟩) (by assumption) ?rest8r2
        case hy8r2 => (intro w hSw; (try dsimp only at hSw); go_simp; try with_reducible rfl)
        try simp only [Act.put, List.setIfInBounds_toArray, List.set_cons_zero, List.set_cons_succ]
        refine tk1 (i := 9) (oi := { dst := some 30, op := Op.load 27 (Operand.tmp 7), type := 27, pos := "outright.go:24", after := #[{ on := 8, ground := Ground.guard }], guard := some (8, false) }) (v := ?v9r2) rfl (by kernel_rfl) (fun _ _ _ h => h) (Or.inl ⟨by rfl, ?hy9r2⟩) (by assumption) ?rest9r2
        case hy9r2 => (intro w hSw; (try dsimp only at hSw); go_simp; try with_reducible rfl)
        try simp only [Act.put, List.setIfInBounds_toArray, List.set_cons_zero, List.set_cons_succ]
        refine tk1 (i := 10) (oi := { dst := some 31, op := Op.load 27 (Operand.tmp 8), type := 27, pos := "outright.go:24", after := #[{ on := 8, ground := Ground.guard }], guard := some (8, false) }) (v := ?v10r2) rfl (by kernel_rfl) (fun _ _ _ h => h) (Or.inl ⟨by rfl, ?hy10r2⟩) (by assumption) ?rest10r2
        case hy10r2 => (intro w hSw; (try dsimp only at hSw); go_simp; try with_reducible rfl)
        try simp only [Act.put, List.setIfInBounds_toArray, List.set_cons_zero, List.set_cons_succ]
        refine tk1 (i := 13) (oi := { dst := some 34, op := Op.load 27 (Operand.tmp 7), type := 27, pos := "outright.go:24", after := #[{ on := 8, ground := Ground.guard }], guard := some (8, false) }) (v := ?v13r2) rfl (by kernel_rfl) (fun _ _ _ h => h) (Or.inl ⟨by rfl, ?hy13r2⟩) (by assumption) ?rest13r2
        case hy13r2 => (intro w hSw; (try dsimp only at hSw); go_simp; try with_reducible rfl)
        try simp only [Act.put, List.setIfInBounds_toArray, List.set_cons_zero, List.set_cons_succ]
        refine tk1 (i := 14) (oi := { dst := some 35, op := Op.load 27 (Operand.tmp 8), type := 27, pos := "outright.go:24", after := #[{ on := 8, ground := Ground.guard }], guard := some (8, false) }) (v := ?v14r2) rfl (by kernel_rfl) (fun _ _ _ h => h) (Or.inl ⟨by rfl, ?hy14r2⟩) (by assumption) ?rest14r2
        case hy14r2 => (intro w hSw; (try dsimp only at hSw); go_simp; try with_reducible rfl)
        try simp only [Act.put, List.setIfInBounds_toArray, List.set_cons_zero, List.set_cons_succ]
        refine tk1 (i := 15) (oi := { dst := some 36, op := Op.binOp BinOp.eql 27 (Operand.tmp 34) (Operand.tmp 35) 27, type := 4, pos := "outright.go:24", after := #[{ on := 13, ground := Ground.data }, { on := 14, ground := Ground.data }, { on := 8, ground := Ground.guard }], guard := some (8, false) }) (v := ?v15r2) rfl (by kernel_rfl) (fun _ _ _ h => h) (Or.inl ⟨by rfl, ?hy15r2⟩) (by assumption) ?rest15r2
        case hy15r2 => (intro w hSw; (try dsimp only at hSw); go_simp; try with_reducible rfl)
        try simp only [Act.put, List.setIfInBounds_toArray, List.set_cons_zero, List.set_cons_succ]
        refine wpAnyH_ready (rs := [11]) (by kernel_rfl) (by simp) ?_
        refine AllReadyH.cons (o := { dst := some 32, op := Op.call { callee := Callee.value (Operand.func 5), args := #[Operand.tmp 30, Operand.tmp 31], argTypes := #[27, 27] }, type := 3, pos := "outright.go:24", after := #[{ on := 9, ground := Ground.data }, { on := 10, ground := Ground.data }, { on := 8, ground := Ground.chain }, { on := 8, ground := Ground.guard }], guard := some (8, false) }) rfl (fun K hK => ?_) AllReadyH.nil
        go_simp
        refine (HAB.out _ hHeld.1).mono ?_
        rintro e w4 ⟨rfl, hb4⟩
        replace hb4 := Below.step hHeld.1 hb4
        try go_wp2_with fail
        refine hK.out _ _ (HX.out _ hb4) (fun hHeld => ?_)
        clear hK K
        try simp only [Act.put, List.setIfInBounds_toArray, List.set_cons_zero, List.set_cons_succ]
        refine tk1 (i := 12) (oi := { dst := some 33, op := Op.binOp BinOp.eql 3 (Operand.tmp 32) (Operand.const (Go.Value.int Go.IntKind.i64 0)) 3, type := 4, pos := "outright.go:24", after := #[{ on := 11, ground := Ground.data }, { on := 8, ground := Ground.guard }], guard := some (8, false) }) (v := ?v12r2) rfl (by kernel_rfl) (fun _ _ _ h => h) (Or.inl ⟨by rfl, ?hy12r2⟩) (by assumption) ?rest12r2
        case hy12r2 => (intro w hSw; (try dsimp only at hSw); go_simp; try with_reducible rfl)
        try simp only [Act.put, List.setIfInBounds_toArray, List.set_cons_zero, List.set_cons_succ]
        refine tk1 (i := 16) (oi := { dst := some 37, op := Op.binOp BinOp.neq 4 (Operand.tmp 33) (Operand.tmp 36) 4, type := 4, pos := "outright.go:24", after := #[{ on := 12, ground := Ground.data }, { on := 15, ground := Ground.data }, { on := 8, ground := Ground.guard }], guard := some (8, false) }) (v := ?v16r2) rfl (by kernel_rfl) (fun _ _ _ h => h) (Or.inl ⟨by rfl, ?hy16r2⟩) (by assumption) ?rest16r2
        case hy16r2 => (intro w hSw; (try dsimp only at hSw); go_simp; try with_reducible rfl)
        try simp only [Act.put, List.setIfInBounds_toArray, List.set_cons_zero, List.set_cons_succ]
        refine tk1 (i := 17) (oi := { dst := some 38, op := Op.pick (Operand.tmp 29) (Operand.const (Go.Value.bool true)) (Operand.tmp 37), type := 4, pos := "outright.go:24", after := #[{ on := 8, ground := Ground.data }, { on := 16, ground := Ground.data }], guard := none }) (v := ?v17r2) rfl (by kernel_rfl) (fun _ _ _ h => h) (Or.inl ⟨by rfl, ?hy17r2⟩) (by assumption) ?rest17r2
        case hy17r2 => (intro w hSw; (try dsimp only at hSw); go_simp; try with_reducible rfl)
        try simp only [Act.put, List.setIfInBounds_toArray, List.set_cons_zero, List.set_cons_succ]
        refine tk1 (i := 18) (oi := { dst := some 39, op := Op.move (Operand.tmp 38), type := 4, pos := "outright.go:24", after := #[{ on := 17, ground := Ground.data }, { on := 11, ground := Ground.chain }], guard := none }) (v := ?v18r2) rfl (by kernel_rfl) (fun _ _ _ h => h) (Or.inl ⟨by rfl, ?hy18r2⟩) (by assumption) ?rest18r2
        case hy18r2 => (intro w hSw; (try dsimp only at hSw); go_simp; try with_reducible rfl)
        try simp only [Act.put, List.setIfInBounds_toArray, List.set_cons_zero, List.set_cons_succ]
        refine tk1 (i := 19) (oi := { dst := some 40, op := Op.load 27 (Operand.tmp 7), type := 27, pos := "outright.go:24", after := #[{ on := 18, ground := Ground.guard }], guard := some (18, false) }) (v := ?v19r2) rfl (by kernel_rfl) (fun _ _ _ h => h) (Or.inl ⟨by rfl, ?hy19r2⟩) (by assumption) ?rest19r2
        case hy19r2 => (intro w hSw; (try dsimp only at hSw); go_simp; try with_reducible rfl)
        try simp only [Act.put, List.setIfInBounds_toArray, List.set_cons_zero, List.set_cons_succ]
        refine tk1 (i := 20) (oi := { dst := some 41, op := Op.load 27 (Operand.tmp 8), type := 27, pos := "outright.go:24", after := #[{ on := 18, ground := Ground.guard }], guard := some (18, false) }) (v := ?v20r2) rfl (by kernel_rfl) (fun _ _ _ h => h) (Or.inl ⟨by rfl, ?hy20r2⟩) (by assumption) ?rest20r2
        case hy20r2 => (intro w hSw; (try dsimp only at hSw); go_simp; try with_reducible rfl)
        try simp only [Act.put, List.setIfInBounds_toArray, List.set_cons_zero, List.set_cons_succ]
        refine wpAnyH_ready (rs := [21]) (by kernel_rfl) (by simp) ?_
        refine AllReadyH.cons (o := { dst := some 42, op := Op.call { callee := Callee.value (Operand.func 5), args := #[Operand.tmp 40, Operand.tmp 41], argTypes := #[27, 27] }, type := 3, pos := "outright.go:24", after := #[{ on := 19, ground := Ground.data }, { on := 20, ground := Ground.data }, { on := 18, ground := Ground.chain }, { on := 18, ground := Ground.guard }], guard := some (18, false) }) rfl (fun K hK => ?_) AllReadyH.nil
        go_simp
        refine (HAB.out _ hHeld.1).mono ?_
        rintro e w4 ⟨rfl, hb4⟩
        replace hb4 := Below.step hHeld.1 hb4
        try go_wp2_with fail
        refine hK.out _ _ (HX.out _ hb4) (fun hHeld => ?_)
        clear hK K
        try simp only [Act.put, List.setIfInBounds_toArray, List.set_cons_zero, List.set_cons_succ]
        refine tk1 (i := 22) (oi := { dst := some 43, op := Op.binOp BinOp.lss 3 (Operand.tmp 42) (Operand.const (Go.Value.int Go.IntKind.i64 0)) 3, type := 4, pos := "outright.go:24", after := #[{ on := 21, ground := Ground.data }, { on := 18, ground := Ground.guard }], guard := some (18, false) }) (v := ?v22r2) rfl (by kernel_rfl) (fun _ _ _ h => h) (Or.inl ⟨by rfl, ?hy22r2⟩) (by assumption) ?rest22r2
        case hy22r2 => (intro w hSw; (try dsimp only at hSw); go_simp; try with_reducible rfl)
        try simp only [Act.put, List.setIfInBounds_toArray, List.set_cons_zero, List.set_cons_succ]
        refine tk1 (i := 23) (oi := { dst := some 44, op := Op.move (Operand.tmp 43), type := 4, pos := "outright.go:24", after := #[{ on := 22, ground := Ground.data }, { on := 21, ground := Ground.chain }, { on := 18, ground := Ground.guard }], guard := some (18, false) }) (v := ?v23r2) rfl (by kernel_rfl) (fun _ _ _ h => h) (Or.inl ⟨by rfl, ?hy23r2⟩) (by assumption) ?rest23r2
        case hy23r2 => (intro w hSw; (try dsimp only at hSw); go_simp; try with_reducible rfl)
        try simp only [Act.put, List.setIfInBounds_toArray, List.set_cons_zero, List.set_cons_succ]
        refine tk1 (i := 24) (oi := { dst := some 45, op := Op.load 27 (Operand.tmp 8), type := 27, pos := "outright.go:24", after := #[{ on := 23, ground := Ground.guard }], guard := some (23, true) }) (v := ?v24r2) rfl (by kernel_rfl) (fun _ _ _ h => h) (Or.inl ⟨by rfl, ?hy24r2⟩) (by assumption) ?rest24r2
        case hy24r2 => (intro w hSw; (try dsimp only at hSw); go_simp; try with_reducible rfl)
        try simp only [Act.put, List.setIfInBounds_toArray, List.set_cons_zero, List.set_cons_succ]
        refine tk1 (i := 25) (oi := { dst := some 46, op := Op.load 27 (Operand.tmp 9), type := 27, pos := "outright.go:24", after := #[{ on := 23, ground := Ground.guard }], guard := some (23, true) }) (v := ?v25r2) rfl (by kernel_rfl) (fun _ _ _ h => h) (Or.inl ⟨by rfl, ?hy25r2⟩) (by assumption) ?rest25r2
        case hy25r2 => (intro w hSw; (try dsimp only at hSw); go_simp; try with_reducible rfl)
        try simp only [Act.put, List.setIfInBounds_toArray, List.set_cons_zero, List.set_cons_succ]
        refine wpAnyH_ready (rs := [26]) (by kernel_rfl) (by simp) ?_
        refine AllReadyH.cons (o := { dst := some 47, op := Op.call { callee := Callee.value (Operand.func 5), args := #[Operand.tmp 45, Operand.tmp 46], argTypes := #[27, 27] }, type := 3, pos := "outright.go:24", after := #[{ on := 24, ground := Ground.data }, { on := 25, ground := Ground.data }, { on := 23, ground := Ground.chain }, { on := 23, ground := Ground.guard }], guard := some (23, true) }) rfl (fun K hK => ?_) AllReadyH.nil
        go_simp
        refine (HBC.out _ hHeld.1).mono ?_
        rintro e w4 ⟨rfl, hb4⟩
        replace hb4 := Below.step hHeld.1 hb4
        try go_wp2_with fail
        refine hK.out _ _ (HX.out _ hb4) (fun hHeld => ?_)
        clear hK K
        try simp only [Act.put, List.setIfInBounds_toArray, List.set_cons_zero, List.set_cons_succ]
        refine tk1 (i := 27) (oi := { dst := some 48, op := Op.binOp BinOp.lss 3 (Operand.tmp 47) (Operand.const (Go.Value.int Go.IntKind.i64 0)) 3, type := 4, pos := "outright.go:24", after := #[{ on := 26, ground := Ground.data }, { on := 23, ground := Ground.guard }], guard := some (23, true) }) (v := ?v27r2) rfl (by kernel_rfl) (fun _ _ _ h => h) (Or.inl ⟨by rfl, ?hy27r2⟩) (by assumption) ?rest27r2
        case hy27r2 => (intro w hSw; (try dsimp only at hSw); go_simp; try with_reducible rfl)
        try simp only [Act.put, List.setIfInBounds_toArray, List.set_cons_zero, List.set_cons_succ]
        refine tk1 (i := 28) (oi := { dst := some 49, op := Op.pick (Operand.tmp 44) (Operand.tmp 48) (Operand.const (Go.Value.bool false)), type := 4, pos := "outright.go:24", after := #[{ on := 23, ground := Ground.data }, { on := 27, ground := Ground.data }, { on := 18, ground := Ground.guard }], guard := some (18, false) }) (v := ?v28r2) rfl (by kernel_rfl) (fun _ _ _ h => h) (Or.inl ⟨by rfl, ?hy28r2⟩) (by assumption) ?rest28r2
        case hy28r2 => (intro w hSw; (try dsimp only at hSw); go_simp; try with_reducible rfl)
        try simp only [Act.put, List.setIfInBounds_toArray, List.set_cons_zero, List.set_cons_succ]
        refine tk1 (i := 29) (oi := { dst := some 50, op := Op.move (Operand.tmp 49), type := 4, pos := "outright.go:24", after := #[{ on := 28, ground := Ground.data }, { on := 26, ground := Ground.chain }, { on := 18, ground := Ground.guard }], guard := some (18, false) }) (v := ?v29r2) rfl (by kernel_rfl) (fun _ _ _ h => h) (Or.inl ⟨by rfl, ?hy29r2⟩) (by assumption) ?rest29r2
        case hy29r2 => (intro w hSw; (try dsimp only at hSw); go_simp; try with_reducible rfl)
        try simp only [Act.put, List.setIfInBounds_toArray, List.set_cons_zero, List.set_cons_succ]
        refine tk1 (i := 30) (oi := { dst := some 51, op := Op.load 27 (Operand.tmp 7), type := 27, pos := "outright.go:24", after := #[{ on := 29, ground := Ground.guard }], guard := some (29, true) }) (v := undef) rfl (by kernel_rfl) (fun _ _ _ h => h) (Or.inr ⟨by rfl, rfl⟩) (by assumption) ?_
        try simp only [Act.put, List.setIfInBounds_toArray, List.set_cons_zero, List.set_cons_succ]
        refine tk1 (i := 31) (oi := { dst := some 52, op := Op.load 27 (Operand.tmp 9), type := 27, pos := "outright.go:24", after := #[{ on := 29, ground := Ground.guard }], guard := some (29, true) }) (v := undef) rfl (by kernel_rfl) (fun _ _ _ h => h) (Or.inr ⟨by rfl, rfl⟩) (by assumption) ?_
        try simp only [Act.put, List.setIfInBounds_toArray, List.set_cons_zero, List.set_cons_succ]
        refine wpAnyH_ready (rs := [32]) (by kernel_rfl) (by simp) ?_
        refine AllReadyH.cons (o := { dst := some 53, op := Op.call { callee := Callee.value (Operand.func 5), args := #[Operand.tmp 51, Operand.tmp 52], argTypes := #[27, 27] }, type := 3, pos := "outright.go:24", after := #[{ on := 30, ground := Ground.data }, { on := 31, ground := Ground.data }, { on := 29, ground := Ground.chain }, { on := 29, ground := Ground.guard }], guard := some (29, true) }) rfl (fun K hK => ?_) AllReadyH.nil
        go_simp
        refine hK.out _ _ (by assumption) (fun hHeld => ?_)
        clear hK K
        try simp only [Act.put, List.setIfInBounds_toArray, List.set_cons_zero, List.set_cons_succ]
        refine tk1 (i := 33) (oi := { dst := some 54, op := Op.binOp BinOp.geq 3 (Operand.tmp 53) (Operand.const (Go.Value.int Go.IntKind.i64 0)) 3, type := 4, pos := "outright.go:24", after := #[{ on := 32, ground := Ground.data }, { on := 29, ground := Ground.guard }], guard := some (29, true) }) (v := undef) rfl (by kernel_rfl) (fun _ _ _ h => h) (Or.inr ⟨by rfl, rfl⟩) (by assumption) ?_
        try simp only [Act.put, List.setIfInBounds_toArray, List.set_cons_zero, List.set_cons_succ]
        refine tk1 (i := 34) (oi := { dst := some 55, op := Op.pick (Operand.tmp 50) (Operand.tmp 54) (Operand.const (Go.Value.bool false)), type := 4, pos := "outright.go:24", after := #[{ on := 29, ground := Ground.data }, { on := 33, ground := Ground.data }, { on := 18, ground := Ground.guard }], guard := some (18, false) }) (v := ?v34r2) rfl (by kernel_rfl) (fun _ _ _ h => h) (Or.inl ⟨by rfl, ?hy34r2⟩) (by assumption) ?rest34r2
        case hy34r2 => (intro w hSw; (try dsimp only at hSw); go_simp; try with_reducible rfl)
        try simp only [Act.put, List.setIfInBounds_toArray, List.set_cons_zero, List.set_cons_succ]
        refine tk1 (i := 35) (oi := { dst := some 56, op := Op.pick (Operand.tmp 39) (Operand.const (Go.Value.bool true)) (Operand.tmp 55), type := 4, pos := "outright.go:24", after := #[{ on := 18, ground := Ground.data }, { on := 34, ground := Ground.data }], guard := none }) (v := ?v35r2) rfl (by kernel_rfl) (fun _ _ _ h => h) (Or.inl ⟨by rfl, ?hy35r2⟩) (by assumption) ?rest35r2
        case hy35r2 => (intro w hSw; (try dsimp only at hSw); go_simp; try with_reducible rfl)
        try simp only [Act.put, List.setIfInBounds_toArray, List.set_cons_zero, List.set_cons_succ]
        refine wpAnyH_done (by kernel_rfl) ?_ _
        try go_wp2_with fail
        try go_meet
        exact ⟨rfl, rfl, rfl, rfl, rfl, Lib.hid hHeld.1⟩
    · as_aux_lemma =>
        have hba : cR b a = 1 := by omega
        clear hba0 kab kbc
        have HAB : Hid (∀ W, Below w1.heap.size w1 W → Calls Tryz.prog 5 #[.agg #[.int .u32 a.a, .int .i64 a.b, .int .u8 a.fr, .int .i64 a.di, .int .i64 a.me, .int .i64 a.ta, .string a.nm, .int .u32 a.ho, .bool a.dc], .agg #[.int .u32 b.a, .int .i64 b.b, .int .u8 b.fr, .int .i64 b.di, .int .i64 b.me, .int .i64 b.ta, .string b.nm, .int .u32 b.ho, .bool b.dc]] W fun e w' => e = .returned (.int .i64 (-1)) ∧ Below W.heap.size W w') := Lib.hid fun W _ => (rcmp_is a b W).mono fun e w' h => ⟨hab ▸ h.1, h.2⟩
        have HBA : Hid (∀ W, Below w1.heap.size w1 W → Calls Tryz.prog 5 #[.agg #[.int .u32 b.a, .int .i64 b.b, .int .u8 b.fr, .int .i64 b.di, .int .i64 b.me, .int .i64 b.ta, .string b.nm, .int .u32 b.ho, .bool b.dc], .agg #[.int .u32 a.a, .int .i64 a.b, .int .u8 a.fr, .int .i64 a.di, .int .i64 a.me, .int .i64 a.ta, .string a.nm, .int .u32 a.ho, .bool a.dc]] W fun e w' => e = .returned (.int .i64 (1)) ∧ Below W.heap.size W w') := Lib.hid fun W _ => (rcmp_is b a W).mono fun e w' h => ⟨hba ▸ h.1, h.2⟩
        have HBC : Hid (∀ W, Below w1.heap.size w1 W → Calls Tryz.prog 5 #[.agg #[.int .u32 b.a, .int .i64 b.b, .int .u8 b.fr, .int .i64 b.di, .int .i64 b.me, .int .i64 b.ta, .string b.nm, .int .u32 b.ho, .bool b.dc], .agg #[.int .u32 c.a, .int .i64 c.b, .int .u8 c.fr, .int .i64 c.di, .int .i64 c.me, .int .i64 c.ta, .string c.nm, .int .u32 c.ho, .bool c.dc]] W fun e w' => e = .returned (.int .i64 (1)) ∧ Below W.heap.size W w') := Lib.hid fun W _ => (rcmp_is b c W).mono fun e w' h => ⟨hbc ▸ h.1, h.2⟩
        have eq : ∀ W : World, (binOp .eql 27 (.agg #[.int .u32 a.a, .int .i64 a.b, .int .u8 a.fr, .int .i64 a.di, .int .i64 a.me, .int .i64 a.ta, .string a.nm, .int .u32 a.ho, .bool a.dc]) (.agg #[.int .u32 b.a, .int .i64 b.b, .int .u8 b.fr, .int .i64 b.di, .int .i64 b.me, .int .i64 b.ta, .string b.nm, .int .u32 b.ho, .bool b.dc])).run Tryz.prog W = .ok (.bool false) W := fun W => by rw [eqlR a b W, hab]; rfl
        have eg : ∀ (op : BinOp) (o1 o2 : Operand) (W : World), (eqGuard op 27 o1 o2 (.agg #[.int .u32 a.a, .int .i64 a.b, .int .u8 a.fr, .int .i64 a.di, .int .i64 a.me, .int .i64 a.ta, .string a.nm, .int .u32 a.ho, .bool a.dc]) (.agg #[.int .u32 b.a, .int .i64 b.b, .int .u8 b.fr, .int .i64 b.di, .int .i64 b.me, .int .i64 b.ta, .string b.nm, .int .u32 b.ho, .bool b.dc])).run Tryz.prog W = .ok () W := fun op o1 o2 W => eqg op o1 o2 a b W
        clear hab hba hbc
        refine wp_region_held_drew (S := (fun w' => Below w1.heap.size w1 w' ∧ w'.cell? ⟨w.heap.size, 0, none⟩ = some (.int .u32 a.a) ∧ w'.cell? ⟨w.heap.size, 1, none⟩ = some (.int .i64 a.b) ∧ w'.cell? ⟨w.heap.size, 2, none⟩ = some (.int .u8 a.fr) ∧ w'.cell? ⟨w.heap.size, 3, none⟩ = some (.int .i64 a.di) ∧ w'.cell? ⟨w.heap.size, 4, none⟩ = some (.int .i64 a.me) ∧ w'.cell? ⟨w.heap.size, 5, none⟩ = some (.int .i64 a.ta) ∧ w'.cell? ⟨w.heap.size, 6, none⟩ = some (.string a.nm) ∧ w'.cell? ⟨w.heap.size, 7, none⟩ = some (.int .u32 a.ho) ∧ w'.cell? ⟨w.heap.size, 8, none⟩ = some (.bool a.dc) ∧ w'.cell? ⟨w.heap.size + 1, 0, none⟩ = some (.int .u32 b.a) ∧ w'.cell? ⟨w.heap.size + 1, 1, none⟩ = some (.int .i64 b.b) ∧ w'.cell? ⟨w.heap.size + 1, 2, none⟩ = some (.int .u8 b.fr) ∧ w'.cell? ⟨w.heap.size + 1, 3, none⟩ = some (.int .i64 b.di) ∧ w'.cell? ⟨w.heap.size + 1, 4, none⟩ = some (.int .i64 b.me) ∧ w'.cell? ⟨w.heap.size + 1, 5, none⟩ = some (.int .i64 b.ta) ∧ w'.cell? ⟨w.heap.size + 1, 6, none⟩ = some (.string b.nm) ∧ w'.cell? ⟨w.heap.size + 1, 7, none⟩ = some (.int .u32 b.ho) ∧ w'.cell? ⟨w.heap.size + 1, 8, none⟩ = some (.bool b.dc) ∧ w'.cell? ⟨w.heap.size + 2, 0, none⟩ = some (.int .u32 c.a) ∧ w'.cell? ⟨w.heap.size + 2, 1, none⟩ = some (.int .i64 c.b) ∧ w'.cell? ⟨w.heap.size + 2, 2, none⟩ = some (.int .u8 c.fr) ∧ w'.cell? ⟨w.heap.size + 2, 3, none⟩ = some (.int .i64 c.di) ∧ w'.cell? ⟨w.heap.size + 2, 4, none⟩ = some (.int .i64 c.me) ∧ w'.cell? ⟨w.heap.size + 2, 5, none⟩ = some (.int .i64 c.ta) ∧ w'.cell? ⟨w.heap.size + 2, 6, none⟩ = some (.string c.nm) ∧ w'.cell? ⟨w.heap.size + 2, 7, none⟩ = some (.int .u32 c.ho) ∧ w'.cell? ⟨w.heap.size + 2, 8, none⟩ = some (.bool c.dc))) (by kernel_rfl) ?_ (fun hHeld => ?_)
        · exact HX.out _ (Below.refl _ _).drew
        refine tk1 (i := 0) (oi := { dst := some 21, op := Op.load 27 (Operand.tmp 7), type := 27, pos := "outright.go:24", after := #[], guard := none }) (v := ?v0r3) rfl (by kernel_rfl) (fun _ _ _ h => h) (Or.inl ⟨by rfl, ?hy0r3⟩) (by assumption) ?rest0r3
        case hy0r3 => (intro w hSw; (try dsimp only at hSw); go_simp; try with_reducible rfl)
        try simp only [Act.put, List.setIfInBounds_toArray, List.set_cons_zero, List.set_cons_succ]
        refine tk1 (i := 1) (oi := { dst := some 22, op := Op.load 27 (Operand.tmp 8), type := 27, pos := "outright.go:24", after := #[], guard := none }) (v := ?v1r3) rfl (by kernel_rfl) (fun _ _ _ h => h) (Or.inl ⟨by rfl, ?hy1r3⟩) (by assumption) ?rest1r3
        case hy1r3 => (intro w hSw; (try dsimp only at hSw); go_simp; try with_reducible rfl)
        try simp only [Act.put, List.setIfInBounds_toArray, List.set_cons_zero, List.set_cons_succ]
        refine tk1 (i := 3) (oi := { dst := some 24, op := Op.load 27 (Operand.tmp 8), type := 27, pos := "outright.go:24", after := #[], guard := none }) (v := ?v3r3) rfl (by kernel_rfl) (fun _ _ _ h => h) (Or.inl ⟨by rfl, ?hy3r3⟩) (by assumption) ?rest3r3
        case hy3r3 => (intro w hSw; (try dsimp only at hSw); go_simp; try with_reducible rfl)
        try simp only [Act.put, List.setIfInBounds_toArray, List.set_cons_zero, List.set_cons_succ]
        refine tk1 (i := 4) (oi := { dst := some 25, op := Op.load 27 (Operand.tmp 7), type := 27, pos := "outright.go:24", after := #[], guard := none }) (v := ?v4r3) rfl (by kernel_rfl) (fun _ _ _ h => h) (Or.inl ⟨by rfl, ?hy4r3⟩) (by assumption) ?rest4r3
        case hy4r3 => (intro w hSw; (try dsimp only at hSw); go_simp; try with_reducible rfl)
        try simp only [Act.put, List.setIfInBounds_toArray, List.set_cons_zero, List.set_cons_succ]
        refine wpAnyH_ready (rs := [2]) (by kernel_rfl) (by simp) ?_
        refine AllReadyH.cons (o := { dst := some 23, op := Op.call { callee := Callee.value (Operand.func 5), args := #[Operand.tmp 21, Operand.tmp 22], argTypes := #[27, 27] }, type := 3, pos := "outright.go:24", after := #[{ on := 0, ground := Ground.data }, { on := 1, ground := Ground.data }], guard := none }) rfl (fun K hK => ?_) AllReadyH.nil
        go_simp
        refine (HAB.out _ hHeld.1).mono ?_
        rintro e w4 ⟨rfl, hb4⟩
        replace hb4 := Below.step hHeld.1 hb4
        try go_wp2_with fail
        refine hK.out _ _ (HX.out _ hb4) (fun hHeld => ?_)
        clear hK K
        try simp only [Act.put, List.setIfInBounds_toArray, List.set_cons_zero, List.set_cons_succ]
        refine wpAnyH_ready (rs := [5]) (by kernel_rfl) (by simp) ?_
        refine AllReadyH.cons (o := { dst := some 26, op := Op.call { callee := Callee.value (Operand.func 5), args := #[Operand.tmp 24, Operand.tmp 25], argTypes := #[27, 27] }, type := 3, pos := "outright.go:24", after := #[{ on := 3, ground := Ground.data }, { on := 4, ground := Ground.data }, { on := 2, ground := Ground.chain }], guard := none }) rfl (fun K hK => ?_) AllReadyH.nil
        go_simp
        refine (HBA.out _ hHeld.1).mono ?_
        rintro e w4 ⟨rfl, hb4⟩
        replace hb4 := Below.step hHeld.1 hb4
        try go_wp2_with fail
        refine hK.out _ _ (HX.out _ hb4) (fun hHeld => ?_)
        clear hK K
        try simp only [Act.put, List.setIfInBounds_toArray, List.set_cons_zero, List.set_cons_succ]
        refine tk1 (i := 6) (oi := { dst := some 27, op := Op.unOp UnOp.neg 3 (Operand.tmp 26), type := 3, pos := "outright.go:24", after := #[{ on := 5, ground := Ground.data }], guard := none }) (v := ?v6r3) rfl (by kernel_rfl) (fun _ _ _ h => h) (Or.inl ⟨by rfl, ?hy6r3⟩) (by assumption) ?rest6r3
        case hy6r3 => (intro w hSw; (try dsimp only at hSw); go_simp; try with_reducible rfl)
        try simp only [Act.put, List.setIfInBounds_toArray, List.set_cons_zero, List.set_cons_succ]
        refine tk1 (i := 7) (oi := { dst := some 28, op := Op.binOp BinOp.neq 3 (Operand.tmp 23) (Operand.tmp 27) 3, type := 4, pos := "outright.go:24", after := #[{ on := 2, ground := Ground.data }, { on := 6, ground := Ground.data }], guard := none }) (v := ?v7r3) rfl (by kernel_rfl) (fun _ _ _ h => h) (Or.inl ⟨by rfl, ?hy7r3⟩) (by assumption) ?rest7r3
        case hy7r3 => (intro w hSw; (try dsimp only at hSw); go_simp; try with_reducible rfl)
        try simp only [Act.put, List.setIfInBounds_toArray, List.set_cons_zero, List.set_cons_succ]
        refine tk1 (i := 8) (oi := { dst := some 29, op := Op.move (Operand.tmp 28), type := 4, pos := "outright.go:24", after := #[{ on := 7, ground := Ground.data }, { on := 5, ground := Ground.chain }], guard := none }) (v := ?v8r3) rfl (by kernel_rfl) (fun _ _ _ h => h) (Or.inl ⟨by rfl, ?hy8r3⟩) (by assumption) ?rest8r3
        case hy8r3 => (intro w hSw; (try dsimp only at hSw); go_simp; try with_reducible rfl)
        try simp only [Act.put, List.setIfInBounds_toArray, List.set_cons_zero, List.set_cons_succ]
        refine tk1 (i := 9) (oi := { dst := some 30, op := Op.load 27 (Operand.tmp 7), type := 27, pos := "outright.go:24", after := #[{ on := 8, ground := Ground.guard }], guard := some (8, false) }) (v := ?v9r3) rfl (by kernel_rfl) (fun _ _ _ h => h) (Or.inl ⟨by rfl, ?hy9r3⟩) (by assumption) ?rest9r3
        case hy9r3 => (intro w hSw; (try dsimp only at hSw); go_simp; try with_reducible rfl)
        try simp only [Act.put, List.setIfInBounds_toArray, List.set_cons_zero, List.set_cons_succ]
        refine tk1 (i := 10) (oi := { dst := some 31, op := Op.load 27 (Operand.tmp 8), type := 27, pos := "outright.go:24", after := #[{ on := 8, ground := Ground.guard }], guard := some (8, false) }) (v := ?v10r3) rfl (by kernel_rfl) (fun _ _ _ h => h) (Or.inl ⟨by rfl, ?hy10r3⟩) (by assumption) ?rest10r3
        case hy10r3 => (intro w hSw; (try dsimp only at hSw); go_simp; try with_reducible rfl)
        try simp only [Act.put, List.setIfInBounds_toArray, List.set_cons_zero, List.set_cons_succ]
        refine tk1 (i := 13) (oi := { dst := some 34, op := Op.load 27 (Operand.tmp 7), type := 27, pos := "outright.go:24", after := #[{ on := 8, ground := Ground.guard }], guard := some (8, false) }) (v := ?v13r3) rfl (by kernel_rfl) (fun _ _ _ h => h) (Or.inl ⟨by rfl, ?hy13r3⟩) (by assumption) ?rest13r3
        case hy13r3 => (intro w hSw; (try dsimp only at hSw); go_simp; try with_reducible rfl)
        try simp only [Act.put, List.setIfInBounds_toArray, List.set_cons_zero, List.set_cons_succ]
        refine tk1 (i := 14) (oi := { dst := some 35, op := Op.load 27 (Operand.tmp 8), type := 27, pos := "outright.go:24", after := #[{ on := 8, ground := Ground.guard }], guard := some (8, false) }) (v := ?v14r3) rfl (by kernel_rfl) (fun _ _ _ h => h) (Or.inl ⟨by rfl, ?hy14r3⟩) (by assumption) ?rest14r3
        case hy14r3 => (intro w hSw; (try dsimp only at hSw); go_simp; try with_reducible rfl)
        try simp only [Act.put, List.setIfInBounds_toArray, List.set_cons_zero, List.set_cons_succ]
        refine tk1 (i := 15) (oi := { dst := some 36, op := Op.binOp BinOp.eql 27 (Operand.tmp 34) (Operand.tmp 35) 27, type := 4, pos := "outright.go:24", after := #[{ on := 13, ground := Ground.data }, { on := 14, ground := Ground.data }, { on := 8, ground := Ground.guard }], guard := some (8, false) }) (v := ?v15r3) rfl (by kernel_rfl) (fun _ _ _ h => h) (Or.inl ⟨by rfl, ?hy15r3⟩) (by assumption) ?rest15r3
        case hy15r3 => (intro w hSw; (try dsimp only at hSw); go_simp; try with_reducible rfl)
        try simp only [Act.put, List.setIfInBounds_toArray, List.set_cons_zero, List.set_cons_succ]
        refine wpAnyH_ready (rs := [11]) (by kernel_rfl) (by simp) ?_
        refine AllReadyH.cons (o := { dst := some 32, op := Op.call { callee := Callee.value (Operand.func 5), args := #[Operand.tmp 30, Operand.tmp 31], argTypes := #[27, 27] }, type := 3, pos := "outright.go:24", after := #[{ on := 9, ground := Ground.data }, { on := 10, ground := Ground.data }, { on := 8, ground := Ground.chain }, { on := 8, ground := Ground.guard }], guard := some (8, false) }) rfl (fun K hK => ?_) AllReadyH.nil
        go_simp
        refine (HAB.out _ hHeld.1).mono ?_
        rintro e w4 ⟨rfl, hb4⟩
        replace hb4 := Below.step hHeld.1 hb4
        try go_wp2_with fail
        refine hK.out _ _ (HX.out _ hb4) (fun hHeld => ?_)
        clear hK K
        try simp only [Act.put, List.setIfInBounds_toArray, List.set_cons_zero, List.set_cons_succ]
        refine tk1 (i := 12) (oi := { dst := some 33, op := Op.binOp BinOp.eql 3 (Operand.tmp 32) (Operand.const (Go.Value.int Go.IntKind.i64 0)) 3, type := 4, pos := "outright.go:24", after := #[{ on := 11, ground := Ground.data }, { on := 8, ground := Ground.guard }], guard := some (8, false) }) (v := ?v12r3) rfl (by kernel_rfl) (fun _ _ _ h => h) (Or.inl ⟨by rfl, ?hy12r3⟩) (by assumption) ?rest12r3
        case hy12r3 => (intro w hSw; (try dsimp only at hSw); go_simp; try with_reducible rfl)
        try simp only [Act.put, List.setIfInBounds_toArray, List.set_cons_zero, List.set_cons_succ]
        refine tk1 (i := 16) (oi := { dst := some 37, op := Op.binOp BinOp.neq 4 (Operand.tmp 33) (Operand.tmp 36) 4, type := 4, pos := "outright.go:24", after := #[{ on := 12, ground := Ground.data }, { on := 15, ground := Ground.data }, { on := 8, ground := Ground.guard }], guard := some (8, false) }) (v := ?v16r3) rfl (by kernel_rfl) (fun _ _ _ h => h) (Or.inl ⟨by rfl, ?hy16r3⟩) (by assumption) ?rest16r3
        case hy16r3 => (intro w hSw; (try dsimp only at hSw); go_simp; try with_reducible rfl)
        try simp only [Act.put, List.setIfInBounds_toArray, List.set_cons_zero, List.set_cons_succ]
        refine tk1 (i := 17) (oi := { dst := some 38, op := Op.pick (Operand.tmp 29) (Operand.const (Go.Value.bool true)) (Operand.tmp 37), type := 4, pos := "outright.go:24", after := #[{ on := 8, ground := Ground.data }, { on := 16, ground := Ground.data }], guard := none }) (v := ?v17r3) rfl (by kernel_rfl) (fun _ _ _ h => h) (Or.inl ⟨by rfl, ?hy17r3⟩) (by assumption) ?rest17r3
        case hy17r3 => (intro w hSw; (try dsimp only at hSw); go_simp; try with_reducible rfl)
        try simp only [Act.put, List.setIfInBounds_toArray, List.set_cons_zero, List.set_cons_succ]
        refine tk1 (i := 18) (oi := { dst := some 39, op := Op.move (Operand.tmp 38), type := 4, pos := "outright.go:24", after := #[{ on := 17, ground := Ground.data }, { on := 11, ground := Ground.chain }], guard := none }) (v := ?v18r3) rfl (by kernel_rfl) (fun _ _ _ h => h) (Or.inl ⟨by rfl, ?hy18r3⟩) (by assumption) ?rest18r3
        case hy18r3 => (intro w hSw; (try dsimp only at hSw); go_simp; try with_reducible rfl)
        try simp only [Act.put, List.setIfInBounds_toArray, List.set_cons_zero, List.set_cons_succ]
        refine tk1 (i := 19) (oi := { dst := some 40, op := Op.load 27 (Operand.tmp 7), type := 27, pos := "outright.go:24", after := #[{ on := 18, ground := Ground.guard }], guard := some (18, false) }) (v := ?v19r3) rfl (by kernel_rfl) (fun _ _ _ h => h) (Or.inl ⟨by rfl, ?hy19r3⟩) (by assumption) ?rest19r3
        case hy19r3 => (intro w hSw; (try dsimp only at hSw); go_simp; try with_reducible rfl)
        try simp only [Act.put, List.setIfInBounds_toArray, List.set_cons_zero, List.set_cons_succ]
        refine tk1 (i := 20) (oi := { dst := some 41, op := Op.load 27 (Operand.tmp 8), type := 27, pos := "outright.go:24", after := #[{ on := 18, ground := Ground.guard }], guard := some (18, false) }) (v := ?v20r3) rfl (by kernel_rfl) (fun _ _ _ h => h) (Or.inl ⟨by rfl, ?hy20r3⟩) (by assumption) ?rest20r3
        case hy20r3 => (intro w hSw; (try dsimp only at hSw); go_simp; try with_reducible rfl)
        try simp only [Act.put, List.setIfInBounds_toArray, List.set_cons_zero, List.set_cons_succ]
        refine wpAnyH_ready (rs := [21]) (by kernel_rfl) (by simp) ?_
        refine AllReadyH.cons (o := { dst := some 42, op := Op.call { callee := Callee.value (Operand.func 5), args := #[Operand.tmp 40, Operand.tmp 41], argTypes := #[27, 27] }, type := 3, pos := "outright.go:24", after := #[{ on := 19, ground := Ground.data }, { on := 20, ground := Ground.data }, { on := 18, ground := Ground.chain }, { on := 18, ground := Ground.guard }], guard := some (18, false) }) rfl (fun K hK => ?_) AllReadyH.nil
        go_simp
        refine (HAB.out _ hHeld.1).mono ?_
        rintro e w4 ⟨rfl, hb4⟩
        replace hb4 := Below.step hHeld.1 hb4
        try go_wp2_with fail
        refine hK.out _ _ (HX.out _ hb4) (fun hHeld => ?_)
        clear hK K
        try simp only [Act.put, List.setIfInBounds_toArray, List.set_cons_zero, List.set_cons_succ]
        refine tk1 (i := 22) (oi := { dst := some 43, op := Op.binOp BinOp.lss 3 (Operand.tmp 42) (Operand.const (Go.Value.int Go.IntKind.i64 0)) 3, type := 4, pos := "outright.go:24", after := #[{ on := 21, ground := Ground.data }, { on := 18, ground := Ground.guard }], guard := some (18, false) }) (v := ?v22r3) rfl (by kernel_rfl) (fun _ _ _ h => h) (Or.inl ⟨by rfl, ?hy22r3⟩) (by assumption) ?rest22r3
        case hy22r3 => (intro w hSw; (try dsimp only at hSw); go_simp; try with_reducible rfl)
        try simp only [Act.put, List.setIfInBounds_toArray, List.set_cons_zero, List.set_cons_succ]
        refine tk1 (i := 23) (oi := { dst := some 44, op := Op.move (Operand.tmp 43), type := 4, pos := "outright.go:24", after := #[{ on := 22, ground := Ground.data }, { on := 21, ground := Ground.chain }, { on := 18, ground := Ground.guard }], guard := some (18, false) }) (v := ?v23r3) rfl (by kernel_rfl) (fun _ _ _ h => h) (Or.inl ⟨by rfl, ?hy23r3⟩) (by assumption) ?rest23r3
        case hy23r3 => (intro w hSw; (try dsimp only at hSw); go_simp; try with_reducible rfl)
        try simp only [Act.put, List.setIfInBounds_toArray, List.set_cons_zero, List.set_cons_succ]
        refine tk1 (i := 24) (oi := { dst := some 45, op := Op.load 27 (Operand.tmp 8), type := 27, pos := "outright.go:24", after := #[{ on := 23, ground := Ground.guard }], guard := some (23, true) }) (v := ?v24r3) rfl (by kernel_rfl) (fun _ _ _ h => h) (Or.inl ⟨by rfl, ?hy24r3⟩) (by assumption) ?rest24r3
        case hy24r3 => (intro w hSw; (try dsimp only at hSw); go_simp; try with_reducible rfl)
        try simp only [Act.put, List.setIfInBounds_toArray, List.set_cons_zero, List.set_cons_succ]
        refine tk1 (i := 25) (oi := { dst := some 46, op := Op.load 27 (Operand.tmp 9), type := 27, pos := "outright.go:24", after := #[{ on := 23, ground := Ground.guard }], guard := some (23, true) }) (v := ?v25r3) rfl (by kernel_rfl) (fun _ _ _ h => h) (Or.inl ⟨by rfl, ?hy25r3⟩) (by assumption) ?rest25r3
        case hy25r3 => (intro w hSw; (try dsimp only at hSw); go_simp; try with_reducible rfl)
        try simp only [Act.put, List.setIfInBounds_toArray, List.set_cons_zero, List.set_cons_succ]
        refine wpAnyH_ready (rs := [26]) (by kernel_rfl) (by simp) ?_
        refine AllReadyH.cons (o := { dst := some 47, op := Op.call { callee := Callee.value (Operand.func 5), args := #[Operand.tmp 45, Operand.tmp 46], argTypes := #[27, 27] }, type := 3, pos := "outright.go:24", after := #[{ on := 24, ground := Ground.data }, { on := 25, ground := Ground.data }, { on := 23, ground := Ground.chain }, { on := 23, ground := Ground.guard }], guard := some (23, true) }) rfl (fun K hK => ?_) AllReadyH.nil
        go_simp
        refine (HBC.out _ hHeld.1).mono ?_
        rintro e w4 ⟨rfl, hb4⟩
        replace hb4 := Below.step hHeld.1 hb4
        try go_wp2_with fail
        refine hK.out _ _ (HX.out _ hb4) (fun hHeld => ?_)
        clear hK K
        try simp only [Act.put, List.setIfInBounds_toArray, List.set_cons_zero, List.set_cons_succ]
        refine tk1 (i := 27) (oi := { dst := some 48, op := Op.binOp BinOp.lss 3 (Operand.tmp 47) (Operand.const (Go.Value.int Go.IntKind.i64 0)) 3, type := 4, pos := "outright.go:24", after := #[{ on := 26, ground := Ground.data }, { on := 23, ground := Ground.guard }], guard := some (23, true) }) (v := ?v27r3) rfl (by kernel_rfl) (fun _ _ _ h => h) (Or.inl ⟨by rfl, ?hy27r3⟩) (by assumption) ?rest27r3
        case hy27r3 => (intro w hSw; (try dsimp only at hSw); go_simp; try with_reducible rfl)
        try simp only [Act.put, List.setIfInBounds_toArray, List.set_cons_zero, List.set_cons_succ]
        refine tk1 (i := 28) (oi := { dst := some 49, op := Op.pick (Operand.tmp 44) (Operand.tmp 48) (Operand.const (Go.Value.bool false)), type := 4, pos := "outright.go:24", after := #[{ on := 23, ground := Ground.data }, { on := 27, ground := Ground.data }, { on := 18, ground := Ground.guard }], guard := some (18, false) }) (v := ?v28r3) rfl (by kernel_rfl) (fun _ _ _ h => h) (Or.inl ⟨by rfl, ?hy28r3⟩) (by assumption) ?rest28r3
        case hy28r3 => (intro w hSw; (try dsimp only at hSw); go_simp; try with_reducible rfl)
        try simp only [Act.put, List.setIfInBounds_toArray, List.set_cons_zero, List.set_cons_succ]
        refine tk1 (i := 29) (oi := { dst := some 50, op := Op.move (Operand.tmp 49), type := 4, pos := "outright.go:24", after := #[{ on := 28, ground := Ground.data }, { on := 26, ground := Ground.chain }, { on := 18, ground := Ground.guard }], guard := some (18, false) }) (v := ?v29r3) rfl (by kernel_rfl) (fun _ _ _ h => h) (Or.inl ⟨by rfl, ?hy29r3⟩) (by assumption) ?rest29r3
        case hy29r3 => (intro w hSw; (try dsimp only at hSw); go_simp; try with_reducible rfl)
        try simp only [Act.put, List.setIfInBounds_toArray, List.set_cons_zero, List.set_cons_succ]
        refine tk1 (i := 30) (oi := { dst := some 51, op := Op.load 27 (Operand.tmp 7), type := 27, pos := "outright.go:24", after := #[{ on := 29, ground := Ground.guard }], guard := some (29, true) }) (v := undef) rfl (by kernel_rfl) (fun _ _ _ h => h) (Or.inr ⟨by rfl, rfl⟩) (by assumption) ?_
        try simp only [Act.put, List.setIfInBounds_toArray, List.set_cons_zero, List.set_cons_succ]
        refine tk1 (i := 31) (oi := { dst := some 52, op := Op.load 27 (Operand.tmp 9), type := 27, pos := "outright.go:24", after := #[{ on := 29, ground := Ground.guard }], guard := some (29, true) }) (v := undef) rfl (by kernel_rfl) (fun _ _ _ h => h) (Or.inr ⟨by rfl, rfl⟩) (by assumption) ?_
        try simp only [Act.put, List.setIfInBounds_toArray, List.set_cons_zero, List.set_cons_succ]
        refine wpAnyH_ready (rs := [32]) (by kernel_rfl) (by simp) ?_
        refine AllReadyH.cons (o := { dst := some 53, op := Op.call { callee := Callee.value (Operand.func 5), args := #[Operand.tmp 51, Operand.tmp 52], argTypes := #[27, 27] }, type := 3, pos := "outright.go:24", after := #[{ on := 30, ground := Ground.data }, { on := 31, ground := Ground.data }, { on := 29, ground := Ground.chain }, { on := 29, ground := Ground.guard }], guard := some (29, true) }) rfl (fun K hK => ?_) AllReadyH.nil
        go_simp
        refine hK.out _ _ (by assumption) (fun hHeld => ?_)
        clear hK K
        try simp only [Act.put, List.setIfInBounds_toArray, List.set_cons_zero, List.set_cons_succ]
        refine tk1 (i := 33) (oi := { dst := some 54, op := Op.binOp BinOp.geq 3 (Operand.tmp 53) (Operand.const (Go.Value.int Go.IntKind.i64 0)) 3, type := 4, pos := "outright.go:24", after := #[{ on := 32, ground := Ground.data }, { on := 29, ground := Ground.guard }], guard := some (29, true) }) (v := undef) rfl (by kernel_rfl) (fun _ _ _ h => h) (Or.inr ⟨by rfl, rfl⟩) (by assumption) ?_
        try simp only [Act.put, List.setIfInBounds_toArray, List.set_cons_zero, List.set_cons_succ]
        refine tk1 (i := 34) (oi := { dst := some 55, op := Op.pick (Operand.tmp 50) (Operand.tmp 54) (Operand.const (Go.Value.bool false)), type := 4, pos := "outright.go:24", after := #[{ on := 29, ground := Ground.data }, { on := 33, ground := Ground.data }, { on := 18, ground := Ground.guard }], guard := some (18, false) }) (v := ?v34r3) rfl (by kernel_rfl) (fun _ _ _ h => h) (Or.inl ⟨by rfl, ?hy34r3⟩) (by assumption) ?rest34r3
        case hy34r3 => (intro w hSw; (try dsimp only at hSw); go_simp; try with_reducible rfl)
        try simp only [Act.put, List.setIfInBounds_toArray, List.set_cons_zero, List.set_cons_succ]
        refine tk1 (i := 35) (oi := { dst := some 56, op := Op.pick (Operand.tmp 39) (Operand.const (Go.Value.bool true)) (Operand.tmp 55), type := 4, pos := "outright.go:24", after := #[{ on := 18, ground := Ground.data }, { on := 34, ground := Ground.data }], guard := none }) (v := ?v35r3) rfl (by kernel_rfl) (fun _ _ _ h => h) (Or.inl ⟨by rfl, ?hy35r3⟩) (by assumption) ?rest35r3
        case hy35r3 => (intro w hSw; (try dsimp only at hSw); go_simp; try with_reducible rfl)
        try simp only [Act.put, List.setIfInBounds_toArray, List.set_cons_zero, List.set_cons_succ]
        refine wpAnyH_done (by kernel_rfl) ?_ _
        try go_wp2_with fail
        try go_meet
        exact ⟨rfl, rfl, rfl, rfl, rfl, Lib.hid hHeld.1⟩
    · as_aux_lemma =>
        have hba : cR b a = 1 := by omega
        have hac : cR a c = -1 := by
          have h1 := tot_cR.lt (x := a) (y := b) (z := c) (by omega) (by omega)
          have h2 := cR_abs a c
          omega
        clear hba0 kab kbc
        have HAB : Hid (∀ W, Below w1.heap.size w1 W → Calls Tryz.prog 5 #[.agg #[.int .u32 a.a, .int .i64 a.b, .int .u8 a.fr, .int .i64 a.di, .int .i64 a.me, .int .i64 a.ta, .string a.nm, .int .u32 a.ho, .bool a.dc], .agg #[.int .u32 b.a, .int .i64 b.b, .int .u8 b.fr, .int .i64 b.di, .int .i64 b.me, .int .i64 b.ta, .string b.nm, .int .u32 b.ho, .bool b.dc]] W fun e w' => e = .returned (.int .i64 (-1)) ∧ Below W.heap.size W w') := Lib.hid fun W _ => (rcmp_is a b W).mono fun e w' h => ⟨hab ▸ h.1, h.2⟩
        have HBA : Hid (∀ W, Below w1.heap.size w1 W → Calls Tryz.prog 5 #[.agg #[.int .u32 b.a, .int .i64 b.b, .int .u8 b.fr, .int .i64 b.di, .int .i64 b.me, .int .i64 b.ta, .string b.nm, .int .u32 b.ho, .bool b.dc], .agg #[.int .u32 a.a, .int .i64 a.b, .int .u8 a.fr, .int .i64 a.di, .int .i64 a.me, .int .i64 a.ta, .string a.nm, .int .u32 a.ho, .bool a.dc]] W fun e w' => e = .returned (.int .i64 (1)) ∧ Below W.heap.size W w') := Lib.hid fun W _ => (rcmp_is b a W).mono fun e w' h => ⟨hba ▸ h.1, h.2⟩
        have HBC : Hid (∀ W, Below w1.heap.size w1 W → Calls Tryz.prog 5 #[.agg #[.int .u32 b.a, .int .i64 b.b, .int .u8 b.fr, .int .i64 b.di, .int .i64 b.me, .int .i64 b.ta, .string b.nm, .int .u32 b.ho, .bool b.dc], .agg #[.int .u32 c.a, .int .i64 c.b, .int .u8 c.fr, .int .i64 c.di, .int .i64 c.me, .int .i64 c.ta, .string c.nm, .int .u32 c.ho, .bool c.dc]] W fun e w' => e = .returned (.int .i64 (-1)) ∧ Below W.heap.size W w') := Lib.hid fun W _ => (rcmp_is b c W).mono fun e w' h => ⟨hbc ▸ h.1, h.2⟩
        have HAC : Hid (∀ W, Below w1.heap.size w1 W → Calls Tryz.prog 5 #[.agg #[.int .u32 a.a, .int .i64 a.b, .int .u8 a.fr, .int .i64 a.di, .int .i64 a.me, .int .i64 a.ta, .string a.nm, .int .u32 a.ho, .bool a.dc], .agg #[.int .u32 c.a, .int .i64 c.b, .int .u8 c.fr, .int .i64 c.di, .int .i64 c.me, .int .i64 c.ta, .string c.nm, .int .u32 c.ho, .bool c.dc]] W fun e w' => e = .returned (.int .i64 (-1)) ∧ Below W.heap.size W w') := Lib.hid fun W _ => (rcmp_is a c W).mono fun e w' h => ⟨hac ▸ h.1, h.2⟩
        have eq : ∀ W : World, (binOp .eql 27 (.agg #[.int .u32 a.a, .int .i64 a.b, .int .u8 a.fr, .int .i64 a.di, .int .i64 a.me, .int .i64 a.ta, .string a.nm, .int .u32 a.ho, .bool a.dc]) (.agg #[.int .u32 b.a, .int .i64 b.b, .int .u8 b.fr, .int .i64 b.di, .int .i64 b.me, .int .i64 b.ta, .string b.nm, .int .u32 b.ho, .bool b.dc])).run Tryz.prog W = .ok (.bool false) W := fun W => by rw [eqlR a b W, hab]; rfl
        have eg : ∀ (op : BinOp) (o1 o2 : Operand) (W : World), (eqGuard op 27 o1 o2 (.agg #[.int .u32 a.a, .int .i64 a.b, .int .u8 a.fr, .int .i64 a.di, .int .i64 a.me, .int .i64 a.ta, .string a.nm, .int .u32 a.ho, .bool a.dc]) (.agg #[.int .u32 b.a, .int .i64 b.b, .int .u8 b.fr, .int .i64 b.di, .int .i64 b.me, .int .i64 b.ta, .string b.nm, .int .u32 b.ho, .bool b.dc])).run Tryz.prog W = .ok () W := fun op o1 o2 W => eqg op o1 o2 a b W
        clear hab hba hbc hac
        refine wp_region_held_drew (S := (fun w' => Below w1.heap.size w1 w' ∧ w'.cell? ⟨w.heap.size, 0, none⟩ = some (.int .u32 a.a) ∧ w'.cell? ⟨w.heap.size, 1, none⟩ = some (.int .i64 a.b) ∧ w'.cell? ⟨w.heap.size, 2, none⟩ = some (.int .u8 a.fr) ∧ w'.cell? ⟨w.heap.size, 3, none⟩ = some (.int .i64 a.di) ∧ w'.cell? ⟨w.heap.size, 4, none⟩ = some (.int .i64 a.me) ∧ w'.cell? ⟨w.heap.size, 5, none⟩ = some (.int .i64 a.ta) ∧ w'.cell? ⟨w.heap.size, 6, none⟩ = some (.string a.nm) ∧ w'.cell? ⟨w.heap.size, 7, none⟩ = some (.int .u32 a.ho) ∧ w'.cell? ⟨w.heap.size, 8, none⟩ = some (.bool a.dc) ∧ w'.cell? ⟨w.heap.size + 1, 0, none⟩ = some (.int .u32 b.a) ∧ w'.cell? ⟨w.heap.size + 1, 1, none⟩ = some (.int .i64 b.b) ∧ w'.cell? ⟨w.heap.size + 1, 2, none⟩ = some (.int .u8 b.fr) ∧ w'.cell? ⟨w.heap.size + 1, 3, none⟩ = some (.int .i64 b.di) ∧ w'.cell? ⟨w.heap.size + 1, 4, none⟩ = some (.int .i64 b.me) ∧ w'.cell? ⟨w.heap.size + 1, 5, none⟩ = some (.int .i64 b.ta) ∧ w'.cell? ⟨w.heap.size + 1, 6, none⟩ = some (.string b.nm) ∧ w'.cell? ⟨w.heap.size + 1, 7, none⟩ = some (.int .u32 b.ho) ∧ w'.cell? ⟨w.heap.size + 1, 8, none⟩ = some (.bool b.dc) ∧ w'.cell? ⟨w.heap.size + 2, 0, none⟩ = some (.int .u32 c.a) ∧ w'.cell? ⟨w.heap.size + 2, 1, none⟩ = some (.int .i64 c.b) ∧ w'.cell? ⟨w.heap.size + 2, 2, none⟩ = some (.int .u8 c.fr) ∧ w'.cell? ⟨w.heap.size + 2, 3, none⟩ = some (.int .i64 c.di) ∧ w'.cell? ⟨w.heap.size + 2, 4, none⟩ = some (.int .i64 c.me) ∧ w'.cell? ⟨w.heap.size + 2, 5, none⟩ = some (.int .i64 c.ta) ∧ w'.cell? ⟨w.heap.size + 2, 6, none⟩ = some (.string c.nm) ∧ w'.cell? ⟨w.heap.size + 2, 7, none⟩ = some (.int .u32 c.ho) ∧ w'.cell? ⟨w.heap.size + 2, 8, none⟩ = some (.bool c.dc))) (by kernel_rfl) ?_ (fun hHeld => ?_)
        · exact HX.out _ (Below.refl _ _).drew
        refine tk1 (i := 0) (oi := { dst := some 21, op := Op.load 27 (Operand.tmp 7), type := 27, pos := "outright.go:24", after := #[], guard := none }) (v := ?v0r4) rfl (by kernel_rfl) (fun _ _ _ h => h) (Or.inl ⟨by rfl, ?hy0r4⟩) (by assumption) ?rest0r4
        case hy0r4 => (intro w hSw; (try dsimp only at hSw); go_simp; try with_reducible rfl)
        try simp only [Act.put, List.setIfInBounds_toArray, List.set_cons_zero, List.set_cons_succ]
        refine tk1 (i := 1) (oi := { dst := some 22, op := Op.load 27 (Operand.tmp 8), type := 27, pos := "outright.go:24", after := #[], guard := none }) (v := ?v1r4) rfl (by kernel_rfl) (fun _ _ _ h => h) (Or.inl ⟨by rfl, ?hy1r4⟩) (by assumption) ?rest1r4
        case hy1r4 => (intro w hSw; (try dsimp only at hSw); go_simp; try with_reducible rfl)
        try simp only [Act.put, List.setIfInBounds_toArray, List.set_cons_zero, List.set_cons_succ]
        refine tk1 (i := 3) (oi := { dst := some 24, op := Op.load 27 (Operand.tmp 8), type := 27, pos := "outright.go:24", after := #[], guard := none }) (v := ?v3r4) rfl (by kernel_rfl) (fun _ _ _ h => h) (Or.inl ⟨by rfl, ?hy3r4⟩) (by assumption) ?rest3r4
        case hy3r4 => (intro w hSw; (try dsimp only at hSw); go_simp; try with_reducible rfl)
        try simp only [Act.put, List.setIfInBounds_toArray, List.set_cons_zero, List.set_cons_succ]
        refine tk1 (i := 4) (oi := { dst := some 25, op := Op.load 27 (Operand.tmp 7), type := 27, pos := "outright.go:24", after := #[], guard := none }) (v := ?v4r4) rfl (by kernel_rfl) (fun _ _ _ h => h) (Or.inl ⟨by rfl, ?hy4r4⟩) (by assumption) ?rest4r4
        case hy4r4 => (intro w hSw; (try dsimp only at hSw); go_simp; try with_reducible rfl)
        try simp only [Act.put, List.setIfInBounds_toArray, List.set_cons_zero, List.set_cons_succ]
        refine wpAnyH_ready (rs := [2]) (by kernel_rfl) (by simp) ?_
        refine AllReadyH.cons (o := { dst := some 23, op := Op.call { callee := Callee.value (Operand.func 5), args := #[Operand.tmp 21, Operand.tmp 22], argTypes := #[27, 27] }, type := 3, pos := "outright.go:24", after := #[{ on := 0, ground := Ground.data }, { on := 1, ground := Ground.data }], guard := none }) rfl (fun K hK => ?_) AllReadyH.nil
        go_simp
        refine (HAB.out _ hHeld.1).mono ?_
        rintro e w4 ⟨rfl, hb4⟩
        replace hb4 := Below.step hHeld.1 hb4
        try go_wp2_with fail
        refine hK.out _ _ (HX.out _ hb4) (fun hHeld => ?_)
        clear hK K
        try simp only [Act.put, List.setIfInBounds_toArray, List.set_cons_zero, List.set_cons_succ]
        refine wpAnyH_ready (rs := [5]) (by kernel_rfl) (by simp) ?_
        refine AllReadyH.cons (o := { dst := some 26, op := Op.call { callee := Callee.value (Operand.func 5), args := #[Operand.tmp 24, Operand.tmp 25], argTypes := #[27, 27] }, type := 3, pos := "outright.go:24", after := #[{ on := 3, ground := Ground.data }, { on := 4, ground := Ground.data }, { on := 2, ground := Ground.chain }], guard := none }) rfl (fun K hK => ?_) AllReadyH.nil
        go_simp
        refine (HBA.out _ hHeld.1).mono ?_
        rintro e w4 ⟨rfl, hb4⟩
        replace hb4 := Below.step hHeld.1 hb4
        try go_wp2_with fail
        refine hK.out _ _ (HX.out _ hb4) (fun hHeld => ?_)
        clear hK K
        try simp only [Act.put, List.setIfInBounds_toArray, List.set_cons_zero, List.set_cons_succ]
        refine tk1 (i := 6) (oi := { dst := some 27, op := Op.unOp UnOp.neg 3 (Operand.tmp 26), type := 3, pos := "outright.go:24", after := #[{ on := 5, ground := Ground.data }], guard := none }) (v := ?v6r4) rfl (by kernel_rfl) (fun _ _ _ h => h) (Or.inl ⟨by rfl, ?hy6r4⟩) (by assumption) ?rest6r4
        case hy6r4 => (intro w hSw; (try dsimp only at hSw); go_simp; try with_reducible rfl)
        try simp only [Act.put, List.setIfInBounds_toArray, List.set_cons_zero, List.set_cons_succ]
        refine tk1 (i := 7) (oi := { dst := some 28, op := Op.binOp BinOp.neq 3 (Operand.tmp 23) (Operand.tmp 27) 3, type := 4, pos := "outright.go:24", after := #[{ on := 2, ground := Ground.data }, { on := 6, ground := Ground.data }], guard := none }) (v := ?v7r4) rfl (by kernel_rfl) (fun _ _ _ h => h) (Or.inl ⟨by rfl, ?hy7r4⟩) (by assumption) ?rest7r4
        case hy7r4 => (intro w hSw; (try dsimp only at hSw); go_simp; try with_reducible rfl)
        try simp only [Act.put, List.setIfInBounds_toArray, List.set_cons_zero, List.set_cons_succ]
        refine tk1 (i := 8) (oi := { dst := some 29, op := Op.move (Operand.tmp 28), type := 4, pos := "outright.go:24", after := #[{ on := 7, ground := Ground.data }, { on := 5, ground := Ground.chain }], guard := none }) (v := ?v8r4) rfl (by kernel_rfl) (fun _ _ _ h => h) (Or.inl ⟨by rfl, ?hy8r4⟩) (by assumption) ?rest8r4
        case hy8r4 => (intro w hSw; (try dsimp only at hSw); go_simp; try with_reducible rfl)
        try simp only [Act.put, List.setIfInBounds_toArray, List.set_cons_zero, List.set_cons_succ]
        refine tk1 (i := 9) (oi := { dst := some 30, op := Op.load 27 (Operand.tmp 7), type := 27, pos := "outright.go:24", after := #[{ on := 8, ground := Ground.guard }], guard := some (8, false) }) (v := ?v9r4) rfl (by kernel_rfl) (fun _ _ _ h => h) (Or.inl ⟨by rfl, ?hy9r4⟩) (by assumption) ?rest9r4
        case hy9r4 => (intro w hSw; (try dsimp only at hSw); go_simp; try with_reducible rfl)
        try simp only [Act.put, List.setIfInBounds_toArray, List.set_cons_zero, List.set_cons_succ]
        refine tk1 (i := 10) (oi := { dst := some 31, op := Op.load 27 (Operand.tmp 8), type := 27, pos := "outright.go:24", after := #[{ on := 8, ground := Ground.guard }], guard := some (8, false) }) (v := ?v10r4) rfl (by kernel_rfl) (fun _ _ _ h => h) (Or.inl ⟨by rfl, ?hy10r4⟩) (by assumption) ?rest10r4
        case hy10r4 => (intro w hSw; (try dsimp only at hSw); go_simp; try with_reducible rfl)
        try simp only [Act.put, List.setIfInBounds_toArray, List.set_cons_zero, List.set_cons_succ]
        refine tk1 (i := 13) (oi := { dst := some 34, op := Op.load 27 (Operand.tmp 7), type := 27, pos := "outright.go:24", after := #[{ on := 8, ground := Ground.guard }], guard := some (8, false) }) (v := ?v13r4) rfl (by kernel_rfl) (fun _ _ _ h => h) (Or.inl ⟨by rfl, ?hy13r4⟩) (by assumption) ?rest13r4
        case hy13r4 => (intro w hSw; (try dsimp only at hSw); go_simp; try with_reducible rfl)
        try simp only [Act.put, List.setIfInBounds_toArray, List.set_cons_zero, List.set_cons_succ]
        refine tk1 (i := 14) (oi := { dst := some 35, op := Op.load 27 (Operand.tmp 8), type := 27, pos := "outright.go:24", after := #[{ on := 8, ground := Ground.guard }], guard := some (8, false) }) (v := ?v14r4) rfl (by kernel_rfl) (fun _ _ _ h => h) (Or.inl ⟨by rfl, ?hy14r4⟩) (by assumption) ?rest14r4
        case hy14r4 => (intro w hSw; (try dsimp only at hSw); go_simp; try with_reducible rfl)
        try simp only [Act.put, List.setIfInBounds_toArray, List.set_cons_zero, List.set_cons_succ]
        refine tk1 (i := 15) (oi := { dst := some 36, op := Op.binOp BinOp.eql 27 (Operand.tmp 34) (Operand.tmp 35) 27, type := 4, pos := "outright.go:24", after := #[{ on := 13, ground := Ground.data }, { on := 14, ground := Ground.data }, { on := 8, ground := Ground.guard }], guard := some (8, false) }) (v := ?v15r4) rfl (by kernel_rfl) (fun _ _ _ h => h) (Or.inl ⟨by rfl, ?hy15r4⟩) (by assumption) ?rest15r4
        case hy15r4 => (intro w hSw; (try dsimp only at hSw); go_simp; try with_reducible rfl)
        try simp only [Act.put, List.setIfInBounds_toArray, List.set_cons_zero, List.set_cons_succ]
        refine wpAnyH_ready (rs := [11]) (by kernel_rfl) (by simp) ?_
        refine AllReadyH.cons (o := { dst := some 32, op := Op.call { callee := Callee.value (Operand.func 5), args := #[Operand.tmp 30, Operand.tmp 31], argTypes := #[27, 27] }, type := 3, pos := "outright.go:24", after := #[{ on := 9, ground := Ground.data }, { on := 10, ground := Ground.data }, { on := 8, ground := Ground.chain }, { on := 8, ground := Ground.guard }], guard := some (8, false) }) rfl (fun K hK => ?_) AllReadyH.nil
        go_simp
        refine (HAB.out _ hHeld.1).mono ?_
        rintro e w4 ⟨rfl, hb4⟩
        replace hb4 := Below.step hHeld.1 hb4
        try go_wp2_with fail
        refine hK.out _ _ (HX.out _ hb4) (fun hHeld => ?_)
        clear hK K
        try simp only [Act.put, List.setIfInBounds_toArray, List.set_cons_zero, List.set_cons_succ]
        refine tk1 (i := 12) (oi := { dst := some 33, op := Op.binOp BinOp.eql 3 (Operand.tmp 32) (Operand.const (Go.Value.int Go.IntKind.i64 0)) 3, type := 4, pos := "outright.go:24", after := #[{ on := 11, ground := Ground.data }, { on := 8, ground := Ground.guard }], guard := some (8, false) }) (v := ?v12r4) rfl (by kernel_rfl) (fun _ _ _ h => h) (Or.inl ⟨by rfl, ?hy12r4⟩) (by assumption) ?rest12r4
        case hy12r4 => (intro w hSw; (try dsimp only at hSw); go_simp; try with_reducible rfl)
        try simp only [Act.put, List.setIfInBounds_toArray, List.set_cons_zero, List.set_cons_succ]
        refine tk1 (i := 16) (oi := { dst := some 37, op := Op.binOp BinOp.neq 4 (Operand.tmp 33) (Operand.tmp 36) 4, type := 4, pos := "outright.go:24", after := #[{ on := 12, ground := Ground.data }, { on := 15, ground := Ground.data }, { on := 8, ground := Ground.guard }], guard := some (8, false) }) (v := ?v16r4) rfl (by kernel_rfl) (fun _ _ _ h => h) (Or.inl ⟨by rfl, ?hy16r4⟩) (by assumption) ?rest16r4
        case hy16r4 => (intro w hSw; (try dsimp only at hSw); go_simp; try with_reducible rfl)
        try simp only [Act.put, List.setIfInBounds_toArray, List.set_cons_zero, List.set_cons_succ]
        refine tk1 (i := 17) (oi := { dst := some 38, op := Op.pick (Operand.tmp 29) (Operand.const (Go.Value.bool true)) (Operand.tmp 37), type := 4, pos := "outright.go:24", after := #[{ on := 8, ground := Ground.data }, { on := 16, ground := Ground.data }], guard := none }) (v := ?v17r4) rfl (by kernel_rfl) (fun _ _ _ h => h) (Or.inl ⟨by rfl, ?hy17r4⟩) (by assumption) ?rest17r4
        case hy17r4 => (intro w hSw; (try dsimp only at hSw); go_simp; try with_reducible rfl)
        try simp only [Act.put, List.setIfInBounds_toArray, List.set_cons_zero, List.set_cons_succ]
        refine tk1 (i := 18) (oi := { dst := some 39, op := Op.move (Operand.tmp 38), type := 4, pos := "outright.go:24", after := #[{ on := 17, ground := Ground.data }, { on := 11, ground := Ground.chain }], guard := none }) (v := ?v18r4) rfl (by kernel_rfl) (fun _ _ _ h => h) (Or.inl ⟨by rfl, ?hy18r4⟩) (by assumption) ?rest18r4
        case hy18r4 => (intro w hSw; (try dsimp only at hSw); go_simp; try with_reducible rfl)
        try simp only [Act.put, List.setIfInBounds_toArray, List.set_cons_zero, List.set_cons_succ]
        refine tk1 (i := 19) (oi := { dst := some 40, op := Op.load 27 (Operand.tmp 7), type := 27, pos := "outright.go:24", after := #[{ on := 18, ground := Ground.guard }], guard := some (18, false) }) (v := ?v19r4) rfl (by kernel_rfl) (fun _ _ _ h => h) (Or.inl ⟨by rfl, ?hy19r4⟩) (by assumption) ?rest19r4
        case hy19r4 => (intro w hSw; (try dsimp only at hSw); go_simp; try with_reducible rfl)
        try simp only [Act.put, List.setIfInBounds_toArray, List.set_cons_zero, List.set_cons_succ]
        refine tk1 (i := 20) (oi := { dst := some 41, op := Op.load 27 (Operand.tmp 8), type := 27, pos := "outright.go:24", after := #[{ on := 18, ground := Ground.guard }], guard := some (18, false) }) (v := ?v20r4) rfl (by kernel_rfl) (fun _ _ _ h => h) (Or.inl ⟨by rfl, ?hy20r4⟩) (by assumption) ?rest20r4
        case hy20r4 => (intro w hSw; (try dsimp only at hSw); go_simp; try with_reducible rfl)
        try simp only [Act.put, List.setIfInBounds_toArray, List.set_cons_zero, List.set_cons_succ]
        refine wpAnyH_ready (rs := [21]) (by kernel_rfl) (by simp) ?_
        refine AllReadyH.cons (o := { dst := some 42, op := Op.call { callee := Callee.value (Operand.func 5), args := #[Operand.tmp 40, Operand.tmp 41], argTypes := #[27, 27] }, type := 3, pos := "outright.go:24", after := #[{ on := 19, ground := Ground.data }, { on := 20, ground := Ground.data }, { on := 18, ground := Ground.chain }, { on := 18, ground := Ground.guard }], guard := some (18, false) }) rfl (fun K hK => ?_) AllReadyH.nil
        go_simp
        refine (HAB.out _ hHeld.1).mono ?_
        rintro e w4 ⟨rfl, hb4⟩
        replace hb4 := Below.step hHeld.1 hb4
        try go_wp2_with fail
        refine hK.out _ _ (HX.out _ hb4) (fun hHeld => ?_)
        clear hK K
        try simp only [Act.put, List.setIfInBounds_toArray, List.set_cons_zero, List.set_cons_succ]
        refine tk1 (i := 22) (oi := { dst := some 43, op := Op.binOp BinOp.lss 3 (Operand.tmp 42) (Operand.const (Go.Value.int Go.IntKind.i64 0)) 3, type := 4, pos := "outright.go:24", after := #[{ on := 21, ground := Ground.data }, { on := 18, ground := Ground.guard }], guard := some (18, false) }) (v := ?v22r4) rfl (by kernel_rfl) (fun _ _ _ h => h) (Or.inl ⟨by rfl, ?hy22r4⟩) (by assumption) ?rest22r4
        case hy22r4 => (intro w hSw; (try dsimp only at hSw); go_simp; try with_reducible rfl)
        try simp only [Act.put, List.setIfInBounds_toArray, List.set_cons_zero, List.set_cons_succ]
        refine tk1 (i := 23) (oi := { dst := some 44, op := Op.move (Operand.tmp 43), type := 4, pos := "outright.go:24", after := #[{ on := 22, ground := Ground.data }, { on := 21, ground := Ground.chain }, { on := 18, ground := Ground.guard }], guard := some (18, false) }) (v := ?v23r4) rfl (by kernel_rfl) (fun _ _ _ h => h) (Or.inl ⟨by rfl, ?hy23r4⟩) (by assumption) ?rest23r4
        case hy23r4 => (intro w hSw; (try dsimp only at hSw); go_simp; try with_reducible rfl)
        try simp only [Act.put, List.setIfInBounds_toArray, List.set_cons_zero, List.set_cons_succ]
        refine tk1 (i := 24) (oi := { dst := some 45, op := Op.load 27 (Operand.tmp 8), type := 27, pos := "outright.go:24", after := #[{ on := 23, ground := Ground.guard }], guard := some (23, true) }) (v := ?v24r4) rfl (by kernel_rfl) (fun _ _ _ h => h) (Or.inl ⟨by rfl, ?hy24r4⟩) (by assumption) ?rest24r4
        case hy24r4 => (intro w hSw; (try dsimp only at hSw); go_simp; try with_reducible rfl)
        try simp only [Act.put, List.setIfInBounds_toArray, List.set_cons_zero, List.set_cons_succ]
        refine tk1 (i := 25) (oi := { dst := some 46, op := Op.load 27 (Operand.tmp 9), type := 27, pos := "outright.go:24", after := #[{ on := 23, ground := Ground.guard }], guard := some (23, true) }) (v := ?v25r4) rfl (by kernel_rfl) (fun _ _ _ h => h) (Or.inl ⟨by rfl, ?hy25r4⟩) (by assumption) ?rest25r4
        case hy25r4 => (intro w hSw; (try dsimp only at hSw); go_simp; try with_reducible rfl)
        try simp only [Act.put, List.setIfInBounds_toArray, List.set_cons_zero, List.set_cons_succ]
        refine wpAnyH_ready (rs := [26]) (by kernel_rfl) (by simp) ?_
        refine AllReadyH.cons (o := { dst := some 47, op := Op.call { callee := Callee.value (Operand.func 5), args := #[Operand.tmp 45, Operand.tmp 46], argTypes := #[27, 27] }, type := 3, pos := "outright.go:24", after := #[{ on := 24, ground := Ground.data }, { on := 25, ground := Ground.data }, { on := 23, ground := Ground.chain }, { on := 23, ground := Ground.guard }], guard := some (23, true) }) rfl (fun K hK => ?_) AllReadyH.nil
        go_simp
        refine (HBC.out _ hHeld.1).mono ?_
        rintro e w4 ⟨rfl, hb4⟩
        replace hb4 := Below.step hHeld.1 hb4
        try go_wp2_with fail
        refine hK.out _ _ (HX.out _ hb4) (fun hHeld => ?_)
        clear hK K
        try simp only [Act.put, List.setIfInBounds_toArray, List.set_cons_zero, List.set_cons_succ]
        refine tk1 (i := 27) (oi := { dst := some 48, op := Op.binOp BinOp.lss 3 (Operand.tmp 47) (Operand.const (Go.Value.int Go.IntKind.i64 0)) 3, type := 4, pos := "outright.go:24", after := #[{ on := 26, ground := Ground.data }, { on := 23, ground := Ground.guard }], guard := some (23, true) }) (v := ?v27r4) rfl (by kernel_rfl) (fun _ _ _ h => h) (Or.inl ⟨by rfl, ?hy27r4⟩) (by assumption) ?rest27r4
        case hy27r4 => (intro w hSw; (try dsimp only at hSw); go_simp; try with_reducible rfl)
        try simp only [Act.put, List.setIfInBounds_toArray, List.set_cons_zero, List.set_cons_succ]
        refine tk1 (i := 28) (oi := { dst := some 49, op := Op.pick (Operand.tmp 44) (Operand.tmp 48) (Operand.const (Go.Value.bool false)), type := 4, pos := "outright.go:24", after := #[{ on := 23, ground := Ground.data }, { on := 27, ground := Ground.data }, { on := 18, ground := Ground.guard }], guard := some (18, false) }) (v := ?v28r4) rfl (by kernel_rfl) (fun _ _ _ h => h) (Or.inl ⟨by rfl, ?hy28r4⟩) (by assumption) ?rest28r4
        case hy28r4 => (intro w hSw; (try dsimp only at hSw); go_simp; try with_reducible rfl)
        try simp only [Act.put, List.setIfInBounds_toArray, List.set_cons_zero, List.set_cons_succ]
        refine tk1 (i := 29) (oi := { dst := some 50, op := Op.move (Operand.tmp 49), type := 4, pos := "outright.go:24", after := #[{ on := 28, ground := Ground.data }, { on := 26, ground := Ground.chain }, { on := 18, ground := Ground.guard }], guard := some (18, false) }) (v := ?v29r4) rfl (by kernel_rfl) (fun _ _ _ h => h) (Or.inl ⟨by rfl, ?hy29r4⟩) (by assumption) ?rest29r4
        case hy29r4 => (intro w hSw; (try dsimp only at hSw); go_simp; try with_reducible rfl)
        try simp only [Act.put, List.setIfInBounds_toArray, List.set_cons_zero, List.set_cons_succ]
        refine tk1 (i := 30) (oi := { dst := some 51, op := Op.load 27 (Operand.tmp 7), type := 27, pos := "outright.go:24", after := #[{ on := 29, ground := Ground.guard }], guard := some (29, true) }) (v := ?v30r4) rfl (by kernel_rfl) (fun _ _ _ h => h) (Or.inl ⟨by rfl, ?hy30r4⟩) (by assumption) ?rest30r4
        case hy30r4 => (intro w hSw; (try dsimp only at hSw); go_simp; try with_reducible rfl)
        try simp only [Act.put, List.setIfInBounds_toArray, List.set_cons_zero, List.set_cons_succ]
        refine tk1 (i := 31) (oi := { dst := some 52, op := Op.load 27 (Operand.tmp 9), type := 27, pos := "outright.go:24", after := #[{ on := 29, ground := Ground.guard }], guard := some (29, true) }) (v := ?v31r4) rfl (by kernel_rfl) (fun _ _ _ h => h) (Or.inl ⟨by rfl, ?hy31r4⟩) (by assumption) ?rest31r4
        case hy31r4 => (intro w hSw; (try dsimp only at hSw); go_simp; try with_reducible rfl)
        try simp only [Act.put, List.setIfInBounds_toArray, List.set_cons_zero, List.set_cons_succ]
        refine wpAnyH_ready (rs := [32]) (by kernel_rfl) (by simp) ?_
        refine AllReadyH.cons (o := { dst := some 53, op := Op.call { callee := Callee.value (Operand.func 5), args := #[Operand.tmp 51, Operand.tmp 52], argTypes := #[27, 27] }, type := 3, pos := "outright.go:24", after := #[{ on := 30, ground := Ground.data }, { on := 31, ground := Ground.data }, { on := 29, ground := Ground.chain }, { on := 29, ground := Ground.guard }], guard := some (29, true) }) rfl (fun K hK => ?_) AllReadyH.nil
        go_simp
        refine (HAC.out _ hHeld.1).mono ?_
        rintro e w4 ⟨rfl, hb4⟩
        replace hb4 := Below.step hHeld.1 hb4
        try go_wp2_with fail
        refine hK.out _ _ (HX.out _ hb4) (fun hHeld => ?_)
        clear hK K
        try simp only [Act.put, List.setIfInBounds_toArray, List.set_cons_zero, List.set_cons_succ]
        refine tk1 (i := 33) (oi := { dst := some 54, op := Op.binOp BinOp.geq 3 (Operand.tmp 53) (Operand.const (Go.Value.int Go.IntKind.i64 0)) 3, type := 4, pos := "outright.go:24", after := #[{ on := 32, ground := Ground.data }, { on := 29, ground := Ground.guard }], guard := some (29, true) }) (v := ?v33r4) rfl (by kernel_rfl) (fun _ _ _ h => h) (Or.inl ⟨by rfl, ?hy33r4⟩) (by assumption) ?rest33r4
        case hy33r4 => (intro w hSw; (try dsimp only at hSw); go_simp; try with_reducible rfl)
        try simp only [Act.put, List.setIfInBounds_toArray, List.set_cons_zero, List.set_cons_succ]
        refine tk1 (i := 34) (oi := { dst := some 55, op := Op.pick (Operand.tmp 50) (Operand.tmp 54) (Operand.const (Go.Value.bool false)), type := 4, pos := "outright.go:24", after := #[{ on := 29, ground := Ground.data }, { on := 33, ground := Ground.data }, { on := 18, ground := Ground.guard }], guard := some (18, false) }) (v := ?v34r4) rfl (by kernel_rfl) (fun _ _ _ h => h) (Or.inl ⟨by rfl, ?hy34r4⟩) (by assumption) ?rest34r4
        case hy34r4 => (intro w hSw; (try dsimp only at hSw); go_simp; try with_reducible rfl)
        try simp only [Act.put, List.setIfInBounds_toArray, List.set_cons_zero, List.set_cons_succ]
        refine tk1 (i := 35) (oi := { dst := some 56, op := Op.pick (Operand.tmp 39) (Operand.const (Go.Value.bool true)) (Operand.tmp 55), type := 4, pos := "outright.go:24", after := #[{ on := 18, ground := Ground.data }, { on := 34, ground := Ground.data }], guard := none }) (v := ?v35r4) rfl (by kernel_rfl) (fun _ _ _ h => h) (Or.inl ⟨by rfl, ?hy35r4⟩) (by assumption) ?rest35r4
        case hy35r4 => (intro w hSw; (try dsimp only at hSw); go_simp; try with_reducible rfl)
        try simp only [Act.put, List.setIfInBounds_toArray, List.set_cons_zero, List.set_cons_succ]
        refine wpAnyH_done (by kernel_rfl) ?_ _
        try go_wp2_with fail
        try go_meet
        exact ⟨rfl, rfl, rfl, rfl, rfl, Lib.hid hHeld.1⟩
  case rest =>
    obtain ⟨rfl, rfl, rfl, rfl, rfl, HW⟩ := hcut
    clear HX
    have HX : Hid (∀ W, Below w1.heap.size w1 W → Below w1.heap.size w1 W ∧ W.cell? ⟨w.heap.size + 3, 0, none⟩ = some (.int .u32 x.a) ∧ W.cell? ⟨w.heap.size + 3, 1, none⟩ = some (.int .i64 x.b) ∧ W.cell? ⟨w.heap.size + 3, 2, none⟩ = some (.int .u32 x.ho) ∧ W.cell? ⟨w.heap.size + 3, 3, none⟩ = some (.int .i64 x.pf) ∧ W.cell? ⟨w.heap.size + 3, 4, none⟩ = some (.int .i64 x.me) ∧ W.cell? ⟨w.heap.size + 3, 5, none⟩ = some (x.vpa) ∧ W.cell? ⟨w.heap.size + 3, 6, none⟩ = some (x.vco) ∧ W.cell? ⟨w.heap.size + 3, 7, none⟩ = some (.int .u32 x.pe) ∧ W.cell? ⟨w.heap.size + 3, 8, none⟩ = some (.int .u32 x.pi) ∧ W.cell? ⟨w.heap.size + 3, 9, none⟩ = some (.bool x.ex) ∧ W.cell? ⟨w.heap.size + 3, 10, none⟩ = some (.int .u32 x.og) ∧ W.cell? ⟨w.heap.size + 3, 11, none⟩ = some (x.vcl) ∧ W.cell? ⟨w.heap.size + 3, 12, none⟩ = some (.int .i64 x.se) ∧ W.cell? ⟨w.heap.size + 4, 0, none⟩ = some (.int .u32 y.a) ∧ W.cell? ⟨w.heap.size + 4, 1, none⟩ = some (.int .i64 y.b) ∧ W.cell? ⟨w.heap.size + 4, 2, none⟩ = some (.int .u32 y.ho) ∧ W.cell? ⟨w.heap.size + 4, 3, none⟩ = some (.int .i64 y.pf) ∧ W.cell? ⟨w.heap.size + 4, 4, none⟩ = some (.int .i64 y.me) ∧ W.cell? ⟨w.heap.size + 4, 5, none⟩ = some (y.vpa) ∧ W.cell? ⟨w.heap.size + 4, 6, none⟩ = some (y.vco) ∧ W.cell? ⟨w.heap.size + 4, 7, none⟩ = some (.int .u32 y.pe) ∧ W.cell? ⟨w.heap.size + 4, 8, none⟩ = some (.int .u32 y.pi) ∧ W.cell? ⟨w.heap.size + 4, 9, none⟩ = some (.bool y.ex) ∧ W.cell? ⟨w.heap.size + 4, 10, none⟩ = some (.int .u32 y.og) ∧ W.cell? ⟨w.heap.size + 4, 11, none⟩ = some (y.vcl) ∧ W.cell? ⟨w.heap.size + 4, 12, none⟩ = some (.int .i64 y.se) ∧ W.cell? ⟨w.heap.size + 5, 0, none⟩ = some (.int .u32 z.a) ∧ W.cell? ⟨w.heap.size + 5, 1, none⟩ = some (.int .i64 z.b) ∧ W.cell? ⟨w.heap.size + 5, 2, none⟩ = some (.int .u32 z.ho) ∧ W.cell? ⟨w.heap.size + 5, 3, none⟩ = some (.int .i64 z.pf) ∧ W.cell? ⟨w.heap.size + 5, 4, none⟩ = some (.int .i64 z.me) ∧ W.cell? ⟨w.heap.size + 5, 5, none⟩ = some (z.vpa) ∧ W.cell? ⟨w.heap.size + 5, 6, none⟩ = some (z.vco) ∧ W.cell? ⟨w.heap.size + 5, 7, none⟩ = some (.int .u32 z.pe) ∧ W.cell? ⟨w.heap.size + 5, 8, none⟩ = some (.int .u32 z.pi) ∧ W.cell? ⟨w.heap.size + 5, 9, none⟩ = some (.bool z.ex) ∧ W.cell? ⟨w.heap.size + 5, 10, none⟩ = some (.int .u32 z.og) ∧ W.cell? ⟨w.heap.size + 5, 11, none⟩ = some (z.vcl) ∧ W.cell? ⟨w.heap.size + 5, 12, none⟩ = some (.int .i64 z.se)) := Lib.hid fun W hb => by
      obtain ⟨_, _, _, e0, e1, e2⟩ := HK.out W (Below.step HB1.out hb)
      refine ⟨hb, ?_, ?_, ?_, ?_, ?_, ?_, ?_, ?_, ?_, ?_, ?_, ?_, ?_, ?_, ?_, ?_, ?_, ?_, ?_, ?_, ?_, ?_, ?_, ?_, ?_, ?_, ?_, ?_, ?_, ?_, ?_, ?_, ?_, ?_, ?_, ?_, ?_, ?_, ?_⟩ <;> first | (simp only [World.cell?, e0]; rfl) | (simp only [World.cell?, e1]; rfl) | (simp only [World.cell?, e2]; rfl)
    have HRD : Hid (∀ W, Below w1.heap.size w1 W → RdA W x ∧ RdA W y ∧ RdA W z) := Lib.hid fun W hb => by
      have h := Below.step HBZ.out (Below.step HB1.out hb)
      exact ⟨HRX.out.1.on h, HRX.out.2.1.on h, HRX.out.2.2.on h⟩
    go_wp2_with fail
    go_cut [3, 88] (fun s3 s88 wx => s3 = .slice p0 l0.length c0 ∧ s88 = .bool false ∧ Hid (Below w1.heap.size w1 wx))
    case first =>
      have hba0 : cA y x = - cA x y := tot_cA.anti x y
      have haa : cA x x = 0 := tot_cA.self x
      have kab := cA_abs x y
      have kbc := cA_abs y z
      rcases (show cA x y = 0 ∨ cA x y = 1 ∨ (cA x y = -1 ∧ cA y z = 0) ∨ (cA x y = -1 ∧ cA y z = 1) ∨ (cA x y = -1 ∧ cA y z = -1) by omega) with hab | hab | ⟨hab, hbc⟩ | ⟨hab, hbc⟩ | ⟨hab, hbc⟩
      · as_aux_lemma =>
          have hba : cA y x = 0 := by omega
          clear hba0 kab kbc
          have HAB : Hid (∀ W, Below w1.heap.size w1 W → Calls Tryz.prog 6 #[.agg #[.int .u32 x.a, .int .i64 x.b, .int .u32 x.ho, .int .i64 x.pf, .int .i64 x.me, x.vpa, x.vco, .int .u32 x.pe, .int .u32 x.pi, .bool x.ex, .int .u32 x.og, x.vcl, .int .i64 x.se], .agg #[.int .u32 y.a, .int .i64 y.b, .int .u32 y.ho, .int .i64 y.pf, .int .i64 y.me, y.vpa, y.vco, .int .u32 y.pe, .int .u32 y.pi, .bool y.ex, .int .u32 y.og, y.vcl, .int .i64 y.se]] W fun e w' => e = .returned (.int .i64 (0)) ∧ Below W.heap.size W w') := Lib.hid fun W hb => (acmp_is x y W (HRD.out W hb).1 (HRD.out W hb).2.1).mono fun e w' h => ⟨hab ▸ h.1, h.2⟩
          have HBA : Hid (∀ W, Below w1.heap.size w1 W → Calls Tryz.prog 6 #[.agg #[.int .u32 y.a, .int .i64 y.b, .int .u32 y.ho, .int .i64 y.pf, .int .i64 y.me, y.vpa, y.vco, .int .u32 y.pe, .int .u32 y.pi, .bool y.ex, .int .u32 y.og, y.vcl, .int .i64 y.se], .agg #[.int .u32 x.a, .int .i64 x.b, .int .u32 x.ho, .int .i64 x.pf, .int .i64 x.me, x.vpa, x.vco, .int .u32 x.pe, .int .u32 x.pi, .bool x.ex, .int .u32 x.og, x.vcl, .int .i64 x.se]] W fun e w' => e = .returned (.int .i64 (0)) ∧ Below W.heap.size W w') := Lib.hid fun W hb => (acmp_is y x W (HRD.out W hb).2.1 (HRD.out W hb).1).mono fun e w' h => ⟨hba ▸ h.1, h.2⟩
          have HAA : Hid (∀ W, Below w1.heap.size w1 W → Calls Tryz.prog 6 #[.agg #[.int .u32 x.a, .int .i64 x.b, .int .u32 x.ho, .int .i64 x.pf, .int .i64 x.me, x.vpa, x.vco, .int .u32 x.pe, .int .u32 x.pi, .bool x.ex, .int .u32 x.og, x.vcl, .int .i64 x.se], .agg #[.int .u32 x.a, .int .i64 x.b, .int .u32 x.ho, .int .i64 x.pf, .int .i64 x.me, x.vpa, x.vco, .int .u32 x.pe, .int .u32 x.pi, .bool x.ex, .int .u32 x.og, x.vcl, .int .i64 x.se]] W fun e w' => e = .returned (.int .i64 (0)) ∧ Below W.heap.size W w') := Lib.hid fun W hb => (acmp_is x x W (HRD.out W hb).1 (HRD.out W hb).1).mono fun e w' h => ⟨haa ▸ h.1, h.2⟩
          clear hab hba haa
          refine wp_region_held_drew (S := (fun w' => Below w1.heap.size w1 w' ∧ w'.cell? ⟨w.heap.size + 3, 0, none⟩ = some (.int .u32 x.a) ∧ w'.cell? ⟨w.heap.size + 3, 1, none⟩ = some (.int .i64 x.b) ∧ w'.cell? ⟨w.heap.size + 3, 2, none⟩ = some (.int .u32 x.ho) ∧ w'.cell? ⟨w.heap.size + 3, 3, none⟩ = some (.int .i64 x.pf) ∧ w'.cell? ⟨w.heap.size + 3, 4, none⟩ = some (.int .i64 x.me) ∧ w'.cell? ⟨w.heap.size + 3, 5, none⟩ = some (x.vpa) ∧ w'.cell? ⟨w.heap.size + 3, 6, none⟩ = some (x.vco) ∧ w'.cell? ⟨w.heap.size + 3, 7, none⟩ = some (.int .u32 x.pe) ∧ w'.cell? ⟨w.heap.size + 3, 8, none⟩ = some (.int .u32 x.pi) ∧ w'.cell? ⟨w.heap.size + 3, 9, none⟩ = some (.bool x.ex) ∧ w'.cell? ⟨w.heap.size + 3, 10, none⟩ = some (.int .u32 x.og) ∧ w'.cell? ⟨w.heap.size + 3, 11, none⟩ = some (x.vcl) ∧ w'.cell? ⟨w.heap.size + 3, 12, none⟩ = some (.int .i64 x.se) ∧ w'.cell? ⟨w.heap.size + 4, 0, none⟩ = some (.int .u32 y.a) ∧ w'.cell? ⟨w.heap.size + 4, 1, none⟩ = some (.int .i64 y.b) ∧ w'.cell? ⟨w.heap.size + 4, 2, none⟩ = some (.int .u32 y.ho) ∧ w'.cell? ⟨w.heap.size + 4, 3, none⟩ = some (.int .i64 y.pf) ∧ w'.cell? ⟨w.heap.size + 4, 4, none⟩ = some (.int .i64 y.me) ∧ w'.cell? ⟨w.heap.size + 4, 5, none⟩ = some (y.vpa) ∧ w'.cell? ⟨w.heap.size + 4, 6, none⟩ = some (y.vco) ∧ w'.cell? ⟨w.heap.size + 4, 7, none⟩ = some (.int .u32 y.pe) ∧ w'.cell? ⟨w.heap.size + 4, 8, none⟩ = some (.int .u32 y.pi) ∧ w'.cell? ⟨w.heap.size + 4, 9, none⟩ = some (.bool y.ex) ∧ w'.cell? ⟨w.heap.size + 4, 10, none⟩ = some (.int .u32 y.og) ∧ w'.cell? ⟨w.heap.size + 4, 11, none⟩ = some (y.vcl) ∧ w'.cell? ⟨w.heap.size + 4, 12, none⟩ = some (.int .i64 y.se) ∧ w'.cell? ⟨w.heap.size + 5, 0, none⟩ = some (.int .u32 z.a) ∧ w'.cell? ⟨w.heap.size + 5, 1, none⟩ = some (.int .i64 z.b) ∧ w'.cell? ⟨w.heap.size + 5, 2, none⟩ = some (.int .u32 z.ho) ∧ w'.cell? ⟨w.heap.size + 5, 3, none⟩ = some (.int .i64 z.pf) ∧ w'.cell? ⟨w.heap.size + 5, 4, none⟩ = some (.int .i64 z.me) ∧ w'.cell? ⟨w.heap.size + 5, 5, none⟩ = some (z.vpa) ∧ w'.cell? ⟨w.heap.size + 5, 6, none⟩ = some (z.vco) ∧ w'.cell? ⟨w.heap.size + 5, 7, none⟩ = some (.int .u32 z.pe) ∧ w'.cell? ⟨w.heap.size + 5, 8, none⟩ = some (.int .u32 z.pi) ∧ w'.cell? ⟨w.heap.size + 5, 9, none⟩ = some (.bool z.ex) ∧ w'.cell? ⟨w.heap.size + 5, 10, none⟩ = some (.int .u32 z.og) ∧ w'.cell? ⟨w.heap.size + 5, 11, none⟩ = some (z.vcl) ∧ w'.cell? ⟨w.heap.size + 5, 12, none⟩ = some (.int .i64 z.se))) (by kernel_rfl) ?_ (fun hHeld => ?_)
          · exact HX.out _ HW.out.drew
          refine tk1 (i := 0) (oi := { dst := some 57, op := Op.load 32 (Operand.tmp 11), type := 32, pos := "outright.go:27", after := #[], guard := none }) (v := ?v0s0) rfl (by kernel_rfl) (fun _ _ _ h => h) (Or.inl ⟨by rfl, ?hy0s0⟩) (by assumption) ?rest0s0
          case hy0s0 => (intro w hSw; (try dsimp only at hSw); go_simp; try with_reducible rfl)
          try simp only [Act.put, List.setIfInBounds_toArray, List.set_cons_zero, List.set_cons_succ]
          refine tk1 (i := 1) (oi := { dst := some 58, op := Op.load 32 (Operand.tmp 12), type := 32, pos := "outright.go:27", after := #[], guard := none }) (v := ?v1s0) rfl (by kernel_rfl) (fun _ _ _ h => h) (Or.inl ⟨by rfl, ?hy1s0⟩) (by assumption) ?rest1s0
          case hy1s0 => (intro w hSw; (try dsimp only at hSw); go_simp; try with_reducible rfl)
          try simp only [Act.put, List.setIfInBounds_toArray, List.set_cons_zero, List.set_cons_succ]
          refine tk1 (i := 3) (oi := { dst := some 60, op := Op.load 32 (Operand.tmp 12), type := 32, pos := "outright.go:27", after := #[], guard := none }) (v := ?v3s0) rfl (by kernel_rfl) (fun _ _ _ h => h) (Or.inl ⟨by rfl, ?hy3s0⟩) (by assumption) ?rest3s0
          case hy3s0 => (intro w hSw; (try dsimp only at hSw); go_simp; try with_reducible rfl)
          try simp only [Act.put, List.setIfInBounds_toArray, List.set_cons_zero, List.set_cons_succ]
          refine tk1 (i := 4) (oi := { dst := some 61, op := Op.load 32 (Operand.tmp 11), type := 32, pos := "outright.go:27", after := #[], guard := none }) (v := ?v4s0) rfl (by kernel_rfl) (fun _ _ _ h => h) (Or.inl ⟨by rfl, ?hy4s0⟩) (by assumption) ?rest4s0
          case hy4s0 => (intro w hSw; (try dsimp only at hSw); go_simp; try with_reducible rfl)
          try simp only [Act.put, List.setIfInBounds_toArray, List.set_cons_zero, List.set_cons_succ]
          refine wpAnyH_ready (rs := [2]) (by kernel_rfl) (by simp) ?_
          refine AllReadyH.cons (o := { dst := some 59, op := Op.call { callee := Callee.value (Operand.func 6), args := #[Operand.tmp 57, Operand.tmp 58], argTypes := #[32, 32] }, type := 3, pos := "outright.go:27", after := #[{ on := 0, ground := Ground.data }, { on := 1, ground := Ground.data }], guard := none }) rfl (fun K hK => ?_) AllReadyH.nil
          go_simp
          refine (HAB.out _ hHeld.1).mono ?_
          rintro e w4 ⟨rfl, hb4⟩
          replace hb4 := Below.step hHeld.1 hb4
          try go_wp2_with fail
          refine hK.out _ _ (HX.out _ hb4) (fun hHeld => ?_)
          clear hK K
          try simp only [Act.put, List.setIfInBounds_toArray, List.set_cons_zero, List.set_cons_succ]
          refine wpAnyH_ready (rs := [5]) (by kernel_rfl) (by simp) ?_
          refine AllReadyH.cons (o := { dst := some 62, op := Op.call { callee := Callee.value (Operand.func 6), args := #[Operand.tmp 60, Operand.tmp 61], argTypes := #[32, 32] }, type := 3, pos := "outright.go:27", after := #[{ on := 3, ground := Ground.data }, { on := 4, ground := Ground.data }, { on := 2, ground := Ground.chain }], guard := none }) rfl (fun K hK => ?_) AllReadyH.nil
          go_simp
          refine (HBA.out _ hHeld.1).mono ?_
          rintro e w4 ⟨rfl, hb4⟩
          replace hb4 := Below.step hHeld.1 hb4
          try go_wp2_with fail
          refine hK.out _ _ (HX.out _ hb4) (fun hHeld => ?_)
          clear hK K
          try simp only [Act.put, List.setIfInBounds_toArray, List.set_cons_zero, List.set_cons_succ]
          refine tk1 (i := 6) (oi := { dst := some 63, op := Op.unOp UnOp.neg 3 (Operand.tmp 62), type := 3, pos := "outright.go:27", after := #[{ on := 5, ground := Ground.data }], guard := none }) (v := ?v6s0) rfl (by kernel_rfl) (fun _ _ _ h => h) (Or.inl ⟨by rfl, ?hy6s0⟩) (by assumption) ?rest6s0
          case hy6s0 => (intro w hSw; (try dsimp only at hSw); go_simp; try with_reducible rfl)
          try simp only [Act.put, List.setIfInBounds_toArray, List.set_cons_zero, List.set_cons_succ]
          refine tk1 (i := 7) (oi := { dst := some 64, op := Op.binOp BinOp.neq 3 (Operand.tmp 59) (Operand.tmp 63) 3, type := 4, pos := "outright.go:27", after := #[{ on := 2, ground := Ground.data }, { on := 6, ground := Ground.data }], guard := none }) (v := ?v7s0) rfl (by kernel_rfl) (fun _ _ _ h => h) (Or.inl ⟨by rfl, ?hy7s0⟩) (by assumption) ?rest7s0
          case hy7s0 => (intro w hSw; (try dsimp only at hSw); go_simp; try with_reducible rfl)
          try simp only [Act.put, List.setIfInBounds_toArray, List.set_cons_zero, List.set_cons_succ]
          refine tk1 (i := 8) (oi := { dst := some 65, op := Op.move (Operand.tmp 64), type := 4, pos := "outright.go:27", after := #[{ on := 7, ground := Ground.data }, { on := 5, ground := Ground.chain }], guard := none }) (v := ?v8s0) rfl (by kernel_rfl) (fun _ _ _ h => h) (Or.inl ⟨by rfl, ?hy8s0⟩) (by assumption) ?rest8s0
          case hy8s0 => (intro w hSw; (try dsimp only at hSw); go_simp; try with_reducible rfl)
          try simp only [Act.put, List.setIfInBounds_toArray, List.set_cons_zero, List.set_cons_succ]
          refine tk1 (i := 9) (oi := { dst := some 66, op := Op.load 32 (Operand.tmp 11), type := 32, pos := "outright.go:27", after := #[{ on := 8, ground := Ground.guard }], guard := some (8, false) }) (v := ?v9s0) rfl (by kernel_rfl) (fun _ _ _ h => h) (Or.inl ⟨by rfl, ?hy9s0⟩) (by assumption) ?rest9s0
          case hy9s0 => (intro w hSw; (try dsimp only at hSw); go_simp; try with_reducible rfl)
          try simp only [Act.put, List.setIfInBounds_toArray, List.set_cons_zero, List.set_cons_succ]
          refine tk1 (i := 10) (oi := { dst := some 67, op := Op.load 32 (Operand.tmp 11), type := 32, pos := "outright.go:27", after := #[{ on := 8, ground := Ground.guard }], guard := some (8, false) }) (v := ?v10s0) rfl (by kernel_rfl) (fun _ _ _ h => h) (Or.inl ⟨by rfl, ?hy10s0⟩) (by assumption) ?rest10s0
          case hy10s0 => (intro w hSw; (try dsimp only at hSw); go_simp; try with_reducible rfl)
          try simp only [Act.put, List.setIfInBounds_toArray, List.set_cons_zero, List.set_cons_succ]
          refine wpAnyH_ready (rs := [11]) (by kernel_rfl) (by simp) ?_
          refine AllReadyH.cons (o := { dst := some 68, op := Op.call { callee := Callee.value (Operand.func 6), args := #[Operand.tmp 66, Operand.tmp 67], argTypes := #[32, 32] }, type := 3, pos := "outright.go:27", after := #[{ on := 9, ground := Ground.data }, { on := 10, ground := Ground.data }, { on := 8, ground := Ground.chain }, { on := 8, ground := Ground.guard }], guard := some (8, false) }) rfl (fun K hK => ?_) AllReadyH.nil
          go_simp
          refine (HAA.out _ hHeld.1).mono ?_
          rintro e w4 ⟨rfl, hb4⟩
          replace hb4 := Below.step hHeld.1 hb4
          try go_wp2_with fail
          refine hK.out _ _ (HX.out _ hb4) (fun hHeld => ?_)
          clear hK K
          try simp only [Act.put, List.setIfInBounds_toArray, List.set_cons_zero, List.set_cons_succ]
          refine tk1 (i := 12) (oi := { dst := some 69, op := Op.binOp BinOp.neq 3 (Operand.tmp 68) (Operand.const (Go.Value.int Go.IntKind.i64 0)) 3, type := 4, pos := "outright.go:27", after := #[{ on := 11, ground := Ground.data }, { on := 8, ground := Ground.guard }], guard := some (8, false) }) (v := ?v12s0) rfl (by kernel_rfl) (fun _ _ _ h => h) (Or.inl ⟨by rfl, ?hy12s0⟩) (by assumption) ?rest12s0
          case hy12s0 => (intro w hSw; (try dsimp only at hSw); go_simp; try with_reducible rfl)
          try simp only [Act.put, List.setIfInBounds_toArray, List.set_cons_zero, List.set_cons_succ]
          refine tk1 (i := 13) (oi := { dst := some 70, op := Op.pick (Operand.tmp 65) (Operand.const (Go.Value.bool true)) (Operand.tmp 69), type := 4, pos := "outright.go:27", after := #[{ on := 8, ground := Ground.data }, { on := 12, ground := Ground.data }], guard := none }) (v := ?v13s0) rfl (by kernel_rfl) (fun _ _ _ h => h) (Or.inl ⟨by rfl, ?hy13s0⟩) (by assumption) ?rest13s0
          case hy13s0 => (intro w hSw; (try dsimp only at hSw); go_simp; try with_reducible rfl)
          try simp only [Act.put, List.setIfInBounds_toArray, List.set_cons_zero, List.set_cons_succ]
          refine tk1 (i := 14) (oi := { dst := some 71, op := Op.move (Operand.tmp 70), type := 4, pos := "outright.go:27", after := #[{ on := 13, ground := Ground.data }, { on := 11, ground := Ground.chain }], guard := none }) (v := ?v14s0) rfl (by kernel_rfl) (fun _ _ _ h => h) (Or.inl ⟨by rfl, ?hy14s0⟩) (by assumption) ?rest14s0
          case hy14s0 => (intro w hSw; (try dsimp only at hSw); go_simp; try with_reducible rfl)
          try simp only [Act.put, List.setIfInBounds_toArray, List.set_cons_zero, List.set_cons_succ]
          refine tk1 (i := 15) (oi := { dst := some 72, op := Op.load 32 (Operand.tmp 11), type := 32, pos := "outright.go:27", after := #[{ on := 14, ground := Ground.guard }], guard := some (14, false) }) (v := ?v15s0) rfl (by kernel_rfl) (fun _ _ _ h => h) (Or.inl ⟨by rfl, ?hy15s0⟩) (by assumption) ?rest15s0
          case hy15s0 => (intro w hSw; (try dsimp only at hSw); go_simp; try with_reducible rfl)
          try simp only [Act.put, List.setIfInBounds_toArray, List.set_cons_zero, List.set_cons_succ]
          refine tk1 (i := 16) (oi := { dst := some 73, op := Op.load 32 (Operand.tmp 12), type := 32, pos := "outright.go:27", after := #[{ on := 14, ground := Ground.guard }], guard := some (14, false) }) (v := ?v16s0) rfl (by kernel_rfl) (fun _ _ _ h => h) (Or.inl ⟨by rfl, ?hy16s0⟩) (by assumption) ?rest16s0
          case hy16s0 => (intro w hSw; (try dsimp only at hSw); go_simp; try with_reducible rfl)
          try simp only [Act.put, List.setIfInBounds_toArray, List.set_cons_zero, List.set_cons_succ]
          refine wpAnyH_ready (rs := [17]) (by kernel_rfl) (by simp) ?_
          refine AllReadyH.cons (o := { dst := some 74, op := Op.call { callee := Callee.value (Operand.func 6), args := #[Operand.tmp 72, Operand.tmp 73], argTypes := #[32, 32] }, type := 3, pos := "outright.go:27", after := #[{ on := 15, ground := Ground.data }, { on := 16, ground := Ground.data }, { on := 14, ground := Ground.chain }, { on := 14, ground := Ground.guard }], guard := some (14, false) }) rfl (fun K hK => ?_) AllReadyH.nil
          go_simp
          refine (HAB.out _ hHeld.1).mono ?_
          rintro e w4 ⟨rfl, hb4⟩
          replace hb4 := Below.step hHeld.1 hb4
          try go_wp2_with fail
          refine hK.out _ _ (HX.out _ hb4) (fun hHeld => ?_)
          clear hK K
          try simp only [Act.put, List.setIfInBounds_toArray, List.set_cons_zero, List.set_cons_succ]
          refine tk1 (i := 18) (oi := { dst := some 75, op := Op.binOp BinOp.lss 3 (Operand.tmp 74) (Operand.const (Go.Value.int Go.IntKind.i64 0)) 3, type := 4, pos := "outright.go:27", after := #[{ on := 17, ground := Ground.data }, { on := 14, ground := Ground.guard }], guard := some (14, false) }) (v := ?v18s0) rfl (by kernel_rfl) (fun _ _ _ h => h) (Or.inl ⟨by rfl, ?hy18s0⟩) (by assumption) ?rest18s0
          case hy18s0 => (intro w hSw; (try dsimp only at hSw); go_simp; try with_reducible rfl)
          try simp only [Act.put, List.setIfInBounds_toArray, List.set_cons_zero, List.set_cons_succ]
          refine tk1 (i := 19) (oi := { dst := some 76, op := Op.move (Operand.tmp 75), type := 4, pos := "outright.go:27", after := #[{ on := 18, ground := Ground.data }, { on := 17, ground := Ground.chain }, { on := 14, ground := Ground.guard }], guard := some (14, false) }) (v := ?v19s0) rfl (by kernel_rfl) (fun _ _ _ h => h) (Or.inl ⟨by rfl, ?hy19s0⟩) (by assumption) ?rest19s0
          case hy19s0 => (intro w hSw; (try dsimp only at hSw); go_simp; try with_reducible rfl)
          try simp only [Act.put, List.setIfInBounds_toArray, List.set_cons_zero, List.set_cons_succ]
          refine tk1 (i := 20) (oi := { dst := some 77, op := Op.load 32 (Operand.tmp 12), type := 32, pos := "outright.go:27", after := #[{ on := 19, ground := Ground.guard }], guard := some (19, true) }) (v := undef) rfl (by kernel_rfl) (fun _ _ _ h => h) (Or.inr ⟨by rfl, rfl⟩) (by assumption) ?_
          try simp only [Act.put, List.setIfInBounds_toArray, List.set_cons_zero, List.set_cons_succ]
          refine tk1 (i := 21) (oi := { dst := some 78, op := Op.load 32 (Operand.tmp 13), type := 32, pos := "outright.go:27", after := #[{ on := 19, ground := Ground.guard }], guard := some (19, true) }) (v := undef) rfl (by kernel_rfl) (fun _ _ _ h => h) (Or.inr ⟨by rfl, rfl⟩) (by assumption) ?_
          try simp only [Act.put, List.setIfInBounds_toArray, List.set_cons_zero, List.set_cons_succ]
          refine wpAnyH_ready (rs := [22]) (by kernel_rfl) (by simp) ?_
          refine AllReadyH.cons (o := { dst := some 79, op := Op.call { callee := Callee.value (Operand.func 6), args := #[Operand.tmp 77, Operand.tmp 78], argTypes := #[32, 32] }, type := 3, pos := "outright.go:27", after := #[{ on := 20, ground := Ground.data }, { on := 21, ground := Ground.data }, { on := 19, ground := Ground.chain }, { on := 19, ground := Ground.guard }], guard := some (19, true) }) rfl (fun K hK => ?_) AllReadyH.nil
          go_simp
          refine hK.out _ _ (by assumption) (fun hHeld => ?_)
          clear hK K
          try simp only [Act.put, List.setIfInBounds_toArray, List.set_cons_zero, List.set_cons_succ]
          refine tk1 (i := 23) (oi := { dst := some 80, op := Op.binOp BinOp.lss 3 (Operand.tmp 79) (Operand.const (Go.Value.int Go.IntKind.i64 0)) 3, type := 4, pos := "outright.go:27", after := #[{ on := 22, ground := Ground.data }, { on := 19, ground := Ground.guard }], guard := some (19, true) }) (v := undef) rfl (by kernel_rfl) (fun _ _ _ h => h) (Or.inr ⟨by rfl, rfl⟩) (by assumption) ?_
          try simp only [Act.put, List.setIfInBounds_toArray, List.set_cons_zero, List.set_cons_succ]
          refine tk1 (i := 24) (oi := { dst := some 81, op := Op.pick (Operand.tmp 76) (Operand.tmp 80) (Operand.const (Go.Value.bool false)), type := 4, pos := "outright.go:27", after := #[{ on := 19, ground := Ground.data }, { on := 23, ground := Ground.data }, { on := 14, ground := Ground.guard }], guard := some (14, false) }) (v := ?v24s0) rfl (by kernel_rfl) (fun _ _ _ h => h) (Or.inl ⟨by rfl, ?hy24s0⟩) (by assumption) ?rest24s0
          case hy24s0 => (intro w hSw; (try dsimp only at hSw); go_simp; try with_reducible rfl)
          try simp only [Act.put, List.setIfInBounds_toArray, List.set_cons_zero, List.set_cons_succ]
          refine tk1 (i := 25) (oi := { dst := some 82, op := Op.move (Operand.tmp 81), type := 4, pos := "outright.go:27", after := #[{ on := 24, ground := Ground.data }, { on := 22, ground := Ground.chain }, { on := 14, ground := Ground.guard }], guard := some (14, false) }) (v := ?v25s0) rfl (by kernel_rfl) (fun _ _ _ h => h) (Or.inl ⟨by rfl, ?hy25s0⟩) (by assumption) ?rest25s0
          case hy25s0 => (intro w hSw; (try dsimp only at hSw); go_simp; try with_reducible rfl)
          try simp only [Act.put, List.setIfInBounds_toArray, List.set_cons_zero, List.set_cons_succ]
          refine tk1 (i := 26) (oi := { dst := some 83, op := Op.load 32 (Operand.tmp 11), type := 32, pos := "outright.go:27", after := #[{ on := 25, ground := Ground.guard }], guard := some (25, true) }) (v := undef) rfl (by kernel_rfl) (fun _ _ _ h => h) (Or.inr ⟨by rfl, rfl⟩) (by assumption) ?_
          try simp only [Act.put, List.setIfInBounds_toArray, List.set_cons_zero, List.set_cons_succ]
          refine tk1 (i := 27) (oi := { dst := some 84, op := Op.load 32 (Operand.tmp 13), type := 32, pos := "outright.go:27", after := #[{ on := 25, ground := Ground.guard }], guard := some (25, true) }) (v := undef) rfl (by kernel_rfl) (fun _ _ _ h => h) (Or.inr ⟨by rfl, rfl⟩) (by assumption) ?_
          try simp only [Act.put, List.setIfInBounds_toArray, List.set_cons_zero, List.set_cons_succ]
          refine wpAnyH_ready (rs := [28]) (by kernel_rfl) (by simp) ?_
          refine AllReadyH.cons (o := { dst := some 85, op := Op.call { callee := Callee.value (Operand.func 6), args := #[Operand.tmp 83, Operand.tmp 84], argTypes := #[32, 32] }, type := 3, pos := "outright.go:27", after := #[{ on := 26, ground := Ground.data }, { on := 27, ground := Ground.data }, { on := 25, ground := Ground.chain }, { on := 25, ground := Ground.guard }], guard := some (25, true) }) rfl (fun K hK => ?_) AllReadyH.nil
          go_simp
          refine hK.out _ _ (by assumption) (fun hHeld => ?_)
          clear hK K
          try simp only [Act.put, List.setIfInBounds_toArray, List.set_cons_zero, List.set_cons_succ]
          refine tk1 (i := 29) (oi := { dst := some 86, op := Op.binOp BinOp.geq 3 (Operand.tmp 85) (Operand.const (Go.Value.int Go.IntKind.i64 0)) 3, type := 4, pos := "outright.go:27", after := #[{ on := 28, ground := Ground.data }, { on := 25, ground := Ground.guard }], guard := some (25, true) }) (v := undef) rfl (by kernel_rfl) (fun _ _ _ h => h) (Or.inr ⟨by rfl, rfl⟩) (by assumption) ?_
          try simp only [Act.put, List.setIfInBounds_toArray, List.set_cons_zero, List.set_cons_succ]
          refine tk1 (i := 30) (oi := { dst := some 87, op := Op.pick (Operand.tmp 82) (Operand.tmp 86) (Operand.const (Go.Value.bool false)), type := 4, pos := "outright.go:27", after := #[{ on := 25, ground := Ground.data }, { on := 29, ground := Ground.data }, { on := 14, ground := Ground.guard }], guard := some (14, false) }) (v := ?v30s0) rfl (by kernel_rfl) (fun _ _ _ h => h) (Or.inl ⟨by rfl, ?hy30s0⟩) (by assumption) ?rest30s0
          case hy30s0 => (intro w hSw; (try dsimp only at hSw); go_simp; try with_reducible rfl)
          try simp only [Act.put, List.setIfInBounds_toArray, List.set_cons_zero, List.set_cons_succ]
          refine tk1 (i := 31) (oi := { dst := some 88, op := Op.pick (Operand.tmp 71) (Operand.const (Go.Value.bool true)) (Operand.tmp 87), type := 4, pos := "outright.go:27", after := #[{ on := 14, ground := Ground.data }, { on := 30, ground := Ground.data }], guard := none }) (v := ?v31s0) rfl (by kernel_rfl) (fun _ _ _ h => h) (Or.inl ⟨by rfl, ?hy31s0⟩) (by assumption) ?rest31s0
          case hy31s0 => (intro w hSw; (try dsimp only at hSw); go_simp; try with_reducible rfl)
          try simp only [Act.put, List.setIfInBounds_toArray, List.set_cons_zero, List.set_cons_succ]
          refine wpAnyH_done (by kernel_rfl) ?_ _
          try go_wp2_with fail
          try go_meet
          exact ⟨rfl, rfl, Lib.hid hHeld.1⟩
      · as_aux_lemma =>
          have hba : cA y x = -1 := by omega
          clear hba0 kab kbc
          have HAB : Hid (∀ W, Below w1.heap.size w1 W → Calls Tryz.prog 6 #[.agg #[.int .u32 x.a, .int .i64 x.b, .int .u32 x.ho, .int .i64 x.pf, .int .i64 x.me, x.vpa, x.vco, .int .u32 x.pe, .int .u32 x.pi, .bool x.ex, .int .u32 x.og, x.vcl, .int .i64 x.se], .agg #[.int .u32 y.a, .int .i64 y.b, .int .u32 y.ho, .int .i64 y.pf, .int .i64 y.me, y.vpa, y.vco, .int .u32 y.pe, .int .u32 y.pi, .bool y.ex, .int .u32 y.og, y.vcl, .int .i64 y.se]] W fun e w' => e = .returned (.int .i64 (1)) ∧ Below W.heap.size W w') := Lib.hid fun W hb => (acmp_is x y W (HRD.out W hb).1 (HRD.out W hb).2.1).mono fun e w' h => ⟨hab ▸ h.1, h.2⟩
          have HBA : Hid (∀ W, Below w1.heap.size w1 W → Calls Tryz.prog 6 #[.agg #[.int .u32 y.a, .int .i64 y.b, .int .u32 y.ho, .int .i64 y.pf, .int .i64 y.me, y.vpa, y.vco, .int .u32 y.pe, .int .u32 y.pi, .bool y.ex, .int .u32 y.og, y.vcl, .int .i64 y.se], .agg #[.int .u32 x.a, .int .i64 x.b, .int .u32 x.ho, .int .i64 x.pf, .int .i64 x.me, x.vpa, x.vco, .int .u32 x.pe, .int .u32 x.pi, .bool x.ex, .int .u32 x.og, x.vcl, .int .i64 x.se]] W fun e w' => e = .returned (.int .i64 (-1)) ∧ Below W.heap.size W w') := Lib.hid fun W hb => (acmp_is y x W (HRD.out W hb).2.1 (HRD.out W hb).1).mono fun e w' h => ⟨hba ▸ h.1, h.2⟩
          have HAA : Hid (∀ W, Below w1.heap.size w1 W → Calls Tryz.prog 6 #[.agg #[.int .u32 x.a, .int .i64 x.b, .int .u32 x.ho, .int .i64 x.pf, .int .i64 x.me, x.vpa, x.vco, .int .u32 x.pe, .int .u32 x.pi, .bool x.ex, .int .u32 x.og, x.vcl, .int .i64 x.se], .agg #[.int .u32 x.a, .int .i64 x.b, .int .u32 x.ho, .int .i64 x.pf, .int .i64 x.me, x.vpa, x.vco, .int .u32 x.pe, .int .u32 x.pi, .bool x.ex, .int .u32 x.og, x.vcl, .int .i64 x.se]] W fun e w' => e = .returned (.int .i64 (0)) ∧ Below W.heap.size W w') := Lib.hid fun W hb => (acmp_is x x W (HRD.out W hb).1 (HRD.out W hb).1).mono fun e w' h => ⟨haa ▸ h.1, h.2⟩
          clear hab hba haa
          refine wp_region_held_drew (S := (fun w' => Below w1.heap.size w1 w' ∧ w'.cell? ⟨w.heap.size + 3, 0, none⟩ = some (.int .u32 x.a) ∧ w'.cell? ⟨w.heap.size + 3, 1, none⟩ = some (.int .i64 x.b) ∧ w'.cell? ⟨w.heap.size + 3, 2, none⟩ = some (.int .u32 x.ho) ∧ w'.cell? ⟨w.heap.size + 3, 3, none⟩ = some (.int .i64 x.pf) ∧ w'.cell? ⟨w.heap.size + 3, 4, none⟩ = some (.int .i64 x.me) ∧ w'.cell? ⟨w.heap.size + 3, 5, none⟩ = some (x.vpa) ∧ w'.cell? ⟨w.heap.size + 3, 6, none⟩ = some (x.vco) ∧ w'.cell? ⟨w.heap.size + 3, 7, none⟩ = some (.int .u32 x.pe) ∧ w'.cell? ⟨w.heap.size + 3, 8, none⟩ = some (.int .u32 x.pi) ∧ w'.cell? ⟨w.heap.size + 3, 9, none⟩ = some (.bool x.ex) ∧ w'.cell? ⟨w.heap.size + 3, 10, none⟩ = some (.int .u32 x.og) ∧ w'.cell? ⟨w.heap.size + 3, 11, none⟩ = some (x.vcl) ∧ w'.cell? ⟨w.heap.size + 3, 12, none⟩ = some (.int .i64 x.se) ∧ w'.cell? ⟨w.heap.size + 4, 0, none⟩ = some (.int .u32 y.a) ∧ w'.cell? ⟨w.heap.size + 4, 1, none⟩ = some (.int .i64 y.b) ∧ w'.cell? ⟨w.heap.size + 4, 2, none⟩ = some (.int .u32 y.ho) ∧ w'.cell? ⟨w.heap.size + 4, 3, none⟩ = some (.int .i64 y.pf) ∧ w'.cell? ⟨w.heap.size + 4, 4, none⟩ = some (.int .i64 y.me) ∧ w'.cell? ⟨w.heap.size + 4, 5, none⟩ = some (y.vpa) ∧ w'.cell? ⟨w.heap.size + 4, 6, none⟩ = some (y.vco) ∧ w'.cell? ⟨w.heap.size + 4, 7, none⟩ = some (.int .u32 y.pe) ∧ w'.cell? ⟨w.heap.size + 4, 8, none⟩ = some (.int .u32 y.pi) ∧ w'.cell? ⟨w.heap.size + 4, 9, none⟩ = some (.bool y.ex) ∧ w'.cell? ⟨w.heap.size + 4, 10, none⟩ = some (.int .u32 y.og) ∧ w'.cell? ⟨w.heap.size + 4, 11, none⟩ = some (y.vcl) ∧ w'.cell? ⟨w.heap.size + 4, 12, none⟩ = some (.int .i64 y.se) ∧ w'.cell? ⟨w.heap.size + 5, 0, none⟩ = some (.int .u32 z.a) ∧ w'.cell? ⟨w.heap.size + 5, 1, none⟩ = some (.int .i64 z.b) ∧ w'.cell? ⟨w.heap.size + 5, 2, none⟩ = some (.int .u32 z.ho) ∧ w'.cell? ⟨w.heap.size + 5, 3, none⟩ = some (.int .i64 z.pf) ∧ w'.cell? ⟨w.heap.size + 5, 4, none⟩ = some (.int .i64 z.me) ∧ w'.cell? ⟨w.heap.size + 5, 5, none⟩ = some (z.vpa) ∧ w'.cell? ⟨w.heap.size + 5, 6, none⟩ = some (z.vco) ∧ w'.cell? ⟨w.heap.size + 5, 7, none⟩ = some (.int .u32 z.pe) ∧ w'.cell? ⟨w.heap.size + 5, 8, none⟩ = some (.int .u32 z.pi) ∧ w'.cell? ⟨w.heap.size + 5, 9, none⟩ = some (.bool z.ex) ∧ w'.cell? ⟨w.heap.size + 5, 10, none⟩ = some (.int .u32 z.og) ∧ w'.cell? ⟨w.heap.size + 5, 11, none⟩ = some (z.vcl) ∧ w'.cell? ⟨w.heap.size + 5, 12, none⟩ = some (.int .i64 z.se))) (by kernel_rfl) ?_ (fun hHeld => ?_)
          · exact HX.out _ HW.out.drew
          refine tk1 (i := 0) (oi := { dst := some 57, op := Op.load 32 (Operand.tmp 11), type := 32, pos := "outright.go:27", after := #[], guard := none }) (v := ?v0s1) rfl (by kernel_rfl) (fun _ _ _ h => h) (Or.inl ⟨by rfl, ?hy0s1⟩) (by assumption) ?rest0s1
          case hy0s1 => (intro w hSw; (try dsimp only at hSw); go_simp; try with_reducible rfl)
          try simp only [Act.put, List.setIfInBounds_toArray, List.set_cons_zero, List.set_cons_succ]
          refine tk1 (i := 1) (oi := { dst := some 58, op := Op.load 32 (Operand.tmp 12), type := 32, pos := "outright.go:27", after := #[], guard := none }) (v := ?v1s1) rfl (by kernel_rfl) (fun _ _ _ h => h) (Or.inl ⟨by rfl, ?hy1s1⟩) (by assumption) ?rest1s1
          case hy1s1 => (intro w hSw; (try dsimp only at hSw); go_simp; try with_reducible rfl)
          try simp only [Act.put, List.setIfInBounds_toArray, List.set_cons_zero, List.set_cons_succ]
          refine tk1 (i := 3) (oi := { dst := some 60, op := Op.load 32 (Operand.tmp 12), type := 32, pos := "outright.go:27", after := #[], guard := none }) (v := ?v3s1) rfl (by kernel_rfl) (fun _ _ _ h => h) (Or.inl ⟨by rfl, ?hy3s1⟩) (by assumption) ?rest3s1
          case hy3s1 => (intro w hSw; (try dsimp only at hSw); go_simp; try with_reducible rfl)
          try simp only [Act.put, List.setIfInBounds_toArray, List.set_cons_zero, List.set_cons_succ]
          refine tk1 (i := 4) (oi := { dst := some 61, op := Op.load 32 (Operand.tmp 11), type := 32, pos := "outright.go:27", after := #[], guard := none }) (v := ?v4s1) rfl (by kernel_rfl) (fun _ _ _ h => h) (Or.inl ⟨by rfl, ?hy4s1⟩) (by assumption) ?rest4s1
          case hy4s1 => (intro w hSw; (try dsimp only at hSw); go_simp; try with_reducible rfl)
          try simp only [Act.put, List.setIfInBounds_toArray, List.set_cons_zero, List.set_cons_succ]
          refine wpAnyH_ready (rs := [2]) (by kernel_rfl) (by simp) ?_
          refine AllReadyH.cons (o := { dst := some 59, op := Op.call { callee := Callee.value (Operand.func 6), args := #[Operand.tmp 57, Operand.tmp 58], argTypes := #[32, 32] }, type := 3, pos := "outright.go:27", after := #[{ on := 0, ground := Ground.data }, { on := 1, ground := Ground.data }], guard := none }) rfl (fun K hK => ?_) AllReadyH.nil
          go_simp
          refine (HAB.out _ hHeld.1).mono ?_
          rintro e w4 ⟨rfl, hb4⟩
          replace hb4 := Below.step hHeld.1 hb4
          try go_wp2_with fail
          refine hK.out _ _ (HX.out _ hb4) (fun hHeld => ?_)
          clear hK K
          try simp only [Act.put, List.setIfInBounds_toArray, List.set_cons_zero, List.set_cons_succ]
          refine wpAnyH_ready (rs := [5]) (by kernel_rfl) (by simp) ?_
          refine AllReadyH.cons (o := { dst := some 62, op := Op.call { callee := Callee.value (Operand.func 6), args := #[Operand.tmp 60, Operand.tmp 61], argTypes := #[32, 32] }, type := 3, pos := "outright.go:27", after := #[{ on := 3, ground := Ground.data }, { on := 4, ground := Ground.data }, { on := 2, ground := Ground.chain }], guard := none }) rfl (fun K hK => ?_) AllReadyH.nil
          go_simp
          refine (HBA.out _ hHeld.1).mono ?_
          rintro e w4 ⟨rfl, hb4⟩
          replace hb4 := Below.step hHeld.1 hb4
          try go_wp2_with fail
          refine hK.out _ _ (HX.out _ hb4) (fun hHeld => ?_)
          clear hK K
          try simp only [Act.put, List.setIfInBounds_toArray, List.set_cons_zero, List.set_cons_succ]
          refine tk1 (i := 6) (oi := { dst := some 63, op := Op.unOp UnOp.neg 3 (Operand.tmp 62), type := 3, pos := "outright.go:27", after := #[{ on := 5, ground := Ground.data }], guard := none }) (v := ?v6s1) rfl (by kernel_rfl) (fun _ _ _ h => h) (Or.inl ⟨by rfl, ?hy6s1⟩) (by assumption) ?rest6s1
          case hy6s1 => (intro w hSw; (try dsimp only at hSw); go_simp; try with_reducible rfl)
          try simp only [Act.put, List.setIfInBounds_toArray, List.set_cons_zero, List.set_cons_succ]
          refine tk1 (i := 7) (oi := { dst := some 64, op := Op.binOp BinOp.neq 3 (Operand.tmp 59) (Operand.tmp 63) 3, type := 4, pos := "outright.go:27", after := #[{ on := 2, ground := Ground.data }, { on := 6, ground := Ground.data }], guard := none }) (v := ?v7s1) rfl (by kernel_rfl) (fun _ _ _ h => h) (Or.inl ⟨by rfl, ?hy7s1⟩) (by assumption) ?rest7s1
          case hy7s1 => (intro w hSw; (try dsimp only at hSw); go_simp; try with_reducible rfl)
          try simp only [Act.put, List.setIfInBounds_toArray, List.set_cons_zero, List.set_cons_succ]
          refine tk1 (i := 8) (oi := { dst := some 65, op := Op.move (Operand.tmp 64), type := 4, pos := "outright.go:27", after := #[{ on := 7, ground := Ground.data }, { on := 5, ground := Ground.chain }], guard := none }) (v := ?v8s1) rfl (by kernel_rfl) (fun _ _ _ h => h) (Or.inl ⟨by rfl, ?hy8s1⟩) (by assumption) ?rest8s1
          case hy8s1 => (intro w hSw; (try dsimp only at hSw); go_simp; try with_reducible rfl)
          try simp only [Act.put, List.setIfInBounds_toArray, List.set_cons_zero, List.set_cons_succ]
          refine tk1 (i := 9) (oi := { dst := some 66, op := Op.load 32 (Operand.tmp 11), type := 32, pos := "outright.go:27", after := #[{ on := 8, ground := Ground.guard }], guard := some (8, false) }) (v := ?v9s1) rfl (by kernel_rfl) (fun _ _ _ h => h) (Or.inl ⟨by rfl, ?hy9s1⟩) (by assumption) ?rest9s1
          case hy9s1 => (intro w hSw; (try dsimp only at hSw); go_simp; try with_reducible rfl)
          try simp only [Act.put, List.setIfInBounds_toArray, List.set_cons_zero, List.set_cons_succ]
          refine tk1 (i := 10) (oi := { dst := some 67, op := Op.load 32 (Operand.tmp 11), type := 32, pos := "outright.go:27", after := #[{ on := 8, ground := Ground.guard }], guard := some (8, false) }) (v := ?v10s1) rfl (by kernel_rfl) (fun _ _ _ h => h) (Or.inl ⟨by rfl, ?hy10s1⟩) (by assumption) ?rest10s1
          case hy10s1 => (intro w hSw; (try dsimp only at hSw); go_simp; try with_reducible rfl)
          try simp only [Act.put, List.setIfInBounds_toArray, List.set_cons_zero, List.set_cons_succ]
          refine wpAnyH_ready (rs := [11]) (by kernel_rfl) (by simp) ?_
          refine AllReadyH.cons (o := { dst := some 68, op := Op.call { callee := Callee.value (Operand.func 6), args := #[Operand.tmp 66, Operand.tmp 67], argTypes := #[32, 32] }, type := 3, pos := "outright.go:27", after := #[{ on := 9, ground := Ground.data }, { on := 10, ground := Ground.data }, { on := 8, ground := Ground.chain }, { on := 8, ground := Ground.guard }], guard := some (8, false) }) rfl (fun K hK => ?_) AllReadyH.nil
          go_simp
          refine (HAA.out _ hHeld.1).mono ?_
          rintro e w4 ⟨rfl, hb4⟩
          replace hb4 := Below.step hHeld.1 hb4
          try go_wp2_with fail
          refine hK.out _ _ (HX.out _ hb4) (fun hHeld => ?_)
          clear hK K
          try simp only [Act.put, List.setIfInBounds_toArray, List.set_cons_zero, List.set_cons_succ]
          refine tk1 (i := 12) (oi := { dst := some 69, op := Op.binOp BinOp.neq 3 (Operand.tmp 68) (Operand.const (Go.Value.int Go.IntKind.i64 0)) 3, type := 4, pos := "outright.go:27", after := #[{ on := 11, ground := Ground.data }, { on := 8, ground := Ground.guard }], guard := some (8, false) }) (v := ?v12s1) rfl (by kernel_rfl) (fun _ _ _ h => h) (Or.inl ⟨by rfl, ?hy12s1⟩) (by assumption) ?rest12s1
          case hy12s1 => (intro w hSw; (try dsimp only at hSw); go_simp; try with_reducible rfl)
          try simp only [Act.put, List.setIfInBounds_toArray, List.set_cons_zero, List.set_cons_succ]
          refine tk1 (i := 13) (oi := { dst := some 70, op := Op.pick (Operand.tmp 65) (Operand.const (Go.Value.bool true)) (Operand.tmp 69), type := 4, pos := "outright.go:27", after := #[{ on := 8, ground := Ground.data }, { on := 12, ground := Ground.data }], guard := none }) (v := ?v13s1) rfl (by kernel_rfl) (fun _ _ _ h => h) (Or.inl ⟨by rfl, ?hy13s1⟩) (by assumption) ?rest13s1
          case hy13s1 => (intro w hSw; (try dsimp only at hSw); go_simp; try with_reducible rfl)
          try simp only [Act.put, List.setIfInBounds_toArray, List.set_cons_zero, List.set_cons_succ]
          refine tk1 (i := 14) (oi := { dst := some 71, op := Op.move (Operand.tmp 70), type := 4, pos := "outright.go:27", after := #[{ on := 13, ground := Ground.data }, { on := 11, ground := Ground.chain }], guard := none }) (v := ?v14s1) rfl (by kernel_rfl) (fun _ _ _ h => h) (Or.inl ⟨by rfl, ?hy14s1⟩) (by assumption) ?rest14s1
          case hy14s1 => (intro w hSw; (try dsimp only at hSw); go_simp; try with_reducible rfl)
          try simp only [Act.put, List.setIfInBounds_toArray, List.set_cons_zero, List.set_cons_succ]
          refine tk1 (i := 15) (oi := { dst := some 72, op := Op.load 32 (Operand.tmp 11), type := 32, pos := "outright.go:27", after := #[{ on := 14, ground := Ground.guard }], guard := some (14, false) }) (v := ?v15s1) rfl (by kernel_rfl) (fun _ _ _ h => h) (Or.inl ⟨by rfl, ?hy15s1⟩) (by assumption) ?rest15s1
          case hy15s1 => (intro w hSw; (try dsimp only at hSw); go_simp; try with_reducible rfl)
          try simp only [Act.put, List.setIfInBounds_toArray, List.set_cons_zero, List.set_cons_succ]
          refine tk1 (i := 16) (oi := { dst := some 73, op := Op.load 32 (Operand.tmp 12), type := 32, pos := "outright.go:27", after := #[{ on := 14, ground := Ground.guard }], guard := some (14, false) }) (v := ?v16s1) rfl (by kernel_rfl) (fun _ _ _ h => h) (Or.inl ⟨by rfl, ?hy16s1⟩) (by assumption) ?rest16s1
          case hy16s1 => (intro w hSw; (try dsimp only at hSw); go_simp; try with_reducible rfl)
          try simp only [Act.put, List.setIfInBounds_toArray, List.set_cons_zero, List.set_cons_succ]
          refine wpAnyH_ready (rs := [17]) (by kernel_rfl) (by simp) ?_
          refine AllReadyH.cons (o := { dst := some 74, op := Op.call { callee := Callee.value (Operand.func 6), args := #[Operand.tmp 72, Operand.tmp 73], argTypes := #[32, 32] }, type := 3, pos := "outright.go:27", after := #[{ on := 15, ground := Ground.data }, { on := 16, ground := Ground.data }, { on := 14, ground := Ground.chain }, { on := 14, ground := Ground.guard }], guard := some (14, false) }) rfl (fun K hK => ?_) AllReadyH.nil
          go_simp
          refine (HAB.out _ hHeld.1).mono ?_
          rintro e w4 ⟨rfl, hb4⟩
          replace hb4 := Below.step hHeld.1 hb4
          try go_wp2_with fail
          refine hK.out _ _ (HX.out _ hb4) (fun hHeld => ?_)
          clear hK K
          try simp only [Act.put, List.setIfInBounds_toArray, List.set_cons_zero, List.set_cons_succ]
          refine tk1 (i := 18) (oi := { dst := some 75, op := Op.binOp BinOp.lss 3 (Operand.tmp 74) (Operand.const (Go.Value.int Go.IntKind.i64 0)) 3, type := 4, pos := "outright.go:27", after := #[{ on := 17, ground := Ground.data }, { on := 14, ground := Ground.guard }], guard := some (14, false) }) (v := ?v18s1) rfl (by kernel_rfl) (fun _ _ _ h => h) (Or.inl ⟨by rfl, ?hy18s1⟩) (by assumption) ?rest18s1
          case hy18s1 => (intro w hSw; (try dsimp only at hSw); go_simp; try with_reducible rfl)
          try simp only [Act.put, List.setIfInBounds_toArray, List.set_cons_zero, List.set_cons_succ]
          refine tk1 (i := 19) (oi := { dst := some 76, op := Op.move (Operand.tmp 75), type := 4, pos := "outright.go:27", after := #[{ on := 18, ground := Ground.data }, { on := 17, ground := Ground.chain }, { on := 14, ground := Ground.guard }], guard := some (14, false) }) (v := ?v19s1) rfl (by kernel_rfl) (fun _ _ _ h => h) (Or.inl ⟨by rfl, ?hy19s1⟩) (by assumption) ?rest19s1
          case hy19s1 => (intro w hSw; (try dsimp only at hSw); go_simp; try with_reducible rfl)
          try simp only [Act.put, List.setIfInBounds_toArray, List.set_cons_zero, List.set_cons_succ]
          refine tk1 (i := 20) (oi := { dst := some 77, op := Op.load 32 (Operand.tmp 12), type := 32, pos := "outright.go:27", after := #[{ on := 19, ground := Ground.guard }], guard := some (19, true) }) (v := undef) rfl (by kernel_rfl) (fun _ _ _ h => h) (Or.inr ⟨by rfl, rfl⟩) (by assumption) ?_
          try simp only [Act.put, List.setIfInBounds_toArray, List.set_cons_zero, List.set_cons_succ]
          refine tk1 (i := 21) (oi := { dst := some 78, op := Op.load 32 (Operand.tmp 13), type := 32, pos := "outright.go:27", after := #[{ on := 19, ground := Ground.guard }], guard := some (19, true) }) (v := undef) rfl (by kernel_rfl) (fun _ _ _ h => h) (Or.inr ⟨by rfl, rfl⟩) (by assumption) ?_
          try simp only [Act.put, List.setIfInBounds_toArray, List.set_cons_zero, List.set_cons_succ]
          refine wpAnyH_ready (rs := [22]) (by kernel_rfl) (by simp) ?_
          refine AllReadyH.cons (o := { dst := some 79, op := Op.call { callee := Callee.value (Operand.func 6), args := #[Operand.tmp 77, Operand.tmp 78], argTypes := #[32, 32] }, type := 3, pos := "outright.go:27", after := #[{ on := 20, ground := Ground.data }, { on := 21, ground := Ground.data }, { on := 19, ground := Ground.chain }, { on := 19, ground := Ground.guard }], guard := some (19, true) }) rfl (fun K hK => ?_) AllReadyH.nil
          go_simp
          refine hK.out _ _ (by assumption) (fun hHeld => ?_)
          clear hK K
          try simp only [Act.put, List.setIfInBounds_toArray, List.set_cons_zero, List.set_cons_succ]
          refine tk1 (i := 23) (oi := { dst := some 80, op := Op.binOp BinOp.lss 3 (Operand.tmp 79) (Operand.const (Go.Value.int Go.IntKind.i64 0)) 3, type := 4, pos := "outright.go:27", after := #[{ on := 22, ground := Ground.data }, { on := 19, ground := Ground.guard }], guard := some (19, true) }) (v := undef) rfl (by kernel_rfl) (fun _ _ _ h => h) (Or.inr ⟨by rfl, rfl⟩) (by assumption) ?_
          try simp only [Act.put, List.setIfInBounds_toArray, List.set_cons_zero, List.set_cons_succ]
          refine tk1 (i := 24) (oi := { dst := some 81, op := Op.pick (Operand.tmp 76) (Operand.tmp 80) (Operand.const (Go.Value.bool false)), type := 4, pos := "outright.go:27", after := #[{ on := 19, ground := Ground.data }, { on := 23, ground := Ground.data }, { on := 14, ground := Ground.guard }], guard := some (14, false) }) (v := ?v24s1) rfl (by kernel_rfl) (fun _ _ _ h => h) (Or.inl ⟨by rfl, ?hy24s1⟩) (by assumption) ?rest24s1
          case hy24s1 => (intro w hSw; (try dsimp only at hSw); go_simp; try with_reducible rfl)
          try simp only [Act.put, List.setIfInBounds_toArray, List.set_cons_zero, List.set_cons_succ]
          refine tk1 (i := 25) (oi := { dst := some 82, op := Op.move (Operand.tmp 81), type := 4, pos := "outright.go:27", after := #[{ on := 24, ground := Ground.data }, { on := 22, ground := Ground.chain }, { on := 14, ground := Ground.guard }], guard := some (14, false) }) (v := ?v25s1) rfl (by kernel_rfl) (fun _ _ _ h => h) (Or.inl ⟨by rfl, ?hy25s1⟩) (by assumption) ?rest25s1
          case hy25s1 => (intro w hSw; (try dsimp only at hSw); go_simp; try with_reducible rfl)
          try simp only [Act.put, List.setIfInBounds_toArray, List.set_cons_zero, List.set_cons_succ]
          refine tk1 (i := 26) (oi := { dst := some 83, op := Op.load 32 (Operand.tmp 11), type := 32, pos := "outright.go:27", after := #[{ on := 25, ground := Ground.guard }], guard := some (25, true) }) (v := undef) rfl (by kernel_rfl) (fun _ _ _ h => h) (Or.inr ⟨by rfl, rfl⟩) (by assumption) ?_
          try simp only [Act.put, List.setIfInBounds_toArray, List.set_cons_zero, List.set_cons_succ]
          refine tk1 (i := 27) (oi := { dst := some 84, op := Op.load 32 (Operand.tmp 13), type := 32, pos := "outright.go:27", after := #[{ on := 25, ground := Ground.guard }], guard := some (25, true) }) (v := undef) rfl (by kernel_rfl) (fun _ _ _ h => h) (Or.inr ⟨by rfl, rfl⟩) (by assumption) ?_
          try simp only [Act.put, List.setIfInBounds_toArray, List.set_cons_zero, List.set_cons_succ]
          refine wpAnyH_ready (rs := [28]) (by kernel_rfl) (by simp) ?_
          refine AllReadyH.cons (o := { dst := some 85, op := Op.call { callee := Callee.value (Operand.func 6), args := #[Operand.tmp 83, Operand.tmp 84], argTypes := #[32, 32] }, type := 3, pos := "outright.go:27", after := #[{ on := 26, ground := Ground.data }, { on := 27, ground := Ground.data }, { on := 25, ground := Ground.chain }, { on := 25, ground := Ground.guard }], guard := some (25, true) }) rfl (fun K hK => ?_) AllReadyH.nil
          go_simp
          refine hK.out _ _ (by assumption) (fun hHeld => ?_)
          clear hK K
          try simp only [Act.put, List.setIfInBounds_toArray, List.set_cons_zero, List.set_cons_succ]
          refine tk1 (i := 29) (oi := { dst := some 86, op := Op.binOp BinOp.geq 3 (Operand.tmp 85) (Operand.const (Go.Value.int Go.IntKind.i64 0)) 3, type := 4, pos := "outright.go:27", after := #[{ on := 28, ground := Ground.data }, { on := 25, ground := Ground.guard }], guard := some (25, true) }) (v := undef) rfl (by kernel_rfl) (fun _ _ _ h => h) (Or.inr ⟨by rfl, rfl⟩) (by assumption) ?_
          try simp only [Act.put, List.setIfInBounds_toArray, List.set_cons_zero, List.set_cons_succ]
          refine tk1 (i := 30) (oi := { dst := some 87, op := Op.pick (Operand.tmp 82) (Operand.tmp 86) (Operand.const (Go.Value.bool false)), type := 4, pos := "outright.go:27", after := #[{ on := 25, ground := Ground.data }, { on := 29, ground := Ground.data }, { on := 14, ground := Ground.guard }], guard := some (14, false) }) (v := ?v30s1) rfl (by kernel_rfl) (fun _ _ _ h => h) (Or.inl ⟨by rfl, ?hy30s1⟩) (by assumption) ?rest30s1
          case hy30s1 => (intro w hSw; (try dsimp only at hSw); go_simp; try with_reducible rfl)
          try simp only [Act.put, List.setIfInBounds_toArray, List.set_cons_zero, List.set_cons_succ]
          refine tk1 (i := 31) (oi := { dst := some 88, op := Op.pick (Operand.tmp 71) (Operand.const (Go.Value.bool true)) (Operand.tmp 87), type := 4, pos := "outright.go:27", after := #[{ on := 14, ground := Ground.data }, { on := 30, ground := Ground.data }], guard := none }) (v := ?v31s1) rfl (by kernel_rfl) (fun _ _ _ h => h) (Or.inl ⟨by rfl, ?hy31s1⟩) (by assumption) ?rest31s1
          case hy31s1 => (intro w hSw; (try dsimp only at hSw); go_simp; try with_reducible rfl)
          try simp only [Act.put, List.setIfInBounds_toArray, List.set_cons_zero, List.set_cons_succ]
          refine wpAnyH_done (by kernel_rfl) ?_ _
          try go_wp2_with fail
          try go_meet
          exact ⟨rfl, rfl, Lib.hid hHeld.1⟩
      · as_aux_lemma =>
          have hba : cA y x = 1 := by omega
          clear hba0 kab kbc
          have HAB : Hid (∀ W, Below w1.heap.size w1 W → Calls Tryz.prog 6 #[.agg #[.int .u32 x.a, .int .i64 x.b, .int .u32 x.ho, .int .i64 x.pf, .int .i64 x.me, x.vpa, x.vco, .int .u32 x.pe, .int .u32 x.pi, .bool x.ex, .int .u32 x.og, x.vcl, .int .i64 x.se], .agg #[.int .u32 y.a, .int .i64 y.b, .int .u32 y.ho, .int .i64 y.pf, .int .i64 y.me, y.vpa, y.vco, .int .u32 y.pe, .int .u32 y.pi, .bool y.ex, .int .u32 y.og, y.vcl, .int .i64 y.se]] W fun e w' => e = .returned (.int .i64 (-1)) ∧ Below W.heap.size W w') := Lib.hid fun W hb => (acmp_is x y W (HRD.out W hb).1 (HRD.out W hb).2.1).mono fun e w' h => ⟨hab ▸ h.1, h.2⟩
          have HBA : Hid (∀ W, Below w1.heap.size w1 W → Calls Tryz.prog 6 #[.agg #[.int .u32 y.a, .int .i64 y.b, .int .u32 y.ho, .int .i64 y.pf, .int .i64 y.me, y.vpa, y.vco, .int .u32 y.pe, .int .u32 y.pi, .bool y.ex, .int .u32 y.og, y.vcl, .int .i64 y.se], .agg #[.int .u32 x.a, .int .i64 x.b, .int .u32 x.ho, .int .i64 x.pf, .int .i64 x.me, x.vpa, x.vco, .int .u32 x.pe, .int .u32 x.pi, .bool x.ex, .int .u32 x.og, x.vcl, .int .i64 x.se]] W fun e w' => e = .returned (.int .i64 (1)) ∧ Below W.heap.size W w') := Lib.hid fun W hb => (acmp_is y x W (HRD.out W hb).2.1 (HRD.out W hb).1).mono fun e w' h => ⟨hba ▸ h.1, h.2⟩
          have HAA : Hid (∀ W, Below w1.heap.size w1 W → Calls Tryz.prog 6 #[.agg #[.int .u32 x.a, .int .i64 x.b, .int .u32 x.ho, .int .i64 x.pf, .int .i64 x.me, x.vpa, x.vco, .int .u32 x.pe, .int .u32 x.pi, .bool x.ex, .int .u32 x.og, x.vcl, .int .i64 x.se], .agg #[.int .u32 x.a, .int .i64 x.b, .int .u32 x.ho, .int .i64 x.pf, .int .i64 x.me, x.vpa, x.vco, .int .u32 x.pe, .int .u32 x.pi, .bool x.ex, .int .u32 x.og, x.vcl, .int .i64 x.se]] W fun e w' => e = .returned (.int .i64 (0)) ∧ Below W.heap.size W w') := Lib.hid fun W hb => (acmp_is x x W (HRD.out W hb).1 (HRD.out W hb).1).mono fun e w' h => ⟨haa ▸ h.1, h.2⟩
          have HBC : Hid (∀ W, Below w1.heap.size w1 W → Calls Tryz.prog 6 #[.agg #[.int .u32 y.a, .int .i64 y.b, .int .u32 y.ho, .int .i64 y.pf, .int .i64 y.me, y.vpa, y.vco, .int .u32 y.pe, .int .u32 y.pi, .bool y.ex, .int .u32 y.og, y.vcl, .int .i64 y.se], .agg #[.int .u32 z.a, .int .i64 z.b, .int .u32 z.ho, .int .i64 z.pf, .int .i64 z.me, z.vpa, z.vco, .int .u32 z.pe, .int .u32 z.pi, .bool z.ex, .int .u32 z.og, z.vcl, .int .i64 z.se]] W fun e w' => e = .returned (.int .i64 (0)) ∧ Below W.heap.size W w') := Lib.hid fun W hb => (acmp_is y z W (HRD.out W hb).2.1 (HRD.out W hb).2.2).mono fun e w' h => ⟨hbc ▸ h.1, h.2⟩
          clear hab hba haa hbc
          refine wp_region_held_drew (S := (fun w' => Below w1.heap.size w1 w' ∧ w'.cell? ⟨w.heap.size + 3, 0, none⟩ = some (.int .u32 x.a) ∧ w'.cell? ⟨w.heap.size + 3, 1, none⟩ = some (.int .i64 x.b) ∧ w'.cell? ⟨w.heap.size + 3, 2, none⟩ = some (.int .u32 x.ho) ∧ w'.cell? ⟨w.heap.size + 3, 3, none⟩ = some (.int .i64 x.pf) ∧ w'.cell? ⟨w.heap.size + 3, 4, none⟩ = some (.int .i64 x.me) ∧ w'.cell? ⟨w.heap.size + 3, 5, none⟩ = some (x.vpa) ∧ w'.cell? ⟨w.heap.size + 3, 6, none⟩ = some (x.vco) ∧ w'.cell? ⟨w.heap.size + 3, 7, none⟩ = some (.int .u32 x.pe) ∧ w'.cell? ⟨w.heap.size + 3, 8, none⟩ = some (.int .u32 x.pi) ∧ w'.cell? ⟨w.heap.size + 3, 9, none⟩ = some (.bool x.ex) ∧ w'.cell? ⟨w.heap.size + 3, 10, none⟩ = some (.int .u32 x.og) ∧ w'.cell? ⟨w.heap.size + 3, 11, none⟩ = some (x.vcl) ∧ w'.cell? ⟨w.heap.size + 3, 12, none⟩ = some (.int .i64 x.se) ∧ w'.cell? ⟨w.heap.size + 4, 0, none⟩ = some (.int .u32 y.a) ∧ w'.cell? ⟨w.heap.size + 4, 1, none⟩ = some (.int .i64 y.b) ∧ w'.cell? ⟨w.heap.size + 4, 2, none⟩ = some (.int .u32 y.ho) ∧ w'.cell? ⟨w.heap.size + 4, 3, none⟩ = some (.int .i64 y.pf) ∧ w'.cell? ⟨w.heap.size + 4, 4, none⟩ = some (.int .i64 y.me) ∧ w'.cell? ⟨w.heap.size + 4, 5, none⟩ = some (y.vpa) ∧ w'.cell? ⟨w.heap.size + 4, 6, none⟩ = some (y.vco) ∧ w'.cell? ⟨w.heap.size + 4, 7, none⟩ = some (.int .u32 y.pe) ∧ w'.cell? ⟨w.heap.size + 4, 8, none⟩ = some (.int .u32 y.pi) ∧ w'.cell? ⟨w.heap.size + 4, 9, none⟩ = some (.bool y.ex) ∧ w'.cell? ⟨w.heap.size + 4, 10, none⟩ = some (.int .u32 y.og) ∧ w'.cell? ⟨w.heap.size + 4, 11, none⟩ = some (y.vcl) ∧ w'.cell? ⟨w.heap.size + 4, 12, none⟩ = some (.int .i64 y.se) ∧ w'.cell? ⟨w.heap.size + 5, 0, none⟩ = some (.int .u32 z.a) ∧ w'.cell? ⟨w.heap.size + 5, 1, none⟩ = some (.int .i64 z.b) ∧ w'.cell? ⟨w.heap.size + 5, 2, none⟩ = some (.int .u32 z.ho) ∧ w'.cell? ⟨w.heap.size + 5, 3, none⟩ = some (.int .i64 z.pf) ∧ w'.cell? ⟨w.heap.size + 5, 4, none⟩ = some (.int .i64 z.me) ∧ w'.cell? ⟨w.heap.size + 5, 5, none⟩ = some (z.vpa) ∧ w'.cell? ⟨w.heap.size + 5, 6, none⟩ = some (z.vco) ∧ w'.cell? ⟨w.heap.size + 5, 7, none⟩ = some (.int .u32 z.pe) ∧ w'.cell? ⟨w.heap.size + 5, 8, none⟩ = some (.int .u32 z.pi) ∧ w'.cell? ⟨w.heap.size + 5, 9, none⟩ = some (.bool z.ex) ∧ w'.cell? ⟨w.heap.size + 5, 10, none⟩ = some (.int .u32 z.og) ∧ w'.cell? ⟨w.heap.size + 5, 11, none⟩ = some (z.vcl) ∧ w'.cell? ⟨w.heap.size + 5, 12, none⟩ = some (.int .i64 z.se))) (by kernel_rfl) ?_ (fun hHeld => ?_)
          · exact HX.out _ HW.out.drew
          refine tk1 (i := 0) (oi := { dst := some 57, op := Op.load 32 (Operand.tmp 11), type := 32, pos := "outright.go:27", after := #[], guard := none }) (v := ?v0s2) rfl (by kernel_rfl) (fun _ _ _ h => h) (Or.inl ⟨by rfl, ?hy0s2⟩) (by assumption) ?rest0s2
          case hy0s2 => (intro w hSw; (try dsimp only at hSw); go_simp; try with_reducible rfl)
          try simp only [Act.put, List.setIfInBounds_toArray, List.set_cons_zero, List.set_cons_succ]
          refine tk1 (i := 1) (oi := { dst := some 58, op := Op.load 32 (Operand.tmp 12), type := 32, pos := "outright.go:27", after := #[], guard := none }) (v := ?v1s2) rfl (by kernel_rfl) (fun _ _ _ h => h) (Or.inl ⟨by rfl, ?hy1s2⟩) (by assumption) ?rest1s2
          case hy1s2 => (intro w hSw; (try dsimp only at hSw); go_simp; try with_reducible rfl)
          try simp only [Act.put, List.setIfInBounds_toArray, List.set_cons_zero, List.set_cons_succ]
          refine tk1 (i := 3) (oi := { dst := some 60, op := Op.load 32 (Operand.tmp 12), type := 32, pos := "outright.go:27", after := #[], guard := none }) (v := ?v3s2) rfl (by kernel_rfl) (fun _ _ _ h => h) (Or.inl ⟨by rfl, ?hy3s2⟩) (by assumption) ?rest3s2
          case hy3s2 => (intro w hSw; (try dsimp only at hSw); go_simp; try with_reducible rfl)
          try simp only [Act.put, List.setIfInBounds_toArray, List.set_cons_zero, List.set_cons_succ]
          refine tk1 (i := 4) (oi := { dst := some 61, op := Op.load 32 (Operand.tmp 11), type := 32, pos := "outright.go:27", after := #[], guard := none }) (v := ?v4s2) rfl (by kernel_rfl) (fun _ _ _ h => h) (Or.inl ⟨by rfl, ?hy4s2⟩) (by assumption) ?rest4s2
          case hy4s2 => (intro w hSw; (try dsimp only at hSw); go_simp; try with_reducible rfl)
          try simp only [Act.put, List.setIfInBounds_toArray, List.set_cons_zero, List.set_cons_succ]
          refine wpAnyH_ready (rs := [2]) (by kernel_rfl) (by simp) ?_
          refine AllReadyH.cons (o := { dst := some 59, op := Op.call { callee := Callee.value (Operand.func 6), args := #[Operand.tmp 57, Operand.tmp 58], argTypes := #[32, 32] }, type := 3, pos := "outright.go:27", after := #[{ on := 0, ground := Ground.data }, { on := 1, ground := Ground.data }], guard := none }) rfl (fun K hK => ?_) AllReadyH.nil
          go_simp
          refine (HAB.out _ hHeld.1).mono ?_
          rintro e w4 ⟨rfl, hb4⟩
          replace hb4 := Below.step hHeld.1 hb4
          try go_wp2_with fail
          refine hK.out _ _ (HX.out _ hb4) (fun hHeld => ?_)
          clear hK K
          try simp only [Act.put, List.setIfInBounds_toArray, List.set_cons_zero, List.set_cons_succ]
          refine wpAnyH_ready (rs := [5]) (by kernel_rfl) (by simp) ?_
          refine AllReadyH.cons (o := { dst := some 62, op := Op.call { callee := Callee.value (Operand.func 6), args := #[Operand.tmp 60, Operand.tmp 61], argTypes := #[32, 32] }, type := 3, pos := "outright.go:27", after := #[{ on := 3, ground := Ground.data }, { on := 4, ground := Ground.data }, { on := 2, ground := Ground.chain }], guard := none }) rfl (fun K hK => ?_) AllReadyH.nil
          go_simp
          refine (HBA.out _ hHeld.1).mono ?_
          rintro e w4 ⟨rfl, hb4⟩
          replace hb4 := Below.step hHeld.1 hb4
          try go_wp2_with fail
          refine hK.out _ _ (HX.out _ hb4) (fun hHeld => ?_)
          clear hK K
          try simp only [Act.put, List.setIfInBounds_toArray, List.set_cons_zero, List.set_cons_succ]
          refine tk1 (i := 6) (oi := { dst := some 63, op := Op.unOp UnOp.neg 3 (Operand.tmp 62), type := 3, pos := "outright.go:27", after := #[{ on := 5, ground := Ground.data }], guard := none }) (v := ?v6s2) rfl (by kernel_rfl) (fun _ _ _ h => h) (Or.inl ⟨by rfl, ?hy6s2⟩) (by assumption) ?rest6s2
          case hy6s2 => (intro w hSw; (try dsimp only at hSw); go_simp; try with_reducible rfl)
          try simp only [Act.put, List.setIfInBounds_toArray, List.set_cons_zero, List.set_cons_succ]
          refine tk1 (i := 7) (oi := { dst := some 64, op := Op.binOp BinOp.neq 3 (Operand.tmp 59) (Operand.tmp 63) 3, type := 4, pos := "outright.go:27", after := #[{ on := 2, ground := Ground.data }, { on := 6, ground := Ground.data }], guard := none }) (v := ?v7s2) rfl (by kernel_rfl) (fun _ _ _ h => h) (Or.inl ⟨by rfl, ?hy7s2⟩) (by assumption) ?rest7s2
          case hy7s2 => (intro w hSw; (try dsimp only at hSw); go_simp; try with_reducible rfl)
          try simp only [Act.put, List.setIfInBounds_toArray, List.set_cons_zero, List.set_cons_succ]
          refine tk1 (i := 8) (oi := { dst := some 65, op := Op.move (Operand.tmp 64), type := 4, pos := "outright.go:27", after := #[{ on := 7, ground := Ground.data }, { on := 5, ground := Ground.chain }], guard := none }) (v := ?v8s2) rfl (by kernel_rfl) (fun _ _ _ h => h) (Or.inl ⟨by rfl, ?hy8s2⟩) (by assumption) ?rest8s2
          case hy8s2 => (intro w hSw; (try dsimp only at hSw); go_simp; try with_reducible rfl)
          try simp only [Act.put, List.setIfInBounds_toArray, List.set_cons_zero, List.set_cons_succ]
          refine tk1 (i := 9) (oi := { dst := some 66, op := Op.load 32 (Operand.tmp 11), type := 32, pos := "outright.go:27", after := #[{ on := 8, ground := Ground.guard }], guard := some (8, false) }) (v := ?v9s2) rfl (by kernel_rfl) (fun _ _ _ h => h) (Or.inl ⟨by rfl, ?hy9s2⟩) (by assumption) ?rest9s2
          case hy9s2 => (intro w hSw; (try dsimp only at hSw); go_simp; try with_reducible rfl)
          try simp only [Act.put, List.setIfInBounds_toArray, List.set_cons_zero, List.set_cons_succ]
          refine tk1 (i := 10) (oi := { dst := some 67, op := Op.load 32 (Operand.tmp 11), type := 32, pos := "outright.go:27", after := #[{ on := 8, ground := Ground.guard }], guard := some (8, false) }) (v := ?v10s2) rfl (by kernel_rfl) (fun _ _ _ h => h) (Or.inl ⟨by rfl, ?hy10s2⟩) (by assumption) ?rest10s2
          case hy10s2 => (intro w hSw; (try dsimp only at hSw); go_simp; try with_reducible rfl)
          try simp only [Act.put, List.setIfInBounds_toArray, List.set_cons_zero, List.set_cons_succ]
          refine wpAnyH_ready (rs := [11]) (by kernel_rfl) (by simp) ?_
          refine AllReadyH.cons (o := { dst := some 68, op := Op.call { callee := Callee.value (Operand.func 6), args := #[Operand.tmp 66, Operand.tmp 67], argTypes := #[32, 32] }, type := 3, pos := "outright.go:27", after := #[{ on := 9, ground := Ground.data }, { on := 10, ground := Ground.data }, { on := 8, ground := Ground.chain }, { on := 8, ground := Ground.guard }], guard := some (8, false) }) rfl (fun K hK => ?_) AllReadyH.nil
          go_simp
          refine (HAA.out _ hHeld.1).mono ?_
          rintro e w4 ⟨rfl, hb4⟩
          replace hb4 := Below.step hHeld.1 hb4
          try go_wp2_with fail
          refine hK.out _ _ (HX.out _ hb4) (fun hHeld => ?_)
          clear hK K
          try simp only [Act.put, List.setIfInBounds_toArray, List.set_cons_zero, List.set_cons_succ]
          refine tk1 (i := 12) (oi := { dst := some 69, op := Op.binOp BinOp.neq 3 (Operand.tmp 68) (Operand.const (Go.Value.int Go.IntKind.i64 0)) 3, type := 4, pos := "outright.go:27", after := #[{ on := 11, ground := Ground.data }, { on := 8, ground := Ground.guard }], guard := some (8, false) }) (v := ?v12s2) rfl (by kernel_rfl) (fun _ _ _ h => h) (Or.inl ⟨by rfl, ?hy12s2⟩) (by assumption) ?rest12s2
          case hy12s2 => (intro w hSw; (try dsimp only at hSw); go_simp; try with_reducible rfl)
          try simp only [Act.put, List.setIfInBounds_toArray, List.set_cons_zero, List.set_cons_succ]
          refine tk1 (i := 13) (oi := { dst := some 70, op := Op.pick (Operand.tmp 65) (Operand.const (Go.Value.bool true)) (Operand.tmp 69), type := 4, pos := "outright.go:27", after := #[{ on := 8, ground := Ground.data }, { on := 12, ground := Ground.data }], guard := none }) (v := ?v13s2) rfl (by kernel_rfl) (fun _ _ _ h => h) (Or.inl ⟨by rfl, ?hy13s2⟩) (by assumption) ?rest13s2
          case hy13s2 => (intro w hSw; (try dsimp only at hSw); go_simp; try with_reducible rfl)
          try simp only [Act.put, List.setIfInBounds_toArray, List.set_cons_zero, List.set_cons_succ]
          refine tk1 (i := 14) (oi := { dst := some 71, op := Op.move (Operand.tmp 70), type := 4, pos := "outright.go:27", after := #[{ on := 13, ground := Ground.data }, { on := 11, ground := Ground.chain }], guard := none }) (v := ?v14s2) rfl (by kernel_rfl) (fun _ _ _ h => h) (Or.inl ⟨by rfl, ?hy14s2⟩) (by assumption) ?rest14s2
          case hy14s2 => (intro w hSw; (try dsimp only at hSw); go_simp; try with_reducible rfl)
          try simp only [Act.put, List.setIfInBounds_toArray, List.set_cons_zero, List.set_cons_succ]
          refine tk1 (i := 15) (oi := { dst := some 72, op := Op.load 32 (Operand.tmp 11), type := 32, pos := "outright.go:27", after := #[{ on := 14, ground := Ground.guard }], guard := some (14, false) }) (v := ?v15s2) rfl (by kernel_rfl) (fun _ _ _ h => h) (Or.inl ⟨by rfl, ?hy15s2⟩) (by assumption) ?rest15s2
          case hy15s2 => (intro w hSw; (try dsimp only at hSw); go_simp; try with_reducible rfl)
          try simp only [Act.put, List.setIfInBounds_toArray, List.set_cons_zero, List.set_cons_succ]
          refine tk1 (i := 16) (oi := { dst := some 73, op := Op.load 32 (Operand.tmp 12), type := 32, pos := "outright.go:27", after := #[{ on := 14, ground := Ground.guard }], guard := some (14, false) }) (v := ?v16s2) rfl (by kernel_rfl) (fun _ _ _ h => h) (Or.inl ⟨by rfl, ?hy16s2⟩) (by assumption) ?rest16s2
          case hy16s2 => (intro w hSw; (try dsimp only at hSw); go_simp; try with_reducible rfl)
          try simp only [Act.put, List.setIfInBounds_toArray, List.set_cons_zero, List.set_cons_succ]
          refine wpAnyH_ready (rs := [17]) (by kernel_rfl) (by simp) ?_
          refine AllReadyH.cons (o := { dst := some 74, op := Op.call { callee := Callee.value (Operand.func 6), args := #[Operand.tmp 72, Operand.tmp 73], argTypes := #[32, 32] }, type := 3, pos := "outright.go:27", after := #[{ on := 15, ground := Ground.data }, { on := 16, ground := Ground.data }, { on := 14, ground := Ground.chain }, { on := 14, ground := Ground.guard }], guard := some (14, false) }) rfl (fun K hK => ?_) AllReadyH.nil
          go_simp
          refine (HAB.out _ hHeld.1).mono ?_
          rintro e w4 ⟨rfl, hb4⟩
          replace hb4 := Below.step hHeld.1 hb4
          try go_wp2_with fail
          refine hK.out _ _ (HX.out _ hb4) (fun hHeld => ?_)
          clear hK K
          try simp only [Act.put, List.setIfInBounds_toArray, List.set_cons_zero, List.set_cons_succ]
          refine tk1 (i := 18) (oi := { dst := some 75, op := Op.binOp BinOp.lss 3 (Operand.tmp 74) (Operand.const (Go.Value.int Go.IntKind.i64 0)) 3, type := 4, pos := "outright.go:27", after := #[{ on := 17, ground := Ground.data }, { on := 14, ground := Ground.guard }], guard := some (14, false) }) (v := ?v18s2) rfl (by kernel_rfl) (fun _ _ _ h => h) (Or.inl ⟨by rfl, ?hy18s2⟩) (by assumption) ?rest18s2
          case hy18s2 => (intro w hSw; (try dsimp only at hSw); go_simp; try with_reducible rfl)
          try simp only [Act.put, List.setIfInBounds_toArray, List.set_cons_zero, List.set_cons_succ]
          refine tk1 (i := 19) (oi := { dst := some 76, op := Op.move (Operand.tmp 75), type := 4, pos := "outright.go:27", after := #[{ on := 18, ground := Ground.data }, { on := 17, ground := Ground.chain }, { on := 14, ground := Ground.guard }], guard := some (14, false) }) (v := ?v19s2) rfl (by kernel_rfl) (fun _ _ _ h => h) (Or.inl ⟨by rfl, ?hy19s2⟩) (by assumption) ?rest19s2
          case hy19s2 => (intro w hSw; (try dsimp only at hSw); go_simp; try with_reducible rfl)
          try simp only [Act.put, List.setIfInBounds_toArray, List.set_cons_zero, List.set_cons_succ]
          refine tk1 (i := 20) (oi := { dst := some 77, op := Op.load 32 (Operand.tmp 12), type := 32, pos := "outright.go:27", after := #[{ on := 19, ground := Ground.guard }], guard := some (19, true) }) (v := ?v20s2) rfl (by kernel_rfl) (fun _ _ _ h => h) (Or.inl ⟨by rfl, ?hy20s2⟩) (by assumption) ?rest20s2
          case hy20s2 => (intro w hSw; (try dsimp only at hSw); go_simp; try with_reducible rfl)
          try simp only [Act.put, List.setIfInBounds_toArray, List.set_cons_zero, List.set_cons_succ]
          refine tk1 (i := 21) (oi := { dst := some 78, op := Op.load 32 (Operand.tmp 13), type := 32, pos := "outright.go:27", after := #[{ on := 19, ground := Ground.guard }], guard := some (19, true) }) (v := ?v21s2) rfl (by kernel_rfl) (fun _ _ _ h => h) (Or.inl ⟨by rfl, ?hy21s2⟩) (by assumption) ?rest21s2
          case hy21s2 => (intro w hSw; (try dsimp only at hSw); go_simp; try with_reducible rfl)
          try simp only [Act.put, List.setIfInBounds_toArray, List.set_cons_zero, List.set_cons_succ]
          refine wpAnyH_ready (rs := [22]) (by kernel_rfl) (by simp) ?_
          refine AllReadyH.cons (o := { dst := some 79, op := Op.call { callee := Callee.value (Operand.func 6), args := #[Operand.tmp 77, Operand.tmp 78], argTypes := #[32, 32] }, type := 3, pos := "outright.go:27", after := #[{ on := 20, ground := Ground.data }, { on := 21, ground := Ground.data }, { on := 19, ground := Ground.chain }, { on := 19, ground := Ground.guard }], guard := some (19, true) }) rfl (fun K hK => ?_) AllReadyH.nil
          go_simp
          refine (HBC.out _ hHeld.1).mono ?_
          rintro e w4 ⟨rfl, hb4⟩
          replace hb4 := Below.step hHeld.1 hb4
          try go_wp2_with fail
          refine hK.out _ _ (HX.out _ hb4) (fun hHeld => ?_)
          clear hK K
          try simp only [Act.put, List.setIfInBounds_toArray, List.set_cons_zero, List.set_cons_succ]
          refine tk1 (i := 23) (oi := { dst := some 80, op := Op.binOp BinOp.lss 3 (Operand.tmp 79) (Operand.const (Go.Value.int Go.IntKind.i64 0)) 3, type := 4, pos := "outright.go:27", after := #[{ on := 22, ground := Ground.data }, { on := 19, ground := Ground.guard }], guard := some (19, true) }) (v := ?v23s2) rfl (by kernel_rfl) (fun _ _ _ h => h) (Or.inl ⟨by rfl, ?hy23s2⟩) (by assumption) ?rest23s2
          case hy23s2 => (intro w hSw; (try dsimp only at hSw); go_simp; try with_reducible rfl)
          try simp only [Act.put, List.setIfInBounds_toArray, List.set_cons_zero, List.set_cons_succ]
          refine tk1 (i := 24) (oi := { dst := some 81, op := Op.pick (Operand.tmp 76) (Operand.tmp 80) (Operand.const (Go.Value.bool false)), type := 4, pos := "outright.go:27", after := #[{ on := 19, ground := Ground.data }, { on := 23, ground := Ground.data }, { on := 14, ground := Ground.guard }], guard := some (14, false) }) (v := ?v24s2) rfl (by kernel_rfl) (fun _ _ _ h => h) (Or.inl ⟨by rfl, ?hy24s2⟩) (by assumption) ?rest24s2
          case hy24s2 => (intro w hSw; (try dsimp only at hSw); go_simp; try with_reducible rfl)
          try simp only [Act.put, List.setIfInBounds_toArray, List.set_cons_zero, List.set_cons_succ]
          refine tk1 (i := 25) (oi := { dst := some 82, op := Op.move (Operand.tmp 81), type := 4, pos := "outright.go:27", after := #[{ on := 24, ground := Ground.data }, { on := 22, ground := Ground.chain }, { on := 14, ground := Ground.guard }], guard := some (14, false) }) (v := ?v25s2) rfl (by kernel_rfl) (fun _ _ _ h => h) (Or.inl ⟨by rfl, ?hy25s2⟩) (by assumption) ?rest25s2
          case hy25s2 => (intro w hSw; (try dsimp only at hSw); go_simp; try with_reducible rfl)
          try simp only [Act.put, List.setIfInBounds_toArray, List.set_cons_zero, List.set_cons_succ]
          refine tk1 (i := 26) (oi := { dst := some 83, op := Op.load 32 (Operand.tmp 11), type := 32, pos := "outright.go:27", after := #[{ on := 25, ground := Ground.guard }], guard := some (25, true) }) (v := undef) rfl (by kernel_rfl) (fun _ _ _ h => h) (Or.inr ⟨by rfl, rfl⟩) (by assumption) ?_
          try simp only [Act.put, List.setIfInBounds_toArray, List.set_cons_zero, List.set_cons_succ]
          refine tk1 (i := 27) (oi := { dst := some 84, op := Op.load 32 (Operand.tmp 13), type := 32, pos := "outright.go:27", after := #[{ on := 25, ground := Ground.guard }], guard := some (25, true) }) (v := undef) rfl (by kernel_rfl) (fun _ _ _ h => h) (Or.inr ⟨by rfl, rfl⟩) (by assumption) ?_
          try simp only [Act.put, List.setIfInBounds_toArray, List.set_cons_zero, List.set_cons_succ]
          refine wpAnyH_ready (rs := [28]) (by kernel_rfl) (by simp) ?_
          refine AllReadyH.cons (o := { dst := some 85, op := Op.call { callee := Callee.value (Operand.func 6), args := #[Operand.tmp 83, Operand.tmp 84], argTypes := #[32, 32] }, type := 3, pos := "outright.go:27", after := #[{ on := 26, ground := Ground.data }, { on := 27, ground := Ground.data }, { on := 25, ground := Ground.chain }, { on := 25, ground := Ground.guard }], guard := some (25, true) }) rfl (fun K hK => ?_) AllReadyH.nil
          go_simp
          refine hK.out _ _ (by assumption) (fun hHeld => ?_)
          clear hK K
          try simp only [Act.put, List.setIfInBounds_toArray, List.set_cons_zero, List.set_cons_succ]
          refine tk1 (i := 29) (oi := { dst := some 86, op := Op.binOp BinOp.geq 3 (Operand.tmp 85) (Operand.const (Go.Value.int Go.IntKind.i64 0)) 3, type := 4, pos := "outright.go:27", after := #[{ on := 28, ground := Ground.data }, { on := 25, ground := Ground.guard }], guard := some (25, true) }) (v := undef) rfl (by kernel_rfl) (fun _ _ _ h => h) (Or.inr ⟨by rfl, rfl⟩) (by assumption) ?_
          try simp only [Act.put, List.setIfInBounds_toArray, List.set_cons_zero, List.set_cons_succ]
          refine tk1 (i := 30) (oi := { dst := some 87, op := Op.pick (Operand.tmp 82) (Operand.tmp 86) (Operand.const (Go.Value.bool false)), type := 4, pos := "outright.go:27", after := #[{ on := 25, ground := Ground.data }, { on := 29, ground := Ground.data }, { on := 14, ground := Ground.guard }], guard := some (14, false) }) (v := ?v30s2) rfl (by kernel_rfl) (fun _ _ _ h => h) (Or.inl ⟨by rfl, ?hy30s2⟩) (by assumption) ?rest30s2
          case hy30s2 => (intro w hSw; (try dsimp only at hSw); go_simp; try with_reducible rfl)
          try simp only [Act.put, List.setIfInBounds_toArray, List.set_cons_zero, List.set_cons_succ]
          refine tk1 (i := 31) (oi := { dst := some 88, op := Op.pick (Operand.tmp 71) (Operand.const (Go.Value.bool true)) (Operand.tmp 87), type := 4, pos := "outright.go:27", after := #[{ on := 14, ground := Ground.data }, { on := 30, ground := Ground.data }], guard := none }) (v := ?v31s2) rfl (by kernel_rfl) (fun _ _ _ h => h) (Or.inl ⟨by rfl, ?hy31s2⟩) (by assumption) ?rest31s2
          case hy31s2 => (intro w hSw; (try dsimp only at hSw); go_simp; try with_reducible rfl)
          try simp only [Act.put, List.setIfInBounds_toArray, List.set_cons_zero, List.set_cons_succ]
          refine wpAnyH_done (by kernel_rfl) ?_ _
          try go_wp2_with fail
          try go_meet
          exact ⟨rfl, rfl, Lib.hid hHeld.1⟩
      · as_aux_lemma =>
          have hba : cA y x = 1 := by omega
          clear hba0 kab kbc
          have HAB : Hid (∀ W, Below w1.heap.size w1 W → Calls Tryz.prog 6 #[.agg #[.int .u32 x.a, .int .i64 x.b, .int .u32 x.ho, .int .i64 x.pf, .int .i64 x.me, x.vpa, x.vco, .int .u32 x.pe, .int .u32 x.pi, .bool x.ex, .int .u32 x.og, x.vcl, .int .i64 x.se], .agg #[.int .u32 y.a, .int .i64 y.b, .int .u32 y.ho, .int .i64 y.pf, .int .i64 y.me, y.vpa, y.vco, .int .u32 y.pe, .int .u32 y.pi, .bool y.ex, .int .u32 y.og, y.vcl, .int .i64 y.se]] W fun e w' => e = .returned (.int .i64 (-1)) ∧ Below W.heap.size W w') := Lib.hid fun W hb => (acmp_is x y W (HRD.out W hb).1 (HRD.out W hb).2.1).mono fun e w' h => ⟨hab ▸ h.1, h.2⟩
          have HBA : Hid (∀ W, Below w1.heap.size w1 W → Calls Tryz.prog 6 #[.agg #[.int .u32 y.a, .int .i64 y.b, .int .u32 y.ho, .int .i64 y.pf, .int .i64 y.me, y.vpa, y.vco, .int .u32 y.pe, .int .u32 y.pi, .bool y.ex, .int .u32 y.og, y.vcl, .int .i64 y.se], .agg #[.int .u32 x.a, .int .i64 x.b, .int .u32 x.ho, .int .i64 x.pf, .int .i64 x.me, x.vpa, x.vco, .int .u32 x.pe, .int .u32 x.pi, .bool x.ex, .int .u32 x.og, x.vcl, .int .i64 x.se]] W fun e w' => e = .returned (.int .i64 (1)) ∧ Below W.heap.size W w') := Lib.hid fun W hb => (acmp_is y x W (HRD.out W hb).2.1 (HRD.out W hb).1).mono fun e w' h => ⟨hba ▸ h.1, h.2⟩
          have HAA : Hid (∀ W, Below w1.heap.size w1 W → Calls Tryz.prog 6 #[.agg #[.int .u32 x.a, .int .i64 x.b, .int .u32 x.ho, .int .i64 x.pf, .int .i64 x.me, x.vpa, x.vco, .int .u32 x.pe, .int .u32 x.pi, .bool x.ex, .int .u32 x.og, x.vcl, .int .i64 x.se], .agg #[.int .u32 x.a, .int .i64 x.b, .int .u32 x.ho, .int .i64 x.pf, .int .i64 x.me, x.vpa, x.vco, .int .u32 x.pe, .int .u32 x.pi, .bool x.ex, .int .u32 x.og, x.vcl, .int .i64 x.se]] W fun e w' => e = .returned (.int .i64 (0)) ∧ Below W.heap.size W w') := Lib.hid fun W hb => (acmp_is x x W (HRD.out W hb).1 (HRD.out W hb).1).mono fun e w' h => ⟨haa ▸ h.1, h.2⟩
          have HBC : Hid (∀ W, Below w1.heap.size w1 W → Calls Tryz.prog 6 #[.agg #[.int .u32 y.a, .int .i64 y.b, .int .u32 y.ho, .int .i64 y.pf, .int .i64 y.me, y.vpa, y.vco, .int .u32 y.pe, .int .u32 y.pi, .bool y.ex, .int .u32 y.og, y.vcl, .int .i64 y.se], .agg #[.int .u32 z.a, .int .i64 z.b, .int .u32 z.ho, .int .i64 z.pf, .int .i64 z.me, z.vpa, z.vco, .int .u32 z.pe, .int .u32 z.pi, .bool z.ex, .int .u32 z.og, z.vcl, .int .i64 z.se]] W fun e w' => e = .returned (.int .i64 (1)) ∧ Below W.heap.size W w') := Lib.hid fun W hb => (acmp_is y z W (HRD.out W hb).2.1 (HRD.out W hb).2.2).mono fun e w' h => ⟨hbc ▸ h.1, h.2⟩
          clear hab hba haa hbc
          refine wp_region_held_drew (S := (fun w' => Below w1.heap.size w1 w' ∧ w'.cell? ⟨w.heap.size + 3, 0, none⟩ = some (.int .u32 x.a) ∧ w'.cell? ⟨w.heap.size + 3, 1, none⟩ = some (.int .i64 x.b) ∧ w'.cell? ⟨w.heap.size + 3, 2, none⟩ = some (.int .u32 x.ho) ∧ w'.cell? ⟨w.heap.size + 3, 3, none⟩ = some (.int .i64 x.pf) ∧ w'.cell? ⟨w.heap.size + 3, 4, none⟩ = some (.int .i64 x.me) ∧ w'.cell? ⟨w.heap.size + 3, 5, none⟩ = some (x.vpa) ∧ w'.cell? ⟨w.heap.size + 3, 6, none⟩ = some (x.vco) ∧ w'.cell? ⟨w.heap.size + 3, 7, none⟩ = some (.int .u32 x.pe) ∧ w'.cell? ⟨w.heap.size + 3, 8, none⟩ = some (.int .u32 x.pi) ∧ w'.cell? ⟨w.heap.size + 3, 9, none⟩ = some (.bool x.ex) ∧ w'.cell? ⟨w.heap.size + 3, 10, none⟩ = some (.int .u32 x.og) ∧ w'.cell? ⟨w.heap.size + 3, 11, none⟩ = some (x.vcl) ∧ w'.cell? ⟨w.heap.size + 3, 12, none⟩ = some (.int .i64 x.se) ∧ w'.cell? ⟨w.heap.size + 4, 0, none⟩ = some (.int .u32 y.a) ∧ w'.cell? ⟨w.heap.size + 4, 1, none⟩ = some (.int .i64 y.b) ∧ w'.cell? ⟨w.heap.size + 4, 2, none⟩ = some (.int .u32 y.ho) ∧ w'.cell? ⟨w.heap.size + 4, 3, none⟩ = some (.int .i64 y.pf) ∧ w'.cell? ⟨w.heap.size + 4, 4, none⟩ = some (.int .i64 y.me) ∧ w'.cell? ⟨w.heap.size + 4, 5, none⟩ = some (y.vpa) ∧ w'.cell? ⟨w.heap.size + 4, 6, none⟩ = some (y.vco) ∧ w'.cell? ⟨w.heap.size + 4, 7, none⟩ = some (.int .u32 y.pe) ∧ w'.cell? ⟨w.heap.size + 4, 8, none⟩ = some (.int .u32 y.pi) ∧ w'.cell? ⟨w.heap.size + 4, 9, none⟩ = some (.bool y.ex) ∧ w'.cell? ⟨w.heap.size + 4, 10, none⟩ = some (.int .u32 y.og) ∧ w'.cell? ⟨w.heap.size + 4, 11, none⟩ = some (y.vcl) ∧ w'.cell? ⟨w.heap.size + 4, 12, none⟩ = some (.int .i64 y.se) ∧ w'.cell? ⟨w.heap.size + 5, 0, none⟩ = some (.int .u32 z.a) ∧ w'.cell? ⟨w.heap.size + 5, 1, none⟩ = some (.int .i64 z.b) ∧ w'.cell? ⟨w.heap.size + 5, 2, none⟩ = some (.int .u32 z.ho) ∧ w'.cell? ⟨w.heap.size + 5, 3, none⟩ = some (.int .i64 z.pf) ∧ w'.cell? ⟨w.heap.size + 5, 4, none⟩ = some (.int .i64 z.me) ∧ w'.cell? ⟨w.heap.size + 5, 5, none⟩ = some (z.vpa) ∧ w'.cell? ⟨w.heap.size + 5, 6, none⟩ = some (z.vco) ∧ w'.cell? ⟨w.heap.size + 5, 7, none⟩ = some (.int .u32 z.pe) ∧ w'.cell? ⟨w.heap.size + 5, 8, none⟩ = some (.int .u32 z.pi) ∧ w'.cell? ⟨w.heap.size + 5, 9, none⟩ = some (.bool z.ex) ∧ w'.cell? ⟨w.heap.size + 5, 10, none⟩ = some (.int .u32 z.og) ∧ w'.cell? ⟨w.heap.size + 5, 11, none⟩ = some (z.vcl) ∧ w'.cell? ⟨w.heap.size + 5, 12, none⟩ = some (.int .i64 z.se))) (by kernel_rfl) ?_ (fun hHeld => ?_)
          · exact HX.out _ HW.out.drew
          refine tk1 (i := 0) (oi := { dst := some 57, op := Op.load 32 (Operand.tmp 11), type := 32, pos := "outright.go:27", after := #[], guard := none }) (v := ?v0s3) rfl (by kernel_rfl) (fun _ _ _ h => h) (Or.inl ⟨by rfl, ?hy0s3⟩) (by assumption) ?rest0s3
          case hy0s3 => (intro w hSw; (try dsimp only at hSw); go_simp; try with_reducible rfl)
          try simp only [Act.put, List.setIfInBounds_toArray, List.set_cons_zero, List.set_cons_succ]
          refine tk1 (i := 1) (oi := { dst := some 58, op := Op.load 32 (Operand.tmp 12), type := 32, pos := "outright.go:27", after := #[], guard := none }) (v := ?v1s3) rfl (by kernel_rfl) (fun _ _ _ h => h) (Or.inl ⟨by rfl, ?hy1s3⟩) (by assumption) ?rest1s3
          case hy1s3 => (intro w hSw; (try dsimp only at hSw); go_simp; try with_reducible rfl)
          try simp only [Act.put, List.setIfInBounds_toArray, List.set_cons_zero, List.set_cons_succ]
          refine tk1 (i := 3) (oi := { dst := some 60, op := Op.load 32 (Operand.tmp 12), type := 32, pos := "outright.go:27", after := #[], guard := none }) (v := ?v3s3) rfl (by kernel_rfl) (fun _ _ _ h => h) (Or.inl ⟨by rfl, ?hy3s3⟩) (by assumption) ?rest3s3
          case hy3s3 => (intro w hSw; (try dsimp only at hSw); go_simp; try with_reducible rfl)
          try simp only [Act.put, List.setIfInBounds_toArray, List.set_cons_zero, List.set_cons_succ]
          refine tk1 (i := 4) (oi := { dst := some 61, op := Op.load 32 (Operand.tmp 11), type := 32, pos := "outright.go:27", after := #[], guard := none }) (v := ?v4s3) rfl (by kernel_rfl) (fun _ _ _ h => h) (Or.inl ⟨by rfl, ?hy4s3⟩) (by assumption) ?rest4s3
          case hy4s3 => (intro w hSw; (try dsimp only at hSw); go_simp; try with_reducible rfl)
          try simp only [Act.put, List.setIfInBounds_toArray, List.set_cons_zero, List.set_cons_succ]
          refine wpAnyH_ready (rs := [2]) (by kernel_rfl) (by simp) ?_
          refine AllReadyH.cons (o := { dst := some 59, op := Op.call { callee := Callee.value (Operand.func 6), args := #[Operand.tmp 57, Operand.tmp 58], argTypes := #[32, 32] }, type := 3, pos := "outright.go:27", after := #[{ on := 0, ground := Ground.data }, { on := 1, ground := Ground.data }], guard := none }) rfl (fun K hK => ?_) AllReadyH.nil
          go_simp
          refine (HAB.out _ hHeld.1).mono ?_
          rintro e w4 ⟨rfl, hb4⟩
          replace hb4 := Below.step hHeld.1 hb4
          try go_wp2_with fail
          refine hK.out _ _ (HX.out _ hb4) (fun hHeld => ?_)
          clear hK K
          try simp only [Act.put, List.setIfInBounds_toArray, List.set_cons_zero, List.set_cons_succ]
          refine wpAnyH_ready (rs := [5]) (by kernel_rfl) (by simp) ?_
          refine AllReadyH.cons (o := { dst := some 62, op := Op.call { callee := Callee.value (Operand.func 6), args := #[Operand.tmp 60, Operand.tmp 61], argTypes := #[32, 32] }, type := 3, pos := "outright.go:27", after := #[{ on := 3, ground := Ground.data }, { on := 4, ground := Ground.data }, { on := 2, ground := Ground.chain }], guard := none }) rfl (fun K hK => ?_) AllReadyH.nil
          go_simp
          refine (HBA.out _ hHeld.1).mono ?_
          rintro e w4 ⟨rfl, hb4⟩
          replace hb4 := Below.step hHeld.1 hb4
          try go_wp2_with fail
          refine hK.out _ _ (HX.out _ hb4) (fun hHeld => ?_)
          clear hK K
          try simp only [Act.put, List.setIfInBounds_toArray, List.set_cons_zero, List.set_cons_succ]
          refine tk1 (i := 6) (oi := { dst := some 63, op := Op.unOp UnOp.neg 3 (Operand.tmp 62), type := 3, pos := "outright.go:27", after := #[{ on := 5, ground := Ground.data }], guard := none }) (v := ?v6s3) rfl (by kernel_rfl) (fun _ _ _ h => h) (Or.inl ⟨by rfl, ?hy6s3⟩) (by assumption) ?rest6s3
          case hy6s3 => (intro w hSw; (try dsimp only at hSw); go_simp; try with_reducible rfl)
          try simp only [Act.put, List.setIfInBounds_toArray, List.set_cons_zero, List.set_cons_succ]
          refine tk1 (i := 7) (oi := { dst := some 64, op := Op.binOp BinOp.neq 3 (Operand.tmp 59) (Operand.tmp 63) 3, type := 4, pos := "outright.go:27", after := #[{ on := 2, ground := Ground.data }, { on := 6, ground := Ground.data }], guard := none }) (v := ?v7s3) rfl (by kernel_rfl) (fun _ _ _ h => h) (Or.inl ⟨by rfl, ?hy7s3⟩) (by assumption) ?rest7s3
          case hy7s3 => (intro w hSw; (try dsimp only at hSw); go_simp; try with_reducible rfl)
          try simp only [Act.put, List.setIfInBounds_toArray, List.set_cons_zero, List.set_cons_succ]
          refine tk1 (i := 8) (oi := { dst := some 65, op := Op.move (Operand.tmp 64), type := 4, pos := "outright.go:27", after := #[{ on := 7, ground := Ground.data }, { on := 5, ground := Ground.chain }], guard := none }) (v := ?v8s3) rfl (by kernel_rfl) (fun _ _ _ h => h) (Or.inl ⟨by rfl, ?hy8s3⟩) (by assumption) ?rest8s3
          case hy8s3 => (intro w hSw; (try dsimp only at hSw); go_simp; try with_reducible rfl)
          try simp only [Act.put, List.setIfInBounds_toArray, List.set_cons_zero, List.set_cons_succ]
          refine tk1 (i := 9) (oi := { dst := some 66, op := Op.load 32 (Operand.tmp 11), type := 32, pos := "outright.go:27", after := #[{ on := 8, ground := Ground.guard }], guard := some (8, false) }) (v := ?v9s3) rfl (by kernel_rfl) (fun _ _ _ h => h) (Or.inl ⟨by rfl, ?hy9s3⟩) (by assumption) ?rest9s3
          case hy9s3 => (intro w hSw; (try dsimp only at hSw); go_simp; try with_reducible rfl)
          try simp only [Act.put, List.setIfInBounds_toArray, List.set_cons_zero, List.set_cons_succ]
          refine tk1 (i := 10) (oi := { dst := some 67, op := Op.load 32 (Operand.tmp 11), type := 32, pos := "outright.go:27", after := #[{ on := 8, ground := Ground.guard }], guard := some (8, false) }) (v := ?v10s3) rfl (by kernel_rfl) (fun _ _ _ h => h) (Or.inl ⟨by rfl, ?hy10s3⟩) (by assumption) ?rest10s3
          case hy10s3 => (intro w hSw; (try dsimp only at hSw); go_simp; try with_reducible rfl)
          try simp only [Act.put, List.setIfInBounds_toArray, List.set_cons_zero, List.set_cons_succ]
          refine wpAnyH_ready (rs := [11]) (by kernel_rfl) (by simp) ?_
          refine AllReadyH.cons (o := { dst := some 68, op := Op.call { callee := Callee.value (Operand.func 6), args := #[Operand.tmp 66, Operand.tmp 67], argTypes := #[32, 32] }, type := 3, pos := "outright.go:27", after := #[{ on := 9, ground := Ground.data }, { on := 10, ground := Ground.data }, { on := 8, ground := Ground.chain }, { on := 8, ground := Ground.guard }], guard := some (8, false) }) rfl (fun K hK => ?_) AllReadyH.nil
          go_simp
          refine (HAA.out _ hHeld.1).mono ?_
          rintro e w4 ⟨rfl, hb4⟩
          replace hb4 := Below.step hHeld.1 hb4
          try go_wp2_with fail
          refine hK.out _ _ (HX.out _ hb4) (fun hHeld => ?_)
          clear hK K
          try simp only [Act.put, List.setIfInBounds_toArray, List.set_cons_zero, List.set_cons_succ]
          refine tk1 (i := 12) (oi := { dst := some 69, op := Op.binOp BinOp.neq 3 (Operand.tmp 68) (Operand.const (Go.Value.int Go.IntKind.i64 0)) 3, type := 4, pos := "outright.go:27", after := #[{ on := 11, ground := Ground.data }, { on := 8, ground := Ground.guard }], guard := some (8, false) }) (v := ?v12s3) rfl (by kernel_rfl) (fun _ _ _ h => h) (Or.inl ⟨by rfl, ?hy12s3⟩) (by assumption) ?rest12s3
          case hy12s3 => (intro w hSw; (try dsimp only at hSw); go_simp; try with_reducible rfl)
          try simp only [Act.put, List.setIfInBounds_toArray, List.set_cons_zero, List.set_cons_succ]
          refine tk1 (i := 13) (oi := { dst := some 70, op := Op.pick (Operand.tmp 65) (Operand.const (Go.Value.bool true)) (Operand.tmp 69), type := 4, pos := "outright.go:27", after := #[{ on := 8, ground := Ground.data }, { on := 12, ground := Ground.data }], guard := none }) (v := ?v13s3) rfl (by kernel_rfl) (fun _ _ _ h => h) (Or.inl ⟨by rfl, ?hy13s3⟩) (by assumption) ?rest13s3
          case hy13s3 => (intro w hSw; (try dsimp only at hSw); go_simp; try with_reducible rfl)
          try simp only [Act.put, List.setIfInBounds_toArray, List.set_cons_zero, List.set_cons_succ]
          refine tk1 (i := 14) (oi := { dst := some 71, op := Op.move (Operand.tmp 70), type := 4, pos := "outright.go:27", after := #[{ on := 13, ground := Ground.data }, { on := 11, ground := Ground.chain }], guard := none }) (v := ?v14s3) rfl (by kernel_rfl) (fun _ _ _ h => h) (Or.inl ⟨by rfl, ?hy14s3⟩) (by assumption) ?rest14s3
          case hy14s3 => (intro w hSw; (try dsimp only at hSw); go_simp; try with_reducible rfl)
          try simp only [Act.put, List.setIfInBounds_toArray, List.set_cons_zero, List.set_cons_succ]
          refine tk1 (i := 15) (oi := { dst := some 72, op := Op.load 32 (Operand.tmp 11), type := 32, pos := "outright.go:27", after := #[{ on := 14, ground := Ground.guard }], guard := some (14, false) }) (v := ?v15s3) rfl (by kernel_rfl) (fun _ _ _ h => h) (Or.inl ⟨by rfl, ?hy15s3⟩) (by assumption) ?rest15s3
          case hy15s3 => (intro w hSw; (try dsimp only at hSw); go_simp; try with_reducible rfl)
          try simp only [Act.put, List.setIfInBounds_toArray, List.set_cons_zero, List.set_cons_succ]
          refine tk1 (i := 16) (oi := { dst := some 73, op := Op.load 32 (Operand.tmp 12), type := 32, pos := "outright.go:27", after := #[{ on := 14, ground := Ground.guard }], guard := some (14, false) }) (v := ?v16s3) rfl (by kernel_rfl) (fun _ _ _ h => h) (Or.inl ⟨by rfl, ?hy16s3⟩) (by assumption) ?rest16s3
          case hy16s3 => (intro w hSw; (try dsimp only at hSw); go_simp; try with_reducible rfl)
          try simp only [Act.put, List.setIfInBounds_toArray, List.set_cons_zero, List.set_cons_succ]
          refine wpAnyH_ready (rs := [17]) (by kernel_rfl) (by simp) ?_
          refine AllReadyH.cons (o := { dst := some 74, op := Op.call { callee := Callee.value (Operand.func 6), args := #[Operand.tmp 72, Operand.tmp 73], argTypes := #[32, 32] }, type := 3, pos := "outright.go:27", after := #[{ on := 15, ground := Ground.data }, { on := 16, ground := Ground.data }, { on := 14, ground := Ground.chain }, { on := 14, ground := Ground.guard }], guard := some (14, false) }) rfl (fun K hK => ?_) AllReadyH.nil
          go_simp
          refine (HAB.out _ hHeld.1).mono ?_
          rintro e w4 ⟨rfl, hb4⟩
          replace hb4 := Below.step hHeld.1 hb4
          try go_wp2_with fail
          refine hK.out _ _ (HX.out _ hb4) (fun hHeld => ?_)
          clear hK K
          try simp only [Act.put, List.setIfInBounds_toArray, List.set_cons_zero, List.set_cons_succ]
          refine tk1 (i := 18) (oi := { dst := some 75, op := Op.binOp BinOp.lss 3 (Operand.tmp 74) (Operand.const (Go.Value.int Go.IntKind.i64 0)) 3, type := 4, pos := "outright.go:27", after := #[{ on := 17, ground := Ground.data }, { on := 14, ground := Ground.guard }], guard := some (14, false) }) (v := ?v18s3) rfl (by kernel_rfl) (fun _ _ _ h => h) (Or.inl ⟨by rfl, ?hy18s3⟩) (by assumption) ?rest18s3
          case hy18s3 => (intro w hSw; (try dsimp only at hSw); go_simp; try with_reducible rfl)
          try simp only [Act.put, List.setIfInBounds_toArray, List.set_cons_zero, List.set_cons_succ]
          refine tk1 (i := 19) (oi := { dst := some 76, op := Op.move (Operand.tmp 75), type := 4, pos := "outright.go:27", after := #[{ on := 18, ground := Ground.data }, { on := 17, ground := Ground.chain }, { on := 14, ground := Ground.guard }], guard := some (14, false) }) (v := ?v19s3) rfl (by kernel_rfl) (fun _ _ _ h => h) (Or.inl ⟨by rfl, ?hy19s3⟩) (by assumption) ?rest19s3
          case hy19s3 => (intro w hSw; (try dsimp only at hSw); go_simp; try with_reducible rfl)
          try simp only [Act.put, List.setIfInBounds_toArray, List.set_cons_zero, List.set_cons_succ]
          refine tk1 (i := 20) (oi := { dst := some 77, op := Op.load 32 (Operand.tmp 12), type := 32, pos := "outright.go:27", after := #[{ on := 19, ground := Ground.guard }], guard := some (19, true) }) (v := ?v20s3) rfl (by kernel_rfl) (fun _ _ _ h => h) (Or.inl ⟨by rfl, ?hy20s3⟩) (by assumption) ?rest20s3
          case hy20s3 => (intro w hSw; (try dsimp only at hSw); go_simp; try with_reducible rfl)
          try simp only [Act.put, List.setIfInBounds_toArray, List.set_cons_zero, List.set_cons_succ]
          refine tk1 (i := 21) (oi := { dst := some 78, op := Op.load 32 (Operand.tmp 13), type := 32, pos := "outright.go:27", after := #[{ on := 19, ground := Ground.guard }], guard := some (19, true) }) (v := ?v21s3) rfl (by kernel_rfl) (fun _ _ _ h => h) (Or.inl ⟨by rfl, ?hy21s3⟩) (by assumption) ?rest21s3
          case hy21s3 => (intro w hSw; (try dsimp only at hSw); go_simp; try with_reducible rfl)
          try simp only [Act.put, List.setIfInBounds_toArray, List.set_cons_zero, List.set_cons_succ]
          refine wpAnyH_ready (rs := [22]) (by kernel_rfl) (by simp) ?_
          refine AllReadyH.cons (o := { dst := some 79, op := Op.call { callee := Callee.value (Operand.func 6), args := #[Operand.tmp 77, Operand.tmp 78], argTypes := #[32, 32] }, type := 3, pos := "outright.go:27", after := #[{ on := 20, ground := Ground.data }, { on := 21, ground := Ground.data }, { on := 19, ground := Ground.chain }, { on := 19, ground := Ground.guard }], guard := some (19, true) }) rfl (fun K hK => ?_) AllReadyH.nil
          go_simp
          refine (HBC.out _ hHeld.1).mono ?_
          rintro e w4 ⟨rfl, hb4⟩
          replace hb4 := Below.step hHeld.1 hb4
          try go_wp2_with fail
          refine hK.out _ _ (HX.out _ hb4) (fun hHeld => ?_)
          clear hK K
          try simp only [Act.put, List.setIfInBounds_toArray, List.set_cons_zero, List.set_cons_succ]
          refine tk1 (i := 23) (oi := { dst := some 80, op := Op.binOp BinOp.lss 3 (Operand.tmp 79) (Operand.const (Go.Value.int Go.IntKind.i64 0)) 3, type := 4, pos := "outright.go:27", after := #[{ on := 22, ground := Ground.data }, { on := 19, ground := Ground.guard }], guard := some (19, true) }) (v := ?v23s3) rfl (by kernel_rfl) (fun _ _ _ h => h) (Or.inl ⟨by rfl, ?hy23s3⟩) (by assumption) ?rest23s3
          case hy23s3 => (intro w hSw; (try dsimp only at hSw); go_simp; try with_reducible rfl)
          try simp only [Act.put, List.setIfInBounds_toArray, List.set_cons_zero, List.set_cons_succ]
          refine tk1 (i := 24) (oi := { dst := some 81, op := Op.pick (Operand.tmp 76) (Operand.tmp 80) (Operand.const (Go.Value.bool false)), type := 4, pos := "outright.go:27", after := #[{ on := 19, ground := Ground.data }, { on := 23, ground := Ground.data }, { on := 14, ground := Ground.guard }], guard := some (14, false) }) (v := ?v24s3) rfl (by kernel_rfl) (fun _ _ _ h => h) (Or.inl ⟨by rfl, ?hy24s3⟩) (by assumption) ?rest24s3
          case hy24s3 => (intro w hSw; (try dsimp only at hSw); go_simp; try with_reducible rfl)
          try simp only [Act.put, List.setIfInBounds_toArray, List.set_cons_zero, List.set_cons_succ]
          refine tk1 (i := 25) (oi := { dst := some 82, op := Op.move (Operand.tmp 81), type := 4, pos := "outright.go:27", after := #[{ on := 24, ground := Ground.data }, { on := 22, ground := Ground.chain }, { on := 14, ground := Ground.guard }], guard := some (14, false) }) (v := ?v25s3) rfl (by kernel_rfl) (fun _ _ _ h => h) (Or.inl ⟨by rfl, ?hy25s3⟩) (by assumption) ?rest25s3
          case hy25s3 => (intro w hSw; (try dsimp only at hSw); go_simp; try with_reducible rfl)
          try simp only [Act.put, List.setIfInBounds_toArray, List.set_cons_zero, List.set_cons_succ]
          refine tk1 (i := 26) (oi := { dst := some 83, op := Op.load 32 (Operand.tmp 11), type := 32, pos := "outright.go:27", after := #[{ on := 25, ground := Ground.guard }], guard := some (25, true) }) (v := undef) rfl (by kernel_rfl) (fun _ _ _ h => h) (Or.inr ⟨by rfl, rfl⟩) (by assumption) ?_
          try simp only [Act.put, List.setIfInBounds_toArray, List.set_cons_zero, List.set_cons_succ]
          refine tk1 (i := 27) (oi := { dst := some 84, op := Op.load 32 (Operand.tmp 13), type := 32, pos := "outright.go:27", after := #[{ on := 25, ground := Ground.guard }], guard := some (25, true) }) (v := undef) rfl (by kernel_rfl) (fun _ _ _ h => h) (Or.inr ⟨by rfl, rfl⟩) (by assumption) ?_
          try simp only [Act.put, List.setIfInBounds_toArray, List.set_cons_zero, List.set_cons_succ]
          refine wpAnyH_ready (rs := [28]) (by kernel_rfl) (by simp) ?_
          refine AllReadyH.cons (o := { dst := some 85, op := Op.call { callee := Callee.value (Operand.func 6), args := #[Operand.tmp 83, Operand.tmp 84], argTypes := #[32, 32] }, type := 3, pos := "outright.go:27", after := #[{ on := 26, ground := Ground.data }, { on := 27, ground := Ground.data }, { on := 25, ground := Ground.chain }, { on := 25, ground := Ground.guard }], guard := some (25, true) }) rfl (fun K hK => ?_) AllReadyH.nil
          go_simp
          refine hK.out _ _ (by assumption) (fun hHeld => ?_)
          clear hK K
          try simp only [Act.put, List.setIfInBounds_toArray, List.set_cons_zero, List.set_cons_succ]
          refine tk1 (i := 29) (oi := { dst := some 86, op := Op.binOp BinOp.geq 3 (Operand.tmp 85) (Operand.const (Go.Value.int Go.IntKind.i64 0)) 3, type := 4, pos := "outright.go:27", after := #[{ on := 28, ground := Ground.data }, { on := 25, ground := Ground.guard }], guard := some (25, true) }) (v := undef) rfl (by kernel_rfl) (fun _ _ _ h => h) (Or.inr ⟨by rfl, rfl⟩) (by assumption) ?_
          try simp only [Act.put, List.setIfInBounds_toArray, List.set_cons_zero, List.set_cons_succ]
          refine tk1 (i := 30) (oi := { dst := some 87, op := Op.pick (Operand.tmp 82) (Operand.tmp 86) (Operand.const (Go.Value.bool false)), type := 4, pos := "outright.go:27", after := #[{ on := 25, ground := Ground.data }, { on := 29, ground := Ground.data }, { on := 14, ground := Ground.guard }], guard := some (14, false) }) (v := ?v30s3) rfl (by kernel_rfl) (fun _ _ _ h => h) (Or.inl ⟨by rfl, ?hy30s3⟩) (by assumption) ?rest30s3
          case hy30s3 => (intro w hSw; (try dsimp only at hSw); go_simp; try with_reducible rfl)
          try simp only [Act.put, List.setIfInBounds_toArray, List.set_cons_zero, List.set_cons_succ]
          refine tk1 (i := 31) (oi := { dst := some 88, op := Op.pick (Operand.tmp 71) (Operand.const (Go.Value.bool true)) (Operand.tmp 87), type := 4, pos := "outright.go:27", after := #[{ on := 14, ground := Ground.data }, { on := 30, ground := Ground.data }], guard := none }) (v := ?v31s3) rfl (by kernel_rfl) (fun _ _ _ h => h) (Or.inl ⟨by rfl, ?hy31s3⟩) (by assumption) ?rest31s3
          case hy31s3 => (intro w hSw; (try dsimp only at hSw); go_simp; try with_reducible rfl)
          try simp only [Act.put, List.setIfInBounds_toArray, List.set_cons_zero, List.set_cons_succ]
          refine wpAnyH_done (by kernel_rfl) ?_ _
          try go_wp2_with fail
          try go_meet
          exact ⟨rfl, rfl, Lib.hid hHeld.1⟩
      · as_aux_lemma =>
          have hba : cA y x = 1 := by omega
          have hac : cA x z = -1 := by
            have h1 := tot_cA.lt (x := x) (y := y) (z := z) (by omega) (by omega)
            have h2 := cA_abs x z
            omega
          clear hba0 kab kbc
          have HAB : Hid (∀ W, Below w1.heap.size w1 W → Calls Tryz.prog 6 #[.agg #[.int .u32 x.a, .int .i64 x.b, .int .u32 x.ho, .int .i64 x.pf, .int .i64 x.me, x.vpa, x.vco, .int .u32 x.pe, .int .u32 x.pi, .bool x.ex, .int .u32 x.og, x.vcl, .int .i64 x.se], .agg #[.int .u32 y.a, .int .i64 y.b, .int .u32 y.ho, .int .i64 y.pf, .int .i64 y.me, y.vpa, y.vco, .int .u32 y.pe, .int .u32 y.pi, .bool y.ex, .int .u32 y.og, y.vcl, .int .i64 y.se]] W fun e w' => e = .returned (.int .i64 (-1)) ∧ Below W.heap.size W w') := Lib.hid fun W hb => (acmp_is x y W (HRD.out W hb).1 (HRD.out W hb).2.1).mono fun e w' h => ⟨hab ▸ h.1, h.2⟩
          have HBA : Hid (∀ W, Below w1.heap.size w1 W → Calls Tryz.prog 6 #[.agg #[.int .u32 y.a, .int .i64 y.b, .int .u32 y.ho, .int .i64 y.pf, .int .i64 y.me, y.vpa, y.vco, .int .u32 y.pe, .int .u32 y.pi, .bool y.ex, .int .u32 y.og, y.vcl, .int .i64 y.se], .agg #[.int .u32 x.a, .int .i64 x.b, .int .u32 x.ho, .int .i64 x.pf, .int .i64 x.me, x.vpa, x.vco, .int .u32 x.pe, .int .u32 x.pi, .bool x.ex, .int .u32 x.og, x.vcl, .int .i64 x.se]] W fun e w' => e = .returned (.int .i64 (1)) ∧ Below W.heap.size W w') := Lib.hid fun W hb => (acmp_is y x W (HRD.out W hb).2.1 (HRD.out W hb).1).mono fun e w' h => ⟨hba ▸ h.1, h.2⟩
          have HAA : Hid (∀ W, Below w1.heap.size w1 W → Calls Tryz.prog 6 #[.agg #[.int .u32 x.a, .int .i64 x.b, .int .u32 x.ho, .int .i64 x.pf, .int .i64 x.me, x.vpa, x.vco, .int .u32 x.pe, .int .u32 x.pi, .bool x.ex, .int .u32 x.og, x.vcl, .int .i64 x.se], .agg #[.int .u32 x.a, .int .i64 x.b, .int .u32 x.ho, .int .i64 x.pf, .int .i64 x.me, x.vpa, x.vco, .int .u32 x.pe, .int .u32 x.pi, .bool x.ex, .int .u32 x.og, x.vcl, .int .i64 x.se]] W fun e w' => e = .returned (.int .i64 (0)) ∧ Below W.heap.size W w') := Lib.hid fun W hb => (acmp_is x x W (HRD.out W hb).1 (HRD.out W hb).1).mono fun e w' h => ⟨haa ▸ h.1, h.2⟩
          have HBC : Hid (∀ W, Below w1.heap.size w1 W → Calls Tryz.prog 6 #[.agg #[.int .u32 y.a, .int .i64 y.b, .int .u32 y.ho, .int .i64 y.pf, .int .i64 y.me, y.vpa, y.vco, .int .u32 y.pe, .int .u32 y.pi, .bool y.ex, .int .u32 y.og, y.vcl, .int .i64 y.se], .agg #[.int .u32 z.a, .int .i64 z.b, .int .u32 z.ho, .int .i64 z.pf, .int .i64 z.me, z.vpa, z.vco, .int .u32 z.pe, .int .u32 z.pi, .bool z.ex, .int .u32 z.og, z.vcl, .int .i64 z.se]] W fun e w' => e = .returned (.int .i64 (-1)) ∧ Below W.heap.size W w') := Lib.hid fun W hb => (acmp_is y z W (HRD.out W hb).2.1 (HRD.out W hb).2.2).mono fun e w' h => ⟨hbc ▸ h.1, h.2⟩
          have HAC : Hid (∀ W, Below w1.heap.size w1 W → Calls Tryz.prog 6 #[.agg #[.int .u32 x.a, .int .i64 x.b, .int .u32 x.ho, .int .i64 x.pf, .int .i64 x.me, x.vpa, x.vco, .int .u32 x.pe, .int .u32 x.pi, .bool x.ex, .int .u32 x.og, x.vcl, .int .i64 x.se], .agg #[.int .u32 z.a, .int .i64 z.b, .int .u32 z.ho, .int .i64 z.pf, .int .i64 z.me, z.vpa, z.vco, .int .u32 z.pe, .int .u32 z.pi, .bool z.ex, .int .u32 z.og, z.vcl, .int .i64 z.se]] W fun e w' => e = .returned (.int .i64 (-1)) ∧ Below W.heap.size W w') := Lib.hid fun W hb => (acmp_is x z W (HRD.out W hb).1 (HRD.out W hb).2.2).mono fun e w' h => ⟨hac ▸ h.1, h.2⟩
          clear hab hba haa hbc hac
          refine wp_region_held_drew (S := (fun w' => Below w1.heap.size w1 w' ∧ w'.cell? ⟨w.heap.size + 3, 0, none⟩ = some (.int .u32 x.a) ∧ w'.cell? ⟨w.heap.size + 3, 1, none⟩ = some (.int .i64 x.b) ∧ w'.cell? ⟨w.heap.size + 3, 2, none⟩ = some (.int .u32 x.ho) ∧ w'.cell? ⟨w.heap.size + 3, 3, none⟩ = some (.int .i64 x.pf) ∧ w'.cell? ⟨w.heap.size + 3, 4, none⟩ = some (.int .i64 x.me) ∧ w'.cell? ⟨w.heap.size + 3, 5, none⟩ = some (x.vpa) ∧ w'.cell? ⟨w.heap.size + 3, 6, none⟩ = some (x.vco) ∧ w'.cell? ⟨w.heap.size + 3, 7, none⟩ = some (.int .u32 x.pe) ∧ w'.cell? ⟨w.heap.size + 3, 8, none⟩ = some (.int .u32 x.pi) ∧ w'.cell? ⟨w.heap.size + 3, 9, none⟩ = some (.bool x.ex) ∧ w'.cell? ⟨w.heap.size + 3, 10, none⟩ = some (.int .u32 x.og) ∧ w'.cell? ⟨w.heap.size + 3, 11, none⟩ = some (x.vcl) ∧ w'.cell? ⟨w.heap.size + 3, 12, none⟩ = some (.int .i64 x.se) ∧ w'.cell? ⟨w.heap.size + 4, 0, none⟩ = some (.int .u32 y.a) ∧ w'.cell? ⟨w.heap.size + 4, 1, none⟩ = some (.int .i64 y.b) ∧ w'.cell? ⟨w.heap.size + 4, 2, none⟩ = some (.int .u32 y.ho) ∧ w'.cell? ⟨w.heap.size + 4, 3, none⟩ = some (.int .i64 y.pf) ∧ w'.cell? ⟨w.heap.size + 4, 4, none⟩ = some (.int .i64 y.me) ∧ w'.cell? ⟨w.heap.size + 4, 5, none⟩ = some (y.vpa) ∧ w'.cell? ⟨w.heap.size + 4, 6, none⟩ = some (y.vco) ∧ w'.cell? ⟨w.heap.size + 4, 7, none⟩ = some (.int .u32 y.pe) ∧ w'.cell? ⟨w.heap.size + 4, 8, none⟩ = some (.int .u32 y.pi) ∧ w'.cell? ⟨w.heap.size + 4, 9, none⟩ = some (.bool y.ex) ∧ w'.cell? ⟨w.heap.size + 4, 10, none⟩ = some (.int .u32 y.og) ∧ w'.cell? ⟨w.heap.size + 4, 11, none⟩ = some (y.vcl) ∧ w'.cell? ⟨w.heap.size + 4, 12, none⟩ = some (.int .i64 y.se) ∧ w'.cell? ⟨w.heap.size + 5, 0, none⟩ = some (.int .u32 z.a) ∧ w'.cell? ⟨w.heap.size + 5, 1, none⟩ = some (.int .i64 z.b) ∧ w'.cell? ⟨w.heap.size + 5, 2, none⟩ = some (.int .u32 z.ho) ∧ w'.cell? ⟨w.heap.size + 5, 3, none⟩ = some (.int .i64 z.pf) ∧ w'.cell? ⟨w.heap.size + 5, 4, none⟩ = some (.int .i64 z.me) ∧ w'.cell? ⟨w.heap.size + 5, 5, none⟩ = some (z.vpa) ∧ w'.cell? ⟨w.heap.size + 5, 6, none⟩ = some (z.vco) ∧ w'.cell? ⟨w.heap.size + 5, 7, none⟩ = some (.int .u32 z.pe) ∧ w'.cell? ⟨w.heap.size + 5, 8, none⟩ = some (.int .u32 z.pi) ∧ w'.cell? ⟨w.heap.size + 5, 9, none⟩ = some (.bool z.ex) ∧ w'.cell? ⟨w.heap.size + 5, 10, none⟩ = some (.int .u32 z.og) ∧ w'.cell? ⟨w.heap.size + 5, 11, none⟩ = some (z.vcl) ∧ w'.cell? ⟨w.heap.size + 5, 12, none⟩ = some (.int .i64 z.se))) (by kernel_rfl) ?_ (fun hHeld => ?_)
          · exact HX.out _ HW.out.drew
          refine tk1 (i := 0) (oi := { dst := some 57, op := Op.load 32 (Operand.tmp 11), type := 32, pos := "outright.go:27", after := #[], guard := none }) (v := ?v0s4) rfl (by kernel_rfl) (fun _ _ _ h => h) (Or.inl ⟨by rfl, ?hy0s4⟩) (by assumption) ?rest0s4
          case hy0s4 => (intro w hSw; (try dsimp only at hSw); go_simp; try with_reducible rfl)
          try simp only [Act.put, List.setIfInBounds_toArray, List.set_cons_zero, List.set_cons_succ]
          refine tk1 (i := 1) (oi := { dst := some 58, op := Op.load 32 (Operand.tmp 12), type := 32, pos := "outright.go:27", after := #[], guard := none }) (v := ?v1s4) rfl (by kernel_rfl) (fun _ _ _ h => h) (Or.inl ⟨by rfl, ?hy1s4⟩) (by assumption) ?rest1s4
          case hy1s4 => (intro w hSw; (try dsimp only at hSw); go_simp; try with_reducible rfl)
          try simp only [Act.put, List.setIfInBounds_toArray, List.set_cons_zero, List.set_cons_succ]
          refine tk1 (i := 3) (oi := { dst := some 60, op := Op.load 32 (Operand.tmp 12), type := 32, pos := "outright.go:27", after := #[], guard := none }) (v := ?v3s4) rfl (by kernel_rfl) (fun _ _ _ h => h) (Or.inl ⟨by rfl, ?hy3s4⟩) (by assumption) ?rest3s4
          case hy3s4 => (intro w hSw; (try dsimp only at hSw); go_simp; try with_reducible rfl)
          try simp only [Act.put, List.setIfInBounds_toArray, List.set_cons_zero, List.set_cons_succ]
          refine tk1 (i := 4) (oi := { dst := some 61, op := Op.load 32 (Operand.tmp 11), type := 32, pos := "outright.go:27", after := #[], guard := none }) (v := ?v4s4) rfl (by kernel_rfl) (fun _ _ _ h => h) (Or.inl ⟨by rfl, ?hy4s4⟩) (by assumption) ?rest4s4
          case hy4s4 => (intro w hSw; (try dsimp only at hSw); go_simp; try with_reducible rfl)
          try simp only [Act.put, List.setIfInBounds_toArray, List.set_cons_zero, List.set_cons_succ]
          refine wpAnyH_ready (rs := [2]) (by kernel_rfl) (by simp) ?_
          refine AllReadyH.cons (o := { dst := some 59, op := Op.call { callee := Callee.value (Operand.func 6), args := #[Operand.tmp 57, Operand.tmp 58], argTypes := #[32, 32] }, type := 3, pos := "outright.go:27", after := #[{ on := 0, ground := Ground.data }, { on := 1, ground := Ground.data }], guard := none }) rfl (fun K hK => ?_) AllReadyH.nil
          go_simp
          refine (HAB.out _ hHeld.1).mono ?_
          rintro e w4 ⟨rfl, hb4⟩
          replace hb4 := Below.step hHeld.1 hb4
          try go_wp2_with fail
          refine hK.out _ _ (HX.out _ hb4) (fun hHeld => ?_)
          clear hK K
          try simp only [Act.put, List.setIfInBounds_toArray, List.set_cons_zero, List.set_cons_succ]
          refine wpAnyH_ready (rs := [5]) (by kernel_rfl) (by simp) ?_
          refine AllReadyH.cons (o := { dst := some 62, op := Op.call { callee := Callee.value (Operand.func 6), args := #[Operand.tmp 60, Operand.tmp 61], argTypes := #[32, 32] }, type := 3, pos := "outright.go:27", after := #[{ on := 3, ground := Ground.data }, { on := 4, ground := Ground.data }, { on := 2, ground := Ground.chain }], guard := none }) rfl (fun K hK => ?_) AllReadyH.nil
          go_simp
          refine (HBA.out _ hHeld.1).mono ?_
          rintro e w4 ⟨rfl, hb4⟩
          replace hb4 := Below.step hHeld.1 hb4
          try go_wp2_with fail
          refine hK.out _ _ (HX.out _ hb4) (fun hHeld => ?_)
          clear hK K
          try simp only [Act.put, List.setIfInBounds_toArray, List.set_cons_zero, List.set_cons_succ]
          refine tk1 (i := 6) (oi := { dst := some 63, op := Op.unOp UnOp.neg 3 (Operand.tmp 62), type := 3, pos := "outright.go:27", after := #[{ on := 5, ground := Ground.data }], guard := none }) (v := ?v6s4) rfl (by kernel_rfl) (fun _ _ _ h => h) (Or.inl ⟨by rfl, ?hy6s4⟩) (by assumption) ?rest6s4
          case hy6s4 => (intro w hSw; (try dsimp only at hSw); go_simp; try with_reducible rfl)
          try simp only [Act.put, List.setIfInBounds_toArray, List.set_cons_zero, List.set_cons_succ]
          refine tk1 (i := 7) (oi := { dst := some 64, op := Op.binOp BinOp.neq 3 (Operand.tmp 59) (Operand.tmp 63) 3, type := 4, pos := "outright.go:27", after := #[{ on := 2, ground := Ground.data }, { on := 6, ground := Ground.data }], guard := none }) (v := ?v7s4) rfl (by kernel_rfl) (fun _ _ _ h => h) (Or.inl ⟨by rfl, ?hy7s4⟩) (by assumption) ?rest7s4
          case hy7s4 => (intro w hSw; (try dsimp only at hSw); go_simp; try with_reducible rfl)
          try simp only [Act.put, List.setIfInBounds_toArray, List.set_cons_zero, List.set_cons_succ]
          refine tk1 (i := 8) (oi := { dst := some 65, op := Op.move (Operand.tmp 64), type := 4, pos := "outright.go:27", after := #[{ on := 7, ground := Ground.data }, { on := 5, ground := Ground.chain }], guard := none }) (v := ?v8s4) rfl (by kernel_rfl) (fun _ _ _ h => h) (Or.inl ⟨by rfl, ?hy8s4⟩) (by assumption) ?rest8s4
          case hy8s4 => (intro w hSw; (try dsimp only at hSw); go_simp; try with_reducible rfl)
          try simp only [Act.put, List.setIfInBounds_toArray, List.set_cons_zero, List.set_cons_succ]
          refine tk1 (i := 9) (oi := { dst := some 66, op := Op.load 32 (Operand.tmp 11), type := 32, pos := "outright.go:27", after := #[{ on := 8, ground := Ground.guard }], guard := some (8, false) }) (v := ?v9s4) rfl (by kernel_rfl) (fun _ _ _ h => h) (Or.inl ⟨by rfl, ?hy9s4⟩) (by assumption) ?rest9s4
          case hy9s4 => (intro w hSw; (try dsimp only at hSw); go_simp; try with_reducible rfl)
          try simp only [Act.put, List.setIfInBounds_toArray, List.set_cons_zero, List.set_cons_succ]
          refine tk1 (i := 10) (oi := { dst := some 67, op := Op.load 32 (Operand.tmp 11), type := 32, pos := "outright.go:27", after := #[{ on := 8, ground := Ground.guard }], guard := some (8, false) }) (v := ?v10s4) rfl (by kernel_rfl) (fun _ _ _ h => h) (Or.inl ⟨by rfl, ?hy10s4⟩) (by assumption) ?rest10s4
          case hy10s4 => (intro w hSw; (try dsimp only at hSw); go_simp; try with_reducible rfl)
          try simp only [Act.put, List.setIfInBounds_toArray, List.set_cons_zero, List.set_cons_succ]
          refine wpAnyH_ready (rs := [11]) (by kernel_rfl) (by simp) ?_
          refine AllReadyH.cons (o := { dst := some 68, op := Op.call { callee := Callee.value (Operand.func 6), args := #[Operand.tmp 66, Operand.tmp 67], argTypes := #[32, 32] }, type := 3, pos := "outright.go:27", after := #[{ on := 9, ground := Ground.data }, { on := 10, ground := Ground.data }, { on := 8, ground := Ground.chain }, { on := 8, ground := Ground.guard }], guard := some (8, false) }) rfl (fun K hK => ?_) AllReadyH.nil
          go_simp
          refine (HAA.out _ hHeld.1).mono ?_
          rintro e w4 ⟨rfl, hb4⟩
          replace hb4 := Below.step hHeld.1 hb4
          try go_wp2_with fail
          refine hK.out _ _ (HX.out _ hb4) (fun hHeld => ?_)
          clear hK K
          try simp only [Act.put, List.setIfInBounds_toArray, List.set_cons_zero, List.set_cons_succ]
          refine tk1 (i := 12) (oi := { dst := some 69, op := Op.binOp BinOp.neq 3 (Operand.tmp 68) (Operand.const (Go.Value.int Go.IntKind.i64 0)) 3, type := 4, pos := "outright.go:27", after := #[{ on := 11, ground := Ground.data }, { on := 8, ground := Ground.guard }], guard := some (8, false) }) (v := ?v12s4) rfl (by kernel_rfl) (fun _ _ _ h => h) (Or.inl ⟨by rfl, ?hy12s4⟩) (by assumption) ?rest12s4
          case hy12s4 => (intro w hSw; (try dsimp only at hSw); go_simp; try with_reducible rfl)
          try simp only [Act.put, List.setIfInBounds_toArray, List.set_cons_zero, List.set_cons_succ]
          refine tk1 (i := 13) (oi := { dst := some 70, op := Op.pick (Operand.tmp 65) (Operand.const (Go.Value.bool true)) (Operand.tmp 69), type := 4, pos := "outright.go:27", after := #[{ on := 8, ground := Ground.data }, { on := 12, ground := Ground.data }], guard := none }) (v := ?v13s4) rfl (by kernel_rfl) (fun _ _ _ h => h) (Or.inl ⟨by rfl, ?hy13s4⟩) (by assumption) ?rest13s4
          case hy13s4 => (intro w hSw; (try dsimp only at hSw); go_simp; try with_reducible rfl)
          try simp only [Act.put, List.setIfInBounds_toArray, List.set_cons_zero, List.set_cons_succ]
          refine tk1 (i := 14) (oi := { dst := some 71, op := Op.move (Operand.tmp 70), type := 4, pos := "outright.go:27", after := #[{ on := 13, ground := Ground.data }, { on := 11, ground := Ground.chain }], guard := none }) (v := ?v14s4) rfl (by kernel_rfl) (fun _ _ _ h => h) (Or.inl ⟨by rfl, ?hy14s4⟩) (by assumption) ?rest14s4
          case hy14s4 => (intro w hSw; (try dsimp only at hSw); go_simp; try with_reducible rfl)
          try simp only [Act.put, List.setIfInBounds_toArray, List.set_cons_zero, List.set_cons_succ]
          refine tk1 (i := 15) (oi := { dst := some 72, op := Op.load 32 (Operand.tmp 11), type := 32, pos := "outright.go:27", after := #[{ on := 14, ground := Ground.guard }], guard := some (14, false) }) (v := ?v15s4) rfl (by kernel_rfl) (fun _ _ _ h => h) (Or.inl ⟨by rfl, ?hy15s4⟩) (by assumption) ?rest15s4
          case hy15s4 => (intro w hSw; (try dsimp only at hSw); go_simp; try with_reducible rfl)
          try simp only [Act.put, List.setIfInBounds_toArray, List.set_cons_zero, List.set_cons_succ]
          refine tk1 (i := 16) (oi := { dst := some 73, op := Op.load 32 (Operand.tmp 12), type := 32, pos := "outright.go:27", after := #[{ on := 14, ground := Ground.guard }], guard := some (14, false) }) (v := ?v16s4) rfl (by kernel_rfl) (fun _ _ _ h => h) (Or.inl ⟨by rfl, ?hy16s4⟩) (by assumption) ?rest16s4
          case hy16s4 => (intro w hSw; (try dsimp only at hSw); go_simp; try with_reducible rfl)
          try simp only [Act.put, List.setIfInBounds_toArray, List.set_cons_zero, List.set_cons_succ]
          refine wpAnyH_ready (rs := [17]) (by kernel_rfl) (by simp) ?_
          refine AllReadyH.cons (o := { dst := some 74, op := Op.call { callee := Callee.value (Operand.func 6), args := #[Operand.tmp 72, Operand.tmp 73], argTypes := #[32, 32] }, type := 3, pos := "outright.go:27", after := #[{ on := 15, ground := Ground.data }, { on := 16, ground := Ground.data }, { on := 14, ground := Ground.chain }, { on := 14, ground := Ground.guard }], guard := some (14, false) }) rfl (fun K hK => ?_) AllReadyH.nil
          go_simp
          refine (HAB.out _ hHeld.1).mono ?_
          rintro e w4 ⟨rfl, hb4⟩
          replace hb4 := Below.step hHeld.1 hb4
          try go_wp2_with fail
          refine hK.out _ _ (HX.out _ hb4) (fun hHeld => ?_)
          clear hK K
          try simp only [Act.put, List.setIfInBounds_toArray, List.set_cons_zero, List.set_cons_succ]
          refine tk1 (i := 18) (oi := { dst := some 75, op := Op.binOp BinOp.lss 3 (Operand.tmp 74) (Operand.const (Go.Value.int Go.IntKind.i64 0)) 3, type := 4, pos := "outright.go:27", after := #[{ on := 17, ground := Ground.data }, { on := 14, ground := Ground.guard }], guard := some (14, false) }) (v := ?v18s4) rfl (by kernel_rfl) (fun _ _ _ h => h) (Or.inl ⟨by rfl, ?hy18s4⟩) (by assumption) ?rest18s4
          case hy18s4 => (intro w hSw; (try dsimp only at hSw); go_simp; try with_reducible rfl)
          try simp only [Act.put, List.setIfInBounds_toArray, List.set_cons_zero, List.set_cons_succ]
          refine tk1 (i := 19) (oi := { dst := some 76, op := Op.move (Operand.tmp 75), type := 4, pos := "outright.go:27", after := #[{ on := 18, ground := Ground.data }, { on := 17, ground := Ground.chain }, { on := 14, ground := Ground.guard }], guard := some (14, false) }) (v := ?v19s4) rfl (by kernel_rfl) (fun _ _ _ h => h) (Or.inl ⟨by rfl, ?hy19s4⟩) (by assumption) ?rest19s4
          case hy19s4 => (intro w hSw; (try dsimp only at hSw); go_simp; try with_reducible rfl)
          try simp only [Act.put, List.setIfInBounds_toArray, List.set_cons_zero, List.set_cons_succ]
          refine tk1 (i := 20) (oi := { dst := some 77, op := Op.load 32 (Operand.tmp 12), type := 32, pos := "outright.go:27", after := #[{ on := 19, ground := Ground.guard }], guard := some (19, true) }) (v := ?v20s4) rfl (by kernel_rfl) (fun _ _ _ h => h) (Or.inl ⟨by rfl, ?hy20s4⟩) (by assumption) ?rest20s4
          case hy20s4 => (intro w hSw; (try dsimp only at hSw); go_simp; try with_reducible rfl)
          try simp only [Act.put, List.setIfInBounds_toArray, List.set_cons_zero, List.set_cons_succ]
          refine tk1 (i := 21) (oi := { dst := some 78, op := Op.load 32 (Operand.tmp 13), type := 32, pos := "outright.go:27", after := #[{ on := 19, ground := Ground.guard }], guard := some (19, true) }) (v := ?v21s4) rfl (by kernel_rfl) (fun _ _ _ h => h) (Or.inl ⟨by rfl, ?hy21s4⟩) (by assumption) ?rest21s4
          case hy21s4 => (intro w hSw; (try dsimp only at hSw); go_simp; try with_reducible rfl)
          try simp only [Act.put, List.setIfInBounds_toArray, List.set_cons_zero, List.set_cons_succ]
          refine wpAnyH_ready (rs := [22]) (by kernel_rfl) (by simp) ?_
          refine AllReadyH.cons (o := { dst := some 79, op := Op.call { callee := Callee.value (Operand.func 6), args := #[Operand.tmp 77, Operand.tmp 78], argTypes := #[32, 32] }, type := 3, pos := "outright.go:27", after := #[{ on := 20, ground := Ground.data }, { on := 21, ground := Ground.data }, { on := 19, ground := Ground.chain }, { on := 19, ground := Ground.guard }], guard := some (19, true) }) rfl (fun K hK => ?_) AllReadyH.nil
          go_simp
          refine (HBC.out _ hHeld.1).mono ?_
          rintro e w4 ⟨rfl, hb4⟩
          replace hb4 := Below.step hHeld.1 hb4
          try go_wp2_with fail
          refine hK.out _ _ (HX.out _ hb4) (fun hHeld => ?_)
          clear hK K
          try simp only [Act.put, List.setIfInBounds_toArray, List.set_cons_zero, List.set_cons_succ]
          refine tk1 (i := 23) (oi := { dst := some 80, op := Op.binOp BinOp.lss 3 (Operand.tmp 79) (Operand.const (Go.Value.int Go.IntKind.i64 0)) 3, type := 4, pos := "outright.go:27", after := #[{ on := 22, ground := Ground.data }, { on := 19, ground := Ground.guard }], guard := some (19, true) }) (v := ?v23s4) rfl (by kernel_rfl) (fun _ _ _ h => h) (Or.inl ⟨by rfl, ?hy23s4⟩) (by assumption) ?rest23s4
          case hy23s4 => (intro w hSw; (try dsimp only at hSw); go_simp; try with_reducible rfl)
          try simp only [Act.put, List.setIfInBounds_toArray, List.set_cons_zero, List.set_cons_succ]
          refine tk1 (i := 24) (oi := { dst := some 81, op := Op.pick (Operand.tmp 76) (Operand.tmp 80) (Operand.const (Go.Value.bool false)), type := 4, pos := "outright.go:27", after := #[{ on := 19, ground := Ground.data }, { on := 23, ground := Ground.data }, { on := 14, ground := Ground.guard }], guard := some (14, false) }) (v := ?v24s4) rfl (by kernel_rfl) (fun _ _ _ h => h) (Or.inl ⟨by rfl, ?hy24s4⟩) (by assumption) ?rest24s4
          case hy24s4 => (intro w hSw; (try dsimp only at hSw); go_simp; try with_reducible rfl)
          try simp only [Act.put, List.setIfInBounds_toArray, List.set_cons_zero, List.set_cons_succ]
          refine tk1 (i := 25) (oi := { dst := some 82, op := Op.move (Operand.tmp 81), type := 4, pos := "outright.go:27", after := #[{ on := 24, ground := Ground.data }, { on := 22, ground := Ground.chain }, { on := 14, ground := Ground.guard }], guard := some (14, false) }) (v := ?v25s4) rfl (by kernel_rfl) (fun _ _ _ h => h) (Or.inl ⟨by rfl, ?hy25s4⟩) (by assumption) ?rest25s4
          case hy25s4 => (intro w hSw; (try dsimp only at hSw); go_simp; try with_reducible rfl)
          try simp only [Act.put, List.setIfInBounds_toArray, List.set_cons_zero, List.set_cons_succ]
          refine tk1 (i := 26) (oi := { dst := some 83, op := Op.load 32 (Operand.tmp 11), type := 32, pos := "outright.go:27", after := #[{ on := 25, ground := Ground.guard }], guard := some (25, true) }) (v := ?v26s4) rfl (by kernel_rfl) (fun _ _ _ h => h) (Or.inl ⟨by rfl, ?hy26s4⟩) (by assumption) ?rest26s4
          case hy26s4 => (intro w hSw; (try dsimp only at hSw); go_simp; try with_reducible rfl)
          try simp only [Act.put, List.setIfInBounds_toArray, List.set_cons_zero, List.set_cons_succ]
          refine tk1 (i := 27) (oi := { dst := some 84, op := Op.load 32 (Operand.tmp 13), type := 32, pos := "outright.go:27", after := #[{ on := 25, ground := Ground.guard }], guard := some (25, true) }) (v := ?v27s4) rfl (by kernel_rfl) (fun _ _ _ h => h) (Or.inl ⟨by rfl, ?hy27s4⟩) (by assumption) ?rest27s4
          case hy27s4 => (intro w hSw; (try dsimp only at hSw); go_simp; try with_reducible rfl)
          try simp only [Act.put, List.setIfInBounds_toArray, List.set_cons_zero, List.set_cons_succ]
          refine wpAnyH_ready (rs := [28]) (by kernel_rfl) (by simp) ?_
          refine AllReadyH.cons (o := { dst := some 85, op := Op.call { callee := Callee.value (Operand.func 6), args := #[Operand.tmp 83, Operand.tmp 84], argTypes := #[32, 32] }, type := 3, pos := "outright.go:27", after := #[{ on := 26, ground := Ground.data }, { on := 27, ground := Ground.data }, { on := 25, ground := Ground.chain }, { on := 25, ground := Ground.guard }], guard := some (25, true) }) rfl (fun K hK => ?_) AllReadyH.nil
          go_simp
          refine (HAC.out _ hHeld.1).mono ?_
          rintro e w4 ⟨rfl, hb4⟩
          replace hb4 := Below.step hHeld.1 hb4
          try go_wp2_with fail
          refine hK.out _ _ (HX.out _ hb4) (fun hHeld => ?_)
          clear hK K
          try simp only [Act.put, List.setIfInBounds_toArray, List.set_cons_zero, List.set_cons_succ]
          refine tk1 (i := 29) (oi := { dst := some 86, op := Op.binOp BinOp.geq 3 (Operand.tmp 85) (Operand.const (Go.Value.int Go.IntKind.i64 0)) 3, type := 4, pos := "outright.go:27", after := #[{ on := 28, ground := Ground.data }, { on := 25, ground := Ground.guard }], guard := some (25, true) }) (v := ?v29s4) rfl (by kernel_rfl) (fun _ _ _ h => h) (Or.inl ⟨by rfl, ?hy29s4⟩) (by assumption) ?rest29s4
          case hy29s4 => (intro w hSw; (try dsimp only at hSw); go_simp; try with_reducible rfl)
          try simp only [Act.put, List.setIfInBounds_toArray, List.set_cons_zero, List.set_cons_succ]
          refine tk1 (i := 30) (oi := { dst := some 87, op := Op.pick (Operand.tmp 82) (Operand.tmp 86) (Operand.const (Go.Value.bool false)), type := 4, pos := "outright.go:27", after := #[{ on := 25, ground := Ground.data }, { on := 29, ground := Ground.data }, { on := 14, ground := Ground.guard }], guard := some (14, false) }) (v := ?v30s4) rfl (by kernel_rfl) (fun _ _ _ h => h) (Or.inl ⟨by rfl, ?hy30s4⟩) (by assumption) ?rest30s4
          case hy30s4 => (intro w hSw; (try dsimp only at hSw); go_simp; try with_reducible rfl)
          try simp only [Act.put, List.setIfInBounds_toArray, List.set_cons_zero, List.set_cons_succ]
          refine tk1 (i := 31) (oi := { dst := some 88, op := Op.pick (Operand.tmp 71) (Operand.const (Go.Value.bool true)) (Operand.tmp 87), type := 4, pos := "outright.go:27", after := #[{ on := 14, ground := Ground.data }, { on := 30, ground := Ground.data }], guard := none }) (v := ?v31s4) rfl (by kernel_rfl) (fun _ _ _ h => h) (Or.inl ⟨by rfl, ?hy31s4⟩) (by assumption) ?rest31s4
          case hy31s4 => (intro w hSw; (try dsimp only at hSw); go_simp; try with_reducible rfl)
          try simp only [Act.put, List.setIfInBounds_toArray, List.set_cons_zero, List.set_cons_succ]
          refine wpAnyH_done (by kernel_rfl) ?_ _
          try go_wp2_with fail
          try go_meet
          exact ⟨rfl, rfl, Lib.hid hHeld.1⟩
    case rest =>
    obtain ⟨rfl, rfl, HW5⟩ := hcut
    clear HW HX HRD HRX HK
    go_upto_region 7 with fail
    go_cut [3] (fun s3 wx => ∃ nl : Nat, s3 = .slice p0 nl c0 ∧ nl ≤ 100 ∧ nl ≤ l0.length ∧ Hid (Below w1.heap.size w1 wx))
    case first =>
      have e2 : (l0.length : Int) ≤ (c0 : Int) := by omega
      go_wp2_with fail
      try go_meet
      exact ⟨_, rfl, by omega, by omega, HW5⟩
    case rest =>
    obtain ⟨nl, rfl, q1, q2, HW7⟩ := hcut
    obtain ⟨l, hl⟩ : ∃ l, l0.take nl = l := ⟨_, rfl⟩
    have hln : nl = l.length := by rw [← hl, List.length_take]; omega
    have HLR : Hid (∀ W, Below w1.heap.size w1 W → RdK encRt 9 W (.slice p0 nl c0) l) := Lib.hid fun W hb => by
      have := (HL.out.take q2).below (Below.step HBZ.out (Below.step HB1.out hb))
      rwa [hl] at this
    subst hln
    clear hl q2 HL hm0 hc0 HW5 HT HS
    have e0 : IntKind.i64.wrap ((l.length : Int) - 1) = (l.length : Int) - 1 := IntWalk.i64_in _ ⟨by omega, by omega⟩
    go_wp2_with fail
    clear e0
    go_loopw [15, 16] (fun sv si wr => ∃ (k : Nat) (L : List RtD) (pl : Option Addr) (nn cc : Nat), k ≤ l.length ∧ si = .int .i64 ((k : Int) - 1) ∧ sv = .slice pl nn cc ∧ nn = L.length ∧ Hid (Below w1.heap.size w1 wr ∧ OwnR w1.heap.size wr (.slice pl nn cc) L ∧ L.length = 2 * (l.length - k) ∧ (∀ s ∈ L, s ∈ l) ∧ ∀ j s, k ≤ j → l[j]? = some s → s ∈ L)) (fun _ si _ => ((intOf si) + 1).toNat)
    case atStart => exact ⟨l.length, [], none, 0, 0, Nat.le_refl _, rfl, rfl, rfl, Lib.hid ⟨HW7.out, World.ownsRow_nil _ _ _ _, by simp, by simp, fun j s hj hs => by have := (List.getElem?_eq_some_iff.1 hs).1; omega⟩⟩
    case round =>
      obtain ⟨k, L, pl, nn, cc, hk, rfl, rfl, hnn, HI⟩ := hrel
      subst hnn
      by_cases hk0 : 0 < k
      · obtain ⟨i, rfl⟩ : ∃ i, k = i + 1 := ⟨k - 1, by omega⟩
        have ei : (((i + 1 : Nat) : Int) - 1) = (i : Int) := by omega
        rw [ei]
        clear ei hk0
        have i0 : (0 : Int) ≤ (i : Int) := by omega
        have hlt : (i : Int) < (l.length : Int) := by omega
        have hn0 : ¬ l = [] := by rintro rfl; simp at hlt; omega
        have e5 : IntKind.i64.wrap ((i : Int) * 5) = (i : Int) * 5 := IntWalk.i64_in _ ⟨by omega, by omega⟩
        obtain ⟨j, hj⟩ : ∃ j, i * 5 % l.length = j := ⟨_, rfl⟩
        have hjl : j < l.length := by rw [← hj]; exact Nat.mod_lt _ (by omega)
        have er : Int.tmod ((i : Int) * 5) (l.length : Int) = (j : Int) := by
          rw [Int.tmod_eq_emod_of_nonneg (by omega), ← hj]; simp
        have ew : IntKind.i64.wrap (j : Int) = (j : Int) := IntWalk.i64_in _ ⟨by omega, by omega⟩
        have j0 : (0 : Int) ≤ (j : Int) := by omega
        have jlt : (j : Int) < (l.length : Int) := by omega
        obtain ⟨rx, hrx⟩ : ∃ s, l[i]? = some s := ⟨_, List.getElem?_eq_getElem (by omega)⟩
        obtain ⟨ry, hry⟩ : ∃ s, l[j]? = some s := ⟨_, List.getElem?_eq_getElem hjl⟩
        obtain ⟨bx, ox, ex, hbx, hcx⟩ := rdk_at (HLR.out w1 (Below.refl _ _)) hrx
        obtain ⟨by', oy, ey, hby, hcy⟩ := rdk_at (HLR.out w1 (Below.refl _ _)) hry
        obtain ⟨rfl, rfl⟩ : bx = by' ∧ ox = oy := by rw [ex] at ey; simpa using ey
        subst ex
        clear ey hby
        have HX : Hid (∀ W, Below w1.heap.size w1 W → Below w1.heap.size w1 W ∧ (W.cell? ⟨bx, ox + i * 9, none⟩ = some (.int .u32 rx.a) ∧ W.cell? ⟨bx, ox + i * 9 + 1, none⟩ = some (.int .i64 rx.b) ∧ W.cell? ⟨bx, ox + i * 9 + 2, none⟩ = some (.int .u8 rx.fr) ∧ W.cell? ⟨bx, ox + i * 9 + 3, none⟩ = some (.int .i64 rx.di) ∧ W.cell? ⟨bx, ox + i * 9 + 4, none⟩ = some (.int .i64 rx.me) ∧ W.cell? ⟨bx, ox + i * 9 + 5, none⟩ = some (.int .i64 rx.ta) ∧ W.cell? ⟨bx, ox + i * 9 + 6, none⟩ = some (.string rx.nm) ∧ W.cell? ⟨bx, ox + i * 9 + 7, none⟩ = some (.int .u32 rx.ho) ∧ W.cell? ⟨bx, ox + i * 9 + 8, none⟩ = some (.bool rx.dc)) ∧ W.cell? ⟨bx, ox + j * 9, none⟩ = some (.int .u32 ry.a) ∧ W.cell? ⟨bx, ox + j * 9 + 1, none⟩ = some (.int .i64 ry.b) ∧ W.cell? ⟨bx, ox + j * 9 + 2, none⟩ = some (.int .u8 ry.fr) ∧ W.cell? ⟨bx, ox + j * 9 + 3, none⟩ = some (.int .i64 ry.di) ∧ W.cell? ⟨bx, ox + j * 9 + 4, none⟩ = some (.int .i64 ry.me) ∧ W.cell? ⟨bx, ox + j * 9 + 5, none⟩ = some (.int .i64 ry.ta) ∧ W.cell? ⟨bx, ox + j * 9 + 6, none⟩ = some (.string ry.nm) ∧ W.cell? ⟨bx, ox + j * 9 + 7, none⟩ = some (.int .u32 ry.ho) ∧ W.cell? ⟨bx, ox + j * 9 + 8, none⟩ = some (.bool ry.dc)) := Lib.hid fun W hb => ⟨hb, ⟨hcx W hb 0 _ rfl, hcx W hb 1 _ rfl, hcx W hb 2 _ rfl, hcx W hb 3 _ rfl, hcx W hb 4 _ rfl, hcx W hb 5 _ rfl, hcx W hb 6 _ rfl, hcx W hb 7 _ rfl, hcx W hb 8 _ rfl⟩, hcy W hb 0 _ rfl, hcy W hb 1 _ rfl, hcy W hb 2 _ rfl, hcy W hb 3 _ rfl, hcy W hb 4 _ rfl, hcy W hb 5 _ rfl, hcy W hb 6 _ rfl, hcy W hb 7 _ rfl, hcy W hb 8 _ rfl⟩
        have HM := Lib.hid (And.intro (List.mem_of_getElem? hrx) (List.mem_of_getElem? hry))
        have HRX := Lib.hid hrx
        clear hcx hcy hrx hry hj hjl
        go_wp2_with fail
        refine wp_region_held_drew (S := (fun w' => Below w1.heap.size w1 w' ∧ (w'.cell? ⟨bx, ox + i * 9, none⟩ = some (.int .u32 rx.a) ∧ w'.cell? ⟨bx, ox + i * 9 + 1, none⟩ = some (.int .i64 rx.b) ∧ w'.cell? ⟨bx, ox + i * 9 + 2, none⟩ = some (.int .u8 rx.fr) ∧ w'.cell? ⟨bx, ox + i * 9 + 3, none⟩ = some (.int .i64 rx.di) ∧ w'.cell? ⟨bx, ox + i * 9 + 4, none⟩ = some (.int .i64 rx.me) ∧ w'.cell? ⟨bx, ox + i * 9 + 5, none⟩ = some (.int .i64 rx.ta) ∧ w'.cell? ⟨bx, ox + i * 9 + 6, none⟩ = some (.string rx.nm) ∧ w'.cell? ⟨bx, ox + i * 9 + 7, none⟩ = some (.int .u32 rx.ho) ∧ w'.cell? ⟨bx, ox + i * 9 + 8, none⟩ = some (.bool rx.dc)) ∧ w'.cell? ⟨bx, ox + j * 9, none⟩ = some (.int .u32 ry.a) ∧ w'.cell? ⟨bx, ox + j * 9 + 1, none⟩ = some (.int .i64 ry.b) ∧ w'.cell? ⟨bx, ox + j * 9 + 2, none⟩ = some (.int .u8 ry.fr) ∧ w'.cell? ⟨bx, ox + j * 9 + 3, none⟩ = some (.int .i64 ry.di) ∧ w'.cell? ⟨bx, ox + j * 9 + 4, none⟩ = some (.int .i64 ry.me) ∧ w'.cell? ⟨bx, ox + j * 9 + 5, none⟩ = some (.int .i64 ry.ta) ∧ w'.cell? ⟨bx, ox + j * 9 + 6, none⟩ = some (.string ry.nm) ∧ w'.cell? ⟨bx, ox + j * 9 + 7, none⟩ = some (.int .u32 ry.ho) ∧ w'.cell? ⟨bx, ox + j * 9 + 8, none⟩ = some (.bool ry.dc))) (by kernel_rfl) ?_ (fun hHeld => ?_)
        · exact HX.out _ HI.out.1.drew
        refine tk1 (i := 0) (oi := { dst := some 101, op := Op.move (Operand.tmp 15), type := 28, pos := "outright.go:33", after := #[], guard := none }) (v := ?v0t) rfl (by kernel_rfl) (fun _ _ _ h => h) (Or.inl ⟨by rfl, ?hy0t⟩) (by assumption) ?rest0t
        case hy0t => (intro w hSw; (try dsimp only at hSw); go_simp; try with_reducible rfl)
        try simp only [Act.put, List.setIfInBounds_toArray, List.set_cons_zero, List.set_cons_succ]
        refine tk1 (i := 1) (oi := { dst := some 102, op := Op.move (Operand.tmp 3), type := 28, pos := "outright.go:33", after := #[], guard := none }) (v := ?v1t) rfl (by kernel_rfl) (fun _ _ _ h => h) (Or.inl ⟨by rfl, ?hy1t⟩) (by assumption) ?rest1t
        case hy1t => (intro w hSw; (try dsimp only at hSw); go_simp; try with_reducible rfl)
        try simp only [Act.put, List.setIfInBounds_toArray, List.set_cons_zero, List.set_cons_succ]
        refine tk1 (i := 2) (oi := { dst := some 103, op := Op.move (Operand.tmp 16), type := 3, pos := "outright.go:33", after := #[], guard := none }) (v := ?v2t) rfl (by kernel_rfl) (fun _ _ _ h => h) (Or.inl ⟨by rfl, ?hy2t⟩) (by assumption) ?rest2t
        case hy2t => (intro w hSw; (try dsimp only at hSw); go_simp; try with_reducible rfl)
        try simp only [Act.put, List.setIfInBounds_toArray, List.set_cons_zero, List.set_cons_succ]
        refine tk1 (i := 3) (oi := { dst := some 104, op := Op.indexAddr 28 (Operand.tmp 102) (Operand.tmp 103), type := 0, pos := "outright.go:33", after := #[{ on := 1, ground := Ground.data }, { on := 2, ground := Ground.data }], guard := none }) (v := ?v3t) rfl (by kernel_rfl) (fun _ _ _ h => h) (Or.inl ⟨by rfl, ?hy3t⟩) (by assumption) ?rest3t
        case hy3t => (intro w hSw; (try dsimp only at hSw); go_simp; try with_reducible rfl)
        try simp only [Act.put, List.setIfInBounds_toArray, List.set_cons_zero, List.set_cons_succ]
        refine tk1 (i := 4) (oi := { dst := some 105, op := Op.load 27 (Operand.tmp 104), type := 27, pos := "outright.go:33", after := #[{ on := 3, ground := Ground.data }], guard := none }) (v := ?v4t) rfl (by kernel_rfl) (fun _ _ _ h => h) (Or.inl ⟨by rfl, ?hy4t⟩) (by assumption) ?rest4t
        case hy4t => (intro w hSw; (try dsimp only at hSw); go_simp; try with_reducible rfl)
        try simp only [Act.put, List.setIfInBounds_toArray, List.set_cons_zero, List.set_cons_succ]
        refine tk1 (i := 5) (oi := { dst := some 106, op := Op.move (Operand.tmp 3), type := 28, pos := "outright.go:33", after := #[], guard := none }) (v := ?v5t) rfl (by kernel_rfl) (fun _ _ _ h => h) (Or.inl ⟨by rfl, ?hy5t⟩) (by assumption) ?rest5t
        case hy5t => (intro w hSw; (try dsimp only at hSw); go_simp; try with_reducible rfl)
        try simp only [Act.put, List.setIfInBounds_toArray, List.set_cons_zero, List.set_cons_succ]
        refine tk1 (i := 6) (oi := { dst := some 107, op := Op.move (Operand.tmp 16), type := 3, pos := "outright.go:33", after := #[], guard := none }) (v := ?v6t) rfl (by kernel_rfl) (fun _ _ _ h => h) (Or.inl ⟨by rfl, ?hy6t⟩) (by assumption) ?rest6t
        case hy6t => (intro w hSw; (try dsimp only at hSw); go_simp; try with_reducible rfl)
        try simp only [Act.put, List.setIfInBounds_toArray, List.set_cons_zero, List.set_cons_succ]
        refine tk1 (i := 7) (oi := { dst := some 108, op := Op.binOp BinOp.mul 3 (Operand.tmp 107) (Operand.const (Go.Value.int Go.IntKind.i64 5)) 3, type := 3, pos := "outright.go:33", after := #[{ on := 6, ground := Ground.data }], guard := none }) (v := ?v7t) rfl (by kernel_rfl) (fun _ _ _ h => h) (Or.inl ⟨by rfl, ?hy7t⟩) (by assumption) ?rest7t
        case hy7t => (intro w hSw; (try dsimp only at hSw); go_simp; try with_reducible rfl)
        try simp only [Act.put, List.setIfInBounds_toArray, List.set_cons_zero, List.set_cons_succ]
        refine tk1 (i := 8) (oi := { dst := some 109, op := Op.move (Operand.tmp 3), type := 28, pos := "outright.go:33", after := #[], guard := none }) (v := ?v8t) rfl (by kernel_rfl) (fun _ _ _ h => h) (Or.inl ⟨by rfl, ?hy8t⟩) (by assumption) ?rest8t
        case hy8t => (intro w hSw; (try dsimp only at hSw); go_simp; try with_reducible rfl)
        try simp only [Act.put, List.setIfInBounds_toArray, List.set_cons_zero, List.set_cons_succ]
        refine tk1 (i := 9) (oi := { dst := some 110, op := Op.call { callee := Callee.builtin Builtin.len, args := #[Operand.tmp 109], argTypes := #[28] }, type := 3, pos := "outright.go:33", after := #[{ on := 8, ground := Ground.data }], guard := none }) (v := ?v9t) rfl (by kernel_rfl) (fun _ _ _ h => h) (Or.inl ⟨by rfl, ?hy9t⟩) (by assumption) ?rest9t
        case hy9t => (intro w hSw; (try dsimp only at hSw); go_simp; try with_reducible rfl)
        try simp only [Act.put, List.setIfInBounds_toArray, List.set_cons_zero, List.set_cons_succ]
        refine tk1 (i := 10) (oi := { dst := some 111, op := Op.binOp BinOp.rem 3 (Operand.tmp 108) (Operand.tmp 110) 3, type := 3, pos := "outright.go:33", after := #[{ on := 7, ground := Ground.data }, { on := 9, ground := Ground.data }], guard := none }) (v := ?v10t) rfl (by kernel_rfl) (fun _ _ _ h => h) (Or.inl ⟨by rfl, ?hy10t⟩) (by assumption) ?rest10t
        case hy10t => (intro w hSw; (try dsimp only at hSw); go_simp; try with_reducible rfl)
        try simp only [Act.put, List.setIfInBounds_toArray, List.set_cons_zero, List.set_cons_succ]
        refine tk1 (i := 11) (oi := { dst := some 112, op := Op.indexAddr 28 (Operand.tmp 106) (Operand.tmp 111), type := 0, pos := "outright.go:33", after := #[{ on := 5, ground := Ground.data }, { on := 10, ground := Ground.data }], guard := none }) (v := ?v11t) rfl (by kernel_rfl) (fun _ _ _ h => h) (Or.inl ⟨by rfl, ?hy11t⟩) (by assumption) ?rest11t
        case hy11t => (intro w hSw; (try dsimp only at hSw); go_simp; try with_reducible rfl)
        try simp only [Act.put, List.setIfInBounds_toArray, List.set_cons_zero, List.set_cons_succ]
        refine tk1 (i := 12) (oi := { dst := some 113, op := Op.load 27 (Operand.tmp 112), type := 27, pos := "outright.go:33", after := #[{ on := 11, ground := Ground.data }], guard := none }) (v := ?v12t) rfl (by kernel_rfl) (fun _ _ _ h => h) (Or.inl ⟨by rfl, ?hy12t⟩) (by assumption) ?rest12t
        case hy12t => (intro w hSw; (try dsimp only at hSw); go_simp; try with_reducible rfl)
        try simp only [Act.put, List.setIfInBounds_toArray, List.set_cons_zero, List.set_cons_succ]
        refine wpAnyH_ready (rs := [13]) (by kernel_rfl) (by simp) ?_
        refine AllReadyH.cons (o := { dst := some 114, op := Op.buildSlice 28 2 #[(0, Operand.tmp 105), (1, Operand.tmp 113)], type := 28, pos := "outright.go:33", after := #[{ on := 4, ground := Ground.data }, { on := 12, ground := Ground.data }], guard := none }) rfl (fun K hK => ?_) AllReadyH.nil
        go_simp
        refine hK.out _ _ (HX.out _ (hHeld.1.alloc hHeld.1.size _)) (fun hHeld => ?_)
        clear hK K
        try simp only [Act.put, List.setIfInBounds_toArray, List.set_cons_zero, List.set_cons_succ]
        refine wpAnyH_ready (rs := [14]) (by kernel_rfl) (by simp) ?_
        refine AllReadyH.cons (o := { dst := some 115, op := Op.call { callee := Callee.builtin Builtin.append, args := #[Operand.tmp 101, Operand.tmp 114], argTypes := #[28, 28] }, type := 28, pos := "outright.go:33", after := #[{ on := 0, ground := Ground.data }, { on := 13, ground := Ground.data }], guard := none }) rfl (fun K hK => ?_) AllReadyH.nil
        refine step_append_rdk (enc := encRt) encRt_len (by decide) encRt_one rfl _ _ 28 27 rfl zR 72 Tryz.underlying28 rfl infoA w1.heap.size (.slice pl L.length cc) L.length (flatK encRt L) rfl (OwnR.below HI.out.2.1 ((Below.refl wr.heap.size wr).drew.alloc (Nat.le_refl _) _)) _ [rx, ry] rfl (two_new _ rx ry) (by have := HI.out.2.2.1; unfold maxLen; simp; omega) (by have := HI.out.2.2.1; simp; omega) hHeld.1.size ?_
        intro v9 w9 hown9 hgr9 hor9
        have HO9 := Lib.hid (app2 (OwnR.below HI.out.2.1 ((Below.refl wr.heap.size wr).drew.alloc (Nat.le_refl _) _)) hHeld.1 hHeld.1.size hown9 hgr9)
        clear hown9 hgr9 hor9
        obtain ⟨p9, c9, hv9⟩ := own_open HO9.out.1
        subst hv9
        refine hK.out _ _ (HX.out _ HO9.out.2) (fun hHeld => ?_)
        clear hK K
        try simp only [Act.put, List.setIfInBounds_toArray, List.set_cons_zero, List.set_cons_succ]
        refine tk1 (i := 15) (oi := { dst := some 15, op := Op.assign (Operand.tmp 115), type := 28, pos := "outright.go:33", after := #[{ on := 14, ground := Ground.data }, { on := 14, ground := Ground.chain }, { on := 0, ground := Ground.phase }, { on := 1, ground := Ground.phase }, { on := 2, ground := Ground.phase }, { on := 3, ground := Ground.phase }, { on := 4, ground := Ground.phase }, { on := 5, ground := Ground.phase }, { on := 6, ground := Ground.phase }, { on := 7, ground := Ground.phase }, { on := 8, ground := Ground.phase }, { on := 9, ground := Ground.phase }, { on := 10, ground := Ground.phase }, { on := 11, ground := Ground.phase }, { on := 12, ground := Ground.phase }, { on := 13, ground := Ground.phase }, { on := 14, ground := Ground.phase }], guard := none }) (v := ?v15t) rfl (by kernel_rfl) (fun _ _ _ h => h) (Or.inl ⟨by rfl, ?hy15t⟩) (by assumption) ?rest15t
        case hy15t => (intro w hSw; (try dsimp only at hSw); go_simp; try with_reducible rfl)
        try simp only [Act.put, List.setIfInBounds_toArray, List.set_cons_zero, List.set_cons_succ]
        refine wpAnyH_done (by kernel_rfl) ?_ _
        have e6 : IntKind.i64.wrap ((i : Int) - 1) = (i : Int) - 1 := IntWalk.i64_in _ ⟨by omega, by omega⟩
        try go_wp2_with fail
        go_roundw
        case rel =>
          refine ⟨i, L ++ [rx, ry], p9, _, c9, by omega, by first | rfl | go_num, by first | rfl | simp, rfl, Lib.hid ⟨HO9.out.2, HO9.out.1, ?_, ?_, ?_⟩⟩
          · have := HI.out.2.2.1; simp; omega
          · intro s hs
            rcases List.mem_append.1 hs with h | h
            · exact HI.out.2.2.2.1 s h
            · simp at h; rcases h with rfl | rfl
              · exact HM.out.1
              · exact HM.out.2
          · intro m s hm hs
            by_cases e : m = i
            · subst e
              rw [HRX.out] at hs
              simp only [Option.some.injEq] at hs
              subst hs; simp
            · exact List.mem_append.2 (.inl (HI.out.2.2.2.2 m s (by omega) hs))
        case measure => simp [intOf] <;> omega
      · obtain rfl : k = 0 := by omega
        have ei : (((0 : Nat) : Int) - 1) = -1 := by omega
        rw [ei]
        clear ei hk0 hk
        have HSL : Hid (∀ s, s ∈ l ↔ s ∈ L) := Lib.hid fun s => ⟨fun h => by
          obtain ⟨m, hm⟩ := List.mem_iff_getElem?.1 h
          exact HI.out.2.2.2.2 m s (Nat.zero_le _) hm, HI.out.2.2.2.1 s⟩
        have hL2 : L.length ≤ 1000 := by have := HI.out.2.2.1; omega
        go_wp2_with fail
        go_at_call 7
        refine (rsort_is _ l wr (HLR.out wr HI.out.1) (by omega)).mono ?_
        rintro e wS ⟨vs, out, rfl, hOs, hSs, hBs⟩
        have HS1 := Lib.hid (And.intro hOs hBs)
        have HSS := Lib.hid hSs
        clear hOs hSs hBs
        go_wp2_with fail
        go_at_call 7
        refine (rsort_is _ L wS (HI.out.2.1.rd.below HS1.out.2) (by omega)).mono ?_
        rintro e wM ⟨vm, out1, rfl, hOm, hSm, hBm⟩
        obtain rfl : out1 = out := srt_one hSm.1 HSS.out.1 fun s => (hSm.2 s).trans ((HSL.out s).symm.trans (HSS.out.2 s).symm)
        have HS2 := Lib.hid (And.intro hOm hBm)
        clear hOm hSm hBm
        have hol : out1.length ≤ 1000000 := srt_len100 HSS.out (by omega)
        go_wp2_with fail
        go_at_call 8
        refine (rsame_is vs vm out1 out1 wM (HS1.out.1.rd.below HS2.out.2) HS2.out.1.rd hol hol).mono ?_
        rintro e wN ⟨b', rfl, hi, hb1⟩
        obtain rfl : b' = true := hi.2 rfl
        have HN := Lib.hid ((HS2.out.2).trans (hb1.mono HS2.out.2.size))
        have HRN : Hid (∀ W, Below wS.heap.size wS W → RdK encRt 9 W vs out1) := Lib.hid fun W hb => HS1.out.1.rd.below hb
        have HP : Hid (out1.Pairwise (fun r s => cR r s < 0)) := Lib.hid HSS.out.1
        have HFB : Hid (Below w.heap.size w wS) := Lib.hid (Below.step HBZ.out (Below.step HB1.out (HI.out.1.trans (HS1.out.2.mono HI.out.1.size))))
        obtain ⟨ps, cs, hvs⟩ := own_open HS1.out.1
        subst hvs
        clear hi hb1 HS1 HS2 HSS HSL HI HLR HBZ HB1 HW7
        go_wp2_with fail
        go_loopw [18] (fun si wz => ∃ i : Nat, 1 ≤ i ∧ i ≤ out1.length + 1 ∧ si = .int .i64 i ∧ Hid (Below wS.heap.size wS wz)) (fun si _ => out1.length + 1 - (intOf si).toNat)
        case atStart => exact ⟨1, Nat.le_refl _, by omega, rfl, HN⟩
        case round =>
          obtain ⟨i, hi1, hi2, rfl, HK⟩ := hrel
          by_cases hlt : i < out1.length
          · have hlti : (i : Int) < (out1.length : Int) := by omega
            have i0 : (0 : Int) ≤ (i : Int) := by omega
            obtain ⟨q, hq⟩ : ∃ q, q + 1 = i := ⟨i - 1, by omega⟩
            have eq : IntKind.i64.wrap ((i : Int) - 1) = (q : Int) := by rw [← hq]; exact (IntWalk.i64_in _ ⟨by omega, by omega⟩).trans (by omega)
            have q0 : (0 : Int) ≤ (q : Int) := by omega
            have qlt : (q : Int) < (out1.length : Int) := by omega
            obtain ⟨rq, hrq⟩ : ∃ s, out1[q]? = some s := ⟨_, List.getElem?_eq_getElem (by omega)⟩
            obtain ⟨ri, hri⟩ : ∃ s, out1[i]? = some s := ⟨_, List.getElem?_eq_getElem hlt⟩
            have hd : cR rq ri = -1 := by
              have h1 := List.pairwise_iff_getElem.1 HP.out q i (by omega) hlt (by omega)
              rw [(List.getElem?_eq_some_iff.1 hrq).2, (List.getElem?_eq_some_iff.1 hri).2] at h1
              have := cR_abs rq ri
              omega
            obtain ⟨bx, ox, ex, hbx, hcx⟩ := rdk_at (HRN.out wS (Below.refl _ _)) hrq
            obtain ⟨by', oy, ey, hby, hcy⟩ := rdk_at (HRN.out wS (Below.refl _ _)) hri
            obtain ⟨rfl, rfl⟩ : bx = by' ∧ ox = oy := by rw [ex] at ey; simpa using ey
            subst ex
            clear ey hby
            have HX : Hid (∀ W, Below wS.heap.size wS W → Below wS.heap.size wS W ∧ (W.cell? ⟨bx, ox + q * 9, none⟩ = some (.int .u32 rq.a) ∧ W.cell? ⟨bx, ox + q * 9 + 1, none⟩ = some (.int .i64 rq.b) ∧ W.cell? ⟨bx, ox + q * 9 + 2, none⟩ = some (.int .u8 rq.fr) ∧ W.cell? ⟨bx, ox + q * 9 + 3, none⟩ = some (.int .i64 rq.di) ∧ W.cell? ⟨bx, ox + q * 9 + 4, none⟩ = some (.int .i64 rq.me) ∧ W.cell? ⟨bx, ox + q * 9 + 5, none⟩ = some (.int .i64 rq.ta) ∧ W.cell? ⟨bx, ox + q * 9 + 6, none⟩ = some (.string rq.nm) ∧ W.cell? ⟨bx, ox + q * 9 + 7, none⟩ = some (.int .u32 rq.ho) ∧ W.cell? ⟨bx, ox + q * 9 + 8, none⟩ = some (.bool rq.dc)) ∧ W.cell? ⟨bx, ox + i * 9, none⟩ = some (.int .u32 ri.a) ∧ W.cell? ⟨bx, ox + i * 9 + 1, none⟩ = some (.int .i64 ri.b) ∧ W.cell? ⟨bx, ox + i * 9 + 2, none⟩ = some (.int .u8 ri.fr) ∧ W.cell? ⟨bx, ox + i * 9 + 3, none⟩ = some (.int .i64 ri.di) ∧ W.cell? ⟨bx, ox + i * 9 + 4, none⟩ = some (.int .i64 ri.me) ∧ W.cell? ⟨bx, ox + i * 9 + 5, none⟩ = some (.int .i64 ri.ta) ∧ W.cell? ⟨bx, ox + i * 9 + 6, none⟩ = some (.string ri.nm) ∧ W.cell? ⟨bx, ox + i * 9 + 7, none⟩ = some (.int .u32 ri.ho) ∧ W.cell? ⟨bx, ox + i * 9 + 8, none⟩ = some (.bool ri.dc)) := Lib.hid fun W hb => ⟨hb, ⟨hcx W hb 0 _ rfl, hcx W hb 1 _ rfl, hcx W hb 2 _ rfl, hcx W hb 3 _ rfl, hcx W hb 4 _ rfl, hcx W hb 5 _ rfl, hcx W hb 6 _ rfl, hcx W hb 7 _ rfl, hcx W hb 8 _ rfl⟩, hcy W hb 0 _ rfl, hcy W hb 1 _ rfl, hcy W hb 2 _ rfl, hcy W hb 3 _ rfl, hcy W hb 4 _ rfl, hcy W hb 5 _ rfl, hcy W hb 6 _ rfl, hcy W hb 7 _ rfl, hcy W hb 8 _ rfl⟩
            have HC : Hid (∀ W, Below wS.heap.size wS W → Calls Tryz.prog 5 #[.agg #[.int .u32 rq.a, .int .i64 rq.b, .int .u8 rq.fr, .int .i64 rq.di, .int .i64 rq.me, .int .i64 rq.ta, .string rq.nm, .int .u32 rq.ho, .bool rq.dc], .agg #[.int .u32 ri.a, .int .i64 ri.b, .int .u8 ri.fr, .int .i64 ri.di, .int .i64 ri.me, .int .i64 ri.ta, .string ri.nm, .int .u32 ri.ho, .bool ri.dc]] W fun e w' => e = .returned (.int .i64 (-1)) ∧ Below W.heap.size W w') := Lib.hid fun W _ => (rcmp_is rq ri W).mono fun e w' h => ⟨hd ▸ h.1, h.2⟩
            clear hcx hcy hrq hri hd hq
            go_wp2_with fail
            refine wp_region_held_drew (S := (fun w' => Below wS.heap.size wS w' ∧ (w'.cell? ⟨bx, ox + q * 9, none⟩ = some (.int .u32 rq.a) ∧ w'.cell? ⟨bx, ox + q * 9 + 1, none⟩ = some (.int .i64 rq.b) ∧ w'.cell? ⟨bx, ox + q * 9 + 2, none⟩ = some (.int .u8 rq.fr) ∧ w'.cell? ⟨bx, ox + q * 9 + 3, none⟩ = some (.int .i64 rq.di) ∧ w'.cell? ⟨bx, ox + q * 9 + 4, none⟩ = some (.int .i64 rq.me) ∧ w'.cell? ⟨bx, ox + q * 9 + 5, none⟩ = some (.int .i64 rq.ta) ∧ w'.cell? ⟨bx, ox + q * 9 + 6, none⟩ = some (.string rq.nm) ∧ w'.cell? ⟨bx, ox + q * 9 + 7, none⟩ = some (.int .u32 rq.ho) ∧ w'.cell? ⟨bx, ox + q * 9 + 8, none⟩ = some (.bool rq.dc)) ∧ w'.cell? ⟨bx, ox + i * 9, none⟩ = some (.int .u32 ri.a) ∧ w'.cell? ⟨bx, ox + i * 9 + 1, none⟩ = some (.int .i64 ri.b) ∧ w'.cell? ⟨bx, ox + i * 9 + 2, none⟩ = some (.int .u8 ri.fr) ∧ w'.cell? ⟨bx, ox + i * 9 + 3, none⟩ = some (.int .i64 ri.di) ∧ w'.cell? ⟨bx, ox + i * 9 + 4, none⟩ = some (.int .i64 ri.me) ∧ w'.cell? ⟨bx, ox + i * 9 + 5, none⟩ = some (.int .i64 ri.ta) ∧ w'.cell? ⟨bx, ox + i * 9 + 6, none⟩ = some (.string ri.nm) ∧ w'.cell? ⟨bx, ox + i * 9 + 7, none⟩ = some (.int .u32 ri.ho) ∧ w'.cell? ⟨bx, ox + i * 9 + 8, none⟩ = some (.bool ri.dc))) (by kernel_rfl) ?_ (fun hHeld => ?_)
            · exact HX.out _ HK.out.drew
            refine tk1 (i := 0) (oi := { dst := some 129, op := Op.move (Operand.tmp 17), type := 28, pos := "outright.go:40", after := #[], guard := none }) (v := ?v0u) rfl (by kernel_rfl) (fun _ _ _ h => h) (Or.inl ⟨by rfl, ?hy0u⟩) (by assumption) ?rest0u
            case hy0u => (intro w hSw; (try dsimp only at hSw); go_simp; try with_reducible rfl)
            try simp only [Act.put, List.setIfInBounds_toArray, List.set_cons_zero, List.set_cons_succ]
            refine tk1 (i := 1) (oi := { dst := some 130, op := Op.move (Operand.tmp 18), type := 3, pos := "outright.go:40", after := #[], guard := none }) (v := ?v1u) rfl (by kernel_rfl) (fun _ _ _ h => h) (Or.inl ⟨by rfl, ?hy1u⟩) (by assumption) ?rest1u
            case hy1u => (intro w hSw; (try dsimp only at hSw); go_simp; try with_reducible rfl)
            try simp only [Act.put, List.setIfInBounds_toArray, List.set_cons_zero, List.set_cons_succ]
            refine tk1 (i := 2) (oi := { dst := some 131, op := Op.binOp BinOp.sub 3 (Operand.tmp 130) (Operand.const (Go.Value.int Go.IntKind.i64 1)) 3, type := 3, pos := "outright.go:40", after := #[{ on := 1, ground := Ground.data }], guard := none }) (v := ?v2u) rfl (by kernel_rfl) (fun _ _ _ h => h) (Or.inl ⟨by rfl, ?hy2u⟩) (by assumption) ?rest2u
            case hy2u => (intro w hSw; (try dsimp only at hSw); go_simp; try with_reducible rfl)
            try simp only [Act.put, List.setIfInBounds_toArray, List.set_cons_zero, List.set_cons_succ]
            refine tk1 (i := 3) (oi := { dst := some 132, op := Op.indexAddr 28 (Operand.tmp 129) (Operand.tmp 131), type := 0, pos := "outright.go:40", after := #[{ on := 0, ground := Ground.data }, { on := 2, ground := Ground.data }], guard := none }) (v := ?v3u) rfl (by kernel_rfl) (fun _ _ _ h => h) (Or.inl ⟨by rfl, ?hy3u⟩) (by assumption) ?rest3u
            case hy3u => (intro w hSw; (try dsimp only at hSw); go_simp; try with_reducible rfl)
            try simp only [Act.put, List.setIfInBounds_toArray, List.set_cons_zero, List.set_cons_succ]
            refine tk1 (i := 4) (oi := { dst := some 133, op := Op.load 27 (Operand.tmp 132), type := 27, pos := "outright.go:40", after := #[{ on := 3, ground := Ground.data }], guard := none }) (v := ?v4u) rfl (by kernel_rfl) (fun _ _ _ h => h) (Or.inl ⟨by rfl, ?hy4u⟩) (by assumption) ?rest4u
            case hy4u => (intro w hSw; (try dsimp only at hSw); go_simp; try with_reducible rfl)
            try simp only [Act.put, List.setIfInBounds_toArray, List.set_cons_zero, List.set_cons_succ]
            refine tk1 (i := 5) (oi := { dst := some 134, op := Op.move (Operand.tmp 17), type := 28, pos := "outright.go:40", after := #[], guard := none }) (v := ?v5u) rfl (by kernel_rfl) (fun _ _ _ h => h) (Or.inl ⟨by rfl, ?hy5u⟩) (by assumption) ?rest5u
            case hy5u => (intro w hSw; (try dsimp only at hSw); go_simp; try with_reducible rfl)
            try simp only [Act.put, List.setIfInBounds_toArray, List.set_cons_zero, List.set_cons_succ]
            refine tk1 (i := 6) (oi := { dst := some 135, op := Op.move (Operand.tmp 18), type := 3, pos := "outright.go:40", after := #[], guard := none }) (v := ?v6u) rfl (by kernel_rfl) (fun _ _ _ h => h) (Or.inl ⟨by rfl, ?hy6u⟩) (by assumption) ?rest6u
            case hy6u => (intro w hSw; (try dsimp only at hSw); go_simp; try with_reducible rfl)
            try simp only [Act.put, List.setIfInBounds_toArray, List.set_cons_zero, List.set_cons_succ]
            refine tk1 (i := 7) (oi := { dst := some 136, op := Op.indexAddr 28 (Operand.tmp 134) (Operand.tmp 135), type := 0, pos := "outright.go:40", after := #[{ on := 5, ground := Ground.data }, { on := 6, ground := Ground.data }], guard := none }) (v := ?v7u) rfl (by kernel_rfl) (fun _ _ _ h => h) (Or.inl ⟨by rfl, ?hy7u⟩) (by assumption) ?rest7u
            case hy7u => (intro w hSw; (try dsimp only at hSw); go_simp; try with_reducible rfl)
            try simp only [Act.put, List.setIfInBounds_toArray, List.set_cons_zero, List.set_cons_succ]
            refine tk1 (i := 8) (oi := { dst := some 137, op := Op.load 27 (Operand.tmp 136), type := 27, pos := "outright.go:40", after := #[{ on := 7, ground := Ground.data }], guard := none }) (v := ?v8u) rfl (by kernel_rfl) (fun _ _ _ h => h) (Or.inl ⟨by rfl, ?hy8u⟩) (by assumption) ?rest8u
            case hy8u => (intro w hSw; (try dsimp only at hSw); go_simp; try with_reducible rfl)
            try simp only [Act.put, List.setIfInBounds_toArray, List.set_cons_zero, List.set_cons_succ]
            refine wpAnyH_ready (rs := [9]) (by kernel_rfl) (by simp) ?_
            refine AllReadyH.cons (o := { dst := some 138, op := Op.call { callee := Callee.value (Operand.func 5), args := #[Operand.tmp 133, Operand.tmp 137], argTypes := #[27, 27] }, type := 3, pos := "outright.go:40", after := #[{ on := 4, ground := Ground.data }, { on := 8, ground := Ground.data }], guard := none }) rfl (fun K hK => ?_) AllReadyH.nil
            go_simp
            refine (HC.out _ hHeld.1).mono ?_
            rintro e w4 ⟨rfl, hb4⟩
            replace hb4 := Below.step hHeld.1 hb4
            try go_wp2_with fail
            refine hK.out _ _ (HX.out _ hb4) (fun hHeld => ?_)
            clear hK K
            try simp only [Act.put, List.setIfInBounds_toArray, List.set_cons_zero, List.set_cons_succ]
            refine tk1 (i := 10) (oi := { dst := some 139, op := Op.binOp BinOp.geq 3 (Operand.tmp 138) (Operand.const (Go.Value.int Go.IntKind.i64 0)) 3, type := 4, pos := "outright.go:40", after := #[{ on := 9, ground := Ground.data }], guard := none }) (v := ?v10u) rfl (by kernel_rfl) (fun _ _ _ h => h) (Or.inl ⟨by rfl, ?hy10u⟩) (by assumption) ?rest10u
            case hy10u => (intro w hSw; (try dsimp only at hSw); go_simp; try with_reducible rfl)
            try simp only [Act.put, List.setIfInBounds_toArray, List.set_cons_zero, List.set_cons_succ]
            refine wpAnyH_done (by kernel_rfl) ?_ _
            try go_wp2_with fail
            go_roundw
            case rel => exact ⟨i + 1, by omega, by omega, by go_num, Lib.hid hHeld.1⟩
            case measure => first | (simp [intOf]; done) | (simp [intOf]; omega)
          · have hlti : ¬ (i : Int) < (out1.length : Int) := by omega
            go_wp2
            go_ret
            exact ⟨rfl, HFB.out.trans (HK.out.mono HFB.out.size)⟩
end Go.Proofs.YtgpoeeccgpjnlaaGreatDoor
