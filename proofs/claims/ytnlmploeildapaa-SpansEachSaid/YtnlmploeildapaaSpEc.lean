/- The law SpansEach: it answers true; what was there stands. No condition but those named. -/
import Derived.Test.YtnlmploeildapaaSpEb
import Derived.Test.YtnlmploeildapaaSpRd
import Derived.Deep.AppendLies
namespace Go.Proofs.Ytnlmploeildapaa
open Go.RowKit Go.Shelf
attribute [local go_sem] Oper.semAt_some
/-- A block below B stays what it is. -/
theorem own_obj {β : Type} {B : Nat} {o : Obj} (D : Nat) (hD : D < B) : OwnFrom B (fun (_ : β) W => W.heap[D]? = some o) :=
  fun _ W W' row hs hg hr => (hg.block D (Array.getElem?_eq_some_iff.1 hs).1 (fun e => by have := (hr D e.symm).1; omega)).trans hs
theorem rows4 (w : World) (o0 o1 o2 o3 : Obj) : ((((w.alloc o0).alloc o1).alloc o2).alloc o3).heap[w.heap.size]? = some o0 ∧ ((((w.alloc o0).alloc o1).alloc o2).alloc o3).heap[w.heap.size + 1]? = some o1 ∧ ((((w.alloc o0).alloc o1).alloc o2).alloc o3).heap[w.heap.size + 1 + 1]? = some o2 ∧ ((((w.alloc o0).alloc o1).alloc o2).alloc o3).heap[w.heap.size + 1 + 1 + 1]? = some o3 := by
  have h0 := heap_alloc_new w o0
  have h1 := heap_alloc_new (w.alloc o0) o1
  have h2 := heap_alloc_new ((w.alloc o0).alloc o1) o2
  have h3 := heap_alloc_new (((w.alloc o0).alloc o1).alloc o2) o3
  simp only [World.size_alloc] at h1 h2 h3
  exact ⟨(Below.heap_alloc _ _ _ (by simp only [World.size_alloc]; omega)).trans ((Below.heap_alloc _ _ _ (by simp only [World.size_alloc]; omega)).trans ((Below.heap_alloc _ _ _ (by simp only [World.size_alloc]; omega)).trans h0)), (Below.heap_alloc _ _ _ (by simp only [World.size_alloc]; omega)).trans ((Below.heap_alloc _ _ _ (by simp only [World.size_alloc]; omega)).trans h1), (Below.heap_alloc _ _ _ (by simp only [World.size_alloc]; omega)).trans h2, h3⟩
/-- The law's four variables of its second loop. -/
structure Bx (N : Nat) (v : Value) (i m y : Int) (W : World) : Prop where
  f : W.cell? ⟨N, 0, none⟩ = some v
  ci : W.cell? ⟨N + 1, 0, none⟩ = some (.int .i64 i)
  cm : W.cell? ⟨N + 1 + 1, 0, none⟩ = some (.int .i64 m)
  ca : W.cell? ⟨N + 1 + 1 + 1, 0, none⟩ = some (.int .u64 y)
  fi : W.frozen? ⟨N + 1, 0, none⟩ = false
  fm : W.frozen? ⟨N + 1 + 1, 0, none⟩ = false
  fa : W.frozen? ⟨N + 1 + 1 + 1, 0, none⟩ = false
theorem Bx.new (w : World) (v : Value) (t : TypeId) (y : Int) : Bx w.heap.size v 0 0 y ((((w.alloc (.cells #[v] t)).alloc (.cells #[.int .i64 0] 3)).alloc (.cells #[.int .i64 0] 3)).alloc (.cells #[.int .u64 y] 32)) := by
  obtain ⟨k0, k1, k2, k3⟩ := rows4 w (.cells #[v] t) (.cells #[.int .i64 0] 3) (.cells #[.int .i64 0] 3) (.cells #[.int .u64 y] 32)
  exact ⟨(cell_of_row _ _ 0 _ _ (0, 0) k0).trans rfl, (cell_of_row _ _ 0 _ _ (0, 0) k1).trans rfl, (cell_of_row _ _ 0 _ _ (0, 0) k2).trans rfl, (cell_of_row _ _ 0 _ _ (0, 0) k3).trans rfl, frozen_of_row _ _ 0 _ _ k1, frozen_of_row _ _ 0 _ _ k2, frozen_of_row _ _ 0 _ _ k3⟩
section
variable {N : Nat} {v : Value} {i m y : Int} {W : World}
theorem cell_oth {W : World} {a b : Nat} {v u : Value} (h : a ≠ b) (hc : W.cell? ⟨a, 0, none⟩ = some v) : (W.setCell ⟨b, 0, none⟩ u).cell? ⟨a, 0, none⟩ = some v :=
  (World.cell?_setCell_other _ _ _ _ (by intro e; simp only [Addr.mk.injEq] at e; omega)).trans hc
theorem Bx.seti (h : Bx N v i m y W) (z : Int) : Bx N v z m y (W.setCell ⟨N + 1, 0, none⟩ (.int .i64 z)) :=
  ⟨cell_oth (by omega) h.f, World.cell?_setCell_same' _ _ _ (by rw [h.ci]; rfl), cell_oth (by omega) h.cm, cell_oth (by omega) h.ca, by simp only [World.frozen?_setCell]; exact h.fi, by simp only [World.frozen?_setCell]; exact h.fm, by simp only [World.frozen?_setCell]; exact h.fa⟩
theorem Bx.setm (h : Bx N v i m y W) (z : Int) : Bx N v i z y (W.setCell ⟨N + 1 + 1, 0, none⟩ (.int .i64 z)) :=
  ⟨cell_oth (by omega) h.f, cell_oth (by omega) h.ci, World.cell?_setCell_same' _ _ _ (by rw [h.cm]; rfl), cell_oth (by omega) h.ca, by simp only [World.frozen?_setCell]; exact h.fi, by simp only [World.frozen?_setCell]; exact h.fm, by simp only [World.frozen?_setCell]; exact h.fa⟩
theorem Bx.seta (h : Bx N v i m y W) (z : Int) : Bx N v i m z (W.setCell ⟨N + 1 + 1 + 1, 0, none⟩ (.int .u64 z)) :=
  ⟨cell_oth (by omega) h.f, cell_oth (by omega) h.ci, cell_oth (by omega) h.cm, World.cell?_setCell_same' _ _ _ (by rw [h.ca]; rfl), by simp only [World.frozen?_setCell]; exact h.fi, by simp only [World.frozen?_setCell]; exact h.fm, by simp only [World.frozen?_setCell]; exact h.fa⟩
theorem Bx.kept {W' : World} {row : Option Nat} (h : Bx N v i m y W) (hg : W.grownBy W' row) (hr : ∀ r, row = some r → ∃ o : Obj, W.heap[r]? = some o ∧ o.isCells = false) : Bx N v i m y W' :=
  ⟨cell_kept h.f hg hr, cell_kept h.ci hg hr, cell_kept h.cm hg hr, cell_kept h.ca hg hr, (frozen_kept h.ci hg hr).trans h.fi, (frozen_kept h.cm hg hr).trans h.fm, (frozen_kept h.ca hg hr).trans h.fa⟩
end
/-- A number as sixty-four bits hold it. -/
def md (x : Nat) : Nat := x % 18446744073709551616
theorem md_all : ∀ (L : List Nat), (∀ z ∈ L, z < 18446744073709551616) → L.map md = L
  | [], _ => rfl
  | x :: r, h => by rw [List.map_cons, md_all r (fun z hz => h z (List.mem_cons_of_mem _ hz)), md, Nat.mod_eq_of_lt (h x (List.mem_cons_self ..))]
theorem nums_lt {F : List (Nat × Nat)} (h : Small F) : ∀ z ∈ nums F, z < 18446744073709551616 := by
  intro z hz
  unfold nums at hz
  obtain ⟨s, hs, hz⟩ := List.mem_flatMap.1 hz
  have h1 := h s hs
  rw [List.mem_range'_1] at hz
  rw [top_def] at h1
  omega
theorem wrap_md (x : Nat) : IntKind.u64.wrap (x : Int) = ((md x : Nat) : Int) := by
  unfold md
  simp [IntKind.wrap, IntKind.signed, IntKind.bits]
/-- What a round leaves, so far. -/
structure Rnd (N m0 : Nat) (w0 W W' : World) : Prop where
  ko : KeepsOthers W W'
  kp : KpE N m0 W W'
  bl : Below N w0 W'
theorem Rnd.refl {N m0 : Nat} {w0 W : World} (h : Below N w0 W) : Rnd N m0 w0 W W := ⟨KeepsOthers.refl _, ⟨Below.refl _ _, fun _ _ _ _ _ h => h⟩, h⟩
theorem Rnd.set {N m0 : Nat} {w0 W W' : World} (h : Rnd N m0 w0 W W') {b : Nat} (v : Value) (h0 : N ≤ b) (h1 : b < m0) : Rnd N m0 w0 W (W'.setCell ⟨b, 0, none⟩ v) :=
  ⟨h.ko.trans (KeepsOthers.setCell _ _ _), kpE_t h.kp (KpE.setCell W' v h0 h1), h.bl.setCell (p := ⟨b, 0, none⟩) h0 v⟩
theorem Rnd.drew {N m0 : Nat} {w0 W W' : World} (h : Rnd N m0 w0 W W') : Rnd N m0 w0 W W'.drew :=
  ⟨h.ko.trans (KeepsOthers.drew _), ⟨h.kp.1.drew, fun x cs t f hx hc => h.kp.2 x cs t f hx hc⟩, h.bl.drew⟩
theorem Bx.drew {N : Nat} {v : Value} {i m y : Int} {W : World} (h : Bx N v i m y W) : Bx N v i m y W.drew := ⟨h.f, h.ci, h.cm, h.ca, h.fi, h.fm, h.fa⟩
/-- What the law has laid down when it stops: true, or these are no beginning of the set's numbers. -/
def Rs (s : Nat) (F : List (Nat × Nat)) (pre : List Nat) (W : World) : Prop := ∃ r : Bool, W.cell? ⟨s + 1, 0, none⟩ = some (.bool r) ∧ (r = true ∨ ¬ pre.map md <+: nums F)
theorem Rs.of {s : Nat} {F : List (Nat × Nat)} {pre : List Nat} {W : World} {r : Bool} (h : W.cell? ⟨s + 1, 0, none⟩ = some (.bool r)) (k : r = true ∨ ¬ pre.map md <+: nums F) : Rs s F pre W := ⟨r, h, k⟩
theorem run_equalIn_func_nil {P : Program} (w : World) (d : Nat) (t : TypeId) {x y : Array TypeId} {z : Bool} (f : Fn) (a c : Array Value) (h : P.underlying t = some (.func x y z)) : (Op.equalIn (d + 1) t (.func f a c) .nilFunc).run P w = .ok false w := by
  simp [Op.equalIn, run_underlying h]
theorem run_eql_func_nil {P : Program} (w : World) (t : TypeId) {x y : Array TypeId} {z : Bool} (f : Fn) (a c : Array Value) (h : P.underlying t = some (.func x y z)) : (binOp .eql t (.func f a c) .nilFunc).run P w = .ok (.bool false) w := by
  simp only [binOp]
  simp [show Op.equal t (.func f a c) .nilFunc = Op.equalIn (9999 + 1) t (.func f a c) .nilFunc from rfl, run_equalIn_func_nil w 9999 t f a c h]
set_option maxRecDepth 100000 in
set_option maxHeartbeats 8000000 in
theorem each_law (l : List (Nat × Nat)) (va : Value) (leave : Int) (w : World) (hr : Rd w va l) :
    Calls Try.prog 3 #[va, .int .i64 leave] w fun e w' => e = .returned (.bool true) ∧ Below w.heap.size w w' := by
  obtain ⟨p, c, rfl, hlc, hcm, _⟩ := hr.sl
  refine (callsIn_wide (n := 8)).1 ?_
  refine callsIn_of_wp_marks Try.func3 rfl trivial ?_ rfl
  simp only [Try.ntmps3, List.size_toArray, List.length_cons, List.length_nil, Nat.reduceAdd, Nat.reduceSub, Array.replicate_succ, Array.replicate_zero, List.push_toArray, List.append_toArray, List.nil_append, List.cons_append]
  refine wpIn_wide.2 ?_
  by_cases hbig : 200 < l.length
  · have HLY := Lib.hid (large_yes p none l.length 0 c 0 ((w.alloc (.cells #[.int .i64 leave] 3)).alloc (.cells #[.bool false] 4)) (.inl hbig))
    clear hbig hr
    go_wp2_with fail
    go_at_call 4
    (with_reducible refine HLY.out.mono ?_)
    rintro e w1 ⟨rfl, rfl⟩
    go_wp2_with fail
    obtain ⟨Z, hZ⟩ : ∃ Z, ((w.alloc (.cells #[.int .i64 leave] 3)).alloc (.cells #[.bool false] 4)) = Z := ⟨_, rfl⟩
    have hBZ : Below w.heap.size w Z := by rw [← hZ]; exact ((Below.refl _ _).alloc (Nat.le_refl _) _).alloc (by simp) _
    have hq : Z.heap[w.heap.size + 1]? = some (.cells #[.bool false] 4 (0, 0)) := by rw [← hZ]; simpa using heap_alloc_new (w.alloc (.cells #[.int .i64 leave] 3)) (.cells #[.bool false] 4)
    have hzl := (Array.getElem?_eq_some_iff.1 hq).1
    rw [hZ]
    clear hZ
    refine (awake_is _).mono ?_
    rintro e w1 ⟨rfl, hb1⟩
    have hq1 := (hb1.block _ hzl).trans hq
    have hc1 := (cell_of_row _ _ 0 _ _ (0, 0) hq1).trans (rfl : _ = some (Value.bool false))
    have hf1 := frozen_of_row _ _ 0 _ _ hq1
    have hBB := hBZ.trans (hb1.mono hBZ.size)
    clear hq hq1 hb1
    go_wp2
    refine ⟨.bool true, ?_, rfl, hBB.setCell (p := ⟨w.heap.size + 1, 0, none⟩) (by show w.heap.size ≤ w.heap.size + 1; omega) _⟩
    have hce := World.cell?_setCell_same' w1 ⟨w.heap.size + 1, 0, none⟩ (.bool true) (by rw [hc1]; rfl)
    simp [results, Try.f3, go_sem, hce]
  have hll : l.length ≤ 200 := by omega
  have HLN := Lib.hid (large_no p none l.length 0 c 0 ((w.alloc (.cells #[.int .i64 leave] 3)).alloc (.cells #[.bool false] 4)) hll (Nat.zero_le _))
  have HR := Lib.hid hr
  clear hr hbig
  go_wp2_with fail
  go_at_call 4
  (with_reducible refine HLN.out.mono ?_)
  rintro e w1 ⟨rfl, rfl⟩
  obtain ⟨Z, hZ⟩ : ∃ Z, ((w.alloc (.cells #[.int .i64 leave] 3)).alloc (.cells #[.bool false] 4)) = Z := ⟨_, rfl⟩
  have hBZ : Below w.heap.size w Z := by rw [← hZ]; exact ((Below.refl _ _).alloc (Nat.le_refl _) _).alloc (by simp) _
  have hqr : Z.heap[w.heap.size + 1]? = some (.cells #[.bool false] 4 (0, 0)) := by rw [← hZ]; simpa using heap_alloc_new (w.alloc (.cells #[.int .i64 leave] 3)) (.cells #[.bool false] 4)
  have hql : Z.heap[w.heap.size]? = some (.cells #[.int .i64 leave] 3 (0, 0)) := by rw [← hZ]; exact (Below.heap_alloc _ _ _ (by simp)).trans (heap_alloc_new w _)
  have hsz : Z.heap.size = w.heap.size + 2 := by rw [← hZ]; simp
  rw [hZ]
  clear hZ HLN
  have hown0 := World.ownsRow_lit (e := 30) (size := 2) Z #[] 0 (Nat.le_refl _) (Nat.zero_le _) rfl
  have hb0 : Below Z.heap.size Z (Z.alloc (.cells #[] 30)) := (Below.refl _ _).alloc (Nat.le_refl _) _
  have hrd0 := (HR.out.below hBZ).below hb0
  have HB0 := Lib.hid hb0; have HBZ := Lib.hid hBZ; have HQR := Lib.hid hqr; have HQL := Lib.hid hql; have HSZ := Lib.hid hsz
  clear hb0 hBZ hqr hql hsz
  go_wp2_with (at_builtin; refine wpList_append_rd rfl _ _ rfl Z.heap.size _ 0 _ rfl hown0 _ l rfl hrd0 (by omega) (by omega) (by simp) ?_; intro v1 w1 hown1 hgrow1 hor1; clear hown0 hrd0)
  obtain ⟨po, co, rfl⟩ := own_spans hown1
  have hb1 : Below Z.heap.size Z w1 := HB0.out.grown hgrow1 (by simp) (fun k hk => by have hk : (some Z.heap.size : Option Nat) = some k := hk; simp at hk; omega)
  have hrow1 : w1.ownsRow Z.heap.size 30 2 (.slice po l.length co) l.length (flatS l) := by simpa using hown1
  have hrd1 : Rd w1 (.slice po l.length co) l := Own.rd ⟨HR.out.1, hrow1⟩
  have HB1 := Lib.hid hb1; have HROW1 := Lib.hid hrow1
  have hz1 := hb1.size
  have hsz := HSZ.out
  clear hb1 hgrow1 hor1 hown1
  rw [Nat.zero_add]
  go_at_call 6
  (with_reducible refine (each_is l _ w1 hrd1 (by omega)).mono ?_)
  rintro e w2 ⟨b, pf, cf, rfl, hbb, hof, hb01, hb02, hpf, hb2⟩
  have HOF := Lib.hid hof; have HBB := Lib.hid hbb; have HPF := Lib.hid hpf; have HB2 := Lib.hid hb2
  have hz2 := hb2.size
  clear hbb hof hpf hb2 hrd1
  go_wp2_with fail
  have hfn := run_eql_func_nil w2 26 (.func 11) #[] #[.pointer (some ⟨b, 0, none⟩)] Try.underlying26
  go_wp2_with (simp only [hfn])
  clear hfn
  have hrow2 : w2.ownsRow Z.heap.size 30 2 (.slice po l.length co) l.length (flatS l) := ownsRow_of HROW1.out (fun b _ _ hb => HB2.out.block b hb)
  have HROW2 := Lib.hid hrow2
  clear hrow2
  go_loopw [7] (fun s7 wx => ∃ (k : Nat) (ys : List Value), k ≤ l.length ∧ s7 = .int .i64 k ∧ wx.ownsRow Z.heap.size 30 2 (.slice po l.length co) l.length ys ∧ Below Z.heap.size w2 wx ∧ wx.heap.size = w2.heap.size ∧ ∀ x, (Value.slice po l.length co).ownBlock ≠ some x → wx.heap[x]? = w2.heap[x]?) (fun s7 _ => l.length - (intOf s7).toNat)
  case atStart => exact ⟨0, _, Nat.zero_le _, rfl, HROW2.out, Below.refl _ _, rfl, fun _ _ => rfl⟩
  case round =>
    obtain ⟨k, ys, hk, rfl, hrowx, hbx, hsx, hox⟩ := hrel
    have HBX := Lib.hid hbx; have HOX := Lib.hid hox; have HSX := Lib.hid hsx; have HRX := Lib.hid hrowx
    by_cases hkl : k < l.length
    · obtain ⟨g, c9, hsl, hg0, hg1⟩ := hrowx.form (by omega)
      obtain ⟨rfl, rfl⟩ : po = some ⟨g, 0, none⟩ ∧ co = c9 := by simpa using hsl
      have hyl : ys.length = l.length * 2 := hrowx.1
      have hce : wr.cell? ⟨g, k * 2, none⟩ = some (ys[k * 2]'(by omega)) := by rw [hrowx.cellAt (k * 2) (by omega)]; exact List.getElem?_eq_getElem _
      have hcf : wr.cell? ⟨g, k * 2 + 1, none⟩ = some (ys[k * 2 + 1]'(by omega)) := by rw [hrowx.cellAt (k * 2 + 1) (by omega)]; exact List.getElem?_eq_getElem _
      obtain ⟨y, hy⟩ : ∃ y, (ys[k * 2]'(by omega)) = y := ⟨_, rfl⟩
      obtain ⟨y', hy'⟩ : ∃ y, (ys[k * 2 + 1]'(by omega)) = y := ⟨_, rfl⟩
      rw [hy] at hce
      rw [hy'] at hcf
      have hfr := hrowx.frozenAt (k * 2)
      have hfr' := hrowx.frozenAt (k * 2 + 1)
      have HR1 := Lib.hid ((hrowx.stored (k * 2) (.int .u32 5)).1.stored (k * 2 + 1) (.int .u32 6)).1
      have e3 : (0 : Int) ≤ (k : Int) := by omega
      have e4 : (k : Int) < (l.length : Int) := by omega
      have HG0 := Lib.hid hg0
      clear hy hy' hyl hsl hrowx hbx hsx hox hg0
      go_wp2_with fail
      go_roundw
      case rel => exact ⟨k + 1, _, by omega, by go_num, HR1.out, (HBX.out.setCell (p := ⟨g, k * 2, none⟩) HG0.out _).setCell (p := ⟨g, k * 2 + 1, none⟩) HG0.out _, by simpa using HSX.out, fun x hx => (Below.heap_setCell _ ⟨g, k * 2 + 1, none⟩ _ x (by simp only [Value.ownBlock] at hx; show x ≠ g; intro e; exact hx (by rw [e]))).trans ((Below.heap_setCell _ ⟨g, k * 2, none⟩ _ x (by simp only [Value.ownBlock] at hx; show x ≠ g; intro e; exact hx (by rw [e]))).trans (HOX.out x hx))⟩
      case measure => first | (simp [intOf]; done) | (simp [intOf]; omega)
    · have e4 : ¬ (k : Int) < (l.length : Int) := by omega
      obtain rfl : k = l.length := by omega
      clear hkl hbx hsx hox hrowx
      go_wp2_with fail
      obtain ⟨F, hFe⟩ : ∃ F, Cn (has l) = F := ⟨_, rfl⟩
      have hF1 : ∀ s ∈ F, s.1 ≤ s.2 := hFe ▸ fun s hs => (Cn_canon (has l)).some s hs
      have hFs : Small F := hFe ▸ Cn_small (has l)
      have hFl : F.length ≤ l.length := hFe ▸ CnHas_length HR.out.1.two
      have hsx := HSX.out
      have hxr := HRX.out
      have hbw : Below Z.heap.size w2 wr := HBX.out
      have howr : Own w1.heap.size wr (.slice pf F.length cf) F := hFe ▸ ⟨HOF.out.1, ownsRow_of HOF.out.2 (fun b hb hge _ => HOX.out b (by intro e; have h1 := HROW1.out.lt b e; have h2 := HOF.out.2.lt b hb; omega))⟩
      have hbbr : wr.heap[b]? = some (.cells #[.slice pf F.length cf] 22 (0, 0)) := by
        rw [← hFe, HOX.out b (by intro e; have h1 := HROW1.out.lt b e; omega)]
        exact HBB.out
      have hbwr : Below w.heap.size w wr := HBZ.out.trans (((Below.step HB1.out HB2.out).trans (hbw.mono (by omega))).mono (by omega))
      have hqr := ((Below.step HB1.out HB2.out).trans hbw).block (w.heap.size + 1) (by omega) |>.trans HQR.out
      have hql := ((Below.step HB1.out HB2.out).trans hbw).block w.heap.size (by omega) |>.trans HQL.out
      obtain ⟨N8, hN8⟩ : ∃ N8, wr.heap.size = N8 := ⟨_, rfl⟩
      obtain ⟨wl, hwl⟩ : ∃ wl, wr.alloc (.cells #[.int .i64 0] 3) = wl := ⟨_, rfl⟩
      have hzl : wl.heap.size = N8 + 1 := by rw [← hwl, ← hN8]; simp
      have hblr : Below wr.heap.size wr wl := by rw [← hwl]; exact (Below.refl _ _).alloc (Nat.le_refl _) _
      have hn8 : wl.heap[N8]? = some (.cells #[.int .i64 0] 3 (0, 0)) := by rw [← hwl, ← hN8]; exact heap_alloc_new wr _
      rw [hwl, hN8]
      have HBWL := Lib.hid (hbwr.trans (hblr.mono hbwr.size))
      have hqrl := (hblr.block (w.heap.size + 1) (by omega)).trans hqr
      have hqll := (hblr.block w.heap.size (by omega)).trans hql
      have hbbl := (hblr.block b (by omega)).trans hbbr
      have hrdl : Rd wl (.slice pf F.length cf) F := howr.rd.below hblr
      have hs1 := each_stops 7 N8 b F pf cf wl hbbl hrdl hF1 (by omega) (fun g o k e => by have := HPF.out g o k e; omega) (by omega)
      have HQRL := Lib.hid hqrl; have HQLL := Lib.hid hqll; have HBBL := Lib.hid hbbl; have HRDL := Lib.hid hrdl; have HF1 := Lib.hid hF1; have HFS := Lib.hid hFs; have HFE := Lib.hid hFe
      have cn0 := (cell_of_row _ _ 0 _ _ (0, 0) hn8).trans (rfl : _ = some (Value.int .i64 0))
      have fn0 := frozen_of_row _ _ 0 _ _ hn8
      have hsN : w.heap.size + 2 ≤ N8 := by omega
      have hbN : b < N8 := by omega
      clear HSX HOX HRX HBX HROW2 hxr hbw howr hbbr hbwr hqr hql hblr hqrl hqll hbbl hrdl hF1 hFs hFe hn8 hwl hsx HOF HBB HB2 HB1 HROW1 HB0 HSZ HQR HQL e4
      refine (wpIn_wide (n := 8)).1 ?_
      refine wpIn_rangeFunc_ownF (n := 8) rfl (by omega) (gf := 11) (lb := #[.pointer (some ⟨b, 0, none⟩)]) rfl trivial (enters_of Try.func11 (by kernel_rfl) rfl)
        hs1 kpE_t (kpE_b (by omega)) (Below.refl _ _) (fun x => rfl)
        (fun pre W => (W.cell? ⟨N8, 0, none⟩ = some (.int .i64 (pre.length : Int)) ∧ W.frozen? ⟨N8, 0, none⟩ = false ∧ pre.length ≤ 201) ∧ Below N8 wl W)
        (fun c _ W => c = .exit 2 ∧ Below N8 wl W)
        (OwnFrom.and (Own.from (fun s A B row hs hg hr => ⟨cell_kept hs.1 hg hr, (frozen_kept hs.1 hg hr).trans hs.2.1, hs.2.2⟩) _) (ownFrom_below (by omega) (by omega)))
        (fun c s A B row hs hg hr => ⟨hs.1, ownFrom_below (β := List Nat) (by omega) (by omega) s A B row hs.2 hg hr⟩)
        ⟨⟨cn0, fn0, Nat.zero_le _⟩, Below.refl _ _⟩
        ?a1 ?assign1 ?body1 ?done1 ?stop1
      case assign1 =>
        intro t x W K hK
        gi_wp2
        exact hK
      case body1 =>
        rintro t pre x W ⟨⟨cn, fn, hn⟩, hB⟩ hlen
        have cl := (hB.cell (p := ⟨w.heap.size, 0, none⟩) (by show w.heap.size < N8; omega)).trans (cell_of_heap HQLL.out)
        have hn1 : (pre.length : Int) ≤ 201 := by omega
        have hn0 : (0 : Int) ≤ (pre.length : Int) := by omega
        have hpl : ((pre ++ [x]).length : Int) = (pre.length : Int) + 1 := by simp
        have HB := Lib.hid hB; have CN := Lib.hid cn; have FN := Lib.hid fn; have HPL := Lib.hid hpl
        have hset : (W.setCell ⟨N8, 0, none⟩ (.int .i64 ((pre.length : Int) + 1))).cell? ⟨N8, 0, none⟩ = some (.int .i64 ((pre ++ [x]).length : Int)) := by rw [hpl]; exact World.cell?_setCell_same' _ _ _ (by rw [cn]; rfl)
        have HSET := Lib.hid hset
        have HKO : Hid (KeepsOthers W (W.setCell ⟨N8, 0, none⟩ (.int .i64 ((pre.length : Int) + 1)))) := Lib.hid (KeepsOthers.setCell _ _ _)
        have HKP : Hid (KpE N8 (N8 + 1) W (W.setCell ⟨N8, 0, none⟩ (.int .i64 ((pre.length : Int) + 1)))) := Lib.hid (KpE.setCell W _ (Nat.le_refl _) (by omega))
        have HBS := Lib.hid (hB.setCell (p := ⟨N8, 0, none⟩) (Nat.le_refl N8) (.int .i64 ((pre.length : Int) + 1)))
        clear hB hpl hset
        by_cases c1 : leave < (pre.length : Int) + 1
        · by_cases c2 : 200 < (pre.length : Int) + 1
          · gi_wp2
            exact ⟨HKO.out, rfl, HBS.out⟩
          · gi_wp2
            exact ⟨HKO.out, rfl, HBS.out⟩
        · by_cases c2 : 200 < (pre.length : Int) + 1
          · gi_wp2
            exact ⟨HKO.out, rfl, HBS.out⟩
          · have hp2 : (pre ++ [x]).length ≤ 201 := by have := HPL.out; omega
            gi_wp2
            exact ⟨HKO.out, HKP.out, ⟨HSET.out, (by simp only [World.frozen?_setCell]; exact FN.out), hp2⟩, HBS.out⟩
      case stop1 =>
        rintro D1 c' pre W hD1 _ ⟨rfl, hB⟩ hK1
        refine wpIn_wide.2 ?_
        have hzW := hB.size
        have hD1l : D1 < W.heap.size := (Array.getElem?_eq_some_iff.1 hK1).1
        have hBW : Below w.heap.size w W := HBWL.out.trans (hB.mono (by omega))
        have hra : Rd W (.slice p l.length c) l := HR.out.below hBW
        have HK1 := Lib.hid hK1; have HB := Lib.hid hB; have HBW := Lib.hid hBW
        clear hK1 hB hBW
        go_wp2_with fail
        go_at_call 7
        (with_reducible refine (rform_is l _ W hra (by omega)).mono ?_)
        rintro e w4 ⟨vq, rfl, hoq, hb4⟩
        rw [HFE.out] at hoq
        obtain ⟨q, d, rfl⟩ := own_spans hoq.2
        have HB4 := Lib.hid hb4; have HRQ := Lib.hid hoq.rd
        have hz4 := hb4.size
        have hzl2 : w.heap.size + 2 ≤ W.heap.size := by omega
        have HBN := Lib.hid (fun y => Bx.new w4 (.slice q F.length d) 22 y)
        have hbA : ∀ y : Int, Below w4.heap.size w4 ((((w4.alloc (.cells #[.slice q F.length d] 22)).alloc (.cells #[.int .i64 0] 3)).alloc (.cells #[.int .i64 0] 3)).alloc (.cells #[.int .u64 y] 32)) := fun y => ((((Below.refl _ _).alloc (Nat.le_refl _) _).alloc (by simp) _).alloc (by simp; omega) _).alloc (by simp; omega) _
        have HBA := Lib.hid hbA
        have hFq : ∀ i s, F[i]? = some s → ∃ g, q = some ⟨g, 0, none⟩ ∧ g < w4.heap.size ∧ ∀ W', Below w4.heap.size w4 W' → W'.cell? ⟨g, i * 2, none⟩ = some (.int .u32 s.1) ∧ W'.cell? ⟨g, i * 2 + 1, none⟩ = some (.int .u32 s.2) := by
          intro i s hi
          have hil := (List.getElem?_eq_some_iff.1 hi).1
          obtain ⟨g, c9, hsl, _, _⟩ := hoq.2.form (by omega)
          obtain ⟨rfl, rfl⟩ : q = some ⟨g, 0, none⟩ ∧ d = c9 := by simpa using hsl
          obtain ⟨q2, d2, e2, _, _, hat⟩ := HRQ.out.sl
          obtain ⟨rfl, rfl⟩ : some ⟨g, 0, none⟩ = q2 ∧ d = d2 := by simpa using e2
          obtain ⟨b9, o9, e9, h9, _, _, hc9⟩ := hat i s hi
          obtain ⟨rfl, rfl⟩ : g = b9 ∧ 0 = o9 := by simpa using e9
          refine ⟨g, rfl, h9, fun W' hB' => ?_⟩
          have := hc9 W' hB'
          rwa [Nat.zero_add] at this
        have HFQ := Lib.hid hFq
        have hF4 : F.length ≤ 200 := by omega
        clear hoq hb4 hra hbA hFq
        by_cases hf0 : F.length = 0
        · have e0 : ¬ 0 < F.length := by omega
          have HF0 := Lib.hid hf0
          clear hf0
          go_wp2_with fail
          obtain ⟨wl2, hwl2⟩ : ∃ V, ((((w4.alloc (.cells #[.slice q F.length d] 22)).alloc (.cells #[.int .i64 0] 3)).alloc (.cells #[.int .i64 0] 3)).alloc (.cells #[.int .u64 0] 32)) = V := ⟨_, rfl⟩
          have hz2l : wl2.heap.size = w4.heap.size + 4 := by rw [← hwl2]; simp
          obtain ⟨y0, hy0⟩ : ∃ y0 : Nat, y0 = 0 := ⟨_, rfl⟩
          have HBX2 : Hid (Bx w4.heap.size (.slice q F.length d) 0 0 (y0 : Int) wl2) := by rw [hy0]; exact Lib.hid (hwl2 ▸ HBN.out 0)
          have HBL2 : Hid (Below w4.heap.size w4 wl2) := Lib.hid (hwl2 ▸ HBA.out 0)
          have HST : Hid (St F [] 0 y0) := Lib.hid (by rw [hy0]; obtain rfl := List.eq_nil_of_length_eq_zero HF0.out; exact st_start [] HF1.out)
          rw [hwl2]
          clear hwl2 HBN HBA e0 HF0
          have hB2W : Below W.heap.size W wl2 := HB4.out.trans (HBL2.out.mono hz4)
          have hBWl : Below w.heap.size w wl2 := HBW.out.trans (hB2W.mono (by omega))
          have hk1 : wl2.heap[D1]? = some (.deferred (some [])) := (hB2W.block D1 hD1l).trans HK1.out
          have hqr2 : wl2.heap[w.heap.size + 1]? = some (.cells #[.bool false] 4 (0, 0)) := (hB2W.block _ (by omega)).trans ((HB.out.block _ (by omega)).trans HQRL.out)
          have hbb2 : wl2.heap[b]? = some (.cells #[.slice pf F.length cf] 22 (0, 0)) := (hB2W.block _ (by omega)).trans ((HB.out.block _ (by omega)).trans HBBL.out)
          have hrdW : Rd W (.slice pf F.length cf) F := HRDL.out.below' (n := N8) (fun b' o' c' k' e => by have := HPF.out b' o' k' (Value.slice.inj e).1; omega) HB.out
          have hs2 := each_stops 7 w4.heap.size b F pf cf wl2 hbb2 (hrdW.below hB2W) HF1.out (by omega) (fun g o k e => by have := HPF.out g o k e; omega) (by omega)
          have HBWL2 := Lib.hid hBWl; have HK12 := Lib.hid hk1; have HQR2 := Lib.hid hqr2
          clear hB2W hBWl hk1 hqr2 hbb2 hrdW
          refine (wpIn_wide (n := 8)).1 ?_
          refine wpIn_rangeFunc_ownF (n := 8) rfl (by omega) (gf := 11) (lb := #[.pointer (some ⟨b, 0, none⟩)]) rfl trivial (enters_of Try.func11 (by kernel_rfl) rfl)
            hs2 kpE_t (kpE_b (by omega)) (Below.refl _ _) (fun x => rfl)
            (fun pre W' => (∃ i y : Nat, Bx w4.heap.size (.slice q F.length d) (i : Int) (pre.length : Int) (y : Int) W' ∧ St F (pre.map md) i y ∧ pre.length ≤ 300) ∧ Below w4.heap.size wl2 W')
            (fun c pre W' => (c = .ret ∧ Rs w.heap.size F pre W') ∧ Below w.heap.size w W' ∧ W'.heap[D1]? = some (.deferred (some [])))
            (OwnFrom.and (Own.from (fun s A B row hs hg hr => by obtain ⟨i, y, h1, h2, h3⟩ := hs; exact ⟨i, y, h1.kept hg hr, h2, h3⟩) _) (ownFrom_below (by omega) (by omega)))
            (fun c => OwnFrom.and (Own.from (fun s A B row hs hg hr => by obtain ⟨hc, r, h1, h2⟩ := hs; exact ⟨hc, Rs.of (cell_kept h1 hg hr) h2⟩) _) (OwnFrom.and (ownFrom_below (Nat.le_refl _) (by omega)) (own_obj D1 (by omega))))
            ⟨⟨0, y0, HBX2.out, HST.out, Nat.zero_le _⟩, Below.refl _ _⟩
            ?a2sz ?assign2sz ?body2sz ?done2sz ?stop2sz
          case assign2sz =>
            intro t x W' K hK
            gi_wp2
            exact hK
          case body2sz =>
            rintro t pre x W' ⟨⟨i, y, hbx, hst, hn⟩, hB2⟩ hlen
            obtain ⟨z, hz⟩ : ∃ z, md x = z := ⟨_, rfl⟩
            have hwx : IntKind.u64.wrap (x : Int) = (z : Int) := by rw [← hz]; exact wrap_md x
            have hmap : (pre ++ [x]).map md = pre.map md ++ [z] := by simp [hz]
            have hn1 : (pre.length : Int) ≤ 300 := by omega
            have hn0 : (0 : Int) ≤ (pre.length : Int) := by omega
            have hcl : ((pre ++ [x]).length : Int) = (pre.length : Int) + 1 := by simp
            have HMAP := Lib.hid hmap; have HCL := Lib.hid hcl; have HBX := Lib.hid hbx; have HS := Lib.hid hst; have HB2 := Lib.hid hB2
            have hBw : Below w.heap.size w W' := HBWL2.out.trans (hB2.mono (by omega))
            have hkw : W'.heap[D1]? = some (.deferred (some [])) := (hB2.block D1 (by omega)).trans HK12.out
            have hqw := (hB2.block (w.heap.size + 1) (by omega)).trans HQR2.out
            have cr := (cell_of_row _ _ 0 _ _ (0, 0) hqw).trans (rfl : _ = some (Value.bool false))
            have fr := frozen_of_row _ _ 0 _ _ hqw
            have HBw := Lib.hid hBw; have HKW := Lib.hid hkw
            have cfq := hbx.f; have ci := hbx.ci; have cm := hbx.cm; have ca := hbx.ca; have fi := hbx.fi; have fm := hbx.fm; have fa := hbx.fa
            have hsw : w.heap.size + 2 ≤ w4.heap.size := by omega
            have HD1 : Hid (D1 < w4.heap.size ∧ w.heap.size + 1 < D1) := Lib.hid (by omega)
            clear hmap hcl hbx hst hB2 hBw hkw hqw hz hlen
            by_cases hi : F.length ≤ i
            · have e1 : (F.length : Int) ≤ (i : Int) := by omega
              have HI := Lib.hid hi
              clear hi
              have hcz := cr
              have HBZ := HBw; have HKZ := HKW
              gi_wp2
              exact ⟨KeepsOthers.setCell _ _ _, ⟨rfl, Rs.of (r := false) (World.cell?_setCell_same' _ _ _ (by rw [hcz]; rfl)) (.inr (by rw [HMAP.out]; exact st_no HS.out (.inl HI.out)))⟩, HBZ.out.setCell (p := ⟨w.heap.size + 1, 0, none⟩) (by show w.heap.size ≤ w.heap.size + 1; omega) _, (Below.heap_setCell _ ⟨w.heap.size + 1, 0, none⟩ _ D1 (by show D1 ≠ w.heap.size + 1; have := HD1.out; omega)).trans HKZ.out⟩
            · have e1 : ¬ (F.length : Int) ≤ (i : Int) := by omega
              obtain ⟨⟨lo2, hi2⟩, hsp⟩ : ∃ s, F[i]? = some s := ⟨_, List.getElem?_eq_getElem (by omega)⟩
              by_cases hzy : z = y
              · subst hzy
                have hyb := HS.out.2.2 _ hsp
                simp only at hyb
                have hhb := (HFS.out _ (List.mem_of_getElem? hsp)).2
                rw [top_def] at hhb
                simp only at hhb
                obtain ⟨y, rfl⟩ : ∃ y, y = z := ⟨_, rfl⟩
                have ey0 : (0 : Int) ≤ (y : Int) := by omega
                have ey1 : (y : Int) < 4294967296 := by omega
                have HSP := Lib.hid hsp
                by_cases hm : 300 < pre.length + 1
                · have e4 : (300 : Int) < (pre.length : Int) + 1 := by omega
                  have hcz := cell_oth (b := w4.heap.size + 1 + 1) (u := .int .i64 ((pre.length : Int) + 1)) (show w.heap.size + 1 ≠ w4.heap.size + 1 + 1 by omega) cr
                  have HBZ := Lib.hid (HBw.out.setCell (p := ⟨w4.heap.size + 1 + 1, 0, none⟩) (by show w.heap.size ≤ w4.heap.size + 1 + 1; omega) (.int .i64 ((pre.length : Int) + 1)))
                  have HKZ := Lib.hid ((Below.heap_setCell W' ⟨w4.heap.size + 1 + 1, 0, none⟩ (.int .i64 ((pre.length : Int) + 1)) D1 (by show D1 ≠ w4.heap.size + 1 + 1; have := HD1.out; omega)).trans HKW.out)
                  clear hsp hyb hhb hm hi
                  gi_wp2
                  exact ⟨(KeepsOthers.setCell _ _ _).trans (KeepsOthers.setCell _ _ _), ⟨rfl, Rs.of (r := true) (World.cell?_setCell_same' _ _ _ (by rw [hcz]; rfl)) (.inl rfl)⟩, HBZ.out.setCell (p := ⟨w.heap.size + 1, 0, none⟩) (by show w.heap.size ≤ w.heap.size + 1; omega) _, (Below.heap_setCell _ ⟨w.heap.size + 1, 0, none⟩ _ D1 (by show D1 ≠ w.heap.size + 1; have := HD1.out; omega)).trans HKZ.out⟩
                · have e4 : ¬ (300 : Int) < (pre.length : Int) + 1 := by omega
                  obtain ⟨gq, hq9, hgq, hcs⟩ := HFQ.out i _ hsp
                  subst hq9
                  have HB3 : Hid (Bx w4.heap.size (.slice (some ⟨gq, 0, none⟩) F.length d) (i : Int) ((pre.length : Int) + 1) (((y + 1 : Nat)) : Int) ((W'.setCell ⟨w4.heap.size + 1 + 1, 0, none⟩ (.int .i64 ((pre.length : Int) + 1))).setCell ⟨w4.heap.size + 1 + 1 + 1, 0, none⟩ (.int .u64 (((y + 1 : Nat)) : Int))).drew) := Lib.hid ((HBX.out.setm _).seta _).drew
                  have HRD : Hid (Rnd w4.heap.size (w4.heap.size + 4) wl2 W' ((W'.setCell ⟨w4.heap.size + 1 + 1, 0, none⟩ (.int .i64 ((pre.length : Int) + 1))).setCell ⟨w4.heap.size + 1 + 1 + 1, 0, none⟩ (.int .u64 (((y + 1 : Nat)) : Int))).drew) := Lib.hid (((Rnd.refl HB2.out).set (b := w4.heap.size + 1 + 1) _ (by omega) (by omega)).set (b := w4.heap.size + 1 + 1 + 1) _ (by omega) (by omega)).drew
                  have hey : (((y + 1 : Nat)) : Int) = (y : Int) + 1 := by omega
                  rw [hey] at HB3 HRD
                  have ew0 : (0 : Int) ≤ (i : Int) := by omega
                  have ew1 : (i : Int) < (F.length : Int) := by omega
                  have eh0 : (0 : Int) ≤ (hi2 : Int) := by omega
                  have eh1 : (hi2 : Int) < 4294967296 := by omega
                  have c5 := (hcs _ (Below.trans HBL2.out HRD.out.bl)).2
                  simp only at c5
                  clear hsp hm hi hcs hhb
                  gi_wp2
                  refine wpInR_region_still_tail 7 (no_defers (by kernel_rfl)) (by kernel_rfl) (by kernel_rfl) ?_
                  simp only [List.take_succ_cons, List.take_zero, List.drop_succ_cons, List.drop_zero]
                  repeat still_step
                  try refine wpStill_nil ?_
                  generalize ((W'.setCell ⟨w4.heap.size + 1 + 1, 0, none⟩ (.int .i64 ((pre.length : Int) + 1))).setCell ⟨w4.heap.size + 1 + 1 + 1, 0, none⟩ (.int .u64 ((y : Int) + 1))).drew = W3 at HB3 HRD c5 ⊢
                  obtain ⟨Y, hY⟩ : ∃ Y : Int, (y : Int) + 1 = Y := ⟨_, rfl⟩
                  obtain ⟨H, hH⟩ : ∃ H : Int, (hi2 : Int) = H := ⟨_, rfl⟩
                  rw [hY] at HB3 ⊢
                  rw [show IntKind.u64.wrap (hi2 : Int) = (hi2 : Int) from by rw [wrap_md]; unfold md; rw [Nat.mod_eq_of_lt (by omega)], hH]
                  have HYY := Lib.hid hY; have HHH := Lib.hid hH
                  have hyn : y < hi2 + 1 := by omega
                  have HYN := Lib.hid hyn
                  clear hY hH hey hyb hyn eh0 eh1 ey0 ey1 c5
                  by_cases hE : y + 1 ≤ hi2
                  · have e5 : ¬ H < Y := by have := HYY.out; have := HHH.out; omega
                    have HE := Lib.hid hE
                    clear hE
                    gi_wp2
                    refine ⟨HRD.out.ko, (by first | exact HRD.out.kp | (rw [hz2l]; exact HRD.out.kp)), ⟨i, y + 1, by rw [HCL.out, show (((y + 1 : Nat)) : Int) = Y from by have := HYY.out; omega]; exact HB3.out, ?_, by simp; omega⟩, HRD.out.bl⟩
                    rw [HMAP.out]
                    exact st_on HS.out HSP.out HE.out
                  · have e5 : H < Y := by have := HYY.out; have := HHH.out; omega
                    have HE : Hid (hi2 < y + 1) := Lib.hid (by omega)
                    clear hE
                    have ci3 := HB3.out.ci; have fi3 := HB3.out.fi; have cf3 := HB3.out.f; have ca3 := HB3.out.ca; have fa3 := HB3.out.fa
                    by_cases hN : i + 1 < F.length
                    · obtain ⟨⟨lo3, hi3⟩, hsp3⟩ : ∃ s, F[i + 1]? = some s := ⟨_, List.getElem?_eq_getElem hN⟩
                      obtain ⟨g3, hq3, _, hcs3⟩ := HFQ.out (i + 1) _ hsp3
                      obtain rfl : gq = g3 := by simpa using hq3
                      have hlo3 := (HFS.out _ (List.mem_of_getElem? hsp3)).1
                      rw [top_def] at hlo3
                      simp only at hlo3
                      have e60 : (0 : Int) ≤ (lo3 : Int) := by omega
                      have e61 : (lo3 : Int) < 4294967296 := by omega
                      have e6 : (i : Int) + 1 < (F.length : Int) := by omega
                      have HR4 := Lib.hid (HRD.out.set (b := w4.heap.size + 1) (.int .i64 ((i : Int) + 1)) (by omega) (by omega))
                      have c6 := (hcs3 _ (Below.trans HBL2.out (HR4.out.bl))).1
                      have HSP3 := Lib.hid hsp3
                      clear hsp3 hcs3 hq3 hlo3
                      simp only at c6
                      clear ew1 e1 hN
                      gi_wp2
                      refine ⟨((HR4.out.set (b := w4.heap.size + 1 + 1 + 1) (.int .u64 (lo3 : Int)) (by omega) (by omega))).ko, (by first | exact ((HR4.out.set (b := w4.heap.size + 1 + 1 + 1) (.int .u64 (lo3 : Int)) (by omega) (by omega))).kp | (rw [hz2l]; exact ((HR4.out.set (b := w4.heap.size + 1 + 1 + 1) (.int .u64 (lo3 : Int)) (by omega) (by omega))).kp)), ⟨i + 1, lo3, by rw [HCL.out]; exact (HB3.out.seti ((i : Int) + 1)).seta (lo3 : Int), ?_, by simp; omega⟩, ((HR4.out.set (b := w4.heap.size + 1 + 1 + 1) (.int .u64 (lo3 : Int)) (by omega) (by omega))).bl⟩
                      rw [HMAP.out]
                      exact st_next HF1.out HS.out HSP.out HE.out (fun t ht => by rw [HSP3.out] at ht; cases ht; rfl)
                    · have e6 : ¬ (i : Int) + 1 < (F.length : Int) := by omega
                      have HNN := Lib.hid hN
                      have HR4 := Lib.hid (HRD.out.set (b := w4.heap.size + 1) (.int .i64 ((i : Int) + 1)) (by omega) (by omega))
                      clear hN
                      gi_wp2
                      refine ⟨HR4.out.ko, (by first | exact HR4.out.kp | (rw [hz2l]; exact HR4.out.kp)), ⟨i + 1, y + 1, by rw [HCL.out, show (((y + 1 : Nat)) : Int) = Y from by have := HYY.out; omega]; exact HB3.out.seti ((i : Int) + 1), ?_, by simp; omega⟩, HR4.out.bl⟩
                      rw [HMAP.out]
                      exact st_next HF1.out HS.out HSP.out HE.out (fun t ht => by have := HNN.out; have := (List.getElem?_eq_some_iff.1 ht).1; omega)
              · have e2 : ¬ (z : Int) = (y : Int) := by omega
                have HZY := Lib.hid hzy
                clear hzy hsp hi
                have hcz := cr
                have HBZ := HBw; have HKZ := HKW
                gi_wp2
                exact ⟨KeepsOthers.setCell _ _ _, ⟨rfl, Rs.of (r := false) (World.cell?_setCell_same' _ _ _ (by rw [hcz]; rfl)) (.inr (by rw [HMAP.out]; exact st_no HS.out (.inr HZY.out)))⟩, HBZ.out.setCell (p := ⟨w.heap.size + 1, 0, none⟩) (by show w.heap.size ≤ w.heap.size + 1; omega) _, (Below.heap_setCell _ ⟨w.heap.size + 1, 0, none⟩ _ D1 (by show D1 ≠ w.heap.size + 1; have := HD1.out; omega)).trans HKZ.out⟩
          case done2sz =>
            rintro D2 xs W' hD2 hxs ⟨⟨i, y, hbx, hst, hn⟩, hB2⟩ hK2
            have hie : i = F.length := by
              rw [hxs, md_all _ (nums_lt HFS.out)] at hst
              exact st_end hst
            subst hie
            have cfq := hbx.f; have ci := hbx.ci
            have hkw : W'.heap[D1]? = some (.deferred (some [])) := (hB2.block D1 (by omega)).trans HK12.out
            have hqw := (hB2.block (w.heap.size + 1) (by omega)).trans HQR2.out
            have cr := (cell_of_row _ _ 0 _ _ (0, 0) hqw).trans (rfl : _ = some (Value.bool false))
            have fr := frozen_of_row _ _ 0 _ _ hqw
            have HKW := Lib.hid hkw; have HK2 := Lib.hid hK2
            have HBw := Lib.hid (HBWL2.out.trans (hB2.mono (by omega)))
            have HC := Lib.hid cr
            have hsD : w.heap.size + 1 < D1 := by omega
            have hDD : D1 < D2 := by omega
            clear hbx hst hn hB2 hkw hqw hK2 hxs
            go_wp2_with fail
            obtain ⟨WE, hWE⟩ : ∃ WE, W'.setCell ⟨w.heap.size + 1, 0, none⟩ (.bool true) = WE := ⟨_, rfl⟩
            have hce : WE.cell? ⟨w.heap.size + 1, 0, none⟩ = some (.bool true) := by rw [← hWE]; exact World.cell?_setCell_same' _ _ _ (by rw [HC.out]; rfl)
            have e1 : WE.heap[D1]? = some (.deferred (some [])) := by rw [← hWE]; exact (Below.heap_setCell W' ⟨w.heap.size + 1, 0, none⟩ _ D1 (by show D1 ≠ w.heap.size + 1; omega)).trans HKW.out
            have e2 : WE.heap[D2]? = some (.deferred (some [])) := by rw [← hWE]; exact (Below.heap_setCell W' ⟨w.heap.size + 1, 0, none⟩ _ D2 (by show D2 ≠ w.heap.size + 1; omega)).trans HK2.out
            have hBE : Below w.heap.size w WE := by rw [← hWE]; exact HBw.out.setCell (p := ⟨w.heap.size + 1, 0, none⟩) (by show w.heap.size ≤ w.heap.size + 1; omega) _
            try rw [hWE]
            clear hWE
            obtain ⟨V2, hV2⟩ : ∃ V, WE.putObj D2 (.deferred none) = V := ⟨_, rfl⟩
            have g2 : WE.grownBy V2 (some D2) := by rw [← hV2]; exact grownBy_putObj' WE D2 _
            have x1 : V2.heap[D1]? = some (.deferred (some [])) := (g2.block D1 (Array.getElem?_eq_some_iff.1 e1).1 (by intro e; cases e; omega)).trans e1
            have xc := cell_kept hce g2 (fun r e => by cases e; exact ⟨_, e2, rfl⟩)
            have xB : Below w.heap.size w V2 := by rw [← hV2]; exact hBE.trans (belowK_b (w := w) (Nat.le_refl _) _ D2 _ _ (by omega) e2 rfl rfl)
            have yc := cell_kept xc (grownBy_putObj' V2 D1 (.deferred none)) (fun r e => by cases e; exact ⟨_, x1, rfl⟩)
            refine ⟨by simp, .inl ⟨_, V2, rfl, hV2 ▸ run_takeDeferred e2, ?_⟩⟩
            refine ⟨by simp, .inl ⟨_, _, rfl, run_takeDeferred x1, ?_⟩⟩
            refine ⟨.bool true, ?_, rfl, xB.trans (belowK_b (w := w) (Nat.le_refl _) _ D1 _ _ (by omega) x1 rfl rfl)⟩
            simp [results, Try.f3, go_sem, yc]
          case stop2sz =>
            rintro D2 c' pre WE hD2 hSp ⟨⟨rfl, r, hcr, hrr⟩, hBE, e1⟩ e2
            have hmp : pre.map md <+: nums F := by
              have h1 := hSp.map md
              rwa [md_all _ (nums_lt HFS.out)] at h1
            obtain rfl : r = true := hrr.resolve_right (fun h => h hmp)
            have hce := hcr
            have hsD : w.heap.size + 1 < D1 := by omega
            have hDD : D1 < D2 := by have := (Array.getElem?_eq_some_iff.1 e1).1; omega
            clear hrr hmp hcr
            refine wpIn_wide.2 ?_
            go_wp2_with fail
            obtain ⟨V2, hV2⟩ : ∃ V, WE.putObj D2 (.deferred none) = V := ⟨_, rfl⟩
            have g2 : WE.grownBy V2 (some D2) := by rw [← hV2]; exact grownBy_putObj' WE D2 _
            have x1 : V2.heap[D1]? = some (.deferred (some [])) := (g2.block D1 (Array.getElem?_eq_some_iff.1 e1).1 (by intro e; cases e; omega)).trans e1
            have xc := cell_kept hce g2 (fun r e => by cases e; exact ⟨_, e2, rfl⟩)
            have xB : Below w.heap.size w V2 := by rw [← hV2]; exact hBE.trans (belowK_b (w := w) (Nat.le_refl _) _ D2 _ _ (by omega) e2 rfl rfl)
            have yc := cell_kept xc (grownBy_putObj' V2 D1 (.deferred none)) (fun r e => by cases e; exact ⟨_, x1, rfl⟩)
            refine ⟨by simp, .inl ⟨_, V2, rfl, hV2 ▸ run_takeDeferred e2, ?_⟩⟩
            refine ⟨by simp, .inl ⟨_, _, rfl, run_takeDeferred x1, ?_⟩⟩
            refine ⟨.bool true, ?_, rfl, xB.trans (belowK_b (w := w) (Nat.le_refl _) _ D1 _ _ (by omega) x1 rfl rfl)⟩
            simp [results, Try.f3, go_sem, yc]
        · obtain ⟨⟨lo, hi⟩, hsp⟩ : ∃ s, F[0]? = some s := ⟨_, List.getElem?_eq_getElem (by omega)⟩
          obtain ⟨gq, rfl, hgq, hcs⟩ := HFQ.out 0 _ hsp
          have e0 : 0 < F.length := by omega
          have hlo : lo < 4294967296 := by have := (HFS.out _ (List.mem_of_getElem? hsp)).1; rwa [top_def] at this
          have hlo0 : (0 : Int) ≤ (lo : Int) := by omega
          have hlo1 : (lo : Int) < 4294967296 := by omega
          have c0 := (hcs _ (HBA.out 0)).1
          rw [Nat.zero_mul] at c0
          simp only at c0
          have HST : Hid (St F [] 0 lo) := Lib.hid (by
            have := st_start F HF1.out
            cases F with
            | nil => simp at hsp
            | cons s r => simp only [List.getElem?_cons_zero, Option.some.injEq] at hsp; subst hsp; exact this)
          clear hcs hsp hlo hf0
          have HGQ := Lib.hid hgq
          clear hgq
          go_wp2_with fail
          obtain ⟨wl2, hwl2⟩ : ∃ V, ((((w4.alloc (.cells #[.slice (some ⟨gq, 0, none⟩) F.length d] 22)).alloc (.cells #[.int .i64 0] 3)).alloc (.cells #[.int .i64 0] 3)).alloc (.cells #[.int .u64 (lo : Int)] 32)) = V := ⟨_, rfl⟩
          have hz2l : wl2.heap.size = w4.heap.size + 4 := by rw [← hwl2]; simp
          have HBX2 : Hid (Bx w4.heap.size (.slice (some ⟨gq, 0, none⟩) F.length d) 0 0 ((lo : Nat) : Int) wl2) := Lib.hid (hwl2 ▸ HBN.out (lo : Int))
          have HBL2 : Hid (Below w4.heap.size w4 wl2) := Lib.hid (hwl2 ▸ HBA.out (lo : Int))
          rw [hwl2]
          clear hwl2 HBN HBA e0 c0
          obtain ⟨y0, hy0⟩ : ∃ y0 : Nat, y0 = lo := ⟨_, rfl⟩
          rw [← hy0] at HBX2 HST
          obtain ⟨q, hq⟩ : ∃ q, q = (some ⟨gq, 0, none⟩ : Option Addr) := ⟨_, rfl⟩
          rw [← hq] at HBX2 HFQ ⊢
          clear hq hlo0 hlo1 hy0
          have hB2W : Below W.heap.size W wl2 := HB4.out.trans (HBL2.out.mono hz4)
          have hBWl : Below w.heap.size w wl2 := HBW.out.trans (hB2W.mono (by omega))
          have hk1 : wl2.heap[D1]? = some (.deferred (some [])) := (hB2W.block D1 hD1l).trans HK1.out
          have hqr2 : wl2.heap[w.heap.size + 1]? = some (.cells #[.bool false] 4 (0, 0)) := (hB2W.block _ (by omega)).trans ((HB.out.block _ (by omega)).trans HQRL.out)
          have hbb2 : wl2.heap[b]? = some (.cells #[.slice pf F.length cf] 22 (0, 0)) := (hB2W.block _ (by omega)).trans ((HB.out.block _ (by omega)).trans HBBL.out)
          have hrdW : Rd W (.slice pf F.length cf) F := HRDL.out.below' (n := N8) (fun b' o' c' k' e => by have := HPF.out b' o' k' (Value.slice.inj e).1; omega) HB.out
          have hs2 := each_stops 7 w4.heap.size b F pf cf wl2 hbb2 (hrdW.below hB2W) HF1.out (by omega) (fun g o k e => by have := HPF.out g o k e; omega) (by omega)
          have HBWL2 := Lib.hid hBWl; have HK12 := Lib.hid hk1; have HQR2 := Lib.hid hqr2
          clear hB2W hBWl hk1 hqr2 hbb2 hrdW
          refine (wpIn_wide (n := 8)).1 ?_
          refine wpIn_rangeFunc_ownF (n := 8) rfl (by omega) (gf := 11) (lb := #[.pointer (some ⟨b, 0, none⟩)]) rfl trivial (enters_of Try.func11 (by kernel_rfl) rfl)
            hs2 kpE_t (kpE_b (by omega)) (Below.refl _ _) (fun x => rfl)
            (fun pre W' => (∃ i y : Nat, Bx w4.heap.size (.slice q F.length d) (i : Int) (pre.length : Int) (y : Int) W' ∧ St F (pre.map md) i y ∧ pre.length ≤ 300) ∧ Below w4.heap.size wl2 W')
            (fun c pre W' => (c = .ret ∧ Rs w.heap.size F pre W') ∧ Below w.heap.size w W' ∧ W'.heap[D1]? = some (.deferred (some [])))
            (OwnFrom.and (Own.from (fun s A B row hs hg hr => by obtain ⟨i, y, h1, h2, h3⟩ := hs; exact ⟨i, y, h1.kept hg hr, h2, h3⟩) _) (ownFrom_below (by omega) (by omega)))
            (fun c => OwnFrom.and (Own.from (fun s A B row hs hg hr => by obtain ⟨hc, r, h1, h2⟩ := hs; exact ⟨hc, Rs.of (cell_kept h1 hg hr) h2⟩) _) (OwnFrom.and (ownFrom_below (Nat.le_refl _) (by omega)) (own_obj D1 (by omega))))
            ⟨⟨0, y0, HBX2.out, HST.out, Nat.zero_le _⟩, Below.refl _ _⟩
            ?a2sp ?assign2sp ?body2sp ?done2sp ?stop2sp
          case assign2sp =>
            intro t x W' K hK
            gi_wp2
            exact hK
          case body2sp =>
            rintro t pre x W' ⟨⟨i, y, hbx, hst, hn⟩, hB2⟩ hlen
            obtain ⟨z, hz⟩ : ∃ z, md x = z := ⟨_, rfl⟩
            have hwx : IntKind.u64.wrap (x : Int) = (z : Int) := by rw [← hz]; exact wrap_md x
            have hmap : (pre ++ [x]).map md = pre.map md ++ [z] := by simp [hz]
            have hn1 : (pre.length : Int) ≤ 300 := by omega
            have hn0 : (0 : Int) ≤ (pre.length : Int) := by omega
            have hcl : ((pre ++ [x]).length : Int) = (pre.length : Int) + 1 := by simp
            have HMAP := Lib.hid hmap; have HCL := Lib.hid hcl; have HBX := Lib.hid hbx; have HS := Lib.hid hst; have HB2 := Lib.hid hB2
            have hBw : Below w.heap.size w W' := HBWL2.out.trans (hB2.mono (by omega))
            have hkw : W'.heap[D1]? = some (.deferred (some [])) := (hB2.block D1 (by omega)).trans HK12.out
            have hqw := (hB2.block (w.heap.size + 1) (by omega)).trans HQR2.out
            have cr := (cell_of_row _ _ 0 _ _ (0, 0) hqw).trans (rfl : _ = some (Value.bool false))
            have fr := frozen_of_row _ _ 0 _ _ hqw
            have HBw := Lib.hid hBw; have HKW := Lib.hid hkw
            have cfq := hbx.f; have ci := hbx.ci; have cm := hbx.cm; have ca := hbx.ca; have fi := hbx.fi; have fm := hbx.fm; have fa := hbx.fa
            have hsw : w.heap.size + 2 ≤ w4.heap.size := by omega
            have HD1 : Hid (D1 < w4.heap.size ∧ w.heap.size + 1 < D1) := Lib.hid (by omega)
            clear hmap hcl hbx hst hB2 hBw hkw hqw hz hlen
            by_cases hi : F.length ≤ i
            · have e1 : (F.length : Int) ≤ (i : Int) := by omega
              have HI := Lib.hid hi
              clear hi
              have hcz := cr
              have HBZ := HBw; have HKZ := HKW
              gi_wp2
              exact ⟨KeepsOthers.setCell _ _ _, ⟨rfl, Rs.of (r := false) (World.cell?_setCell_same' _ _ _ (by rw [hcz]; rfl)) (.inr (by rw [HMAP.out]; exact st_no HS.out (.inl HI.out)))⟩, HBZ.out.setCell (p := ⟨w.heap.size + 1, 0, none⟩) (by show w.heap.size ≤ w.heap.size + 1; omega) _, (Below.heap_setCell _ ⟨w.heap.size + 1, 0, none⟩ _ D1 (by show D1 ≠ w.heap.size + 1; have := HD1.out; omega)).trans HKZ.out⟩
            · have e1 : ¬ (F.length : Int) ≤ (i : Int) := by omega
              obtain ⟨⟨lo2, hi2⟩, hsp⟩ : ∃ s, F[i]? = some s := ⟨_, List.getElem?_eq_getElem (by omega)⟩
              by_cases hzy : z = y
              · subst hzy
                have hyb := HS.out.2.2 _ hsp
                simp only at hyb
                have hhb := (HFS.out _ (List.mem_of_getElem? hsp)).2
                rw [top_def] at hhb
                simp only at hhb
                obtain ⟨y, rfl⟩ : ∃ y, y = z := ⟨_, rfl⟩
                have ey0 : (0 : Int) ≤ (y : Int) := by omega
                have ey1 : (y : Int) < 4294967296 := by omega
                have HSP := Lib.hid hsp
                by_cases hm : 300 < pre.length + 1
                · have e4 : (300 : Int) < (pre.length : Int) + 1 := by omega
                  have hcz := cell_oth (b := w4.heap.size + 1 + 1) (u := .int .i64 ((pre.length : Int) + 1)) (show w.heap.size + 1 ≠ w4.heap.size + 1 + 1 by omega) cr
                  have HBZ := Lib.hid (HBw.out.setCell (p := ⟨w4.heap.size + 1 + 1, 0, none⟩) (by show w.heap.size ≤ w4.heap.size + 1 + 1; omega) (.int .i64 ((pre.length : Int) + 1)))
                  have HKZ := Lib.hid ((Below.heap_setCell W' ⟨w4.heap.size + 1 + 1, 0, none⟩ (.int .i64 ((pre.length : Int) + 1)) D1 (by show D1 ≠ w4.heap.size + 1 + 1; have := HD1.out; omega)).trans HKW.out)
                  clear hsp hyb hhb hm hi
                  gi_wp2
                  exact ⟨(KeepsOthers.setCell _ _ _).trans (KeepsOthers.setCell _ _ _), ⟨rfl, Rs.of (r := true) (World.cell?_setCell_same' _ _ _ (by rw [hcz]; rfl)) (.inl rfl)⟩, HBZ.out.setCell (p := ⟨w.heap.size + 1, 0, none⟩) (by show w.heap.size ≤ w.heap.size + 1; omega) _, (Below.heap_setCell _ ⟨w.heap.size + 1, 0, none⟩ _ D1 (by show D1 ≠ w.heap.size + 1; have := HD1.out; omega)).trans HKZ.out⟩
                · have e4 : ¬ (300 : Int) < (pre.length : Int) + 1 := by omega
                  obtain ⟨gq, hq9, hgq, hcs⟩ := HFQ.out i _ hsp
                  subst hq9
                  have HB3 : Hid (Bx w4.heap.size (.slice (some ⟨gq, 0, none⟩) F.length d) (i : Int) ((pre.length : Int) + 1) (((y + 1 : Nat)) : Int) ((W'.setCell ⟨w4.heap.size + 1 + 1, 0, none⟩ (.int .i64 ((pre.length : Int) + 1))).setCell ⟨w4.heap.size + 1 + 1 + 1, 0, none⟩ (.int .u64 (((y + 1 : Nat)) : Int))).drew) := Lib.hid ((HBX.out.setm _).seta _).drew
                  have HRD : Hid (Rnd w4.heap.size (w4.heap.size + 4) wl2 W' ((W'.setCell ⟨w4.heap.size + 1 + 1, 0, none⟩ (.int .i64 ((pre.length : Int) + 1))).setCell ⟨w4.heap.size + 1 + 1 + 1, 0, none⟩ (.int .u64 (((y + 1 : Nat)) : Int))).drew) := Lib.hid (((Rnd.refl HB2.out).set (b := w4.heap.size + 1 + 1) _ (by omega) (by omega)).set (b := w4.heap.size + 1 + 1 + 1) _ (by omega) (by omega)).drew
                  have hey : (((y + 1 : Nat)) : Int) = (y : Int) + 1 := by omega
                  rw [hey] at HB3 HRD
                  have ew0 : (0 : Int) ≤ (i : Int) := by omega
                  have ew1 : (i : Int) < (F.length : Int) := by omega
                  have eh0 : (0 : Int) ≤ (hi2 : Int) := by omega
                  have eh1 : (hi2 : Int) < 4294967296 := by omega
                  have c5 := (hcs _ (Below.trans HBL2.out HRD.out.bl)).2
                  simp only at c5
                  clear hsp hm hi hcs hhb
                  gi_wp2
                  refine wpInR_region_still_tail 7 (no_defers (by kernel_rfl)) (by kernel_rfl) (by kernel_rfl) ?_
                  simp only [List.take_succ_cons, List.take_zero, List.drop_succ_cons, List.drop_zero]
                  repeat still_step
                  try refine wpStill_nil ?_
                  generalize ((W'.setCell ⟨w4.heap.size + 1 + 1, 0, none⟩ (.int .i64 ((pre.length : Int) + 1))).setCell ⟨w4.heap.size + 1 + 1 + 1, 0, none⟩ (.int .u64 ((y : Int) + 1))).drew = W3 at HB3 HRD c5 ⊢
                  obtain ⟨Y, hY⟩ : ∃ Y : Int, (y : Int) + 1 = Y := ⟨_, rfl⟩
                  obtain ⟨H, hH⟩ : ∃ H : Int, (hi2 : Int) = H := ⟨_, rfl⟩
                  rw [hY] at HB3 ⊢
                  rw [show IntKind.u64.wrap (hi2 : Int) = (hi2 : Int) from by rw [wrap_md]; unfold md; rw [Nat.mod_eq_of_lt (by omega)], hH]
                  have HYY := Lib.hid hY; have HHH := Lib.hid hH
                  have hyn : y < hi2 + 1 := by omega
                  have HYN := Lib.hid hyn
                  clear hY hH hey hyb hyn eh0 eh1 ey0 ey1 c5
                  by_cases hE : y + 1 ≤ hi2
                  · have e5 : ¬ H < Y := by have := HYY.out; have := HHH.out; omega
                    have HE := Lib.hid hE
                    clear hE
                    gi_wp2
                    refine ⟨HRD.out.ko, (by first | exact HRD.out.kp | (rw [hz2l]; exact HRD.out.kp)), ⟨i, y + 1, by rw [HCL.out, show (((y + 1 : Nat)) : Int) = Y from by have := HYY.out; omega]; exact HB3.out, ?_, by simp; omega⟩, HRD.out.bl⟩
                    rw [HMAP.out]
                    exact st_on HS.out HSP.out HE.out
                  · have e5 : H < Y := by have := HYY.out; have := HHH.out; omega
                    have HE : Hid (hi2 < y + 1) := Lib.hid (by omega)
                    clear hE
                    have ci3 := HB3.out.ci; have fi3 := HB3.out.fi; have cf3 := HB3.out.f; have ca3 := HB3.out.ca; have fa3 := HB3.out.fa
                    by_cases hN : i + 1 < F.length
                    · obtain ⟨⟨lo3, hi3⟩, hsp3⟩ : ∃ s, F[i + 1]? = some s := ⟨_, List.getElem?_eq_getElem hN⟩
                      obtain ⟨g3, hq3, _, hcs3⟩ := HFQ.out (i + 1) _ hsp3
                      obtain rfl : gq = g3 := by simpa using hq3
                      have hlo3 := (HFS.out _ (List.mem_of_getElem? hsp3)).1
                      rw [top_def] at hlo3
                      simp only at hlo3
                      have e60 : (0 : Int) ≤ (lo3 : Int) := by omega
                      have e61 : (lo3 : Int) < 4294967296 := by omega
                      have e6 : (i : Int) + 1 < (F.length : Int) := by omega
                      have HR4 := Lib.hid (HRD.out.set (b := w4.heap.size + 1) (.int .i64 ((i : Int) + 1)) (by omega) (by omega))
                      have c6 := (hcs3 _ (Below.trans HBL2.out (HR4.out.bl))).1
                      have HSP3 := Lib.hid hsp3
                      clear hsp3 hcs3 hq3 hlo3
                      simp only at c6
                      clear ew1 e1 hN
                      gi_wp2
                      refine ⟨((HR4.out.set (b := w4.heap.size + 1 + 1 + 1) (.int .u64 (lo3 : Int)) (by omega) (by omega))).ko, (by first | exact ((HR4.out.set (b := w4.heap.size + 1 + 1 + 1) (.int .u64 (lo3 : Int)) (by omega) (by omega))).kp | (rw [hz2l]; exact ((HR4.out.set (b := w4.heap.size + 1 + 1 + 1) (.int .u64 (lo3 : Int)) (by omega) (by omega))).kp)), ⟨i + 1, lo3, by rw [HCL.out]; exact (HB3.out.seti ((i : Int) + 1)).seta (lo3 : Int), ?_, by simp; omega⟩, ((HR4.out.set (b := w4.heap.size + 1 + 1 + 1) (.int .u64 (lo3 : Int)) (by omega) (by omega))).bl⟩
                      rw [HMAP.out]
                      exact st_next HF1.out HS.out HSP.out HE.out (fun t ht => by rw [HSP3.out] at ht; cases ht; rfl)
                    · have e6 : ¬ (i : Int) + 1 < (F.length : Int) := by omega
                      have HNN := Lib.hid hN
                      have HR4 := Lib.hid (HRD.out.set (b := w4.heap.size + 1) (.int .i64 ((i : Int) + 1)) (by omega) (by omega))
                      clear hN
                      gi_wp2
                      refine ⟨HR4.out.ko, (by first | exact HR4.out.kp | (rw [hz2l]; exact HR4.out.kp)), ⟨i + 1, y + 1, by rw [HCL.out, show (((y + 1 : Nat)) : Int) = Y from by have := HYY.out; omega]; exact HB3.out.seti ((i : Int) + 1), ?_, by simp; omega⟩, HR4.out.bl⟩
                      rw [HMAP.out]
                      exact st_next HF1.out HS.out HSP.out HE.out (fun t ht => by have := HNN.out; have := (List.getElem?_eq_some_iff.1 ht).1; omega)
              · have e2 : ¬ (z : Int) = (y : Int) := by omega
                have HZY := Lib.hid hzy
                clear hzy hsp hi
                have hcz := cr
                have HBZ := HBw; have HKZ := HKW
                gi_wp2
                exact ⟨KeepsOthers.setCell _ _ _, ⟨rfl, Rs.of (r := false) (World.cell?_setCell_same' _ _ _ (by rw [hcz]; rfl)) (.inr (by rw [HMAP.out]; exact st_no HS.out (.inr HZY.out)))⟩, HBZ.out.setCell (p := ⟨w.heap.size + 1, 0, none⟩) (by show w.heap.size ≤ w.heap.size + 1; omega) _, (Below.heap_setCell _ ⟨w.heap.size + 1, 0, none⟩ _ D1 (by show D1 ≠ w.heap.size + 1; have := HD1.out; omega)).trans HKZ.out⟩
          case done2sp =>
            rintro D2 xs W' hD2 hxs ⟨⟨i, y, hbx, hst, hn⟩, hB2⟩ hK2
            have hie : i = F.length := by
              rw [hxs, md_all _ (nums_lt HFS.out)] at hst
              exact st_end hst
            subst hie
            have cfq := hbx.f; have ci := hbx.ci
            have hkw : W'.heap[D1]? = some (.deferred (some [])) := (hB2.block D1 (by omega)).trans HK12.out
            have hqw := (hB2.block (w.heap.size + 1) (by omega)).trans HQR2.out
            have cr := (cell_of_row _ _ 0 _ _ (0, 0) hqw).trans (rfl : _ = some (Value.bool false))
            have fr := frozen_of_row _ _ 0 _ _ hqw
            have HKW := Lib.hid hkw; have HK2 := Lib.hid hK2
            have HBw := Lib.hid (HBWL2.out.trans (hB2.mono (by omega)))
            have HC := Lib.hid cr
            have hsD : w.heap.size + 1 < D1 := by omega
            have hDD : D1 < D2 := by omega
            clear hbx hst hn hB2 hkw hqw hK2 hxs
            go_wp2_with fail
            obtain ⟨WE, hWE⟩ : ∃ WE, W'.setCell ⟨w.heap.size + 1, 0, none⟩ (.bool true) = WE := ⟨_, rfl⟩
            have hce : WE.cell? ⟨w.heap.size + 1, 0, none⟩ = some (.bool true) := by rw [← hWE]; exact World.cell?_setCell_same' _ _ _ (by rw [HC.out]; rfl)
            have e1 : WE.heap[D1]? = some (.deferred (some [])) := by rw [← hWE]; exact (Below.heap_setCell W' ⟨w.heap.size + 1, 0, none⟩ _ D1 (by show D1 ≠ w.heap.size + 1; omega)).trans HKW.out
            have e2 : WE.heap[D2]? = some (.deferred (some [])) := by rw [← hWE]; exact (Below.heap_setCell W' ⟨w.heap.size + 1, 0, none⟩ _ D2 (by show D2 ≠ w.heap.size + 1; omega)).trans HK2.out
            have hBE : Below w.heap.size w WE := by rw [← hWE]; exact HBw.out.setCell (p := ⟨w.heap.size + 1, 0, none⟩) (by show w.heap.size ≤ w.heap.size + 1; omega) _
            try rw [hWE]
            clear hWE
            obtain ⟨V2, hV2⟩ : ∃ V, WE.putObj D2 (.deferred none) = V := ⟨_, rfl⟩
            have g2 : WE.grownBy V2 (some D2) := by rw [← hV2]; exact grownBy_putObj' WE D2 _
            have x1 : V2.heap[D1]? = some (.deferred (some [])) := (g2.block D1 (Array.getElem?_eq_some_iff.1 e1).1 (by intro e; cases e; omega)).trans e1
            have xc := cell_kept hce g2 (fun r e => by cases e; exact ⟨_, e2, rfl⟩)
            have xB : Below w.heap.size w V2 := by rw [← hV2]; exact hBE.trans (belowK_b (w := w) (Nat.le_refl _) _ D2 _ _ (by omega) e2 rfl rfl)
            have yc := cell_kept xc (grownBy_putObj' V2 D1 (.deferred none)) (fun r e => by cases e; exact ⟨_, x1, rfl⟩)
            refine ⟨by simp, .inl ⟨_, V2, rfl, hV2 ▸ run_takeDeferred e2, ?_⟩⟩
            refine ⟨by simp, .inl ⟨_, _, rfl, run_takeDeferred x1, ?_⟩⟩
            refine ⟨.bool true, ?_, rfl, xB.trans (belowK_b (w := w) (Nat.le_refl _) _ D1 _ _ (by omega) x1 rfl rfl)⟩
            simp [results, Try.f3, go_sem, yc]
          case stop2sp =>
            rintro D2 c' pre WE hD2 hSp ⟨⟨rfl, r, hcr, hrr⟩, hBE, e1⟩ e2
            have hmp : pre.map md <+: nums F := by
              have h1 := hSp.map md
              rwa [md_all _ (nums_lt HFS.out)] at h1
            obtain rfl : r = true := hrr.resolve_right (fun h => h hmp)
            have hce := hcr
            have hsD : w.heap.size + 1 < D1 := by omega
            have hDD : D1 < D2 := by have := (Array.getElem?_eq_some_iff.1 e1).1; omega
            clear hrr hmp hcr
            refine wpIn_wide.2 ?_
            go_wp2_with fail
            obtain ⟨V2, hV2⟩ : ∃ V, WE.putObj D2 (.deferred none) = V := ⟨_, rfl⟩
            have g2 : WE.grownBy V2 (some D2) := by rw [← hV2]; exact grownBy_putObj' WE D2 _
            have x1 : V2.heap[D1]? = some (.deferred (some [])) := (g2.block D1 (Array.getElem?_eq_some_iff.1 e1).1 (by intro e; cases e; omega)).trans e1
            have xc := cell_kept hce g2 (fun r e => by cases e; exact ⟨_, e2, rfl⟩)
            have xB : Below w.heap.size w V2 := by rw [← hV2]; exact hBE.trans (belowK_b (w := w) (Nat.le_refl _) _ D2 _ _ (by omega) e2 rfl rfl)
            have yc := cell_kept xc (grownBy_putObj' V2 D1 (.deferred none)) (fun r e => by cases e; exact ⟨_, x1, rfl⟩)
            refine ⟨by simp, .inl ⟨_, V2, rfl, hV2 ▸ run_takeDeferred e2, ?_⟩⟩
            refine ⟨by simp, .inl ⟨_, _, rfl, run_takeDeferred x1, ?_⟩⟩
            refine ⟨.bool true, ?_, rfl, xB.trans (belowK_b (w := w) (Nat.le_refl _) _ D1 _ _ (by omega) x1 rfl rfl)⟩
            simp [results, Try.f3, go_sem, yc]
      case done1 =>
        rintro D1 ys' W hD1 _ ⟨_, hB⟩ hK1
        have hzW := hB.size
        have hD1l : D1 < W.heap.size := (Array.getElem?_eq_some_iff.1 hK1).1
        have hBW : Below w.heap.size w W := HBWL.out.trans (hB.mono (by omega))
        have hra : Rd W (.slice p l.length c) l := HR.out.below hBW
        have HK1 := Lib.hid hK1; have HB := Lib.hid hB; have HBW := Lib.hid hBW
        clear hK1 hB hBW
        go_wp2_with fail
        go_at_call 7
        (with_reducible refine (rform_is l _ W hra (by omega)).mono ?_)
        rintro e w4 ⟨vq, rfl, hoq, hb4⟩
        rw [HFE.out] at hoq
        obtain ⟨q, d, rfl⟩ := own_spans hoq.2
        have HB4 := Lib.hid hb4; have HRQ := Lib.hid hoq.rd
        have hz4 := hb4.size
        have hzl2 : w.heap.size + 2 ≤ W.heap.size := by omega
        have HBN := Lib.hid (fun y => Bx.new w4 (.slice q F.length d) 22 y)
        have hbA : ∀ y : Int, Below w4.heap.size w4 ((((w4.alloc (.cells #[.slice q F.length d] 22)).alloc (.cells #[.int .i64 0] 3)).alloc (.cells #[.int .i64 0] 3)).alloc (.cells #[.int .u64 y] 32)) := fun y => ((((Below.refl _ _).alloc (Nat.le_refl _) _).alloc (by simp) _).alloc (by simp; omega) _).alloc (by simp; omega) _
        have HBA := Lib.hid hbA
        have hFq : ∀ i s, F[i]? = some s → ∃ g, q = some ⟨g, 0, none⟩ ∧ g < w4.heap.size ∧ ∀ W', Below w4.heap.size w4 W' → W'.cell? ⟨g, i * 2, none⟩ = some (.int .u32 s.1) ∧ W'.cell? ⟨g, i * 2 + 1, none⟩ = some (.int .u32 s.2) := by
          intro i s hi
          have hil := (List.getElem?_eq_some_iff.1 hi).1
          obtain ⟨g, c9, hsl, _, _⟩ := hoq.2.form (by omega)
          obtain ⟨rfl, rfl⟩ : q = some ⟨g, 0, none⟩ ∧ d = c9 := by simpa using hsl
          obtain ⟨q2, d2, e2, _, _, hat⟩ := HRQ.out.sl
          obtain ⟨rfl, rfl⟩ : some ⟨g, 0, none⟩ = q2 ∧ d = d2 := by simpa using e2
          obtain ⟨b9, o9, e9, h9, _, _, hc9⟩ := hat i s hi
          obtain ⟨rfl, rfl⟩ : g = b9 ∧ 0 = o9 := by simpa using e9
          refine ⟨g, rfl, h9, fun W' hB' => ?_⟩
          have := hc9 W' hB'
          rwa [Nat.zero_add] at this
        have HFQ := Lib.hid hFq
        have hF4 : F.length ≤ 200 := by omega
        clear hoq hb4 hra hbA hFq
        by_cases hf0 : F.length = 0
        · have e0 : ¬ 0 < F.length := by omega
          have HF0 := Lib.hid hf0
          clear hf0
          go_wp2_with fail
          obtain ⟨wl2, hwl2⟩ : ∃ V, ((((w4.alloc (.cells #[.slice q F.length d] 22)).alloc (.cells #[.int .i64 0] 3)).alloc (.cells #[.int .i64 0] 3)).alloc (.cells #[.int .u64 0] 32)) = V := ⟨_, rfl⟩
          have hz2l : wl2.heap.size = w4.heap.size + 4 := by rw [← hwl2]; simp
          obtain ⟨y0, hy0⟩ : ∃ y0 : Nat, y0 = 0 := ⟨_, rfl⟩
          have HBX2 : Hid (Bx w4.heap.size (.slice q F.length d) 0 0 (y0 : Int) wl2) := by rw [hy0]; exact Lib.hid (hwl2 ▸ HBN.out 0)
          have HBL2 : Hid (Below w4.heap.size w4 wl2) := Lib.hid (hwl2 ▸ HBA.out 0)
          have HST : Hid (St F [] 0 y0) := Lib.hid (by rw [hy0]; obtain rfl := List.eq_nil_of_length_eq_zero HF0.out; exact st_start [] HF1.out)
          rw [hwl2]
          clear hwl2 HBN HBA e0 HF0
          have hB2W : Below W.heap.size W wl2 := HB4.out.trans (HBL2.out.mono hz4)
          have hBWl : Below w.heap.size w wl2 := HBW.out.trans (hB2W.mono (by omega))
          have hk1 : wl2.heap[D1]? = some (.deferred (some [])) := (hB2W.block D1 hD1l).trans HK1.out
          have hqr2 : wl2.heap[w.heap.size + 1]? = some (.cells #[.bool false] 4 (0, 0)) := (hB2W.block _ (by omega)).trans ((HB.out.block _ (by omega)).trans HQRL.out)
          have hbb2 : wl2.heap[b]? = some (.cells #[.slice pf F.length cf] 22 (0, 0)) := (hB2W.block _ (by omega)).trans ((HB.out.block _ (by omega)).trans HBBL.out)
          have hrdW : Rd W (.slice pf F.length cf) F := HRDL.out.below' (n := N8) (fun b' o' c' k' e => by have := HPF.out b' o' k' (Value.slice.inj e).1; omega) HB.out
          have hs2 := each_stops 7 w4.heap.size b F pf cf wl2 hbb2 (hrdW.below hB2W) HF1.out (by omega) (fun g o k e => by have := HPF.out g o k e; omega) (by omega)
          have HBWL2 := Lib.hid hBWl; have HK12 := Lib.hid hk1; have HQR2 := Lib.hid hqr2
          clear hB2W hBWl hk1 hqr2 hbb2 hrdW
          refine (wpIn_wide (n := 8)).1 ?_
          refine wpIn_rangeFunc_ownF (n := 8) rfl (by omega) (gf := 11) (lb := #[.pointer (some ⟨b, 0, none⟩)]) rfl trivial (enters_of Try.func11 (by kernel_rfl) rfl)
            hs2 kpE_t (kpE_b (by omega)) (Below.refl _ _) (fun x => rfl)
            (fun pre W' => (∃ i y : Nat, Bx w4.heap.size (.slice q F.length d) (i : Int) (pre.length : Int) (y : Int) W' ∧ St F (pre.map md) i y ∧ pre.length ≤ 300) ∧ Below w4.heap.size wl2 W')
            (fun c pre W' => (c = .ret ∧ Rs w.heap.size F pre W') ∧ Below w.heap.size w W' ∧ W'.heap[D1]? = some (.deferred (some [])))
            (OwnFrom.and (Own.from (fun s A B row hs hg hr => by obtain ⟨i, y, h1, h2, h3⟩ := hs; exact ⟨i, y, h1.kept hg hr, h2, h3⟩) _) (ownFrom_below (by omega) (by omega)))
            (fun c => OwnFrom.and (Own.from (fun s A B row hs hg hr => by obtain ⟨hc, r, h1, h2⟩ := hs; exact ⟨hc, Rs.of (cell_kept h1 hg hr) h2⟩) _) (OwnFrom.and (ownFrom_below (Nat.le_refl _) (by omega)) (own_obj D1 (by omega))))
            ⟨⟨0, y0, HBX2.out, HST.out, Nat.zero_le _⟩, Below.refl _ _⟩
            ?a2dz ?assign2dz ?body2dz ?done2dz ?stop2dz
          case assign2dz =>
            intro t x W' K hK
            gi_wp2
            exact hK
          case body2dz =>
            rintro t pre x W' ⟨⟨i, y, hbx, hst, hn⟩, hB2⟩ hlen
            obtain ⟨z, hz⟩ : ∃ z, md x = z := ⟨_, rfl⟩
            have hwx : IntKind.u64.wrap (x : Int) = (z : Int) := by rw [← hz]; exact wrap_md x
            have hmap : (pre ++ [x]).map md = pre.map md ++ [z] := by simp [hz]
            have hn1 : (pre.length : Int) ≤ 300 := by omega
            have hn0 : (0 : Int) ≤ (pre.length : Int) := by omega
            have hcl : ((pre ++ [x]).length : Int) = (pre.length : Int) + 1 := by simp
            have HMAP := Lib.hid hmap; have HCL := Lib.hid hcl; have HBX := Lib.hid hbx; have HS := Lib.hid hst; have HB2 := Lib.hid hB2
            have hBw : Below w.heap.size w W' := HBWL2.out.trans (hB2.mono (by omega))
            have hkw : W'.heap[D1]? = some (.deferred (some [])) := (hB2.block D1 (by omega)).trans HK12.out
            have hqw := (hB2.block (w.heap.size + 1) (by omega)).trans HQR2.out
            have cr := (cell_of_row _ _ 0 _ _ (0, 0) hqw).trans (rfl : _ = some (Value.bool false))
            have fr := frozen_of_row _ _ 0 _ _ hqw
            have HBw := Lib.hid hBw; have HKW := Lib.hid hkw
            have cfq := hbx.f; have ci := hbx.ci; have cm := hbx.cm; have ca := hbx.ca; have fi := hbx.fi; have fm := hbx.fm; have fa := hbx.fa
            have hsw : w.heap.size + 2 ≤ w4.heap.size := by omega
            have HD1 : Hid (D1 < w4.heap.size ∧ w.heap.size + 1 < D1) := Lib.hid (by omega)
            clear hmap hcl hbx hst hB2 hBw hkw hqw hz hlen
            by_cases hi : F.length ≤ i
            · have e1 : (F.length : Int) ≤ (i : Int) := by omega
              have HI := Lib.hid hi
              clear hi
              have hcz := cr
              have HBZ := HBw; have HKZ := HKW
              gi_wp2
              exact ⟨KeepsOthers.setCell _ _ _, ⟨rfl, Rs.of (r := false) (World.cell?_setCell_same' _ _ _ (by rw [hcz]; rfl)) (.inr (by rw [HMAP.out]; exact st_no HS.out (.inl HI.out)))⟩, HBZ.out.setCell (p := ⟨w.heap.size + 1, 0, none⟩) (by show w.heap.size ≤ w.heap.size + 1; omega) _, (Below.heap_setCell _ ⟨w.heap.size + 1, 0, none⟩ _ D1 (by show D1 ≠ w.heap.size + 1; have := HD1.out; omega)).trans HKZ.out⟩
            · have e1 : ¬ (F.length : Int) ≤ (i : Int) := by omega
              obtain ⟨⟨lo2, hi2⟩, hsp⟩ : ∃ s, F[i]? = some s := ⟨_, List.getElem?_eq_getElem (by omega)⟩
              by_cases hzy : z = y
              · subst hzy
                have hyb := HS.out.2.2 _ hsp
                simp only at hyb
                have hhb := (HFS.out _ (List.mem_of_getElem? hsp)).2
                rw [top_def] at hhb
                simp only at hhb
                obtain ⟨y, rfl⟩ : ∃ y, y = z := ⟨_, rfl⟩
                have ey0 : (0 : Int) ≤ (y : Int) := by omega
                have ey1 : (y : Int) < 4294967296 := by omega
                have HSP := Lib.hid hsp
                by_cases hm : 300 < pre.length + 1
                · have e4 : (300 : Int) < (pre.length : Int) + 1 := by omega
                  have hcz := cell_oth (b := w4.heap.size + 1 + 1) (u := .int .i64 ((pre.length : Int) + 1)) (show w.heap.size + 1 ≠ w4.heap.size + 1 + 1 by omega) cr
                  have HBZ := Lib.hid (HBw.out.setCell (p := ⟨w4.heap.size + 1 + 1, 0, none⟩) (by show w.heap.size ≤ w4.heap.size + 1 + 1; omega) (.int .i64 ((pre.length : Int) + 1)))
                  have HKZ := Lib.hid ((Below.heap_setCell W' ⟨w4.heap.size + 1 + 1, 0, none⟩ (.int .i64 ((pre.length : Int) + 1)) D1 (by show D1 ≠ w4.heap.size + 1 + 1; have := HD1.out; omega)).trans HKW.out)
                  clear hsp hyb hhb hm hi
                  gi_wp2
                  exact ⟨(KeepsOthers.setCell _ _ _).trans (KeepsOthers.setCell _ _ _), ⟨rfl, Rs.of (r := true) (World.cell?_setCell_same' _ _ _ (by rw [hcz]; rfl)) (.inl rfl)⟩, HBZ.out.setCell (p := ⟨w.heap.size + 1, 0, none⟩) (by show w.heap.size ≤ w.heap.size + 1; omega) _, (Below.heap_setCell _ ⟨w.heap.size + 1, 0, none⟩ _ D1 (by show D1 ≠ w.heap.size + 1; have := HD1.out; omega)).trans HKZ.out⟩
                · have e4 : ¬ (300 : Int) < (pre.length : Int) + 1 := by omega
                  obtain ⟨gq, hq9, hgq, hcs⟩ := HFQ.out i _ hsp
                  subst hq9
                  have HB3 : Hid (Bx w4.heap.size (.slice (some ⟨gq, 0, none⟩) F.length d) (i : Int) ((pre.length : Int) + 1) (((y + 1 : Nat)) : Int) ((W'.setCell ⟨w4.heap.size + 1 + 1, 0, none⟩ (.int .i64 ((pre.length : Int) + 1))).setCell ⟨w4.heap.size + 1 + 1 + 1, 0, none⟩ (.int .u64 (((y + 1 : Nat)) : Int))).drew) := Lib.hid ((HBX.out.setm _).seta _).drew
                  have HRD : Hid (Rnd w4.heap.size (w4.heap.size + 4) wl2 W' ((W'.setCell ⟨w4.heap.size + 1 + 1, 0, none⟩ (.int .i64 ((pre.length : Int) + 1))).setCell ⟨w4.heap.size + 1 + 1 + 1, 0, none⟩ (.int .u64 (((y + 1 : Nat)) : Int))).drew) := Lib.hid (((Rnd.refl HB2.out).set (b := w4.heap.size + 1 + 1) _ (by omega) (by omega)).set (b := w4.heap.size + 1 + 1 + 1) _ (by omega) (by omega)).drew
                  have hey : (((y + 1 : Nat)) : Int) = (y : Int) + 1 := by omega
                  rw [hey] at HB3 HRD
                  have ew0 : (0 : Int) ≤ (i : Int) := by omega
                  have ew1 : (i : Int) < (F.length : Int) := by omega
                  have eh0 : (0 : Int) ≤ (hi2 : Int) := by omega
                  have eh1 : (hi2 : Int) < 4294967296 := by omega
                  have c5 := (hcs _ (Below.trans HBL2.out HRD.out.bl)).2
                  simp only at c5
                  clear hsp hm hi hcs hhb
                  gi_wp2
                  refine wpInR_region_still_tail 7 (no_defers (by kernel_rfl)) (by kernel_rfl) (by kernel_rfl) ?_
                  simp only [List.take_succ_cons, List.take_zero, List.drop_succ_cons, List.drop_zero]
                  repeat still_step
                  try refine wpStill_nil ?_
                  generalize ((W'.setCell ⟨w4.heap.size + 1 + 1, 0, none⟩ (.int .i64 ((pre.length : Int) + 1))).setCell ⟨w4.heap.size + 1 + 1 + 1, 0, none⟩ (.int .u64 ((y : Int) + 1))).drew = W3 at HB3 HRD c5 ⊢
                  obtain ⟨Y, hY⟩ : ∃ Y : Int, (y : Int) + 1 = Y := ⟨_, rfl⟩
                  obtain ⟨H, hH⟩ : ∃ H : Int, (hi2 : Int) = H := ⟨_, rfl⟩
                  rw [hY] at HB3 ⊢
                  rw [show IntKind.u64.wrap (hi2 : Int) = (hi2 : Int) from by rw [wrap_md]; unfold md; rw [Nat.mod_eq_of_lt (by omega)], hH]
                  have HYY := Lib.hid hY; have HHH := Lib.hid hH
                  have hyn : y < hi2 + 1 := by omega
                  have HYN := Lib.hid hyn
                  clear hY hH hey hyb hyn eh0 eh1 ey0 ey1 c5
                  by_cases hE : y + 1 ≤ hi2
                  · have e5 : ¬ H < Y := by have := HYY.out; have := HHH.out; omega
                    have HE := Lib.hid hE
                    clear hE
                    gi_wp2
                    refine ⟨HRD.out.ko, (by first | exact HRD.out.kp | (rw [hz2l]; exact HRD.out.kp)), ⟨i, y + 1, by rw [HCL.out, show (((y + 1 : Nat)) : Int) = Y from by have := HYY.out; omega]; exact HB3.out, ?_, by simp; omega⟩, HRD.out.bl⟩
                    rw [HMAP.out]
                    exact st_on HS.out HSP.out HE.out
                  · have e5 : H < Y := by have := HYY.out; have := HHH.out; omega
                    have HE : Hid (hi2 < y + 1) := Lib.hid (by omega)
                    clear hE
                    have ci3 := HB3.out.ci; have fi3 := HB3.out.fi; have cf3 := HB3.out.f; have ca3 := HB3.out.ca; have fa3 := HB3.out.fa
                    by_cases hN : i + 1 < F.length
                    · obtain ⟨⟨lo3, hi3⟩, hsp3⟩ : ∃ s, F[i + 1]? = some s := ⟨_, List.getElem?_eq_getElem hN⟩
                      obtain ⟨g3, hq3, _, hcs3⟩ := HFQ.out (i + 1) _ hsp3
                      obtain rfl : gq = g3 := by simpa using hq3
                      have hlo3 := (HFS.out _ (List.mem_of_getElem? hsp3)).1
                      rw [top_def] at hlo3
                      simp only at hlo3
                      have e60 : (0 : Int) ≤ (lo3 : Int) := by omega
                      have e61 : (lo3 : Int) < 4294967296 := by omega
                      have e6 : (i : Int) + 1 < (F.length : Int) := by omega
                      have HR4 := Lib.hid (HRD.out.set (b := w4.heap.size + 1) (.int .i64 ((i : Int) + 1)) (by omega) (by omega))
                      have c6 := (hcs3 _ (Below.trans HBL2.out (HR4.out.bl))).1
                      have HSP3 := Lib.hid hsp3
                      clear hsp3 hcs3 hq3 hlo3
                      simp only at c6
                      clear ew1 e1 hN
                      gi_wp2
                      refine ⟨((HR4.out.set (b := w4.heap.size + 1 + 1 + 1) (.int .u64 (lo3 : Int)) (by omega) (by omega))).ko, (by first | exact ((HR4.out.set (b := w4.heap.size + 1 + 1 + 1) (.int .u64 (lo3 : Int)) (by omega) (by omega))).kp | (rw [hz2l]; exact ((HR4.out.set (b := w4.heap.size + 1 + 1 + 1) (.int .u64 (lo3 : Int)) (by omega) (by omega))).kp)), ⟨i + 1, lo3, by rw [HCL.out]; exact (HB3.out.seti ((i : Int) + 1)).seta (lo3 : Int), ?_, by simp; omega⟩, ((HR4.out.set (b := w4.heap.size + 1 + 1 + 1) (.int .u64 (lo3 : Int)) (by omega) (by omega))).bl⟩
                      rw [HMAP.out]
                      exact st_next HF1.out HS.out HSP.out HE.out (fun t ht => by rw [HSP3.out] at ht; cases ht; rfl)
                    · have e6 : ¬ (i : Int) + 1 < (F.length : Int) := by omega
                      have HNN := Lib.hid hN
                      have HR4 := Lib.hid (HRD.out.set (b := w4.heap.size + 1) (.int .i64 ((i : Int) + 1)) (by omega) (by omega))
                      clear hN
                      gi_wp2
                      refine ⟨HR4.out.ko, (by first | exact HR4.out.kp | (rw [hz2l]; exact HR4.out.kp)), ⟨i + 1, y + 1, by rw [HCL.out, show (((y + 1 : Nat)) : Int) = Y from by have := HYY.out; omega]; exact HB3.out.seti ((i : Int) + 1), ?_, by simp; omega⟩, HR4.out.bl⟩
                      rw [HMAP.out]
                      exact st_next HF1.out HS.out HSP.out HE.out (fun t ht => by have := HNN.out; have := (List.getElem?_eq_some_iff.1 ht).1; omega)
              · have e2 : ¬ (z : Int) = (y : Int) := by omega
                have HZY := Lib.hid hzy
                clear hzy hsp hi
                have hcz := cr
                have HBZ := HBw; have HKZ := HKW
                gi_wp2
                exact ⟨KeepsOthers.setCell _ _ _, ⟨rfl, Rs.of (r := false) (World.cell?_setCell_same' _ _ _ (by rw [hcz]; rfl)) (.inr (by rw [HMAP.out]; exact st_no HS.out (.inr HZY.out)))⟩, HBZ.out.setCell (p := ⟨w.heap.size + 1, 0, none⟩) (by show w.heap.size ≤ w.heap.size + 1; omega) _, (Below.heap_setCell _ ⟨w.heap.size + 1, 0, none⟩ _ D1 (by show D1 ≠ w.heap.size + 1; have := HD1.out; omega)).trans HKZ.out⟩
          case done2dz =>
            rintro D2 xs W' hD2 hxs ⟨⟨i, y, hbx, hst, hn⟩, hB2⟩ hK2
            have hie : i = F.length := by
              rw [hxs, md_all _ (nums_lt HFS.out)] at hst
              exact st_end hst
            subst hie
            have cfq := hbx.f; have ci := hbx.ci
            have hkw : W'.heap[D1]? = some (.deferred (some [])) := (hB2.block D1 (by omega)).trans HK12.out
            have hqw := (hB2.block (w.heap.size + 1) (by omega)).trans HQR2.out
            have cr := (cell_of_row _ _ 0 _ _ (0, 0) hqw).trans (rfl : _ = some (Value.bool false))
            have fr := frozen_of_row _ _ 0 _ _ hqw
            have HKW := Lib.hid hkw; have HK2 := Lib.hid hK2
            have HBw := Lib.hid (HBWL2.out.trans (hB2.mono (by omega)))
            have HC := Lib.hid cr
            have hsD : w.heap.size + 1 < D1 := by omega
            have hDD : D1 < D2 := by omega
            clear hbx hst hn hB2 hkw hqw hK2 hxs
            go_wp2_with fail
            obtain ⟨WE, hWE⟩ : ∃ WE, W'.setCell ⟨w.heap.size + 1, 0, none⟩ (.bool true) = WE := ⟨_, rfl⟩
            have hce : WE.cell? ⟨w.heap.size + 1, 0, none⟩ = some (.bool true) := by rw [← hWE]; exact World.cell?_setCell_same' _ _ _ (by rw [HC.out]; rfl)
            have e1 : WE.heap[D1]? = some (.deferred (some [])) := by rw [← hWE]; exact (Below.heap_setCell W' ⟨w.heap.size + 1, 0, none⟩ _ D1 (by show D1 ≠ w.heap.size + 1; omega)).trans HKW.out
            have e2 : WE.heap[D2]? = some (.deferred (some [])) := by rw [← hWE]; exact (Below.heap_setCell W' ⟨w.heap.size + 1, 0, none⟩ _ D2 (by show D2 ≠ w.heap.size + 1; omega)).trans HK2.out
            have hBE : Below w.heap.size w WE := by rw [← hWE]; exact HBw.out.setCell (p := ⟨w.heap.size + 1, 0, none⟩) (by show w.heap.size ≤ w.heap.size + 1; omega) _
            try rw [hWE]
            clear hWE
            obtain ⟨V2, hV2⟩ : ∃ V, WE.putObj D2 (.deferred none) = V := ⟨_, rfl⟩
            have g2 : WE.grownBy V2 (some D2) := by rw [← hV2]; exact grownBy_putObj' WE D2 _
            have x1 : V2.heap[D1]? = some (.deferred (some [])) := (g2.block D1 (Array.getElem?_eq_some_iff.1 e1).1 (by intro e; cases e; omega)).trans e1
            have xc := cell_kept hce g2 (fun r e => by cases e; exact ⟨_, e2, rfl⟩)
            have xB : Below w.heap.size w V2 := by rw [← hV2]; exact hBE.trans (belowK_b (w := w) (Nat.le_refl _) _ D2 _ _ (by omega) e2 rfl rfl)
            have yc := cell_kept xc (grownBy_putObj' V2 D1 (.deferred none)) (fun r e => by cases e; exact ⟨_, x1, rfl⟩)
            refine ⟨by simp, .inl ⟨_, V2, rfl, hV2 ▸ run_takeDeferred e2, ?_⟩⟩
            refine ⟨by simp, .inl ⟨_, _, rfl, run_takeDeferred x1, ?_⟩⟩
            refine ⟨.bool true, ?_, rfl, xB.trans (belowK_b (w := w) (Nat.le_refl _) _ D1 _ _ (by omega) x1 rfl rfl)⟩
            simp [results, Try.f3, go_sem, yc]
          case stop2dz =>
            rintro D2 c' pre WE hD2 hSp ⟨⟨rfl, r, hcr, hrr⟩, hBE, e1⟩ e2
            have hmp : pre.map md <+: nums F := by
              have h1 := hSp.map md
              rwa [md_all _ (nums_lt HFS.out)] at h1
            obtain rfl : r = true := hrr.resolve_right (fun h => h hmp)
            have hce := hcr
            have hsD : w.heap.size + 1 < D1 := by omega
            have hDD : D1 < D2 := by have := (Array.getElem?_eq_some_iff.1 e1).1; omega
            clear hrr hmp hcr
            refine wpIn_wide.2 ?_
            go_wp2_with fail
            obtain ⟨V2, hV2⟩ : ∃ V, WE.putObj D2 (.deferred none) = V := ⟨_, rfl⟩
            have g2 : WE.grownBy V2 (some D2) := by rw [← hV2]; exact grownBy_putObj' WE D2 _
            have x1 : V2.heap[D1]? = some (.deferred (some [])) := (g2.block D1 (Array.getElem?_eq_some_iff.1 e1).1 (by intro e; cases e; omega)).trans e1
            have xc := cell_kept hce g2 (fun r e => by cases e; exact ⟨_, e2, rfl⟩)
            have xB : Below w.heap.size w V2 := by rw [← hV2]; exact hBE.trans (belowK_b (w := w) (Nat.le_refl _) _ D2 _ _ (by omega) e2 rfl rfl)
            have yc := cell_kept xc (grownBy_putObj' V2 D1 (.deferred none)) (fun r e => by cases e; exact ⟨_, x1, rfl⟩)
            refine ⟨by simp, .inl ⟨_, V2, rfl, hV2 ▸ run_takeDeferred e2, ?_⟩⟩
            refine ⟨by simp, .inl ⟨_, _, rfl, run_takeDeferred x1, ?_⟩⟩
            refine ⟨.bool true, ?_, rfl, xB.trans (belowK_b (w := w) (Nat.le_refl _) _ D1 _ _ (by omega) x1 rfl rfl)⟩
            simp [results, Try.f3, go_sem, yc]
        · obtain ⟨⟨lo, hi⟩, hsp⟩ : ∃ s, F[0]? = some s := ⟨_, List.getElem?_eq_getElem (by omega)⟩
          obtain ⟨gq, rfl, hgq, hcs⟩ := HFQ.out 0 _ hsp
          have e0 : 0 < F.length := by omega
          have hlo : lo < 4294967296 := by have := (HFS.out _ (List.mem_of_getElem? hsp)).1; rwa [top_def] at this
          have hlo0 : (0 : Int) ≤ (lo : Int) := by omega
          have hlo1 : (lo : Int) < 4294967296 := by omega
          have c0 := (hcs _ (HBA.out 0)).1
          rw [Nat.zero_mul] at c0
          simp only at c0
          have HST : Hid (St F [] 0 lo) := Lib.hid (by
            have := st_start F HF1.out
            cases F with
            | nil => simp at hsp
            | cons s r => simp only [List.getElem?_cons_zero, Option.some.injEq] at hsp; subst hsp; exact this)
          clear hcs hsp hlo hf0
          have HGQ := Lib.hid hgq
          clear hgq
          go_wp2_with fail
          obtain ⟨wl2, hwl2⟩ : ∃ V, ((((w4.alloc (.cells #[.slice (some ⟨gq, 0, none⟩) F.length d] 22)).alloc (.cells #[.int .i64 0] 3)).alloc (.cells #[.int .i64 0] 3)).alloc (.cells #[.int .u64 (lo : Int)] 32)) = V := ⟨_, rfl⟩
          have hz2l : wl2.heap.size = w4.heap.size + 4 := by rw [← hwl2]; simp
          have HBX2 : Hid (Bx w4.heap.size (.slice (some ⟨gq, 0, none⟩) F.length d) 0 0 ((lo : Nat) : Int) wl2) := Lib.hid (hwl2 ▸ HBN.out (lo : Int))
          have HBL2 : Hid (Below w4.heap.size w4 wl2) := Lib.hid (hwl2 ▸ HBA.out (lo : Int))
          rw [hwl2]
          clear hwl2 HBN HBA e0 c0
          obtain ⟨y0, hy0⟩ : ∃ y0 : Nat, y0 = lo := ⟨_, rfl⟩
          rw [← hy0] at HBX2 HST
          obtain ⟨q, hq⟩ : ∃ q, q = (some ⟨gq, 0, none⟩ : Option Addr) := ⟨_, rfl⟩
          rw [← hq] at HBX2 HFQ ⊢
          clear hq hlo0 hlo1 hy0
          have hB2W : Below W.heap.size W wl2 := HB4.out.trans (HBL2.out.mono hz4)
          have hBWl : Below w.heap.size w wl2 := HBW.out.trans (hB2W.mono (by omega))
          have hk1 : wl2.heap[D1]? = some (.deferred (some [])) := (hB2W.block D1 hD1l).trans HK1.out
          have hqr2 : wl2.heap[w.heap.size + 1]? = some (.cells #[.bool false] 4 (0, 0)) := (hB2W.block _ (by omega)).trans ((HB.out.block _ (by omega)).trans HQRL.out)
          have hbb2 : wl2.heap[b]? = some (.cells #[.slice pf F.length cf] 22 (0, 0)) := (hB2W.block _ (by omega)).trans ((HB.out.block _ (by omega)).trans HBBL.out)
          have hrdW : Rd W (.slice pf F.length cf) F := HRDL.out.below' (n := N8) (fun b' o' c' k' e => by have := HPF.out b' o' k' (Value.slice.inj e).1; omega) HB.out
          have hs2 := each_stops 7 w4.heap.size b F pf cf wl2 hbb2 (hrdW.below hB2W) HF1.out (by omega) (fun g o k e => by have := HPF.out g o k e; omega) (by omega)
          have HBWL2 := Lib.hid hBWl; have HK12 := Lib.hid hk1; have HQR2 := Lib.hid hqr2
          clear hB2W hBWl hk1 hqr2 hbb2 hrdW
          refine (wpIn_wide (n := 8)).1 ?_
          refine wpIn_rangeFunc_ownF (n := 8) rfl (by omega) (gf := 11) (lb := #[.pointer (some ⟨b, 0, none⟩)]) rfl trivial (enters_of Try.func11 (by kernel_rfl) rfl)
            hs2 kpE_t (kpE_b (by omega)) (Below.refl _ _) (fun x => rfl)
            (fun pre W' => (∃ i y : Nat, Bx w4.heap.size (.slice q F.length d) (i : Int) (pre.length : Int) (y : Int) W' ∧ St F (pre.map md) i y ∧ pre.length ≤ 300) ∧ Below w4.heap.size wl2 W')
            (fun c pre W' => (c = .ret ∧ Rs w.heap.size F pre W') ∧ Below w.heap.size w W' ∧ W'.heap[D1]? = some (.deferred (some [])))
            (OwnFrom.and (Own.from (fun s A B row hs hg hr => by obtain ⟨i, y, h1, h2, h3⟩ := hs; exact ⟨i, y, h1.kept hg hr, h2, h3⟩) _) (ownFrom_below (by omega) (by omega)))
            (fun c => OwnFrom.and (Own.from (fun s A B row hs hg hr => by obtain ⟨hc, r, h1, h2⟩ := hs; exact ⟨hc, Rs.of (cell_kept h1 hg hr) h2⟩) _) (OwnFrom.and (ownFrom_below (Nat.le_refl _) (by omega)) (own_obj D1 (by omega))))
            ⟨⟨0, y0, HBX2.out, HST.out, Nat.zero_le _⟩, Below.refl _ _⟩
            ?a2dp ?assign2dp ?body2dp ?done2dp ?stop2dp
          case assign2dp =>
            intro t x W' K hK
            gi_wp2
            exact hK
          case body2dp =>
            rintro t pre x W' ⟨⟨i, y, hbx, hst, hn⟩, hB2⟩ hlen
            obtain ⟨z, hz⟩ : ∃ z, md x = z := ⟨_, rfl⟩
            have hwx : IntKind.u64.wrap (x : Int) = (z : Int) := by rw [← hz]; exact wrap_md x
            have hmap : (pre ++ [x]).map md = pre.map md ++ [z] := by simp [hz]
            have hn1 : (pre.length : Int) ≤ 300 := by omega
            have hn0 : (0 : Int) ≤ (pre.length : Int) := by omega
            have hcl : ((pre ++ [x]).length : Int) = (pre.length : Int) + 1 := by simp
            have HMAP := Lib.hid hmap; have HCL := Lib.hid hcl; have HBX := Lib.hid hbx; have HS := Lib.hid hst; have HB2 := Lib.hid hB2
            have hBw : Below w.heap.size w W' := HBWL2.out.trans (hB2.mono (by omega))
            have hkw : W'.heap[D1]? = some (.deferred (some [])) := (hB2.block D1 (by omega)).trans HK12.out
            have hqw := (hB2.block (w.heap.size + 1) (by omega)).trans HQR2.out
            have cr := (cell_of_row _ _ 0 _ _ (0, 0) hqw).trans (rfl : _ = some (Value.bool false))
            have fr := frozen_of_row _ _ 0 _ _ hqw
            have HBw := Lib.hid hBw; have HKW := Lib.hid hkw
            have cfq := hbx.f; have ci := hbx.ci; have cm := hbx.cm; have ca := hbx.ca; have fi := hbx.fi; have fm := hbx.fm; have fa := hbx.fa
            have hsw : w.heap.size + 2 ≤ w4.heap.size := by omega
            have HD1 : Hid (D1 < w4.heap.size ∧ w.heap.size + 1 < D1) := Lib.hid (by omega)
            clear hmap hcl hbx hst hB2 hBw hkw hqw hz hlen
            by_cases hi : F.length ≤ i
            · have e1 : (F.length : Int) ≤ (i : Int) := by omega
              have HI := Lib.hid hi
              clear hi
              have hcz := cr
              have HBZ := HBw; have HKZ := HKW
              gi_wp2
              exact ⟨KeepsOthers.setCell _ _ _, ⟨rfl, Rs.of (r := false) (World.cell?_setCell_same' _ _ _ (by rw [hcz]; rfl)) (.inr (by rw [HMAP.out]; exact st_no HS.out (.inl HI.out)))⟩, HBZ.out.setCell (p := ⟨w.heap.size + 1, 0, none⟩) (by show w.heap.size ≤ w.heap.size + 1; omega) _, (Below.heap_setCell _ ⟨w.heap.size + 1, 0, none⟩ _ D1 (by show D1 ≠ w.heap.size + 1; have := HD1.out; omega)).trans HKZ.out⟩
            · have e1 : ¬ (F.length : Int) ≤ (i : Int) := by omega
              obtain ⟨⟨lo2, hi2⟩, hsp⟩ : ∃ s, F[i]? = some s := ⟨_, List.getElem?_eq_getElem (by omega)⟩
              by_cases hzy : z = y
              · subst hzy
                have hyb := HS.out.2.2 _ hsp
                simp only at hyb
                have hhb := (HFS.out _ (List.mem_of_getElem? hsp)).2
                rw [top_def] at hhb
                simp only at hhb
                obtain ⟨y, rfl⟩ : ∃ y, y = z := ⟨_, rfl⟩
                have ey0 : (0 : Int) ≤ (y : Int) := by omega
                have ey1 : (y : Int) < 4294967296 := by omega
                have HSP := Lib.hid hsp
                by_cases hm : 300 < pre.length + 1
                · have e4 : (300 : Int) < (pre.length : Int) + 1 := by omega
                  have hcz := cell_oth (b := w4.heap.size + 1 + 1) (u := .int .i64 ((pre.length : Int) + 1)) (show w.heap.size + 1 ≠ w4.heap.size + 1 + 1 by omega) cr
                  have HBZ := Lib.hid (HBw.out.setCell (p := ⟨w4.heap.size + 1 + 1, 0, none⟩) (by show w.heap.size ≤ w4.heap.size + 1 + 1; omega) (.int .i64 ((pre.length : Int) + 1)))
                  have HKZ := Lib.hid ((Below.heap_setCell W' ⟨w4.heap.size + 1 + 1, 0, none⟩ (.int .i64 ((pre.length : Int) + 1)) D1 (by show D1 ≠ w4.heap.size + 1 + 1; have := HD1.out; omega)).trans HKW.out)
                  clear hsp hyb hhb hm hi
                  gi_wp2
                  exact ⟨(KeepsOthers.setCell _ _ _).trans (KeepsOthers.setCell _ _ _), ⟨rfl, Rs.of (r := true) (World.cell?_setCell_same' _ _ _ (by rw [hcz]; rfl)) (.inl rfl)⟩, HBZ.out.setCell (p := ⟨w.heap.size + 1, 0, none⟩) (by show w.heap.size ≤ w.heap.size + 1; omega) _, (Below.heap_setCell _ ⟨w.heap.size + 1, 0, none⟩ _ D1 (by show D1 ≠ w.heap.size + 1; have := HD1.out; omega)).trans HKZ.out⟩
                · have e4 : ¬ (300 : Int) < (pre.length : Int) + 1 := by omega
                  obtain ⟨gq, hq9, hgq, hcs⟩ := HFQ.out i _ hsp
                  subst hq9
                  have HB3 : Hid (Bx w4.heap.size (.slice (some ⟨gq, 0, none⟩) F.length d) (i : Int) ((pre.length : Int) + 1) (((y + 1 : Nat)) : Int) ((W'.setCell ⟨w4.heap.size + 1 + 1, 0, none⟩ (.int .i64 ((pre.length : Int) + 1))).setCell ⟨w4.heap.size + 1 + 1 + 1, 0, none⟩ (.int .u64 (((y + 1 : Nat)) : Int))).drew) := Lib.hid ((HBX.out.setm _).seta _).drew
                  have HRD : Hid (Rnd w4.heap.size (w4.heap.size + 4) wl2 W' ((W'.setCell ⟨w4.heap.size + 1 + 1, 0, none⟩ (.int .i64 ((pre.length : Int) + 1))).setCell ⟨w4.heap.size + 1 + 1 + 1, 0, none⟩ (.int .u64 (((y + 1 : Nat)) : Int))).drew) := Lib.hid (((Rnd.refl HB2.out).set (b := w4.heap.size + 1 + 1) _ (by omega) (by omega)).set (b := w4.heap.size + 1 + 1 + 1) _ (by omega) (by omega)).drew
                  have hey : (((y + 1 : Nat)) : Int) = (y : Int) + 1 := by omega
                  rw [hey] at HB3 HRD
                  have ew0 : (0 : Int) ≤ (i : Int) := by omega
                  have ew1 : (i : Int) < (F.length : Int) := by omega
                  have eh0 : (0 : Int) ≤ (hi2 : Int) := by omega
                  have eh1 : (hi2 : Int) < 4294967296 := by omega
                  have c5 := (hcs _ (Below.trans HBL2.out HRD.out.bl)).2
                  simp only at c5
                  clear hsp hm hi hcs hhb
                  gi_wp2
                  refine wpInR_region_still_tail 7 (no_defers (by kernel_rfl)) (by kernel_rfl) (by kernel_rfl) ?_
                  simp only [List.take_succ_cons, List.take_zero, List.drop_succ_cons, List.drop_zero]
                  repeat still_step
                  try refine wpStill_nil ?_
                  generalize ((W'.setCell ⟨w4.heap.size + 1 + 1, 0, none⟩ (.int .i64 ((pre.length : Int) + 1))).setCell ⟨w4.heap.size + 1 + 1 + 1, 0, none⟩ (.int .u64 ((y : Int) + 1))).drew = W3 at HB3 HRD c5 ⊢
                  obtain ⟨Y, hY⟩ : ∃ Y : Int, (y : Int) + 1 = Y := ⟨_, rfl⟩
                  obtain ⟨H, hH⟩ : ∃ H : Int, (hi2 : Int) = H := ⟨_, rfl⟩
                  rw [hY] at HB3 ⊢
                  rw [show IntKind.u64.wrap (hi2 : Int) = (hi2 : Int) from by rw [wrap_md]; unfold md; rw [Nat.mod_eq_of_lt (by omega)], hH]
                  have HYY := Lib.hid hY; have HHH := Lib.hid hH
                  have hyn : y < hi2 + 1 := by omega
                  have HYN := Lib.hid hyn
                  clear hY hH hey hyb hyn eh0 eh1 ey0 ey1 c5
                  by_cases hE : y + 1 ≤ hi2
                  · have e5 : ¬ H < Y := by have := HYY.out; have := HHH.out; omega
                    have HE := Lib.hid hE
                    clear hE
                    gi_wp2
                    refine ⟨HRD.out.ko, (by first | exact HRD.out.kp | (rw [hz2l]; exact HRD.out.kp)), ⟨i, y + 1, by rw [HCL.out, show (((y + 1 : Nat)) : Int) = Y from by have := HYY.out; omega]; exact HB3.out, ?_, by simp; omega⟩, HRD.out.bl⟩
                    rw [HMAP.out]
                    exact st_on HS.out HSP.out HE.out
                  · have e5 : H < Y := by have := HYY.out; have := HHH.out; omega
                    have HE : Hid (hi2 < y + 1) := Lib.hid (by omega)
                    clear hE
                    have ci3 := HB3.out.ci; have fi3 := HB3.out.fi; have cf3 := HB3.out.f; have ca3 := HB3.out.ca; have fa3 := HB3.out.fa
                    by_cases hN : i + 1 < F.length
                    · obtain ⟨⟨lo3, hi3⟩, hsp3⟩ : ∃ s, F[i + 1]? = some s := ⟨_, List.getElem?_eq_getElem hN⟩
                      obtain ⟨g3, hq3, _, hcs3⟩ := HFQ.out (i + 1) _ hsp3
                      obtain rfl : gq = g3 := by simpa using hq3
                      have hlo3 := (HFS.out _ (List.mem_of_getElem? hsp3)).1
                      rw [top_def] at hlo3
                      simp only at hlo3
                      have e60 : (0 : Int) ≤ (lo3 : Int) := by omega
                      have e61 : (lo3 : Int) < 4294967296 := by omega
                      have e6 : (i : Int) + 1 < (F.length : Int) := by omega
                      have HR4 := Lib.hid (HRD.out.set (b := w4.heap.size + 1) (.int .i64 ((i : Int) + 1)) (by omega) (by omega))
                      have c6 := (hcs3 _ (Below.trans HBL2.out (HR4.out.bl))).1
                      have HSP3 := Lib.hid hsp3
                      clear hsp3 hcs3 hq3 hlo3
                      simp only at c6
                      clear ew1 e1 hN
                      gi_wp2
                      refine ⟨((HR4.out.set (b := w4.heap.size + 1 + 1 + 1) (.int .u64 (lo3 : Int)) (by omega) (by omega))).ko, (by first | exact ((HR4.out.set (b := w4.heap.size + 1 + 1 + 1) (.int .u64 (lo3 : Int)) (by omega) (by omega))).kp | (rw [hz2l]; exact ((HR4.out.set (b := w4.heap.size + 1 + 1 + 1) (.int .u64 (lo3 : Int)) (by omega) (by omega))).kp)), ⟨i + 1, lo3, by rw [HCL.out]; exact (HB3.out.seti ((i : Int) + 1)).seta (lo3 : Int), ?_, by simp; omega⟩, ((HR4.out.set (b := w4.heap.size + 1 + 1 + 1) (.int .u64 (lo3 : Int)) (by omega) (by omega))).bl⟩
                      rw [HMAP.out]
                      exact st_next HF1.out HS.out HSP.out HE.out (fun t ht => by rw [HSP3.out] at ht; cases ht; rfl)
                    · have e6 : ¬ (i : Int) + 1 < (F.length : Int) := by omega
                      have HNN := Lib.hid hN
                      have HR4 := Lib.hid (HRD.out.set (b := w4.heap.size + 1) (.int .i64 ((i : Int) + 1)) (by omega) (by omega))
                      clear hN
                      gi_wp2
                      refine ⟨HR4.out.ko, (by first | exact HR4.out.kp | (rw [hz2l]; exact HR4.out.kp)), ⟨i + 1, y + 1, by rw [HCL.out, show (((y + 1 : Nat)) : Int) = Y from by have := HYY.out; omega]; exact HB3.out.seti ((i : Int) + 1), ?_, by simp; omega⟩, HR4.out.bl⟩
                      rw [HMAP.out]
                      exact st_next HF1.out HS.out HSP.out HE.out (fun t ht => by have := HNN.out; have := (List.getElem?_eq_some_iff.1 ht).1; omega)
              · have e2 : ¬ (z : Int) = (y : Int) := by omega
                have HZY := Lib.hid hzy
                clear hzy hsp hi
                have hcz := cr
                have HBZ := HBw; have HKZ := HKW
                gi_wp2
                exact ⟨KeepsOthers.setCell _ _ _, ⟨rfl, Rs.of (r := false) (World.cell?_setCell_same' _ _ _ (by rw [hcz]; rfl)) (.inr (by rw [HMAP.out]; exact st_no HS.out (.inr HZY.out)))⟩, HBZ.out.setCell (p := ⟨w.heap.size + 1, 0, none⟩) (by show w.heap.size ≤ w.heap.size + 1; omega) _, (Below.heap_setCell _ ⟨w.heap.size + 1, 0, none⟩ _ D1 (by show D1 ≠ w.heap.size + 1; have := HD1.out; omega)).trans HKZ.out⟩
          case done2dp =>
            rintro D2 xs W' hD2 hxs ⟨⟨i, y, hbx, hst, hn⟩, hB2⟩ hK2
            have hie : i = F.length := by
              rw [hxs, md_all _ (nums_lt HFS.out)] at hst
              exact st_end hst
            subst hie
            have cfq := hbx.f; have ci := hbx.ci
            have hkw : W'.heap[D1]? = some (.deferred (some [])) := (hB2.block D1 (by omega)).trans HK12.out
            have hqw := (hB2.block (w.heap.size + 1) (by omega)).trans HQR2.out
            have cr := (cell_of_row _ _ 0 _ _ (0, 0) hqw).trans (rfl : _ = some (Value.bool false))
            have fr := frozen_of_row _ _ 0 _ _ hqw
            have HKW := Lib.hid hkw; have HK2 := Lib.hid hK2
            have HBw := Lib.hid (HBWL2.out.trans (hB2.mono (by omega)))
            have HC := Lib.hid cr
            have hsD : w.heap.size + 1 < D1 := by omega
            have hDD : D1 < D2 := by omega
            clear hbx hst hn hB2 hkw hqw hK2 hxs
            go_wp2_with fail
            obtain ⟨WE, hWE⟩ : ∃ WE, W'.setCell ⟨w.heap.size + 1, 0, none⟩ (.bool true) = WE := ⟨_, rfl⟩
            have hce : WE.cell? ⟨w.heap.size + 1, 0, none⟩ = some (.bool true) := by rw [← hWE]; exact World.cell?_setCell_same' _ _ _ (by rw [HC.out]; rfl)
            have e1 : WE.heap[D1]? = some (.deferred (some [])) := by rw [← hWE]; exact (Below.heap_setCell W' ⟨w.heap.size + 1, 0, none⟩ _ D1 (by show D1 ≠ w.heap.size + 1; omega)).trans HKW.out
            have e2 : WE.heap[D2]? = some (.deferred (some [])) := by rw [← hWE]; exact (Below.heap_setCell W' ⟨w.heap.size + 1, 0, none⟩ _ D2 (by show D2 ≠ w.heap.size + 1; omega)).trans HK2.out
            have hBE : Below w.heap.size w WE := by rw [← hWE]; exact HBw.out.setCell (p := ⟨w.heap.size + 1, 0, none⟩) (by show w.heap.size ≤ w.heap.size + 1; omega) _
            try rw [hWE]
            clear hWE
            obtain ⟨V2, hV2⟩ : ∃ V, WE.putObj D2 (.deferred none) = V := ⟨_, rfl⟩
            have g2 : WE.grownBy V2 (some D2) := by rw [← hV2]; exact grownBy_putObj' WE D2 _
            have x1 : V2.heap[D1]? = some (.deferred (some [])) := (g2.block D1 (Array.getElem?_eq_some_iff.1 e1).1 (by intro e; cases e; omega)).trans e1
            have xc := cell_kept hce g2 (fun r e => by cases e; exact ⟨_, e2, rfl⟩)
            have xB : Below w.heap.size w V2 := by rw [← hV2]; exact hBE.trans (belowK_b (w := w) (Nat.le_refl _) _ D2 _ _ (by omega) e2 rfl rfl)
            have yc := cell_kept xc (grownBy_putObj' V2 D1 (.deferred none)) (fun r e => by cases e; exact ⟨_, x1, rfl⟩)
            refine ⟨by simp, .inl ⟨_, V2, rfl, hV2 ▸ run_takeDeferred e2, ?_⟩⟩
            refine ⟨by simp, .inl ⟨_, _, rfl, run_takeDeferred x1, ?_⟩⟩
            refine ⟨.bool true, ?_, rfl, xB.trans (belowK_b (w := w) (Nat.le_refl _) _ D1 _ _ (by omega) x1 rfl rfl)⟩
            simp [results, Try.f3, go_sem, yc]
          case stop2dp =>
            rintro D2 c' pre WE hD2 hSp ⟨⟨rfl, r, hcr, hrr⟩, hBE, e1⟩ e2
            have hmp : pre.map md <+: nums F := by
              have h1 := hSp.map md
              rwa [md_all _ (nums_lt HFS.out)] at h1
            obtain rfl : r = true := hrr.resolve_right (fun h => h hmp)
            have hce := hcr
            have hsD : w.heap.size + 1 < D1 := by omega
            have hDD : D1 < D2 := by have := (Array.getElem?_eq_some_iff.1 e1).1; omega
            clear hrr hmp hcr
            refine wpIn_wide.2 ?_
            go_wp2_with fail
            obtain ⟨V2, hV2⟩ : ∃ V, WE.putObj D2 (.deferred none) = V := ⟨_, rfl⟩
            have g2 : WE.grownBy V2 (some D2) := by rw [← hV2]; exact grownBy_putObj' WE D2 _
            have x1 : V2.heap[D1]? = some (.deferred (some [])) := (g2.block D1 (Array.getElem?_eq_some_iff.1 e1).1 (by intro e; cases e; omega)).trans e1
            have xc := cell_kept hce g2 (fun r e => by cases e; exact ⟨_, e2, rfl⟩)
            have xB : Below w.heap.size w V2 := by rw [← hV2]; exact hBE.trans (belowK_b (w := w) (Nat.le_refl _) _ D2 _ _ (by omega) e2 rfl rfl)
            have yc := cell_kept xc (grownBy_putObj' V2 D1 (.deferred none)) (fun r e => by cases e; exact ⟨_, x1, rfl⟩)
            refine ⟨by simp, .inl ⟨_, V2, rfl, hV2 ▸ run_takeDeferred e2, ?_⟩⟩
            refine ⟨by simp, .inl ⟨_, _, rfl, run_takeDeferred x1, ?_⟩⟩
            refine ⟨.bool true, ?_, rfl, xB.trans (belowK_b (w := w) (Nat.le_refl _) _ D1 _ _ (by omega) x1 rfl rfl)⟩
            simp [results, Try.f3, go_sem, yc]
end Go.Proofs.Ytnlmploeildapaa
