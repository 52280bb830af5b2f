/- What Rules of waymarkref10 does at two slices that read as one list, and awake. No condition but that what is handed in is of its kind. -/
import Derived.Test.YtgggmhaopcgkkaaGreatDoorFlP
namespace Go.Proofs.YtgggmhaopcgkkaaGreatDoor
open Go.RowKit
theorem eqR : Tryz.prog.eqGuardType Tryz.prog.depth 29 = false := by kernel_rfl
theorem neqR (perm : Bool) (proto sa sn da dn sl sh dl dh : Int) (w : World) : (binOp .neq 29 (.agg #[.bool perm, .int .i64 proto, .int .u32 sa, .int .i64 sn, .int .u32 da, .int .i64 dn, .int .u32 sl, .int .u32 sh, .int .u32 dl, .int .u32 dh]) (.agg #[.bool perm, .int .i64 proto, .int .u32 sa, .int .i64 sn, .int .u32 da, .int .i64 dn, .int .u32 sl, .int .u32 sh, .int .u32 dl, .int .u32 dh])).run Tryz.prog w = .ok (.bool false) w := by
  simp [go_sem]
theorem guardR (op : BinOp) (a b : Operand) (x y : Array Value) (w : World) : (eqGuard op 29 a b (.agg x) (.agg y)).run Tryz.prog w = .ok () w :=
  run_eqGuard_agg _ _ _ _ _ _ _ eqR
set_option maxHeartbeats 1000000 in
theorem rules_same (l : List RuleD) (v u : Value) (w : World) (hr : RdR w v l) (hs : RdR w u l) : Calls Tryz.prog 10 #[v, u] w fun e w' => e = .returned (.bool true) ∧ Below w.heap.size w w' := by
  obtain ⟨p, c, rfl, hlc, hcm, hp⟩ := hr.rd.sl
  obtain ⟨q, d, rfl, hld, hdm, hq⟩ := hs.rd.sl
  have HP := Lib.hid hp
  have HQ := Lib.hid hq
  clear hp hq hr hs
  unfold maxLen at hcm hdm
  have h3 : ((l.length : Int) != (l.length : Int)) = false := by simp
  go_enter Tryz.func10, Tryz.ntmps10
  go_wp2
  go_loopw [5] (fun i wr => ∃ k : Nat, k ≤ l.length ∧ i = .int .i64 k ∧ Below w.heap.size w wr) (fun i _ => l.length - (intOf i).toNat)
  case atStart => exact ⟨0, Nat.zero_le _, rfl, Below.refl _ _⟩
  case round =>
    obtain ⟨k, hk, rfl, hbw⟩ := hrel
    by_cases hlt : k < l.length
    · obtain ⟨s, hs⟩ : ∃ s, l[k]? = some s := ⟨_, List.getElem?_eq_getElem hlt⟩
      obtain ⟨b, o, rfl, hbs, hc⟩ := HP.out k s hs
      obtain ⟨b', o', rfl, hbs', hc'⟩ := HQ.out k s hs
      have hc := hc wr hbw
      have hc' := hc' wr hbw
      have e1 : (0 : Int) ≤ (k : Int) := by omega
      have e2 : (k : Int) < (l.length : Int) := by omega
      obtain ⟨perm, proto, sa, sn, da, dn, sl, sh, dl, dh⟩ := s
      clear hs
      simp only [encR] at hc hc'
      have c0 : wr.cell? ⟨b, o + k * 10, none⟩ = some (.bool perm) := hc 0 _ rfl
      have c1 : wr.cell? ⟨b, o + k * 10 + 1, none⟩ = some (.int .i64 proto) := hc 1 _ rfl
      have c2 : wr.cell? ⟨b, o + k * 10 + 2, none⟩ = some (.int .u32 sa) := hc 2 _ rfl
      have c3 : wr.cell? ⟨b, o + k * 10 + 3, none⟩ = some (.int .i64 sn) := hc 3 _ rfl
      have c4 : wr.cell? ⟨b, o + k * 10 + 4, none⟩ = some (.int .u32 da) := hc 4 _ rfl
      have c5 : wr.cell? ⟨b, o + k * 10 + 5, none⟩ = some (.int .i64 dn) := hc 5 _ rfl
      have c6 : wr.cell? ⟨b, o + k * 10 + 6, none⟩ = some (.int .u32 sl) := hc 6 _ rfl
      have c7 : wr.cell? ⟨b, o + k * 10 + 7, none⟩ = some (.int .u32 sh) := hc 7 _ rfl
      have c8 : wr.cell? ⟨b, o + k * 10 + 8, none⟩ = some (.int .u32 dl) := hc 8 _ rfl
      have c9 : wr.cell? ⟨b, o + k * 10 + 9, none⟩ = some (.int .u32 dh) := hc 9 _ rfl
      have d0 : wr.cell? ⟨b', o' + k * 10, none⟩ = some (.bool perm) := hc' 0 _ rfl
      have d1 : wr.cell? ⟨b', o' + k * 10 + 1, none⟩ = some (.int .i64 proto) := hc' 1 _ rfl
      have d2 : wr.cell? ⟨b', o' + k * 10 + 2, none⟩ = some (.int .u32 sa) := hc' 2 _ rfl
      have d3 : wr.cell? ⟨b', o' + k * 10 + 3, none⟩ = some (.int .i64 sn) := hc' 3 _ rfl
      have d4 : wr.cell? ⟨b', o' + k * 10 + 4, none⟩ = some (.int .u32 da) := hc' 4 _ rfl
      have d5 : wr.cell? ⟨b', o' + k * 10 + 5, none⟩ = some (.int .i64 dn) := hc' 5 _ rfl
      have d6 : wr.cell? ⟨b', o' + k * 10 + 6, none⟩ = some (.int .u32 sl) := hc' 6 _ rfl
      have d7 : wr.cell? ⟨b', o' + k * 10 + 7, none⟩ = some (.int .u32 sh) := hc' 7 _ rfl
      have d8 : wr.cell? ⟨b', o' + k * 10 + 8, none⟩ = some (.int .u32 dl) := hc' 8 _ rfl
      have d9 : wr.cell? ⟨b', o' + k * 10 + 9, none⟩ = some (.int .u32 dh) := hc' 9 _ rfl
      clear hc hc'
      have hn1 := neqR perm proto sa sn da dn sl sh dl dh
      have hg1 := fun op a b w => guardR op a b #[.bool perm, .int .i64 proto, .int .u32 sa, .int .i64 sn, .int .u32 da, .int .i64 dn, .int .u32 sl, .int .u32 sh, .int .u32 dl, .int .u32 dh] #[.bool perm, .int .i64 proto, .int .u32 sa, .int .i64 sn, .int .u32 da, .int .i64 dn, .int .u32 sl, .int .u32 sh, .int .u32 dl, .int .u32 dh] w
      have HW := Lib.hid hbw
      clear hbw
      go_wp2
      go_quiet (fail)
      go_wp2
      go_roundw
      case rel => exact ⟨k + 1, by omega, by go_num, by first | exact HW.out.drew | exact Below.draws HW.out _⟩
      case measure => simp [intOf]; omega
    · go_wp2
      go_ret
      exact ⟨rfl, hbw⟩
/-- The two rules that awake asks. -/
def aw1 : RuleD := ⟨true, 6, 0, 0, 0, 0, 0, 65535, 80, 80⟩
def aw2 : RuleD := ⟨false, -1, 0, 0, 0, 0, 0, 65535, 0, 65535⟩
def hd1 : HdrD := ⟨0, 0, 6, 0, 80⟩
def hd2 : HdrD := ⟨0, 0, 6, 0, 81⟩
theorem aw_ck : ckF [aw1, aw2] = 0 := by decide +kernel
theorem aw_p : prmB [aw1, aw2] hd1 = true := by decide +kernel
theorem aw_d : decI [aw1, aw2] hd2 = 1 := by decide +kernel
theorem aw_ok : ∀ r ∈ [aw1, aw2], r.ok := by
  intro r hr
  simp at hr
  rcases hr with rfl | rfl <;> exact ⟨by decide, by decide, by decide, by decide⟩
theorem hd_ok1 : hd1.ok := ⟨by decide, by decide, by decide, by decide, by decide, by decide, by decide, by decide, by decide, by decide⟩
theorem hd_ok2 : hd2.ok := ⟨by decide, by decide, by decide, by decide, by decide, by decide, by decide, by decide, by decide, by decide⟩
theorem aw_rd {w : World} {b : Nat} (hb : b < w.heap.size) (h : ∀ j u, (encR aw1 ++ encR aw2)[j]? = some u → w.cell? ⟨b, j, none⟩ = some u) : RdR w (.slice (some ⟨b, 0, none⟩) 2 2) [aw1, aw2] := by
  refine ⟨⟨some ⟨b, 0, none⟩, 2, rfl, Nat.le_refl _, by unfold maxLen; omega, fun _ => ⟨b, 0, rfl, hb, fun i s hs j u hu => ?_⟩⟩, aw_ok⟩
  match i, hs with
  | 0, hs =>
    simp at hs; subst hs
    have hj : j < 10 := (List.getElem?_eq_some_iff.1 hu).1
    have := h j u (by rw [List.getElem?_append_left hj]; exact hu)
    simpa using this
  | 1, hs =>
    simp at hs; subst hs
    have hj : j < 10 := (List.getElem?_eq_some_iff.1 hu).1
    have := h (10 + j) u (by rw [List.getElem?_append_right (by show 10 ≤ _; omega), show 10 + j - (encR aw1).length = j from by show 10 + j - 10 = j; omega]; exact hu)
    simpa using this
  | i + 2, hs => simp at hs
theorem cell_of_heap {w : World} {g o : Nat} {cur : Array Value} {e : TypeId} {f : Nat × Nat} (h : w.heap[g]? = some (.cells cur e f)) : w.cell? ⟨g, o, none⟩ = cur[o]? := by
  simp [World.cell?, h]
theorem heap_alloc {w : World} {g : Nat} (x : Obj) (h : g < w.heap.size) : (w.alloc x).heap[g]? = w.heap[g]? := by
  have := (Below.refl w.heap.size w).alloc (Nat.le_refl _) x
  exact this.block g h
theorem heap_new (w : World) (x : Obj) : (w.alloc x).heap[w.heap.size]? = some x := by
  unfold World.alloc
  exact Array.getElem?_push_size
theorem aw_permits (W : World) (b : Nat) (h : W.heap[b]? = some (.cells (encR aw1 ++ encR aw2).toArray 29 (0, 0))) : Calls Tryz.prog 11 #[.agg #[.string ⟨#[]⟩, .slice (some ⟨b, 0, none⟩) 2 2], .agg #[.int .u32 0, .int .u32 0, .int .u8 6, .int .u16 0, .int .u16 80]] W fun e w' => e = .returned (.tuple #[.bool true, .int .i64 0]) ∧ Below W.heap.size W w' := by
  rw [← aw_p]
  exact permits_ok _ _ _ hd1 W (aw_rd (Array.getElem?_eq_some_iff.1 h).1 fun j u hu => by rw [cell_of_heap h]; simpa using hu) hd_ok1 aw_ck
theorem aw_decides (W : World) (b : Nat) (h : W.heap[b]? = some (.cells (encR aw1 ++ encR aw2).toArray 29 (0, 0))) : Calls Tryz.prog 12 #[.agg #[.string ⟨#[]⟩, .slice (some ⟨b, 0, none⟩) 2 2], .agg #[.int .u32 0, .int .u32 0, .int .u8 6, .int .u16 0, .int .u16 81]] W fun e w' => e = .returned (.tuple #[.int .i64 1, .int .i64 0]) ∧ Below W.heap.size W w' := by
  rw [← aw_d]
  exact decides_ok _ _ _ hd2 W (aw_rd (Array.getElem?_eq_some_iff.1 h).1 fun j u hu => by rw [cell_of_heap h]; simpa using hu) hd_ok2 aw_ck
set_option maxHeartbeats 2000000 in
theorem awake_is (w : World) : Calls Tryz.prog 4 #[] w fun e w' => e = .returned (.bool true) ∧ Below w.heap.size w w' := by
  have hb0 : Below w.heap.size w (((w.alloc (.cells #[.int .u32 0, .int .u32 65535] 27)).alloc (.cells (encR aw1 ++ encR aw2).toArray 29)).alloc (.cells #[.string ⟨#[]⟩, .slice (some ⟨w.heap.size + 1, 0, none⟩) 2 2] 39)) :=
    (((Below.refl _ _).alloc (Nat.le_refl _) _).alloc (by simp) _).alloc (by simp; omega) _
  have HB0 := Lib.hid hb0
  have hh0 : (((w.alloc (.cells #[.int .u32 0, .int .u32 65535] 27)).alloc (.cells (encR aw1 ++ encR aw2).toArray 29)).alloc (.cells #[.string ⟨#[]⟩, .slice (some ⟨w.heap.size + 1, 0, none⟩) 2 2] 39)).heap[w.heap.size + 1]? = some (.cells (encR aw1 ++ encR aw2).toArray 29 (0, 0)) := by
    rw [heap_alloc _ (by simp)]
    have := heap_new (w.alloc (.cells #[.int .u32 0, .int .u32 65535] 27)) (.cells (encR aw1 ++ encR aw2).toArray 29)
    simpa using this
  have HH0 := Lib.hid hh0
  clear hb0 hh0
  go_enter Tryz.func4, Tryz.ntmps4
  go_wp2_with fail
  go_at_call 11
  refine (aw_permits _ _ HH0.out).mono ?_
  rintro e w1 ⟨rfl, hb1⟩
  obtain ⟨hc1, hf1⟩ := bcell hb1
  have HD := Lib.hid (aw_decides w1 (w.heap.size + 1) ((hb1.block _ (by simp)).trans HH0.out))
  have HB1 := Lib.hid (Below.step HB0.out hb1)
  clear hb1
  simp only [encR, aw1, aw2] at hc1 hf1
  go_wp2_with fail
  go_at_call 12
  refine HD.out.mono ?_
  rintro e w2 ⟨rfl, hb2⟩
  have HB2 := Lib.hid hb2
  clear hb2
  go_wp2
  go_ret
  exact ⟨rfl, Below.step HB1.out HB2.out⟩
end Go.Proofs.YtgggmhaopcgkkaaGreatDoor
