/- The small functions of package filter that write and read a word. Conditions: the table of package strconv is what its text says, its two errors are there. -/
import Derived.Test.YtgggmhaopcgkkaaGreatDoorFbM
import Derived.Test.YtgggmhaopcgkkaaGreatDoorFbP
import Derived.Test.YtgggmhaopcgkkaaGreatDoorFlA
namespace Go.Proofs.YtgggmhaopcgkkaaGreatDoor
open Go.RowKit
theorem heap_new' (w : World) (x : Obj) : (w.alloc x).heap[w.heap.size]? = some x := by
  show (w.heap.push x)[w.heap.size]? = some x
  simp
theorem heap_set1b (W : World) (b o : Nat) (v : Value) (r : Array Value) (e : TypeId) (f : Nat × Nat) (h : W.heap[b]? = some (.cells r e f)) : (W.setCell ⟨b, o, none⟩ v).heap[b]? = some (.cells (r.setIfInBounds o v) e f) := by
  unfold World.setCell
  simp [Array.getElem?_modify, h]
/-- A box that a function lays for itself: where it lies and what it holds; nothing that was there before has changed. -/
structure Bx (w W : World) (b : Nat) (e : TypeId) (r : List Value) : Prop where
  bel : Below w.heap.size w W
  new : w.heap.size ≤ b
  row : W.heap[b]? = some (.cells r.toArray e (0, 0))
theorem Bx.sz {w W : World} {b : Nat} {e : TypeId} {r : List Value} (h : Bx w W b e r) : b < W.heap.size := (Array.getElem?_eq_some_iff.1 h.row).1
theorem Bx.on {w W W' : World} {b : Nat} {e : TypeId} {r : List Value} (h : Bx w W b e r) (hb : Below W.heap.size W W') : Bx w W' b e r := ⟨h.bel.trans (hb.mono h.bel.size), h.new, (hb.block b h.sz).trans h.row⟩
theorem Bx.st {w W : World} {b : Nat} {e : TypeId} {r : List Value} (h : Bx w W b e r) (o : Nat) (v : Value) : Bx w (W.setCell ⟨b, o, none⟩ v) b e (r.set o v) :=
  ⟨h.bel.setCell (p := ⟨b, o, none⟩) h.new _, h.new, by rw [heap_set1b W b o v _ _ _ h.row]; simp⟩
theorem Bx.far {w W : World} {b c : Nat} {e : TypeId} {r : List Value} (h : Bx w W b e r) (o : Nat) (v : Value) (hc : w.heap.size ≤ c) (hne : b ≠ c) : Bx w (W.setCell ⟨c, o, none⟩ v) b e r :=
  ⟨h.bel.setCell (p := ⟨c, o, none⟩) hc _, h.new, by rw [Below.heap_setCell _ _ _ _ hne]; exact h.row⟩
theorem Bx.cells {w W : World} {b : Nat} {e : TypeId} {r : List Value} (h : Bx w W b e r) : ∀ o, W.cell? ⟨b, o, none⟩ = r[o]? := fun o => by
  simp only [World.cell?, h.row]; simp
theorem Bx.free {w W : World} {b : Nat} {e : TypeId} {r : List Value} (h : Bx w W b e r) : ∀ o, W.frozen? ⟨b, o, none⟩ = false := fun o => by
  simp [World.frozen?, h.row]
theorem Bx.mk1 (w : World) (e : TypeId) (r : List Value) : Bx w (w.alloc (.cells r.toArray e (0, 0))) w.heap.size e r := ⟨(Below.refl _ _).alloc (Nat.le_refl _) _, Nat.le_refl _, heap_new' _ _⟩
theorem bytesEq {a b : List UInt8} (h : a = b) : (⟨a.toArray⟩ : ByteArray) = ⟨b.toArray⟩ := by rw [h]
theorem actText_is (b : Bool) (w : World) : Calls Tryz.prog 14 #[.bool b] w fun e w' => e = .returned (.string ⟨(actT b).toArray⟩) ∧ w = w' := by
  cases b
  all_goals
    go_enter Tryz.func14, Tryz.ntmps14
    go_wp2
    go_ret
    exact ⟨rfl, rfl⟩
theorem protoText_is (n : Int) (w : World) (h0 : -1 ≤ n) (h1 : n ≤ 255) (ht : Tab10 w) : Calls Tryz.prog 15 #[.int .i64 n] w fun e w' => e = .returned (.string ⟨(protoT n).toArray⟩) ∧ Below w.heap.size w w' := by
  have HT := Lib.hid ht
  clear ht
  by_cases h : n = -1
  · subst h
    go_enter Tryz.func15, Tryz.ntmps15
    go_wp2
    go_ret
    exact ⟨rfl, Below.refl _ _⟩
  · have HP : Hid (Lib.itoa n = protoT n) := Lib.hid (by unfold protoT; rw [if_neg h])
    have hd : (n == -1) = false := by simpa using h
    clear h
    go_enter Tryz.func15, Tryz.ntmps15
    go_wp2_with fail
    go_at_call 32
    refine (itoa_is n _ (by omega) (by omega) HT.out).mono ?_
    rintro e w1 ⟨rfl, hb⟩
    have HB := Lib.hid hb
    clear hb
    go_wp2
    go_ret
    exact ⟨ret_str (bytesEq HP.out), HB.out⟩
set_option maxRecDepth 100000 in
set_option maxHeartbeats 4000000 in
theorem portsText_is (a b : Int) (w : World) (a0 : 0 ≤ a) (a1 : a < 4294967296) (b0 : 0 ≤ b) (b1 : b < 4294967296) (ht : Tab10 w) : Calls Tryz.prog 17 #[.agg #[.int .u32 a, .int .u32 b]] w fun e w' => e = .returned (.string ⟨(portsT a b).toArray⟩) ∧ Below w.heap.size w w' := by
  have hT0 : Tab10 (w.alloc (.cells #[.int .u32 a, .int .u32 b] 27)) := ht.on ((Below.refl _ _).alloc (Nat.le_refl _) _)
  have HT := Lib.hid hT0
  have hl1 := itoa_len a (by omega) (by omega)
  have hl2 := itoa_len b (by omega) (by omega)
  have HA := Lib.hid (IntWalk.i64_in a (by omega))
  have HB := Lib.hid (IntWalk.i64_in b (by omega))
  have HP : Hid (portsT a b = Lib.itoa a ++ 45 :: Lib.itoa b) := Lib.hid rfl
  have hL1 : (9223372036854775807 < (Lib.itoa a).length + 1) = False := by simp; omega
  have hL2 : (9223372036854775807 < (Lib.itoa a).length + 1 + (Lib.itoa b).length) = False := by simp; omega
  clear hl1 hl2 hT0 ht
  have hA := HA.out
  have hB := HB.out
  go_enter Tryz.func17, Tryz.ntmps17
  go_wp2_with fail
  refine wp_region_grows (by kernel_rfl) (by kernel_rfl) ?_
  refine grows_fact w.heap.size 0 (.int .u32 a) (by go_simp) (by simp) fun r0 => ?_
  refine grows_fact w.heap.size 1 (.int .u32 b) (by go_simp) (by simp) fun r1 => ?_
  repeat (go_big_quiet_step ((first | (go_at_call 32; with_reducible exact Calls.grows_of (itoa_is a _ (by omega) (by omega) (HT.out.on (Grows.below _)))) | (go_at_call 32; with_reducible exact Calls.grows_of (itoa_is b _ (by omega) (by omega) (HT.out.on (Grows.below _)))))))
  refine wpQuiet_nil ?_
  rintro wB ⟨⟨_, hswB⟩, rfl⟩
  clear r0 r1
  go_wp2
  go_ret
  refine ⟨ret_str (WideShapes.bytes_inj ?_), Below.step ((Below.refl _ _).alloc (Nat.le_refl _) _) hswB⟩
  rw [HP.out]
  simp
/-- What proto hands back. -/
def ProtoP (l : List UInt8) (w : World) (e : Ending) (w' : World) : Prop := Below w.heap.size w w' ∧ ∃ v : Int, e = .returned (.int .i64 v) ∧ ∀ n : Int, -1 ≤ n → n ≤ 255 → protoT n = l → v = n
theorem proto_is (s : ByteArray) (hs : s.size ≤ 140737488355328) (w : World) (hE : ErrV w) : Calls Tryz.prog 41 #[.string s] w (ProtoP s.data.toList w) := by
  have HE := Lib.hid hE
  clear hE
  by_cases h : s.toList = anyW
  · have hd : (s.toList == [97, 110, 121]) = true := by rw [h]; decide
    have HH : Hid (s.data.toList = anyW) := Lib.hid (by rw [← h]; simp [ByteArray.toList_eq])
    clear h
    go_enter Tryz.func41, Tryz.ntmps41
    go_wp2
    go_ret
    exact ⟨Below.refl _ _, _, rfl, fun n h0 _ hn => (proto_any h0 (hn.trans HH.out)).symm⟩
  · have hd : (s.toList == [97, 110, 121]) = false := by simpa [anyW] using h
    have HH : Hid (s.data.toList ≠ anyW) := Lib.hid (fun e => h (by rw [← e]; simp [ByteArray.toList_eq]))
    clear h
    have H := Lib.hid (numf_is s hs w HE.out)
    go_enter Tryz.func41, Tryz.ntmps41
    go_wp2_with fail
    go_at_call 56
    refine H.out.mono ?_
    rintro e w1 ⟨hb, v, v0, v1, rfl, hv⟩
    have HB := Lib.hid hb
    have HV := Lib.hid hv
    clear hb hv
    go_wp2
    go_ret
    refine ⟨HB.out, _, rfl, fun n h0 h1 hn => ?_⟩
    have h2 := proto_num h0 h1 hn HH.out
    have h3 := HV.out _ h2
    have : n ≠ -1 := fun e => by subst e; exact HH.out hn.symm
    omega
/-- What ports hands back. -/
def PortsP (l : List UInt8) (w : World) (e : Ending) (w' : World) : Prop := Below w.heap.size w w' ∧ ∃ a b : Int, e = .returned (.agg #[.int .u32 a, .int .u32 b]) ∧ 0 ≤ a ∧ a < 4294967296 ∧ 0 ≤ b ∧ b < 4294967296 ∧ ∀ x y : Int, 0 ≤ x → x ≤ y → y ≤ 65535 → portsT x y = l → a = x ∧ b = y
set_option maxHeartbeats 2000000 in
theorem ports_is (s : ByteArray) (hs : s.size ≤ 1048576) (w : World) (hE : ErrV w) : Calls Tryz.prog 43 #[.string s] w (PortsP s.data.toList w) := by
  obtain ⟨W1, hW1⟩ : ∃ X, w.alloc (.cells #[.int .u32 0, .int .u32 0] 27) = X := ⟨_, rfl⟩
  have HB1 : Hid (Below w.heap.size w W1) := Lib.hid (by rw [← hW1]; exact (Below.refl _ _).alloc (Nat.le_refl _) _)
  have HE := Lib.hid (hE.on HB1.out)
  have hln := cut1_len s.data.toList 45
  have hsz : s.data.toList.length = s.size := by simp
  obtain ⟨A1, hA1⟩ : ∃ X, (cut1 s.data.toList 45).1 = X := ⟨_, rfl⟩
  obtain ⟨A2, hA2⟩ : ∃ X, (cut1 s.data.toList 45).2.1 = X := ⟨_, rfl⟩
  obtain ⟨A3, hA3⟩ : ∃ X, (cut1 s.data.toList 45).2.2 = X := ⟨_, rfl⟩
  have HC := Lib.hid (scut_is s 45 W1 (by omega))
  rw [hA1, hA2, hA3] at HC
  rw [hA1, hA2] at hln
  have HA1 := Lib.hid hA1
  have HA2 := Lib.hid hA2
  have HX1 : Hid (W1.heap[w.heap.size]? = some (.cells #[.int .u32 0, .int .u32 0] 27 (0, 0))) := Lib.hid (by rw [← hW1]; exact heap_new' _ _)
  have HZ1 : Hid (w.heap.size < W1.heap.size) := Lib.hid (Array.getElem?_eq_some_iff.1 HX1.out).1
  have hL1 : A1.length ≤ 1048576 := by omega
  have hL2 : A2.length ≤ 1048576 := by omega
  clear hE hA1 hA2 hA3 hln hsz hs
  go_enter Tryz.func43, Tryz.ntmps43
  go_wp2_with fail
  go_at_call 57
  refine HC.out.mono ?_
  rintro e w2 ⟨rfl, hb2⟩
  have HB2 := Lib.hid hb2
  clear hb2
  go_wp2_with fail
  go_at_call 56
  refine (numf_is _ (by rw [mk_size]; omega) _ (HE.out.on HB2.out)).mono ?_
  rintro e w3 ⟨hb3, a, a0, a1, rfl, ha⟩
  rw [mk_toList] at ha
  have HB3 := Lib.hid (Below.step HB2.out hb3)
  have HV3 := Lib.hid ha
  clear hb3 ha
  go_wp2_with fail
  go_at_call 56
  refine (numf_is _ (by rw [mk_size]; omega) _ (HE.out.on HB3.out)).mono ?_
  rintro e w4 ⟨hb4, b, b0, b1, rfl, hb⟩
  rw [mk_toList] at hb
  have HB4 := Lib.hid (Below.step HB3.out hb4)
  have HV4 := Lib.hid hb
  clear hb4 hb
  have HX4 : Hid (w4.heap[w.heap.size]? = some (.cells #[.int .u32 0, .int .u32 0] 27 (0, 0))) := Lib.hid ((HB4.out.block w.heap.size HZ1.out).trans HX1.out)
  have S4 : Hid (Bx w w4 w.heap.size 27 [.int .u32 0, .int .u32 0]) := Lib.hid ⟨HB1.out.trans (HB4.out.mono HB1.out.size), Nat.le_refl _, HX4.out⟩
  have xc0 : w4.cell? ⟨w.heap.size, 0, none⟩ = some (.int .u32 0) := S4.out.cells 0
  have xc1 : w4.cell? ⟨w.heap.size, 1, none⟩ = some (.int .u32 0) := S4.out.cells 1
  have xf0 := S4.out.free 0
  have xf1 := S4.out.free 1
  go_wp2
  clear xc0 xc1 xf0 xf1
  obtain ⟨w5, hw5⟩ : ∃ X, ((w4.setCell ⟨w.heap.size, 0, none⟩ (.int .u32 a)).setCell ⟨w.heap.size, 1, none⟩ (.int .u32 b)) = X := ⟨_, rfl⟩
  have S5 : Hid (Bx w w5 w.heap.size 27 [.int .u32 a, .int .u32 b]) := Lib.hid (by rw [← hw5]; exact (S4.out.st 0 (.int .u32 a)).st 1 (.int .u32 b))
  rw [hw5]
  clear hw5
  have xc0 : w5.cell? ⟨w.heap.size, 0, none⟩ = some (.int .u32 a) := S5.out.cells 0
  have xc1 : w5.cell? ⟨w.heap.size, 1, none⟩ = some (.int .u32 b) := S5.out.cells 1
  refine bodyPost_ret (v := .agg #[.int .u32 a, .int .u32 b]) (by simp [results, Tryz.results43, go_sem, xc0, xc1]) rfl ⟨S5.out.bel, a, b, rfl, a0, a1, b0, b1, fun x y h0 h1 h2 h3 => ?_⟩
  obtain ⟨h4, h5⟩ := ports_read h0 h1 h2 h3
  rw [HA1.out] at h4
  rw [HA2.out] at h5
  have := HV3.out _ h4
  have := HV4.out _ h5
  omega
end Go.Proofs.YtgggmhaopcgkkaaGreatDoor
