/- advertMay and texts of package routes at any advert, any lists. Conditions: the table of package strconv is what its text says. -/
import Derived.Test.YtmbkkjofikijiaaGreatDoorRbV
import Derived.Test.YtmbkkjofikijiaaGreatDoorRaA
import Derived.Laws.MakeOwn
namespace Go.Proofs.YtmbkkjofikijiaaGreatDoor
open Go.RowKit
/-- May an advert be written? -/
def mayA (a b pf me se : Int) : Bool := decide (ck a b = 0) && ([pf, me].all (okN 0)) && ([se].all (okN (-1)))
set_option maxRecDepth 100000 in
set_option maxHeartbeats 2000000 in
theorem amay_any (a b ho pf me : Int) (p1 : Option Addr) (n1 c1 : Nat) (p2 : Option Addr) (n2 c2 : Nat) (pe pi : Int) (ex : Bool) (og : Int) (p3 : Option Addr) (n3 c3 : Nat) (se : Int) (ha : 0 ≤ a) (ha2 : a < 4294967296) (w : World) : Calls Tryz.prog 34 #[.agg #[.int .u32 a, .int .i64 b, .int .u32 ho, .int .i64 pf, .int .i64 me, .slice p1 n1 c1, .slice p2 n2 c2, .int .u32 pe, .int .u32 pi, .bool ex, .int .u32 og, .slice p3 n3 c3, .int .i64 se]] w fun e w' => e = .returned (.bool (mayA a b pf me se)) ∧ Below w.heap.size w w' := by
  obtain ⟨r, hr⟩ : ∃ r, mayA a b pf me se = r := ⟨_, rfl⟩
  have HR := Lib.hid hr
  rw [hr]
  clear hr
  obtain ⟨W1, hW1⟩ : ∃ X, w.alloc (.cells #[.int .u32 a, .int .i64 b, .int .u32 ho, .int .i64 pf, .int .i64 me, .slice p1 n1 c1, .slice p2 n2 c2, .int .u32 pe, .int .u32 pi, .bool ex, .int .u32 og, .slice p3 n3 c3, .int .i64 se] 31) = X := ⟨_, rfl⟩
  have HB1 : Hid (Below w.heap.size w W1) := Lib.hid (by rw [← hW1]; exact (Below.refl _ _).alloc (Nat.le_refl _) _)
  have HX1 : Hid (W1.heap[w.heap.size]? = some (.cells #[.int .u32 a, .int .i64 b, .int .u32 ho, .int .i64 pf, .int .i64 me, .slice p1 n1 c1, .slice p2 n2 c2, .int .u32 pe, .int .u32 pi, .bool ex, .int .u32 og, .slice p3 n3 c3, .int .i64 se] 31 (0, 0))) := Lib.hid (by rw [← hW1]; exact heap_new' _ _)
  have HZ1 : Hid (w.heap.size < W1.heap.size) := Lib.hid (Array.getElem?_eq_some_iff.1 HX1.out).1
  have HCE : Hid (∀ W, Below W1.heap.size W1 W → W.cell? ⟨w.heap.size, 0, none⟩ = some (.int .u32 a) ∧ W.cell? ⟨w.heap.size, 1, none⟩ = some (.int .i64 b) ∧ W.cell? ⟨w.heap.size, 2, none⟩ = some (.int .u32 ho) ∧ W.cell? ⟨w.heap.size, 3, none⟩ = some (.int .i64 pf) ∧ W.cell? ⟨w.heap.size, 4, none⟩ = some (.int .i64 me) ∧ W.cell? ⟨w.heap.size, 5, none⟩ = some (.slice p1 n1 c1) ∧ W.cell? ⟨w.heap.size, 6, none⟩ = some (.slice p2 n2 c2) ∧ W.cell? ⟨w.heap.size, 7, none⟩ = some (.int .u32 pe) ∧ W.cell? ⟨w.heap.size, 8, none⟩ = some (.int .u32 pi) ∧ W.cell? ⟨w.heap.size, 9, none⟩ = some (.bool ex) ∧ W.cell? ⟨w.heap.size, 10, none⟩ = some (.int .u32 og) ∧ W.cell? ⟨w.heap.size, 11, none⟩ = some (.slice p3 n3 c3) ∧ W.cell? ⟨w.heap.size, 12, none⟩ = some (.int .i64 se)) := Lib.hid (fun W hb => by
    have e := (hb.block w.heap.size HZ1.out).trans HX1.out
    refine ⟨?_, ?_, ?_, ?_, ?_, ?_, ?_, ?_, ?_, ?_, ?_, ?_, ?_⟩ <;> (simp only [World.cell?, e]; rfl))
  obtain ⟨x0, x1, x2, x3, x4, x5, x6, x7, x8, x9, x10, x11, x12⟩ := HCE.out W1 (Below.refl _ _)
  have CK := Lib.hid (check_is a b W1 ha ha2)
  obtain ⟨k, hk⟩ : ∃ k, ck a b = k := ⟨_, rfl⟩
  rw [hk] at CK
  obtain ⟨na, hna⟩ : ∃ x, ([pf, me] : List Int).all (okN 0) = x := ⟨_, rfl⟩
  obtain ⟨nb, hnb⟩ : ∃ x, ([se] : List Int).all (okN (-1)) = x := ⟨_, rfl⟩
  go_enter Tryz.func34, Tryz.ntmps34
  go_wp2_with fail
  go_at_call 60
  refine CK.out.mono ?_
  rintro e w2 ⟨rfl, hb2⟩
  have HB2 := Lib.hid (hb2)
  clear hb2 x0 x1 x2 x3 x4 x5 x6 x7 x8 x9 x10 x11 x12
  obtain ⟨x0, x1, x2, x3, x4, x5, x6, x7, x8, x9, x10, x11, x12⟩ := HCE.out w2 HB2.out
  by_cases hk0 : k = 0
  case neg =>
    have HQ : Hid (r = false) := Lib.hid (by rw [← HR.out]; unfold mayA; rw [hk, decide_eq_false hk0]; rfl)
    have hkb : (k == 0) = false := by simpa using hk0
    clear hk hna hnb
    go_wp2_with fail
    go_ret
    exact ⟨ret_bool HQ.out.symm, HB1.out.trans (HB2.out.mono HB1.out.size)⟩
  subst hk0
  go_wp2_with fail
  go_at_call 61
  have hn2 := nums_is 0 [pf, me] _ _ (rdi w2 (n := 2) rfl (by simp))
  rw [hna] at hn2
  refine hn2.mono ?_
  rintro e w3 ⟨rfl, hb3⟩
  have HB3 := Lib.hid (Below.step (HB2.out.alloc HB2.out.size _) hb3)
  clear hb3 x0 x1 x2 x3 x4 x5 x6 x7 x8 x9 x10 x11 x12
  obtain ⟨x0, x1, x2, x3, x4, x5, x6, x7, x8, x9, x10, x11, x12⟩ := HCE.out w3 HB3.out
  clear hn2
  cases na with
  | false =>
    have HQ : Hid (r = false) := Lib.hid (by rw [← HR.out]; unfold mayA; rw [hna]; simp)
    clear hk hna hnb
    go_wp2_with fail
    go_ret
    exact ⟨ret_bool HQ.out.symm, HB1.out.trans (HB3.out.mono HB1.out.size)⟩
  | true =>
    go_wp2_with fail
    go_at_call 61
    have hn3 := nums_is (-1) [se] _ _ (rdi w3 (n := 1) rfl (by simp))
    rw [hnb] at hn3
    refine hn3.mono ?_
    rintro e w4 ⟨rfl, hb4⟩
    have HB4 := Lib.hid (Below.step (HB3.out.alloc HB3.out.size _) hb4)
    clear hb4 x0 x1 x2 x3 x4 x5 x6 x7 x8 x9 x10 x11 x12
    obtain ⟨x0, x1, x2, x3, x4, x5, x6, x7, x8, x9, x10, x11, x12⟩ := HCE.out w4 HB4.out
    clear hn3
    have HQ : Hid (r = nb) := Lib.hid (by rw [← HR.out]; unfold mayA; rw [hk, hna, hnb]; simp)
    clear hk hna hnb
    go_wp2_with fail
    go_ret
    exact ⟨ret_bool HQ.out.symm, HB1.out.trans (HB4.out.mono HB1.out.size)⟩
theorem own_slr {w : World} {B n k : Nat} {e : TypeId} {v : Value} {xs : List Value} (h : w.ownsRow B e k v n xs) : ∃ p c, v = .slice p n c := by
  rcases h.2 with ⟨rfl, hx⟩ | ⟨g, cap, cur, rfl, _⟩
  · exact ⟨none, 0, by rw [hx]⟩
  · exact ⟨_, _, rfl⟩
theorem infoS : (Tryz.prog.info? 9).map (fun i => (i.zero, i.size, i.bytes)) = some (some (.string ⟨#[]⟩), 1, 16) := by kernel_rfl
theorem makeS (n : Nat) (hn : n ≤ 100000) : ∃ C : Array Value, Hid (C.size = n) ∧ ∀ w : World, (Instr.makeSlice 51 (.int .i64 0) (.int .i64 n)).run Tryz.prog w = .ok (.slice (some ⟨w.heap.size, 0, none⟩) 0 n) (w.alloc (.cells C 9)) := by
  obtain ⟨i0, hi0, hy0, hy1, hy2⟩ := info_parts infoS
  refine ⟨madeCells (Value.string ⟨#[]⟩).cells (n * 1), Lib.hid (by rw [size_madeCells]; omega), fun w => ?_⟩
  have := run_make (P := Tryz.prog) w 51 9 i0 (.string ⟨#[]⟩) Tryz.underlying51 hi0 hy0 .i64 .i64 0 n (by omega) (by omega) (by rw [hy2]; omega) (by omega)
  rw [hy1] at this
  simpa using this
def encS (s : ByteArray) : List Value := [.string s]
theorem encS_len (x : ByteArray) : (encS x).length = 1 := rfl
theorem encS_one : ∀ x, ∀ u ∈ encS x, u.oneCell' = true := fun x u hu => by
  have := List.mem_singleton.1 hu
  subst this; rfl
theorem flatS (l : List ByteArray) : flatK encS l = l.map Value.string := by
  induction l with
  | nil => rfl
  | cons x l ih => show encS x ++ flatK encS l = _; rw [ih]; rfl
theorem rd_oneS {W : World} {g : Nat} {s : ByteArray} {e : TypeId} (h : W.heap[g]? = some (.cells #[.string s] e (0, 0))) : RdK encS 1 W (.slice (some ⟨g, 0, none⟩) 1 1) [s] :=
  RdK.of_own (b := 0) (e := e) encS_len ⟨rfl, .inr ⟨g, 1, #[.string s], rfl, Nat.zero_le _, h, Nat.le_refl _, by unfold maxLen; omega, rfl, rfl⟩⟩
theorem ntext_any (x : Int) (hx : 0 ≤ x ∧ x < 4294967296) (w : World) (ht : Tab10 w) : Calls Tryz.prog 37 #[.int .u32 x] w fun e w' => e = .returned (.string ⟨(Lib.decDigits x.toNat).toArray⟩) ∧ Below w.heap.size w w' := by
  obtain ⟨n, rfl⟩ : ∃ n : Nat, x = (n : Int) := ⟨x.toNat, by omega⟩
  rw [Int.toNat_natCast]
  have H := Lib.hid (fmt_is n (by omega) w ht)
  have hw : IntKind.u64.wrap (n : Int) = (n : Int) := IntWalk.u64_in _ (by omega)
  have hn : (n : Int) < 18446744073709551616 := by omega
  go_enter Tryz.func37, Tryz.ntmps37
  go_wp2_with fail
  go_at_call 67
  (with_reducible refine H.out.mono ?_)
  rintro e w1 ⟨rfl, hb⟩
  go_wp2
  go_ret
  exact ⟨rfl, hb⟩
theorem atext_any (x : Int) (hx : 0 ≤ x ∧ x < 4294967296) (w : World) (ht : Tab10 w) : Calls Tryz.prog 26 #[.int .u32 x] w fun e w' => e = .returned (.string ⟨(text x.toNat).toArray⟩) ∧ Below w.heap.size w w' := text_is x w hx.1 hx.2 ht
set_option maxRecDepth 100000 in
set_option maxHeartbeats 2000000 in
theorem texts_u (v : Value) (l : List Int) (w : World) (hv : RdK encU 1 w v l) (hl : l.length ≤ 100000) (hr : ∀ x ∈ l, 0 ≤ x ∧ x < 4294967296) (ht : Tab10 w) : Calls Tryz.prog 36 #[v, .func (.func 37) #[] #[]] w fun e w' =>
    ∃ u, e = .returned u ∧ w'.ownsRow w.heap.size 9 1 u l.length (flatK encS (l.map fun x => ⟨(Lib.decDigits x.toNat).toArray⟩)) ∧ Below w.heap.size w w' := by
  have HV := Lib.hid hv; have HRG := Lib.hid hr; have HT := Lib.hid ht
  obtain ⟨p, c, rfl, h2, h3, h4⟩ := hv.sl
  have H4 := Lib.hid h4
  clear h4 hv h2 h3 hr ht
  have eg : ∀ args w, (callFunc 37 args).run Tryz.prog w = .ok (.enter 37 args) w := enters_of Tryz.func37 (by kernel_rfl) rfl
  have CF := Lib.hid fun (x : Int) (hx : 0 ≤ x ∧ x < 4294967296) W (hW : Below w.heap.size w W) => ntext_any x hx W (HT.out.on hW)
  obtain ⟨C, HC, hm⟩ := makeS l.length hl
  obtain ⟨W1, hW1⟩ : ∃ X, w.alloc (.cells C 9) = X := ⟨_, rfl⟩
  have HB1 : Hid (Below w.heap.size w W1) := Lib.hid (by rw [← hW1]; exact (Below.refl _ _).alloc (Nat.le_refl _) _)
  have HO1 : Hid (W1.ownsRow w.heap.size 9 1 (.slice (some ⟨w.heap.size, 0, none⟩) 0 l.length) 0 []) := Lib.hid ⟨rfl, .inr ⟨w.heap.size, l.length, C, rfl, Nat.le_refl _, by rw [← hW1]; exact heap_new' _ _, Nat.zero_le _, by unfold maxLen; omega, by rw [HC.out, Nat.mul_one], rfl⟩⟩
  go_enter Tryz.func36, Tryz.ntmps36
  go_wp2_with fail
  go_loopw [5, 13] (fun vu vi wr => ∃ k : Nat, vi = .int .i64 k ∧ k ≤ l.length ∧ Hid (wr.ownsRow w.heap.size 9 1 vu k (flatK encS ((l.take k).map fun x => ⟨(Lib.decDigits x.toNat).toArray⟩))) ∧ Hid (Below w.heap.size w wr)) (fun _ vi _ => l.length - (intOf vi).toNat)
  case atStart => exact ⟨0, rfl, Nat.zero_le _, HO1, HB1⟩
  case round =>
    obtain ⟨k, rfl, hk, HO, HB⟩ := hrel
    by_cases hlt : k < l.length
    · have hltz : (k : Int) < (l.length : Int) := by omega
      obtain ⟨x, hx⟩ : ∃ x, l[k]? = some x := ⟨_, List.getElem?_eq_getElem hlt⟩
      obtain ⟨g1, o1, rfl, g1s, d1⟩ := H4.out k x hx
      have e1 := d1 wr HB.out 0 _ (by rfl : (encU x)[0]? = some (.int .u32 x))
      simp only [Nat.mul_one, Nat.add_zero] at e1
      have CX := Lib.hid (CF.out x (HRG.out x (List.mem_of_getElem? hx)) wr HB.out)
      have HTK : Hid (flatK encS ((l.take (k + 1)).map (fun x : Int => (⟨(Lib.decDigits x.toNat).toArray⟩ : ByteArray))) = flatK encS ((l.take k).map (fun x : Int => (⟨(Lib.decDigits x.toNat).toArray⟩ : ByteArray))) ++ flatK encS [⟨(Lib.decDigits x.toNat).toArray⟩]) := Lib.hid (by
        obtain ⟨h1, h2⟩ := List.getElem?_eq_some_iff.1 hx
        rw [List.take_succ_eq_append_getElem h1, h2, List.map_append]; simp [flatK, List.flatMap_append])
      obtain ⟨pu, cu, hpu⟩ := own_slr HO.out
      subst hpu
      obtain ⟨TX, hTX⟩ : ∃ x', (⟨(Lib.decDigits x.toNat).toArray⟩ : ByteArray) = x' := ⟨_, rfl⟩
      rw [hTX] at CX HTK
      clear d1 hx g1s hTX
      go_wp2_with fail
      refine CX.out.mono ?_
      rintro e w2 ⟨rfl, hb2⟩
      have HO2 := Lib.hid (own_below HO.out hb2)
      have HB2 := Lib.hid (Below.step HB.out hb2)
      obtain ⟨W3, hW3⟩ : ∃ X, w2.alloc (.cells #[.string TX] 9) = X := ⟨_, rfl⟩
      have BW : Hid (Below w2.heap.size w2 W3) := Lib.hid (by rw [← hW3]; exact (Below.refl _ _).alloc (Nat.le_refl _) _)
      have X3 : Hid (W3.heap[w2.heap.size]? = some (.cells #[.string TX] 9 (0, 0))) := Lib.hid (by rw [← hW3]; exact heap_new' _ _)
      have HO3 := Lib.hid (own_below HO2.out BW.out)
      have HB3 := Lib.hid (Below.step HB2.out BW.out)
      clear hb2 e1
      go_wp2_with (first
        | (at_builtin; refine wpList_append_rdk encS_len (by decide) encS_one rfl _ _ 51 9 rfl (.string ⟨#[]⟩) 16 Tryz.underlying51 rfl infoS w.heap.size _ k _ rfl HO3.out _ [TX] rfl (rd_oneS X3.out) (by unfold maxLen; simp only [List.length_singleton]; omega) (by simp only [List.length_singleton]; omega) HB3.out.size ?_
           intro v4 w4 o4 g4 n4
           have HO4 := Lib.hid o4
           have HB4 := Lib.hid (HB3.out.grown g4 HB3.out.size (fun j hj => (HO3.out.lt j hj).1))
           clear o4 g4 n4))
      go_roundw
      case rel => exact ⟨k + 1, by go_num, by omega, Lib.hid (by rw [HTK.out]; exact HO4.out), HB4⟩
      case measure => simp [intOf] <;> omega
    · have hge : ¬ (k : Int) < (l.length : Int) := by omega
      have hkl : k = l.length := by omega
      subst hkl
      rw [List.take_length] at HO
      go_wp2_with fail
      go_ret
      exact ⟨_, rfl, HO.out, HB.out⟩
set_option maxRecDepth 100000 in
set_option maxHeartbeats 2000000 in
theorem texts_a (v : Value) (l : List Int) (w : World) (hv : RdK encU 1 w v l) (hl : l.length ≤ 100000) (hr : ∀ x ∈ l, 0 ≤ x ∧ x < 4294967296) (ht : Tab10 w) : Calls Tryz.prog 38 #[v, .func (.func 26) #[] #[]] w fun e w' =>
    ∃ u, e = .returned u ∧ w'.ownsRow w.heap.size 9 1 u l.length (flatK encS (l.map fun x => ⟨(text x.toNat).toArray⟩)) ∧ Below w.heap.size w w' := by
  have HV := Lib.hid hv; have HRG := Lib.hid hr; have HT := Lib.hid ht
  obtain ⟨p, c, rfl, h2, h3, h4⟩ := hv.sl
  have H4 := Lib.hid h4
  clear h4 hv h2 h3 hr ht
  have eg : ∀ args w, (callFunc 26 args).run Tryz.prog w = .ok (.enter 26 args) w := enters_of Tryz.func26 (by kernel_rfl) rfl
  have CF := Lib.hid fun (x : Int) (hx : 0 ≤ x ∧ x < 4294967296) W (hW : Below w.heap.size w W) => atext_any x hx W (HT.out.on hW)
  obtain ⟨C, HC, hm⟩ := makeS l.length hl
  obtain ⟨W1, hW1⟩ : ∃ X, w.alloc (.cells C 9) = X := ⟨_, rfl⟩
  have HB1 : Hid (Below w.heap.size w W1) := Lib.hid (by rw [← hW1]; exact (Below.refl _ _).alloc (Nat.le_refl _) _)
  have HO1 : Hid (W1.ownsRow w.heap.size 9 1 (.slice (some ⟨w.heap.size, 0, none⟩) 0 l.length) 0 []) := Lib.hid ⟨rfl, .inr ⟨w.heap.size, l.length, C, rfl, Nat.le_refl _, by rw [← hW1]; exact heap_new' _ _, Nat.zero_le _, by unfold maxLen; omega, by rw [HC.out, Nat.mul_one], rfl⟩⟩
  go_enter Tryz.func38, Tryz.ntmps38
  go_wp2_with fail
  go_loopw [5, 13] (fun vu vi wr => ∃ k : Nat, vi = .int .i64 k ∧ k ≤ l.length ∧ Hid (wr.ownsRow w.heap.size 9 1 vu k (flatK encS ((l.take k).map fun x => ⟨(text x.toNat).toArray⟩))) ∧ Hid (Below w.heap.size w wr)) (fun _ vi _ => l.length - (intOf vi).toNat)
  case atStart => exact ⟨0, rfl, Nat.zero_le _, HO1, HB1⟩
  case round =>
    obtain ⟨k, rfl, hk, HO, HB⟩ := hrel
    by_cases hlt : k < l.length
    · have hltz : (k : Int) < (l.length : Int) := by omega
      obtain ⟨x, hx⟩ : ∃ x, l[k]? = some x := ⟨_, List.getElem?_eq_getElem hlt⟩
      obtain ⟨g1, o1, rfl, g1s, d1⟩ := H4.out k x hx
      have e1 := d1 wr HB.out 0 _ (by rfl : (encU x)[0]? = some (.int .u32 x))
      simp only [Nat.mul_one, Nat.add_zero] at e1
      have CX := Lib.hid (CF.out x (HRG.out x (List.mem_of_getElem? hx)) wr HB.out)
      have HTK : Hid (flatK encS ((l.take (k + 1)).map (fun x : Int => (⟨(text x.toNat).toArray⟩ : ByteArray))) = flatK encS ((l.take k).map (fun x : Int => (⟨(text x.toNat).toArray⟩ : ByteArray))) ++ flatK encS [⟨(text x.toNat).toArray⟩]) := Lib.hid (by
        obtain ⟨h1, h2⟩ := List.getElem?_eq_some_iff.1 hx
        rw [List.take_succ_eq_append_getElem h1, h2, List.map_append]; simp [flatK, List.flatMap_append])
      obtain ⟨pu, cu, hpu⟩ := own_slr HO.out
      subst hpu
      obtain ⟨TX, hTX⟩ : ∃ x', (⟨(text x.toNat).toArray⟩ : ByteArray) = x' := ⟨_, rfl⟩
      rw [hTX] at CX HTK
      clear d1 hx g1s hTX
      go_wp2_with fail
      refine CX.out.mono ?_
      rintro e w2 ⟨rfl, hb2⟩
      have HO2 := Lib.hid (own_below HO.out hb2)
      have HB2 := Lib.hid (Below.step HB.out hb2)
      obtain ⟨W3, hW3⟩ : ∃ X, w2.alloc (.cells #[.string TX] 9) = X := ⟨_, rfl⟩
      have BW : Hid (Below w2.heap.size w2 W3) := Lib.hid (by rw [← hW3]; exact (Below.refl _ _).alloc (Nat.le_refl _) _)
      have X3 : Hid (W3.heap[w2.heap.size]? = some (.cells #[.string TX] 9 (0, 0))) := Lib.hid (by rw [← hW3]; exact heap_new' _ _)
      have HO3 := Lib.hid (own_below HO2.out BW.out)
      have HB3 := Lib.hid (Below.step HB2.out BW.out)
      clear hb2 e1
      go_wp2_with (first
        | (at_builtin; refine wpList_append_rdk encS_len (by decide) encS_one rfl _ _ 51 9 rfl (.string ⟨#[]⟩) 16 Tryz.underlying51 rfl infoS w.heap.size _ k _ rfl HO3.out _ [TX] rfl (rd_oneS X3.out) (by unfold maxLen; simp only [List.length_singleton]; omega) (by simp only [List.length_singleton]; omega) HB3.out.size ?_
           intro v4 w4 o4 g4 n4
           have HO4 := Lib.hid o4
           have HB4 := Lib.hid (HB3.out.grown g4 HB3.out.size (fun j hj => (HO3.out.lt j hj).1))
           clear o4 g4 n4))
      go_roundw
      case rel => exact ⟨k + 1, by go_num, by omega, Lib.hid (by rw [HTK.out]; exact HO4.out), HB4⟩
      case measure => simp [intOf] <;> omega
    · have hge : ¬ (k : Int) < (l.length : Int) := by omega
      have hkl : k = l.length := by omega
      subst hkl
      rw [List.take_length] at HO
      go_wp2_with fail
      go_ret
      exact ⟨_, rfl, HO.out, HB.out⟩
end Go.Proofs.YtmbkkjofikijiaaGreatDoor
