/- readRoute of package routes at any text: some route, and if the text is that of one that may be written, that one. Conditions: the words of package routes are what their text says, the variables ErrSyntax and ErrRange of package strconv hold errors. -/
import Derived.Test.YtmbkkjofikijiaaGreatDoorRbP
import Derived.Test.YtmbkkjofikijiaaGreatDoorRaQ
namespace Go.Proofs.YtmbkkjofikijiaaGreatDoor
open Go.RowKit
/-- What is read of a text as a route. -/
structure RouteP (l : List UInt8) (r : RtD) : Prop where
  ra : 0 ≤ r.a ∧ r.a < 4294967296
  rf : 0 ≤ r.fr
  rh : 0 ≤ r.ho ∧ r.ho < 4294967296
  rn : r.nm.size ≤ l.length
  it : ∀ q : RtD, mayR q = true → 0 ≤ q.a ∧ q.a < 4294967296 → 0 ≤ q.ho ∧ q.ho < 4294967296 → txR q = l → r = q
theorem tkL (l : List UInt8) (g : Nat) (w : World) (h : At1 w g ⟨l.toArray⟩) (hl : l.length ≤ 100000) : Calls Tryz.prog 125 #[.pointer (some ⟨g, 0, none⟩)] w fun e w' => e = .returned (.string ⟨(cutw l).toArray⟩) ∧ At1 w' g ⟨(cutr l).toArray⟩ ∧ Below g w w' :=
  tk_is ⟨l.toArray⟩ g w h (by rw [mk_size]; omega) _ _ (by rw [mk_toList]; rfl) (by rw [mk_toList]; rfl)
theorem pfxL (l : List UInt8) (hl : l.length ≤ 100000) (w : World) : Calls Tryz.prog 69 #[.string ⟨l.toArray⟩] w fun e w' => e = .returned (.agg #[.int .u32 (pparse l).1, .int .i64 (pparse l).2.1]) ∧ Below w.heap.size w w' := by
  have h := pfx_any ⟨l.toArray⟩ (by rw [mk_size]; exact hl) w
  rw [mk_toList] at h; exact h
theorem adrL (l : List UInt8) (hl : l.length ≤ 100000) (w : World) : Calls Tryz.prog 72 #[.string ⟨l.toArray⟩] w fun e w' => e = .returned (.int .u32 (adrI (parse l)).1) ∧ Below w.heap.size w w' := by
  have h := adr_any ⟨l.toArray⟩ (by rw [mk_size]; exact hl) w
  rw [mk_toList] at h; exact h
theorem numL (l : List UInt8) (hl : l.length ≤ 100000) (w : World) (hE : ErrV w) : Calls Tryz.prog 71 #[.string ⟨l.toArray⟩] w fun e w' => ∃ n : Int, e = .returned (.int .i64 n) ∧ (∀ m : Int, -1 ≤ m → m ≤ 2147483647 → l = Lib.itoa m → n = m) ∧ Below w.heap.size w w' := by
  have h := num_any ⟨l.toArray⟩ (by rw [mk_size]; exact hl) w hE
  rw [mk_toList] at h; exact h
theorem srcL (l : List UInt8) (w : World) (hs : Src9 w) : Calls Tryz.prog 70 #[.string ⟨l.toArray⟩] w fun e w' => ∃ n : Int, e = .returned (.int .u8 n) ∧ (0 ≤ n ∧ n ≤ 8) ∧ (∀ k : Nat, 1 ≤ k → k ≤ 8 → l = srcW k → n = k) ∧ w' = w := by
  have h := src_any ⟨l.toArray⟩ w hs
  rw [mk_toList] at h; exact h
/-- The route that is read, out of its words. -/
theorem route_it {l : List UInt8} {f d m t : Int} {F : Nat} (hF : 6 ≤ F) (hf : ∀ k : Nat, 1 ≤ k → k ≤ 8 → cutw (cutr l) = srcW k → f = k) (hd : ∀ x : Int, -1 ≤ x → x ≤ 2147483647 → cutw (cutr (cutr l)) = Lib.itoa x → d = x)
    (hm : ∀ x : Int, -1 ≤ x → x ≤ 2147483647 → cutw (cutr (cutr (cutr l))) = Lib.itoa x → m = x) (ht : ∀ x : Int, -1 ≤ x → x ≤ 2147483647 → cutw (cutr (cutr (cutr (cutr l)))) = Lib.itoa x → t = x)
    (q : RtD) (hq : mayR q = true) (ha : 0 ≤ q.a ∧ q.a < 4294967296) (hh : 0 ≤ q.ho ∧ q.ho < 4294967296) (hl : txR q = l) : opts F (cutr (cutr (cutr (cutr (cutr l))))) ⟨(pparse (cutw l)).1, (pparse (cutw l)).2.1, f, d, m, t, ⟨#[]⟩, 0, false⟩ = q := by
  obtain ⟨hck, f1, f8, hdi, hme, hta, _⟩ := mayR_parts (a := q.a) (b := q.b) (fr := q.fr) (di := q.di) (me := q.me) (ta := q.ta) (nm := q.nm) (ho := q.ho) (dc := q.dc) hq
  obtain ⟨bn0, bn32, _⟩ := ck_ok q.a q.b hck
  subst hl
  have n1 := ptx_no q.a.toNat q.b bn0
  have n2 := src_no q.fr.toNat
  have n3 := ito_no q.di
  have n4 := ito_no q.me
  have n5 := ito_no q.ta
  unfold txR wR at *
  rw [cutr_join _ n1, cutw_join _ n1] at *
  rw [cutr_join _ n2] at *
  rw [cutr_join _ n3] at *
  rw [cutr_join _ n4] at *
  rw [cutr_join _ n5] at *
  rw [cutw_join _ n2] at hf
  rw [cutw_join _ n3] at hd
  rw [cutw_join _ n4] at hm
  rw [cutw_join _ n5] at ht
  have e1 := hf q.fr.toNat (by omega) (by omega) rfl
  have e2 := hd q.di (by omega) (by omega) rfl
  have e3 := hm q.me (by omega) (by omega) rfl
  have e4 := ht q.ta (by omega) (by omega) rfl
  rw [opts_tl q hq hh F hF _ rfl rfl rfl, back_pfx q.a q.b ha.1 ha.2 hck]
  obtain ⟨qa, qb, qf, qd, qm, qt, qn, qh, qc⟩ := q
  simp only at *
  subst e2 e3 e4
  have : f = qf := by omega
  subst this
  rfl
def strLen : Value → Nat | .string s => s.size | _ => 0
/-- How long what is left is. -/
def restLen (W : World) (g : Nat) : Nat := match W.cell? ⟨g, 0, none⟩ with | some v => strLen v | none => 0
theorem restLen_at {W : World} {g : Nat} {s : ByteArray} (h : At1 W g s) : restLen W g = s.size := by
  unfold restLen At1 at *
  rw [show W.cell? ⟨g, 0, none⟩ = some (.string s) by simp only [World.cell?, h]; rfl]
  rfl
/-- What stands of the route while its words are read. -/
structure RSt (l : List UInt8) (S : List UInt8) (r : RtD) : Prop where
  ra : 0 ≤ r.a ∧ r.a < 4294967296
  rf : 0 ≤ r.fr
  rh : 0 ≤ r.ho ∧ r.ho < 4294967296
  rn : r.nm.size ≤ l.length
  sl : S.length ≤ l.length
theorem cutr_le (l : List UInt8) : (cutr l).length ≤ l.length := by have := cut_lens l; omega
theorem cutw_le (l : List UInt8) : (cutw l).length ≤ l.length := by have := cut_lens l; omega
set_option maxRecDepth 100000 in
set_option maxHeartbeats 8000000 in
theorem read_any (l0 : List UInt8) (hl : l0.length ≤ 100000) (w : World) (hs : Src9 w) (hE : ErrV w) : Calls Tryz.prog 39 #[.string ⟨l0.toArray⟩] w fun e w' => ∃ r : RtD, e = .returned (.agg (encRt r).toArray) ∧ RouteP l0 r ∧ Below w.heap.size w w' := by
  have eg : ∀ args w, (callFunc 125 args).run Tryz.prog w = .ok (.enter 125 args) w := enters_of Tryz.func125 (by kernel_rfl) rfl
  obtain ⟨w1, hw1⟩ : ∃ X, (w.alloc (.cells #[.int .u32 0, .int .i64 0, .int .u8 0, .int .i64 0, .int .i64 0, .int .i64 0, .string ⟨#[]⟩, .int .u32 0, .bool false] 27)).alloc (.cells #[.int .u32 0, .int .i64 0, .int .u8 0, .int .i64 0, .int .i64 0, .int .i64 0, .string ⟨#[]⟩, .int .u32 0, .bool false] 27) = X := ⟨_, rfl⟩
  have HZ1 : Hid (w1.heap.size = w.heap.size + 2) := Lib.hid (by rw [← hw1]; exact (Array.size_push ..).trans (congrArg (· + 1) (Array.size_push ..)))
  have HB1 : Hid (Below w.heap.size w w1) := Lib.hid (by rw [← hw1]; exact ((Below.refl _ _).alloc (Nat.le_refl _) _).alloc (Nat.le_trans (Nat.le_succ _) (Nat.le_of_eq (Array.size_push ..).symm)) _)
  have HX1 : Hid (w1.heap[w.heap.size]? = some (.cells #[.int .u32 0, .int .i64 0, .int .u8 0, .int .i64 0, .int .i64 0, .int .i64 0, .string ⟨#[]⟩, .int .u32 0, .bool false] 27 (0, 0))) := Lib.hid (by rw [← hw1]; exact ((Below.refl _ _).alloc (Nat.le_refl _) _).block _ (Nat.lt_of_lt_of_eq (Nat.lt_succ_self _) (Array.size_push ..).symm) |>.trans (heap_new' _ _))
  have HY1 : Hid (w1.heap[w.heap.size + 1]? = some (.cells #[.int .u32 0, .int .i64 0, .int .u8 0, .int .i64 0, .int .i64 0, .int .i64 0, .string ⟨#[]⟩, .int .u32 0, .bool false] 27 (0, 0))) := Lib.hid (by rw [← hw1]; have h := heap_new' (w.alloc (.cells #[.int .u32 0, .int .i64 0, .int .u8 0, .int .i64 0, .int .i64 0, .int .i64 0, .string ⟨#[]⟩, .int .u32 0, .bool false] 27)) (.cells #[.int .u32 0, .int .i64 0, .int .u8 0, .int .i64 0, .int .i64 0, .int .i64 0, .string ⟨#[]⟩, .int .u32 0, .bool false] 27); rwa [show (w.alloc (.cells #[.int .u32 0, .int .i64 0, .int .u8 0, .int .i64 0, .int .i64 0, .int .i64 0, .string ⟨#[]⟩, .int .u32 0, .bool false] 27)).heap.size = w.heap.size + 1 from Array.size_push ..] at h)
  have HS := Lib.hid hs
  have HE := Lib.hid hE
  clear hs hE
  go_enter Tryz.func39, Tryz.ntmps39
  go_wp2_with fail
  try rw [hw1]
  go_at_call 68
  refine (taker_is _ _).mono ?_
  rintro e w2 ⟨rfl, hw2⟩
  have e2 : w1.heap.size = w.heap.size + 2 := HZ1.out
  rw [e2]
  have S2 : Hid (RqS w w2 w.heap.size [.int .u32 0, .int .i64 0, .int .u8 0, .int .i64 0, .int .i64 0, .int .i64 0, .string ⟨#[]⟩, .int .u32 0, .bool false] ⟨l0.toArray⟩) := Lib.hid (by
    have hb : Below w1.heap.size w1 w2 := by rw [hw2]; exact (Below.refl _ _).alloc (Nat.le_refl _) _
    have ht : w2.heap[w1.heap.size]? = some (.cells #[.string ⟨l0.toArray⟩] 9 (0, 0)) := by rw [hw2]; exact heap_new' _ _
    rw [e2] at ht
    exact ⟨HB1.out.trans (hb.mono (by omega)), (hb.block _ (by omega)).trans HX1.out, (hb.block _ (by omega)).trans HY1.out, rfl, ht⟩)
  clear e2 hw2 hw1
  have b1 := cutr_le l0
  have b2 := cutr_le (cutr l0)
  have b3 := cutr_le (cutr (cutr l0))
  have b4 := cutr_le (cutr (cutr (cutr l0)))
  have b5 := cutr_le (cutr (cutr (cutr (cutr l0))))
  obtain ⟨l1, hl1⟩ : ∃ x, cutr l0 = x := ⟨_, rfl⟩
  obtain ⟨l2, hl2⟩ : ∃ x, cutr l1 = x := ⟨_, rfl⟩
  obtain ⟨l3, hl3⟩ : ∃ x, cutr l2 = x := ⟨_, rfl⟩
  obtain ⟨l4, hl4⟩ : ∃ x, cutr l3 = x := ⟨_, rfl⟩
  obtain ⟨l5, hl5⟩ : ∃ x, cutr l4 = x := ⟨_, rfl⟩
  simp only [hl1] at b1 b2 b3 b4 b5
  simp only [hl2] at b1 b2 b3 b4 b5
  simp only [hl3] at b1 b2 b3 b4 b5
  simp only [hl4] at b1 b2 b3 b4 b5
  simp only [hl5] at b1 b2 b3 b4 b5
  have v0 : (cutw l0).length ≤ 100000 := by have := cutw_le l0; omega
  have v1 : (cutw l1).length ≤ 100000 := by have := cutw_le l1; omega
  have v2 : (cutw l2).length ≤ 100000 := by have := cutw_le l2; omega
  have v3 : (cutw l3).length ≤ 100000 := by have := cutw_le l3; omega
  have v4 : (cutw l4).length ≤ 100000 := by have := cutw_le l4; omega
  have v5 : (cutw l5).length ≤ 100000 := by have := cutw_le l5; omega
  have K0 := Lib.hid hl1
  have K1 := Lib.hid hl2
  have K2 := Lib.hid hl3
  have K3 := Lib.hid hl4
  have K4 := Lib.hid hl5
  have V0 := Lib.hid v0
  have V1 := Lib.hid v1
  have V2 := Lib.hid v2
  have V3 := Lib.hid v3
  have V4 := Lib.hid v4
  have BL := Lib.hid (show l1.length ≤ 100000 ∧ l2.length ≤ 100000 ∧ l3.length ≤ 100000 ∧ l4.length ≤ 100000 ∧ l5.length ≤ l0.length from ⟨by omega, by omega, by omega, by omega, by omega⟩)
  have BL0 := Lib.hid hl
  clear b1 b2 b3 b4 b5 v0 v1 v2 v3 v4 v5 hl1 hl2 hl3 hl4 hl5 hl
  go_wp2_with fail
  refine (tkL l0 (w.heap.size + 2) _ S2.out.txt BL0.out).mono ?_
  rintro e w3 ⟨rfl, ha, hb⟩
  have S3 := Lib.hid (S2.out.tk hb ha)
  rw [show cutr l0 = l1 from K0.out] at S3
  clear ha hb
  go_wp2_with fail
  go_at_call 69
  refine (pfxL (cutw l0) V0.out _).mono ?_
  obtain ⟨pa, hpa⟩ : ∃ x, (pparse (cutw l0)).1 = x := ⟨_, rfl⟩
  obtain ⟨pb, hpb⟩ : ∃ x, (pparse (cutw l0)).2.1 = x := ⟨_, rfl⟩
  rw [hpa, hpb]
  rintro e w4 ⟨rfl, hb⟩
  have HPA := Lib.hid hpa
  have HPB := Lib.hid hpb
  have S4 := Lib.hid (S3.out.on hb)
  clear hb hpa hpb
  obtain ⟨hc4, hf4⟩ : (∀ o, w4.cell? ⟨w.heap.size + 1, o, none⟩ = ([.int .u32 0, .int .i64 0, .int .u8 0, .int .i64 0, .int .i64 0, .int .i64 0, .string ⟨#[]⟩, .int .u32 0, .bool false] : List Value)[o]?) ∧ ∀ o, w4.frozen? ⟨w.heap.size + 1, o, none⟩ = false := ⟨S4.out.cells, S4.out.free⟩
  have xc0 := hc4 0; have xf0 := hf4 0
  simp only [List.getElem?_cons_zero, List.getElem?_cons_succ] at xc0
  have xc1 := hc4 1; have xf1 := hf4 1
  simp only [List.getElem?_cons_zero, List.getElem?_cons_succ] at xc1
  clear hc4 hf4
  go_wp2_with fail
  obtain ⟨w5, hw5⟩ : ∃ X, ((w4.setCell ⟨w.heap.size + 1, 0, none⟩ (.int .u32 pa)).setCell ⟨w.heap.size + 1, 1, none⟩ (.int .i64 pb)) = X := ⟨_, rfl⟩
  have S5 : Hid (RqS w w5 w.heap.size [.int .u32 pa, .int .i64 pb, .int .u8 0, .int .i64 0, .int .i64 0, .int .i64 0, .string ⟨#[]⟩, .int .u32 0, .bool false] ⟨l1.toArray⟩) := Lib.hid (by rw [← hw5]; exact ((S4.out).st 0 (.int .u32 pa)).st 1 (.int .i64 pb))
  rw [hw5]
  clear hw5 xc0 xf0 xc1 xf1
  go_wp2_with fail
  refine (tkL l1 (w.heap.size + 2) _ S5.out.txt BL.out.1).mono ?_
  rintro e w6 ⟨rfl, ha, hb⟩
  have S6 := Lib.hid (S5.out.tk hb ha)
  rw [show cutr l1 = l2 from K1.out] at S6
  clear ha hb
  go_wp2_with fail
  go_at_call 70
  refine (srcL (cutw l1) _ (HS.out.on (S6.out.bel))).mono ?_
  rintro e w7 ⟨f, rfl, hf0, hf, hq⟩
  have HF0 := Lib.hid hf0
  have HF := Lib.hid hf
  have S7 : Hid (RqS w w7 w.heap.size [.int .u32 pa, .int .i64 pb, .int .u8 0, .int .i64 0, .int .i64 0, .int .i64 0, .string ⟨#[]⟩, .int .u32 0, .bool false] ⟨l2.toArray⟩) := Lib.hid (by rw [hq]; exact S6.out)
  clear hq hf0 hf
  obtain ⟨hc7, hf7⟩ : (∀ o, w7.cell? ⟨w.heap.size + 1, o, none⟩ = ([.int .u32 pa, .int .i64 pb, .int .u8 0, .int .i64 0, .int .i64 0, .int .i64 0, .string ⟨#[]⟩, .int .u32 0, .bool false] : List Value)[o]?) ∧ ∀ o, w7.frozen? ⟨w.heap.size + 1, o, none⟩ = false := ⟨S7.out.cells, S7.out.free⟩
  have xc2 := hc7 2; have xf2 := hf7 2
  simp only [List.getElem?_cons_zero, List.getElem?_cons_succ] at xc2
  clear hc7 hf7
  go_wp2_with fail
  obtain ⟨w8, hw8⟩ : ∃ X, (w7.setCell ⟨w.heap.size + 1, 2, none⟩ (.int .u8 f)) = X := ⟨_, rfl⟩
  have S8 : Hid (RqS w w8 w.heap.size [.int .u32 pa, .int .i64 pb, .int .u8 f, .int .i64 0, .int .i64 0, .int .i64 0, .string ⟨#[]⟩, .int .u32 0, .bool false] ⟨l2.toArray⟩) := Lib.hid (by rw [← hw8]; exact (S7.out).st 2 (.int .u8 f))
  rw [hw8]
  clear hw8 xc2 xf2
  go_wp2_with fail
  refine (tkL l2 (w.heap.size + 2) _ S8.out.txt BL.out.2.1).mono ?_
  rintro e w9 ⟨rfl, ha, hb⟩
  have S9 := Lib.hid (S8.out.tk hb ha)
  rw [show cutr l2 = l3 from K2.out] at S9
  clear ha hb
  go_wp2_with fail
  go_at_call 71
  refine (numL (cutw l2) V2.out _ (HE.out.on S9.out.bel)).mono ?_
  rintro e w10 ⟨d, rfl, hv, hb⟩
  have HVd := Lib.hid hv
  have S10 := Lib.hid (S9.out.on hb)
  clear hb hv
  obtain ⟨hc10, hf10⟩ : (∀ o, w10.cell? ⟨w.heap.size + 1, o, none⟩ = ([.int .u32 pa, .int .i64 pb, .int .u8 f, .int .i64 0, .int .i64 0, .int .i64 0, .string ⟨#[]⟩, .int .u32 0, .bool false] : List Value)[o]?) ∧ ∀ o, w10.frozen? ⟨w.heap.size + 1, o, none⟩ = false := ⟨S10.out.cells, S10.out.free⟩
  have xc3 := hc10 3; have xf3 := hf10 3
  simp only [List.getElem?_cons_zero, List.getElem?_cons_succ] at xc3
  clear hc10 hf10
  go_wp2_with fail
  obtain ⟨w11, hw11⟩ : ∃ X, (w10.setCell ⟨w.heap.size + 1, 3, none⟩ (.int .i64 d)) = X := ⟨_, rfl⟩
  have S11 : Hid (RqS w w11 w.heap.size [.int .u32 pa, .int .i64 pb, .int .u8 f, .int .i64 d, .int .i64 0, .int .i64 0, .string ⟨#[]⟩, .int .u32 0, .bool false] ⟨l3.toArray⟩) := Lib.hid (by rw [← hw11]; exact (S10.out).st 3 (.int .i64 d))
  rw [hw11]
  clear hw11 xc3 xf3
  go_wp2_with fail
  refine (tkL l3 (w.heap.size + 2) _ S11.out.txt BL.out.2.2.1).mono ?_
  rintro e w12 ⟨rfl, ha, hb⟩
  have S12 := Lib.hid (S11.out.tk hb ha)
  rw [show cutr l3 = l4 from K3.out] at S12
  clear ha hb
  go_wp2_with fail
  go_at_call 71
  refine (numL (cutw l3) V3.out _ (HE.out.on S12.out.bel)).mono ?_
  rintro e w13 ⟨m, rfl, hv, hb⟩
  have HVm := Lib.hid hv
  have S13 := Lib.hid (S12.out.on hb)
  clear hb hv
  obtain ⟨hc13, hf13⟩ : (∀ o, w13.cell? ⟨w.heap.size + 1, o, none⟩ = ([.int .u32 pa, .int .i64 pb, .int .u8 f, .int .i64 d, .int .i64 0, .int .i64 0, .string ⟨#[]⟩, .int .u32 0, .bool false] : List Value)[o]?) ∧ ∀ o, w13.frozen? ⟨w.heap.size + 1, o, none⟩ = false := ⟨S13.out.cells, S13.out.free⟩
  have xc4 := hc13 4; have xf4 := hf13 4
  simp only [List.getElem?_cons_zero, List.getElem?_cons_succ] at xc4
  clear hc13 hf13
  go_wp2_with fail
  obtain ⟨w14, hw14⟩ : ∃ X, (w13.setCell ⟨w.heap.size + 1, 4, none⟩ (.int .i64 m)) = X := ⟨_, rfl⟩
  have S14 : Hid (RqS w w14 w.heap.size [.int .u32 pa, .int .i64 pb, .int .u8 f, .int .i64 d, .int .i64 m, .int .i64 0, .string ⟨#[]⟩, .int .u32 0, .bool false] ⟨l4.toArray⟩) := Lib.hid (by rw [← hw14]; exact (S13.out).st 4 (.int .i64 m))
  rw [hw14]
  clear hw14 xc4 xf4
  go_wp2_with fail
  refine (tkL l4 (w.heap.size + 2) _ S14.out.txt BL.out.2.2.2.1).mono ?_
  rintro e w15 ⟨rfl, ha, hb⟩
  have S15 := Lib.hid (S14.out.tk hb ha)
  rw [show cutr l4 = l5 from K4.out] at S15
  clear ha hb
  go_wp2_with fail
  go_at_call 71
  refine (numL (cutw l4) V4.out _ (HE.out.on S15.out.bel)).mono ?_
  rintro e w16 ⟨t, rfl, hv, hb⟩
  have HVt := Lib.hid hv
  have S16 := Lib.hid (S15.out.on hb)
  clear hb hv
  obtain ⟨hc16, hf16⟩ : (∀ o, w16.cell? ⟨w.heap.size + 1, o, none⟩ = ([.int .u32 pa, .int .i64 pb, .int .u8 f, .int .i64 d, .int .i64 m, .int .i64 0, .string ⟨#[]⟩, .int .u32 0, .bool false] : List Value)[o]?) ∧ ∀ o, w16.frozen? ⟨w.heap.size + 1, o, none⟩ = false := ⟨S16.out.cells, S16.out.free⟩
  have xc5 := hc16 5; have xf5 := hf16 5
  simp only [List.getElem?_cons_zero, List.getElem?_cons_succ] at xc5
  clear hc16 hf16
  go_wp2_with fail
  obtain ⟨w17, hw17⟩ : ∃ X, (w16.setCell ⟨w.heap.size + 1, 5, none⟩ (.int .i64 t)) = X := ⟨_, rfl⟩
  have S17 : Hid (RqS w w17 w.heap.size [.int .u32 pa, .int .i64 pb, .int .u8 f, .int .i64 d, .int .i64 m, .int .i64 t, .string ⟨#[]⟩, .int .u32 0, .bool false] ⟨l5.toArray⟩) := Lib.hid (by rw [← hw17]; exact (S16.out).st 5 (.int .i64 t))
  rw [hw17]
  clear hw17 xc5 xf5
  go_wp2_with fail
  refine (tkL l5 (w.heap.size + 2) _ S17.out.txt (by have := BL.out; have := BL0.out; omega)).mono ?_
  rintro e w18 ⟨rfl, ha, hb⟩
  have S18 := Lib.hid (S17.out.tk hb ha)
  clear ha hb
  obtain ⟨FF, hFF⟩ : ∃ F, opts (l5.length + 6) l5 ⟨pa, pb, f, d, m, t, ⟨#[]⟩, 0, false⟩ = F := ⟨_, rfl⟩
  have HIT : Hid (∀ q : RtD, mayR q = true → 0 ≤ q.a ∧ q.a < 4294967296 → 0 ≤ q.ho ∧ q.ho < 4294967296 → txR q = l0 → FF = q) := Lib.hid fun q h1 h2 h3 h4 => by
    have h := route_it (l := l0) (f := f) (d := d) (m := m) (t := t) (F := l5.length + 6) (by omega) (by rw [K0.out]; exact HF.out) (by rw [K0.out, K1.out]; exact HVd.out) (by rw [K0.out, K1.out, K2.out]; exact HVm.out) (by rw [K0.out, K1.out, K2.out, K3.out]; exact HVt.out) q h1 h2 h3 h4
    rw [K0.out, K1.out, K2.out, K3.out, K4.out, HPA.out, HPB.out, hFF] at h
    exact h
  have HR0 : Hid (RSt l0 l5 ⟨pa, pb, f, d, m, t, ⟨#[]⟩, 0, false⟩) := Lib.hid ⟨by rw [← HPA.out]; exact ⟨pparse_range.1, pparse_range.2.1⟩, HF0.out.1, by simp, Nat.zero_le _, BL.out.2.2.2.2⟩
  have HFF := Lib.hid hFF
  clear hFF HF HF0 HVd HVm HVt HPA HPB K0 K1 K2 K3 K4 V0 V1 V2 V3 V4 BL
  go_wp2_with fail
  go_loopw [5] (fun vw wr => ∃ (S : List UInt8) (fl : Nat) (r : RtD), vw = .string ⟨(cutw S).toArray⟩ ∧ S.length < fl ∧ Hid (RqS w wr w.heap.size (encRt r) ⟨(cutr S).toArray⟩) ∧ Hid (opts fl S r = FF) ∧ Hid (RSt l0 S r)) (fun vw wr => strLen vw + restLen wr (w.heap.size + 2))
  case atStart => exact ⟨l5, l5.length + 6, ⟨pa, pb, f, d, m, t, ⟨#[]⟩, 0, false⟩, rfl, by omega, S18, HFF, HR0⟩
  case round =>
    obtain ⟨S, fl, r, rfl, hfl, HQ, HO, HS2⟩ := hrel
    clear S18 HFF HR0
    have hRL := restLen_at HQ.out.txt
    rw [mk_size] at hRL
    have hcl := cut_lens S
    have hsl := HS2.out.sl
    have hl0 := BL0.out
    obtain ⟨g, rfl⟩ : ∃ g, fl = g + 1 := ⟨fl - 1, by omega⟩
    obtain ⟨wd, hwd⟩ : ∃ x, cutw S = x := ⟨_, rfl⟩
    obtain ⟨wb, hwb⟩ : ∃ x, (⟨wd.toArray⟩ : ByteArray) = x := ⟨_, rfl⟩
    have hwl : wb.data.toList = wd := by rw [← hwb]
    have hwz : wb.size = wd.length := by rw [← hwb, mk_size]
    rw [hwd] at hcl
    obtain ⟨ra, rb, rf, rd, rm, rt, rn, rh, rc⟩ := r
    rw [hwd, hwb]
    have HLs := Lib.hid hsl
    by_cases h0 : wd = []
    case pos =>
      have e0 := isE_true (hwl.trans h0)
      have HF : Hid (FF = ⟨ra, rb, rf, rd, rm, rt, rn, rh, rc⟩) := Lib.hid (by rw [← HO.out]; exact opts_end _ _ _ (hwd.trans h0))
      clear h0 hwl hwz hcl hsl hRL hwd hwb
      have hd : ∀ o, wr.cell? ⟨w.heap.size, o, none⟩ = ([.int .u32 0, .int .i64 0, .int .u8 0, .int .i64 0, .int .i64 0, .int .i64 0, .string ⟨#[]⟩, .int .u32 0, .bool false] : List Value)[o]? := fun o => by
        simp only [World.cell?, HQ.out.res]; simp
      have hg : ∀ o, wr.frozen? ⟨w.heap.size, o, none⟩ = false := fun o => by simp [World.frozen?, HQ.out.res]
      have hc : ∀ o, wr.cell? ⟨w.heap.size + 1, o, none⟩ = ([.int .u32 ra, .int .i64 rb, .int .u8 rf, .int .i64 rd, .int .i64 rm, .int .i64 rt, .string rn, .int .u32 rh, .bool rc] : List Value)[o]? := HQ.out.cells
      have xc0 := hc 0; have xd0 := hd 0; have xg0 := hg 0
      simp only [List.getElem?_cons_zero, List.getElem?_cons_succ] at xc0 xd0
      have xc1 := hc 1; have xd1 := hd 1; have xg1 := hg 1
      simp only [List.getElem?_cons_zero, List.getElem?_cons_succ] at xc1 xd1
      have xc2 := hc 2; have xd2 := hd 2; have xg2 := hg 2
      simp only [List.getElem?_cons_zero, List.getElem?_cons_succ] at xc2 xd2
      have xc3 := hc 3; have xd3 := hd 3; have xg3 := hg 3
      simp only [List.getElem?_cons_zero, List.getElem?_cons_succ] at xc3 xd3
      have xc4 := hc 4; have xd4 := hd 4; have xg4 := hg 4
      simp only [List.getElem?_cons_zero, List.getElem?_cons_succ] at xc4 xd4
      have xc5 := hc 5; have xd5 := hd 5; have xg5 := hg 5
      simp only [List.getElem?_cons_zero, List.getElem?_cons_succ] at xc5 xd5
      have xc6 := hc 6; have xd6 := hd 6; have xg6 := hg 6
      simp only [List.getElem?_cons_zero, List.getElem?_cons_succ] at xc6 xd6
      have xc7 := hc 7; have xd7 := hd 7; have xg7 := hg 7
      simp only [List.getElem?_cons_zero, List.getElem?_cons_succ] at xc7 xd7
      have xc8 := hc 8; have xd8 := hd 8; have xg8 := hg 8
      simp only [List.getElem?_cons_zero, List.getElem?_cons_succ] at xc8 xd8
      clear hc hd hg
      go_wp2_with fail
      refine bodyPost_ret (by simp [results, Tryz.results39, go_sem, xd0, xd1, xd2, xd3, xd4, xd5, xd6, xd7, xd8]; try rfl) rfl ?_
      refine ⟨⟨ra, rb, rf, rd, rm, rt, rn, rh, rc⟩, rfl, ⟨HS2.out.ra, HS2.out.rf, HS2.out.rh, HS2.out.rn, fun q h1 h2 h3 h4 => ?_⟩, Below.setCell (p := ⟨w.heap.size, 8, none⟩) (Below.setCell (p := ⟨w.heap.size, 7, none⟩) (Below.setCell (p := ⟨w.heap.size, 6, none⟩) (Below.setCell (p := ⟨w.heap.size, 5, none⟩) (Below.setCell (p := ⟨w.heap.size, 4, none⟩) (Below.setCell (p := ⟨w.heap.size, 3, none⟩) (Below.setCell (p := ⟨w.heap.size, 2, none⟩) (Below.setCell (p := ⟨w.heap.size, 1, none⟩) (Below.setCell (p := ⟨w.heap.size, 0, none⟩) (HQ.out.bel) (Nat.le_refl _) _) (Nat.le_refl _) _) (Nat.le_refl _) _) (Nat.le_refl _) _) (Nat.le_refl _) _) (Nat.le_refl _) _) (Nat.le_refl _) _) (Nat.le_refl _) _) (Nat.le_refl _) _⟩
      rw [← HF.out]
      exact HIT.out q h1 h2 h3 h4
    have e0 := isE_false (s := wb) (by rw [hwl]; exact h0)
    have hpos := List.length_pos_iff.2 h0
    have t1 := cutr_le (cutr S)
    have t2 := cut_lens (cutr S)
    have HT1 := Lib.hid t1
    have HT2 := Lib.hid t2
    have HCL := Lib.hid hcl
    have HPO := Lib.hid hpos
    have HRL := Lib.hid hRL
    have HWZ := Lib.hid hwz
    have HWD := Lib.hid hwd
    have HWL := Lib.hid hwl
    clear hpos t1 t2 hcl hRL hwz
    by_cases hv : wd = [118, 105, 97]
    case pos =>
      have v1 : ([118, 105, 97] == wb.toList) = true := by rw [spell1, hwl]; simpa using hv
      have v2 : (wb.toList == [118, 105, 97]) = true := by rw [spell2, hwl]; simpa using hv
      have HV := Lib.hid hv
      clear hv hwl hsl hwd hwb h0
      go_wp2_with fail
      refine (tkL (cutr S) (w.heap.size + 2) _ HQ.out.txt (by have := HCL.out; have := HLs.out; have := BL0.out; omega)).mono ?_
      rintro e w1 ⟨rfl, ha, hb⟩
      have T1 := Lib.hid (HQ.out.tk hb ha)
      clear ha hb
      go_wp2_with fail
      go_at_call 72
      refine (adrL (cutw (cutr S)) (by have := HT2.out; have := HCL.out; have := HLs.out; have := BL0.out; omega) _).mono ?_
      obtain ⟨pa, hpa⟩ : ∃ x, (adrI (parse (cutw (cutr S)))).1 = x := ⟨_, rfl⟩
      have hpr : 0 ≤ pa ∧ pa < 4294967296 := by rw [← hpa]; exact adrI_range
      rw [hpa]
      rintro e w2 ⟨rfl, hb⟩
      have HPA := Lib.hid hpa
      have HPR := Lib.hid hpr
      have T2 := Lib.hid (T1.out.on hb)
      clear hb hpa hpr
      obtain ⟨hc, hf⟩ : (∀ o, w2.cell? ⟨w.heap.size + 1, o, none⟩ = ([.int .u32 ra, .int .i64 rb, .int .u8 rf, .int .i64 rd, .int .i64 rm, .int .i64 rt, .string rn, .int .u32 rh, .bool rc] : List Value)[o]?) ∧ ∀ o, w2.frozen? ⟨w.heap.size + 1, o, none⟩ = false := ⟨T2.out.cells, T2.out.free⟩
      have xc := hc 7; have xf := hf 7
      simp only [List.getElem?_cons_zero, List.getElem?_cons_succ] at xc
      clear hc hf
      go_wp2_with fail
      obtain ⟨w3, hw⟩ : ∃ X, (w2.setCell ⟨w.heap.size + 1, 7, none⟩ (.int .u32 pa)) = X := ⟨_, rfl⟩
      have T3 : Hid (RqS w w3 w.heap.size [.int .u32 ra, .int .i64 rb, .int .u8 rf, .int .i64 rd, .int .i64 rm, .int .i64 rt, .string rn, .int .u32 pa, .bool rc] ⟨(cutr (cutr S)).toArray⟩) := Lib.hid (by rw [← hw]; exact T2.out.st 7 (.int .u32 pa))
      rw [hw]
      clear hw xc xf
      go_wp2_with fail
      refine (tkL (cutr (cutr S)) (w.heap.size + 2) _ T3.out.txt (by have := HT1.out; have := HCL.out; have := HLs.out; have := BL0.out; omega)).mono ?_
      rintro e w4 ⟨rfl, ha, hb⟩
      have T4 := Lib.hid (T3.out.tk hb ha)
      clear ha hb
      have hRL2 := restLen_at T4.out.txt
      rw [mk_size] at hRL2
      have hcl2 := cut_lens (cutr (cutr S))
      have HM := Lib.hid hRL2
      have HM2 := Lib.hid hcl2
      clear hRL2 hcl2
      have HN : Hid (opts g (cutr (cutr S)) (⟨ra, rb, rf, rd, rm, rt, rn, pa, rc⟩ : RtD) = FF) := Lib.hid (by rw [← HO.out, opts_via (HWD.out.trans HV.out), HPA.out])
      go_wp2
      go_roundw
      case rel => exact ⟨cutr (cutr S), g, (⟨ra, rb, rf, rd, rm, rt, rn, pa, rc⟩ : RtD), rfl, by have := HT1.out; have := HCL.out; have := HPO.out; omega, T4, HN, Lib.hid ⟨HS2.out.ra, HS2.out.rf, HPR.out, HS2.out.rn, by have := HT1.out; have := HCL.out; have := HLs.out; omega⟩⟩
      case measure =>
        have m1 := HM.out; have m2 := HM2.out; have m3 := HRL.out; have m4 := HCL.out; have m5 := HPO.out; have m6 := HT2.out; have m7 := HWZ.out
        rw [m1, m3]
        simp only [strLen, mk_size]
        omega
    have v1 : ([118, 105, 97] == wb.toList) = false := by rw [spell1, hwl]; simpa using hv
    have v2 : (wb.toList == [118, 105, 97]) = false := by rw [spell2, hwl]; simpa using hv
    have HNV := Lib.hid hv
    by_cases hn : wd = [111, 110]
    case pos =>
      have n1 : ([111, 110] == wb.toList) = true := by rw [spell1, hwl]; simpa using hn
      have n2 : (wb.toList == [111, 110]) = true := by rw [spell2, hwl]; simpa using hn
      have HV := Lib.hid hn
      clear hv hn hwl hsl hwd hwb h0
      go_wp2_with fail
      refine (tkL (cutr S) (w.heap.size + 2) _ HQ.out.txt (by have := HCL.out; have := HLs.out; have := BL0.out; omega)).mono ?_
      rintro e w1 ⟨rfl, ha, hb⟩
      have T1 := Lib.hid (HQ.out.tk hb ha)
      clear ha hb
      obtain ⟨NN, hNN⟩ : ∃ x, (⟨(cutw (cutr S)).toArray⟩ : ByteArray) = x := ⟨_, rfl⟩
      have hnz : NN.size = (cutw (cutr S)).length := by rw [← hNN, mk_size]
      rw [hNN]
      have HNN := Lib.hid hNN
      have HNZ := Lib.hid hnz
      clear hNN hnz
      go_wp2_with fail
      go_at_call 73
      refine (clone_w NN (by have := HNZ.out; have := HT2.out; have := HCL.out; have := HLs.out; have := BL0.out; omega) _).mono ?_
      rintro e w2 ⟨rfl, hb⟩
      have T2 := Lib.hid (T1.out.on hb)
      clear hb
      obtain ⟨hc, hf⟩ : (∀ o, w2.cell? ⟨w.heap.size + 1, o, none⟩ = ([.int .u32 ra, .int .i64 rb, .int .u8 rf, .int .i64 rd, .int .i64 rm, .int .i64 rt, .string rn, .int .u32 rh, .bool rc] : List Value)[o]?) ∧ ∀ o, w2.frozen? ⟨w.heap.size + 1, o, none⟩ = false := ⟨T2.out.cells, T2.out.free⟩
      have xc := hc 6; have xf := hf 6
      simp only [List.getElem?_cons_zero, List.getElem?_cons_succ] at xc
      clear hc hf
      go_wp2_with fail
      obtain ⟨w3, hw⟩ : ∃ X, (w2.setCell ⟨w.heap.size + 1, 6, none⟩ (.string NN)) = X := ⟨_, rfl⟩
      have T3 : Hid (RqS w w3 w.heap.size [.int .u32 ra, .int .i64 rb, .int .u8 rf, .int .i64 rd, .int .i64 rm, .int .i64 rt, .string NN, .int .u32 rh, .bool rc] ⟨(cutr (cutr S)).toArray⟩) := Lib.hid (by rw [← hw]; exact T2.out.st 6 (.string NN))
      rw [hw]
      clear hw xc xf
      go_wp2_with fail
      refine (tkL (cutr (cutr S)) (w.heap.size + 2) _ T3.out.txt (by have := HT1.out; have := HCL.out; have := HLs.out; have := BL0.out; omega)).mono ?_
      rintro e w4 ⟨rfl, ha, hb⟩
      have T4 := Lib.hid (T3.out.tk hb ha)
      clear ha hb
      have hRL2 := restLen_at T4.out.txt
      rw [mk_size] at hRL2
      have hcl2 := cut_lens (cutr (cutr S))
      have HM := Lib.hid hRL2
      have HM2 := Lib.hid hcl2
      clear hRL2 hcl2
      have HN : Hid (opts g (cutr (cutr S)) (⟨ra, rb, rf, rd, rm, rt, NN, rh, rc⟩ : RtD) = FF) := Lib.hid (by rw [← HO.out, opts_on (HWD.out.trans HV.out), HNN.out])
      go_wp2
      go_roundw
      case rel => exact ⟨cutr (cutr S), g, (⟨ra, rb, rf, rd, rm, rt, NN, rh, rc⟩ : RtD), rfl, by have := HT1.out; have := HCL.out; have := HPO.out; omega, T4, HN, Lib.hid ⟨HS2.out.ra, HS2.out.rf, HS2.out.rh, (by have := HNZ.out; have := HT2.out; have := HCL.out; have := HLs.out; show NN.size ≤ _; omega), by have := HT1.out; have := HCL.out; have := HLs.out; omega⟩⟩
      case measure =>
        have m1 := HM.out; have m2 := HM2.out; have m3 := HRL.out; have m4 := HCL.out; have m5 := HPO.out; have m6 := HT2.out; have m7 := HWZ.out
        rw [m1, m3]
        simp only [strLen, mk_size]
        omega
    have n1 : ([111, 110] == wb.toList) = false := by rw [spell1, hwl]; simpa using hn
    have n2 : (wb.toList == [111, 110]) = false := by rw [spell2, hwl]; simpa using hn
    have HNN := Lib.hid hn
    by_cases hx : wd = [100, 105, 115, 99, 97, 114, 100]
    case pos =>
      have x1 : ([100, 105, 115, 99, 97, 114, 100] == wb.toList) = true := by rw [spell1, hwl]; simpa using hx
      have x2 : (wb.toList == [100, 105, 115, 99, 97, 114, 100]) = true := by rw [spell2, hwl]; simpa using hx
      have HV := Lib.hid hx
      clear hv hn hx hwl hsl hwd hwb h0
      have T2 := HQ
      obtain ⟨hc, hf⟩ : (∀ o, wr.cell? ⟨w.heap.size + 1, o, none⟩ = ([.int .u32 ra, .int .i64 rb, .int .u8 rf, .int .i64 rd, .int .i64 rm, .int .i64 rt, .string rn, .int .u32 rh, .bool rc] : List Value)[o]?) ∧ ∀ o, wr.frozen? ⟨w.heap.size + 1, o, none⟩ = false := ⟨T2.out.cells, T2.out.free⟩
      have xc := hc 8; have xf := hf 8
      simp only [List.getElem?_cons_zero, List.getElem?_cons_succ] at xc
      clear hc hf
      go_wp2_with fail
      obtain ⟨w3, hw⟩ : ∃ X, (wr.setCell ⟨w.heap.size + 1, 8, none⟩ (.bool true)) = X := ⟨_, rfl⟩
      have T3 : Hid (RqS w w3 w.heap.size [.int .u32 ra, .int .i64 rb, .int .u8 rf, .int .i64 rd, .int .i64 rm, .int .i64 rt, .string rn, .int .u32 rh, .bool true] ⟨(cutr S).toArray⟩) := Lib.hid (by rw [← hw]; exact T2.out.st 8 (.bool true))
      rw [hw]
      clear hw xc xf
      go_wp2_with fail
      refine (tkL (cutr S) (w.heap.size + 2) _ T3.out.txt (by have := HT1.out; have := HCL.out; have := HLs.out; have := BL0.out; omega)).mono ?_
      rintro e w4 ⟨rfl, ha, hb⟩
      have T4 := Lib.hid (T3.out.tk hb ha)
      clear ha hb
      have hRL2 := restLen_at T4.out.txt
      rw [mk_size] at hRL2
      have hcl2 := cut_lens (cutr S)
      have HM := Lib.hid hRL2
      have HM2 := Lib.hid hcl2
      clear hRL2 hcl2
      have HN : Hid (opts g (cutr S) (⟨ra, rb, rf, rd, rm, rt, rn, rh, true⟩ : RtD) = FF) := Lib.hid (by rw [← HO.out, opts_dis (HWD.out.trans HV.out)])
      go_wp2
      go_roundw
      case rel => exact ⟨cutr S, g, (⟨ra, rb, rf, rd, rm, rt, rn, rh, true⟩ : RtD), rfl, by have := HT1.out; have := HCL.out; have := HPO.out; omega, T4, HN, Lib.hid ⟨HS2.out.ra, HS2.out.rf, HS2.out.rh, HS2.out.rn, by have := HT1.out; have := HCL.out; have := HLs.out; omega⟩⟩
      case measure =>
        have m1 := HM.out; have m2 := HM2.out; have m3 := HRL.out; have m4 := HCL.out; have m5 := HPO.out; have m6 := HT2.out; have m7 := HWZ.out
        rw [m1, m3]
        simp only [strLen, mk_size]
        omega
    have x1 : ([100, 105, 115, 99, 97, 114, 100] == wb.toList) = false := by rw [spell1, hwl]; simpa using hx
    have x2 : (wb.toList == [100, 105, 115, 99, 97, 114, 100]) = false := by rw [spell2, hwl]; simpa using hx
    have HNX := Lib.hid hx
    have HN0 := Lib.hid h0
    clear hv hn hx hwl hsl hwd hwb h0
    have T3 := HQ
    go_wp2_with fail
    refine (tkL (cutr S) (w.heap.size + 2) _ T3.out.txt (by have := HT1.out; have := HCL.out; have := HLs.out; have := BL0.out; omega)).mono ?_
    rintro e w4 ⟨rfl, ha, hb⟩
    have T4 := Lib.hid (T3.out.tk hb ha)
    clear ha hb
    have hRL2 := restLen_at T4.out.txt
    rw [mk_size] at hRL2
    have hcl2 := cut_lens (cutr S)
    have HM := Lib.hid hRL2
    have HM2 := Lib.hid hcl2
    clear hRL2 hcl2
    have HN : Hid (opts g (cutr S) (⟨ra, rb, rf, rd, rm, rt, rn, rh, rc⟩ : RtD) = FF) := Lib.hid (by rw [← HO.out, opts_else (by rw [HWD.out]; exact HN0.out) (by rw [HWD.out]; exact HNV.out) (by rw [HWD.out]; exact HNN.out) (by rw [HWD.out]; exact HNX.out)])
    go_wp2
    go_roundw
    case rel => exact ⟨cutr S, g, (⟨ra, rb, rf, rd, rm, rt, rn, rh, rc⟩ : RtD), rfl, by have := HT1.out; have := HCL.out; have := HPO.out; omega, T4, HN, Lib.hid ⟨HS2.out.ra, HS2.out.rf, HS2.out.rh, HS2.out.rn, by have := HT1.out; have := HCL.out; have := HLs.out; omega⟩⟩
    case measure =>
      have m1 := HM.out; have m2 := HM2.out; have m3 := HRL.out; have m4 := HCL.out; have m5 := HPO.out; have m6 := HT2.out; have m7 := HWZ.out
      rw [m1, m3]
      simp only [strLen, mk_size]
      omega
end Go.Proofs.YtmbkkjofikijiaaGreatDoor
