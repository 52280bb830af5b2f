/- RoutesBack: what is written is read back, what is read is written so. Conditions: the table of package strconv and the words of package routes are what their texts say, the variables ErrSyntax and ErrRange of package strconv hold errors. -/
import Derived.Test.YtmbkkjofikijiaaGreatDoorRbK
import Derived.Deep.DeepCutAuto
namespace Go.Proofs.YtmbkkjofikijiaaGreatDoor
open Go.RowKit
theorem carryL {A C : World} {g : Nat} {x : Obj} (h : A.heap[g]? = some x) (hb : Below A.heap.size A C) : C.heap[g]? = some x := (hb.block g (Array.getElem?_eq_some_iff.1 h).1).trans h
theorem str_back (s : ByteArray) : (⟨s.data.toList.toArray⟩ : ByteArray) = s := by cases s; simp
theorem str_3000 {s : ByteArray} (h : (s.size : Int) ≤ 3000) : s.data.toList.length ≤ 3000 := by rw [str_toList]; omega
theorem parP_zero {l : List UInt8} {x : RtD} {e : Int} (h : ParP l x e) : (e = 0 ∧ (0 ≤ x.a ∧ x.a < 4294967296) ∧ 0 ≤ x.fr ∧ (0 ≤ x.ho ∧ x.ho < 4294967296) ∧ x.nm.size ≤ l.length ∧ TxtR x = (.string ⟨l.toArray⟩, 0)) ∨ e = 4 := by
  rcases h with ⟨h1, h2, h3, h4, h5, h6, h7, _⟩ | ⟨h1, _⟩
  · exact .inl ⟨h1, h4, h5, h6, h7, by unfold TxtR; rw [h2, h3]; rfl⟩
  · exact .inr h1
theorem parA_zero {l : List UInt8} {x : AvD} {e : Int} (h : ParA l x e) : (e = 0 ∧ AvR x ∧ 2 * x.pa.length ≤ l.length + 1 ∧ 2 * x.co.length ≤ l.length + 1 ∧ 2 * x.cl.length ≤ l.length + 1 ∧ TxtA x = (.string ⟨l.toArray⟩, 0)) ∨ e = 4 := by
  rcases h with ⟨h1, h2, h3, h4⟩ | ⟨h1, _⟩
  · exact .inl ⟨h1, h4.r, h4.l1, h4.l2, h4.l3, by unfold TxtA; rw [h2, h3]; rfl⟩
  · exact .inr h1
theorem txt_two (q : RtD) : ∃ (tb : ByteArray) (x : Int), TxtR q = (.string tb, x) ∧ ((mayR q = true ∧ tb = ⟨(txR q).toArray⟩ ∧ x = 0) ∨ (mayR q = false ∧ tb = ⟨#[]⟩ ∧ x = 1)) := by
  unfold TxtR
  cases h : mayR q with
  | true => exact ⟨_, _, rfl, .inl ⟨rfl, rfl, rfl⟩⟩
  | false => exact ⟨_, _, rfl, .inr ⟨rfl, rfl, rfl⟩⟩
theorem txa_two (q : AvD) : ∃ (tb : ByteArray) (x : Int), TxtA q = (.string tb, x) ∧ ((mayAv q = true ∧ tb = ⟨(txA q).toArray⟩ ∧ x = 0) ∨ (mayAv q = false ∧ tb = ⟨#[]⟩ ∧ x = 1)) := by
  unfold TxtA
  cases h : mayAv q with
  | true => exact ⟨_, _, rfl, .inl ⟨rfl, rfl, rfl⟩⟩
  | false => exact ⟨_, _, rfl, .inr ⟨rfl, rfl, rfl⟩⟩
theorem neqL (a b f d m t : Int) (n : ByteArray) (h : Int) (c : Bool) (w : World) : (binOp .neq 27 (.agg #[.int .u32 a, .int .i64 b, .int .u8 f, .int .i64 d, .int .i64 m, .int .i64 t, .string n, .int .u32 h, .bool c]) (.agg #[.int .u32 a, .int .i64 b, .int .u8 f, .int .i64 d, .int .i64 m, .int .i64 t, .string n, .int .u32 h, .bool c])).run Tryz.prog w = .ok (.bool false) w := by
  simp [go_sem]
theorem eqlR (r s : RtD) (w : World) : (binOp .eql 27 (.agg #[.int .u32 r.a, .int .i64 r.b, .int .u8 r.fr, .int .i64 r.di, .int .i64 r.me, .int .i64 r.ta, .string r.nm, .int .u32 r.ho, .bool r.dc]) (.agg #[.int .u32 s.a, .int .i64 s.b, .int .u8 s.fr, .int .i64 s.di, .int .i64 s.me, .int .i64 s.ta, .string s.nm, .int .u32 s.ho, .bool s.dc])).run Tryz.prog w = .ok (.bool (cR r s == 0)) w := by
  by_cases h : r = s
  · subst h
    rw [cR_self]
    obtain ⟨a, b, fr, di, me, ta, nm, ho, dc⟩ := r
    simp [go_sem]
  · have h0 : (cR r s == 0) = false := by
      simp only [beq_eq_false_iff_ne, ne_eq]
      exact fun e => h (cR_one e)
    rw [h0]
    obtain ⟨a, b, fr, di, me, ta, nm, ho, dc⟩ := r
    obtain ⟨a2, b2, fr2, di2, me2, ta2, nm2, ho2, dc2⟩ := s
    simp [go_sem]
    intro h1 h2 h3 h4 h5 h6 h7 h8 h9
    refine h ?_
    have : nm = nm2 := by
      have : nm.data.toList = nm2.data.toList := by simpa [ByteArray.toList_eq] using h7
      exact ByteArray.ext (Array.ext' this)
    rw [h1, h2, h3, h4, h5, h6, this, h8, h9]
theorem txR_len {q : RtD} (hm : mayR q = true) (ha : 0 ≤ q.a ∧ q.a < 4294967296) (hh : 0 ≤ q.ho ∧ q.ho < 4294967296) : (txR q).length ≤ 1000 := by
  obtain ⟨hck, f1, f8, hdi, hme, hta, hn⟩ := mayR_parts (a := q.a) (b := q.b) (fr := q.fr) (di := q.di) (me := q.me) (ta := q.ta) (nm := q.nm) (ho := q.ho) (dc := q.dc) hm
  obtain ⟨bn0, bn32, _⟩ := ck_ok q.a q.b hck
  have h1 := ptext_short q.a.toNat q.b (by omega) bn0 bn32
  have h2 := src_len (k := q.fr.toNat)
  have h3 := itoa_len q.di (by omega) (by omega)
  have h4 := itoa_len q.me (by omega) (by omega)
  have h5 := itoa_len q.ta (by omega) (by omega)
  have h6 := text_short q.ho.toNat (by omega)
  unfold txR wR
  rw [join_flat]
  have h7 : (tlR q).length ≤ 5 := by
    unfold tlR
    simp only [List.length_append]
    split <;> split <;> split <;> simp
  have h8 := flat_len 40 (srcW q.fr.toNat :: Lib.itoa q.di :: Lib.itoa q.me :: Lib.itoa q.ta :: tlR q) (fun x hx => by
    simp only [List.mem_cons] at hx
    rcases hx with rfl | rfl | rfl | rfl | hx
    · omega
    · omega
    · omega
    · omega
    · unfold tlR at hx
      simp only [List.mem_append] at hx
      rcases hx with hx | hx | hx
      · split at hx
        · cases hx
        · simp at hx; rcases hx with rfl | rfl
          · decide
          · omega
      · split at hx
        · cases hx
        · simp at hx; rcases hx with rfl | rfl
          · decide
          · simpa using Nat.le_trans hn (by decide)
      · split at hx
        · simp at hx; subst hx; decide
        · cases hx)
  simp only [List.length_append, List.length_cons] at h8 ⊢
  omega
/-- An advert's words between the prefix and its lists. -/
def fxA (q : AvD) : List (List UInt8) := [[118, 105, 97], txtU q.ho, [112, 114, 101, 102], Lib.itoa q.pf, [109, 101, 116, 114, 105, 99], Lib.itoa q.me, [112, 101, 101, 114], txtU q.pe, [105, 100], txtU q.pi, wSide q.ex, [111, 114, 105, 103, 105, 110], txtU q.og, [115, 101, 115, 115, 105, 111, 110], Lib.itoa q.se, [112, 97, 116, 104]]
theorem wA_fx (q : AvD) : wA q = ptext q.a.toNat q.b :: (fxA q ++ tlA q) := rfl
theorem txtU_len {x : Int} (h : 0 ≤ x ∧ x < 4294967296) : (txtU x).length ≤ 40 := Nat.le_trans (text_short x.toNat (by omega)) (by decide)
theorem itoa_len40 {x : Int} (h : -1 ≤ x ∧ x ≤ 2147483647) : (Lib.itoa x).length ≤ 40 := Nat.le_trans (itoa_len x (by omega) (by omega)) (by decide)
theorem fx_short {q : AvD} (hr : AvR q) (h1 : -1 ≤ q.pf ∧ q.pf ≤ 2147483647) (h2 : -1 ≤ q.me ∧ q.me ≤ 2147483647) (h3 : -1 ≤ q.se ∧ q.se ≤ 2147483647) : ∀ x ∈ fxA q, x.length ≤ 40 := by
  have s1 : (wSide q.ex).length ≤ 40 := by cases q.ex <;> decide
  have a1 := txtU_len hr.ho
  have a2 := txtU_len hr.pe
  have a3 := txtU_len hr.pi
  have a4 := txtU_len hr.og
  have a5 := itoa_len40 h1
  have a6 := itoa_len40 h2
  have a7 := itoa_len40 h3
  unfold fxA
  generalize txtU q.ho = l1 at *
  generalize txtU q.pe = l2 at *
  generalize txtU q.pi = l3 at *
  generalize txtU q.og = l4 at *
  generalize Lib.itoa q.pf = l5 at *
  generalize Lib.itoa q.me = l6 at *
  generalize Lib.itoa q.se = l7 at *
  generalize wSide q.ex = l8 at *
  exact List.forall_mem_cons.2 ⟨by decide, List.forall_mem_cons.2 ⟨a1, List.forall_mem_cons.2 ⟨by decide, List.forall_mem_cons.2 ⟨a5, List.forall_mem_cons.2 ⟨by decide, List.forall_mem_cons.2 ⟨a6, List.forall_mem_cons.2 ⟨by decide, List.forall_mem_cons.2 ⟨a2, List.forall_mem_cons.2 ⟨by decide, List.forall_mem_cons.2 ⟨a3, List.forall_mem_cons.2 ⟨s1, List.forall_mem_cons.2 ⟨by decide, List.forall_mem_cons.2 ⟨a4, List.forall_mem_cons.2 ⟨by decide, List.forall_mem_cons.2 ⟨a7, List.forall_mem_cons.2 ⟨by decide, fun _ h => nomatch h⟩⟩⟩⟩⟩⟩⟩⟩⟩⟩⟩⟩⟩⟩⟩⟩
theorem tl_len {q : AvD} (hr : AvR q) : ((tlA q).flatMap fun s => 32 :: s).length ≤ (q.pa.length + q.co.length + q.cl.length) * 16 + 14 := by
  have d1 : ∀ x ∈ q.pa.map decU, x.length ≤ 15 := fun x hx => by
    obtain ⟨y, hy, rfl⟩ := List.mem_map.1 hx
    have := hr.pa y hy
    exact Nat.le_trans (dec_short 9 y.toNat (by omega)) (by decide)
  have d2 : ∀ x ∈ q.co.map decU, x.length ≤ 15 := fun x hx => by
    obtain ⟨y, hy, rfl⟩ := List.mem_map.1 hx
    have := hr.co y hy
    exact Nat.le_trans (dec_short 9 y.toNat (by omega)) (by decide)
  have d3 : ∀ x ∈ q.cl.map txtU, x.length ≤ 15 := fun x hx => by
    obtain ⟨y, hy, rfl⟩ := List.mem_map.1 hx
    have := hr.cl y hy
    exact text_short y.toNat (by omega)
  have e1 := flat_len 15 _ d1
  have e2 := flat_len 15 _ d2
  have e3 := flat_len 15 _ d3
  rw [List.length_map] at e1 e2 e3
  unfold tlA
  generalize q.pa.map decU = m1 at *
  generalize q.co.map decU = m2 at *
  generalize q.cl.map txtU = m3 at *
  have hc : (wComm).length = 4 := rfl
  have hd : (wClus).length = 8 := rfl
  generalize wComm = c1 at *
  generalize wClus = c2 at *
  rw [List.flatMap_append, List.flatMap_cons, List.flatMap_append, List.flatMap_cons]
  simp only [List.length_append, List.length_cons]
  omega
theorem txA_len {q : AvD} (hm : mayAv q = true) (hr : AvR q) (h3 : q.pa.length + q.co.length + q.cl.length ≤ 300) : (txA q).length ≤ 5900 := by
  obtain ⟨hck, bpf, bme, bse⟩ := mayA_parts hm
  obtain ⟨bn0, bn32, _⟩ := ck_ok q.a q.b hck
  have h1 := ptext_short q.a.toNat q.b (by have := hr.ra; omega) bn0 bn32
  have h2 := flat_len 40 _ (fx_short hr ⟨by omega, bpf.2⟩ ⟨by omega, bme.2⟩ bse)
  have h4 := tl_len hr
  have h5 : (fxA q).length = 16 := rfl
  rw [h5] at h2
  unfold txA
  rw [wA_fx, join_flat]
  rw [List.flatMap_append, List.length_append, List.length_append]
  omega
set_option maxRecDepth 100000 in
set_option maxHeartbeats 2000000 in
theorem rback_is (ra rb rf rd rm rt : Int) (rn : ByteArray) (rh : Int) (rc : Bool) (qa qb qf qd qm qt : Int) (qn : ByteArray) (qh : Int) (qc : Bool) (a b ho pf me : Int) (p1 : Option Addr) (c1 : Nat) (p2 : Option Addr) (c2 : Nat) (pa co : List Int) (pe pi : Int) (ex : Bool) (og : Int) (p3 : Option Addr) (c3 : Nat) (cl : List Int) (se : Int) (s : ByteArray) (w : World)
    (g1 : 0 ≤ ra ∧ ra < 4294967296) (g2 : 0 ≤ rf) (g3 : 0 ≤ rh ∧ rh < 4294967296) (g4 : rn.size ≤ 9223372036854775807) (g5 : 0 ≤ qa ∧ qa < 4294967296) (g6 : 0 ≤ qf) (g7 : 0 ≤ qh ∧ qh < 4294967296) (g8 : qn.size ≤ 9223372036854775807) (g9 : AvR ⟨a, b, ho, pf, me, pa, co, pe, pi, ex, og, cl, se⟩)
    (r1 : RdK encU 1 w (.slice p1 pa.length c1) pa) (r2 : RdK encU 1 w (.slice p2 co.length c2) co) (r3 : RdK encU 1 w (.slice p3 cl.length c3) cl) (l1 : pa.length ≤ 35184372087808) (l2 : co.length ≤ 35184372087808) (l3 : cl.length ≤ 35184372087808) (ht : Tab10 w) (hs : Src9 w) (hE : ErrV w) :
    Calls Tryz.prog 4 #[.agg #[.int .u32 ra, .int .i64 rb, .int .u8 rf, .int .i64 rd, .int .i64 rm, .int .i64 rt, .string rn, .int .u32 rh, .bool rc], .agg #[.int .u32 qa, .int .i64 qb, .int .u8 qf, .int .i64 qd, .int .i64 qm, .int .i64 qt, .string qn, .int .u32 qh, .bool qc], .agg #[.int .u32 a, .int .i64 b, .int .u32 ho, .int .i64 pf, .int .i64 me, .slice p1 pa.length c1, .slice p2 co.length c2, .int .u32 pe, .int .u32 pi, .bool ex, .int .u32 og, .slice p3 cl.length c3, .int .i64 se], .string s] w fun e w' => e = .returned (.bool true) ∧ Below w.heap.size w w' := by
  have HG1 := Lib.hid g1; have HG2 := Lib.hid g2; have HG3 := Lib.hid g3; have HG4 := Lib.hid g4; have HG5 := Lib.hid g5; have HG6 := Lib.hid g6; have HG7 := Lib.hid g7; have HG8 := Lib.hid g8; have HG9 := Lib.hid g9
  have HR1 := Lib.hid r1; have HR2 := Lib.hid r2; have HR3 := Lib.hid r3; have HT := Lib.hid ht; have HS := Lib.hid hs; have HE := Lib.hid hE
  obtain ⟨W1, hW1⟩ : ∃ X, w.alloc (.cells #[.int .u32 ra, .int .i64 rb, .int .u8 rf, .int .i64 rd, .int .i64 rm, .int .i64 rt, .string rn, .int .u32 rh, .bool rc] 27) = X := ⟨_, rfl⟩
  obtain ⟨W2, hW2⟩ : ∃ X, W1.alloc (.cells #[.int .u32 qa, .int .i64 qb, .int .u8 qf, .int .i64 qd, .int .i64 qm, .int .i64 qt, .string qn, .int .u32 qh, .bool qc] 27) = X := ⟨_, rfl⟩
  obtain ⟨W3, hW3⟩ : ∃ X, W2.alloc (.cells #[.int .u32 a, .int .i64 b, .int .u32 ho, .int .i64 pf, .int .i64 me, .slice p1 pa.length c1, .slice p2 co.length c2, .int .u32 pe, .int .u32 pi, .bool ex, .int .u32 og, .slice p3 cl.length c3, .int .i64 se] 31) = X := ⟨_, rfl⟩
  have z1 : W1.heap.size = w.heap.size + 1 := by rw [← hW1]; exact Array.size_push ..
  have z2 : W2.heap.size = w.heap.size + 2 := by rw [← hW2]; exact (Array.size_push ..).trans (congrArg (· + 1) z1)
  have b1 : Below w.heap.size w W1 := by rw [← hW1]; exact (Below.refl _ _).alloc (Nat.le_refl _) _
  have b2 : Below W1.heap.size W1 W2 := by rw [← hW2]; exact (Below.refl _ _).alloc (Nat.le_refl _) _
  have b3 : Below W2.heap.size W2 W3 := by rw [← hW3]; exact (Below.refl _ _).alloc (Nat.le_refl _) _
  have k1 : W1.heap[w.heap.size]? = some (.cells #[.int .u32 ra, .int .i64 rb, .int .u8 rf, .int .i64 rd, .int .i64 rm, .int .i64 rt, .string rn, .int .u32 rh, .bool rc] 27 (0, 0)) := by rw [← hW1]; exact heap_new' _ _
  have k2 : W2.heap[w.heap.size + 1]? = some (.cells #[.int .u32 qa, .int .i64 qb, .int .u8 qf, .int .i64 qd, .int .i64 qm, .int .i64 qt, .string qn, .int .u32 qh, .bool qc] 27 (0, 0)) := by rw [← z1, ← hW2]; exact heap_new' _ _
  have k3 : W3.heap[w.heap.size + 2]? = some (.cells #[.int .u32 a, .int .i64 b, .int .u32 ho, .int .i64 pf, .int .i64 me, .slice p1 pa.length c1, .slice p2 co.length c2, .int .u32 pe, .int .u32 pi, .bool ex, .int .u32 og, .slice p3 cl.length c3, .int .i64 se] 31 (0, 0)) := by rw [← z2, ← hW3]; exact heap_new' _ _
  have HB3 : Hid (Below w.heap.size w W3) := Lib.hid (Below.step (Below.step b1 b2) b3)
  have HK1 : Hid (W3.heap[w.heap.size]? = some (.cells #[.int .u32 ra, .int .i64 rb, .int .u8 rf, .int .i64 rd, .int .i64 rm, .int .i64 rt, .string rn, .int .u32 rh, .bool rc] 27 (0, 0))) := Lib.hid ((b3.block _ (by omega)).trans ((b2.block _ (by omega)).trans k1))
  have HK2 : Hid (W3.heap[w.heap.size + 1]? = some (.cells #[.int .u32 qa, .int .i64 qb, .int .u8 qf, .int .i64 qd, .int .i64 qm, .int .i64 qt, .string qn, .int .u32 qh, .bool qc] 27 (0, 0))) := Lib.hid ((b3.block _ (by omega)).trans k2)
  have HK3 := Lib.hid k3
  have HCR : Hid (∀ W, Below W3.heap.size W3 W → W.cell? ⟨w.heap.size, 0, none⟩ = some (.int .u32 ra) ∧ W.cell? ⟨w.heap.size, 1, none⟩ = some (.int .i64 rb) ∧ W.cell? ⟨w.heap.size, 2, none⟩ = some (.int .u8 rf) ∧ W.cell? ⟨w.heap.size, 3, none⟩ = some (.int .i64 rd) ∧ W.cell? ⟨w.heap.size, 4, none⟩ = some (.int .i64 rm) ∧ W.cell? ⟨w.heap.size, 5, none⟩ = some (.int .i64 rt) ∧ W.cell? ⟨w.heap.size, 6, none⟩ = some (.string rn) ∧ W.cell? ⟨w.heap.size, 7, none⟩ = some (.int .u32 rh) ∧ W.cell? ⟨w.heap.size, 8, none⟩ = some (.bool rc)) := Lib.hid (fun W hb => by
    have e := carryL HK1.out hb
    refine ⟨?_, ?_, ?_, ?_, ?_, ?_, ?_, ?_, ?_⟩ <;> (simp only [World.cell?, e]; rfl))
  have HCQ : Hid (∀ W, Below W3.heap.size W3 W → W.cell? ⟨w.heap.size + 1, 0, none⟩ = some (.int .u32 qa) ∧ W.cell? ⟨w.heap.size + 1, 1, none⟩ = some (.int .i64 qb) ∧ W.cell? ⟨w.heap.size + 1, 2, none⟩ = some (.int .u8 qf) ∧ W.cell? ⟨w.heap.size + 1, 3, none⟩ = some (.int .i64 qd) ∧ W.cell? ⟨w.heap.size + 1, 4, none⟩ = some (.int .i64 qm) ∧ W.cell? ⟨w.heap.size + 1, 5, none⟩ = some (.int .i64 qt) ∧ W.cell? ⟨w.heap.size + 1, 6, none⟩ = some (.string qn) ∧ W.cell? ⟨w.heap.size + 1, 7, none⟩ = some (.int .u32 qh) ∧ W.cell? ⟨w.heap.size + 1, 8, none⟩ = some (.bool qc)) := Lib.hid (fun W hb => by
    have e := carryL HK2.out hb
    refine ⟨?_, ?_, ?_, ?_, ?_, ?_, ?_, ?_, ?_⟩ <;> (simp only [World.cell?, e]; rfl))
  have HCA : Hid (∀ W, Below W3.heap.size W3 W → W.cell? ⟨w.heap.size + 2, 0, none⟩ = some (.int .u32 a) ∧ W.cell? ⟨w.heap.size + 2, 1, none⟩ = some (.int .i64 b) ∧ W.cell? ⟨w.heap.size + 2, 2, none⟩ = some (.int .u32 ho) ∧ W.cell? ⟨w.heap.size + 2, 3, none⟩ = some (.int .i64 pf) ∧ W.cell? ⟨w.heap.size + 2, 4, none⟩ = some (.int .i64 me) ∧ W.cell? ⟨w.heap.size + 2, 5, none⟩ = some (.slice p1 pa.length c1) ∧ W.cell? ⟨w.heap.size + 2, 6, none⟩ = some (.slice p2 co.length c2) ∧ W.cell? ⟨w.heap.size + 2, 7, none⟩ = some (.int .u32 pe) ∧ W.cell? ⟨w.heap.size + 2, 8, none⟩ = some (.int .u32 pi) ∧ W.cell? ⟨w.heap.size + 2, 9, none⟩ = some (.bool ex) ∧ W.cell? ⟨w.heap.size + 2, 10, none⟩ = some (.int .u32 og) ∧ W.cell? ⟨w.heap.size + 2, 11, none⟩ = some (.slice p3 cl.length c3) ∧ W.cell? ⟨w.heap.size + 2, 12, none⟩ = some (.int .i64 se)) := Lib.hid (fun W hb => by
    have e := carryL HK3.out hb
    refine ⟨?_, ?_, ?_, ?_, ?_, ?_, ?_, ?_, ?_, ?_, ?_, ?_, ?_⟩ <;> (simp only [World.cell?, e]; rfl))
  clear g1 g2 g3 g4 g5 g6 g7 g8 g9 r1 r2 r3 ht hs hE b1 b2 b3 k1 k2 k3
  have CW := Lib.hid fun W (hW : Below W3.heap.size W3 W) => awake_is W (HT.out.on (Below.step HB3.out hW)) (HS.out.on (Below.step HB3.out hW))
  go_enter Tryz.func4, Tryz.ntmps4
  go_wp2_with fail
  go_at_call 6
  refine (CW.out W3 (Below.refl _ _)).mono ?_
  rintro e w4 ⟨rfl, hb4⟩
  have HB4 := Lib.hid hb4
  clear hb4
  by_cases hs3 : (3000 : Int) < (s.size : Int)
  case pos =>
    go_wp2_with fail
    go_at_call 6
    refine (CW.out w4 HB4.out).mono ?_
    rintro e w5 ⟨rfl, hb5⟩
    have HB5 := Lib.hid (Below.step HB4.out hb5)
    clear hb5
    go_wp2_with fail
    go_ret
    exact ⟨rfl, Below.step HB3.out HB5.out⟩
  obtain ⟨z0, z1, z2, z3, z4, z5, z6, z7, z8, z9, z10, z11, z12⟩ := HCA.out w4 HB4.out
  by_cases hsum : (300 : Int) < (pa.length : Int) + (co.length : Int) + (cl.length : Int)
  case pos =>
    go_wp2_with fail
    go_at_call 6
    refine (CW.out w4 HB4.out).mono ?_
    rintro e w5 ⟨rfl, hb5⟩
    have HB5 := Lib.hid (Below.step HB4.out hb5)
    clear hb5
    go_wp2_with fail
    go_ret
    exact ⟨rfl, Below.step HB3.out HB5.out⟩
  obtain ⟨x0, x1, x2, x3, x4, x5, x6, x7, x8⟩ := HCR.out w4 HB4.out
  go_wp2_with fail
  go_at_call 8
  refine (text_any ra rb rf rd rm rt rn rh rc HG1.out.1 HG1.out.2 HG2.out HG3.out.1 HG3.out.2 HG4.out w4 (HT.out.on (Below.step HB3.out HB4.out)) (HS.out.on (Below.step HB3.out HB4.out))).mono ?_
  obtain ⟨tb, e1, ht, ho⟩ := txt_two ⟨ra, rb, rf, rd, rm, rt, rn, rh, rc⟩
  rw [ht]
  rintro e w5 ⟨rfl, hb⟩
  have HB5 := Lib.hid (Below.step HB4.out hb)
  have HOtb := Lib.hid ho
  clear hb ht ho
  clear x0 x1 x2 x3 x4 x5 x6 x7 x8 z0 z1 z2 z3 z4 z5 z6 z7 z8 z9 z10 z11 z12
  obtain ⟨x0, x1, x2, x3, x4, x5, x6, x7, x8⟩ := HCR.out w5 HB5.out
  go_upto_if 52 with fail
  go_cut [] (fun wx => Hid (Below w5.heap.size w5 wx))
  case first =>
    rcases HOtb.out with ⟨hm, e2, e3⟩ | ⟨hm, e2, e3⟩
    · subst e2 e3
      have HM := Lib.hid hm
      clear hm
      have HPR := Lib.hid (parseR_any (txR ⟨ra, rb, rf, rd, rm, rt, rn, rh, rc⟩) (Nat.le_trans (txR_len HM.out HG1.out HG3.out) (by decide)) w5 (HT.out.on (Below.step HB3.out HB5.out)) (HS.out.on (Below.step HB3.out HB5.out)) (HE.out.on (Below.step HB3.out HB5.out)))
      go_wp2_with fail
      go_at_call 12
      refine HPR.out.mono ?_
      rintro e w6 ⟨y, k, rfl, hp, hb6⟩
      obtain ⟨rfl, rfl⟩ := parP_back hp HM.out HG1.out HG3.out
      rw [show (encRt ⟨ra, rb, rf, rd, rm, rt, rn, rh, rc⟩).toArray = #[.int .u32 ra, .int .i64 rb, .int .u8 rf, .int .i64 rd, .int .i64 rm, .int .i64 rt, .string rn, .int .u32 rh, .bool rc] from rfl]
      have HB6 := Lib.hid (Below.step HB5.out hb6)
      have HBK := Lib.hid hb6
      obtain ⟨w7, hw7⟩ : ∃ X, w6.alloc (.cells #[.int .u32 ra, .int .i64 rb, .int .u8 rf, .int .i64 rd, .int .i64 rm, .int .i64 rt, .string rn, .int .u32 rh, .bool rc] 27) = X := ⟨_, rfl⟩
      have b7 : Below w6.heap.size w6 w7 := by rw [← hw7]; exact (Below.refl _ _).alloc (Nat.le_refl _) _
      have k7 : w7.heap[w6.heap.size]? = some (.cells #[.int .u32 ra, .int .i64 rb, .int .u8 rf, .int .i64 rd, .int .i64 rm, .int .i64 rt, .string rn, .int .u32 rh, .bool rc] 27 (0, 0)) := by rw [← hw7]; exact heap_new' _ _
      clear x0 x1 x2 x3 x4 x5 x6 x7 x8 hp hb6
      obtain ⟨x0, x1, x2, x3, x4, x5, x6, x7, x8⟩ := HCR.out w7 (Below.step HB6.out b7)
      obtain ⟨y0, y1, y2, y3, y4, y5, y6, y7, y8⟩ : w7.cell? ⟨w6.heap.size, 0, none⟩ = some (.int .u32 ra) ∧ w7.cell? ⟨w6.heap.size, 1, none⟩ = some (.int .i64 rb) ∧ w7.cell? ⟨w6.heap.size, 2, none⟩ = some (.int .u8 rf) ∧ w7.cell? ⟨w6.heap.size, 3, none⟩ = some (.int .i64 rd) ∧ w7.cell? ⟨w6.heap.size, 4, none⟩ = some (.int .i64 rm) ∧ w7.cell? ⟨w6.heap.size, 5, none⟩ = some (.int .i64 rt) ∧ w7.cell? ⟨w6.heap.size, 6, none⟩ = some (.string rn) ∧ w7.cell? ⟨w6.heap.size, 7, none⟩ = some (.int .u32 rh) ∧ w7.cell? ⟨w6.heap.size, 8, none⟩ = some (.bool rc) := by
        refine ⟨?_, ?_, ?_, ?_, ?_, ?_, ?_, ?_, ?_⟩ <;> (simp only [World.cell?, k7]; rfl)
      have HNE := neqL ra rb rf rd rm rt rn rh rc
      have HB7 := Lib.hid (Below.step HBK.out b7)
      clear b7 k7
      go_wp2_with fail
      (try rw [hw7])
      go_meet
      exact HB7
    · subst e2 e3
      clear hm
      go_wp2_with fail
      go_meet
      exact Lib.hid (Below.refl _ _)
  case rest =>
    have HB8 := Lib.hid (Below.step HB5.out hcut.out)
    clear hcut x0 x1 x2 x3 x4 x5 x6 x7 x8
    obtain ⟨y0, y1, y2, y3, y4, y5, y6, y7, y8⟩ := HCQ.out wc HB8.out
    obtain ⟨w8, hw8⟩ : ∃ X, wc = X := ⟨_, rfl⟩
    subst hw8
    go_wp2_with fail
    go_at_call 8
    refine (text_any qa qb qf qd qm qt qn qh qc HG5.out.1 HG5.out.2 HG6.out HG7.out.1 HG7.out.2 HG8.out wc (HT.out.on (Below.step HB3.out HB8.out)) (HS.out.on (Below.step HB3.out HB8.out))).mono ?_
    obtain ⟨ub, e2, ht, ho⟩ := txt_two ⟨qa, qb, qf, qd, qm, qt, qn, qh, qc⟩
    rw [ht]
    rintro e w9 ⟨rfl, hb⟩
    have HB9 := Lib.hid (Below.step HB8.out hb)
    have HOub := Lib.hid ho
    clear hb ht ho
    clear y0 y1 y2 y3 y4 y5 y6 y7 y8
    obtain ⟨x0, x1, x2, x3, x4, x5, x6, x7, x8⟩ := HCR.out w9 HB9.out
    obtain ⟨y0, y1, y2, y3, y4, y5, y6, y7, y8⟩ := HCQ.out w9 HB9.out
    have HEQ := eqlR ⟨ra, rb, rf, rd, rm, rt, rn, rh, rc⟩ ⟨qa, qb, qf, qd, qm, qt, qn, qh, qc⟩
    simp only at HEQ
    obtain ⟨same, hsame⟩ : ∃ x, (cR ⟨ra, rb, rf, rd, rm, rt, rn, rh, rc⟩ ⟨qa, qb, qf, qd, qm, qt, qn, qh, qc⟩ == 0) = x := ⟨_, rfl⟩
    simp only [hsame] at HEQ
    have HSAME := Lib.hid hsame
    clear hsame
    have hTU : ∀ (hm : mayR ⟨ra, rb, rf, rd, rm, rt, rn, rh, rc⟩ = true) (hq : mayR ⟨qa, qb, qf, qd, qm, qt, qn, qh, qc⟩ = true), (txR ⟨ra, rb, rf, rd, rm, rt, rn, rh, rc⟩ == txR ⟨qa, qb, qf, qd, qm, qt, qn, qh, qc⟩) = same := fun hm hq => by
      rw [← HSAME.out]
      by_cases h : (⟨ra, rb, rf, rd, rm, rt, rn, rh, rc⟩ : RtD) = ⟨qa, qb, qf, qd, qm, qt, qn, qh, qc⟩
      · rw [h, cR_self]; simp
      · have h0 : (cR ⟨ra, rb, rf, rd, rm, rt, rn, rh, rc⟩ ⟨qa, qb, qf, qd, qm, qt, qn, qh, qc⟩ == 0) = false := by
          simp only [beq_eq_false_iff_ne, ne_eq]
          exact fun x => h (cR_one x)
        rw [h0]; simpa using fun e => h (txR_inj hm hq HG1.out HG5.out HG3.out HG7.out e)
    have HTU := Lib.hid hTU
    clear hTU
    have hss : (same != same) = false := by simp
    have hn10 : ((1 : Int) == 0) = false := rfl
    go_upto_region 9 with fail
    go_cut [84] (fun sv wx => sv = .bool false ∧ wx = w9)
    case first =>
      rcases HOtb.out with ⟨hm, i1, i2⟩ | ⟨hm, i1, i2⟩
      · rcases HOub.out with ⟨hq, j1, j2⟩ | ⟨hq, j1, j2⟩
        · have hk := HTU.out hm hq
          subst i1 i2 j1 j2
          clear hm hq
          go_wp2_with fail
          go_meet
          exact ⟨rfl, rfl⟩
        · subst i1 i2 j1 j2
          clear hm hq
          go_wp2_with fail
          go_meet
          exact ⟨rfl, rfl⟩
      · subst i1 i2
        clear hm
        go_wp2_with fail
        go_meet
        exact ⟨rfl, rfl⟩
    case rest =>
      obtain ⟨rfl, rfl⟩ := hcut
      clear x0 x1 x2 x3 x4 x5 x6 x7 x8 y0 y1 y2 y3 y4 y5 y6 y7 y8 HEQ HTU HSAME hss hn10
      obtain ⟨z0, z1, z2, z3, z4, z5, z6, z7, z8, z9, z10, z11, z12⟩ := HCA.out wc HB9.out
      have hsum2 : pa.length + co.length + cl.length ≤ 300 := by omega
      have HSUM := Lib.hid hsum2
      clear hsum2
      go_wp2_with fail
      go_at_call 10
      refine (atext_is a b ho pf me p1 c1 p2 c2 pa co pe pi ex og p3 c3 cl se HG9.out.ra.1 HG9.out.ra.2 HG9.out.ho HG9.out.pe HG9.out.pi HG9.out.og wc (HR1.out.below (Below.step HB3.out HB9.out)) (HR2.out.below (Below.step HB3.out HB9.out)) (HR3.out.below (Below.step HB3.out HB9.out)) HG9.out.pa HG9.out.co HG9.out.cl (by have := HSUM.out; omega) (by have := HSUM.out; omega) (by have := HSUM.out; omega) (HT.out.on (Below.step HB3.out HB9.out))).mono ?_
      obtain ⟨vb, e3, ht, ho⟩ := txa_two ⟨a, b, ho, pf, me, pa, co, pe, pi, ex, og, cl, se⟩
      rw [ht]
      rintro e w10 ⟨rfl, hb⟩
      have HB10 := Lib.hid (Below.step HB9.out hb)
      have HOvb := Lib.hid ho
      clear hb ht ho z0 z1 z2 z3 z4 z5 z6 z7 z8 z9 z10 z11 z12
      obtain ⟨z0, z1, z2, z3, z4, z5, z6, z7, z8, z9, z10, z11, z12⟩ := HCA.out w10 HB10.out
      go_upto_if 91 with fail
      go_cut [] (fun wx => Hid (Below w10.heap.size w10 wx))
      case first =>
        rcases HOvb.out with ⟨hm, i1, i2⟩ | ⟨hm, i1, i2⟩
        · subst i1 i2
          have HM := Lib.hid hm
          clear hm
          have HPA := Lib.hid (parseA_any (txA ⟨a, b, ho, pf, me, pa, co, pe, pi, ex, og, cl, se⟩) (txA_len HM.out HG9.out HSUM.out) w10 (HT.out.on (Below.step HB3.out HB10.out)) (HE.out.on (Below.step HB3.out HB10.out)))
          go_wp2_with fail
          go_at_call 14
          refine HPA.out.mono ?_
          rintro e w11 ⟨y, s1, d1, s2, d2, s3, d3, k, rfl, ⟨o1, o2, o3⟩, hp, hb⟩
          obtain ⟨rfl, rfl⟩ := parA_back hp HM.out HG9.out
          simp only
          have HB11 := Lib.hid (Below.step HB10.out hb)
          have HBK := Lib.hid hb
          obtain ⟨w12, hw12⟩ : ∃ X, w11.alloc (.cells #[.int .u32 a, .int .i64 b, .int .u32 ho, .int .i64 pf, .int .i64 me, .slice s1 pa.length d1, .slice s2 co.length d2, .int .u32 pe, .int .u32 pi, .bool ex, .int .u32 og, .slice s3 cl.length d3, .int .i64 se] 31) = X := ⟨_, rfl⟩
          have b12 : Below w11.heap.size w11 w12 := by rw [← hw12]; exact (Below.refl _ _).alloc (Nat.le_refl _) _
          have k12 : w12.heap[w11.heap.size]? = some (.cells #[.int .u32 a, .int .i64 b, .int .u32 ho, .int .i64 pf, .int .i64 me, .slice s1 pa.length d1, .slice s2 co.length d2, .int .u32 pe, .int .u32 pi, .bool ex, .int .u32 og, .slice s3 cl.length d3, .int .i64 se] 31 (0, 0)) := by rw [← hw12]; exact heap_new' _ _
          have Q1 := Lib.hid (RdK.of_own encU_len (own_below o1 b12))
          have Q2 := Lib.hid (RdK.of_own encU_len (own_below o2 b12))
          have Q3 := Lib.hid (RdK.of_own encU_len (own_below o3 b12))
          clear z0 z1 z2 z3 z4 z5 z6 z7 z8 z9 z10 z11 z12 hp hb o1 o2 o3
          have HB12 := Lib.hid (Below.step HB11.out b12)
          obtain ⟨z0, z1, z2, z3, z4, z5, z6, z7, z8, z9, z10, z11, z12⟩ := HCA.out w12 HB12.out
          obtain ⟨y0, y1, y2, y3, y4, y5, y6, y7, y8, y9, y10, y11, y12⟩ : w12.cell? ⟨w11.heap.size, 0, none⟩ = some (.int .u32 a) ∧ w12.cell? ⟨w11.heap.size, 1, none⟩ = some (.int .i64 b) ∧ w12.cell? ⟨w11.heap.size, 2, none⟩ = some (.int .u32 ho) ∧ w12.cell? ⟨w11.heap.size, 3, none⟩ = some (.int .i64 pf) ∧ w12.cell? ⟨w11.heap.size, 4, none⟩ = some (.int .i64 me) ∧ w12.cell? ⟨w11.heap.size, 5, none⟩ = some (.slice s1 pa.length d1) ∧ w12.cell? ⟨w11.heap.size, 6, none⟩ = some (.slice s2 co.length d2) ∧ w12.cell? ⟨w11.heap.size, 7, none⟩ = some (.int .u32 pe) ∧ w12.cell? ⟨w11.heap.size, 8, none⟩ = some (.int .u32 pi) ∧ w12.cell? ⟨w11.heap.size, 9, none⟩ = some (.bool ex) ∧ w12.cell? ⟨w11.heap.size, 10, none⟩ = some (.int .u32 og) ∧ w12.cell? ⟨w11.heap.size, 11, none⟩ = some (.slice s3 cl.length d3) ∧ w12.cell? ⟨w11.heap.size, 12, none⟩ = some (.int .i64 se) := by
            refine ⟨?_, ?_, ?_, ?_, ?_, ?_, ?_, ?_, ?_, ?_, ?_, ?_, ?_⟩ <;> (simp only [World.cell?, k12]; rfl)
          have HBL := Lib.hid (Below.step HBK.out b12)
          have HCM := Lib.hid (acmp_is ⟨a, b, ho, pf, me, pa, .slice p1 pa.length c1, co, .slice p2 co.length c2, pe, pi, ex, og, cl, .slice p3 cl.length c3, se⟩ ⟨a, b, ho, pf, me, pa, .slice s1 pa.length d1, co, .slice s2 co.length d2, pe, pi, ex, og, cl, .slice s3 cl.length d3, se⟩ w12 ⟨HR1.out.below (Below.step HB3.out HB12.out), HR2.out.below (Below.step HB3.out HB12.out), HR3.out.below (Below.step HB3.out HB12.out)⟩ ⟨Q1.out, Q2.out, Q3.out⟩)
          rw [cA_same (r := ⟨a, b, ho, pf, me, pa, .slice p1 pa.length c1, co, .slice p2 co.length c2, pe, pi, ex, og, cl, .slice p3 cl.length c3, se⟩) (s := ⟨a, b, ho, pf, me, pa, .slice s1 pa.length d1, co, .slice s2 co.length d2, pe, pi, ex, og, cl, .slice s3 cl.length d3, se⟩) rfl rfl rfl rfl rfl rfl rfl rfl rfl rfl rfl rfl rfl] at HCM
          clear b12 k12
          go_wp2_with fail
          (try rw [hw12])
          go_at_call 17
          refine HCM.out.mono ?_
          rintro e w13 ⟨rfl, hb⟩
          have HBM := Lib.hid (Below.step HBL.out hb)
          clear hb
          go_wp2_with fail
          go_meet
          exact HBM
        · subst i1 i2
          clear hm
          go_wp2_with fail
          go_meet
          exact Lib.hid (Below.refl _ _)
      case rest =>
        have HB14 := Lib.hid (Below.step HB10.out hcut.out)
        clear hcut z0 z1 z2 z3 z4 z5 z6 z7 z8 z9 z10 z11 z12
        have hs9 := str_back s
        have hl3 := str_3000 hs3
        obtain ⟨w14, hw14⟩ : ∃ X, wc = X := ⟨_, rfl⟩
        subst hw14
        have HPR := Lib.hid (parseR_any s.data.toList (Nat.le_trans hl3 (by decide)) wc (HT.out.on (Below.step HB3.out HB14.out)) (HS.out.on (Below.step HB3.out HB14.out)) (HE.out.on (Below.step HB3.out HB14.out)))
        rw [hs9] at HPR
        have HL3 := Lib.hid hl3
        clear hl3 hs9
        go_wp2_with fail
        go_at_call 12
        refine HPR.out.mono ?_
        rintro e w15 ⟨x, k1, rfl, hp, hb⟩
        obtain ⟨xa, xb, xf, xd, xm, xt, xn, xh, xc⟩ := x
        rw [show (encRt ⟨xa, xb, xf, xd, xm, xt, xn, xh, xc⟩).toArray = #[.int .u32 xa, .int .i64 xb, .int .u8 xf, .int .i64 xd, .int .i64 xm, .int .i64 xt, .string xn, .int .u32 xh, .bool xc] from rfl]
        have HB15 := Lib.hid (Below.step HB14.out hb)
        have HPX := Lib.hid hp
        obtain ⟨w16, hw16⟩ : ∃ X, w15.alloc (.cells #[.int .u32 xa, .int .i64 xb, .int .u8 xf, .int .i64 xd, .int .i64 xm, .int .i64 xt, .string xn, .int .u32 xh, .bool xc] 27) = X := ⟨_, rfl⟩
        have b16 : Below w15.heap.size w15 w16 := by rw [← hw16]; exact (Below.refl _ _).alloc (Nat.le_refl _) _
        have k16 : w16.heap[w15.heap.size]? = some (.cells #[.int .u32 xa, .int .i64 xb, .int .u8 xf, .int .i64 xd, .int .i64 xm, .int .i64 xt, .string xn, .int .u32 xh, .bool xc] 27 (0, 0)) := by rw [← hw16]; exact heap_new' _ _
        have HB16 := Lib.hid (Below.step HB15.out b16)
        have HK16 := Lib.hid k16
        clear hp hb b16 k16
        have HPA := Lib.hid (parseA_any s.data.toList (Nat.le_trans HL3.out (by decide)) w16 (HT.out.on (Below.step HB3.out HB16.out)) (HE.out.on (Below.step HB3.out HB16.out)))
        rw [str_back s] at HPA
        go_wp2_with fail
        (try rw [hw16])
        go_at_call 14
        refine HPA.out.mono ?_
        rintro e w17 ⟨y, s1, d1, s2, d2, s3, d3, k2, rfl, ⟨o1, o2, o3⟩, hp, hb⟩
        obtain ⟨ya, yb, yho, ypf, yme, ypa, yco, ype, ypi, yex, yog, ycl, yse⟩ := y
        simp only
        have HB17 := Lib.hid (Below.step HB16.out hb)
        obtain ⟨w18, hw18⟩ : ∃ X, w17.alloc (.cells #[.int .u32 ya, .int .i64 yb, .int .u32 yho, .int .i64 ypf, .int .i64 yme, .slice s1 ypa.length d1, .slice s2 yco.length d2, .int .u32 ype, .int .u32 ypi, .bool yex, .int .u32 yog, .slice s3 ycl.length d3, .int .i64 yse] 31) = X := ⟨_, rfl⟩
        have b18 : Below w17.heap.size w17 w18 := by rw [← hw18]; exact (Below.refl _ _).alloc (Nat.le_refl _) _
        have k18 : w18.heap[w17.heap.size]? = some (.cells #[.int .u32 ya, .int .i64 yb, .int .u32 yho, .int .i64 ypf, .int .i64 yme, .slice s1 ypa.length d1, .slice s2 yco.length d2, .int .u32 ype, .int .u32 ypi, .bool yex, .int .u32 yog, .slice s3 ycl.length d3, .int .i64 yse] 31 (0, 0)) := by rw [← hw18]; exact heap_new' _ _
        have Q1 := Lib.hid (RdK.of_own encU_len (own_below o1 b18))
        have Q2 := Lib.hid (RdK.of_own encU_len (own_below o2 b18))
        have Q3 := Lib.hid (RdK.of_own encU_len (own_below o3 b18))
        have HPY := Lib.hid hp
        have HB18 := Lib.hid (Below.step HB17.out b18)
        have HK18 : Hid (w18.heap[w15.heap.size]? = some (.cells #[.int .u32 xa, .int .i64 xb, .int .u8 xf, .int .i64 xd, .int .i64 xm, .int .i64 xt, .string xn, .int .u32 xh, .bool xc] 27 (0, 0))) := Lib.hid ((b18.block _ (Nat.lt_of_lt_of_le (Array.getElem?_eq_some_iff.1 HK16.out).1 hb.size)).trans ((hb.block _ (Array.getElem?_eq_some_iff.1 HK16.out).1).trans HK16.out))
        have HCY : Hid (∀ W, Below w18.heap.size w18 W → W.cell? ⟨w17.heap.size, 0, none⟩ = some (.int .u32 ya) ∧ W.cell? ⟨w17.heap.size, 1, none⟩ = some (.int .i64 yb) ∧ W.cell? ⟨w17.heap.size, 2, none⟩ = some (.int .u32 yho) ∧ W.cell? ⟨w17.heap.size, 3, none⟩ = some (.int .i64 ypf) ∧ W.cell? ⟨w17.heap.size, 4, none⟩ = some (.int .i64 yme) ∧ W.cell? ⟨w17.heap.size, 5, none⟩ = some (.slice s1 ypa.length d1) ∧ W.cell? ⟨w17.heap.size, 6, none⟩ = some (.slice s2 yco.length d2) ∧ W.cell? ⟨w17.heap.size, 7, none⟩ = some (.int .u32 ype) ∧ W.cell? ⟨w17.heap.size, 8, none⟩ = some (.int .u32 ypi) ∧ W.cell? ⟨w17.heap.size, 9, none⟩ = some (.bool yex) ∧ W.cell? ⟨w17.heap.size, 10, none⟩ = some (.int .u32 yog) ∧ W.cell? ⟨w17.heap.size, 11, none⟩ = some (.slice s3 ycl.length d3) ∧ W.cell? ⟨w17.heap.size, 12, none⟩ = some (.int .i64 yse)) := Lib.hid (fun W hb => by
          have e := carryL k18 hb
          refine ⟨?_, ?_, ?_, ?_, ?_, ?_, ?_, ?_, ?_, ?_, ?_, ?_, ?_⟩ <;> (simp only [World.cell?, e]; rfl))
        clear hp hb b18 k18 o1 o2 o3
        obtain ⟨x0, x1, x2, x3, x4, x5, x6, x7, x8⟩ : w18.cell? ⟨w15.heap.size, 0, none⟩ = some (.int .u32 xa) ∧ w18.cell? ⟨w15.heap.size, 1, none⟩ = some (.int .i64 xb) ∧ w18.cell? ⟨w15.heap.size, 2, none⟩ = some (.int .u8 xf) ∧ w18.cell? ⟨w15.heap.size, 3, none⟩ = some (.int .i64 xd) ∧ w18.cell? ⟨w15.heap.size, 4, none⟩ = some (.int .i64 xm) ∧ w18.cell? ⟨w15.heap.size, 5, none⟩ = some (.int .i64 xt) ∧ w18.cell? ⟨w15.heap.size, 6, none⟩ = some (.string xn) ∧ w18.cell? ⟨w15.heap.size, 7, none⟩ = some (.int .u32 xh) ∧ w18.cell? ⟨w15.heap.size, 8, none⟩ = some (.bool xc) := by
          have e := HK18.out
          refine ⟨?_, ?_, ?_, ?_, ?_, ?_, ?_, ?_, ?_⟩ <;> (simp only [World.cell?, e]; rfl)
        go_upto_if 116 with fail
        go_cut [] (fun wx => Hid (Below w18.heap.size w18 wx))
        case first =>
          rcases parP_zero HPX.out with ⟨ke, v1, v2, v3, v4, v5⟩ | ke
          · subst ke
            have HTX : Hid (Calls Tryz.prog 8 #[.agg #[.int .u32 xa, .int .i64 xb, .int .u8 xf, .int .i64 xd, .int .i64 xm, .int .i64 xt, .string xn, .int .u32 xh, .bool xc]] w18 fun e w' => e = .returned (.tuple #[.string s, .int .i64 0]) ∧ Below w18.heap.size w18 w') := Lib.hid (by
              have h := text_any xa xb xf xd xm xt xn xh xc v1.1 v1.2 v2 v3.1 v3.2 (Nat.le_trans v4 (Nat.le_trans HL3.out (by decide))) w18 (HT.out.on (Below.step HB3.out HB18.out)) (HS.out.on (Below.step HB3.out HB18.out))
              rw [v5, str_back s] at h
              exact h)
            clear v1 v2 v3 v4 v5
            go_wp2_with fail
            go_at_call 8
            refine HTX.out.mono ?_
            rintro e w19 ⟨rfl, hb⟩
            have HB19 := Lib.hid hb
            clear hb
            go_wp2_with fail
            go_meet
            exact HB19
          · subst ke
            go_wp2_with fail
            go_meet
            exact Lib.hid (Below.refl _ _)
        case rest =>
          have HBC := hcut
          have HB20 := Lib.hid (Below.step HB18.out hcut.out)
          clear hcut x0 x1 x2 x3 x4 x5 x6 x7 x8
          obtain ⟨z0, z1, z2, z3, z4, z5, z6, z7, z8, z9, z10, z11, z12⟩ := HCY.out wc HBC.out
          rcases parA_zero HPY.out with ⟨ke, v1, v2, v3, v4, v5⟩ | ke
          · subst ke
            have HTX : Hid (Calls Tryz.prog 10 #[.agg #[.int .u32 ya, .int .i64 yb, .int .u32 yho, .int .i64 ypf, .int .i64 yme, .slice s1 ypa.length d1, .slice s2 yco.length d2, .int .u32 ype, .int .u32 ypi, .bool yex, .int .u32 yog, .slice s3 ycl.length d3, .int .i64 yse]] wc fun e w' => e = .returned (.tuple #[.string s, .int .i64 0]) ∧ Below wc.heap.size wc w') := Lib.hid (by
              have hl := HL3.out
              simp only at v2 v3 v4
              have h := atext_is ya yb yho ypf yme s1 d1 s2 d2 ypa yco ype ypi yex yog s3 d3 ycl yse v1.ra.1 v1.ra.2 v1.ho v1.pe v1.pi v1.og wc (Q1.out.below HBC.out) (Q2.out.below HBC.out) (Q3.out.below HBC.out) v1.pa v1.co v1.cl (by omega) (by omega) (by omega) (HT.out.on (Below.step HB3.out HB20.out))
              rw [v5, str_back s] at h
              exact h)
            clear v1 v2 v3 v4 v5
            go_wp2_with fail
            go_at_call 10
            refine HTX.out.mono ?_
            rintro e w21 ⟨rfl, hb⟩
            have HB21 := Lib.hid (Below.step HB20.out hb)
            clear hb
            go_wp2_with fail
            go_ret
            exact ⟨by simp, Below.step HB3.out HB21.out⟩
          · subst ke
            go_wp2_with fail
            go_ret
            exact ⟨rfl, Below.step HB3.out HB20.out⟩
end Go.Proofs.YtmbkkjofikijiaaGreatDoor
