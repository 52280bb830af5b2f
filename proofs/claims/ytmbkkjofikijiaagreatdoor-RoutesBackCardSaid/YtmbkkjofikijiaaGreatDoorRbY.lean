/- readAdvert of package routes at any text: some advert, and if the text is that of one that may be written, that one. Condition: the variables ErrSyntax and ErrRange of package strconv hold errors. -/
import Derived.Test.YtmbkkjofikijiaaGreatDoorRbX
namespace Go.Proofs.YtmbkkjofikijiaaGreatDoor
open Go.RowKit
/-- A text behind k words. -/
def dr : Nat → List UInt8 → List UInt8
  | 0, l => l
  | k + 1, l => cutr (dr k l)
theorem dr_len (k : Nat) (l : List UInt8) : (dr k l).length ≤ l.length := by
  induction k with
  | zero => exact Nat.le_refl _
  | succ k ih => have := cutr_le (dr k l); exact Nat.le_trans this ih
theorem dr_join : ∀ (k : Nat) (ws : List (List UInt8)), k ≤ ws.length → (∀ x ∈ ws.take k, 32 ∉ x) → dr k (joinB ws) = joinB (ws.drop k)
  | 0, ws, _, _ => rfl
  | k + 1, ws, hk, h => by
    have ih := dr_join k ws (by omega) (fun x hx => h x (List.take_subset_take_left _ (by omega) hx))
    have hd : ws.drop k = ws[k]'(by omega) :: ws.drop (k + 1) := List.drop_eq_getElem_cons (by omega)
    show cutr (dr k (joinB ws)) = _
    rw [ih, hd]
    exact cutr_join _ (h _ (by rw [List.take_succ_eq_append_getElem (by omega)]; exact List.mem_append.2 (.inr (List.mem_singleton.2 rfl))))
theorem dr_word {k : Nat} {ws : List (List UInt8)} {x : List UInt8} (hx : ws[k]? = some x) (h : ∀ x ∈ ws.take (k + 1), 32 ∉ x) : cutw (dr k (joinB ws)) = x := by
  obtain ⟨h1, rfl⟩ := List.getElem?_eq_some_iff.1 hx
  rw [dr_join k ws (by omega) (fun x hx => h x (List.take_subset_take_left _ (by omega) hx)), List.drop_eq_getElem_cons h1]
  exact cutw_join _ (h _ (by rw [List.take_succ_eq_append_getElem h1]; exact List.mem_append.2 (.inr (List.mem_singleton.2 rfl))))
/-- What the numbers of an advert are. -/
structure AvR (q : AvD) : Prop where
  ra : 0 ≤ q.a ∧ q.a < 4294967296
  ho : 0 ≤ q.ho ∧ q.ho < 4294967296
  pe : 0 ≤ q.pe ∧ q.pe < 4294967296
  pi : 0 ≤ q.pi ∧ q.pi < 4294967296
  og : 0 ≤ q.og ∧ q.og < 4294967296
  pa : ∀ x ∈ q.pa, 0 ≤ x ∧ x < 4294967296
  co : ∀ x ∈ q.co, 0 ≤ x ∧ x < 4294967296
  cl : ∀ x ∈ q.cl, 0 ≤ x ∧ x < 4294967296
/-- What is read of a text as an advert. -/
structure AdvP (l : List UInt8) (q : AvD) : Prop where
  r : AvR q
  l1 : 2 * q.pa.length ≤ l.length + 1
  l2 : 2 * q.co.length ≤ l.length + 1
  l3 : 2 * q.cl.length ≤ l.length + 1
  it : ∀ p : AvD, mayAv p = true → AvR p → txA p = l → q = p
theorem dec_noU (x : Int) : (32 : UInt8) ∉ decU x := dec_no _ _ (by decide)
theorem txt_noU (x : Int) : (32 : UInt8) ∉ txtU x := txt_no _
theorem side_dec (b : Bool) : decide (wSide b = wSide true) = b := by cases b <;> decide
theorem side_no (b : Bool) : (32 : UInt8) ∉ wSide b := by cases b <;> decide
theorem dig_dec (u : Nat) (l : List UInt8) (c : UInt8) (hc : dig c = false) (hm : c ∈ l) : Lib.decDigits u ≠ l := fun h => dec_no u c hc (by rw [h]; exact hm)
theorem wrd_comm : Wrd decU wComm := ⟨fun y _ => dec_noU y, fun y _ => (dec_facts _).1, fun y _ => dig_dec _ _ 99 (by decide) (by decide), by decide⟩
theorem wrd_clus : Wrd decU wClus := ⟨fun y _ => dec_noU y, fun y _ => (dec_facts _).1, fun y _ => dig_dec _ _ 99 (by decide) (by decide), by decide⟩
theorem wrd_end : Wrd txtU [] := ⟨fun y _ => txt_noU y, fun y _ => txt_ne _, fun y _ => txt_ne _, by decide⟩
/-- The words ahead of an advert's lists have no blank. -/
theorem wA_no (q : AvD) (h : 0 ≤ q.b) : ∀ x ∈ (wA q).take 17, (32 : UInt8) ∉ x := fun x hx => by
  simp only [wA, List.take_succ_cons, List.take_zero, List.mem_cons, List.not_mem_nil, or_false] at hx
  rcases hx with rfl | rfl | rfl | rfl | rfl | rfl | rfl | rfl | rfl | rfl | rfl | rfl | rfl | rfl | rfl | rfl | rfl
  · exact ptx_no _ _ h
  · decide
  · exact txt_noU _
  · decide
  · exact ito_no _
  · decide
  · exact ito_no _
  · decide
  · exact txt_noU _
  · decide
  · exact txt_noU _
  · exact side_no _
  · decide
  · exact txt_noU _
  · decide
  · exact ito_no _
  · decide
theorem wA_word (q : AvD) (h : 0 ≤ q.b) {k : Nat} (hk : k < 17) {x : List UInt8} (hx : (wA q)[k]? = some x) : cutw (dr k (txA q)) = x :=
  dr_word hx (fun y hy => wA_no q h y (List.take_subset_take_left _ (by omega) hy))
theorem wA_lists (q : AvD) (h : 0 ≤ q.b) : dr 17 (txA q) = joinB (tlA q) := dr_join 17 (wA q) (by simp [wA]) (wA_no q h)
set_option maxRecDepth 10000 in
theorem adv_it {l : List UInt8} {pf me se : Int} {L1 L2 L3 : List Int} {S1 S2 S3 : List UInt8} (hpf : ∀ m : Int, -1 ≤ m → m ≤ 2147483647 → cutw (dr 4 l) = Lib.itoa m → pf = m) (hme : ∀ m : Int, -1 ≤ m → m ≤ 2147483647 → cutw (dr 6 l) = Lib.itoa m → me = m) (hse : ∀ m : Int, -1 ≤ m → m ≤ 2147483647 → cutw (dr 15 l) = Lib.itoa m → se = m)
    (h1 : ∀ (xs : List Int) (t : List (List UInt8)), (∀ x ∈ xs, 0 ≤ x ∧ x < 4294967296) → dr 17 l = joinB (xs.map decU ++ Beh wComm t) → L1 = xs ∧ (wComm ≠ [] → S1 = joinB t))
    (h2 : ∀ (xs : List Int) (t : List (List UInt8)), (∀ x ∈ xs, 0 ≤ x ∧ x < 4294967296) → S1 = joinB (xs.map decU ++ Beh wClus t) → L2 = xs ∧ (wClus ≠ [] → S2 = joinB t))
    (h3 : ∀ (xs : List Int) (t : List (List UInt8)), (∀ x ∈ xs, 0 ≤ x ∧ x < 4294967296) → S2 = joinB (xs.map txtU ++ Beh [] t) → L3 = xs ∧ (([] : List UInt8) ≠ [] → S3 = joinB t))
    (p : AvD) (hp : mayAv p = true) (hr : AvR p) (hl : txA p = l) :
    (⟨(pparse (cutw (dr 0 l))).1, (pparse (cutw (dr 0 l))).2.1, (adrI (parse (cutw (dr 2 l)))).1, pf, me, L1, L2, (adrI (parse (cutw (dr 8 l)))).1, (adrI (parse (cutw (dr 10 l)))).1, decide (cutw (dr 11 l) = wSide true), (adrI (parse (cutw (dr 13 l)))).1, L3, se⟩ : AvD) = p := by
  obtain ⟨hck, bpf, bme, bse⟩ := mayA_parts hp
  obtain ⟨bn0, bn32, _⟩ := ck_ok p.a p.b hck
  subst hl
  have g := fun {k : Nat} (hk : k < 17) {x : List UInt8} (hx : (wA p)[k]? = some x) => wA_word p bn0 hk hx
  rw [g (k := 4) (by omega) rfl] at hpf
  rw [g (k := 6) (by omega) rfl] at hme
  rw [g (k := 15) (by omega) rfl] at hse
  rw [g (k := 0) (by omega) rfl, g (k := 2) (by omega) rfl, g (k := 8) (by omega) rfl, g (k := 10) (by omega) rfl, g (k := 11) (by omega) rfl, g (k := 13) (by omega) rfl]
  rw [wA_lists p bn0] at h1
  obtain ⟨e1, s1⟩ := h1 p.pa (p.co.map decU ++ wClus :: p.cl.map txtU) hr.pa rfl
  have s1 := s1 (by decide)
  obtain ⟨e2, s2⟩ := h2 p.co (p.cl.map txtU) hr.co s1
  have s2 := s2 (by decide)
  obtain ⟨e3, _⟩ := h3 p.cl [] hr.cl (by rw [s2]; unfold Beh; simp)
  rw [hpf p.pf (by omega) (by omega) rfl, hme p.me (by omega) (by omega) rfl, hse p.se (by omega) (by omega) rfl, back_pfx p.a p.b hr.ra.1 hr.ra.2 hck, e1, e2, e3]
  unfold txtU
  rw [back_adr _ hr.ho.1 hr.ho.2, back_adr _ hr.pe.1 hr.pe.2, back_adr _ hr.pi.1 hr.pi.2, back_adr _ hr.og.1 hr.og.2]
  obtain ⟨a, b, ho, pf', me', pa, co, pe, pi, ex, og, cl, se'⟩ := p
  simp only [AvD.mk.injEq, true_and, and_true]
  exact side_dec ex
/-- What stands while a text is read as an advert's: the answer's cells, the advert's, the text's rest, the function that takes words off. -/
structure AqS (w0 W : World) (n : Nat) (r : List Value) (s : List UInt8) : Prop where
  bel : Below n w0 W
  res : W.heap[n]? = some (.cells #[.int .u32 0, .int .i64 0, .int .u32 0, .int .i64 0, .int .i64 0, .slice none 0 0, .slice none 0 0, .int .u32 0, .int .u32 0, .bool false, .int .u32 0, .slice none 0 0, .int .i64 0] 31 (0, 0))
  adv : W.heap[n + 1]? = some (.cells r.toArray 31 (0, 0))
  len : r.length = 13
  txt : At1 W (n + 2) ⟨s.toArray⟩
  nxt : W.heap[n + 3]? = some (.cells #[.func (.func 125) #[] #[.pointer (some ⟨n + 2, 0, none⟩)]] 102 (0, 0))
section
variable {w0 W W' : World} {n : Nat} {r : List Value} {s s' : List UInt8}
theorem AqS.sz (h : AqS w0 W n r s) : n + 3 < W.heap.size := (Array.getElem?_eq_some_iff.1 h.nxt).1
theorem AqS.tk (h : AqS w0 W n r s) (hb : Onl (n + 2) W W') (ha : At1 W' (n + 2) ⟨s'.toArray⟩) : AqS w0 W' n r s' :=
  have hz := h.sz
  ⟨h.bel.trans (hb.1.mono (by omega)), (hb.2 n (by omega) (by omega)).trans h.res, (hb.2 (n + 1) (by omega) (by omega)).trans h.adv, h.len, ha, (hb.2 (n + 3) (by omega) (by omega)).trans h.nxt⟩
theorem AqS.on (h : AqS w0 W n r s) (hb : Below W.heap.size W W') : AqS w0 W' n r s :=
  have hz := h.sz
  ⟨h.bel.trans (hb.mono (by omega)), (hb.block n (by omega)).trans h.res, (hb.block (n + 1) (by omega)).trans h.adv, h.len, (hb.block (n + 2) (by omega)).trans h.txt, (hb.block (n + 3) (by omega)).trans h.nxt⟩
theorem AqS.st (h : AqS w0 W n r s) (o : Nat) (v : Value) : AqS w0 (W.setCell ⟨n + 1, o, none⟩ v) n (r.set o v) s := by
  refine ⟨h.bel.setCell (p := ⟨n + 1, o, none⟩) (Nat.le_succ n) _, ?_, ?_, by rw [List.length_set]; exact h.len, ?_, ?_⟩
  · rw [Below.heap_setCell _ _ _ _ (show n ≠ n + 1 by omega)]; exact h.res
  · have := heap_set1 W (n + 1) o v _ _ _ h.adv
    rw [this]; simp
  · unfold At1; rw [Below.heap_setCell _ _ _ _ (show n + 2 ≠ n + 1 by omega)]; exact h.txt
  · rw [Below.heap_setCell _ _ _ _ (show n + 3 ≠ n + 1 by omega)]; exact h.nxt
theorem AqS.cells (h : AqS w0 W n r s) : ∀ o, W.cell? ⟨n + 1, o, none⟩ = r[o]? := fun o => by
  simp only [World.cell?, h.adv]; simp
theorem AqS.free (h : AqS w0 W n r s) : ∀ o, W.frozen? ⟨n + 1, o, none⟩ = false := fun o => by
  simp [World.frozen?, h.adv]
theorem AqS.fun_ (h : AqS w0 W n r s) : W.cell? ⟨n + 3, 0, none⟩ = some (.func (.func 125) #[] #[.pointer (some ⟨n + 2, 0, none⟩)]) := by
  simp only [World.cell?, h.nxt]; rfl
end
theorem bhd (n : Nat) (l : List UInt8) (w w0 : World) (r : List Value) (h : AqS w0 w n r l) (hl : l.length ≤ 100000) : Calls Tryz.prog 75 #[.pointer (some ⟨n + 3, 0, none⟩)] w fun e w' => e = .returned (.string ⟨(cutw (cutr l)).toArray⟩) ∧ At1 w' (n + 2) ⟨(cutr (cutr l)).toArray⟩ ∧ Onl (n + 2) w w' := by
  have eg : ∀ args w, (callFunc 125 args).run Tryz.prog w = .ok (.enter 125 args) w := enters_of Tryz.func125 (by kernel_rfl) rfl
  have x0 := h.fun_
  have HS := Lib.hid h
  have T0 := Lib.hid (tkO l (n + 2) w h.txt hl)
  have hl2 := cutr_le l
  have HL := Lib.hid (show (cutr l).length ≤ 100000 by omega)
  clear h hl hl2
  go_enter Tryz.func75, Tryz.ntmps75
  go_wp2_with fail
  refine T0.out.mono ?_
  rintro e w1 ⟨rfl, ha, hb⟩
  have S1 := Lib.hid (HS.out.tk hb ha)
  have O1 := Lib.hid hb
  have x1 := S1.out.fun_
  have T1 := Lib.hid (tkO (cutr l) (n + 2) w1 ha HL.out)
  clear ha hb x0 T0
  go_wp2_with fail
  refine T1.out.mono ?_
  rintro e w2 ⟨rfl, ha, hb⟩
  have A2 := Lib.hid ha
  have O2 := Lib.hid (O1.out.trans hb)
  clear ha hb T1 x1
  go_wp2
  go_ret
  exact ⟨rfl, A2.out, O2.out⟩
theorem own_lowA {w : World} {B B' n k : Nat} {e : TypeId} {v : Value} {xs : List Value} (h : w.ownsRow B e k v n xs) (hB : B' ≤ B) : w.ownsRow B' e k v n xs := by
  rcases h.2 with ⟨rfl, hx⟩ | ⟨g, cap, cur, rfl, h1, h3⟩
  · exact ⟨h.1, .inl ⟨rfl, hx⟩⟩
  · exact ⟨h.1, .inr ⟨g, cap, cur, rfl, by omega, h3⟩⟩
theorem own_setA {w : World} {B n k b o : Nat} {e : TypeId} {v u : Value} {xs : List Value} (h : w.ownsRow B e k v n xs) (hb : b < B) : (w.setCell ⟨b, o, none⟩ u).ownsRow B e k v n xs := by
  rcases h.2 with ⟨rfl, hx⟩ | ⟨g, cap, cur, rfl, h1, h2, h3⟩
  · exact ⟨h.1, .inl ⟨rfl, hx⟩⟩
  · exact ⟨h.1, .inr ⟨g, cap, cur, rfl, h1, by rw [Below.heap_setCell _ _ _ _ (show g ≠ b by omega)]; exact h2, h3⟩⟩
set_option maxRecDepth 100000 in
set_option maxHeartbeats 8000000 in
theorem aread_any (l : List UInt8) (hl : l.length ≤ 100000) (w : World) (hE : ErrV w) : Calls Tryz.prog 44 #[.string ⟨l.toArray⟩] w fun e w' => ∃ (q : AvD) (p1 : Option Addr) (c1 : Nat) (p2 : Option Addr) (c2 : Nat) (p3 : Option Addr) (c3 : Nat),
    e = .returned (.agg #[.int .u32 q.a, .int .i64 q.b, .int .u32 q.ho, .int .i64 q.pf, .int .i64 q.me, .slice p1 q.pa.length c1, .slice p2 q.co.length c2, .int .u32 q.pe, .int .u32 q.pi, .bool q.ex, .int .u32 q.og, .slice p3 q.cl.length c3, .int .i64 q.se]) ∧ (w'.ownsRow w.heap.size 22 1 (.slice p1 q.pa.length c1) q.pa.length (flatK encU q.pa) ∧ w'.ownsRow w.heap.size 22 1 (.slice p2 q.co.length c2) q.co.length (flatK encU q.co) ∧ w'.ownsRow w.heap.size 23 1 (.slice p3 q.cl.length c3) q.cl.length (flatK encU q.cl)) ∧ AdvP l q ∧ Below w.heap.size w w' := by
  have eg : ∀ args w, (callFunc 125 args).run Tryz.prog w = .ok (.enter 125 args) w := enters_of Tryz.func125 (by kernel_rfl) rfl
  have eb : ∀ args w, (callFunc 75 args).run Tryz.prog w = .ok (.enter 75 args) w := enters_of Tryz.func75 (by kernel_rfl) rfl
  have eu : ∀ args w, (callFunc 77 args).run Tryz.prog w = .ok (.enter 77 args) w := enters_of Tryz.func77 (by kernel_rfl) rfl
  have ea : ∀ args w, (callFunc 72 args).run Tryz.prog w = .ok (.enter 72 args) w := enters_of Tryz.func72 (by kernel_rfl) rfl
  have HEU := Lib.hid eu; have HEA := Lib.hid ea
  clear eu ea
  obtain ⟨w1, hw1⟩ : ∃ X, (w.alloc (.cells #[.int .u32 0, .int .i64 0, .int .u32 0, .int .i64 0, .int .i64 0, .slice none 0 0, .slice none 0 0, .int .u32 0, .int .u32 0, .bool false, .int .u32 0, .slice none 0 0, .int .i64 0] 31)).alloc (.cells #[.int .u32 0, .int .i64 0, .int .u32 0, .int .i64 0, .int .i64 0, .slice none 0 0, .slice none 0 0, .int .u32 0, .int .u32 0, .bool false, .int .u32 0, .slice none 0 0, .int .i64 0] 31) = X := ⟨_, rfl⟩
  have HZ1 : Hid (w1.heap.size = w.heap.size + 2) := Lib.hid (by rw [← hw1]; exact (Array.size_push ..).trans (congrArg (· + 1) (Array.size_push ..)))
  have HB1 : Hid (Below w.heap.size w w1) := Lib.hid (by rw [← hw1]; exact ((Below.refl _ _).alloc (Nat.le_refl _) _).alloc (Nat.le_trans (Nat.le_succ _) (Nat.le_of_eq (Array.size_push ..).symm)) _)
  have HX1 : Hid (w1.heap[w.heap.size]? = some (.cells #[.int .u32 0, .int .i64 0, .int .u32 0, .int .i64 0, .int .i64 0, .slice none 0 0, .slice none 0 0, .int .u32 0, .int .u32 0, .bool false, .int .u32 0, .slice none 0 0, .int .i64 0] 31 (0, 0))) := Lib.hid (by rw [← hw1]; exact ((Below.refl _ _).alloc (Nat.le_refl _) _).block _ (Nat.lt_of_lt_of_eq (Nat.lt_succ_self _) (Array.size_push ..).symm) |>.trans (heap_new' _ _))
  have HY1 : Hid (w1.heap[w.heap.size + 1]? = some (.cells #[.int .u32 0, .int .i64 0, .int .u32 0, .int .i64 0, .int .i64 0, .slice none 0 0, .slice none 0 0, .int .u32 0, .int .u32 0, .bool false, .int .u32 0, .slice none 0 0, .int .i64 0] 31 (0, 0))) := Lib.hid (by rw [← hw1]; have h := heap_new' (w.alloc (.cells #[.int .u32 0, .int .i64 0, .int .u32 0, .int .i64 0, .int .i64 0, .slice none 0 0, .slice none 0 0, .int .u32 0, .int .u32 0, .bool false, .int .u32 0, .slice none 0 0, .int .i64 0] 31)) (.cells #[.int .u32 0, .int .i64 0, .int .u32 0, .int .i64 0, .int .i64 0, .slice none 0 0, .slice none 0 0, .int .u32 0, .int .u32 0, .bool false, .int .u32 0, .slice none 0 0, .int .i64 0] 31); rw [show (w.alloc (.cells #[.int .u32 0, .int .i64 0, .int .u32 0, .int .i64 0, .int .i64 0, .slice none 0 0, .slice none 0 0, .int .u32 0, .int .u32 0, .bool false, .int .u32 0, .slice none 0 0, .int .i64 0] 31)).heap.size = w.heap.size + 1 from Array.size_push ..] at h; exact h)
  have HE := Lib.hid hE
  have HL := Lib.hid hl
  have HDL := Lib.hid fun k => Nat.le_trans (dr_len k l) hl
  have HDW := Lib.hid fun k => Nat.le_trans (cutw_le (dr k l)) (Nat.le_trans (dr_len k l) hl)
  clear hE hl
  go_enter Tryz.func44, Tryz.ntmps44
  go_wp2_with fail
  try rw [hw1]
  go_at_call 68
  refine (taker_is _ _).mono ?_
  rintro e w2 ⟨rfl, hw2⟩
  have e2 : w1.heap.size = w.heap.size + 2 := HZ1.out
  rw [e2]
  obtain ⟨wa, hwa⟩ : ∃ X, w2.alloc (.cells #[.nilFunc] 102) = X := ⟨_, rfl⟩
  obtain ⟨w3, hw3⟩ : ∃ X, wa.setCell ⟨w2.heap.size, 0, none⟩ (.func (.func 125) #[] #[.pointer (some ⟨w.heap.size + 2, 0, none⟩)]) = X := ⟨_, rfl⟩
  have hxa : wa.heap[w2.heap.size]? = some (.cells #[.nilFunc] 102 (0, 0)) := by rw [← hwa]; exact heap_new' _ _
  have hst : (store ⟨w2.heap.size, 0, none⟩ (.func (.func 125) #[] #[.pointer (some ⟨w.heap.size + 2, 0, none⟩)])).run Tryz.prog wa = .ok () w3 := by
    have d0 : wa.cell? ⟨w2.heap.size, 0, none⟩ = some .nilFunc := by simp only [World.cell?, hxa]; rfl
    have d1 : wa.frozen? ⟨w2.heap.size, 0, none⟩ = false := by simp [World.frozen?, hxa]
    rw [run_store _ _ _ _ _ rfl]
    simp [d0, d1, hw3]
  have hs2 : w2.heap.size = w.heap.size + 3 := by rw [hw2]; exact (Array.size_push ..).trans (congrArg (· + 1) e2)
  have S3 : Hid (AqS w w3 w.heap.size [.int .u32 0, .int .i64 0, .int .u32 0, .int .i64 0, .int .i64 0, .slice none 0 0, .slice none 0 0, .int .u32 0, .int .u32 0, .bool false, .int .u32 0, .slice none 0 0, .int .i64 0] l) := Lib.hid (by
    have hb : Below w1.heap.size w1 w2 := by rw [hw2]; exact (Below.refl _ _).alloc (Nat.le_refl _) _
    have hb3 : Below w2.heap.size w2 w3 := by rw [← hw3, ← hwa]; exact ((Below.refl _ _).alloc (Nat.le_refl _) _).setCell (p := ⟨w2.heap.size, 0, none⟩) (Nat.le_refl _) _
    have ht : w2.heap[w1.heap.size]? = some (.cells #[.string ⟨l.toArray⟩] 9 (0, 0)) := by rw [hw2]; exact heap_new' _ _
    rw [e2] at ht
    have hf : w3.heap[w2.heap.size]? = some (.cells #[.func (.func 125) #[] #[.pointer (some ⟨w.heap.size + 2, 0, none⟩)]] 102 (0, 0)) := by rw [← hw3, heap_set1 _ _ _ _ _ _ _ hxa]; simp
    rw [hs2] at hf
    exact ⟨(HB1.out.trans (hb.mono (by omega))).trans (hb3.mono (by omega)), (hb3.block _ (by omega)).trans ((hb.block _ (by omega)).trans HX1.out), (hb3.block _ (by omega)).trans ((hb.block _ (by omega)).trans HY1.out), rfl, (hb3.block _ (by omega)).trans ht, hf⟩)
  rw [hs2] at hst
  clear e2 hw2 hw1 hxa hw3
  have xn := S3.out.fun_
  go_wp2_with fail
  refine (tkO (dr 0 l) (w.heap.size + 2) _ S3.out.txt (HDL.out 0)).mono ?_
  rintro e w4 ⟨rfl, ha, hb⟩
  have S4 : Hid (AqS w w4 w.heap.size [.int .u32 0, .int .i64 0, .int .u32 0, .int .i64 0, .int .i64 0, .slice none 0 0, .slice none 0 0, .int .u32 0, .int .u32 0, .bool false, .int .u32 0, .slice none 0 0, .int .i64 0] (dr 1 l)) := Lib.hid (S3.out.tk hb ha)
  clear ha hb xn
  go_wp2_with fail
  go_at_call 69
  refine (pfxL (cutw (dr 0 l)) (HDW.out 0) _).mono ?_
  obtain ⟨qa, hqa⟩ : ∃ x, (pparse (cutw (dr 0 l))).1 = x := ⟨_, rfl⟩
  obtain ⟨qb, hqb⟩ : ∃ x, (pparse (cutw (dr 0 l))).2.1 = x := ⟨_, rfl⟩
  rw [hqa, hqb]
  rintro e w5 ⟨rfl, hb⟩
  have Hqa := Lib.hid hqa
  have Hqb := Lib.hid hqb
  have S5 := Lib.hid (S4.out.on hb)
  clear hb hqa hqb
  obtain ⟨hc5, hf5⟩ : (∀ o, w5.cell? ⟨w.heap.size + 1, o, none⟩ = ([.int .u32 0, .int .i64 0, .int .u32 0, .int .i64 0, .int .i64 0, .slice none 0 0, .slice none 0 0, .int .u32 0, .int .u32 0, .bool false, .int .u32 0, .slice none 0 0, .int .i64 0] : List Value)[o]?) ∧ ∀ o, w5.frozen? ⟨w.heap.size + 1, o, none⟩ = false := ⟨S5.out.cells, S5.out.free⟩
  have xc0 := hc5 0; have xf0 := hf5 0
  simp only [List.getElem?_cons_zero, List.getElem?_cons_succ] at xc0
  have xc1 := hc5 1; have xf1 := hf5 1
  simp only [List.getElem?_cons_zero, List.getElem?_cons_succ] at xc1
  clear hc5 hf5
  have xn := S5.out.fun_
  go_wp2_with fail
  clear xn
  obtain ⟨w6, hw6⟩ : ∃ X, ((w5.setCell ⟨w.heap.size + 1, 0, none⟩ (.int .u32 qa)).setCell ⟨w.heap.size + 1, 1, none⟩ (.int .i64 qb)) = X := ⟨_, rfl⟩
  have S6 : Hid (AqS w w6 w.heap.size [.int .u32 qa, .int .i64 qb, .int .u32 0, .int .i64 0, .int .i64 0, .slice none 0 0, .slice none 0 0, .int .u32 0, .int .u32 0, .bool false, .int .u32 0, .slice none 0 0, .int .i64 0] (dr 1 l)) := Lib.hid (by rw [← hw6]; exact ((S5.out).st 0 (.int .u32 qa)).st 1 (.int .i64 qb))
  rw [hw6]
  clear hw6 xc0 xf0 xc1 xf1
  go_wp2_with fail
  refine (bhd w.heap.size (dr 1 l) _ w _ S6.out (HDL.out 1)).mono ?_
  rintro e w7 ⟨rfl, ha, hb⟩
  have S7 : Hid (AqS w w7 w.heap.size [.int .u32 qa, .int .i64 qb, .int .u32 0, .int .i64 0, .int .i64 0, .slice none 0 0, .slice none 0 0, .int .u32 0, .int .u32 0, .bool false, .int .u32 0, .slice none 0 0, .int .i64 0] (dr 3 l)) := Lib.hid (S6.out.tk hb ha)
  clear ha hb
  go_wp2_with fail
  go_at_call 72
  refine (adrL (cutw (dr 2 l)) (HDW.out 2) _).mono ?_
  obtain ⟨qho, hqho⟩ : ∃ x, (adrI (parse (cutw (dr 2 l)))).1 = x := ⟨_, rfl⟩
  rw [show (adrI (parse (cutw (dr 2 l)))).1 = qho from hqho]
  rintro e w8 ⟨rfl, hb⟩
  have Hqho := Lib.hid hqho
  have S8 := Lib.hid (S7.out.on hb)
  clear hb hqho
  obtain ⟨hc8, hf8⟩ : (∀ o, w8.cell? ⟨w.heap.size + 1, o, none⟩ = ([.int .u32 qa, .int .i64 qb, .int .u32 0, .int .i64 0, .int .i64 0, .slice none 0 0, .slice none 0 0, .int .u32 0, .int .u32 0, .bool false, .int .u32 0, .slice none 0 0, .int .i64 0] : List Value)[o]?) ∧ ∀ o, w8.frozen? ⟨w.heap.size + 1, o, none⟩ = false := ⟨S8.out.cells, S8.out.free⟩
  have xc2 := hc8 2; have xf2 := hf8 2
  simp only [List.getElem?_cons_zero, List.getElem?_cons_succ] at xc2
  clear hc8 hf8
  have xn := S8.out.fun_
  go_wp2_with fail
  clear xn
  obtain ⟨w9, hw9⟩ : ∃ X, (w8.setCell ⟨w.heap.size + 1, 2, none⟩ (.int .u32 qho)) = X := ⟨_, rfl⟩
  have S9 : Hid (AqS w w9 w.heap.size [.int .u32 qa, .int .i64 qb, .int .u32 qho, .int .i64 0, .int .i64 0, .slice none 0 0, .slice none 0 0, .int .u32 0, .int .u32 0, .bool false, .int .u32 0, .slice none 0 0, .int .i64 0] (dr 3 l)) := Lib.hid (by rw [← hw9]; exact (S8.out).st 2 (.int .u32 qho))
  rw [hw9]
  clear hw9 xc2 xf2
  go_wp2_with fail
  refine (bhd w.heap.size (dr 3 l) _ w _ S9.out (HDL.out 3)).mono ?_
  rintro e w10 ⟨rfl, ha, hb⟩
  have S10 : Hid (AqS w w10 w.heap.size [.int .u32 qa, .int .i64 qb, .int .u32 qho, .int .i64 0, .int .i64 0, .slice none 0 0, .slice none 0 0, .int .u32 0, .int .u32 0, .bool false, .int .u32 0, .slice none 0 0, .int .i64 0] (dr 5 l)) := Lib.hid (S9.out.tk hb ha)
  clear ha hb
  go_wp2_with fail
  go_at_call 71
  refine (numL (cutw (dr 4 l)) (HDW.out 4) _ (HE.out.on S10.out.bel)).mono ?_
  rintro e w11 ⟨qpf, rfl, hv, hb⟩
  have Hqpf := Lib.hid hv
  have S11 := Lib.hid (S10.out.on hb)
  clear hb hv
  obtain ⟨hc11, hf11⟩ : (∀ o, w11.cell? ⟨w.heap.size + 1, o, none⟩ = ([.int .u32 qa, .int .i64 qb, .int .u32 qho, .int .i64 0, .int .i64 0, .slice none 0 0, .slice none 0 0, .int .u32 0, .int .u32 0, .bool false, .int .u32 0, .slice none 0 0, .int .i64 0] : List Value)[o]?) ∧ ∀ o, w11.frozen? ⟨w.heap.size + 1, o, none⟩ = false := ⟨S11.out.cells, S11.out.free⟩
  have xc3 := hc11 3; have xf3 := hf11 3
  simp only [List.getElem?_cons_zero, List.getElem?_cons_succ] at xc3
  clear hc11 hf11
  have xn := S11.out.fun_
  go_wp2_with fail
  clear xn
  obtain ⟨w12, hw12⟩ : ∃ X, (w11.setCell ⟨w.heap.size + 1, 3, none⟩ (.int .i64 qpf)) = X := ⟨_, rfl⟩
  have S12 : Hid (AqS w w12 w.heap.size [.int .u32 qa, .int .i64 qb, .int .u32 qho, .int .i64 qpf, .int .i64 0, .slice none 0 0, .slice none 0 0, .int .u32 0, .int .u32 0, .bool false, .int .u32 0, .slice none 0 0, .int .i64 0] (dr 5 l)) := Lib.hid (by rw [← hw12]; exact (S11.out).st 3 (.int .i64 qpf))
  rw [hw12]
  clear hw12 xc3 xf3
  go_wp2_with fail
  refine (bhd w.heap.size (dr 5 l) _ w _ S12.out (HDL.out 5)).mono ?_
  rintro e w13 ⟨rfl, ha, hb⟩
  have S13 : Hid (AqS w w13 w.heap.size [.int .u32 qa, .int .i64 qb, .int .u32 qho, .int .i64 qpf, .int .i64 0, .slice none 0 0, .slice none 0 0, .int .u32 0, .int .u32 0, .bool false, .int .u32 0, .slice none 0 0, .int .i64 0] (dr 7 l)) := Lib.hid (S12.out.tk hb ha)
  clear ha hb
  go_wp2_with fail
  go_at_call 71
  refine (numL (cutw (dr 6 l)) (HDW.out 6) _ (HE.out.on S13.out.bel)).mono ?_
  rintro e w14 ⟨qme, rfl, hv, hb⟩
  have Hqme := Lib.hid hv
  have S14 := Lib.hid (S13.out.on hb)
  clear hb hv
  obtain ⟨hc14, hf14⟩ : (∀ o, w14.cell? ⟨w.heap.size + 1, o, none⟩ = ([.int .u32 qa, .int .i64 qb, .int .u32 qho, .int .i64 qpf, .int .i64 0, .slice none 0 0, .slice none 0 0, .int .u32 0, .int .u32 0, .bool false, .int .u32 0, .slice none 0 0, .int .i64 0] : List Value)[o]?) ∧ ∀ o, w14.frozen? ⟨w.heap.size + 1, o, none⟩ = false := ⟨S14.out.cells, S14.out.free⟩
  have xc4 := hc14 4; have xf4 := hf14 4
  simp only [List.getElem?_cons_zero, List.getElem?_cons_succ] at xc4
  clear hc14 hf14
  have xn := S14.out.fun_
  go_wp2_with fail
  clear xn
  obtain ⟨w15, hw15⟩ : ∃ X, (w14.setCell ⟨w.heap.size + 1, 4, none⟩ (.int .i64 qme)) = X := ⟨_, rfl⟩
  have S15 : Hid (AqS w w15 w.heap.size [.int .u32 qa, .int .i64 qb, .int .u32 qho, .int .i64 qpf, .int .i64 qme, .slice none 0 0, .slice none 0 0, .int .u32 0, .int .u32 0, .bool false, .int .u32 0, .slice none 0 0, .int .i64 0] (dr 7 l)) := Lib.hid (by rw [← hw15]; exact (S14.out).st 4 (.int .i64 qme))
  rw [hw15]
  clear hw15 xc4 xf4
  go_wp2_with fail
  refine (bhd w.heap.size (dr 7 l) _ w _ S15.out (HDL.out 7)).mono ?_
  rintro e w16 ⟨rfl, ha, hb⟩
  have S16 : Hid (AqS w w16 w.heap.size [.int .u32 qa, .int .i64 qb, .int .u32 qho, .int .i64 qpf, .int .i64 qme, .slice none 0 0, .slice none 0 0, .int .u32 0, .int .u32 0, .bool false, .int .u32 0, .slice none 0 0, .int .i64 0] (dr 9 l)) := Lib.hid (S15.out.tk hb ha)
  clear ha hb
  go_wp2_with fail
  go_at_call 72
  refine (adrL (cutw (dr 8 l)) (HDW.out 8) _).mono ?_
  obtain ⟨qpe, hqpe⟩ : ∃ x, (adrI (parse (cutw (dr 8 l)))).1 = x := ⟨_, rfl⟩
  rw [show (adrI (parse (cutw (dr 8 l)))).1 = qpe from hqpe]
  rintro e w17 ⟨rfl, hb⟩
  have Hqpe := Lib.hid hqpe
  have S17 := Lib.hid (S16.out.on hb)
  clear hb hqpe
  obtain ⟨hc17, hf17⟩ : (∀ o, w17.cell? ⟨w.heap.size + 1, o, none⟩ = ([.int .u32 qa, .int .i64 qb, .int .u32 qho, .int .i64 qpf, .int .i64 qme, .slice none 0 0, .slice none 0 0, .int .u32 0, .int .u32 0, .bool false, .int .u32 0, .slice none 0 0, .int .i64 0] : List Value)[o]?) ∧ ∀ o, w17.frozen? ⟨w.heap.size + 1, o, none⟩ = false := ⟨S17.out.cells, S17.out.free⟩
  have xc7 := hc17 7; have xf7 := hf17 7
  simp only [List.getElem?_cons_zero, List.getElem?_cons_succ] at xc7
  clear hc17 hf17
  have xn := S17.out.fun_
  go_wp2_with fail
  clear xn
  obtain ⟨w18, hw18⟩ : ∃ X, (w17.setCell ⟨w.heap.size + 1, 7, none⟩ (.int .u32 qpe)) = X := ⟨_, rfl⟩
  have S18 : Hid (AqS w w18 w.heap.size [.int .u32 qa, .int .i64 qb, .int .u32 qho, .int .i64 qpf, .int .i64 qme, .slice none 0 0, .slice none 0 0, .int .u32 qpe, .int .u32 0, .bool false, .int .u32 0, .slice none 0 0, .int .i64 0] (dr 9 l)) := Lib.hid (by rw [← hw18]; exact (S17.out).st 7 (.int .u32 qpe))
  rw [hw18]
  clear hw18 xc7 xf7
  go_wp2_with fail
  refine (bhd w.heap.size (dr 9 l) _ w _ S18.out (HDL.out 9)).mono ?_
  rintro e w19 ⟨rfl, ha, hb⟩
  have S19 : Hid (AqS w w19 w.heap.size [.int .u32 qa, .int .i64 qb, .int .u32 qho, .int .i64 qpf, .int .i64 qme, .slice none 0 0, .slice none 0 0, .int .u32 qpe, .int .u32 0, .bool false, .int .u32 0, .slice none 0 0, .int .i64 0] (dr 11 l)) := Lib.hid (S18.out.tk hb ha)
  clear ha hb
  go_wp2_with fail
  go_at_call 72
  refine (adrL (cutw (dr 10 l)) (HDW.out 10) _).mono ?_
  obtain ⟨qpi, hqpi⟩ : ∃ x, (adrI (parse (cutw (dr 10 l)))).1 = x := ⟨_, rfl⟩
  rw [show (adrI (parse (cutw (dr 10 l)))).1 = qpi from hqpi]
  rintro e w20 ⟨rfl, hb⟩
  have Hqpi := Lib.hid hqpi
  have S20 := Lib.hid (S19.out.on hb)
  clear hb hqpi
  obtain ⟨hc20, hf20⟩ : (∀ o, w20.cell? ⟨w.heap.size + 1, o, none⟩ = ([.int .u32 qa, .int .i64 qb, .int .u32 qho, .int .i64 qpf, .int .i64 qme, .slice none 0 0, .slice none 0 0, .int .u32 qpe, .int .u32 0, .bool false, .int .u32 0, .slice none 0 0, .int .i64 0] : List Value)[o]?) ∧ ∀ o, w20.frozen? ⟨w.heap.size + 1, o, none⟩ = false := ⟨S20.out.cells, S20.out.free⟩
  have xc8 := hc20 8; have xf8 := hf20 8
  simp only [List.getElem?_cons_zero, List.getElem?_cons_succ] at xc8
  clear hc20 hf20
  have xn := S20.out.fun_
  go_wp2_with fail
  clear xn
  obtain ⟨w21, hw21⟩ : ∃ X, (w20.setCell ⟨w.heap.size + 1, 8, none⟩ (.int .u32 qpi)) = X := ⟨_, rfl⟩
  have S21 : Hid (AqS w w21 w.heap.size [.int .u32 qa, .int .i64 qb, .int .u32 qho, .int .i64 qpf, .int .i64 qme, .slice none 0 0, .slice none 0 0, .int .u32 qpe, .int .u32 qpi, .bool false, .int .u32 0, .slice none 0 0, .int .i64 0] (dr 11 l)) := Lib.hid (by rw [← hw21]; exact (S20.out).st 8 (.int .u32 qpi))
  rw [hw21]
  clear hw21 xc8 xf8
  have xn := S21.out.fun_
  go_wp2_with fail
  refine (tkO (dr 11 l) (w.heap.size + 2) _ S21.out.txt (HDL.out 11)).mono ?_
  rintro e w22 ⟨rfl, ha, hb⟩
  have S22 : Hid (AqS w w22 w.heap.size [.int .u32 qa, .int .i64 qb, .int .u32 qho, .int .i64 qpf, .int .i64 qme, .slice none 0 0, .slice none 0 0, .int .u32 qpe, .int .u32 qpi, .bool false, .int .u32 0, .slice none 0 0, .int .i64 0] (dr 12 l)) := Lib.hid (S21.out.tk hb ha)
  clear ha hb xn
  obtain ⟨wb, hwb⟩ : ∃ x, (⟨(cutw (dr 11 l)).toArray⟩ : ByteArray) = x := ⟨_, rfl⟩
  rw [hwb]
  go_wp2_with fail
  go_at_call 35
  refine (side_any true _).mono ?_
  rintro e w23 ⟨rfl, hb⟩
  have S23 := Lib.hid (S22.out.on hb)
  obtain ⟨sb, hsb⟩ : ∃ x, (⟨(wSide true).toArray⟩ : ByteArray) = x := ⟨_, rfl⟩
  rw [hsb]
  have hex : (wb.toList == sb.toList) = decide (cutw (dr 11 l) = wSide true) := by rw [ByteArray.toList_eq, ByteArray.toList_eq, ← hwb, ← hsb, mk_toList, mk_toList]; by_cases h : cutw (dr 11 l) = wSide true <;> simp [h]
  obtain ⟨qex, hqex⟩ : ∃ b, decide (cutw (dr 11 l) = wSide true) = b := ⟨_, rfl⟩
  rw [hqex] at hex
  have Hqex := Lib.hid hqex
  clear hb hqex hwb hsb
  obtain ⟨hc23, hf23⟩ : (∀ o, w23.cell? ⟨w.heap.size + 1, o, none⟩ = ([.int .u32 qa, .int .i64 qb, .int .u32 qho, .int .i64 qpf, .int .i64 qme, .slice none 0 0, .slice none 0 0, .int .u32 qpe, .int .u32 qpi, .bool false, .int .u32 0, .slice none 0 0, .int .i64 0] : List Value)[o]?) ∧ ∀ o, w23.frozen? ⟨w.heap.size + 1, o, none⟩ = false := ⟨S23.out.cells, S23.out.free⟩
  have xc9 := hc23 9; have xf9 := hf23 9
  simp only [List.getElem?_cons_zero, List.getElem?_cons_succ] at xc9
  clear hc23 hf23
  have xn := S23.out.fun_
  go_wp2_with fail
  clear xn
  obtain ⟨w24, hw24⟩ : ∃ X, (w23.setCell ⟨w.heap.size + 1, 9, none⟩ (.bool qex)) = X := ⟨_, rfl⟩
  have S24 : Hid (AqS w w24 w.heap.size [.int .u32 qa, .int .i64 qb, .int .u32 qho, .int .i64 qpf, .int .i64 qme, .slice none 0 0, .slice none 0 0, .int .u32 qpe, .int .u32 qpi, .bool qex, .int .u32 0, .slice none 0 0, .int .i64 0] (dr 12 l)) := Lib.hid (by rw [← hw24]; exact (S23.out).st 9 (.bool qex))
  rw [hw24]
  clear hw24 xc9 xf9
  clear hex
  go_wp2_with fail
  refine (bhd w.heap.size (dr 12 l) _ w _ S24.out (HDL.out 12)).mono ?_
  rintro e w25 ⟨rfl, ha, hb⟩
  have S25 : Hid (AqS w w25 w.heap.size [.int .u32 qa, .int .i64 qb, .int .u32 qho, .int .i64 qpf, .int .i64 qme, .slice none 0 0, .slice none 0 0, .int .u32 qpe, .int .u32 qpi, .bool qex, .int .u32 0, .slice none 0 0, .int .i64 0] (dr 14 l)) := Lib.hid (S24.out.tk hb ha)
  clear ha hb
  go_wp2_with fail
  go_at_call 72
  refine (adrL (cutw (dr 13 l)) (HDW.out 13) _).mono ?_
  obtain ⟨qog, hqog⟩ : ∃ x, (adrI (parse (cutw (dr 13 l)))).1 = x := ⟨_, rfl⟩
  rw [show (adrI (parse (cutw (dr 13 l)))).1 = qog from hqog]
  rintro e w26 ⟨rfl, hb⟩
  have Hqog := Lib.hid hqog
  have S26 := Lib.hid (S25.out.on hb)
  clear hb hqog
  obtain ⟨hc26, hf26⟩ : (∀ o, w26.cell? ⟨w.heap.size + 1, o, none⟩ = ([.int .u32 qa, .int .i64 qb, .int .u32 qho, .int .i64 qpf, .int .i64 qme, .slice none 0 0, .slice none 0 0, .int .u32 qpe, .int .u32 qpi, .bool qex, .int .u32 0, .slice none 0 0, .int .i64 0] : List Value)[o]?) ∧ ∀ o, w26.frozen? ⟨w.heap.size + 1, o, none⟩ = false := ⟨S26.out.cells, S26.out.free⟩
  have xc10 := hc26 10; have xf10 := hf26 10
  simp only [List.getElem?_cons_zero, List.getElem?_cons_succ] at xc10
  clear hc26 hf26
  have xn := S26.out.fun_
  go_wp2_with fail
  clear xn
  obtain ⟨w27, hw27⟩ : ∃ X, (w26.setCell ⟨w.heap.size + 1, 10, none⟩ (.int .u32 qog)) = X := ⟨_, rfl⟩
  have S27 : Hid (AqS w w27 w.heap.size [.int .u32 qa, .int .i64 qb, .int .u32 qho, .int .i64 qpf, .int .i64 qme, .slice none 0 0, .slice none 0 0, .int .u32 qpe, .int .u32 qpi, .bool qex, .int .u32 qog, .slice none 0 0, .int .i64 0] (dr 14 l)) := Lib.hid (by rw [← hw27]; exact (S26.out).st 10 (.int .u32 qog))
  rw [hw27]
  clear hw27 xc10 xf10
  go_wp2_with fail
  refine (bhd w.heap.size (dr 14 l) _ w _ S27.out (HDL.out 14)).mono ?_
  rintro e w28 ⟨rfl, ha, hb⟩
  have S28 : Hid (AqS w w28 w.heap.size [.int .u32 qa, .int .i64 qb, .int .u32 qho, .int .i64 qpf, .int .i64 qme, .slice none 0 0, .slice none 0 0, .int .u32 qpe, .int .u32 qpi, .bool qex, .int .u32 qog, .slice none 0 0, .int .i64 0] (dr 16 l)) := Lib.hid (S27.out.tk hb ha)
  clear ha hb
  go_wp2_with fail
  go_at_call 71
  refine (numL (cutw (dr 15 l)) (HDW.out 15) _ (HE.out.on S28.out.bel)).mono ?_
  rintro e w29 ⟨qse, rfl, hv, hb⟩
  have Hqse := Lib.hid hv
  have S29 := Lib.hid (S28.out.on hb)
  clear hb hv
  obtain ⟨hc29, hf29⟩ : (∀ o, w29.cell? ⟨w.heap.size + 1, o, none⟩ = ([.int .u32 qa, .int .i64 qb, .int .u32 qho, .int .i64 qpf, .int .i64 qme, .slice none 0 0, .slice none 0 0, .int .u32 qpe, .int .u32 qpi, .bool qex, .int .u32 qog, .slice none 0 0, .int .i64 0] : List Value)[o]?) ∧ ∀ o, w29.frozen? ⟨w.heap.size + 1, o, none⟩ = false := ⟨S29.out.cells, S29.out.free⟩
  have xc12 := hc29 12; have xf12 := hf29 12
  simp only [List.getElem?_cons_zero, List.getElem?_cons_succ] at xc12
  clear hc29 hf29
  have xn := S29.out.fun_
  go_wp2_with fail
  clear xn
  obtain ⟨w30, hw30⟩ : ∃ X, (w29.setCell ⟨w.heap.size + 1, 12, none⟩ (.int .i64 qse)) = X := ⟨_, rfl⟩
  have S30 : Hid (AqS w w30 w.heap.size [.int .u32 qa, .int .i64 qb, .int .u32 qho, .int .i64 qpf, .int .i64 qme, .slice none 0 0, .slice none 0 0, .int .u32 qpe, .int .u32 qpi, .bool qex, .int .u32 qog, .slice none 0 0, .int .i64 qse] (dr 16 l)) := Lib.hid (by rw [← hw30]; exact (S29.out).st 12 (.int .i64 qse))
  rw [hw30]
  clear hw30 xc12 xf12
  have xn := S30.out.fun_
  go_wp2_with fail
  refine (tkO (dr 16 l) (w.heap.size + 2) _ S30.out.txt (HDL.out 16)).mono ?_
  rintro e w31 ⟨rfl, ha, hb⟩
  have S31 : Hid (AqS w w31 w.heap.size [.int .u32 qa, .int .i64 qb, .int .u32 qho, .int .i64 qpf, .int .i64 qme, .slice none 0 0, .slice none 0 0, .int .u32 qpe, .int .u32 qpi, .bool qex, .int .u32 qog, .slice none 0 0, .int .i64 qse] (dr 17 l)) := Lib.hid (S30.out.tk hb ha)
  clear ha hb xn
  have xn := S31.out.fun_
  go_wp2_with fail
  go_at_call 76
  refine (listed_u 77 decU (dr 17 l) wComm (w.heap.size + 2) w31 HEU.out wrd_comm S31.out.txt (by exact HDL.out 17) (fun W hW => uns_any W (HE.out.on (S31.out.bel.trans (hW.1.mono (by omega)))))).mono ?_
  rintro e w32 ⟨v1, L1, T1, rfl, ho, hr, hn, ht, ha, hb, hi⟩
  obtain ⟨p1, c1, hv⟩ := own_slr ho
  subst hv
  have HN1 := Lib.hid hn
  have HTL1 := Lib.hid ht
  have HR1 := Lib.hid hr
  have HI1 := Lib.hid hi
  have HO1_32 := Lib.hid ho
  have S32 : Hid (AqS w w32 w.heap.size [.int .u32 qa, .int .i64 qb, .int .u32 qho, .int .i64 qpf, .int .i64 qme, .slice none 0 0, .slice none 0 0, .int .u32 qpe, .int .u32 qpi, .bool qex, .int .u32 qog, .slice none 0 0, .int .i64 qse] T1) := Lib.hid (S31.out.tk hb ha)
  clear ha hb xn ho hr hn ht hi
  have HB1 : Hid (w.heap.size + 2 < w31.heap.size) := Lib.hid (by have := S31.out.sz; omega)
  obtain ⟨hc, hf⟩ : (∀ o, w32.cell? ⟨w.heap.size + 1, o, none⟩ = ([.int .u32 qa, .int .i64 qb, .int .u32 qho, .int .i64 qpf, .int .i64 qme, .slice none 0 0, .slice none 0 0, .int .u32 qpe, .int .u32 qpi, .bool qex, .int .u32 qog, .slice none 0 0, .int .i64 qse] : List Value)[o]?) ∧ ∀ o, w32.frozen? ⟨w.heap.size + 1, o, none⟩ = false := ⟨S32.out.cells, S32.out.free⟩
  have xc := hc 5; have xf := hf 5
  simp only [List.getElem?_cons_zero, List.getElem?_cons_succ] at xc
  clear hc hf
  have xn := S32.out.fun_
  go_wp2_with fail
  clear xn
  obtain ⟨w33, hw⟩ : ∃ X, (w32.setCell ⟨w.heap.size + 1, 5, none⟩ (.slice p1 L1.length c1)) = X := ⟨_, rfl⟩
  have S33 : Hid (AqS w w33 w.heap.size [.int .u32 qa, .int .i64 qb, .int .u32 qho, .int .i64 qpf, .int .i64 qme, .slice p1 L1.length c1, .slice none 0 0, .int .u32 qpe, .int .u32 qpi, .bool qex, .int .u32 qog, .slice none 0 0, .int .i64 qse] T1) := Lib.hid (by rw [← hw]; exact (S32.out).st 5 (.slice p1 L1.length c1))
  have HO1_33 := Lib.hid (own_setA (o := 5) (u := .slice p1 L1.length c1) HO1_32.out (show w.heap.size + 1 < _ by have := HB1.out; omega))
  rw [hw] at HO1_33
  clear HO1_32
  rw [hw]
  clear hw xc xf
  have xn := S33.out.fun_
  go_wp2_with fail
  go_at_call 76
  refine (listed_u 77 decU T1 wClus (w.heap.size + 2) w33 HEU.out wrd_clus S33.out.txt (by have := HTL1.out; have := HDL.out 17; omega) (fun W hW => uns_any W (HE.out.on (S33.out.bel.trans (hW.1.mono (by omega)))))).mono ?_
  rintro e w34 ⟨v2, L2, T2, rfl, ho, hr, hn, ht, ha, hb, hi⟩
  obtain ⟨p2, c2, hv⟩ := own_slr ho
  subst hv
  have HN2 := Lib.hid hn
  have HTL2 := Lib.hid ht
  have HR2 := Lib.hid hr
  have HI2 := Lib.hid hi
  have HO2_34 := Lib.hid ho
  have S34 : Hid (AqS w w34 w.heap.size [.int .u32 qa, .int .i64 qb, .int .u32 qho, .int .i64 qpf, .int .i64 qme, .slice p1 L1.length c1, .slice none 0 0, .int .u32 qpe, .int .u32 qpi, .bool qex, .int .u32 qog, .slice none 0 0, .int .i64 qse] T2) := Lib.hid (S33.out.tk hb ha)
  have HO1_34 := Lib.hid (own_onl HO1_33.out hb (by have := HB1.out; omega))
  clear HO1_33
  clear ha hb xn ho hr hn ht hi
  have HB2 : Hid (w.heap.size + 2 < w33.heap.size) := Lib.hid (by have := S33.out.sz; omega)
  obtain ⟨hc, hf⟩ : (∀ o, w34.cell? ⟨w.heap.size + 1, o, none⟩ = ([.int .u32 qa, .int .i64 qb, .int .u32 qho, .int .i64 qpf, .int .i64 qme, .slice p1 L1.length c1, .slice none 0 0, .int .u32 qpe, .int .u32 qpi, .bool qex, .int .u32 qog, .slice none 0 0, .int .i64 qse] : List Value)[o]?) ∧ ∀ o, w34.frozen? ⟨w.heap.size + 1, o, none⟩ = false := ⟨S34.out.cells, S34.out.free⟩
  have xc := hc 6; have xf := hf 6
  simp only [List.getElem?_cons_zero, List.getElem?_cons_succ] at xc
  clear hc hf
  have xn := S34.out.fun_
  go_wp2_with fail
  clear xn
  obtain ⟨w35, hw⟩ : ∃ X, (w34.setCell ⟨w.heap.size + 1, 6, none⟩ (.slice p2 L2.length c2)) = X := ⟨_, rfl⟩
  have S35 : Hid (AqS w w35 w.heap.size [.int .u32 qa, .int .i64 qb, .int .u32 qho, .int .i64 qpf, .int .i64 qme, .slice p1 L1.length c1, .slice p2 L2.length c2, .int .u32 qpe, .int .u32 qpi, .bool qex, .int .u32 qog, .slice none 0 0, .int .i64 qse] T2) := Lib.hid (by rw [← hw]; exact (S34.out).st 6 (.slice p2 L2.length c2))
  have HO1_35 := Lib.hid (own_setA (o := 6) (u := .slice p2 L2.length c2) HO1_34.out (show w.heap.size + 1 < _ by have := HB1.out; omega))
  rw [hw] at HO1_35
  clear HO1_34
  have HO2_35 := Lib.hid (own_setA (o := 6) (u := .slice p2 L2.length c2) HO2_34.out (show w.heap.size + 1 < _ by have := HB2.out; omega))
  rw [hw] at HO2_35
  clear HO2_34
  rw [hw]
  clear hw xc xf
  have xn := S35.out.fun_
  go_wp2_with fail
  go_at_call 78
  refine (listed_a 72 txtU T2 [] (w.heap.size + 2) w35 HEA.out wrd_end S35.out.txt (by have := HTL1.out; have := HTL2.out; have := HDL.out 17; omega) (fun W hW => adr_rd W)).mono ?_
  rintro e w36 ⟨v3, L3, T3, rfl, ho, hr, hn, ht, ha, hb, hi⟩
  obtain ⟨p3, c3, hv⟩ := own_slr ho
  subst hv
  have HN3 := Lib.hid hn
  have HTL3 := Lib.hid ht
  have HR3 := Lib.hid hr
  have HI3 := Lib.hid hi
  have HO3_36 := Lib.hid ho
  have S36 : Hid (AqS w w36 w.heap.size [.int .u32 qa, .int .i64 qb, .int .u32 qho, .int .i64 qpf, .int .i64 qme, .slice p1 L1.length c1, .slice p2 L2.length c2, .int .u32 qpe, .int .u32 qpi, .bool qex, .int .u32 qog, .slice none 0 0, .int .i64 qse] T3) := Lib.hid (S35.out.tk hb ha)
  have HO1_36 := Lib.hid (own_onl HO1_35.out hb (by have := HB1.out; omega))
  clear HO1_35
  have HO2_36 := Lib.hid (own_onl HO2_35.out hb (by have := HB2.out; omega))
  clear HO2_35
  clear ha hb xn ho hr hn ht hi
  have HB3 : Hid (w.heap.size + 2 < w35.heap.size) := Lib.hid (by have := S35.out.sz; omega)
  obtain ⟨hc, hf⟩ : (∀ o, w36.cell? ⟨w.heap.size + 1, o, none⟩ = ([.int .u32 qa, .int .i64 qb, .int .u32 qho, .int .i64 qpf, .int .i64 qme, .slice p1 L1.length c1, .slice p2 L2.length c2, .int .u32 qpe, .int .u32 qpi, .bool qex, .int .u32 qog, .slice none 0 0, .int .i64 qse] : List Value)[o]?) ∧ ∀ o, w36.frozen? ⟨w.heap.size + 1, o, none⟩ = false := ⟨S36.out.cells, S36.out.free⟩
  have xc := hc 11; have xf := hf 11
  simp only [List.getElem?_cons_zero, List.getElem?_cons_succ] at xc
  clear hc hf
  have xn := S36.out.fun_
  go_upto_region 17 with fail
  clear xn
  obtain ⟨w37, hw⟩ : ∃ X, (w36.setCell ⟨w.heap.size + 1, 11, none⟩ (.slice p3 L3.length c3)) = X := ⟨_, rfl⟩
  have S37 : Hid (AqS w w37 w.heap.size [.int .u32 qa, .int .i64 qb, .int .u32 qho, .int .i64 qpf, .int .i64 qme, .slice p1 L1.length c1, .slice p2 L2.length c2, .int .u32 qpe, .int .u32 qpi, .bool qex, .int .u32 qog, .slice p3 L3.length c3, .int .i64 qse] T3) := Lib.hid (by rw [← hw]; exact (S36.out).st 11 (.slice p3 L3.length c3))
  have HO1_37 := Lib.hid (own_setA (o := 11) (u := .slice p3 L3.length c3) HO1_36.out (show w.heap.size + 1 < _ by have := HB1.out; omega))
  rw [hw] at HO1_37
  clear HO1_36
  have HO2_37 := Lib.hid (own_setA (o := 11) (u := .slice p3 L3.length c3) HO2_36.out (show w.heap.size + 1 < _ by have := HB2.out; omega))
  rw [hw] at HO2_37
  clear HO2_36
  have HO3_37 := Lib.hid (own_setA (o := 11) (u := .slice p3 L3.length c3) HO3_36.out (show w.heap.size + 1 < _ by have := HB3.out; omega))
  rw [hw] at HO3_37
  clear HO3_36
  rw [hw]
  clear hw xc xf
  have hd : ∀ o, w37.cell? ⟨w.heap.size, o, none⟩ = ([.int .u32 0, .int .i64 0, .int .u32 0, .int .i64 0, .int .i64 0, .slice none 0 0, .slice none 0 0, .int .u32 0, .int .u32 0, .bool false, .int .u32 0, .slice none 0 0, .int .i64 0] : List Value)[o]? := fun o => by
    simp only [World.cell?, S37.out.res]; simp
  have hg : ∀ o, w37.frozen? ⟨w.heap.size, o, none⟩ = false := fun o => by simp [World.frozen?, S37.out.res]
  have hc : ∀ o, w37.cell? ⟨w.heap.size + 1, o, none⟩ = ([.int .u32 qa, .int .i64 qb, .int .u32 qho, .int .i64 qpf, .int .i64 qme, .slice p1 L1.length c1, .slice p2 L2.length c2, .int .u32 qpe, .int .u32 qpi, .bool qex, .int .u32 qog, .slice p3 L3.length c3, .int .i64 qse] : List Value)[o]? := S37.out.cells
  have xc0 := hc 0; have xd0 := hd 0; have xg0 := hg 0
  simp only [List.getElem?_cons_zero, List.getElem?_cons_succ] at xc0 xd0
  have xc1 := hc 1; have xd1 := hd 1; have xg1 := hg 1
  simp only [List.getElem?_cons_zero, List.getElem?_cons_succ] at xc1 xd1
  have xc2 := hc 2; have xd2 := hd 2; have xg2 := hg 2
  simp only [List.getElem?_cons_zero, List.getElem?_cons_succ] at xc2 xd2
  have xc3 := hc 3; have xd3 := hd 3; have xg3 := hg 3
  simp only [List.getElem?_cons_zero, List.getElem?_cons_succ] at xc3 xd3
  have xc4 := hc 4; have xd4 := hd 4; have xg4 := hg 4
  simp only [List.getElem?_cons_zero, List.getElem?_cons_succ] at xc4 xd4
  have xc5 := hc 5; have xd5 := hd 5; have xg5 := hg 5
  simp only [List.getElem?_cons_zero, List.getElem?_cons_succ] at xc5 xd5
  have xc6 := hc 6; have xd6 := hd 6; have xg6 := hg 6
  simp only [List.getElem?_cons_zero, List.getElem?_cons_succ] at xc6 xd6
  have xc7 := hc 7; have xd7 := hd 7; have xg7 := hg 7
  simp only [List.getElem?_cons_zero, List.getElem?_cons_succ] at xc7 xd7
  have xc8 := hc 8; have xd8 := hd 8; have xg8 := hg 8
  simp only [List.getElem?_cons_zero, List.getElem?_cons_succ] at xc8 xd8
  have xc9 := hc 9; have xd9 := hd 9; have xg9 := hg 9
  simp only [List.getElem?_cons_zero, List.getElem?_cons_succ] at xc9 xd9
  have xc10 := hc 10; have xd10 := hd 10; have xg10 := hg 10
  simp only [List.getElem?_cons_zero, List.getElem?_cons_succ] at xc10 xd10
  have xc11 := hc 11; have xd11 := hd 11; have xg11 := hg 11
  simp only [List.getElem?_cons_zero, List.getElem?_cons_succ] at xc11 xd11
  have xc12 := hc 12; have xd12 := hd 12; have xg12 := hg 12
  simp only [List.getElem?_cons_zero, List.getElem?_cons_succ] at xc12 xd12
  clear hc hd hg
  go_wp2_with fail
  obtain ⟨wf, hwf⟩ : ∃ X, (((((((((((((w37.setCell ⟨w.heap.size, 0, none⟩ (.int .u32 qa)).setCell ⟨w.heap.size, 1, none⟩ (.int .i64 qb)).setCell ⟨w.heap.size, 2, none⟩ (.int .u32 qho)).setCell ⟨w.heap.size, 3, none⟩ (.int .i64 qpf)).setCell ⟨w.heap.size, 4, none⟩ (.int .i64 qme)).setCell ⟨w.heap.size, 5, none⟩ (.slice p1 L1.length c1)).setCell ⟨w.heap.size, 6, none⟩ (.slice p2 L2.length c2)).setCell ⟨w.heap.size, 7, none⟩ (.int .u32 qpe)).setCell ⟨w.heap.size, 8, none⟩ (.int .u32 qpi)).setCell ⟨w.heap.size, 9, none⟩ (.bool qex)).setCell ⟨w.heap.size, 10, none⟩ (.int .u32 qog)).setCell ⟨w.heap.size, 11, none⟩ (.slice p3 L3.length c3)).setCell ⟨w.heap.size, 12, none⟩ (.int .i64 qse)) = X := ⟨_, rfl⟩
  have BF : Hid (Below w.heap.size w wf) := Lib.hid (by rw [← hwf]; exact Below.setCell (p := ⟨w.heap.size, 12, none⟩) (Below.setCell (p := ⟨w.heap.size, 11, none⟩) (Below.setCell (p := ⟨w.heap.size, 10, none⟩) (Below.setCell (p := ⟨w.heap.size, 9, none⟩) (Below.setCell (p := ⟨w.heap.size, 8, none⟩) (Below.setCell (p := ⟨w.heap.size, 7, none⟩) (Below.setCell (p := ⟨w.heap.size, 6, none⟩) (Below.setCell (p := ⟨w.heap.size, 5, none⟩) (Below.setCell (p := ⟨w.heap.size, 4, none⟩) (Below.setCell (p := ⟨w.heap.size, 3, none⟩) (Below.setCell (p := ⟨w.heap.size, 2, none⟩) (Below.setCell (p := ⟨w.heap.size, 1, none⟩) (Below.setCell (p := ⟨w.heap.size, 0, none⟩) (S37.out.bel) (Nat.le_refl _) _) (Nat.le_refl _) _) (Nat.le_refl _) _) (Nat.le_refl _) _) (Nat.le_refl _) _) (Nat.le_refl _) _) (Nat.le_refl _) _) (Nat.le_refl _) _) (Nat.le_refl _) _) (Nat.le_refl _) _) (Nat.le_refl _) _) (Nat.le_refl _) _) (Nat.le_refl _) _)
  have OF1 : Hid (wf.ownsRow w.heap.size 22 1 (.slice p1 L1.length c1) L1.length (flatK encU L1)) := Lib.hid (by
    have h := own_setA (o := 12) (u := .int .i64 qse) (own_setA (o := 11) (u := .slice p3 L3.length c3) (own_setA (o := 10) (u := .int .u32 qog) (own_setA (o := 9) (u := .bool qex) (own_setA (o := 8) (u := .int .u32 qpi) (own_setA (o := 7) (u := .int .u32 qpe) (own_setA (o := 6) (u := .slice p2 L2.length c2) (own_setA (o := 5) (u := .slice p1 L1.length c1) (own_setA (o := 4) (u := .int .i64 qme) (own_setA (o := 3) (u := .int .i64 qpf) (own_setA (o := 2) (u := .int .u32 qho) (own_setA (o := 1) (u := .int .i64 qb) (own_setA (o := 0) (u := .int .u32 qa) (HO1_37.out) (show w.heap.size < _ by have := HB1.out; omega)) (show w.heap.size < _ by have := HB1.out; omega)) (show w.heap.size < _ by have := HB1.out; omega)) (show w.heap.size < _ by have := HB1.out; omega)) (show w.heap.size < _ by have := HB1.out; omega)) (show w.heap.size < _ by have := HB1.out; omega)) (show w.heap.size < _ by have := HB1.out; omega)) (show w.heap.size < _ by have := HB1.out; omega)) (show w.heap.size < _ by have := HB1.out; omega)) (show w.heap.size < _ by have := HB1.out; omega)) (show w.heap.size < _ by have := HB1.out; omega)) (show w.heap.size < _ by have := HB1.out; omega)) (show w.heap.size < _ by have := HB1.out; omega)
    rw [hwf] at h
    exact own_lowA h (by have := HB1.out; omega))
  have OF2 : Hid (wf.ownsRow w.heap.size 22 1 (.slice p2 L2.length c2) L2.length (flatK encU L2)) := Lib.hid (by
    have h := own_setA (o := 12) (u := .int .i64 qse) (own_setA (o := 11) (u := .slice p3 L3.length c3) (own_setA (o := 10) (u := .int .u32 qog) (own_setA (o := 9) (u := .bool qex) (own_setA (o := 8) (u := .int .u32 qpi) (own_setA (o := 7) (u := .int .u32 qpe) (own_setA (o := 6) (u := .slice p2 L2.length c2) (own_setA (o := 5) (u := .slice p1 L1.length c1) (own_setA (o := 4) (u := .int .i64 qme) (own_setA (o := 3) (u := .int .i64 qpf) (own_setA (o := 2) (u := .int .u32 qho) (own_setA (o := 1) (u := .int .i64 qb) (own_setA (o := 0) (u := .int .u32 qa) (HO2_37.out) (show w.heap.size < _ by have := HB2.out; omega)) (show w.heap.size < _ by have := HB2.out; omega)) (show w.heap.size < _ by have := HB2.out; omega)) (show w.heap.size < _ by have := HB2.out; omega)) (show w.heap.size < _ by have := HB2.out; omega)) (show w.heap.size < _ by have := HB2.out; omega)) (show w.heap.size < _ by have := HB2.out; omega)) (show w.heap.size < _ by have := HB2.out; omega)) (show w.heap.size < _ by have := HB2.out; omega)) (show w.heap.size < _ by have := HB2.out; omega)) (show w.heap.size < _ by have := HB2.out; omega)) (show w.heap.size < _ by have := HB2.out; omega)) (show w.heap.size < _ by have := HB2.out; omega)
    rw [hwf] at h
    exact own_lowA h (by have := HB2.out; omega))
  have OF3 : Hid (wf.ownsRow w.heap.size 23 1 (.slice p3 L3.length c3) L3.length (flatK encU L3)) := Lib.hid (by
    have h := own_setA (o := 12) (u := .int .i64 qse) (own_setA (o := 11) (u := .slice p3 L3.length c3) (own_setA (o := 10) (u := .int .u32 qog) (own_setA (o := 9) (u := .bool qex) (own_setA (o := 8) (u := .int .u32 qpi) (own_setA (o := 7) (u := .int .u32 qpe) (own_setA (o := 6) (u := .slice p2 L2.length c2) (own_setA (o := 5) (u := .slice p1 L1.length c1) (own_setA (o := 4) (u := .int .i64 qme) (own_setA (o := 3) (u := .int .i64 qpf) (own_setA (o := 2) (u := .int .u32 qho) (own_setA (o := 1) (u := .int .i64 qb) (own_setA (o := 0) (u := .int .u32 qa) (HO3_37.out) (show w.heap.size < _ by have := HB3.out; omega)) (show w.heap.size < _ by have := HB3.out; omega)) (show w.heap.size < _ by have := HB3.out; omega)) (show w.heap.size < _ by have := HB3.out; omega)) (show w.heap.size < _ by have := HB3.out; omega)) (show w.heap.size < _ by have := HB3.out; omega)) (show w.heap.size < _ by have := HB3.out; omega)) (show w.heap.size < _ by have := HB3.out; omega)) (show w.heap.size < _ by have := HB3.out; omega)) (show w.heap.size < _ by have := HB3.out; omega)) (show w.heap.size < _ by have := HB3.out; omega)) (show w.heap.size < _ by have := HB3.out; omega)) (show w.heap.size < _ by have := HB3.out; omega)
    rw [hwf] at h
    exact own_lowA h (by have := HB3.out; omega))
  refine bodyPost_ret (by simp [results, Tryz.results44, go_sem, xd0, xd1, xd2, xd3, xd4, xd5, xd6, xd7, xd8, xd9, xd10, xd11, xd12]; try rfl) rfl ?_
  rw [hwf]
  have hlen := dr_len 17 l
  have ht1 := HTL1.out; have ht2 := HTL2.out; have hn1 := HN1.out; have hn2 := HN2.out; have hn3 := HN3.out
  have ga : 0 ≤ qa ∧ qa < 4294967296 := by rw [← Hqa.out]; exact ⟨pparse_range.1, pparse_range.2.1⟩
  have gh : 0 ≤ qho ∧ qho < 4294967296 := by rw [← Hqho.out]; exact adrI_range
  have gp : 0 ≤ qpe ∧ qpe < 4294967296 := by rw [← Hqpe.out]; exact adrI_range
  have gi : 0 ≤ qpi ∧ qpi < 4294967296 := by rw [← Hqpi.out]; exact adrI_range
  have go : 0 ≤ qog ∧ qog < 4294967296 := by rw [← Hqog.out]; exact adrI_range
  have HAR : AvR ⟨qa, qb, qho, qpf, qme, L1, L2, qpe, qpi, qex, qog, L3, qse⟩ := ⟨ga, gh, gp, gi, go, HR1.out, HR2.out, HR3.out⟩
  have b1 : 2 * L1.length ≤ l.length + 1 := by omega
  have b2 : 2 * L2.length ≤ l.length + 1 := by omega
  have b3 : 2 * L3.length ≤ l.length + 1 := by omega
  have HAP : AdvP l ⟨qa, qb, qho, qpf, qme, L1, L2, qpe, qpi, qex, qog, L3, qse⟩ := ⟨HAR, b1, b2, b3, fun p h1 h2 h3 => by
    have h := adv_it (l := l) Hqpf.out Hqme.out Hqse.out HI1.out HI2.out HI3.out p h1 h2 h3
    rw [Hqa.out, Hqb.out, Hqho.out, Hqpe.out, Hqpi.out, Hqog.out, Hqex.out] at h
    exact h⟩
  exact ⟨⟨qa, qb, qho, qpf, qme, L1, L2, qpe, qpi, qex, qog, L3, qse⟩, p1, c1, p2, c2, p3, c3, rfl, ⟨OF1.out, OF2.out, OF3.out⟩, HAP, BF.out⟩
end Go.Proofs.YtmbkkjofikijiaaGreatDoor
