/- Routes held against each other, and a list of routes that grows by two. No condition. -/
import Derived.Test.YtgpoeeccgpjnlaaGreatDoorRaC
import Derived.Test.YtgpoeeccgpjnlaaGreatDoorRsK
import Derived.Test.YtgpoeeccgpjnlaaGreatDoorRsN
import Derived.Test.YtgpoeeccgpjnlaaGreatDoorRaT
import Derived.Deep.RegionHeld3
import Derived.Deep.DeepCutAuto
namespace Go.Proofs.YtgpoeeccgpjnlaaGreatDoor
open Go.RowKit Go.Shelf
theorem tk1 {P : Program} {ops : Array Oper} {Q : Exit → Act → World → Prop} {md : Region.Mode} {S : World → Prop} {i : Nat} {oi : Oper} {v : Value} {fuel : Nat} {listed : Array Bool} {a : Act} {w : World} (hi : ops[i]? = some oi)
    (hb : (Region.noSelect ops && Region.free md ops listed i && (Region.ready md ops listed).contains i) = true)
    (hQ : ∀ c a w, Q (.panic c) (a.put oi.dst v) w → Q (.panic c) a w) (hy : YieldsIf P ops S oi v a) (hS : S w)
    (h : wpAnyH P md ops Q S fuel (listed.setIfInBounds i true) (a.put oi.dst v) w) : wpAnyH P md ops Q S (fuel + 1) listed a w := by
  simp only [Bool.and_eq_true] at hb
  exact wpAnyH_take hi hb.1.1 hb.1.2 hb.2 hQ hy hS h
theorem eqlR (r s : RtD) (w : World) : (binOp .eql 27 (.agg #[.int .u32 r.a, .int .i64 r.b, .int .u8 r.fr, .int .i64 r.di, .int .i64 r.me, .int .i64 r.ta, .string r.nm, .int .u32 r.ho, .bool r.dc]) (.agg #[.int .u32 s.a, .int .i64 s.b, .int .u8 s.fr, .int .i64 s.di, .int .i64 s.me, .int .i64 s.ta, .string s.nm, .int .u32 s.ho, .bool s.dc])).run Tryz.prog w = .ok (.bool (cR r s == 0)) w := by
  by_cases h : r = s
  · subst h
    rw [cR_self]
    obtain ⟨a, b, fr, di, me, ta, nm, ho, dc⟩ := r
    simp [go_sem]
  · have h0 : (cR r s == 0) = false := by
      simp only [beq_eq_false_iff_ne, ne_eq]
      exact fun e => h (cR_one e)
    rw [h0]
    obtain ⟨a, b, fr, di, me, ta, nm, ho, dc⟩ := r
    obtain ⟨a2, b2, fr2, di2, me2, ta2, nm2, ho2, dc2⟩ := s
    simp [go_sem]
    intro h1 h2 h3 h4 h5 h6 h7 h8 h9
    refine h ?_
    have : nm = nm2 := by
      have : nm.data.toList = nm2.data.toList := by simpa [ByteArray.toList_eq] using h7
      exact ByteArray.ext (Array.ext' this)
    rw [h1, h2, h3, h4, h5, h6, this, h8, h9]
theorem rdk_at {w : World} {p : Option Addr} {n c i : Nat} {l : List RtD} {s : RtD} (h : RdK encRt 9 w (.slice p n c) l) (hs : l[i]? = some s) : ∃ b o, p = some ⟨b, o, none⟩ ∧ b < w.heap.size ∧ ∀ w', Below w.heap.size w w' → ∀ j u, (encRt s)[j]? = some u → w'.cell? ⟨b, o + i * 9 + j, none⟩ = some u := by
  obtain ⟨p', c', e, _, _, h4⟩ := h.sl
  simp only [Value.slice.injEq] at e
  obtain ⟨rfl, _, _⟩ := e
  exact h4 i s hs
theorem own_open {b : Nat} {w : World} {v : Value} {l : List RtD} (h : OwnR b w v l) : ∃ p c, v = .slice p l.length c := by
  rcases h.row with ⟨e, rfl⟩ | ⟨g, cap, e, _⟩
  · exact ⟨_, _, e⟩
  · exact ⟨_, _, e⟩
theorem app2 {b : Nat} {w0 W w9 : World} {v v9 : Value} {L M : List RtD} (h : OwnR b W v L) (hb : Below b w0 W) (hbw : b ≤ W.heap.size) (h9 : w9.ownsRow b 27 9 v9 (L.length + M.length) (flatK encRt L ++ flatK encRt M)) (hg : W.grownBy w9 v.ownBlock) : OwnR b w9 v9 (L ++ M) ∧ Below b w0 w9 := by
  refine ⟨?_, hb.grown hg hbw (fun k e => ((h : W.ownsRow b 27 9 v L.length (flatK encRt L)).lt k e).1)⟩
  have : OwnR b w9 v9 (L ++ M) = w9.ownsRow b 27 9 v9 (L.length + M.length) (flatK encRt L ++ flatK encRt M) := by
    unfold OwnR flatK
    rw [List.length_append, List.flatMap_append]
  rw [this]; exact h9
theorem two_new (w : World) (x y : RtD) : RdK encRt 9 (w.alloc (.cells #[.int .u32 x.a, .int .i64 x.b, .int .u8 x.fr, .int .i64 x.di, .int .i64 x.me, .int .i64 x.ta, .string x.nm, .int .u32 x.ho, .bool x.dc, .int .u32 y.a, .int .i64 y.b, .int .u8 y.fr, .int .i64 y.di, .int .i64 y.me, .int .i64 y.ta, .string y.nm, .int .u32 y.ho, .bool y.dc] 27)) (.slice (some ⟨w.heap.size, 0, none⟩) 2 2) [x, y] := by
  refine ⟨_, 2, rfl, Nat.le_refl _, by unfold maxLen; omega, fun _ => ⟨w.heap.size, 0, rfl, by simp, fun i s hs j u hu => ?_⟩⟩
  have hj : j < 9 := by have := (List.getElem?_eq_some_iff.1 hu).1; rwa [encRt_len] at this
  have hc := heap_new' w (.cells #[.int .u32 x.a, .int .i64 x.b, .int .u8 x.fr, .int .i64 x.di, .int .i64 x.me, .int .i64 x.ta, .string x.nm, .int .u32 x.ho, .bool x.dc, .int .u32 y.a, .int .i64 y.b, .int .u8 y.fr, .int .i64 y.di, .int .i64 y.me, .int .i64 y.ta, .string y.nm, .int .u32 y.ho, .bool y.dc] 27)
  match i, hs with
  | 0, hs =>
    simp at hs
    subst hs
    match j, hj with
    | 0, _ => simp only [World.cell?, hc]; simpa [encRt] using hu
    | 1, _ => simp only [World.cell?, hc]; simpa [encRt] using hu
    | 2, _ => simp only [World.cell?, hc]; simpa [encRt] using hu
    | 3, _ => simp only [World.cell?, hc]; simpa [encRt] using hu
    | 4, _ => simp only [World.cell?, hc]; simpa [encRt] using hu
    | 5, _ => simp only [World.cell?, hc]; simpa [encRt] using hu
    | 6, _ => simp only [World.cell?, hc]; simpa [encRt] using hu
    | 7, _ => simp only [World.cell?, hc]; simpa [encRt] using hu
    | 8, _ => simp only [World.cell?, hc]; simpa [encRt] using hu
  | 1, hs =>
    simp at hs
    subst hs
    match j, hj with
    | 0, _ => simp only [World.cell?, hc]; simpa [encRt] using hu
    | 1, _ => simp only [World.cell?, hc]; simpa [encRt] using hu
    | 2, _ => simp only [World.cell?, hc]; simpa [encRt] using hu
    | 3, _ => simp only [World.cell?, hc]; simpa [encRt] using hu
    | 4, _ => simp only [World.cell?, hc]; simpa [encRt] using hu
    | 5, _ => simp only [World.cell?, hc]; simpa [encRt] using hu
    | 6, _ => simp only [World.cell?, hc]; simpa [encRt] using hu
    | 7, _ => simp only [World.cell?, hc]; simpa [encRt] using hu
    | 8, _ => simp only [World.cell?, hc]; simpa [encRt] using hu
  | i + 2, hs => simp at hs
theorem srt_len100 {l out : List RtD} (h : Srt l out) (hl : l.length ≤ 1000000) : out.length ≤ 1000000 := by
  have hn : out.Nodup := h.1.imp fun {a b} hab e => by rw [e, cR_self] at hab; omega
  have := hn.length_le_of_subset fun a ha => (h.2 a).1 ha
  omega
theorem eqg (op : BinOp) (o1 o2 : Operand) (r s : RtD) (w : World) : (eqGuard op 27 o1 o2 (.agg #[.int .u32 r.a, .int .i64 r.b, .int .u8 r.fr, .int .i64 r.di, .int .i64 r.me, .int .i64 r.ta, .string r.nm, .int .u32 r.ho, .bool r.dc]) (.agg #[.int .u32 s.a, .int .i64 s.b, .int .u8 s.fr, .int .i64 s.di, .int .i64 s.me, .int .i64 s.ta, .string s.nm, .int .u32 s.ho, .bool s.dc])).run Tryz.prog w = .ok () w := guardR op o1 o2 r s w
end Go.Proofs.YtgpoeeccgpjnlaaGreatDoor
