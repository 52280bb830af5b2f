/- Longest of a table with one prefix. Under the conditions that they name. -/
import Derived.Test.YtfnakobkibljiaaTrG
namespace Go.Proofs.Ytfnakobkibljiaa
open Go.RowKit Go.Shelf
attribute [local go_sem] Oper.semAt_some
theorem yield_any {m m' : Nat} {P : Program} {l : Nat} {args : Array Value} {W : World} {R : Ending → World → Prop} (h : YieldAt Fence.wide m P l args W R) : YieldAt Fence.wide m' P l args W R := by
  obtain ⟨fn, tmps, assign, body, hy, hR⟩ := h
  exact ⟨fn, tmps, assign, body, hy, hR.1, fun c cs _ => hR.2 c cs (room_wide _)⟩
theorem one_stops (n n0 g v b a0 : Nat) (s : ByteArray) (x0 : Kv) (hx0 : x0 = ((0, 0), s)) (w0 : World) (h1 : w0.heap[b]? = some (.cells #[.pointer (some ⟨g, 0, none⟩)] 45 (0, 0))) (h2 : w0.heap[b + 1]? = some (.cells #[.func (.func 17) #[] #[.pointer (some ⟨a0, 0, none⟩)]] 50 (0, 0)))
    (hg : w0.heap[g]? = some (.cells #[.int .u32 0, .int .i64 0, .pointer (some ⟨v, 0, none⟩), .pointer none, .pointer none] 62 (0, 0))) (hv : w0.heap[v]? = some (.cells #[.string s] 9 (0, 0))) (ha : w0.heap[a0]? = some (.cells #[.int .u32 4294967295] 26 (0, 0))) (hg0 : g < n0) (hn0 : n0 ≤ w0.heap.size) :
    SeqStopsK Fence.wide n Try.prog 24 #[.pointer (some ⟨b, 0, none⟩), .pointer (some ⟨b + 1, 0, none⟩)] encKv (Below n0) (fun xs => xs = [x0]) (fun pre => pre = [x0]) 1 w0 := by
  intro l J Jx W hW hJ hJx hY h0
  have ltb := (Array.getElem?_eq_some_iff.1 h1).1
  have ltb1 := (Array.getElem?_eq_some_iff.1 h2).1
  have ltv := (Array.getElem?_eq_some_iff.1 hv).1
  have lta := (Array.getElem?_eq_some_iff.1 ha).1
  have g1 := (cell_of_row _ _ 0 _ _ (0, 0) ((hW.block b ltb).trans h1)).trans (rfl : _ = some (Value.pointer (some ⟨g, 0, none⟩)))
  have g2 := (cell_of_row _ _ 0 _ _ (0, 0) ((hW.block (b + 1) ltb1).trans h2)).trans (rfl : _ = some (Value.func (.func 17) #[] #[.pointer (some ⟨a0, 0, none⟩)]))
  have HV := Lib.hid (visit_one (J := J) (Jx := Jx) n0 g v a0 l s x0 hx0 W ((hW.block g (by omega)).trans hg) ((hW.block v ltv).trans hv) ((hW.block a0 lta).trans ha) hg0 (by have := hW.size; omega)
    (fun W1 hb1 => yield_any (hY [] x0 W1 (hJ [] W W1 none h0 ⟨hb1.os, hb1.tape, hb1.output, hb1.size, fun k hk _ => hb1.block k hk⟩ (fun r e => by cases e)) (by simp))))
  refine callsIn_wide.2 ?_
  clear hY hJ hJx h0 hW h1 h2 hg hv ha
  go_enter Try.func24, Try.ntmps24
  go_wp2_with fail
  go_at_call 25
  (with_reducible refine (callsIn_wide.1 HV.out).mono ?_)
  rintro e w2 (⟨rfl, hJ, _⟩ | ⟨rfl, hJx⟩)
  · have HJ := Lib.hid hJ
    clear hJ
    go_wp2_with fail
    go_end0
    exact ⟨⟨_, rfl⟩, .inl ⟨_, rfl, HJ.out⟩⟩
  · have HJ := Lib.hid hJx
    clear hJx
    go_wp2_with fail
    go_end0
    exact ⟨⟨_, rfl⟩, .inr ⟨_, rfl, HJ.out⟩⟩
theorem top_is (t : Nat) (m : Value) (q : Option Addr) (w : World) (ht : w.heap[t]? = some (.cells #[m, .pointer q] 47 (0, 0))) : Calls Try.prog 14 #[.pointer (some ⟨t, 0, none⟩)] w fun e w' => e = .returned (.pointer q) ∧ w = w' := by
  have c1 := (cell_of_row _ _ 1 _ _ (0, 0) ht).trans (rfl : _ = some (Value.pointer q))
  clear ht
  go_enter Try.func14, Try.ntmps14
  go_wp2
  go_ret
  exact ⟨rfl, rfl⟩
theorem over_one (t : Nat) (m : Value) (q : Option Addr) (a : Int) (w : World) (ht : w.heap[t]? = some (.cells #[m, .pointer q] 47 (0, 0))) : Calls Try.prog 7 #[.pointer (some ⟨t, 0, none⟩), .int .u32 a] w fun e w' => e = .returned (seqV (w.heap.size + 1)) ∧
    w'.heap[w.heap.size]? = some (.cells #[.int .u32 a] 26 (0, 0)) ∧ w'.heap[w.heap.size + 1]? = some (.cells #[.pointer q] 45 (0, 0)) ∧ w'.heap[w.heap.size + 1 + 1]? = some (.cells #[.func (.func 17) #[] #[.pointer (some ⟨w.heap.size, 0, none⟩)]] 50 (0, 0)) ∧ Below w.heap.size w w' := by
  have htl := (Array.getElem?_eq_some_iff.1 ht).1
  have hb0 : Below w.heap.size w (w.alloc (.cells #[.int .u32 a] 26)) := (Below.refl _ _).alloc (Nat.le_refl _) _
  have HT := Lib.hid (top_is t m q (w.alloc (.cells #[.int .u32 a] 26)) ((hb0.block t htl).trans ht)); have HA := Lib.hid (fun q fn cs w => all_is q fn cs w)
  have HB0 := Lib.hid hb0
  clear ht hb0
  go_enter Try.func7, Try.ntmps7
  go_wp2_with fail
  go_at_call 14
  (with_reducible refine HT.out.mono ?_)
  rintro e w1 ⟨rfl, rfl⟩
  go_wp2_with fail
  go_at_call 15
  (with_reducible refine (HA.out _ _ _ _).mono ?_)
  rintro e w2 ⟨rfl, hw2⟩
  have HW := Lib.hid hw2
  clear hw2
  go_wp2_with fail
  go_ret
  have h0 := heap_alloc_new w (.cells #[.int .u32 a] 26)
  have h1 := heap_alloc_new (w.alloc (.cells #[.int .u32 a] 26)) (.cells #[.pointer q] 45)
  have h2 := heap_alloc_new ((w.alloc (.cells #[.int .u32 a] 26)).alloc (.cells #[.pointer q] 45)) (.cells #[.func (.func 17) #[] #[.pointer (some ⟨w.heap.size, 0, none⟩)]] 50)
  simp only [World.size_alloc] at h1 h2
  rw [HW.out]
  refine ⟨rfl, ?_, ?_, h2, (HB0.out.alloc (by simp only [World.size_alloc]; omega) _).alloc (by simp only [World.size_alloc]; omega) _⟩
  · exact (Below.heap_alloc _ _ _ (by simp only [World.size_alloc]; omega)).trans ((Below.heap_alloc _ _ _ (by simp only [World.size_alloc]; omega)).trans h0)
  · exact (Below.heap_alloc _ _ _ (by simp only [World.size_alloc]; omega)).trans h1
end Go.Proofs.Ytfnakobkibljiaa
