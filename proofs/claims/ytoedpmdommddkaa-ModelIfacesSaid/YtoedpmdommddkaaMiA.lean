/- Which interfaces are alive and which subnet each has: both packages' answers. -/
import Derived.Test.YtoedpmdommddkaaOpn
import Derived.Test.YtoedpmdommddkaaAddrW1
namespace Go.Proofs.Ytoedpmdommddkaa
open Go.ChangeShapes Go.WideShapes Go.ChangeAt Go.RowKit Go.Joins Go.Deep
theorem cB : Try.prog.cellsOf 4 = 1 := by kernel_rfl
theorem cI : Try.prog.cellsOf 3 = 1 := by kernel_rfl
theorem cA : Try.prog.cellsOf 23 = 1 := by kernel_rfl
theorem c8 : Try.prog.cellsOf 5 = 1 := by kernel_rfl
theorem cT : Try.prog.cellsOf 9 = 1 := by kernel_rfl
theorem cIf : Try.prog.cellsOf 25 = 11 := by kernel_rfl
section
variable {H : Type} {enc : TypeId × Value → H} {w w' : World} {base : Nat} {spare : Nat → Bool} {held : Bool}
theorem if_of (n : Nat) (cs : List Value) (y : DataW H × List MemPlace) (h : DataW.trod enc Try.prog w base spare held n 25 cs = some y) :
    ∃ (x0 x1 x2 x3 x4 x5 x6 x7 : Value) (a b : Int) (t : Bool), cs = [x0, x1, .int .u32 a, .int .i64 b, .bool t, x2, x3, x4, x5, x6, x7] ∧ 0 ≤ a ∧ a < 4294967296 := by
  obtain ⟨xs, m, _, _, hlen, hxl, hf⟩ := DataW.trod_struct Try.underlying25 h
  rw [cIf] at hlen
  match cs, hlen, xs, hxl with
  | [c0, c1, c2, c3, c4, c5, c6, c7, c8', c9, c10], _, [y0, y1, y2, y3, y4, y5, y6, y7, y8, y9, y10], _ =>
    have g2 : DataW.trod enc Try.prog w base spare held m 23 [c2] = some y2 := by simpa [cA] using hf 2 _ rfl
    have g3 : DataW.trod enc Try.prog w base spare held m 3 [c3] = some y3 := by simpa [cI] using hf 3 _ rfl
    have g4 : DataW.trod enc Try.prog w base spare held m 4 [c4] = some y4 := by simpa [cB] using hf 4 _ rfl
    obtain ⟨a, e2, _, w2⟩ := DataW.trod_int Try.underlying23 g2
    obtain ⟨b, e3, _, w3⟩ := DataW.trod_int Try.underlying3 g3
    obtain ⟨t, e4, _⟩ := DataW.trod_bool Try.underlying4 g4
    simp at e2 e3 e4
    subst e2 e3 e4
    have q := u32_wf w2
    exact ⟨c0, c1, c5, c6, c7, c8', c9, c10, a, b, t, rfl, q.1, q.2⟩
theorem if_arg {v : Value} {d : DataW H} {p : List MemPlace} {r : Reach} {b0 : Nat} (hv : Value.okWide Try.prog w r b0 25 v) (h : DataW.Trod enc Try.prog w base spare held 25 v d p) :
    ∃ (x0 x1 x2 x3 x4 x5 x6 x7 : Value) (a b : Int) (t : Bool), v = .agg #[x0, x1, .int .u32 a, .int .i64 b, .bool t, x2, x3, x4, x5, x6, x7] ∧ 0 ≤ a ∧ a < 4294967296 := by
  obtain ⟨⟨cs⟩, rfl, _⟩ := okWide_struct Try.underlying25 hv
  obtain ⟨n, hn⟩ := h
  obtain ⟨x0, x1, x2, x3, x4, x5, x6, x7, a, b, t, hc, q⟩ := if_of n _ _ hn
  have hc : cs = _ := hc
  subst hc
  exact ⟨x0, x1, x2, x3, x4, x5, x6, x7, a, b, t, rfl, q⟩
end
section
variable (x0 x1 x2 x3 x4 x5 x6 x7 : Value) (a b : Int) (t : Bool) (w : World)
theorem addressed_is : Calls Try.prog 8 #[.agg #[x0, x1, .int .u32 a, .int .i64 b, .bool t, x2, x3, x4, x5, x6, x7]] w fun e w' => e = .returned (.bool (a != 0 || b != 0)) ∧ Below w.heap.size w w' := by
  by_cases h : a = 0
  · by_cases h2 : b = 0
    · subst h h2
      go_enter Try.func8, Try.ntmps8
      go_wp2
      go_ret
      exact ⟨rfl, by go_grown⟩
    · have e2 : (b != 0) = true := by simpa using h2
      subst h
      go_enter Try.func8, Try.ntmps8
      go_wp2
      go_ret
      exact ⟨by simp [h2], by go_grown⟩
  · have e2 : (a != 0) = true := by simpa using h
    go_enter Try.func8, Try.ntmps8
    go_wp2
    go_ret
    exact ⟨by simp [h], by go_grown⟩
theorem alive_is : Calls Try.prog 6 #[.agg #[x0, x1, .int .u32 a, .int .i64 b, .bool t, x2, x3, x4, x5, x6, x7]] w fun e w' => e = .returned (.bool (!t && (a != 0 || b != 0))) ∧ Below w.heap.size w w' := by
  cases t
  · go_enter Try.func6, Try.ntmps6
    go_wp2_with (go_at_call 8; (with_reducible refine (addressed_is x0 x1 x2 x3 x4 x5 x6 x7 a b _ _).mono ?_); rintro e w1 ⟨rfl, hb⟩; obtain ⟨hc, hf⟩ := bcell hb; have hz1 := hb.size; (try simp at hz1); have z10 : w.heap.size < w1.heap.size := (by omega); (try have z11 : w.heap.size + 1 < w1.heap.size := (by omega)); (try have z12 : w.heap.size + 1 + 1 < w1.heap.size := (by omega)))
    go_ret
    exact ⟨by simp, Below.step (by go_grown) hb⟩
  · go_enter Try.func6, Try.ntmps6
    go_wp2
    go_ret
    exact ⟨by simp, by go_grown⟩
theorem ralive_is : Calls Try.prog 7 #[.agg #[x0, x1, .int .u32 a, .int .i64 b, .bool t, x2, x3, x4, x5, x6, x7]] w fun e w' => e = .returned (.bool (!t && (a != 0 || b != 0))) ∧ Below w.heap.size w w' := by
  cases t
  · by_cases h : a = 0
    · by_cases h2 : b = 0
      · subst h h2
        go_enter Try.func7, Try.ntmps7
        go_wp2
        go_ret
        exact ⟨rfl, by go_grown⟩
      · have e2 : (b != 0) = true := by simpa using h2
        subst h
        go_enter Try.func7, Try.ntmps7
        go_wp2
        go_ret
        exact ⟨by simp [h2], by go_grown⟩
    · have e2 : (a != 0) = true := by simpa using h
      go_enter Try.func7, Try.ntmps7
      go_wp2
      go_ret
      exact ⟨by simp [h], by go_grown⟩
  · go_enter Try.func7, Try.ntmps7
    go_wp2
    go_ret
    exact ⟨by simp, by go_grown⟩
/-- What Subnet answers of an interface. -/
def subA (a b : Int) : Int := if a = 0 ∧ b = 0 then 0 else if 0 ≤ b ∧ b ≤ 32 then a / pw b * pw b else 0
def subN (a b : Int) : Int := if a = 0 ∧ b = 0 then 0 else if 0 ≤ b ∧ b ≤ 32 then b else 0
def subT (a b : Int) : Bool := if a = 0 ∧ b = 0 then false else if 0 ≤ b ∧ b ≤ 32 then true else false
theorem subnet_is (ha : 0 ≤ a) (ha2 : a < 4294967296) : Calls Try.prog 4 #[.agg #[x0, x1, .int .u32 a, .int .i64 b, .bool t, x2, x3, x4, x5, x6, x7]] w fun e w' => e = .returned (.tuple #[.agg #[.int .u32 (subA a b), .int .i64 (subN a b)], .bool (subT a b)]) ∧ Below w.heap.size w w' := by
  by_cases h : a = 0 ∧ b = 0
  · obtain ⟨rfl, rfl⟩ := h
    have HA := Lib.hid (addressed_is x0 x1 x2 x3 x4 x5 x6 x7 0 0 t)
    go_enter Try.func4, Try.ntmps4
    go_wp2_with (go_at_call 8; (with_reducible refine (HA.out _).mono ?_); rintro e w1 ⟨rfl, hb⟩; obtain ⟨hc, hf⟩ := bcell hb; have hz1 := hb.size; (try simp at hz1); have z10 : w.heap.size < w1.heap.size := (by omega); (try have z11 : w.heap.size + 1 < w1.heap.size := (by omega)); (try have z12 : w.heap.size + 1 + 1 < w1.heap.size := (by omega)); have kw10 : w1.cell? ⟨w.heap.size + 1, 0, none⟩ = some (.int .u32 0) := (by rw [hc _ _ (by simp)]; go_simp); have fw10 : w1.frozen? ⟨w.heap.size + 1, 0, none⟩ = false := (by rw [hf _ _ (by simp)]; go_simp); have kw11 : w1.cell? ⟨w.heap.size + 1, 1, none⟩ = some (.int .i64 0) := (by rw [hc _ _ (by simp)]; go_simp); have fw11 : w1.frozen? ⟨w.heap.size + 1, 1, none⟩ = false := (by rw [hf _ _ (by simp)]; go_simp))
    refine bodyPost_ret (by simp [results, Try.results4, go_sem, hc]; try rfl) rfl ?_
    exact ⟨rfl, ((Below.step (by go_grown) hb).setCell (by go_size) _).setCell (by go_size) _⟩
  · have hd : (a != 0 || b != 0) = true := by by_cases h1 : a = 0 <;> by_cases h2 : b = 0 <;> simp_all
    have HA := Lib.hid (addressed_is x0 x1 x2 x3 x4 x5 x6 x7 a b t)
    have HD := Lib.hid hd; clear hd
    by_cases hr : 0 ≤ b ∧ b ≤ 32
    · have hs : subA a b = a / pw b * pw b ∧ subN a b = b ∧ subT a b = true := by simp [subA, subN, subT, h, hr]
      have HS := Lib.hid hs; clear hs h
      obtain ⟨b0, b1⟩ := hr
      go_enter Try.func4, Try.ntmps4
      go_wp2_with (first | (go_at_call 8; (with_reducible refine (HA.out _).mono ?_); rintro e w1 ⟨rfl, hb⟩; rw [HD.out]; obtain ⟨hc, hf⟩ := bcell hb; have hz1 := hb.size; (try simp at hz1); have z10 : w.heap.size < w1.heap.size := (by omega); (try have z11 : w.heap.size + 1 < w1.heap.size := (by omega)); (try have z12 : w.heap.size + 1 + 1 < w1.heap.size := (by omega)); have kw10 : w1.cell? ⟨w.heap.size + 1, 0, none⟩ = some (.int .u32 0) := (by rw [hc _ _ (by simp)]; go_simp); have fw10 : w1.frozen? ⟨w.heap.size + 1, 0, none⟩ = false := (by rw [hf _ _ (by simp)]; go_simp); have kw11 : w1.cell? ⟨w.heap.size + 1, 1, none⟩ = some (.int .i64 0) := (by rw [hc _ _ (by simp)]; go_simp); have fw11 : w1.frozen? ⟨w.heap.size + 1, 1, none⟩ = false := (by rw [hf _ _ (by simp)]; go_simp)) | (go_at_call 9; (with_reducible refine (sub_ok a b _ ha ha2 b0 b1).mono ?_); rintro e w2 ⟨rfl, hb2⟩; obtain ⟨hc2, hf2⟩ := bcell hb2; have hz2 := hb2.size; (try simp at hz2); have z20 : w.heap.size < w2.heap.size := (by omega); (try have z21 : w.heap.size + 1 < w2.heap.size := (by omega)); (try have z22 : w.heap.size + 1 + 1 < w2.heap.size := (by omega))); have kw20 : w2.cell? ⟨w.heap.size + 1, 0, none⟩ = some (.int .u32 0) := (by rw [hc2 _ _ (by first | omega | simp)]; first | exact kw10 | go_simp); have fw20 : w2.frozen? ⟨w.heap.size + 1, 0, none⟩ = false := (by rw [hf2 _ _ (by first | omega | simp)]; first | exact fw10 | go_simp); have kw21 : w2.cell? ⟨w.heap.size + 1, 1, none⟩ = some (.int .i64 0) := (by rw [hc2 _ _ (by first | omega | simp)]; first | exact kw11 | go_simp); have fw21 : w2.frozen? ⟨w.heap.size + 1, 1, none⟩ = false := (by rw [hf2 _ _ (by first | omega | simp)]; first | exact fw11 | go_simp))
      refine bodyPost_ret (by simp [results, Try.results4, go_sem, hc2, z21, kw20, kw21]; try rfl) rfl ?_
      obtain ⟨q1, q2, q3⟩ := HS.out
      exact ⟨by rw [q1, q2, q3], ((((Below.step (Below.step (by go_grown) hb) hb2).setCell (by go_size) _).setCell (by go_size) _).alloc (by go_size) _)⟩
    · have hs : subA a b = 0 ∧ subN a b = 0 ∧ subT a b = false := by simp [subA, subN, subT, h, hr]
      have HS := Lib.hid hs; clear hs h
      have hr' : b < 0 ∨ 32 < b := by omega
      have HR := Lib.hid hr'; clear hr' hr
      go_enter Try.func4, Try.ntmps4
      go_wp2_with (first | (go_at_call 8; (with_reducible refine (HA.out _).mono ?_); rintro e w1 ⟨rfl, hb⟩; rw [HD.out]; obtain ⟨hc, hf⟩ := bcell hb; have hz1 := hb.size; (try simp at hz1); have z10 : w.heap.size < w1.heap.size := (by omega); (try have z11 : w.heap.size + 1 < w1.heap.size := (by omega)); (try have z12 : w.heap.size + 1 + 1 < w1.heap.size := (by omega)); have kw10 : w1.cell? ⟨w.heap.size + 1, 0, none⟩ = some (.int .u32 0) := (by rw [hc _ _ (by simp)]; go_simp); have fw10 : w1.frozen? ⟨w.heap.size + 1, 0, none⟩ = false := (by rw [hf _ _ (by simp)]; go_simp); have kw11 : w1.cell? ⟨w.heap.size + 1, 1, none⟩ = some (.int .i64 0) := (by rw [hc _ _ (by simp)]; go_simp); have fw11 : w1.frozen? ⟨w.heap.size + 1, 1, none⟩ = false := (by rw [hf _ _ (by simp)]; go_simp)) | (go_at_call 9; (with_reducible refine (sub_no a b _ HR.out).mono ?_); rintro e w2 ⟨rfl, hb2⟩; obtain ⟨hc2, hf2⟩ := bcell hb2; have hz2 := hb2.size; (try simp at hz2); have z20 : w.heap.size < w2.heap.size := (by omega); (try have z21 : w.heap.size + 1 < w2.heap.size := (by omega)); (try have z22 : w.heap.size + 1 + 1 < w2.heap.size := (by omega))); have kw20 : w2.cell? ⟨w.heap.size + 1, 0, none⟩ = some (.int .u32 0) := (by rw [hc2 _ _ (by first | omega | simp)]; first | exact kw10 | go_simp); have fw20 : w2.frozen? ⟨w.heap.size + 1, 0, none⟩ = false := (by rw [hf2 _ _ (by first | omega | simp)]; first | exact fw10 | go_simp); have kw21 : w2.cell? ⟨w.heap.size + 1, 1, none⟩ = some (.int .i64 0) := (by rw [hc2 _ _ (by first | omega | simp)]; first | exact kw11 | go_simp); have fw21 : w2.frozen? ⟨w.heap.size + 1, 1, none⟩ = false := (by rw [hf2 _ _ (by first | omega | simp)]; first | exact fw11 | go_simp))
      refine bodyPost_ret (by simp [results, Try.results4, go_sem, hc2, z21, kw20, kw21]; try rfl) rfl ?_
      obtain ⟨q1, q2, q3⟩ := HS.out
      exact ⟨by rw [q1, q2, q3], ((((Below.step (Below.step (by go_grown) hb) hb2).setCell (by go_size) _).setCell (by go_size) _).alloc (by go_size) _)⟩
theorem rsubnet_is (ha : 0 ≤ a) (ha2 : a < 4294967296) : Calls Try.prog 5 #[.agg #[x0, x1, .int .u32 a, .int .i64 b, .bool t, x2, x3, x4, x5, x6, x7]] w fun e w' => e = .returned (.tuple #[.agg #[.int .u32 (subA a b), .int .i64 (subN a b)], .bool (subT a b)]) ∧ Below w.heap.size w w' := by
  by_cases h : a = 0 ∧ b = 0
  · obtain ⟨rfl, rfl⟩ := h
    go_enter Try.func5, Try.ntmps5
    go_wp2
    go_returns
    exact ⟨rfl, by go_grown⟩
  · by_cases hr : 0 ≤ b ∧ b ≤ 32
    · have hs : subA a b = a / pw b * pw b ∧ subN a b = b ∧ subT a b = true := by simp [subA, subN, subT, h, hr]
      have HS := Lib.hid hs; clear hs
      obtain ⟨b0, b1⟩ := hr
      by_cases h1 : a = 0
      · have h2 : ¬ b = 0 := fun h2 => h ⟨h1, h2⟩
        have e2 : (b == 0) = false := by simpa using h2
        have H1 := Lib.hid h1
        have e1 : (a == 0) = true := by simpa using h1
        clear h h1
        go_enter Try.func5, Try.ntmps5
        go_wp2_with (go_at_call 10; (with_reducible refine (rsub_ok a b _ ha ha2 b0 b1).mono ?_); rintro e w2 ⟨rfl, hb2⟩; obtain ⟨hc2, hf2⟩ := bcell hb2; have hz2 := hb2.size; (try simp at hz2); have z20 : w.heap.size < w2.heap.size := (by omega); (try have z21 : w.heap.size + 1 < w2.heap.size := (by omega)); (try have z22 : w.heap.size + 1 + 1 < w2.heap.size := (by omega)); have kw20 : w2.cell? ⟨w.heap.size + 1, 0, none⟩ = some (.int .u32 0) := (by rw [hc2 _ _ (by first | omega | simp)]; first | exact kw10 | go_simp); have fw20 : w2.frozen? ⟨w.heap.size + 1, 0, none⟩ = false := (by rw [hf2 _ _ (by first | omega | simp)]; first | exact fw10 | go_simp); have kw21 : w2.cell? ⟨w.heap.size + 1, 1, none⟩ = some (.int .i64 0) := (by rw [hc2 _ _ (by first | omega | simp)]; first | exact kw11 | go_simp); have fw21 : w2.frozen? ⟨w.heap.size + 1, 1, none⟩ = false := (by rw [hf2 _ _ (by first | omega | simp)]; first | exact fw11 | go_simp))
        refine bodyPost_ret (by simp [results, Try.results5, go_sem, hc2, z21, kw20, kw21]; try rfl) rfl ?_
        obtain ⟨q1, q2, q3⟩ := HS.out
        exact ⟨by rw [q1, q2, q3], ((((Below.step (by go_grown) hb2).setCell (by go_size) _).setCell (by go_size) _).alloc (by go_size) _)⟩
      · have e1 : (a == 0) = false := by simpa using h1
        clear h
        go_enter Try.func5, Try.ntmps5
        go_wp2_with (go_at_call 10; (with_reducible refine (rsub_ok a b _ ha ha2 b0 b1).mono ?_); rintro e w2 ⟨rfl, hb2⟩; obtain ⟨hc2, hf2⟩ := bcell hb2; have hz2 := hb2.size; (try simp at hz2); have z20 : w.heap.size < w2.heap.size := (by omega); (try have z21 : w.heap.size + 1 < w2.heap.size := (by omega)); (try have z22 : w.heap.size + 1 + 1 < w2.heap.size := (by omega)); have kw20 : w2.cell? ⟨w.heap.size + 1, 0, none⟩ = some (.int .u32 0) := (by rw [hc2 _ _ (by first | omega | simp)]; first | exact kw10 | go_simp); have fw20 : w2.frozen? ⟨w.heap.size + 1, 0, none⟩ = false := (by rw [hf2 _ _ (by first | omega | simp)]; first | exact fw10 | go_simp); have kw21 : w2.cell? ⟨w.heap.size + 1, 1, none⟩ = some (.int .i64 0) := (by rw [hc2 _ _ (by first | omega | simp)]; first | exact kw11 | go_simp); have fw21 : w2.frozen? ⟨w.heap.size + 1, 1, none⟩ = false := (by rw [hf2 _ _ (by first | omega | simp)]; first | exact fw11 | go_simp))
        refine bodyPost_ret (by simp [results, Try.results5, go_sem, hc2, z21, kw20, kw21]; try rfl) rfl ?_
        obtain ⟨q1, q2, q3⟩ := HS.out
        exact ⟨by rw [q1, q2, q3], ((((Below.step (by go_grown) hb2).setCell (by go_size) _).setCell (by go_size) _).alloc (by go_size) _)⟩
    · have hs : subA a b = 0 ∧ subN a b = 0 ∧ subT a b = false := by simp [subA, subN, subT, h, hr]
      have HS := Lib.hid hs; clear hs
      have h2 : ¬ b = 0 := by omega
      have hr' : b < 0 ∨ 32 < b := by omega
      have HR := Lib.hid hr'; clear hr' hr
      have e2 : (b == 0) = false := by simpa using h2
      by_cases h1 : a = 0
      · have e1 : (a == 0) = true := by simpa using h1
        clear h h1
        go_enter Try.func5, Try.ntmps5
        go_wp2_with (go_at_call 10; (with_reducible refine (rsub_no a b _ HR.out).mono ?_); rintro e w2 ⟨rfl, hb2⟩; obtain ⟨hc2, hf2⟩ := bcell hb2; have hz2 := hb2.size; (try simp at hz2); have z20 : w.heap.size < w2.heap.size := (by omega); (try have z21 : w.heap.size + 1 < w2.heap.size := (by omega)); (try have z22 : w.heap.size + 1 + 1 < w2.heap.size := (by omega)); have kw20 : w2.cell? ⟨w.heap.size + 1, 0, none⟩ = some (.int .u32 0) := (by rw [hc2 _ _ (by first | omega | simp)]; first | exact kw10 | go_simp); have fw20 : w2.frozen? ⟨w.heap.size + 1, 0, none⟩ = false := (by rw [hf2 _ _ (by first | omega | simp)]; first | exact fw10 | go_simp); have kw21 : w2.cell? ⟨w.heap.size + 1, 1, none⟩ = some (.int .i64 0) := (by rw [hc2 _ _ (by first | omega | simp)]; first | exact kw11 | go_simp); have fw21 : w2.frozen? ⟨w.heap.size + 1, 1, none⟩ = false := (by rw [hf2 _ _ (by first | omega | simp)]; first | exact fw11 | go_simp))
        refine bodyPost_ret (by simp [results, Try.results5, go_sem, hc2, z21, kw20, kw21]; try rfl) rfl ?_
        obtain ⟨q1, q2, q3⟩ := HS.out
        exact ⟨by rw [q1, q2, q3], ((((Below.step (by go_grown) hb2).setCell (by go_size) _).setCell (by go_size) _).alloc (by go_size) _)⟩
      · have e1 : (a == 0) = false := by simpa using h1
        clear h
        go_enter Try.func5, Try.ntmps5
        go_wp2_with (go_at_call 10; (with_reducible refine (rsub_no a b _ HR.out).mono ?_); rintro e w2 ⟨rfl, hb2⟩; obtain ⟨hc2, hf2⟩ := bcell hb2; have hz2 := hb2.size; (try simp at hz2); have z20 : w.heap.size < w2.heap.size := (by omega); (try have z21 : w.heap.size + 1 < w2.heap.size := (by omega)); (try have z22 : w.heap.size + 1 + 1 < w2.heap.size := (by omega)); have kw20 : w2.cell? ⟨w.heap.size + 1, 0, none⟩ = some (.int .u32 0) := (by rw [hc2 _ _ (by first | omega | simp)]; first | exact kw10 | go_simp); have fw20 : w2.frozen? ⟨w.heap.size + 1, 0, none⟩ = false := (by rw [hf2 _ _ (by first | omega | simp)]; first | exact fw10 | go_simp); have kw21 : w2.cell? ⟨w.heap.size + 1, 1, none⟩ = some (.int .i64 0) := (by rw [hc2 _ _ (by first | omega | simp)]; first | exact kw11 | go_simp); have fw21 : w2.frozen? ⟨w.heap.size + 1, 1, none⟩ = false := (by rw [hf2 _ _ (by first | omega | simp)]; first | exact fw11 | go_simp))
        refine bodyPost_ret (by simp [results, Try.results5, go_sem, hc2, z21, kw20, kw21]; try rfl) rfl ?_
        obtain ⟨q1, q2, q3⟩ := HS.out
        exact ⟨by rw [q1, q2, q3], ((((Below.step (by go_grown) hb2).setCell (by go_size) _).setCell (by go_size) _).alloc (by go_size) _)⟩
theorem ifaces_law (ha : 0 ≤ a) (ha2 : a < 4294967296) : Calls Try.prog 3 #[.agg #[x0, x1, .int .u32 a, .int .i64 b, .bool t, x2, x3, x4, x5, x6, x7]] w fun e w' => e = .returned (.bool true) ∧ Below w.heap.size w w' := by
  have H1 := Lib.hid (fun w => subnet_is x0 x1 x2 x3 x4 x5 x6 x7 a b t w ha ha2)
  have H2 := Lib.hid (fun w => rsubnet_is x0 x1 x2 x3 x4 x5 x6 x7 a b t w ha ha2)
  have H3 := Lib.hid (fun w => alive_is x0 x1 x2 x3 x4 x5 x6 x7 a b t w)
  have H4 := Lib.hid (fun w => ralive_is x0 x1 x2 x3 x4 x5 x6 x7 a b t w)
  revert H1 H2 H3 H4
  generalize subA a b = p
  generalize subN a b = q
  generalize subT a b = r
  generalize (!t && (a != 0 || b != 0)) = s
  intro H1 H2 H3 H4
  go_enter Try.func3, Try.ntmps3
  have k3 := H3.out
  have k4 := H4.out
  clear H3 H4
  go_wp2_with (first | (go_at_call 4; (with_reducible refine (H1.out _).mono ?_); rintro e w1 ⟨rfl, hb1⟩; obtain ⟨hc1, hf1⟩ := bcell hb1; have hz1 := hb1.size; (try simp at hz1); have z10 : w.heap.size < w1.heap.size := (by omega)) | (go_at_call 5; (with_reducible refine (H2.out _).mono ?_); rintro e w2 ⟨rfl, hb2⟩; obtain ⟨hc2, hf2⟩ := bcell hb2; have hz2 := hb2.size; (try simp at hz2); have z20 : w.heap.size < w2.heap.size := (by omega)))
  obtain ⟨W, hW0⟩ : ∃ W, w2.alloc (.cells #[.int .u32 p, .int .i64 q] 27) = W := ⟨_, rfl⟩
  have hW := Lib.hid hW0; clear hW0
  have c0 : W.cell? ⟨w.heap.size, 0, none⟩ = some (x0) := by rw [← hW.out]; go_simp
  have c1 : W.cell? ⟨w.heap.size, 1, none⟩ = some (x1) := by rw [← hW.out]; go_simp
  have c2 : W.cell? ⟨w.heap.size, 2, none⟩ = some (.int .u32 a) := by rw [← hW.out]; go_simp
  have c3 : W.cell? ⟨w.heap.size, 3, none⟩ = some (.int .i64 b) := by rw [← hW.out]; go_simp
  have c4 : W.cell? ⟨w.heap.size, 4, none⟩ = some (.bool t) := by rw [← hW.out]; go_simp
  have c5 : W.cell? ⟨w.heap.size, 5, none⟩ = some (x2) := by rw [← hW.out]; go_simp
  have c6 : W.cell? ⟨w.heap.size, 6, none⟩ = some (x3) := by rw [← hW.out]; go_simp
  have c7 : W.cell? ⟨w.heap.size, 7, none⟩ = some (x4) := by rw [← hW.out]; go_simp
  have c8 : W.cell? ⟨w.heap.size, 8, none⟩ = some (x5) := by rw [← hW.out]; go_simp
  have c9 : W.cell? ⟨w.heap.size, 9, none⟩ = some (x6) := by rw [← hW.out]; go_simp
  have c10 : W.cell? ⟨w.heap.size, 10, none⟩ = some (x7) := by rw [← hW.out]; go_simp
  have hz3 : w1.heap.size < w2.heap.size := by omega
  have p0 : W.cell? ⟨w1.heap.size, 0, none⟩ = some (.int .u32 p) := by rw [← hW.out]; go_simp
  have p1 : W.cell? ⟨w1.heap.size, 1, none⟩ = some (.int .i64 q) := by rw [← hW.out]; go_simp
  have q0 : W.cell? ⟨w2.heap.size, 0, none⟩ = some (.int .u32 p) := by rw [← hW.out]; go_simp
  have q1 : W.cell? ⟨w2.heap.size, 1, none⟩ = some (.int .i64 q) := by rw [← hW.out]; go_simp
  have sz : W.heap.size = w2.heap.size + 1 := by rw [← hW.out]; simp
  have s0 : w.heap.size < W.heap.size := by omega
  have s1 : w1.heap.size < W.heap.size := by omega
  have s2 : w2.heap.size < W.heap.size := by omega
  have hB : Below w.heap.size w W := by rw [← hW.out]; exact (Below.step ((Below.step (by go_grown) hb1).alloc (by go_size) _) hb2).alloc (by go_size) _
  rw [hW.out]
  clear hW sz hz3 hb1 hb2 hc1 hf1 hc2 hf2 hz1 hz2 z10 z20 H1 H2
  refine wp_region_grows (by kernel_rfl) (by kernel_rfl) ?_
  refine grows_fact _ _ _ c0 s0 fun r0 => ?_
  refine grows_fact _ _ _ c1 s0 fun r1 => ?_
  refine grows_fact _ _ _ c2 s0 fun r2 => ?_
  refine grows_fact _ _ _ c3 s0 fun r3 => ?_
  refine grows_fact _ _ _ c4 s0 fun r4 => ?_
  refine grows_fact _ _ _ c5 s0 fun r5 => ?_
  refine grows_fact _ _ _ c6 s0 fun r6 => ?_
  refine grows_fact _ _ _ c7 s0 fun r7 => ?_
  refine grows_fact _ _ _ c8 s0 fun r8 => ?_
  refine grows_fact _ _ _ c9 s0 fun r9 => ?_
  refine grows_fact _ _ _ c10 s0 fun r10 => ?_
  refine grows_fact _ _ _ p0 s1 fun rp0 => ?_
  refine grows_fact _ _ _ p1 s1 fun rp1 => ?_
  refine grows_fact _ _ _ q0 s2 fun rq0 => ?_
  refine grows_fact _ _ _ q1 s2 fun rq1 => ?_
  clear c0 c1 c2 c3 c4 c5 c6 c7 c8 c9 c10 p0 p1 q0 q1
  repeat (go_big_quiet_step ((first | (go_at_call 6; exact Calls.grows_of (k3 _)) | (go_at_call 7; exact Calls.grows_of (k4 _)))))
  refine wpQuiet_nil ?_
  rintro _ ⟨⟨w5, hb5⟩, rfl⟩
  go_wp2
  go_ret
  exact ⟨ret_bool (by simp), Below.step hB hb5⟩
end
end Go.Proofs.Ytoedpmdommddkaa
