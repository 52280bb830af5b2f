/- read of package filter: what it hands back for whatever six words. Conditions: the tables and errors of package strconv are what its text says. -/
import Derived.Test.YtgggmhaopcgkkaaGreatDoorFbT
namespace Go.Proofs.YtgggmhaopcgkkaaGreatDoor
open Go.RowKit
/-- What is asked of a rule. -/
structure Good (r : RuleD) : Prop where
  ok : r.ok
  pt : PortsOk r
  may : mayB r = true
/-- What read hands back of six words: a rule; if they are a rule's words, that one. -/
def ReadP (ws : List (List UInt8)) (w : World) (e : Ending) (w' : World) : Prop := Below w.heap.size w w' ∧ ∃ r : RuleD, e = .returned (vR r) ∧ r.ok ∧ PortsOk r ∧ ∀ q : RuleD, Good q → rwords q = ws → r = q
/-- The new rule: its block holds noughts. -/
structure NR (X : World) (b : Nat) : Prop where
  row : X.heap[b]? = some (.cells #[.bool false, .int .i64 0, .int .u32 0, .int .i64 0, .int .u32 0, .int .i64 0, .int .u32 0, .int .u32 0, .int .u32 0, .int .u32 0] 29 (0, 0))
theorem NR.on {X X' : World} {b : Nat} (h : NR X b) (hb : Below X.heap.size X X') : NR X' b := ⟨(hb.block b (Array.getElem?_eq_some_iff.1 h.row).1).trans h.row⟩
theorem NR.new {v X' : World} (hb : Below (v.alloc (.cells #[.bool false, .int .i64 0, .int .u32 0, .int .i64 0, .int .u32 0, .int .i64 0, .int .u32 0, .int .u32 0, .int .u32 0, .int .u32 0] 29)).heap.size (v.alloc (.cells #[.bool false, .int .i64 0, .int .u32 0, .int .i64 0, .int .u32 0, .int .i64 0, .int .u32 0, .int .u32 0, .int .u32 0, .int .u32 0] 29)) X') : NR X' v.heap.size :=
  NR.on ⟨heap_new' _ _⟩ hb
theorem NR.all {X : World} {b : Nat} (h : NR X b) : (X.cell? ⟨b, 0, none⟩ = some (.bool false) ∧ X.cell? ⟨b, 1, none⟩ = some (.int .i64 0) ∧ X.cell? ⟨b, 2, none⟩ = some (.int .u32 0) ∧ X.cell? ⟨b, 3, none⟩ = some (.int .i64 0) ∧ X.cell? ⟨b, 4, none⟩ = some (.int .u32 0) ∧ X.cell? ⟨b, 5, none⟩ = some (.int .i64 0) ∧ X.cell? ⟨b, 6, none⟩ = some (.int .u32 0) ∧ X.cell? ⟨b, 7, none⟩ = some (.int .u32 0) ∧ X.cell? ⟨b, 8, none⟩ = some (.int .u32 0) ∧ X.cell? ⟨b, 9, none⟩ = some (.int .u32 0)) ∧ (X.frozen? ⟨b, 0, none⟩ = false ∧ X.frozen? ⟨b, 1, none⟩ = false ∧ X.frozen? ⟨b, 2, none⟩ = false ∧ X.frozen? ⟨b, 3, none⟩ = false ∧ X.frozen? ⟨b, 4, none⟩ = false ∧ X.frozen? ⟨b, 5, none⟩ = false ∧ X.frozen? ⟨b, 6, none⟩ = false ∧ X.frozen? ⟨b, 7, none⟩ = false ∧ X.frozen? ⟨b, 8, none⟩ = false ∧ X.frozen? ⟨b, 9, none⟩ = false) := by
  simp [World.cell?, World.frozen?, h.row]
theorem ten {w2 X : World} {b : Nat} (h : Below w2.heap.size w2 X) (hb : w2.heap.size ≤ b) (v0 v1 v2 v3 v4 v5 v6 v7 v8 v9 : Value) : Below w2.heap.size w2 ((((((((((X.setCell ⟨b, 0, none⟩ (v0)).setCell ⟨b, 1, none⟩ (v1)).setCell ⟨b, 2, none⟩ (v2)).setCell ⟨b, 3, none⟩ (v3)).setCell ⟨b, 4, none⟩ (v4)).setCell ⟨b, 5, none⟩ (v5)).setCell ⟨b, 6, none⟩ (v6)).setCell ⟨b, 7, none⟩ (v7)).setCell ⟨b, 8, none⟩ (v8)).setCell ⟨b, 9, none⟩ (v9)) := by
  have h0 := h.setCell (p := ⟨b, 0, none⟩) hb v0
  have h1 := h0.setCell (p := ⟨b, 1, none⟩) hb v1
  have h2 := h1.setCell (p := ⟨b, 2, none⟩) hb v2
  have h3 := h2.setCell (p := ⟨b, 3, none⟩) hb v3
  have h4 := h3.setCell (p := ⟨b, 4, none⟩) hb v4
  have h5 := h4.setCell (p := ⟨b, 5, none⟩) hb v5
  have h6 := h5.setCell (p := ⟨b, 6, none⟩) hb v6
  have h7 := h6.setCell (p := ⟨b, 7, none⟩) hb v7
  have h8 := h7.setCell (p := ⟨b, 8, none⟩) hb v8
  have h9 := h8.setCell (p := ⟨b, 9, none⟩) hb v9
  exact h9
/-- Where the rule lies behind the first two words. -/
def RuleAt (W1 : World) (P : Bool) (l : List UInt8) (s : Value) (X : World) : Prop := ∃ (b : Nat) (v : Int), s = .pointer (some ⟨b, 0, none⟩) ∧ (∀ n : Int, -1 ≤ n → n ≤ 255 → protoT n = l → v = n) ∧ Bx W1 X b 29 [.bool P, .int .i64 v, .int .u32 0, .int .i64 0, .int .u32 0, .int .i64 0, .int .u32 0, .int .u32 0, .int .u32 0, .int .u32 0]
theorem RuleAt.last {W1 X : World} {P : Bool} {l : List UInt8} {v : Int} (h : Below W1.heap.size W1 X) (hv : ∀ n : Int, -1 ≤ n → n ≤ 255 → protoT n = l → v = n) : RuleAt W1 P l (.pointer (some ⟨X.heap.size, 0, none⟩)) (X.alloc (.cells #[.bool P, .int .i64 v, .int .u32 0, .int .i64 0, .int .u32 0, .int .i64 0, .int .u32 0, .int .u32 0, .int .u32 0, .int .u32 0] 29)) :=
  ⟨_, v, rfl, hv, h.alloc h.size _, h.size, heap_new' _ _⟩
theorem RuleAt.ahead {W1 X : World} {b : Nat} {P : Bool} {l : List UInt8} {v : Int} (h : Below W1.heap.size W1 X) (hb : W1.heap.size ≤ b) (hn : NR X b) (hv : ∀ n : Int, -1 ≤ n → n ≤ 255 → protoT n = l → v = n) : RuleAt W1 P l (.pointer (some ⟨b, 0, none⟩)) ((((((((((X.setCell ⟨b, 0, none⟩ (.bool P)).setCell ⟨b, 1, none⟩ (.int .i64 v)).setCell ⟨b, 2, none⟩ (.int .u32 0)).setCell ⟨b, 3, none⟩ (.int .i64 0)).setCell ⟨b, 4, none⟩ (.int .u32 0)).setCell ⟨b, 5, none⟩ (.int .i64 0)).setCell ⟨b, 6, none⟩ (.int .u32 0)).setCell ⟨b, 7, none⟩ (.int .u32 0)).setCell ⟨b, 8, none⟩ (.int .u32 0)).setCell ⟨b, 9, none⟩ (.int .u32 0)) := by
  have q : Bx W1 X b 29 [.bool false, .int .i64 0, .int .u32 0, .int .i64 0, .int .u32 0, .int .i64 0, .int .u32 0, .int .u32 0, .int .u32 0, .int .u32 0] := ⟨h, hb, hn.row⟩
  have q9 := (((((((((q.st 0 (.bool P)).st 1 (.int .i64 v)).st 2 (.int .u32 0)).st 3 (.int .i64 0)).st 4 (.int .u32 0)).st 5 (.int .i64 0)).st 6 (.int .u32 0)).st 7 (.int .u32 0)).st 8 (.int .u32 0)).st 9 (.int .u32 0)
  exact ⟨_, v, rfl, hv, q9⟩
theorem adrI_range {l : List UInt8} : 0 ≤ (adrI (parse l)).1 ∧ (adrI (parse l)).1 < 4294967296 := by
  cases hp : parse l with
  | none => simp [adrI]
  | some b => have := parse_lt hp; simp [adrI]; omega
theorem pparse_range {l : List UInt8} : 0 ≤ (pparse l).1 ∧ (pparse l).1 < 4294967296 ∧ 0 ≤ (pparse l).2.1 ∧ (pparse l).2.1 ≤ 32 := by
  unfold pparse
  split
  · rename_i a' n' h1 h2 h3
    have := parse_lt h1
    have := (num_some h2).2.2.2.1
    split <;> simp <;> omega
  · simp
theorem two {w2 X : World} {b o o' : Nat} (h : Below w2.heap.size w2 X) (hb : w2.heap.size ≤ b) (v v' : Value) : Below w2.heap.size w2 ((X.setCell ⟨b, o, none⟩ v).setCell ⟨b, o', none⟩ v') :=
  (h.setCell (p := ⟨b, o, none⟩) hb _).setCell (p := ⟨b, o', none⟩) hb _
/-- The rule behind all six words. -/
def PortsAt (W1 : World) (b : Nat) (P : Bool) (v a n c m : Int) (l4 l5 : List UInt8) (s : Value) (X : World) : Prop := s = .pointer (some ⟨b, 0, none⟩) ∧ ∃ a1 a2 d1 d2 : Int, 0 ≤ a1 ∧ a1 < 4294967296 ∧ 0 ≤ a2 ∧ a2 < 4294967296 ∧ 0 ≤ d1 ∧ d1 < 4294967296 ∧ 0 ≤ d2 ∧ d2 < 4294967296 ∧
  (∀ x y : Int, 0 ≤ x → x ≤ y → y ≤ 65535 → portsT x y = l4 → a1 = x ∧ a2 = y) ∧ (∀ x y : Int, 0 ≤ x → x ≤ y → y ≤ 65535 → portsT x y = l5 → d1 = x ∧ d2 = y) ∧ Bx W1 X b 29 [.bool P, .int .i64 v, .int .u32 a, .int .i64 n, .int .u32 c, .int .i64 m, .int .u32 a1, .int .u32 a2, .int .u32 d1, .int .u32 d2]
theorem mk2 (w : World) (s0 s1 s2 s3 s4 s5 : ByteArray) (W1 : World) (h : (w.alloc (.cells #[.string s0, .string s1, .string s2, .string s3, .string s4, .string s5] 56)).alloc (.cells #[.bool false, .int .i64 0, .int .u32 0, .int .i64 0, .int .u32 0, .int .i64 0, .int .u32 0, .int .u32 0, .int .u32 0, .int .u32 0] 29) = W1) : Bx w W1 w.heap.size 56 [.string s0, .string s1, .string s2, .string s3, .string s4, .string s5] ∧ Bx w W1 (w.heap.size + 1) 29 [.bool false, .int .i64 0, .int .u32 0, .int .i64 0, .int .u32 0, .int .i64 0, .int .u32 0, .int .u32 0, .int .u32 0, .int .u32 0] := by
  subst h
  have a := Bx.mk1 w 56 [.string s0, .string s1, .string s2, .string s3, .string s4, .string s5]
  have hs : (w.alloc (.cells #[.string s0, .string s1, .string s2, .string s3, .string s4, .string s5] 56)).heap.size = w.heap.size + 1 := Array.size_push ..
  have b := Bx.mk1 (w.alloc (.cells #[.string s0, .string s1, .string s2, .string s3, .string s4, .string s5] 56)) 29 [.bool false, .int .i64 0, .int .u32 0, .int .i64 0, .int .u32 0, .int .i64 0, .int .u32 0, .int .u32 0, .int .u32 0, .int .u32 0]
  have hb := b.bel
  refine ⟨a.on hb, ⟨(a.on hb).bel, by omega, ?_⟩⟩
  have := b.row
  rw [hs] at this
  exact this
set_option maxRecDepth 100000 in
set_option maxHeartbeats 8000000 in
theorem fread_is (s0 s1 s2 s3 s4 s5 : ByteArray) (w : World) (h1 : s1.size ≤ 1048576) (h2 : s2.size ≤ 1048576) (h3 : s3.size ≤ 1048576) (h4 : s4.size ≤ 1048576) (h5 : s5.size ≤ 1048576) (hE : ErrV w) :
    Calls Tryz.prog 24 #[.agg #[.string s0, .string s1, .string s2, .string s3, .string s4, .string s5]] w (ReadP [s0.data.toList, s1.data.toList, s2.data.toList, s3.data.toList, s4.data.toList, s5.data.toList] w) := by
  obtain ⟨W1, hW1⟩ : ∃ X, (w.alloc (.cells #[.string s0, .string s1, .string s2, .string s3, .string s4, .string s5] 56)).alloc (.cells #[.bool false, .int .i64 0, .int .u32 0, .int .i64 0, .int .u32 0, .int .i64 0, .int .u32 0, .int .u32 0, .int .u32 0, .int .u32 0] 29) = X := ⟨_, rfl⟩
  obtain ⟨p1, p2⟩ := mk2 w s0 s1 s2 s3 s4 s5 W1 hW1
  have S1 := Lib.hid p1; have S2 := Lib.hid p2
  have HE := Lib.hid (hE.on p1.bel)
  obtain ⟨P, hP⟩ : ∃ P, (s0.toList == [112, 101, 114, 109, 105, 116]) = P := ⟨_, rfl⟩
  clear p1 p2 hE
  have HSS : Hid (∀ W, Below W1.heap.size W1 W → W.cell? ⟨w.heap.size, 0, none⟩ = some (.string s0) ∧ W.cell? ⟨w.heap.size, 1, none⟩ = some (.string s1) ∧ W.cell? ⟨w.heap.size, 2, none⟩ = some (.string s2) ∧ W.cell? ⟨w.heap.size, 3, none⟩ = some (.string s3) ∧ W.cell? ⟨w.heap.size, 4, none⟩ = some (.string s4) ∧ W.cell? ⟨w.heap.size, 5, none⟩ = some (.string s5)) := Lib.hid fun W hb => by
    have h := (S1.out.on hb).cells
    exact ⟨h 0, h 1, h 2, h 3, h 4, h 5⟩
  have hb0 : Below W1.heap.size W1 W1 := Below.refl _ _
  obtain ⟨x0, x1, x2, x3, x4, x5⟩ := HSS.out W1 hb0
  have K1 : Hid (∀ W, Below W1.heap.size W1 W → Calls Tryz.prog 41 #[.string s1] W (ProtoP s1.data.toList W)) := Lib.hid fun W hb => proto_is s1 (by omega) W (HE.out.on hb)
  go_enter Tryz.func24, Tryz.ntmps24
  go_upto_region 1 with fail
  go_cut [3] (fun q3 wx => RuleAt W1 P s1.data.toList q3 wx)
  case first =>
    obtain ⟨wd, hwd⟩ : ∃ X, W1.drew = X := ⟨_, rfl⟩
    have hbd : Below W1.heap.size W1 wd := by rw [← hwd]; exact (Below.refl _ _).drew
    go_region_held3 (fun w' => w'.cell? ⟨w.heap.size, 0, none⟩ = some (.string s0) ∧ w'.cell? ⟨w.heap.size, 1, none⟩ = some (.string s1) ∧ w'.cell? ⟨w.heap.size, 2, none⟩ = some (.string s2) ∧ w'.cell? ⟨w.heap.size, 3, none⟩ = some (.string s3) ∧ w'.cell? ⟨w.heap.size, 4, none⟩ = some (.string s4) ∧ w'.cell? ⟨w.heap.size, 5, none⟩ = some (.string s5)) (first | with_reducible exact HSS.out _ (by first | with_reducible assumption | with_reducible exact hb0.drew | with_reducible exact bal (by with_reducible assumption) | with_reducible exact bal hb0.drew) | with_reducible exact HSS.out _ (ten (by first | with_reducible assumption | with_reducible exact hb0.drew | with_reducible exact bal (by with_reducible assumption) | with_reducible exact bal hb0.drew) (Below.size (by first | with_reducible assumption | with_reducible exact hb0.drew)) _ _ _ _ _ _ _ _ _ _)) (first
      | (go_at_call 41; ((with_reducible refine (K1.out _ (by first | with_reducible assumption | with_reducible exact hb0.drew | with_reducible exact bal (by with_reducible assumption) | with_reducible exact bal hb0.drew)).mono ?_)); rintro e w3 ⟨hb3, v, rfl, hv⟩; (first | (have hn3 := NR.new hb3; obtain ⟨⟨y0, y1, y2, y3, y4, y5, y6, y7, y8, y9⟩, z0, z1, z2, z3, z4, z5, z6, z7, z8, z9⟩ := hn3.all) | (have hn3 := NR.on (by assumption) hb3; obtain ⟨⟨y0, y1, y2, y3, y4, y5, y6, y7, y8, y9⟩, z0, z1, z2, z3, z4, z5, z6, z7, z8, z9⟩ := hn3.all) | skip); (first | with_reducible (have hb3 := bsa (x := W1) (by with_reducible assumption) hb3) | with_reducible (have hb3 := bsa (x := W1) hb0.drew hb3) | with_reducible (have hb3 := Below.step (a := W1) (by with_reducible assumption) hb3) | with_reducible (have hb3 := Below.step (a := W1) hb0.drew hb3))))
    all_goals
      go_wp2_with fail
      go_meet
      first
        | with_reducible exact RuleAt.last (by with_reducible assumption) (by with_reducible assumption)
        | with_reducible exact RuleAt.ahead (by with_reducible assumption) (Below.size (by first | with_reducible assumption)) (by with_reducible assumption) (by with_reducible assumption)
  case rest =>
    obtain ⟨b, v, rfl, hv, hbx⟩ := hcut
    have HV := Lib.hid hv
    have T3 := Lib.hid hbx
    have HP := Lib.hid hP
    clear hv hbx x0 x1 x2 x3 x4 x5 hb0 hP K1
    obtain ⟨⟨a, n, e2⟩, hA⟩ : ∃ X, pparse s2.data.toList = X := ⟨_, rfl⟩
    obtain ⟨⟨c, m, e3⟩, hC⟩ : ∃ X, pparse s3.data.toList = X := ⟨_, rfl⟩
    have ra := (pparse_range (l := s2.data.toList)); have rc := (pparse_range (l := s3.data.toList))
    rw [hA] at ra
    rw [hC] at rc
    have C2 : Hid (∀ W, Calls Tryz.prog 42 #[.string s2] W fun e w' => e = .returned (.tuple #[.agg #[.int .u32 a, .int .i64 n], .int .i64 e2]) ∧ Below W.heap.size W w') := Lib.hid fun W => by
      have h := pparse_is s2 W (by omega)
      rw [hA] at h
      exact h
    have C3 : Hid (∀ W, Calls Tryz.prog 42 #[.string s3] W fun e w' => e = .returned (.tuple #[.agg #[.int .u32 c, .int .i64 m], .int .i64 e3]) ∧ Below W.heap.size W w') := Lib.hid fun W => by
      have h := pparse_is s3 W (by omega)
      rw [hC] at h
      exact h
    have HA := Lib.hid hA; have HC := Lib.hid hC
    have hz1 := S2.out.sz
    have hnb := T3.out.new
    have ng1 : ¬ b = w.heap.size := by omega
    have ng2 : ¬ w.heap.size = b := by omega
    have ng3 : ¬ b = w.heap.size + 1 := by omega
    have ng4 : ¬ w.heap.size + 1 = b := by omega
    clear hA hC hz1 hnb
    obtain ⟨x0, x1, x2, x3, x4, x5⟩ := HSS.out wc T3.out.bel
    go_wp2_with fail
    go_at_call 42
    refine (C2.out _).mono ?_
    rintro e w4 ⟨rfl, hb4⟩
    have T4 := Lib.hid (T3.out.on hb4)
    clear hb4 x0 x1 x2 x3 x4 x5
    obtain ⟨x0, x1, x2, x3, x4, x5⟩ := HSS.out w4 T4.out.bel
    have xc2 : w4.cell? ⟨b, 2, none⟩ = some (.int .u32 0) := T4.out.cells 2
    have xc3 : w4.cell? ⟨b, 3, none⟩ = some (.int .i64 0) := T4.out.cells 3
    have xf2 := T4.out.free 2; have xf3 := T4.out.free 3
    go_wp2_with fail
    obtain ⟨w5, hw5⟩ : ∃ X, ((w4.setCell ⟨b, 2, none⟩ (.int .u32 a)).setCell ⟨b, 3, none⟩ (.int .i64 n)) = X := ⟨_, rfl⟩
    have T5 : Hid (Bx W1 w5 b 29 [.bool P, .int .i64 v, .int .u32 a, .int .i64 n, .int .u32 0, .int .i64 0, .int .u32 0, .int .u32 0, .int .u32 0, .int .u32 0]) := Lib.hid (by rw [← hw5]; exact (T4.out.st 2 (.int .u32 a)).st 3 (.int .i64 n))
    rw [hw5]
    clear hw5 xc2 xc3 xf2 xf3 x0 x1 x2 x3 x4 x5
    go_at_call 42
    refine (C3.out _).mono ?_
    rintro e w6 ⟨rfl, hb6⟩
    have T6 := Lib.hid (T5.out.on hb6)
    clear hb6
    obtain ⟨x0, x1, x2, x3, x4, x5⟩ := HSS.out w6 T6.out.bel
    have xc4 : w6.cell? ⟨b, 4, none⟩ = some (.int .u32 0) := T6.out.cells 4
    have xc5 : w6.cell? ⟨b, 5, none⟩ = some (.int .i64 0) := T6.out.cells 5
    have xf4 := T6.out.free 4; have xf5 := T6.out.free 5
    go_upto_region 4 with fail
    obtain ⟨w7, hw7⟩ : ∃ X, ((w6.setCell ⟨b, 4, none⟩ (.int .u32 c)).setCell ⟨b, 5, none⟩ (.int .i64 m)) = X := ⟨_, rfl⟩
    have T7 : Hid (Bx W1 w7 b 29 [.bool P, .int .i64 v, .int .u32 a, .int .i64 n, .int .u32 c, .int .i64 m, .int .u32 0, .int .u32 0, .int .u32 0, .int .u32 0]) := Lib.hid (by rw [← hw7]; exact (T6.out.st 4 (.int .u32 c)).st 5 (.int .i64 m))
    rw [hw7]
    clear hw7 xc4 xc5 xf4 xf5 x0 x1 x2 x3 x4 x5
    have hb0 : Below W1.heap.size W1 w7 := T7.out.bel
    obtain ⟨x0, x1, x2, x3, x4, x5⟩ := HSS.out w7 hb0
    have K4 : Hid (∀ W, Below W1.heap.size W1 W → Calls Tryz.prog 43 #[.string s4] W (PortsP s4.data.toList W)) := Lib.hid fun W hb => ports_is s4 h4 W (HE.out.on hb)
    have K5 : Hid (∀ W, Below W1.heap.size W1 W → Calls Tryz.prog 43 #[.string s5] W (PortsP s5.data.toList W)) := Lib.hid fun W hb => ports_is s5 h5 W (HE.out.on hb)
    go_cut [3] (fun q3 wx => PortsAt W1 b P v a n c m s4.data.toList s5.data.toList q3 wx)
    case first =>
      obtain ⟨wd, hwd⟩ : ∃ X, w7.drew = X := ⟨_, rfl⟩
      have hT0 : Bx W1 w7.drew b 29 [.bool P, .int .i64 v, .int .u32 a, .int .i64 n, .int .u32 c, .int .i64 m, .int .u32 0, .int .u32 0, .int .u32 0, .int .u32 0] := T7.out.on ((Below.refl _ _).drew)
      have hbd : Below W1.heap.size W1 wd := by rw [← hwd]; exact hT0.bel
      have hTd : Bx W1 wd b 29 [.bool P, .int .i64 v, .int .u32 a, .int .i64 n, .int .u32 c, .int .i64 m, .int .u32 0, .int .u32 0, .int .u32 0, .int .u32 0] := by rw [← hwd]; exact hT0
      have hbw := T7.out.new
      go_region_held3 (fun w' => w'.cell? ⟨w.heap.size, 0, none⟩ = some (.string s0) ∧ w'.cell? ⟨w.heap.size, 1, none⟩ = some (.string s1) ∧ w'.cell? ⟨w.heap.size, 2, none⟩ = some (.string s2) ∧ w'.cell? ⟨w.heap.size, 3, none⟩ = some (.string s3) ∧ w'.cell? ⟨w.heap.size, 4, none⟩ = some (.string s4) ∧ w'.cell? ⟨w.heap.size, 5, none⟩ = some (.string s5)) (first | with_reducible exact HSS.out _ (by first | with_reducible assumption | with_reducible exact hT0.bel) | with_reducible exact HSS.out _ (two (by first | with_reducible assumption | with_reducible exact hT0.bel) hbw _ _) | with_reducible exact HSS.out _ (two (two (by first | with_reducible assumption | with_reducible exact hT0.bel) hbw _ _) hbw _ _)) (first
        | (go_at_call 43; ((with_reducible refine (K4.out _ (by first | with_reducible assumption | with_reducible exact hT0.bel)).mono ?_)); rintro e w3 ⟨hb3, a1, a2, rfl, r0, r1, r2, r3, hv4⟩; with_reducible (have t3 := Bx.on (r := [.bool P, .int .i64 v, .int .u32 a, .int .i64 n, .int .u32 c, .int .i64 m, .int .u32 0, .int .u32 0, .int .u32 0, .int .u32 0]) (by with_reducible assumption) hb3); have hb3 := t3.bel)
        | (go_at_call 43; ((with_reducible refine (K5.out _ (by first | with_reducible assumption | with_reducible exact hT0.bel)).mono ?_)); rintro e w3 ⟨hb3, d1, d2, rfl, r4, r5, r6, r7, hv5⟩; with_reducible (have t3 := Bx.on (r := [.bool P, .int .i64 v, .int .u32 a, .int .i64 n, .int .u32 c, .int .i64 m, .int .u32 0, .int .u32 0, .int .u32 0, .int .u32 0]) (by with_reducible assumption) hb3); have hb3 := t3.bel; have q6 := t3.cells 6; have g6 := t3.free 6; have q7 := t3.cells 7; have g7 := t3.free 7; have q8 := t3.cells 8; have g8 := t3.free 8; have q9 := t3.cells 9; have g9 := t3.free 9; simp only [List.getElem?_cons_zero, List.getElem?_cons_succ] at q6 q7 q8 q9))
      all_goals
        go_wp2_with fail
        go_meet
        refine ⟨rfl, a1, a2, d1, d2, r0, r1, r2, r3, r4, r5, r6, r7, hv4, hv5, ?_⟩
        first
          | exact (((t3.st 6 (.int .u32 a1)).st 7 (.int .u32 a2)).st 8 (.int .u32 d1)).st 9 (.int .u32 d2)
          | exact (((t3.st 8 (.int .u32 d1)).st 9 (.int .u32 d2)).st 6 (.int .u32 a1)).st 7 (.int .u32 a2)
    case rest =>
      obtain ⟨rfl, a1, a2, d1, d2, r0, r1, r2, r3, r4, r5, r6, r7, hv4, hv5, hbx⟩ := hcut
      have T8 := Lib.hid hbx
      have V4 := Lib.hid hv4; have V5 := Lib.hid hv5
      have U8 := Lib.hid (S2.out.on (Below.mono hbx.bel (Nat.le_refl _)))
      clear hbx hv4 hv5 x0 x1 x2 x3 x4 x5 K4 K5 hb0
      obtain ⟨c0, c1, c2, c3, c4, c5, c6, c7, c8, c9, u0, u1, u2, u3, u4, u5, u6, u7, u8, u9, g0, g1, g2, g3, g4, g5, g6, g7, g8, g9⟩ : wc.cell? ⟨b, 0, none⟩ = some (.bool P) ∧ wc.cell? ⟨b, 1, none⟩ = some (.int .i64 v) ∧ wc.cell? ⟨b, 2, none⟩ = some (.int .u32 a) ∧ wc.cell? ⟨b, 3, none⟩ = some (.int .i64 n) ∧ wc.cell? ⟨b, 4, none⟩ = some (.int .u32 c) ∧ wc.cell? ⟨b, 5, none⟩ = some (.int .i64 m) ∧ wc.cell? ⟨b, 6, none⟩ = some (.int .u32 a1) ∧ wc.cell? ⟨b, 7, none⟩ = some (.int .u32 a2) ∧ wc.cell? ⟨b, 8, none⟩ = some (.int .u32 d1) ∧ wc.cell? ⟨b, 9, none⟩ = some (.int .u32 d2) ∧ wc.cell? ⟨w.heap.size + 1, 0, none⟩ = some (.bool false) ∧ wc.cell? ⟨w.heap.size + 1, 1, none⟩ = some (.int .i64 0) ∧ wc.cell? ⟨w.heap.size + 1, 2, none⟩ = some (.int .u32 0) ∧ wc.cell? ⟨w.heap.size + 1, 3, none⟩ = some (.int .i64 0) ∧ wc.cell? ⟨w.heap.size + 1, 4, none⟩ = some (.int .u32 0) ∧ wc.cell? ⟨w.heap.size + 1, 5, none⟩ = some (.int .i64 0) ∧ wc.cell? ⟨w.heap.size + 1, 6, none⟩ = some (.int .u32 0) ∧ wc.cell? ⟨w.heap.size + 1, 7, none⟩ = some (.int .u32 0) ∧ wc.cell? ⟨w.heap.size + 1, 8, none⟩ = some (.int .u32 0) ∧ wc.cell? ⟨w.heap.size + 1, 9, none⟩ = some (.int .u32 0) ∧ wc.frozen? ⟨w.heap.size + 1, 0, none⟩ = false ∧ wc.frozen? ⟨w.heap.size + 1, 1, none⟩ = false ∧ wc.frozen? ⟨w.heap.size + 1, 2, none⟩ = false ∧ wc.frozen? ⟨w.heap.size + 1, 3, none⟩ = false ∧ wc.frozen? ⟨w.heap.size + 1, 4, none⟩ = false ∧ wc.frozen? ⟨w.heap.size + 1, 5, none⟩ = false ∧ wc.frozen? ⟨w.heap.size + 1, 6, none⟩ = false ∧ wc.frozen? ⟨w.heap.size + 1, 7, none⟩ = false ∧ wc.frozen? ⟨w.heap.size + 1, 8, none⟩ = false ∧ wc.frozen? ⟨w.heap.size + 1, 9, none⟩ = false := ⟨T8.out.cells 0, T8.out.cells 1, T8.out.cells 2, T8.out.cells 3, T8.out.cells 4, T8.out.cells 5, T8.out.cells 6, T8.out.cells 7, T8.out.cells 8, T8.out.cells 9, U8.out.cells 0, U8.out.cells 1, U8.out.cells 2, U8.out.cells 3, U8.out.cells 4, U8.out.cells 5, U8.out.cells 6, U8.out.cells 7, U8.out.cells 8, U8.out.cells 9, U8.out.free 0, U8.out.free 1, U8.out.free 2, U8.out.free 3, U8.out.free 4, U8.out.free 5, U8.out.free 6, U8.out.free 7, U8.out.free 8, U8.out.free 9⟩
      go_wp2
      obtain ⟨w9, hw9⟩ : ∃ X, ((((((((((wc.setCell ⟨w.heap.size + 1, 0, none⟩ (.bool P)).setCell ⟨w.heap.size + 1, 1, none⟩ (.int .i64 v)).setCell ⟨w.heap.size + 1, 2, none⟩ (.int .u32 a)).setCell ⟨w.heap.size + 1, 3, none⟩ (.int .i64 n)).setCell ⟨w.heap.size + 1, 4, none⟩ (.int .u32 c)).setCell ⟨w.heap.size + 1, 5, none⟩ (.int .i64 m)).setCell ⟨w.heap.size + 1, 6, none⟩ (.int .u32 a1)).setCell ⟨w.heap.size + 1, 7, none⟩ (.int .u32 a2)).setCell ⟨w.heap.size + 1, 8, none⟩ (.int .u32 d1)).setCell ⟨w.heap.size + 1, 9, none⟩ (.int .u32 d2)) = X := ⟨_, rfl⟩
      have U9 : Hid (Bx w w9 (w.heap.size + 1) 29 [.bool P, .int .i64 v, .int .u32 a, .int .i64 n, .int .u32 c, .int .i64 m, .int .u32 a1, .int .u32 a2, .int .u32 d1, .int .u32 d2]) := Lib.hid (by rw [← hw9]; exact (((((((((U8.out.st 0 (.bool P)).st 1 (.int .i64 v)).st 2 (.int .u32 a)).st 3 (.int .i64 n)).st 4 (.int .u32 c)).st 5 (.int .i64 m)).st 6 (.int .u32 a1)).st 7 (.int .u32 a2)).st 8 (.int .u32 d1)).st 9 (.int .u32 d2))
      rw [hw9]
      clear hw9 c0 u0 g0 c1 u1 g1 c2 u2 g2 c3 u3 g3 c4 u4 g4 c5 u5 g5 c6 u6 g6 c7 u7 g7 c8 u8 g8 c9 u9 g9
      obtain ⟨c0, c1, c2, c3, c4, c5, c6, c7, c8, c9⟩ : w9.cell? ⟨w.heap.size + 1, 0, none⟩ = some (.bool P) ∧ w9.cell? ⟨w.heap.size + 1, 1, none⟩ = some (.int .i64 v) ∧ w9.cell? ⟨w.heap.size + 1, 2, none⟩ = some (.int .u32 a) ∧ w9.cell? ⟨w.heap.size + 1, 3, none⟩ = some (.int .i64 n) ∧ w9.cell? ⟨w.heap.size + 1, 4, none⟩ = some (.int .u32 c) ∧ w9.cell? ⟨w.heap.size + 1, 5, none⟩ = some (.int .i64 m) ∧ w9.cell? ⟨w.heap.size + 1, 6, none⟩ = some (.int .u32 a1) ∧ w9.cell? ⟨w.heap.size + 1, 7, none⟩ = some (.int .u32 a2) ∧ w9.cell? ⟨w.heap.size + 1, 8, none⟩ = some (.int .u32 d1) ∧ w9.cell? ⟨w.heap.size + 1, 9, none⟩ = some (.int .u32 d2) := ⟨U9.out.cells 0, U9.out.cells 1, U9.out.cells 2, U9.out.cells 3, U9.out.cells 4, U9.out.cells 5, U9.out.cells 6, U9.out.cells 7, U9.out.cells 8, U9.out.cells 9⟩
      refine bodyPost_ret (v := .agg #[.bool P, .int .i64 v, .int .u32 a, .int .i64 n, .int .u32 c, .int .i64 m, .int .u32 a1, .int .u32 a2, .int .u32 d1, .int .u32 d2]) (by simp [results, Tryz.results24, go_sem, c0, c1, c2, c3, c4, c5, c6, c7, c8, c9]) rfl ⟨U9.out.bel, ⟨P, v, a, n, c, m, a1, a2, d1, d2⟩, rfl, ⟨ra.1, ra.2.1, rc.1, rc.2.1⟩, ⟨r0, r1, r2, r3, r4, r5, r6, r7⟩, fun q hq hw => ?_⟩
      have hm := may_p hq.may
      have hp := hq.pt
      simp only [rwords, List.cons.injEq, and_true] at hw
      obtain ⟨w0, w1, w2, w3, w4, w5⟩ := hw
      have hP := HP.out
      have t0 := act_read w0
      have t1 := HV.out _ hm.p0 hm.p1 w1
      have t2 := pfx_read hq.ok.a0 hq.ok.a1 hm.s w2
      have t3 := pfx_read hq.ok.b0 hq.ok.b1 hm.d w3
      rw [HA.out] at t2
      rw [HC.out] at t3
      have t4 := V4.out _ _ hp.a0 hm.x hm.x1 w4
      have t5 := V5.out _ _ hp.c0 hm.y hm.y1 w5
      have tp : P = q.perm := by rw [← hP, ← t0]; simp [permitW, ByteArray.toList_eq]
      obtain ⟨qp, qn, q2, q3, q4, q5, q6, q7, q8, q9⟩ := q
      simp only [Prod.mk.injEq] at t0 t1 t2 t3 t4 t5 tp
      simp only [RuleD.mk.injEq]
      exact ⟨tp, t1, t2.1, t2.2.1, t3.1, t3.2.1, t4.1, t4.2, t5.1, t5.2⟩
end Go.Proofs.YtgggmhaopcgkkaaGreatDoor
