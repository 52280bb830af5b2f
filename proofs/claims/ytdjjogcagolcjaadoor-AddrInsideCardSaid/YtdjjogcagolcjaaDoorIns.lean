/- AddrInside answers true for every four addresses and three numbers. Conditions: the tables of packages math/bits and strconv are what their texts say. -/
import Derived.Test.YtdjjogcagolcjaaDoorBack
import Derived.Test.YtdjjogcagolcjaaDoorInMath
import Derived.Deep.DeepCutAuto
namespace Go.Proofs.YtdjjogcagolcjaaDoor
open Go.RowKit
theorem ways9 : ∀ (A B F G X Y U V : Bool) (_ : A = (F && G)) (_ : X = true → Y = true → A = false → B = true) (_ : X = (U && V)),
    (A = false ∧ F = false ∧ ((X = false ∧ U = false) ∨ (X = false ∧ U = true ∧ V = false) ∨ (X = true ∧ U = true ∧ V = true ∧ Y = false) ∨ (X = true ∧ U = true ∧ V = true ∧ Y = true ∧ B = true))) ∨ (A = false ∧ F = true ∧ G = false ∧ ((X = false ∧ U = false) ∨ (X = false ∧ U = true ∧ V = false) ∨ (X = true ∧ U = true ∧ V = true ∧ Y = false) ∨ (X = true ∧ U = true ∧ V = true ∧ Y = true ∧ B = true))) ∨ (A = true ∧ F = true ∧ G = true ∧ ((X = false ∧ U = false) ∨ (X = false ∧ U = true ∧ V = false) ∨ (X = true ∧ U = true ∧ V = true ∧ Y = false) ∨ (X = true ∧ U = true ∧ V = true ∧ Y = true))) := by
  intro A B F G X Y U V h1 h2 h3
  subst h1 h3
  cases F <;> cases G <;> cases U <;> cases V <;> cases Y <;> cases B <;> first | decide | exact absurd (h2 rfl rfl rfl) (by decide)
theorem ways12 {C D E : Bool} (t6 : D = true → C = true → E = true) : D = false ∨ (D = true ∧ C = false) ∨ (D = true ∧ C = true ∧ E = true) := by
  cases C <;> cases D <;> simp_all
theorem ways7 {A B S C D : Bool} (t1 : S = (A && B)) (t2 : A = true → C = true → D = true) : (A = false ∨ (A = true ∧ S = B ∧ (C = false ∨ (C = true ∧ D = true)))) := by
  cases A <;> cases C <;> simp_all
set_option maxRecDepth 100000 in
set_option maxHeartbeats 4000000 in
/-- What the calls of AddrInside hand back, by variables that are tied to one another; each prefix's numbers are variables too. -/
theorem inside_walk (xa xb xc x nk nm nn : Int) (a k b m c n d j i g l : Int) (A B S C D F G X Y E L H U V : Bool) (w : World)
    (HT : Hid (Tab w)) (H10 : Hid (Tab10 w))
    (HF1 : Hid (∀ w : World, Calls Tryd.prog 27 #[.int .u32 xa, .int .i64 nk] w fun e w' => e = .returned (.agg #[.int .u32 a, .int .i64 k]) ∧ Below w.heap.size w w'))
    (HF2 : Hid (∀ w : World, Calls Tryd.prog 27 #[.int .u32 xb, .int .i64 nm] w fun e w' => e = .returned (.agg #[.int .u32 b, .int .i64 m]) ∧ Below w.heap.size w w'))
    (HF3 : Hid (∀ w : World, Calls Tryd.prog 27 #[.int .u32 xc, .int .i64 nn] w fun e w' => e = .returned (.agg #[.int .u32 c, .int .i64 n]) ∧ Below w.heap.size w w'))
    (HE : Hid (∀ w : World, Calls Tryd.prog 16 #[.agg #[.int .u32 a, .int .i64 k]] w fun e w' => e = .returned (.tuple #[.int .u32 a, .int .u32 l, .int .i64 0]) ∧ Below w.heap.size w w'))
    (HC : Hid (∀ w : World, Calls Tryd.prog 29 #[.agg #[.int .u32 a, .int .i64 k], .agg #[.int .u32 b, .int .i64 m]] w fun e w' => e = .returned (.tuple #[.agg #[.int .u32 d, .int .i64 j], .int .i64 0]) ∧ Below w.heap.size w w'))
    (HH : Hid ((k = 32 ∧ ∀ w : World, Calls Tryd.prog 15 #[.agg #[.int .u32 a, .int .i64 k]] w fun e w' => e = .returned (.tuple #[.agg #[.int .u32 0, .int .i64 0], .agg #[.int .u32 0, .int .i64 0], .int .i64 5]) ∧ Below w.heap.size w w') ∨
      (k ≠ 32 ∧ ∀ w : World, Calls Tryd.prog 15 #[.agg #[.int .u32 a, .int .i64 k]] w fun e w' => e = .returned (.tuple #[.agg #[.int .u32 a, .int .i64 i], .agg #[.int .u32 g, .int .i64 i], .int .i64 0]) ∧ Below w.heap.size w w')))
    (HS : Hid (∀ w : World, Calls Tryd.prog 21 #[.agg #[.int .u32 a, .int .i64 k], .agg #[.int .u32 b, .int .i64 m]] w fun e w' => e = .returned (.bool S) ∧ Below w.heap.size w w'))
    (Wpp : Hid (∀ w : World, Calls Tryd.prog 14 #[.agg #[.int .u32 a, .int .i64 k], .agg #[.int .u32 a, .int .i64 k]] w fun e w' => e = .returned (.bool true) ∧ Below w.heap.size w w')) (Wpq : Hid (∀ w : World, Calls Tryd.prog 14 #[.agg #[.int .u32 a, .int .i64 k], .agg #[.int .u32 b, .int .i64 m]] w fun e w' => e = .returned (.bool A) ∧ Below w.heap.size w w')) (Wqp : Hid (∀ w : World, Calls Tryd.prog 14 #[.agg #[.int .u32 b, .int .i64 m], .agg #[.int .u32 a, .int .i64 k]] w fun e w' => e = .returned (.bool B) ∧ Below w.heap.size w w')) (Wqr : Hid (∀ w : World, Calls Tryd.prog 14 #[.agg #[.int .u32 b, .int .i64 m], .agg #[.int .u32 c, .int .i64 n]] w fun e w' => e = .returned (.bool C) ∧ Below w.heap.size w w')) (Wpr : Hid (∀ w : World, Calls Tryd.prog 14 #[.agg #[.int .u32 a, .int .i64 k], .agg #[.int .u32 c, .int .i64 n]] w fun e w' => e = .returned (.bool D) ∧ Below w.heap.size w w'))
    (Wpd : Hid (∀ w : World, Calls Tryd.prog 14 #[.agg #[.int .u32 a, .int .i64 k], .agg #[.int .u32 d, .int .i64 j]] w fun e w' => e = .returned (.bool true) ∧ Below w.heap.size w w')) (Wqd : Hid (∀ w : World, Calls Tryd.prog 14 #[.agg #[.int .u32 b, .int .i64 m], .agg #[.int .u32 d, .int .i64 j]] w fun e w' => e = .returned (.bool true) ∧ Below w.heap.size w w')) (Wdr : Hid (∀ w : World, Calls Tryd.prog 14 #[.agg #[.int .u32 d, .int .i64 j], .agg #[.int .u32 c, .int .i64 n]] w fun e w' => e = .returned (.bool E) ∧ Below w.heap.size w w'))
    (Ifq : Hid (∀ w : World, Calls Tryd.prog 13 #[.int .u32 a, .agg #[.int .u32 b, .int .i64 m]] w fun e w' => e = .returned (.bool F) ∧ Below w.heap.size w w')) (Ilq : Hid (∀ w : World, Calls Tryd.prog 13 #[.int .u32 l, .agg #[.int .u32 b, .int .i64 m]] w fun e w' => e = .returned (.bool G) ∧ Below w.heap.size w w')) (Ixp : Hid (∀ w : World, Calls Tryd.prog 13 #[.int .u32 x, .agg #[.int .u32 a, .int .i64 k]] w fun e w' => e = .returned (.bool X) ∧ Below w.heap.size w w')) (Ixq : Hid (∀ w : World, Calls Tryd.prog 13 #[.int .u32 x, .agg #[.int .u32 b, .int .i64 m]] w fun e w' => e = .returned (.bool Y) ∧ Below w.heap.size w w'))
    (Ixl : k ≠ 32 → Hid (∀ w : World, Calls Tryd.prog 13 #[.int .u32 x, .agg #[.int .u32 a, .int .i64 i]] w fun e w' => e = .returned (.bool L) ∧ Below w.heap.size w w')) (Ixh : k ≠ 32 → Hid (∀ w : World, Calls Tryd.prog 13 #[.int .u32 x, .agg #[.int .u32 g, .int .i64 i]] w fun e w' => e = .returned (.bool H) ∧ Below w.heap.size w w')) (Wlp : k ≠ 32 → Hid (∀ w : World, Calls Tryd.prog 14 #[.agg #[.int .u32 a, .int .i64 i], .agg #[.int .u32 a, .int .i64 k]] w fun e w' => e = .returned (.bool true) ∧ Below w.heap.size w w')) (Whp : k ≠ 32 → Hid (∀ w : World, Calls Tryd.prog 14 #[.agg #[.int .u32 g, .int .i64 i], .agg #[.int .u32 a, .int .i64 k]] w fun e w' => e = .returned (.bool true) ∧ Below w.heap.size w w'))
    (Kl : Hid (∀ w : World, Calls Tryd.prog 30 #[.agg #[.int .u32 a, .int .i64 i], .agg #[.int .u32 g, .int .i64 i]] w fun e w' => e = .returned (.int .i64 (-1)) ∧ Below w.heap.size w w'))
    (R1 : Hid (S = (A && B))) (R2 : Hid (A = true → C = true → D = true)) (R3 : Hid (A = (F && G))) (R4 : Hid (X = true → Y = true → A = false → B = true))
    (U1 : Hid (decide (a ≤ x) = U)) (V1 : Hid (decide (x ≤ l) = V)) (R5 : Hid (X = (U && V))) (R6 : Hid (D = true → C = true → E = true)) (R7 : k ≠ 32 → Hid (X = (L != H))) :
    Calls Tryd.prog 7 #[.int .u32 xa, .int .u32 xb, .int .u32 xc, .int .u32 x, .int .i64 nk, .int .i64 nm, .int .i64 nn] w fun e w' => e = .returned (.bool true) ∧ Below w.heap.size w w' := by
  go_enter Tryd.func7, Tryd.ntmps7
  go_upto_region 7 with (first | (go_at_call 9; (with_reducible refine (works_is _ HT.out H10.out).mono ?_); rintro e w1 ⟨rfl, hb1⟩) | (go_at_call 27; (with_reducible refine (HF1.out _).mono ?_); rintro e w2 ⟨rfl, hb2⟩; have hB2 : Below w.heap.size w w2 := (Below.step hb1 hb2); obtain ⟨hc2, hf2⟩ := bcell hb2; have hz2 := hb2.size; (try simp at hz2)) | (go_at_call 27; (with_reducible refine (HF2.out _).mono ?_); rintro e w3 ⟨rfl, hb3⟩; have hB3 : Below w.heap.size w w3 := (Below.step (hB2.alloc hB2.size _) hb3); obtain ⟨hc3, hf3⟩ := bcell hb3; have hz3 := hb3.size; (try simp at hz3); have q3_0 : w2.heap.size < w3.heap.size := (by omega)) | (go_at_call 27; (with_reducible refine (HF3.out _).mono ?_); rintro e w4 ⟨rfl, hb4⟩; have hB4 : Below w.heap.size w w4 := (Below.step (hB3.alloc hB3.size _) hb4); obtain ⟨hc4, hf4⟩ := bcell hb4; have hz4 := hb4.size; (try simp at hz4); have q4_0 : w2.heap.size < w4.heap.size := (by omega); have q4_1 : w3.heap.size < w4.heap.size := (by omega)) | (go_at_call 16; (with_reducible refine (HE.out _).mono ?_); rintro e w5 ⟨rfl, hb5⟩; have hB5 : Below w.heap.size w w5 := (Below.step (hB4.alloc hB4.size _) hb5); obtain ⟨hc5, hf5⟩ := bcell hb5; have hz5 := hb5.size; (try simp at hz5); have q5_0 : w2.heap.size < w5.heap.size := (by omega); have q5_1 : w3.heap.size < w5.heap.size := (by omega); have q5_2 : w4.heap.size < w5.heap.size := (by omega)))
  have p0 : w5.cell? ⟨w2.heap.size, 0, none⟩ = some (.int .u32 a) := by go_simp
  have p1 : w5.cell? ⟨w2.heap.size, 1, none⟩ = some (.int .i64 k) := by go_simp
  have q0 : w5.cell? ⟨w3.heap.size, 0, none⟩ = some (.int .u32 b) := by go_simp
  have q1 : w5.cell? ⟨w3.heap.size, 1, none⟩ = some (.int .i64 m) := by go_simp
  have r0 : w5.cell? ⟨w4.heap.size, 0, none⟩ = some (.int .u32 c) := by go_simp
  have r1 : w5.cell? ⟨w4.heap.size, 1, none⟩ = some (.int .i64 n) := by go_simp
  clear hc2 hf2 hz2 hc3 hf3 hz3 hc4 hf4 hz4 hc5 hf5 hz5 hb1 hb2 hb3 hb4 hb5 hB2 hB3 hB4 HF1 HF2 HF3 HE HT H10 q3_0 q4_0 q4_1
  have qp := q5_0
  have qq := q5_1
  have qr := q5_2
  clear q5_0 q5_1 q5_2
  go_cut [80] (fun s80 wx => s80 = .bool false ∧ Below w5.heap.size w5 wx)
  case first =>
    have t1 := R1.out
    have t2 := R2.out
    clear R1 R2 R3 R4 R5 R6 R7 U1 V1
    have main := ways7 t1 t2
    clear t1 t2 Wpd Wqd Wdr Ifq Ilq Ixp Ixq Ixl Ixh Wlp Whp Kl HC HH
    rcases main with rfl | ⟨rfl, rfl, rfl | ⟨rfl, rfl⟩⟩
    all_goals
        refine wp_region_grows (by kernel_rfl) (by kernel_rfl) ?_
        refine grows_fact _ _ _ p0 qp fun z0 => ?_
        refine grows_fact _ _ _ p1 qp fun z1 => ?_
        refine grows_fact _ _ _ q0 qq fun z2 => ?_
        refine grows_fact _ _ _ q1 qq fun z3 => ?_
        refine grows_fact _ _ _ r0 qr fun z4 => ?_
        refine grows_fact _ _ _ r1 qr fun z5 => ?_
        clear p0 p1 q0 q1 r0 r1
        repeat (go_big_quiet_step ((first | (go_at_call 14; with_reducible exact Calls.grows_of (Wpp.out _)) | (go_at_call 14; with_reducible exact Calls.grows_of (Wpq.out _)) | (go_at_call 14; with_reducible exact Calls.grows_of (Wqp.out _)) | (go_at_call 14; with_reducible exact Calls.grows_of (Wqr.out _)) | (go_at_call 14; with_reducible exact Calls.grows_of (Wpr.out _)) | (go_at_call 21; with_reducible exact Calls.grows_of (HS.out _)))))
        refine wpQuiet_nil ?_
        rintro _ ⟨⟨wz, hbz⟩, rfl⟩
        clear z0 z1 z2 z3 z4 z5
        go_wp2
        go_meet
        exact ⟨by simp, hbz⟩
  case rest =>
  obtain ⟨rfl, hb6⟩ := hcut
  have hB6 : Below w.heap.size w wc := Below.step hB5 hb6
  obtain ⟨w6, hw6⟩ : ∃ w6, w6 = wc := ⟨_, rfl⟩
  subst hw6
  have p0' : w6.cell? ⟨w2.heap.size, 0, none⟩ = some (.int .u32 a) := (hb6.cell (p := ⟨w2.heap.size, 0, none⟩) qp).trans p0
  have p1' : w6.cell? ⟨w2.heap.size, 1, none⟩ = some (.int .i64 k) := (hb6.cell (p := ⟨w2.heap.size, 1, none⟩) qp).trans p1
  have q0' : w6.cell? ⟨w3.heap.size, 0, none⟩ = some (.int .u32 b) := (hb6.cell (p := ⟨w3.heap.size, 0, none⟩) qq).trans q0
  have q1' : w6.cell? ⟨w3.heap.size, 1, none⟩ = some (.int .i64 m) := (hb6.cell (p := ⟨w3.heap.size, 1, none⟩) qq).trans q1
  have r0' : w6.cell? ⟨w4.heap.size, 0, none⟩ = some (.int .u32 c) := (hb6.cell (p := ⟨w4.heap.size, 0, none⟩) qr).trans r0
  have r1' : w6.cell? ⟨w4.heap.size, 1, none⟩ = some (.int .i64 n) := (hb6.cell (p := ⟨w4.heap.size, 1, none⟩) qr).trans r1
  have sz6 := hb6.size
  have qp' : w2.heap.size < w6.heap.size := by omega
  have qq' : w3.heap.size < w6.heap.size := by omega
  have qr' : w4.heap.size < w6.heap.size := by omega
  clear p0 p1 q0 q1 r0 r1 sz6 hb6 hB5 qp qq qr R1 R2
  go_upto_region 9 with fail
  go_cut [128] (fun s128 wx => s128 = .bool false ∧ Below w6.heap.size w6 wx)
  case first =>
    have main := ways9 A B F G X Y U V R3.out R4.out R5.out
    have u1 := U1.out
    have v1 := V1.out
    clear R3 R4 R5 R6 R7 U1 V1 Wpd Wqd Wdr Ixl Ixh Wlp Whp Kl HC HH HS Wpp Wqr Wpr
    rcases main with ⟨rfl, rfl, (⟨rfl, rfl⟩ | ⟨rfl, rfl, rfl⟩ | ⟨rfl, rfl, rfl, rfl⟩ | ⟨rfl, rfl, rfl, rfl, rfl⟩)⟩ | ⟨rfl, rfl, rfl, (⟨rfl, rfl⟩ | ⟨rfl, rfl, rfl⟩ | ⟨rfl, rfl, rfl, rfl⟩ | ⟨rfl, rfl, rfl, rfl, rfl⟩)⟩ | ⟨rfl, rfl, rfl, (⟨rfl, rfl⟩ | ⟨rfl, rfl, rfl⟩ | ⟨rfl, rfl, rfl, rfl⟩ | ⟨rfl, rfl, rfl, rfl⟩)⟩
    all_goals
      as_aux_lemma =>
        refine wp_region_grows (by kernel_rfl) (by kernel_rfl) ?_
        refine grows_fact _ _ _ p0' qp' fun z0 => ?_
        refine grows_fact _ _ _ p1' qp' fun z1 => ?_
        refine grows_fact _ _ _ q0' qq' fun z2 => ?_
        refine grows_fact _ _ _ q1' qq' fun z3 => ?_
        refine grows_fact _ _ _ r0' qr' fun z4 => ?_
        refine grows_fact _ _ _ r1' qr' fun z5 => ?_
        clear p0' p1' q0' q1' r0' r1'
        repeat (go_big_quiet_step ((first | (go_at_call 14; with_reducible exact Calls.grows_of (Wpq.out _)) | (go_at_call 14; with_reducible exact Calls.grows_of (Wqp.out _)) | (go_at_call 13; with_reducible exact Calls.grows_of (Ifq.out _)) | (go_at_call 13; with_reducible exact Calls.grows_of (Ilq.out _)) | (go_at_call 13; with_reducible exact Calls.grows_of (Ixp.out _)) | (go_at_call 13; with_reducible exact Calls.grows_of (Ixq.out _)))))
        refine wpQuiet_nil ?_
        rintro _ ⟨⟨wz, hbz⟩, rfl⟩
        clear z0 z1 z2 z3 z4 z5
        go_wp2
        go_meet
        exact ⟨by simp, hbz⟩
  case rest =>
  obtain ⟨rfl, hb7⟩ := hcut
  have hB7 : Below w.heap.size w wc := Below.step hB6 hb7
  obtain ⟨w7, hw7⟩ : ∃ w7, w7 = wc := ⟨_, rfl⟩
  subst hw7
  have p0 : w7.cell? ⟨w2.heap.size, 0, none⟩ = some (.int .u32 a) := (hb7.cell (p := ⟨w2.heap.size, 0, none⟩) qp').trans p0'
  have p1 : w7.cell? ⟨w2.heap.size, 1, none⟩ = some (.int .i64 k) := (hb7.cell (p := ⟨w2.heap.size, 1, none⟩) qp').trans p1'
  have q0 : w7.cell? ⟨w3.heap.size, 0, none⟩ = some (.int .u32 b) := (hb7.cell (p := ⟨w3.heap.size, 0, none⟩) qq').trans q0'
  have q1 : w7.cell? ⟨w3.heap.size, 1, none⟩ = some (.int .i64 m) := (hb7.cell (p := ⟨w3.heap.size, 1, none⟩) qq').trans q1'
  have r0 : w7.cell? ⟨w4.heap.size, 0, none⟩ = some (.int .u32 c) := (hb7.cell (p := ⟨w4.heap.size, 0, none⟩) qr').trans r0'
  have r1 : w7.cell? ⟨w4.heap.size, 1, none⟩ = some (.int .i64 n) := (hb7.cell (p := ⟨w4.heap.size, 1, none⟩) qr').trans r1'
  have sz7 := hb7.size
  have qp : w2.heap.size < w7.heap.size := by omega
  have qq : w3.heap.size < w7.heap.size := by omega
  have qr : w4.heap.size < w7.heap.size := by omega
  clear p0' p1' q0' q1' r0' r1' sz7 hb7 hB6 qp' qq' qr' R3 R4 U1 V1 R5
  go_upto_region 12 with (go_at_call 29; (with_reducible refine (HC.out _).mono ?_); rintro e w8 ⟨rfl, hb8⟩; have hB8 : Below w.heap.size w w8 := (Below.step hB7 hb8); obtain ⟨hc8, hf8⟩ := bcell hb8; have hz8 := hb8.size; have q8_0 : w2.heap.size < w8.heap.size := (by omega); have q8_1 : w3.heap.size < w8.heap.size := (by omega); have q8_2 : w4.heap.size < w8.heap.size := (by omega))
  obtain ⟨x8, hx8⟩ : ∃ x8, x8 = (w8.alloc (.cells #[.int .u32 d, .int .i64 j] 30)) := ⟨_, rfl⟩
  have p0' : x8.cell? ⟨w2.heap.size, 0, none⟩ = some (.int .u32 a) := by rw [hx8]; go_simp
  have p1' : x8.cell? ⟨w2.heap.size, 1, none⟩ = some (.int .i64 k) := by rw [hx8]; go_simp
  have q0' : x8.cell? ⟨w3.heap.size, 0, none⟩ = some (.int .u32 b) := by rw [hx8]; go_simp
  have q1' : x8.cell? ⟨w3.heap.size, 1, none⟩ = some (.int .i64 m) := by rw [hx8]; go_simp
  have r0' : x8.cell? ⟨w4.heap.size, 0, none⟩ = some (.int .u32 c) := by rw [hx8]; go_simp
  have r1' : x8.cell? ⟨w4.heap.size, 1, none⟩ = some (.int .i64 n) := by rw [hx8]; go_simp
  have d0 : x8.cell? ⟨w8.heap.size, 0, none⟩ = some (.int .u32 d) := by rw [hx8]; go_simp
  have d1 : x8.cell? ⟨w8.heap.size, 1, none⟩ = some (.int .i64 j) := by rw [hx8]; go_simp
  have hB9 : Below w.heap.size w x8 := by rw [hx8]; exact hB8.alloc hB8.size _
  have zx : x8.heap.size = w8.heap.size + 1 := by rw [hx8]; simp
  have qp' : w2.heap.size < x8.heap.size := by omega
  have qq' : w3.heap.size < x8.heap.size := by omega
  have qr' : w4.heap.size < x8.heap.size := by omega
  have qd' : w8.heap.size < x8.heap.size := by omega
  rw [← hx8]
  clear hx8 zx p0 p1 q0 q1 r0 r1 hc8 hf8 hz8 hb8 hB8 hB7 qp qq qr q8_0 q8_1 q8_2 HC
  go_cut [164] (fun s164 wx => s164 = .bool false ∧ Below x8.heap.size x8 wx)
  case first =>
    have main := ways12 R6.out
    clear R6 R7 Ixl Ixh Wlp Whp Kl HH HS Wpp Wpq Wqp Ifq Ilq Ixp Ixq
    rcases main with rfl | ⟨rfl, rfl⟩ | ⟨rfl, rfl, rfl⟩
    all_goals
      go_wp2_with (first
        | (go_at_call 14; (with_reducible refine (Wpd.out _).mono ?_); rintro e y1 ⟨rfl, hy1⟩; obtain ⟨hc1, hf1⟩ := bcell hy1; have hz1 := hy1.size; have g1p : w2.heap.size < y1.heap.size := (by omega); have g1q : w3.heap.size < y1.heap.size := (by omega); have g1r : w4.heap.size < y1.heap.size := (by omega); have g1d : w8.heap.size < y1.heap.size := (by omega))
        | (go_at_call 14; (with_reducible refine (Wqd.out _).mono ?_); rintro e y2 ⟨rfl, hy2⟩; have hY2 : Below x8.heap.size x8 y2 := (Below.step hy1 hy2); obtain ⟨hc2, hf2⟩ := bcell hy2; have hz2 := hy2.size; have g2p : w2.heap.size < y2.heap.size := (by omega); have g2q : w3.heap.size < y2.heap.size := (by omega); have g2r : w4.heap.size < y2.heap.size := (by omega); have g2d : w8.heap.size < y2.heap.size := (by omega))
        | (go_at_call 14; (with_reducible refine (Wpr.out _).mono ?_); rintro e y3 ⟨rfl, hy3⟩; have hY3 : Below x8.heap.size x8 y3 := (Below.step hY2 hy3); obtain ⟨hc3, hf3⟩ := bcell hy3; have hz3 := hy3.size; have g3p : w2.heap.size < y3.heap.size := (by omega); have g3q : w3.heap.size < y3.heap.size := (by omega); have g3r : w4.heap.size < y3.heap.size := (by omega); have g3d : w8.heap.size < y3.heap.size := (by omega))
        | (go_at_call 14; (with_reducible refine (Wqr.out _).mono ?_); rintro e y4 ⟨rfl, hy4⟩; have hY4 : Below x8.heap.size x8 y4 := (Below.step hY3 hy4); obtain ⟨hc4, hf4⟩ := bcell hy4; have hz4 := hy4.size; have g4p : w2.heap.size < y4.heap.size := (by omega); have g4q : w3.heap.size < y4.heap.size := (by omega); have g4r : w4.heap.size < y4.heap.size := (by omega); have g4d : w8.heap.size < y4.heap.size := (by omega))
        | (go_at_call 14; (with_reducible refine (Wdr.out _).mono ?_); rintro e y5 ⟨rfl, hy5⟩; have hY5 : Below x8.heap.size x8 y5 := (Below.step hY4 hy5)))
      go_meet
      first
        | exact ⟨by simp, hY5⟩
        | exact ⟨by simp, hY4⟩
        | exact ⟨by simp, hY3⟩
  case rest =>
  obtain ⟨rfl, hb10⟩ := hcut
  have hB10 : Below w.heap.size w wc := Below.step hB9 hb10
  obtain ⟨w10, hw10⟩ : ∃ w10, w10 = wc := ⟨_, rfl⟩
  subst hw10
  have p0 : w10.cell? ⟨w2.heap.size, 0, none⟩ = some (.int .u32 a) := (hb10.cell (p := ⟨w2.heap.size, 0, none⟩) qp').trans p0'
  have p1 : w10.cell? ⟨w2.heap.size, 1, none⟩ = some (.int .i64 k) := (hb10.cell (p := ⟨w2.heap.size, 1, none⟩) qp').trans p1'
  have sz10 := hb10.size
  have qp : w2.heap.size < w10.heap.size := by omega
  clear p0' p1' q0' q1' r0' r1' d0 d1 sz10 hb10 hB9 qp' qq' qr' qd' R6 Wpd Wqd Wdr Wpr Wqr Wqp Wpq Ifq Ilq Ixq HS Wpp
  have HH' := HH.out
  clear HH
  rcases HH' with ⟨rfl, HH⟩ | ⟨hk, HH⟩
  · have HH2 := Lib.hid HH
    clear HH
    go_wp2_with (go_at_call 15; (with_reducible refine (HH2.out _).mono ?_); rintro e w11 ⟨rfl, hb11⟩; have hB11 : Below w.heap.size w w11 := (Below.step hB10 hb11); obtain ⟨hc11, hf11⟩ := bcell hb11; have hz11 := hb11.size; have q11 : w2.heap.size < w11.heap.size := (by omega))
    go_ret
    exact ⟨ret_bool (by simp), (hB11.alloc hB11.size _).alloc (by have := hB11.size; simp; omega) _⟩
  · have HH2 := Lib.hid HH
    have Ixl := Ixl hk
    have Ixh := Ixh hk
    have Wlp := Wlp hk
    have Whp := Whp hk
    have R7 := R7 hk
    have hkb : (k == 32) = false := by simpa using hk
    clear HH hk
    go_upto_region 17 with (go_at_call 15; (with_reducible refine (HH2.out _).mono ?_); rintro e w11 ⟨rfl, hb11⟩; have hB11 : Below w.heap.size w w11 := (Below.step hB10 hb11); obtain ⟨hc11, hf11⟩ := bcell hb11; have hz11 := hb11.size; have q11 : w2.heap.size < w11.heap.size := (by omega))
    obtain ⟨y, hy⟩ : ∃ y, y = ((w11.alloc (.cells #[.int .u32 a, .int .i64 i] 30)).alloc (.cells #[.int .u32 g, .int .i64 i] 30)) := ⟨_, rfl⟩
    have p0' : y.cell? ⟨w2.heap.size, 0, none⟩ = some (.int .u32 a) := by rw [hy]; go_simp
    have p1' : y.cell? ⟨w2.heap.size, 1, none⟩ = some (.int .i64 k) := by rw [hy]; go_simp
    have l0 : y.cell? ⟨w11.heap.size, 0, none⟩ = some (.int .u32 a) := by rw [hy]; go_simp
    have l1 : y.cell? ⟨w11.heap.size, 1, none⟩ = some (.int .i64 i) := by rw [hy]; go_simp
    have h0 : y.cell? ⟨w11.heap.size + 1, 0, none⟩ = some (.int .u32 g) := by rw [hy]; go_simp
    have h1 : y.cell? ⟨w11.heap.size + 1, 1, none⟩ = some (.int .i64 i) := by rw [hy]; go_simp
    have hBy : Below w.heap.size w y := by rw [hy]; exact (hB11.alloc hB11.size _).alloc (by have := hB11.size; simp; omega) _
    have zy : y.heap.size = w11.heap.size + 2 := by rw [hy]; simp
    have qp' : w2.heap.size < y.heap.size := by omega
    have ql' : w11.heap.size < y.heap.size := by omega
    have qh' : w11.heap.size + 1 < y.heap.size := by omega
    rw [← hy]
    clear hy zy p0 p1 hc11 hf11 hz11 hb11 hB11 qp q11 HH2 hB10
    have R7' := R7.out
    clear R7
    subst R7'
    rcases L with _ | _ <;> rcases H with _ | _
    all_goals
        refine wp_region_grows (by kernel_rfl) (by kernel_rfl) ?_
        refine grows_fact _ _ _ p0' qp' fun z0 => ?_
        refine grows_fact _ _ _ p1' qp' fun z1 => ?_
        refine grows_fact _ _ _ l0 ql' fun z2 => ?_
        refine grows_fact _ _ _ l1 ql' fun z3 => ?_
        refine grows_fact _ _ _ h0 qh' fun z4 => ?_
        refine grows_fact _ _ _ h1 qh' fun z5 => ?_
        clear p0' p1' l0 l1 h0 h1
        repeat (go_big_quiet_step ((first | (go_at_call 13; with_reducible exact Calls.grows_of (Ixp.out _)) | (go_at_call 13; with_reducible exact Calls.grows_of (Ixl.out _)) | (go_at_call 13; with_reducible exact Calls.grows_of (Ixh.out _)) | (go_at_call 30; with_reducible exact Calls.grows_of (Kl.out _)) | (go_at_call 14; with_reducible exact Calls.grows_of (Wlp.out _)) | (go_at_call 14; with_reducible exact Calls.grows_of (Whp.out _)))))
        refine wpQuiet_nil ?_
        rintro _ ⟨⟨wz, hbz⟩, rfl⟩
        clear z0 z1 z2 z3 z4 z5
        go_wp2
        go_ret
        exact ⟨ret_bool (by simp), Below.step hBy hbz⟩
end Go.Proofs.YtdjjogcagolcjaaDoor
