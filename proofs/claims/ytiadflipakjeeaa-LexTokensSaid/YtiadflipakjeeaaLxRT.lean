/- What Tokens of package waymarkref07 hands back. Under the conditions that it names. -/
import Derived.Test.YtiadflipakjeeaaLxZ
import Derived.Test.YtiadflipakjeeaaLxG
import Derived.Test.YtiadflipakjeeaaLxY
import Derived.Deep.CutBlock
import Derived.Deep.RegionWith
import Derived.Deep.RegionHeld3
import Derived.Deep.AppendLies
import Derived.IntWalk
namespace Go.Proofs.Ytiadflipakjeeaa
open Go.RowKit
theorem infoRTok : (Try.prog.info? 67).map (fun i => (i.zero, i.size, i.bytes)) = some (some (.agg #[.int .u8 0, .string ⟨#[]⟩, .int .i64 0, .int .i64 0]), 4, 40) := by kernel_rfl
/-- What the document's Tokens hands back. -/
def RTokPost (l : List UInt8) (w : World) (e : Ending) (w' : World) : Prop := Below w.heap.size w w' ∧
  ((∃ u v E : Int, E ≠ 0 ∧ ChkV l = .tuple #[.agg #[.int .i64 u, .int .i64 v], .int .i64 E] ∧ e = .returned (.tuple #[.slice none 0 0, .agg #[.int .i64 u, .int .i64 v], .int .i64 E])) ∨
   (∃ u v : Int, ChkV l = .tuple #[.agg #[.int .i64 0, .int .i64 0], .int .i64 0] ∧ (tk l 0).2 = some (u, v) ∧ e = .returned (.tuple #[.slice none 0 0, .agg #[.int .i64 u, .int .i64 v], .int .i64 71])) ∨
   (∃ s : Value, ChkV l = .tuple #[.agg #[.int .i64 0, .int .i64 0], .int .i64 0] ∧ (tk l 0).2 = none ∧ e = .returned (.tuple #[s, .agg #[.int .i64 0, .int .i64 0], .int .i64 0]) ∧ w'.ownsRow w.heap.size 67 4 s (tk l 0).1.length ((tk l 0).1.flatMap tokC)))
theorem sgn_pos (C : Int) (h : sgn C ≠ 0) : 0 < sgn C := by
  unfold sgn at *
  repeat' split at h
  all_goals first | (simp_all; done) | omega
theorem join_tk {d e f : List (Int × List UInt8 × (Int × Int))} {T0 : List (Int × List UInt8 × (Int × Int)) × Option (Int × Int)} {g : Option (Int × Int)} {X : List (Int × List UInt8 × (Int × Int)) × Option (Int × Int)} (h : T0 = (d ++ X.1, X.2)) (hX : X = (e ++ f, g)) : T0 = ((d ++ e) ++ f, g) := by
  rw [h, hX, List.append_assoc]
set_option maxRecDepth 100000 in
set_option maxHeartbeats 16000000 in
theorem rtokens_is (l : List UInt8) (w : World) (hs : l.length ≤ 9223372036854775807) : Calls Try.prog 10 #[.string ⟨l.toArray⟩] w (RTokPost l w) := by
  have hsz := mk_size l
  have HCK := Lib.hid (fun W => rcheck_is l W hs)
  obtain ⟨Z, hZ⟩ : ∃ Z, w.alloc (.cells #[.int .i64 0, .int .i64 0] 24) = Z := ⟨_, rfl⟩
  have hb0 : Below w.heap.size w Z := by rw [← hZ]; exact (Below.refl _ _).alloc (Nat.le_refl _) _
  have hPZ : Z.heap[w.heap.size]? = some (.cells #[.int .i64 0, .int .i64 0] 24 (0, 0)) := by rw [← hZ]; exact heap_alloc_new w _
  have hz0 : w.heap.size < Z.heap.size := (Array.getElem?_eq_some_iff.1 hPZ).1
  have HB0 := Lib.hid hb0; have HPZ := Lib.hid hPZ
  clear hb0 hPZ
  rcases chk_form l with ⟨u, v, E, hE, hck⟩ | ⟨hck, h65⟩
  · rw [hck] at HCK
    have HE := Lib.hid hE; have HC := Lib.hid hck
    have hEb : (E != 0) = true := by simpa using hE
    clear hE hck
    go_enter Try.func10, Try.ntmps10
    go_wp2_with fail
    go_at_call 16
    (with_reducible refine (HCK.out _).mono ?_)
    rintro e w1 ⟨rfl, hb1⟩
    try clear hZ
    have hP1 : (w1.alloc (.cells #[.int .i64 u, .int .i64 v] 24)).heap[w.heap.size]? = some (.cells #[.int .i64 0, .int .i64 0] 24 (0, 0)) := (heap_alloc_old _ _ (Nat.lt_of_lt_of_le hz0 hb1.size)).trans ((hb1.block _ hz0).trans HPZ.out)
    have hQ1 := heap_alloc_new w1 (.cells #[.int .i64 u, .int .i64 v] 24)
    have hbA : Below w.heap.size w (w1.alloc (.cells #[.int .i64 u, .int .i64 v] 24)) := (Below.step HB0.out hb1).alloc (by have := hb1.size; omega) _
    obtain ⟨W1, hW1⟩ : ∃ W1, w1.alloc (.cells #[.int .i64 u, .int .i64 v] 24) = W1 := ⟨_, rfl⟩
    rw [hW1] at hP1 hQ1 hbA
    obtain ⟨r0, rf0⟩ := row_cell' (j := 0) hP1 rfl
    obtain ⟨r1, rf1⟩ := row_cell' (j := 1) hP1 rfl
    obtain ⟨q0, _⟩ := row_cell' (j := 0) hQ1 rfl
    obtain ⟨q1, _⟩ := row_cell' (j := 1) hQ1 rfl
    have HP1 := Lib.hid hP1; have HBA := Lib.hid hbA
    clear hP1 hQ1 hbA
    go_wp2_with fail
    try rw [hW1]
    clear hW1
    go_region
    go_wp2_with fail
    have hfin : ((W1.setCell ⟨w.heap.size, 0, none⟩ (.int .i64 u)).setCell ⟨w.heap.size, 1, none⟩ (.int .i64 v)).drew.heap[w.heap.size]? = some (.cells #[.int .i64 u, .int .i64 v] 24 (0, 0)) := set2 (m0 := u) (m1 := v) HP1.out
    have hbf : Below w.heap.size w ((W1.setCell ⟨w.heap.size, 0, none⟩ (.int .i64 u)).setCell ⟨w.heap.size, 1, none⟩ (.int .i64 v)).drew := by
      refine Below.drew ?_
      repeat refine Below.setCell ?_ (by simp) _
      exact HBA.out
    obtain ⟨W9, hW9⟩ : ∃ W9, ((W1.setCell ⟨w.heap.size, 0, none⟩ (.int .i64 u)).setCell ⟨w.heap.size, 1, none⟩ (.int .i64 v)).drew = W9 := ⟨_, rfl⟩
    rw [hW9] at hfin hbf ⊢
    clear hW9
    obtain ⟨e0, _⟩ := row_cell' (j := 0) hfin rfl
    obtain ⟨e1, _⟩ := row_cell' (j := 1) hfin rfl
    exact bodyPost_ret (v := .tuple #[.slice none 0 0, .agg #[.int .i64 u, .int .i64 v], .int .i64 E]) (by simp [results, Try.results10, go_sem, e0, e1]) rfl ⟨hbf, .inl ⟨u, v, E, HE.out, HC.out, rfl⟩⟩
  · rw [hck] at HCK
    have HC := Lib.hid hck
    clear hck
    go_enter Try.func10, Try.ntmps10
    go_wp2_with fail
    go_at_call 16
    (with_reducible refine (HCK.out _).mono ?_)
    rintro e w1 ⟨rfl, hb1⟩
    try clear hZ
    have hP1 : (w1.alloc (.cells #[.int .i64 0, .int .i64 0] 24)).heap[w.heap.size]? = some (.cells #[.int .i64 0, .int .i64 0] 24 (0, 0)) := (heap_alloc_old _ _ (Nat.lt_of_lt_of_le hz0 hb1.size)).trans ((hb1.block _ hz0).trans HPZ.out)
    have hbA : Below w.heap.size w (w1.alloc (.cells #[.int .i64 0, .int .i64 0] 24)) := (Below.step HB0.out hb1).alloc (by have := hb1.size; omega) _
    go_wp2_with fail
    obtain ⟨W1, hW1⟩ : ∃ W1, w1.alloc (.cells #[.int .i64 0, .int .i64 0] 24) = W1 := ⟨_, rfl⟩
    rw [hW1] at hP1 hbA ⊢
    clear hW1
    have HP1 := Lib.hid hP1; have HBA := Lib.hid hbA
    have hw1 : w.heap.size < W1.heap.size := (Array.getElem?_eq_some_iff.1 hP1).1
    have HAT := Lib.hid (fun (i : Nat) (hi : i ≤ l.length) W => rat_is l i hi h65 W)
    obtain ⟨T0, hT0⟩ : ∃ T0, tk l 0 = T0 := ⟨_, rfl⟩
    have HT0 := Lib.hid hT0
    clear hP1 hbA hb1 hT0
    go_loopw [7, 8] (fun s7 s8 wr => ∃ (d : List (Int × List UInt8 × (Int × Int))) (k : Nat), k ≤ l.length ∧ s8 = .int .i64 k ∧ Hid (T0 = (d ++ (tk l k).1, (tk l k).2)) ∧ d.length ≤ k ∧ wr.ownsRow W1.heap.size 67 4 s7 d.length (d.flatMap tokC) ∧ Below W1.heap.size W1 wr) (fun _ s8 _ => l.length - (intOf s8).toNat)
    case atStart => exact ⟨[], 0, by omega, rfl, Lib.hid (by rw [← HT0.out]; rfl), by simp, World.ownsRow_nil _ _ _ _, Below.refl _ _⟩
    case round =>
      obtain ⟨d, k, hk, rfl, HT, hdk, hown, hgr⟩ := hrel
      have hPr := (hgr.block w.heap.size hw1).trans HP1.out
      obtain ⟨r0, rf0⟩ := row_cell' (j := 0) hPr rfl
      obtain ⟨r1, rf1⟩ := row_cell' (j := 1) hPr rfl
      have hbw : Below w.heap.size w wr := Below.step HBA.out (hgr.mono (Nat.le_refl _))
      have HPr := Lib.hid hPr; have HBW := Lib.hid hbw; have HOWN := Lib.hid hown; have HGR := Lib.hid hgr
      have hsw := hgr.size
      clear hPr hbw hown hgr
      by_cases hlt : k < l.length
      · have hk1 : k < (⟨l.toArray⟩ : ByteArray).size := by rw [mk_size]; exact hlt
        have hki : (k : Int) < (l.length : Int) := by omega
        by_cases h32 : l[k] = 32
        ·
          have f32 := byte_eq l k hk1 hlt 32 32 rfl
          rw [beq_iff_eq.2 h32] at f32
          have HT2 : Hid (T0 = (d ++ (tk l (k + 1)).1, (tk l (k + 1)).2)) := Lib.hid (by rw [← tk_blank hlt (.inl h32)]; exact HT.out)
          clear h32
          go_wp2_with fail
          go_roundw
          case rel => exact ⟨d, k + 1, by omega, by go_num, HT2, by omega, HOWN.out, HGR.out⟩
          case measure => first | (simp [intOf]; done) | (simp [intOf]; omega)
        by_cases h10 : l[k] = 10
        ·
          have f32 := byte_eq l k hk1 hlt 32 32 rfl
          rw [beq_eq_false_iff_ne.2 h32] at f32
          have f10 := byte_eq l k hk1 hlt 10 10 rfl
          rw [beq_iff_eq.2 h10] at f10
          have HT2 : Hid (T0 = (d ++ (tk l (k + 1)).1, (tk l (k + 1)).2)) := Lib.hid (by rw [← tk_blank hlt (.inr h10)]; exact HT.out)
          clear h32 h10
          go_wp2_with fail
          go_roundw
          case rel => exact ⟨d, k + 1, by omega, by go_num, HT2, by omega, HOWN.out, HGR.out⟩
          case measure => first | (simp [intOf]; done) | (simp [intOf]; omega)
        by_cases h35 : l[k] = 35
        ·
          have f32 := byte_eq l k hk1 hlt 32 32 rfl
          rw [beq_eq_false_iff_ne.2 h32] at f32
          have f10 := byte_eq l k hk1 hlt 10 10 rfl
          rw [beq_eq_false_iff_ne.2 h10] at f10
          have f35 := byte_eq l k hk1 hlt 35 35 rfl
          rw [beq_iff_eq.2 h35] at f35
          obtain ⟨ht1, ht2⟩ := tk_note hlt h35
          have hst := cntE_step hlt h10
          obtain ⟨E, hE⟩ : ∃ E, k + cntU pE (l.drop k) (0, 0) = E := ⟨_, rfl⟩
          rw [hE] at ht1 ht2
          have HT2 : Hid (T0 = (d ++ (tk l E).1, (tk l E).2)) := Lib.hid (by rw [← ht1]; exact HT.out)
          have hkE : k < E := by omega
          have HE := Lib.hid hE
          clear h32 h10 h35 ht1 hst hE
          go_wp2_with fail
          go_loop [8] (fun s8 => ∃ j : Nat, k ≤ j ∧ j ≤ l.length ∧ s8 = .int .i64 j ∧ Hid (j + cntU pE (l.drop j) (0, 0) = E)) (fun s8 => l.length - (intOf s8).toNat)
          case atStart => exact ⟨k, by omega, by omega, rfl, HE⟩
          case round =>
            obtain ⟨j, hj0, hj, rfl, HJ⟩ := hrel
            by_cases hjl : j < l.length
            · have hj1 : j < (⟨l.toArray⟩ : ByteArray).size := by rw [mk_size]; exact hjl
              have hji : (j : Int) < (l.length : Int) := by omega
              have g10 := byte_eq l j hj1 hjl 10 10 rfl
              by_cases h1 : l[j] = 10
              · have hjE : j = E := by have := HJ.out; rw [cntE_at hjl h1] at this; exact this
                rw [beq_iff_eq.2 h1] at g10
                have g10' : ((((⟨l.toArray⟩ : ByteArray)[j]'hj1).toNat : Int) != 10) = false := by simp only [bne, g10]; rfl
                subst hjE
                clear h1 g10 HJ
                go_wp2_with fail
                go_roundw
                case rel => exact ⟨d, j, by omega, by go_num, HT2, by omega, HOWN.out, HGR.out⟩
                case measure => first | (simp [intOf]; done) | (simp [intOf]; omega)
              · have HJ2 : Hid (j + 1 + cntU pE (l.drop (j + 1)) (0, 0) = E) := Lib.hid (by have := HJ.out; rw [cntE_step hjl h1] at this; omega)
                rw [beq_eq_false_iff_ne.2 h1] at g10
                have g10' : ((((⟨l.toArray⟩ : ByteArray)[j]'hj1).toNat : Int) != 10) = true := by simp only [bne, g10]; rfl
                clear h1 g10 HJ
                go_wp2_with fail
                go_round
                case rel => exact ⟨j + 1, by omega, by omega, by go_num, HJ2⟩
                case measure => first | (simp [intOf]; done) | (simp [intOf]; omega)
            · have hjE : j = E := by have := HJ.out; rw [cnt_nil pE (by omega)] at this; exact this
              have hji : ¬ (j : Int) < (l.length : Int) := by omega
              subst hjE
              clear HJ
              go_wp2_with fail
              go_roundw
              case rel => exact ⟨d, j, by omega, by go_num, HT2, by omega, HOWN.out, HGR.out⟩
              case measure => first | (simp [intOf]; done) | (simp [intOf]; omega)
        by_cases h34 : l[k] = 34
        ·
          have f32 := byte_eq l k hk1 hlt 32 32 rfl
          rw [beq_eq_false_iff_ne.2 h32] at f32
          have f10 := byte_eq l k hk1 hlt 10 10 rfl
          rw [beq_eq_false_iff_ne.2 h10] at f10
          have f35 := byte_eq l k hk1 hlt 35 35 rfl
          rw [beq_eq_false_iff_ne.2 h35] at f35
          have f34 := byte_eq l k hk1 hlt 34 34 rfl
          rw [beq_iff_eq.2 h34] at f34
          have hbg : [47, 42].isPrefixOf (l.drop k) = false := by rw [drop_cons hlt, h34]; simp [List.isPrefixOf]
          have HBG : Hid (∀ W, Calls Try.prog 20 #[.string ⟨l.toArray⟩, .int .i64 k] W fun e w' => e = .returned (.bool false) ∧ W = w') := Lib.hid fun W => by have := begins_is l k (by omega) W; rw [hbg] at this; exact this
          have HCL := Lib.hid (fun W => closedQ_is l k h65 hlt h34 W)
          obtain ⟨u, v, huv⟩ : ∃ u v, adv (l.take k) (1, 1) = (u, v) := ⟨_, _, rfl⟩
          have HA : Hid (∀ W, Calls Try.prog 22 #[.string ⟨l.toArray⟩, .int .i64 k] W fun e w' => e = .returned (.agg #[.int .i64 u, .int .i64 v]) ∧ Below W.heap.size W w') := Lib.hid fun W => by have := HAT.out k (by omega) W; rw [huv] at this; exact this
          rcases tk_quo hlt h34 with ⟨hc, ht⟩ | ⟨E, hc, hkE, hEl, ht⟩
          · rw [hc] at HCL
            have HTD : Hid (T0 = (d, some (u, v))) := Lib.hid (by rw [HT.out, ht, huv]; simp)
            clear h32 h10 h35 h34 hbg hc ht huv
            go_wp2_with (first | (go_at_call 20; (with_reducible refine (HBG.out _).mono ?_); rintro e w1 ⟨rfl, rfl⟩) | (go_at_call 21; (with_reducible refine (HCL.out _).mono ?_); rintro e w1 ⟨rfl, rfl⟩))
            go_wp2_with fail
            go_at_call 22
            (with_reducible refine (HA.out _).mono ?_)
            rintro e w2 ⟨rfl, hb2⟩
            have hP2 := (hb2.block _ (Nat.lt_of_lt_of_le hw1 hsw)).trans HPr.out
            have HP2 := Lib.hid hP2
            have HB2 := Lib.hid (Below.step HBW.out hb2)
            clear r0 rf0 r1 rf1
            obtain ⟨r0, rf0⟩ := row_cell' (j := 0) hP2 rfl
            obtain ⟨r1, rf1⟩ := row_cell' (j := 1) hP2 rfl
            clear hP2 hb2
            go_wp2_with fail
            have hfin : ((w2.setCell ⟨w.heap.size, 0, none⟩ (.int .i64 u)).setCell ⟨w.heap.size, 1, none⟩ (.int .i64 v)).heap[w.heap.size]? = some (.cells #[.int .i64 u, .int .i64 v] 24 (0, 0)) := set2 (m0 := u) (m1 := v) HP2.out
            have hbf : Below w.heap.size w ((w2.setCell ⟨w.heap.size, 0, none⟩ (.int .i64 u)).setCell ⟨w.heap.size, 1, none⟩ (.int .i64 v)) := by
              skip
              repeat refine Below.setCell ?_ (by simp) _
              exact HB2.out
            obtain ⟨W9, hW9⟩ : ∃ W9, ((w2.setCell ⟨w.heap.size, 0, none⟩ (.int .i64 u)).setCell ⟨w.heap.size, 1, none⟩ (.int .i64 v)) = W9 := ⟨_, rfl⟩
            rw [hW9] at hfin hbf ⊢
            clear hW9
            obtain ⟨e0, _⟩ := row_cell' (j := 0) hfin rfl
            obtain ⟨e1, _⟩ := row_cell' (j := 1) hfin rfl
            exact bodyPost_ret (v := .tuple #[.slice none 0 0, .agg #[.int .i64 u, .int .i64 v], .int .i64 71]) (by simp [results, Try.results10, go_sem, e0, e1]) rfl ⟨hbf, .inr (.inl ⟨u, v, HC.out, by rw [HT0.out, HTD.out], rfl⟩)⟩
          · rw [hc] at HCL
            have hxt := ext_mid l (k + 1) (E - 1)
            obtain ⟨tx, htx⟩ : ∃ tx, (l.drop (k + 1)).take (E - 1 - (k + 1)) = tx := ⟨_, rfl⟩
            rw [htx, huv] at ht
            rw [htx] at hxt
            have HTX : Hid (T0 = ((d ++ [(1, tx, (u, v))]) ++ (tk l E).1, (tk l E).2)) := Lib.hid (join_tk HT.out ht)
            have hw1k : IntKind.i64.wrap ((k : Int) + 1) = (k : Int) + 1 := IntWalk.i64_in _ (by omega)
            have hwE : IntKind.i64.wrap ((E : Int) - 1) = (E : Int) - 1 := IntWalk.i64_in _ (by omega)
            have hp1 : 0 ≤ (k : Int) + 1 := by omega
            have hp2 : (k : Int) + 1 ≤ (E : Int) - 1 := by omega
            have hp3 : (E : Int) - 1 ≤ (l.length : Int) := by omega
            have hp4 : ((k : Int) + 1).toNat = k + 1 := by omega
            have hp5 : ((E : Int) - 1).toNat = E - 1 := by omega
            clear h32 h10 h35 h34 hbg hc ht huv htx
            go_wp2_with (first | (go_at_call 20; (with_reducible refine (HBG.out _).mono ?_); rintro e w1 ⟨rfl, rfl⟩) | (go_at_call 21; (with_reducible refine (HCL.out _).mono ?_); rintro e w1 ⟨rfl, rfl⟩))
            obtain ⟨i0, hi0, hy0, hy1, hy2⟩ := info_parts infoRTok
            go_wp2_with fail
            go_region_held3 (fun w' => True) (first | trivial | go_keep | (simp [*, World.cell?_alloc_some]; done) | (trace_state; fail)) (first
              | (go_at_call 22; (with_reducible refine (HA.out _).mono ?_); rintro e wz ⟨rfl, hbz⟩; (have hbzz : Below wr.heap.size wr wz := Below.step ((Below.refl _ _).drew) hbz); (have hoz : World.ownsRow wz W1.heap.size 67 4 u7 d.length (d.flatMap tokC) := ownsRow_of HOWN.out (fun x _ _ hx => hbzz.block x hx)); have hzz := hbzz.size)
              | ((refine step_append_lies _ rfl (.tmp 73) (.tmp 84) 42 rfl W1.heap.size 67 i0 (.agg #[.int .u8 0, .string ⟨#[]⟩, .int .i64 0, .int .i64 0]) 4 40 Try.underlying42 hi0 hy0 hy1 hy2 rfl (by decide) _ _ _ rfl (World.ownsRow.alloc hoz _) ⟨wz.heap.size, 0, none⟩ 1 1 [.int .u8 1, .string ⟨(tx).toArray⟩, .int .i64 u, .int .i64 v] rfl rfl (World.news_of_block (heap_alloc_new wz _)) (fun x hx => by simp at hx; rcases hx with rfl | rfl | rfl | rfl <;> rfl) (by omega) (by unfold maxLen; omega) (by omega) (by simp; omega) _ rfl ?_); intro g9 cap9 w9 hown9 hgr9 hor9 hlt9))
            have hsz9 := hbzz.size
            have hk9 : Below W1.heap.size W1 w9 := ⟨hgr9.os.trans (hbzz.os.trans HGR.out.os), hgr9.tape.trans (hbzz.tape.trans HGR.out.tape), hgr9.output.trans (hbzz.output.trans HGR.out.output), Nat.le_trans HGR.out.size (Nat.le_trans hbzz.size (Nat.le_trans (by simp) hgr9.size)), fun x hx => (hgr9.block x (by simp; omega) (fun e => by have := (World.ownsRow.lt HOWN.out x e.symm).1; omega)).trans ((heap_alloc_old _ _ (by omega)).trans ((hbzz.block x (by omega)).trans (HGR.out.block x hx)))⟩
            have hown10 : w9.ownsRow W1.heap.size 67 4 (.slice (some ⟨g9, 0, none⟩) (d.length + 1) cap9) (d ++ [(1, tx, (u, v))]).length ((d ++ [(1, tx, (u, v))]).flatMap tokC) := by
              rw [List.length_append, List.flatMap_append]
              simpa [tokC] using hown9
            go_wp2_with fail
            go_roundw
            case rel => exact ⟨d ++ [(1, tx, (u, v))], E, by omega, by go_num, HTX, by simp; omega, hown10, hk9⟩
            case measure => first | (simp [intOf]; done) | (simp [intOf]; omega)
        by_cases hbg : [47, 42].isPrefixOf (l.drop k) = true
        ·
          have f32 := byte_eq l k hk1 hlt 32 32 rfl
          rw [beq_eq_false_iff_ne.2 h32] at f32
          have f10 := byte_eq l k hk1 hlt 10 10 rfl
          rw [beq_eq_false_iff_ne.2 h10] at f10
          have f35 := byte_eq l k hk1 hlt 35 35 rfl
          rw [beq_eq_false_iff_ne.2 h35] at f35
          have f34 := byte_eq l k hk1 hlt 34 34 rfl
          rw [beq_eq_false_iff_ne.2 h34] at f34
          have HBG : Hid (∀ W, Calls Try.prog 20 #[.string ⟨l.toArray⟩, .int .i64 k] W fun e w' => e = .returned (.bool true) ∧ W = w') := Lib.hid fun W => by have := begins_is l k (by omega) W; rw [hbg] at this; exact this
          have HCL := Lib.hid (fun W => closedC_is l k h65 hlt h34 W)
          obtain ⟨u, v, huv⟩ : ∃ u v, adv (l.take k) (1, 1) = (u, v) := ⟨_, _, rfl⟩
          have HA : Hid (∀ W, Calls Try.prog 22 #[.string ⟨l.toArray⟩, .int .i64 k] W fun e w' => e = .returned (.agg #[.int .i64 u, .int .i64 v]) ∧ Below W.heap.size W w') := Lib.hid fun W => by have := HAT.out k (by omega) W; rw [huv] at this; exact this
          rcases tk_com hlt hbg with ⟨hc, ht⟩ | ⟨E, hc, hkE, hEl, ht⟩
          · rw [hc] at HCL
            have HTD : Hid (T0 = (d, some (u, v))) := Lib.hid (by rw [HT.out, ht, huv]; simp)
            clear h32 h10 h35 h34 hbg hc ht huv
            go_wp2_with (first | (go_at_call 20; (with_reducible refine (HBG.out _).mono ?_); rintro e w1 ⟨rfl, rfl⟩) | (go_at_call 21; (with_reducible refine (HCL.out _).mono ?_); rintro e w1 ⟨rfl, rfl⟩))
            go_wp2_with fail
            go_at_call 22
            (with_reducible refine (HA.out _).mono ?_)
            rintro e w2 ⟨rfl, hb2⟩
            have hP2 := (hb2.block _ (Nat.lt_of_lt_of_le hw1 hsw)).trans HPr.out
            have HP2 := Lib.hid hP2
            have HB2 := Lib.hid (Below.step HBW.out hb2)
            clear r0 rf0 r1 rf1
            obtain ⟨r0, rf0⟩ := row_cell' (j := 0) hP2 rfl
            obtain ⟨r1, rf1⟩ := row_cell' (j := 1) hP2 rfl
            clear hP2 hb2
            go_wp2_with fail
            have hfin : ((w2.setCell ⟨w.heap.size, 0, none⟩ (.int .i64 u)).setCell ⟨w.heap.size, 1, none⟩ (.int .i64 v)).heap[w.heap.size]? = some (.cells #[.int .i64 u, .int .i64 v] 24 (0, 0)) := set2 (m0 := u) (m1 := v) HP2.out
            have hbf : Below w.heap.size w ((w2.setCell ⟨w.heap.size, 0, none⟩ (.int .i64 u)).setCell ⟨w.heap.size, 1, none⟩ (.int .i64 v)) := by
              skip
              repeat refine Below.setCell ?_ (by simp) _
              exact HB2.out
            obtain ⟨W9, hW9⟩ : ∃ W9, ((w2.setCell ⟨w.heap.size, 0, none⟩ (.int .i64 u)).setCell ⟨w.heap.size, 1, none⟩ (.int .i64 v)) = W9 := ⟨_, rfl⟩
            rw [hW9] at hfin hbf ⊢
            clear hW9
            obtain ⟨e0, _⟩ := row_cell' (j := 0) hfin rfl
            obtain ⟨e1, _⟩ := row_cell' (j := 1) hfin rfl
            exact bodyPost_ret (v := .tuple #[.slice none 0 0, .agg #[.int .i64 u, .int .i64 v], .int .i64 71]) (by simp [results, Try.results10, go_sem, e0, e1]) rfl ⟨hbf, .inr (.inl ⟨u, v, HC.out, by rw [HT0.out, HTD.out], rfl⟩)⟩
          · rw [hc] at HCL
            have HT2 : Hid (T0 = (d ++ (tk l E).1, (tk l E).2)) := Lib.hid (by rw [← ht]; exact HT.out)
            clear h32 h10 h35 h34 hbg hc ht huv
            go_wp2_with (first | (go_at_call 20; (with_reducible refine (HBG.out _).mono ?_); rintro e w1 ⟨rfl, rfl⟩) | (go_at_call 21; (with_reducible refine (HCL.out _).mono ?_); rintro e w1 ⟨rfl, rfl⟩))
            go_roundw
            case rel => exact ⟨d, E, by omega, by go_num, HT2, by omega, HOWN.out, HGR.out⟩
            case measure => first | (simp [intOf]; done) | (simp [intOf]; omega)
        by_cases hsg : sgn (l[k]).toNat ≠ 0
        · rw [Bool.not_eq_true] at hbg
          have f32 := byte_eq l k hk1 hlt 32 32 rfl
          rw [beq_eq_false_iff_ne.2 h32] at f32
          have f10 := byte_eq l k hk1 hlt 10 10 rfl
          rw [beq_eq_false_iff_ne.2 h10] at f10
          have f35 := byte_eq l k hk1 hlt 35 35 rfl
          rw [beq_eq_false_iff_ne.2 h35] at f35
          have f34 := byte_eq l k hk1 hlt 34 34 rfl
          rw [beq_eq_false_iff_ne.2 h34] at f34
          have HBG : Hid (∀ W, Calls Try.prog 20 #[.string ⟨l.toArray⟩, .int .i64 k] W fun e w' => e = .returned (.bool false) ∧ W = w') := Lib.hid fun W => by have := begins_is l k (by omega) W; rw [hbg] at this; exact this
          have hget := get_at' l k hk1 hlt
          obtain ⟨C, hC⟩ : ∃ C, (⟨l.toArray⟩ : ByteArray)[k]'hk1 = C := ⟨_, rfl⟩
          rw [hC] at hget f32 f10 f35 f34
          obtain ⟨S, hS⟩ : ∃ S, sgn (l[k]).toNat = S := ⟨_, rfl⟩
          have HS : Hid (∀ W, Calls Try.prog 23 #[.int .u8 C.toNat] W fun e w' => e = .returned (.int .u8 S) ∧ W = w') := Lib.hid fun W => by have := rsign_is C.toNat W; rw [hget, hS] at this; rw [hget]; exact this
          have hS0 : 0 < S := by
            have := sgn_pos (l[k]).toNat (by rw [hS] at hsg ⊢; exact hsg)
            rw [hS] at this
            exact this
          obtain ⟨u, v, huv⟩ : ∃ u v, adv (l.take k) (1, 1) = (u, v) := ⟨_, _, rfl⟩
          have HA : Hid (∀ W, Calls Try.prog 22 #[.string ⟨l.toArray⟩, .int .i64 k] W fun e w' => e = .returned (.agg #[.int .i64 u, .int .i64 v]) ∧ Below W.heap.size W w') := Lib.hid fun W => by have := HAT.out k (by omega) W; rw [huv] at this; exact this
          have ht := tk_sign hlt hsg
          have hxt := ext_mid l k (k + 1)
          have htx : (l.drop k).take (k + 1 - k) = [l[k]] := by
            rw [show k + 1 - k = 1 by omega, drop_cons hlt]; rfl
          rw [htx] at hxt
          obtain ⟨tx, htx2⟩ : ∃ tx, [l[k]] = tx := ⟨_, rfl⟩
          rw [hS, htx2, huv] at ht
          rw [htx2] at hxt
          have HTX : Hid (T0 = ((d ++ [(S, tx, (u, v))]) ++ (tk l (k + 1)).1, (tk l (k + 1)).2)) := Lib.hid (join_tk HT.out ht)
          have hw1k : IntKind.i64.wrap ((k : Int) + 1) = (k : Int) + 1 := IntWalk.i64_in _ (by omega)
          have hp1 : 0 ≤ (k : Int) + 1 := by omega
          have hp2 : (k : Int) ≤ (k : Int) + 1 := by omega
          have hp3 : (k : Int) + 1 ≤ (l.length : Int) := by omega
          have hp4 : ((k : Int) + 1).toNat = k + 1 := by omega
          clear h32 h10 h35 h34 hbg ht huv htx htx2 hsg hS hget
          go_wp2_with (first | (go_at_call 20; (with_reducible refine (HBG.out _).mono ?_); rintro e w1 ⟨rfl, rfl⟩) | (go_at_call 23; (with_reducible refine (HS.out _).mono ?_); rintro e w1 ⟨rfl, rfl⟩))
          obtain ⟨i0, hi0, hy0, hy1, hy2⟩ := info_parts infoRTok
          go_wp2_with fail
          go_region_held3 (fun w' => True) (first | trivial | go_keep | (simp [*, World.cell?_alloc_some]; done) | (trace_state; fail)) (first
            | (go_at_call 22; (with_reducible refine (HA.out _).mono ?_); rintro e wz ⟨rfl, hbz⟩; (have hbzz : Below wr.heap.size wr wz := Below.step ((Below.refl _ _).drew) hbz); (have hoz : World.ownsRow wz W1.heap.size 67 4 u7 d.length (d.flatMap tokC) := ownsRow_of HOWN.out (fun x _ _ hx => hbzz.block x hx)); have hzz := hbzz.size) | (go_at_call 23; (with_reducible refine (HS.out _).mono ?_); rintro e wq ⟨rfl, rfl⟩)
            | ((refine step_append_lies _ rfl (.tmp 92) (.tmp 106) 42 rfl W1.heap.size 67 i0 (.agg #[.int .u8 0, .string ⟨#[]⟩, .int .i64 0, .int .i64 0]) 4 40 Try.underlying42 hi0 hy0 hy1 hy2 rfl (by decide) _ _ _ rfl (World.ownsRow.alloc hoz _) ⟨wz.heap.size, 0, none⟩ 1 1 [.int .u8 S, .string ⟨(tx).toArray⟩, .int .i64 u, .int .i64 v] rfl rfl (World.news_of_block (heap_alloc_new wz _)) (fun x hx => by simp at hx; rcases hx with rfl | rfl | rfl | rfl <;> rfl) (by omega) (by unfold maxLen; omega) (by omega) (by simp; omega) _ rfl ?_); intro g9 cap9 w9 hown9 hgr9 hor9 hlt9))
          have hsz9 := hbzz.size
          have hk9 : Below W1.heap.size W1 w9 := ⟨hgr9.os.trans (hbzz.os.trans HGR.out.os), hgr9.tape.trans (hbzz.tape.trans HGR.out.tape), hgr9.output.trans (hbzz.output.trans HGR.out.output), Nat.le_trans HGR.out.size (Nat.le_trans hbzz.size (Nat.le_trans (by simp) hgr9.size)), fun x hx => (hgr9.block x (by simp; omega) (fun e => by have := (World.ownsRow.lt HOWN.out x e.symm).1; omega)).trans ((heap_alloc_old _ _ (by omega)).trans ((hbzz.block x (by omega)).trans (HGR.out.block x hx)))⟩
          have hown10 : w9.ownsRow W1.heap.size 67 4 (.slice (some ⟨g9, 0, none⟩) (d.length + 1) cap9) (d ++ [(S, tx, (u, v))]).length ((d ++ [(S, tx, (u, v))]).flatMap tokC) := by
            rw [List.length_append, List.flatMap_append]
            simpa [tokC] using hown9
          go_wp2_with fail
          go_roundw
          case rel => exact ⟨d ++ [(S, tx, (u, v))], k + 1, by omega, by go_num, HTX, by simp; omega, hown10, hk9⟩
          case measure => first | (simp [intOf]; done) | (simp [intOf]; omega)
        ·
          have f32 := byte_eq l k hk1 hlt 32 32 rfl
          rw [beq_eq_false_iff_ne.2 h32] at f32
          have f10 := byte_eq l k hk1 hlt 10 10 rfl
          rw [beq_eq_false_iff_ne.2 h10] at f10
          have f35 := byte_eq l k hk1 hlt 35 35 rfl
          rw [beq_eq_false_iff_ne.2 h35] at f35
          have f34 := byte_eq l k hk1 hlt 34 34 rfl
          rw [beq_eq_false_iff_ne.2 h34] at f34
          rw [Bool.not_eq_true] at hbg
          have HBG : Hid (∀ W, Calls Try.prog 20 #[.string ⟨l.toArray⟩, .int .i64 k] W fun e w' => e = .returned (.bool false) ∧ W = w') := Lib.hid fun W => by have := begins_is l k (by omega) W; rw [hbg] at this; exact this
          have hget := get_at' l k hk1 hlt
          have hsg0 : sgn (l[k]).toNat = 0 := by simpa using hsg
          have HS : Hid (∀ W, Calls Try.prog 23 #[.int .u8 ((⟨l.toArray⟩ : ByteArray)[k]'hk1).toNat] W fun e w' => e = .returned (.int .u8 0) ∧ W = w') := Lib.hid fun W => by have := rsign_is ((l[k]).toNat : Int) W; rw [hsg0] at this; rw [hget]; exact this
          obtain ⟨u, v, huv⟩ : ∃ u v, adv (l.take k) (1, 1) = (u, v) := ⟨_, _, rfl⟩
          have HA : Hid (∀ W, Calls Try.prog 22 #[.string ⟨l.toArray⟩, .int .i64 k] W fun e w' => e = .returned (.agg #[.int .i64 u, .int .i64 v]) ∧ Below W.heap.size W w') := Lib.hid fun W => by have := HAT.out k (by omega) W; rw [huv] at this; exact this
          have hbg2 := hbg
          rw [drop_cons hlt] at hbg2
          obtain ⟨ht, hEl, hkE⟩ := tk_word hlt (by rw [drop_cons hlt, pWord_cons]; simp [h32, h10, h34, h35, hsg0, hbg])
          obtain ⟨E, hE⟩ : ∃ E, k + cntU pW (l.drop k) (0, 0) = E := ⟨_, rfl⟩
          have hEc : cntU pW (l.drop k) (0, 0) = E - k := by omega
          rw [hE, hEc] at ht
          rw [hE] at hEl hkE
          have hxt := ext_mid l k E
          obtain ⟨tx, htx⟩ : ∃ tx, (l.drop k).take (E - k) = tx := ⟨_, rfl⟩
          rw [htx, huv] at ht
          rw [htx] at hxt
          have HTX : Hid (T0 = ((d ++ [(1, tx, (u, v))]) ++ (tk l E).1, (tk l E).2)) := Lib.hid (join_tk HT.out ht)
          have HE := Lib.hid hE
          have HXT := Lib.hid hxt
          clear h32 h10 h35 h34 hbg hbg2 ht huv htx hsg hsg0 hget hE hEc hxt
          go_upto_block 4 with (first | (go_at_call 20; (with_reducible refine (HBG.out _).mono ?_); rintro e w1 ⟨rfl, rfl⟩) | (go_at_call 23; (with_reducible refine (HS.out _).mono ?_); rintro e w1 ⟨rfl, rfl⟩))
          go_cut [8] from 111 to 153 (fun s8 wx => s8 = .int .i64 E ∧ wx = wr)
          case first =>
            go_wp2_with fail
            go_loop [8] (fun s8 => ∃ j : Nat, k ≤ j ∧ j ≤ l.length ∧ s8 = .int .i64 j ∧ Hid (j + cntU pW (l.drop j) (0, 0) = E)) (fun s8 => l.length - (intOf s8).toNat)
            case atStart => exact ⟨k, by omega, by omega, rfl, HE⟩
            case round =>
              obtain ⟨j, hj0, hj, rfl, HJ⟩ := hrel
              by_cases hjl : j < l.length
              · have hj1 : j < (⟨l.toArray⟩ : ByteArray).size := by rw [mk_size]; exact hjl
                have hji : (j : Int) < (l.length : Int) := by omega
                by_cases h32j : l[j] = 32
                · have hjE : j = E := by have := HJ.out; rw [cntW_at hjl (by rw [drop_cons hjl, pWord_cons]; simp [h32j])] at this; exact this
                  have g32 := byte_eq l j hj1 hjl 32 32 rfl
                  rw [beq_iff_eq.2 h32j] at g32
                  have n32 : ((((⟨l.toArray⟩ : ByteArray)[j]'hj1).toNat : Int) != 32) = false := by simp only [bne, g32]; rfl
                  subst hjE
                  clear HJ h32j g32
                  go_wp2_with fail
                  go_meet
                  exact ⟨rfl, rfl⟩
                by_cases h10j : l[j] = 10
                · have hjE : j = E := by have := HJ.out; rw [cntW_at hjl (by rw [drop_cons hjl, pWord_cons]; simp [h10j])] at this; exact this
                  have g32 := byte_eq l j hj1 hjl 32 32 rfl
                  rw [beq_eq_false_iff_ne.2 h32j] at g32
                  have n32 : ((((⟨l.toArray⟩ : ByteArray)[j]'hj1).toNat : Int) != 32) = true := by simp only [bne, g32]; rfl
                  have g10 := byte_eq l j hj1 hjl 10 10 rfl
                  rw [beq_iff_eq.2 h10j] at g10
                  have n10 : ((((⟨l.toArray⟩ : ByteArray)[j]'hj1).toNat : Int) != 10) = false := by simp only [bne, g10]; rfl
                  subst hjE
                  clear HJ h32j g32 h10j g10
                  go_wp2_with fail
                  go_meet
                  exact ⟨rfl, rfl⟩
                by_cases h34j : l[j] = 34
                · have hjE : j = E := by have := HJ.out; rw [cntW_at hjl (by rw [drop_cons hjl, pWord_cons]; simp [h34j])] at this; exact this
                  have g32 := byte_eq l j hj1 hjl 32 32 rfl
                  rw [beq_eq_false_iff_ne.2 h32j] at g32
                  have n32 : ((((⟨l.toArray⟩ : ByteArray)[j]'hj1).toNat : Int) != 32) = true := by simp only [bne, g32]; rfl
                  have g10 := byte_eq l j hj1 hjl 10 10 rfl
                  rw [beq_eq_false_iff_ne.2 h10j] at g10
                  have n10 : ((((⟨l.toArray⟩ : ByteArray)[j]'hj1).toNat : Int) != 10) = true := by simp only [bne, g10]; rfl
                  have g34 := byte_eq l j hj1 hjl 34 34 rfl
                  rw [beq_iff_eq.2 h34j] at g34
                  have n34 : ((((⟨l.toArray⟩ : ByteArray)[j]'hj1).toNat : Int) != 34) = false := by simp only [bne, g34]; rfl
                  subst hjE
                  clear HJ h32j g32 h10j g10 h34j g34
                  go_wp2_with fail
                  go_meet
                  exact ⟨rfl, rfl⟩
                by_cases h35j : l[j] = 35
                · have hjE : j = E := by have := HJ.out; rw [cntW_at hjl (by rw [drop_cons hjl, pWord_cons]; simp [h35j])] at this; exact this
                  have g32 := byte_eq l j hj1 hjl 32 32 rfl
                  rw [beq_eq_false_iff_ne.2 h32j] at g32
                  have n32 : ((((⟨l.toArray⟩ : ByteArray)[j]'hj1).toNat : Int) != 32) = true := by simp only [bne, g32]; rfl
                  have g10 := byte_eq l j hj1 hjl 10 10 rfl
                  rw [beq_eq_false_iff_ne.2 h10j] at g10
                  have n10 : ((((⟨l.toArray⟩ : ByteArray)[j]'hj1).toNat : Int) != 10) = true := by simp only [bne, g10]; rfl
                  have g34 := byte_eq l j hj1 hjl 34 34 rfl
                  rw [beq_eq_false_iff_ne.2 h34j] at g34
                  have n34 : ((((⟨l.toArray⟩ : ByteArray)[j]'hj1).toNat : Int) != 34) = true := by simp only [bne, g34]; rfl
                  have g35 := byte_eq l j hj1 hjl 35 35 rfl
                  rw [beq_iff_eq.2 h35j] at g35
                  have n35 : ((((⟨l.toArray⟩ : ByteArray)[j]'hj1).toNat : Int) != 35) = false := by simp only [bne, g35]; rfl
                  subst hjE
                  clear HJ h32j g32 h10j g10 h34j g34 h35j g35
                  go_wp2_with fail
                  go_meet
                  exact ⟨rfl, rfl⟩
                have hgetj := get_at' l j hj1 hjl
                have HSj0 : Hid (∀ W, Calls Try.prog 23 #[.int .u8 ((⟨l.toArray⟩ : ByteArray)[j]'hj1).toNat] W fun e w' => e = .returned (.int .u8 (sgn (l[j]).toNat)) ∧ W = w') := Lib.hid fun W => by have := rsign_is ((l[j]).toNat : Int) W; rw [hgetj]; exact this
                have g32 := byte_eq l j hj1 hjl 32 32 rfl
                rw [beq_eq_false_iff_ne.2 h32j] at g32
                have n32 : ((((⟨l.toArray⟩ : ByteArray)[j]'hj1).toNat : Int) != 32) = true := by simp only [bne, g32]; rfl
                have g10 := byte_eq l j hj1 hjl 10 10 rfl
                rw [beq_eq_false_iff_ne.2 h10j] at g10
                have n10 : ((((⟨l.toArray⟩ : ByteArray)[j]'hj1).toNat : Int) != 10) = true := by simp only [bne, g10]; rfl
                have g34 := byte_eq l j hj1 hjl 34 34 rfl
                rw [beq_eq_false_iff_ne.2 h34j] at g34
                have n34 : ((((⟨l.toArray⟩ : ByteArray)[j]'hj1).toNat : Int) != 34) = true := by simp only [bne, g34]; rfl
                have g35 := byte_eq l j hj1 hjl 35 35 rfl
                rw [beq_eq_false_iff_ne.2 h35j] at g35
                have n35 : ((((⟨l.toArray⟩ : ByteArray)[j]'hj1).toNat : Int) != 35) = true := by simp only [bne, g35]; rfl
                by_cases hsj : sgn (l[j]).toNat ≠ 0
                · have hjE : j = E := by have := HJ.out; rw [cntW_at hjl (by rw [drop_cons hjl, pWord_cons]; simp [hsj])] at this; exact this
                  have HSx := HSj0.out
                  obtain ⟨S, hS⟩ : ∃ S, sgn (l[j]).toNat = S := ⟨_, rfl⟩
                  rw [hS] at HSx hsj
                  have HSj := Lib.hid HSx
                  have hSb : (S == 0) = false := by simpa using hsj
                  subst hjE
                  clear HJ h32j g32 h10j g10 h34j g34 h35j g35 hgetj hsj hS HSx HSj0
                  go_wp2_with (go_at_call 23; (with_reducible refine (HSj.out _).mono ?_); rintro e w1 ⟨rfl, rfl⟩)
                  go_meet
                  exact ⟨rfl, rfl⟩
                have hsj0 : sgn (l[j]).toNat = 0 := by simpa using hsj
                have HSx := HSj0.out
                rw [hsj0] at HSx
                have HSj := Lib.hid HSx
                by_cases hbj : [47, 42].isPrefixOf (l.drop j) = true
                · have hbj2 := hbj
                  rw [drop_cons hjl] at hbj2
                  have hjE : j = E := by have := HJ.out; rw [cntW_at hjl (by rw [drop_cons hjl, pWord_cons]; simp [hbj])] at this; exact this
                  have HBj : Hid (∀ W, Calls Try.prog 20 #[.string ⟨l.toArray⟩, .int .i64 j] W fun e w' => e = .returned (.bool true) ∧ W = w') := Lib.hid fun W => by have := begins_is l j (by omega) W; rw [hbj] at this; exact this
                  subst hjE
                  clear HJ h32j g32 h10j g10 h34j g34 h35j g35 hgetj hsj hsj0 HSx HSj0 hbj hbj2
                  go_wp2_with (first | (go_at_call 23; (with_reducible refine (HSj.out _).mono ?_); rintro e w1 ⟨rfl, rfl⟩) | (go_at_call 20; (with_reducible refine (HBj.out _).mono ?_); rintro e w1 ⟨rfl, rfl⟩))
                  go_meet
                  exact ⟨rfl, rfl⟩
                rw [Bool.not_eq_true] at hbj
                have HBj : Hid (∀ W, Calls Try.prog 20 #[.string ⟨l.toArray⟩, .int .i64 j] W fun e w' => e = .returned (.bool false) ∧ W = w') := Lib.hid fun W => by have := begins_is l j (by omega) W; rw [hbj] at this; exact this
                have hbj2 := hbj
                rw [drop_cons hjl] at hbj2
                have HJ2 : Hid (j + 1 + cntU pW (l.drop (j + 1)) (0, 0) = E) := Lib.hid (by have := HJ.out; rw [cntW_step hjl (by rw [drop_cons hjl, pWord_cons]; simp [h32j, h10j, h34j, h35j, hsj0, hbj])] at this; omega)
                clear HJ h32j g32 h10j g10 h34j g34 h35j g35 hgetj hsj hsj0 HSx HSj0 hbj hbj2
                go_wp2_with (first | (go_at_call 23; (with_reducible refine (HSj.out _).mono ?_); rintro e w1 ⟨rfl, rfl⟩) | (go_at_call 20; (with_reducible refine (HBj.out _).mono ?_); rintro e w1 ⟨rfl, rfl⟩))
                go_round
                case rel => exact ⟨j + 1, by omega, by omega, by go_num, HJ2⟩
                case measure => first | (simp [intOf]; done) | (simp [intOf]; omega)
              · have hjE : j = E := by have := HJ.out; rw [cnt_nil pW (by omega)] at this; exact this
                have hji : ¬ (j : Int) < (l.length : Int) := by omega
                subst hjE
                clear HJ
                go_wp2_with fail
                go_meet
                exact ⟨rfl, rfl⟩
          case rest =>
            obtain ⟨rfl, hwc⟩ := hcut
            obtain rfl : wr = wc := hwc.symm
            have hxt := HXT.out
            have hp1 : (k : Int) ≤ (E : Int) := by omega
            have hp2 : (E : Int) ≤ (l.length : Int) := by omega
            obtain ⟨i0, hi0, hy0, hy1, hy2⟩ := info_parts infoRTok
            go_wp2_with fail
            go_region_held3 (fun w' => True) (first | trivial | go_keep | (simp [*, World.cell?_alloc_some]; done) | (trace_state; fail)) (first
              | (go_at_call 22; (with_reducible refine (HA.out _).mono ?_); rintro e wz ⟨rfl, hbz⟩; (have hbzz : Below wr.heap.size wr wz := Below.step ((Below.refl _ _).drew) hbz); (have hoz : World.ownsRow wz W1.heap.size 67 4 u7 d.length (d.flatMap tokC) := ownsRow_of HOWN.out (fun x _ _ hx => hbzz.block x hx)); have hzz := hbzz.size)
              | ((refine step_append_lies _ rfl (.tmp 154) (.tmp 163) 42 rfl W1.heap.size 67 i0 (.agg #[.int .u8 0, .string ⟨#[]⟩, .int .i64 0, .int .i64 0]) 4 40 Try.underlying42 hi0 hy0 hy1 hy2 rfl (by decide) _ _ _ rfl (World.ownsRow.alloc hoz _) ⟨wz.heap.size, 0, none⟩ 1 1 [.int .u8 1, .string ⟨(tx).toArray⟩, .int .i64 u, .int .i64 v] rfl rfl (World.news_of_block (heap_alloc_new wz _)) (fun x hx => by simp at hx; rcases hx with rfl | rfl | rfl | rfl <;> rfl) (by omega) (by unfold maxLen; omega) (by omega) (by simp; omega) _ rfl ?_); intro g9 cap9 w9 hown9 hgr9 hor9 hlt9))
            have hsz9 := hbzz.size
            have hk9 : Below W1.heap.size W1 w9 := ⟨hgr9.os.trans (hbzz.os.trans HGR.out.os), hgr9.tape.trans (hbzz.tape.trans HGR.out.tape), hgr9.output.trans (hbzz.output.trans HGR.out.output), Nat.le_trans HGR.out.size (Nat.le_trans hbzz.size (Nat.le_trans (by simp) hgr9.size)), fun x hx => (hgr9.block x (by simp; omega) (fun e => by have := (World.ownsRow.lt HOWN.out x e.symm).1; omega)).trans ((heap_alloc_old _ _ (by omega)).trans ((hbzz.block x (by omega)).trans (HGR.out.block x hx)))⟩
            have hown10 : w9.ownsRow W1.heap.size 67 4 (.slice (some ⟨g9, 0, none⟩) (d.length + 1) cap9) (d ++ [(1, tx, (u, v))]).length ((d ++ [(1, tx, (u, v))]).flatMap tokC) := by
              rw [List.length_append, List.flatMap_append]
              simpa [tokC] using hown9
            go_wp2_with fail
            go_roundw
            case rel => exact ⟨d ++ [(1, tx, (u, v))], E, by omega, by go_num, HTX, by simp; omega, hown10, hk9⟩
            case measure => first | (simp [intOf]; done) | (simp [intOf]; omega)
      ·
        have hkl : k = l.length := by omega
        have hTd : T0 = (d, none) := by rw [HT.out, tk_end (by omega)]; simp
        have HTD := Lib.hid hTd
        have hki : ¬ (k : Int) < (l.length : Int) := by omega
        have hown9 : ((wr.setCell ⟨w.heap.size, 0, none⟩ (.int .i64 0)).setCell ⟨w.heap.size, 1, none⟩ (.int .i64 0)).ownsRow w.heap.size 67 4 u7 d.length (d.flatMap tokC) := by
          refine ownsRow_base (ownsRow_of HOWN.out fun x _ hx1 hx2 => ?_) (Nat.le_of_lt hw1)
          rw [Below.heap_setCell _ _ _ _ (by simp; omega), Below.heap_setCell _ _ _ _ (by simp; omega)]
        clear hkl hTd hlt
        go_wp2_with fail
        have hfin : ((wr.setCell ⟨w.heap.size, 0, none⟩ (.int .i64 0)).setCell ⟨w.heap.size, 1, none⟩ (.int .i64 0)).heap[w.heap.size]? = some (.cells #[.int .i64 0, .int .i64 0] 24 (0, 0)) := set2 (m0 := 0) (m1 := 0) HPr.out
        have hbf : Below w.heap.size w ((wr.setCell ⟨w.heap.size, 0, none⟩ (.int .i64 0)).setCell ⟨w.heap.size, 1, none⟩ (.int .i64 0)) := by
          skip
          repeat refine Below.setCell ?_ (by simp) _
          exact HBW.out
        obtain ⟨W9, hW9⟩ : ∃ W9, ((wr.setCell ⟨w.heap.size, 0, none⟩ (.int .i64 0)).setCell ⟨w.heap.size, 1, none⟩ (.int .i64 0)) = W9 := ⟨_, rfl⟩
        rw [hW9] at hfin hbf hown9 ⊢
        clear hW9
        obtain ⟨e0, _⟩ := row_cell' (j := 0) hfin rfl
        obtain ⟨e1, _⟩ := row_cell' (j := 1) hfin rfl
        exact bodyPost_ret (v := .tuple #[u7, .agg #[.int .i64 0, .int .i64 0], .int .i64 0]) (by simp [results, Try.results10, go_sem, e0, e1]) rfl ⟨hbf, .inr (.inr ⟨u7, HC.out, by rw [HT0.out, HTD.out], rfl, by rw [HT0.out, HTD.out]; exact hown9⟩)⟩
end Go.Proofs.Ytiadflipakjeeaa
