/- LexPlaces returns true, and nothing that was there changes. Under the condition that it names. -/
import Derived.Test.YtnjnncgefijapaaLpW
namespace Go.Proofs.Ytnjnncgefijapaa
open Go.RowKit
set_option maxRecDepth 100000 in
set_option maxHeartbeats 8000000 in
theorem lexPlaces_is (l : List UInt8) (w : World) (hs : l.length ≤ 9223372036854775807) : Calls Try.prog 3 #[.string ⟨l.toArray⟩] w fun e w' => e = .returned (.bool true) ∧ Below w.heap.size w w' := by
  obtain ⟨u, v, E, ls, hll, hok, hup, h1⟩ := line_way l hs
  obtain ⟨tu, tv, TE, d, hdl, htok, htup, h2⟩ := tok_way l hs
  have H1 := Lib.hid h1; have H2 := Lib.hid h2; have HW := Lib.hid (fun W => works_is W)
  have HLL := Lib.hid hll; have HOK := Lib.hid hok; have HUP := Lib.hid hup
  have HDL := Lib.hid hdl; have HTOK := Lib.hid htok; have HTUP := Lib.hid htup
  clear h1 h2 hok hup htok htup hll hdl
  go_enter Try.func3, Try.ntmps3
  go_wp2_with fail
  go_at_call 5
  (with_reducible refine (HW.out _).mono ?_)
  rintro e w0 ⟨rfl, hb0⟩
  have HB0 := Lib.hid hb0
  clear hb0
  go_wp2_with fail
  go_at_call 6
  (with_reducible refine (H1.out _).mono ?_)
  rintro e w1 ⟨x, L, rfl, hL, hv, hb1⟩
  obtain ⟨p, c, rfl⟩ := own_sl hv.1
  have HV := Lib.hid hv; have HL := Lib.hid hL
  have hlen : L.length = ls.length := by rw [← hL]; simp
  have HLEN : Hid (L.length ≤ 65536) := Lib.hid (by have := HLL.out; omega)
  have HB1 := Lib.hid (Below.step HB0.out hb1)
  have hz01 := HB1.out.size
  clear hv hb1 hL hlen
  go_wp2_with fail
  obtain ⟨W1, hW1⟩ : ∃ W1, w1.alloc (.cells #[.int .i64 u, .int .i64 v] 25) = W1 := ⟨_, rfl⟩
  have hB1 : Below w1.heap.size w1 W1 := by rw [← hW1]; exact (Below.refl _ _).alloc (Nat.le_refl _) _
  rw [hW1]
  clear hW1
  go_loopw [6, 7] (fun s6 s7 wr => ∃ (i : Nat) (M : Int), i ≤ L.length ∧ 0 ≤ M ∧ M ≤ 1000000 ∧ s6 = .int .i64 M ∧ s7 = .int .i64 i ∧ Hid (∀ j, i ≤ j → (hj : j < ls.length) → M < ls[j].1) ∧ Below w1.heap.size w1 wr) (fun _ s7 _ => L.length - (intOf s7).toNat)
  case atStart => exact ⟨0, 0, Nat.zero_le _, by omega, by omega, rfl, rfl, Lib.hid (fun j _ hj => by obtain ⟨_, _, r, _, _, h, _⟩ := HOK.out ls[j] (List.getElem_mem hj); omega), hB1⟩
  case round =>
    obtain ⟨i, M, hi, hM0, hM1, rfl, rfl, HM, hbr⟩ := hrel
    have HBR := Lib.hid hbr
    have hzr := hbr.size
    clear hbr
    have hlL : (L.length : Int) ≤ 65536 := by have := HLEN.out; omega
    by_cases hlt : i < L.length
    · have e1 : (0 : Int) ≤ (i : Int) := by omega
      have e2 : (i : Int) < (L.length : Int) := by omega
      have hil : i < ls.length := by rw [← HL.out]; simpa using hlt
      have hxx : L[i].1 = ls[i] := by simp [← HL.out]
      obtain ⟨hE, h65, r, fw, ws', hnum, hr, hrl, hws, hwl, hind, hpl⟩ := HOK.out ls[i] (List.getElem_mem hil)
      have hrise := HM.out i (Nat.le_refl _) hil
      have HNX : Hid (∀ j, i + 1 ≤ j → (hj : j < ls.length) → ls[i].1 < ls[j].1) := Lib.hid (fun j h1 hj => HUP.out i j (by omega) hj)
      obtain ⟨g, c9, hsl, hg1, hg2⟩ := HV.out.1.form (by omega)
      obtain ⟨hp, -⟩ : p = some ⟨g, 0, none⟩ ∧ c = c9 := by simpa using hsl
      clear hsl
      subst hp
      have hx4 := (HV.out.2 L[i] (List.getElem_mem hlt)).1
      have hcl : ∀ wz, Below w1.heap.size w1 wz → _ := fun wz hb => ln_cells (ownsRow_of HV.out.1 fun x _ _ hx => hb.block x hx) hlt
      rw [hxx] at hx4 hcl
      obtain ⟨y, hy⟩ : ∃ y, ls[i] = y := ⟨_, rfl⟩
      rw [hy] at hx4 hcl hnum hws hwl hind hpl hrise HNX
      obtain ⟨num, ind, ws⟩ := y
      simp only at hx4 hcl hnum hws hwl hind hpl hrise HNX
      subst hnum hE
      obtain ⟨vv, hvv⟩ : ∃ y, L[i].2 = y := ⟨_, rfl⟩
      rw [hvv] at hx4 hcl
      obtain ⟨p2, q2, rfl⟩ := own_sl hx4
      have hw0 : 0 < ws.length := by rw [hws]; simp
      obtain ⟨h1, c1, hsl, hh0, hh1⟩ := hx4.form hw0
      obtain ⟨hp, -⟩ : p2 = some ⟨h1, 0, none⟩ ∧ q2 = c1 := by simpa using hsl
      clear hsl
      subst hp
      have hwc : ∀ k, (hk : k < ws.length) → ∀ wz, Below w1.heap.size w1 wz → _ := fun k hk wz hb => wd_cells (ownsRow_of hx4 fun x _ _ hx => hb.block x hx) hk
      have hw00 : ws[0] = (fw, (ind : Int) + 1) := by simp [hws]
      have HCL := Lib.hid hcl; have HWC := Lib.hid hwc; have HPL := Lib.hid hpl; have HRL := Lib.hid hrl
      obtain ⟨a0, a1⟩ := hcl wr HBR.out
      obtain ⟨b0, b1, b2⟩ := hwc 0 hw0 wr HBR.out
      rw [hw00] at b0 b2
      simp only [Nat.zero_mul, Nat.zero_add] at b0 b1 b2
      have e3 : ((ws.length : Int) == 0) = false := beq_eq_false_iff_ne.2 (by omega)
      have e4 : (0 : Int) < (ws.length : Int) := by omega
      have e5 : ¬ (((r : Int) + 1) ≤ M) := by omega
      have e5b : M < (r : Int) + 1 := by omega
      have hwi : IntKind.i64.wrap ((ind : Int) + 1) = (ind : Int) + 1 := IntWalk.i64_in _ ⟨by omega, by omega⟩
      have e6 : ((ind : Int) + 1 != IntKind.i64.wrap ((ind : Int) + 1)) = false := by rw [hwi]; simp
      clear hwi
      have hr0 : (0 : Int) ≤ (r : Int) := by omega
      have hr1 : (r : Int) ≤ 65536 := by omega
      have hi0 : (0 : Int) ≤ (ind : Int) := by omega
      have hi1 : (ind : Int) ≤ 65536 := by omega
      have hwl2 : (ws.length : Int) ≤ 65536 := by omega
      have hgw : g < wr.heap.size := by omega
      have hhw : h1 < wr.heap.size := by omega
      clear hcl hwc hpl hw00 hx4 hxx hvv hy hws hrl
      go_wp2_with fail
      go_quiet (fail)
      have hbq : Below w1.heap.size w1 (wr.drewN nq) := Below.draws HBR.out _
      generalize wr.drewN nq = wo at hbq ⊢
      have HBO := Lib.hid hbq
      obtain ⟨a0, a1⟩ := HCL.out wo hbq
      obtain ⟨b0, b1, b2⟩ := HWC.out 0 hw0 wo hbq
      simp only [Nat.zero_mul, Nat.zero_add] at b0 b1 b2
      clear hbq
      go_wp2_with fail
      go_loopw [8, 9] (fun s8 s9 wx => ∃ (k a : Nat), k ≤ ws.length ∧ s8 = .int .i64 a ∧ s9 = .int .i64 k ∧ a ≤ 65537 ∧ Hid (Placed (rowN l r) a (ws.drop k)) ∧ Below w1.heap.size w1 wx) (fun _ s9 _ => ws.length - (intOf s9).toNat)
      case atStart => exact ⟨0, 0, Nat.zero_le _, rfl, rfl, by omega, HPL, HBO.out⟩
      case round =>
        obtain ⟨k, a, hk, rfl, rfl, ha, HP, hbx⟩ := hrel
        have HBX := Lib.hid hbx
        have hzx := hbx.size
        obtain ⟨a0, a1⟩ := HCL.out wr hbx
        clear hbx
        by_cases hkl : k < ws.length
        · have hbx := HBX.out
          obtain ⟨d0, d1, d2⟩ := HWC.out k hkl wr hbx
          have hdr := HP.out
          rw [List.drop_eq_getElem_cons hkl] at hdr
          obtain ⟨⟨tx, tc⟩, htx⟩ : ∃ y, ws[k] = y := ⟨_, rfl⟩
          rw [htx] at d0 d2 hdr
          obtain ⟨kk, hne, hak, rfl, hk65, hst, hnx⟩ := placed_head hdr HRL.out
          simp only at d0 d2
          have hk0 : (0 : Int) ≤ (k : Int) := by omega
          have hk1 : (k : Int) < (ws.length : Int) := by omega
          have HST := Lib.hid (fun W => stands_is l tx r kk W (by omega) (by omega) (by omega) (by omega))
          rw [hst] at HST
          have HNX2 := Lib.hid hnx
          have hem : tx.isEmpty = false := by rw [List.isEmpty_eq_false_iff]; exact hne
          have hak2 : ¬ ((kk : Int) + 1 ≤ (a : Int)) := by omega
          have hak3 : (a : Int) < (kk : Int) + 1 := by omega
          clear hdr hnx hst htx
          go_wp2_with fail
          go_at_call 7
          (with_reducible refine (HST.out _).mono ?_)
          rintro e w3 ⟨rfl, hb3⟩
          have hn := heap_alloc_new wr (.cells #[.string ⟨tx.toArray⟩, .int .i64 ((r : Int) + 1), .int .i64 ((kk : Int) + 1)] 33)
          have hn3 := (hb3.block wr.heap.size (by simp)).trans hn
          have hbb := Below.step ((Below.refl wr.heap.size wr).alloc (Nat.le_refl _) (.cells #[.string ⟨tx.toArray⟩, .int .i64 ((r : Int) + 1), .int .i64 ((kk : Int) + 1)] 33)) hb3
          obtain ⟨z0, y0⟩ := row_cell' (j := 0) hn3 rfl
          obtain ⟨z1, y1⟩ := row_cell' (j := 1) hn3 rfl
          obtain ⟨z2, y2⟩ := row_cell' (j := 2) hn3 rfl
          have hbx3 : Below w1.heap.size w1 w3 := Below.step HBX.out hbb
          have HBX3 := Lib.hid hbx3
          have htl := mk_size tx
          have htl0 : (0 : Int) ≤ (tx.length : Int) := by omega
          have htl1 : (kk : Int) + 1 + (tx.length : Int) ≤ 65537 := by omega
          have hkk0 : (0 : Int) ≤ (kk : Int) := by omega
          clear hn hn3 hb3 hbb hbx3
          go_wp2_with fail
          go_roundw
          case rel => exact ⟨k + 1, kk + tx.length + 1, by omega, by go_num, by go_num, by omega, HNX2, HBX3.out⟩
          case measure => first | (simp [intOf]; done) | (simp [intOf]; omega)
        · have hk1 : ¬ (k : Int) < (ws.length : Int) := by omega
          clear hkl
          go_wp2_with fail
          go_roundw
          case rel => exact ⟨i + 1, (r : Int) + 1, by omega, by omega, by omega, by go_num, by go_num, HNX, HBX.out⟩
          case measure => first | (simp [intOf]; done) | (simp [intOf]; omega)
    · have e2 : ¬ (i : Int) < (L.length : Int) := by omega
      clear hlt
      go_wp2_with fail
      go_at_call 8
      (with_reducible refine (H2.out _).mono ?_)
      rintro e w2 ⟨x, rfl, ho, hb2⟩
      obtain ⟨p, c, rfl, hp⟩ := own_form ho
      have HO := Lib.hid ho; have HP := Lib.hid hp; have HB2 := Lib.hid hb2
      have hz2 := hb2.size
      have HBA := Lib.hid (Below.step (HB1.out.trans (HBR.out.mono hz01)) hb2)
      clear ho hb2 hp
      go_wp2_with fail
      obtain ⟨W2, hW2⟩ : ∃ W2, (w2.alloc (.cells #[.int .i64 tu, .int .i64 tv] 25)).alloc (.cells #[.int .i64 0, .int .i64 0] 25) = W2 := ⟨_, rfl⟩
      have hB2 : Below w2.heap.size w2 W2 := by rw [← hW2]; exact ((Below.refl _ _).alloc (Nat.le_refl _) _).alloc (by simp) _
      have hq2 : W2.heap[w2.heap.size + 1]? = some (.cells #[.int .i64 0, .int .i64 0] 25 (0, 0)) := by rw [← hW2]; have := heap_alloc_new (w2.alloc (.cells #[.int .i64 tu, .int .i64 tv] 25)) (.cells #[.int .i64 0, .int .i64 0] 25); simpa using this
      rw [hW2]
      clear hW2
      have HBW2 := Lib.hid hB2
      obtain ⟨b, hb⟩ : ∃ b, w2.heap.size + 1 = b := ⟨_, rfl⟩
      rw [hb] at hq2 ⊢
      have HQ2 := Lib.hid hq2
      clear hB2 hq2
      have hdl : (d.length : Int) ≤ 65536 := by have := HDL.out; omega
      go_loopw [14] (fun s14 wx => ∃ (i : Nat) (q1 q2 : Int), i ≤ d.length ∧ s14 = .int .i64 i ∧ wx.heap[b]? = some (.cells #[.int .i64 q1, .int .i64 q2] 25 (0, 0)) ∧ Hid (∀ j, i ≤ j → (hj : j < d.length) → Ahead (q1, q2) d[j].2.2) ∧ Below w2.heap.size w2 wx) (fun s14 _ => d.length - (intOf s14).toNat)
      case atStart => exact ⟨0, 0, 0, Nat.zero_le _, rfl, HQ2.out, Lib.hid (fun j _ hj => by
        obtain ⟨_, _, r, cc, h, _⟩ := HTOK.out d[j] (List.getElem_mem hj)
        rw [h]; exact .inl (by simp only; omega)), HBW2.out⟩
      case round =>
        obtain ⟨i, q1, q2, hi, rfl, hlast, HM, hbr⟩ := hrel
        have HBX := Lib.hid hbr; have HLA := Lib.hid hlast
        have hzx := hbr.size
        clear hbr
        by_cases hlt : i < d.length
        · have e1 : (0 : Int) ≤ (i : Int) := by omega
          have e2 : (i : Int) < (d.length : Int) := by omega
          obtain ⟨hE, h65, r, cc, hpos, hr, hcc, htl, hst⟩ := HTOK.out d[i] (List.getElem_mem hlt)
          have hah := HM.out i (Nat.le_refl _) hlt
          have HNX : Hid (∀ j, i + 1 ≤ j → (hj : j < d.length) → Ahead d[i].2.2 d[j].2.2) := Lib.hid (fun j h1 hj => HTUP.out i j (by omega) hj)
          obtain ⟨g, rfl, hg1, hg2⟩ := HP.out (by omega)
          have hcl : ∀ wz, Below w2.heap.size w2 wz → _ := fun wz hb => tok_cells (ownsRow_of HO.out fun x _ _ hx => hb.block x hx) hlt
          obtain ⟨⟨kd, tx, pp⟩, hy⟩ : ∃ y, d[i] = y := ⟨_, rfl⟩
          rw [hy] at hpos htl hst hah HNX hcl
          simp only at hpos htl hst hah HNX hcl
          subst hpos hE
          simp only at hcl
          have HCL := Lib.hid hcl
          obtain ⟨c0, c1, c2, c3⟩ := hcl wr HBX.out
          obtain ⟨l0, f0⟩ := row_cell' (j := 0) hlast rfl
          obtain ⟨l1, f1⟩ := row_cell' (j := 1) hlast rfl
          have hblt : b < wr.heap.size := (Array.getElem?_eq_some_iff.1 hlast).1
          have hr0 : (0 : Int) ≤ (r : Int) := by omega
          have hc0 : (0 : Int) ≤ (cc : Int) := by omega
          have hr1 : (r : Int) ≤ 65536 := by omega
          have hc1 : (cc : Int) ≤ 65536 := by omega
          have htl2 := mk_size tx
          have HSQ := Lib.hid (fun W => stands_is l [34] r cc W (by omega) (by decide) (by omega) (by omega))
          clear hcl hy hlast
          have hA : (¬ ((r : Int) + 1 < q1)) ∧ (q1 ≤ (r : Int) + 1) := by rcases hah with h | ⟨h, _⟩ <;> (simp only at h; omega)
          obtain ⟨hA1, hA2⟩ := hA
          rcases hst with ⟨hs1, hs2⟩ | ⟨hs1, hs2, hne⟩
          all_goals rw [hs1] at HSQ
          · have HST := Lib.hid (fun W => stands_is l tx r (cc + 1) W (by omega) (by omega) (by omega) (by omega))
            rw [hs2, show (((cc + 1 : Nat) : Int) + 1) = (cc : Int) + 1 + 1 by omega] at HST
            by_cases hA3 : q1 < (r : Int) + 1
            · have hA4 : ((r : Int) + 1 == q1) = false := beq_eq_false_iff_ne.2 (by omega)
              clear hah hs1 hs2
              go_wp2_with fail
              go_at_call 7
              (with_reducible refine (HSQ.out _).mono ?_)
              rintro e w3 ⟨rfl, hb3⟩
              have hw3 := hb3.size
              have hw3b : wr.heap.size < w3.heap.size := by simp at hw3; omega
              have hn := heap_alloc_new wr (.cells #[.int .i64 ((r : Int) + 1), .int .i64 ((cc : Int) + 1)] 25)
              have hn3 := (hb3.block wr.heap.size (by simp)).trans hn
              have hbb := Below.step ((Below.refl wr.heap.size wr).alloc (Nat.le_refl _) (.cells #[.int .i64 ((r : Int) + 1), .int .i64 ((cc : Int) + 1)] 25)) hb3
              obtain ⟨z0, y0⟩ := row_cell' (j := 0) hn3 rfl
              obtain ⟨z1, y1⟩ := row_cell' (j := 1) hn3 rfl
              have HBB := Lib.hid hbb; have HN3 := Lib.hid hn3
              clear hn hn3 hb3 hbb hw3 l0 l1 f0 f1 c0 c1 c2 c3
              go_wp2_with fail
              obtain ⟨w4, hw4⟩ : ∃ w4, w3.setCell ⟨wr.heap.size, 1, none⟩ (.int .i64 ((cc : Int) + 1 + 1)) = w4 := ⟨_, rfl⟩
              rw [hw4]
              have hn4 : w4.heap[wr.heap.size]? = some (.cells #[.int .i64 ((r : Int) + 1), .int .i64 ((cc : Int) + 1 + 1)] 25 (0, 0)) := by rw [← hw4]; exact Lib.heap_setCell_same (i := 1) HN3.out _
              have hb4 : Below wr.heap.size wr w4 := by rw [← hw4]; exact HBB.out.setCell (p := ⟨wr.heap.size, 1, none⟩) (Nat.le_refl _) _
              clear hw4 z0 z1 y0 y1
              obtain ⟨c0, c1, c2, c3⟩ := HCL.out w4 (Below.step HBX.out hb4)
              obtain ⟨b5, hb5⟩ : ∃ b5, wr.heap.size = b5 := ⟨_, rfl⟩
              rw [hb5] at hn4 hb4 hw3b ⊢
              have hb5l : b5 < w4.heap.size := (Array.getElem?_eq_some_iff.1 hn4).1
              have hb45 : b < b5 := by omega
              have hg4 : g < b5 := by omega
              have hg45 : g < w4.heap.size := by omega
              have hb46 : b < w4.heap.size := by omega
              obtain ⟨p0, -⟩ := row_cell' (j := 0) hn4 rfl
              obtain ⟨p1, -⟩ := row_cell' (j := 1) hn4 rfl
              have hlast4 := (hb4.block b hb45).trans HLA.out
              have HB4 := Lib.hid hb4; have HX1 := Lib.hid c1; have HX2 := Lib.hid c2; have HX3 := Lib.hid c3; have HP0 := Lib.hid p0; have HP1 := Lib.hid p1; have HL4 := Lib.hid hlast4
              clear hb4 hn4 hlast4
              refine wp_region_grows (by kernel_rfl) (by kernel_rfl) ?_
              refine grows_fact _ _ _ c1 hg45 fun z0 => ?_
              refine grows_fact _ _ _ p0 hb5l fun z1 => ?_
              refine grows_fact _ _ _ p1 hb5l fun z2 => ?_
              clear c0 c1 c2 c3 p0 p1
              repeat (go_big_quiet_step ((first | (go_at_call 7; with_reducible exact Calls.grows_of (HST.out _)))))
              refine wpQuiet_nil ?_
              rintro _ ⟨⟨wz, hbzz⟩, rfl⟩
              clear z0 z1 z2
              have zX2 := (hbzz.cell (p := ⟨g, i * 4 + 2, none⟩) hg45).trans HX2.out
              have zX3 := (hbzz.cell (p := ⟨g, i * 4 + 3, none⟩) hg45).trans HX3.out
              have hlz := (hbzz.block b hb46).trans HL4.out
              obtain ⟨l0, f0⟩ := row_cell' (j := 0) hlz rfl
              obtain ⟨l1, f1⟩ := row_cell' (j := 1) hlz rfl
              have HLZ := Lib.hid hlz
              have HBZ := Lib.hid (Below.step (Below.step HBX.out (hb5 ▸ HB4.out)) hbzz)
              clear hlz hbzz
              have hn5 := set2v (.int .i64 ((r : Int) + 1)) (.int .i64 ((cc : Int) + 1)) HLZ.out
              have hb5z := (HBZ.out.setCell (p := ⟨b, 0, none⟩) (by have := hb; simp only; omega) (.int .i64 ((r : Int) + 1))).setCell (p := ⟨b, 1, none⟩) (by have := hb; simp only; omega) (.int .i64 ((cc : Int) + 1))
              have HN5 := Lib.hid hn5; have HB5 := Lib.hid hb5z
              clear hn5 hb5z
              go_wp2_with fail
              go_roundw
              case rel => first | exact ⟨i + 1, _, _, by omega, by go_num, HN5.out, HNX, HB5.out⟩ | ((repeat apply Exists.intro); refine ⟨?_, rfl⟩; exact ⟨i + 1, _, _, by omega, by go_num, HN5.out, HNX, HB5.out⟩)
              case measure => first | (simp [intOf]; done) | (simp [intOf]; omega)
            · have hA4 : q1 = (r : Int) + 1 := by omega
              subst hA4
              have hA5 : ¬ ((cc : Int) + 1 ≤ q2) := by rcases hah with h | ⟨_, h⟩ <;> (simp only at h; omega)
              have hA6 : q2 < (cc : Int) + 1 := by omega
              clear hah hs1 hs2 hA3
              go_wp2_with fail
              go_at_call 7
              (with_reducible refine (HSQ.out _).mono ?_)
              rintro e w3 ⟨rfl, hb3⟩
              have hw3 := hb3.size
              have hw3b : wr.heap.size < w3.heap.size := by simp at hw3; omega
              have hn := heap_alloc_new wr (.cells #[.int .i64 ((r : Int) + 1), .int .i64 ((cc : Int) + 1)] 25)
              have hn3 := (hb3.block wr.heap.size (by simp)).trans hn
              have hbb := Below.step ((Below.refl wr.heap.size wr).alloc (Nat.le_refl _) (.cells #[.int .i64 ((r : Int) + 1), .int .i64 ((cc : Int) + 1)] 25)) hb3
              obtain ⟨z0, y0⟩ := row_cell' (j := 0) hn3 rfl
              obtain ⟨z1, y1⟩ := row_cell' (j := 1) hn3 rfl
              have HBB := Lib.hid hbb; have HN3 := Lib.hid hn3
              clear hn hn3 hb3 hbb hw3 l0 l1 f0 f1 c0 c1 c2 c3
              go_wp2_with fail
              obtain ⟨w4, hw4⟩ : ∃ w4, w3.setCell ⟨wr.heap.size, 1, none⟩ (.int .i64 ((cc : Int) + 1 + 1)) = w4 := ⟨_, rfl⟩
              rw [hw4]
              have hn4 : w4.heap[wr.heap.size]? = some (.cells #[.int .i64 ((r : Int) + 1), .int .i64 ((cc : Int) + 1 + 1)] 25 (0, 0)) := by rw [← hw4]; exact Lib.heap_setCell_same (i := 1) HN3.out _
              have hb4 : Below wr.heap.size wr w4 := by rw [← hw4]; exact HBB.out.setCell (p := ⟨wr.heap.size, 1, none⟩) (Nat.le_refl _) _
              clear hw4 z0 z1 y0 y1
              obtain ⟨c0, c1, c2, c3⟩ := HCL.out w4 (Below.step HBX.out hb4)
              obtain ⟨b5, hb5⟩ : ∃ b5, wr.heap.size = b5 := ⟨_, rfl⟩
              rw [hb5] at hn4 hb4 hw3b ⊢
              have hb5l : b5 < w4.heap.size := (Array.getElem?_eq_some_iff.1 hn4).1
              have hb45 : b < b5 := by omega
              have hg4 : g < b5 := by omega
              have hg45 : g < w4.heap.size := by omega
              have hb46 : b < w4.heap.size := by omega
              obtain ⟨p0, -⟩ := row_cell' (j := 0) hn4 rfl
              obtain ⟨p1, -⟩ := row_cell' (j := 1) hn4 rfl
              have hlast4 := (hb4.block b hb45).trans HLA.out
              have HB4 := Lib.hid hb4; have HX1 := Lib.hid c1; have HX2 := Lib.hid c2; have HX3 := Lib.hid c3; have HP0 := Lib.hid p0; have HP1 := Lib.hid p1; have HL4 := Lib.hid hlast4
              clear hb4 hn4 hlast4
              refine wp_region_grows (by kernel_rfl) (by kernel_rfl) ?_
              refine grows_fact _ _ _ c1 hg45 fun z0 => ?_
              refine grows_fact _ _ _ p0 hb5l fun z1 => ?_
              refine grows_fact _ _ _ p1 hb5l fun z2 => ?_
              clear c0 c1 c2 c3 p0 p1
              repeat (go_big_quiet_step ((first | (go_at_call 7; with_reducible exact Calls.grows_of (HST.out _)))))
              refine wpQuiet_nil ?_
              rintro _ ⟨⟨wz, hbzz⟩, rfl⟩
              clear z0 z1 z2
              have zX2 := (hbzz.cell (p := ⟨g, i * 4 + 2, none⟩) hg45).trans HX2.out
              have zX3 := (hbzz.cell (p := ⟨g, i * 4 + 3, none⟩) hg45).trans HX3.out
              have hlz := (hbzz.block b hb46).trans HL4.out
              obtain ⟨l0, f0⟩ := row_cell' (j := 0) hlz rfl
              obtain ⟨l1, f1⟩ := row_cell' (j := 1) hlz rfl
              have HLZ := Lib.hid hlz
              have HBZ := Lib.hid (Below.step (Below.step HBX.out (hb5 ▸ HB4.out)) hbzz)
              clear hlz hbzz
              have hn5 := set2v (.int .i64 ((r : Int) + 1)) (.int .i64 ((cc : Int) + 1)) HLZ.out
              have hb5z := (HBZ.out.setCell (p := ⟨b, 0, none⟩) (by have := hb; simp only; omega) (.int .i64 ((r : Int) + 1))).setCell (p := ⟨b, 1, none⟩) (by have := hb; simp only; omega) (.int .i64 ((cc : Int) + 1))
              have HN5 := Lib.hid hn5; have HB5 := Lib.hid hb5z
              clear hn5 hb5z
              go_wp2_with fail
              go_roundw
              case rel => first | exact ⟨i + 1, _, _, by omega, by go_num, HN5.out, HNX, HB5.out⟩ | ((repeat apply Exists.intro); refine ⟨?_, rfl⟩; exact ⟨i + 1, _, _, by omega, by go_num, HN5.out, HNX, HB5.out⟩)
              case measure => first | (simp [intOf]; done) | (simp [intOf]; omega)
          · have HST := Lib.hid (fun W => stands_is l tx r cc W (by omega) (by omega) (by omega) (by omega))
            rw [hs2] at HST
            have hem : tx.isEmpty = false := by rw [List.isEmpty_eq_false_iff]; exact hne
            by_cases hA3 : q1 < (r : Int) + 1
            · have hA4 : ((r : Int) + 1 == q1) = false := beq_eq_false_iff_ne.2 (by omega)
              clear hah hs1 hs2
              go_wp2_with fail
              go_at_call 7
              (with_reducible refine (HSQ.out _).mono ?_)
              rintro e w3 ⟨rfl, hb3⟩
              have hw3 := hb3.size
              have hw3b : wr.heap.size < w3.heap.size := by simp at hw3; omega
              have hn := heap_alloc_new wr (.cells #[.int .i64 ((r : Int) + 1), .int .i64 ((cc : Int) + 1)] 25)
              have hn3 := (hb3.block wr.heap.size (by simp)).trans hn
              have hbb := Below.step ((Below.refl wr.heap.size wr).alloc (Nat.le_refl _) (.cells #[.int .i64 ((r : Int) + 1), .int .i64 ((cc : Int) + 1)] 25)) hb3
              obtain ⟨z0, y0⟩ := row_cell' (j := 0) hn3 rfl
              obtain ⟨z1, y1⟩ := row_cell' (j := 1) hn3 rfl
              have HBB := Lib.hid hbb; have HN3 := Lib.hid hn3
              clear hn hn3 hb3 hbb hw3 l0 l1 f0 f1 c0 c1 c2 c3
              go_wp2_with fail
              obtain ⟨w4, hw4⟩ : ∃ w4, w3 = w4 := ⟨_, rfl⟩
              rw [hw4]
              have hn4 : w4.heap[wr.heap.size]? = some (.cells #[.int .i64 ((r : Int) + 1), .int .i64 ((cc : Int) + 1)] 25 (0, 0)) := by rw [← hw4]; exact HN3.out
              have hb4 : Below wr.heap.size wr w4 := by rw [← hw4]; exact HBB.out
              clear hw4 z0 z1 y0 y1
              obtain ⟨c0, c1, c2, c3⟩ := HCL.out w4 (Below.step HBX.out hb4)
              obtain ⟨b5, hb5⟩ : ∃ b5, wr.heap.size = b5 := ⟨_, rfl⟩
              rw [hb5] at hn4 hb4 hw3b ⊢
              have hb5l : b5 < w4.heap.size := (Array.getElem?_eq_some_iff.1 hn4).1
              have hb45 : b < b5 := by omega
              have hg4 : g < b5 := by omega
              have hg45 : g < w4.heap.size := by omega
              have hb46 : b < w4.heap.size := by omega
              obtain ⟨p0, -⟩ := row_cell' (j := 0) hn4 rfl
              obtain ⟨p1, -⟩ := row_cell' (j := 1) hn4 rfl
              have hlast4 := (hb4.block b hb45).trans HLA.out
              have HB4 := Lib.hid hb4; have HX1 := Lib.hid c1; have HX2 := Lib.hid c2; have HX3 := Lib.hid c3; have HP0 := Lib.hid p0; have HP1 := Lib.hid p1; have HL4 := Lib.hid hlast4
              clear hb4 hn4 hlast4
              refine wp_region_grows (by kernel_rfl) (by kernel_rfl) ?_
              refine grows_fact _ _ _ c1 hg45 fun z0 => ?_
              refine grows_fact _ _ _ p0 hb5l fun z1 => ?_
              refine grows_fact _ _ _ p1 hb5l fun z2 => ?_
              clear c0 c1 c2 c3 p0 p1
              repeat (go_big_quiet_step ((first | (go_at_call 7; with_reducible exact Calls.grows_of (HST.out _)))))
              refine wpQuiet_nil ?_
              rintro _ ⟨⟨wz, hbzz⟩, rfl⟩
              clear z0 z1 z2
              have zX2 := (hbzz.cell (p := ⟨g, i * 4 + 2, none⟩) hg45).trans HX2.out
              have zX3 := (hbzz.cell (p := ⟨g, i * 4 + 3, none⟩) hg45).trans HX3.out
              have hlz := (hbzz.block b hb46).trans HL4.out
              obtain ⟨l0, f0⟩ := row_cell' (j := 0) hlz rfl
              obtain ⟨l1, f1⟩ := row_cell' (j := 1) hlz rfl
              have HLZ := Lib.hid hlz
              have HBZ := Lib.hid (Below.step (Below.step HBX.out (hb5 ▸ HB4.out)) hbzz)
              clear hlz hbzz
              have hn5 := set2v (.int .i64 ((r : Int) + 1)) (.int .i64 ((cc : Int) + 1)) HLZ.out
              have hb5z := (HBZ.out.setCell (p := ⟨b, 0, none⟩) (by have := hb; simp only; omega) (.int .i64 ((r : Int) + 1))).setCell (p := ⟨b, 1, none⟩) (by have := hb; simp only; omega) (.int .i64 ((cc : Int) + 1))
              have HN5 := Lib.hid hn5; have HB5 := Lib.hid hb5z
              clear hn5 hb5z
              go_wp2_with fail
              go_roundw
              case rel => first | exact ⟨i + 1, _, _, by omega, by go_num, HN5.out, HNX, HB5.out⟩ | ((repeat apply Exists.intro); refine ⟨?_, rfl⟩; exact ⟨i + 1, _, _, by omega, by go_num, HN5.out, HNX, HB5.out⟩)
              case measure => first | (simp [intOf]; done) | (simp [intOf]; omega)
            · have hA4 : q1 = (r : Int) + 1 := by omega
              subst hA4
              have hA5 : ¬ ((cc : Int) + 1 ≤ q2) := by rcases hah with h | ⟨_, h⟩ <;> (simp only at h; omega)
              have hA6 : q2 < (cc : Int) + 1 := by omega
              clear hah hs1 hs2 hA3
              go_wp2_with fail
              go_at_call 7
              (with_reducible refine (HSQ.out _).mono ?_)
              rintro e w3 ⟨rfl, hb3⟩
              have hw3 := hb3.size
              have hw3b : wr.heap.size < w3.heap.size := by simp at hw3; omega
              have hn := heap_alloc_new wr (.cells #[.int .i64 ((r : Int) + 1), .int .i64 ((cc : Int) + 1)] 25)
              have hn3 := (hb3.block wr.heap.size (by simp)).trans hn
              have hbb := Below.step ((Below.refl wr.heap.size wr).alloc (Nat.le_refl _) (.cells #[.int .i64 ((r : Int) + 1), .int .i64 ((cc : Int) + 1)] 25)) hb3
              obtain ⟨z0, y0⟩ := row_cell' (j := 0) hn3 rfl
              obtain ⟨z1, y1⟩ := row_cell' (j := 1) hn3 rfl
              have HBB := Lib.hid hbb; have HN3 := Lib.hid hn3
              clear hn hn3 hb3 hbb hw3 l0 l1 f0 f1 c0 c1 c2 c3
              go_wp2_with fail
              obtain ⟨w4, hw4⟩ : ∃ w4, w3 = w4 := ⟨_, rfl⟩
              rw [hw4]
              have hn4 : w4.heap[wr.heap.size]? = some (.cells #[.int .i64 ((r : Int) + 1), .int .i64 ((cc : Int) + 1)] 25 (0, 0)) := by rw [← hw4]; exact HN3.out
              have hb4 : Below wr.heap.size wr w4 := by rw [← hw4]; exact HBB.out
              clear hw4 z0 z1 y0 y1
              obtain ⟨c0, c1, c2, c3⟩ := HCL.out w4 (Below.step HBX.out hb4)
              obtain ⟨b5, hb5⟩ : ∃ b5, wr.heap.size = b5 := ⟨_, rfl⟩
              rw [hb5] at hn4 hb4 hw3b ⊢
              have hb5l : b5 < w4.heap.size := (Array.getElem?_eq_some_iff.1 hn4).1
              have hb45 : b < b5 := by omega
              have hg4 : g < b5 := by omega
              have hg45 : g < w4.heap.size := by omega
              have hb46 : b < w4.heap.size := by omega
              obtain ⟨p0, -⟩ := row_cell' (j := 0) hn4 rfl
              obtain ⟨p1, -⟩ := row_cell' (j := 1) hn4 rfl
              have hlast4 := (hb4.block b hb45).trans HLA.out
              have HB4 := Lib.hid hb4; have HX1 := Lib.hid c1; have HX2 := Lib.hid c2; have HX3 := Lib.hid c3; have HP0 := Lib.hid p0; have HP1 := Lib.hid p1; have HL4 := Lib.hid hlast4
              clear hb4 hn4 hlast4
              refine wp_region_grows (by kernel_rfl) (by kernel_rfl) ?_
              refine grows_fact _ _ _ c1 hg45 fun z0 => ?_
              refine grows_fact _ _ _ p0 hb5l fun z1 => ?_
              refine grows_fact _ _ _ p1 hb5l fun z2 => ?_
              clear c0 c1 c2 c3 p0 p1
              repeat (go_big_quiet_step ((first | (go_at_call 7; with_reducible exact Calls.grows_of (HST.out _)))))
              refine wpQuiet_nil ?_
              rintro _ ⟨⟨wz, hbzz⟩, rfl⟩
              clear z0 z1 z2
              have zX2 := (hbzz.cell (p := ⟨g, i * 4 + 2, none⟩) hg45).trans HX2.out
              have zX3 := (hbzz.cell (p := ⟨g, i * 4 + 3, none⟩) hg45).trans HX3.out
              have hlz := (hbzz.block b hb46).trans HL4.out
              obtain ⟨l0, f0⟩ := row_cell' (j := 0) hlz rfl
              obtain ⟨l1, f1⟩ := row_cell' (j := 1) hlz rfl
              have HLZ := Lib.hid hlz
              have HBZ := Lib.hid (Below.step (Below.step HBX.out (hb5 ▸ HB4.out)) hbzz)
              clear hlz hbzz
              have hn5 := set2v (.int .i64 ((r : Int) + 1)) (.int .i64 ((cc : Int) + 1)) HLZ.out
              have hb5z := (HBZ.out.setCell (p := ⟨b, 0, none⟩) (by have := hb; simp only; omega) (.int .i64 ((r : Int) + 1))).setCell (p := ⟨b, 1, none⟩) (by have := hb; simp only; omega) (.int .i64 ((cc : Int) + 1))
              have HN5 := Lib.hid hn5; have HB5 := Lib.hid hb5z
              clear hn5 hb5z
              go_wp2_with fail
              go_roundw
              case rel => first | exact ⟨i + 1, _, _, by omega, by go_num, HN5.out, HNX, HB5.out⟩ | ((repeat apply Exists.intro); refine ⟨?_, rfl⟩; exact ⟨i + 1, _, _, by omega, by go_num, HN5.out, HNX, HB5.out⟩)
              case measure => first | (simp [intOf]; done) | (simp [intOf]; omega)
        · have e2 : ¬ (i : Int) < (d.length : Int) := by omega
          clear hlt
          go_wp2_with fail
          go_ret
          exact ⟨rfl, Below.step HBA.out (HBX.out)⟩
end Go.Proofs.Ytnjnncgefijapaa
