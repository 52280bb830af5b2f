/- The law TriePlays. Under the conditions that it names. -/
import Derived.Test.YtodfimnmbfdicaaTuK
import Derived.Test.YtodfimnmbfdicaaTpK
import Derived.Deep.CutBlock
namespace Go.Proofs.Ytodfimnmbfdicaa
open Go.RowKit Go.Shelf
attribute [local go_sem] Oper.semAt_some
/-- A step: its kind, its prefix, its value. -/
abbrev St4 := Int × (Int × Int) × Int
def encSt (x : St4) : List Value := [.int .i64 x.1, .int .u32 x.2.1.1, .int .i64 x.2.1.2, .int .i64 x.2.2]
def encU (x : Int) : List Value := [.int .u32 x]
theorem rd_st {w : World} {v : Value} {L : List St4} (h : RdK encSt 4 w v L) {i : Nat} {x : St4} (hx : L[i]? = some x) : ∃ b o c, v = .slice (some ⟨b, o, none⟩) L.length c ∧ b < w.heap.size ∧ ∀ W, Below w.heap.size w W → W.cell? ⟨b, o + i * 4, none⟩ = some (.int .i64 x.1) ∧ W.cell? ⟨b, o + i * 4 + 1, none⟩ = some (.int .u32 x.2.1.1) ∧ W.cell? ⟨b, o + i * 4 + 1 + 1, none⟩ = some (.int .i64 x.2.1.2) ∧ W.cell? ⟨b, o + i * 4 + 3, none⟩ = some (.int .i64 x.2.2) := by
  obtain ⟨p, c, h1, _, _, h4⟩ := h.sl
  obtain ⟨b, o, rfl, hb, hc⟩ := h4 i x hx
  exact ⟨b, o, c, h1, hb, fun W hW => ⟨hc W hW 0 _ rfl, hc W hW 1 _ rfl, hc W hW 2 _ rfl, hc W hW 3 _ rfl⟩⟩
theorem rd_u {w : World} {v : Value} {L : List Int} (h : RdK encU 1 w v L) {i : Nat} {x : Int} (hx : L[i]? = some x) : ∃ b o c, v = .slice (some ⟨b, o, none⟩) L.length c ∧ b < w.heap.size ∧ ∀ W, Below w.heap.size w W → W.cell? ⟨b, o + i, none⟩ = some (.int .u32 x) := by
  obtain ⟨p, c, h1, _, _, h4⟩ := h.sl
  obtain ⟨b, o, rfl, hb, hc⟩ := h4 i x hx
  exact ⟨b, o, c, h1, hb, fun W hW => by have := hc W hW 0 _ rfl; simpa using this⟩
/-- Where the law's loop stands. -/
structure PlJ (w : World) (t r j : Nat) (wv : Value) (wr : World) : Prop where
  tab : ∃ R, TabTo t r R wr ∧ RdK encRow 3 wr wv R ∧ R.length ≤ j
  bel : Below w.heap.size w wr
/-- What stands within a round. -/
structure Md (w : World) (t r n8 : Nat) (b : Int) (R : List Kv) (wv q o : Value) (R' : List Kv) (W : World) : Prop where
  tab : TabTo t r R' W
  was : RdK encRow 3 W wv R
  it1 : Iter (Fp t r n8) W q R
  it2 : Iter (Fp t r n8) W o (overR b R)
  sz : n8 ≤ W.heap.size
  bel : Below w.heap.size w W
section
variable {w W W' : World} {t r n8 : Nat} {b : Int} {R R' R2 : List Kv} {wv q o : Value}
theorem Md.on (h : Md w t r n8 b R wv q o R' W) (hb : Below W.heap.size W W') : Md w t r n8 b R wv q o R' W' :=
  ⟨h.tab.on hb, h.was.below hb, h.it1.on h.sz hb, h.it2.on h.sz hb, Nat.le_trans h.sz hb.size, Below.step h.bel hb⟩
theorem Md.put (h : Md w t r n8 b R wv q o R' W) (hk : Kept2_i t r W W') (hT : TabTo t r R2 W') (htr : w.heap.size ≤ t ∧ w.heap.size ≤ r) : Md w t r n8 b R wv q o R2 W' :=
  ⟨hT, h.was.tab h.tab hk, h.it1.tab h.sz hk, h.it2.tab h.sz hk, Nat.le_trans h.sz hk.size, h.bel.trans (hk.below htr.1 htr.2 h.bel.size)⟩
theorem Md.put2 {t2 r2 : Nat} (h : Md w t r n8 b R wv q o R' W) (h2 : TabTo t2 r2 R2 W) (hk : Kept2_i t2 r2 W W') (hn : n8 ≤ t2 ∧ n8 ≤ r2) (ht : t < n8 ∧ r < n8) (hw : w.heap.size ≤ n8) : Md w t r n8 b R wv q o R' W' :=
  ⟨h2.beside h.tab (by omega) (by omega) hk, h.was.tab h2 hk, h.it1.tab2 h.sz hn.1 hn.2 hk, h.it2.tab2 h.sz hn.1 hn.2 hk, Nat.le_trans h.sz hk.size, h.bel.trans (hk.below (by omega) (by omega) h.bel.size)⟩
end
set_option maxRecDepth 100000 in
set_option maxHeartbeats 16000000 in
theorem plays_law (l : List St4) (lv : Value) (ads : List Int) (av : Value) (leave : Int) (w : World) (hr : RdK encSt 4 w lv l) (hrg : ∀ x ∈ l, 0 ≤ x.2.1.1 ∧ x.2.1.1 < 4294967296) (ha : RdK encU 1 w av ads) (hag : ∀ x ∈ ads, 0 ≤ x ∧ x < 4294967296) :
    Calls Try.prog 3 #[lv, av, .int .i64 leave] w fun e w' => e = .returned (.bool true) ∧ Below w.heap.size w w' := by
  have HL := Lib.hid hr; have HRG := Lib.hid hrg; have HA := Lib.hid ha; have HAG := Lib.hid hag
  obtain ⟨p, c, rfl, hlc, hcm, _⟩ := hr.sl
  obtain ⟨pa, ca, rfl, hac, ham, _⟩ := ha.sl
  unfold maxLen at hcm ham
  clear hr hrg ha hag
  go_enter Try.func3, Try.ntmps3
  go_wp2_with fail
  go_at_call 8
  refine (new_is_i w).mono ?_
  rintro e w1 ⟨t, r, rfl, hts, hrs, htab, hb1⟩
  have HTR : Hid (w.heap.size ≤ t ∧ w.heap.size ≤ r) := Lib.hid ⟨hts, hrs⟩
  have HT1 : Hid (TabTo t r [] w1) := Lib.hid ⟨[], .nil, htab, Same.nil, trivial, rfl⟩
  have HB1 := Lib.hid hb1
  clear hts hrs htab hb1
  go_wp2_with fail
  go_loopw [8, 9] (fun s8 s9 wr => ∃ j : Nat, j ≤ l.length ∧ j ≤ 120 ∧ s9 = .int .i64 j ∧ Hid (PlJ w t r j s8 wr)) (fun _ s9 _ => l.length - (intOf s9).toNat)
  case atStart => exact ⟨0, Nat.zero_le _, Nat.zero_le _, rfl, Lib.hid ⟨⟨[], HT1.out, RdK.nil _, Nat.le_refl _⟩, HB1.out⟩⟩
  case round =>
    obtain ⟨j, hj, hj2, rfl, HJ⟩ := hrel
    obtain ⟨R, hT, hR, hRl⟩ := HJ.out.tab
    have HT := Lib.hid hT; have HR := Lib.hid hR
    have HBJ := Lib.hid HJ.out.bel
    have e1 : (0 : Int) ≤ (j : Int) := by omega
    clear hT hR
    by_cases hlt : j < l.length
    · by_cases h120 : j < 120
      · obtain ⟨⟨kd, ⟨b, m⟩, v⟩, hx⟩ : ∃ x, l[j]? = some x := ⟨_, List.getElem?_eq_getElem hlt⟩
        obtain ⟨bs, os, c', he, hbl, hcx⟩ := rd_st HL.out hx
        simp only [Value.slice.injEq] at he
        obtain ⟨rfl, -, rfl⟩ := he
        have hrx := HRG.out _ (List.mem_of_getElem? hx)
        have hb0 : 0 ≤ b := hrx.1
        have hb1 : b < 4294967296 := hrx.2
        have HCX : Hid (∀ W, Below w.heap.size w W → W.cell? ⟨bs, os + j * 4, none⟩ = some (.int .i64 kd) ∧ W.cell? ⟨bs, os + j * 4 + 1, none⟩ = some (.int .u32 b) ∧ W.cell? ⟨bs, os + j * 4 + 1 + 1, none⟩ = some (.int .i64 m) ∧ W.cell? ⟨bs, os + j * 4 + 3, none⟩ = some (.int .i64 v)) := Lib.hid hcx
        have e2 : (j : Int) < (l.length : Int) := by omega
        have e3 : (j : Int) < 120 := by omega
        obtain ⟨f0, f1, f2, f3⟩ := HCX.out wr HBJ.out
        clear hx hcx hrx hbl HJ hj hj2
        go_wp2_with fail
        go_cut [10, 11, 12] (fun s10 s11 s12 wx => s10 = u8 ∧ Iter (Fp t r wx.heap.size) wx s11 R ∧ Iter (Fp t r wx.heap.size) wx s12 (overR b R) ∧ Below wr.heap.size wr wx)
        case first =>
          --A{
          have HB : Hid (Below wr.heap.size wr wr) := Lib.hid (Below.refl _ _)
          go_region_held3 (fun w' => w'.cell? ⟨bs, os + j * 4 + 1, none⟩ = some (.int .u32 b) ∧ w'.cell? ⟨bs, os + j * 4 + 1 + 1, none⟩ = some (.int .i64 m) ∧ w'.cell? ⟨bs, os + j * 4 + 3, none⟩ = some (.int .i64 v)) (first | with_reducible exact ⟨f1, f2, f3⟩ | exact ⟨f1, f2, f3⟩) (first
            | (go_at_call 9; (with_reducible refine (all_tab (HT.out.on (by first | exact HB.out | exact HB.out.drew | exact HB.out.drew.drew))).mono ?_); rintro e wv ⟨va, rfl, hit, hbv⟩; have HIA := Lib.hid hit; (try (have HIO := Lib.hid (HIO.out.next hbv))); have hbx := Below.step (show Below wr.heap.size wr _ from (by first | exact HB.out | exact HB.out.drew | exact HB.out.drew.drew)) hbv; have HB := Lib.hid hbx; obtain ⟨f0, f1, f2, f3⟩ := HCX.out wv (Below.step HBJ.out hbx); clear hbx hbv hit)
            | (go_at_call 10; (with_reducible refine (over_tab b (HT.out.on (by first | exact HB.out | exact HB.out.drew | exact HB.out.drew.drew))).mono ?_); rintro e wv ⟨vo, rfl, hit, hbv⟩; have HIO := Lib.hid hit; (try (have HIA := Lib.hid (HIA.out.next hbv))); have hbx := Below.step (show Below wr.heap.size wr _ from (by first | exact HB.out | exact HB.out.drew | exact HB.out.drew.drew)) hbv; have HB := Lib.hid hbx; obtain ⟨f0, f1, f2, f3⟩ := HCX.out wv (Below.step HBJ.out hbx); clear hbx hbv hit))
          all_goals
            go_wp2_with fail
            go_meet
            exact ⟨rfl, HIA.out, HIO.out, HB.out⟩
          --}A
        case rest =>
          obtain ⟨hs10, hi1, hi2, hb8⟩ := hcut
          obtain ⟨n8, hn8⟩ : ∃ n, wc.heap.size = n := ⟨_, rfl⟩
          rw [hn8] at hi1 hi2
          have HM : Hid (Md w t r n8 b R u8 u11 u12 R wc) := Lib.hid ⟨HT.out.on hb8, HR.out.below hb8, hi1, hi2, by omega, Below.step HBJ.out hb8⟩
          have hnl := HT.out.lt
          have hnz := hb8.size
          have hwz := HBJ.out.size
          have HTN : Hid (t < n8 ∧ r < n8) := Lib.hid ⟨by omega, by omega⟩
          have HWN : Hid (w.heap.size ≤ n8) := Lib.hid (by omega)
          have HS10 := Lib.hid hs10
          have hR1 : R.length ≤ 100000 := by omega
          have hR2 : R.length ≤ 119 := by omega
          obtain ⟨f0, f1, f2, f3⟩ := HCX.out wc HM.out.bel
          have HRGR := Lib.hid HT.out.rg
          have HOL := Lib.hid (show (overR b R).length ≤ 100000 from Nat.le_trans (over_len b HT.out) (by omega))
          clear hi1 hi2 hb8 hnl hnz hwz hn8 hs10 HBJ HT HR
          subst_vars
          go_upto_block 2 with fail
          go_cut [8, 13, 14] (fun s8 s13 s14 wx => ∃ (R' : List Kv) (ec : Int), s13 = .int .i64 ec ∧ s14 = .int .i64 ec ∧ RdK encRow 3 wx s8 R' ∧ R'.length ≤ j + 1 ∧ Md w t r n8 b R u10 u11 u12 R' wx)
          case first =>
            by_cases k0 : kd = 0
            · subst k0
              --B{
              as_aux_lemma =>
                go_wp2_with fail
                go_still_tail 11, (by kernel_rfl)
                change wpList _ _ _ _ _ wc.drew
                have HM := Lib.hid (HM.out.on ((Below.refl _ _).drew : Below wc.heap.size wc wc.drew))
                generalize wc.drew = wd at HM ⊢
                clear f0 f1 f2 f3
                go_wp2_with fail
                go_at_call 11
                refine (put_tab b m v HM.out.tab hb0 hb1).mono ?_
                rintro e we ⟨rfl, ht2, hk2⟩
                have HM2 := Lib.hid (HM.out.put hk2 ht2 HTR.out)
                obtain ⟨f0, f1, f2, f3⟩ := HCX.out we HM2.out.bel
                clear ht2 hk2 HM
                go_wp2_with fail
                have hpl := putC_len (b, m) v R
                have HB : Hid (Below we.heap.size we we) := Lib.hid (Below.refl _ _)
                go_region_held3 (fun w' => w'.cell? ⟨bs, os + j * 4 + 1, none⟩ = some (.int .u32 b) ∧ w'.cell? ⟨bs, os + j * 4 + 1 + 1, none⟩ = some (.int .i64 m) ∧ w'.cell? ⟨bs, os + j * 4 + 3, none⟩ = some (.int .i64 v)) (first | with_reducible exact ⟨f1, f2, f3⟩ | exact ⟨f1, f2, f3⟩) (first
                  | (go_at_call 12; (with_reducible refine (rput_is R _ b m v _ (HM2.out.was.below (by first | exact HB.out | exact HB.out.drew | exact HB.out.drew.drew)) hR1 hb0 hb1).mono ?_); rintro e wg ⟨v', rfl, hr', hb'⟩; have HR3 := Lib.hid hr'; have HM3 := Lib.hid (HM2.out.on (Below.step (show Below we.heap.size we _ from (by first | exact HB.out | exact HB.out.drew | exact HB.out.drew.drew)) hb')); obtain ⟨f0, f1, f2, f3⟩ := HCX.out wg HM3.out.bel; clear hr' hb'))
                all_goals
                  go_wp2_with fail
                  go_meet
                  exact ⟨_, _, rfl, rfl, HR3.out, by omega, HM3.out⟩
              --}B
            by_cases k1 : kd = 1
            · subst k1
              --C{
              as_aux_lemma =>
                go_wp2_with fail
                go_at_call 13
                refine (drop_tab b m HM.out.tab hb0 hb1).mono ?_
                rintro e we ⟨rfl, ht2, hk2⟩
                have HM2 := Lib.hid (HM.out.put hk2 ht2 HTR.out)
                obtain ⟨f0, f1, f2, f3⟩ := HCX.out we HM2.out.bel
                clear ht2 hk2 HM
                go_wp2_with fail
                go_at_call 14
                refine (rdrop_is R _ b m we HM2.out.was hR1 hb0 hb1).mono ?_
                rintro e wg ⟨v', rfl, hr', hb'⟩
                have HM3 := Lib.hid (HM2.out.on hb')
                have HR3 := Lib.hid hr'
                have hpl := dropV_len b m R
                clear hr' hb' HM2
                go_wp2_with fail
                go_meet
                exact ⟨_, _, rfl, rfl, HR3.out, by omega, HM3.out⟩
              --}C
            by_cases k2 : kd = 2
            · subst k2
              --D{
              as_aux_lemma =>
                go_wp2_with fail
                go_at_call 15
                refine (copy_tab HM.out.tab).mono ?_
                rintro e we ⟨t2, r2, rfl, hc2, hb2, ht2, hr2⟩
                have HM2 := Lib.hid (HM.out.on hb2)
                have HC2 := Lib.hid hc2
                have HN2 : Hid (n8 ≤ t2 ∧ n8 ≤ r2) := Lib.hid (by have := HM.out.sz; exact ⟨by omega, by omega⟩)
                obtain ⟨f0, f1, f2, f3⟩ := HCX.out we HM2.out.bel
                clear hc2 hb2 ht2 hr2 HM
                go_wp2_with fail
                go_cut [122] (fun s122 wx => s122 = .bool false ∧ TabTo t2 r2 (putC (b, m) v R) wx ∧ Kept2_i t2 r2 we wx)
                case first =>
                  as_aux_lemma =>
                    have HB : Hid (Below we.heap.size we we) := Lib.hid (Below.refl _ _)
                    go_region_held3 (fun w' => w'.cell? ⟨bs, os + j * 4 + 1, none⟩ = some (.int .u32 b) ∧ w'.cell? ⟨bs, os + j * 4 + 1 + 1, none⟩ = some (.int .i64 m) ∧ w'.cell? ⟨bs, os + j * 4 + 3, none⟩ = some (.int .i64 v)) (first | with_reducible exact ⟨f1, f2, f3⟩ | exact ⟨f1, f2, f3⟩) (first
                      | (go_at_call 11; (with_reducible refine (put_tab b m v (HC2.out.on (by first | exact HB.out | exact HB.out.drew | exact HB.out.drew.drew)) hb0 hb1).mono ?_); rintro e wv ⟨rfl, htp, hkp⟩; have HTP := Lib.hid htp; have HKP := Lib.hid (Kept2_i.trans (Kept2_i.of (show Below we.heap.size we _ from (by first | exact HB.out | exact HB.out.drew | exact HB.out.drew.drew))) hkp); obtain ⟨f0, f1, f2, f3⟩ := HCX.out wv (HM2.out.put2 HC2.out HKP.out HN2.out HTN.out HWN.out).bel; clear htp hkp)
                      | (go_at_call 16; (with_reducible refine (rcheck_is b m _ hb0 hb1).mono ?_); rintro e wv ⟨rfl, hbv⟩; first | (have HTP := Lib.hid (HTP.out.on hbv); have HKP := Lib.hid (HKP.out.trans (Kept2_i.of hbv)); obtain ⟨f0, f1, f2, f3⟩ := HCX.out wv (HM2.out.put2 HC2.out HKP.out HN2.out HTN.out HWN.out).bel; clear hbv) | (have HB := Lib.hid (Below.step (show Below we.heap.size we _ from (by first | exact HB.out | exact HB.out.drew | exact HB.out.drew.drew)) hbv); obtain ⟨f0, f1, f2, f3⟩ := HCX.out wv (Below.step HM2.out.bel HB.out); clear hbv)))
                    all_goals
                      go_wp2_with fail
                      go_meet
                      exact ⟨rfl, HTP.out, HKP.out⟩
                case rest =>
                  obtain ⟨hs122, htp, hkp⟩ := hcut
                  subst hs122
                  have HM3 := Lib.hid (HM2.out.put2 HC2.out hkp HN2.out HTN.out HWN.out)
                  have HTP := Lib.hid htp
                  obtain ⟨f0, f1, f2, f3⟩ := HCX.out wc HM3.out.bel
                  clear htp hkp HM2 HC2
                  go_wp2_with fail
                  go_cut [16, 17] (fun s16 s17 wx => RdK encRow 3 wx s16 (putC (b, m) v R) ∧ Below wc.heap.size wc wx)
                  case first =>
                    as_aux_lemma =>
                      have HB : Hid (Below wc.heap.size wc wc) := Lib.hid (Below.refl _ _)
                      go_region_held3 (fun w' => w'.cell? ⟨bs, os + j * 4 + 1, none⟩ = some (.int .u32 b) ∧ w'.cell? ⟨bs, os + j * 4 + 1 + 1, none⟩ = some (.int .i64 m) ∧ w'.cell? ⟨bs, os + j * 4 + 3, none⟩ = some (.int .i64 v)) (first | with_reducible exact ⟨f1, f2, f3⟩ | exact ⟨f1, f2, f3⟩) (first
                      | (go_at_call 12; (with_reducible refine (rput_is R _ b m v _ (HM3.out.was.below (by first | exact HB.out | exact HB.out.drew | exact HB.out.drew.drew)) hR1 hb0 hb1).mono ?_); rintro e wg ⟨v', rfl, hr', hb'⟩; have HR3 := Lib.hid hr'; have HBG := Lib.hid (Below.step (show Below wc.heap.size wc _ from (by first | exact HB.out | exact HB.out.drew | exact HB.out.drew.drew)) hb'); obtain ⟨f0, f1, f2, f3⟩ := HCX.out wg (Below.step HM3.out.bel HBG.out); clear hr' hb'))
                      all_goals
                        go_wp2_with fail
                        go_meet
                        exact ⟨HR3.out, HBG.out⟩
                  case rest =>
                    obtain ⟨hr16, hb16⟩ := hcut
                    have HM4 := Lib.hid (HM3.out.on hb16)
                    have HTQ := Lib.hid (HTP.out.on hb16)
                    have HR4 := Lib.hid hr16
                    have hpl := putC_len (b, m) v R
                    obtain ⟨f0, f1, f2, f3⟩ := HCX.out wc HM4.out.bel
                    clear hr16 hb16 HM3 HTP
                    go_wp2_with fail
                    go_cut [153] (fun s153 wx => s153 = .bool false ∧ Below wc.heap.size wc wx)
                    case first =>
                      as_aux_lemma =>
                        have HB : Hid (Below wc.heap.size wc wc) := Lib.hid (Below.refl _ _)
                        go_region_held3 (fun w' => w'.cell? ⟨bs, os + j * 4 + 1, none⟩ = some (.int .u32 b) ∧ w'.cell? ⟨bs, os + j * 4 + 1 + 1, none⟩ = some (.int .i64 m) ∧ w'.cell? ⟨bs, os + j * 4 + 3, none⟩ = some (.int .i64 v)) (first | with_reducible exact ⟨f1, f2, f3⟩ | exact ⟨f1, f2, f3⟩) (first
                        | (go_at_call 17; (with_reducible refine (told_tab b m b leave (HTQ.out.on (by first | exact HB.out | exact HB.out.drew | exact HB.out.drew.drew)) (HR4.out.below (by first | exact HB.out | exact HB.out.drew | exact HB.out.drew.drew)) (by omega) hb0 hb1 hb0 hb1).mono ?_); rintro e wg ⟨rfl, hb'⟩; have HBG := Lib.hid (Below.step (show Below wc.heap.size wc _ from (by first | exact HB.out | exact HB.out.drew | exact HB.out.drew.drew)) hb'); obtain ⟨f0, f1, f2, f3⟩ := HCX.out wg (Below.step HM4.out.bel HBG.out); clear hb'))
                        all_goals
                          go_wp2_with fail
                          go_meet
                          exact ⟨rfl, HBG.out⟩
                    case rest =>
                      obtain ⟨hs153, hb153⟩ := hcut
                      subst hs153
                      have HM5 := Lib.hid (HM4.out.on hb153)
                      clear hb153 HM4
                      go_wp2_with fail
                      go_meet
                      exact ⟨_, _, rfl, rfl, HM5.out.was, by omega, HM5.out⟩
              --}D
            · go_wp2_with fail
              go_meet
              exact ⟨_, _, rfl, rfl, HM.out.was, by omega, HM.out⟩
          case rest =>
            obtain ⟨R', ec, hs13, hs14, hrd, hrl, hmd⟩ := hcut
            subst hs13 hs14
            have HMD := Lib.hid hmd; have HRD := Lib.hid hrd
            obtain ⟨f0, f1, f2, f3⟩ := HCX.out wc HMD.out.bel
            have hee : (ec != ec) = false := by simp
            clear hrd hmd HM
            --E{
            as_aux_lemma =>
              go_upto_if 162 with fail
              go_cut [18] (fun s18 wx => ∃ x, s18 = .int .u32 x ∧ 0 ≤ x ∧ x < 4294967296 ∧ Below wc.heap.size wc wx)
              case first =>
                by_cases hz : ads.length = 0
                · have hd1 : decide ((0 : Int) < (ads.length : Int)) = false := decide_eq_false (by omega)
                  have hd2 : decide (0 < ads.length) = false := decide_eq_false (by omega)
                  go_wp2_with fail
                  go_meet
                  exact ⟨b, rfl, hb0, hb1, Below.refl _ _⟩
                · have hd1 : decide ((0 : Int) < (ads.length : Int)) = true := decide_eq_true (by omega)
                  have hd2 : decide (0 < ads.length) = true := decide_eq_true (by omega)
                  have hn0 : (0 : Int) < (ads.length : Int) := by omega
                  obtain ⟨k2, hk2, hk2m⟩ : ∃ k2 : Nat, (j : Int) % (ads.length : Int) = (k2 : Int) ∧ k2 < ads.length := ⟨j % ads.length, by simp, Nat.mod_lt _ (by omega)⟩
                  obtain ⟨xa, hxa⟩ : ∃ y, ads[k2]? = some y := ⟨_, List.getElem?_eq_getElem hk2m⟩
                  obtain ⟨bu, ou, cu, he, hbl, hcx⟩ := rd_u HA.out hxa
                  simp only [Value.slice.injEq] at he
                  obtain ⟨rfl, -, rfl⟩ := he
                  have g0 := hcx wc HMD.out.bel
                  have hrx := HAG.out _ (List.mem_of_getElem? hxa)
                  have i1 : (0 : Int) ≤ (k2 : Int) := by omega
                  have i2 : (k2 : Int) < (ads.length : Int) := by omega
                  clear hcx hxa hbl
                  go_wp2_with fail
                  go_meet
                  exact ⟨xa, rfl, hrx.1, hrx.2, Below.refl _ _⟩
              case rest =>
                obtain ⟨xa, hs18, hxa0, hxa1, hb18⟩ := hcut
                subst hs18
                have HM5 := Lib.hid (HMD.out.on hb18)
                have HR5 := Lib.hid (HRD.out.below hb18)
                obtain ⟨f0, f1, f2, f3⟩ := HCX.out wc HM5.out.bel
                clear hb18 HMD HRD
                go_wp2_with fail
                go_at_call 17
                refine (told_tab b m xa leave HM5.out.tab HR5.out (by omega) hb0 hb1 hxa0 hxa1).mono ?_
                rintro e wt ⟨rfl, hbt⟩
                have HM6 := Lib.hid (HM5.out.on hbt)
                have HR6 := Lib.hid (HR5.out.below hbt)
                obtain ⟨f0, f1, f2, f3⟩ := HCX.out wt HM6.out.bel
                clear hbt HM5 HR5
                go_wp2_with fail
                go_at_call 18
                refine (rows_it leave HM6.out.it1 HM6.out.sz HM6.out.was hR1).mono ?_
                rintro e wu ⟨rfl, hbt⟩
                have HM7 := Lib.hid (HM6.out.on hbt)
                have HR7 := Lib.hid (HR6.out.below hbt)
                obtain ⟨f0, f1, f2, f3⟩ := HCX.out wu HM7.out.bel
                clear hbt HM6 HR6
                go_wp2_with fail
                go_at_call 19
                refine (rover_is R _ b wu HM7.out.was hR1 HRGR.out hb0 hb1).mono ?_
                rintro e wv ⟨vo, rfl, hvo, hbt⟩
                have HM8 := Lib.hid (HM7.out.on hbt)
                have HR8 := Lib.hid (HR7.out.below hbt)
                have HVO := Lib.hid hvo
                clear hbt hvo HM7 HR7
                go_wp2_with fail
                go_at_call 18
                refine (rows_it leave HM8.out.it2 HM8.out.sz HVO.out HOL.out).mono ?_
                rintro e wz ⟨rfl, hbt⟩
                have HM9 := Lib.hid (HM8.out.on hbt)
                have HR9 := Lib.hid (HR8.out.below hbt)
                clear hbt HM8 HR8 HVO
                go_wp2_with fail
                go_roundw
                case rel => exact ⟨j + 1, by omega, by omega, by go_num, Lib.hid ⟨⟨R', HM9.out.tab, HR9.out, hrl⟩, HM9.out.bel⟩⟩
                case measure => simp [intOf]; omega
            --}E
      · obtain rfl : j = 120 := by omega
        have e2 : ((120 : Nat) : Int) < (l.length : Int) := by omega
        have e4 : (120 : Int) < (l.length : Int) := by omega
        clear HT HR
        go_wp2_with fail
        go_at_call 20
        refine (awake_is wr).mono ?_
        rintro e wz ⟨rfl, hbz⟩
        have HBZ := Lib.hid (Below.step HBJ.out hbz)
        clear hbz
        go_wp2_with fail
        go_ret
        exact ⟨rfl, HBZ.out⟩
    · have e2 : ¬ (j : Int) < (l.length : Int) := by omega
      clear HT HR
      go_wp2_with fail
      go_at_call 20
      refine (awake_is wr).mono ?_
      rintro e wz ⟨rfl, hbz⟩
      have HBZ := Lib.hid (Below.step HBJ.out hbz)
      clear hbz
      go_wp2_with fail
      go_ret
      exact ⟨rfl, HBZ.out⟩
end Go.Proofs.Ytodfimnmbfdicaa
