/- AddrCovers answers true for every three addresses: a range is covered by at most 62 prefixes, each of its addresses by just one and no other, no two neighbours halves of one. Conditions: the tables of packages math/bits and strconv are what their texts say. -/
import Derived.Test.YtdjjogcagolcjaaDoorWorks
import Derived.Test.YtdjjogcagolcjaaDoorAddrW3
import Derived.Test.YtdjjogcagolcjaaDoorCut4
import Derived.Test.YtdjjogcagolcjaaDoorCovMath
import Derived.Deep.DeepCutAuto
import Derived.Deep.CutBlock
import Derived.Deep.RegionHeld3
namespace Go.Proofs.YtdjjogcagolcjaaDoor
open Go.RowKit
/-- The block holds the list's prefixes. -/
def RowAt (w : World) (g : Nat) (l : List (Int × Int)) : Prop := g < w.heap.size ∧ ∀ i (h : i < l.length), w.cell? ⟨g, i * 2, none⟩ = some (.int .u32 (l[i]).1) ∧ w.cell? ⟨g, i * 2 + 1, none⟩ = some (.int .i64 (l[i]).2)
theorem RowAt.on {w w' : World} {g : Nat} {l : List (Int × Int)} (h : RowAt w g l) (hb : Below w.heap.size w w') : RowAt w' g l :=
  ⟨Nat.lt_of_lt_of_le h.1 hb.size, fun i hi => ⟨(hb.cell (p := ⟨g, i * 2, none⟩) h.1).trans (h.2 i hi).1, (hb.cell (p := ⟨g, i * 2 + 1, none⟩) h.1).trans (h.2 i hi).2⟩⟩
theorem Reads.row {w : World} {v : Value} {l : List (Int × Int)} (h : Reads w v l) (hne : l ≠ []) : ∃ g cap, v = .slice (some ⟨g, 0, none⟩) l.length cap ∧ l.length ≤ cap ∧ RowAt w g l := by
  rcases h with ⟨_, h⟩ | ⟨g, cap, h1, h2, h3, h4⟩
  · exact absurd h hne
  · exact ⟨g, cap, h1, h3, h2, h4⟩
/-- Six addresses in a block. -/
def Six (w : World) (b : Nat) : Prop := b < w.heap.size ∧ ∀ k : Nat, k < 6 → ∃ y : Int, 0 ≤ y ∧ y < 4294967296 ∧ w.cell? ⟨b, k, none⟩ = some (.int .u32 y)
theorem Six.on {w w' : World} {b : Nat} (h : Six w b) (hb : Below w.heap.size w w') : Six w' b :=
  ⟨Nat.lt_of_lt_of_le h.1 hb.size, fun k hk => by obtain ⟨y, y0, y1, h2⟩ := h.2 k hk; exact ⟨y, y0, y1, (hb.cell (p := ⟨b, k, none⟩) h.1).trans h2⟩⟩
/-- A box made since W holds this prefix; the error behind it is none. -/
def BoxAt (D K : Int) (W : World) (s t : Value) (W' : World) : Prop := ∃ b : Nat, s = .pointer (some ⟨b, 0, none⟩) ∧ t = .int .i64 0 ∧ W.heap.size ≤ b ∧ b < W'.heap.size ∧ W'.cell? ⟨b, 0, none⟩ = some (.int .u32 D) ∧ W'.cell? ⟨b, 1, none⟩ = some (.int .i64 K) ∧ Below W.heap.size W W'
set_option maxRecDepth 100000 in
set_option maxHeartbeats 4000000 in
theorem covers_walk (lo hi x L H : Int) (w : World) (hx : 0 ≤ x) (hx2 : x < 4294967296) (hL : 0 ≤ L) (hH : H < 4294967296) (hLH : L ≤ H) (hw : Hid ((L = lo ∧ H = hi ∧ lo ≤ hi) ∨ (L = hi ∧ H = lo ∧ hi < lo))) (hT : Tab w) (h10 : Tab10 w) :
    Calls Tryd.prog 8 #[.int .u32 lo, .int .u32 hi, .int .u32 x] w fun e w' => e = .returned (.bool true) ∧ Below w.heap.size w w' := by
  have HT := Lib.hid hT
  have H10 := Lib.hid h10
  clear hT h10
  go_enter Tryd.func8, Tryd.ntmps8
  go_upto_if 20 with (go_at_call 9; (with_reducible refine (works_is _ HT.out H10.out).mono ?_); rintro e w1 ⟨rfl, hb1⟩)
  go_cut [0, 1] (fun s0 s1 wx => s0 = .int .u32 L ∧ s1 = .int .u32 H ∧ wx = w1)
  case first =>
    have hw' := hw.out
    clear hw
    rcases hw' with ⟨rfl, rfl, h⟩ | ⟨rfl, rfl, h⟩
    · have hd : decide (H < L) = false := by simpa using h
      clear h
      go_wp2_with fail
      go_meet
      exact ⟨rfl, rfl, rfl⟩
    · go_wp2_with fail
      go_meet
      exact ⟨rfl, rfl, rfl⟩
  case rest =>
  obtain ⟨rfl, rfl, rfl⟩ := hcut
  go_wp2_with fail
  go_at_call 17
  refine (cut_ok L H _ hL hLH hH (HT.out.on hb1)).mono ?_
  rintro e w2 ⟨v, l, rfl, hC, hown, hb2⟩
  have hne := hC.ne (by omega)
  have h62 := hC.len62 hL (by omega)
  have h1 : 1 ≤ l.length := List.length_pos_iff.mpr hne
  obtain ⟨g, cap, rfl, hcap, hrow⟩ := (reads_of_owns hown).row hne
  have hB2 : Below w.heap.size w w2 := Below.step hb1 hb2
  have HC := Lib.hid hC
  have HR := Lib.hid hrow
  have d1 : decide ((l.length : Int) < 1) = false := by simp; omega
  have d2 : decide ((62 : Int) < (l.length : Int)) = false := by simp; omega
  clear hC hown hne hrow hb1 hb2 HT H10
  go_upto_block 0 with fail
  obtain ⟨w3, hw3⟩ : ∃ w3, w3 = w2.alloc (.cells #[.int .u32 x, .int .u32 L, .int .u32 H, .int .u32 ((L - 1) % 4294967296), .int .u32 ((H + 1) % 4294967296), .int .u32 (L + (H - L) / 2)] 25) := ⟨_, rfl⟩
  have hB3 : Below w.heap.size w w3 := by rw [hw3]; exact hB2.alloc hB2.size _
  have HR3 : Hid (RowAt w3 g l) := Lib.hid (by rw [hw3]; exact HR.out.on ((Below.refl _ _).alloc (Nat.le_refl _) _))
  have H6 : Hid (Six w3 w2.heap.size) := Lib.hid (by
    rw [hw3]
    refine ⟨by simp, fun k hk => ?_⟩
    have hc : k = 0 ∨ k = 1 ∨ k = 2 ∨ k = 3 ∨ k = 4 ∨ k = 5 := by omega
    rcases hc with rfl | rfl | rfl | rfl | rfl | rfl
    · exact ⟨x, hx, hx2, by go_simp⟩
    · exact ⟨L, hL, by omega, by go_simp⟩
    · exact ⟨H, by omega, hH, by go_simp⟩
    · exact ⟨(L - 1) % 4294967296, by omega, by omega, by go_simp⟩
    · exact ⟨(H + 1) % 4294967296, by omega, by omega, by go_simp⟩
    · exact ⟨L + (H - L) / 2, by omega, by omega, by go_simp⟩)
  rw [← hw3]
  clear hw3 HR hB2 d1 d2
  go_cut [] (fun wx => Below w3.heap.size w3 wx)
  case first =>
    go_wp2_with fail
    go_loopw [56] (fun s56 wr => ∃ k : Nat, k ≤ 6 ∧ s56 = .int .i64 k ∧ Below w3.heap.size w3 wr) (fun s56 _ => 6 - (intOf s56).toNat)
    case atStart => exact ⟨0, by omega, rfl, Below.refl _ _⟩
    case round =>
      obtain ⟨k, hk, rfl, hbw⟩ := hrel
      by_cases hlt : k < 6
      · obtain ⟨y, y0, y1, hy⟩ := (H6.out.on hbw).2 k hlt
        have ek : decide ((k : Int) < 6) = true := by simp; omega
        go_wp2_with fail
        go_loopw [11, 12] (fun s11 s12 wx => ∃ i : Nat, i ≤ l.length ∧ s12 = .int .i64 i ∧ s11 = .int .i64 (cnt y (l.take i) : Nat) ∧ Below wr.heap.size wr wx) (fun _ s12 _ => l.length - (intOf s12).toNat)
        case atStart => exact ⟨0, by omega, rfl, rfl, Below.refl _ _⟩
        case round =>
          obtain ⟨i, hi, rfl, rfl, hbx⟩ := hrel
          have hbox := Below.step hbw hbx
          obtain ⟨q, hq⟩ : ∃ q : Nat, cnt y (l.take i) = q := ⟨_, rfl⟩
          have hq62 : q ≤ 62 := by
            have h := cnt_le y (l.take i)
            have h' := List.length_take_le i l
            omega
          have HQ := Lib.hid hq
          rw [hq]
          clear hq
          by_cases hil : i < l.length
          · obtain ⟨c0, c1⟩ := (HR3.out.on hbox).2 i hil
            obtain ⟨a0, a1, a2⟩ := HC.out.at i hil
            have HT : Hid (cnt y (l.take (i + 1)) = q + (if inB y (l[i]).1 (l[i]).2 = true then 1 else 0)) := Lib.hid (by
              rw [List.take_succ_eq_append_getElem hil, cnt_snoc, HQ.out])
            obtain ⟨a, ha⟩ : ∃ a, (l[i]).1 = a := ⟨_, rfl⟩
            obtain ⟨n, hn⟩ : ∃ n, (l[i]).2 = n := ⟨_, rfl⟩
            rw [ha] at c0 a0 a1 HT
            rw [hn] at c1 HT
            clear ha hn a2
            have HI := Lib.hid (fun w => in_is y a n w (by omega) (by omega))
            by_cases hin : inB y a n = true
            · rw [hin] at HI
              rw [if_pos hin] at HT
              clear hin
              go_wp2_with (go_at_call 13; (with_reducible refine (HI.out _).mono ?_); rintro e wz ⟨rfl, hbz⟩)
              go_roundw
              case rel => first | exact ⟨i + 1, by omega, by go_num, by rw [HT.out]; go_num, Below.step hbx hbz⟩ | ((repeat apply Exists.intro); refine ⟨?_, rfl⟩; exact ⟨i + 1, by omega, by go_num, by rw [HT.out]; go_num, Below.step hbx hbz⟩)
              case measure => simp [intOf]; omega
            · have hin' : inB y a n = false := by simpa using hin
              rw [hin'] at HI
              rw [if_neg hin] at HT
              clear hin hin'
              go_wp2_with (go_at_call 13; (with_reducible refine (HI.out _).mono ?_); rintro e wz ⟨rfl, hbz⟩)
              go_roundw
              case rel => first | exact ⟨i + 1, by omega, by go_num, by rw [HT.out]; go_num, Below.step hbx hbz⟩ | ((repeat apply Exists.intro); refine ⟨?_, rfl⟩; exact ⟨i + 1, by omega, by go_num, by rw [HT.out]; go_num, Below.step hbx hbz⟩)
              case measure => simp [intOf]; omega
          · have hil' : i = l.length := by omega
            have hq' : q = if L ≤ y ∧ y < H + 1 then 1 else 0 := by
              rw [← cnt_cuts HC.out y, ← HQ.out, hil', List.take_length]
            clear HQ
            by_cases hy1 : L ≤ y
            · by_cases hy2 : y ≤ H
              · rw [if_pos (by omega)] at hq'
                subst hq'
                have e1 : decide (L ≤ y) = true := by simpa using hy1
                have e2 : decide (y ≤ H) = true := by simpa using hy2
                have e3 : decide (y < L) = false := by simpa using hy1
                have e4 : decide (H < y) = false := by simpa using hy2
                go_wp2_with fail
                go_roundw
                case rel => first | exact ⟨k + 1, by omega, by go_num, hbox⟩ | ((repeat apply Exists.intro); refine ⟨?_, rfl⟩; exact ⟨k + 1, by omega, by go_num, hbox⟩)
                case measure => simp [intOf]; omega
              · rw [if_neg (by omega)] at hq'
                subst hq'
                have e1 : decide (L ≤ y) = true := by simpa using hy1
                have e2 : decide (y ≤ H) = false := by simpa using hy2
                go_wp2_with fail
                go_roundw
                case rel => first | exact ⟨k + 1, by omega, by go_num, hbox⟩ | ((repeat apply Exists.intro); refine ⟨?_, rfl⟩; exact ⟨k + 1, by omega, by go_num, hbox⟩)
                case measure => simp [intOf]; omega
            · rw [if_neg (by omega)] at hq'
              subst hq'
              have e1 : decide (L ≤ y) = false := by simpa using hy1
              go_wp2_with fail
              go_roundw
              case rel => first | exact ⟨k + 1, by omega, by go_num, hbox⟩ | ((repeat apply Exists.intro); refine ⟨?_, rfl⟩; exact ⟨k + 1, by omega, by go_num, hbox⟩)
              case measure => simp [intOf]; omega
      · go_wp2_with fail
        go_meet
        exact hbw
  case rest =>
  have hB4 := Below.step hB3 hcut
  have HR4 := Lib.hid (HR3.out.on hcut)
  clear H6 HR3 hB3 hcut
  go_wp2_with fail
  go_loopw [13] (fun s13 wr => ∃ k : Nat, k + 1 ≤ l.length ∧ s13 = .int .i64 k ∧ Below wc.heap.size wc wr) (fun s13 _ => l.length - (intOf s13).toNat)
  case atStart => exact ⟨0, by omega, rfl, Below.refl _ _⟩
  case round =>
    obtain ⟨k, hk, rfl, hbw⟩ := hrel
    by_cases hlt : k + 1 < l.length
    · obtain ⟨c0, c1⟩ := (HR4.out.on hbw).2 k (by omega)
      obtain ⟨e0, e1⟩ := (HR4.out.on hbw).2 (k + 1) hlt
      have hg := (HR4.out.on hbw).1
      obtain ⟨a0, a1, a2⟩ := HC.out.at k (by omega)
      obtain ⟨b0, b1, b2⟩ := HC.out.at (k + 1) hlt
      have hnx := HC.out.next k hlt
      generalize (l[k]).1 = a at *
      generalize (l[k]).2 = n at *
      generalize (l[k + 1]).1 = b at *
      generalize (l[k + 1]).2 = m at *
      have ha := a2.ck
      have hb := b2.ck
      obtain ⟨n0, n1, _⟩ := ck_ok a n ha
      obtain ⟨m0, m1, _⟩ := ck_ok b m hb
      have hp := pw_pos n
      have hcm : cmpI a n b m = -1 := by unfold cmpI; rw [if_pos (by omega)]
      have hnh : n = m → cmK a n b m ≠ n - 1 := fun h => by
        subst h
        rw [hnx] at b2
        rw [hnx]
        exact no_halves (by omega) (by omega) a2 b2
      have HCm := Lib.hid (fun w => common_ok a n b m w (by omega) (by omega) (by omega) (by omega) ha hb)
      have HK := Lib.hid (fun w => cmp_is a n b m w)
      rw [hcm] at HK
      generalize a / pw (cmK a n b m) * pw (cmK a n b m) = D at *
      generalize cmK a n b m = K at *
      have HNH := Lib.hid hnh
      clear hcm hnh ha hb a2 b2 hnx hp
      have hd : decide ((k : Int) + 1 < (l.length : Int)) = true := by simp; omega
      have hs1 : IntKind.i64.wrap ((k : Int) + 1) = (k : Int) + 1 := IntWalk.i64_in _ ⟨by omega, by omega⟩
      have hs2 : (0 : Int) ≤ (k : Int) + 1 := by omega
      have hs3 : ((k : Int) + 1).toNat = k + 1 := by omega
      have hk0 : (0 : Int) ≤ (k : Int) := by omega
      have hk1 : (k : Int) < (l.length : Int) := by omega
      have hk2 : (k : Int) + 1 < (l.length : Int) := by omega
      have hg1 : g < wr.heap.size + 1 := by omega
      have ng3 : ¬ wr.heap.size = g := by omega
      have ng4 : ¬ g = wr.heap.size := by omega
      go_upto_region 23 with fail
      go_cut [14, 15] (fun s14 s15 wx => BoxAt D K wr s14 s15 wx)
      case first =>
        go_region_held3 (fun w' => (w'.cell? ⟨g, k * 2, none⟩ = some (.int .u32 a) ∧ w'.cell? ⟨g, k * 2 + 1, none⟩ = some (.int .i64 n)) ∧ (w'.cell? ⟨g, (k + 1) * 2, none⟩ = some (.int .u32 b) ∧ w'.cell? ⟨g, (k + 1) * 2 + 1, none⟩ = some (.int .i64 m))) (first | (simp [*, World.cell?_alloc_some, World.cell?_setCell_far]; done) | (trace_state; fail)) (first | (go_at_call 29; (with_reducible refine (HCm.out _).mono ?_); rintro e wz ⟨rfl, hbz⟩; obtain ⟨hcz, hfz⟩ := bcell hbz; have hzz := hbz.size; (try simp at hzz); (try have qz : wr.heap.size < wz.heap.size := (by omega)); have ng1 : ¬ wz.heap.size = g := (by omega); have ng2 : ¬ g = wz.heap.size := (by omega); have z0 : wz.cell? ⟨g, k * 2, none⟩ = some (.int .u32 a) := ((hcz g (k * 2) (by simp; omega)).trans (by simp [c0, World.cell?_alloc_some])); have z1 : wz.cell? ⟨g, k * 2 + 1, none⟩ = some (.int .i64 n) := ((hcz g (k * 2 + 1) (by simp; omega)).trans (by simp [c1, World.cell?_alloc_some])); have z2 : wz.cell? ⟨g, (k + 1) * 2, none⟩ = some (.int .u32 b) := ((hcz g ((k + 1) * 2) (by simp; omega)).trans (by simp [e0, World.cell?_alloc_some])); have z3 : wz.cell? ⟨g, (k + 1) * 2 + 1, none⟩ = some (.int .i64 m) := ((hcz g ((k + 1) * 2 + 1) (by simp; omega)).trans (by simp [e1, World.cell?_alloc_some]))))
        all_goals
          go_wp2_with fail
          go_meet
          refine ⟨_, rfl, rfl, ?_, ?_, ?_, ?_, ?_⟩
          · first | exact Nat.le_refl _ | omega | (simp; omega)
          · first | omega | (simp; omega) | simp
          · go_simp
          · go_simp
          · first
              | exact (Below.step ((Below.refl _ _).drew) hbz).alloc (by first | omega | (simp; omega)) _
              | exact ((Below.step (((Below.refl _ _).drew).alloc (Nat.le_refl _) _) hbz).setCell (Nat.le_refl _) _).setCell (Nat.le_refl _) _
      case rest =>
      obtain ⟨bx, rfl, rfl, x1, x2, x3, x4, hbx⟩ := hcut
      have c0' : wc.cell? ⟨g, k * 2, none⟩ = some (.int .u32 a) := (hbx.cell (p := ⟨g, k * 2, none⟩) hg).trans c0
      have c1' : wc.cell? ⟨g, k * 2 + 1, none⟩ = some (.int .i64 n) := (hbx.cell (p := ⟨g, k * 2 + 1, none⟩) hg).trans c1
      have e0' : wc.cell? ⟨g, (k + 1) * 2, none⟩ = some (.int .u32 b) := (hbx.cell (p := ⟨g, (k + 1) * 2, none⟩) hg).trans e0
      have e1' : wc.cell? ⟨g, (k + 1) * 2 + 1, none⟩ = some (.int .i64 m) := (hbx.cell (p := ⟨g, (k + 1) * 2 + 1, none⟩) hg).trans e1
      have hg' : g < wc.heap.size := Nat.lt_of_lt_of_le hg hbx.size
      have hbv := Below.step hbw hbx
      clear c0 c1 e0 e1 hg hg1 ng3 ng4 hbx hbw x1 x3 HCm
      go_upto_region 24 with fail
      go_cut [160] (fun s160 wx => s160 = .bool false ∧ Below wc.heap.size wc wx)
      case first =>
        have hnh := HNH.out
        have hs4 : IntKind.i64.wrap (n - 1) = n - 1 := IntWalk.i64_in _ ⟨by omega, by omega⟩
        clear HNH HC HR4
        by_cases hnm : n = m
        · have hK : (K == n - 1) = false := by simpa using hnh hnm
          subst hnm
          clear hnh
          refine wp_region_grows (by kernel_rfl) (by kernel_rfl) ?_
          refine grows_fact _ _ _ c0' hg' fun z0 => ?_
          refine grows_fact _ _ _ c1' hg' fun z1 => ?_
          refine grows_fact _ _ _ e0' hg' fun z2 => ?_
          refine grows_fact _ _ _ e1' hg' fun z3 => ?_
          refine grows_fact _ _ _ x4 x2 fun z4 => ?_
          clear c0' c1' e0' e1' x4
          repeat (go_big_quiet_step ((first | (go_at_call 30; with_reducible exact Calls.grows_of (HK.out _)))))
          refine wpQuiet_nil ?_
          rintro _ ⟨⟨wz, hbz⟩, rfl⟩
          clear z0 z1 z2 z3 z4
          go_wp2
          go_meet
          exact ⟨by simp, hbz⟩
        · have hK : (n == m) = false := by simpa using hnm
          clear hnh hnm
          refine wp_region_grows (by kernel_rfl) (by kernel_rfl) ?_
          refine grows_fact _ _ _ c0' hg' fun z0 => ?_
          refine grows_fact _ _ _ c1' hg' fun z1 => ?_
          refine grows_fact _ _ _ e0' hg' fun z2 => ?_
          refine grows_fact _ _ _ e1' hg' fun z3 => ?_
          refine grows_fact _ _ _ x4 x2 fun z4 => ?_
          clear c0' c1' e0' e1' x4
          repeat (go_big_quiet_step ((first | (go_at_call 30; with_reducible exact Calls.grows_of (HK.out _)))))
          refine wpQuiet_nil ?_
          rintro _ ⟨⟨wz, hbz⟩, rfl⟩
          clear z0 z1 z2 z3 z4
          go_wp2
          go_meet
          exact ⟨by simp, hbz⟩
      case rest =>
      obtain ⟨rfl, hb9⟩ := hcut
      go_wp2_with fail
      go_roundw
      case rel => first | exact ⟨k + 1, by omega, by go_num, Below.step hbv hb9⟩ | ((repeat apply Exists.intro); refine ⟨?_, rfl⟩; exact ⟨k + 1, by omega, by go_num, Below.step hbv hb9⟩)
      case measure => simp [intOf]; omega
    · go_wp2_with fail
      go_ret
      exact ⟨rfl, Below.step hB4 hbw⟩
end Go.Proofs.YtdjjogcagolcjaaDoor
