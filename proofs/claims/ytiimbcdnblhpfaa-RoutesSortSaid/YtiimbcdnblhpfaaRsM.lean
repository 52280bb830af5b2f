/- Sort of package waymarkref08, walked. No condition but the list's length. -/
import Derived.Test.YtiimbcdnblhpfaaRsL
namespace Go.Proofs.Ytiimbcdnblhpfaa
open Go.RowKit Go.Lib Go.Shelf
def zRt : RtD := ⟨0, 0, 0, 0, 0, 0, ⟨#[]⟩, 0, false⟩
theorem enc_zRt : encRt zRt = [.int .u32 0, .int .i64 0, .int .u8 0, .int .i64 0, .int .i64 0, .int .i64 0, .string ⟨#[]⟩, .int .u32 0, .bool false] := rfl
theorem own_new {b : Nat} {w w0 : World} {v : Value} {l : List RtD} (h : OwnR b w v l) (hb : Below b w0 w) {o : Obj} : (w.alloc o).ownsRow b 28 9 v l.length (flatK encRt l) :=
  h.below ((Below.refl _ _).alloc (Nat.le_refl _) _)
theorem zero_new (w : World) : RdK encRt 9 (w.alloc (.cells #[.int .u32 0, .int .i64 0, .int .u8 0, .int .i64 0, .int .i64 0, .int .i64 0, .string ⟨#[]⟩, .int .u32 0, .bool false] 28)) (.slice (some ⟨w.heap.size, 0, none⟩) 1 1) [zRt] := by
  refine ⟨_, 1, rfl, Nat.le_refl _, by unfold maxLen; omega, fun _ => ⟨w.heap.size, 0, rfl, by simp, fun i s hs j u hu => ?_⟩⟩
  match i, hs with
  | 0, hs =>
    simp at hs
    subst hs
    have hj : j < 9 := by have := (List.getElem?_eq_some_iff.1 hu).1; rwa [encRt_len] at this
    simp only [Nat.zero_mul, Nat.zero_add]
    refine cell_n ?_
    rw [enc_zRt] at hu
    simpa using hu
  | i + 1, hs => simp at hs
theorem app_facts {b : Nat} {w W : World} {v v9 : Value} {w9 : World} {o : Obj} {l : List RtD} {z : RtD} (h : OwnR b W v l) (hb : Below b w W) (h9 : w9.ownsRow b 28 9 v9 (l.length + [z].length) (flatK encRt l ++ flatK encRt [z])) (hg : (W.alloc o).grownBy w9 v.ownBlock) (hbw : b ≤ w.heap.size := by omega) : OwnR b w9 v9 (l ++ [z]) ∧ Below b w w9 := by
  refine ⟨?_, (hb.alloc (Nat.le_trans hbw hb.size) o).grown hg (by have := hb.size; simp; omega) (fun k e => ((h : W.ownsRow b 28 9 v l.length (flatK encRt l)).lt k e).1)⟩
  have : OwnR b w9 v9 (l ++ [z]) = w9.ownsRow b 28 9 v9 (l.length + [z].length) (flatK encRt l ++ flatK encRt [z]) := by
    unfold OwnR flatK
    rw [List.length_append, List.flatMap_append]
  rw [this]; exact h9
theorem own_snoc {b : Nat} {w : World} {v : Value} {l : List RtD} {z : RtD} (h : OwnR b w v (l ++ [z])) : ∃ g cap, v = .slice (some ⟨g, 0, none⟩) (l.length + 1) cap ∧ b ≤ g ∧ l.length + 1 ≤ cap ∧ cap ≤ maxLen ∧ RowR w g cap [] (l ++ [z]) 0 ∧ g < w.heap.size := by
  rcases h.row with ⟨_, e⟩ | ⟨g, cap, e, hg, hle, hm, hr, hlt⟩
  · simp at e
  · rw [List.length_append] at e hle
    exact ⟨g, cap, e, hg, hle, hm, hr, hlt⟩
theorem RowR.flat {w : World} {g cap : Nat} {L : List RtD} (h : RowR w g cap [] L 0) (k : Nat) (cs : List RtD) (hcs : ∀ m t, cs[m]? = some t → L[k + m]? = some t) : ∀ j u, (flatK encRt cs)[j]? = some u → w.cell? ((⟨g, k * 9, none⟩ : Addr).add j) = some u := by
  intro j u hu
  have hj : j < (flatK encRt cs).length := (List.getElem?_eq_some_iff.1 hu).1
  rw [flatK_length encRt_len] at hj
  obtain ⟨t, ht⟩ : ∃ t, cs[j / 9]? = some t := ⟨_, List.getElem?_eq_getElem (by omega)⟩
  have hm : j % 9 < 9 := Nat.mod_lt _ (by omega)
  have e := flatK_at encRt_len ht hm
  rw [show j / 9 * 9 + j % 9 = j from by omega, hu] at e
  have := h.cells (Nat.zero_le _) (hcs _ _ ht) (j % 9) u e.symm
  rw [addr_off]
  rwa [show (k + j / 9) * 9 + j % 9 = k * 9 + j from by omega] at this
theorem drew_sets : ∀ (vs : List Value) (w : World) (g o : Nat), World.setCells w.drew g o vs = (World.setCells w g o vs).drew
  | [], _, _, _ => rfl
  | v :: vs, w, g, o => drew_sets vs (w.setCell ⟨g, o, none⟩ v) g (o + 1)
theorem ins1 (out : List RtD) (z : RtD) (k : Nat) (hk : k ≤ out.length) : (out ++ [z]).take (k + 1) ++ (out.drop k ++ (out ++ [z]).drop (k + 1 + (out.drop k).length)) = out.take k ++ (((out ++ [z]).drop k).take 1 ++ out.drop k) := by
  have e1 : (out ++ [z]).drop (k + 1 + (out.drop k).length) = [] := List.drop_of_length_le (by simp; omega)
  rw [e1, List.append_nil, List.take_add, List.take_append_of_le_length hk, List.append_assoc]
theorem ins2 {a m b : List RtD} {s : RtD} {k : Nat} (ha : a.length = k) (hm : m.length = 1) : (a ++ (m ++ b)).take k ++ ([s] ++ (a ++ (m ++ b)).drop (k + [s].length)) = a ++ s :: b := by
  obtain ⟨x, rfl⟩ := List.length_eq_one_iff.1 hm
  subst ha
  simp
theorem own_cell {b : Nat} {w : World} {po : Option Addr} {co : Nat} {out : List RtD} {k : Nat} {t : RtD} (h : OwnR b w (.slice po out.length co) out) (hk : out[k]? = some t) :
    ∃ g, po = some ⟨g, 0, none⟩ ∧ b ≤ g ∧ g < w.heap.size ∧ ∀ j u, (encRt t)[j]? = some u → w.cell? ⟨g, k * 9 + j, none⟩ = some u := by
  rcases h.row with ⟨e, rfl⟩ | ⟨g, cap, e, hg, hle, hcap, hrow, hglt⟩
  · simp at hk
  · simp only [Value.slice.injEq] at e
    obtain ⟨rfl, _, rfl⟩ := e
    exact ⟨g, rfl, hg, hglt, hrow.cells (Nat.zero_le _) hk⟩
set_option maxRecDepth 100000 in
set_option maxHeartbeats 16000000 in
theorem rrsort_is (v : Value) (l : List RtD) (w : World) (hr : RdK encRt 9 w v l) (hlen : l.length ≤ 1000) :
    Calls Try.prog 4 #[v] w fun e w' => ∃ v' out, e = .returned v' ∧ OwnR w.heap.size w' v' out ∧ Srt l out ∧ Below w.heap.size w w' := by
  obtain ⟨p, c, rfl, hlc, hcm, hcell⟩ := hr.sl
  have HC := Lib.hid hcell
  clear hcell hr
  go_enter Try.func4, Try.ntmps4
  go_wp2_with fail
  go_loopw [3, 4, 5] (fun so si sk wr => ∃ (i : Nat) (out : List RtD) (po : Option Addr) (co : Nat), i ≤ l.length ∧ si = .int .i64 i ∧ so = .slice po out.length co ∧ Hid (OwnR w.heap.size wr (.slice po out.length co) out ∧ Srt (l.take i) out ∧ Below w.heap.size w wr)) (fun _ si _ _ => l.length - (intOf si).toNat)
  case atStart => exact ⟨0, [], none, 0, Nat.zero_le _, rfl, rfl, Lib.hid ⟨World.ownsRow_nil _ _ _ _, ⟨List.Pairwise.nil, fun s => by simp⟩, Below.refl _ _⟩⟩
  case round =>
    obtain ⟨i, out, po, co, hi, rfl, rfl, HI⟩ := hrel
    by_cases hlt : i < l.length
    · have hlti : (i : Int) < (l.length : Int) := by omega
      have i0 : (0 : Int) ≤ (i : Int) := by omega
      obtain ⟨s, hs⟩ : ∃ s, l[i]? = some s := ⟨_, List.getElem?_eq_getElem hlt⟩
      obtain ⟨b0, o0, rfl, hb0, hcs⟩ := HC.out i s hs
      have HLS := Lib.hid hs
      have HS := Lib.hid hcs
      clear hcs hs
      have hol : out.length ≤ i := by have := srt_len HI.out.2.1; rw [List.length_take] at this; omega
      go_wp2_with fail
      go_loopw [5] (fun sk wq => ∃ k : Nat, k ≤ out.length ∧ sk = .int .i64 k ∧ Hid (OwnR w.heap.size wq (.slice po out.length co) out ∧ Below w.heap.size w wq ∧ ∀ j t, k ≤ j → out[j]? = some t → cR s t < 0)) (fun sk _ => (intOf sk).toNat)
      case atStart => exact ⟨out.length, Nat.le_refl _, rfl, Lib.hid ⟨HI.out.1, HI.out.2.2, fun j t hj ht => by rw [List.getElem?_eq_none hj] at ht; cases ht⟩⟩
      case round =>
        obtain ⟨k, hk, rfl, HJ⟩ := hrel
        by_cases hk0 : k = 0
        · have hkn : decide (0 < k) = false := by simp; omega
          obtain ⟨s0, hs0⟩ : ∃ s0, s = s0 := ⟨_, rfl⟩
          rw [hs0] at HLS HJ
          obtain ⟨xa, xb, xfr, xdi, xme, xta, xnm, xho, xdc⟩ := s
          have HES : Hid (encRt s0 = [.int .u32 xa, .int .i64 xb, .int .u8 xfr, .int .i64 xdi, .int .i64 xme, .int .i64 xta, .string xnm, .int .u32 xho, .bool xdc]) := Lib.hid (by rw [← hs0]; rfl)
          clear hs0
          have HKZ := Lib.hid hk0
          clear hk0
          go_wp2_with fail
          refine wp_region_grows (by kernel_rfl) (by kernel_rfl) ?_
          repeat (go_big_quiet_step (fail))
          refine wpQuiet_nil ?_
          rintro w4 ⟨⟨_, hb4⟩, rfl⟩
          go_wp2_with fail
          refine wp_region_grows (by kernel_rfl) (by kernel_rfl) ?_
          repeat (go_big_quiet_step (fail))
          refine wpQuiet_nil ?_
          rintro w5 ⟨⟨_, hb5⟩, rfl⟩
          have HK : Hid (OwnR w.heap.size w5 (.slice po out.length co) out ∧ Below w.heap.size w w5 ∧ (∀ j t, k ≤ j → out[j]? = some t → cR s0 t < 0) ∧ (∀ t, 0 < k → out[k - 1]? = some t → 0 < cR s0 t)) := Lib.hid ⟨(HJ.out.1.below hb4).below hb5, (HJ.out.2.1.trans (hb4.mono HJ.out.2.1.size)).trans (hb5.mono (HJ.out.2.1.trans (hb4.mono HJ.out.2.1.size)).size), HJ.out.2.2, fun t h0 => by have := HKZ.out; omega⟩
          clear hb4 hb5 HJ
          have z1 : IntKind.i64.wrap ((k : Int) + 1) = (k : Int) + 1 := IntWalk.i64_in _ ⟨by omega, by omega⟩
          have z2 : (0 : Int) ≤ (k : Int) + 1 := by omega
          have z3 : (k : Int) + 1 ≤ (out.length : Int) + 1 := by omega
          have z4 : ((k : Int) + 1).toNat = k + 1 := by omega
          have z5 : (k : Int) ≤ (out.length : Int) + 1 := by omega
          have z6 : (0 : Int) ≤ (k : Int) := by omega
          have z7 : (k : Int) < (out.length : Int) + 1 := by omega
          go_wp2_with (first
            | (at_builtin; go_loud (refine wpList_append_rdk (enc := encRt) encRt_len (by decide) encRt_one rfl _ _ 22 28 rfl zR 72 Try.underlying22 rfl infoA w.heap.size (.slice po out.length co) out.length (flatK encRt out) rfl (own_new HK.out.1 HK.out.2.1) _ [zRt] rfl (zero_new _) (by unfold maxLen; simp; omega) (by simp; omega) (by have := HK.out.2.1.size; first | omega | (simp; omega)) ?_; intro v9 w9 hown9 hgr9 hor9; obtain ⟨hO9, hB9⟩ := app_facts HK.out.1 HK.out.2.1 hown9 hgr9; obtain ⟨g1, cap1, rfl, hg1, hc1, hcm1, hrow1, hlt1⟩ := own_snoc hO9; have HR1 := Lib.hid (And.intro hrow1 hB9); clear hown9 hgr9 hor9 hO9 hB9 hrow1)))
          go_still_tail 7, (by kernel_rfl)
          refine wpList_copy_rt (by rfl) (.tmp 53) (.tmp 56) (by rfl) _ _ _ _ _ _ (by rfl) (by rfl) g1 ((k + 1) * 9) g1 (k * 9) (out.drop k) ?cw5z1 ?cw5z2 ?cw5z3 ?cw5z4 ?cw5z5
          case cw5z1 => simp [Nat.min_def]; try omega
          case cw5z2 =>
            intro hp
            simp at hp
            exact ⟨by rw [if_neg (by omega)], by rw [if_neg (by omega)], HR1.out.1.flat k (out.drop k) fun m t hm => by
              rw [List.getElem?_drop] at hm
              rw [List.getElem?_append_left (List.getElem?_eq_some_iff.1 hm).1]; exact hm⟩
          case cw5z3 => intro j hj; exact HR1.out.1.there (by rw [List.length_drop] at hj; omega)
          case cw5z4 => intro j hj; exact HR1.out.1.free _
          case cw5z5 =>
            have hR2 := HR1.out.1.over (p := k + 1) (out.drop k) (by simp; omega) (by simp; omega)
            obtain ⟨W2, hW2⟩ : ∃ X, (w9.setCells g1 ((k + 1) * 9) (flatK encRt (out.drop k))).drew = X := ⟨_, rfl⟩
            have HR2 : Hid (RowR W2 g1 cap1 [] (out.take k ++ (((out ++ [zRt]).drop k).take 1 ++ out.drop k)) 0 ∧ Below w.heap.size w W2) := Lib.hid (by
              rw [ins1 out zRt k hk] at hR2
              rw [← hW2]
              exact ⟨hR2.of rfl, (HR1.out.2.trans (below_sets _ _ _ _ _ hg1)).drew⟩)
            have hL : (out.take k ++ s0 :: out.drop k).length = out.length + 1 := by simp; omega
            have HP : Hid (∀ W', W' = W2.setCells g1 (k * 9) [.int .u32 xa, .int .i64 xb, .int .u8 xfr, .int .i64 xdi, .int .i64 xme, .int .i64 xta, .string xnm, .int .u32 xho, .bool xdc] → OwnR w.heap.size W' (.slice (some ⟨g1, 0, none⟩) (out.length + 1) cap1) (out.take k ++ s0 :: out.drop k) ∧ Below w.heap.size w W') := Lib.hid fun W' hW => by
              rw [← HES.out, ← flat_one] at hW
              rw [hW]
              refine ⟨?_, HR2.out.2.trans (below_sets _ _ _ _ _ hg1)⟩
              have h1l : (((out ++ [zRt]).drop k).take 1).length = 1 := by simp; omega
              have htl : (out.take k).length = k := by simp; omega
              have h3 := HR2.out.1.over (p := k) [s0] (by simp; omega) (by simp; omega)
              have e := ins2 (s := s0) (b := out.drop k) htl h1l
              rw [e] at h3
              have := h3.own hg1 (by rw [hL]; exact hc1) hcm1
              rwa [hL] at this
            have cx0 : W2.cell? ⟨b0, o0 + i * 9, none⟩ = some (.int .u32 xa) := by have := HS.out W2 HR2.out.2 0 _ rfl; simpa only [Nat.add_zero] using this
            obtain ⟨ol0, col0⟩ := Option.isSome_iff_exists.1 (HR2.out.1.there (o := k * 9) (by omega))
            have fo0 := HR2.out.1.free (k * 9)
            have cx1 : W2.cell? ⟨b0, o0 + i * 9 + 1, none⟩ = some (.int .i64 xb) := by have := HS.out W2 HR2.out.2 1 _ rfl; simpa only [Nat.add_zero] using this
            obtain ⟨ol1, col1⟩ := Option.isSome_iff_exists.1 (HR2.out.1.there (o := k * 9 + 1) (by omega))
            have fo1 := HR2.out.1.free (k * 9 + 1)
            have cx2 : W2.cell? ⟨b0, o0 + i * 9 + 2, none⟩ = some (.int .u8 xfr) := by have := HS.out W2 HR2.out.2 2 _ rfl; simpa only [Nat.add_zero] using this
            obtain ⟨ol2, col2⟩ := Option.isSome_iff_exists.1 (HR2.out.1.there (o := k * 9 + 2) (by omega))
            have fo2 := HR2.out.1.free (k * 9 + 2)
            have cx3 : W2.cell? ⟨b0, o0 + i * 9 + 3, none⟩ = some (.int .i64 xdi) := by have := HS.out W2 HR2.out.2 3 _ rfl; simpa only [Nat.add_zero] using this
            obtain ⟨ol3, col3⟩ := Option.isSome_iff_exists.1 (HR2.out.1.there (o := k * 9 + 3) (by omega))
            have fo3 := HR2.out.1.free (k * 9 + 3)
            have cx4 : W2.cell? ⟨b0, o0 + i * 9 + 4, none⟩ = some (.int .i64 xme) := by have := HS.out W2 HR2.out.2 4 _ rfl; simpa only [Nat.add_zero] using this
            obtain ⟨ol4, col4⟩ := Option.isSome_iff_exists.1 (HR2.out.1.there (o := k * 9 + 4) (by omega))
            have fo4 := HR2.out.1.free (k * 9 + 4)
            have cx5 : W2.cell? ⟨b0, o0 + i * 9 + 5, none⟩ = some (.int .i64 xta) := by have := HS.out W2 HR2.out.2 5 _ rfl; simpa only [Nat.add_zero] using this
            obtain ⟨ol5, col5⟩ := Option.isSome_iff_exists.1 (HR2.out.1.there (o := k * 9 + 5) (by omega))
            have fo5 := HR2.out.1.free (k * 9 + 5)
            have cx6 : W2.cell? ⟨b0, o0 + i * 9 + 6, none⟩ = some (.string xnm) := by have := HS.out W2 HR2.out.2 6 _ rfl; simpa only [Nat.add_zero] using this
            obtain ⟨ol6, col6⟩ := Option.isSome_iff_exists.1 (HR2.out.1.there (o := k * 9 + 6) (by omega))
            have fo6 := HR2.out.1.free (k * 9 + 6)
            have cx7 : W2.cell? ⟨b0, o0 + i * 9 + 7, none⟩ = some (.int .u32 xho) := by have := HS.out W2 HR2.out.2 7 _ rfl; simpa only [Nat.add_zero] using this
            obtain ⟨ol7, col7⟩ := Option.isSome_iff_exists.1 (HR2.out.1.there (o := k * 9 + 7) (by omega))
            have fo7 := HR2.out.1.free (k * 9 + 7)
            have cx8 : W2.cell? ⟨b0, o0 + i * 9 + 8, none⟩ = some (.bool xdc) := by have := HS.out W2 HR2.out.2 8 _ rfl; simpa only [Nat.add_zero] using this
            obtain ⟨ol8, col8⟩ := Option.isSome_iff_exists.1 (HR2.out.1.there (o := k * 9 + 8) (by omega))
            have fo8 := HR2.out.1.free (k * 9 + 8)
            clear hR2 HR1
            show wpList _ _ _ [] _ (World.setCells w9.drew _ _ _)
            have hWd : World.setCells w9.drew g1 ((k + 1) * 9) (flatK encRt (out.drop k)) = W2 := by rw [← hW2]; exact drew_sets _ _ _ _
            rw [hWd]
            clear hW2 hWd
            go_wp2_with fail
            go_roundw
            case rel => exact ⟨i + 1, out.take k ++ s0 :: out.drop k, _, _, by omega, by go_num, by rw [hL], Lib.hid ⟨by rw [hL]; exact (HP.out _ rfl).1, srt_put HI.out.2.1 HLS.out hk HK.out.2.2.1 HK.out.2.2.2, (HP.out _ rfl).2⟩⟩
            case measure => first | (simp [intOf]; done) | (simp [intOf]; omega)

        · have hkp : 0 < k := by omega
          have k1 : (0 : Int) ≤ (k : Int) - 1 := by omega
          have k2 : (k : Int) - 1 < (out.length : Int) := by omega
          have k4 : ((k : Int) - 1).toNat = k - 1 := by omega
          obtain ⟨y, hy⟩ : ∃ y, out[k - 1]? = some y := ⟨_, List.getElem?_eq_getElem (by omega)⟩
          obtain ⟨g, rfl, hgb, hgl0, cy⟩ := own_cell HJ.out.1 hy
          have HY := Lib.hid hy
          clear hy
          have hrow := And.intro hgb hgl0
          clear hgb hgl0
          have HT : Hid (∀ W, Calls Try.prog 9 #[.agg (encRt s).toArray, .agg (encRt y).toArray] W fun e w' => e = .returned (.int .i64 (cR s y)) ∧ Below W.heap.size W w') := Lib.hid fun W => rrcmp_is s y W
          obtain ⟨d, hd⟩ : ∃ d, cR s y = d := ⟨_, rfl⟩
          have HD := Lib.hid hd
          rw [hd] at HT
          clear hd
          obtain ⟨s0, hs0⟩ : ∃ s0, s = s0 := ⟨_, rfl⟩
          obtain ⟨y0, hy0⟩ : ∃ y0, y = y0 := ⟨_, rfl⟩
          rw [hs0] at HLS HD HJ
          rw [hy0] at HY HD
          obtain ⟨xa, xb, xfr, xdi, xme, xta, xnm, xho, xdc⟩ := s
          obtain ⟨ya, yb, yfr, ydi, yme, yta, ynm, yho, ydc⟩ := y
          have HES : Hid (encRt s0 = [.int .u32 xa, .int .i64 xb, .int .u8 xfr, .int .i64 xdi, .int .i64 xme, .int .i64 xta, .string xnm, .int .u32 xho, .bool xdc]) := Lib.hid (by rw [← hs0]; rfl)
          have HEY : Hid (encRt y0 = [.int .u32 ya, .int .i64 yb, .int .u8 yfr, .int .i64 ydi, .int .i64 yme, .int .i64 yta, .string ynm, .int .u32 yho, .bool ydc]) := Lib.hid (by rw [← hy0]; rfl)
          have HSE := Lib.hid hs0
          clear hs0 hy0
          simp only [encRt] at HT
          have cx0 : wr.cell? ⟨b0, o0 + i * 9, none⟩ = some (.int .u32 xa) := by have := HS.out wr HJ.out.2.1 0 _ rfl; simpa only [Nat.add_zero] using this
          have cy0 : wr.cell? ⟨g, (k - 1) * 9, none⟩ = some (.int .u32 ya) := by have := cy 0 (.int .u32 ya) rfl; simpa only [Nat.add_zero] using this
          have cx1 : wr.cell? ⟨b0, o0 + i * 9 + 1, none⟩ = some (.int .i64 xb) := by have := HS.out wr HJ.out.2.1 1 _ rfl; simpa only [Nat.add_zero] using this
          have cy1 : wr.cell? ⟨g, (k - 1) * 9 + 1, none⟩ = some (.int .i64 yb) := by have := cy 1 (.int .i64 yb) rfl; simpa only [Nat.add_zero] using this
          have cx2 : wr.cell? ⟨b0, o0 + i * 9 + 2, none⟩ = some (.int .u8 xfr) := by have := HS.out wr HJ.out.2.1 2 _ rfl; simpa only [Nat.add_zero] using this
          have cy2 : wr.cell? ⟨g, (k - 1) * 9 + 2, none⟩ = some (.int .u8 yfr) := by have := cy 2 (.int .u8 yfr) rfl; simpa only [Nat.add_zero] using this
          have cx3 : wr.cell? ⟨b0, o0 + i * 9 + 3, none⟩ = some (.int .i64 xdi) := by have := HS.out wr HJ.out.2.1 3 _ rfl; simpa only [Nat.add_zero] using this
          have cy3 : wr.cell? ⟨g, (k - 1) * 9 + 3, none⟩ = some (.int .i64 ydi) := by have := cy 3 (.int .i64 ydi) rfl; simpa only [Nat.add_zero] using this
          have cx4 : wr.cell? ⟨b0, o0 + i * 9 + 4, none⟩ = some (.int .i64 xme) := by have := HS.out wr HJ.out.2.1 4 _ rfl; simpa only [Nat.add_zero] using this
          have cy4 : wr.cell? ⟨g, (k - 1) * 9 + 4, none⟩ = some (.int .i64 yme) := by have := cy 4 (.int .i64 yme) rfl; simpa only [Nat.add_zero] using this
          have cx5 : wr.cell? ⟨b0, o0 + i * 9 + 5, none⟩ = some (.int .i64 xta) := by have := HS.out wr HJ.out.2.1 5 _ rfl; simpa only [Nat.add_zero] using this
          have cy5 : wr.cell? ⟨g, (k - 1) * 9 + 5, none⟩ = some (.int .i64 yta) := by have := cy 5 (.int .i64 yta) rfl; simpa only [Nat.add_zero] using this
          have cx6 : wr.cell? ⟨b0, o0 + i * 9 + 6, none⟩ = some (.string xnm) := by have := HS.out wr HJ.out.2.1 6 _ rfl; simpa only [Nat.add_zero] using this
          have cy6 : wr.cell? ⟨g, (k - 1) * 9 + 6, none⟩ = some (.string ynm) := by have := cy 6 (.string ynm) rfl; simpa only [Nat.add_zero] using this
          have cx7 : wr.cell? ⟨b0, o0 + i * 9 + 7, none⟩ = some (.int .u32 xho) := by have := HS.out wr HJ.out.2.1 7 _ rfl; simpa only [Nat.add_zero] using this
          have cy7 : wr.cell? ⟨g, (k - 1) * 9 + 7, none⟩ = some (.int .u32 yho) := by have := cy 7 (.int .u32 yho) rfl; simpa only [Nat.add_zero] using this
          have cx8 : wr.cell? ⟨b0, o0 + i * 9 + 8, none⟩ = some (.bool xdc) := by have := HS.out wr HJ.out.2.1 8 _ rfl; simpa only [Nat.add_zero] using this
          have cy8 : wr.cell? ⟨g, (k - 1) * 9 + 8, none⟩ = some (.bool ydc) := by have := cy 8 (.bool ydc) rfl; simpa only [Nat.add_zero] using this
          have hb0l : b0 < wr.heap.size := by have := HJ.out.2.1.size; omega
          have hgl : g < wr.heap.size := hrow.2
          clear cy hrow
          go_wp2_with fail
          refine wp_region_grows (by kernel_rfl) (by kernel_rfl) ?_
          refine grows_fact _ _ _ cx0 hb0l fun rx0 => ?_
          refine grows_fact _ _ _ cy0 hgl fun ry0 => ?_
          refine grows_fact _ _ _ cx1 hb0l fun rx1 => ?_
          refine grows_fact _ _ _ cy1 hgl fun ry1 => ?_
          refine grows_fact _ _ _ cx2 hb0l fun rx2 => ?_
          refine grows_fact _ _ _ cy2 hgl fun ry2 => ?_
          refine grows_fact _ _ _ cx3 hb0l fun rx3 => ?_
          refine grows_fact _ _ _ cy3 hgl fun ry3 => ?_
          refine grows_fact _ _ _ cx4 hb0l fun rx4 => ?_
          refine grows_fact _ _ _ cy4 hgl fun ry4 => ?_
          refine grows_fact _ _ _ cx5 hb0l fun rx5 => ?_
          refine grows_fact _ _ _ cy5 hgl fun ry5 => ?_
          refine grows_fact _ _ _ cx6 hb0l fun rx6 => ?_
          refine grows_fact _ _ _ cy6 hgl fun ry6 => ?_
          refine grows_fact _ _ _ cx7 hb0l fun rx7 => ?_
          refine grows_fact _ _ _ cy7 hgl fun ry7 => ?_
          refine grows_fact _ _ _ cx8 hb0l fun rx8 => ?_
          refine grows_fact _ _ _ cy8 hgl fun ry8 => ?_
          clear cx0 cy0 cx1 cy1 cx2 cy2 cx3 cy3 cx4 cy4 cx5 cy5 cx6 cy6 cx7 cy7 cx8 cy8 hb0l hgl
          repeat (go_big_quiet_step ((go_at_call 9; exact Calls.grows_of (HT.out _))))
          refine wpQuiet_nil ?_
          rintro w4 ⟨⟨_, hb4⟩, rfl⟩
          clear rx0 ry0 rx1 ry1 rx2 ry2 rx3 ry3 rx4 ry4 rx5 ry5 rx6 ry6 rx7 ry7 rx8 ry8

          have HJ4 : Hid (OwnR w.heap.size w4 (.slice (some ⟨g, 0, none⟩) out.length co) out ∧ Below w.heap.size w w4 ∧ ∀ j t, k ≤ j → out[j]? = some t → cR s0 t < 0) := Lib.hid ⟨HJ.out.1.below hb4, HJ.out.2.1.trans (hb4.mono HJ.out.2.1.size), HJ.out.2.2⟩
          clear hb4 HJ
          by_cases hd0 : d < 0
          · go_wp2_with fail
            go_roundw
            case rel =>
              refine ⟨k - 1, by omega, by go_num, Lib.hid ⟨HJ4.out.1, HJ4.out.2.1, fun j t hj ht => ?_⟩⟩
              by_cases e : j = k - 1
              · subst e
                have := HY.out
                rw [ht] at this
                simp only [Option.some.injEq] at this
                rw [this, HSE.out, HD.out]; exact hd0
              · rw [HSE.out]; exact HJ4.out.2.2 j t (by omega) ht
            case measure => first | (simp [intOf]; done) | (simp [intOf]; omega)
          · go_wp2_with fail
            obtain ⟨g', eg, hgb, hgl0, cy⟩ := own_cell HJ4.out.1 HY.out
            obtain rfl : g = g' := by simpa using eg
            have hrow := And.intro hgb hgl0
            clear hgb hgl0 eg
            have cx0 : w4.cell? ⟨b0, o0 + i * 9, none⟩ = some (.int .u32 xa) := by have := HS.out w4 HJ4.out.2.1 0 _ rfl; simpa only [Nat.add_zero] using this
            have cy0 : w4.cell? ⟨g, (k - 1) * 9, none⟩ = some (.int .u32 ya) := by have := cy 0 (.int .u32 ya) (by rw [HEY.out]; rfl); simpa only [Nat.add_zero] using this
            have cx1 : w4.cell? ⟨b0, o0 + i * 9 + 1, none⟩ = some (.int .i64 xb) := by have := HS.out w4 HJ4.out.2.1 1 _ rfl; simpa only [Nat.add_zero] using this
            have cy1 : w4.cell? ⟨g, (k - 1) * 9 + 1, none⟩ = some (.int .i64 yb) := by have := cy 1 (.int .i64 yb) (by rw [HEY.out]; rfl); simpa only [Nat.add_zero] using this
            have cx2 : w4.cell? ⟨b0, o0 + i * 9 + 2, none⟩ = some (.int .u8 xfr) := by have := HS.out w4 HJ4.out.2.1 2 _ rfl; simpa only [Nat.add_zero] using this
            have cy2 : w4.cell? ⟨g, (k - 1) * 9 + 2, none⟩ = some (.int .u8 yfr) := by have := cy 2 (.int .u8 yfr) (by rw [HEY.out]; rfl); simpa only [Nat.add_zero] using this
            have cx3 : w4.cell? ⟨b0, o0 + i * 9 + 3, none⟩ = some (.int .i64 xdi) := by have := HS.out w4 HJ4.out.2.1 3 _ rfl; simpa only [Nat.add_zero] using this
            have cy3 : w4.cell? ⟨g, (k - 1) * 9 + 3, none⟩ = some (.int .i64 ydi) := by have := cy 3 (.int .i64 ydi) (by rw [HEY.out]; rfl); simpa only [Nat.add_zero] using this
            have cx4 : w4.cell? ⟨b0, o0 + i * 9 + 4, none⟩ = some (.int .i64 xme) := by have := HS.out w4 HJ4.out.2.1 4 _ rfl; simpa only [Nat.add_zero] using this
            have cy4 : w4.cell? ⟨g, (k - 1) * 9 + 4, none⟩ = some (.int .i64 yme) := by have := cy 4 (.int .i64 yme) (by rw [HEY.out]; rfl); simpa only [Nat.add_zero] using this
            have cx5 : w4.cell? ⟨b0, o0 + i * 9 + 5, none⟩ = some (.int .i64 xta) := by have := HS.out w4 HJ4.out.2.1 5 _ rfl; simpa only [Nat.add_zero] using this
            have cy5 : w4.cell? ⟨g, (k - 1) * 9 + 5, none⟩ = some (.int .i64 yta) := by have := cy 5 (.int .i64 yta) (by rw [HEY.out]; rfl); simpa only [Nat.add_zero] using this
            have cx6 : w4.cell? ⟨b0, o0 + i * 9 + 6, none⟩ = some (.string xnm) := by have := HS.out w4 HJ4.out.2.1 6 _ rfl; simpa only [Nat.add_zero] using this
            have cy6 : w4.cell? ⟨g, (k - 1) * 9 + 6, none⟩ = some (.string ynm) := by have := cy 6 (.string ynm) (by rw [HEY.out]; rfl); simpa only [Nat.add_zero] using this
            have cx7 : w4.cell? ⟨b0, o0 + i * 9 + 7, none⟩ = some (.int .u32 xho) := by have := HS.out w4 HJ4.out.2.1 7 _ rfl; simpa only [Nat.add_zero] using this
            have cy7 : w4.cell? ⟨g, (k - 1) * 9 + 7, none⟩ = some (.int .u32 yho) := by have := cy 7 (.int .u32 yho) (by rw [HEY.out]; rfl); simpa only [Nat.add_zero] using this
            have cx8 : w4.cell? ⟨b0, o0 + i * 9 + 8, none⟩ = some (.bool xdc) := by have := HS.out w4 HJ4.out.2.1 8 _ rfl; simpa only [Nat.add_zero] using this
            have cy8 : w4.cell? ⟨g, (k - 1) * 9 + 8, none⟩ = some (.bool ydc) := by have := cy 8 (.bool ydc) (by rw [HEY.out]; rfl); simpa only [Nat.add_zero] using this
            have hb0l : b0 < w4.heap.size := by have := HJ4.out.2.1.size; omega
            have hgl : g < w4.heap.size := hrow.2
            clear cy hrow
            go_wp2_with fail
            refine wp_region_grows (by kernel_rfl) (by kernel_rfl) ?_
            refine grows_fact _ _ _ cx0 hb0l fun rx0 => ?_
            refine grows_fact _ _ _ cy0 hgl fun ry0 => ?_
            refine grows_fact _ _ _ cx1 hb0l fun rx1 => ?_
            refine grows_fact _ _ _ cy1 hgl fun ry1 => ?_
            refine grows_fact _ _ _ cx2 hb0l fun rx2 => ?_
            refine grows_fact _ _ _ cy2 hgl fun ry2 => ?_
            refine grows_fact _ _ _ cx3 hb0l fun rx3 => ?_
            refine grows_fact _ _ _ cy3 hgl fun ry3 => ?_
            refine grows_fact _ _ _ cx4 hb0l fun rx4 => ?_
            refine grows_fact _ _ _ cy4 hgl fun ry4 => ?_
            refine grows_fact _ _ _ cx5 hb0l fun rx5 => ?_
            refine grows_fact _ _ _ cy5 hgl fun ry5 => ?_
            refine grows_fact _ _ _ cx6 hb0l fun rx6 => ?_
            refine grows_fact _ _ _ cy6 hgl fun ry6 => ?_
            refine grows_fact _ _ _ cx7 hb0l fun rx7 => ?_
            refine grows_fact _ _ _ cy7 hgl fun ry7 => ?_
            refine grows_fact _ _ _ cx8 hb0l fun rx8 => ?_
            refine grows_fact _ _ _ cy8 hgl fun ry8 => ?_
            clear cx0 cy0 cx1 cy1 cx2 cy2 cx3 cy3 cx4 cy4 cx5 cy5 cx6 cy6 cx7 cy7 cx8 cy8 hb0l hgl
            repeat (go_big_quiet_step ((go_at_call 9; exact Calls.grows_of (HT.out _))))
            refine wpQuiet_nil ?_
            rintro w5 ⟨⟨_, hb5⟩, rfl⟩
            clear rx0 ry0 rx1 ry1 rx2 ry2 rx3 ry3 rx4 ry4 rx5 ry5 rx6 ry6 rx7 ry7 rx8 ry8

            have HJ5 : Hid (OwnR w.heap.size w5 (.slice (some ⟨g, 0, none⟩) out.length co) out ∧ Below w.heap.size w w5 ∧ ∀ j t, k ≤ j → out[j]? = some t → cR s0 t < 0) := Lib.hid ⟨HJ4.out.1.below hb5, HJ4.out.2.1.trans (hb5.mono HJ4.out.2.1.size), HJ4.out.2.2⟩
            clear hb5 HJ4
            by_cases hd1 : d = 0
            · subst hd1
              go_wp2_with fail
              go_roundw
              case rel =>
                refine ⟨i + 1, out, _, _, by omega, by go_num, rfl, Lib.hid ⟨HJ5.out.1, srt_skip HI.out.2.1 HLS.out ?_, HJ5.out.2.1⟩⟩
                have := cR_one HD.out
                rw [this]
                exact List.mem_of_getElem? HY.out
              case measure => first | (simp [intOf]; done) | (simp [intOf]; omega)
            · have HK : Hid (OwnR w.heap.size w5 (.slice (some ⟨g, 0, none⟩) out.length co) out ∧ Below w.heap.size w w5 ∧ (∀ j t, k ≤ j → out[j]? = some t → cR s0 t < 0) ∧ (∀ t, 0 < k → out[k - 1]? = some t → 0 < cR s0 t)) := Lib.hid ⟨HJ5.out.1, HJ5.out.2.1, HJ5.out.2.2, fun t _ ht => by
                have := HY.out
                rw [ht] at this
                simp only [Option.some.injEq] at this
                rw [this, HD.out]; omega⟩
              clear HJ5
              have e1 : (d == 0) = false := by simpa using hd1
              have z1 : IntKind.i64.wrap ((k : Int) + 1) = (k : Int) + 1 := IntWalk.i64_in _ ⟨by omega, by omega⟩
              have z2 : (0 : Int) ≤ (k : Int) + 1 := by omega
              have z3 : (k : Int) + 1 ≤ (out.length : Int) + 1 := by omega
              have z4 : ((k : Int) + 1).toNat = k + 1 := by omega
              have z5 : (k : Int) ≤ (out.length : Int) + 1 := by omega
              have z6 : (0 : Int) ≤ (k : Int) := by omega
              have z7 : (k : Int) < (out.length : Int) + 1 := by omega
              go_wp2_with (first
                | (at_builtin; go_loud (refine wpList_append_rdk (enc := encRt) encRt_len (by decide) encRt_one rfl _ _ 22 28 rfl zR 72 Try.underlying22 rfl infoA w.heap.size (.slice (some ⟨g, 0, none⟩) out.length co) out.length (flatK encRt out) rfl (own_new HK.out.1 HK.out.2.1) _ [zRt] rfl (zero_new _) (by unfold maxLen; simp; omega) (by simp; omega) (by have := HK.out.2.1.size; first | omega | (simp; omega)) ?_; intro v9 w9 hown9 hgr9 hor9; obtain ⟨hO9, hB9⟩ := app_facts HK.out.1 HK.out.2.1 hown9 hgr9; obtain ⟨g1, cap1, rfl, hg1, hc1, hcm1, hrow1, hlt1⟩ := own_snoc hO9; have HR1 := Lib.hid (And.intro hrow1 hB9); clear hown9 hgr9 hor9 hO9 hB9 hrow1)))
              go_still_tail 7, (by kernel_rfl)
              refine wpList_copy_rt (by rfl) (.tmp 53) (.tmp 56) (by rfl) _ _ _ _ _ _ (by rfl) (by rfl) g1 ((k + 1) * 9) g1 (k * 9) (out.drop k) ?cw51 ?cw52 ?cw53 ?cw54 ?cw55
              case cw51 => simp [Nat.min_def]; try omega
              case cw52 =>
                intro hp
                simp at hp
                exact ⟨by rw [if_neg (by omega)], by rw [if_neg (by omega)], HR1.out.1.flat k (out.drop k) fun m t hm => by
                  rw [List.getElem?_drop] at hm
                  rw [List.getElem?_append_left (List.getElem?_eq_some_iff.1 hm).1]; exact hm⟩
              case cw53 => intro j hj; exact HR1.out.1.there (by rw [List.length_drop] at hj; omega)
              case cw54 => intro j hj; exact HR1.out.1.free _
              case cw55 =>
                have hR2 := HR1.out.1.over (p := k + 1) (out.drop k) (by simp; omega) (by simp; omega)
                obtain ⟨W2, hW2⟩ : ∃ X, (w9.setCells g1 ((k + 1) * 9) (flatK encRt (out.drop k))).drew = X := ⟨_, rfl⟩
                have HR2 : Hid (RowR W2 g1 cap1 [] (out.take k ++ (((out ++ [zRt]).drop k).take 1 ++ out.drop k)) 0 ∧ Below w.heap.size w W2) := Lib.hid (by
                  rw [ins1 out zRt k hk] at hR2
                  rw [← hW2]
                  exact ⟨hR2.of rfl, (HR1.out.2.trans (below_sets _ _ _ _ _ hg1)).drew⟩)
                have hL : (out.take k ++ s0 :: out.drop k).length = out.length + 1 := by simp; omega
                have HP : Hid (∀ W', W' = W2.setCells g1 (k * 9) [.int .u32 xa, .int .i64 xb, .int .u8 xfr, .int .i64 xdi, .int .i64 xme, .int .i64 xta, .string xnm, .int .u32 xho, .bool xdc] → OwnR w.heap.size W' (.slice (some ⟨g1, 0, none⟩) (out.length + 1) cap1) (out.take k ++ s0 :: out.drop k) ∧ Below w.heap.size w W') := Lib.hid fun W' hW => by
                  rw [← HES.out, ← flat_one] at hW
                  rw [hW]
                  refine ⟨?_, HR2.out.2.trans (below_sets _ _ _ _ _ hg1)⟩
                  have h1l : (((out ++ [zRt]).drop k).take 1).length = 1 := by simp; omega
                  have htl : (out.take k).length = k := by simp; omega
                  have h3 := HR2.out.1.over (p := k) [s0] (by simp; omega) (by simp; omega)
                  have e := ins2 (s := s0) (b := out.drop k) htl h1l
                  rw [e] at h3
                  have := h3.own hg1 (by rw [hL]; exact hc1) hcm1
                  rwa [hL] at this
                have cx0 : W2.cell? ⟨b0, o0 + i * 9, none⟩ = some (.int .u32 xa) := by have := HS.out W2 HR2.out.2 0 _ rfl; simpa only [Nat.add_zero] using this
                obtain ⟨ol0, col0⟩ := Option.isSome_iff_exists.1 (HR2.out.1.there (o := k * 9) (by omega))
                have fo0 := HR2.out.1.free (k * 9)
                have cx1 : W2.cell? ⟨b0, o0 + i * 9 + 1, none⟩ = some (.int .i64 xb) := by have := HS.out W2 HR2.out.2 1 _ rfl; simpa only [Nat.add_zero] using this
                obtain ⟨ol1, col1⟩ := Option.isSome_iff_exists.1 (HR2.out.1.there (o := k * 9 + 1) (by omega))
                have fo1 := HR2.out.1.free (k * 9 + 1)
                have cx2 : W2.cell? ⟨b0, o0 + i * 9 + 2, none⟩ = some (.int .u8 xfr) := by have := HS.out W2 HR2.out.2 2 _ rfl; simpa only [Nat.add_zero] using this
                obtain ⟨ol2, col2⟩ := Option.isSome_iff_exists.1 (HR2.out.1.there (o := k * 9 + 2) (by omega))
                have fo2 := HR2.out.1.free (k * 9 + 2)
                have cx3 : W2.cell? ⟨b0, o0 + i * 9 + 3, none⟩ = some (.int .i64 xdi) := by have := HS.out W2 HR2.out.2 3 _ rfl; simpa only [Nat.add_zero] using this
                obtain ⟨ol3, col3⟩ := Option.isSome_iff_exists.1 (HR2.out.1.there (o := k * 9 + 3) (by omega))
                have fo3 := HR2.out.1.free (k * 9 + 3)
                have cx4 : W2.cell? ⟨b0, o0 + i * 9 + 4, none⟩ = some (.int .i64 xme) := by have := HS.out W2 HR2.out.2 4 _ rfl; simpa only [Nat.add_zero] using this
                obtain ⟨ol4, col4⟩ := Option.isSome_iff_exists.1 (HR2.out.1.there (o := k * 9 + 4) (by omega))
                have fo4 := HR2.out.1.free (k * 9 + 4)
                have cx5 : W2.cell? ⟨b0, o0 + i * 9 + 5, none⟩ = some (.int .i64 xta) := by have := HS.out W2 HR2.out.2 5 _ rfl; simpa only [Nat.add_zero] using this
                obtain ⟨ol5, col5⟩ := Option.isSome_iff_exists.1 (HR2.out.1.there (o := k * 9 + 5) (by omega))
                have fo5 := HR2.out.1.free (k * 9 + 5)
                have cx6 : W2.cell? ⟨b0, o0 + i * 9 + 6, none⟩ = some (.string xnm) := by have := HS.out W2 HR2.out.2 6 _ rfl; simpa only [Nat.add_zero] using this
                obtain ⟨ol6, col6⟩ := Option.isSome_iff_exists.1 (HR2.out.1.there (o := k * 9 + 6) (by omega))
                have fo6 := HR2.out.1.free (k * 9 + 6)
                have cx7 : W2.cell? ⟨b0, o0 + i * 9 + 7, none⟩ = some (.int .u32 xho) := by have := HS.out W2 HR2.out.2 7 _ rfl; simpa only [Nat.add_zero] using this
                obtain ⟨ol7, col7⟩ := Option.isSome_iff_exists.1 (HR2.out.1.there (o := k * 9 + 7) (by omega))
                have fo7 := HR2.out.1.free (k * 9 + 7)
                have cx8 : W2.cell? ⟨b0, o0 + i * 9 + 8, none⟩ = some (.bool xdc) := by have := HS.out W2 HR2.out.2 8 _ rfl; simpa only [Nat.add_zero] using this
                obtain ⟨ol8, col8⟩ := Option.isSome_iff_exists.1 (HR2.out.1.there (o := k * 9 + 8) (by omega))
                have fo8 := HR2.out.1.free (k * 9 + 8)
                clear hR2 HR1
                show wpList _ _ _ [] _ (World.setCells w9.drew _ _ _)
                have hWd : World.setCells w9.drew g1 ((k + 1) * 9) (flatK encRt (out.drop k)) = W2 := by rw [← hW2]; exact drew_sets _ _ _ _
                rw [hWd]
                clear hW2 hWd
                go_wp2_with fail
                go_roundw
                case rel => exact ⟨i + 1, out.take k ++ s0 :: out.drop k, _, _, by omega, by go_num, by rw [hL], Lib.hid ⟨by rw [hL]; exact (HP.out _ rfl).1, srt_put HI.out.2.1 HLS.out hk HK.out.2.2.1 HK.out.2.2.2, (HP.out _ rfl).2⟩⟩
                case measure => first | (simp [intOf]; done) | (simp [intOf]; omega)

    · have hil : i = l.length := by omega
      have hlti : ¬ (i : Int) < (l.length : Int) := by omega
      subst hil
      go_wp2_with fail
      go_ret
      exact ⟨_, rfl, _, HI.out.1, by have := HI.out.2.1; rwa [List.take_length] at this, HI.out.2.2⟩
end Go.Proofs.Ytiimbcdnblhpfaa
