/- slices.heapSortOrdered at uint32. Under the conditions that it names. -/
import Derived.Test.YtkkhmdiffddllaaDoorUsB
namespace Go.Proofs.YtkkhmdiffddllaaDoor
open Go.Shelf Go.RowKit Go.Lib Go.Sort
theorem swappedD {w0 W : World} {blk off : Nat} {dk : Array Int} (S : SW encW w0 blk off dk W) (R : blk < w0.heap.size) (i j : Nat) (hi : i < dk.size) (hj : j < dk.size) {x y : Int} (hx : x = dk[i]!) (hy : y = dk[j]!) :
    SW encW w0 blk off (swp dk i j) ((((W).setCell ⟨blk, off + i, none⟩ (.int .u32 y)).setCell ⟨blk, off + j, none⟩ (.int .u32 x))).drew := by
  subst hx; subst hy
  exact (S.swap R i j hi hj).drew
theorem hb_go (hi first k : Nat) (d : Array Int) : heapBuild ltInt hi first (k + 1) d = heapBuild ltInt hi first k (siftDown ltInt hi first k d) := rfl
theorem hp_go (first k : Nat) (d : Array Int) : heapPop ltInt first (k + 1) d = heapPop ltInt first k (siftDown ltInt k first 0 (swp d first (first + k))) := rfl
theorem sd_size (hi F : Nat) (r : Nat) (d : Array Int) (hb : F + hi ≤ d.size) (hr : r ≤ hi) : (siftDown ltInt hi F r d).size = d.size := by
  suffices h : ∀ (m r : Nat) (d : Array Int), hi - r ≤ m → F + hi ≤ d.size → (siftDown ltInt hi F r d).size = d.size from h _ r d (Nat.le_refl _) hb
  intro m
  induction m with
  | zero => intro r d h hb; rw [siftDown, dif_pos (by omega)]
  | succ m ih =>
    intro r d h hb
    rw [siftDown]
    split
    · rfl
    · split
      · split
        · rfl
        · split
          · rw [ih _ _ (by omega) (by rw [size_swp]; exact hb), size_swp]
          · rfl
      · split
        · rfl
        · rw [ih _ _ (by omega) (by rw [size_swp]; exact hb), size_swp]
set_option maxHeartbeats 2000000 in
set_option maxRecDepth 100000 in
theorem heap_is (blk off cap a b : Nat) (d0 d : Array Int) (w0 w : World) (R : Row1 encW w0 blk off d0) (hs : d.size = d0.size) (S : SW encW w0 blk off d w) (hab : a < b) (hb : b ≤ d.size) (hsz : d.size < 35184372088832) :
    Calls Tryd.prog 43 #[.slice (some ⟨blk, off, none⟩) d.size cap, .int .i64 a, .int .i64 b] w fun e w' => e = .returned (.tuple #[]) ∧ SW encW w0 blk off (Sort.heapSort ltInt d a b) w' := by
  have HR := Lib.hid R
  obtain ⟨n, hn⟩ : ∃ n, d.size = n := ⟨_, rfl⟩
  have S0 := Lib.hid S
  rw [hn] at hs hb hsz ⊢
  have HE := Lib.hid hs
  clear R S hs
  go_enter Tryd.func43, Tryd.ntmps43
  obtain ⟨H, hHn⟩ : ∃ H : Nat, H = b - a := ⟨_, rfl⟩
  obtain ⟨K, hKn⟩ : ∃ K : Nat, K = (H - 1) / 2 := ⟨_, rfl⟩
  have hH : (b : Int) - (a : Int) = (H : Int) := by omega
  have hK : ((H : Int) - 1) / 2 = (K : Int) := by omega
  have HS : Hid (Sort.heapSort ltInt d a b = heapPop ltInt a H (heapBuild ltInt H a (K + 1) d)) := Lib.hid (by unfold Sort.heapSort; rw [← hHn, ← hKn])
  have HB : a + H ≤ n := by omega
  have HK : K ≤ H := by omega
  have H0 : 0 < H := by omega
  clear hHn hKn
  go_wp2
  rw [hK]
  go_loopw [9] (fun vi wr => ∃ (v : Int) (k : Nat) (dk : Array Int), vi = .int .i64 v ∧ v + 1 = (k : Int) ∧ k ≤ K + 1 ∧ dk.size = n ∧ Hid (SW encW w0 blk off dk wr) ∧ Hid (heapBuild ltInt H a k dk = heapBuild ltInt H a (K + 1) d)) (fun vi _ => (intOf vi + 1).toNat)
  case atStart => exact ⟨_, K + 1, d, rfl, by omega, Nat.le_refl _, hn, S0, Lib.hid rfl⟩
  case round =>
    obtain ⟨v, k, dk, rfl, hv, hk, hsk, SK, HO⟩ := hrel
    clear S0
    cases k with
    | succ k =>
      obtain rfl : v = (k : Int) := by omega
      have hge : (k : Int) ≥ 0 := by omega
      have C := Lib.hid (sift_is blk off cap k H a d0 dk w0 wr HR.out (by have := HE.out; omega) SK.out (by omega) (by omega) (by omega))
      rw [hsk] at C
      go_wp2_with (first | (go_at_call 59; refine C.out.mono ?_; rintro e w2 ⟨rfl, S2⟩))
      go_roundw
      case rel => exact ⟨_, k, siftDown ltInt H a k dk, rfl, by omega, by omega, by rw [sd_size _ _ _ _ (by omega) (by omega)]; exact hsk, Lib.hid S2, Lib.hid (by rw [← HO.out, hb_go])⟩
      case measure => simp [intOf] <;> omega
    | zero =>
      obtain rfl : v = -1 := by omega
      have HO' : Hid (dk = heapBuild ltInt H a (K + 1) d) := Lib.hid HO.out
      go_wp2
      go_loopw [10] (fun vi wr => ∃ (v : Int) (k : Nat) (dj : Array Int), vi = .int .i64 v ∧ v + 1 = (k : Int) ∧ k ≤ H ∧ dj.size = n ∧ Hid (SW encW w0 blk off dj wr) ∧ Hid (heapPop ltInt a k dj = heapPop ltInt a H dk)) (fun vi _ => (intOf vi + 1).toNat)
      case atStart => exact ⟨_, H, dk, rfl, by omega, Nat.le_refl _, hsk, SK, Lib.hid rfl⟩
      case round =>
        obtain ⟨v, k, dj, rfl, hv, hk, hsj, SJ, HP⟩ := hrel
        clear SK
        cases k with
        | succ k =>
          obtain rfl : v = (k : Int) := by omega
          have hge2 : (k : Int) ≥ 0 := by omega
          obtain ⟨G, HG, hcw, hfw⟩ := fam SJ.out HR.out (by have := HE.out; omega) n hsj
          by_cases hk0 : k = 0
          · subst hk0
            go_wp2
            go_region
            have S2 := Lib.hid (swappedD SJ.out HR.out.hblk a a (by omega) (by omega) (HG.out _) (HG.out _))
            generalize ((wr.setCell ⟨blk, off + a, none⟩ (.int .u32 (G a))).setCell ⟨blk, off + a, none⟩ (.int .u32 (G a))).drew = w2 at S2 ⊢
            have C := Lib.hid (sift_is blk off cap 0 0 a d0 (swp dj a a) w0 w2 HR.out (by rw [size_swp]; have := HE.out; omega) S2.out (by omega) (by rw [size_swp]; omega) (by rw [size_swp]; omega))
            rw [size_swp, hsj] at C
            clear hcw hfw HG
            go_wp2_with (first | (go_at_call 59; refine C.out.mono ?_; rintro e w3 ⟨rfl, S3⟩))
            go_roundw
            case rel => exact ⟨_, 0, siftDown ltInt 0 a 0 (swp dj a a), rfl, by omega, by omega, by rw [sd_size _ _ _ _ (by rw [size_swp]; omega) (by omega), size_swp]; exact hsj, Lib.hid S3, Lib.hid (by rw [← HP.out, hp_go]; try rfl)⟩
            case measure => simp [intOf] <;> omega
          · go_wp2
            go_region
            have S2 := Lib.hid (swappedD SJ.out HR.out.hblk a (a + k) (by omega) (by omega) (HG.out _) (HG.out _))
            generalize ((wr.setCell ⟨blk, off + a, none⟩ (.int .u32 (G (a + k)))).setCell ⟨blk, off + (a + k), none⟩ (.int .u32 (G a))).drew = w2 at S2 ⊢
            have C := Lib.hid (sift_is blk off cap 0 k a d0 (swp dj a (a + k)) w0 w2 HR.out (by rw [size_swp]; have := HE.out; omega) S2.out (by omega) (by rw [size_swp]; omega) (by rw [size_swp]; omega))
            rw [size_swp, hsj] at C
            clear hcw hfw HG
            go_wp2_with (first | (go_at_call 59; refine C.out.mono ?_; rintro e w3 ⟨rfl, S3⟩))
            go_roundw
            case rel => exact ⟨_, k, siftDown ltInt k a 0 (swp dj a (a + k)), rfl, by omega, by omega, by rw [sd_size _ _ _ _ (by rw [size_swp]; omega) (by omega), size_swp]; exact hsj, Lib.hid S3, Lib.hid (by rw [← HP.out, hp_go]; try rfl)⟩
            case measure => simp [intOf] <;> omega
        | zero =>
          obtain rfl : v = -1 := by omega
          go_wp2
          go_end0
          exact ⟨rfl, by rw [HS.out, ← HO'.out, ← HP.out]; exact SJ.out⟩
end Go.Proofs.YtkkhmdiffddllaaDoor
