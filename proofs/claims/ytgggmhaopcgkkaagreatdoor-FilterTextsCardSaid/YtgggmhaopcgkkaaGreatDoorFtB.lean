/- ports of package waymarkref10: what it hands back for whatever text. No condition but those named. -/
import Derived.Test.YtgggmhaopcgkkaaGreatDoorFbA
import Derived.Test.YtgggmhaopcgkkaaGreatDoorRRead
import Derived.Test.YtgggmhaopcgkkaaGreatDoorRPars
import Derived.Deep.QuietTactic
import Derived.BigQuiet
namespace Go.Proofs.YtgggmhaopcgkkaaGreatDoor
open Go.RowKit
/-- What ports hands back: a span, and whether the text says one; if it is a span's text, that one. -/
def RPortsP (l : List UInt8) (w : World) (e : Ending) (w' : World) : Prop := Below w.heap.size w w' ∧ ∃ (a b : Int) (t : Bool), e = .returned (.tuple #[.agg #[.int .u32 a, .int .u32 b], .bool t]) ∧ 0 ≤ a ∧ a < 4294967296 ∧ 0 ≤ b ∧ b < 4294967296 ∧ ∀ x y : Int, 0 ≤ x → x ≤ y → y ≤ 65535 → portsT x y = l → a = x ∧ b = y ∧ t = true
theorem numR_range (o : Option Nat) (h : ∀ n, o = some n → n ≤ 65535) : -1 ≤ numR o ∧ numR o ≤ 65535 := by
  cases o with
  | none => simp [numR]
  | some n => have := h n rfl; simp only [numR]; omega
set_option maxRecDepth 100000 in
set_option maxHeartbeats 4000000 in
theorem rports_is (s : ByteArray) (hs : s.size ≤ 1048576) (w : World) : Calls Tryz.prog 27 #[.string s] w (RPortsP s.data.toList w) := by
  obtain ⟨W1, hW1⟩ : ∃ X, w.alloc (.cells #[.int .u32 0, .int .u32 0] 27) = X := ⟨_, rfl⟩
  have S1 : Hid (Bx w W1 w.heap.size 27 [.int .u32 0, .int .u32 0]) := Lib.hid (by rw [← hW1]; exact Bx.mk1 _ _ _)
  have xc0 : W1.cell? ⟨w.heap.size, 0, none⟩ = some (.int .u32 0) := S1.out.cells 0
  have xc1 : W1.cell? ⟨w.heap.size, 1, none⟩ = some (.int .u32 0) := S1.out.cells 1
  have xf0 := S1.out.free 0
  have xf1 := S1.out.free 1
  go_enter Tryz.func27, Tryz.ntmps27
  go_wp2_with fail
  go_loop [4] (fun s4 => ∃ k : Nat, k ≤ s.size ∧ s4 = .int .i64 k ∧ Hid ((45 : UInt8) ∉ s.data.toList.take k)) (fun s4 => s.size - (intOf s4).toNat)
  case atStart => exact ⟨0, by omega, rfl, Lib.hid (by simp)⟩
  case round =>
    obtain ⟨k, hk, rfl, HNO⟩ := hrel
    by_cases hlt : k < s.size
    · have hkl : k < s.data.toList.length := by rw [str_toList]; exact hlt
      have hget := get_at s k hlt hkl
      by_cases hc : s[k]'hlt = 45
      · have hc1 : (((s[k]'hlt).toNat : Int) == 45) = true := by rw [hc]; rfl
        have hcut : cut1 s.data.toList 45 = (s.data.toList.take k, s.data.toList.drop (k + 1), true) := by
          have e : s.data.toList = s.data.toList.take k ++ 45 :: s.data.toList.drop (k + 1) := by
            have h := List.take_append_drop k s.data.toList
            rw [List.drop_eq_getElem_cons hkl, hget, hc] at h
            exact h.symm
          have h := cut1_mk _ (s.data.toList.drop (k + 1)) 45 HNO.out
          rw [← e] at h
          exact h
        have e1 : (s.extract 0 k).data.toList = s.data.toList.take k := by rw [ext_take, mk_toList]
        have e2 : (s.extract (k + 1) s.size).data.toList = s.data.toList.drop (k + 1) := by rw [ext_drop, mk_toList]
        obtain ⟨M1, hM1⟩ : ∃ X, numR (num (s.data.toList.take k) 65535) = X := ⟨_, rfl⟩
        obtain ⟨M2, hM2⟩ : ∃ X, numR (num (s.data.toList.drop (k + 1)) 65535) = X := ⟨_, rfl⟩
        have r1 := numR_range (num (s.data.toList.take k) 65535) (fun n h => (num_some h).2.2.2.1)
        have r2 := numR_range (num (s.data.toList.drop (k + 1)) 65535) (fun n h => (num_some h).2.2.2.1)
        rw [hM1] at r1
        rw [hM2] at r2
        have H1 : Hid (∀ w : World, Calls Tryz.prog 25 #[.string (s.extract 0 k), .int .i64 65535] w fun e w' => e = .returned (.int .i64 M1) ∧ w' = w) := Lib.hid fun w => by
          have h := read_is (s.extract 0 k) 65535 w (by omega) (by rw [ByteArray.size_extract]; omega)
          rw [e1, hM1] at h
          exact h.mono fun e w' ⟨h1, h2⟩ => ⟨h1, h2.symm⟩
        have H2 : Hid (∀ w : World, Calls Tryz.prog 25 #[.string (s.extract (k + 1) s.size), .int .i64 65535] w fun e w' => e = .returned (.int .i64 M2) ∧ w' = w) := Lib.hid fun w => by
          have h := read_is (s.extract (k + 1) s.size) 65535 w (by omega) (by rw [ByteArray.size_extract]; omega)
          rw [e2, hM2] at h
          exact h.mono fun e w' ⟨h1, h2⟩ => ⟨h1, h2.symm⟩
        have HCUT := Lib.hid hcut
        have HM1 := Lib.hid hM1
        have HM2 := Lib.hid hM2
        have HFIN : Hid (∀ x y : Int, 0 ≤ x → x ≤ y → y ≤ 65535 → portsT x y = s.data.toList → M1 = x ∧ M2 = y) := Lib.hid fun x y h0 h1 h2 h3 => by
          obtain ⟨h4, h5⟩ := ports_read h0 h1 h2 h3
          rw [HCUT.out] at h4 h5
          have g1 := HM1.out
          have g2 := HM2.out
          simp only at h4 h5
          rw [h4] at g1
          rw [h5] at g2
          simp only [numR] at g1 g2
          omega
        clear hget hc e1 e2 hcut hM1 hM2 HCUT HM1 HM2
        have s0 : (0 : Int) ≤ (k : Int) := by omega
        have s1 : (k : Int) ≤ (s.size : Int) := by omega
        have s2 : IntKind.i64.wrap ((k : Int) + 1) = (k : Int) + 1 := IntWalk.i64_in _ (by omega)
        have s3 : (0 : Int) ≤ (k : Int) + 1 := by omega
        have s4 : (k : Int) + 1 ≤ (s.size : Int) := by omega
        have s5 : ((k : Int) + 1).toNat = k + 1 := by omega
        go_wp2_with fail
        go_quiet ((first | (go_at_call 25; with_reducible exact Calls.quiet_of_same (H1.out _)) | (go_at_call 25; with_reducible exact Calls.quiet_of_same (H2.out _))))
        obtain ⟨wq, hwq⟩ : ∃ X, W1.drewN nq = X := ⟨_, rfl⟩
        have S2 : Hid (Bx w wq w.heap.size 27 [.int .u32 0, .int .u32 0]) := Lib.hid (by rw [← hwq]; exact S1.out.on (Below.draws (Below.refl _ _) _))
        rw [hwq]
        clear hwq xc0 xc1 xf0 xf1
        have xc0 : wq.cell? ⟨w.heap.size, 0, none⟩ = some (.int .u32 0) := S2.out.cells 0
        have xc1 : wq.cell? ⟨w.heap.size, 1, none⟩ = some (.int .u32 0) := S2.out.cells 1
        have xf0 := S2.out.free 0
        have xf1 := S2.out.free 1
        have HR1 := Lib.hid r1; have HR2 := Lib.hid r2
        clear r1 r2
        have w1 : 0 ≤ M1 % 4294967296 ∧ M1 % 4294967296 < 4294967296 := by omega
        have w2 : 0 ≤ M2 % 4294967296 ∧ M2 % 4294967296 < 4294967296 := by omega
        by_cases g1 : 0 ≤ M1
        · by_cases g2 : 0 ≤ M2
          · go_wp2
            clear xc0 xc1 xf0 xf1
            obtain ⟨w5, hw5⟩ : ∃ X, ((wq.setCell ⟨w.heap.size, 0, none⟩ (.int .u32 (M1 % 4294967296))).setCell ⟨w.heap.size, 1, none⟩ (.int .u32 (M2 % 4294967296))) = X := ⟨_, rfl⟩
            have S5 : Hid (Bx w w5 w.heap.size 27 [.int .u32 (M1 % 4294967296), .int .u32 (M2 % 4294967296)]) := Lib.hid (by rw [← hw5]; exact (S2.out.st 0 (.int .u32 (M1 % 4294967296))).st 1 (.int .u32 (M2 % 4294967296)))
            rw [hw5]
            clear hw5
            have xc0 : w5.cell? ⟨w.heap.size, 0, none⟩ = some (.int .u32 (M1 % 4294967296)) := S5.out.cells 0
            have xc1 : w5.cell? ⟨w.heap.size, 1, none⟩ = some (.int .u32 (M2 % 4294967296)) := S5.out.cells 1
            refine bodyPost_ret (v := .tuple #[.agg #[.int .u32 (M1 % 4294967296), .int .u32 (M2 % 4294967296)], .bool true]) (by simp [results, Tryz.results27, go_sem, xc0, xc1]) rfl ⟨S5.out.bel, _, _, _, rfl, w1.1, w1.2, w2.1, w2.2, fun x y h0 h1 h2 h3 => ?_⟩
            obtain ⟨e1, e2⟩ := HFIN.out x y h0 h1 h2 h3
            have r1 := HR1.out; have r2 := HR2.out
            exact ⟨by omega, by omega, rfl⟩
          · go_wp2
            clear xc0 xc1 xf0 xf1
            obtain ⟨w5, hw5⟩ : ∃ X, ((wq.setCell ⟨w.heap.size, 0, none⟩ (.int .u32 (M1 % 4294967296))).setCell ⟨w.heap.size, 1, none⟩ (.int .u32 (M2 % 4294967296))) = X := ⟨_, rfl⟩
            have S5 : Hid (Bx w w5 w.heap.size 27 [.int .u32 (M1 % 4294967296), .int .u32 (M2 % 4294967296)]) := Lib.hid (by rw [← hw5]; exact (S2.out.st 0 (.int .u32 (M1 % 4294967296))).st 1 (.int .u32 (M2 % 4294967296)))
            rw [hw5]
            clear hw5
            have xc0 : w5.cell? ⟨w.heap.size, 0, none⟩ = some (.int .u32 (M1 % 4294967296)) := S5.out.cells 0
            have xc1 : w5.cell? ⟨w.heap.size, 1, none⟩ = some (.int .u32 (M2 % 4294967296)) := S5.out.cells 1
            refine bodyPost_ret (v := .tuple #[.agg #[.int .u32 (M1 % 4294967296), .int .u32 (M2 % 4294967296)], .bool false]) (by simp [results, Tryz.results27, go_sem, xc0, xc1]) rfl ⟨S5.out.bel, _, _, _, rfl, w1.1, w1.2, w2.1, w2.2, fun x y h0 h1 h2 h3 => ?_⟩
            obtain ⟨e1, e2⟩ := HFIN.out x y h0 h1 h2 h3
            exfalso
            omega
        · go_wp2
          clear xc0 xc1 xf0 xf1
          obtain ⟨w5, hw5⟩ : ∃ X, ((wq.setCell ⟨w.heap.size, 0, none⟩ (.int .u32 (M1 % 4294967296))).setCell ⟨w.heap.size, 1, none⟩ (.int .u32 (M2 % 4294967296))) = X := ⟨_, rfl⟩
          have S5 : Hid (Bx w w5 w.heap.size 27 [.int .u32 (M1 % 4294967296), .int .u32 (M2 % 4294967296)]) := Lib.hid (by rw [← hw5]; exact (S2.out.st 0 (.int .u32 (M1 % 4294967296))).st 1 (.int .u32 (M2 % 4294967296)))
          rw [hw5]
          clear hw5
          have xc0 : w5.cell? ⟨w.heap.size, 0, none⟩ = some (.int .u32 (M1 % 4294967296)) := S5.out.cells 0
          have xc1 : w5.cell? ⟨w.heap.size, 1, none⟩ = some (.int .u32 (M2 % 4294967296)) := S5.out.cells 1
          refine bodyPost_ret (v := .tuple #[.agg #[.int .u32 (M1 % 4294967296), .int .u32 (M2 % 4294967296)], .bool false]) (by simp [results, Tryz.results27, go_sem, xc0, xc1]) rfl ⟨S5.out.bel, _, _, _, rfl, w1.1, w1.2, w2.1, w2.2, fun x y h0 h1 h2 h3 => ?_⟩
          obtain ⟨e1, e2⟩ := HFIN.out x y h0 h1 h2 h3
          exfalso
          omega
      · have hc1 : (((s[k]'hlt).toNat : Int) == 45) = false := by
          simp only [beq_eq_false_iff_ne, ne_eq]
          exact fun h => hc (UInt8.toNat_inj.mp (by have h46 : (45 : UInt8).toNat = 45 := rfl; omega))
        have HN2 : Hid (45 ∉ s.data.toList.take (k + 1)) := Lib.hid (by
          rw [List.take_succ_eq_append_getElem hkl, hget]
          simp only [List.mem_append, List.mem_singleton, not_or]
          exact ⟨HNO.out, fun h => hc h.symm⟩)
        clear hc hget
        go_wp2_with fail
        go_round
        case rel => exact ⟨k + 1, by omega, by go_num, HN2⟩
        case measure => first | (simp [intOf]; done) | (simp [intOf]; omega)
    · have hks : k = s.size := by omega
      have HNF : Hid (∀ x y : Int, 0 ≤ x → x ≤ y → y ≤ 65535 → portsT x y ≠ s.data.toList) := Lib.hid fun x y h0 h1 h2 h3 => by
        have h4 := HNO.out
        rw [hks, List.take_of_length_le (by rw [str_toList]; exact Nat.le_refl _), ← h3] at h4
        exact h4 (by unfold portsT; simp)
      have hdd : decide ((k : Int) < (s.size : Int)) = false := by simp; omega
      clear hks
      go_wp2
      clear xc0 xc1 xf0 xf1
      obtain ⟨w5, hw5⟩ : ∃ X, ((W1.setCell ⟨w.heap.size, 0, none⟩ (.int .u32 0)).setCell ⟨w.heap.size, 1, none⟩ (.int .u32 0)) = X := ⟨_, rfl⟩
      have S5 : Hid (Bx w w5 w.heap.size 27 [.int .u32 0, .int .u32 0]) := Lib.hid (by rw [← hw5]; exact (S1.out.st 0 (.int .u32 0)).st 1 (.int .u32 0))
      rw [hw5]
      clear hw5
      have xc0 : w5.cell? ⟨w.heap.size, 0, none⟩ = some (.int .u32 0) := S5.out.cells 0
      have xc1 : w5.cell? ⟨w.heap.size, 1, none⟩ = some (.int .u32 0) := S5.out.cells 1
      refine bodyPost_ret (v := .tuple #[.agg #[.int .u32 0, .int .u32 0], .bool false]) (by simp [results, Tryz.results27, go_sem, xc0, xc1]) rfl ⟨S5.out.bel, 0, 0, false, rfl, by omega, by omega, by omega, by omega, fun x y h0 h1 h2 h3 => absurd h3 (HNF.out x y h0 h1 h2)⟩
end Go.Proofs.YtgggmhaopcgkkaaGreatDoor
