/- What Text and PrefixText of package addr write. Conditions: the table of package strconv is what its text says. -/
import Derived.Test.YtkkhmdiffddllaaDoorParse
import Derived.Lib.AppendIntMem
namespace Go.Proofs.YtkkhmdiffddllaaDoor
open Go.RowKit
/-- The table that the writing of numbers reads. -/
def Tab10 (w : World) : Prop := Lib.TabIs Tryd.prog w "internal/strconv.uint64pow10" .u64 Lib.pow10Tab
theorem g10 : Tryd.prog.globalNamed "internal/strconv.uint64pow10" = some 3 := by kernel_rfl
theorem Tab10.lt {w : World} (h : Tab10 w) : 3 < w.heap.size := by
  have h1 := Lib.TabIs.cell h g10 0 (by decide)
  exact World.block_lt_of_cell? w _ h1
theorem Tab10.on {w w' : World} (h : Tab10 w) (hb : Below w.heap.size w w') : Tab10 w' := by
  have hl := h.lt
  unfold Tab10 Lib.TabIs at *
  rw [← h]
  unfold World.var?
  simp only [g10, Option.bind_some]
  rw [hb.block _ hl]
/-- A text's cells are owned, new ones behind. -/
def AppPost (B : Nat) (n : Nat) (xs : List Value) (l : List UInt8) (w : World) (e : Ending) (w' : World) : Prop := ∃ v', e = .returned v' ∧ w'.ownsRow B 5 1 v' (n + l.length) (xs ++ Lib.byteCells l) ∧ Below B w w'
theorem infoB : (Tryd.prog.info? 5).map (fun i => (i.zero, i.size, i.bytes)) = some (some (.int .u8 0), 1, 1) := by kernel_rfl
def octet (a : Nat) (j : Nat) : Nat := a / 256 ^ (3 - j) % 256
def textTo (a : Nat) : Nat → List UInt8
  | 0 => []
  | j + 1 => textTo a j ++ ((if j = 0 then [] else [46]) ++ Lib.decDigits (octet a j))
theorem dec_len (u : Nat) : (Lib.decDigits u).length ≤ u + 1 := by
  induction u using Nat.strongRecOn with
  | _ u ih =>
    by_cases h : u < 10
    · rw [dec_small h]; simp
    · rw [dec_big h]
      have := ih (u / 10) (by omega)
      simp
      omega
theorem octet_lt (a j : Nat) : octet a j < 256 := Nat.mod_lt _ (by omega)
theorem textTo_len (a j : Nat) : (textTo a j).length ≤ j * 257 := by
  induction j with
  | zero => simp [textTo]
  | succ j ih =>
    have h1 := dec_len (octet a j)
    have h2 := octet_lt a j
    simp only [textTo, List.length_append]
    by_cases h : j = 0
    · subst h
      have h3 := octet_lt a 0
      simp [textTo]
      omega
    · simp [h]; omega
theorem octet_and (x : Int) (h0 : 0 ≤ x) (h1 : x < 4294967296) : IntKind.u64.wrap (bits .and .u32 x 255) = ((x.toNat % 256 : Nat) : Int) := by
  rw [u32_and x 255 h0 h1 (by omega) (by omega), show (255 : Int).toNat = 255 from rfl, nat_mask8]
  exact IntWalk.u64_in _ ⟨by omega, by omega⟩
theorem textTo_4 (a : Nat) (h : a < 4294967296) : textTo a 4 = text a := by
  simp only [textTo, octet, text]
  have e : a / 256 ^ (3 - 0) % 256 = a / 16777216 := by show a / 16777216 % 256 = _; omega
  rw [e]
  simp [Nat.div_one]
theorem conv_bytes {w : World} {B g cap : Nat} {L : List UInt8} (h : w.ownsRow B 5 1 (.slice (some ⟨g, 0, none⟩) L.length cap) L.length (Lib.byteCells L)) :
    (convert 89 9 (.slice (some ⟨g, 0, none⟩) L.length cap)).run Tryd.prog w = .ok (.string ⟨L.toArray⟩) w := by
  have hc := h.cells (g := g) rfl
  have e : strOfNums (L.map fun b => (b.toNat : Int)) = ⟨L.toArray⟩ := by
    unfold strOfNums
    simp [List.map_map, Function.comp_def]
  rw [← e]
  refine run_convert_bytes_arg w 89 5 Tryd.underlying89 Tryd.underlying5 g 0 L.length cap (L.map fun b => (b.toNat : Int)) (by simp) (fun i hi => ?_) 9 Tryd.underlying9
  have := hc i (.int .u8 (L[i].toNat : Int)) (by simp [Lib.byteCells, hi])
  rw [Addr.add_lit] at this
  rw [this]
  simp [List.getD, hi]
theorem ret_str {a b : ByteArray} (h : a = b) : Ending.returned (.string a) = .returned (.string b) := by rw [h]
theorem dec_short (k : Nat) : ∀ u : Nat, u < 10 ^ (k + 1) → (Lib.decDigits u).length ≤ k + 1 := by
  induction k with
  | zero => intro u h; rw [dec_small (by omega)]; simp
  | succ k ih =>
    intro u h
    by_cases h2 : u < 10
    · rw [dec_small h2]; simp
    · rw [dec_big h2]
      have := ih (u / 10) (by rw [Nat.pow_succ] at h; omega)
      simp
      omega
theorem itoa_len (n : Int) (h0 : -9223372036854775808 ≤ n) (h1 : n ≤ 9223372036854775807) : (Lib.itoa n).length ≤ 21 := by
  unfold Lib.itoa
  by_cases h : n < 0
  · rw [if_pos h]
    have := dec_short 19 n.natAbs (by omega)
    simp
    omega
  · rw [if_neg h]
    have := dec_short 19 n.toNat (by omega)
    omega
theorem text_len (a : Nat) (h : a < 4294967296) : (text a).length ≤ 1028 := by
  have := textTo_len a 4
  rw [textTo_4 a h] at this
  exact this
/-- A thing's text: its address's, a stroke, its number. -/
def ptext (a : Nat) (n : Int) : List UInt8 := text a ++ 47 :: Lib.itoa n
theorem itoa_is (n : Int) (w : World) (h0 : -9223372036854775808 ≤ n) (h1 : n ≤ 9223372036854775807) (ht : Tab10 w) :
    Calls Tryd.prog 87 #[.int .i64 n] w fun e w' => e = .returned (.string ⟨(Lib.itoa n).toArray⟩) ∧ Below w.heap.size w w' :=
  (Tryd.strconv_Itoa n h0 h1 w ht).mono fun e w' ⟨he, k, os, hw⟩ => ⟨he, by rw [hw]; exact Lib.below_grow w.heap.size w (Nat.le_refl _) k os⟩
end Go.Proofs.YtkkhmdiffddllaaDoor
