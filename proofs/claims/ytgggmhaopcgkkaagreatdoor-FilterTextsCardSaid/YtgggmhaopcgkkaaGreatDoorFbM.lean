/- The text of a rule and the words of which it is made, as lists of bytes; nothing here speaks of the program. No condition. -/
import Derived.Test.YtgggmhaopcgkkaaGreatDoorFlK
import Derived.Test.YtgggmhaopcgkkaaGreatDoorText
import Derived.Lib.SplitLaws
import Derived.Lib.Join
namespace Go.Proofs.YtgggmhaopcgkkaaGreatDoor
open Go.RowKit
def anyW : List UInt8 := [97, 110, 121]
def permitW : List UInt8 := [112, 101, 114, 109, 105, 116]
def denyW : List UInt8 := [100, 101, 110, 121]
def actT (b : Bool) : List UInt8 := if b then permitW else denyW
def protoT (n : Int) : List UInt8 := if n = -1 then anyW else Lib.itoa n
def portsT (lo hi : Int) : List UInt8 := Lib.itoa lo ++ 45 :: Lib.itoa hi
/-- The six words of a rule. -/
def rwords (r : RuleD) : List (List UInt8) := [actT r.perm, protoT r.proto, ptext r.sa.toNat r.sn, ptext r.da.toNat r.dn, portsT r.sl r.sh, portsT r.dl r.dh]
/-- The text of a rule. -/
def rtext (r : RuleD) : List UInt8 := Lib.join (rwords r) [32]
/-- The ports' numbers are thirty-two bits. -/
structure PortsOk (r : RuleD) : Prop where
  a0 : 0 ≤ r.sl
  a1 : r.sl < 4294967296
  b0 : 0 ≤ r.sh
  b1 : r.sh < 4294967296
  c0 : 0 ≤ r.dl
  c1 : r.dl < 4294967296
  d0 : 0 ≤ r.dh
  d1 : r.dh < 4294967296
structure MayP (r : RuleD) : Prop where
  p0 : -1 ≤ r.proto
  p1 : r.proto ≤ 255
  s : ck r.sa r.sn = 0
  d : ck r.da r.dn = 0
  x : r.sl ≤ r.sh
  x1 : r.sh ≤ 65535
  y : r.dl ≤ r.dh
  y1 : r.dh ≤ 65535
theorem may_p {r : RuleD} (h : mayB r = true) : MayP r := by
  simp only [mayB, pmB, Bool.and_eq_true, decide_eq_true_eq] at h
  obtain ⟨a, b, c, d, ⟨e, f⟩, g, i⟩ := h
  exact ⟨a, b, c, d, e, f, g, i⟩
theorem itoa_nat {n : Int} (h : 0 ≤ n) : Lib.itoa n = Lib.decDigits n.toNat := by unfold Lib.itoa; rw [if_neg (by omega)]
theorem no_itoa {n : Int} (h : 0 ≤ n) (c : UInt8) (hd : dig c = false) : c ∉ Lib.itoa n := by rw [itoa_nat h]; exact dec_no _ _ hd
theorem no_text (a : Nat) (c : UInt8) (hd : dig c = false) (h : c ≠ 46) : c ∉ text a := by
  unfold text
  simp only [List.mem_append, List.mem_cons, not_or]
  exact ⟨dec_no _ _ hd, h, dec_no _ _ hd, h, dec_no _ _ hd, h, dec_no _ _ hd⟩
theorem no_ptext (a : Nat) {n : Int} (hn : 0 ≤ n) (c : UInt8) (hd : dig c = false) (h : c ≠ 46) (h2 : c ≠ 47) : c ∉ ptext a n := by
  unfold ptext
  simp only [List.mem_append, List.mem_cons, not_or]
  exact ⟨no_text a c hd h, h2, no_itoa hn c hd⟩
theorem no_ports {lo hi : Int} (h0 : 0 ≤ lo) (h1 : 0 ≤ hi) (c : UInt8) (hd : dig c = false) (h : c ≠ 45) : c ∉ portsT lo hi := by
  unfold portsT
  simp only [List.mem_append, List.mem_cons, not_or]
  exact ⟨no_itoa h0 c hd, h, no_itoa h1 c hd⟩
theorem no_blank {r : RuleD} (hp : PortsOk r) (hm : MayP r) : ∀ x ∈ rwords r, (32 : UInt8) ∉ x := by
  have d : dig 32 = false := by decide
  intro x hx
  simp only [rwords, List.mem_cons, List.not_mem_nil, or_false] at hx
  rcases hx with rfl | rfl | rfl | rfl | rfl | rfl
  · unfold actT; split <;> decide
  · unfold protoT; split
    · decide
    · exact no_itoa (by have := hm.p0; omega) _ d
  · exact no_ptext _ (ck_ok _ _ hm.s).1 _ d (by decide) (by decide)
  · exact no_ptext _ (ck_ok _ _ hm.d).1 _ d (by decide) (by decide)
  · exact no_ports hp.a0 hp.b0 _ d (by decide)
  · exact no_ports hp.c0 hp.d0 _ d (by decide)
theorem index_at1 (c : UInt8) : ∀ (p r : List UInt8), c ∉ p → Lib.index (p ++ c :: r) [c] = p.length
  | [], r, _ => by simp [Lib.index, List.isPrefixOf]
  | b :: p, r, h => by
    simp only [List.mem_cons, not_or] at h
    have ih := index_at1 c p r h.2
    have hb : (c == b) = false := by simpa using h.1
    simp only [List.cons_append, Lib.index, List.isPrefixOf, hb, Bool.false_and, ih]
    rw [if_neg (by simp), if_neg (by first | (simp; done) | (simp; omega))]
    simp
theorem index_no1 (c : UInt8) : ∀ (p : List UInt8), c ∉ p → Lib.index p [c] = -1
  | [], _ => by simp [Lib.index]
  | b :: p, h => by
    simp only [List.mem_cons, not_or] at h
    have ih := index_no1 c p h.2
    have hb : (c == b) = false := by simpa using h.1
    simp [Lib.index, List.isPrefixOf, hb, ih]
theorem splitK_join (c : UInt8) : ∀ (r : List (List UInt8)) (x : List UInt8) (k : Nat), (∀ y ∈ x :: r, c ∉ y) → r.length ≤ k → Lib.splitK [c] 0 k (Lib.join (x :: r) [c]) = x :: r
  | [], x, k, h, _ => by
    rw [Lib.join_one]
    cases k with
    | zero => rfl
    | succ k => unfold Lib.splitK; rw [index_no1 c x (h x (by simp))]; rfl
  | y :: r, x, 0, _, hk => by simp at hk
  | y :: r, x, k + 1, h, hk => by
    have e : Lib.join (x :: y :: r) [c] = x ++ c :: Lib.join (y :: r) [c] := by
      rw [Lib.join_cons, Lib.join_cons]; simp [Lib.joinTail]
    have ih := splitK_join c r y k (fun z hz => h z (by simp at hz ⊢; right; exact hz)) (by simpa using hk)
    rw [e]
    unfold Lib.splitK
    rw [index_at1 c x _ (h x (by simp))]
    rw [if_neg (by first | (simp; done) | (simp; omega))]
    have e1 : (List.take ((x.length : Int).toNat + 0) (x ++ c :: Lib.join (y :: r) [c])) = x := by simp
    have e2 : (List.drop ((x.length : Int).toNat + [c].length) (x ++ c :: Lib.join (y :: r) [c])) = Lib.join (y :: r) [c] := by
      simp [List.drop_append]
    rw [e1, e2, ih]
theorem rtext_long (r : RuleD) : 5 ≤ (rtext r).length := by
  unfold rtext rwords
  rw [Lib.join_cons]
  simp [Lib.joinTail]
  omega
/-- The pieces of a rule's text are its words. -/
theorem split_text {r : RuleD} (hp : PortsOk r) (hm : MayP r) {l : List UInt8} (h : rtext r = l) : Lib.splitK [32] 0 (min 7 (l.length + 1) - 1) l = rwords r := by
  subst h
  have hl := rtext_long r
  exact splitK_join 32 _ _ _ (no_blank hp hm) (by first | (simp; done) | (simp; omega))
theorem act_read {b : Bool} {x : List UInt8} (h : actT b = x) : (x == permitW) = b := by subst h; cases b <;> decide
theorem proto_any {n : Int} (h0 : -1 ≤ n) (h : protoT n = anyW) : n = -1 := by
  unfold protoT at h
  split at h
  · assumption
  · rename_i hn
    exfalso
    have h97 : (97 : UInt8) ∉ Lib.itoa n := no_itoa (by omega) _ (by decide)
    rw [h] at h97
    exact h97 (by decide)
theorem proto_num {n : Int} (h0 : -1 ≤ n) (h1 : n ≤ 255) {l : List UInt8} (h : protoT n = l) (hl : l ≠ anyW) : num l 65535 = some n.toNat := by
  unfold protoT at h
  split at h
  · exact absurd h.symm hl
  · rename_i hn
    rw [← h, itoa_nat (by omega)]; exact num_dec _ _ (by omega)
theorem ports_read {lo hi : Int} (h0 : 0 ≤ lo) (h1 : lo ≤ hi) (h2 : hi ≤ 65535) {l : List UInt8} (h : portsT lo hi = l) : num (cut1 l 45).1 65535 = some lo.toNat ∧ num (cut1 l 45).2.1 65535 = some hi.toNat := by
  subst h
  unfold portsT
  rw [cut1_mk _ _ _ (no_itoa h0 _ (by decide)), itoa_nat h0, itoa_nat (by omega)]
  exact ⟨num_dec _ _ (by omega), num_dec _ _ (by omega)⟩
theorem pfx_read {a n : Int} (ha : 0 ≤ a) (ha2 : a < 4294967296) (h : ck a n = 0) {l : List UInt8} (hl : ptext a.toNat n = l) : pparse l = (a, n, 0) := by
  subst hl
  obtain ⟨n0, n1, _⟩ := ck_ok a n h
  have hnot : (47 : UInt8) ∉ text a.toNat := no_text _ _ (by decide) (by decide)
  unfold pparse ptext
  rw [cut1_mk _ _ _ hnot, parse_text _ (by omega), itoa_nat n0, num_dec _ _ (by omega)]
  simp only
  rw [Int.toNat_of_nonneg ha, Int.toNat_of_nonneg n0, h]
  simp
end Go.Proofs.YtgggmhaopcgkkaaGreatDoor
