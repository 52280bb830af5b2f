/- Words with one blank between two, taken off one by one; the words of a route's text, and the route that is read of them. Nothing here speaks of the program. -/
import Derived.Test.YtmbkkjofikijiaaGreatDoorRnB
import Derived.Test.YtmbkkjofikijiaaGreatDoorParse
import Derived.Test.YtmbkkjofikijiaaGreatDoorRsB
import Derived.Lib.SlTrimSet
namespace Go.Proofs.YtmbkkjofikijiaaGreatDoor
open Go.RowKit
theorem back_adr (a : Int) (ha : 0 ≤ a) (ha2 : a < 4294967296) : adrI (parse (text a.toNat)) = (a, 0) := by
  rw [parse_text _ (by omega)]
  simp only [adrI]
  rw [Int.toNat_of_nonneg ha]
theorem back_pfx (a n : Int) (ha : 0 ≤ a) (ha2 : a < 4294967296) (h : ck a n = 0) : pparse (ptext a.toNat n) = (a, n, 0) := by
  obtain ⟨n0, n1, _⟩ := ck_ok a n h
  have hnot : (47 : UInt8) ∉ text a.toNat := by
    have d : dig 47 = false := by decide
    unfold text
    simp only [List.mem_append, List.mem_cons, not_or]
    exact ⟨dec_no _ _ d, by decide, dec_no _ _ d, by decide, dec_no _ _ d, by decide, dec_no _ _ d⟩
  have hi : Lib.itoa n = Lib.decDigits n.toNat := by unfold Lib.itoa; rw [if_neg (by omega)]
  unfold pparse ptext
  rw [cut1_mk _ _ _ hnot, parse_text _ (by omega), hi, num_dec _ _ (by omega)]
  simp only
  rw [Int.toNat_of_nonneg ha, Int.toNat_of_nonneg n0, h]
  simp
theorem adrI_range {l : List UInt8} : 0 ≤ (adrI (parse l)).1 ∧ (adrI (parse l)).1 < 4294967296 := by
  cases hp : parse l with
  | none => simp [adrI]
  | some b => have := parse_lt hp; simp [adrI]; omega
theorem pparse_range {l : List UInt8} : 0 ≤ (pparse l).1 ∧ (pparse l).1 < 4294967296 ∧ 0 ≤ (pparse l).2.1 ∧ (pparse l).2.1 ≤ 32 := by
  unfold pparse
  split
  · rename_i a' n' h1 h2 h3
    have := parse_lt h1
    have := (num_some h2).2.2.2.1
    split <;> simp <;> omega
  · simp
/-- Words, one blank between two. -/
def joinB : List (List UInt8) → List UInt8
  | [] => []
  | [x] => x
  | x :: y :: l => x ++ 32 :: joinB (y :: l)
/-- The first word of a text, and what is left. -/
def cutw (l : List UInt8) : List UInt8 := (cut1 l 32).1
def cutr (l : List UInt8) : List UInt8 := (cut1 l 32).2.1
theorem cutw_join {x : List UInt8} (l : List (List UInt8)) (h : 32 ∉ x) : cutw (joinB (x :: l)) = x := by
  unfold cutw
  cases l with
  | nil => rw [show joinB [x] = x from rfl, cut1_none _ _ h]
  | cons y l => rw [show joinB (x :: y :: l) = x ++ 32 :: joinB (y :: l) from rfl, cut1_mk _ _ _ h]
theorem cutr_join {x : List UInt8} (l : List (List UInt8)) (h : 32 ∉ x) : cutr (joinB (x :: l)) = joinB l := by
  unfold cutr
  cases l with
  | nil => rw [show joinB [x] = x from rfl, cut1_none _ _ h]; rfl
  | cons y l => rw [show joinB (x :: y :: l) = x ++ 32 :: joinB (y :: l) from rfl, cut1_mk _ _ _ h]
theorem cutw_nil : cutw (joinB []) = [] := rfl
theorem cut_lens (l : List UInt8) : (cutw l).length + (cutr l).length ≤ l.length := by
  unfold cutw cutr
  cases h : (cut1 l 32).2.2 with
  | true => have e := cut1_yes l 32 h; have := congrArg List.length e; simp at this; omega
  | false =>
    have e := cut1_no l 32 h
    have h2 : (cut1 l 32).2.1 = [] := by
      by_cases hm : (32 : UInt8) ∈ l
      · obtain ⟨p, r, e, hp⟩ := List.eq_append_cons_of_mem hm
        rw [e, cut1_mk p r 32 hp] at h
        cases h
      · rw [cut1_none l 32 hm]
    rw [e, h2]; simp
theorem cut_less {l : List UInt8} (h : cutw l ≠ []) : (cutr l).length < l.length := by
  have h1 := cut_lens l
  have h2 := List.length_pos_iff.2 h
  omega
theorem jn_ne (a : List UInt8) (ws : List ByteArray) (h : a ≠ []) : jn a ws = a ++ ws.flatMap fun s => 32 :: s.data.toList := by
  induction ws generalizing a with
  | nil => simp [jn]
  | cons x ws ih =>
    have e : jn a (x :: ws) = jn (jn1 a x) ws := rfl
    have e2 : jn1 a x = a ++ 32 :: x.data.toList := by unfold jn1; rw [if_neg (by simpa using h)]; simp
    rw [e, ih _ (by rw [e2]; simp), e2]
    simp
theorem join_flat (x : List UInt8) (l : List (List UInt8)) : joinB (x :: l) = x ++ l.flatMap fun s => 32 :: s := by
  induction l generalizing x with
  | nil => simp [joinB]
  | cons y l ih => rw [show joinB (x :: y :: l) = x ++ 32 :: joinB (y :: l) from rfl, ih]; simp
theorem jn_join (x : ByteArray) (ws : List ByteArray) (h : x.data.toList ≠ []) : jn [] (x :: ws) = joinB ((x :: ws).map fun s => s.data.toList) := by
  have e : jn [] (x :: ws) = jn (jn1 [] x) ws := rfl
  have e2 : jn1 [] x = x.data.toList := by unfold jn1; simp
  rw [e, e2, jn_ne _ _ h, List.map_cons, join_flat, List.flatMap_map]
theorem jn_app (a : List UInt8) (x y : List ByteArray) : jn (jn a x) y = jn a (x ++ y) := by unfold jn; rw [List.foldl_append]
def ltrs : List UInt8 := [97, 98, 99, 100, 101, 102, 103, 104, 105, 106, 107, 108, 109, 110, 111, 112, 113, 114, 115, 116, 117, 118, 119, 120, 121, 122, 65, 66, 67, 68, 69, 70, 71, 72, 73, 74, 75, 76, 77, 78, 79, 80, 81, 82, 83, 84, 85, 86, 87, 88, 89, 90]
def inN : List UInt8 := [97, 98, 99, 100, 101, 102, 103, 104, 105, 106, 107, 108, 109, 110, 111, 112, 113, 114, 115, 116, 117, 118, 119, 120, 121, 122, 65, 66, 67, 68, 69, 70, 71, 72, 73, 74, 75, 76, 77, 78, 79, 80, 81, 82, 83, 84, 85, 86, 87, 88, 89, 90, 48, 49, 50, 51, 52, 53, 54, 55, 56, 57, 45, 95, 46, 47]
/-- May a text be a name? -/
def isNm (l : List UInt8) : Bool := decide (l ≠ []) && decide (l.length ≤ 32) && (match l.head? with | some c => decide (0 ≤ Lib.indexByte ltrs c) | none => false) && (Lib.trimS l inN == [])
theorem dw_or {p : UInt8 → Bool} : ∀ {l : List UInt8} {c : UInt8}, c ∈ l → p c = true ∨ c ∈ l.dropWhile p
  | x :: l, c, h => by
    by_cases hp : p x = true
    · rw [List.dropWhile_cons_of_pos hp]
      rcases List.mem_cons.1 h with rfl | h1
      · exact .inl hp
      · exact dw_or h1
    · rw [List.dropWhile_cons_of_neg hp]; exact .inr h
theorem trimS_nil {l cs : List UInt8} (h : Lib.trimS l cs = []) : ∀ c ∈ l, c ∈ cs := by
  unfold Lib.trimS Lib.trimLeftS at h
  have h1 : ∀ c ∈ Lib.trimRightS l cs, c ∈ cs := fun c hc => by
    rcases dw_or (p := (cs.contains ·)) hc with h2 | h2
    · simpa using h2
    · rw [h] at h2; cases h2
  intro c hc
  rcases dw_or (p := (cs.contains ·)) (List.mem_reverse.2 hc) with h2 | h2
  · simpa using h2
  · exact h1 c (by unfold Lib.trimRightS; exact List.mem_reverse.2 h2)
theorem isNm_no {l : List UInt8} (h : isNm l = true) : 32 ∉ l ∧ l ≠ [] ∧ l.length ≤ 32 := by
  unfold isNm at h
  simp only [Bool.and_eq_true, decide_eq_true_eq, beq_iff_eq] at h
  refine ⟨fun hm => ?_, h.1.1.1, h.1.1.2⟩
  have := trimS_nil h.2 32 hm
  revert this; decide
def srcW : Nat → List UInt8
  | 1 => [99, 111, 110, 110, 101, 99, 116, 101, 100]
  | 2 => [119, 114, 105, 116, 116, 101, 110]
  | 3 => [105, 110, 116, 114, 97]
  | 4 => [105, 110, 116, 101, 114]
  | 5 => [101, 120, 116, 101, 114, 110, 97, 108, 49]
  | 6 => [101, 120, 116, 101, 114, 110, 97, 108, 50]
  | 7 => [101, 98, 103, 112]
  | 8 => [105, 98, 103, 112]
  | _ => []
def wVia : List UInt8 := [118, 105, 97]
def wOn : List UInt8 := [111, 110]
def wDis : List UInt8 := [100, 105, 115, 99, 97, 114, 100]
/-- May a route be written? -/
def mayR (q : RtD) : Bool := decide (ck q.a q.b = 0) && decide (1 ≤ q.fr) && decide (q.fr ≤ 8) && ([q.di, q.me, q.ta].all (okN 0)) && (decide (q.nm.data.toList = []) || isNm q.nm.data.toList) && !(q.dc && (decide (q.ho ≠ 0) || decide (q.nm.data.toList ≠ [])))
def tlR (q : RtD) : List (List UInt8) := (if q.ho = 0 then [] else [wVia, text q.ho.toNat]) ++ ((if q.nm.data.toList = [] then [] else [wOn, q.nm.data.toList]) ++ (if q.dc then [wDis] else []))
def wR (q : RtD) : List (List UInt8) := ptext q.a.toNat q.b :: srcW q.fr.toNat :: Lib.itoa q.di :: Lib.itoa q.me :: Lib.itoa q.ta :: tlR q
def txR (q : RtD) : List UInt8 := joinB (wR q)
theorem ptx_no (a : Nat) (n : Int) (h : 0 ≤ n) : (32 : UInt8) ∉ ptext a n := by
  have d : dig 32 = false := by decide
  have hi : Lib.itoa n = Lib.decDigits n.toNat := by unfold Lib.itoa; rw [if_neg (by omega)]
  unfold ptext text
  rw [hi]
  simp only [List.mem_append, List.mem_cons, not_or]
  exact ⟨⟨dec_no _ _ d, by decide, dec_no _ _ d, by decide, dec_no _ _ d, by decide, dec_no _ _ d⟩, by decide, dec_no _ _ d⟩
theorem txt_no (a : Nat) : (32 : UInt8) ∉ text a := by
  have d : dig 32 = false := by decide
  unfold text
  simp only [List.mem_append, List.mem_cons, not_or]
  exact ⟨dec_no _ _ d, by decide, dec_no _ _ d, by decide, dec_no _ _ d, by decide, dec_no _ _ d⟩
theorem txt_ne (a : Nat) : text a ≠ [] := by unfold text; simp
theorem ito_no (n : Int) : (32 : UInt8) ∉ Lib.itoa n := by
  have d : dig 32 = false := by decide
  unfold Lib.itoa
  split
  · simp only [List.mem_cons, not_or]; exact ⟨by decide, dec_no _ _ d⟩
  · exact dec_no _ _ d
theorem src_no (k : Nat) : (32 : UInt8) ∉ srcW k := by
  unfold srcW
  split <;> decide
theorem src_one {k m : Nat} (h1 : 1 ≤ k) (h2 : k ≤ 8) (h3 : m ≤ 8) (h : srcW m = srcW k) : m = k := by
  have : ∀ k, k < 9 → ∀ m, m < 9 → 1 ≤ k → srcW m = srcW k → m = k := by decide +kernel
  exact this k (by omega) m (by omega) h1 h
/-- What is read of the words behind the first five. -/
def opts : Nat → List UInt8 → RtD → RtD
  | 0, _, r => r
  | f + 1, s, r => if cutw s = [] then r else if cutw s = wVia then opts f (cutr (cutr s)) { r with ho := (adrI (parse (cutw (cutr s)))).1 } else if cutw s = wOn then opts f (cutr (cutr s)) { r with nm := ⟨(cutw (cutr s)).toArray⟩ } else if cutw s = wDis then opts f (cutr s) { r with dc := true } else opts f (cutr s) r
theorem opts_end (f : Nat) (s : List UInt8) (r : RtD) (h : cutw s = []) : opts f s r = r := by
  cases f with
  | zero => rfl
  | succ f => unfold opts; rw [if_pos h]
theorem opts_via {f : Nat} {s : List UInt8} {r : RtD} (h : cutw s = wVia) : opts (f + 1) s r = opts f (cutr (cutr s)) { r with ho := (adrI (parse (cutw (cutr s)))).1 } := by
  conv => lhs; unfold opts
  rw [h, if_neg (by decide), if_pos rfl]
theorem opts_on {f : Nat} {s : List UInt8} {r : RtD} (h : cutw s = wOn) : opts (f + 1) s r = opts f (cutr (cutr s)) { r with nm := ⟨(cutw (cutr s)).toArray⟩ } := by
  conv => lhs; unfold opts
  rw [h, if_neg (by decide), if_neg (by decide), if_pos rfl]
theorem opts_dis {f : Nat} {s : List UInt8} {r : RtD} (h : cutw s = wDis) : opts (f + 1) s r = opts f (cutr s) { r with dc := true } := by
  conv => lhs; unfold opts
  rw [h, if_neg (by decide), if_neg (by decide), if_neg (by decide), if_pos rfl]
theorem opts_else {f : Nat} {s : List UInt8} {r : RtD} (h0 : cutw s ≠ []) (h1 : cutw s ≠ wVia) (h2 : cutw s ≠ wOn) (h3 : cutw s ≠ wDis) : opts (f + 1) s r = opts f (cutr s) r := by
  conv => lhs; unfold opts
  rw [if_neg h0, if_neg h1, if_neg h2, if_neg h3]
theorem opts_tl (q : RtD) (h : mayR q = true) (hh : 0 ≤ q.ho ∧ q.ho < 4294967296) (f : Nat) (hf : 6 ≤ f) (r : RtD) (r1 : r.ho = 0) (r2 : r.nm = ⟨#[]⟩) (r3 : r.dc = false) : opts f (joinB (tlR q)) r = { r with ho := q.ho, nm := q.nm, dc := q.dc } := by
  obtain ⟨g, rfl⟩ : ∃ g, f = g + 6 := ⟨f - 6, by omega⟩
  have hn : q.nm.data.toList = [] ∨ isNm q.nm.data.toList = true := by
    unfold mayR at h
    simp only [Bool.and_eq_true, Bool.or_eq_true, decide_eq_true_eq] at h
    exact h.1.2
  have v1 : (32 : UInt8) ∉ wVia := by decide
  have v2 : (32 : UInt8) ∉ wOn := by decide
  have v3 : (32 : UInt8) ∉ wDis := by decide
  obtain ⟨ra, rb, rf, rd, rm, rt, rn, rh, rc⟩ := r
  obtain ⟨qa, qb, qf, qd, qm, qt, qn, qh, qc⟩ := q
  simp only at r1 r2 r3 hn hh
  subst r1 r2 r3
  have hd : ∀ (g : Nat) (r : RtD), opts (g + 2) (joinB (if qc then [wDis] else [])) r = { r with dc := r.dc || qc } := fun g r => by
    cases qc with
    | false => simp only [Bool.false_eq_true, if_false]; rw [opts_end _ _ _ cutw_nil]; simp
    | true => simp only [if_true]; rw [opts_dis (cutw_join [] v3), cutr_join [] v3, opts_end _ _ _ cutw_nil]; simp
  have hk : ∀ (g : Nat) (r : RtD), r.nm = ⟨#[]⟩ → opts (g + 3) (joinB ((if qn.data.toList = [] then [] else [wOn, qn.data.toList]) ++ (if qc then [wDis] else []))) r = { r with nm := qn, dc := r.dc || qc } := fun g r hr => by
    by_cases h0 : qn.data.toList = []
    · rw [if_pos h0, List.nil_append, hd (g + 1)]
      have : qn = ⟨#[]⟩ := by apply WideShapes.bytes_inj; simpa using h0
      rw [this, ← hr]
    · have h1 : isNm qn.data.toList = true := hn.resolve_left h0
      have h2 := (isNm_no h1).1
      rw [if_neg h0]
      simp only [List.cons_append, List.nil_append]
      rw [opts_on (cutw_join _ v2), cutr_join _ v2, cutr_join _ h2, cutw_join _ h2, hd g]
  unfold tlR
  simp only
  by_cases h0 : qh = 0
  · rw [if_pos h0, List.nil_append, hk (g + 3) _ rfl]
    subst h0
    simp
  · rw [if_neg h0]
    simp only [List.cons_append, List.nil_append]
    rw [opts_via (cutw_join _ v1), cutr_join _ v1, cutr_join _ (txt_no _), cutw_join _ (txt_no _), hk (g + 2) _ rfl, back_adr _ hh.1 hh.2]
    simp
end Go.Proofs.YtmbkkjofikijiaaGreatDoor
