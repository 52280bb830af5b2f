/- Plain facts on the lines of a text and their words: as the reader goes through them, and as the document's own answer does. No condition but those named. -/
import Derived.Test.YthkiojedkafdhaaLxZ
namespace Go.Proofs.Ythkiojedkafdhaa
def pSp (l : List UInt8) (_ : Int) : Bool := pBehind l
def pBl (l : List UInt8) (_ : Int) : Bool := pBlank l
/-- How many spaces stand ahead; how many bytes up to a blank; up to the line's end. -/
def nS (l : List UInt8) : Nat := cntU pSp l (0, 0)
def nB (l : List UInt8) : Nat := cntU pBl l (0, 0)
def nE (l : List UInt8) : Nat := cntU pE l (0, 0)
theorem pSp_cons (b : UInt8) (r : List UInt8) (x : Int) : pSp (b :: r) x = !(b == 32) := by unfold pSp pBehind; rw [one_cons]
theorem pBl_cons (b : UInt8) (r : List UInt8) (x : Int) : pBl (b :: r) x = (b == 32 || b == 10) := by unfold pBl; rw [pBlank_cons]
theorem pE_cons (b : UInt8) (r : List UInt8) (x : Int) : pE (b :: r) x = (b == 10) := by unfold pE pEnd; rw [one_cons]
theorem cnt_any (p : List UInt8 → Int → Bool) (hp : ∀ l a b, p l a = p l b) (l : List UInt8) (q : Int × Int) : cntU p l q = cntU p l (0, 0) := cntU_free p hp l q (0, 0)
theorem nS_cons (b : UInt8) (r : List UInt8) : nS (b :: r) = if b = 32 then nS r + 1 else 0 := by
  unfold nS
  simp only [cntU]
  rw [pSp_cons]
  by_cases h : b = 32
  · simp only [h, beq_self_eq_true, Bool.not_true, Bool.false_eq_true, if_false, if_true]; rw [cnt_any pSp (fun _ _ _ => rfl)]
  · rw [if_neg h, if_pos (by simp [h])]
theorem nB_cons (b : UInt8) (r : List UInt8) : nB (b :: r) = if b = 32 ∨ b = 10 then 0 else nB r + 1 := by
  unfold nB
  simp only [cntU]
  rw [pBl_cons]
  by_cases h : b = 32 ∨ b = 10
  · rw [if_pos h, if_pos (by simpa using h)]
  · rw [if_neg h, if_neg (by simpa using h), cnt_any pBl (fun _ _ _ => rfl)]
theorem nE_cons (b : UInt8) (r : List UInt8) : nE (b :: r) = if b = 10 then 0 else nE r + 1 := by
  unfold nE
  simp only [cntU]
  rw [pE_cons]
  by_cases h : b = 10
  · rw [if_pos h, if_pos (by simpa using h)]
  · rw [if_neg h, if_neg (by simpa using h), cnt_any pE (fun _ _ _ => rfl)]
theorem nS_nil : nS [] = 0 := rfl
theorem nB_nil : nB [] = 0 := rfl
theorem nE_nil : nE [] = 0 := rfl
theorem nS_le (l : List UInt8) : nS l ≤ l.length := cntU_le _ _ _
theorem nB_le (l : List UInt8) : nB l ≤ l.length := cntU_le _ _ _
theorem nE_le (l : List UInt8) : nE l ≤ l.length := cntU_le _ _ _
/-- No line's end among them. -/
def noNl (l : List UInt8) : Prop := ∀ b ∈ l, b ≠ 10
theorem adv_noNl : ∀ (l : List UInt8) (n c : Int), noNl l → adv l (n, c) = (n, c + l.length)
  | [], n, c, _ => by simp [adv]
  | b :: r, n, c, h => by
    have hb : b ≠ 10 := h b (by simp)
    simp only [adv, if_neg hb]
    rw [adv_noNl r n (c + 1) (fun x hx => h x (by simp [hx]))]
    simp only [List.length_cons, Prod.mk.injEq, true_and]
    omega
theorem take_nS : ∀ l : List UInt8, noNl (l.take (nS l))
  | [] => by intro b hb; simp at hb
  | b :: r => by
    rw [nS_cons]
    split
    · rename_i h
      intro x hx
      rw [List.take_succ_cons] at hx
      rcases List.mem_cons.1 hx with rfl | hx
      · rw [h]; decide
      · exact take_nS r x hx
    · intro x hx; simp at hx
theorem take_nB : ∀ l : List UInt8, noNl (l.take (nB l))
  | [] => by intro b hb; simp at hb
  | b :: r => by
    rw [nB_cons]
    split
    · intro x hx; simp at hx
    · rename_i h
      intro x hx
      rw [List.take_succ_cons] at hx
      rcases List.mem_cons.1 hx with rfl | hx
      · exact fun e => h (.inr e)
      · exact take_nB r x hx
theorem take_nE : ∀ l : List UInt8, noNl (l.take (nE l))
  | [] => by intro b hb; simp at hb
  | b :: r => by
    rw [nE_cons]
    split
    · intro x hx; simp at hx
    · rename_i h
      intro x hx
      rw [List.take_succ_cons] at hx
      rcases List.mem_cons.1 hx with rfl | hx
      · exact h
      · exact take_nE r x hx
/-- What stands at a line's end. -/
def AtEnd (l : List UInt8) : Prop := l = [] ∨ ∃ r, l = 10 :: r
theorem drop_nE : ∀ l : List UInt8, AtEnd (l.drop (nE l))
  | [] => .inl rfl
  | b :: r => by
    rw [nE_cons]
    split
    · rename_i h; exact .inr ⟨r, by rw [h]; rfl⟩
    · rw [List.drop_succ_cons]; exact drop_nE r
theorem nS_app : ∀ (t u : List UInt8), AtEnd u → nS (t ++ u) = nS t
  | [], u, h => by
    rcases h with rfl | ⟨r, rfl⟩
    · rfl
    · rw [List.nil_append, nS_cons, if_neg (by decide)]; rfl
  | b :: r, u, h => by
    rw [List.cons_append, nS_cons, nS_cons, nS_app r u h]
theorem nB_app : ∀ (t u : List UInt8), AtEnd u → nB (t ++ u) = nB t
  | [], u, h => by
    rcases h with rfl | ⟨r, rfl⟩
    · rfl
    · rw [List.nil_append, nB_cons, if_pos (.inr rfl)]; rfl
  | b :: r, u, h => by
    rw [List.cons_append, nB_cons, nB_cons, nB_app r u h]
theorem nE_app : ∀ (t u : List UInt8), noNl t → AtEnd u → nE (t ++ u) = t.length
  | [], u, _, h => by
    rcases h with rfl | ⟨r, rfl⟩
    · rfl
    · rw [List.nil_append, nE_cons, if_pos rfl]; rfl
  | b :: r, u, ht, h => by
    rw [List.cons_append, nE_cons, if_neg (ht b (by simp)), nE_app r u (fun x hx => ht x (by simp [hx])) h, List.length_cons]
/-- The words from here on, what is left, and where. -/
def wdsR : Nat → List UInt8 → Int → List (List UInt8 × Int) × List UInt8 × Int
  | 0, l, c => ([], l, c)
  | f + 1, l, c => if l.isEmpty || pEnd l then ([], l, c) else
    let w := wdsR f ((l.drop (nB l)).drop (nS (l.drop (nB l)))) (c + nB l + nS (l.drop (nB l)))
    ((l.take (nB l), c) :: w.1, w.2)
theorem nB_pos {l : List UInt8} (h : (l.isEmpty || pEnd l) = false) (hs : [32].isPrefixOf l = false) : 1 ≤ nB l := by
  cases l with
  | nil => simp at h
  | cons b r =>
    rw [nB_cons, if_neg]
    · omega
    · rw [one_cons] at hs
      unfold pEnd at h
      rw [one_cons] at h
      simp at h hs
      rintro (e | e)
      · exact hs e
      · exact h e
theorem drop_nS : ∀ l : List UInt8, [32].isPrefixOf (l.drop (nS l)) = false
  | [] => rfl
  | b :: r => by
    rw [nS_cons]
    split
    · rw [List.drop_succ_cons]; exact drop_nS r
    · rename_i h; rw [List.drop_zero, one_cons]; simpa using h
theorem wdsR_fuel : ∀ (f f' : Nat) (l : List UInt8) (c : Int), [32].isPrefixOf l = false → l.length ≤ f → l.length ≤ f' → wdsR f l c = wdsR f' l c
  | 0, 0, _, _, _, _, _ => rfl
  | 0, f' + 1, [], _, _, _, _ => rfl
  | f + 1, 0, [], _, _, _, _ => rfl
  | 0, _ + 1, _ :: _, _, _, h, _ => by simp at h
  | _ + 1, 0, _ :: _, _, _, _, h => by simp at h
  | f + 1, f' + 1, l, c, hs, h, h' => by
    unfold wdsR
    by_cases he : (l.isEmpty || pEnd l) = true
    · rw [if_pos he, if_pos he]
    · rw [if_neg he, if_neg he]
      have he' : (l.isEmpty || pEnd l) = false := by simpa using he
      have hp := nB_pos he' hs
      have hle := nB_le l
      have hlen : ((l.drop (nB l)).drop (nS (l.drop (nB l)))).length = l.length - nB l - nS (l.drop (nB l)) := by rw [List.length_drop, List.length_drop]
      rw [wdsR_fuel f f' _ _ (drop_nS _) (by omega) (by omega)]
theorem wdsR_stop {f : Nat} {l : List UInt8} {c : Int} (h : (l.isEmpty || pEnd l) = true) : wdsR f l c = ([], l, c) := by
  cases f with
  | zero => rfl
  | succ f => unfold wdsR; rw [if_pos h]
theorem atEnd_stop {l : List UInt8} (h : AtEnd l) : (l.isEmpty || pEnd l) = true := by
  rcases h with rfl | ⟨r, rfl⟩
  · rfl
  · unfold pEnd; rw [one_cons]; simp
theorem stop_atEnd {l : List UInt8} (h : (l.isEmpty || pEnd l) = true) : AtEnd l := by
  cases l with
  | nil => exact .inl rfl
  | cons b r =>
    unfold pEnd at h
    rw [one_cons] at h
    simp at h
    exact .inr ⟨r, by rw [h]⟩
theorem noNl_drop {l : List UInt8} (h : noNl l) (k : Nat) : noNl (l.drop k) := fun b hb => h b (List.mem_of_mem_drop hb)
/-- On a line that is followed by its end. -/
theorem wdsR_app : ∀ (f : Nat) (t u : List UInt8) (c : Int), noNl t → AtEnd u → [32].isPrefixOf t = false → t.length ≤ f → wdsR f (t ++ u) c = ((wdsR f t c).1, u, c + t.length) ∧ (wdsR f t c).2 = ([], c + t.length)
  | f, [], u, c, _, hu, _, _ => by
    rw [List.nil_append, wdsR_stop (atEnd_stop hu), wdsR_stop (by rfl)]
    simp
  | 0, _ :: _, _, _, _, _, _, h => by simp at h
  | f + 1, b :: r, u, c, ht, hu, hs, hf => by
    have hb : b ≠ 10 := ht b (by simp)
    have hb2 : b ≠ 32 := by rw [one_cons] at hs; simpa using hs
    have e1 : ((b :: r).isEmpty || pEnd (b :: r)) = false := by unfold pEnd; rw [one_cons]; simp [hb]
    have e2 : ((b :: r ++ u).isEmpty || pEnd (b :: r ++ u)) = false := by unfold pEnd; rw [List.cons_append, one_cons]; simp [hb]
    have hk := nB_pos e1 hs
    have hle := nB_le (b :: r)
    have hn := nB_app (b :: r) u hu
    have hd : (b :: r ++ u).drop (nB (b :: r)) = (b :: r).drop (nB (b :: r)) ++ u := by rw [List.drop_append_of_le_length hle]
    have htk : (b :: r ++ u).take (nB (b :: r)) = (b :: r).take (nB (b :: r)) := by rw [List.take_append_of_le_length hle]
    have hsn := nS_app ((b :: r).drop (nB (b :: r))) u hu
    have hsl := nS_le ((b :: r).drop (nB (b :: r)))
    have hd2 : ((b :: r).drop (nB (b :: r)) ++ u).drop (nS ((b :: r).drop (nB (b :: r)))) = ((b :: r).drop (nB (b :: r))).drop (nS ((b :: r).drop (nB (b :: r)))) ++ u := by rw [List.drop_append_of_le_length hsl]
    have hlen : (((b :: r).drop (nB (b :: r))).drop (nS ((b :: r).drop (nB (b :: r))))).length = (b :: r).length - nB (b :: r) - nS ((b :: r).drop (nB (b :: r))) := by rw [List.length_drop, List.length_drop]
    rw [List.length_drop] at hsl
    have ih := wdsR_app f (((b :: r).drop (nB (b :: r))).drop (nS ((b :: r).drop (nB (b :: r))))) u (c + nB (b :: r) + nS ((b :: r).drop (nB (b :: r)))) (noNl_drop (noNl_drop ht _) _) hu (drop_nS _) (by omega)
    have hc : c + (nB (b :: r) : Int) + (nS ((b :: r).drop (nB (b :: r))) : Int) + ((((b :: r).drop (nB (b :: r))).drop (nS ((b :: r).drop (nB (b :: r))))).length : Int) = c + ((b :: r).length : Int) := by rw [hlen]; omega
    rw [hc] at ih
    unfold wdsR
    rw [if_neg (by rw [e2]; simp), if_neg (by rw [e1]; simp), hn, htk, hd, hsn, hd2]
    simp only [ih.1, ih.2]
    exact ⟨trivial, trivial⟩
end Go.Proofs.Ythkiojedkafdhaa
