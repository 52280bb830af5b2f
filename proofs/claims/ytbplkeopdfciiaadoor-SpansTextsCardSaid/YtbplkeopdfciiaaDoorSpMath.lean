/- Plain facts on sets of numbers as lists of spans (pairs of numbers): the one form of each set, what is in it, and that there is but one. No condition; nothing here speaks of the program. -/
namespace Go.Proofs.YtbplkeopdfciiaaDoor
/-- One more than the greatest number. -/
def top : Nat := 4294967296
/-- Is a number in one of the spans? -/
def has (l : List (Nat × Nat)) (x : Nat) : Bool := l.any fun s => decide (s.1 ≤ x) && decide (x ≤ s.2)
theorem has_iff {l : List (Nat × Nat)} {x : Nat} : has l x = true ↔ ∃ s ∈ l, s.1 ≤ x ∧ x ≤ s.2 := by
  simp [has]
theorem has_false {l : List (Nat × Nat)} {x : Nat} : has l x = false ↔ ∀ s ∈ l, s.1 ≤ x → s.2 < x := by
  simp [has]
theorem has_nil (x : Nat) : has [] x = false := rfl
theorem has_cons (s : Nat × Nat) (l : List (Nat × Nat)) (x : Nat) : has (s :: l) x = (decide (s.1 ≤ x) && decide (x ≤ s.2) || has l x) := rfl
theorem has_append (a b : List (Nat × Nat)) (x : Nat) : has (a ++ b) x = (has a x || has b x) := by simp [has]
/-- A set in its form. -/
structure Canon (l : List (Nat × Nat)) : Prop where
  apart : l.Pairwise fun s t => s.2 + 1 < t.1
  some : ∀ s ∈ l, s.1 ≤ s.2
theorem Canon.nil : Canon [] := ⟨List.Pairwise.nil, by simp⟩
theorem Canon.tail {s : Nat × Nat} {l : List (Nat × Nat)} (h : Canon (s :: l)) : Canon l := ⟨h.apart.tail, fun t ht => h.some t (List.mem_cons_of_mem _ ht)⟩
theorem Canon.head {s : Nat × Nat} {l : List (Nat × Nat)} (h : Canon (s :: l)) : ∀ t ∈ l, s.2 + 1 < t.1 := (List.pairwise_cons.1 h.apart).1
/-- One form for each set. -/
theorem Canon.one {f g : List (Nat × Nat)} (hf : Canon f) (hg : Canon g) (h : ∀ x, has f x = has g x) : f = g := by
  induction f generalizing g with
  | nil =>
    cases g with
    | nil => rfl
    | cons t g =>
      have := h t.1
      rw [has_nil, has_cons] at this
      have ht := hg.some t List.mem_cons_self
      simp [ht] at this
  | cons s f ih =>
    cases g with
    | nil =>
      have := h s.1
      rw [has_nil, has_cons] at this
      have hs := hf.some s List.mem_cons_self
      simp [hs] at this
    | cons t g =>
      have hs := hf.some s List.mem_cons_self
      have ht := hg.some t List.mem_cons_self
      have least : ∀ {s : Nat × Nat} {l : List (Nat × Nat)} {x : Nat}, Canon (s :: l) → has (s :: l) x = true → s.1 ≤ x := by
        intro s l x hc hx
        obtain ⟨u, hu, h1, h2⟩ := has_iff.1 hx
        rcases List.mem_cons.1 hu with rfl | hu
        · exact h1
        · have := hc.head u hu
          have := hc.some s List.mem_cons_self
          omega
      have hin : ∀ {s : Nat × Nat} {l : List (Nat × Nat)} {x : Nat}, s.1 ≤ x → x ≤ s.2 → has (s :: l) x = true := by
        intro s l x h1 h2
        exact has_iff.2 ⟨s, List.mem_cons_self, h1, h2⟩
      have e1 : s.1 = t.1 := by
        have a : t.1 ≤ s.1 := least hg (by rw [← h]; exact hin (Nat.le_refl _) hs)
        have b : s.1 ≤ t.1 := least hf (by rw [h]; exact hin (Nat.le_refl _) ht)
        omega
      have past : ∀ {s : Nat × Nat} {l : List (Nat × Nat)}, Canon (s :: l) → has (s :: l) (s.2 + 1) = false := by
        intro s l hc
        refine has_false.2 fun u hu h1 => ?_
        rcases List.mem_cons.1 hu with rfl | hu
        · omega
        · have := hc.head u hu
          omega
      have e2 : s.2 = t.2 := by
        rcases Nat.lt_trichotomy s.2 t.2 with hlt | he | hlt
        · have a := past hf
          rw [h, hin (by omega) (by omega)] at a
          cases a
        · exact he
        · have a := past hg
          rw [← h, hin (by omega) (by omega)] at a
          cases a
      have e : s = t := Prod.ext e1 e2
      subst e
      congr 1
      refine ih hf.tail hg.tail fun x => ?_
      have hx := h x
      rw [has_cons, has_cons] at hx
      by_cases hle : s.2 < x
      · have : decide (x ≤ s.2) = false := by simpa using hle
        simpa [this] using hx
      · have no : ∀ {l : List (Nat × Nat)}, Canon (s :: l) → has l x = false := by
          intro l hc
          refine has_false.2 fun u hu h1 => ?_
          have := hc.head u hu
          omega
        rw [no hf, no hg]
/-- A span more at the end. -/
theorem Canon.snoc {l : List (Nat × Nat)} {s : Nat × Nat} (h : Canon l) (hs : s.1 ≤ s.2) (hl : ∀ t ∈ l, t.2 + 1 < s.1) : Canon (l ++ [s]) :=
  ⟨List.pairwise_append.2 ⟨h.apart, by simp, fun a ha b hb => by simp at hb; subst hb; exact hl a ha⟩, fun t ht => by
    rcases List.mem_append.1 ht with ht | ht
    · exact h.some t ht
    · simp at ht; subst ht; exact hs⟩
theorem Canon.init {l : List (Nat × Nat)} {s : Nat × Nat} (h : Canon (l ++ [s])) : Canon l ∧ s.1 ≤ s.2 ∧ ∀ t ∈ l, t.2 + 1 < s.1 :=
  ⟨⟨(List.pairwise_append.1 h.apart).1, fun t ht => h.some t (List.mem_append.2 (.inl ht))⟩, h.some s (by simp), fun t ht => (List.pairwise_append.1 h.apart).2.2 t ht s (by simp)⟩
theorem Canon.below {l : List (Nat × Nat)} {s : Nat × Nat} (h : Canon (l ++ [s])) : ∀ t ∈ l ++ [s], t.2 ≤ s.2 := by
  intro t ht
  rcases List.mem_append.1 ht with ht | ht
  · have := h.init.2.2 t ht
    have := h.init.2.1
    omega
  · simp at ht; subst ht; exact Nat.le_refl _
theorem canon_exists (p : Nat → Bool) (n : Nat) : ∃ f, Canon f ∧ (∀ x, has f x = (decide (x < n) && p x)) ∧ ∀ s ∈ f, s.2 < n := by
  induction n with
  | zero => exact ⟨[], Canon.nil, fun x => by simp [has_nil], by simp⟩
  | succ n ih =>
    obtain ⟨f, hc, hh, hb⟩ := ih
    cases hp : p n with
    | false =>
      refine ⟨f, hc, fun x => ?_, fun s hs => Nat.lt_succ_of_lt (hb s hs)⟩
      rw [hh]
      by_cases e : x = n
      · subst e; simp [hp]
      · have : decide (x < n + 1) = decide (x < n) := by simp; omega
        rw [this]
    | true =>
      rcases List.eq_nil_or_concat f with rfl | ⟨l, s, rfl⟩
      · refine ⟨[(n, n)], ⟨by simp, by simp⟩, fun x => ?_, by simp⟩
        have h0 := hh x
        rw [has_nil] at h0
        by_cases e : x = n
        · subst e; simp [has, hp]
        · have : decide (x < n + 1) = decide (x < n) := by simp; omega
          rw [this, ← h0]
          simp [has]; omega
      · simp only [List.concat_eq_append] at hc hh hb
        have h1 := hc.init
        have hbs := hb s (by simp)
        by_cases e : s.2 + 1 = n
        · refine ⟨l ++ [(s.1, n)], h1.1.snoc (by simp; omega) h1.2.2, fun x => ?_, fun t ht => ?_⟩
          · have h0 := hh x
            rw [has_append] at h0 ⊢
            by_cases ex : x = n
            · subst ex; simp [has, hp]; right; omega
            · have : decide (x < n + 1) = decide (x < n) := by simp; omega
              rw [this, ← h0]
              congr 1
              simp [has]
              have := h1.2.1
              rw [Bool.eq_iff_iff]; simp; omega
          · rcases List.mem_append.1 ht with ht | ht
            · have := hb t (by simp [ht]); omega
            · simp at ht; subst ht; simp
        · refine ⟨l ++ [s] ++ [(n, n)], hc.snoc (by simp) fun t ht => ?_, fun x => ?_, fun t ht => ?_⟩
          · have := hc.below t ht
            simp; omega
          · have h0 := hh x
            rw [has_append, h0]
            by_cases ex : x = n
            · subst ex; simp [has, hp]
            · have : decide (x < n + 1) = decide (x < n) := by simp; omega
              rw [this]
              have : has [(n, n)] x = false := by simp [has]; omega
              rw [this, Bool.or_false]
          · rcases List.mem_append.1 ht with ht | ht
            · have := hb t ht; omega
            · simp at ht; subst ht; simp
/-- The set of the numbers (below 2^32) of which p holds, in its form. -/
noncomputable def Cn (p : Nat → Bool) : List (Nat × Nat) := (canon_exists p top).choose
theorem Cn_canon (p : Nat → Bool) : Canon (Cn p) := (canon_exists p top).choose_spec.1
theorem Cn_has (p : Nat → Bool) (x : Nat) : has (Cn p) x = (decide (x < top) && p x) := (canon_exists p top).choose_spec.2.1 x
theorem Cn_lt (p : Nat → Bool) : ∀ s ∈ Cn p, s.2 < top := (canon_exists p top).choose_spec.2.2
theorem has_top {f : List (Nat × Nat)} (hb : ∀ s ∈ f, s.2 < top) {x : Nat} (hx : top ≤ x) : has f x = false :=
  has_false.2 fun s hs _ => by have := hb s hs; omega
theorem Cn_eq {f : List (Nat × Nat)} {p : Nat → Bool} (hc : Canon f) (hb : ∀ s ∈ f, s.2 < top) (h : ∀ x, x < top → has f x = p x) : f = Cn p := by
  refine hc.one (Cn_canon p) fun x => ?_
  rw [Cn_has]
  by_cases hx : x < top
  · rw [h x hx]; simp [hx]
  · rw [has_top hb (by omega)]; simp [hx]
theorem Cn_congr {p q : Nat → Bool} (h : ∀ x, x < top → p x = q x) : Cn p = Cn q :=
  Cn_eq (Cn_canon p) (Cn_lt p) fun x hx => by rw [Cn_has]; simp [hx, h x hx]
theorem Cn_self {f : List (Nat × Nat)} (hc : Canon f) (hb : ∀ s ∈ f, s.2 < top) : Cn (has f) = f := (Cn_eq hc hb fun _ _ => rfl).symm
theorem Cn_idem (p : Nat → Bool) : Cn (has (Cn p)) = Cn p := Cn_self (Cn_canon p) (Cn_lt p)
/-- No more spans in the form than numbers at which one begins. -/
theorem starts {f : List (Nat × Nat)} (hc : Canon f) : ∀ s ∈ f, has f s.1 = true ∧ (s.1 = 0 ∨ has f (s.1 - 1) = false) := by
  intro s hs
  refine ⟨has_iff.2 ⟨s, hs, Nat.le_refl _, hc.some s hs⟩, ?_⟩
  by_cases h0 : s.1 = 0
  · exact .inl h0
  refine .inr (has_false.2 fun t ht h1 => ?_)
  obtain ⟨i, hi, rfl⟩ := List.getElem_of_mem hs
  obtain ⟨j, hj, rfl⟩ := List.getElem_of_mem ht
  have hp := List.pairwise_iff_getElem.1 hc.apart
  have s1 := hc.some _ (List.getElem_mem hi)
  have s2 := hc.some _ (List.getElem_mem hj)
  rcases Nat.lt_trichotomy i j with h | h | h
  · have := hp i j hi hj h; omega
  · subst h; omega
  · have := hp j i hj hi h; omega
theorem inj_length {f g : List Nat} (hn : f.Pairwise (· < ·)) (h : ∀ x ∈ f, x ∈ g) : f.length ≤ g.length := by
  induction f generalizing g with
  | nil => simp
  | cons a f ih =>
    have ha := h a List.mem_cons_self
    have := ih (g := g.erase a) (List.pairwise_cons.1 hn).2 fun x hx => by
      have hlt := (List.pairwise_cons.1 hn).1 x hx
      exact (List.mem_erase_of_ne (by omega)).2 (h x (List.mem_cons_of_mem _ hx))
    have hl := List.length_erase_of_mem ha
    have : 0 < g.length := List.length_pos_of_mem ha
    simp; omega
theorem Canon.los {f : List (Nat × Nat)} (hc : Canon f) : (f.map (·.1)).Pairwise (· < ·) := by
  rw [List.pairwise_map]
  refine hc.apart.imp_of_mem fun {a b} ha hb h => ?_
  have := hc.some a ha
  omega
/-- The form of a list has no more spans than the list. -/
theorem form_length {f l : List (Nat × Nat)} (hc : Canon f) (h : ∀ x, has f x = has l x) : f.length ≤ l.length := by
  have := inj_length (f := f.map (·.1)) (g := l.map (·.1)) hc.los fun x hx => by
    obtain ⟨s, hs, rfl⟩ := List.mem_map.1 hx
    obtain ⟨h1, h2⟩ := starts hc s hs
    rw [h] at h1
    obtain ⟨t, ht, a, b⟩ := has_iff.1 h1
    rcases h2 with h2 | h2
    · exact List.mem_map.2 ⟨t, ht, by omega⟩
    · rw [h] at h2
      have := has_false.1 h2 t ht
      exact List.mem_map.2 ⟨t, ht, by omega⟩
  simpa using this
theorem CnHas_length {l : List (Nat × Nat)} (hb : ∀ s ∈ l, s.2 < top) : (Cn (has l)).length ≤ l.length := by
  refine form_length (Cn_canon _) fun x => ?_
  rw [Cn_has]
  by_cases hx : x < top
  · simp [hx]
  · rw [has_top hb (by omega)]; simp
/-- .. of two lists that are joined, met or taken from each other: no more than begin or end in either. -/
theorem Cn_length2 {p : Nat → Bool} {a b : List (Nat × Nat)} (k : Bool → Bool → Bool) (hk : k false false = false) (h : ∀ x, p x = k (has a x) (has b x)) (hba : ∀ s ∈ a, s.2 < top) (hbb : ∀ s ∈ b, s.2 < top) : (Cn p).length ≤ 2 * a.length + 2 * b.length := by
  have hc := Cn_canon p
  have := inj_length (f := (Cn p).map (·.1)) (g := (a.map (·.1) ++ a.map fun s => s.2 + 1) ++ (b.map (·.1) ++ b.map fun s => s.2 + 1)) hc.los fun x hx => by
    obtain ⟨s, hs, rfl⟩ := List.mem_map.1 hx
    obtain ⟨h1, h2⟩ := starts hc s hs
    rw [Cn_has, h] at h1
    simp only [Bool.and_eq_true, decide_eq_true_eq] at h1
    have part : ∀ {l : List (Nat × Nat)}, (∀ s ∈ l, s.2 < top) → s.1 = 0 → has l s.1 = true → s.1 ∈ l.map (·.1) := by
      intro l _ h0 hl
      obtain ⟨t, ht, u, v⟩ := has_iff.1 hl
      exact List.mem_map.2 ⟨t, ht, by omega⟩
    have part2 : ∀ {l : List (Nat × Nat)}, s.1 ≠ 0 → has l s.1 ≠ has l (s.1 - 1) → s.1 ∈ l.map (·.1) ++ l.map fun s => s.2 + 1 := by
      intro l h0 hl
      cases hq : has l s.1 with
      | true =>
        rw [hq] at hl
        have hl' : has l (s.1 - 1) = false := by cases hz : has l (s.1 - 1) <;> simp_all
        obtain ⟨t, ht, u, v⟩ := has_iff.1 hq
        have := has_false.1 hl' t ht
        exact List.mem_append.2 (.inl (List.mem_map.2 ⟨t, ht, by omega⟩))
      | false =>
        rw [hq] at hl
        have hl' : has l (s.1 - 1) = true := by cases hz : has l (s.1 - 1) <;> simp_all
        obtain ⟨t, ht, u, v⟩ := has_iff.1 hl'
        have := has_false.1 hq t ht (by omega)
        exact List.mem_append.2 (.inr (List.mem_map.2 ⟨t, ht, by omega⟩))
    by_cases h0 : s.1 = 0
    · cases ha : has a s.1 with
      | true => exact List.mem_append.2 (.inl (List.mem_append.2 (.inl (part hba h0 ha))))
      | false =>
        cases hb : has b s.1 with
        | true => exact List.mem_append.2 (.inr (List.mem_append.2 (.inl (part hbb h0 hb))))
        | false => rw [ha, hb, hk] at h1; simp at h1
    · rcases h2 with h2 | h2
      · exact absurd h2 h0
      · rw [Cn_has, h] at h2
        have hlt : s.1 - 1 < top := by omega
        simp only [hlt, decide_true, Bool.true_and] at h2
        by_cases ea : has a s.1 = has a (s.1 - 1)
        · by_cases eb : has b s.1 = has b (s.1 - 1)
          · rw [ea, eb] at h1; rw [h1.2] at h2; cases h2
          · exact List.mem_append.2 (.inr (part2 h0 eb))
        · exact List.mem_append.2 (.inl (part2 h0 ea))
  simp at this
  omega
end Go.Proofs.YtbplkeopdfciiaaDoor
