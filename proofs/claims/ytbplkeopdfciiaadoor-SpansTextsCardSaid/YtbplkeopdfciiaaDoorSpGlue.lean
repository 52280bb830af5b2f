/- Plain facts on how a set is put in its form out of a list in order, how it is cut, and how two are merged cut by cut. No condition; nothing here speaks of the program. -/
import Derived.Test.YtbplkeopdfciiaaDoorSpMath
namespace Go.Proofs.YtbplkeopdfciiaaDoor
/-- What has been read of a list in order, put in form. -/
structure Glued (pre F : List (Nat × Nat)) : Prop where
  canon : Canon F
  same : ∀ x, has F x = has pre x
  len : F.length ≤ pre.length
  los : ∀ s ∈ F, ∃ t ∈ pre, s.1 = t.1
theorem Glued.nil : Glued [] [] := ⟨Canon.nil, fun _ => rfl, Nat.le_refl _, by simp⟩
theorem Glued.onto {pre L : List (Nat × Nat)} {s t : Nat × Nat} (h : Glued pre (L ++ [t])) (hle : ∀ u ∈ pre, u.1 ≤ s.1) (ht : s.1 ≤ t.2 + 1) : Glued (pre ++ [s]) (L ++ [(t.1, max t.2 s.2)]) := by
  obtain ⟨u, hu, e⟩ := h.los t (by simp)
  have h1 := hle u hu
  have hi := h.canon.init
  refine ⟨hi.1.snoc (by simp; omega) hi.2.2, fun x => ?_, by have := h.len; simp at this ⊢; omega, fun v hv => ?_⟩
  · have := h.same x
    rw [has_append] at this ⊢
    rw [has_append, ← this, Bool.or_assoc]
    congr 1
    rw [Bool.eq_iff_iff]; simp [has]; omega
  · rcases List.mem_append.1 hv with hv | hv
    · obtain ⟨y, hy, e⟩ := h.los v (by simp [hv])
      exact ⟨y, by simp [hy], e⟩
    · simp at hv; subst hv
      exact ⟨u, by simp [hu], e⟩
theorem Glued.first {s : Nat × Nat} (hs : s.1 ≤ s.2) : Glued [s] [s] := ⟨⟨by simp, by simpa using hs⟩, fun _ => rfl, Nat.le_refl _, fun t ht => ⟨t, ht, rfl⟩⟩
theorem Glued.behind {pre L : List (Nat × Nat)} {s t : Nat × Nat} (h : Glued pre (L ++ [t])) (hs : s.1 ≤ s.2) (ht : t.2 + 1 < s.1) : Glued (pre ++ [s]) (L ++ [t] ++ [s]) := by
  refine ⟨h.canon.snoc hs fun u hu => ?_, fun x => ?_, by have := h.len; simp at this ⊢; omega, fun v hv => ?_⟩
  · have := h.canon.below u hu; omega
  · rw [has_append, has_append pre, h.same]
  · rcases List.mem_append.1 hv with hv | hv
    · obtain ⟨y, hy, e⟩ := h.los v hv
      exact ⟨y, by simp [hy], e⟩
    · simp at hv; subst hv
      exact ⟨v, by simp, rfl⟩
theorem Glued.form {l F pre : List (Nat × Nat)} (h : Glued pre F) (hp : ∀ x, has pre x = has l x) (hb : ∀ s ∈ l, s.2 < top) : F = Cn (has l) := by
  refine h.canon.one (Cn_canon _) fun x => ?_
  rw [h.same, hp, Cn_has]
  by_cases hx : x < top
  · simp [hx]
  · rw [has_top hb (by omega)]; simp
/-- The spans that have a number. -/
def full (l : List (Nat × Nat)) : List (Nat × Nat) := l.filter fun s => decide (s.1 ≤ s.2)
theorem has_full (l : List (Nat × Nat)) (x : Nat) : has (full l) x = has l x := by
  rw [Bool.eq_iff_iff, has_iff, has_iff]
  constructor
  · rintro ⟨s, hs, h⟩
    exact ⟨s, (List.mem_filter.1 hs).1, h⟩
  · rintro ⟨s, hs, h⟩
    exact ⟨s, List.mem_filter.2 ⟨hs, by simp; omega⟩, h⟩
theorem has_perm {a b : List (Nat × Nat)} (h : ∀ s, s ∈ a ↔ s ∈ b) (x : Nat) : has a x = has b x := by
  rw [Bool.eq_iff_iff, has_iff, has_iff]
  exact ⟨fun ⟨s, hs, h1⟩ => ⟨s, (h s).1 hs, h1⟩, fun ⟨s, hs, h1⟩ => ⟨s, (h s).2 hs, h1⟩⟩
/-- The numbers at which one goes into a set or out of it. -/
def cutsOf : List (Nat × Nat) → List Nat
  | [] => []
  | s :: l => s.1 :: (s.2 + 1) :: cutsOf l
theorem cutsOf_length (l : List (Nat × Nat)) : (cutsOf l).length = 2 * l.length := by
  induction l with
  | nil => rfl
  | cons s l ih => simp [cutsOf, ih]; omega
theorem cutsOf_append (a b : List (Nat × Nat)) : cutsOf (a ++ b) = cutsOf a ++ cutsOf b := by
  induction a with
  | nil => rfl
  | cons s a ih => simp [cutsOf, ih]
theorem mem_cutsOf {l : List (Nat × Nat)} {c : Nat} : c ∈ cutsOf l ↔ ∃ s ∈ l, c = s.1 ∨ c = s.2 + 1 := by
  induction l with
  | nil => simp [cutsOf]
  | cons s l ih => simp [cutsOf, ih, or_assoc]
theorem Canon.cuts {l : List (Nat × Nat)} (h : Canon l) : (cutsOf l).Pairwise (· < ·) := by
  induction l with
  | nil => simp [cutsOf]
  | cons s l ih =>
    have hh := h.head
    have hs := h.some s List.mem_cons_self
    refine List.pairwise_cons.2 ⟨fun c hc => ?_, List.pairwise_cons.2 ⟨fun c hc => ?_, ih h.tail⟩⟩
    · rcases List.mem_cons.1 hc with rfl | hc
      · omega
      · obtain ⟨t, ht, e⟩ := mem_cutsOf.1 hc
        have := hh t ht
        have := h.some t (List.mem_cons_of_mem _ ht)
        omega
    · obtain ⟨t, ht, e⟩ := mem_cutsOf.1 hc
      have := hh t ht
      have := h.some t (List.mem_cons_of_mem _ ht)
      omega
/-- Behind an odd number of cuts one is within the set. -/
theorem Canon.odd {l : List (Nat × Nat)} (h : Canon l) (i x : Nat) (hi : i ≤ (cutsOf l).length) (h1 : ∀ c ∈ (cutsOf l).take i, c ≤ x) (h2 : ∀ c ∈ (cutsOf l).drop i, x < c) : has l x = decide (i % 2 = 1) := by
  induction l generalizing i with
  | nil =>
    simp [cutsOf] at hi
    subst hi
    rfl
  | cons s l ih =>
    have hs := h.some s List.mem_cons_self
    rw [has_cons]
    match i, hi, h1, h2 with
    | 0, _, _, h2 =>
      have no : has l x = false := has_false.2 fun t ht h0 => by
        have := h.head t ht
        have := h2 s.1 (by simp [cutsOf])
        omega
      have := h2 s.1 (by simp [cutsOf])
      rw [no]
      simp; omega
    | 1, _, h1, h2 =>
      have a := h1 s.1 (by simp [cutsOf])
      have b := h2 (s.2 + 1) (by simp [cutsOf])
      simp; left; omega
    | i + 2, hi, h1, h2 =>
      have a := h1 (s.2 + 1) (by simp [cutsOf])
      have := ih h.tail i (by simp [cutsOf] at hi; omega) (fun c hc => h1 c (by simp [cutsOf, hc])) (fun c hc => h2 c (by simpa [cutsOf] using hc))
      rw [this]
      have e : (decide (s.1 ≤ x) && decide (x ≤ s.2)) = false := by simp; omega
      rw [e, Bool.false_or]
      congr 1
      simp
/-- Where two lists of cuts stand when those below y have been asked. -/
structure Split (A B : List Nat) (i j y : Nat) : Prop where
  ia : i ≤ A.length
  jb : j ≤ B.length
  lowA : ∀ c ∈ A.take i, c < y
  lowB : ∀ c ∈ B.take j, c < y
  highA : ∀ c ∈ A.drop i, y ≤ c
  highB : ∀ c ∈ B.drop j, y ≤ c
theorem Split.start (A B : List Nat) : Split A B 0 0 0 := ⟨Nat.zero_le _, Nat.zero_le _, by simp, by simp, fun _ _ => Nat.zero_le _, fun _ _ => Nat.zero_le _⟩
theorem take_one {A : List Nat} {i : Nat} (h : i < A.length) : ∀ c, c ∈ A.take (i + 1) ↔ c ∈ A.take i ∨ c = A[i] := by
  intro c
  rw [List.take_succ_eq_append_getElem h, List.mem_append, List.mem_singleton]
theorem drop_one {A : List Nat} {i : Nat} (hA : A.Pairwise (· < ·)) (h : i < A.length) : (∀ c ∈ A.drop (i + 1), A[i] < c) ∧ ∀ c, c ∈ A.drop i ↔ c = A[i] ∨ c ∈ A.drop (i + 1) := by
  have e := List.drop_eq_getElem_cons h
  refine ⟨fun c hc => ?_, fun c => by rw [e, List.mem_cons]⟩
  have hp : (A.drop i).Pairwise (· < ·) := hA.sublist (List.drop_sublist _ _)
  rw [e] at hp
  exact (List.pairwise_cons.1 hp).1 c hc
/-- The next cut is the first list's alone. -/
theorem Split.left {A B : List Nat} {i j y : Nat} (hA : A.Pairwise (· < ·)) (h : Split A B i j y) (hi : i < A.length) (hb : ∀ c ∈ B.drop j, A[i] < c) : Split A B (i + 1) j (A[i] + 1) := by
  have hy := h.highA A[i] (((drop_one hA hi).2 _).2 (.inl rfl))
  refine ⟨hi, h.jb, fun c hc => ?_, fun c hc => ?_, fun c hc => ?_, fun c hc => hb c hc⟩
  · rcases (take_one hi c).1 hc with hc | rfl
    · have := h.lowA c hc; omega
    · omega
  · have := h.lowB c hc; omega
  · exact (drop_one hA hi).1 c hc
theorem Split.right {A B : List Nat} {i j y : Nat} (hB : B.Pairwise (· < ·)) (h : Split A B i j y) (hj : j < B.length) (ha : ∀ c ∈ A.drop i, B[j] < c) : Split A B i (j + 1) (B[j] + 1) := by
  have hy := h.highB B[j] (((drop_one hB hj).2 _).2 (.inl rfl))
  refine ⟨h.ia, hj, fun c hc => ?_, fun c hc => ?_, fun c hc => ha c hc, fun c hc => ?_⟩
  · have := h.lowA c hc; omega
  · rcases (take_one hj c).1 hc with hc | rfl
    · have := h.lowB c hc; omega
    · omega
  · exact (drop_one hB hj).1 c hc
theorem Split.both {A B : List Nat} {i j y : Nat} (hA : A.Pairwise (· < ·)) (hB : B.Pairwise (· < ·)) (h : Split A B i j y) (hi : i < A.length) (hj : j < B.length) (e : A[i] = B[j]) : Split A B (i + 1) (j + 1) (A[i] + 1) := by
  have hy := h.highA A[i] (((drop_one hA hi).2 _).2 (.inl rfl))
  refine ⟨hi, hj, fun c hc => ?_, fun c hc => ?_, fun c hc => ?_, fun c hc => ?_⟩
  · rcases (take_one hi c).1 hc with hc | rfl
    · have := h.lowA c hc; omega
    · omega
  · rcases (take_one hj c).1 hc with hc | rfl
    · have := h.lowB c hc; omega
    · omega
  · exact (drop_one hA hi).1 c hc
  · have := (drop_one hB hj).1 c hc; omega
theorem drop_gt {A : List Nat} {i x : Nat} (hA : A.Pairwise (· < ·)) (h : ∀ hi : i < A.length, x < A[i]) : ∀ c ∈ A.drop i, x < c := by
  intro c hc
  have hi : i < A.length := by
    rcases Nat.lt_or_ge i A.length with h1 | h1
    · exact h1
    · rw [List.drop_of_length_le h1] at hc; cases hc
  rcases ((drop_one hA hi).2 c).1 hc with rfl | hc
  · exact h hi
  · have := (drop_one hA hi).1 c hc
    have := h hi
    omega
/-- One step of a sweep: c is the next cut, of the first list, the second, or both. -/
inductive Next (A B : List Nat) (i j : Nat) : Nat → Nat → Nat → Prop
  | left (hi : i < A.length) (hb : ∀ hj : j < B.length, A[i] < B[j]) : Next A B i j A[i] (i + 1) j
  | right (hj : j < B.length) (ha : ∀ hi : i < A.length, B[j] < A[i]) : Next A B i j B[j] i (j + 1)
  | both (hi : i < A.length) (hj : j < B.length) (e : A[i] = B[j]) : Next A B i j A[i] (i + 1) (j + 1)
theorem Next.split {A B : List Nat} {i j y c i' j' : Nat} (hA : A.Pairwise (· < ·)) (hB : B.Pairwise (· < ·)) (h : Split A B i j y) (n : Next A B i j c i' j') :
    Split A B i' j' (c + 1) ∧ y ≤ c ∧ (c ∈ A ∨ c ∈ B) ∧ i + j < i' + j' ∧ (∀ d ∈ A.drop i, c ≤ d) ∧ (∀ d ∈ B.drop j, c ≤ d) := by
  cases n with
  | left hi hb =>
    refine ⟨h.left hA hi (drop_gt hB hb), h.highA _ (((drop_one hA hi).2 _).2 (.inl rfl)), .inl (List.getElem_mem hi), by omega, fun d hd => ?_, fun d hd => Nat.le_of_lt (drop_gt hB hb d hd)⟩
    rcases ((drop_one hA hi).2 d).1 hd with rfl | hd
    · exact Nat.le_refl _
    · exact Nat.le_of_lt ((drop_one hA hi).1 d hd)
  | right hj ha =>
    refine ⟨h.right hB hj (drop_gt hA ha), h.highB _ (((drop_one hB hj).2 _).2 (.inl rfl)), .inr (List.getElem_mem hj), by omega, fun d hd => Nat.le_of_lt (drop_gt hA ha d hd), fun d hd => ?_⟩
    rcases ((drop_one hB hj).2 d).1 hd with rfl | hd
    · exact Nat.le_refl _
    · exact Nat.le_of_lt ((drop_one hB hj).1 d hd)
  | both hi hj e =>
    refine ⟨h.both hA hB hi hj e, h.highA _ (((drop_one hA hi).2 _).2 (.inl rfl)), .inl (List.getElem_mem hi), by omega, fun d hd => ?_, fun d hd => ?_⟩
    · rcases ((drop_one hA hi).2 d).1 hd with rfl | hd
      · exact Nat.le_refl _
      · exact Nat.le_of_lt ((drop_one hA hi).1 d hd)
    · rcases ((drop_one hB hj).2 d).1 hd with rfl | hd
      · exact Nat.le_of_eq e
      · have := (drop_one hB hj).1 d hd; omega
/-- What has been merged when the cuts below y have been asked: op: one is within what is merged; it began at bg. -/
structure Mrg (T : Nat → Bool) (y : Nat) (M : List (Nat × Nat)) (op : Bool) (bg : Nat) : Prop where
  canon : Canon M
  before : ∀ x, x + 1 < y → T x = (has M x || (op && decide (bg ≤ x)))
  low : ∀ s ∈ M, s.2 + 2 ≤ y
  opn : op = true → bg + 1 ≤ y ∧ ∀ s ∈ M, s.2 + 1 < bg
  lt : ∀ s ∈ M, s.2 < top
theorem Mrg.start (T : Nat → Bool) (bg : Nat) : Mrg T 0 [] false bg := ⟨Canon.nil, fun x h => by omega, by simp, by simp, by simp⟩
theorem Mrg.at {T : Nat → Bool} {y c : Nat} {M : List (Nat × Nat)} {op : Bool} {bg : Nat} (h : Mrg T y M op bg) (hk : ∀ x, y ≤ x + 1 → x < c → T x = op) : ∀ x, x < c → T x = (has M x || (op && decide (bg ≤ x))) := by
  intro x hx
  by_cases hy : x + 1 < y
  · exact h.before x hy
  · rw [hk x (by omega) hx]
    have no : has M x = false := has_false.2 fun s hs _ => by have := h.low s hs; omega
    rw [no, Bool.false_or]
    cases op with
    | false => rfl
    | true =>
      have := (h.opn rfl).1
      simp; omega
theorem Mrg.begins {T : Nat → Bool} {y c : Nat} {M : List (Nat × Nat)} {bg : Nat} (h : Mrg T y M false bg) (hy : y ≤ c) (hk : ∀ x, y ≤ x + 1 → x < c → T x = false) : Mrg T (c + 1) M true c := by
  refine ⟨h.canon, fun x hx => ?_, fun s hs => by have := h.low s hs; omega, fun _ => ⟨Nat.le_refl _, fun s hs => by have := h.low s hs; omega⟩, h.lt⟩
  rw [h.at hk x (by omega)]
  simp; omega
theorem Mrg.goes {T : Nat → Bool} {y c : Nat} {M : List (Nat × Nat)} {op : Bool} {bg : Nat} (h : Mrg T y M op bg) (hy : y ≤ c) (hk : ∀ x, y ≤ x + 1 → x < c → T x = op) : Mrg T (c + 1) M op bg := by
  refine ⟨h.canon, fun x hx => h.at hk x (by omega), fun s hs => by have := h.low s hs; omega, fun ho => ⟨?_, (h.opn ho).2⟩, h.lt⟩
  have := (h.opn ho).1
  omega
theorem Mrg.ends {T : Nat → Bool} {y c : Nat} {M : List (Nat × Nat)} {bg bg' : Nat} (h : Mrg T y M true bg) (hy : y ≤ c) (hk : ∀ x, y ≤ x + 1 → x < c → T x = true) (hc : c ≤ top) : Mrg T (c + 1) (M ++ [(bg, c - 1)]) false bg' := by
  have ho := h.opn rfl
  refine ⟨h.canon.snoc (by simp; omega) ho.2, fun x hx => ?_, fun s hs => ?_, by simp, fun s hs => ?_⟩
  · rw [h.at hk x (by omega), has_append]
    simp [has]
    congr 1
    rw [Bool.eq_iff_iff]; simp; omega
  · rcases List.mem_append.1 hs with hs | hs
    · have := h.low s hs; omega
    · simp at hs; subst hs; simp; omega
  · rcases List.mem_append.1 hs with hs | hs
    · exact h.lt s hs
    · simp at hs; subst hs; simp; omega
/-- Between two cuts nothing turns. -/
theorem Split.still {a b : List (Nat × Nat)} (ha : Canon a) (hb : Canon b) (k : Bool → Bool → Bool) {i j y c : Nat} (h : Split (cutsOf a) (cutsOf b) i j y) (hca : ∀ d ∈ (cutsOf a).drop i, c ≤ d) (hcb : ∀ d ∈ (cutsOf b).drop j, c ≤ d) :
    ∀ x, y ≤ x + 1 → x < c → k (has a x) (has b x) = k (decide (i % 2 = 1)) (decide (j % 2 = 1)) := by
  intro x h1 h2
  rw [ha.odd i x h.ia (fun d hd => by have := h.lowA d hd; omega) (fun d hd => by have := hca d hd; omega), hb.odd j x h.jb (fun d hd => by have := h.lowB d hd; omega) (fun d hd => by have := hcb d hd; omega)]
/-- All has been asked: what is merged is the set. -/
theorem Mrg.done {a b M : List (Nat × Nat)} (ha : Canon a) (hb : Canon b) (k : Bool → Bool → Bool) (hk : k false false = false) {y bg : Nat} {op : Bool} (hop : op = k (decide ((cutsOf a).length % 2 = 1)) (decide ((cutsOf b).length % 2 = 1)))
    (hs : Split (cutsOf a) (cutsOf b) (cutsOf a).length (cutsOf b).length y) (h : Mrg (fun x => k (has a x) (has b x)) y M op bg) : M = Cn fun x => k (has a x) (has b x) := by
  rw [cutsOf_length, cutsOf_length, Nat.mul_mod_right, Nat.mul_mod_right] at hop
  simp [hk] at hop
  subst hop
  refine Cn_eq h.canon h.lt fun x _ => ?_
  have hst := hs.still ha hb k (c := x + 1) (by simp) (by simp)
  have := h.at (c := x + 1) (fun z h1 h2 => by
    have := hst z h1 h2
    rw [this, cutsOf_length, cutsOf_length, Nat.mul_mod_right, Nat.mul_mod_right]
    simp [hk]) x (by omega)
  rw [this]; simp
/-- How many numbers the spans have, each by itself. -/
def cnt : List (Nat × Nat) → Nat
  | [] => 0
  | s :: l => (s.2 + 1 - s.1) + cnt l
theorem cnt_append (a b : List (Nat × Nat)) : cnt (a ++ b) = cnt a + cnt b := by
  induction a with
  | nil => simp [cnt]
  | cons s a ih => simp [cnt, ih]; omega
theorem cnt_take {l : List (Nat × Nat)} {k : Nat} {s : Nat × Nat} (h : l[k]? = some s) : cnt (l.take (k + 1)) = cnt (l.take k) + (s.2 + 1 - s.1) := by
  rw [List.take_add_one, h, cnt_append]
  rfl
theorem cnt_le {l : List (Nat × Nat)} (hb : ∀ s ∈ l, s.2 < top) : cnt l ≤ l.length * top := by
  induction l with
  | nil => simp [cnt]
  | cons s l ih =>
    have := hb s List.mem_cons_self
    have := ih fun t ht => hb t (List.mem_cons_of_mem _ ht)
    simp only [cnt, List.length_cons, Nat.add_mul, Nat.one_mul]
    omega
theorem cnt_take_le {l : List (Nat × Nat)} (hb : ∀ s ∈ l, s.2 < top) (k : Nat) : cnt (l.take k) ≤ l.length * top := by
  refine Nat.le_trans (cnt_le fun s hs => hb s (List.mem_of_mem_take hs)) (Nat.mul_le_mul_right _ ?_)
  rw [List.length_take]; exact Nat.min_le_right _ _
/-- The least number and whether there is one, as the form has it. -/
def lst : List (Nat × Nat) → Nat × Bool
  | [] => (0, false)
  | s :: _ => (s.1, true)
theorem lst_none {l : List (Nat × Nat)} (h : ∀ s ∈ l, s.2 < s.1) : Cn (has l) = [] := by
  refine (Cn_eq (f := []) Canon.nil (by simp) fun x _ => ?_).symm
  rw [has_nil]
  exact (has_false.2 fun s hs h1 => by have := h s hs; omega).symm
theorem lst_some {l : List (Nat × Nat)} {m : Nat} (hb : ∀ s ∈ l, s.2 < top) (h : ∀ s ∈ l, s.1 ≤ s.2 → m ≤ s.1) (hm : ∃ s ∈ l, s.1 ≤ s.2 ∧ s.1 = m) : lst (Cn (has l)) = (m, true) := by
  obtain ⟨s, hs, h1, rfl⟩ := hm
  have hlt := hb s hs
  have hin : has (Cn (has l)) s.1 = true := by
    rw [Cn_has]
    simp only [Bool.and_eq_true, decide_eq_true_eq]
    exact ⟨by omega, has_iff.2 ⟨s, hs, Nat.le_refl _, h1⟩⟩
  cases hc : Cn (has l) with
  | nil => rw [hc] at hin; cases hin
  | cons t r =>
    have ht : t ∈ Cn (has l) := by rw [hc]; exact List.mem_cons_self
    have hcan := Cn_canon (has l)
    have h2 : s.1 ≤ t.1 := by
      have := (starts hcan t ht).1
      rw [Cn_has] at this
      simp only [Bool.and_eq_true, decide_eq_true_eq] at this
      obtain ⟨u, hu, a, b⟩ := has_iff.1 this.2
      have := h u hu (by omega)
      omega
    have h3 : t.1 ≤ s.1 := by
      rw [hc] at hin
      obtain ⟨u, hu, a, b⟩ := has_iff.1 hin
      rcases List.mem_cons.1 hu with rfl | hu
      · exact a
      · rw [hc] at hcan
        have := hcan.head u hu
        have := hcan.some t List.mem_cons_self
        omega
    simp only [lst]
    rw [Nat.le_antisymm h3 h2]
end Go.Proofs.YtbplkeopdfciiaaDoor
