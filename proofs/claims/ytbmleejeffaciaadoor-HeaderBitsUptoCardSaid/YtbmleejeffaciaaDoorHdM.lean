/- Plain facts on headers' texts: what is written is read back, and no other text is read as it. No condition but those named. -/
import Derived.Test.YtbmleejeffaciaaDoorHdT
import Derived.Test.YtbmleejeffaciaaDoorHdH
namespace Go.Proofs.YtbmleejeffaciaaDoor
theorem cut1_nil (c : UInt8) : cut1 [] c = ([], [], false) := rfl
theorem cut1_gone (l : List UInt8) (c : UInt8) (h : (cut1 l c).2.2 = false) : (cut1 l c).2.1 = [] := by
  by_cases hm : c ∈ l
  · obtain ⟨p, r, e, hp⟩ := List.eq_append_cons_of_mem hm
    rw [e, cut1_mk p r c hp] at h
    cases h
  · rw [cut1_none l c hm]
theorem num_nil (t : Nat) : num [] t = none := by unfold num; simp
theorem endOf_nil : endOf [] = none := endOf_noN (by rw [cut1_nil]; exact num_nil _)
theorem endOf_text {l : List UInt8} {a n : Nat} (h : endOf l = some (a, n)) : endText a n = l ∧ a < 4294967296 ∧ n < 65536 := by
  unfold endOf at h
  cases h1 : parse (cut1 l 58).1 with
  | none => rw [h1] at h; simp at h
  | some x =>
    cases h2 : num (cut1 l 58).2.1 65535 with
    | none => rw [h1, h2] at h; simp at h
    | some y =>
      rw [h1, h2] at h
      simp only [Option.some.injEq, Prod.mk.injEq] at h
      obtain ⟨rfl, rfl⟩ := h
      have hc : (cut1 l 58).2.2 = true := by
        cases hc : (cut1 l 58).2.2 with
        | true => rfl
        | false => rw [cut1_gone l 58 hc, num_nil] at h2; cases h2
      have hl := cut1_yes l 58 hc
      refine ⟨?_, parse_lt h1, by have := (num_some h2).2.2.2.1; omega⟩
      rw [hl]
      unfold endText
      rw [text_parse h1, dec_num h2]
theorem text_no (a : Nat) (c : UInt8) (h : dig c = false) (h2 : c ≠ 46) : c ∉ text a := by
  unfold text
  simp only [List.mem_append, List.mem_cons, not_or]
  exact ⟨dec_no _ c h, h2, dec_no _ c h, h2, dec_no _ c h, h2, dec_no _ c h⟩
theorem endText_no (a n : Nat) : (32 : UInt8) ∉ endText a n := by
  unfold endText
  simp only [List.mem_append, List.mem_cons, not_or]
  exact ⟨text_no a 32 rfl (by decide), by decide, dec_no _ 32 rfl⟩
theorem endText_of {a n : Nat} (ha : a < 4294967296) (hn : n < 65536) : endOf (endText a n) = some (a, n) := by
  have hc : cut1 (endText a n) 58 = (text a, Lib.decDigits n, true) := cut1_mk _ _ 58 (text_no a 58 rfl (by decide))
  exact endOf_some (by rw [hc]; exact parse_text a ha) (by rw [hc]; exact num_dec n _ (by omega))
theorem hparse_htext {s d p sp dp : Int} (h : Hdr s d p sp dp) : hparse (htext s d p sp dp) = some (s.toNat, d.toNat, p.toNat, sp.toNat, dp.toNat) := by
  obtain ⟨hs0, hs1, hd0, hd1, hp0, hp1, hsp0, hsp1, hdp0, hdp1⟩ := h
  have c1 : cut1 (htext s d p sp dp) 32 = (endText s.toNat sp.toNat, endText d.toNat dp.toNat ++ 32 :: Lib.decDigits p.toNat, true) := cut1_mk _ _ 32 (endText_no _ _)
  have c2 : cut1 (endText d.toNat dp.toNat ++ 32 :: Lib.decDigits p.toNat) 32 = (endText d.toNat dp.toNat, Lib.decDigits p.toNat, true) := cut1_mk _ _ 32 (endText_no _ _)
  exact hparse_yes (a := (s.toNat, sp.toNat)) (b := (d.toNat, dp.toNat)) (by rw [c1]; exact endText_of (by omega) (by omega)) (by rw [c1]; simp only; rw [c2]; exact endText_of (by omega) (by omega)) (by rw [c1]; simp only; rw [c2]; exact num_dec _ _ (by omega))
theorem hparse_back {l : List UInt8} {x : Nat × Nat × Nat × Nat × Nat} (h : hparse l = some x) : htext x.1 x.2.1 x.2.2.1 x.2.2.2.1 x.2.2.2.2 = l ∧ Hdr x.1 x.2.1 x.2.2.1 x.2.2.2.1 x.2.2.2.2 := by
  unfold hparse at h
  cases h1 : endOf (cut1 l 32).1 with
  | none => rw [h1] at h; simp at h
  | some a =>
    cases h2 : endOf (cut1 (cut1 l 32).2.1 32).1 with
    | none => rw [h1, h2] at h; simp at h
    | some b =>
      cases h3 : num (cut1 (cut1 l 32).2.1 32).2.1 255 with
      | none => rw [h1, h2, h3] at h; simp at h
      | some p =>
        rw [h1, h2, h3] at h
        simp only [Option.some.injEq] at h
        subst h
        obtain ⟨a, m⟩ := a
        obtain ⟨b, n⟩ := b
        obtain ⟨e1, a1, m1⟩ := endOf_text h1
        obtain ⟨e2, b1, n1⟩ := endOf_text h2
        have hc1 : (cut1 l 32).2.2 = true := by
          cases hc : (cut1 l 32).2.2 with
          | true => rfl
          | false => rw [cut1_gone l 32 hc, cut1_nil, endOf_nil] at h2; cases h2
        have hc2 : (cut1 (cut1 l 32).2.1 32).2.2 = true := by
          cases hc : (cut1 (cut1 l 32).2.1 32).2.2 with
          | true => rfl
          | false => rw [cut1_gone _ 32 hc, num_nil] at h3; cases h3
        have p1 := (num_some h3).2.2.2.1
        refine ⟨?_, ⟨by simp, by simp only; omega, by simp, by simp only; omega, by simp, by simp only; omega, by simp, by simp only; omega, by simp, by simp only; omega⟩⟩
        have l1 := cut1_yes l 32 hc1
        have l2 := cut1_yes _ 32 hc2
        rw [l1, l2]
        unfold htext
        simp only [Int.toNat_natCast]
        rw [e1, e2, dec_num h3]
end Go.Proofs.YtbmleejeffaciaaDoor
