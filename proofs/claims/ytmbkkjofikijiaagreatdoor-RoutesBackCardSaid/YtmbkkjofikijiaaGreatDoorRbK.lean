/- What the law asks of routes, adverts and their texts: what Parse and ParseAdvert tell of a written text; one text is of one route. Nothing here speaks of the program. -/
import Derived.Test.YtmbkkjofikijiaaGreatDoorRbZ
import Derived.Test.YtmbkkjofikijiaaGreatDoorRaC
namespace Go.Proofs.YtmbkkjofikijiaaGreatDoor
open Go.RowKit
theorem itoa_inj {m n : Int} (hm : -1 ≤ m ∧ m ≤ 9223372036854775807) (hn : -1 ≤ n ∧ n ≤ 9223372036854775807) (h : Lib.itoa m = Lib.itoa n) : m = n := by
  have h1 := atoi_itoa m hm.1 hm.2
  have h2 := atoi_itoa n hn.1 hn.2
  rw [h, h2] at h1
  simpa using h1.symm
/-- The text of a route that may be written is read as that route. -/
theorem parP_back {r x : RtD} {e : Int} (h : ParP (txR r) x e) (hm : mayR r = true) (ha : 0 ≤ r.a ∧ r.a < 4294967296) (hh : 0 ≤ r.ho ∧ r.ho < 4294967296) : e = 0 ∧ x = r := by
  rcases h with ⟨h1, _, _, _, _, _, _, h8⟩ | ⟨_, _, h3⟩
  · exact ⟨h1, h8 r hm ha hh rfl⟩
  · exact absurd rfl (h3 r hm ha hh)
/-- What is told of any text as a route is written as that text. -/
theorem parP_text {l : List UInt8} {x : RtD} {e : Int} (h : ParP l x e) : (e = 0 ∧ TxtR x = (.string ⟨l.toArray⟩, 0)) ∨ e = 4 := by
  rcases h with ⟨h1, h2, h3, _⟩ | ⟨h1, _⟩
  · exact .inl ⟨h1, by unfold TxtR; rw [h2, h3]; rfl⟩
  · exact .inr h1
/-- One text is of one route. -/
theorem txR_inj {r q : RtD} (hr : mayR r = true) (hq : mayR q = true) (ra : 0 ≤ r.a ∧ r.a < 4294967296) (qa : 0 ≤ q.a ∧ q.a < 4294967296) (rh : 0 ≤ r.ho ∧ r.ho < 4294967296) (qh : 0 ≤ q.ho ∧ q.ho < 4294967296) (h : txR r = txR q) : r = q := by
  obtain ⟨hck, f1, f8, hdi, hme, hta, _⟩ := mayR_parts (a := r.a) (b := r.b) (fr := r.fr) (di := r.di) (me := r.me) (ta := r.ta) (nm := r.nm) (ho := r.ho) (dc := r.dc) hr
  obtain ⟨bn0, bn32, _⟩ := ck_ok r.a r.b hck
  have n1 := ptx_no r.a.toNat r.b bn0
  have n2 := src_no r.fr.toNat
  have n3 := ito_no r.di
  have n4 := ito_no r.me
  have e1 : cutr (txR r) = joinB (srcW r.fr.toNat :: Lib.itoa r.di :: Lib.itoa r.me :: Lib.itoa r.ta :: tlR r) := cutr_join _ n1
  have e2 : cutr (cutr (txR r)) = joinB (Lib.itoa r.di :: Lib.itoa r.me :: Lib.itoa r.ta :: tlR r) := by rw [e1]; exact cutr_join _ n2
  have e3 : cutr (cutr (cutr (txR r))) = joinB (Lib.itoa r.me :: Lib.itoa r.ta :: tlR r) := by rw [e2]; exact cutr_join _ n3
  have e4 : cutr (cutr (cutr (cutr (txR r)))) = joinB (Lib.itoa r.ta :: tlR r) := by rw [e3]; exact cutr_join _ n4
  have hf : ∀ k : Nat, 1 ≤ k → k ≤ 8 → cutw (cutr (txR r)) = srcW k → r.fr = k := fun k h1 h2 h3 => by
    rw [e1, cutw_join _ n2] at h3
    have := src_one h1 h2 (by omega) h3
    omega
  have hd : ∀ x : Int, -1 ≤ x → x ≤ 2147483647 → cutw (cutr (cutr (txR r))) = Lib.itoa x → r.di = x := fun x h1 h2 h3 => by
    rw [e2, cutw_join _ n3] at h3; exact itoa_inj ⟨by omega, by omega⟩ ⟨by omega, by omega⟩ h3
  have hm : ∀ x : Int, -1 ≤ x → x ≤ 2147483647 → cutw (cutr (cutr (cutr (txR r)))) = Lib.itoa x → r.me = x := fun x h1 h2 h3 => by
    rw [e3, cutw_join _ n4] at h3; exact itoa_inj ⟨by omega, by omega⟩ ⟨by omega, by omega⟩ h3
  have ht : ∀ x : Int, -1 ≤ x → x ≤ 2147483647 → cutw (cutr (cutr (cutr (cutr (txR r))))) = Lib.itoa x → r.ta = x := fun x h1 h2 h3 => by
    rw [e4, cutw_join _ (ito_no _)] at h3; exact itoa_inj ⟨by omega, by omega⟩ ⟨by omega, by omega⟩ h3
  have g1 := route_it (l := txR r) (F := 6) (Nat.le_refl _) hf hd hm ht r hr ra rh rfl
  have g2 := route_it (l := txR r) (F := 6) (Nat.le_refl _) hf hd hm ht q hq qa qh h.symm
  exact g1.symm.trans g2
/-- The text of an advert that may be written is read as that advert. -/
theorem parA_back {q x : AvD} {e : Int} (h : ParA (txA q) x e) (hm : mayAv q = true) (hr : AvR q) : e = 0 ∧ x = q := by
  rcases h with ⟨h1, _, _, h4⟩ | ⟨_, _, h3⟩
  · exact ⟨h1, h4.it q hm hr rfl⟩
  · exact absurd rfl (h3 q hm hr)
theorem parA_text {l : List UInt8} {x : AvD} {e : Int} (h : ParA l x e) : (e = 0 ∧ TxtA x = (.string ⟨l.toArray⟩, 0)) ∨ e = 4 := by
  rcases h with ⟨h1, h2, h3, _⟩ | ⟨h1, _⟩
  · exact .inl ⟨h1, by unfold TxtA; rw [h2, h3]; rfl⟩
  · exact .inr h1
/-- How long an advert's text is. -/
theorem flat_len (b : Nat) : ∀ (l : List (List UInt8)), (∀ x ∈ l, x.length ≤ b) → (l.flatMap fun s => 32 :: s).length ≤ l.length * (b + 1)
  | [], _ => by simp
  | x :: l, h => by
    have h1 := h x (List.mem_cons_self ..)
    have h2 := flat_len b l (fun y hy => h y (List.mem_cons_of_mem _ hy))
    rw [List.flatMap_cons, List.length_append, List.length_cons, List.length_cons, Nat.succ_mul]
    omega
/-- Two adverts of the same numbers stand even. -/
theorem cA_same {r s : AdD} (h1 : r.a = s.a) (h2 : r.b = s.b) (h3 : r.ho = s.ho) (h4 : r.pf = s.pf) (h5 : r.me = s.me) (h6 : r.pa = s.pa) (h7 : r.co = s.co) (h8 : r.pe = s.pe) (h9 : r.pi = s.pi) (h10 : r.ex = s.ex) (h11 : r.og = s.og) (h12 : r.cl = s.cl) (h13 : r.se = s.se) : cA r s = 0 := by
  have e : cA r s = cA r r := by
    unfold cA ordsA
    rw [← h1, ← h2, ← h3, ← h4, ← h5, ← h6, ← h7, ← h8, ← h9, ← h10, ← h11, ← h12, ← h13]
  have h := tot_cA.anti r r
  omega
end Go.Proofs.YtmbkkjofikijiaaGreatDoor
