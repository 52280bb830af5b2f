/- What takes words off a text, what lists read: taker's function, unsigned, listed of package routes at any text. Condition: the variables ErrSyntax and ErrRange of package strconv hold errors. -/
import Derived.Test.YtmbkkjofikijiaaGreatDoorRbW
namespace Go.Proofs.YtmbkkjofikijiaaGreatDoor
open Go.RowKit
/-- Of what was there only one block has changed. -/
def Onl (g : Nat) (w W : World) : Prop := Below g w W ∧ ∀ b, b < w.heap.size → b ≠ g → W.heap[b]? = w.heap[b]?
theorem Onl.refl (g : Nat) (w : World) : Onl g w w := ⟨Below.refl _ _, fun _ _ _ => rfl⟩
theorem encU_len (x : Int) : (encU x).length = 1 := rfl
theorem encU_one : ∀ x, ∀ u ∈ encU x, u.oneCell' = true := fun x u hu => by
  have := List.mem_singleton.1 hu
  subst this; rfl
section
variable {g : Nat} {w W W' : World}
theorem Onl.step (h : Onl g w W) (hg : g ≤ w.heap.size) (hb : Below w.heap.size W W') : Onl g w W' := ⟨h.1.trans (hb.mono hg), fun b h1 h2 => (hb.block b h1).trans (h.2 b h1 h2)⟩
theorem Onl.trans (h : Onl g w W) (h2 : Onl g W W') : Onl g w W' := ⟨h.1.trans h2.1, fun b h3 h4 => (h2.2 b (Nat.lt_of_lt_of_le h3 h.1.size) h4).trans (h.2 b h3 h4)⟩
theorem Onl.size (h : Onl g w W) : w.heap.size ≤ W.heap.size := h.1.size
theorem own_onl {B n k : Nat} {e : TypeId} {v : Value} {xs : List Value} (ho : w.ownsRow B e k v n xs) (h : Onl g w W) (hg : g < B) : W.ownsRow B e k v n xs := by
  rcases ho.2 with ⟨rfl, hx⟩ | ⟨j, cap, cur, rfl, h1, h2, h3⟩
  · exact ⟨ho.1, .inl ⟨rfl, hx⟩⟩
  · exact ⟨ho.1, .inr ⟨j, cap, cur, rfl, h1, (h.2 j (Array.getElem?_eq_some_iff.1 h2).1 (by omega)).trans h2, h3⟩⟩
end
theorem tkO (l : List UInt8) (g : Nat) (w : World) (h : At1 w g ⟨l.toArray⟩) (hl : l.length ≤ 100000) : Calls Tryz.prog 125 #[.pointer (some ⟨g, 0, none⟩)] w fun e w' => e = .returned (.string ⟨(cutw l).toArray⟩) ∧ At1 w' g ⟨(cutr l).toArray⟩ ∧ Onl g w w' := by
  have hg : g < w.heap.size := (Array.getElem?_eq_some_iff.1 h).1
  obtain ⟨s, hs⟩ : ∃ s, (⟨l.toArray⟩ : ByteArray) = s := ⟨_, rfl⟩
  obtain ⟨word, hw⟩ : ∃ s, (⟨(cutw l).toArray⟩ : ByteArray) = s := ⟨_, rfl⟩
  obtain ⟨rest, hr⟩ : ∃ s, (⟨(cutr l).toArray⟩ : ByteArray) = s := ⟨_, rfl⟩
  have hsl : s.data.toList = l := by rw [← hs]
  have hc := scut_is s 32 w (by rw [← hs, mk_size]; omega)
  rw [hsl, show (⟨(cut1 l 32).1.toArray⟩ : ByteArray) = word from hw, show (⟨(cut1 l 32).2.1.toArray⟩ : ByteArray) = rest from hr] at hc
  rw [hs] at h
  rw [hw, hr]
  have x0 : w.cell? ⟨g, 0, none⟩ = some (.string s) := by unfold At1 at h; simp only [World.cell?, h]; rfl
  have HC := Lib.hid hc; have HA := Lib.hid h; have HG := Lib.hid hg
  clear hc h hs hg hw hr hsl hl
  go_enter Tryz.func125, Tryz.ntmps125
  go_wp2_with fail
  go_at_call 126
  refine HC.out.mono ?_
  rintro e w1 ⟨rfl, hb⟩
  have HB := Lib.hid hb
  clear hb
  have h1 : At1 w1 g s := (HB.out.block g HG.out).trans HA.out
  have x1 : w1.cell? ⟨g, 0, none⟩ = some (.string s) := by unfold At1 at h1; simp only [World.cell?, h1]; rfl
  have x2 : w1.frozen? ⟨g, 0, none⟩ = false := by unfold At1 at h1; simp [World.frozen?, h1]
  have H1 := Lib.hid h1
  clear h1
  go_wp2
  go_ret
  exact ⟨rfl, heap_set1 _ _ _ _ _ _ _ H1.out, (HB.out.mono (Nat.le_of_lt HG.out)).trans ((Below.refl g w1).setCell (p := ⟨g, 0, none⟩) (Nat.le_refl _) _), fun b h1 h2 => by rw [Below.heap_setCell _ _ _ _ h2]; exact HB.out.block b h1⟩
theorem pm32 (M : Nat) (hM : M ≤ 4294967295) : ∀ (l : List UInt8) (acc : Nat), l.all dig = true → val l acc ≤ M → Lib.parseUintM M acc l = .ok (val l acc) := by
  intro l
  induction l with
  | nil => intro acc _ _; rfl
  | cons c r ih =>
    intro acc hd hv
    simp only [List.all_cons, Bool.and_eq_true] at hd
    have hd1 : 48 ≤ c.toNat ∧ c.toNat ≤ 57 := by have := hd.1; unfold dig at this; simpa using this
    have hv2 : val (c :: r) acc = val r (acc * 10 + (c.toNat - 48)) := rfl
    have hge := val_ge r (acc * 10 + (c.toNat - 48))
    rw [hv2] at hv ⊢
    unfold Lib.parseUintM
    rw [if_pos hd1, if_neg (by omega), if_neg (by omega)]
    exact ih _ hd.2 hv
theorem pu32_dec (n : Nat) (h : n ≤ 4294967295) : Lib.parseUintB 32 (Lib.decDigits n) = .ok n := by
  obtain ⟨h1, h2, h3, _⟩ := dec_facts n
  unfold Lib.parseUintB
  rw [if_neg h1]
  have := pm32 (2 ^ 32 - 1) (by decide) (Lib.decDigits n) 0 h2 (by rw [h3]; omega)
  rw [this, h3]
theorem below_or {w w' : World} {t : TypeId} {s : ByteArray} (h : w' = w ∨ w' = Lib.bytesWorld w t s) : Below w.heap.size w w' := by
  rcases h with rfl | rfl
  · exact Below.refl _ _
  · exact Lib.bytesWorld_below _ _ _
theorem wrap32 (v : Int) : 0 ≤ IntKind.u32.wrap v ∧ IntKind.u32.wrap v < 4294967296 := by
  simp only [IntKind.wrap]
  constructor
  · first | exact Int.emod_nonneg _ (by decide) | (simp [IntKind.wrap]; omega)
  · first | exact Int.emod_lt_of_pos _ (by decide) | (simp [IntKind.wrap]; omega)
/-- What reads a word as a number: some number, and of a number's text that one. -/
def RdW (k : Nat) (f : Int → List UInt8) (W : World) : Prop := ∀ (c : List UInt8), c.length ≤ 100000 → Calls Tryz.prog k #[.string ⟨c.toArray⟩] W fun e w' => ∃ x : Int, e = .returned (.int .u32 x) ∧ (0 ≤ x ∧ x < 4294967296) ∧ (∀ y : Int, 0 ≤ y ∧ y < 4294967296 → c = f y → x = y) ∧ Below W.heap.size W w'
theorem uns_any (w : World) (hE : ErrV w) : RdW 77 decU w := fun c hc => by
  have H : Calls Tryz.prog 131 #[.string ⟨c.toArray⟩, .int .i64 10, .int .i64 32] w fun e w' => Below w.heap.size w w' ∧ ∃ (v : Int) (x : Value), e = .returned (.tuple #[.int .u64 v, x]) ∧ ∀ n : Nat, n ≤ 4294967295 → c = Lib.decDigits n → v = n := by
    obtain ⟨⟨ts, ps, h1⟩, tr, pr, h2⟩ := hE
    have hs : (⟨c.toArray⟩ : ByteArray).data.toList = c := mk_toList c
    have hz : (⟨c.toArray⟩ : ByteArray).size ≤ 100000 := by rw [mk_size]; exact hc
    cases h : Lib.parseUintB 32 (⟨c.toArray⟩ : ByteArray).data.toList
    · rename_i u
      refine (Tryz.strconv_ParseUint_10_at32_ok ⟨c.toArray⟩ (by omega) u h w).mono fun e w' ⟨he, hw⟩ => ⟨below_or hw, u, _, he, fun n hn hcn => ?_⟩
      rw [hs, hcn, pu32_dec n hn] at h
      simp at h; omega
    · exact (Tryz.strconv_ParseUint_10_at32_syntax ⟨c.toArray⟩ (by omega) h _ w h1 (.inr ⟨ts, ps, rfl⟩)).mono fun e w' ⟨N, he, _, _, hb⟩ => ⟨hb, _, _, he, fun n hn hcn => by rw [hs, hcn, pu32_dec n hn] at h; cases h⟩
    · exact (Tryz.strconv_ParseUint_10_at32_range ⟨c.toArray⟩ (by omega) h _ w h2 (.inr ⟨tr, pr, rfl⟩)).mono fun e w' ⟨N, he, _, _, hb⟩ => ⟨hb, _, _, he, fun n hn hcn => by rw [hs, hcn, pu32_dec n hn] at h; cases h⟩
  have HH := Lib.hid H
  clear H hE hc
  obtain ⟨sb, hsb⟩ : ∃ s, (⟨c.toArray⟩ : ByteArray) = s := ⟨_, rfl⟩
  rw [hsb] at HH ⊢
  clear hsb
  go_enter Tryz.func77, Tryz.ntmps77
  go_wp2_with fail
  go_at_call 131
  refine HH.out.mono ?_
  rintro e w1 ⟨hb, v, x, rfl, hv⟩
  have HB := Lib.hid hb
  have HV := Lib.hid hv
  clear hb hv
  go_wp2
  go_ret
  refine ⟨_, rfl, wrap32 _, fun y hy hcy => ?_, HB.out⟩
  have := HV.out y.toNat (by omega) hcy
  have e : v = y := by omega
  subst e
  exact IntWalk.u32_in _ (by omega)
theorem adr_rd (w : World) : RdW 72 txtU w := fun c hc => (adrL c hc w).mono fun e w' ⟨he, hb⟩ => ⟨_, he, adrI_range, fun y hy hcy => by rw [hcy]; unfold txtU; rw [back_adr y hy.1 hy.2], hb⟩
theorem cut_lens2 {l : List UInt8} (h : cutr l ≠ []) : (cutw l).length + 1 + (cutr l).length ≤ l.length := by
  unfold cutw cutr at *
  cases h2 : (cut1 l 32).2.2 with
  | true => have e := cut1_yes l 32 h2; have := congrArg List.length e; simp at this; omega
  | false =>
    exfalso
    by_cases hm : (32 : UInt8) ∈ l
    · obtain ⟨p, r, e, hp⟩ := List.eq_append_cons_of_mem hm
      rw [e, cut1_mk p r 32 hp] at h2
      cases h2
    · rw [cut1_none l 32 hm] at h; exact h rfl
/-- What stands behind a list's words. -/
def Beh (last : List UInt8) (t : List (List UInt8)) : List (List UInt8) := if last = [] then [] else last :: t
/-- What is known of a list that is read. -/
def LsR (f : Int → List UInt8) (l last : List UInt8) (L : List Int) (S : List UInt8) : Prop := ∀ (xs : List Int) (t : List (List UInt8)), (∀ x ∈ xs, 0 ≤ x ∧ x < 4294967296) → l = joinB (xs.map f ++ Beh last t) → ∃ ys, xs = L ++ ys ∧ S = joinB (ys.map f ++ Beh last t)
/-- Texts of numbers are words, and none of them is the one that ends a list. -/
structure Wrd (f : Int → List UInt8) (last : List UInt8) : Prop where
  no : ∀ y, 0 ≤ y ∧ y < 4294967296 → 32 ∉ f y
  ne : ∀ y, 0 ≤ y ∧ y < 4294967296 → f y ≠ []
  la : ∀ y, 0 ≤ y ∧ y < 4294967296 → f y ≠ last
  lb : 32 ∉ last
theorem LsR.zero (f : Int → List UInt8) (l last : List UInt8) : LsR f l last [] l := fun xs t _ h => ⟨xs, rfl, h⟩
theorem beh_cutw {last : List UInt8} (hw : 32 ∉ last) (t : List (List UInt8)) : cutw (joinB (Beh last t)) = last := by
  unfold Beh
  by_cases h : last = []
  · rw [if_pos h, h]; rfl
  · rw [if_neg h]; exact cutw_join _ hw
theorem LsR.next {f : Int → List UInt8} {l last : List UInt8} {L : List Int} {S : List UInt8} {x : Int} (hf : Wrd f last) (h : LsR f l last L S) (h1 : cutw S ≠ last) (hx : ∀ y : Int, 0 ≤ y ∧ y < 4294967296 → cutw S = f y → x = y) : LsR f l last (L ++ [x]) (cutr S) := fun xs t hr hl => by
  obtain ⟨ys, h3, h4⟩ := h xs t hr hl
  cases ys with
  | nil => rw [List.map_nil, List.nil_append] at h4; rw [h4, beh_cutw hf.lb] at h1; exact absurd rfl h1
  | cons y ys =>
    have hy := hr y (by rw [h3]; simp)
    rw [List.map_cons, List.cons_append] at h4
    have h5 : cutw S = f y := by rw [h4]; exact cutw_join _ (hf.no y hy)
    refine ⟨ys, by rw [h3, hx y hy h5]; simp, by rw [h4]; exact cutr_join _ (hf.no y hy)⟩
theorem LsR.done {f : Int → List UInt8} {l last : List UInt8} {L : List Int} {S : List UInt8} (hf : Wrd f last) (h : LsR f l last L S) (h1 : cutw S = last ∨ cutw S = []) : ∀ (xs : List Int) (t : List (List UInt8)), (∀ x ∈ xs, 0 ≤ x ∧ x < 4294967296) → l = joinB (xs.map f ++ Beh last t) → L = xs ∧ (last ≠ [] → cutr S = joinB t) := fun xs t hr hl => by
  obtain ⟨ys, h3, h4⟩ := h xs t hr hl
  cases ys with
  | nil =>
    refine ⟨by rw [h3]; simp, fun hn => ?_⟩
    rw [h4, List.map_nil, List.nil_append]
    unfold Beh
    rw [if_neg hn]
    exact cutr_join _ hf.lb
  | cons y ys =>
    exfalso
    have hy := hr y (by rw [h3]; simp)
    rw [List.map_cons, List.cons_append] at h4
    have h5 : cutw S = f y := by rw [h4]; exact cutw_join _ (hf.no y hy)
    rcases h1 with h1 | h1
    · exact hf.la y hy (h5.symm.trans h1)
    · exact hf.ne y hy (h5.symm.trans h1)
theorem infoU : (Tryz.prog.info? 22).map (fun i => (i.zero, i.size, i.bytes)) = some (some (.int .u32 0), 1, 4) := by kernel_rfl
set_option maxRecDepth 100000 in
set_option maxHeartbeats 4000000 in
theorem listed_u (k : Nat) (f : Int → List UInt8) (l last : List UInt8) (g : Nat) (w : World) (ek : ∀ args w, (callFunc k args).run Tryz.prog w = .ok (.enter k args) w) (hf : Wrd f last) (h : At1 w g ⟨l.toArray⟩) (hl : l.length ≤ 100000) (hk : ∀ W, Onl g w W → RdW k f W) :
    Calls Tryz.prog 76 #[.func (.func 125) #[] #[.pointer (some ⟨g, 0, none⟩)], .string ⟨last.toArray⟩, .func (.func k) #[] #[]] w fun e w' =>
      ∃ (v : Value) (L : List Int) (S : List UInt8), e = .returned v ∧ w'.ownsRow w.heap.size 22 1 v L.length (flatK encU L) ∧ (∀ x ∈ L, 0 ≤ x ∧ x < 4294967296) ∧ 2 * L.length ≤ l.length + 1 ∧ S.length ≤ l.length ∧ At1 w' g ⟨S.toArray⟩ ∧ Onl g w w' ∧ ∀ (xs : List Int) (t : List (List UInt8)), (∀ x ∈ xs, 0 ≤ x ∧ x < 4294967296) → l = joinB (xs.map f ++ Beh last t) → L = xs ∧ (last ≠ [] → S = joinB t) := by
  have eg : ∀ args w, (callFunc 125 args).run Tryz.prog w = .ok (.enter 125 args) w := enters_of Tryz.func125 (by kernel_rfl) rfl
  have hg : g < w.heap.size := (Array.getElem?_eq_some_iff.1 h).1
  have HF := Lib.hid hf; have HK := Lib.hid hk; have HG := Lib.hid hg; have HL := Lib.hid hl
  have T0 := Lib.hid (tkO l g w h hl)
  obtain ⟨lb, hlb⟩ : ∃ s, (⟨last.toArray⟩ : ByteArray) = s := ⟨_, rfl⟩
  have HLB : Hid (lb.data.toList = last) := Lib.hid (by rw [← hlb])
  rw [hlb]
  clear hf hk hg hl h hlb
  go_enter Tryz.func76, Tryz.ntmps76
  go_wp2_with fail
  refine T0.out.mono ?_
  rintro e w1 ⟨rfl, h1, hb1⟩
  have A1 := Lib.hid h1
  have O1 := Lib.hid hb1
  clear h1 hb1 T0
  go_wp2_with fail
  go_loopw [7, 8] (fun vl vw wr => ∃ (L : List Int) (S : List UInt8), vw = .string ⟨(cutw S).toArray⟩ ∧ Hid (wr.ownsRow w.heap.size 22 1 vl L.length (flatK encU L)) ∧ Hid (∀ x ∈ L, 0 ≤ x ∧ x < 4294967296) ∧ (2 * L.length + S.length ≤ l.length ∨ (S = [] ∧ 2 * L.length ≤ l.length + 1)) ∧ Hid (At1 wr g ⟨(cutr S).toArray⟩) ∧ Hid (Onl g w wr) ∧ Hid (LsR f l last L S)) (fun _ vw wr => strLen vw + restLen wr g)
  case atStart => exact ⟨[], l, rfl, Lib.hid (World.ownsRow_nil _ _ _ _), Lib.hid (by simp), by simp, A1, O1, Lib.hid (LsR.zero _ _ _)⟩
  case round =>
    obtain ⟨L, S, rfl, HO, HR, hln, HA, HN, HS⟩ := hrel
    clear A1 O1
    have hRL := restLen_at HA.out
    rw [mk_size] at hRL
    have hcl := cut_lens S
    have hc2 := cut_lens2 (l := S)
    have hll := HL.out
    obtain ⟨wd, hwd⟩ : ∃ x, cutw S = x := ⟨_, rfl⟩
    obtain ⟨wb, hwb⟩ : ∃ x, (⟨wd.toArray⟩ : ByteArray) = x := ⟨_, rfl⟩
    have hwl : wb.data.toList = wd := by rw [← hwb]
    have hwz : wb.size = wd.length := by rw [← hwb, mk_size]
    obtain ⟨pv, cv, hpv⟩ := own_slr HO.out
    subst hpv
    rw [hwd] at hcl hc2
    rw [hwd, hwb]
    have HLN := Lib.hid hln; have HRL := Lib.hid hRL; have HCL := Lib.hid hcl; have HC2 := Lib.hid hc2; have HLL := Lib.hid hll; have HWD := Lib.hid hwd; have HWL := Lib.hid hwl; have HWZ := Lib.hid hwz; have HWB := Lib.hid hwb
    clear hln hRL hcl hc2 hll hwz hwb
    have hlast := HLB.out
    by_cases h1 : wd = last
    · have k1 : (wb.toList == lb.toList) = true := by rw [ByteArray.toList_eq, ByteArray.toList_eq, HWL.out, HLB.out, h1]; simp
      have HD := Lib.hid (HS.out.done HF.out (.inl (HWD.out.trans h1)))
      clear h1 hwd hwl hlast
      go_wp2_with fail
      go_ret
      exact ⟨_, L, cutr S, rfl, HO.out, HR.out, by rcases HLN.out with h | h <;> omega, by have := HCL.out; have := HLN.out; rcases HLN.out with h | ⟨h, _⟩; omega; rw [h]; simp [cutr, cut1], HA.out, HN.out, HD.out⟩
    · by_cases h2 : wd = []
      · have k1 : (wb.toList == lb.toList) = false := by rw [ByteArray.toList_eq, ByteArray.toList_eq, HWL.out, HLB.out]; simpa using h1
        have k2 := isE_true (HWL.out.trans h2)
        have HD := Lib.hid (HS.out.done HF.out (.inr (HWD.out.trans h2)))
        clear h1 h2 hwd hwl hlast
        go_wp2_with fail
        go_ret
        exact ⟨_, L, cutr S, rfl, HO.out, HR.out, by rcases HLN.out with h | h <;> omega, by have := HCL.out; rcases HLN.out with h | ⟨h, _⟩; omega; rw [h]; simp [cutr, cut1], HA.out, HN.out, HD.out⟩
      · have k1 : (wb.toList == lb.toList) = false := by rw [ByteArray.toList_eq, ByteArray.toList_eq, HWL.out, HLB.out]; simpa using h1
        have k2 := isE_false (s := wb) (by rw [HWL.out]; exact h2)
        have HP := Lib.hid (List.length_pos_iff.2 h2)
        have HN1 := Lib.hid h1
        have CK := Lib.hid (HK.out _ HN.out wd (by have := HCL.out; have := HLL.out; rcases HLN.out with h | ⟨h, _⟩; omega; have h3 := HWD.out; rw [h] at h3; rw [← h3]; simp [cutw, cut1]))
        rw [HWB.out] at CK
        clear h1 h2 hwd hwl hlast
        go_wp2_with fail
        refine CK.out.mono ?_
        rintro e w2 ⟨x, rfl, hxr, hxy, hb2⟩
        have HXR := Lib.hid hxr
        have HXY := Lib.hid hxy
        have HN2 := Lib.hid (HN.out.step (Nat.le_of_lt HG.out) (hb2.mono HN.out.size))
        have HO2 := Lib.hid (own_below HO.out hb2)
        have HA2 : Hid (At1 w2 g ⟨(cutr S).toArray⟩) := Lib.hid ((hb2.block g (Nat.lt_of_lt_of_le HG.out HN.out.size)).trans HA.out)
        obtain ⟨W3, hW3⟩ : ∃ X, w2.alloc (.cells #[.int .u32 x] 22) = X := ⟨_, rfl⟩
        have BW : Hid (Below w2.heap.size w2 W3) := Lib.hid (by rw [← hW3]; exact (Below.refl _ _).alloc (Nat.le_refl _) _)
        have X3 : Hid (W3.heap[w2.heap.size]? = some (.cells #[.int .u32 x] 22 (0, 0))) := Lib.hid (by rw [← hW3]; exact heap_new' _ _)
        have R3 : Hid (RdK encU 1 W3 (.slice (some ⟨w2.heap.size, 0, none⟩) 1 1) [x]) := Lib.hid (RdK.of_own (b := 0) (e := 22) encU_len ⟨rfl, .inr ⟨w2.heap.size, 1, #[.int .u32 x], rfl, Nat.zero_le _, X3.out, Nat.le_refl _, by unfold maxLen; omega, rfl, rfl⟩⟩)
        have HO3 := Lib.hid (own_below HO2.out BW.out)
        have HN3 := Lib.hid (HN2.out.step (Nat.le_of_lt HG.out) (BW.out.mono HN2.out.size))
        have HA3 : Hid (At1 W3 g ⟨(cutr S).toArray⟩) := Lib.hid ((BW.out.block g (Nat.lt_of_lt_of_le HG.out HN2.out.size)).trans HA2.out)
        have hlen : L.length ≤ 100001 := by have := HLL.out; rcases HLN.out with h | ⟨h, h'⟩ <;> omega
        clear hb2 hxr hxy
        go_wp2_with (first
          | (at_builtin; refine wpList_append_rdk encU_len (by decide) encU_one rfl _ _ 28 22 rfl (.int .u32 0) 4 Tryz.underlying28 rfl infoU w.heap.size _ L.length _ rfl HO3.out _ [x] rfl R3.out (by unfold maxLen; simp only [List.length_singleton]; omega) (by simp only [List.length_singleton]; omega) HN3.out.size ?_
             intro v4 w4 o4 g4 n4
             have HO4 : Hid (w4.ownsRow w.heap.size 22 1 v4 (L ++ [x]).length (flatK encU (L ++ [x]))) := Lib.hid (by rw [List.length_append]; simpa [flatK, List.flatMap_append] using o4)
             have HB4 : Hid (Below w.heap.size W3 w4) := Lib.hid ((Below.refl _ _).grown g4 HN3.out.size (fun j hj => (HO3.out.lt j hj).1))
             have HN4 := Lib.hid (HN3.out.step (Nat.le_of_lt HG.out) HB4.out)
             have HA4 : Hid (At1 w4 g ⟨(cutr S).toArray⟩) := Lib.hid ((HB4.out.block g HG.out).trans HA3.out)
             have T5 := Lib.hid (tkO (cutr S) g w4 HA4.out (by have := HCL.out; have := HLL.out; have := cutr_le S; rcases HLN.out with h | ⟨h, _⟩; omega; rw [h]; simp [cutr, cut1]))
             clear o4 g4 n4)
          | (refine T5.out.mono ?_
             rintro e w5 ⟨rfl, h5, hb5⟩
             have HA5 := Lib.hid h5
             have HN5 := Lib.hid (HN4.out.trans hb5)
             have HO5 := Lib.hid (own_onl HO4.out hb5 HG.out)
             clear h5 hb5))
        have hRL2 := restLen_at HA5.out
        rw [mk_size] at hRL2
        have hcl2 := cut_lens (cutr S)
        have HM := Lib.hid hRL2; have HM2 := Lib.hid hcl2
        clear hRL2 hcl2 hlen
        have HS5 := Lib.hid (HS.out.next HF.out (by rw [HWD.out]; exact HN1.out) (by rw [HWD.out]; exact HXY.out))
        have HR5 : Hid (∀ y ∈ L ++ [x], 0 ≤ y ∧ y < 4294967296) := Lib.hid (fun y hy => by
          rcases List.mem_append.1 hy with h | h
          · exact HR.out y h
          · have := List.mem_singleton.1 h; subst this; exact HXR.out)
        have hl5 : 2 * (L ++ [x]).length + (cutr S).length ≤ l.length ∨ (cutr S = [] ∧ 2 * (L ++ [x]).length ≤ l.length + 1) := by
          have h1 := HP.out; have h2 := HCL.out
          simp only [List.length_append, List.length_singleton]
          by_cases h3 : cutr S = []
          · right
            refine ⟨h3, ?_⟩
            rcases HLN.out with h | ⟨h, _⟩
            · omega
            · have h9 : S.length = 0 := by rw [h]; rfl
              omega
          · left
            have h4 := HC2.out h3
            rcases HLN.out with h | ⟨h, _⟩
            · omega
            · have h9 : S.length = 0 := by rw [h]; rfl
              omega
        have HL5 := Lib.hid hl5
        clear hl5
        go_wp2
        go_roundw
        case rel => exact ⟨L ++ [x], cutr S, rfl, HO5, HR5, HL5.out, HA5, HN5, HS5⟩
        case measure =>
          have m1 := HM.out; have m2 := HM2.out; have m3 := HRL.out; have m4 := HCL.out; have m5 := HP.out; have m7 := HWZ.out
          rw [m1, m3]
          simp only [strLen, mk_size]
          omega
theorem infoA : (Tryz.prog.info? 23).map (fun i => (i.zero, i.size, i.bytes)) = some (some (.int .u32 0), 1, 4) := by kernel_rfl
set_option maxRecDepth 100000 in
set_option maxHeartbeats 4000000 in
theorem listed_a (k : Nat) (f : Int → List UInt8) (l last : List UInt8) (g : Nat) (w : World) (ek : ∀ args w, (callFunc k args).run Tryz.prog w = .ok (.enter k args) w) (hf : Wrd f last) (h : At1 w g ⟨l.toArray⟩) (hl : l.length ≤ 100000) (hk : ∀ W, Onl g w W → RdW k f W) :
    Calls Tryz.prog 78 #[.func (.func 125) #[] #[.pointer (some ⟨g, 0, none⟩)], .string ⟨last.toArray⟩, .func (.func k) #[] #[]] w fun e w' =>
      ∃ (v : Value) (L : List Int) (S : List UInt8), e = .returned v ∧ w'.ownsRow w.heap.size 23 1 v L.length (flatK encU L) ∧ (∀ x ∈ L, 0 ≤ x ∧ x < 4294967296) ∧ 2 * L.length ≤ l.length + 1 ∧ S.length ≤ l.length ∧ At1 w' g ⟨S.toArray⟩ ∧ Onl g w w' ∧ ∀ (xs : List Int) (t : List (List UInt8)), (∀ x ∈ xs, 0 ≤ x ∧ x < 4294967296) → l = joinB (xs.map f ++ Beh last t) → L = xs ∧ (last ≠ [] → S = joinB t) := by
  have eg : ∀ args w, (callFunc 125 args).run Tryz.prog w = .ok (.enter 125 args) w := enters_of Tryz.func125 (by kernel_rfl) rfl
  have hg : g < w.heap.size := (Array.getElem?_eq_some_iff.1 h).1
  have HF := Lib.hid hf; have HK := Lib.hid hk; have HG := Lib.hid hg; have HL := Lib.hid hl
  have T0 := Lib.hid (tkO l g w h hl)
  obtain ⟨lb, hlb⟩ : ∃ s, (⟨last.toArray⟩ : ByteArray) = s := ⟨_, rfl⟩
  have HLB : Hid (lb.data.toList = last) := Lib.hid (by rw [← hlb])
  rw [hlb]
  clear hf hk hg hl h hlb
  go_enter Tryz.func78, Tryz.ntmps78
  go_wp2_with fail
  refine T0.out.mono ?_
  rintro e w1 ⟨rfl, h1, hb1⟩
  have A1 := Lib.hid h1
  have O1 := Lib.hid hb1
  clear h1 hb1 T0
  go_wp2_with fail
  go_loopw [7, 8] (fun vl vw wr => ∃ (L : List Int) (S : List UInt8), vw = .string ⟨(cutw S).toArray⟩ ∧ Hid (wr.ownsRow w.heap.size 23 1 vl L.length (flatK encU L)) ∧ Hid (∀ x ∈ L, 0 ≤ x ∧ x < 4294967296) ∧ (2 * L.length + S.length ≤ l.length ∨ (S = [] ∧ 2 * L.length ≤ l.length + 1)) ∧ Hid (At1 wr g ⟨(cutr S).toArray⟩) ∧ Hid (Onl g w wr) ∧ Hid (LsR f l last L S)) (fun _ vw wr => strLen vw + restLen wr g)
  case atStart => exact ⟨[], l, rfl, Lib.hid (World.ownsRow_nil _ _ _ _), Lib.hid (by simp), by simp, A1, O1, Lib.hid (LsR.zero _ _ _)⟩
  case round =>
    obtain ⟨L, S, rfl, HO, HR, hln, HA, HN, HS⟩ := hrel
    clear A1 O1
    have hRL := restLen_at HA.out
    rw [mk_size] at hRL
    have hcl := cut_lens S
    have hc2 := cut_lens2 (l := S)
    have hll := HL.out
    obtain ⟨wd, hwd⟩ : ∃ x, cutw S = x := ⟨_, rfl⟩
    obtain ⟨wb, hwb⟩ : ∃ x, (⟨wd.toArray⟩ : ByteArray) = x := ⟨_, rfl⟩
    have hwl : wb.data.toList = wd := by rw [← hwb]
    have hwz : wb.size = wd.length := by rw [← hwb, mk_size]
    obtain ⟨pv, cv, hpv⟩ := own_slr HO.out
    subst hpv
    rw [hwd] at hcl hc2
    rw [hwd, hwb]
    have HLN := Lib.hid hln; have HRL := Lib.hid hRL; have HCL := Lib.hid hcl; have HC2 := Lib.hid hc2; have HLL := Lib.hid hll; have HWD := Lib.hid hwd; have HWL := Lib.hid hwl; have HWZ := Lib.hid hwz; have HWB := Lib.hid hwb
    clear hln hRL hcl hc2 hll hwz hwb
    have hlast := HLB.out
    by_cases h1 : wd = last
    · have k1 : (wb.toList == lb.toList) = true := by rw [ByteArray.toList_eq, ByteArray.toList_eq, HWL.out, HLB.out, h1]; simp
      have HD := Lib.hid (HS.out.done HF.out (.inl (HWD.out.trans h1)))
      clear h1 hwd hwl hlast
      go_wp2_with fail
      go_ret
      exact ⟨_, L, cutr S, rfl, HO.out, HR.out, by rcases HLN.out with h | h <;> omega, by have := HCL.out; have := HLN.out; rcases HLN.out with h | ⟨h, _⟩; omega; rw [h]; simp [cutr, cut1], HA.out, HN.out, HD.out⟩
    · by_cases h2 : wd = []
      · have k1 : (wb.toList == lb.toList) = false := by rw [ByteArray.toList_eq, ByteArray.toList_eq, HWL.out, HLB.out]; simpa using h1
        have k2 := isE_true (HWL.out.trans h2)
        have HD := Lib.hid (HS.out.done HF.out (.inr (HWD.out.trans h2)))
        clear h1 h2 hwd hwl hlast
        go_wp2_with fail
        go_ret
        exact ⟨_, L, cutr S, rfl, HO.out, HR.out, by rcases HLN.out with h | h <;> omega, by have := HCL.out; rcases HLN.out with h | ⟨h, _⟩; omega; rw [h]; simp [cutr, cut1], HA.out, HN.out, HD.out⟩
      · have k1 : (wb.toList == lb.toList) = false := by rw [ByteArray.toList_eq, ByteArray.toList_eq, HWL.out, HLB.out]; simpa using h1
        have k2 := isE_false (s := wb) (by rw [HWL.out]; exact h2)
        have HP := Lib.hid (List.length_pos_iff.2 h2)
        have HN1 := Lib.hid h1
        have CK := Lib.hid (HK.out _ HN.out wd (by have := HCL.out; have := HLL.out; rcases HLN.out with h | ⟨h, _⟩; omega; have h3 := HWD.out; rw [h] at h3; rw [← h3]; simp [cutw, cut1]))
        rw [HWB.out] at CK
        clear h1 h2 hwd hwl hlast
        go_wp2_with fail
        refine CK.out.mono ?_
        rintro e w2 ⟨x, rfl, hxr, hxy, hb2⟩
        have HXR := Lib.hid hxr
        have HXY := Lib.hid hxy
        have HN2 := Lib.hid (HN.out.step (Nat.le_of_lt HG.out) (hb2.mono HN.out.size))
        have HO2 := Lib.hid (own_below HO.out hb2)
        have HA2 : Hid (At1 w2 g ⟨(cutr S).toArray⟩) := Lib.hid ((hb2.block g (Nat.lt_of_lt_of_le HG.out HN.out.size)).trans HA.out)
        obtain ⟨W3, hW3⟩ : ∃ X, w2.alloc (.cells #[.int .u32 x] 23) = X := ⟨_, rfl⟩
        have BW : Hid (Below w2.heap.size w2 W3) := Lib.hid (by rw [← hW3]; exact (Below.refl _ _).alloc (Nat.le_refl _) _)
        have X3 : Hid (W3.heap[w2.heap.size]? = some (.cells #[.int .u32 x] 23 (0, 0))) := Lib.hid (by rw [← hW3]; exact heap_new' _ _)
        have R3 : Hid (RdK encU 1 W3 (.slice (some ⟨w2.heap.size, 0, none⟩) 1 1) [x]) := Lib.hid (RdK.of_own (b := 0) (e := 23) encU_len ⟨rfl, .inr ⟨w2.heap.size, 1, #[.int .u32 x], rfl, Nat.zero_le _, X3.out, Nat.le_refl _, by unfold maxLen; omega, rfl, rfl⟩⟩)
        have HO3 := Lib.hid (own_below HO2.out BW.out)
        have HN3 := Lib.hid (HN2.out.step (Nat.le_of_lt HG.out) (BW.out.mono HN2.out.size))
        have HA3 : Hid (At1 W3 g ⟨(cutr S).toArray⟩) := Lib.hid ((BW.out.block g (Nat.lt_of_lt_of_le HG.out HN2.out.size)).trans HA2.out)
        have hlen : L.length ≤ 100001 := by have := HLL.out; rcases HLN.out with h | ⟨h, h'⟩ <;> omega
        clear hb2 hxr hxy
        go_wp2_with (first
          | (at_builtin; refine wpList_append_rdk encU_len (by decide) encU_one rfl _ _ 29 23 rfl (.int .u32 0) 4 Tryz.underlying29 rfl infoA w.heap.size _ L.length _ rfl HO3.out _ [x] rfl R3.out (by unfold maxLen; simp only [List.length_singleton]; omega) (by simp only [List.length_singleton]; omega) HN3.out.size ?_
             intro v4 w4 o4 g4 n4
             have HO4 : Hid (w4.ownsRow w.heap.size 23 1 v4 (L ++ [x]).length (flatK encU (L ++ [x]))) := Lib.hid (by rw [List.length_append]; simpa [flatK, List.flatMap_append] using o4)
             have HB4 : Hid (Below w.heap.size W3 w4) := Lib.hid ((Below.refl _ _).grown g4 HN3.out.size (fun j hj => (HO3.out.lt j hj).1))
             have HN4 := Lib.hid (HN3.out.step (Nat.le_of_lt HG.out) HB4.out)
             have HA4 : Hid (At1 w4 g ⟨(cutr S).toArray⟩) := Lib.hid ((HB4.out.block g HG.out).trans HA3.out)
             have T5 := Lib.hid (tkO (cutr S) g w4 HA4.out (by have := HCL.out; have := HLL.out; have := cutr_le S; rcases HLN.out with h | ⟨h, _⟩; omega; rw [h]; simp [cutr, cut1]))
             clear o4 g4 n4)
          | (refine T5.out.mono ?_
             rintro e w5 ⟨rfl, h5, hb5⟩
             have HA5 := Lib.hid h5
             have HN5 := Lib.hid (HN4.out.trans hb5)
             have HO5 := Lib.hid (own_onl HO4.out hb5 HG.out)
             clear h5 hb5))
        have hRL2 := restLen_at HA5.out
        rw [mk_size] at hRL2
        have hcl2 := cut_lens (cutr S)
        have HM := Lib.hid hRL2; have HM2 := Lib.hid hcl2
        clear hRL2 hcl2 hlen
        have HS5 := Lib.hid (HS.out.next HF.out (by rw [HWD.out]; exact HN1.out) (by rw [HWD.out]; exact HXY.out))
        have HR5 : Hid (∀ y ∈ L ++ [x], 0 ≤ y ∧ y < 4294967296) := Lib.hid (fun y hy => by
          rcases List.mem_append.1 hy with h | h
          · exact HR.out y h
          · have := List.mem_singleton.1 h; subst this; exact HXR.out)
        have hl5 : 2 * (L ++ [x]).length + (cutr S).length ≤ l.length ∨ (cutr S = [] ∧ 2 * (L ++ [x]).length ≤ l.length + 1) := by
          have h1 := HP.out; have h2 := HCL.out
          simp only [List.length_append, List.length_singleton]
          by_cases h3 : cutr S = []
          · right
            refine ⟨h3, ?_⟩
            rcases HLN.out with h | ⟨h, _⟩
            · omega
            · have h9 : S.length = 0 := by rw [h]; rfl
              omega
          · left
            have h4 := HC2.out h3
            rcases HLN.out with h | ⟨h, _⟩
            · omega
            · have h9 : S.length = 0 := by rw [h]; rfl
              omega
        have HL5 := Lib.hid hl5
        clear hl5
        go_wp2
        go_roundw
        case rel => exact ⟨L ++ [x], cutr S, rfl, HO5, HR5, HL5.out, HA5, HN5, HS5⟩
        case measure =>
          have m1 := HM.out; have m2 := HM2.out; have m3 := HRL.out; have m4 := HCL.out; have m5 := HP.out; have m7 := HWZ.out
          rw [m1, m3]
          simp only [strLen, mk_size]
          omega
end Go.Proofs.YtmbkkjofikijiaaGreatDoor
