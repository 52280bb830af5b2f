/- Rewrites and filters as data, and what is told of them: which filter a name stands for, may rewrites be, which one applies, what comes of a header. No condition; nothing here speaks of the program. -/
import Derived.Test.YtgggmhaopcgkkaaGreatDoorFlL
namespace Go.Proofs.YtgggmhaopcgkkaaGreatDoor
open Go.RowKit
/-- A rewrite's three cells. -/
structure RewD where
  dest : Bool
  flt : ByteArray
  aim : Int
/-- A filter: its name, the slice of its rules, the rules. -/
structure FilD where
  nm : ByteArray
  v : Value
  l : List RuleD
def encW (r : RewD) : List Value := [.bool r.dest, .string r.flt, .int .u32 r.aim]
def encF (f : FilD) : List Value := [.string f.nm, f.v]
def sEq (a b : ByteArray) : Bool := a.toList == b.toList
theorem sEq_eq {a b : ByteArray} : sEq a b = true ↔ a.toList = b.toList := by simp [sEq]
/-- Filters in a slice: they read, and the rules of each do. -/
structure RdF (w : World) (v : Value) (fs : List FilD) : Prop where
  rd : RdK encF 2 w v fs
  ok : ∀ f ∈ fs, RdR w f.v f.l ∧ f.l.length * 64 ≤ 140737488351232
theorem RdF.below {w w' : World} {v : Value} {fs : List FilD} (h : RdF w v fs) (hb : Below w.heap.size w w') : RdF w' v fs := ⟨h.rd.below hb, fun f hf => ⟨(h.ok f hf).1.below hb, (h.ok f hf).2⟩⟩
/-- Any header. -/
def anyR : RuleD := ⟨true, -1, 0, 0, 0, 0, 0, 65535, 0, 65535⟩
/-- The first filter of a name. -/
def nmO (fs : List FilD) (s : ByteArray) : Option Nat := fs.findIdx? (fun f => sEq f.nm s)
/-- The rules of the first filter of a name. -/
def nmR (fs : List FilD) (s : ByteArray) : Option (List RuleD) := match nmO fs s with | some k => (fs[k]?).map (·.l) | none => none
theorem nmR_some {fs : List FilD} {s : ByteArray} {k : Nat} {f : FilD} (e : nmO fs s = some k) (hf : fs[k]? = some f) : nmR fs s = some f.l := by unfold nmR; rw [e]; simp [hf]
theorem nmR_none {fs : List FilD} {s : ByteArray} (e : nmO fs s = none) : nmR fs s = none := by unfold nmR; rw [e]
/-- The rules that a name stands for. -/
def rulesO (fs : List FilD) (s : ByteArray) : Option (List RuleD) := if sEq s ⟨#[]⟩ = true then some [anyR] else nmR fs s
def ckS (fs : List FilD) (s : ByteArray) : Int := match rulesO fs s with | some l => ckF l | none => 120
def ckWs (ws : List RewD) (fs : List FilD) : Int := if 256 < ws.length then 1 else match ws.find? (fun r => ckS fs r.flt != 0) with | some r => ckS fs r.flt | none => 0
def prmS (fs : List FilD) (s : ByteArray) (h : HdrD) : Bool := match rulesO fs s with | some l => prmB l h | none => false
def firO (ws : List RewD) (fs : List FilD) (d : Bool) (h : HdrD) : Option Nat := ws.findIdx? (fun r => (r.dest == d) && prmS fs r.flt h)
def firI (ws : List RewD) (fs : List FilD) (d : Bool) (h : HdrD) : Int := match firO ws fs d h with | some i => (i : Int) | none => -1
def appH (ws : List RewD) (fs : List FilD) (d : Bool) (h : HdrD) : HdrD := match firO ws fs d h with | some i => (match ws[i]? with | some r => if d then { h with dst := r.aim } else { h with src := r.aim } | none => h) | none => h
theorem nmO_some {fs : List FilD} {s : ByteArray} {k : Nat} {f : FilD} (hs : fs[k]? = some f) (hf : sEq f.nm s = true) (ha : ∀ (i : Nat) (f : FilD), i < k → fs[i]? = some f → sEq f.nm s = false) : nmO fs s = some k := by
  unfold nmO
  rw [List.findIdx?_eq_some_iff_getElem]
  obtain ⟨hk, e⟩ := List.getElem?_eq_some_iff.1 hs
  refine ⟨hk, by rw [e]; exact hf, fun j hj => ?_⟩
  have := ha j _ hj (List.getElem?_eq_getElem (by omega))
  rw [this]; simp
theorem nmO_none {fs : List FilD} {s : ByteArray} (ha : ∀ (i : Nat) (f : FilD), fs[i]? = some f → sEq f.nm s = false) : nmO fs s = none := by
  unfold nmO
  rw [List.findIdx?_eq_none_iff]
  intro f hf
  obtain ⟨i, hi, e⟩ := List.mem_iff_getElem.1 hf
  exact ha i f (by rw [List.getElem?_eq_getElem hi, e])
theorem nmO_at {fs : List FilD} {s : ByteArray} {k : Nat} (e : nmO fs s = some k) : ∃ f, fs[k]? = some f := by
  unfold nmO at e
  rw [List.findIdx?_eq_some_iff_getElem] at e
  obtain ⟨hk, _⟩ := e
  exact ⟨_, List.getElem?_eq_getElem hk⟩
theorem rulesO_empty {fs : List FilD} {s : ByteArray} (h : sEq s ⟨#[]⟩ = true) : rulesO fs s = some [anyR] := by unfold rulesO; rw [if_pos h]
theorem rulesO_some {fs : List FilD} {s : ByteArray} {k : Nat} {f : FilD} (h : sEq s ⟨#[]⟩ = false) (e : nmO fs s = some k) (hf : fs[k]? = some f) : rulesO fs s = some f.l := by
  unfold rulesO; rw [if_neg (by rw [h]; simp)]; exact nmR_some e hf
theorem rulesO_none {fs : List FilD} {s : ByteArray} (h : sEq s ⟨#[]⟩ = false) (e : nmO fs s = none) : rulesO fs s = none := by
  unfold rulesO; rw [if_neg (by rw [h]; simp)]; exact nmR_none e
theorem rulesO_same {fs : List FilD} {s t : ByteArray} (h : sEq s t = true) : rulesO fs s = rulesO fs t := by
  have e := sEq_eq.1 h
  have e1 : sEq s ⟨#[]⟩ = sEq t ⟨#[]⟩ := by unfold sEq; rw [e]
  have e2 : nmR fs s = nmR fs t := by unfold nmR nmO sEq; rw [e]
  unfold rulesO; rw [e1, e2]
theorem prmS_same {fs : List FilD} {s t : ByteArray} {h : HdrD} (e : sEq s t = true) : prmS fs s h = prmS fs t h := by unfold prmS; rw [rulesO_same e]
theorem any_ck : ckF [anyR] = 0 := by decide +kernel
theorem in_all (x : Int) (h0 : 0 ≤ x) (h1 : x < 4294967296) : inB x 0 0 = true := by
  rw [inB_ok x 0 0 (by decide +kernel), pw_0]
  simp; omega
theorem any_fit {h : HdrD} (hh : h.ok) : fitB anyR h = true := by
  have := hh.x0; have := hh.x1; have := hh.y0; have := hh.y1
  have e1 : piB h.sp 0 65535 = true := by unfold piB; simp; omega
  have e2 : piB h.dp 0 65535 = true := by unfold piB; simp; omega
  show (inB h.src 0 0 && (inB h.dst 0 0 && ((decide ((-1 : Int) = -1) || decide ((-1 : Int) = h.pr)) && (piB h.sp 0 65535 && piB h.dp 0 65535)))) = true
  rw [in_all _ hh.s0 hh.s1, in_all _ hh.d0 hh.d1, e1, e2]
  simp
theorem any_prm {h : HdrD} (hh : h.ok) : prmB [anyR] h = true := by
  have e : decO [anyR] h = some 0 := decO_some (s := anyR) rfl (any_fit hh) (fun i s hi _ => absurd hi (Nat.not_lt_zero _))
  rw [prmB_some (s := anyR) e rfl]; rfl
theorem any_ok : ∀ r ∈ [anyR], r.ok := by
  intro r hr
  simp at hr; subst hr
  exact ⟨by decide, by decide, by decide, by decide⟩
theorem RdR.slice {w : World} {v : Value} {l : List RuleD} (h : RdR w v l) : ∃ p c, v = .slice p l.length c := by
  obtain ⟨p, c, e, _⟩ := h.rd
  exact ⟨p, c, e⟩
end Go.Proofs.YtgggmhaopcgkkaaGreatDoor
