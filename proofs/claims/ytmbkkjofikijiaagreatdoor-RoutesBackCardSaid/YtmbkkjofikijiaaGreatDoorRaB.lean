/- The twelve orders of adverts, and inTurn's closure over them. Under the conditions that they name. -/
import Derived.Test.YtmbkkjofikijiaaGreatDoorRaG
namespace Go.Proofs.YtmbkkjofikijiaaGreatDoor
open Go.RowKit Go.Shelf
theorem ordA1 (r s : AdD) (w : World) (hr : RdA w r) (hs : RdA w s) : Calls Tryz.prog 80 #[.agg (encAd r).toArray, .agg (encAd s).toArray] w (CpP w (cP r.a r.b s.a s.b)) := by
  obtain ⟨xa, xb, xho, xpf, xme, xpa, xvpa, xco, xvco, xpe, xpi, xex, xog, xcl, xvcl, xse⟩ := r
  obtain ⟨ya, yb, yho, ypf, yme, ypa, yvpa, yco, yvco, ype, ypi, yex, yog, ycl, yvcl, yse⟩ := s
  simp only [encAd]
  go_enter Tryz.func80, Tryz.ntmps80
  go_wp2_with fail
  go_at_call 81
  refine (prefss _ _ _ _ _).mono ?_
  rintro e w' ⟨rfl, hb, hd⟩
  go_wp2
  go_ret
  exact ⟨rfl, Below.step (((Below.refl _ _).alloc (Nat.le_refl _) _).alloc (by simp) _) hb, hd⟩
theorem ordA2 (r s : AdD) (w : World) (hr : RdA w r) (hs : RdA w s) : Calls Tryz.prog 82 #[.agg (encAd r).toArray, .agg (encAd s).toArray] w (CpP w (cI r.se s.se)) := by
  obtain ⟨xa, xb, xho, xpf, xme, xpa, xvpa, xco, xvco, xpe, xpi, xex, xog, xcl, xvcl, xse⟩ := r
  obtain ⟨ya, yb, yho, ypf, yme, ypa, yvpa, yco, yvco, ype, ypi, yex, yog, ycl, yvcl, yse⟩ := s
  simp only [encAd]
  go_enter Tryz.func82, Tryz.ntmps82
  go_wp2_with fail
  go_at_call 83
  refine (cmpi _ _ _).mono ?_
  rintro e w' ⟨rfl, rfl⟩
  go_wp2
  go_ret
  exact ⟨rfl, ((Below.refl _ _).alloc (Nat.le_refl _) _).alloc (by simp) _, Nat.le_refl _⟩
theorem ordA3 (r s : AdD) (w : World) (hr : RdA w r) (hs : RdA w s) : Calls Tryz.prog 84 #[.agg (encAd r).toArray, .agg (encAd s).toArray] w (CpP w (cI r.pf s.pf)) := by
  obtain ⟨xa, xb, xho, xpf, xme, xpa, xvpa, xco, xvco, xpe, xpi, xex, xog, xcl, xvcl, xse⟩ := r
  obtain ⟨ya, yb, yho, ypf, yme, ypa, yvpa, yco, yvco, ype, ypi, yex, yog, ycl, yvcl, yse⟩ := s
  simp only [encAd]
  go_enter Tryz.func84, Tryz.ntmps84
  go_wp2_with fail
  go_at_call 83
  refine (cmpi _ _ _).mono ?_
  rintro e w' ⟨rfl, rfl⟩
  go_wp2
  go_ret
  exact ⟨rfl, ((Below.refl _ _).alloc (Nat.le_refl _) _).alloc (by simp) _, Nat.le_refl _⟩
theorem ordA4 (r s : AdD) (w : World) (hr : RdA w r) (hs : RdA w s) : Calls Tryz.prog 85 #[.agg (encAd r).toArray, .agg (encAd s).toArray] w (CpP w (cI r.me s.me)) := by
  obtain ⟨xa, xb, xho, xpf, xme, xpa, xvpa, xco, xvco, xpe, xpi, xex, xog, xcl, xvcl, xse⟩ := r
  obtain ⟨ya, yb, yho, ypf, yme, ypa, yvpa, yco, yvco, ype, ypi, yex, yog, ycl, yvcl, yse⟩ := s
  simp only [encAd]
  go_enter Tryz.func85, Tryz.ntmps85
  go_wp2_with fail
  go_at_call 83
  refine (cmpi _ _ _).mono ?_
  rintro e w' ⟨rfl, rfl⟩
  go_wp2
  go_ret
  exact ⟨rfl, ((Below.refl _ _).alloc (Nat.le_refl _) _).alloc (by simp) _, Nat.le_refl _⟩
theorem ordA5 (r s : AdD) (w : World) (hr : RdA w r) (hs : RdA w s) : Calls Tryz.prog 86 #[.agg (encAd r).toArray, .agg (encAd s).toArray] w (CpP w (cI r.ho s.ho)) := by
  obtain ⟨xa, xb, xho, xpf, xme, xpa, xvpa, xco, xvco, xpe, xpi, xex, xog, xcl, xvcl, xse⟩ := r
  obtain ⟨ya, yb, yho, ypf, yme, ypa, yvpa, yco, yvco, ype, ypi, yex, yog, ycl, yvcl, yse⟩ := s
  simp only [encAd]
  go_enter Tryz.func86, Tryz.ntmps86
  go_wp2_with fail
  go_at_call 87
  refine (cmpa _ _ _).mono ?_
  rintro e w' ⟨rfl, rfl⟩
  go_wp2
  go_ret
  exact ⟨rfl, ((Below.refl _ _).alloc (Nat.le_refl _) _).alloc (by simp) _, Nat.le_refl _⟩
theorem ordA6 (r s : AdD) (w : World) (hr : RdA w r) (hs : RdA w s) : Calls Tryz.prog 88 #[.agg (encAd r).toArray, .agg (encAd s).toArray] w (CpP w (cI r.pe s.pe)) := by
  obtain ⟨xa, xb, xho, xpf, xme, xpa, xvpa, xco, xvco, xpe, xpi, xex, xog, xcl, xvcl, xse⟩ := r
  obtain ⟨ya, yb, yho, ypf, yme, ypa, yvpa, yco, yvco, ype, ypi, yex, yog, ycl, yvcl, yse⟩ := s
  simp only [encAd]
  go_enter Tryz.func88, Tryz.ntmps88
  go_wp2_with fail
  go_at_call 87
  refine (cmpa _ _ _).mono ?_
  rintro e w' ⟨rfl, rfl⟩
  go_wp2
  go_ret
  exact ⟨rfl, ((Below.refl _ _).alloc (Nat.le_refl _) _).alloc (by simp) _, Nat.le_refl _⟩
theorem ordA7 (r s : AdD) (w : World) (hr : RdA w r) (hs : RdA w s) : Calls Tryz.prog 89 #[.agg (encAd r).toArray, .agg (encAd s).toArray] w (CpP w (cI r.pi s.pi)) := by
  obtain ⟨xa, xb, xho, xpf, xme, xpa, xvpa, xco, xvco, xpe, xpi, xex, xog, xcl, xvcl, xse⟩ := r
  obtain ⟨ya, yb, yho, ypf, yme, ypa, yvpa, yco, yvco, ype, ypi, yex, yog, ycl, yvcl, yse⟩ := s
  simp only [encAd]
  go_enter Tryz.func89, Tryz.ntmps89
  go_wp2_with fail
  go_at_call 87
  refine (cmpa _ _ _).mono ?_
  rintro e w' ⟨rfl, rfl⟩
  go_wp2
  go_ret
  exact ⟨rfl, ((Below.refl _ _).alloc (Nat.le_refl _) _).alloc (by simp) _, Nat.le_refl _⟩
theorem ordA8 (r s : AdD) (w : World) (hr : RdA w r) (hs : RdA w s) : Calls Tryz.prog 90 #[.agg (encAd r).toArray, .agg (encAd s).toArray] w (CpP w (cB r.ex s.ex)) := by
  obtain ⟨xa, xb, xho, xpf, xme, xpa, xvpa, xco, xvco, xpe, xpi, xex, xog, xcl, xvcl, xse⟩ := r
  obtain ⟨ya, yb, yho, ypf, yme, ypa, yvpa, yco, yvco, ype, ypi, yex, yog, ycl, yvcl, yse⟩ := s
  simp only [encAd]
  go_enter Tryz.func90, Tryz.ntmps90
  go_wp2_with fail
  go_at_call 91
  refine (flags _ _ _).mono ?_
  rintro e w' ⟨rfl, rfl⟩
  go_wp2
  go_ret
  exact ⟨rfl, ((Below.refl _ _).alloc (Nat.le_refl _) _).alloc (by simp) _, Nat.le_refl _⟩
theorem ordA9 (r s : AdD) (w : World) (hr : RdA w r) (hs : RdA w s) : Calls Tryz.prog 92 #[.agg (encAd r).toArray, .agg (encAd s).toArray] w (CpP w (cI r.og s.og)) := by
  obtain ⟨xa, xb, xho, xpf, xme, xpa, xvpa, xco, xvco, xpe, xpi, xex, xog, xcl, xvcl, xse⟩ := r
  obtain ⟨ya, yb, yho, ypf, yme, ypa, yvpa, yco, yvco, ype, ypi, yex, yog, ycl, yvcl, yse⟩ := s
  simp only [encAd]
  go_enter Tryz.func92, Tryz.ntmps92
  go_wp2_with fail
  go_at_call 87
  refine (cmpa _ _ _).mono ?_
  rintro e w' ⟨rfl, rfl⟩
  go_wp2
  go_ret
  exact ⟨rfl, ((Below.refl _ _).alloc (Nat.le_refl _) _).alloc (by simp) _, Nat.le_refl _⟩
theorem ordA10 (r s : AdD) (w : World) (hr : RdA w r) (hs : RdA w s) : Calls Tryz.prog 93 #[.agg (encAd r).toArray, .agg (encAd s).toArray] w (CpP w (cN r.pa s.pa)) := by
  obtain ⟨xa, xb, xho, xpf, xme, xpa, xvpa, xco, xvco, xpe, xpi, xex, xog, xcl, xvcl, xse⟩ := r
  obtain ⟨ya, yb, yho, ypf, yme, ypa, yvpa, yco, yvco, ype, ypi, yex, yog, ycl, yvcl, yse⟩ := s
  simp only [encAd]
  go_enter Tryz.func93, Tryz.ntmps93
  go_wp2_with fail
  go_at_call 94
  refine (nums32 _ _ _ _ _ (hr.on (((Below.refl _ _).alloc (Nat.le_refl _) _).alloc (by simp) _)).1 (hs.on (((Below.refl _ _).alloc (Nat.le_refl _) _).alloc (by simp) _)).1).mono ?_
  rintro e w' ⟨rfl, hb, hd⟩
  go_wp2
  go_ret
  exact ⟨rfl, Below.step (((Below.refl _ _).alloc (Nat.le_refl _) _).alloc (by simp) _) hb, hd⟩
theorem ordA11 (r s : AdD) (w : World) (hr : RdA w r) (hs : RdA w s) : Calls Tryz.prog 95 #[.agg (encAd r).toArray, .agg (encAd s).toArray] w (CpP w (cN r.co s.co)) := by
  obtain ⟨xa, xb, xho, xpf, xme, xpa, xvpa, xco, xvco, xpe, xpi, xex, xog, xcl, xvcl, xse⟩ := r
  obtain ⟨ya, yb, yho, ypf, yme, ypa, yvpa, yco, yvco, ype, ypi, yex, yog, ycl, yvcl, yse⟩ := s
  simp only [encAd]
  go_enter Tryz.func95, Tryz.ntmps95
  go_wp2_with fail
  go_at_call 94
  refine (nums32 _ _ _ _ _ (hr.on (((Below.refl _ _).alloc (Nat.le_refl _) _).alloc (by simp) _)).2.1 (hs.on (((Below.refl _ _).alloc (Nat.le_refl _) _).alloc (by simp) _)).2.1).mono ?_
  rintro e w' ⟨rfl, hb, hd⟩
  go_wp2
  go_ret
  exact ⟨rfl, Below.step (((Below.refl _ _).alloc (Nat.le_refl _) _).alloc (by simp) _) hb, hd⟩
theorem ordA12 (r s : AdD) (w : World) (hr : RdA w r) (hs : RdA w s) : Calls Tryz.prog 96 #[.agg (encAd r).toArray, .agg (encAd s).toArray] w (CpP w (cN r.cl s.cl)) := by
  obtain ⟨xa, xb, xho, xpf, xme, xpa, xvpa, xco, xvco, xpe, xpi, xex, xog, xcl, xvcl, xse⟩ := r
  obtain ⟨ya, yb, yho, ypf, yme, ypa, yvpa, yco, yvco, ype, ypi, yex, yog, ycl, yvcl, yse⟩ := s
  simp only [encAd]
  go_enter Tryz.func96, Tryz.ntmps96
  go_wp2_with fail
  go_at_call 97
  refine (numsA _ _ _ _ _ (hr.on (((Below.refl _ _).alloc (Nat.le_refl _) _).alloc (by simp) _)).2.2 (hs.on (((Below.refl _ _).alloc (Nat.le_refl _) _).alloc (by simp) _)).2.2).mono ?_
  rintro e w' ⟨rfl, hb, hd⟩
  go_wp2
  go_ret
  exact ⟨rfl, Below.step (((Below.refl _ _).alloc (Nat.le_refl _) _).alloc (by simp) _) hb, hd⟩
/-- Where the twelve orders stand. -/
def OrdB (W : World) (q h : Nat) : Prop := q < W.heap.size ∧ h < W.heap.size ∧ W.cell? ⟨q, 0, none⟩ = some (.slice (some ⟨h, 0, none⟩) 12 12) ∧ W.cell? ⟨h, 0, none⟩ = some (.func (.func 80) #[] #[]) ∧ W.cell? ⟨h, 1, none⟩ = some (.func (.func 82) #[] #[]) ∧ W.cell? ⟨h, 2, none⟩ = some (.func (.func 84) #[] #[]) ∧ W.cell? ⟨h, 3, none⟩ = some (.func (.func 85) #[] #[]) ∧ W.cell? ⟨h, 4, none⟩ = some (.func (.func 86) #[] #[]) ∧ W.cell? ⟨h, 5, none⟩ = some (.func (.func 88) #[] #[]) ∧ W.cell? ⟨h, 6, none⟩ = some (.func (.func 89) #[] #[]) ∧ W.cell? ⟨h, 7, none⟩ = some (.func (.func 90) #[] #[]) ∧ W.cell? ⟨h, 8, none⟩ = some (.func (.func 92) #[] #[]) ∧ W.cell? ⟨h, 9, none⟩ = some (.func (.func 93) #[] #[]) ∧ W.cell? ⟨h, 10, none⟩ = some (.func (.func 95) #[] #[]) ∧ W.cell? ⟨h, 11, none⟩ = some (.func (.func 96) #[] #[])
theorem OrdB.on {W W' : World} {q h : Nat} (h0 : OrdB W q h) (hb : Below W.heap.size W W') : OrdB W' q h := by
  obtain ⟨h1, h2, c0, c1, c2, c3, c4, c5, c6, c7, c8, c9, c10, c11, c12⟩ := h0
  have := hb.size
  refine ⟨by omega, by omega, (hb.cell (p := ⟨q, 0, none⟩) h1).trans c0, (hb.cell (p := ⟨h, 0, none⟩) h2).trans c1, (hb.cell (p := ⟨h, 1, none⟩) h2).trans c2, (hb.cell (p := ⟨h, 2, none⟩) h2).trans c3, (hb.cell (p := ⟨h, 3, none⟩) h2).trans c4, (hb.cell (p := ⟨h, 4, none⟩) h2).trans c5, (hb.cell (p := ⟨h, 5, none⟩) h2).trans c6, (hb.cell (p := ⟨h, 6, none⟩) h2).trans c7, (hb.cell (p := ⟨h, 7, none⟩) h2).trans c8, (hb.cell (p := ⟨h, 8, none⟩) h2).trans c9, (hb.cell (p := ⟨h, 9, none⟩) h2).trans c10, (hb.cell (p := ⟨h, 10, none⟩) h2).trans c11, (hb.cell (p := ⟨h, 11, none⟩) h2).trans c12⟩
set_option maxRecDepth 100000 in
set_option maxHeartbeats 16000000 in
theorem turnB (r s : AdD) (w : World) (q h : Nat) (ho : OrdB w q h) (hr : RdA w r) (hs : RdA w s) : Calls Tryz.prog 132 #[.agg (encAd r).toArray, .agg (encAd s).toArray, .pointer (some ⟨q, 0, none⟩)] w (CpP w (cA r s)) := by
  have eg0 : ∀ args w, (callFunc 80 args).run Tryz.prog w = .ok (.enter 80 args) w := enters_of Tryz.func80 (by kernel_rfl) rfl
  have eg1 : ∀ args w, (callFunc 82 args).run Tryz.prog w = .ok (.enter 82 args) w := enters_of Tryz.func82 (by kernel_rfl) rfl
  have eg2 : ∀ args w, (callFunc 84 args).run Tryz.prog w = .ok (.enter 84 args) w := enters_of Tryz.func84 (by kernel_rfl) rfl
  have eg3 : ∀ args w, (callFunc 85 args).run Tryz.prog w = .ok (.enter 85 args) w := enters_of Tryz.func85 (by kernel_rfl) rfl
  have eg4 : ∀ args w, (callFunc 86 args).run Tryz.prog w = .ok (.enter 86 args) w := enters_of Tryz.func86 (by kernel_rfl) rfl
  have eg5 : ∀ args w, (callFunc 88 args).run Tryz.prog w = .ok (.enter 88 args) w := enters_of Tryz.func88 (by kernel_rfl) rfl
  have eg6 : ∀ args w, (callFunc 89 args).run Tryz.prog w = .ok (.enter 89 args) w := enters_of Tryz.func89 (by kernel_rfl) rfl
  have eg7 : ∀ args w, (callFunc 90 args).run Tryz.prog w = .ok (.enter 90 args) w := enters_of Tryz.func90 (by kernel_rfl) rfl
  have eg8 : ∀ args w, (callFunc 92 args).run Tryz.prog w = .ok (.enter 92 args) w := enters_of Tryz.func92 (by kernel_rfl) rfl
  have eg9 : ∀ args w, (callFunc 93 args).run Tryz.prog w = .ok (.enter 93 args) w := enters_of Tryz.func93 (by kernel_rfl) rfl
  have eg10 : ∀ args w, (callFunc 95 args).run Tryz.prog w = .ok (.enter 95 args) w := enters_of Tryz.func95 (by kernel_rfl) rfl
  have eg11 : ∀ args w, (callFunc 96 args).run Tryz.prog w = .ok (.enter 96 args) w := enters_of Tryz.func96 (by kernel_rfl) rfl
  have HRS : Hid (∀ W, Below w.heap.size w W → RdA W r ∧ RdA W s) := Lib.hid fun W hb => ⟨hr.on hb, hs.on hb⟩
  have H0 : Hid (∀ W, Below w.heap.size w W → Calls Tryz.prog 80 #[.agg (encAd r).toArray, .agg (encAd s).toArray] W (CpP W (cP r.a r.b s.a s.b))) := Lib.hid fun W hb => ordA1 r s W (HRS.out W hb).1 (HRS.out W hb).2
  have H1 : Hid (∀ W, Below w.heap.size w W → Calls Tryz.prog 82 #[.agg (encAd r).toArray, .agg (encAd s).toArray] W (CpP W (cI r.se s.se))) := Lib.hid fun W hb => ordA2 r s W (HRS.out W hb).1 (HRS.out W hb).2
  have H2 : Hid (∀ W, Below w.heap.size w W → Calls Tryz.prog 84 #[.agg (encAd r).toArray, .agg (encAd s).toArray] W (CpP W (cI r.pf s.pf))) := Lib.hid fun W hb => ordA3 r s W (HRS.out W hb).1 (HRS.out W hb).2
  have H3 : Hid (∀ W, Below w.heap.size w W → Calls Tryz.prog 85 #[.agg (encAd r).toArray, .agg (encAd s).toArray] W (CpP W (cI r.me s.me))) := Lib.hid fun W hb => ordA4 r s W (HRS.out W hb).1 (HRS.out W hb).2
  have H4 : Hid (∀ W, Below w.heap.size w W → Calls Tryz.prog 86 #[.agg (encAd r).toArray, .agg (encAd s).toArray] W (CpP W (cI r.ho s.ho))) := Lib.hid fun W hb => ordA5 r s W (HRS.out W hb).1 (HRS.out W hb).2
  have H5 : Hid (∀ W, Below w.heap.size w W → Calls Tryz.prog 88 #[.agg (encAd r).toArray, .agg (encAd s).toArray] W (CpP W (cI r.pe s.pe))) := Lib.hid fun W hb => ordA6 r s W (HRS.out W hb).1 (HRS.out W hb).2
  have H6 : Hid (∀ W, Below w.heap.size w W → Calls Tryz.prog 89 #[.agg (encAd r).toArray, .agg (encAd s).toArray] W (CpP W (cI r.pi s.pi))) := Lib.hid fun W hb => ordA7 r s W (HRS.out W hb).1 (HRS.out W hb).2
  have H7 : Hid (∀ W, Below w.heap.size w W → Calls Tryz.prog 90 #[.agg (encAd r).toArray, .agg (encAd s).toArray] W (CpP W (cB r.ex s.ex))) := Lib.hid fun W hb => ordA8 r s W (HRS.out W hb).1 (HRS.out W hb).2
  have H8 : Hid (∀ W, Below w.heap.size w W → Calls Tryz.prog 92 #[.agg (encAd r).toArray, .agg (encAd s).toArray] W (CpP W (cI r.og s.og))) := Lib.hid fun W hb => ordA9 r s W (HRS.out W hb).1 (HRS.out W hb).2
  have H9 : Hid (∀ W, Below w.heap.size w W → Calls Tryz.prog 93 #[.agg (encAd r).toArray, .agg (encAd s).toArray] W (CpP W (cN r.pa s.pa))) := Lib.hid fun W hb => ordA10 r s W (HRS.out W hb).1 (HRS.out W hb).2
  have H10 : Hid (∀ W, Below w.heap.size w W → Calls Tryz.prog 95 #[.agg (encAd r).toArray, .agg (encAd s).toArray] W (CpP W (cN r.co s.co))) := Lib.hid fun W hb => ordA11 r s W (HRS.out W hb).1 (HRS.out W hb).2
  have H11 : Hid (∀ W, Below w.heap.size w W → Calls Tryz.prog 96 #[.agg (encAd r).toArray, .agg (encAd s).toArray] W (CpP W (cN r.cl s.cl))) := Lib.hid fun W hb => ordA12 r s W (HRS.out W hb).1 (HRS.out W hb).2
  have HV : Hid (cA r s = fst0 (ordsA r s)) := Lib.hid rfl
  clear hr hs
  obtain ⟨xa, xb, xho, xpf, xme, xpa, xvpa, xco, xvco, xpe, xpi, xex, xog, xcl, xvcl, xse⟩ := r
  obtain ⟨ya, yb, yho, ypf, yme, ypa, yvpa, yco, yvco, ype, ypi, yex, yog, ycl, yvcl, yse⟩ := s
  simp only [encAd, ordsA] at *
  obtain ⟨v, hv⟩ : ∃ v, cA ⟨xa, xb, xho, xpf, xme, xpa, xvpa, xco, xvco, xpe, xpi, xex, xog, xcl, xvcl, xse⟩ ⟨ya, yb, yho, ypf, yme, ypa, yvpa, yco, yvco, ype, ypi, yex, yog, ycl, yvcl, yse⟩ = v := ⟨_, rfl⟩
  rw [hv] at HV ⊢
  clear hv
  obtain ⟨d0, hd0⟩ : ∃ x, cP xa xb ya yb = x := ⟨_, rfl⟩
  rw [hd0] at H0 HV
  clear hd0
  obtain ⟨d1, hd1⟩ : ∃ x, cI xse yse = x := ⟨_, rfl⟩
  rw [hd1] at H1 HV
  clear hd1
  obtain ⟨d2, hd2⟩ : ∃ x, cI xpf ypf = x := ⟨_, rfl⟩
  rw [hd2] at H2 HV
  clear hd2
  obtain ⟨d3, hd3⟩ : ∃ x, cI xme yme = x := ⟨_, rfl⟩
  rw [hd3] at H3 HV
  clear hd3
  obtain ⟨d4, hd4⟩ : ∃ x, cI xho yho = x := ⟨_, rfl⟩
  rw [hd4] at H4 HV
  clear hd4
  obtain ⟨d5, hd5⟩ : ∃ x, cI xpe ype = x := ⟨_, rfl⟩
  rw [hd5] at H5 HV
  clear hd5
  obtain ⟨d6, hd6⟩ : ∃ x, cI xpi ypi = x := ⟨_, rfl⟩
  rw [hd6] at H6 HV
  clear hd6
  obtain ⟨d7, hd7⟩ : ∃ x, cB xex yex = x := ⟨_, rfl⟩
  rw [hd7] at H7 HV
  clear hd7
  obtain ⟨d8, hd8⟩ : ∃ x, cI xog yog = x := ⟨_, rfl⟩
  rw [hd8] at H8 HV
  clear hd8
  obtain ⟨d9, hd9⟩ : ∃ x, cN xpa ypa = x := ⟨_, rfl⟩
  rw [hd9] at H9 HV
  clear hd9
  obtain ⟨d10, hd10⟩ : ∃ x, cN xco yco = x := ⟨_, rfl⟩
  rw [hd10] at H10 HV
  clear hd10
  obtain ⟨d11, hd11⟩ : ∃ x, cN xcl ycl = x := ⟨_, rfl⟩
  rw [hd11] at H11 HV
  clear hd11
  obtain ⟨Z, hZ⟩ : ∃ X, (w.alloc (.cells #[.int .u32 xa, .int .i64 xb, .int .u32 xho, .int .i64 xpf, .int .i64 xme, xvpa, xvco, .int .u32 xpe, .int .u32 xpi, .bool xex, .int .u32 xog, xvcl, .int .i64 xse] 31)).alloc (.cells #[.int .u32 ya, .int .i64 yb, .int .u32 yho, .int .i64 ypf, .int .i64 yme, yvpa, yvco, .int .u32 ype, .int .u32 ypi, .bool yex, .int .u32 yog, yvcl, .int .i64 yse] 31) = X := ⟨_, rfl⟩
  have HBZ : Hid (Below w.heap.size w Z ∧ w.drawn ≤ Z.drawn) := Lib.hid (by rw [← hZ]; exact ⟨((Below.refl _ _).alloc (Nat.le_refl _) _).alloc (by simp) _, Nat.le_refl _⟩)
  have hz : Z.heap.size = w.heap.size + 2 := by rw [← hZ]; simp
  have z1 : Z.heap[w.heap.size]? = some (.cells #[.int .u32 xa, .int .i64 xb, .int .u32 xho, .int .i64 xpf, .int .i64 xme, xvpa, xvco, .int .u32 xpe, .int .u32 xpi, .bool xex, .int .u32 xog, xvcl, .int .i64 xse] 31 (0, 0)) := by rw [← hZ, heap_old' _ _ _ (by simp)]; exact heap_new' _ _
  have z2 : Z.heap[w.heap.size + 1]? = some (.cells #[.int .u32 ya, .int .i64 yb, .int .u32 yho, .int .i64 ypf, .int .i64 yme, yvpa, yvco, .int .u32 ype, .int .u32 ypi, .bool yex, .int .u32 yog, yvcl, .int .i64 yse] 31 (0, 0)) := by rw [← hZ]; have := heap_new' (w.alloc (.cells #[.int .u32 xa, .int .i64 xb, .int .u32 xho, .int .i64 xpf, .int .i64 xme, xvpa, xvco, .int .u32 xpe, .int .u32 xpi, .bool xex, .int .u32 xog, xvcl, .int .i64 xse] 31)) (.cells #[.int .u32 ya, .int .i64 yb, .int .u32 yho, .int .i64 ypf, .int .i64 yme, yvpa, yvco, .int .u32 ype, .int .u32 ypi, .bool yex, .int .u32 yog, yvcl, .int .i64 yse] 31); simpa using this
  have HX : Hid (∀ W, Below Z.heap.size Z W → W.cell? ⟨w.heap.size, 0, none⟩ = some (.int .u32 xa) ∧ W.cell? ⟨w.heap.size, 1, none⟩ = some (.int .i64 xb) ∧ W.cell? ⟨w.heap.size, 2, none⟩ = some (.int .u32 xho) ∧ W.cell? ⟨w.heap.size, 3, none⟩ = some (.int .i64 xpf) ∧ W.cell? ⟨w.heap.size, 4, none⟩ = some (.int .i64 xme) ∧ W.cell? ⟨w.heap.size, 5, none⟩ = some (xvpa) ∧ W.cell? ⟨w.heap.size, 6, none⟩ = some (xvco) ∧ W.cell? ⟨w.heap.size, 7, none⟩ = some (.int .u32 xpe) ∧ W.cell? ⟨w.heap.size, 8, none⟩ = some (.int .u32 xpi) ∧ W.cell? ⟨w.heap.size, 9, none⟩ = some (.bool xex) ∧ W.cell? ⟨w.heap.size, 10, none⟩ = some (.int .u32 xog) ∧ W.cell? ⟨w.heap.size, 11, none⟩ = some (xvcl) ∧ W.cell? ⟨w.heap.size, 12, none⟩ = some (.int .i64 xse) ∧ W.cell? ⟨w.heap.size + 1, 0, none⟩ = some (.int .u32 ya) ∧ W.cell? ⟨w.heap.size + 1, 1, none⟩ = some (.int .i64 yb) ∧ W.cell? ⟨w.heap.size + 1, 2, none⟩ = some (.int .u32 yho) ∧ W.cell? ⟨w.heap.size + 1, 3, none⟩ = some (.int .i64 ypf) ∧ W.cell? ⟨w.heap.size + 1, 4, none⟩ = some (.int .i64 yme) ∧ W.cell? ⟨w.heap.size + 1, 5, none⟩ = some (yvpa) ∧ W.cell? ⟨w.heap.size + 1, 6, none⟩ = some (yvco) ∧ W.cell? ⟨w.heap.size + 1, 7, none⟩ = some (.int .u32 ype) ∧ W.cell? ⟨w.heap.size + 1, 8, none⟩ = some (.int .u32 ypi) ∧ W.cell? ⟨w.heap.size + 1, 9, none⟩ = some (.bool yex) ∧ W.cell? ⟨w.heap.size + 1, 10, none⟩ = some (.int .u32 yog) ∧ W.cell? ⟨w.heap.size + 1, 11, none⟩ = some (yvcl) ∧ W.cell? ⟨w.heap.size + 1, 12, none⟩ = some (.int .i64 yse)) := Lib.hid fun W hb => by
    have e1 := (hb.block w.heap.size (by omega)).trans z1
    have e2 := (hb.block (w.heap.size + 1) (by omega)).trans z2
    refine ⟨?_, ?_, ?_, ?_, ?_, ?_, ?_, ?_, ?_, ?_, ?_, ?_, ?_, ?_, ?_, ?_, ?_, ?_, ?_, ?_, ?_, ?_, ?_, ?_, ?_, ?_⟩ <;> first | (simp only [World.cell?, e1]; rfl) | (simp only [World.cell?, e2]; rfl)
  have HY : Hid (∀ W, Below Z.heap.size Z W → OrdB W q h) := Lib.hid fun W hb => (‹OrdB w q h›.on HBZ.out.1).on hb
  clear z1 z2 hz
  obtain ⟨z0, z1, z2, z3, z4, z5, z6, z7, z8, z9, z10, z11, z12, z13, z14, z15, z16, z17, z18, z19, z20, z21, z22, z23, z24, z25⟩ := HX.out Z (Below.refl _ _)
  obtain ⟨_, _, c0, c1, c2, c3, c4, c5, c6, c7, c8, c9, c10, c11, c12⟩ := HY.out Z (Below.refl _ _)
  go_enter Tryz.func132, Tryz.ntmps132
  go_wp2_with fail
  refine wp_loop_rounds 13 ?_
  have hb0 : Below Z.heap.size Z Z := Below.refl _ _
  have HB0 : Hid (Below Z.heap.size Z Z ∧ Z.drawn ≤ Z.drawn) := Lib.hid ⟨hb0, Nat.le_refl _⟩
  clear hb0
  rw [rounds_succ]
  go_wp2_with fail
  refine (H0.out _ (HBZ.out.1.trans (HB0.out.1.mono HBZ.out.1.size))).mono ?_
  rintro e w1 ⟨rfl, hb1, hd1⟩
  have HB1 : Hid (Below Z.heap.size Z w1 ∧ Z.drawn ≤ w1.drawn) := Lib.hid ⟨Below.step HB0.out.1 hb1, Nat.le_trans HB0.out.2 hd1⟩
  clear hd1 hb1 z0 z1 z2 z3 z4 z5 z6 z7 z8 z9 z10 z11 z12 z13 z14 z15 z16 z17 z18 z19 z20 z21 z22 z23 z24 z25 c0 c1 c2 c3 c4 c5 c6 c7 c8 c9 c10 c11 c12
  obtain ⟨z0, z1, z2, z3, z4, z5, z6, z7, z8, z9, z10, z11, z12, z13, z14, z15, z16, z17, z18, z19, z20, z21, z22, z23, z24, z25⟩ := HX.out w1 HB1.out.1
  obtain ⟨_, _, c0, c1, c2, c3, c4, c5, c6, c7, c8, c9, c10, c11, c12⟩ := HY.out w1 HB1.out.1
  by_cases h0 : d0 = 0
  case neg =>
    have e1 : (d0 != 0) = true := by simpa using h0
    have e2 : (d0 == 0) = false := by simpa using h0
    have hv : v = d0 := by rw [HV.out]; simp [fst0, *]
    subst hv
    go_wp2_with fail
    go_ret
    exact ⟨rfl, HBZ.out.1.trans (HB1.out.1.mono HBZ.out.1.size), Nat.le_trans HBZ.out.2 HB1.out.2⟩
  subst h0
  go_wp2_with fail
  rw [rounds_succ]
  go_wp2_with fail
  refine (H1.out _ (HBZ.out.1.trans (HB1.out.1.mono HBZ.out.1.size))).mono ?_
  rintro e w2 ⟨rfl, hb2, hd2⟩
  have HB2 : Hid (Below Z.heap.size Z w2 ∧ Z.drawn ≤ w2.drawn) := Lib.hid ⟨Below.step HB1.out.1 hb2, Nat.le_trans HB1.out.2 hd2⟩
  clear hd2 hb2 z0 z1 z2 z3 z4 z5 z6 z7 z8 z9 z10 z11 z12 z13 z14 z15 z16 z17 z18 z19 z20 z21 z22 z23 z24 z25 c0 c1 c2 c3 c4 c5 c6 c7 c8 c9 c10 c11 c12
  obtain ⟨z0, z1, z2, z3, z4, z5, z6, z7, z8, z9, z10, z11, z12, z13, z14, z15, z16, z17, z18, z19, z20, z21, z22, z23, z24, z25⟩ := HX.out w2 HB2.out.1
  obtain ⟨_, _, c0, c1, c2, c3, c4, c5, c6, c7, c8, c9, c10, c11, c12⟩ := HY.out w2 HB2.out.1
  by_cases h1 : d1 = 0
  case neg =>
    have e1 : (d1 != 0) = true := by simpa using h1
    have e2 : (d1 == 0) = false := by simpa using h1
    have hv : v = d1 := by rw [HV.out]; simp [fst0, *]
    subst hv
    go_wp2_with fail
    go_ret
    exact ⟨rfl, HBZ.out.1.trans (HB2.out.1.mono HBZ.out.1.size), Nat.le_trans HBZ.out.2 HB2.out.2⟩
  subst h1
  go_wp2_with fail
  rw [rounds_succ]
  go_wp2_with fail
  refine (H2.out _ (HBZ.out.1.trans (HB2.out.1.mono HBZ.out.1.size))).mono ?_
  rintro e w3 ⟨rfl, hb3, hd3⟩
  have HB3 : Hid (Below Z.heap.size Z w3 ∧ Z.drawn ≤ w3.drawn) := Lib.hid ⟨Below.step HB2.out.1 hb3, Nat.le_trans HB2.out.2 hd3⟩
  clear hd3 hb3 z0 z1 z2 z3 z4 z5 z6 z7 z8 z9 z10 z11 z12 z13 z14 z15 z16 z17 z18 z19 z20 z21 z22 z23 z24 z25 c0 c1 c2 c3 c4 c5 c6 c7 c8 c9 c10 c11 c12
  obtain ⟨z0, z1, z2, z3, z4, z5, z6, z7, z8, z9, z10, z11, z12, z13, z14, z15, z16, z17, z18, z19, z20, z21, z22, z23, z24, z25⟩ := HX.out w3 HB3.out.1
  obtain ⟨_, _, c0, c1, c2, c3, c4, c5, c6, c7, c8, c9, c10, c11, c12⟩ := HY.out w3 HB3.out.1
  by_cases h2 : d2 = 0
  case neg =>
    have e1 : (d2 != 0) = true := by simpa using h2
    have e2 : (d2 == 0) = false := by simpa using h2
    have hv : v = d2 := by rw [HV.out]; simp [fst0, *]
    subst hv
    go_wp2_with fail
    go_ret
    exact ⟨rfl, HBZ.out.1.trans (HB3.out.1.mono HBZ.out.1.size), Nat.le_trans HBZ.out.2 HB3.out.2⟩
  subst h2
  go_wp2_with fail
  rw [rounds_succ]
  go_wp2_with fail
  refine (H3.out _ (HBZ.out.1.trans (HB3.out.1.mono HBZ.out.1.size))).mono ?_
  rintro e w4 ⟨rfl, hb4, hd4⟩
  have HB4 : Hid (Below Z.heap.size Z w4 ∧ Z.drawn ≤ w4.drawn) := Lib.hid ⟨Below.step HB3.out.1 hb4, Nat.le_trans HB3.out.2 hd4⟩
  clear hd4 hb4 z0 z1 z2 z3 z4 z5 z6 z7 z8 z9 z10 z11 z12 z13 z14 z15 z16 z17 z18 z19 z20 z21 z22 z23 z24 z25 c0 c1 c2 c3 c4 c5 c6 c7 c8 c9 c10 c11 c12
  obtain ⟨z0, z1, z2, z3, z4, z5, z6, z7, z8, z9, z10, z11, z12, z13, z14, z15, z16, z17, z18, z19, z20, z21, z22, z23, z24, z25⟩ := HX.out w4 HB4.out.1
  obtain ⟨_, _, c0, c1, c2, c3, c4, c5, c6, c7, c8, c9, c10, c11, c12⟩ := HY.out w4 HB4.out.1
  by_cases h3 : d3 = 0
  case neg =>
    have e1 : (d3 != 0) = true := by simpa using h3
    have e2 : (d3 == 0) = false := by simpa using h3
    have hv : v = d3 := by rw [HV.out]; simp [fst0, *]
    subst hv
    go_wp2_with fail
    go_ret
    exact ⟨rfl, HBZ.out.1.trans (HB4.out.1.mono HBZ.out.1.size), Nat.le_trans HBZ.out.2 HB4.out.2⟩
  subst h3
  go_wp2_with fail
  rw [rounds_succ]
  go_wp2_with fail
  refine (H4.out _ (HBZ.out.1.trans (HB4.out.1.mono HBZ.out.1.size))).mono ?_
  rintro e w5 ⟨rfl, hb5, hd5⟩
  have HB5 : Hid (Below Z.heap.size Z w5 ∧ Z.drawn ≤ w5.drawn) := Lib.hid ⟨Below.step HB4.out.1 hb5, Nat.le_trans HB4.out.2 hd5⟩
  clear hd5 hb5 z0 z1 z2 z3 z4 z5 z6 z7 z8 z9 z10 z11 z12 z13 z14 z15 z16 z17 z18 z19 z20 z21 z22 z23 z24 z25 c0 c1 c2 c3 c4 c5 c6 c7 c8 c9 c10 c11 c12
  obtain ⟨z0, z1, z2, z3, z4, z5, z6, z7, z8, z9, z10, z11, z12, z13, z14, z15, z16, z17, z18, z19, z20, z21, z22, z23, z24, z25⟩ := HX.out w5 HB5.out.1
  obtain ⟨_, _, c0, c1, c2, c3, c4, c5, c6, c7, c8, c9, c10, c11, c12⟩ := HY.out w5 HB5.out.1
  by_cases h4 : d4 = 0
  case neg =>
    have e1 : (d4 != 0) = true := by simpa using h4
    have e2 : (d4 == 0) = false := by simpa using h4
    have hv : v = d4 := by rw [HV.out]; simp [fst0, *]
    subst hv
    go_wp2_with fail
    go_ret
    exact ⟨rfl, HBZ.out.1.trans (HB5.out.1.mono HBZ.out.1.size), Nat.le_trans HBZ.out.2 HB5.out.2⟩
  subst h4
  go_wp2_with fail
  rw [rounds_succ]
  go_wp2_with fail
  refine (H5.out _ (HBZ.out.1.trans (HB5.out.1.mono HBZ.out.1.size))).mono ?_
  rintro e w6 ⟨rfl, hb6, hd6⟩
  have HB6 : Hid (Below Z.heap.size Z w6 ∧ Z.drawn ≤ w6.drawn) := Lib.hid ⟨Below.step HB5.out.1 hb6, Nat.le_trans HB5.out.2 hd6⟩
  clear hd6 hb6 z0 z1 z2 z3 z4 z5 z6 z7 z8 z9 z10 z11 z12 z13 z14 z15 z16 z17 z18 z19 z20 z21 z22 z23 z24 z25 c0 c1 c2 c3 c4 c5 c6 c7 c8 c9 c10 c11 c12
  obtain ⟨z0, z1, z2, z3, z4, z5, z6, z7, z8, z9, z10, z11, z12, z13, z14, z15, z16, z17, z18, z19, z20, z21, z22, z23, z24, z25⟩ := HX.out w6 HB6.out.1
  obtain ⟨_, _, c0, c1, c2, c3, c4, c5, c6, c7, c8, c9, c10, c11, c12⟩ := HY.out w6 HB6.out.1
  by_cases h5 : d5 = 0
  case neg =>
    have e1 : (d5 != 0) = true := by simpa using h5
    have e2 : (d5 == 0) = false := by simpa using h5
    have hv : v = d5 := by rw [HV.out]; simp [fst0, *]
    subst hv
    go_wp2_with fail
    go_ret
    exact ⟨rfl, HBZ.out.1.trans (HB6.out.1.mono HBZ.out.1.size), Nat.le_trans HBZ.out.2 HB6.out.2⟩
  subst h5
  go_wp2_with fail
  rw [rounds_succ]
  go_wp2_with fail
  refine (H6.out _ (HBZ.out.1.trans (HB6.out.1.mono HBZ.out.1.size))).mono ?_
  rintro e w7 ⟨rfl, hb7, hd7⟩
  have HB7 : Hid (Below Z.heap.size Z w7 ∧ Z.drawn ≤ w7.drawn) := Lib.hid ⟨Below.step HB6.out.1 hb7, Nat.le_trans HB6.out.2 hd7⟩
  clear hd7 hb7 z0 z1 z2 z3 z4 z5 z6 z7 z8 z9 z10 z11 z12 z13 z14 z15 z16 z17 z18 z19 z20 z21 z22 z23 z24 z25 c0 c1 c2 c3 c4 c5 c6 c7 c8 c9 c10 c11 c12
  obtain ⟨z0, z1, z2, z3, z4, z5, z6, z7, z8, z9, z10, z11, z12, z13, z14, z15, z16, z17, z18, z19, z20, z21, z22, z23, z24, z25⟩ := HX.out w7 HB7.out.1
  obtain ⟨_, _, c0, c1, c2, c3, c4, c5, c6, c7, c8, c9, c10, c11, c12⟩ := HY.out w7 HB7.out.1
  by_cases h6 : d6 = 0
  case neg =>
    have e1 : (d6 != 0) = true := by simpa using h6
    have e2 : (d6 == 0) = false := by simpa using h6
    have hv : v = d6 := by rw [HV.out]; simp [fst0, *]
    subst hv
    go_wp2_with fail
    go_ret
    exact ⟨rfl, HBZ.out.1.trans (HB7.out.1.mono HBZ.out.1.size), Nat.le_trans HBZ.out.2 HB7.out.2⟩
  subst h6
  go_wp2_with fail
  rw [rounds_succ]
  go_wp2_with fail
  refine (H7.out _ (HBZ.out.1.trans (HB7.out.1.mono HBZ.out.1.size))).mono ?_
  rintro e w8 ⟨rfl, hb8, hd8⟩
  have HB8 : Hid (Below Z.heap.size Z w8 ∧ Z.drawn ≤ w8.drawn) := Lib.hid ⟨Below.step HB7.out.1 hb8, Nat.le_trans HB7.out.2 hd8⟩
  clear hd8 hb8 z0 z1 z2 z3 z4 z5 z6 z7 z8 z9 z10 z11 z12 z13 z14 z15 z16 z17 z18 z19 z20 z21 z22 z23 z24 z25 c0 c1 c2 c3 c4 c5 c6 c7 c8 c9 c10 c11 c12
  obtain ⟨z0, z1, z2, z3, z4, z5, z6, z7, z8, z9, z10, z11, z12, z13, z14, z15, z16, z17, z18, z19, z20, z21, z22, z23, z24, z25⟩ := HX.out w8 HB8.out.1
  obtain ⟨_, _, c0, c1, c2, c3, c4, c5, c6, c7, c8, c9, c10, c11, c12⟩ := HY.out w8 HB8.out.1
  by_cases h7 : d7 = 0
  case neg =>
    have e1 : (d7 != 0) = true := by simpa using h7
    have e2 : (d7 == 0) = false := by simpa using h7
    have hv : v = d7 := by rw [HV.out]; simp [fst0, *]
    subst hv
    go_wp2_with fail
    go_ret
    exact ⟨rfl, HBZ.out.1.trans (HB8.out.1.mono HBZ.out.1.size), Nat.le_trans HBZ.out.2 HB8.out.2⟩
  subst h7
  go_wp2_with fail
  rw [rounds_succ]
  go_wp2_with fail
  refine (H8.out _ (HBZ.out.1.trans (HB8.out.1.mono HBZ.out.1.size))).mono ?_
  rintro e w9 ⟨rfl, hb9, hd9⟩
  have HB9 : Hid (Below Z.heap.size Z w9 ∧ Z.drawn ≤ w9.drawn) := Lib.hid ⟨Below.step HB8.out.1 hb9, Nat.le_trans HB8.out.2 hd9⟩
  clear hd9 hb9 z0 z1 z2 z3 z4 z5 z6 z7 z8 z9 z10 z11 z12 z13 z14 z15 z16 z17 z18 z19 z20 z21 z22 z23 z24 z25 c0 c1 c2 c3 c4 c5 c6 c7 c8 c9 c10 c11 c12
  obtain ⟨z0, z1, z2, z3, z4, z5, z6, z7, z8, z9, z10, z11, z12, z13, z14, z15, z16, z17, z18, z19, z20, z21, z22, z23, z24, z25⟩ := HX.out w9 HB9.out.1
  obtain ⟨_, _, c0, c1, c2, c3, c4, c5, c6, c7, c8, c9, c10, c11, c12⟩ := HY.out w9 HB9.out.1
  by_cases h8 : d8 = 0
  case neg =>
    have e1 : (d8 != 0) = true := by simpa using h8
    have e2 : (d8 == 0) = false := by simpa using h8
    have hv : v = d8 := by rw [HV.out]; simp [fst0, *]
    subst hv
    go_wp2_with fail
    go_ret
    exact ⟨rfl, HBZ.out.1.trans (HB9.out.1.mono HBZ.out.1.size), Nat.le_trans HBZ.out.2 HB9.out.2⟩
  subst h8
  go_wp2_with fail
  rw [rounds_succ]
  go_wp2_with fail
  refine (H9.out _ (HBZ.out.1.trans (HB9.out.1.mono HBZ.out.1.size))).mono ?_
  rintro e w10 ⟨rfl, hb10, hd10⟩
  have HB10 : Hid (Below Z.heap.size Z w10 ∧ Z.drawn ≤ w10.drawn) := Lib.hid ⟨Below.step HB9.out.1 hb10, Nat.le_trans HB9.out.2 hd10⟩
  clear hd10 hb10 z0 z1 z2 z3 z4 z5 z6 z7 z8 z9 z10 z11 z12 z13 z14 z15 z16 z17 z18 z19 z20 z21 z22 z23 z24 z25 c0 c1 c2 c3 c4 c5 c6 c7 c8 c9 c10 c11 c12
  obtain ⟨z0, z1, z2, z3, z4, z5, z6, z7, z8, z9, z10, z11, z12, z13, z14, z15, z16, z17, z18, z19, z20, z21, z22, z23, z24, z25⟩ := HX.out w10 HB10.out.1
  obtain ⟨_, _, c0, c1, c2, c3, c4, c5, c6, c7, c8, c9, c10, c11, c12⟩ := HY.out w10 HB10.out.1
  by_cases h9 : d9 = 0
  case neg =>
    have e1 : (d9 != 0) = true := by simpa using h9
    have e2 : (d9 == 0) = false := by simpa using h9
    have hv : v = d9 := by rw [HV.out]; simp [fst0, *]
    subst hv
    go_wp2_with fail
    go_ret
    exact ⟨rfl, HBZ.out.1.trans (HB10.out.1.mono HBZ.out.1.size), Nat.le_trans HBZ.out.2 HB10.out.2⟩
  subst h9
  go_wp2_with fail
  rw [rounds_succ]
  go_wp2_with fail
  refine (H10.out _ (HBZ.out.1.trans (HB10.out.1.mono HBZ.out.1.size))).mono ?_
  rintro e w11 ⟨rfl, hb11, hd11⟩
  have HB11 : Hid (Below Z.heap.size Z w11 ∧ Z.drawn ≤ w11.drawn) := Lib.hid ⟨Below.step HB10.out.1 hb11, Nat.le_trans HB10.out.2 hd11⟩
  clear hd11 hb11 z0 z1 z2 z3 z4 z5 z6 z7 z8 z9 z10 z11 z12 z13 z14 z15 z16 z17 z18 z19 z20 z21 z22 z23 z24 z25 c0 c1 c2 c3 c4 c5 c6 c7 c8 c9 c10 c11 c12
  obtain ⟨z0, z1, z2, z3, z4, z5, z6, z7, z8, z9, z10, z11, z12, z13, z14, z15, z16, z17, z18, z19, z20, z21, z22, z23, z24, z25⟩ := HX.out w11 HB11.out.1
  obtain ⟨_, _, c0, c1, c2, c3, c4, c5, c6, c7, c8, c9, c10, c11, c12⟩ := HY.out w11 HB11.out.1
  by_cases h10 : d10 = 0
  case neg =>
    have e1 : (d10 != 0) = true := by simpa using h10
    have e2 : (d10 == 0) = false := by simpa using h10
    have hv : v = d10 := by rw [HV.out]; simp [fst0, *]
    subst hv
    go_wp2_with fail
    go_ret
    exact ⟨rfl, HBZ.out.1.trans (HB11.out.1.mono HBZ.out.1.size), Nat.le_trans HBZ.out.2 HB11.out.2⟩
  subst h10
  go_wp2_with fail
  rw [rounds_succ]
  go_wp2_with fail
  refine (H11.out _ (HBZ.out.1.trans (HB11.out.1.mono HBZ.out.1.size))).mono ?_
  rintro e w12 ⟨rfl, hb12, hd12⟩
  have HB12 : Hid (Below Z.heap.size Z w12 ∧ Z.drawn ≤ w12.drawn) := Lib.hid ⟨Below.step HB11.out.1 hb12, Nat.le_trans HB11.out.2 hd12⟩
  clear hd12 hb12 z0 z1 z2 z3 z4 z5 z6 z7 z8 z9 z10 z11 z12 z13 z14 z15 z16 z17 z18 z19 z20 z21 z22 z23 z24 z25 c0 c1 c2 c3 c4 c5 c6 c7 c8 c9 c10 c11 c12
  obtain ⟨z0, z1, z2, z3, z4, z5, z6, z7, z8, z9, z10, z11, z12, z13, z14, z15, z16, z17, z18, z19, z20, z21, z22, z23, z24, z25⟩ := HX.out w12 HB12.out.1
  obtain ⟨_, _, c0, c1, c2, c3, c4, c5, c6, c7, c8, c9, c10, c11, c12⟩ := HY.out w12 HB12.out.1
  by_cases h11 : d11 = 0
  case neg =>
    have e1 : (d11 != 0) = true := by simpa using h11
    have e2 : (d11 == 0) = false := by simpa using h11
    have hv : v = d11 := by rw [HV.out]; simp [fst0, *]
    subst hv
    go_wp2_with fail
    go_ret
    exact ⟨rfl, HBZ.out.1.trans (HB12.out.1.mono HBZ.out.1.size), Nat.le_trans HBZ.out.2 HB12.out.2⟩
  subst h11
  go_wp2_with fail
  rw [rounds_succ]
  have hv : v = 0 := by rw [HV.out]; simp [fst0]
  subst hv
  go_wp2_with fail
  go_ret
  exact ⟨rfl, HBZ.out.1.trans (HB12.out.1.mono HBZ.out.1.size), Nat.le_trans HBZ.out.2 HB12.out.2⟩
end Go.Proofs.YtmbkkjofikijiaaGreatDoor
