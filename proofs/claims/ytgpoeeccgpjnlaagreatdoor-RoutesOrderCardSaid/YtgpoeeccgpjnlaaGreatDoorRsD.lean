/- Are two routes the same in the order; of package waymarkref08: one, first. Under the conditions that they name. -/
import Derived.Test.YtgpoeeccgpjnlaaGreatDoorRsB
namespace Go.Proofs.YtgpoeeccgpjnlaaGreatDoor
open Go.RowKit Go.Shelf
theorem fst0_drop {l : List Int} {k : Nat} (hk : k < l.length) : fst0 (l.drop k) = if l[k] = 0 then fst0 (l.drop (k + 1)) else l[k] := by
  rw [List.drop_eq_getElem_cons hk]
  rfl
set_option maxRecDepth 100000 in
set_option maxHeartbeats 8000000 in
theorem even_at (r s : RtD) (w : World) (q h p : Nat) (ho : OrdAt w q h) (hp : p < w.heap.size) (hc : w.cell? ⟨p, 0, none⟩ = some (.func (.func 65) #[] #[.pointer (some ⟨q, 0, none⟩)])) :
    Calls Tryz.prog 74 #[.agg (encRt r).toArray, .agg (encRt s).toArray, .pointer (some ⟨p, 0, none⟩)] w fun e w' => e = .returned (.bool (cR r s == 0)) ∧ Below w.heap.size w w' := by
  have HT : Hid (∀ (W : World), OrdAt W q h → Calls Tryz.prog 65 #[.agg (encRt r).toArray, .agg (encRt s).toArray, .pointer (some ⟨q, 0, none⟩)] W fun e w' => e = .returned (.int .i64 (cR r s)) ∧ Below W.heap.size W w') := Lib.hid fun W ho => turn_is r s W q h ho
  have eg : ∀ args w, (callFunc 65 args).run Tryz.prog w = .ok (.enter 65 args) w := enters_of Tryz.func65 (by kernel_rfl) rfl
  obtain ⟨v, hv⟩ : ∃ v, cR r s = v := ⟨_, rfl⟩
  rw [hv] at HT ⊢
  clear hv
  obtain ⟨a, b, fr, di, me, ta, nm, ho', dc⟩ := r
  obtain ⟨a2, b2, fr2, di2, me2, ta2, nm2, ho2, dc2⟩ := s
  simp only [encRt] at *
  have HO := Lib.hid (ho.on (((Below.refl _ w).alloc (Nat.le_refl _) (.cells #[.int .u32 a, .int .i64 b, .int .u8 fr, .int .i64 di, .int .i64 me, .int .i64 ta, .string nm, .int .u32 ho', .bool dc] 27)).alloc (by simp) (.cells #[.int .u32 a2, .int .i64 b2, .int .u8 fr2, .int .i64 di2, .int .i64 me2, .int .i64 ta2, .string nm2, .int .u32 ho2, .bool dc2] 27)))
  have HBZ := Lib.hid (((Below.refl _ w).alloc (Nat.le_refl _) (.cells #[.int .u32 a, .int .i64 b, .int .u8 fr, .int .i64 di, .int .i64 me, .int .i64 ta, .string nm, .int .u32 ho', .bool dc] 27)).alloc (by simp) (.cells #[.int .u32 a2, .int .i64 b2, .int .u8 fr2, .int .i64 di2, .int .i64 me2, .int .i64 ta2, .string nm2, .int .u32 ho2, .bool dc2] 27))
  have hc2 := (HBZ.out.cell (p := ⟨p, 0, none⟩) hp).trans hc
  clear ho
  go_enter Tryz.func74, Tryz.ntmps74
  go_wp2_with fail
  refine (HT.out _ HO.out).mono ?_
  rintro e w4 ⟨rfl, hb4⟩
  have HB4 := Lib.hid (Below.step HBZ.out hb4)
  clear hb4
  go_wp2
  go_ret
  exact ⟨rfl, HB4.out⟩
end Go.Proofs.YtgpoeeccgpjnlaaGreatDoor
