/- What Compare of package bytes hands back of two rows of bytes. Under the conditions that it names. -/
import Derived.Test.YtbmleejeffaciaaDoorHdW0
import Derived.Laws.Externs
import Derived.Lib.Bytealg
import Derived.Lib.BytesEntry
import Derived.Deep.MidRow
namespace Go.Proofs.YtbmleejeffaciaaDoor
open Go.RowKit
theorem empty_append (l : List UInt8) : (⟨ByteArray.empty.data ++ l.toArray⟩ : ByteArray) = ⟨l.toArray⟩ := by
  apply ByteArray.ext
  show (#[] : Array UInt8) ++ l.toArray = l.toArray
  simp
theorem run_load13 {P : Program} {W : World} {g : Nat} {l : List Int} (hr : W.rangeAt g 0 (l.map u8V)) : (Extern.Bytes.loadBytes ⟨g, 0, none⟩ l.length .empty).run P W = .ok ⟨(Lib.bytesOf l).toArray⟩ W := by
  have h := Lib.run_loadBytesX (P := P) W l ⟨g, 0, none⟩ .empty (fun j x hj => by
    rw [Addr.add_mid]
    exact hr j _ (by rw [List.getElem?_map, hj]; rfl))
  rw [h, empty_append]
theorem run_compare13 {P : Program} {W : World} {gA gB : Nat} {lA lB : List Int} (n m c e : Nat) (hA : W.rangeAt gA 0 (lA.map u8V)) (hB : W.rangeAt gB 0 (lB.map u8V)) (ha : lA.length = n) (hb : lB.length = m) :
    (Extern.BytealgCompare.compare #[.slice (some ⟨gA, 0, none⟩) n c, .slice (some ⟨gB, 0, none⟩) m e]).run P W = .ok (.int .i64 (Lib.compareBytes (Lib.bytesOf lA) (Lib.bytesOf lB))) W := by
  subst ha hb
  change Sem.run P (do
    let x ← Extern.Bytes.bytesOf (.slice (some ⟨gA, 0, none⟩) lA.length c)
    let y ← Extern.Bytes.bytesOf (.slice (some ⟨gB, 0, none⟩) lB.length e)
    pure (goInt (Extern.BytealgCompare.cmp x y))) W = _
  simp only [Extern.Bytes.bytesOf, Sem.run_bind, Sem.run_pure, run_load13 hA, run_load13 hB, Result.andThen, Lib.cmp_eq]
  simp [goInt]
set_option maxRecDepth 100000 in
theorem bcompare_is {gA gB : Nat} {lA lB : List Int} (w : World) (hA : w.rangeAt gA 0 (lA.map u8V)) (hB : w.rangeAt gB 0 (lB.map u8V)) (ha : lA.length = 13) (hb : lB.length = 13) :
    Calls Tryd.prog 32 #[.slice (some ⟨gA, 0, none⟩) 13 13, .slice (some ⟨gB, 0, none⟩) 13 13] w fun e w' => e = .returned (.int .i64 (Lib.compareBytes (Lib.bytesOf lA) (Lib.bytesOf lB))) ∧ w = w' := by
  have H := Lib.hid (run_compare13 (P := Tryd.prog) 13 13 13 13 hA hB ha hb)
  clear hA hB ha hb
  go_enter Tryd.func32, Tryd.ntmps32
  go_wp2
  rw [run_callFunc_extern Tryd.func44 (by kernel_rfl) (by kernel_rfl) (by kernel_rfl) (e := Extern.BytealgCompare.compare) (by kernel_rfl), H.out]
  simp only [Result.andThen]
  rw [Oper.upon_value]
  go_wp2
  go_ret
  exact ⟨rfl, rfl⟩
end Go.Proofs.YtbmleejeffaciaaDoor
