/- The order of prefixes of package waymarkref08. No condition. -/
import Derived.Test.YtgpoeeccgpjnlaaGreatDoorRsD
import Derived.Deep.RegionHeld3
import Derived.Deep.DeepCutAuto
namespace Go.Proofs.YtgpoeeccgpjnlaaGreatDoor
open Go.RowKit Go.Shelf
theorem cell_n {w : World} {cs : Array Value} {t : TypeId} {i : Nat} {v : Value} (h : cs[i]? = some v) : (w.alloc (.cells cs t)).cell? ⟨w.heap.size, i, none⟩ = some v := by
  have h2 := heap_new' w (.cells cs t)
  simp only [World.cell?, h2]
  exact h
theorem cell_nd {w : World} {cs : Array Value} {t : TypeId} {i : Nat} {v : Value} (h : cs[i]? = some v) : (w.alloc (.cells cs t)).drew.cell? ⟨w.heap.size, i, none⟩ = some v := cell_n h
end Go.Proofs.YtgpoeeccgpjnlaaGreatDoor
