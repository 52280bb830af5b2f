/- The order of routes. Under the conditions that they name. -/
import Derived.Test.YtmbkkjofikijiaaGreatDoorRsA
import Derived.Shelf.Abstract
namespace Go.Proofs.YtmbkkjofikijiaaGreatDoor
open Go.RowKit Go.Shelf
/-- The first that is not 0. -/
def fst0 : List Int → Int
  | [] => 0
  | x :: l => if x = 0 then fst0 l else x
/-- The order of routes. -/
def cR (r s : RtD) : Int := fst0 (ords r s)
theorem heap_new' (w : World) (x : Obj) : (w.alloc x).heap[w.heap.size]? = some x := by
  show (w.heap.push x)[w.heap.size]? = some x
  simp
theorem heap_old' (w : World) (x : Obj) (i : Nat) (h : i < w.heap.size) : (w.alloc x).heap[i]? = w.heap[i]? := by
  show (w.heap.push x)[i]? = w.heap[i]?
  rw [Array.getElem?_push, if_neg (by omega)]
end Go.Proofs.YtmbkkjofikijiaaGreatDoor
