/-
  The contract of the program's along: each block is handed to a function, which may write where it is told.
-/
import Derived.Test.YtjahipjghenbjaaGreatDoorL28
import Derived.WalkMore
set_option linter.unusedVariables false
set_option linter.unusedSimpArgs false
set_option maxRecDepth 100000
set_option maxHeartbeats 16000000
namespace Go.Proofs.YtjahipjghenbjaaGreatDoor
open Go.RowKit Num Bit Bn
structure Fr8 (lo hi : Nat) (w w' : World) : Prop where
 below : Below lo w w'
 high : ∀ b, hi ≤ b → b < w.heap.size → w'.heap[b]? = w.heap[b]?
end Go.Proofs.YtjahipjghenbjaaGreatDoor
