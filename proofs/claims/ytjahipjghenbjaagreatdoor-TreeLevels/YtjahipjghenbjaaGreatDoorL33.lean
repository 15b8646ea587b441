/-
  The contracts of the program's blockAt and of the function that it hands to along. The contracts of the program's count, Access, Rank and Size of rows in blocks. The contracts of the program's Access, Rank and Size of rows in blocks.
-/
import Derived.Test.YtjahipjghenbjaaGreatDoorL32
set_option linter.unusedVariables false
set_option linter.unusedSimpArgs false
set_option maxRecDepth 100000
set_option maxHeartbeats 16000000
namespace Go.Proofs.YtjahipjghenbjaaGreatDoor
open Go.RowKit Num Bit Bn
theorem blv_lt64 (m : Nat) (f : Nat → Bool) (i : Nat) : blv m f i < 18446744073709551616 := by have := blv_lt m f i; omega
end Go.Proofs.YtjahipjghenbjaaGreatDoor
