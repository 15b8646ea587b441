/-
  The contract of the function that the program's Check hands to along.
-/
import Derived.Test.YtfnkklkdajlhlaaGreatDoorL18
set_option linter.unusedVariables false
set_option linter.unusedSimpArgs false
set_option maxRecDepth 100000
set_option maxHeartbeats 16000000
namespace Go.Proofs.YtfnkklkdajlhlaaGreatDoor
open Go.RowKit Num Bit Bn
theorem info_mrk : (Tryz.prog.info? 149).map (·.size) = some 2 := by kernel_rfl
def Rgt (a : RA8) (i : Nat) : Prop := cOff a.L a.ys a.xs i < ch 15 (cls a.xs i) ∧ (i % 8 = 0 → gi a.S (i / 8) = cOn a.xs i ∧ gi a.T (i / 8) = cAt a.xs i)
end Go.Proofs.YtfnkklkdajlhlaaGreatDoor
