/-
  The contract of the program's Check. The contracts of the program's blockAt and of the function that it hands to along.
-/
import Derived.Test.YtfnkklkdajlhlaaGreatDoorL19
set_option linter.unusedVariables false
set_option linter.unusedSimpArgs false
set_option maxRecDepth 100000
set_option maxHeartbeats 16000000
namespace Go.Proofs.YtfnkklkdajlhlaaGreatDoor
open Go.RowKit Num Bit Bn
end Go.Proofs.YtfnkklkdajlhlaaGreatDoor
