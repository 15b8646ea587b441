import Derived.Test.YtfnkklkdajlhlaaGreatDoorE21
set_option linter.unusedVariables false
set_option linter.unusedSimpArgs false
set_option maxRecDepth 100000
set_option maxHeartbeats 16000000
namespace Go.Proofs.YtfnkklkdajlhlaaGreatDoor
open Go.RowKit Num Bit Bn
end Go.Proofs.YtfnkklkdajlhlaaGreatDoor
