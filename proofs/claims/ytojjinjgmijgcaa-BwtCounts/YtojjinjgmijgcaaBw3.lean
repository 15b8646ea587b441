/-
  The contract of the document's step.
-/
import Derived.Test.YtojjinjgmijgcaaBw2
namespace Go.Proofs.Ytojjinjgmijgcaa
open Go.RowKit
set_option linter.unusedVariables false
set_option linter.unusedSimpArgs false
set_option maxRecDepth 100000

end Go.Proofs.Ytojjinjgmijgcaa
