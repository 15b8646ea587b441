/-
  The contract of Set.
-/
import Derived.Test.YtmdmjbpehbjgpaaMake
namespace Go.Proofs.Ytmdmjbpehbjgpaa
open Go.RowKit Num Bit

end Go.Proofs.Ytmdmjbpehbjgpaa
