/-
  The contract of Ones.
-/
import Derived.Test.YtmdmjbpehbjgpaaRead
import Derived.Test.YtmdmjbpehbjgpaaBit2
namespace Go.Proofs.Ytmdmjbpehbjgpaa
open Go.RowKit Num Bit

end Go.Proofs.Ytmdmjbpehbjgpaa
