/-
  The contracts of the program's groups and wordsOf. The contract of the program's counted: an array of eight counts by value. The library's Clone at words. The library's Search. The contracts of the program's copied, count and sought. The contract of the program's Build. The library's Equal, Clone and Search at the types that package plain asks. The contract of the program's Check. The contract of the program's count. The contracts of the program's sought and of the function that it hands to Search. The contracts of the program's Build, Bits, Size, Access, Rank and Select. The contracts of the program's functions of plain rows, over objects. The way of the program's own package for rows in blocks: classes and offsets as they are read, and when they are what is built: plain. The rows of the triangle in arrays: grown and shrunk in place. A row of the triangle by value: made, laid into a variable, handed back. The contracts of Choose and Width. The contracts of Offset and Block.
-/
import Derived.Test.YtcaalcjcpddhaaaGreatS46
import Derived.Deep.WholeRow
import Derived.Laws.ResultCell
import Derived.Laws.Cover3
import Derived.WalkMore
set_option linter.unusedVariables false
set_option linter.unusedSimpArgs false
set_option maxRecDepth 100000
namespace Go.Proofs.YtcaalcjcpddhaaaGreat
open Go.RowKit Num Bit
end Go.Proofs.YtcaalcjcpddhaaaGreat
namespace Go.Proofs.YtcaalcjcpddhaaaGreat
open Go.RowKit Num Bit
end Go.Proofs.YtcaalcjcpddhaaaGreat
namespace Go.Proofs.YtcaalcjcpddhaaaGreat
open Go.RowKit Num Bit
end Go.Proofs.YtcaalcjcpddhaaaGreat
namespace Go.Proofs.YtcaalcjcpddhaaaGreat
open Go.RowKit Num Bit
end Go.Proofs.YtcaalcjcpddhaaaGreat
namespace Go.Proofs.YtcaalcjcpddhaaaGreat
open Go.RowKit Num Bit
end Go.Proofs.YtcaalcjcpddhaaaGreat
namespace Go.Proofs.YtcaalcjcpddhaaaGreat
open Go.RowKit Num Bit
end Go.Proofs.YtcaalcjcpddhaaaGreat
namespace Go.Proofs.YtcaalcjcpddhaaaGreat
open Go.RowKit Num Bit
end Go.Proofs.YtcaalcjcpddhaaaGreat
namespace Go.Proofs.YtcaalcjcpddhaaaGreat
open Go.RowKit Num Bit
def Right (m : Nat) (xs : List Nat) (su sb : List Int) (G : Nat) : Prop := (∀ j, j < G → gi su j = supI (m : Int) xs j) ∧ ∀ j, j < min (8 * G) xs.length → gi sb j = subI (m : Int) xs j
theorem Right.zero (m : Nat) (xs : List Nat) (su sb : List Int) : Right m xs su sb 0 := ⟨fun j h => absurd h (by omega), fun j h => absurd h (by omega)⟩
end Go.Proofs.YtcaalcjcpddhaaaGreat
namespace Go.Proofs.YtcaalcjcpddhaaaGreat
open Go.RowKit Num Bit
end Go.Proofs.YtcaalcjcpddhaaaGreat
namespace Go.Proofs.YtcaalcjcpddhaaaGreat
open Go.RowKit Num Bit
end Go.Proofs.YtcaalcjcpddhaaaGreat
namespace Go.Proofs.YtcaalcjcpddhaaaGreat
open Go.RowKit Num Bit
end Go.Proofs.YtcaalcjcpddhaaaGreat
namespace Go.Proofs.YtcaalcjcpddhaaaGreat
open Go.RowKit Num Bit
theorem PlOut.ki {base : Nat} {w : World} {bo : Option Addr} {bc : Nat} {so : Option Addr} {sc : Nat} {tO : Option Addr} {tc : Nat} (N : Int) (xs : List Nat) (hn : I64 N) (hf : Fit xs) (hl : xs.length ≤ 1048576) (h : PlOut base w bo (pbX N xs) bc so (pbS N xs) sc tO (pbT N xs) tc) :
  KI7 w [.int .i64 (pbN N xs), .slice bo (pbX N xs).length bc, .slice so (pbS N xs).length sc, .slice tO (pbT N xs).length tc] (kB7 N xs) := by
 have hp := h.plin N xs hn hf hl
 exact ⟨⟨bo, bc, so, sc, tO, tc, rfl, ⟨hp.n, hp.x, hp.f, hp.c, hp.s, hp.sf, hp.sc, hp.t, hp.tf, hp.tc⟩⟩, hp.l, hp.sl, hp.tl⟩
end Go.Proofs.YtcaalcjcpddhaaaGreat
namespace Go.Proofs.YtcaalcjcpddhaaaGreat
open Num Bit Bn
end Go.Proofs.YtcaalcjcpddhaaaGreat
namespace Go.Proofs.YtcaalcjcpddhaaaGreat
open Go.RowKit Num Bn
namespace Ow
end Ow
end Go.Proofs.YtcaalcjcpddhaaaGreat
namespace Go.Proofs.YtcaalcjcpddhaaaGreat
open Go.RowKit Num Bn
namespace Ow
end Ow
end Go.Proofs.YtcaalcjcpddhaaaGreat
namespace Go.Proofs.YtcaalcjcpddhaaaGreat
open Go.RowKit Num Bn Ow
end Go.Proofs.YtcaalcjcpddhaaaGreat
namespace Go.Proofs.YtcaalcjcpddhaaaGreat
open Go.RowKit Num Bn Ow
end Go.Proofs.YtcaalcjcpddhaaaGreat
