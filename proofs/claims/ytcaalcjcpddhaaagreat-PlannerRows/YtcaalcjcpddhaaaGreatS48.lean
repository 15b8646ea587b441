/-
  The contracts of the small functions of the program's package for rows in blocks. The contract of the program's markOf, and tables of sixteen numbers by value. Arrays by value, and what stays of the tables. The contract of the program's along: each block is handed to a function, which may write where it is told. The contract of the program's fits. The contract of the function that the program's Check hands to along. The contract of the program's Check. The contracts of the program's blockAt and of the function that it hands to along. The contracts of the program's count, Access, Rank and Size of rows in blocks. The contracts of the program's Access, Rank and Size of rows in blocks. The contracts of the program's sought, and of the functions that it hands to Search and to along. The contracts of the program's sought, and of the function that it hands to along. The contract of the program's Select of rows in blocks. The contracts of the program's Bits of rows in blocks, and of the function that it hands to along. The contract of the program's Bits of rows in blocks. Slices of structs of two cells. Slices of structs of two cells; the contract of the program's parted. The contract of the program's marked. The contracts of the program's classesOf and offsetsOf. The contract of the program's Build of rows in blocks. The contracts of the program's functions of rows in blocks, over objects. The contracts of the program's Check, Size, Access, Rank and Select.
-/
import Derived.Test.YtcaalcjcpddhaaaGreatS47
set_option linter.unusedVariables false
set_option linter.unusedSimpArgs false
set_option maxRecDepth 100000
namespace Go.Proofs.YtcaalcjcpddhaaaGreat
open Go.RowKit Num Bit Bn
end Go.Proofs.YtcaalcjcpddhaaaGreat
namespace Go.Proofs.YtcaalcjcpddhaaaGreat
open Go.RowKit Num Bit Bn
end Go.Proofs.YtcaalcjcpddhaaaGreat
namespace Go.Proofs.YtcaalcjcpddhaaaGreat
open Go.RowKit Num Bit Bn
end Go.Proofs.YtcaalcjcpddhaaaGreat
namespace Go.Proofs.YtcaalcjcpddhaaaGreat
open Go.RowKit Num Bit Bn
structure Fr8 (lo hi : Nat) (w w' : World) : Prop where
 below : Below lo w w'
 high : ∀ b, hi ≤ b → b < w.heap.size → w'.heap[b]? = w.heap[b]?
theorem Fr8.refl (lo hi : Nat) (w : World) : Fr8 lo hi w w := ⟨Below.refl _ _, fun _ _ _ => rfl⟩
theorem Fr8.trans {lo hi : Nat} {a b c : World} (h : Fr8 lo hi a b) (k : Fr8 lo hi b c) : Fr8 lo hi a c := ⟨h.below.trans k.below, fun x h1 h2 => (k.high x h1 (Nat.lt_of_lt_of_le h2 h.below.size)).trans (h.high x h1 h2)⟩
theorem Fr8.size {lo hi : Nat} {w w' : World} (h : Fr8 lo hi w w') : w.heap.size ≤ w'.heap.size := h.below.size
theorem KI8.parts {w : World} {N k V M L : Int} {xs ys : List Nat} {S T : List Int} {ao : Option Addr} {cap : Nat} {qo : Option Addr} {dap : Nat} {so : Option Addr} {sc : Nat} {tO : Option Addr} {tc : Nat} (h : KI8 w [.int .i64 N, .int .i64 k, .int .i64 V, .int .i64 M, .slice ao xs.length cap, .int .i64 L, .slice qo ys.length dap, .slice so S.length sc, .slice tO T.length tc] ⟨N, k, V, M, xs, L, ys, S, T⟩) :
  Wd w ao xs ∧ Fit xs ∧ Wd w qo ys ∧ Fit ys ∧ Nd w so S ∧ Nd w tO T := by
 obtain ⟨⟨ao', cap', qo', dap', so', sc', tO', tc', e, _, a1, a2, a3, a4, a5, a6, a7, a8, a9, a10⟩, _⟩ := h
 simp only [List.cons.injEq, Value.slice.injEq, true_and, and_true] at e
 obtain ⟨⟨rfl, rfl⟩, ⟨rfl, rfl⟩, ⟨rfl, rfl⟩, rfl, rfl⟩ := e
 exact ⟨a1, a2, a4, a5, a7, a9⟩
end Go.Proofs.YtcaalcjcpddhaaaGreat
namespace Go.Proofs.YtcaalcjcpddhaaaGreat
open Go.RowKit Num Bit Bn
end Go.Proofs.YtcaalcjcpddhaaaGreat
namespace Go.Proofs.YtcaalcjcpddhaaaGreat
open Go.RowKit Num Bit Bn
end Go.Proofs.YtcaalcjcpddhaaaGreat
namespace Go.Proofs.YtcaalcjcpddhaaaGreat
open Go.RowKit Num Bit Bn
end Go.Proofs.YtcaalcjcpddhaaaGreat
namespace Go.Proofs.YtcaalcjcpddhaaaGreat
open Go.RowKit Num Bit Bn
end Go.Proofs.YtcaalcjcpddhaaaGreat
namespace Go.Proofs.YtcaalcjcpddhaaaGreat
open Go.RowKit Num Bit Bn
end Go.Proofs.YtcaalcjcpddhaaaGreat
namespace Go.Proofs.YtcaalcjcpddhaaaGreat
open Go.RowKit Num Bit Bn
end Go.Proofs.YtcaalcjcpddhaaaGreat
namespace Go.Proofs.YtcaalcjcpddhaaaGreat
open Go.RowKit Num Bit Bn
end Go.Proofs.YtcaalcjcpddhaaaGreat
namespace Go.Proofs.YtcaalcjcpddhaaaGreat
open Go.RowKit Num Bit Bn
end Go.Proofs.YtcaalcjcpddhaaaGreat
namespace Go.Proofs.YtcaalcjcpddhaaaGreat
open Go.RowKit Num Bit Bn
end Go.Proofs.YtcaalcjcpddhaaaGreat
namespace Go.Proofs.YtcaalcjcpddhaaaGreat
open Go.RowKit Num Bit Bn
def rowP (n : Nat) (F : Nat → Bool) (p : Nat) : List Nat := rowOf n fun j => decide (j < p) && F j
theorem length_rowP (n : Nat) (F : Nat → Bool) (p : Nat) : (rowP n F p).length = (n + 63) / 64 := length_rowOf _ _
end Go.Proofs.YtcaalcjcpddhaaaGreat
namespace Go.Proofs.YtcaalcjcpddhaaaGreat
open Go.RowKit Num Bit Bn
end Go.Proofs.YtcaalcjcpddhaaaGreat
namespace Go.Proofs.YtcaalcjcpddhaaaGreat
open Go.RowKit Num Bit
end Go.Proofs.YtcaalcjcpddhaaaGreat
namespace Go.Proofs.YtcaalcjcpddhaaaGreat
open Go.RowKit Num Bit Bn
end Go.Proofs.YtcaalcjcpddhaaaGreat
namespace Go.Proofs.YtcaalcjcpddhaaaGreat
open Go.RowKit Num Bit Bn
end Go.Proofs.YtcaalcjcpddhaaaGreat
namespace Go.Proofs.YtcaalcjcpddhaaaGreat
open Go.RowKit Num Bit Bn
end Go.Proofs.YtcaalcjcpddhaaaGreat
namespace Go.Proofs.YtcaalcjcpddhaaaGreat
open Go.RowKit Num Bit Bn
end Go.Proofs.YtcaalcjcpddhaaaGreat
namespace Go.Proofs.YtcaalcjcpddhaaaGreat
open Go.RowKit Num Bit Bn
end Go.Proofs.YtcaalcjcpddhaaaGreat
namespace Go.Proofs.YtcaalcjcpddhaaaGreat
open Go.RowKit Num Bit
theorem info_bv : (Tryz.prog.info? 24).map (·.size) = some 2 := by kernel_rfl
end Go.Proofs.YtcaalcjcpddhaaaGreat
