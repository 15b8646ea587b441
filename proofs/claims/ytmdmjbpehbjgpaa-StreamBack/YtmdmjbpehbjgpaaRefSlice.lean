/-
  The contracts of the document's Slice and Ones.
-/
import Derived.Test.YtmdmjbpehbjgpaaRefRead
namespace Go.Proofs.Ytmdmjbpehbjgpaa
open Go.RowKit Num Bit

theorem at_i (N : Int) (ao : Option Addr) (xs : List Nat) (cap : Nat) (i : Nat) (P : Int) (w : World) (hP : P = (i : Int)) (hx : Wd w ao xs) (hi : i / 64 < xs.length) (hi2 : i ≤ 1048576) :
    Calls Try.prog 31 #[.agg #[.int .i64 N, .slice ao xs.length cap], .int .i64 P] w fun e w' => e = .returned (.bool (bitAt xs i)) ∧ Below w.heap.size w w' := by
  subst hP
  exact at_c N ao xs cap i w hx hi hi2

theorem or_num (q : Nat) (f : Nat → Bool) (hq : q < 64) (hf : f q = true) : bits .or .u64 (Bit.numOf q f : Int) (IntKind.u64.wrap (2 ^ q)) = ((Bit.numOf (q + 1) f : Nat) : Int) := by
  have l := numOf_lt q f
  have l2 := two_pow_lt q hq
  rw [shl_one q hq, u64_or_nat _ _ (by omega) l2]
  congr 1
  simp only [Bit.numOf, hf, if_true]
  have e := Nat.two_pow_add_eq_or_of_lt l 1
  rw [Nat.mul_one] at e
  rw [Nat.or_comm, ← e, Nat.add_comm]

end Go.Proofs.Ytmdmjbpehbjgpaa
