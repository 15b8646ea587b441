/-
  The contract of From.
-/
import Derived.Test.YtmdmjbpehbjgpaaMake
import Derived.Test.YtmdmjbpehbjgpaaBit4
import Derived.RegionTactic
import Derived.BigRegion
namespace Go.Proofs.Ytmdmjbpehbjgpaa
open Go.RowKit Num Bit

def bt (l : List Bool) (i : Nat) : Bool := l.getD i false
/-- A slice of bools that reads as a list. -/
def Bl (w : World) (ao : Option Addr) (l : List Bool) : Prop :=
  0 < l.length → ∃ b off, ao = some ⟨b, off, none⟩ ∧ b < w.heap.size ∧ ∀ i, i < l.length → w.cell? ⟨b, off + i, none⟩ = some (.bool (bt l i))
theorem Bl.keep {w w' : World} {ao : Option Addr} {l : List Bool} (h : Bl w ao l) (hb : Below w.heap.size w w') : Bl w' ao l := by
  intro hi
  obtain ⟨b, off, e, hlt, hc⟩ := h hi
  exact ⟨b, off, e, Nat.lt_of_lt_of_le hlt hb.size, fun i hi => (hb.cell (p := ⟨b, off + i, none⟩) hlt).trans (hc i hi)⟩

def fromS (l : List Bool) (q : Nat) : List Nat := rowOf l.length (fun j => decide (j < q) && bt l j)

theorem length_fromS (l : List Bool) (q : Nat) : (fromS l q).length = (l.length + 63) / 64 := length_rowOf _ _

theorem fit_fromS (l : List Bool) (q : Nat) : Fit (fromS l q) := fit_rowOf _ _

theorem from_step (l : List Bool) (q : Nat) (hq : q < l.length) (hl : l.length ≤ 1048576) (hb : bt l q = true) : (fromS l q).set (q / 64) (gt (fromS l q) (q / 64) ||| 2 ^ (q % 64)) = fromS l (q + 1) := by
  have e := set_row_true l.length (fromS l q) (fit_rowOf _ _) (chk_rowOf _ _ hl) q (by omega)
  rw [e, Int.toNat_natCast]
  refine rowOf_congr _ _ _ fun i hi => ?_
  unfold fromS
  rw [bitAt_rowOf]
  by_cases c : i = q
  · subst c; simp [hb]
  · rw [if_neg c]
    by_cases c2 : i < q
    · simp [hi, c2, show i < q + 1 by omega]
    · simp [c2, show ¬ i < q + 1 by omega]

theorem from_skip (l : List Bool) (q : Nat) (hb : bt l q = false) : fromS l q = fromS l (q + 1) := by
  refine rowOf_congr _ _ _ fun i _ => ?_
  by_cases c : i = q
  · subst c; simp [hb]
  · by_cases c2 : i < q
    · simp [c2, show i < q + 1 by omega]
    · simp [c2, show ¬ i < q + 1 by omega]

def frL (l : List Bool) : List Nat := rowOf l.length (bt l)

theorem fromS_all (l : List Bool) : fromS l l.length = frL l := rowOf_congr _ _ _ fun i hi => by simp [hi]

end Go.Proofs.Ytmdmjbpehbjgpaa
