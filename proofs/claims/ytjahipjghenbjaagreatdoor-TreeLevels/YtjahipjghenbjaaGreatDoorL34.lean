/-
  The contracts of the program's sought, and of the functions that it hands to Search and to along. The contracts of the program's sought, and of the function that it hands to along. The contract of the program's Select of rows in blocks. The contracts of the program's Bits of rows in blocks, and of the function that it hands to along.
-/
import Derived.Test.YtjahipjghenbjaaGreatDoorL33
set_option linter.unusedVariables false
set_option linter.unusedSimpArgs false
set_option maxRecDepth 100000
set_option maxHeartbeats 16000000
namespace Go.Proofs.YtjahipjghenbjaaGreatDoor
open Go.RowKit Num Bit Bn
def rowP (n : Nat) (F : Nat → Bool) (p : Nat) : List Nat := rowOf n fun j => decide (j < p) && F j
theorem length_rowP (n : Nat) (F : Nat → Bool) (p : Nat) : (rowP n F p).length = (n + 63) / 64 := length_rowOf _ _
theorem fit_rowP (n : Nat) (F : Nat → Bool) (p : Nat) : Fit (rowP n F p) := fit_rowOf _ _
theorem rowP_zero (n : Nat) (F : Nat → Bool) : rowP n F 0 = rowOf n fun _ => false := rowOf_congr _ _ _ fun i _ => by simp
theorem rowP_all (n : Nat) (F : Nat → Bool) : rowP n F n = rowOf n F := rowOf_congr _ _ _ fun i hi => by simp [hi]
theorem rowP_room (n : Nat) (F : Nat → Bool) (p d x : Nat) (hd : d ≤ 64) (hp : p + d ≤ n) (hx : x < 2 ^ d) : Room (rowP n F p) p x :=
 room_of _ _ _ d hx hd (by rw [length_rowP]; omega)
theorem rowP_put (n : Nat) (F : Nat → Bool) (p d x : Nat) (hd : d ≤ 64) (hp : p + d ≤ n) (hx : x < 2 ^ d) (hb : ∀ t, t < d → x.testBit t = F (p + t)) : putL (rowP n F p) p x = rowP n F (p + d) := by
 have hR := rowP_room n F p d x hd hp hx
 have h64 : x < 18446744073709551616 := Nat.lt_of_lt_of_le hx (Nat.pow_le_pow_right (n := 2) (j := 64) (by decide) hd)
 refine eq_rowOf n _ _ (fit_putL _ (fit_rowP _ _ _) _ _ h64 hR) (by rw [length_putL, length_rowP]) fun i _ => ?_
 rw [bitAt_putL _ _ _ h64 hR]
 unfold rowP
 rw [bitAt_rowOf]
 by_cases c : i < p
 ·simp [c, show i < p + d by omega, show ¬ p ≤ i by omega]
 ·by_cases e : i < p + d
  ·have := hb (i - p) (by omega)
   rw [show p + (i - p) = i by omega] at this
   simp [c, e, show p ≤ i by omega, this, show i < n by omega]
  ·have : x < 2 ^ (i - p) := Nat.lt_of_lt_of_le hx (Nat.pow_le_pow_right (by decide) (by omega))
   rw [Nat.testBit_lt_two_pow this]
   simp [c, e]
theorem Turned.cel {g b : Nat} {w w' : World} {cs : List Value} {T : TypeId} (h : Turned g w w') (hc : Cel w b cs T) (hb : b ≠ g) : Cel w' b cs T := (h.block b hb).trans hc
end Go.Proofs.YtjahipjghenbjaaGreatDoor
