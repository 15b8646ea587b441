/-
  The contracts of the program's count, Access, Rank and Size of rows in blocks. The contracts of the program's Access, Rank and Size of rows in blocks. The contracts of the program's sought, and of the functions that it hands to Search and to along. The contracts of the program's sought, and of the function that it hands to along. The contract of the program's Select of rows in blocks. The contracts of the program's Bits of rows in blocks, and of the function that it hands to along. The contract of the program's Bits of rows in blocks. Slices of structs of two cells.
-/
import Derived.Test.YtfnkklkdajlhlaaGreatDoorL20
import Derived.Test.YtfnkklkdajlhlaaGreatDoorL04
import Derived.Test.YtfnkklkdajlhlaaGreatDoorL02
set_option linter.unusedVariables false
set_option linter.unusedSimpArgs false
set_option maxRecDepth 100000
set_option maxHeartbeats 16000000
namespace Go.Proofs.YtfnkklkdajlhlaaGreatDoor
open Go.RowKit Num Bit Bn
theorem blv_lt64 (m : Nat) (f : Nat → Bool) (i : Nat) : blv m f i < 18446744073709551616 := by have := blv_lt m f i; omega
def rowP (n : Nat) (F : Nat → Bool) (p : Nat) : List Nat := rowOf n fun j => decide (j < p) && F j
theorem length_rowP (n : Nat) (F : Nat → Bool) (p : Nat) : (rowP n F p).length = (n + 63) / 64 := length_rowOf _ _
theorem fit_rowP (n : Nat) (F : Nat → Bool) (p : Nat) : Fit (rowP n F p) := fit_rowOf _ _
theorem rowP_zero (n : Nat) (F : Nat → Bool) : rowP n F 0 = rowOf n fun _ => false := rowOf_congr _ _ _ fun i _ => by simp
theorem rowP_all (n : Nat) (F : Nat → Bool) : rowP n F n = rowOf n F := rowOf_congr _ _ _ fun i hi => by simp [hi]
theorem rowP_room (n : Nat) (F : Nat → Bool) (p d x : Nat) (hd : d ≤ 64) (hp : p + d ≤ n) (hx : x < 2 ^ d) : Room (rowP n F p) p x :=
 room_of _ _ _ d hx hd (by rw [length_rowP]; omega)
theorem rowP_put (n : Nat) (F : Nat → Bool) (p d x : Nat) (hd : d ≤ 64) (hp : p + d ≤ n) (hx : x < 2 ^ d) (hb : ∀ t, t < d → x.testBit t = F (p + t)) : putL (rowP n F p) p x = rowP n F (p + d) := by
 have hR := rowP_room n F p d x hd hp hx
 have h64 : x < 18446744073709551616 := Nat.lt_of_lt_of_le hx (Nat.pow_le_pow_right (n := 2) (j := 64) (by decide) hd)
 refine eq_rowOf n _ _ (fit_putL _ (fit_rowP _ _ _) _ _ h64 hR) (by rw [length_putL, length_rowP]) fun i _ => ?_
 rw [bitAt_putL _ _ _ h64 hR]
 unfold rowP
 rw [bitAt_rowOf]
 by_cases c : i < p
 ·simp [c, show i < p + d by omega, show ¬ p ≤ i by omega]
 ·by_cases e : i < p + d
  ·have := hb (i - p) (by omega)
   rw [show p + (i - p) = i by omega] at this
   simp [c, e, show p ≤ i by omega, this, show i < n by omega]
  ·have : x < 2 ^ (i - p) := Nat.lt_of_lt_of_le hx (Nat.pow_le_pow_right (by decide) (by omega))
   rw [Nat.testBit_lt_two_pow this]
   simp [c, e]
theorem Turned.tb {g b : Nat} {w w' : World} {cs : List Value} (h : Turned g w w') (hc : Tb w b cs) (hb : b ≠ g) : Tb w' b cs := by
 obtain ⟨T, hc⟩ := hc
 exact ⟨T, (h.block b hb).trans hc⟩
theorem Turned.cel {g b : Nat} {w w' : World} {cs : List Value} {T : TypeId} (h : Turned g w w') (hc : Cel w b cs T) (hb : b ≠ g) : Cel w' b cs T := (h.block b hb).trans hc
end Go.Proofs.YtfnkklkdajlhlaaGreatDoor
namespace Go.Proofs.YtfnkklkdajlhlaaGreatDoor
open Go.RowKit Num Bit
def bl2 (n : Nat) (a b : Nat → Value) : List Value := (List.range (n * 2)).map fun j => if j % 2 = 0 then a (j / 2) else b (j / 2)
theorem length_bl2 (n : Nat) (a b : Nat → Value) : (bl2 n a b).length = n * 2 := by simp [bl2]
theorem bl2_get (n : Nat) (a b : Nat → Value) (j : Nat) (h : j < n * 2) : (bl2 n a b)[j]? = some (if j % 2 = 0 then a (j / 2) else b (j / 2)) := by
 unfold bl2
 rw [List.getElem?_map, List.getElem?_range h]
 rfl
theorem bl2_fst (n : Nat) (a b : Nat → Value) (i : Nat) (h : i < n) : (bl2 n a b)[i * 2]? = some (a i) := by
 rw [bl2_get n a b (i * 2) (by omega), if_pos (by omega), show i * 2 / 2 = i by omega]
theorem bl2_snd (n : Nat) (a b : Nat → Value) (i : Nat) (h : i < n) : (bl2 n a b)[i * 2 + 1]? = some (b i) := by
 rw [bl2_get n a b (i * 2 + 1) (by omega), if_neg (by omega), show (i * 2 + 1) / 2 = i by omega]
theorem bl2_set (n : Nat) (a b a' b' : Nat → Value) (i : Nat) (h : i < n) (ha : ∀ j, j ≠ i → a' j = a j) (hb : ∀ j, j ≠ i → b' j = b j) : ((bl2 n a b).set (i * 2) (a' i)).set (i * 2 + 1) (b' i) = bl2 n a' b' := by
 refine List.ext_getElem? fun j => ?_
 by_cases c : j < n * 2
 ·rw [bl2_get n a' b' j c, List.getElem?_set, List.getElem?_set]
  by_cases c1 : i * 2 + 1 = j
  ·subst c1
   rw [if_pos rfl, List.length_set, length_bl2, if_pos c, if_neg (by omega), show (i * 2 + 1) / 2 = i by omega]
  ·rw [if_neg c1]
   by_cases c2 : i * 2 = j
   ·subst c2
    rw [if_pos rfl, length_bl2, if_pos c, if_pos (by omega), show i * 2 / 2 = i by omega]
   ·rw [if_neg c2, bl2_get n a b j c, ha (j / 2) (by omega), hb (j / 2) (by omega)]
 ·rw [List.getElem?_eq_none (by rw [List.length_set, List.length_set, length_bl2]; omega), List.getElem?_eq_none (by rw [length_bl2]; omega)]
theorem bl2_made (n : Nat) (x y : Value) : (madeCells #[x, y] (n * 2)).toList = bl2 n (fun _ => x) (fun _ => y) := by
 unfold madeCells bl2
 rw [Array.toList_map, Array.toList_range]
 refine List.map_congr_left fun j _ => ?_
 show #[x, y][j % 2]! = _
 rcases Nat.mod_two_eq_zero_or_one j with e | e
 ·rw [e]; rfl
 ·rw [e]; rfl
theorem cel_made {w : World} {base g n : Nat} {E : TypeId} {x y : Value} (h : w.ownsRow base E 2 (.slice (some ⟨g, 0, none⟩) n n) n (madeCells #[x, y] (n * 2)).toList) : Cel w g (bl2 n (fun _ => x) (fun _ => y)) E := by
 obtain ⟨_, h | ⟨g', cap, cur, e, _, hh, _, _, hs, ht⟩⟩ := h
 ·simp at h
 ·simp only [Value.slice.injEq, Option.some.injEq, Addr.mk.injEq] at e
  obtain ⟨⟨rfl, _, _⟩, _, rfl⟩ := e
  unfold Cel
  rw [hh, ← bl2_made n x y, ← ht]
  have e3 : cur.toList.take (n * 2) = cur.toList := List.take_of_length_le (by simp; omega)
  rw [e3]
end Go.Proofs.YtfnkklkdajlhlaaGreatDoor
