/-
  The document's codes as lists of bits: low, gamma, delta.
-/
import Derived.Test.YtmdmjbpehbjgpaaSt1
import Derived.Test.YtmdmjbpehbjgpaaRefJoin
namespace Go.Proofs.Ytmdmjbpehbjgpaa
open Go.RowKit Num Bit
set_option linter.unusedVariables false
set_option linter.unusedSimpArgs false
set_option maxRecDepth 100000

def lowL (x n : Nat) : List Bool := (List.range n).map (fun i => x.testBit i)
def gamL (x : Nat) : List Bool := List.replicate (bl x - 1) false ++ [true] ++ lowL x (bl x - 1)
def codL (d : Bool) (x : Nat) : List Bool := if d then gamL (bl x) ++ lowL x (bl x - 1) else gamL x

theorem length_lowL (x n : Nat) : (lowL x n).length = n := by simp [lowL]
theorem lowL_succ (x n : Nat) : bv (lowL x n) ++ [.bool (x.testBit n)] = bv (lowL x (n + 1)) := by simp [lowL, bv, List.range_succ]
theorem bt_lowL (x n j : Nat) (h : j < n) : bt (lowL x n) j = x.testBit j := by simp [bt, lowL, List.getD_eq_getElem?_getD, h]
theorem bt_append (l m : List Bool) (j : Nat) : bt (l ++ m) j = if j < l.length then bt l j else bt m (j - l.length) := by
  unfold bt
  rw [List.getD_eq_getElem?_getD, List.getD_eq_getElem?_getD, List.getD_eq_getElem?_getD]
  split
  · rename_i h; rw [List.getElem?_append_left h]
  · rename_i h; rw [List.getElem?_append_right (by omega)]
theorem length_gamL (x : Nat) (h : x ≠ 0) : (gamL x).length = gL x := by
  have := bl_pos x h
  simp [gamL, length_lowL, gL]; omega
theorem bt_gamL (x : Nat) (h : x ≠ 0) (j : Nat) (hj : j < gL x) : bt (gamL x) j = gF x j := by
  have p := bl_pos x h
  unfold gL at hj
  unfold gamL gF
  rw [bt_append, bt_append]
  have e1 : (List.replicate (bl x - 1) false ++ [true]).length = bl x := by simp; omega
  rw [e1]
  split
  · rename_i h1
    rw [List.length_replicate]
    split
    · rename_i h2
      have : bt (List.replicate (bl x - 1) false) j = false := by simp [bt, List.getD_eq_getElem?_getD, h2]
      rw [this]; simp; omega
    · rename_i h2
      have : j - (bl x - 1) = 0 := by omega
      rw [this]; simp [bt]; omega
  · rename_i h1
    rw [bt_lowL _ _ _ (by omega)]
theorem length_codL (d : Bool) (x : Nat) (h : x ≠ 0) : (codL d x).length = cL d x := by
  have p := bl_pos x h
  unfold codL cL
  rw [if_neg h]
  cases d
  · simp [length_gamL x h]
  · simp [length_gamL (bl x) (by omega), length_lowL]
theorem frL_codL (d : Bool) (x : Nat) (h : x ≠ 0) : frL (codL d x) = cR d x := by
  have p := bl_pos x h
  unfold frL cR
  rw [length_codL d x h]
  refine rowOf_congr _ _ _ fun j hj => ?_
  unfold cL at hj
  rw [if_neg h] at hj
  cases d with
  | false =>
    simp only [Bool.false_eq_true, if_false] at hj
    simp only [codL, cF, Bool.false_eq_true, if_false]
    exact bt_gamL x h j hj
  | true =>
    simp only [if_true] at hj
    simp only [codL, cF, if_true]
    rw [bt_append, length_gamL (bl x) (by omega)]
    split
    · rename_i h1; exact bt_gamL (bl x) (by omega) j h1
    · rename_i h1; exact bt_lowL _ _ _ (by omega)
end Go.Proofs.Ytmdmjbpehbjgpaa
