/-
  Plain arithmetic of rows of bits: words of 64 bits in a list, the bit at a place, the row of given bits, counts. Nothing of the program is in here.
-/
import Derived.Test.YtbkagloonlddfaaNum
namespace Go.Proofs.Ytbkagloonlddfaa
open Num
namespace Bit

def gt (xs : List Nat) (i : Nat) : Nat := xs.getD i 0
def bitAt (xs : List Nat) (i : Nat) : Bool := (gt xs (i / 64)).testBit (i % 64)
def Fit (xs : List Nat) : Prop := ∀ i, gt xs i < 18446744073709551616

def chk (N : Int) (xs : List Nat) : Bool := decide (0 ≤ N ∧ N ≤ 1048576 ∧ (xs.length : Int) = (N + 63) / 64 ∧ (N % 64 = 0 ∨ gt xs (xs.length - 1) < 2 ^ (N % 64).toNat))

def numOf : Nat → (Nat → Bool) → Nat
  | 0, _ => 0
  | n + 1, f => numOf n f + if f n then 2 ^ n else 0

theorem numOf_lt (n : Nat) (f : Nat → Bool) : numOf n f < 2 ^ n := by
  induction n with
  | zero => simp [numOf]
  | succ n ih => simp only [numOf, Nat.pow_succ]; split <;> omega

theorem numOf_congr (n : Nat) (f g : Nat → Bool) (h : ∀ k, k < n → f k = g k) : numOf n f = numOf n g := by
  induction n with
  | zero => rfl
  | succ n ih => simp only [numOf]; rw [ih (fun k hk => h k (by omega)), h n (by omega)]

theorem testBit_numOf (n : Nat) (f : Nat → Bool) (k : Nat) : (numOf n f).testBit k = (decide (k < n) && f k) := by
  induction n with
  | zero => simp [numOf]
  | succ n ih =>
    simp only [numOf]
    have hlt := numOf_lt n f
    by_cases hf : f n = true
    · rw [if_pos hf, Nat.add_comm]
      have e : 2 ^ n + numOf n f = 2 ^ n ||| numOf n f := by
        have := Nat.two_pow_add_eq_or_of_lt hlt 1
        simpa using this
      rw [e, Nat.testBit_or, Nat.testBit_two_pow, ih]
      by_cases hk : n = k
      · subst hk; simp [hf]
      · by_cases h2 : k < n
        · simp [hk, h2, show k < n + 1 by omega]
        · simp [hk, h2, show ¬ k < n + 1 by omega]
    · rw [if_neg hf, Nat.add_zero, ih]
      by_cases hk : n = k
      · subst hk; simp [hf]
      · by_cases h2 : k < n
        · simp [h2, show k < n + 1 by omega]
        · simp [h2, show ¬ k < n + 1 by omega]

theorem eq_numOf (n x : Nat) (f : Nat → Bool) (h : ∀ k, x.testBit k = (decide (k < n) && f k)) : x = numOf n f := by
  refine Nat.eq_of_testBit_eq fun k => ?_
  rw [h k, testBit_numOf]

theorem eq_of_bits (x y : Nat) (hx : x < 18446744073709551616) (hy : y < 18446744073709551616) (h : ∀ k, k < 64 → x.testBit k = y.testBit k) : x = y := by
  refine Nat.eq_of_testBit_eq fun k => ?_
  by_cases hk : k < 64
  · exact h k hk
  · have p : 18446744073709551616 ≤ 2 ^ k := Nat.pow_le_pow_right (n := 2) (by decide) (show 64 ≤ k by omega)
    rw [Nat.testBit_lt_two_pow (by omega), Nat.testBit_lt_two_pow (by omega)]

def rowOf (n : Nat) (f : Nat → Bool) : List Nat := (List.range ((n + 63) / 64)).map fun j => numOf 64 fun k => decide (64 * j + k < n) && f (64 * j + k)

theorem length_rowOf (n : Nat) (f : Nat → Bool) : (rowOf n f).length = (n + 63) / 64 := by simp [rowOf]

theorem gt_rowOf (n : Nat) (f : Nat → Bool) (j : Nat) : gt (rowOf n f) j = if j < (n + 63) / 64 then numOf 64 (fun k => decide (64 * j + k < n) && f (64 * j + k)) else 0 := by
  unfold gt rowOf
  by_cases h : j < (n + 63) / 64
  · rw [if_pos h, List.getD_eq_getElem?_getD, List.getElem?_map, List.getElem?_range h]; rfl
  · rw [if_neg h, List.getD_eq_getElem?_getD, List.getElem?_eq_none (by simp; omega)]; rfl

theorem bitAt_rowOf (n : Nat) (f : Nat → Bool) (i : Nat) : bitAt (rowOf n f) i = (decide (i < n) && f i) := by
  unfold bitAt
  rw [gt_rowOf]
  have hm : i % 64 < 64 := Nat.mod_lt _ (by decide)
  have hd : 64 * (i / 64) + i % 64 = i := Nat.div_add_mod i 64
  by_cases h : i / 64 < (n + 63) / 64
  · rw [if_pos h, testBit_numOf, hd]
    simp [hm]
  · rw [if_neg h, Nat.zero_testBit, show decide (i < n) = false by simp; omega]
    rfl

theorem fit_rowOf (n : Nat) (f : Nat → Bool) : Fit (rowOf n f) := by
  intro j
  rw [gt_rowOf]
  split
  · exact numOf_lt 64 _
  · decide

theorem gt_out (xs : List Nat) (i : Nat) (h : xs.length ≤ i) : gt xs i = 0 := by
  unfold gt; rw [List.getD_eq_getElem?_getD, List.getElem?_eq_none h]; rfl

theorem gt_get (xs : List Nat) (i : Nat) (h : i < xs.length) : xs[i]? = some (gt xs i) := by
  unfold gt; rw [List.getD_eq_getElem?_getD, List.getElem?_eq_getElem h]; rfl

theorem gt_set (xs : List Nat) (i j v : Nat) (h : i < xs.length) : gt (xs.set i v) j = if i = j then v else gt xs j := by
  unfold gt
  rw [List.getD_eq_getElem?_getD, List.getD_eq_getElem?_getD, List.getElem?_set]
  by_cases e : i = j
  · subst e; simp [h]
  · simp [e]

theorem list_ext (xs ys : List Nat) (hl : xs.length = ys.length) (h : ∀ i, i < xs.length → gt xs i = gt ys i) : xs = ys := by
  refine List.ext_getElem? fun i => ?_
  by_cases hi : i < xs.length
  · rw [gt_get xs i hi, gt_get ys i (by omega), h i hi]
  · rw [List.getElem?_eq_none (by omega), List.getElem?_eq_none (by omega)]

/-- Words of the right number, all bits as they should be: the row. -/
theorem eq_rowOf (n : Nat) (f : Nat → Bool) (xs : List Nat) (hg : Fit xs) (hl : xs.length = (n + 63) / 64) (h : ∀ i, i < 64 * xs.length → bitAt xs i = (decide (i < n) && f i)) : xs = rowOf n f := by
  refine list_ext _ _ (by rw [length_rowOf]; exact hl) fun j hj => ?_
  refine eq_of_bits _ _ (hg j) (fit_rowOf n f j) fun k hk => ?_
  have h1 := h (64 * j + k) (by omega)
  have h2 := bitAt_rowOf n f (64 * j + k)
  unfold bitAt at h1 h2
  rw [show (64 * j + k) / 64 = j by omega, show (64 * j + k) % 64 = k by omega] at h1 h2
  rw [h1, h2]

theorem rowOf_congr (n : Nat) (f g : Nat → Bool) (h : ∀ i, i < n → f i = g i) : rowOf n f = rowOf n g := by
  refine eq_rowOf n g _ (fit_rowOf n f) (length_rowOf n f) fun i _ => ?_
  rw [bitAt_rowOf]
  by_cases hi : i < n
  · rw [h i hi]
  · simp [hi]

theorem chk_out (N : Int) (xs : List Nat) (h : chk N xs = true) : 0 ≤ N ∧ N ≤ 1048576 ∧ (xs.length : Int) = (N + 63) / 64 ∧ (N % 64 = 0 ∨ gt xs (xs.length - 1) < 2 ^ (N % 64).toNat) := by
  unfold chk at h; exact of_decide_eq_true h

/-- Behind N no bit of a row that may be is 1. -/
theorem chk_high (N : Int) (xs : List Nat) (h : chk N xs = true) (i : Nat) (hi : N ≤ (i : Int)) : bitAt xs i = false := by
  obtain ⟨h0, h1, hl, ht⟩ := chk_out N xs h
  unfold bitAt
  by_cases hlt : i / 64 < xs.length
  · have e : i / 64 = xs.length - 1 := by omega
    rcases ht with ht | ht
    · omega
    · rw [e]
      refine Nat.testBit_lt_two_pow (Nat.lt_of_lt_of_le ht (Nat.pow_le_pow_right (by decide) ?_))
      omega
  · rw [gt_out xs _ (by omega), Nat.zero_testBit]

/-- A row that may be is the row of its bits. -/
theorem chk_row (N : Int) (xs : List Nat) (hg : Fit xs) (h : chk N xs = true) : xs = rowOf N.toNat (bitAt xs) := by
  obtain ⟨h0, h1, hl, _⟩ := chk_out N xs h
  refine eq_rowOf _ _ xs hg (by omega) fun i _ => ?_
  by_cases hi : i < N.toNat
  · simp [hi]
  · rw [chk_high N xs h i (by omega)]; simp [hi]

theorem chk_rowOf (n : Nat) (f : Nat → Bool) (h : n ≤ 1048576) : chk (n : Int) (rowOf n f) = true := by
  unfold chk
  rw [decide_eq_true_eq, length_rowOf]
  refine ⟨by omega, by omega, by omega, ?_⟩
  by_cases hz : n % 64 = 0
  · exact .inl (by omega)
  · refine .inr ?_
    refine Nat.lt_pow_two_of_testBit _ fun k hk => ?_
    by_cases hk2 : k < 64
    · have e := bitAt_rowOf n f (64 * ((n + 63) / 64 - 1) + k)
      unfold bitAt at e
      rw [show (64 * ((n + 63) / 64 - 1) + k) / 64 = (n + 63) / 64 - 1 by omega, show (64 * ((n + 63) / 64 - 1) + k) % 64 = k by omega] at e
      rw [e, show decide (64 * ((n + 63) / 64 - 1) + k < n) = false by simp; omega]
      rfl
    · exact Nat.testBit_lt_two_pow (Nat.lt_of_lt_of_le (fit_rowOf n f _) (Nat.pow_le_pow_right (n := 2) (by decide) (show 64 ≤ k by omega)))

/-- How many of the first bits are 1. -/
def cntB (xs : List Nat) : Nat → Nat
  | 0 => 0
  | k + 1 => cntB xs k + if bitAt xs k then 1 else 0

theorem bit_test (x i : Nat) : x.testBit i = decide (x / 2 ^ i % 2 = 1) := by
  rw [Nat.testBit_eq_decide_div_mod_eq]

theorem cntB_word (xs : List Nat) (k r : Nat) (hr : r ≤ 64) : cntB xs (64 * k + r) = cntB xs (64 * k) + cnt (gt xs k) r := by
  induction r with
  | zero => rfl
  | succ r ih =>
    rw [← Nat.add_assoc]
    simp only [cntB, cnt]
    rw [ih (by omega)]
    unfold bitAt
    rw [show (64 * k + r) / 64 = k by omega, show (64 * k + r) % 64 = r by omega, bit_test]
    have : gt xs k / 2 ^ r % 2 < 2 := Nat.mod_lt _ (by decide)
    by_cases h : gt xs k / 2 ^ r % 2 = 1
    · simp [h]; omega
    · have h0 : gt xs k / 2 ^ r % 2 = 0 := by omega
      simp [h0]

theorem cntB_le (xs : List Nat) (k : Nat) : cntB xs k ≤ k := by
  induction k with
  | zero => exact Nat.le_refl _
  | succ k ih => simp only [cntB]; split <;> omega

theorem cntB_mono (xs : List Nat) (k d : Nat) : cntB xs k ≤ cntB xs (k + d) := by
  induction d with
  | zero => exact Nat.le_refl _
  | succ d ih => rw [← Nat.add_assoc]; simp only [cntB]; omega

theorem cntB_congr (xs ys : List Nat) (k : Nat) (h : ∀ i, i < k → bitAt xs i = bitAt ys i) : cntB xs k = cntB ys k := by
  induction k with
  | zero => rfl
  | succ k ih => simp only [cntB]; rw [ih (fun i hi => h i (by omega)), h k (by omega)]

def onesI (N : Int) (xs : List Nat) (n : Int) : Int := if chk N xs then (cntB xs (min n N).toNat : Int) else 0
def getE (N : Int) (xs : List Nat) (i : Int) : Int := if chk N xs = false then 2 else if i < 0 ∨ N ≤ i then 3 else 0
def getB (N : Int) (xs : List Nat) (i : Int) : Bool := chk N xs && (decide (0 ≤ i ∧ i < N) && bitAt xs i.toNat)
def slcE (N : Int) (xs : List Nat) (at_ n : Int) : Int := if chk N xs = false ∨ n < 0 ∨ 64 < n then 2 else if at_ < 0 ∨ N - n < at_ then 3 else 0
def slcX (N : Int) (xs : List Nat) (at_ n : Int) : Nat := if slcE N xs at_ n = 0 then numOf n.toNat (fun k => bitAt xs (at_.toNat + k)) else 0
def setL (N : Int) (xs : List Nat) (i : Int) (x : Bool) : List Nat := if getE N xs i = 0 then rowOf N.toNat (fun j => if j = i.toNat then x else bitAt xs j) else xs
def appE (N : Int) (xs : List Nat) (n : Int) : Int := if chk N xs = false ∨ n < 0 ∨ 64 < n ∨ 1048576 < N + n then 2 else 0
def appN (N : Int) (xs : List Nat) (n : Int) : Int := if appE N xs n = 0 then N + n else N
def appL (N : Int) (xs : List Nat) (x : Nat) (n : Int) : List Nat := if appE N xs n = 0 then rowOf (N + n).toNat (fun j => if j < N.toNat then bitAt xs j else x.testBit (j - N.toNat)) else xs
def joinE (N : Int) (xs : List Nat) (M : Int) (ys : List Nat) : Int := if chk N xs = false ∨ chk M ys = false ∨ 1048576 < N + M then 2 else 0
def joinN (N : Int) (xs : List Nat) (M : Int) (ys : List Nat) : Int := if joinE N xs M ys = 0 then N + M else N
def joinL (N : Int) (xs : List Nat) (M : Int) (ys : List Nat) : List Nat := if joinE N xs M ys = 0 then rowOf (N + M).toNat (fun j => if j < N.toNat then bitAt xs j else bitAt ys (j - N.toNat)) else xs
def newE (n : Int) : Int := if n < 0 ∨ 1048576 < n then 2 else 0
def newN (n : Int) : Int := if newE n = 0 then n else 0
def newL (n : Int) : List Nat := if newE n = 0 then rowOf n.toNat (fun _ => false) else []
def fromN (l : List Bool) : Int := if newE l.length = 0 then l.length else 0
def fromL (l : List Bool) : List Nat := if newE l.length = 0 then rowOf l.length (fun i => l.getD i false) else []
end Bit
end Go.Proofs.Ytbkagloonlddfaa
