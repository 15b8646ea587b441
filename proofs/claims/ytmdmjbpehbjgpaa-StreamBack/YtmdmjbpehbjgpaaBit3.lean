/-
  Plain arithmetic of rows of bits, more: what is laid over words (put), words that are copied, and the rows that append and join make.
-/
import Derived.Test.YtmdmjbpehbjgpaaBit2
namespace Go.Proofs.Ytmdmjbpehbjgpaa
open Num
namespace Bit

def cp (xs : List Nat) (n : Nat) : List Nat := xs.take n ++ List.replicate (n - xs.length) 0

theorem length_cp (xs : List Nat) (n : Nat) : (cp xs n).length = n := by simp [cp]; omega

theorem cp_self (xs : List Nat) : cp xs xs.length = xs := by simp [cp]

theorem gt_cp (xs : List Nat) (n i : Nat) (h : i < n) : gt (cp xs n) i = gt xs i := by
  unfold gt cp
  rw [List.getD_eq_getElem?_getD, List.getD_eq_getElem?_getD]
  by_cases hi : i < xs.length
  · rw [List.getElem?_append_left (by simp; omega), List.getElem?_take_of_lt h]
  · rw [List.getElem?_append_right (by simp; omega), List.getElem?_replicate, List.getElem?_eq_none (l := xs) (by omega)]
    split <;> rfl

theorem fit_cp (xs : List Nat) (hf : Fit xs) (n : Nat) : Fit (cp xs n) := by
  intro i
  by_cases h : i < n
  · rw [gt_cp xs n i h]; exact hf i
  · rw [gt_out _ _ (by rw [length_cp]; omega)]; decide

/-- What put makes of the words. -/
def putL (ys : List Nat) (p x : Nat) : List Nat :=
  let a := if x * 2 ^ (p % 64) % 18446744073709551616 = 0 then ys else ys.set (p / 64) (gt ys (p / 64) ||| x * 2 ^ (p % 64) % 18446744073709551616)
  if x / 2 ^ (64 - p % 64) = 0 then a else a.set (p / 64 + 1) (gt a (p / 64 + 1) ||| x / 2 ^ (64 - p % 64))

theorem length_putL (ys : List Nat) (p x : Nat) : (putL ys p x).length = ys.length := by
  unfold putL
  simp only
  split <;> split <;> simp

def Room (ys : List Nat) (p x : Nat) : Prop := (x * 2 ^ (p % 64) % 18446744073709551616 ≠ 0 → p / 64 < ys.length) ∧ (x / 2 ^ (64 - p % 64) ≠ 0 → p / 64 + 1 < ys.length)

theorem gt_putL (ys : List Nat) (p x : Nat) (h : Room ys p x) (j : Nat) :
    gt (putL ys p x) j = gt ys j ||| (if j = p / 64 then x * 2 ^ (p % 64) % 18446744073709551616 else if j = p / 64 + 1 then x / 2 ^ (64 - p % 64) else 0) := by
  obtain ⟨h1, h2⟩ := h
  unfold putL
  simp only
  by_cases c1 : x * 2 ^ (p % 64) % 18446744073709551616 = 0
  · rw [if_pos c1]
    by_cases c2 : x / 2 ^ (64 - p % 64) = 0
    · rw [if_pos c2, c1, c2]; split <;> (try split) <;> simp
    · rw [if_neg c2, gt_set _ _ _ _ (h2 c2), c1]
      by_cases e : j = p / 64
      · rw [if_pos e, if_neg (by omega)]; simp
      · rw [if_neg e]
        by_cases e2 : j = p / 64 + 1
        · rw [if_pos e2, if_pos e2.symm, e2]
        · rw [if_neg e2, if_neg (fun q => e2 q.symm)]; simp
  · rw [if_neg c1]
    have hl := h1 c1
    by_cases c2 : x / 2 ^ (64 - p % 64) = 0
    · rw [if_pos c2, gt_set _ _ _ _ hl, c2]
      by_cases e : j = p / 64
      · rw [if_pos e, if_pos e.symm, e]
      · rw [if_neg e, if_neg (fun q => e q.symm)]; split <;> simp
    · rw [if_neg c2, gt_set _ _ _ _ (by rw [List.length_set]; exact h2 c2), gt_set _ _ _ _ hl, gt_set _ _ _ _ hl]
      by_cases e : j = p / 64
      · rw [if_pos e, if_neg (by omega), if_pos e.symm, e]
      · rw [if_neg e, if_neg (show ¬ p / 64 = j from fun q => e q.symm), if_neg (show ¬ p / 64 = p / 64 + 1 by omega)]
        by_cases e2 : j = p / 64 + 1
        · rw [if_pos e2, if_pos e2.symm, e2]
        · rw [if_neg e2, if_neg (fun q => e2 q.symm)]; simp

theorem fit_putL (ys : List Nat) (hf : Fit ys) (p x : Nat) (hx : x < 18446744073709551616) (h : Room ys p x) : Fit (putL ys p x) := by
  intro j
  rw [gt_putL ys p x h j]
  refine or_lt _ _ (hf j) ?_
  split
  · exact Nat.mod_lt _ (by decide)
  · split
    · exact Nat.lt_of_le_of_lt (Nat.div_le_self _ _) hx
    · decide

theorem bitAt_putL (ys : List Nat) (p x : Nat) (hx : x < 18446744073709551616) (h : Room ys p x) (i : Nat) : bitAt (putL ys p x) i = (bitAt ys i || (decide (p ≤ i) && x.testBit (i - p))) := by
  unfold bitAt
  rw [gt_putL ys p x h, Nat.testBit_or]
  congr 1
  have hm : i % 64 < 64 := Nat.mod_lt _ (by decide)
  by_cases e : i / 64 = p / 64
  · rw [if_pos e, test_shl _ _ _ hm]
    by_cases c : p ≤ i
    · rw [show decide (p % 64 ≤ i % 64) = true by simp; omega, show decide (p ≤ i) = true by simpa using c, show i % 64 - p % 64 = i - p by omega]
    · rw [show decide (p % 64 ≤ i % 64) = false by simp; omega, show decide (p ≤ i) = false by simpa using c]; rfl
  · rw [if_neg e]
    by_cases e2 : i / 64 = p / 64 + 1
    · rw [if_pos e2, test_shr, show decide (p ≤ i) = true by simp; omega, show 64 - p % 64 + i % 64 = i - p by omega]; rfl
    · rw [if_neg e2, Nat.zero_testBit]
      by_cases c : p ≤ i
      · rw [test_big x _ hx (by omega)]; simp
      · simp [c]

theorem room_of (ys : List Nat) (p x m : Nat) (hx : x < 2 ^ m) (hm : m ≤ 64) (hl : p + m ≤ 64 * ys.length) : Room ys p x := by
  have hp : 0 < 2 ^ (64 - p % 64) := Nat.pow_pos (by decide)
  constructor
  · intro h
    by_cases c : m = 0
    · subst c
      have : x = 0 := by simpa using hx
      subst this; simp at h
    · omega
  · intro h
    by_cases c : m ≤ 64 - p % 64
    · have : x < 2 ^ (64 - p % 64) := Nat.lt_of_lt_of_le hx (Nat.pow_le_pow_right (by decide) c)
      exact absurd (Nat.div_eq_of_lt this) h
    · omega

/-- Append: the bits of the row, then those of the number. -/
theorem append_row (N : Int) (xs : List Nat) (hf : Fit xs) (hk : chk N xs = true) (x : Nat) (n : Nat) (hn : n ≤ 64) (k : Nat) (hkk : k = (N.toNat + n + 63) / 64) :
    putL (cp xs k) N.toNat (x % 2 ^ n) = rowOf (N.toNat + n) (fun j => if j < N.toNat then bitAt xs j else x.testBit (j - N.toNat)) := by
  obtain ⟨h0, h1, hl, _⟩ := chk_out N xs hk
  have hlt : x % 2 ^ n < 2 ^ n := Nat.mod_lt _ (Nat.pow_pos (by decide))
  have hlt2 : x % 2 ^ n < 18446744073709551616 := Nat.lt_of_lt_of_le hlt (Nat.pow_le_pow_right (n := 2) (j := 64) (by decide) hn)
  have hr : Room (cp xs k) N.toNat (x % 2 ^ n) := room_of _ _ _ n hlt hn (by rw [length_cp]; omega)
  refine eq_rowOf _ _ _ (fit_putL _ (fit_cp xs hf k) _ _ hlt2 hr) (by rw [length_putL, length_cp]; exact hkk) fun i hi => ?_
  rw [length_putL, length_cp] at hi
  rw [bitAt_putL _ _ _ hlt2 hr, Nat.testBit_mod_two_pow]
  have hb : bitAt (cp xs k) i = bitAt xs i := by unfold bitAt; rw [gt_cp xs k _ (by omega)]
  rw [hb]
  by_cases c : i < N.toNat
  · rw [if_pos c]; simp [show ¬ N.toNat ≤ i by omega, show i < N.toNat + n by omega]
  · rw [if_neg c, chk_high N xs hk i (by omega)]
    by_cases c2 : i < N.toNat + n
    · simp [c2, show N.toNat ≤ i by omega, show i - N.toNat < n by omega]
    · simp [c2, show ¬ i - N.toNat < n by omega]
end Bit
end Go.Proofs.Ytmdmjbpehbjgpaa
