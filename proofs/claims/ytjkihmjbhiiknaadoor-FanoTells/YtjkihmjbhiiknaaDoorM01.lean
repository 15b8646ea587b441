/-
  Plain arithmetic of rows of bits with counts beside them. Nothing of the program is in here. Plain arithmetic of rows of bits, more: what is laid over words (put), words that are copied, and the rows that append and join make. Plain arithmetic of rows of numbers: what may be, what is got, put, listed and made; bits that are laid over words. Plain arithmetic of rows of bits by the places of those that are 1 (Elias and Fano): the places, their lowest bits, the others in unary; and the way back. Nothing of the program is in here. Elias and Fano: what is built of places, and the way back: plain. Plain: a word's bits that are 1, the lowest one first: which one it is, and what is left of the word.
-/
import Derived.Test.YtjkihmjbhiiknaaDoorM00
namespace Go.Proofs.YtjkihmjbhiiknaaDoor
open Num
namespace Bit
set_option linter.unusedVariables false

def gi (l : List Int) (i : Nat) : Int := l.getD i 0
theorem gi_get (l : List Int) (i : Nat) (h : i < l.length) : l[i]? = some (gi l i) := by
  unfold gi
  rw [List.getD_eq_getElem?_getD, List.getElem?_eq_getElem h]; rfl
theorem gi_map (f : Nat → Int) (n i : Nat) (h : i < n) : gi ((List.range n).map f) i = f i := by
  unfold gi
  rw [List.getD_eq_getElem?_getD, List.getElem?_map, List.getElem?_range h]; rfl
theorem gi_ext {l m : List Int} (hl : l.length = m.length) (h : ∀ i, i < l.length → gi l i = gi m i) : l = m := by
  refine List.ext_getElem? fun i => ?_
  by_cases c : i < l.length
  · rw [gi_get l i c, gi_get m i (by omega), h i c]
  · rw [List.getElem?_eq_none (by omega), List.getElem?_eq_none (by omega)]

def supI (N : Int) (xs : List Nat) (i : Nat) : Int := onesI N xs (512 * (i : Int))
def subI (N : Int) (xs : List Nat) (j : Nat) : Int := onesI N xs (64 * (j : Int)) - supI N xs (j / 8)
def supP (N : Int) (xs : List Nat) (q : Nat) : List Int := (List.range q).map (supI N xs)
def subP (N : Int) (xs : List Nat) (q : Nat) : List Int := (List.range q).map (subI N xs)
def supL (N : Int) (xs : List Nat) : List Int := supP N xs (N.toNat / 512 + 1)
def subL (N : Int) (xs : List Nat) : List Int := subP N xs xs.length
theorem length_supP (N : Int) (xs : List Nat) (q : Nat) : (supP N xs q).length = q := by simp [supP]
theorem length_subP (N : Int) (xs : List Nat) (q : Nat) : (subP N xs q).length = q := by simp [subP]
theorem length_supL (N : Int) (xs : List Nat) : (supL N xs).length = N.toNat / 512 + 1 := length_supP _ _ _
theorem length_subL (N : Int) (xs : List Nat) : (subL N xs).length = xs.length := length_subP _ _ _
theorem gi_supP (N : Int) (xs : List Nat) (q i : Nat) (h : i < q) : gi (supP N xs q) i = supI N xs i := gi_map _ _ _ h
theorem gi_subP (N : Int) (xs : List Nat) (q i : Nat) (h : i < q) : gi (subP N xs q) i = subI N xs i := gi_map _ _ _ h
theorem onesI_bound (N : Int) (xs : List Nat) (n : Int) : 0 ≤ onesI N xs n ∧ onesI N xs n ≤ 1048576 := by
  unfold onesI
  cases h : chk N xs with
  | false => simp
  | true =>
    obtain ⟨h0, h1, _, _⟩ := chk_out N xs h
    have := cntB_le xs (min n N).toNat
    simp only [if_true]
    omega
theorem supI_bound (N : Int) (xs : List Nat) (i : Nat) : 0 ≤ supI N xs i ∧ supI N xs i ≤ 1048576 := onesI_bound _ _ _
theorem subI_bound (N : Int) (xs : List Nat) (i : Nat) : -1048576 ≤ subI N xs i ∧ subI N xs i ≤ 1048576 := by
  have a := onesI_bound N xs (64 * (i : Int))
  have b := supI_bound N xs (i / 8)
  unfold subI
  omega

/-- Whether one may be. -/
def pchk (N : Int) (xs : List Nat) (su sb : List Int) : Bool := chk N xs && (decide (su = supL N xs) && decide (sb = subL N xs))
def pbN (N : Int) (xs : List Nat) : Int := if chk N xs then N else 0
def pbX (N : Int) (xs : List Nat) : List Nat := if chk N xs then xs else []
def pbS (N : Int) (xs : List Nat) : List Int := if chk N xs then supL N xs else []
def pbT (N : Int) (xs : List Nat) : List Int := if chk N xs then subL N xs else []
def pbE (N : Int) (xs : List Nat) : Int := if chk N xs then 0 else 2
def piN (N : Int) (xs : List Nat) (su sb : List Int) : Int := if pchk N xs su sb then N else 0
def piX (N : Int) (xs : List Nat) (su sb : List Int) : List Nat := if pchk N xs su sb then xs else []
def paE (N : Int) (xs : List Nat) (su sb : List Int) (i : Int) : Int := if pchk N xs su sb then getE N xs i else 2
def paB (N : Int) (xs : List Nat) (su sb : List Int) (i : Int) : Bool := pchk N xs su sb && getB N xs i
/-- How many of the first i bits are bit. -/
def cB (xs : List Nat) (bit : Bool) (i : Nat) : Nat := if bit then cntB xs i else i - cntB xs i
def prE (N : Int) (xs : List Nat) (su sb : List Int) (i : Int) : Int := if pchk N xs su sb then (if i < 0 ∨ N < i then 3 else 0) else 2
def prN (N : Int) (xs : List Nat) (su sb : List Int) (bit : Bool) (i : Int) : Int := if prE N xs su sb i = 0 then (cB xs bit i.toNat : Int) else 0
/-- Is there, at place i, the bit that has k such ahead? -/
def here (xs : List Nat) (bit : Bool) (k : Int) (i : Nat) : Bool := (bitAt xs i == bit) && decide ((cB xs bit i : Int) = k)
def pselO (N : Int) (xs : List Nat) (bit : Bool) (k : Int) : Option Nat := (List.range N.toNat).find? (here xs bit k)
def psE (N : Int) (xs : List Nat) (su sb : List Int) (bit : Bool) (k : Int) : Int := if pchk N xs su sb then (if (pselO N xs bit k).isSome then 0 else 3) else 2
def psX (N : Int) (xs : List Nat) (su sb : List Int) (bit : Bool) (k : Int) : Int := if pchk N xs su sb then ((pselO N xs bit k).getD 0 : Int) else 0
def pzN (N : Int) (xs : List Nat) (su sb : List Int) : Int := if pchk N xs su sb then N + 32 * (su.length : Int) + 16 * (sb.length : Int) else 0

theorem pchk_out (N : Int) (xs : List Nat) (su sb : List Int) (h : pchk N xs su sb = true) : chk N xs = true ∧ su = supL N xs ∧ sb = subL N xs := by
  unfold pchk at h
  simp only [Bool.and_eq_true, decide_eq_true_eq] at h
  exact ⟨h.1, h.2.1, h.2.2⟩
theorem pchk_of (N : Int) (xs : List Nat) (h : chk N xs = true) : pchk N xs (supL N xs) (subL N xs) = true := by
  unfold pchk
  simp [h]
theorem cB_le (xs : List Nat) (bit : Bool) (i : Nat) : cB xs bit i ≤ i := by
  unfold cB
  have := cntB_le xs i
  split <;> omega
theorem cB_succ (xs : List Nat) (bit : Bool) (i : Nat) : cB xs bit (i + 1) = cB xs bit i + if bitAt xs i = bit then 1 else 0 := by
  have := cntB_le xs i
  unfold cB
  cases bit with
  | true => simp only [if_true, cntB]
  | false =>
    simp only [cntB]
    cases h : bitAt xs i <;> simp <;> omega
theorem cB_mono (xs : List Nat) (bit : Bool) (i d : Nat) : cB xs bit i ≤ cB xs bit (i + d) := by
  induction d with
  | zero => exact Nat.le_refl _
  | succ d ih => have := cB_succ xs bit (i + d); rw [show i + (d + 1) = i + d + 1 by omega]; omega
theorem here_one (xs : List Nat) (bit : Bool) (k : Int) (i j : Nat) (hi : here xs bit k i = true) (hj : here xs bit k j = true) : i = j := by
  unfold here at hi hj
  simp only [Bool.and_eq_true, beq_iff_eq, decide_eq_true_eq] at hi hj
  rcases Nat.lt_trichotomy i j with c | c | c
  · have a := cB_succ xs bit i
    rw [if_pos hi.1] at a
    have b := cB_mono xs bit (i + 1) (j - (i + 1))
    rw [show i + 1 + (j - (i + 1)) = j by omega] at b
    omega
  · exact c
  · have a := cB_succ xs bit j
    rw [if_pos hj.1] at a
    have b := cB_mono xs bit (j + 1) (i - (j + 1))
    rw [show j + 1 + (i - (j + 1)) = i by omega] at b
    omega
theorem psel_some (N : Int) (xs : List Nat) (bit : Bool) (k : Int) (i : Nat) (hi : i < N.toNat) (h : here xs bit k i = true) : pselO N xs bit k = some i := by
  unfold pselO
  cases hf : (List.range N.toNat).find? (here xs bit k) with
  | none =>
    rw [List.find?_eq_none] at hf
    exact absurd h (by simpa using hf i (List.mem_range.2 hi))
  | some j =>
    have := List.find?_some hf
    rw [here_one xs bit k i j h this]
theorem psel_none (N : Int) (xs : List Nat) (bit : Bool) (k : Int) (h : ∀ i, i < N.toNat → here xs bit k i = false) : pselO N xs bit k = none := by
  unfold pselO
  rw [List.find?_eq_none]
  intro i hi
  have := h i (List.mem_range.1 hi)
  simp [this]
theorem psel_spec (N : Int) (xs : List Nat) (bit : Bool) (k : Int) (i : Nat) (h : pselO N xs bit k = some i) : i < N.toNat ∧ bitAt xs i = bit ∧ (cB xs bit i : Int) = k := by
  unfold pselO at h
  have a := List.find?_some h
  have b := List.mem_range.1 (List.mem_of_find?_eq_some h)
  unfold here at a
  simp only [Bool.and_eq_true, beq_iff_eq, decide_eq_true_eq] at a
  exact ⟨b, a.1, a.2⟩
/-- There is a place just where k counts. -/
theorem psel_iff (N : Int) (xs : List Nat) (bit : Bool) (k : Int) : (pselO N xs bit k).isSome = true ↔ 0 ≤ k ∧ k < (cB xs bit N.toNat : Int) := by
  constructor
  · intro h
    obtain ⟨i, hi⟩ := Option.isSome_iff_exists.1 h
    obtain ⟨h1, h2, h3⟩ := psel_spec N xs bit k i hi
    have a := cB_succ xs bit i
    rw [if_pos h2] at a
    have b := cB_mono xs bit (i + 1) (N.toNat - (i + 1))
    rw [show i + 1 + (N.toNat - (i + 1)) = N.toNat by omega] at b
    omega
  · rintro ⟨h0, h1⟩
    obtain ⟨m, rfl⟩ := Int.eq_ofNat_of_zero_le h0
    have key : ∀ n, m < cB xs bit n → ∃ i, i < n ∧ here xs bit m i = true := by
      intro n
      induction n with
      | zero => intro h; have := cB_le xs bit 0; omega
      | succ n ih =>
        intro h
        rw [cB_succ] at h
        by_cases c : m < cB xs bit n
        · obtain ⟨i, hi, hh⟩ := ih c
          exact ⟨i, by omega, hh⟩
        · by_cases hb : bitAt xs n = bit
          · rw [if_pos hb] at h
            refine ⟨n, by omega, ?_⟩
            unfold here
            simp only [Bool.and_eq_true, beq_iff_eq, decide_eq_true_eq]
            exact ⟨hb, by omega⟩
          · rw [if_neg hb] at h; omega
    obtain ⟨i, hi, hh⟩ := key N.toNat (by omega)
    rw [psel_some N xs bit m i hi hh]
    rfl
end Bit
end Go.Proofs.YtjkihmjbhiiknaaDoor

namespace Go.Proofs.YtjkihmjbhiiknaaDoor
open Num
namespace Bit

def cp (xs : List Nat) (n : Nat) : List Nat := xs.take n ++ List.replicate (n - xs.length) 0

theorem length_cp (xs : List Nat) (n : Nat) : (cp xs n).length = n := by simp [cp]; omega

theorem cp_self (xs : List Nat) : cp xs xs.length = xs := by simp [cp]

theorem gt_cp (xs : List Nat) (n i : Nat) (h : i < n) : gt (cp xs n) i = gt xs i := by
  unfold gt cp
  rw [List.getD_eq_getElem?_getD, List.getD_eq_getElem?_getD]
  by_cases hi : i < xs.length
  · rw [List.getElem?_append_left (by simp; omega), List.getElem?_take_of_lt h]
  · rw [List.getElem?_append_right (by simp; omega), List.getElem?_replicate, List.getElem?_eq_none (l := xs) (by omega)]
    split <;> rfl

theorem fit_cp (xs : List Nat) (hf : Fit xs) (n : Nat) : Fit (cp xs n) := by
  intro i
  by_cases h : i < n
  · rw [gt_cp xs n i h]; exact hf i
  · rw [gt_out _ _ (by rw [length_cp]; omega)]; decide

/-- What put makes of the words. -/
def putL (ys : List Nat) (p x : Nat) : List Nat :=
  let a := if x * 2 ^ (p % 64) % 18446744073709551616 = 0 then ys else ys.set (p / 64) (gt ys (p / 64) ||| x * 2 ^ (p % 64) % 18446744073709551616)
  if x / 2 ^ (64 - p % 64) = 0 then a else a.set (p / 64 + 1) (gt a (p / 64 + 1) ||| x / 2 ^ (64 - p % 64))

theorem length_putL (ys : List Nat) (p x : Nat) : (putL ys p x).length = ys.length := by
  unfold putL
  simp only
  split <;> split <;> simp

def Room (ys : List Nat) (p x : Nat) : Prop := (x * 2 ^ (p % 64) % 18446744073709551616 ≠ 0 → p / 64 < ys.length) ∧ (x / 2 ^ (64 - p % 64) ≠ 0 → p / 64 + 1 < ys.length)

theorem gt_putL (ys : List Nat) (p x : Nat) (h : Room ys p x) (j : Nat) :
    gt (putL ys p x) j = gt ys j ||| (if j = p / 64 then x * 2 ^ (p % 64) % 18446744073709551616 else if j = p / 64 + 1 then x / 2 ^ (64 - p % 64) else 0) := by
  obtain ⟨h1, h2⟩ := h
  unfold putL
  simp only
  by_cases c1 : x * 2 ^ (p % 64) % 18446744073709551616 = 0
  · rw [if_pos c1]
    by_cases c2 : x / 2 ^ (64 - p % 64) = 0
    · rw [if_pos c2, c1, c2]; split <;> (try split) <;> simp
    · rw [if_neg c2, gt_set _ _ _ _ (h2 c2), c1]
      by_cases e : j = p / 64
      · rw [if_pos e, if_neg (by omega)]; simp
      · rw [if_neg e]
        by_cases e2 : j = p / 64 + 1
        · rw [if_pos e2, if_pos e2.symm, e2]
        · rw [if_neg e2, if_neg (fun q => e2 q.symm)]; simp
  · rw [if_neg c1]
    have hl := h1 c1
    by_cases c2 : x / 2 ^ (64 - p % 64) = 0
    · rw [if_pos c2, gt_set _ _ _ _ hl, c2]
      by_cases e : j = p / 64
      · rw [if_pos e, if_pos e.symm, e]
      · rw [if_neg e, if_neg (fun q => e q.symm)]; split <;> simp
    · rw [if_neg c2, gt_set _ _ _ _ (by rw [List.length_set]; exact h2 c2), gt_set _ _ _ _ hl, gt_set _ _ _ _ hl]
      by_cases e : j = p / 64
      · rw [if_pos e, if_neg (by omega), if_pos e.symm, e]
      · rw [if_neg e, if_neg (show ¬ p / 64 = j from fun q => e q.symm), if_neg (show ¬ p / 64 = p / 64 + 1 by omega)]
        by_cases e2 : j = p / 64 + 1
        · rw [if_pos e2, if_pos e2.symm, e2]
        · rw [if_neg e2, if_neg (fun q => e2 q.symm)]; simp

theorem fit_putL (ys : List Nat) (hf : Fit ys) (p x : Nat) (hx : x < 18446744073709551616) (h : Room ys p x) : Fit (putL ys p x) := by
  intro j
  rw [gt_putL ys p x h j]
  refine or_lt _ _ (hf j) ?_
  split
  · exact Nat.mod_lt _ (by decide)
  · split
    · exact Nat.lt_of_le_of_lt (Nat.div_le_self _ _) hx
    · decide

theorem bitAt_putL (ys : List Nat) (p x : Nat) (hx : x < 18446744073709551616) (h : Room ys p x) (i : Nat) : bitAt (putL ys p x) i = (bitAt ys i || (decide (p ≤ i) && x.testBit (i - p))) := by
  unfold bitAt
  rw [gt_putL ys p x h, Nat.testBit_or]
  congr 1
  have hm : i % 64 < 64 := Nat.mod_lt _ (by decide)
  by_cases e : i / 64 = p / 64
  · rw [if_pos e, test_shl _ _ _ hm]
    by_cases c : p ≤ i
    · rw [show decide (p % 64 ≤ i % 64) = true by simp; omega, show decide (p ≤ i) = true by simpa using c, show i % 64 - p % 64 = i - p by omega]
    · rw [show decide (p % 64 ≤ i % 64) = false by simp; omega, show decide (p ≤ i) = false by simpa using c]; rfl
  · rw [if_neg e]
    by_cases e2 : i / 64 = p / 64 + 1
    · rw [if_pos e2, test_shr, show decide (p ≤ i) = true by simp; omega, show 64 - p % 64 + i % 64 = i - p by omega]; rfl
    · rw [if_neg e2, Nat.zero_testBit]
      by_cases c : p ≤ i
      · rw [test_big x _ hx (by omega)]; simp
      · simp [c]

theorem room_of (ys : List Nat) (p x m : Nat) (hx : x < 2 ^ m) (hm : m ≤ 64) (hl : p + m ≤ 64 * ys.length) : Room ys p x := by
  have hp : 0 < 2 ^ (64 - p % 64) := Nat.pow_pos (by decide)
  constructor
  · intro h
    by_cases c : m = 0
    · subst c
      have : x = 0 := by simpa using hx
      subst this; simp at h
    · omega
  · intro h
    by_cases c : m ≤ 64 - p % 64
    · have : x < 2 ^ (64 - p % 64) := Nat.lt_of_lt_of_le hx (Nat.pow_le_pow_right (by decide) c)
      exact absurd (Nat.div_eq_of_lt this) h
    · omega

/-- Append: the bits of the row, then those of the number. -/
theorem append_row (N : Int) (xs : List Nat) (hf : Fit xs) (hk : chk N xs = true) (x : Nat) (n : Nat) (hn : n ≤ 64) (k : Nat) (hkk : k = (N.toNat + n + 63) / 64) :
    putL (cp xs k) N.toNat (x % 2 ^ n) = rowOf (N.toNat + n) (fun j => if j < N.toNat then bitAt xs j else x.testBit (j - N.toNat)) := by
  obtain ⟨h0, h1, hl, _⟩ := chk_out N xs hk
  have hlt : x % 2 ^ n < 2 ^ n := Nat.mod_lt _ (Nat.pow_pos (by decide))
  have hlt2 : x % 2 ^ n < 18446744073709551616 := Nat.lt_of_lt_of_le hlt (Nat.pow_le_pow_right (n := 2) (j := 64) (by decide) hn)
  have hr : Room (cp xs k) N.toNat (x % 2 ^ n) := room_of _ _ _ n hlt hn (by rw [length_cp]; omega)
  refine eq_rowOf _ _ _ (fit_putL _ (fit_cp xs hf k) _ _ hlt2 hr) (by rw [length_putL, length_cp]; exact hkk) fun i hi => ?_
  rw [length_putL, length_cp] at hi
  rw [bitAt_putL _ _ _ hlt2 hr, Nat.testBit_mod_two_pow]
  have hb : bitAt (cp xs k) i = bitAt xs i := by unfold bitAt; rw [gt_cp xs k _ (by omega)]
  rw [hb]
  by_cases c : i < N.toNat
  · rw [if_pos c]; simp [show ¬ N.toNat ≤ i by omega, show i < N.toNat + n by omega]
  · rw [if_neg c, chk_high N xs hk i (by omega)]
    by_cases c2 : i < N.toNat + n
    · simp [c2, show N.toNat ≤ i by omega, show i - N.toNat < n by omega]
    · simp [c2, show ¬ i - N.toNat < n by omega]
end Bit
end Go.Proofs.YtjkihmjbhiiknaaDoor

namespace Go.Proofs.YtjkihmjbhiiknaaDoor
open Num
namespace Bit
set_option linter.unusedVariables false

theorem len_fit (x m : Nat) : Go.bitLen x ≤ m ↔ x < 2 ^ m := by
  constructor
  · intro h
    by_cases hx : x = 0
    · subst hx; exact Nat.two_pow_pos m
    · refine Nat.lt_of_not_le fun hc => ?_
      have h1 : ¬ x < 2 ^ Go.bitLen x := fun h2 => by
        have := Nat.pow_le_pow_right (n := 2) (by decide) h
        omega
      have key : ∀ d, x < 2 ^ (Go.bitLen x + d) → False := by
        intro d
        induction d with
        | zero => exact h1
        | succ d ih =>
          intro h2
          by_cases hb : x / 2 ^ (Go.bitLen x + d) % 2 = 1
          · have := len_eq x (Go.bitLen x + d) h2 hb
            omega
          · exact ih (len_down x _ h2 hb)
      refine key x ?_
      exact Nat.lt_of_lt_of_le (Nat.lt_two_pow_self (n := x)) (Nat.pow_le_pow_right (by decide) (by omega))
  · exact len_le x m

theorem lenI_fit (x m : Nat) : lenI (x : Int) ≤ (m : Int) ↔ x < 2 ^ m := by
  unfold lenI
  rw [Int.toNat_natCast, ← len_fit]
  omega

def ichk (N W M : Int) (xs : List Nat) : Bool := decide (1 ≤ W ∧ W ≤ 64 ∧ 0 ≤ N ∧ N * W = M) && chk M xs

theorem ichk_out (N W M : Int) (xs : List Nat) (h : ichk N W M xs = true) : 1 ≤ W ∧ W ≤ 64 ∧ 0 ≤ N ∧ N * W = M ∧ chk M xs = true ∧ 0 ≤ M ∧ M ≤ 1048576 ∧ N ≤ M := by
  unfold ichk at h
  rw [Bool.and_eq_true, decide_eq_true_eq] at h
  obtain ⟨⟨a, b, c, d⟩, e⟩ := h
  obtain ⟨f, g, _, _⟩ := chk_out M xs e
  refine ⟨a, b, c, d, e, f, g, ?_⟩
  have := Int.mul_le_mul_of_nonneg_left a c
  omega

def numAt (W : Nat) (xs : List Nat) (i : Nat) : Nat := numOf W (fun k => bitAt xs (i * W + k))
def igE (N W M : Int) (xs : List Nat) (i : Int) : Int := if ichk N W M xs = false then 2 else if i < 0 ∨ N ≤ i then 3 else 0
def igX (N W M : Int) (xs : List Nat) (i : Int) : Nat := if igE N W M xs i = 0 then numAt W.toNat xs i.toNat else 0
def ipE (N W M : Int) (xs : List Nat) (i : Int) (v : Nat) : Int := if igE N W M xs i = 0 then (if W < lenI v then 2 else 0) else igE N W M xs i
def ipL (N W M : Int) (xs : List Nat) (i : Int) (v : Nat) : List Nat := if ipE N W M xs i v = 0 then rowOf M.toNat (fun j => if i.toNat * W.toNat ≤ j ∧ j < i.toNat * W.toNat + W.toNat then v.testBit (j - i.toNat * W.toNat) else bitAt xs j) else xs
def ilL (N W M : Int) (xs : List Nat) : List Nat := if ichk N W M xs = true then (List.range N.toNat).map (numAt W.toNat xs) else []
def imE (W : Int) (l : List Nat) : Int := if W < 1 ∨ 64 < W ∨ 1048576 < (l.length : Int) * W ∨ ¬ (∀ j, j < l.length → lenI (gt l j) ≤ W) then 2 else 0
def imN (W : Int) (l : List Nat) : Int := if imE W l = 0 then (l.length : Int) else 0
def imW (W : Int) (l : List Nat) : Int := if imE W l = 0 then W else 0
def imM (W : Int) (l : List Nat) : Int := if imE W l = 0 then (l.length : Int) * W else 0
def mkS (l : List Nat) (W k : Nat) : List Nat := rowOf (l.length * W) (fun j => decide (j < k * W) && (gt l (j / W)).testBit (j % W))
def imL (W : Int) (l : List Nat) : List Nat := if imE W l = 0 then mkS l W.toNat l.length else []
def wm (l : List Nat) : Nat → Nat
  | 0 => 1
  | k + 1 => max (wm l k) (Go.bitLen (gt l k))

theorem igE_zero (N W M : Int) (xs : List Nat) (i : Int) (hE : igE N W M xs i = 0) : ichk N W M xs = true ∧ 0 ≤ i ∧ i < N := by
  unfold igE at hE
  cases h : ichk N W M xs with
  | false => rw [if_pos h] at hE; omega
  | true =>
    rw [if_neg (by simp [h])] at hE
    by_cases c : i < 0 ∨ N ≤ i
    · rw [if_pos c] at hE; omega
    · exact ⟨rfl, by omega, by omega⟩
theorem igE_of (N W M : Int) (xs : List Nat) (i : Int) (hk : ichk N W M xs = true) (h0 : 0 ≤ i) (h1 : i < N) : igE N W M xs i = 0 := by
  unfold igE
  rw [if_neg (by simp [hk]), if_neg (by omega)]
theorem ipE_zero (N W M : Int) (xs : List Nat) (i : Int) (v : Nat) (hE : ipE N W M xs i v = 0) : igE N W M xs i = 0 ∧ lenI v ≤ W := by
  unfold ipE at hE
  by_cases c : igE N W M xs i = 0
  · rw [if_pos c] at hE
    by_cases d : W < lenI v
    · rw [if_pos d] at hE; omega
    · exact ⟨c, by omega⟩
  · rw [if_neg c] at hE; exact absurd hE c
theorem get_place (N W M i : Int) (a1 : 1 ≤ W) (a2 : W ≤ 64) (a3 : 0 ≤ N) (a4 : N * W = M) (a7 : M ≤ 1048576) (i0 : 0 ≤ i) (i1 : i < N) : 0 ≤ i * W ∧ i * W + W ≤ M ∧ i * W ≤ M - W ∧ i * W ≤ 1048576 := by
  have h1 := Int.mul_nonneg i0 (show 0 ≤ W by omega)
  have h2 := Int.mul_le_mul_of_nonneg_right (show i + 1 ≤ N by omega) (show 0 ≤ W by omega)
  rw [Int.add_mul, Int.one_mul] at h2
  omega
theorem get_slice (N W M : Int) (xs : List Nat) (i : Int) (hk : ichk N W M xs = true) (i0 : 0 ≤ i) (i1 : i < N) : slcX M xs (i * W) W = igX N W M xs i ∧ slcE M xs (i * W) W = igE N W M xs i := by
  obtain ⟨a1, a2, a3, a4, a5, a6, a7, a8⟩ := ichk_out N W M xs hk
  obtain ⟨q1, q2, q3, q4⟩ := get_place N W M i a1 a2 a3 a4 a7 i0 i1
  have e := igE_of N W M xs i hk i0 i1
  have e2 : slcE M xs (i * W) W = 0 := by
    unfold slcE
    rw [if_neg (by simp [a5]; omega), if_neg (by omega)]
  refine ⟨?_, by rw [e, e2]⟩
  unfold slcX igX numAt
  rw [if_pos e, if_pos e2, Int.toNat_mul i0 (by omega)]

theorem wm_pos (l : List Nat) (k : Nat) : 1 ≤ wm l k := by
  induction k with
  | zero => exact Nat.le_refl _
  | succ k ih => simp only [wm]; omega
theorem wm_ge (l : List Nat) (k j : Nat) (h : j < k) : Go.bitLen (gt l j) ≤ wm l k := by
  induction k with
  | zero => omega
  | succ k ih =>
    simp only [wm]
    by_cases e : j = k
    · subst e; omega
    · have := ih (by omega); omega
theorem wm_le (l : List Nat) (hf : Fit l) (k : Nat) : wm l k ≤ 64 := by
  induction k with
  | zero => simp only [wm]; omega
  | succ k ih =>
    simp only [wm]
    have : Go.bitLen (gt l k) ≤ 64 := len_le _ _ (by rw [show (2 : Nat) ^ 64 = 18446744073709551616 from rfl]; exact hf k)
    omega
theorem wm_at (l : List Nat) (k : Nat) : wm l k = 1 ∨ ∃ j, j < k ∧ wm l k = Go.bitLen (gt l j) := by
  induction k with
  | zero => exact .inl rfl
  | succ k ih =>
    simp only [wm]
    by_cases c : Go.bitLen (gt l k) ≤ wm l k
    · rw [Nat.max_eq_left c]
      rcases ih with h | ⟨j, h1, h2⟩
      · exact .inl h
      · exact .inr ⟨j, by omega, h2⟩
    · rw [Nat.max_eq_right (by omega)]
      exact .inr ⟨k, by omega, rfl⟩

/-! What lay makes of the words. -/
theorem test_not (m r : Nat) (hm : m < 18446744073709551616) (hr : r < 64) : (18446744073709551615 - m).testBit r = !m.testBit r := by
  have h := Nat.testBit_two_pow_sub_succ (n := 64) (x := m) (by rw [show (2 : Nat) ^ 64 = 18446744073709551616 from rfl]; exact hm) r
  rw [show (2 : Nat) ^ 64 - (m + 1) = 18446744073709551615 - m by rw [show (2 : Nat) ^ 64 = 18446744073709551616 from rfl]; omega] at h
  rw [h]; simp [hr]

def lay1 (ys : List Nat) (p W v : Nat) : List Nat := ys.set (p / 64) ((gt ys (p / 64) &&& (18446744073709551615 - (2 ^ W - 1) * 2 ^ (p % 64) % 18446744073709551616)) ||| v * 2 ^ (p % 64) % 18446744073709551616)
def layL (ys : List Nat) (p W v : Nat) : List Nat :=
  if 64 - p % 64 < W then (lay1 ys p W v).set (p / 64 + 1) ((gt ys (p / 64 + 1) &&& (18446744073709551615 - (2 ^ W - 1) / 2 ^ (64 - p % 64))) ||| v / 2 ^ (64 - p % 64)) else lay1 ys p W v

theorem length_lay1 (ys : List Nat) (p W v : Nat) : (lay1 ys p W v).length = ys.length := by simp [lay1]
theorem length_layL (ys : List Nat) (p W v : Nat) : (layL ys p W v).length = ys.length := by
  unfold layL; split <;> simp [lay1]

theorem bitAt_layL (ys : List Nat) (p W v : Nat) (hW : 1 ≤ W) (hW2 : W ≤ 64) (hv : v < 2 ^ W) (hl : p + W ≤ 64 * ys.length) (i : Nat) :
    bitAt (layL ys p W v) i = if p ≤ i ∧ i < p + W then v.testBit (i - p) else bitAt ys i := by
  have hp : p / 64 < ys.length := by omega
  have hm : (2 : Nat) ^ W - 1 < 18446744073709551616 := by
    have := Nat.pow_le_pow_right (n := 2) (j := 64) (by decide) hW2
    rw [show (2 : Nat) ^ 64 = 18446744073709551616 from rfl] at this
    omega
  have hv0 : ∀ j, W ≤ j → v.testBit j = false := fun j hj => Nat.testBit_lt_two_pow (Nat.lt_of_lt_of_le hv (Nat.pow_le_pow_right (by decide) hj))
  have first : ∀ r, r < 64 → ((gt ys (p / 64) &&& (18446744073709551615 - (2 ^ W - 1) * 2 ^ (p % 64) % 18446744073709551616)) ||| v * 2 ^ (p % 64) % 18446744073709551616).testBit r = if p % 64 ≤ r ∧ r < p % 64 + W then v.testBit (r - p % 64) else (gt ys (p / 64)).testBit r := by
    intro r hr
    rw [Nat.testBit_or, Nat.testBit_and, test_not _ _ (Nat.mod_lt _ (by decide)) hr, test_shl _ _ _ hr, test_shl _ _ _ hr, Nat.testBit_two_pow_sub_one]
    by_cases c : p % 64 ≤ r
    · by_cases c2 : r < p % 64 + W
      · rw [if_pos ⟨c, c2⟩]; simp [c, show r - p % 64 < W by omega]
      · rw [if_neg (by omega), hv0 (r - p % 64) (by omega)]; simp [show ¬ r - p % 64 < W by omega]
    · rw [if_neg (by omega)]; simp [c]
  have second : ∀ r, r < 64 → ((gt ys (p / 64 + 1) &&& (18446744073709551615 - (2 ^ W - 1) / 2 ^ (64 - p % 64))) ||| v / 2 ^ (64 - p % 64)).testBit r = if r + (64 - p % 64) < W then v.testBit (r + (64 - p % 64)) else (gt ys (p / 64 + 1)).testBit r := by
    intro r hr
    rw [Nat.testBit_or, Nat.testBit_and, test_not _ _ (Nat.lt_of_le_of_lt (Nat.div_le_self _ _) hm) hr, test_shr, test_shr, Nat.testBit_two_pow_sub_one]
    by_cases c : r + (64 - p % 64) < W
    · rw [if_pos c, Nat.add_comm r (64 - p % 64)]; simp [show 64 - p % 64 + r < W by omega]
    · rw [if_neg c, hv0 (64 - p % 64 + r) (by omega)]; simp [show ¬ 64 - p % 64 + r < W by omega]
  have at1 : ∀ zs : List Nat, (∀ j, j ≠ p / 64 → gt zs j = gt ys j) → gt zs (p / 64) = ((gt ys (p / 64) &&& (18446744073709551615 - (2 ^ W - 1) * 2 ^ (p % 64) % 18446744073709551616)) ||| v * 2 ^ (p % 64) % 18446744073709551616) → (p % 64 + W ≤ 64 ∨ i / 64 ≠ p / 64 + 1) → bitAt zs i = if p ≤ i ∧ i < p + W then v.testBit (i - p) else bitAt ys i := by
    intro zs h1 h2 h3
    unfold bitAt
    by_cases e : i / 64 = p / 64
    · rw [e, h2, first _ (by omega)]
      by_cases c : p ≤ i ∧ i < p + W
      · rw [if_pos (by omega), if_pos c]; congr 1; omega
      · rw [if_neg (by omega), if_neg c]
    · rw [h1 _ e, if_neg (by omega)]
  have g1 : ∀ j, gt (lay1 ys p W v) j = if p / 64 = j then ((gt ys (p / 64) &&& (18446744073709551615 - (2 ^ W - 1) * 2 ^ (p % 64) % 18446744073709551616)) ||| v * 2 ^ (p % 64) % 18446744073709551616) else gt ys j := fun j => gt_set ys _ _ _ hp
  unfold layL
  by_cases c : 64 - p % 64 < W
  · rw [if_pos c]
    have hp1 : p / 64 + 1 < ys.length := by omega
    have g2 : ∀ j, gt ((lay1 ys p W v).set (p / 64 + 1) ((gt ys (p / 64 + 1) &&& (18446744073709551615 - (2 ^ W - 1) / 2 ^ (64 - p % 64))) ||| v / 2 ^ (64 - p % 64))) j = if p / 64 + 1 = j then ((gt ys (p / 64 + 1) &&& (18446744073709551615 - (2 ^ W - 1) / 2 ^ (64 - p % 64))) ||| v / 2 ^ (64 - p % 64)) else gt (lay1 ys p W v) j := fun j => gt_set _ _ _ _ (by rw [length_lay1]; exact hp1)
    by_cases e : i / 64 = p / 64 + 1
    · unfold bitAt
      rw [g2, if_pos e.symm, second _ (by omega)]
      by_cases d : p ≤ i ∧ i < p + W
      · rw [if_pos (by omega), if_pos d]; congr 1; omega
      · rw [if_neg (by omega), if_neg d, e]
    · refine Eq.trans ?_ (at1 (lay1 ys p W v) (fun j hj => by rw [g1, if_neg (by omega)]) (by rw [g1, if_pos rfl]) (.inr e))
      unfold bitAt
      rw [g2, if_neg (by omega)]
  · rw [if_neg c]
    exact at1 (lay1 ys p W v) (fun j hj => by rw [g1, if_neg (by omega)]) (by rw [g1, if_pos rfl]) (.inl (by omega))

theorem fit_layL (ys : List Nat) (hf : Fit ys) (p W v : Nat) (hv : v < 18446744073709551616) : Fit (layL ys p W v) := by
  have h1 : Fit (lay1 ys p W v) := fit_set ys hf _ _ (or_lt _ _ (Nat.lt_of_le_of_lt Nat.and_le_left (hf _)) (Nat.mod_lt _ (by decide)))
  unfold layL
  split
  · exact fit_set _ h1 _ _ (or_lt _ _ (Nat.lt_of_le_of_lt Nat.and_le_left (hf _)) (Nat.lt_of_le_of_lt (Nat.div_le_self _ _) hv))
  · exact h1

theorem length_mkS (l : List Nat) (W k : Nat) : (mkS l W k).length = (l.length * W + 63) / 64 := length_rowOf _ _
theorem fit_mkS (l : List Nat) (W k : Nat) : Fit (mkS l W k) := fit_rowOf _ _
theorem mkS_zero (l : List Nat) (W : Nat) : rowOf (l.length * W) (fun _ => false) = mkS l W 0 := rowOf_congr _ _ _ fun i _ => by simp
theorem mul_next (n W k : Nat) (h : k < n) : k * W + W ≤ n * W := by
  have := Nat.mul_le_mul_right W (show k + 1 ≤ n by omega)
  rw [Nat.add_mul, Nat.one_mul] at this
  exact this
theorem mkS_step (l : List Nat) (W k : Nat) (hW : 1 ≤ W) (hW2 : W ≤ 64) (hk : k < l.length) (hv : gt l k < 2 ^ W) (hv2 : gt l k < 18446744073709551616) : layL (mkS l W k) (k * W) W (gt l k) = mkS l W (k + 1) := by
  have hn := mul_next l.length W k hk
  refine eq_rowOf _ _ _ (fit_layL _ (fit_mkS _ _ _) _ _ _ hv2) (by rw [length_layL, length_mkS]) fun i _ => ?_
  rw [bitAt_layL _ _ _ _ hW hW2 hv (by rw [length_mkS]; omega) i]
  unfold mkS
  rw [bitAt_rowOf, Nat.add_mul, Nat.one_mul]
  by_cases c : k * W ≤ i ∧ i < k * W + W
  · rw [if_pos c]
    have e1 : i / W = k := by
      rw [Nat.div_eq_iff (by omega)]; rw [Nat.mul_comm] at c; constructor <;> (try rw [Nat.mul_comm]) <;> omega
    have e2 : i % W = i - k * W := by
      have := Nat.div_add_mod i W
      rw [e1, Nat.mul_comm] at this
      omega
    rw [e1, e2]
    simp [c.2, show i < l.length * W by omega]
  · rw [if_neg c]
    by_cases d : i < k * W
    · simp [d, show i < k * W + W by omega]
    · simp [d, show ¬ i < k * W + W by omega]
end Bit
end Go.Proofs.YtjkihmjbhiiknaaDoor

namespace Go.Proofs.YtjkihmjbhiiknaaDoor
open Num Bit
set_option linter.unusedVariables false

/-- The places of the bits that are 1, among the first n. -/
def plc (f : Nat → Bool) (n : Nat) : List Nat := (List.range n).filter f
theorem plc_succ (f : Nat → Bool) (n : Nat) : plc f (n + 1) = plc f n ++ if f n then [n] else [] := by
  unfold plc
  rw [List.range_succ, List.filter_append, List.filter_cons]
  cases f n <;> simp
theorem plc_le (f : Nat → Bool) (n : Nat) : (plc f n).length ≤ n := by
  have := List.length_filter_le f (List.range n)
  rw [List.length_range] at this
  exact this
theorem mem_plc (f : Nat → Bool) (n i : Nat) : i ∈ plc f n ↔ i < n ∧ f i = true := by
  unfold plc
  rw [List.mem_filter, List.mem_range]
/-- Places that rise, below n. -/
def Rise (l : List Nat) (n : Nat) : Prop := (∀ i, i < l.length → gt l i < n) ∧ ∀ i, i + 1 < l.length → gt l i < gt l (i + 1)
theorem gt_app_l (l m : List Nat) (i : Nat) (h : i < l.length) : gt (l ++ m) i = gt l i := by
  unfold gt
  rw [List.getD_eq_getElem?_getD, List.getD_eq_getElem?_getD, List.getElem?_append_left h]
theorem gt_app_r (l : List Nat) (v : Nat) : gt (l ++ [v]) l.length = v := by
  unfold gt
  rw [List.getD_eq_getElem?_getD, List.getElem?_append_right (Nat.le_refl _), Nat.sub_self]
  rfl
theorem Rise.snoc {l : List Nat} {n v : Nat} (h : Rise l n) (hv : v < n) (hl : 0 < l.length → gt l (l.length - 1) < v) : Rise (l ++ [v]) n := by
  constructor
  · intro i hi
    rw [List.length_append, List.length_singleton] at hi
    by_cases c : i < l.length
    · rw [gt_app_l l _ i c]; exact h.1 i c
    · obtain rfl : i = l.length := by omega
      rw [gt_app_r]; exact hv
  · intro i hi
    rw [List.length_append, List.length_singleton] at hi
    by_cases c : i + 1 < l.length
    · rw [gt_app_l l _ i (by omega), gt_app_l l _ (i + 1) c]; exact h.2 i c
    · have e : i + 1 = l.length := by omega
      rw [gt_app_l l _ i (by omega), e, gt_app_r]
      have := hl (by omega)
      rw [show l.length - 1 = i by omega] at this
      exact this
theorem Rise.more {l : List Nat} {n m : Nat} (h : Rise l n) (hm : n ≤ m) : Rise l m := ⟨fun i hi => Nat.lt_of_lt_of_le (h.1 i hi) hm, h.2⟩
theorem Rise.step {l : List Nat} {n : Nat} (h : Rise l n) : ∀ d i, i + d < l.length → gt l i + d ≤ gt l (i + d) := by
  intro d
  induction d with
  | zero => intro i _; exact Nat.le_refl _
  | succ d ih =>
    intro i hi
    have h1 := ih i (by omega)
    have h2 := h.2 (i + d) (by omega)
    rw [show i + (d + 1) = i + d + 1 by omega]
    omega
theorem Rise.lt {l : List Nat} {n : Nat} (h : Rise l n) {i j : Nat} (hij : i < j) (hj : j < l.length) : gt l i < gt l j := by
  have := h.step (j - i) i (by omega)
  rw [show i + (j - i) = j by omega] at this
  omega
theorem Rise.len {l : List Nat} {n : Nat} (h : Rise l n) : l.length ≤ n := by
  by_cases c : l.length = 0
  · omega
  · have := h.step (l.length - 1) 0 (by omega)
    have := h.1 (0 + (l.length - 1)) (by omega)
    omega
theorem plc_rise (f : Nat → Bool) (n : Nat) : Rise (plc f n) n := by
  induction n with
  | zero => exact ⟨fun i hi => absurd hi (by simp [plc]), fun i hi => absurd hi (by simp [plc])⟩
  | succ n ih =>
    rw [plc_succ]
    cases h : f n with
    | false => simp only [Bool.false_eq_true, if_false, List.append_nil]; exact ih.more (by omega)
    | true =>
      simp only [if_true]
      exact (ih.more (by omega)).snoc (by omega) (fun h0 => ih.1 _ (by omega))
/-- Is j among them? -/
def isIn (l : List Nat) (j : Nat) : Bool := (List.range l.length).any fun i => gt l i == j
theorem isIn_iff (l : List Nat) (j : Nat) : isIn l j = true ↔ ∃ i, i < l.length ∧ gt l i = j := by
  unfold isIn
  rw [List.any_eq_true]
  constructor
  · rintro ⟨i, hi, he⟩
    exact ⟨i, List.mem_range.1 hi, by simpa using he⟩
  · rintro ⟨i, hi, he⟩
    exact ⟨i, List.mem_range.2 hi, by simpa using he⟩
theorem isIn_snoc (l : List Nat) (v j : Nat) : isIn (l ++ [v]) j = (isIn l j || v == j) := by
  rw [Bool.eq_iff_iff, isIn_iff, Bool.or_eq_true, isIn_iff, beq_iff_eq]
  constructor
  · rintro ⟨i, hi, he⟩
    rw [List.length_append, List.length_singleton] at hi
    by_cases c : i < l.length
    · rw [gt_app_l l _ i c] at he; exact .inl ⟨i, c, he⟩
    · obtain rfl : i = l.length := by omega
      rw [gt_app_r] at he; exact .inr he
  · rintro (⟨i, hi, he⟩ | he)
    · exact ⟨i, by rw [List.length_append]; omega, by rw [gt_app_l l _ i hi]; exact he⟩
    · exact ⟨l.length, by simp, by rw [gt_app_r]; exact he⟩
theorem isIn_get (l : List Nat) (i : Nat) (h : i < l.length) : isIn l (gt l i) = true := (isIn_iff l _).2 ⟨i, h, rfl⟩
theorem mem_isIn (l : List Nat) (j : Nat) : isIn l j = true ↔ j ∈ l := by
  rw [isIn_iff]
  constructor
  · rintro ⟨i, hi, rfl⟩
    unfold gt
    rw [List.getD_eq_getElem?_getD, List.getElem?_eq_getElem hi]
    exact List.getElem_mem hi
  · intro h
    obtain ⟨i, hi, he⟩ := List.getElem_of_mem h
    exact ⟨i, hi, by unfold gt; rw [List.getD_eq_getElem?_getD, List.getElem?_eq_getElem hi]; exact he⟩
theorem rise_ext {l m : List Nat} {n : Nat} (h : Rise l n) (k : Rise m n) (e : ∀ j, isIn l j = isIn m j) : l = m := by
  have key : ∀ {l m : List Nat}, Rise l n → Rise m n → (∀ j, isIn l j = isIn m j) → ∀ i, i < l.length → i < m.length ∧ gt l i = gt m i := by
    intro l m h k e i
    induction i using Nat.strongRecOn with
    | _ i ih =>
      intro hi
      have h1 := isIn_get l i hi
      rw [e, isIn_iff] at h1
      obtain ⟨j, hj, hje⟩ := h1
      have hij : i ≤ j := by
        refine Nat.le_of_not_lt fun c => ?_
        have := ih j c (by omega)
        have h3 := h.lt c hi
        omega
      refine ⟨by omega, ?_⟩
      by_cases c : i = j
      · subst c; exact hje.symm
      · have h4 := isIn_get m i (by omega)
        rw [← e, isIn_iff] at h4
        obtain ⟨k', hk, hke⟩ := h4
        have hk2 := k.lt (show i < j by omega) hj
        have hki : k' < i := by
          refine Nat.lt_of_not_le fun c2 => ?_
          by_cases c3 : k' = i
          · subst c3; omega
          · have := h.lt (show i < k' by omega) hk; omega
        have := ih k' hki hk
        have := k.lt hki (show i < m.length by omega)
        omega
  have hl := fun i hi => key h k e i hi
  have hm := fun i hi => key k h (fun j => (e j).symm) i hi
  have hlen : l.length = m.length := by
    by_cases c : l.length ≤ m.length
    · by_cases c2 : l.length = m.length
      · exact c2
      · have := (hm l.length (by omega)).1; omega
    · have := (hl m.length (by omega)).1; omega
  exact Bit.list_ext _ _ hlen (fun i hi => (hl i hi).2)
/-- A row's places, once they are known. -/
theorem plc_of {l : List Nat} {n : Nat} (h : Rise l n) : plc (isIn l) n = l := by
  refine rise_ext (plc_rise _ n) h fun j => ?_
  rw [Bool.eq_iff_iff, mem_isIn, mem_plc, isIn_iff]
  constructor
  · rintro ⟨_, h2⟩
    exact h2
  · rintro ⟨i, hi, rfl⟩
    exact ⟨h.1 i hi, i, hi, rfl⟩
end Go.Proofs.YtjkihmjbhiiknaaDoor

namespace Go.Proofs.YtjkihmjbhiiknaaDoor
open Num Bit
set_option linter.unusedVariables false

/-- w. -/
def wdF (n m : Nat) : Nat := if m = 0 then 0 else Go.bitLen (n / m) - 1
theorem wdF_le (n m : Nat) (h : n < 2 ^ 21) : wdF n m ≤ 20 := by
  unfold wdF
  split
  · omega
  · have h1 : n / m ≤ n := Nat.div_le_self n m
    have := len_le (n / m) 21 (by omega)
    omega
def hiP (l : List Nat) (w : Nat) : List Nat := (List.range l.length).map fun i => gt l i / 2 ^ w + i
def hiN (l : List Nat) (n w : Nat) : Nat := l.length + n / 2 ^ w + 1
def loP (l : List Nat) (w : Nat) : List Nat := if w = 0 then [] else l.map (· % 2 ^ w)
theorem length_hiP (l : List Nat) (w : Nat) : (hiP l w).length = l.length := by simp [hiP]
theorem gt_hiP (l : List Nat) (w i : Nat) (h : i < l.length) : gt (hiP l w) i = gt l i / 2 ^ w + i := by
  unfold hiP
  show gt _ i = _
  unfold gt
  rw [List.getD_eq_getElem?_getD, List.getElem?_map, List.getElem?_range h]
  rfl
theorem gt_lmap (l : List Nat) (f : Nat → Nat) (i : Nat) (h : i < l.length) : gt (l.map f) i = f (gt l i) := by
  unfold gt
  rw [List.getD_eq_getElem?_getD, List.getD_eq_getElem?_getD, List.getElem?_map, List.getElem?_eq_getElem h]
  rfl
theorem length_loP (l : List Nat) (w : Nat) (h : 0 < w) : (loP l w).length = l.length := by unfold loP; rw [if_neg (by omega), List.length_map]
theorem gt_loP (l : List Nat) (w i : Nat) (hw : 0 < w) (h : i < l.length) : gt (loP l w) i = gt l i % 2 ^ w := by unfold loP; rw [if_neg (by omega), gt_lmap l _ i h]
theorem hi_rise {l : List Nat} {n : Nat} (w : Nat) (h : Rise l n) : Rise (hiP l w) (hiN l n w) := by
  constructor
  · intro i hi
    rw [length_hiP] at hi
    rw [gt_hiP l w i hi]
    have := Nat.div_le_div_right (c := 2 ^ w) (Nat.le_of_lt (h.1 i hi))
    unfold hiN
    omega
  · intro i hi
    rw [length_hiP] at hi
    rw [gt_hiP l w i (by omega), gt_hiP l w (i + 1) hi]
    have := Nat.div_le_div_right (c := 2 ^ w) (Nat.le_of_lt (h.2 i hi))
    omega
/-- The place that the i-th 1 of the unary part tells. -/
def fpl (w : Nat) (lo hi : List Nat) (q : Nat) : Nat := (gt hi q - q) * 2 ^ w + if w = 0 then 0 else gt lo q % 2 ^ w
/-- The first q places, as far as they can be read. -/
def fdec (n w : Nat) (lo hi : List Nat) : Nat → Option (List Nat)
  | 0 => some []
  | q + 1 => match fdec n w lo hi q with
    | none => none
    | some out => if n ≤ fpl w lo hi q ∨ (0 < q ∧ fpl w lo hi q ≤ gt out (q - 1)) then none else some (out ++ [fpl w lo hi q])
theorem fdec_len (n w : Nat) (lo hi : List Nat) : ∀ q out, fdec n w lo hi q = some out → out.length = q ∧ Rise out n := by
  intro q
  induction q with
  | zero => intro out h; simp only [fdec, Option.some.injEq] at h; subst h; exact ⟨rfl, fun i hi => absurd hi (by simp), fun i hi => absurd hi (by simp)⟩
  | succ q ih =>
    intro out h
    rw [fdec] at h
    cases hq : fdec n w lo hi q with
    | none => rw [hq] at h; cases h
    | some o =>
      rw [hq] at h
      obtain ⟨h1, h2⟩ := ih o hq
      simp only at h
      split at h
      · cases h
      · rename_i hn
        obtain rfl := Option.some.inj h
        refine ⟨by rw [List.length_append, h1]; rfl, h2.snoc (by omega) fun h0 => ?_⟩
        rw [h1] at h0 ⊢
        omega
theorem fdec_none (n w : Nat) (lo hi : List Nat) (q : Nat) (h : fdec n w lo hi q = none) : ∀ d, fdec n w lo hi (q + d) = none := by
  intro d
  induction d with
  | zero => exact h
  | succ d ih => rw [show q + (d + 1) = q + d + 1 by omega, fdec, ih]
theorem fpl_built {l : List Nat} {n : Nat} (w q : Nat) (h : q < l.length) : fpl w (loP l w) (hiP l w) q = gt l q := by
  unfold fpl
  rw [gt_hiP l w q h, Nat.add_sub_cancel]
  by_cases hw : w = 0
  · subst hw; simp
  · rw [if_neg hw, gt_loP l w q (by omega) h, Nat.mod_mod]
    rw [Nat.mul_comm]
    exact Nat.div_add_mod _ _
theorem take_snoc' (l : List Nat) (q : Nat) (h : q < l.length) : l.take (q + 1) = l.take q ++ [gt l q] := by
  rw [List.take_add_one, List.getElem?_eq_getElem h]
  unfold gt
  rw [List.getD_eq_getElem?_getD, List.getElem?_eq_getElem h]
  rfl
theorem gt_take' (l : List Nat) (q i : Nat) (h : i < q) : gt (l.take q) i = gt l i := by
  unfold gt
  rw [List.getD_eq_getElem?_getD, List.getD_eq_getElem?_getD, List.getElem?_take_of_lt h]
theorem fdec_built {l : List Nat} {n : Nat} (w : Nat) (h : Rise l n) : ∀ q, q ≤ l.length → fdec n w (loP l w) (hiP l w) q = some (l.take q) := by
  intro q
  induction q with
  | zero => intro _; rfl
  | succ q ih =>
    intro hq
    rw [fdec, ih (by omega)]
    simp only
    rw [fpl_built (n := n) w q (by omega), if_neg, take_snoc' l q (by omega)]
    rintro (c | ⟨c1, c2⟩)
    · have := h.1 q (by omega); omega
    · rw [gt_take' l q (q - 1) (by omega)] at c2
      have := h.lt (show q - 1 < q by omega) (show q < l.length by omega)
      omega

/-- What a row by places holds. -/
structure FA where
  N : Int
  M : Int
  k : Int
  V : Int
  LM : Int
  xs : List Nat
  H : Int
  ys : List Nat
/-- What is built of places. -/
def fOf (n : Nat) (l : List Nat) : FA :=
  ⟨n, l.length, (loP l (wdF n l.length)).length, ((max (wdF n l.length) 1 : Nat) : Int), ((loP l (wdF n l.length)).length : Int) * (max (wdF n l.length) 1 : Nat), mkS (loP l (wdF n l.length)) (max (wdF n l.length) 1) (loP l (wdF n l.length)).length, hiN l n (wdF n l.length), rowOf (hiN l n (wdF n l.length)) (isIn (hiP l (wdF n l.length)))⟩
/-- The places that one tells. -/
def fRow (a : FA) : Option (List Nat) :=
  let hi := plc (bitAt a.ys) a.H.toNat
  let lo := (List.range a.k.toNat).map (numAt a.V.toNat a.xs)
  let w := wdF a.N.toNat a.M.toNat
  if (0 ≤ a.N ∧ a.N ≤ 1048576 ∧ 0 ≤ a.M ∧ a.M ≤ a.N) ∧ ichk a.k a.V a.LM a.xs = true ∧ chk a.H a.ys = true ∧ (hi.length : Int) = a.M ∧ (w = 0 ∨ (lo.length : Int) = a.M) then fdec a.N.toNat w lo hi hi.length else none
theorem fnumAt_mk (l : List Nat) (W : Nat) (hW : 1 ≤ W) (hl : ∀ i, gt l i < 2 ^ W) (i : Nat) (hi : i < l.length) : numAt W (mkS l W l.length) i = gt l i := by
  unfold numAt
  refine (eq_numOf W (gt l i) _ fun k => ?_).symm
  by_cases c : k < W
  · unfold mkS
    have e1 : (i * W + k) / W = i := by
      rw [Nat.mul_comm, Nat.mul_add_div (by omega), Nat.div_eq_of_lt c]; omega
    have e2 : (i * W + k) % W = k := by rw [Nat.mul_comm, Nat.mul_add_mod, Nat.mod_eq_of_lt c]
    have e3 : i * W + k < l.length * W := by
      have := mul_next l.length W i hi
      omega
    rw [bitAt_rowOf, e1, e2]
    simp [c, e3]
  · have : gt l i < 2 ^ k := Nat.lt_of_lt_of_le (hl i) (Nat.pow_le_pow_right (by decide) (by omega))
    rw [Nat.testBit_lt_two_pow this]
    simp [c]
theorem fichk_mk (l : List Nat) (W : Nat) (hW : 1 ≤ W) (hW2 : W ≤ 64) (hl : l.length * W ≤ 1048576) : ichk (l.length : Int) (W : Int) ((l.length * W : Nat) : Int) (mkS l W l.length) = true := by
  unfold ichk
  rw [Bool.and_eq_true, decide_eq_true_eq]
  refine ⟨⟨by omega, by omega, by omega, by rw [Int.natCast_mul]⟩, ?_⟩
  exact chk_rowOf _ _ hl

theorem loP_lt (l : List Nat) (w i : Nat) : gt (loP l w) i < 2 ^ (max w 1) := by
  by_cases hw : w = 0
  · subst hw
    unfold loP gt
    simp
  · by_cases c : i < l.length
    · rw [gt_loP l w i (by omega) c, show max w 1 = w by omega]
      exact Nat.mod_lt _ (Nat.two_pow_pos _)
    · unfold gt
      rw [List.getD_eq_getElem?_getD, List.getElem?_eq_none (by rw [length_loP l w (by omega)]; omega)]
      exact Nat.two_pow_pos _
theorem length_lo_le (l : List Nat) (w : Nat) : (loP l w).length ≤ l.length := by
  unfold loP
  split
  · simp
  · rw [List.length_map]; exact Nat.le_refl _
theorem plc_congr (f g : Nat → Bool) (n : Nat) (h : ∀ i, i < n → f i = g i) : plc f n = plc g n := by
  unfold plc
  exact List.filter_congr fun i hi => h i (List.mem_range.1 hi)
theorem lo_back (lo : List Nat) (V : Nat) (hV : 1 ≤ V) (hl : ∀ i, gt lo i < 2 ^ V) : (List.range lo.length).map (numAt V (mkS lo V lo.length)) = lo := by
  refine Bit.list_ext _ _ (by simp) fun i hi => ?_
  rw [List.length_map, List.length_range] at hi
  have e : gt ((List.range lo.length).map (numAt V (mkS lo V lo.length))) i = numAt V (mkS lo V lo.length) i := by
    unfold gt
    rw [List.getD_eq_getElem?_getD, List.getElem?_map, List.getElem?_range hi]
    rfl
  rw [e]
  exact fnumAt_mk lo V hV hl i hi
/-- What is built of places tells just these. -/
theorem fRow_of {l : List Nat} {n : Nat} (h : Rise l n) (hn : n ≤ 1048576) (h1 : hiN l n (wdF n l.length) ≤ 1048576) (h2 : (loP l (wdF n l.length)).length * max (wdF n l.length) 1 ≤ 1048576) : fRow (fOf n l) = some l := by
  have hl := h.len
  have hw := wdF_le n l.length (by omega)
  have e1 : plc (bitAt (fOf n l).ys) (fOf n l).H.toNat = hiP l (wdF n l.length) := by
    show plc (bitAt (rowOf _ _)) (hiN l n (wdF n l.length) : Int).toNat = _
    rw [Int.toNat_natCast, plc_congr _ (isIn (hiP l (wdF n l.length))) _ (fun i hi => by rw [bitAt_rowOf]; simp [hi])]
    exact plc_of (hi_rise _ h)
  have e2 : (List.range (fOf n l).k.toNat).map (numAt (fOf n l).V.toNat (fOf n l).xs) = loP l (wdF n l.length) := by
    show (List.range ((loP l (wdF n l.length)).length : Int).toNat).map (numAt ((max (wdF n l.length) 1 : Nat) : Int).toNat _) = _
    rw [Int.toNat_natCast, Int.toNat_natCast]
    exact lo_back _ _ (by omega) (loP_lt l _)
  have e3 : ichk (fOf n l).k (fOf n l).V (fOf n l).LM (fOf n l).xs = true := by
    have := fichk_mk (loP l (wdF n l.length)) (max (wdF n l.length) 1) (by omega) (by omega) h2
    rw [Int.natCast_mul] at this
    exact this
  have e4 : chk (fOf n l).H (fOf n l).ys = true := chk_rowOf _ _ h1
  have e5 : (fOf n l).N.toNat = n := rfl
  have e6 : (fOf n l).M.toNat = l.length := rfl
  unfold fRow
  simp only [e1, e2, e3, e4, e5, e6, length_hiP]
  rw [if_pos]
  · rw [fdec_built _ h l.length (Nat.le_refl _), List.take_of_length_le (Nat.le_refl _)]
  · refine ⟨?_, trivial, trivial, rfl, ?_⟩
    · show (0 : Int) ≤ (n : Int) ∧ (n : Int) ≤ 1048576 ∧ (0 : Int) ≤ (l.length : Int) ∧ (l.length : Int) ≤ (n : Int)
      omega
    · by_cases c : wdF n l.length = 0
      · exact .inl c
      · right
        rw [length_loP l _ (by omega)]
        rfl
end Go.Proofs.YtjkihmjbhiiknaaDoor

namespace Go.Proofs.YtjkihmjbhiiknaaDoor
open Num Bit
set_option linter.unusedVariables false

theorem and_split (a b u v t : Nat) (hu : u < 2 ^ t) (hv : v < 2 ^ t) : (2 ^ t * a + u) &&& (2 ^ t * b + v) = 2 ^ t * (a &&& b) + (u &&& v) := by
  have huv : (u &&& v) < 2 ^ t := Nat.lt_of_le_of_lt Nat.and_le_left hu
  refine Nat.eq_of_testBit_eq fun j => ?_
  rw [Nat.testBit_and, Nat.testBit_two_pow_mul_add a hu, Nat.testBit_two_pow_mul_add b hv, Nat.testBit_two_pow_mul_add (a &&& b) huv]
  split <;> simp [Nat.testBit_and]
theorem odd_split (y : Nat) (h : y ≠ 0) : ∃ s d, y = 2 ^ s * (2 * d + 1) := by
  induction y using Nat.strongRecOn with
  | _ y ih =>
    by_cases c : y % 2 = 1
    · exact ⟨0, y / 2, by omega⟩
    · obtain ⟨s, d, e⟩ := ih (y / 2) (by omega) (by omega)
      refine ⟨s + 1, d, ?_⟩
      rw [Nat.pow_succ, Nat.mul_right_comm, ← e]
      omega
theorem and_even (d : Nat) : (2 * d + 1) &&& (2 * d) = 2 * d := by
  have := and_split d d 1 0 1 (by decide) (by decide)
  rw [Nat.pow_one] at this
  simpa using this
theorem and_pred (s d : Nat) : (2 ^ s * (2 * d + 1)) &&& (2 ^ s * (2 * d + 1) - 1) = 2 ^ (s + 1) * d := by
  have hp := Nat.two_pow_pos s
  have e : 2 ^ s * (2 * d + 1) - 1 = 2 ^ s * (2 * d) + (2 ^ s - 1) := by
    rw [Nat.mul_add]
    omega
  rw [e]
  have := and_split (2 * d + 1) (2 * d) 0 (2 ^ s - 1) s hp (by omega)
  rw [Nat.add_zero, and_even, Nat.zero_and] at this
  rw [this, Nat.pow_succ, Nat.mul_assoc, Nat.add_zero]
theorem and_compl (d k : Nat) (h : d < 2 ^ k) : d &&& (2 ^ k - (d + 1)) = 0 := by
  refine Nat.eq_of_testBit_eq fun j => ?_
  rw [Nat.testBit_and, Nat.testBit_two_pow_sub_succ h, Nat.zero_testBit]
  cases d.testBit j <;> simp
theorem and_neg (s d : Nat) (h : 2 ^ s * (2 * d + 1) < 18446744073709551616) : (2 ^ s * (2 * d + 1)) &&& (18446744073709551616 - 2 ^ s * (2 * d + 1)) = 2 ^ s := by
  have hp := Nat.two_pow_pos s
  have hs : s < 64 := by
    refine Nat.lt_of_not_le fun c => ?_
    have h1 : 2 ^ 64 ≤ 2 ^ s := Nat.pow_le_pow_right (by decide) c
    have h2 : 2 ^ s * 1 ≤ 2 ^ s * (2 * d + 1) := Nat.mul_le_mul_left _ (by omega)
    omega
  obtain ⟨k, hk⟩ : ∃ k, 64 = s + (k + 1) := ⟨63 - s, by omega⟩
  have e64 : 18446744073709551616 = 2 ^ s * (2 * 2 ^ k) := by
    rw [← Nat.pow_succ', ← Nat.pow_add, ← hk]
  have hd : d < 2 ^ k := by
    rw [e64] at h
    have := Nat.lt_of_mul_lt_mul_left h
    omega
  rw [e64, ← Nat.mul_sub]
  have e2 : 2 * 2 ^ k - (2 * d + 1) = 2 * (2 ^ k - (d + 1)) + 1 := by omega
  rw [e2]
  have h3 := and_split (2 * d + 1) (2 * (2 ^ k - (d + 1)) + 1) 0 0 s hp hp
  have h4 := and_split d (2 ^ k - (d + 1)) 1 1 1 (by decide) (by decide)
  rw [Nat.pow_one, and_compl d k hd] at h4
  simp only [Nat.add_zero, Nat.and_zero, Nat.mul_zero, Nat.zero_add] at h3 h4
  rw [h3, h4]
  simp
/-- What is left of a word above place p. -/
def restW (x p : Nat) : Nat := 2 ^ p * (x / 2 ^ p)
theorem restW_le (x p : Nat) : restW x p ≤ x := Nat.mul_div_le x (2 ^ p)
theorem restW_zero (x : Nat) : restW x 0 = x := by unfold restW; simp
theorem rest_end (x p : Nat) (h : restW x p = 0) (k : Nat) (hk : p ≤ k) : x.testBit k = false := by
  unfold restW at h
  have h0 : x / 2 ^ p = 0 := by
    rcases Nat.mul_eq_zero.1 h with c | c
    · have := Nat.two_pow_pos p; omega
    · exact c
  have hx : x < 2 ^ p := Nat.lt_of_div_eq_zero (Nat.two_pow_pos p) h0
  exact Nat.testBit_lt_two_pow (Nat.lt_of_lt_of_le hx (Nat.pow_le_pow_right (by decide) hk))
/-- The lowest bit that is left. -/
theorem rest_low (x p : Nat) (hx : x < 18446744073709551616) (h : restW x p ≠ 0) : ∃ t, p ≤ t ∧ t < 64 ∧ x.testBit t = true ∧ (∀ k, p ≤ k → k < t → x.testBit k = false) ∧ (restW x p &&& (18446744073709551616 - restW x p)) = 2 ^ t ∧ (restW x p &&& (restW x p - 1)) = restW x (t + 1) := by
  have h0 : x / 2 ^ p ≠ 0 := fun c => h (by unfold restW; rw [c, Nat.mul_zero])
  obtain ⟨s, d, e⟩ := odd_split _ h0
  have er : restW x p = 2 ^ (p + s) * (2 * d + 1) := by
    unfold restW
    rw [e, Nat.pow_add, Nat.mul_assoc]
  have hr := restW_le x p
  have tb : ∀ k, p ≤ k → x.testBit k = (x / 2 ^ p).testBit (k - p) := fun k hk => by
    rw [Nat.testBit_div_two_pow, Nat.sub_add_cancel hk]
  have ht : x.testBit (p + s) = true := by
    rw [tb _ (by omega), e, Nat.add_sub_cancel_left, Nat.testBit_two_pow_mul]
    simp
  have h64 : p + s < 64 := by
    refine Nat.lt_of_not_le fun c => ?_
    rw [Nat.testBit_lt_two_pow (Nat.lt_of_lt_of_le (show x < 2 ^ 64 from hx) (Nat.pow_le_pow_right (by decide) c))] at ht
    cases ht
  refine ⟨p + s, by omega, h64, ht, fun k h1 h2 => ?_, ?_, ?_⟩
  · rw [tb k h1, e, Nat.testBit_two_pow_mul]
    have : ¬ s ≤ k - p := by omega
    simp [this]
  · rw [er]
    exact and_neg _ _ (by omega)
  · rw [er, and_pred]
    unfold restW
    congr 1
    rw [show p + s + 1 = p + (s + 1) by omega, Nat.pow_add, ← Nat.div_div_eq_div_mul, e, Nat.pow_succ, ← Nat.div_div_eq_div_mul, Nat.mul_div_cancel_left _ (Nat.two_pow_pos s)]
    omega
theorem plc_skip (f : Nat → Bool) (a d : Nat) (h : ∀ k, a ≤ k → k < a + d → f k = false) : plc f (a + d) = plc f a := by
  induction d with
  | zero => rfl
  | succ d ih =>
    rw [show a + (d + 1) = a + d + 1 by omega, plc_succ, h (a + d) (by omega) (by omega), ih (fun k h1 h2 => h k h1 (by omega))]
    simp
theorem plc_mono (f : Nat → Bool) (a d : Nat) : ∃ l, plc f (a + d) = plc f a ++ l := by
  induction d with
  | zero => exact ⟨[], by simp⟩
  | succ d ih =>
    obtain ⟨l, hl⟩ := ih
    rw [show a + (d + 1) = a + d + 1 by omega, plc_succ, hl]
    exact ⟨_, List.append_assoc _ _ _⟩
/-- The place that comes next. -/
theorem plc_next (f : Nat → Bool) (a n : Nat) (ha : a < n) (h : f a = true) : (plc f a).length < (plc f n).length ∧ gt (plc f n) (plc f a).length = a ∧ (plc f (a + 1)).length = (plc f a).length + 1 := by
  have h1 : plc f (a + 1) = plc f a ++ [a] := by rw [plc_succ, h]; rfl
  obtain ⟨l, hl⟩ := plc_mono f (a + 1) (n - (a + 1))
  rw [show a + 1 + (n - (a + 1)) = n by omega, h1] at hl
  refine ⟨by rw [hl]; simp, ?_, by rw [h1]; simp⟩
  rw [hl, List.append_assoc]
  have := gt_app_l (plc f a ++ [a]) l (plc f a).length (by simp)
  rw [gt_app_r, List.append_assoc] at this
  exact this
theorem bitAt_word (xs : List Nat) (j k : Nat) (h : k < 64) : bitAt xs (64 * j + k) = (gt xs j).testBit k := by
  unfold bitAt
  rw [show (64 * j + k) / 64 = j by omega, show (64 * j + k) % 64 = k by omega]
end Go.Proofs.YtjkihmjbhiiknaaDoor
