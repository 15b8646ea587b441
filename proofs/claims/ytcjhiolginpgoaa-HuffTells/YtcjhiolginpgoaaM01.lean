/-
  Plain arithmetic of rows of bits: words of 64 bits in a list, the bit at a place, the row of given bits, counts. Nothing of the program is in here. Plain: codes in the canonical order: how much of 2 to the power of 40 lies ahead of a code; apart; in order. Plain: the two loops of Codes: what is next, and at which length. Plain: no lengths that fit cost less than the ones of the two least things, again and again. Plain: things of symbols, the two least become one, again and again: what stays so: each thing's symbols make up all of 2 to the power of 40, no symbol lies deeper than 40, and what it costs.
-/
import Derived.Test.YtcjhiolginpgoaaM00
namespace Go.Proofs.Ytcjhiolginpgoaa
open Num
namespace Bit

def gt (xs : List Nat) (i : Nat) : Nat := xs.getD i 0
def bitAt (xs : List Nat) (i : Nat) : Bool := (gt xs (i / 64)).testBit (i % 64)
def Fit (xs : List Nat) : Prop := ∀ i, gt xs i < 18446744073709551616

def chk (N : Int) (xs : List Nat) : Bool := decide (0 ≤ N ∧ N ≤ 1048576 ∧ (xs.length : Int) = (N + 63) / 64 ∧ (N % 64 = 0 ∨ gt xs (xs.length - 1) < 2 ^ (N % 64).toNat))

def numOf : Nat → (Nat → Bool) → Nat
  | 0, _ => 0
  | n + 1, f => numOf n f + if f n then 2 ^ n else 0

theorem numOf_lt (n : Nat) (f : Nat → Bool) : numOf n f < 2 ^ n := by
  induction n with
  | zero => simp [numOf]
  | succ n ih => simp only [numOf, Nat.pow_succ]; split <;> omega

theorem numOf_congr (n : Nat) (f g : Nat → Bool) (h : ∀ k, k < n → f k = g k) : numOf n f = numOf n g := by
  induction n with
  | zero => rfl
  | succ n ih => simp only [numOf]; rw [ih (fun k hk => h k (by omega)), h n (by omega)]

theorem testBit_numOf (n : Nat) (f : Nat → Bool) (k : Nat) : (numOf n f).testBit k = (decide (k < n) && f k) := by
  induction n with
  | zero => simp [numOf]
  | succ n ih =>
    simp only [numOf]
    have hlt := numOf_lt n f
    by_cases hf : f n = true
    · rw [if_pos hf, Nat.add_comm]
      have e : 2 ^ n + numOf n f = 2 ^ n ||| numOf n f := by
        have := Nat.two_pow_add_eq_or_of_lt hlt 1
        simpa using this
      rw [e, Nat.testBit_or, Nat.testBit_two_pow, ih]
      by_cases hk : n = k
      · subst hk; simp [hf]
      · by_cases h2 : k < n
        · simp [hk, h2, show k < n + 1 by omega]
        · simp [hk, h2, show ¬ k < n + 1 by omega]
    · rw [if_neg hf, Nat.add_zero, ih]
      by_cases hk : n = k
      · subst hk; simp [hf]
      · by_cases h2 : k < n
        · simp [h2, show k < n + 1 by omega]
        · simp [h2, show ¬ k < n + 1 by omega]

theorem eq_numOf (n x : Nat) (f : Nat → Bool) (h : ∀ k, x.testBit k = (decide (k < n) && f k)) : x = numOf n f := by
  refine Nat.eq_of_testBit_eq fun k => ?_
  rw [h k, testBit_numOf]

theorem eq_of_bits (x y : Nat) (hx : x < 18446744073709551616) (hy : y < 18446744073709551616) (h : ∀ k, k < 64 → x.testBit k = y.testBit k) : x = y := by
  refine Nat.eq_of_testBit_eq fun k => ?_
  by_cases hk : k < 64
  · exact h k hk
  · have p : 18446744073709551616 ≤ 2 ^ k := Nat.pow_le_pow_right (n := 2) (by decide) (show 64 ≤ k by omega)
    rw [Nat.testBit_lt_two_pow (by omega), Nat.testBit_lt_two_pow (by omega)]

def rowOf (n : Nat) (f : Nat → Bool) : List Nat := (List.range ((n + 63) / 64)).map fun j => numOf 64 fun k => decide (64 * j + k < n) && f (64 * j + k)

theorem length_rowOf (n : Nat) (f : Nat → Bool) : (rowOf n f).length = (n + 63) / 64 := by simp [rowOf]

theorem gt_rowOf (n : Nat) (f : Nat → Bool) (j : Nat) : gt (rowOf n f) j = if j < (n + 63) / 64 then numOf 64 (fun k => decide (64 * j + k < n) && f (64 * j + k)) else 0 := by
  unfold gt rowOf
  by_cases h : j < (n + 63) / 64
  · rw [if_pos h, List.getD_eq_getElem?_getD, List.getElem?_map, List.getElem?_range h]; rfl
  · rw [if_neg h, List.getD_eq_getElem?_getD, List.getElem?_eq_none (by simp; omega)]; rfl

theorem bitAt_rowOf (n : Nat) (f : Nat → Bool) (i : Nat) : bitAt (rowOf n f) i = (decide (i < n) && f i) := by
  unfold bitAt
  rw [gt_rowOf]
  have hm : i % 64 < 64 := Nat.mod_lt _ (by decide)
  have hd : 64 * (i / 64) + i % 64 = i := Nat.div_add_mod i 64
  by_cases h : i / 64 < (n + 63) / 64
  · rw [if_pos h, testBit_numOf, hd]
    simp [hm]
  · rw [if_neg h, Nat.zero_testBit, show decide (i < n) = false by simp; omega]
    rfl

theorem fit_rowOf (n : Nat) (f : Nat → Bool) : Fit (rowOf n f) := by
  intro j
  rw [gt_rowOf]
  split
  · exact numOf_lt 64 _
  · decide

theorem gt_out (xs : List Nat) (i : Nat) (h : xs.length ≤ i) : gt xs i = 0 := by
  unfold gt; rw [List.getD_eq_getElem?_getD, List.getElem?_eq_none h]; rfl

theorem gt_get (xs : List Nat) (i : Nat) (h : i < xs.length) : xs[i]? = some (gt xs i) := by
  unfold gt; rw [List.getD_eq_getElem?_getD, List.getElem?_eq_getElem h]; rfl

theorem gt_set (xs : List Nat) (i j v : Nat) (h : i < xs.length) : gt (xs.set i v) j = if i = j then v else gt xs j := by
  unfold gt
  rw [List.getD_eq_getElem?_getD, List.getD_eq_getElem?_getD, List.getElem?_set]
  by_cases e : i = j
  · subst e; simp [h]
  · simp [e]

theorem list_ext (xs ys : List Nat) (hl : xs.length = ys.length) (h : ∀ i, i < xs.length → gt xs i = gt ys i) : xs = ys := by
  refine List.ext_getElem? fun i => ?_
  by_cases hi : i < xs.length
  · rw [gt_get xs i hi, gt_get ys i (by omega), h i hi]
  · rw [List.getElem?_eq_none (by omega), List.getElem?_eq_none (by omega)]

/-- Words of the right number, all bits as they should be: the row. -/
theorem eq_rowOf (n : Nat) (f : Nat → Bool) (xs : List Nat) (hg : Fit xs) (hl : xs.length = (n + 63) / 64) (h : ∀ i, i < 64 * xs.length → bitAt xs i = (decide (i < n) && f i)) : xs = rowOf n f := by
  refine list_ext _ _ (by rw [length_rowOf]; exact hl) fun j hj => ?_
  refine eq_of_bits _ _ (hg j) (fit_rowOf n f j) fun k hk => ?_
  have h1 := h (64 * j + k) (by omega)
  have h2 := bitAt_rowOf n f (64 * j + k)
  unfold bitAt at h1 h2
  rw [show (64 * j + k) / 64 = j by omega, show (64 * j + k) % 64 = k by omega] at h1 h2
  rw [h1, h2]

theorem rowOf_congr (n : Nat) (f g : Nat → Bool) (h : ∀ i, i < n → f i = g i) : rowOf n f = rowOf n g := by
  refine eq_rowOf n g _ (fit_rowOf n f) (length_rowOf n f) fun i _ => ?_
  rw [bitAt_rowOf]
  by_cases hi : i < n
  · rw [h i hi]
  · simp [hi]

theorem chk_out (N : Int) (xs : List Nat) (h : chk N xs = true) : 0 ≤ N ∧ N ≤ 1048576 ∧ (xs.length : Int) = (N + 63) / 64 ∧ (N % 64 = 0 ∨ gt xs (xs.length - 1) < 2 ^ (N % 64).toNat) := by
  unfold chk at h; exact of_decide_eq_true h

/-- Behind N no bit of a row that may be is 1. -/
theorem chk_high (N : Int) (xs : List Nat) (h : chk N xs = true) (i : Nat) (hi : N ≤ (i : Int)) : bitAt xs i = false := by
  obtain ⟨h0, h1, hl, ht⟩ := chk_out N xs h
  unfold bitAt
  by_cases hlt : i / 64 < xs.length
  · have e : i / 64 = xs.length - 1 := by omega
    rcases ht with ht | ht
    · omega
    · rw [e]
      refine Nat.testBit_lt_two_pow (Nat.lt_of_lt_of_le ht (Nat.pow_le_pow_right (by decide) ?_))
      omega
  · rw [gt_out xs _ (by omega), Nat.zero_testBit]

/-- A row that may be is the row of its bits. -/
theorem chk_row (N : Int) (xs : List Nat) (hg : Fit xs) (h : chk N xs = true) : xs = rowOf N.toNat (bitAt xs) := by
  obtain ⟨h0, h1, hl, _⟩ := chk_out N xs h
  refine eq_rowOf _ _ xs hg (by omega) fun i _ => ?_
  by_cases hi : i < N.toNat
  · simp [hi]
  · rw [chk_high N xs h i (by omega)]; simp [hi]

theorem chk_rowOf (n : Nat) (f : Nat → Bool) (h : n ≤ 1048576) : chk (n : Int) (rowOf n f) = true := by
  unfold chk
  rw [decide_eq_true_eq, length_rowOf]
  refine ⟨by omega, by omega, by omega, ?_⟩
  by_cases hz : n % 64 = 0
  · exact .inl (by omega)
  · refine .inr ?_
    refine Nat.lt_pow_two_of_testBit _ fun k hk => ?_
    by_cases hk2 : k < 64
    · have e := bitAt_rowOf n f (64 * ((n + 63) / 64 - 1) + k)
      unfold bitAt at e
      rw [show (64 * ((n + 63) / 64 - 1) + k) / 64 = (n + 63) / 64 - 1 by omega, show (64 * ((n + 63) / 64 - 1) + k) % 64 = k by omega] at e
      rw [e, show decide (64 * ((n + 63) / 64 - 1) + k < n) = false by simp; omega]
      rfl
    · exact Nat.testBit_lt_two_pow (Nat.lt_of_lt_of_le (fit_rowOf n f _) (Nat.pow_le_pow_right (n := 2) (by decide) (show 64 ≤ k by omega)))

/-- How many of the first bits are 1. -/
def cntB (xs : List Nat) : Nat → Nat
  | 0 => 0
  | k + 1 => cntB xs k + if bitAt xs k then 1 else 0

theorem bit_test (x i : Nat) : x.testBit i = decide (x / 2 ^ i % 2 = 1) := by
  rw [Nat.testBit_eq_decide_div_mod_eq]

theorem cntB_word (xs : List Nat) (k r : Nat) (hr : r ≤ 64) : cntB xs (64 * k + r) = cntB xs (64 * k) + cnt (gt xs k) r := by
  induction r with
  | zero => rfl
  | succ r ih =>
    rw [← Nat.add_assoc]
    simp only [cntB, cnt]
    rw [ih (by omega)]
    unfold bitAt
    rw [show (64 * k + r) / 64 = k by omega, show (64 * k + r) % 64 = r by omega, bit_test]
    have : gt xs k / 2 ^ r % 2 < 2 := Nat.mod_lt _ (by decide)
    by_cases h : gt xs k / 2 ^ r % 2 = 1
    · simp [h]; omega
    · have h0 : gt xs k / 2 ^ r % 2 = 0 := by omega
      simp [h0]

theorem cntB_le (xs : List Nat) (k : Nat) : cntB xs k ≤ k := by
  induction k with
  | zero => exact Nat.le_refl _
  | succ k ih => simp only [cntB]; split <;> omega

theorem cntB_mono (xs : List Nat) (k d : Nat) : cntB xs k ≤ cntB xs (k + d) := by
  induction d with
  | zero => exact Nat.le_refl _
  | succ d ih => rw [← Nat.add_assoc]; simp only [cntB]; omega

theorem cntB_congr (xs ys : List Nat) (k : Nat) (h : ∀ i, i < k → bitAt xs i = bitAt ys i) : cntB xs k = cntB ys k := by
  induction k with
  | zero => rfl
  | succ k ih => simp only [cntB]; rw [ih (fun i hi => h i (by omega)), h k (by omega)]

def onesI (N : Int) (xs : List Nat) (n : Int) : Int := if chk N xs then (cntB xs (min n N).toNat : Int) else 0
def getE (N : Int) (xs : List Nat) (i : Int) : Int := if chk N xs = false then 2 else if i < 0 ∨ N ≤ i then 3 else 0
def getB (N : Int) (xs : List Nat) (i : Int) : Bool := chk N xs && (decide (0 ≤ i ∧ i < N) && bitAt xs i.toNat)
def slcE (N : Int) (xs : List Nat) (at_ n : Int) : Int := if chk N xs = false ∨ n < 0 ∨ 64 < n then 2 else if at_ < 0 ∨ N - n < at_ then 3 else 0
def slcX (N : Int) (xs : List Nat) (at_ n : Int) : Nat := if slcE N xs at_ n = 0 then numOf n.toNat (fun k => bitAt xs (at_.toNat + k)) else 0
def setL (N : Int) (xs : List Nat) (i : Int) (x : Bool) : List Nat := if getE N xs i = 0 then rowOf N.toNat (fun j => if j = i.toNat then x else bitAt xs j) else xs
def appE (N : Int) (xs : List Nat) (n : Int) : Int := if chk N xs = false ∨ n < 0 ∨ 64 < n ∨ 1048576 < N + n then 2 else 0
def appN (N : Int) (xs : List Nat) (n : Int) : Int := if appE N xs n = 0 then N + n else N
def appL (N : Int) (xs : List Nat) (x : Nat) (n : Int) : List Nat := if appE N xs n = 0 then rowOf (N + n).toNat (fun j => if j < N.toNat then bitAt xs j else x.testBit (j - N.toNat)) else xs
def joinE (N : Int) (xs : List Nat) (M : Int) (ys : List Nat) : Int := if chk N xs = false ∨ chk M ys = false ∨ 1048576 < N + M then 2 else 0
def joinN (N : Int) (xs : List Nat) (M : Int) (ys : List Nat) : Int := if joinE N xs M ys = 0 then N + M else N
def joinL (N : Int) (xs : List Nat) (M : Int) (ys : List Nat) : List Nat := if joinE N xs M ys = 0 then rowOf (N + M).toNat (fun j => if j < N.toNat then bitAt xs j else bitAt ys (j - N.toNat)) else xs
def newE (n : Int) : Int := if n < 0 ∨ 1048576 < n then 2 else 0
def newN (n : Int) : Int := if newE n = 0 then n else 0
def newL (n : Int) : List Nat := if newE n = 0 then rowOf n.toNat (fun _ => false) else []
def fromN (l : List Bool) : Int := if newE l.length = 0 then l.length else 0
def fromL (l : List Bool) : List Nat := if newE l.length = 0 then rowOf l.length (fun i => l.getD i false) else []
end Bit
end Go.Proofs.Ytcjhiolginpgoaa

namespace Go.Proofs.Ytcjhiolginpgoaa.Hr

/-- How much the lengths of the first k symbols need of which P is so. -/
def need (l : Nat → Nat) (P : Nat → Bool) : Nat → Nat
  | 0 => 0
  | k + 1 => need l P k + (if 0 < l k ∧ P k = true then 2 ^ (40 - l k) else 0)
theorem need_mono {l : Nat → Nat} {P Q : Nat → Bool} (h : ∀ c, P c = true → Q c = true) : ∀ k, need l P k ≤ need l Q k
  | 0 => Nat.le_refl _
  | k + 1 => by
    have ih := need_mono (l := l) h k
    have tp := Nat.two_pow_pos (40 - l k)
    unfold need
    by_cases c : 0 < l k ∧ P k = true
    · rw [if_pos c, if_pos ⟨c.1, h k c.2⟩]; omega
    · rw [if_neg c]
      split <;> omega
/-- One more symbol is so. -/
theorem need_more {l : Nat → Nat} {P Q : Nat → Bool} {a : Nat} (h : ∀ c, P c = true → Q c = true) (hp : P a = false) (hq : Q a = true) (hl : 0 < l a) : ∀ k, a < k → need l P k + 2 ^ (40 - l a) ≤ need l Q k
  | 0, h0 => absurd h0 (Nat.not_lt_zero _)
  | k + 1, h0 => by
    unfold need
    by_cases e : a = k
    · subst e
      have := need_mono (l := l) h a
      rw [if_neg (by rw [hp]; simp), if_pos ⟨hl, hq⟩]
      omega
    · have ih := need_more (l := l) h hp hq hl k (by omega)
      have tp := Nat.two_pow_pos (40 - l k)
      by_cases c : 0 < l k ∧ P k = true
      · rw [if_pos c, if_pos ⟨c.1, h k c.2⟩]; omega
      · rw [if_neg c]
        split <;> omega
/-- All of them are of lengths up to n. -/
theorem need_dvd {l : Nat → Nat} {P : Nat → Bool} {n : Nat} (hn : n ≤ 40) (h : ∀ c, P c = true → l c ≤ n) : ∀ k, ∃ q, need l P k = q * 2 ^ (40 - n)
  | 0 => ⟨0, by simp [need]⟩
  | k + 1 => by
    obtain ⟨q, hq⟩ := need_dvd hn h k
    unfold need
    by_cases c : 0 < l k ∧ P k = true
    · have := h k c.2
      refine ⟨q + 2 ^ (n - l k), ?_⟩
      rw [if_pos c, hq, Nat.add_mul, ← Nat.pow_add]
      congr 2
      omega
    · exact ⟨q, by rw [if_neg c, hq]; rfl⟩
/-- c' comes ahead of c. -/
def ahead (l : Nat → Nat) (c c' : Nat) : Bool := decide (l c' < l c) || (decide (l c' = l c) && decide (c' < c))
theorem ahead_iff {l : Nat → Nat} {c c' : Nat} : ahead l c c' = true ↔ l c' < l c ∨ (l c' = l c ∧ c' < c) := by
  unfold ahead
  simp only [Bool.or_eq_true, Bool.and_eq_true, decide_eq_true_eq]
/-- The code of c among k symbols. -/
def code (l : Nat → Nat) (k c : Nat) : Nat := need l (ahead l c) k / 2 ^ (40 - l c)
theorem code_eq (l : Nat → Nat) (k c : Nat) (h : l c ≤ 40) : need l (ahead l c) k = code l k c * 2 ^ (40 - l c) := by
  obtain ⟨q, hq⟩ := need_dvd (l := l) (P := ahead l c) h (fun e he => by rcases ahead_iff.1 he with g | g <;> omega) k
  unfold code
  rw [hq, Nat.mul_div_cancel _ (Nat.two_pow_pos _)]
theorem step_over (l : Nat → Nat) (k : Nat) {a b : Nat} (ha : 0 < l a) (hk : a < k) (h : ahead l b a = true) : need l (ahead l a) k + 2 ^ (40 - l a) ≤ need l (ahead l b) k := by
  have hab := ahead_iff.1 h
  refine need_more (fun c hc => ?_) ?_ h ha k hk
  · have := ahead_iff.1 hc
    rw [ahead_iff]
    omega
  · refine Bool.eq_false_iff.2 fun e => ?_
    have := ahead_iff.1 e
    omega
/-- No code is the beginning of another one; they rise by length, then symbol. -/
theorem apart (l : Nat → Nat) (k : Nat) {a b : Nat} (ha : 0 < l a) (hb : 0 < l b) (h40 : l b ≤ 40) (hka : a < k) (hkb : b < k) (hne : a ≠ b) (hab : l a ≤ l b) :
    code l k b / 2 ^ (l b - l a) ≠ code l k a ∧ ((l a < l b ∨ a < b) ↔ code l k a < code l k b / 2 ^ (l b - l a)) := by
  have e1 := code_eq l k a (by omega)
  have e2 := code_eq l k b h40
  have first : code l k b / 2 ^ (l b - l a) = need l (ahead l b) k / 2 ^ (40 - l a) := by
    rw [e2, show 40 - l a = (40 - l b) + (l b - l a) by omega, Nat.pow_add, ← Nat.div_div_eq_div_mul, Nat.mul_div_cancel _ (Nat.two_pow_pos _)]
  have pos : 0 < 2 ^ (40 - l a) := Nat.two_pow_pos _
  by_cases c : l a < l b ∨ a < b
  · have h : ahead l b a = true := ahead_iff.2 (by omega)
    have := step_over l k ha hka h
    rw [e1] at this
    have lt : code l k a < code l k b / 2 ^ (l b - l a) := by
      rw [first, Nat.lt_iff_add_one_le, Nat.le_div_iff_mul_le pos, Nat.add_mul, Nat.one_mul]
      exact this
    exact ⟨by omega, ⟨fun _ => lt, fun _ => c⟩⟩
  · have h : ahead l a b = true := ahead_iff.2 (by omega)
    have := step_over l k hb hkb h
    have el : l a = l b := by omega
    rw [e1, e2, el, ← Nat.succ_mul] at this
    have := Nat.le_of_mul_le_mul_right this (Nat.two_pow_pos _)
    rw [el, Nat.sub_self, Nat.pow_zero, Nat.div_one]
    exact ⟨by omega, ⟨fun x => absurd x (by omega), fun x => absurd x (by omega)⟩⟩
/-- A code has no more bits than its length. -/
theorem code_lt (l : Nat → Nat) (k : Nat) {a : Nat} (ha : 0 < l a) (h40 : l a ≤ 40) (hka : a < k) (hs : need l (fun _ => true) k ≤ 2 ^ 40) : code l k a < 2 ^ l a := by
  have e1 := code_eq l k a h40
  have := need_more (l := l) (P := ahead l a) (Q := fun _ => true) (a := a) (fun _ _ => rfl) (by refine Bool.eq_false_iff.2 fun e => ?_; have := ahead_iff.1 e; omega) rfl ha k hka
  rw [e1, ← Nat.succ_mul] at this
  have h2 : 2 ^ 40 = 2 ^ l a * 2 ^ (40 - l a) := by rw [← Nat.pow_add]; congr 1; omega
  have h3 := Nat.le_trans this hs
  rw [h2] at h3
  exact Nat.le_of_mul_le_mul_right h3 (Nat.two_pow_pos _)
end Go.Proofs.Ytcjhiolginpgoaa.Hr

namespace Go.Proofs.Ytcjhiolginpgoaa.Ht
open Hr

/-- What has come when symbol q is asked for length n. -/
def come (l : Nat → Nat) (n q c : Nat) : Bool := decide (l c < n) || (decide (l c = n) && decide (c < q))
theorem come_iff {l : Nat → Nat} {n q c : Nat} : come l n q c = true ↔ l c < n ∨ (l c = n ∧ c < q) := by
  unfold come
  simp only [Bool.or_eq_true, Bool.and_eq_true, decide_eq_true_eq]
theorem need_cong {l : Nat → Nat} {P Q : Nat → Bool} : ∀ k, (∀ c, c < k → P c = Q c) → need l P k = need l Q k
  | 0, _ => rfl
  | k + 1, h => by
    unfold need
    rw [need_cong k (fun c hc => h c (by omega)), h k (by omega)]
/-- Exactly one more. -/
theorem need_one {l : Nat → Nat} {P Q : Nat → Bool} {a : Nat} (h : ∀ c, c ≠ a → P c = Q c) (hp : P a = false) (hq : Q a = true) (hl : 0 < l a) : ∀ k, a < k → need l Q k = need l P k + 2 ^ (40 - l a)
  | 0, h0 => absurd h0 (Nat.not_lt_zero _)
  | k + 1, h0 => by
    unfold need
    by_cases e : a = k
    · subst e
      rw [need_cong a (fun c hc => (h c (by omega)).symm), if_pos ⟨hl, hq⟩, if_neg (by rw [hp]; simp)]
      rfl
    · rw [need_one h hp hq hl k (by omega), h k (fun e2 => e e2.symm)]
      omega
theorem come_ahead (l : Nat → Nat) (q : Nat) : come l (l q) q = Hr.ahead l q := rfl
theorem come_same (l : Nat → Nat) (n q k : Nat) (h : l q ≠ n) : need l (come l n (q + 1)) k = need l (come l n q) k :=
  need_cong k fun c _ => by
    rw [Bool.eq_iff_iff, come_iff, come_iff]
    constructor
    · rintro (e | ⟨e1, e2⟩)
      · exact .inl e
      · refine .inr ⟨e1, ?_⟩
        by_cases g : c = q
        · subst g; exact absurd e1 h
        · omega
    · rintro (e | ⟨e1, e2⟩)
      · exact .inl e
      · exact .inr ⟨e1, by omega⟩
theorem come_one (l : Nat → Nat) (q k : Nat) (hl : 0 < l q) (hk : q < k) : need l (come l (l q) (q + 1)) k = need l (come l (l q) q) k + 2 ^ (40 - l q) := by
  refine need_one (fun c hc => ?_) ?_ ?_ hl k hk
  · rw [Bool.eq_iff_iff, come_iff, come_iff]
    omega
  · refine Bool.eq_false_iff.2 fun e => ?_
    have := come_iff.1 e
    omega
  · exact come_iff.2 (by omega)
theorem come_over (l : Nat → Nat) (n k : Nat) : need l (come l (n + 1) 0) k = need l (come l n k) k :=
  need_cong k fun c hc => by
    rw [Bool.eq_iff_iff, come_iff, come_iff]
    omega
theorem come_start (l : Nat → Nat) (k : Nat) : need l (come l 1 0) k = 0 := by
  induction k with
  | zero => rfl
  | succ k ih =>
    unfold need
    rw [ih, if_neg]
    rintro ⟨h1, h2⟩
    have := come_iff.1 h2
    omega
/-- next, and its length, at symbol q and length n. -/
structure At (l : Nat → Nat) (k n q nx at_ : Nat) : Prop where
  le : at_ ≤ n
  le40 : at_ ≤ 40
  sum : nx * 2 ^ (40 - at_) = need l (come l n q) k
theorem At.start (l : Nat → Nat) (k : Nat) : At l k 1 0 0 0 := ⟨Nat.zero_le _, by omega, by rw [come_start, Nat.zero_mul]⟩
theorem At.same {l : Nat → Nat} {k n q nx a : Nat} (h : At l k n q nx a) (hq : l q ≠ n) : At l k n (q + 1) nx a := ⟨h.le, h.le40, by rw [come_same l n q k hq]; exact h.sum⟩
theorem At.over {l : Nat → Nat} {k n nx a : Nat} (h : At l k n k nx a) : At l k (n + 1) 0 nx a := ⟨by have := h.le; omega, h.le40, by rw [come_over]; exact h.sum⟩
/-- The code of q is what is next. -/
theorem At.code {l : Nat → Nat} {k q nx a : Nat} (h : At l k (l q) q nx a) (h40 : l q ≤ 40) : nx * 2 ^ (l q - a) = code l k q := by
  have e := code_eq l k q h40
  have := h.sum
  rw [come_ahead, e, show 40 - a = (l q - a) + (40 - l q) by have := h.le; omega, Nat.pow_add, ← Nat.mul_assoc] at this
  exact Nat.mul_right_cancel (Nat.two_pow_pos _) this
theorem At.put {l : Nat → Nat} {k q nx a : Nat} (h : At l k (l q) q nx a) (hl : 0 < l q) (h40 : l q ≤ 40) (hk : q < k) : At l k (l q) (q + 1) (nx * 2 ^ (l q - a) + 1) (l q) := by
  refine ⟨Nat.le_refl _, h40, ?_⟩
  rw [come_one l q k hl hk, h.code h40, Nat.add_mul, Nat.one_mul, come_ahead, code_eq l k q h40]
end Go.Proofs.Ytcjhiolginpgoaa.Ht

namespace Go.Proofs.Ytcjhiolginpgoaa.Hm

/-- The cost of weights and lengths. -/
def cost : List Nat → List Nat → Nat
  | w :: ws, l :: ls => w * l + cost ws ls
  | _, _ => 0
/-- How much of 2 to the power of M lengths need. -/
def kraft (M : Nat) : List Nat → Nat
  | [] => 0
  | l :: ls => 2 ^ (M - l) + kraft M ls
def Rises : List Nat → Prop
  | [] => True
  | w :: ws => (∀ x ∈ ws, w ≤ x) ∧ Rises ws
def ins (x : Nat) : List Nat → List Nat
  | [] => [x]
  | w :: ws => if x ≤ w then x :: w :: ws else w :: ins x ws
theorem length_ins (x : Nat) (ws : List Nat) : (ins x ws).length = ws.length + 1 := by
  induction ws with
  | nil => rfl
  | cons w ws ih =>
    unfold ins
    split
    · rfl
    · simp [ih]
theorem mem_ins {x y : Nat} {ws : List Nat} : y ∈ ins x ws ↔ y = x ∨ y ∈ ws := by
  induction ws with
  | nil => simp [ins]
  | cons w ws ih =>
    unfold ins
    split
    · simp
    · simp only [List.mem_cons, ih]
      constructor
      · rintro (h | h | h)
        · exact .inr (.inl h)
        · exact .inl h
        · exact .inr (.inr h)
      · rintro (h | h | h)
        · exact .inr (.inl h)
        · exact .inl h
        · exact .inr (.inr h)
theorem rises_ins (x : Nat) (ws : List Nat) (h : Rises ws) : Rises (ins x ws) := by
  induction ws with
  | nil => exact ⟨fun y hy => (List.not_mem_nil hy).elim, trivial⟩
  | cons w ws ih =>
    unfold ins
    split
    · rename_i c
      refine ⟨fun y hy => ?_, h⟩
      rcases List.mem_cons.1 hy with rfl | hy
      · exact c
      · exact Nat.le_trans c (h.1 y hy)
    · rename_i c
      refine ⟨fun y hy => ?_, ih h.2⟩
      rcases mem_ins.1 hy with rfl | hy
      · omega
      · exact h.1 y hy
/-- What the way of the two least costs. -/
def huff : Nat → List Nat → Nat
  | n + 1, a :: b :: r => (a + b) + huff n (ins (a + b) r)
  | _, _ => 0

theorem kraft_perm {M : Nat} {a b : List Nat} (h : a.Perm b) : kraft M a = kraft M b := by
  induction h with
  | nil => rfl
  | cons x _ ih => simp only [kraft, ih]
  | swap x y l => simp only [kraft]; omega
  | trans _ _ h1 h2 => exact h1.trans h2
theorem kraft_dvd {M m : Nat} (hm : m ≤ M) (ls : List Nat) (h : ∀ x ∈ ls, x ≤ m) : ∃ k, kraft M ls = k * 2 ^ (M - m) := by
  induction ls with
  | nil => exact ⟨0, by simp [kraft]⟩
  | cons l ls ih =>
    obtain ⟨k, hk⟩ := ih (fun x hx => h x (List.mem_cons_of_mem _ hx))
    have hl := h l List.mem_cons_self
    refine ⟨2 ^ (m - l) + k, ?_⟩
    rw [kraft, hk, Nat.add_mul, ← Nat.pow_add]
    congr 2
    omega
/-- The greatest length to the front weight. -/
theorem swap_max (ws : List Nat) : ∀ (w : Nat) (ls : List Nat) (l : Nat), ls.length = ws.length → (∀ x ∈ ws, w ≤ x) → ∃ m ls', (m :: ls').Perm (l :: ls) ∧ ls'.length = ls.length ∧ (∀ x ∈ ls', x ≤ m) ∧ w * m + cost ws ls' ≤ w * l + cost ws ls := by
  induction ws with
  | nil =>
    intro w ls l hl _
    obtain rfl := List.eq_nil_of_length_eq_zero hl
    exact ⟨l, [], List.Perm.refl _, rfl, fun x hx => (List.not_mem_nil hx).elim, Nat.le_refl _⟩
  | cons v ws ih =>
    intro w ls l hl hw
    match ls, hl with
    | k :: ls, hl =>
      have hv : w ≤ v := hw v List.mem_cons_self
      have hl' : ls.length = ws.length := by simpa using hl
      -- the greatest of l and the rest behind k, at w
      obtain ⟨m, ls', p, len, mx, c⟩ := ih w ls l hl' (fun x hx => hw x (List.mem_cons_of_mem _ hx))
      by_cases g : k ≤ m
      · refine ⟨m, k :: ls', ?_, by simp [len], ?_, ?_⟩
        · exact (List.Perm.swap k m ls').trans ((List.Perm.cons k p).trans (List.Perm.swap l k ls))
        · intro x hx
          rcases List.mem_cons.1 hx with rfl | hx
          · exact g
          · exact mx x hx
        · simp only [cost]
          omega
      · refine ⟨k, m :: ls', ?_, by simp [len], ?_, ?_⟩
        · exact (List.Perm.cons k p).trans (List.Perm.swap l k ls)
        · intro x hx
          rcases List.mem_cons.1 hx with rfl | hx
          · omega
          · have := mx x hx; omega
        · simp only [cost]
          have h1 : w * k + v * m ≤ w * m + v * k := by
            obtain ⟨d, rfl⟩ : ∃ d, v = w + d := ⟨v - w, by omega⟩
            obtain ⟨e, rfl⟩ : ∃ e, k = m + e := ⟨k - m, by omega⟩
            have : d * m ≤ d * (m + e) := Nat.mul_le_mul_left d (by omega)
            rw [Nat.add_mul, Nat.add_mul]
            omega
          omega
theorem cost_ins (x y : Nat) (ws : List Nat) : ∀ ls : List Nat, ls.length = ws.length → ∃ ls', ls'.Perm (y :: ls) ∧ ls'.length = ls.length + 1 ∧ cost (ins x ws) ls' = x * y + cost ws ls := by
  induction ws with
  | nil =>
    intro ls hl
    obtain rfl := List.eq_nil_of_length_eq_zero hl
    exact ⟨[y], List.Perm.refl _, rfl, rfl⟩
  | cons w ws ih =>
    intro ls hl
    match ls, hl with
    | l :: ls, hl =>
      unfold ins
      split
      · exact ⟨y :: l :: ls, List.Perm.refl _, rfl, rfl⟩
      · obtain ⟨ls', p, len, e⟩ := ih ls (by simpa using hl)
        refine ⟨l :: ls', (List.Perm.cons l p).trans (List.Perm.swap y l ls), by simp [len], ?_⟩
        simp only [cost, e]
        omega
/-- No lengths that fit cost less. -/
theorem best (M : Nat) : ∀ (n : Nat) (ws ls : List Nat), ws.length ≤ n → ls.length = ws.length → Rises ws → (∀ l ∈ ls, l ≤ M) → kraft M ls ≤ 2 ^ M → huff n ws ≤ cost ws ls := by
  intro n
  induction n with
  | zero =>
    intro ws ls h1 _ _ _ _
    unfold huff
    exact Nat.zero_le _
  | succ n ih =>
    intro ws ls h1 h2 hr hM hk
    match ws, ls, h2 with
    | [], _, _ => exact Nat.zero_le _
    | [_], _, _ => exact Nat.zero_le _
    | a :: b :: r, la :: lb :: lr, h2 =>
      have hlen : lr.length = r.length := by simpa using h2
      obtain ⟨m1, q1, p1, len1, mx1, c1⟩ := swap_max (b :: r) a (lb :: lr) la (by simp [hlen]) hr.1
      match q1, len1 with
      | l2 :: q1, len1 =>
        have len1' : q1.length = r.length := by simp at len1; omega
        obtain ⟨m2, q2, p2, len2, mx2, c2⟩ := swap_max r b q1 l2 len1' hr.2.1
        have hm21 : m2 ≤ m1 := mx1 m2 (p2.subset List.mem_cons_self)
        have P : (m1 :: m2 :: q2).Perm (la :: lb :: lr) := (List.Perm.cons m1 p2).trans p1
        have hM2 : m2 ≤ M := hM m2 (P.subset (by simp))
        have hM1 : m1 ≤ M := hM m1 (P.subset (by simp))
        have K : 2 ^ (M - m1) + (2 ^ (M - m2) + kraft M q2) ≤ 2 ^ M := by
          have := kraft_perm (M := M) P
          simp only [kraft] at this hk
          omega
        obtain ⟨k, hkk⟩ := kraft_dvd hM2 q2 mx2
        have e0 : 2 ^ M = 2 ^ m2 * 2 ^ (M - m2) := by rw [← Nat.pow_add]; congr 1; omega
        have pos1 : 0 < 2 ^ (M - m1) := Nat.two_pow_pos _
        have pos2 : 0 < 2 ^ (M - m2) := Nat.two_pow_pos _
        have k2 : k + 2 ≤ 2 ^ m2 := by
          refine Nat.lt_of_mul_lt_mul_right (a := 2 ^ (M - m2)) ?_
          rw [← e0, Nat.add_mul, Nat.one_mul, ← hkk]
          omega
        have m2p : 1 ≤ m2 := by
          rcases Nat.eq_zero_or_pos m2 with e | e
          · rw [e] at k2
            simp at k2
          · exact e
        obtain ⟨ls', p', len', ec⟩ := cost_ins (a + b) (m2 - 1) r q2 (by omega)
        have K2 : kraft M ls' ≤ 2 ^ M := by
          rw [kraft_perm p', kraft, hkk, e0]
          have e1 : 2 ^ (M - (m2 - 1)) = 2 * 2 ^ (M - m2) := by
            rw [show M - (m2 - 1) = (M - m2) + 1 by omega, Nat.pow_succ]; omega
          rw [e1, ← Nat.add_mul]
          exact Nat.mul_le_mul_right _ (by omega)
        have I := ih (ins (a + b) r) ls' (by rw [length_ins]; simp at h1; omega) (by rw [length_ins]; omega) (rises_ins _ _ hr.2.2) (fun l hl => by
          rcases List.mem_cons.1 (p'.subset hl) with rfl | hl
          · omega
          · exact hM l (P.subset (by simp [hl]))) K2
        rw [ec] at I
        have s1 : a * m2 ≤ a * m1 := Nat.mul_le_mul_left a hm21
        have s2 : (a + b) * (m2 - 1) + (a + b) = (a + b) * m2 := by
          obtain ⟨d, rfl⟩ : ∃ d, m2 = d + 1 := ⟨m2 - 1, by omega⟩
          rw [Nat.add_sub_cancel, Nat.mul_succ]
        have s3 : (a + b) * m2 = a * m2 + b * m2 := Nat.add_mul _ _ _
        show (a + b) + huff n (ins (a + b) r) ≤ _
        simp only [cost] at c1 c2 ⊢
        omega
end Go.Proofs.Ytcjhiolginpgoaa.Hm

namespace Go.Proofs.Ytcjhiolginpgoaa.Hn

structure Tg where
  id : Nat
  wt : Nat
  sy : List Nat
def fib : Nat → Nat
  | 0 => 0
  | 1 => 1
  | n + 2 => fib (n + 1) + fib n
theorem fib_step (n : Nat) : fib (n + 2) = fib (n + 1) + fib n := rfl
theorem fib_le (n : Nat) : fib n ≤ fib (n + 1) := by
  cases n with
  | zero => decide
  | succ n => rw [fib_step]; omega
theorem fib_mono {m n : Nat} (h : m ≤ n) : fib m ≤ fib n := by
  obtain ⟨k, rfl⟩ : ∃ k, n = m + k := ⟨n - m, by omega⟩
  clear h
  induction k with
  | zero => exact Nat.le_refl _
  | succ k ih => exact Nat.le_trans ih (fib_le _)
def fibs : Nat → Nat × Nat
  | 0 => (0, 1)
  | n + 1 => ((fibs n).2, (fibs n).2 + (fibs n).1)
theorem fibs_eq (n : Nat) : fibs n = (fib n, fib (n + 1)) := by
  induction n with
  | zero => rfl
  | succ n ih => rw [fibs, ih]; rfl
theorem fib_43 : 268435456 < fib 43 := by
  have : fib 43 = (fibs 43).1 := by rw [fibs_eq]
  rw [this]
  decide +kernel
/-- Deep symbols are heavy. -/
theorem deep {d : Nat} {w : Nat} (h : fib (d + 2) ≤ w) (hw : w ≤ 268435456) : d ≤ 40 := by
  refine Nat.le_of_not_lt fun c => ?_
  have := fib_mono (show 43 ≤ d + 2 by omega)
  have := fib_43
  omega
def Apart (d : Nat → Nat) (x y : Tg) : Prop := (∀ c ∈ x.sy, fib (d c + 1) ≤ y.wt) ∧ (∀ c ∈ y.sy, fib (d c + 1) ≤ x.wt)
theorem Apart.symm {d : Nat → Nat} {x y : Tg} (h : Apart d x y) : Apart d y x := ⟨h.2, h.1⟩
structure Inv (cnt d : Nat → Nat) (l : List Tg) : Prop where
  nd : (l.flatMap Tg.sy).Nodup
  wt : ∀ x ∈ l, x.wt = (x.sy.map cnt).sum
  hi : ∀ x ∈ l, ∀ c ∈ x.sy, fib (d c + 2) ≤ x.wt
  ot : l.Pairwise (Apart d)
  kr : ∀ x ∈ l, (x.sy.map fun c => 2 ^ (40 - d c)).sum = 2 ^ 40
theorem Inv.perm {cnt d : Nat → Nat} {l m : List Tg} (p : l.Perm m) (h : Inv cnt d l) : Inv cnt d m :=
  ⟨(p.flatMap_right Tg.sy).nodup h.nd, fun x hx => h.wt x (p.symm.subset hx), fun x hx => h.hi x (p.symm.subset hx), (p.pairwise_iff (fun h => h.symm)).1 h.ot, fun x hx => h.kr x (p.symm.subset hx)⟩
def bump (d : Nat → Nat) (s : List Nat) (c : Nat) : Nat := d c + s.count c
theorem bump_in {d : Nat → Nat} {s : List Nat} (h : s.Nodup) {c : Nat} (hc : c ∈ s) : bump d s c = d c + 1 := by
  unfold bump
  rw [h.count, if_pos hc]
theorem bump_out {d : Nat → Nat} {s : List Nat} {c : Nat} (hc : c ∉ s) : bump d s c = d c := by
  unfold bump
  rw [List.count_eq_zero.2 hc]
  rfl
theorem sum_half (d : Nat → Nat) (s : List Nat) (h : ∀ c ∈ s, d c + 1 ≤ 40) : 2 * (s.map fun c => 2 ^ (40 - (d c + 1))).sum = (s.map fun c => 2 ^ (40 - d c)).sum := by
  induction s with
  | nil => rfl
  | cons c s ih =>
    have h1 := h c List.mem_cons_self
    have h2 := ih (fun x hx => h x (List.mem_cons_of_mem _ hx))
    have h3 : 2 ^ (40 - d c) = 2 * 2 ^ (40 - (d c + 1)) := by
      rw [show 40 - d c = (40 - (d c + 1)) + 1 by omega, Nat.pow_succ]; omega
    simp only [List.map_cons, List.sum_cons]
    rw [h3, ← h2]
    omega
theorem sum_cong {f g : Nat → Nat} {s : List Nat} (h : ∀ c ∈ s, f c = g c) : (s.map f).sum = (s.map g).sum := by
  rw [List.map_congr_left h]
/-- The two least become one. -/
theorem Inv.step {cnt d : Nat → Nat} {a b : Tg} {r : List Tg} (h : Inv cnt d (a :: b :: r)) (n : Nat) (ha : ∀ x ∈ b :: r, a.wt ≤ x.wt) (hb : ∀ x ∈ r, b.wt ≤ x.wt) (hT : a.wt + b.wt ≤ 268435456) :
    Inv cnt (bump d (a.sy ++ b.sy)) (⟨n, a.wt + b.wt, a.sy ++ b.sy⟩ :: r) := by
  have nd := h.nd
  simp only [List.flatMap_cons] at nd
  rw [← List.append_assoc] at nd
  have ndab : (a.sy ++ b.sy).Nodup := (List.nodup_append.1 nd).1
  have ndr : ∀ y ∈ r, ∀ c ∈ y.sy, c ∉ a.sy ++ b.sy := fun y hy c hc hab => (List.nodup_append.1 nd).2.2 c hab c (List.mem_flatMap.2 ⟨y, hy, hc⟩) rfl
  have inn : ∀ c ∈ a.sy ++ b.sy, bump d (a.sy ++ b.sy) c = d c + 1 := fun c hc => bump_in ndab hc
  have outt : ∀ y ∈ r, ∀ c ∈ y.sy, bump d (a.sy ++ b.sy) c = d c := fun y hy c hc => bump_out (ndr y hy c hc)
  have pa := List.pairwise_cons.1 h.ot
  have pb := List.pairwise_cons.1 pa.2
  have ab := pa.1 b List.mem_cons_self
  have hia := h.hi a List.mem_cons_self
  have hib := h.hi b (List.mem_cons_of_mem _ List.mem_cons_self)
  have hz : ∀ c ∈ a.sy ++ b.sy, fib (d c + 1 + 2) ≤ a.wt + b.wt := fun c hc => by
    rw [fib_step]
    rcases List.mem_append.1 hc with e | e
    · have h1 := hia c e
      have h2 := ab.1 c e
      show fib (d c + 2) + fib (d c + 1) ≤ _
      omega
    · have h1 := hib c e
      have h2 := ab.2 c e
      show fib (d c + 2) + fib (d c + 1) ≤ _
      omega
  refine ⟨?_, ?_, ?_, ?_, ?_⟩
  · simp only [List.flatMap_cons]
    exact nd
  · intro x hx
    rcases List.mem_cons.1 hx with rfl | hx
    · show a.wt + b.wt = ((a.sy ++ b.sy).map cnt).sum
      rw [List.map_append, List.sum_append, ← h.wt a List.mem_cons_self, ← h.wt b (List.mem_cons_of_mem _ List.mem_cons_self)]
    · exact h.wt x (List.mem_cons_of_mem _ (List.mem_cons_of_mem _ hx))
  · intro x hx c hc
    rcases List.mem_cons.1 hx with rfl | hx
    · rw [inn c hc]
      exact hz c hc
    · rw [outt x hx c hc]
      exact h.hi x (List.mem_cons_of_mem _ (List.mem_cons_of_mem _ hx)) c hc
  · refine List.pairwise_cons.2 ⟨fun y hy => ⟨fun c hc => ?_, fun c hc => ?_⟩, ?_⟩
    · rw [inn c hc]
      show fib (d c + 2) ≤ y.wt
      rcases List.mem_append.1 hc with e | e
      · exact Nat.le_trans (hia c e) (ha y (List.mem_cons_of_mem _ hy))
      · exact Nat.le_trans (hib c e) (hb y hy)
    · rw [outt y hy c hc]
      have := (pa.1 y (List.mem_cons_of_mem _ hy)).2 c hc
      show _ ≤ a.wt + b.wt
      omega
    · refine List.Pairwise.imp_of_mem (fun hx hy hxy => ?_) pb.2
      exact ⟨fun c hc => by rw [outt _ hx c hc]; exact hxy.1 c hc, fun c hc => by rw [outt _ hy c hc]; exact hxy.2 c hc⟩
  · intro x hx
    rcases List.mem_cons.1 hx with rfl | hx
    · have le40 : ∀ c ∈ a.sy ++ b.sy, d c + 1 ≤ 40 := fun c hc => deep (hz c hc) hT
      show ((a.sy ++ b.sy).map fun c => 2 ^ (40 - bump d (a.sy ++ b.sy) c)).sum = 2 ^ 40
      rw [sum_cong (g := fun c => 2 ^ (40 - (d c + 1))) (fun c hc => by rw [inn c hc])]
      have k1 := h.kr a List.mem_cons_self
      have k2 := h.kr b (List.mem_cons_of_mem _ List.mem_cons_self)
      have s1 := sum_half d (a.sy ++ b.sy) le40
      have s2 : ((a.sy ++ b.sy).map fun c => 2 ^ (40 - d c)).sum = 2 ^ 40 + 2 ^ 40 := by
        rw [List.map_append, List.sum_append, k1, k2]
      rw [s2] at s1
      omega
    · rw [sum_cong (g := fun c => 2 ^ (40 - d c)) (fun c hc => by rw [outt x hx c hc])]
      exact h.kr x (List.mem_cons_of_mem _ (List.mem_cons_of_mem _ hx))
/-- What it costs so far. -/
def costs (cnt d : Nat → Nat) (l : List Tg) : Nat := ((l.flatMap Tg.sy).map fun c => cnt c * d c).sum
theorem costs_perm {cnt d : Nat → Nat} {l m : List Tg} (p : l.Perm m) : costs cnt d l = costs cnt d m := ((p.flatMap_right Tg.sy).map _).sum_nat
theorem sum_more (cnt d : Nat → Nat) (s : List Nat) : (s.map fun c => cnt c * (d c + 1)).sum = (s.map fun c => cnt c * d c).sum + (s.map cnt).sum := by
  induction s with
  | nil => rfl
  | cons c s ih =>
    simp only [List.map_cons, List.sum_cons]
    rw [ih, Nat.mul_succ]
    omega
theorem costs_step {cnt d : Nat → Nat} {a b : Tg} {r : List Tg} (h : Inv cnt d (a :: b :: r)) (n : Nat) : costs cnt (bump d (a.sy ++ b.sy)) (⟨n, a.wt + b.wt, a.sy ++ b.sy⟩ :: r) = costs cnt d (a :: b :: r) + (a.wt + b.wt) := by
  have nd := h.nd
  simp only [List.flatMap_cons] at nd
  rw [← List.append_assoc] at nd
  have ndab : (a.sy ++ b.sy).Nodup := (List.nodup_append.1 nd).1
  have e1 : ((a.sy ++ b.sy).map fun c => cnt c * bump d (a.sy ++ b.sy) c).sum = ((a.sy ++ b.sy).map fun c => cnt c * d c).sum + ((a.sy ++ b.sy).map cnt).sum := by
    rw [← sum_more]
    exact sum_cong fun c hc => by rw [bump_in ndab hc]
  have e2 : ((r.flatMap Tg.sy).map fun c => cnt c * bump d (a.sy ++ b.sy) c).sum = ((r.flatMap Tg.sy).map fun c => cnt c * d c).sum :=
    sum_cong fun c hc => by
      rw [bump_out fun hab => (List.nodup_append.1 nd).2.2 c hab c hc rfl]
  have wa := h.wt a List.mem_cons_self
  have wb := h.wt b (List.mem_cons_of_mem _ List.mem_cons_self)
  unfold costs
  simp only [List.flatMap_cons, List.map_append, List.sum_append] at e1 e2 ⊢
  omega
end Go.Proofs.Ytcjhiolginpgoaa.Hn
