/-
  Plain arithmetic of binomials: ways, the place of a word among those of its class, the word of a place. Nothing of the program is in here.
-/
import Derived.Test.YtjbabnnibocdfaaNum
namespace Go.Proofs.Ytjbabnnibocdfaa
open Num
namespace Bn

def ch : Nat → Nat → Nat
  | _, 0 => 1
  | 0, _ + 1 => 0
  | n + 1, k + 1 => ch n k + ch n (k + 1)
theorem ch_zero (n : Nat) : ch n 0 = 1 := by cases n <;> rfl
theorem ch_succ (n k : Nat) : ch (n + 1) (k + 1) = ch n k + ch n (k + 1) := rfl
theorem ch_out : ∀ n k, n < k → ch n k = 0 := by
  intro n
  induction n with
  | zero => intro k h; match k, h with | k + 1, _ => rfl
  | succ n ih => intro k h; match k, h with | k + 1, h => rw [ch_succ, ih k (by omega), ih (k + 1) (by omega)]
theorem ch_self : ∀ n, ch n n = 1 := by
  intro n
  induction n with
  | zero => rfl
  | succ n ih => rw [ch_succ, ih, ch_out n (n + 1) (by omega)]
theorem ch_pos : ∀ n k, k ≤ n → 0 < ch n k := by
  intro n
  induction n with
  | zero => intro k h; obtain rfl : k = 0 := by omega
            exact Nat.one_pos
  | succ n ih =>
    intro k h
    match k, h with
    | 0, _ => rw [ch_zero]; exact Nat.one_pos
    | k + 1, h => rw [ch_succ]; have := ih k (by omega); omega
theorem ch_le : ∀ n k, ch n k ≤ 2 ^ n := by
  intro n
  induction n with
  | zero => intro k; match k with | 0 => exact Nat.le_refl _ | k + 1 => exact Nat.zero_le _
  | succ n ih =>
    intro k
    match k with
    | 0 => rw [ch_zero]; exact Nat.one_le_two_pow
    | k + 1 => rw [ch_succ, Nat.pow_succ]; have := ih k; have := ih (k + 1); omega
theorem ch_mono (n k : Nat) : ch n k ≤ ch (n + 1) k := by
  match k with
  | 0 => rw [ch_zero, ch_zero]; exact Nat.le_refl _
  | k + 1 => rw [ch_succ]; omega
theorem ch_symm : ∀ n k, k ≤ n → ch n k = ch n (n - k) := by
  intro n
  induction n with
  | zero => intro k h; obtain rfl : k = 0 := by omega
            rfl
  | succ n ih =>
    intro k h
    match k, h with
    | 0, _ => rw [ch_zero, Nat.sub_zero, ch_self]
    | k + 1, h =>
      by_cases c : k = n
      · subst c; rw [ch_self, Nat.sub_self, ch_zero]
      · have e : n + 1 - (k + 1) = (n - (k + 1)) + 1 := by omega
        rw [ch_succ, e, ch_succ, ← ih (k + 1) (by omega), show n - (k + 1) + 1 = n - k by omega, ← ih k (by omega)]
        omega
/-- The ways of fewer than k things together. -/
def sumTo (n : Nat) : Nat → Nat
  | 0 => 0
  | k + 1 => sumTo n k + ch n k
theorem sum_step (n : Nat) : ∀ k, sumTo (n + 1) (k + 1) = sumTo n k + sumTo n (k + 1) := by
  intro k
  induction k with
  | zero => simp [sumTo, ch_zero]
  | succ k ih =>
    rw [sumTo, ih, ch_succ]
    simp only [sumTo]
    omega
theorem sum_all : ∀ n, sumTo n (n + 1) = 2 ^ n := by
  intro n
  induction n with
  | zero => rfl
  | succ n ih =>
    have e : sumTo n (n + 2) = sumTo n (n + 1) + ch n (n + 1) := rfl
    rw [sum_step, e, ch_out n (n + 1) (by omega), ih, Nat.pow_succ]
    omega
theorem sum_mono (n : Nat) : ∀ d k, sumTo n k ≤ sumTo n (k + d) := by
  intro d
  induction d with
  | zero => intro k; exact Nat.le_refl _
  | succ d ih => intro k; have := ih k; rw [show k + (d + 1) = k + d + 1 by omega, sumTo]; omega
theorem sum_le (n k : Nat) (h : k ≤ n + 1) : sumTo n k ≤ 2 ^ n := by
  rw [← sum_all n]
  have := sum_mono n (n + 1 - k) k
  rw [show k + (n + 1 - k) = n + 1 by omega] at this
  exact this

/-- How many words of n bits and of the class of x are less than the lowest n bits of x. -/
def off (x : Nat) : Nat → Nat
  | 0 => 0
  | n + 1 => off x n + if x / 2 ^ n % 2 = 1 then ch n (cnt x (n + 1)) else 0
theorem off_lt (x : Nat) : ∀ n, off x n < ch n (cnt x n) := by
  intro n
  induction n with
  | zero => exact Nat.one_pos
  | succ n ih =>
    rw [off]
    by_cases hb : x / 2 ^ n % 2 = 1
    · rw [if_pos hb]
      have e : cnt x (n + 1) = cnt x n + 1 := by rw [cnt, hb]
      rw [e, ch_succ]
      omega
    · rw [if_neg hb]
      have e : cnt x (n + 1) = cnt x n := by rw [cnt]; omega
      rw [e]
      have := ch_mono n (cnt x n)
      omega
theorem off_mod (x m : Nat) : ∀ n, n ≤ m → off (x % 2 ^ m) n = off x n := by
  intro n
  induction n with
  | zero => intro _; rfl
  | succ n ih =>
    intro h
    rw [off, off, ih (by omega), bit_mod x m n (by omega), cnt_mod x m (n + 1) h]
def blk : Nat → Nat → Nat → Nat
  | 0, _, _ => 0
  | i + 1, k, o => if k = 0 then 0 else if ch i k ≤ o then 2 ^ i + blk i (k - 1) (o - ch i k) else blk i k o
theorem blk_zero (n o : Nat) : blk n 0 o = 0 := by
  cases n with
  | zero => rfl
  | succ n => rw [blk, if_pos rfl]
theorem blk_hi (i k o : Nat) (hk : k ≠ 0) (h : ch i k ≤ o) : blk (i + 1) k o = 2 ^ i + blk i (k - 1) (o - ch i k) := by rw [blk, if_neg hk, if_pos h]
theorem blk_lo (i k o : Nat) (hk : k ≠ 0) (h : ¬ ch i k ≤ o) : blk (i + 1) k o = blk i k o := by rw [blk, if_neg hk, if_neg h]
theorem blk_lt : ∀ n k o, blk n k o < 2 ^ n := by
  intro n
  induction n with
  | zero => intro k o; exact Nat.one_pos
  | succ n ih =>
    intro k o
    have p : 2 ^ (n + 1) = 2 ^ n + 2 ^ n := by rw [Nat.pow_succ]; omega
    by_cases hk : k = 0
    · subst hk; rw [blk_zero]; exact Nat.two_pow_pos _
    · by_cases h : ch n k ≤ o
      · rw [blk_hi n k o hk h]; have := ih (k - 1) (o - ch n k); omega
      · rw [blk_lo n k o hk h]; have := ih k o; omega
theorem mod_bit (x n : Nat) : x % 2 ^ (n + 1) = x % 2 ^ n + 2 ^ n * (x / 2 ^ n % 2) := by rw [Nat.mod_pow_succ]
theorem blk_off (x : Nat) : ∀ n, blk n (cnt x n) (off x n) = x % 2 ^ n := by
  intro n
  induction n with
  | zero => simp [blk, Nat.mod_one]
  | succ n ih =>
    rw [mod_bit]
    by_cases hb : x / 2 ^ n % 2 = 1
    · have e : cnt x (n + 1) = cnt x n + 1 := by rw [cnt, hb]
      have eo : off x (n + 1) = off x n + ch n (cnt x n + 1) := by rw [off, if_pos hb, e]
      rw [e, eo, blk_hi _ _ _ (by omega) (by omega), hb, Nat.add_sub_cancel, Nat.add_sub_cancel, ih]
      omega
    · have e : cnt x (n + 1) = cnt x n := by rw [cnt]; omega
      have eo : off x (n + 1) = off x n := by rw [off, if_neg hb, Nat.add_zero]
      have h0 : x / 2 ^ n % 2 = 0 := by omega
      rw [e, eo, h0, Nat.mul_zero]
      show _ = x % 2 ^ n
      by_cases hk : cnt x n = 0
      · rw [← ih, hk, blk_zero, blk_zero]
      · have := off_lt x n
        rw [blk_lo _ _ _ hk (by omega), ih]
theorem off_order : ∀ n a b, cnt a n = cnt b n → a % 2 ^ n < b % 2 ^ n → off a n < off b n := by
  intro n
  induction n with
  | zero => intro a b _ h; simp [Nat.mod_one] at h
  | succ n ih =>
    intro a b hc h
    rw [mod_bit, mod_bit b] at h
    have la := Nat.mod_lt a (Nat.two_pow_pos n)
    have lb := Nat.mod_lt b (Nat.two_pow_pos n)
    have oa := off_lt a n
    by_cases ha : a / 2 ^ n % 2 = 1
    · by_cases hb : b / 2 ^ n % 2 = 1
      · have ea : cnt a (n + 1) = cnt a n + 1 := by rw [cnt, ha]
        have eb : cnt b (n + 1) = cnt b n + 1 := by rw [cnt, hb]
        rw [off, off, if_pos ha, if_pos hb, hc]
        rw [ha, hb] at h
        have := ih a b (by omega) (by omega)
        omega
      · have hb0 : b / 2 ^ n % 2 = 0 := by omega
        rw [ha, hb0] at h
        omega
    · have ha0 : a / 2 ^ n % 2 = 0 := by omega
      have ea : cnt a (n + 1) = cnt a n := by rw [cnt]; omega
      by_cases hb : b / 2 ^ n % 2 = 1
      · rw [off, off, if_neg ha, if_pos hb, ← hc, ea]
        omega
      · have hb0 : b / 2 ^ n % 2 = 0 := by omega
        have eb : cnt b (n + 1) = cnt b n := by rw [cnt]; omega
        rw [off, off, if_neg ha, if_neg hb]
        rw [ha0, hb0] at h
        have := ih a b (by omega) (by omega)
        omega
theorem off_same (n a b : Nat) (hc : cnt a n = cnt b n) (h : off a n = off b n) : a % 2 ^ n = b % 2 ^ n := by
  rw [← blk_off a n, ← blk_off b n, hc, h]
theorem off_of (n a b : Nat) (h : a % 2 ^ n = b % 2 ^ n) : off a n = off b n := by
  rw [← off_mod a n n (Nat.le_refl _), ← off_mod b n n (Nat.le_refl _), h]
theorem off_lt_iff (n a b : Nat) (hc : cnt a n = cnt b n) : (a % 2 ^ n < b % 2 ^ n) ↔ off a n < off b n := by
  constructor
  · exact off_order n a b hc
  · intro h
    rcases Nat.lt_trichotomy (a % 2 ^ n) (b % 2 ^ n) with c | c | c
    · exact c
    · have := off_of n a b c; omega
    · have := off_order n b a hc.symm c; omega
theorem blk_first : ∀ n k, k ≤ n → blk n k 0 = 2 ^ k - 1 := by
  intro n
  induction n with
  | zero => intro k h; obtain rfl : k = 0 := by omega
            rfl
  | succ n ih =>
    intro k h
    by_cases hk : k = 0
    · subst hk; rw [blk_zero]
    · by_cases c : k = n + 1
      · subst c
        have z := ch_out n (n + 1) (by omega)
        have p := Nat.two_pow_pos n
        rw [blk_hi _ _ _ hk (by omega), Nat.add_sub_cancel, Nat.zero_sub, ih n (Nat.le_refl _), Nat.pow_succ]
        omega
      · have := ch_pos n k (by omega)
        rw [blk_lo _ _ _ hk (by omega), ih k (by omega)]
theorem blk_last : ∀ n k, k ≤ n → blk n k (ch n k - 1) = (2 ^ k - 1) * 2 ^ (n - k) := by
  intro n
  induction n with
  | zero => intro k h; obtain rfl : k = 0 := by omega
            rfl
  | succ n ih =>
    intro k h
    match k, h with
    | 0, _ => rw [blk_zero]; simp
    | k + 1, h =>
      have p := ch_pos n k (by omega)
      rw [blk_hi _ _ _ (by omega) (by rw [ch_succ]; omega), ch_succ, Nat.add_sub_cancel, show ch n k + ch n (k + 1) - 1 - ch n (k + 1) = ch n k - 1 by omega, ih k (by omega), show n + 1 - (k + 1) = n - k by omega]
      have e : 2 ^ n = 2 ^ k * 2 ^ (n - k) := by rw [← Nat.pow_add, show k + (n - k) = n by omega]
      have q := Nat.two_pow_pos k
      rw [e, Nat.pow_succ, show 2 ^ k * 2 - 1 = 2 ^ k + (2 ^ k - 1) by omega, Nat.add_mul]
theorem ch62 (n k : Nat) (h : n ≤ 62) : ch n k ≤ 4611686018427387904 := by
  have := ch_le n k
  have : 2 ^ n ≤ 2 ^ 62 := Nat.pow_le_pow_right (by decide) h
  omega

/-- What Choose answers. -/
def chN (n k : Int) : Nat := if n < 0 ∨ 62 < n ∨ k < 0 ∨ n < k then 0 else ch n.toNat k.toNat
def wdN (n k : Int) : Nat := if chN n k = 0 then 0 else Go.bitLen (chN n k - 1)
def ofK (x : Nat) (n : Int) : Nat := if n < 0 ∨ 62 < n then 0 else cnt x n.toNat
def ofO (x : Nat) (n : Int) : Nat := if n < 0 ∨ 62 < n then 0 else off x n.toNat
def bkX (n k : Int) (o : Nat) : Nat := if chN n k ≤ o then 0 else blk n.toNat k.toNat o
def bkB (n k : Int) (o : Nat) : Bool := decide (o < chN n k)
theorem chN_in (n k : Nat) (h : n ≤ 62) : chN n k = ch n k := by
  unfold chN
  by_cases c : n < k
  · rw [if_pos (by omega), ch_out n k c]
  · rw [if_neg (by omega), Int.toNat_natCast, Int.toNat_natCast]
theorem chN_le (n k : Int) : chN n k ≤ 4611686018427387904 := by
  unfold chN
  split
  · omega
  · exact ch62 _ _ (by omega)
theorem wd_le (n k : Int) : wdN n k ≤ 62 := by
  unfold wdN
  split
  · omega
  · have := chN_le n k
    exact len_le _ 62 (by omega)
theorem lt_len (x : Nat) (h : x < 18446744073709551616) : x < 2 ^ Go.bitLen x := by
  by_cases h0 : x = 0
  · subst h0; exact Nat.two_pow_pos _
  · obtain ⟨p, hp, h1, _, hd, _⟩ := long (x : Int) (by omega) (by omega) (by omega)
    unfold lenI at hp
    rw [Int.toNat_natCast] at hp
    have hp2 : Go.bitLen x = p := by omega
    rw [hp2]
    have e : x / 2 ^ (p - 1) = 1 := by
      rw [shr_nat _ _ (by omega), Int.toNat_natCast] at hd
      omega
    have e2 : 2 ^ p = 2 ^ (p - 1) * 2 := by
      obtain ⟨m, rfl⟩ : ∃ m, p = m + 1 := ⟨p - 1, by omega⟩
      rw [Nat.add_sub_cancel, Nat.pow_succ]
    have q := Nat.two_pow_pos (p - 1)
    have := Nat.lt_mul_div_succ x q
    rw [e] at this
    omega
theorem len_top (x : Nat) (h : x < 18446744073709551616) (h0 : 0 < Go.bitLen x) : x / 2 ^ (Go.bitLen x - 1) = 1 := by
  have hx : x ≠ 0 := by
    intro e; subst e
    have := len_le 0 0 (by decide)
    omega
  obtain ⟨p, hp, h1, _, hd, _⟩ := long (x : Int) (by omega) (by omega) (by omega)
  unfold lenI at hp
  rw [Int.toNat_natCast] at hp
  have hp2 : Go.bitLen x = p := by omega
  rw [hp2]
  rw [shr_nat _ _ (by omega), Int.toNat_natCast] at hd
  omega
theorem len_mono (x y : Nat) (h : x ≤ y) (hy : y < 18446744073709551616) : Go.bitLen x ≤ Go.bitLen y := len_le _ _ (Nat.lt_of_le_of_lt h (lt_len y hy))
end Bn
end Go.Proofs.Ytjbabnnibocdfaa
