/-
  Plain arithmetic of binomials: ways, the place of a word among those of its class, the word of a place. Nothing of the program is in here. Plain arithmetic of rows of bits in blocks of fifteen: each block's class and offset, the offsets one behind the other, and the way back. Nothing of the program is in here. The contracts of the document's block and low, and of the law that two rows of numbers are one. An argument of the type api.Bits, opened: its number, its words, where they lie. Plain arithmetic of rows of bits with counts beside them. Nothing of the program is in here. Numbers in memory (a slice of ints that reads as a list), boxes of four cells, and an argument of the type api.Plain, opened. The contract of Same, the law that two rows are one. The contracts of the document's Numbers and Same. The contracts of the document's Same of rows of numbers, and of rows in blocks. A row of words of the call's own. The contract of the document's Choose. The contracts of the document's Width, Offset and Block. The contract of the document's row: the way back from classes and offsets. Rows in blocks: the classes laid by Make, the offsets laid by From, and the way back from them: plain. A region that draws its order and ends in a store over a cell that it has read: 'x.f = append(x.f, ..)'. What is held of the world (S) is asked behind every operation but the last ones (numbers ns: the stores), each of which waits for each operation that is taken first. What stands while a row in blocks is built: the boxes, and four rows that grow, each in blocks of its own. The contract of the document's row: the way back from classes and offsets. One block alone is written: what stays. A struct, or an array, whole, out of and into a block of its own. The contract of the document's Build of layer 8. What a row of one of the kinds tells, once it is known whether it may be (ok) and which bits it has (N, X): plain. Rows in blocks: when one may be, and which bits it has: plain. The contracts of the document's Check, Bits, Access, Rank and Select, over that of its Whole. The contracts of the document's Build, Whole and Size of layer 8.
-/
import Derived.Test.YtmphbnmcbonmmaaDoorM00
import Derived.Test.YtmphbnmcbonmmaaDoorM01
import Derived.ProofKit
import Derived.OpenShut
import Derived.Lib.SmallJoins
import Derived.OwnWalk
import Derived.Deep.AppendLies
import Derived.Deep.Strs
import Derived.Deep.QuietTactic
import Derived.BigQuiet
import Derived.WalkSmall
import Derived.RegionTactic
import Derived.BigRegion
import Derived.Deep.RegionHeld3
import Derived.OrdersHeld
import Derived.Laws.Rows
import Derived.Laws.Tables
import Derived.Deep.DeepCutAuto
namespace Go.Proofs.YtmphbnmcbonmmaaDoor
open Num
namespace Bn

def ch : Nat → Nat → Nat
  | _, 0 => 1
  | 0, _ + 1 => 0
  | n + 1, k + 1 => ch n k + ch n (k + 1)
theorem ch_zero (n : Nat) : ch n 0 = 1 := by cases n <;> rfl
theorem ch_succ (n k : Nat) : ch (n + 1) (k + 1) = ch n k + ch n (k + 1) := rfl
theorem ch_out : ∀ n k, n < k → ch n k = 0 := by
  intro n
  induction n with
  | zero => intro k h; match k, h with | k + 1, _ => rfl
  | succ n ih => intro k h; match k, h with | k + 1, h => rw [ch_succ, ih k (by omega), ih (k + 1) (by omega)]
theorem ch_self : ∀ n, ch n n = 1 := by
  intro n
  induction n with
  | zero => rfl
  | succ n ih => rw [ch_succ, ih, ch_out n (n + 1) (by omega)]
theorem ch_pos : ∀ n k, k ≤ n → 0 < ch n k := by
  intro n
  induction n with
  | zero => intro k h; obtain rfl : k = 0 := by omega
            exact Nat.one_pos
  | succ n ih =>
    intro k h
    match k, h with
    | 0, _ => rw [ch_zero]; exact Nat.one_pos
    | k + 1, h => rw [ch_succ]; have := ih k (by omega); omega
theorem ch_le : ∀ n k, ch n k ≤ 2 ^ n := by
  intro n
  induction n with
  | zero => intro k; match k with | 0 => exact Nat.le_refl _ | k + 1 => exact Nat.zero_le _
  | succ n ih =>
    intro k
    match k with
    | 0 => rw [ch_zero]; exact Nat.one_le_two_pow
    | k + 1 => rw [ch_succ, Nat.pow_succ]; have := ih k; have := ih (k + 1); omega
theorem ch_mono (n k : Nat) : ch n k ≤ ch (n + 1) k := by
  match k with
  | 0 => rw [ch_zero, ch_zero]; exact Nat.le_refl _
  | k + 1 => rw [ch_succ]; omega
theorem ch_symm : ∀ n k, k ≤ n → ch n k = ch n (n - k) := by
  intro n
  induction n with
  | zero => intro k h; obtain rfl : k = 0 := by omega
            rfl
  | succ n ih =>
    intro k h
    match k, h with
    | 0, _ => rw [ch_zero, Nat.sub_zero, ch_self]
    | k + 1, h =>
      by_cases c : k = n
      · subst c; rw [ch_self, Nat.sub_self, ch_zero]
      · have e : n + 1 - (k + 1) = (n - (k + 1)) + 1 := by omega
        rw [ch_succ, e, ch_succ, ← ih (k + 1) (by omega), show n - (k + 1) + 1 = n - k by omega, ← ih k (by omega)]
        omega
/-- The ways of fewer than k things together. -/
def sumTo (n : Nat) : Nat → Nat
  | 0 => 0
  | k + 1 => sumTo n k + ch n k
theorem sum_step (n : Nat) : ∀ k, sumTo (n + 1) (k + 1) = sumTo n k + sumTo n (k + 1) := by
  intro k
  induction k with
  | zero => simp [sumTo, ch_zero]
  | succ k ih =>
    rw [sumTo, ih, ch_succ]
    simp only [sumTo]
    omega
theorem sum_all : ∀ n, sumTo n (n + 1) = 2 ^ n := by
  intro n
  induction n with
  | zero => rfl
  | succ n ih =>
    have e : sumTo n (n + 2) = sumTo n (n + 1) + ch n (n + 1) := rfl
    rw [sum_step, e, ch_out n (n + 1) (by omega), ih, Nat.pow_succ]
    omega
theorem sum_mono (n : Nat) : ∀ d k, sumTo n k ≤ sumTo n (k + d) := by
  intro d
  induction d with
  | zero => intro k; exact Nat.le_refl _
  | succ d ih => intro k; have := ih k; rw [show k + (d + 1) = k + d + 1 by omega, sumTo]; omega
theorem sum_le (n k : Nat) (h : k ≤ n + 1) : sumTo n k ≤ 2 ^ n := by
  rw [← sum_all n]
  have := sum_mono n (n + 1 - k) k
  rw [show k + (n + 1 - k) = n + 1 by omega] at this
  exact this

/-- How many words of n bits and of the class of x are less than the lowest n bits of x. -/
def off (x : Nat) : Nat → Nat
  | 0 => 0
  | n + 1 => off x n + if x / 2 ^ n % 2 = 1 then ch n (cnt x (n + 1)) else 0
theorem off_lt (x : Nat) : ∀ n, off x n < ch n (cnt x n) := by
  intro n
  induction n with
  | zero => exact Nat.one_pos
  | succ n ih =>
    rw [off]
    by_cases hb : x / 2 ^ n % 2 = 1
    · rw [if_pos hb]
      have e : cnt x (n + 1) = cnt x n + 1 := by rw [cnt, hb]
      rw [e, ch_succ]
      omega
    · rw [if_neg hb]
      have e : cnt x (n + 1) = cnt x n := by rw [cnt]; omega
      rw [e]
      have := ch_mono n (cnt x n)
      omega
theorem off_mod (x m : Nat) : ∀ n, n ≤ m → off (x % 2 ^ m) n = off x n := by
  intro n
  induction n with
  | zero => intro _; rfl
  | succ n ih =>
    intro h
    rw [off, off, ih (by omega), bit_mod x m n (by omega), cnt_mod x m (n + 1) h]
def blk : Nat → Nat → Nat → Nat
  | 0, _, _ => 0
  | i + 1, k, o => if k = 0 then 0 else if ch i k ≤ o then 2 ^ i + blk i (k - 1) (o - ch i k) else blk i k o
theorem blk_zero (n o : Nat) : blk n 0 o = 0 := by
  cases n with
  | zero => rfl
  | succ n => rw [blk, if_pos rfl]
theorem blk_hi (i k o : Nat) (hk : k ≠ 0) (h : ch i k ≤ o) : blk (i + 1) k o = 2 ^ i + blk i (k - 1) (o - ch i k) := by rw [blk, if_neg hk, if_pos h]
theorem blk_lo (i k o : Nat) (hk : k ≠ 0) (h : ¬ ch i k ≤ o) : blk (i + 1) k o = blk i k o := by rw [blk, if_neg hk, if_neg h]
theorem blk_lt : ∀ n k o, blk n k o < 2 ^ n := by
  intro n
  induction n with
  | zero => intro k o; exact Nat.one_pos
  | succ n ih =>
    intro k o
    have p : 2 ^ (n + 1) = 2 ^ n + 2 ^ n := by rw [Nat.pow_succ]; omega
    by_cases hk : k = 0
    · subst hk; rw [blk_zero]; exact Nat.two_pow_pos _
    · by_cases h : ch n k ≤ o
      · rw [blk_hi n k o hk h]; have := ih (k - 1) (o - ch n k); omega
      · rw [blk_lo n k o hk h]; have := ih k o; omega
theorem mod_bit (x n : Nat) : x % 2 ^ (n + 1) = x % 2 ^ n + 2 ^ n * (x / 2 ^ n % 2) := by rw [Nat.mod_pow_succ]
theorem blk_off (x : Nat) : ∀ n, blk n (cnt x n) (off x n) = x % 2 ^ n := by
  intro n
  induction n with
  | zero => simp [blk, Nat.mod_one]
  | succ n ih =>
    rw [mod_bit]
    by_cases hb : x / 2 ^ n % 2 = 1
    · have e : cnt x (n + 1) = cnt x n + 1 := by rw [cnt, hb]
      have eo : off x (n + 1) = off x n + ch n (cnt x n + 1) := by rw [off, if_pos hb, e]
      rw [e, eo, blk_hi _ _ _ (by omega) (by omega), hb, Nat.add_sub_cancel, Nat.add_sub_cancel, ih]
      omega
    · have e : cnt x (n + 1) = cnt x n := by rw [cnt]; omega
      have eo : off x (n + 1) = off x n := by rw [off, if_neg hb, Nat.add_zero]
      have h0 : x / 2 ^ n % 2 = 0 := by omega
      rw [e, eo, h0, Nat.mul_zero]
      show _ = x % 2 ^ n
      by_cases hk : cnt x n = 0
      · rw [← ih, hk, blk_zero, blk_zero]
      · have := off_lt x n
        rw [blk_lo _ _ _ hk (by omega), ih]
theorem off_order : ∀ n a b, cnt a n = cnt b n → a % 2 ^ n < b % 2 ^ n → off a n < off b n := by
  intro n
  induction n with
  | zero => intro a b _ h; simp [Nat.mod_one] at h
  | succ n ih =>
    intro a b hc h
    rw [mod_bit, mod_bit b] at h
    have la := Nat.mod_lt a (Nat.two_pow_pos n)
    have lb := Nat.mod_lt b (Nat.two_pow_pos n)
    have oa := off_lt a n
    by_cases ha : a / 2 ^ n % 2 = 1
    · by_cases hb : b / 2 ^ n % 2 = 1
      · have ea : cnt a (n + 1) = cnt a n + 1 := by rw [cnt, ha]
        have eb : cnt b (n + 1) = cnt b n + 1 := by rw [cnt, hb]
        rw [off, off, if_pos ha, if_pos hb, hc]
        rw [ha, hb] at h
        have := ih a b (by omega) (by omega)
        omega
      · have hb0 : b / 2 ^ n % 2 = 0 := by omega
        rw [ha, hb0] at h
        omega
    · have ha0 : a / 2 ^ n % 2 = 0 := by omega
      have ea : cnt a (n + 1) = cnt a n := by rw [cnt]; omega
      by_cases hb : b / 2 ^ n % 2 = 1
      · rw [off, off, if_neg ha, if_pos hb, ← hc, ea]
        omega
      · have hb0 : b / 2 ^ n % 2 = 0 := by omega
        have eb : cnt b (n + 1) = cnt b n := by rw [cnt]; omega
        rw [off, off, if_neg ha, if_neg hb]
        rw [ha0, hb0] at h
        have := ih a b (by omega) (by omega)
        omega
theorem off_same (n a b : Nat) (hc : cnt a n = cnt b n) (h : off a n = off b n) : a % 2 ^ n = b % 2 ^ n := by
  rw [← blk_off a n, ← blk_off b n, hc, h]
theorem off_of (n a b : Nat) (h : a % 2 ^ n = b % 2 ^ n) : off a n = off b n := by
  rw [← off_mod a n n (Nat.le_refl _), ← off_mod b n n (Nat.le_refl _), h]
theorem off_lt_iff (n a b : Nat) (hc : cnt a n = cnt b n) : (a % 2 ^ n < b % 2 ^ n) ↔ off a n < off b n := by
  constructor
  · exact off_order n a b hc
  · intro h
    rcases Nat.lt_trichotomy (a % 2 ^ n) (b % 2 ^ n) with c | c | c
    · exact c
    · have := off_of n a b c; omega
    · have := off_order n b a hc.symm c; omega
theorem blk_first : ∀ n k, k ≤ n → blk n k 0 = 2 ^ k - 1 := by
  intro n
  induction n with
  | zero => intro k h; obtain rfl : k = 0 := by omega
            rfl
  | succ n ih =>
    intro k h
    by_cases hk : k = 0
    · subst hk; rw [blk_zero]
    · by_cases c : k = n + 1
      · subst c
        have z := ch_out n (n + 1) (by omega)
        have p := Nat.two_pow_pos n
        rw [blk_hi _ _ _ hk (by omega), Nat.add_sub_cancel, Nat.zero_sub, ih n (Nat.le_refl _), Nat.pow_succ]
        omega
      · have := ch_pos n k (by omega)
        rw [blk_lo _ _ _ hk (by omega), ih k (by omega)]
theorem blk_last : ∀ n k, k ≤ n → blk n k (ch n k - 1) = (2 ^ k - 1) * 2 ^ (n - k) := by
  intro n
  induction n with
  | zero => intro k h; obtain rfl : k = 0 := by omega
            rfl
  | succ n ih =>
    intro k h
    match k, h with
    | 0, _ => rw [blk_zero]; simp
    | k + 1, h =>
      have p := ch_pos n k (by omega)
      rw [blk_hi _ _ _ (by omega) (by rw [ch_succ]; omega), ch_succ, Nat.add_sub_cancel, show ch n k + ch n (k + 1) - 1 - ch n (k + 1) = ch n k - 1 by omega, ih k (by omega), show n + 1 - (k + 1) = n - k by omega]
      have e : 2 ^ n = 2 ^ k * 2 ^ (n - k) := by rw [← Nat.pow_add, show k + (n - k) = n by omega]
      have q := Nat.two_pow_pos k
      rw [e, Nat.pow_succ, show 2 ^ k * 2 - 1 = 2 ^ k + (2 ^ k - 1) by omega, Nat.add_mul]
theorem ch62 (n k : Nat) (h : n ≤ 62) : ch n k ≤ 4611686018427387904 := by
  have := ch_le n k
  have : 2 ^ n ≤ 2 ^ 62 := Nat.pow_le_pow_right (by decide) h
  omega

/-- What Choose answers. -/
def chN (n k : Int) : Nat := if n < 0 ∨ 62 < n ∨ k < 0 ∨ n < k then 0 else ch n.toNat k.toNat
def wdN (n k : Int) : Nat := if chN n k = 0 then 0 else Go.bitLen (chN n k - 1)
def ofK (x : Nat) (n : Int) : Nat := if n < 0 ∨ 62 < n then 0 else cnt x n.toNat
def ofO (x : Nat) (n : Int) : Nat := if n < 0 ∨ 62 < n then 0 else off x n.toNat
def bkX (n k : Int) (o : Nat) : Nat := if chN n k ≤ o then 0 else blk n.toNat k.toNat o
def bkB (n k : Int) (o : Nat) : Bool := decide (o < chN n k)
theorem chN_in (n k : Nat) (h : n ≤ 62) : chN n k = ch n k := by
  unfold chN
  by_cases c : n < k
  · rw [if_pos (by omega), ch_out n k c]
  · rw [if_neg (by omega), Int.toNat_natCast, Int.toNat_natCast]
theorem chN_le (n k : Int) : chN n k ≤ 4611686018427387904 := by
  unfold chN
  split
  · omega
  · exact ch62 _ _ (by omega)
theorem wd_le (n k : Int) : wdN n k ≤ 62 := by
  unfold wdN
  split
  · omega
  · have := chN_le n k
    exact len_le _ 62 (by omega)
theorem lt_len (x : Nat) (h : x < 18446744073709551616) : x < 2 ^ Go.bitLen x := by
  by_cases h0 : x = 0
  · subst h0; exact Nat.two_pow_pos _
  · obtain ⟨p, hp, h1, _, hd, _⟩ := long (x : Int) (by omega) (by omega) (by omega)
    unfold lenI at hp
    rw [Int.toNat_natCast] at hp
    have hp2 : Go.bitLen x = p := by omega
    rw [hp2]
    have e : x / 2 ^ (p - 1) = 1 := by
      rw [shr_nat _ _ (by omega), Int.toNat_natCast] at hd
      omega
    have e2 : 2 ^ p = 2 ^ (p - 1) * 2 := by
      obtain ⟨m, rfl⟩ : ∃ m, p = m + 1 := ⟨p - 1, by omega⟩
      rw [Nat.add_sub_cancel, Nat.pow_succ]
    have q := Nat.two_pow_pos (p - 1)
    have := Nat.lt_mul_div_succ x q
    rw [e] at this
    omega
theorem len_top (x : Nat) (h : x < 18446744073709551616) (h0 : 0 < Go.bitLen x) : x / 2 ^ (Go.bitLen x - 1) = 1 := by
  have hx : x ≠ 0 := by
    intro e; subst e
    have := len_le 0 0 (by decide)
    omega
  obtain ⟨p, hp, h1, _, hd, _⟩ := long (x : Int) (by omega) (by omega) (by omega)
  unfold lenI at hp
  rw [Int.toNat_natCast] at hp
  have hp2 : Go.bitLen x = p := by omega
  rw [hp2]
  rw [shr_nat _ _ (by omega), Int.toNat_natCast] at hd
  omega
theorem len_mono (x y : Nat) (h : x ≤ y) (hy : y < 18446744073709551616) : Go.bitLen x ≤ Go.bitLen y := len_le _ _ (Nat.lt_of_le_of_lt h (lt_len y hy))
end Bn
end Go.Proofs.YtmphbnmcbonmmaaDoor

namespace Go.Proofs.YtmphbnmcbonmmaaDoor
open Num Bn
namespace Bit
set_option linter.unusedVariables false

/-- How many blocks N bits have. -/
def nb (N : Nat) : Nat := (N + 14) / 15
/-- Block i of the bits f. -/
def blv (N : Nat) (f : Nat → Bool) (i : Nat) : Nat := numOf 15 fun k => decide (15 * i + k < N) && f (15 * i + k)
def bcl (N : Nat) (f : Nat → Bool) (i : Nat) : Nat := cnt (blv N f i) 15
def bof (N : Nat) (f : Nat → Bool) (i : Nat) : Nat := off (blv N f i) 15
/-- How many bits an offset of class k has. -/
def kwd (k : Nat) : Nat := Go.bitLen (ch 15 k - 1)
def bwd (N : Nat) (f : Nat → Bool) (i : Nat) : Nat := kwd (bcl N f i)
/-- Where the offset of block i begins. -/
def bat (N : Nat) (f : Nat → Bool) : Nat → Nat
  | 0 => 0
  | i + 1 => bat N f i + bwd N f i
/-- How many bits are 1 ahead of block i. -/
def bon (N : Nat) (f : Nat → Bool) : Nat → Nat
  | 0 => 0
  | i + 1 => bon N f i + bcl N f i
def bits (x n : Nat) : List Bool := (List.range n).map x.testBit
/-- The offsets of the first i blocks. -/
def bofP (N : Nat) (f : Nat → Bool) : Nat → List Bool
  | 0 => []
  | i + 1 => bofP N f i ++ bits (bof N f i) (bwd N f i)
def bclP (N : Nat) (f : Nat → Bool) (i : Nat) : List Nat := (List.range i).map (bcl N f)

theorem length_bits (x n : Nat) : (bits x n).length = n := by simp [bits]
theorem length_bofP (N : Nat) (f : Nat → Bool) (i : Nat) : (bofP N f i).length = bat N f i := by
  induction i with
  | zero => rfl
  | succ i ih => rw [bofP, List.length_append, ih, length_bits, bat]
theorem length_bclP (N : Nat) (f : Nat → Bool) (i : Nat) : (bclP N f i).length = i := by simp [bclP]
theorem bcl_le (N : Nat) (f : Nat → Bool) (i : Nat) : bcl N f i ≤ 15 := cnt_le _ _
theorem kwd_le (k : Nat) : kwd k ≤ 15 := len_le _ 15 (by
  have := ch_le 15 k
  have p : (2 : Nat) ^ 15 = 32768 := by decide
  omega)
theorem bwd_le (N : Nat) (f : Nat → Bool) (i : Nat) : bwd N f i ≤ 15 := kwd_le _
theorem kwd_le13 (k : Nat) (h : k ≤ 15) : kwd k ≤ 13 := by
  match k, h with
  | 0, _ | 1, _ | 2, _ | 3, _ | 4, _ | 5, _ | 6, _ | 7, _ | 8, _ | 9, _ | 10, _ | 11, _ | 12, _ | 13, _ | 14, _ | 15, _ => decide +kernel
theorem bat_le (N : Nat) (f : Nat → Bool) (i : Nat) : bat N f i ≤ 13 * i := by
  induction i with
  | zero => exact Nat.le_refl _
  | succ i ih => have := kwd_le13 (bcl N f i) (bcl_le N f i); rw [bat, bwd]; omega
theorem bon_le (N : Nat) (f : Nat → Bool) (i : Nat) : bon N f i ≤ 15 * i := by
  induction i with
  | zero => exact Nat.le_refl _
  | succ i ih => have := bcl_le N f i; rw [bon]; omega
theorem bof_lt (N : Nat) (f : Nat → Bool) (i : Nat) : bof N f i < ch 15 (bcl N f i) := off_lt _ _
theorem bof_fit (N : Nat) (f : Nat → Bool) (i : Nat) : bof N f i < 2 ^ bwd N f i := by
  have h := bof_lt N f i
  have c := ch62 15 (bcl N f i) (by decide)
  have := lt_len (ch 15 (bcl N f i) - 1) (by omega)
  unfold bwd kwd
  omega
theorem num_bits (x n : Nat) (h : x < 2 ^ n) : numOf n x.testBit = x := by
  refine (eq_numOf n x _ fun k => ?_).symm
  by_cases c : k < n
  · simp [c]
  · have : x < 2 ^ k := Nat.lt_of_lt_of_le h (Nat.pow_le_pow_right (by decide) (by omega))
    rw [Nat.testBit_lt_two_pow this]
    simp [c]

/-- What is read at the place of offset i. -/
theorem bofP_get (N : Nat) (f : Nat → Bool) : ∀ n i t, i < n → t < bwd N f i → (bofP N f n)[bat N f i + t]? = some ((bof N f i).testBit t) := by
  intro n
  induction n with
  | zero => intro i t h; omega
  | succ n ih =>
    intro i t hi ht
    rw [bofP]
    by_cases c : i < n
    · have := ih i t c ht
      have hl := (List.getElem?_eq_some_iff.1 this).1
      rw [List.getElem?_append_left hl, this]
    · obtain rfl : i = n := by omega
      rw [List.getElem?_append_right (by rw [length_bofP]; omega), length_bofP, Nat.add_sub_cancel_left]
      unfold bits
      rw [List.getElem?_map, List.getElem?_range ht]
      rfl

/-- One block more of bits that are read back. -/
def addB (N : Nat) (out : List Bool) (b : Nat) : List Bool := out ++ bits b (min 15 (N - out.length))
/-- The way back: from the classes, and the offsets that lie one behind the other in the row (M, ys). -/
def decG (N : Nat) (M : Int) (ys : List Nat) : List Nat → Nat → List Bool → Option (List Bool)
  | [], _, out => some out
  | k :: l, at_, out =>
    if slcE M ys at_ (wdN 15 k) = 0 ∧ bkB 15 k (slcX M ys at_ (wdN 15 k)) = true then decG N M ys l (at_ + wdN 15 k) (addB N out (bkX 15 k (slcX M ys at_ (wdN 15 k)))) else none

theorem wdN_k (k : Nat) (h : k ≤ 15) : wdN 15 k = kwd k := by
  unfold wdN kwd
  have e : chN (15 : Int) (k : Int) = ch 15 k := chN_in 15 k (by decide)
  have := ch_pos 15 k h
  rw [e, if_neg (by omega)]
theorem blv_lt (N : Nat) (f : Nat → Bool) (i : Nat) : blv N f i < 2 ^ 15 := numOf_lt _ _
theorem bk_back (N : Nat) (f : Nat → Bool) (i : Nat) : bkB 15 (bcl N f i) (bof N f i) = true ∧ bkX 15 (bcl N f i) (bof N f i) = blv N f i := by
  have e : chN (15 : Int) (bcl N f i : Int) = ch 15 (bcl N f i) := chN_in 15 _ (by decide)
  have h := bof_lt N f i
  unfold bkB bkX
  rw [e, if_neg (by omega)]
  refine ⟨by simpa using h, ?_⟩
  have := blk_off (blv N f i) 15
  rw [show ((15 : Int).toNat) = 15 from rfl, Int.toNat_natCast]
  unfold bcl bof
  rw [this, Nat.mod_eq_of_lt (blv_lt N f i)]
theorem addB_step (N : Nat) (f : Nat → Bool) (i : Nat) : addB N ((List.range (min (15 * i) N)).map f) (blv N f i) = (List.range (min (15 * (i + 1)) N)).map f := by
  unfold addB
  have e : min (15 * (i + 1)) N = min (15 * i) N + min 15 (N - min (15 * i) N) := by omega
  rw [e, List.range_add, List.map_append, List.length_map, List.length_range]
  congr 1
  unfold bits
  rw [List.map_map]
  refine List.map_congr_left fun t ht => ?_
  have ht := List.mem_range.1 ht
  simp only [Function.comp]
  unfold blv
  rw [testBit_numOf]
  have a1 : t < 15 := by omega
  have a2 : min (15 * i) N = 15 * i := by omega
  have a3 : 15 * i + t < N := by omega
  rw [a2]
  simp [a1, a3]

/-- What a row's offsets read as, each at its place. -/
def Reads (N : Nat) (f : Nat → Bool) (M : Int) (ys : List Nat) : Prop := ∀ i, i < nb N → slcE M ys (bat N f i) (wdN 15 (bcl N f i)) = 0 ∧ slcX M ys (bat N f i) (wdN 15 (bcl N f i)) = bof N f i
theorem dec_enc (N : Nat) (f : Nat → Bool) (M : Int) (ys : List Nat) (h : Reads N f M ys) : ∀ d i, i + d = nb N → decG N M ys ((List.range' i d).map (bcl N f)) (bat N f i) ((List.range (min (15 * i) N)).map f) = some ((List.range N).map f) := by
  intro d
  induction d with
  | zero =>
    intro i hi
    have : min (15 * i) N = N := by unfold nb at hi; omega
    rw [this]
    rfl
  | succ d ih =>
    intro i hi
    obtain ⟨h1, h2⟩ := h i (by omega)
    obtain ⟨b1, b2⟩ := bk_back N f i
    rw [List.range'_succ, List.map_cons, decG, h2, if_pos ⟨h1, b1⟩, b2, addB_step]
    have e : bat N f i + wdN 15 (bcl N f i) = bat N f (i + 1) := by rw [wdN_k _ (bcl_le N f i)]; rfl
    rw [e]
    exact ih (i + 1) (by omega)
/-- The offsets, laid by From, read as they must. -/
theorem reads_row (N : Nat) (f : Nat → Bool) (hN : N ≤ 1048576) : Reads N f (bat N f (nb N)) (rowOf (bat N f (nb N)) fun j => (bofP N f (nb N)).getD j false) := by
  intro i hi
  have hb := bat_le N f (nb N)
  have hb2 : bat N f (nb N) ≤ 1048576 := by unfold nb at hb ⊢; omega
  have hw := bwd_le N f i
  have mono : ∀ d j, bat N f j ≤ bat N f (j + d) := by
    intro d
    induction d with
    | zero => intro j; exact Nat.le_refl _
    | succ d ih => intro j; have := ih j; rw [show j + (d + 1) = j + d + 1 by omega, bat]; omega
  have hm : bat N f (i + 1) ≤ bat N f (nb N) := by
    have := mono (nb N - (i + 1)) (i + 1)
    rw [show i + 1 + (nb N - (i + 1)) = nb N by omega] at this
    exact this
  rw [bat] at hm
  have ck := chk_rowOf (bat N f (nb N)) (fun j => (bofP N f (nb N)).getD j false) hb2
  rw [wdN_k _ (bcl_le N f i), show kwd (bcl N f i) = bwd N f i from rfl]
  have e0 : slcE (bat N f (nb N)) (rowOf (bat N f (nb N)) fun j => (bofP N f (nb N)).getD j false) (bat N f i) (bwd N f i) = 0 := by
    unfold slcE
    rw [if_neg (by rw [ck]; simp; omega), if_neg (by omega)]
  refine ⟨e0, ?_⟩
  unfold slcX
  rw [if_pos e0, Int.toNat_natCast, Int.toNat_natCast, ← num_bits (bof N f i) (bwd N f i) (bof_fit N f i)]
  rw [num_bits (bof N f i) (bwd N f i) (bof_fit N f i)]
  refine (eq_numOf _ _ _ fun k => ?_).symm
  by_cases c : k < bwd N f i
  · rw [bitAt_rowOf, List.getD_eq_getElem?_getD, bofP_get N f (nb N) i k hi c]
    simp [c, show bat N f i + k < bat N f (nb N) by omega]
  · have : bof N f i < 2 ^ k := Nat.lt_of_lt_of_le (bof_fit N f i) (Nat.pow_le_pow_right (by decide) (by omega))
    rw [Nat.testBit_lt_two_pow this]
    simp [c]
end Bit
end Go.Proofs.YtmphbnmcbonmmaaDoor

namespace Go.Proofs.YtmphbnmcbonmmaaDoor
open Go.RowKit Num Bit
set_option linter.unusedVariables false
set_option linter.unusedSimpArgs false
set_option maxRecDepth 100000

theorem numOf_more (f : Nat → Bool) (q : Nat) : ∀ d, (∀ k, q ≤ k → f k = false) → numOf (q + d) f = numOf q f := by
  intro d
  induction d with
  | zero => intro _; rfl
  | succ d ih =>
    intro h
    rw [show q + (d + 1) = q + d + 1 by omega, numOf, ih h, h (q + d) (by omega)]
    simp
def bkf (N : Nat) (xs : List Nat) (at_ : Nat) (k : Nat) : Bool := decide (at_ + k < N) && bitAt xs (at_ + k)
theorem or_step (f : Nat → Bool) (q : Nat) : numOf q f ||| 2 ^ q = numOf q f + 2 ^ q := by
  have := Nat.two_pow_add_eq_or_of_lt (numOf_lt q f) 1
  rw [Nat.mul_one] at this
  rw [Nat.or_comm, ← this, Nat.add_comm]

theorem Tryd.info4 : (Tryd.prog.info? 4).map (fun i => (i.zero, i.size, i.bytes)) = some (some (.bool false), 1, 1) := by kernel_rfl
def bvl (l : List Bool) : List Value := l.map fun b => Value.bool b
theorem bvl_snoc (x q : Nat) : bvl (Bit.bits x q) ++ [.bool (x.testBit q)] = bvl (Bit.bits x (q + 1)) := by
  unfold bvl Bit.bits
  rw [List.range_succ, List.map_append, List.map_append]
  rfl
theorem test_end (x q : Nat) : (((x : Int) / 2 ^ q).tmod 2 == 1) = x.testBit q := by
  rw [bit_test, shr_cast]
  have : ((x / 2 ^ q : Nat) : Int).tmod 2 = ((x / 2 ^ q % 2 : Nat) : Int) := by generalize x / 2 ^ q = z; rw [Int.tmod_eq_emod_of_nonneg (by omega)]; omega
  rw [this, Bool.eq_iff_iff, beq_iff_eq, decide_eq_true_eq]
  omega

end Go.Proofs.YtmphbnmcbonmmaaDoor

namespace Go.Proofs.YtmphbnmcbonmmaaDoor
open Go.ChangeShapes Go.WideShapes Go.ChangeAt Go.RowKit Go.Joins Num Bit
set_option maxRecDepth 100000

theorem own : ownKnob Tryd.prog.godebug = none := by kernel_rfl
theorem laidOut : laidOutB Tryd.prog = true := by kernel_rfl
theorem Tryd.cells24 : Tryd.prog.cellsOf 24 = 2 := by kernel_rfl
theorem Tryd.cells46 : Tryd.prog.cellsOf 46 = 1 := by kernel_rfl

theorem cell_lt {w : World} {b o : Nat} {s : Option Nat} {v : Value} (h : w.cell? ⟨b, o, s⟩ = some v) : b < w.heap.size ∧ s = none := by
  unfold World.cell? at h
  simp only at h
  split at h
  · rename_i hh
    refine ⟨(Array.getElem?_eq_some_iff.1 hh).1, ?_⟩
    cases s with
    | none => rfl
    | some x => simp at h
  · simp at h

theorem wd_of (w : World) (a : Addr) (len : Nat) (zs : List Int) (hl : len ≤ zs.length) (hc : ∀ i, i < zs.length → w.cell? (a.add i) = some (.int .u64 (zs.getD i 0))) (hw : ∀ n ∈ zs, (Lit.int .u64 n).wf = true) :
    ∃ xs : List Nat, xs.length = len ∧ Wd w (some a) xs ∧ Fit xs := by
  have hb : ∀ i, i < zs.length → 0 ≤ zs.getD i 0 ∧ zs.getD i 0 < 18446744073709551616 := by
    intro i hi
    have : zs.getD i 0 = zs[i] := by rw [List.getD_eq_getElem?_getD, List.getElem?_eq_getElem hi]; rfl
    rw [this]
    exact u64_wf _ (hw _ (List.getElem_mem hi))
  have hg : ∀ i, i < len → (gt ((zs.take len).map Int.toNat) i : Int) = zs.getD i 0 := by
    intro i hi
    have h := hb i (by omega)
    unfold gt
    rw [List.getD_eq_getElem?_getD, List.getElem?_map, List.getElem?_take_of_lt hi, List.getElem?_eq_getElem (by omega : i < zs.length)]
    rw [List.getD_eq_getElem?_getD, List.getElem?_eq_getElem (by omega : i < zs.length)] at h ⊢
    simp only [Option.map_some, Option.getD_some] at h ⊢
    omega
  refine ⟨(zs.take len).map Int.toNat, by simp; omega, ?_, ?_⟩
  · intro h0
    obtain ⟨b, off, s⟩ := a
    have h00 : 0 < zs.length := by simp at h0; omega
    have c0 := hc 0 h00
    have k := cell_lt (show w.cell? ⟨b, off, s⟩ = _ from c0)
    obtain ⟨k1, rfl⟩ := k
    refine ⟨b, off, rfl, k1, fun i hi => ?_⟩
    have hi2 : i < len := by simp at hi; omega
    have ci := hc i (by omega)
    rw [hg i hi2, ← ci]
    unfold Addr.add
    split
    · subst_vars; rfl
    · rfl
  · intro i
    by_cases hi : i < len
    · have h := hb i (by omega)
      have e := hg i hi
      omega
    · rw [gt_out _ _ (by simp; omega)]; decide

/-- WHAT A WALK IS TOLD OF AN ARGUMENT OF THE TYPE api.Bits. -/
def IsBits (w : World) (v : Value) (N : Int) (ao : Option Addr) (xs : List Nat) (cap : Nat) : Prop :=
  v = .agg #[.int .i64 N, .slice ao xs.length cap] ∧ (-9223372036854775808 ≤ N ∧ N ≤ 9223372036854775807) ∧ Wd w ao xs ∧ Fit xs ∧ xs.length ≤ cap

theorem open_bits {H : Type} {enc : TypeId × Value → H} {W : World} {base : Nat} {v : Value} {d : DataW H} {p : List MemPlace} (hv : Value.okWide Tryd.prog W .any base 24 v) (h : DataW.Trod enc Tryd.prog W 0 (fun _ => true) true 24 v d p) :
    ∃ N ao xs cap, IsBits W v N ao xs cap := by
  obtain ⟨c0, c1, y0, y1, m, rfl, rfl, rfl, hy0, hy1⟩ := open_agg2 Tryd.underlying24 (by kernel_rfl) Tryd.cells24 hv h
  obtain ⟨a, e0, _, wa⟩ := DataW.trod_int Tryd.underlying3 hy0
  simp at e0
  subst e0
  rcases open_ints Tryd.underlying22 Tryd.underlying46 Tryd.cells46 hy1 with ⟨hcs, _⟩ | ⟨x, l, c, zs, hcs, _, hl, hm, hz, _, hcell, hwz⟩
  · simp at hcs
    subst hcs
    exact ⟨a, none, [], 0, rfl, i64_wf a wa, fun h => absurd h (by simp), fun i => by unfold gt; simp, by simp⟩
  · simp at hcs
    subst hcs
    have hz2 : zs.length = c := by simpa using hz
    obtain ⟨xs, hx1, hx2, hx3⟩ := wd_of W x l zs (by omega) hcell hwz
    subst hx1
    exact ⟨a, some x, xs, c, rfl, i64_wf a wa, hx2, hx3, hl⟩
end Go.Proofs.YtmphbnmcbonmmaaDoor

namespace Go.Proofs.YtmphbnmcbonmmaaDoor
open Num
namespace Bit
set_option linter.unusedVariables false

def gi (l : List Int) (i : Nat) : Int := l.getD i 0
theorem gi_get (l : List Int) (i : Nat) (h : i < l.length) : l[i]? = some (gi l i) := by
  unfold gi
  rw [List.getD_eq_getElem?_getD, List.getElem?_eq_getElem h]; rfl
theorem gi_map (f : Nat → Int) (n i : Nat) (h : i < n) : gi ((List.range n).map f) i = f i := by
  unfold gi
  rw [List.getD_eq_getElem?_getD, List.getElem?_map, List.getElem?_range h]; rfl
theorem gi_ext {l m : List Int} (hl : l.length = m.length) (h : ∀ i, i < l.length → gi l i = gi m i) : l = m := by
  refine List.ext_getElem? fun i => ?_
  by_cases c : i < l.length
  · rw [gi_get l i c, gi_get m i (by omega), h i c]
  · rw [List.getElem?_eq_none (by omega), List.getElem?_eq_none (by omega)]

def supI (N : Int) (xs : List Nat) (i : Nat) : Int := onesI N xs (512 * (i : Int))
def subI (N : Int) (xs : List Nat) (j : Nat) : Int := onesI N xs (64 * (j : Int)) - supI N xs (j / 8)
def supP (N : Int) (xs : List Nat) (q : Nat) : List Int := (List.range q).map (supI N xs)
def subP (N : Int) (xs : List Nat) (q : Nat) : List Int := (List.range q).map (subI N xs)
def supL (N : Int) (xs : List Nat) : List Int := supP N xs (N.toNat / 512 + 1)
def subL (N : Int) (xs : List Nat) : List Int := subP N xs xs.length
theorem length_supP (N : Int) (xs : List Nat) (q : Nat) : (supP N xs q).length = q := by simp [supP]
theorem length_subP (N : Int) (xs : List Nat) (q : Nat) : (subP N xs q).length = q := by simp [subP]
theorem length_supL (N : Int) (xs : List Nat) : (supL N xs).length = N.toNat / 512 + 1 := length_supP _ _ _
theorem length_subL (N : Int) (xs : List Nat) : (subL N xs).length = xs.length := length_subP _ _ _
theorem gi_supP (N : Int) (xs : List Nat) (q i : Nat) (h : i < q) : gi (supP N xs q) i = supI N xs i := gi_map _ _ _ h
theorem gi_subP (N : Int) (xs : List Nat) (q i : Nat) (h : i < q) : gi (subP N xs q) i = subI N xs i := gi_map _ _ _ h
theorem onesI_bound (N : Int) (xs : List Nat) (n : Int) : 0 ≤ onesI N xs n ∧ onesI N xs n ≤ 1048576 := by
  unfold onesI
  cases h : chk N xs with
  | false => simp
  | true =>
    obtain ⟨h0, h1, _, _⟩ := chk_out N xs h
    have := cntB_le xs (min n N).toNat
    simp only [if_true]
    omega
theorem supI_bound (N : Int) (xs : List Nat) (i : Nat) : 0 ≤ supI N xs i ∧ supI N xs i ≤ 1048576 := onesI_bound _ _ _
theorem subI_bound (N : Int) (xs : List Nat) (i : Nat) : -1048576 ≤ subI N xs i ∧ subI N xs i ≤ 1048576 := by
  have a := onesI_bound N xs (64 * (i : Int))
  have b := supI_bound N xs (i / 8)
  unfold subI
  omega

/-- Whether one may be. -/
def pchk (N : Int) (xs : List Nat) (su sb : List Int) : Bool := chk N xs && (decide (su = supL N xs) && decide (sb = subL N xs))
def pbN (N : Int) (xs : List Nat) : Int := if chk N xs then N else 0
def pbX (N : Int) (xs : List Nat) : List Nat := if chk N xs then xs else []
def pbS (N : Int) (xs : List Nat) : List Int := if chk N xs then supL N xs else []
def pbT (N : Int) (xs : List Nat) : List Int := if chk N xs then subL N xs else []
def pbE (N : Int) (xs : List Nat) : Int := if chk N xs then 0 else 2
def piN (N : Int) (xs : List Nat) (su sb : List Int) : Int := if pchk N xs su sb then N else 0
def piX (N : Int) (xs : List Nat) (su sb : List Int) : List Nat := if pchk N xs su sb then xs else []
def paE (N : Int) (xs : List Nat) (su sb : List Int) (i : Int) : Int := if pchk N xs su sb then getE N xs i else 2
def paB (N : Int) (xs : List Nat) (su sb : List Int) (i : Int) : Bool := pchk N xs su sb && getB N xs i
/-- How many of the first i bits are bit. -/
def cB (xs : List Nat) (bit : Bool) (i : Nat) : Nat := if bit then cntB xs i else i - cntB xs i
def prE (N : Int) (xs : List Nat) (su sb : List Int) (i : Int) : Int := if pchk N xs su sb then (if i < 0 ∨ N < i then 3 else 0) else 2
def prN (N : Int) (xs : List Nat) (su sb : List Int) (bit : Bool) (i : Int) : Int := if prE N xs su sb i = 0 then (cB xs bit i.toNat : Int) else 0
/-- Is there, at place i, the bit that has k such ahead? -/
def here (xs : List Nat) (bit : Bool) (k : Int) (i : Nat) : Bool := (bitAt xs i == bit) && decide ((cB xs bit i : Int) = k)
def pselO (N : Int) (xs : List Nat) (bit : Bool) (k : Int) : Option Nat := (List.range N.toNat).find? (here xs bit k)
def psE (N : Int) (xs : List Nat) (su sb : List Int) (bit : Bool) (k : Int) : Int := if pchk N xs su sb then (if (pselO N xs bit k).isSome then 0 else 3) else 2
def psX (N : Int) (xs : List Nat) (su sb : List Int) (bit : Bool) (k : Int) : Int := if pchk N xs su sb then ((pselO N xs bit k).getD 0 : Int) else 0
def pzN (N : Int) (xs : List Nat) (su sb : List Int) : Int := if pchk N xs su sb then N + 32 * (su.length : Int) + 16 * (sb.length : Int) else 0

theorem pchk_out (N : Int) (xs : List Nat) (su sb : List Int) (h : pchk N xs su sb = true) : chk N xs = true ∧ su = supL N xs ∧ sb = subL N xs := by
  unfold pchk at h
  simp only [Bool.and_eq_true, decide_eq_true_eq] at h
  exact ⟨h.1, h.2.1, h.2.2⟩
theorem pchk_of (N : Int) (xs : List Nat) (h : chk N xs = true) : pchk N xs (supL N xs) (subL N xs) = true := by
  unfold pchk
  simp [h]
theorem cB_le (xs : List Nat) (bit : Bool) (i : Nat) : cB xs bit i ≤ i := by
  unfold cB
  have := cntB_le xs i
  split <;> omega
theorem cB_succ (xs : List Nat) (bit : Bool) (i : Nat) : cB xs bit (i + 1) = cB xs bit i + if bitAt xs i = bit then 1 else 0 := by
  have := cntB_le xs i
  unfold cB
  cases bit with
  | true => simp only [if_true, cntB]
  | false =>
    simp only [cntB]
    cases h : bitAt xs i <;> simp <;> omega
theorem cB_mono (xs : List Nat) (bit : Bool) (i d : Nat) : cB xs bit i ≤ cB xs bit (i + d) := by
  induction d with
  | zero => exact Nat.le_refl _
  | succ d ih => have := cB_succ xs bit (i + d); rw [show i + (d + 1) = i + d + 1 by omega]; omega
theorem here_one (xs : List Nat) (bit : Bool) (k : Int) (i j : Nat) (hi : here xs bit k i = true) (hj : here xs bit k j = true) : i = j := by
  unfold here at hi hj
  simp only [Bool.and_eq_true, beq_iff_eq, decide_eq_true_eq] at hi hj
  rcases Nat.lt_trichotomy i j with c | c | c
  · have a := cB_succ xs bit i
    rw [if_pos hi.1] at a
    have b := cB_mono xs bit (i + 1) (j - (i + 1))
    rw [show i + 1 + (j - (i + 1)) = j by omega] at b
    omega
  · exact c
  · have a := cB_succ xs bit j
    rw [if_pos hj.1] at a
    have b := cB_mono xs bit (j + 1) (i - (j + 1))
    rw [show j + 1 + (i - (j + 1)) = i by omega] at b
    omega
theorem psel_some (N : Int) (xs : List Nat) (bit : Bool) (k : Int) (i : Nat) (hi : i < N.toNat) (h : here xs bit k i = true) : pselO N xs bit k = some i := by
  unfold pselO
  cases hf : (List.range N.toNat).find? (here xs bit k) with
  | none =>
    rw [List.find?_eq_none] at hf
    exact absurd h (by simpa using hf i (List.mem_range.2 hi))
  | some j =>
    have := List.find?_some hf
    rw [here_one xs bit k i j h this]
theorem psel_none (N : Int) (xs : List Nat) (bit : Bool) (k : Int) (h : ∀ i, i < N.toNat → here xs bit k i = false) : pselO N xs bit k = none := by
  unfold pselO
  rw [List.find?_eq_none]
  intro i hi
  have := h i (List.mem_range.1 hi)
  simp [this]
theorem psel_spec (N : Int) (xs : List Nat) (bit : Bool) (k : Int) (i : Nat) (h : pselO N xs bit k = some i) : i < N.toNat ∧ bitAt xs i = bit ∧ (cB xs bit i : Int) = k := by
  unfold pselO at h
  have a := List.find?_some h
  have b := List.mem_range.1 (List.mem_of_find?_eq_some h)
  unfold here at a
  simp only [Bool.and_eq_true, beq_iff_eq, decide_eq_true_eq] at a
  exact ⟨b, a.1, a.2⟩
/-- There is a place just where k counts. -/
theorem psel_iff (N : Int) (xs : List Nat) (bit : Bool) (k : Int) : (pselO N xs bit k).isSome = true ↔ 0 ≤ k ∧ k < (cB xs bit N.toNat : Int) := by
  constructor
  · intro h
    obtain ⟨i, hi⟩ := Option.isSome_iff_exists.1 h
    obtain ⟨h1, h2, h3⟩ := psel_spec N xs bit k i hi
    have a := cB_succ xs bit i
    rw [if_pos h2] at a
    have b := cB_mono xs bit (i + 1) (N.toNat - (i + 1))
    rw [show i + 1 + (N.toNat - (i + 1)) = N.toNat by omega] at b
    omega
  · rintro ⟨h0, h1⟩
    obtain ⟨m, rfl⟩ := Int.eq_ofNat_of_zero_le h0
    have key : ∀ n, m < cB xs bit n → ∃ i, i < n ∧ here xs bit m i = true := by
      intro n
      induction n with
      | zero => intro h; have := cB_le xs bit 0; omega
      | succ n ih =>
        intro h
        rw [cB_succ] at h
        by_cases c : m < cB xs bit n
        · obtain ⟨i, hi, hh⟩ := ih c
          exact ⟨i, by omega, hh⟩
        · by_cases hb : bitAt xs n = bit
          · rw [if_pos hb] at h
            refine ⟨n, by omega, ?_⟩
            unfold here
            simp only [Bool.and_eq_true, beq_iff_eq, decide_eq_true_eq]
            exact ⟨hb, by omega⟩
          · rw [if_neg hb] at h; omega
    obtain ⟨i, hi, hh⟩ := key N.toNat (by omega)
    rw [psel_some N xs bit m i hi hh]
    rfl
end Bit
end Go.Proofs.YtmphbnmcbonmmaaDoor

namespace Go.Proofs.YtmphbnmcbonmmaaDoor
open Go.ChangeShapes Go.WideShapes Go.ChangeAt Go.RowKit Go.Joins Go.Deep Num Bit
set_option linter.unusedVariables false
set_option maxRecDepth 100000

/-- A slice of ints that reads as a list. -/
def Nd (w : World) (ao : Option Addr) (l : List Int) : Prop :=
  0 < l.length → ∃ b off, ao = some ⟨b, off, none⟩ ∧ b < w.heap.size ∧ ∀ i, i < l.length → w.cell? ⟨b, off + i, none⟩ = some (.int .i64 (gi l i))
theorem Nd.keep {w w' : World} {ao : Option Addr} {l : List Int} (h : Nd w ao l) (hb : Below w.heap.size w w') : Nd w' ao l := by
  intro hi
  obtain ⟨b, off, e, hlt, hc⟩ := h hi
  exact ⟨b, off, e, Nat.lt_of_lt_of_le hlt hb.size, fun i hi => (hb.cell (p := ⟨b, off + i, none⟩) hlt).trans (hc i hi)⟩
theorem nd0 (w : World) (ao : Option Addr) : Nd w ao [] := fun h => absurd h (by simp)
theorem wd0' (w : World) (ao : Option Addr) : Wd w ao [] := fun h => absurd h (by simp)
def FitI (l : List Int) : Prop := ∀ i, -9223372036854775808 ≤ gi l i ∧ gi l i ≤ 9223372036854775807

theorem Tryd.cells3 : Tryd.prog.cellsOf 3 = 1 := by kernel_rfl
theorem Tryd.cells29 : Tryd.prog.cellsOf 29 = 1 := by kernel_rfl
theorem Tryd.cells22 : Tryd.prog.cellsOf 22 = 1 := by kernel_rfl
theorem Tryd.info3 : (Tryd.prog.info? 3).map (fun i => (i.zero, i.size, i.bytes)) = some (some (.int .i64 0), 1, 8) := by kernel_rfl

theorem nd_of (w : World) (a : Addr) (len : Nat) (zs : List Int) (hl : len ≤ zs.length) (hc : ∀ i, i < zs.length → w.cell? (a.add i) = some (.int .i64 (zs.getD i 0))) (hw : ∀ n ∈ zs, (Lit.int .i64 n).wf = true) :
    ∃ l : List Int, l.length = len ∧ Nd w (some a) l ∧ FitI l := by
  have hlen : (zs.take len).length = len := by simp; omega
  have hg : ∀ i, i < len → gi (zs.take len) i = zs.getD i 0 := by
    intro i hi
    unfold gi
    rw [List.getD_eq_getElem?_getD, List.getD_eq_getElem?_getD, List.getElem?_take_of_lt hi]
  refine ⟨zs.take len, hlen, ?_, ?_⟩
  · intro h0
    obtain ⟨b, off, s⟩ := a
    have c0 := hc 0 (by omega)
    obtain ⟨k1, rfl⟩ := cell_lt (show w.cell? ⟨b, off, s⟩ = _ from c0)
    refine ⟨b, off, rfl, k1, fun i hi => ?_⟩
    have ci := hc i (by omega)
    rw [hg i (by omega), ← ci]
    unfold Addr.add
    split
    · subst_vars; rfl
    · rfl
  · intro i
    by_cases c : i < len
    · rw [hg i c]
      have : zs.getD i 0 = zs[i] := by rw [List.getD_eq_getElem?_getD, List.getElem?_eq_getElem (by omega)]; rfl
      rw [this]
      exact i64_wf _ (hw _ (List.getElem_mem (by omega)))
    · unfold gi
      rw [List.getD_eq_getElem?_getD, List.getElem?_eq_none (by omega)]
      decide
theorem open_is {H : Type} {enc : TypeId × Value → H} {W : World} {n : Nat} {c : Value} {y : DataW H × List MemPlace} (h : DataW.trod enc Tryd.prog W 0 (fun _ => true) true n 29 [c] = some y) :
    ∃ ao l cap, c = .slice ao (List.length l) cap ∧ Nd W ao l ∧ FitI l ∧ l.length ≤ cap := by
  rcases open_ints Tryd.underlying29 Tryd.underlying3 Tryd.cells3 h with ⟨hcs, _⟩ | ⟨x, l, cp, zs, hcs, _, hl, hm, hz, _, hcell, hwz⟩
  · simp at hcs
    subst hcs
    exact ⟨none, [], 0, rfl, nd0 _ _, fun i => by unfold gi; simp, by simp⟩
  · simp at hcs
    subst hcs
    have hz2 : zs.length = cp := by simpa using hz
    obtain ⟨xs, hx1, hx2, hx3⟩ := nd_of W x l zs (by omega) hcell hwz
    subst hx1
    exact ⟨some x, xs, cp, rfl, hx2, hx3, hl⟩
theorem array4 {cs : Array Value} (h : cs.size = 4) : ∃ a b c d, cs = #[a, b, c, d] := by
  obtain ⟨l⟩ := cs
  match l, h with
  | [a, b, c, d], _ => exact ⟨a, b, c, d, rfl⟩

end Go.Proofs.YtmphbnmcbonmmaaDoor

namespace Go.Proofs.YtmphbnmcbonmmaaDoor
open Go.RowKit Num Bit

theorem same_end {xs ys : List Nat} (hl : xs.length = ys.length) (k : Nat) (hk : ¬ k < xs.length) (h : ∀ j, j < k → gt xs j = gt ys j) : xs = ys :=
  list_ext xs ys hl fun i hi => h i (by omega)

theorem same_c (N : Int) (ao : Option Addr) (xs : List Nat) (cap : Nat) (M : Int) (bo : Option Addr) (ys : List Nat) (dap : Nat) (w : World) (hx : Wd w ao xs) (hy : Wd w bo ys) (hl : xs.length ≤ 1048576) :
    Calls Tryd.prog 13 #[.agg #[.int .i64 N, .slice ao xs.length cap], .agg #[.int .i64 M, .slice bo ys.length dap]] w fun e w' => e = .returned (.bool (decide (N = M) && decide (xs = ys))) ∧ Below w.heap.size w w' := by
  by_cases h1 : N = M
  · subst h1
    by_cases h2 : xs.length = ys.length
    · have h1' : (N != N) = false := by simp
      have h2' : ((xs.length : Int) != (ys.length : Int)) = false := by simp [h2]
      have H2 : Hid (xs.length = ys.length) := h2
      have h3 : xs.length ≤ ys.length := by omega
      clear h2
      go_enter Tryd.func13, Tryd.ntmps13
      go_wp2
      go_loopw [5] (fun i wr => ∃ k : Nat, k ≤ xs.length ∧ i = .int .i64 k ∧ Hid (∀ j, j < k → gt xs j = gt ys j) ∧ wr.cell? ⟨w.heap.size, 1, none⟩ = some (.slice ao xs.length cap) ∧ wr.cell? ⟨w.heap.size + 1, 1, none⟩ = some (.slice bo ys.length dap) ∧ Below w.heap.size w wr) (fun i _ => xs.length - (intOf i).toNat)
      case atStart => exact ⟨0, by omega, rfl, fun j hj => absurd hj (by omega), by simp, by simp, ((Below.refl _ _).alloc (Nat.le_refl _) _).alloc (by simp) _⟩
      case round =>
        obtain ⟨k, hk, rfl, H, c1, d1, hw⟩ := hrel
        by_cases hlt : k < xs.length
        · obtain ⟨b, off, rfl, hb, hc⟩ := hx (by omega)
          obtain ⟨d, off2, rfl, hd, hc2⟩ := hy (by omega)
          have e1 := (hw.cell (p := ⟨b, off + k, none⟩) hb).trans (hc k hlt)
          have e2 := (hw.cell (p := ⟨d, off2 + k, none⟩) hd).trans (hc2 k (by omega))
          have hlt2 : k < ys.length := by omega
          have hlt3 : (k : Int) < (xs.length : Int) := by omega
          have hlt4 : (k : Int) < (ys.length : Int) := by omega
          clear hc hc2
          go_wp2
          go_quiet (fail)
          go_wp2
          · have hne : ((gt xs k : Int) != (gt ys k : Int)) = true := by assumption
            go_ret
            refine ⟨ret_bool ?_, below_drewN hw _⟩
            have : ¬ xs = ys := fun e => by subst e; simp at hne
            simp [this]
          · have heq : ((gt xs k : Int) != (gt ys k : Int)) = false := by assumption
            refine ⟨⟨k + 1, by omega, by go_num, ?_, c1, d1, below_drewN hw _⟩, by simp only [intOf]; omega⟩
            intro j hj
            by_cases e : j = k
            · subst e; have h2 : (gt xs j : Int) = (gt ys j : Int) := by simpa using heq
              omega
            · exact H.out j (by omega)
        · go_wp2
          go_ret
          exact ⟨ret_bool (by simp [same_end H2.out k hlt H.out]), by assumption⟩
    · have h1' : (N != N) = false := by simp
      have h2' : ((xs.length : Int) != (ys.length : Int)) = true := by simp; omega
      have R : Hid (false = (decide (N = N) && decide (xs = ys))) := by
        have : ¬ xs = ys := fun e => h2 (by rw [e])
        simp [this, Hid]
      clear h2
      go_enter Tryd.func13, Tryd.ntmps13
      go_wp2
      go_ret
      exact ⟨ret_bool R.out, ((Below.refl _ _).alloc (Nat.le_refl _) _).alloc (by simp) _⟩
  · have h1' : (N != M) = true := by simpa using h1
    have R : Hid (false = (decide (N = M) && decide (xs = ys))) := by simp [h1, Hid]
    clear h1
    go_enter Tryd.func13, Tryd.ntmps13
    go_wp2
    go_ret
    exact ⟨ret_bool R.out, ((Below.refl _ _).alloc (Nat.le_refl _) _).alloc (by simp) _⟩

end Go.Proofs.YtmphbnmcbonmmaaDoor

namespace Go.Proofs.YtmphbnmcbonmmaaDoor
open Go.RowKit Num Bit
set_option linter.unusedVariables false
set_option linter.unusedSimpArgs false
set_option maxRecDepth 100000

end Go.Proofs.YtmphbnmcbonmmaaDoor

namespace Go.Proofs.YtmphbnmcbonmmaaDoor
open Go.RowKit Num Bit
set_option linter.unusedVariables false
set_option linter.unusedSimpArgs false
set_option maxRecDepth 100000

end Go.Proofs.YtmphbnmcbonmmaaDoor

namespace Go.Proofs.YtmphbnmcbonmmaaDoor
open Go.RowKit Num Bn
namespace Ow
set_option linter.unusedVariables false
set_option linter.unusedSimpArgs false
set_option maxRecDepth 100000

theorem info64 : (Tryd.prog.info? 46).map (fun i => (i.zero, i.size, i.bytes)) = some (some (.int .u64 0), 1, 8) := by kernel_rfl
theorem below_alloc (w : World) (o : Obj) : Below w.heap.size w (w.alloc o) := (Below.refl _ _).alloc (Nat.le_refl _) _

def gt (xs : List Nat) (i : Nat) : Nat := xs.getD i 0
theorem gt_get (xs : List Nat) (i : Nat) (h : i < xs.length) : xs[i]? = some (gt xs i) := by
  unfold gt
  rw [List.getD_eq_getElem?_getD, List.getElem?_eq_getElem h]; rfl
theorem gt_map (f : Nat → Nat) (n i : Nat) (h : i < n) : gt ((List.range n).map f) i = f i := by
  unfold gt
  rw [List.getD_eq_getElem?_getD, List.getElem?_map, List.getElem?_range h]; rfl
theorem gt_set (ys : List Nat) (j i v : Nat) (hj : j < ys.length) : gt (ys.set j v) i = if j = i then v else gt ys i := by
  unfold gt
  rw [List.getD_eq_getElem?_getD, List.getD_eq_getElem?_getD, List.getElem?_set]
  by_cases c : j = i
  · subst c; simp [hj]
  · simp [c]
theorem list_ext {xs ys : List Nat} (hl : xs.length = ys.length) (h : ∀ i, i < xs.length → gt xs i = gt ys i) : xs = ys := by
  refine List.ext_getElem? fun i => ?_
  by_cases c : i < xs.length
  · rw [gt_get xs i c, gt_get ys i (by omega), h i c]
  · rw [List.getElem?_eq_none (by omega), List.getElem?_eq_none (by omega)]

def wv (ys : List Nat) : List Value := ys.map fun y : Nat => Value.int .u64 (y : Int)
theorem length_wv (ys : List Nat) : (wv ys).length = ys.length := by simp [wv]
def Own (w : World) (g : Nat) (ys : List Nat) : Prop := w.heap[g]? = some (.cells (wv ys).toArray 46 (0, 0))
theorem own_made {w : World} {base g n : Nat} (h : w.ownsRow base 46 1 (.slice (some ⟨g, 0, none⟩) n n) n (madeCells #[.int .u64 0] n).toList) : Own w g (List.replicate n 0) := by
  obtain ⟨_, h | ⟨g', cap, cur, e, _, hh, _, _, hs, ht⟩⟩ := h
  · simp at h
  · simp only [Value.slice.injEq, Option.some.injEq, Addr.mk.injEq] at e
    obtain ⟨⟨rfl, _, _⟩, _, rfl⟩ := e
    unfold Own
    rw [hh]
    have e2 : (madeCells #[.int .u64 0] n).toList = wv (List.replicate n 0) := by
      rw [toList_madeCells_one (.int .u64 0) n, wv, List.map_replicate]
      rfl
    rw [e2] at ht
    have e3 : cur.toList.take (n * 1) = cur.toList := List.take_of_length_le (by simp; omega)
    rw [e3] at ht
    rw [← ht]
theorem Own.cell {w : World} {g : Nat} {ys : List Nat} (h : Own w g ys) (j : Nat) (hj : j < ys.length) : w.cell? ⟨g, j, none⟩ = some (.int .u64 (gt ys j)) := by
  unfold World.cell?
  rw [show w.heap[({ block := g, off := j, spot := none } : Addr).block]? = _ from h]
  simp only [List.getElem?_toArray, wv, List.getElem?_map, gt_get ys j hj]
  rfl
theorem Own.frozen {w : World} {g : Nat} {ys : List Nat} (h : Own w g ys) (j : Nat) : w.frozen? ⟨g, j, none⟩ = false := by
  unfold World.frozen?
  rw [show w.heap[({ block := g, off := j, spot := none } : Addr).block]? = _ from h]
  simp
theorem Own.lt {w : World} {g : Nat} {ys : List Nat} (h : Own w g ys) : g < w.heap.size := (Array.getElem?_eq_some_iff.1 h).1
theorem Own.set {w : World} {g : Nat} {ys : List Nat} (h : Own w g ys) (j v : Nat) : Own (w.setCell ⟨g, j, none⟩ (.int .u64 v)) g (ys.set j v) := by
  unfold Own at h ⊢
  simp only [World.setCell, Array.getElem?_modify]
  rw [if_pos trivial, h]
  simp [wv, List.map_set]
theorem Own.drew {w : World} {g : Nat} {ys : List Nat} (h : Own w g ys) : Own w.drew g ys := h

/-- Row i of the triangle, in n + 1 places. -/
def rowP (n i : Nat) : List Nat := (List.range (n + 1)).map (ch i)
/-- Row i above place j, row i - 1 up to it. -/
def pas (n i j : Nat) : List Nat := (List.range (n + 1)).map fun t => if j < t then ch i t else ch (i - 1) t
theorem length_pas (n i j : Nat) : (pas n i j).length = n + 1 := by simp [pas]
theorem length_rowP (n i : Nat) : (rowP n i).length = n + 1 := by simp [rowP]
theorem pas_first (n i : Nat) : pas n i i = rowP n (i - 1) := by
  unfold pas rowP
  refine List.map_congr_left fun t _ => ?_
  by_cases c : i < t
  · rw [if_pos c, ch_out i t c, ch_out (i - 1) t (by omega)]
  · rw [if_neg c]
theorem pas_last (n i : Nat) : pas n i 0 = rowP n i := by
  unfold pas rowP
  refine List.map_congr_left fun t _ => ?_
  by_cases c : 0 < t
  · rw [if_pos c]
  · obtain rfl : t = 0 := by omega
    rw [if_neg c, ch_zero, ch_zero]
theorem gt_pas (n i j t : Nat) (h : t ≤ n) : gt (pas n i j) t = if j < t then ch i t else ch (i - 1) t := gt_map _ _ _ (by omega)
theorem gt_rowP (n i t : Nat) (h : t ≤ n) : gt (rowP n i) t = ch i t := gt_map _ _ _ (by omega)
theorem pas_step (n i j : Nat) (hi : 1 ≤ i) (hj : 1 ≤ j) (hn : j ≤ n) : (pas n i j).set j (ch (i - 1) j + ch (i - 1) (j - 1)) = pas n i (j - 1) := by
  refine list_ext (by rw [List.length_set, length_pas, length_pas]) fun t ht => ?_
  rw [List.length_set, length_pas] at ht
  rw [gt_set _ _ _ _ (by rw [length_pas]; omega), gt_pas _ _ _ _ (by omega), gt_pas _ _ _ _ (by omega)]
  by_cases c : j = t
  · subst c
    obtain ⟨a, rfl⟩ : ∃ a, i = a + 1 := ⟨i - 1, by omega⟩
    obtain ⟨b, rfl⟩ : ∃ b, j = b + 1 := ⟨j - 1, by omega⟩
    rw [if_pos rfl, if_pos (by omega), ch_succ, Nat.add_sub_cancel, Nat.add_sub_cancel]
    omega
  · rw [if_neg c]
    by_cases d : j < t
    · rw [if_pos d, if_pos (by omega)]
    · rw [if_neg d, if_neg (by omega)]
theorem row_start (n : Nat) : (List.replicate (n + 1) 0).set 0 1 = rowP n 0 := by
  refine list_ext (by rw [List.length_set, length_rowP, List.length_replicate]) fun t ht => ?_
  rw [List.length_set, List.length_replicate] at ht
  rw [gt_set _ _ _ _ (by simp), gt_rowP _ _ _ (by omega)]
  by_cases c : 0 = t
  · subst c; rw [if_pos rfl, ch_zero]
  · rw [if_neg c, ch_out 0 t (by omega)]
    unfold gt
    rw [List.getD_eq_getElem?_getD, List.getElem?_replicate]
    split <;> rfl
end Ow
end Go.Proofs.YtmphbnmcbonmmaaDoor

namespace Go.Proofs.YtmphbnmcbonmmaaDoor
open Go.RowKit Num Bn
namespace Ow
set_option linter.unusedVariables false
set_option linter.unusedSimpArgs false
set_option maxRecDepth 100000

end Ow
end Go.Proofs.YtmphbnmcbonmmaaDoor

namespace Go.Proofs.YtmphbnmcbonmmaaDoor
open Go.RowKit Num Bn
namespace Ow
set_option linter.unusedVariables false
set_option linter.unusedSimpArgs false
set_option maxRecDepth 100000

theorem shl_one (k : Nat) (h : k < 64) : IntKind.u64.wrap ((2 : Int) ^ k) = ((2 ^ k : Nat) : Int) := by
  have e : ((2 : Int) ^ k) = ((2 ^ k : Nat) : Int) := by rw [Int.natCast_pow]; rfl
  have := two_pow_lt k h
  rw [e, IntKind.wrap_u64]
  generalize (2 ^ k : Nat) = Z at *
  omega
theorem or_high (X p : Nat) (h : X % 2 ^ (p + 1) = 0) : X ||| 2 ^ p = X + 2 ^ p := by
  have e : X = 2 ^ (p + 1) * (X / 2 ^ (p + 1)) := by
    have := Nat.div_add_mod X (2 ^ (p + 1))
    omega
  have lt : 2 ^ p < 2 ^ (p + 1) := by rw [Nat.pow_succ]; have := Nat.two_pow_pos p; omega
  rw [e]
  exact (Nat.two_pow_add_eq_or_of_lt lt _).symm
theorem mod_down (X p : Nat) (h : X % 2 ^ (p + 1) = 0) : X % 2 ^ p = 0 := by
  have := mod_bit X p
  have q := Nat.two_pow_pos p
  omega
theorem mod_plus (X p : Nat) (h : X % 2 ^ (p + 1) = 0) : (X + 2 ^ p) % 2 ^ p = 0 := by
  rw [Nat.add_mod_right]
  exact mod_down X p h

end Ow
end Go.Proofs.YtmphbnmcbonmmaaDoor

namespace Go.Proofs.YtmphbnmcbonmmaaDoor
open Go.RowKit Num Bit Bn
set_option linter.unusedVariables false
set_option linter.unusedSimpArgs false
set_option maxRecDepth 100000

/-- The class, as an int. -/
def asI (v : Nat) : Int := IntKind.i64.wrap (v : Int)
theorem asI_ch (v : Nat) (h : v < 18446744073709551616) : chN 15 (asI v) = chN 15 v := by
  unfold asI
  by_cases c : v < 9223372036854775808
  · have e : IntKind.i64.wrap (v : Int) = (v : Int) := by rw [IntKind.wrap_i64]; omega
    rw [e]
  · have e : IntKind.i64.wrap (v : Int) = (v : Int) - 18446744073709551616 := by rw [IntKind.wrap_i64]; omega
    rw [e]
    unfold chN
    rw [if_pos (by omega), if_pos (by omega)]
theorem asI_wd (v : Nat) (h : v < 18446744073709551616) : wdN 15 (asI v) = wdN 15 v := by unfold wdN; rw [asI_ch v h]
theorem asI_bkB (v o : Nat) (h : v < 18446744073709551616) : bkB 15 (asI v) o = bkB 15 v o := by unfold bkB; rw [asI_ch v h]
theorem asI_bkX (v o : Nat) (h : v < 18446744073709551616) : bkX 15 (asI v) o = bkX 15 v o := by
  unfold bkX
  rw [asI_ch v h]
  by_cases c : chN 15 v ≤ o
  · rw [if_pos c, if_pos c]
  · rw [if_neg c, if_neg c]
    have hv : v ≤ 15 := by
      refine Nat.le_of_not_lt fun hc => c ?_
      unfold chN
      rw [if_pos (by omega)]
      omega
    have : asI v = (v : Int) := by unfold asI; rw [IntKind.wrap_i64]; omega
    rw [this]
theorem asI_bound (v : Nat) (h : v < 18446744073709551616) : -9223372036854775808 ≤ asI v ∧ asI v ≤ 9223372036854775807 := by
  unfold asI
  rw [IntKind.wrap_i64]
  omega
theorem bits_take (b t : Nat) : Bit.bits b (t + 1) = Bit.bits b t ++ [b.testBit t] := by
  unfold Bit.bits
  rw [List.range_succ, List.map_append]
  rfl
theorem bvl_app (l m : List Bool) : bvl l ++ bvl m = bvl (l ++ m) := by simp [bvl]
theorem bvl_one (l : List Bool) (b : Bool) : bvl l ++ [.bool b] = bvl (l ++ [b]) := by simp [bvl]
theorem bl_own {w : World} {base n c : Nat} {ao : Option Addr} {l : List Bool} (h : w.ownsRow base 4 1 (.slice ao n c) n (bvl l)) : Bl w ao l := by
  intro h0
  have hlen : (bvl l).length = n * 1 := h.1
  have hl : l.length = n := by simp [bvl] at hlen; omega
  have hk := fun k hk => h.lt k hk
  have hc := fun g hg => h.cells (g := g) hg
  obtain ⟨_, ⟨e, e2⟩ | ⟨g, cap, cur, e, _⟩⟩ := h
  · omega
  · simp only [Value.slice.injEq] at e
    obtain ⟨rfl, _, rfl⟩ := e
    refine ⟨g, 0, rfl, (hk g rfl).2, fun i hi => ?_⟩
    have hu : (bvl l)[i]? = some (.bool (bt l i)) := by
      unfold bvl bt
      rw [List.getElem?_map, List.getD_eq_getElem?_getD, List.getElem?_eq_getElem hi]
      rfl
    rw [← hc g rfl i _ hu]
    unfold Addr.add
    split
    · subst_vars; rfl
    · simp
theorem length_decG (N : Nat) (M : Int) (ys : List Nat) : ∀ l a out r, out.length ≤ N → decG N M ys l a out = some r → r.length ≤ N := by
  intro l
  induction l with
  | nil => intro a out r h e; simp only [decG, Option.some.injEq] at e; subst e; exact h
  | cons k l ih =>
    intro a out r h e
    rw [decG] at e
    split at e
    · refine ih _ _ r ?_ e
      unfold addB
      rw [List.length_append, length_bits]
      omega
    · cases e
theorem Wd.cellAt {w : World} {ao : Option Addr} {l : List Nat} (h : Wd w ao l) (q : Nat) (hq : q < l.length) : ∃ b off, ao = some ⟨b, off, none⟩ ∧ w.cell? ⟨b, off + q, none⟩ = some (.int .u64 (gt l q)) := by
  obtain ⟨b, off, e, _, hc⟩ := h (by omega)
  exact ⟨b, off, e, hc q hq⟩
end Go.Proofs.YtmphbnmcbonmmaaDoor

namespace Go.Proofs.YtmphbnmcbonmmaaDoor
open Num Bit Bn
set_option linter.unusedVariables false

theorem numAt_mk (l : List Nat) (W : Nat) (hW : 1 ≤ W) (hl : ∀ i, gt l i < 2 ^ W) (i : Nat) (hi : i < l.length) : numAt W (mkS l W l.length) i = gt l i := by
  unfold numAt
  refine (eq_numOf W (gt l i) _ fun k => ?_).symm
  by_cases c : k < W
  · unfold mkS
    have e1 : (i * W + k) / W = i := by
      rw [Nat.mul_comm, Nat.mul_add_div (by omega), Nat.div_eq_of_lt c]; omega
    have e2 : (i * W + k) % W = k := by rw [Nat.mul_comm, Nat.mul_add_mod, Nat.mod_eq_of_lt c]
    have e3 : i * W + k < l.length * W := by
      have := mul_next l.length W i hi
      omega
    rw [bitAt_rowOf, e1, e2]
    simp [c, e3]
  · have : gt l i < 2 ^ k := Nat.lt_of_lt_of_le (hl i) (Nat.pow_le_pow_right (by decide) (by omega))
    rw [Nat.testBit_lt_two_pow this]
    simp [c]
theorem ichk_mk (l : List Nat) (W : Nat) (hW : 1 ≤ W) (hW2 : W ≤ 64) (hl : l.length * W ≤ 1048576) : ichk (l.length : Int) (W : Int) ((l.length * W : Nat) : Int) (mkS l W l.length) = true := by
  unfold ichk
  rw [Bool.and_eq_true, decide_eq_true_eq]
  refine ⟨⟨by omega, by omega, by omega, by rw [Int.natCast_mul]⟩, ?_⟩
  exact chk_rowOf _ _ hl
theorem gt_bclP (m : Nat) (f : Nat → Bool) (n i : Nat) (h : i < n) : gt (bclP m f n) i = bcl m f i := by
  unfold bclP gt
  rw [List.getD_eq_getElem?_getD, List.getElem?_map, List.getElem?_range h]
  rfl
theorem bclP_lt (m : Nat) (f : Nat → Bool) (n i : Nat) : gt (bclP m f n) i < 2 ^ 4 := by
  by_cases c : i < n
  · rw [gt_bclP m f n i c]
    have := bcl_le m f i
    omega
  · rw [gt_out _ _ (by rw [length_bclP]; omega)]
    decide
theorem nb_le (m : Nat) (hm : m ≤ 1048576) : nb m ≤ 69906 := by unfold nb; omega
theorem list_mk (m : Nat) (f : Nat → Bool) : (List.range (nb m)).map (numAt 4 (mkS (bclP m f (nb m)) 4 (nb m))) = bclP m f (nb m) := by
  unfold bclP
  refine List.map_congr_left fun i hi => ?_
  have hi := List.mem_range.1 hi
  have := numAt_mk (bclP m f (nb m)) 4 (by decide) (bclP_lt m f (nb m)) i (by rw [length_bclP]; exact hi)
  rw [length_bclP, gt_bclP m f _ i hi] at this
  unfold bclP at this
  exact this
theorem fr_off (m : Nat) (f : Nat → Bool) : frL (bofP m f (nb m)) = rowOf (bat m f (nb m)) fun j => (bofP m f (nb m)).getD j false := by
  unfold frL
  rw [length_bofP]
  rfl
theorem fr_row (m : Nat) (f : Nat → Bool) : frL ((List.range m).map f) = rowOf m f := by
  unfold frL
  rw [List.length_map, List.length_range]
  refine rowOf_congr m _ _ fun i hi => ?_
  unfold bt
  rw [List.getD_eq_getElem?_getD, List.getElem?_map, List.getElem?_range hi]
  rfl
/-- The way back from what is built is the row. -/
theorem dec_built (m : Nat) (f : Nat → Bool) (hm : m ≤ 1048576) :
    decG m (bat m f (nb m)) (frL (bofP m f (nb m))) ((List.range (nb m)).map (numAt 4 (mkS (bclP m f (nb m)) 4 (nb m)))) 0 [] = some ((List.range m).map f) := by
  rw [list_mk, fr_off]
  have h := dec_enc m f (bat m f (nb m)) _ (reads_row m f hm) (nb m) 0 (by omega)
  rw [show min (15 * 0) m = 0 by omega] at h
  rw [← List.range_eq_range'] at h
  exact h
end Go.Proofs.YtmphbnmcbonmmaaDoor

namespace Go.Proofs.YtmphbnmcbonmmaaDoor
open Go

section
variable {P : Program} {ops : Array Oper} {Q : Exit → Act → World → Prop} {md : Region.Mode} {S : World → Prop} {ns : List Nat}

def AnyG (P : Program) (md : Region.Mode) (ops : Array Oper) (Q : Exit → Act → World → Prop) (S : World → Prop) (ns : List Nat) : Nat → Array Bool → Act → World → Prop
  | 0, l, a, w => Region.ready md ops l = [] ∧ Q .normal a w
  | f + 1, l, a, w => (Region.ready md ops l = [] → Q .normal a w) ∧ ∀ i ∈ Region.ready md ops l, wpOp P ops Q i (fun a' w' => (i ∉ ns → S w → S w') ∧ AnyG P md ops Q S ns f (l.setIfInBounds i true) a' w') a w

theorem AnyG.any : ∀ f l a w, AnyG P md ops Q S ns f l a w → wpAny P md ops Q f l a w
  | 0, _, _, _, h => h
  | f + 1, _, _, _, h => ⟨h.1, fun i hi => wpOp_mono (fun a' w' h' => AnyG.any f _ a' w' h'.2) (h.2 i hi)⟩

/-- Operation n waits for operation i (or there is no such operation). -/
def waits (md : Region.Mode) (ops : Array Oper) (n i : Nat) : Bool :=
  match ops[n]? with
  | some o => o.after.any fun e => Region.binds md e && e.on == i
  | none => true

theorem waits_not {n i : Nat} {l : Array Bool} (hw : waits md ops n i = true) (hi : l.getD i true = false) : n ∉ Region.ready md ops l := by
  intro hn
  obtain ⟨_, o, ho, hall⟩ := mem_ready.1 hn
  unfold waits at hw
  rw [ho] at hw
  obtain ⟨e, he, hb⟩ := Array.any_eq_true'.1 hw
  simp only [Bool.and_eq_true, beq_iff_eq] at hb
  have h1 := hall e he hb.1
  rw [hb.2] at h1
  rcases Nat.lt_or_ge i l.size with h' | h'
  · simp [h'] at hi h1; rw [hi] at h1; cases h1
  · simp [Array.getElem?_eq_none h'] at h1

theorem AnyG.first {i : Nat} {oi : Oper} {v : Value} (hi : ops[i]? = some oi) (hsel : Region.noSelect ops = true) (hQ : ∀ c a w, Q (.panic c) (a.put oi.dst v) w → Q (.panic c) a w) (hw : ns.all (fun n => waits md ops n i) = true) :
    ∀ f l a w, (∀ j oj, ops[j]? = some oj → j ≠ i → l.getD j true = false → (∀ e ∈ oj.after, Region.binds md e = true → e.on ≠ i) → oi.apart ops oj = true) →
      i ∈ Region.ready md ops l → YieldsIf P ops S oi v a → S w → AnyG P md ops Q S ns f (l.setIfInBounds i true) (a.put oi.dst v) w → AnyG P md ops Q S ns (f + 1) l a w := by
  intro f
  induction f with
  | zero =>
    intro l a w _ hr hy hS H
    refine ⟨fun h => absurd hr (by rw [h]; simp), fun j hj => ?_⟩
    by_cases c : j = i
    · subst c; exact hy.wpOp hi hS ⟨fun _ h => h, H⟩
    · have h1 := ready_mono hj c
      rw [H.1] at h1
      exact absurd h1 (by simp)
  | succ f ih =>
    intro l a w hfree hr hy hS H
    refine ⟨fun h => absurd hr (by rw [h]; simp), fun j hj => ?_⟩
    by_cases c : j = i
    · subst c; exact hy.wpOp hi hS ⟨fun _ h => h, H⟩
    have hun := (mem_ready.1 hr).1
    have hjn : j ∉ ns := fun e => waits_not (List.all_eq_true.1 hw j e) hun hj
    obtain ⟨hjun, oj, hoj, hall⟩ := mem_ready.1 hj
    have hnot : ∀ e ∈ oj.after, Region.binds md e = true → e.on ≠ i := by
      intro e he hb heq
      have h1 := hall e he hb
      rw [heq] at h1
      rcases Nat.lt_or_ge i l.size with h' | h'
      · simp [h'] at hun h1; rw [hun] at h1; cases h1
      · simp [Array.getElem?_eq_none h'] at h1
    have h2 := wpOp_putIf hoj (hfree j oj hoj c hjun hnot) (fun cs b => Region.noSelect_spec hsel i oi cs b hi) (fun cs b => Region.noSelect_spec hsel j oj cs b hoj) hQ hy (H.2 j (ready_mono hj c))
    refine wpOp_mono (fun a' w' h3 => ⟨h3.2.1, ih (l.setIfInBounds j true) a' w' ?_ (ready_mono hr (Ne.symm c)) h3.1 (h3.2.1 hjn hS) ?_⟩) h2
    · intro k ok hk hki hku hno
      refine hfree k ok hk hki ?_ hno
      by_cases e : j = k
      · subst e; exact hjun
      · rw [getD_set_ne true e] at hku; exact hku
    · rw [Array.setIfInBounds_comm _ _ c]
      exact h3.2.2

/-- The same for an operation that yields its value whatever the world is: nothing need wait for it. -/
theorem AnyG.firstW {i : Nat} {oi : Oper} {v : Value} (hi : ops[i]? = some oi) (hsel : Region.noSelect ops = true) (hQ : ∀ c a w, Q (.panic c) (a.put oi.dst v) w → Q (.panic c) a w) :
    ∀ f l a w, (∀ j oj, ops[j]? = some oj → j ≠ i → l.getD j true = false → (∀ e ∈ oj.after, Region.binds md e = true → e.on ≠ i) → oi.apart ops oj = true) →
      i ∈ Region.ready md ops l → YieldsIf P ops (fun _ => True) oi v a → AnyG P md ops Q S ns f (l.setIfInBounds i true) (a.put oi.dst v) w → AnyG P md ops Q S ns (f + 1) l a w := by
  intro f
  induction f with
  | zero =>
    intro l a w _ hr hy H
    refine ⟨fun h => absurd hr (by rw [h]; simp), fun j hj => ?_⟩
    by_cases c : j = i
    · subst c; exact hy.wpOp hi trivial ⟨fun _ h => h, H⟩
    · have h1 := ready_mono hj c
      rw [H.1] at h1
      exact absurd h1 (by simp)
  | succ f ih =>
    intro l a w hfree hr hy H
    refine ⟨fun h => absurd hr (by rw [h]; simp), fun j hj => ?_⟩
    by_cases c : j = i
    · subst c; exact hy.wpOp hi trivial ⟨fun _ h => h, H⟩
    have hun := (mem_ready.1 hr).1
    obtain ⟨hjun, oj, hoj, hall⟩ := mem_ready.1 hj
    have hnot : ∀ e ∈ oj.after, Region.binds md e = true → e.on ≠ i := by
      intro e he hb heq
      have h1 := hall e he hb
      rw [heq] at h1
      rcases Nat.lt_or_ge i l.size with h' | h'
      · simp [h'] at hun h1; rw [hun] at h1; cases h1
      · simp [Array.getElem?_eq_none h'] at h1
    have h2 := wpOp_putIf hoj (hfree j oj hoj c hjun hnot) (fun cs b => Region.noSelect_spec hsel i oi cs b hi) (fun cs b => Region.noSelect_spec hsel j oj cs b hoj) hQ hy (H.2 j (ready_mono hj c))
    refine wpOp_mono (fun a' w' h3 => ⟨h3.2.1, ih (l.setIfInBounds j true) a' w' ?_ (ready_mono hr (Ne.symm c)) h3.1 ?_⟩) h2
    · intro k ok hk hki hku hno
      refine hfree k ok hk hki ?_ hno
      by_cases e : j = k
      · subst e; exact hjun
      · rw [getD_set_ne true e] at hku; exact hku
    · rw [Array.setIfInBounds_comm _ _ c]
      exact h3.2.2
/-- Take number i first, whatever the world is. -/
theorem AnyG.takeW (i : Nat) {oi : Oper} {v : Value} {f : Nat} {l : Array Bool} {a : Act} {w : World} (hi : ops[i]? = some oi) (hs : Region.noSelect ops = true) (hf : Region.free md ops l i = true) (hr : (Region.ready md ops l).contains i = true)
    (hQ : ∀ c a w, Q (.panic c) (a.put oi.dst v) w → Q (.panic c) a w) (hy : ∀ w0, (execOp a.eval oi).run P w0 = .ok (.value v) w0) (hwn : Region.wanted oi (yielded ops a.tmps) = true)
    (h : AnyG P md ops Q S ns f (l.setIfInBounds i true) (a.put oi.dst v) w) : AnyG P md ops Q S ns (f + 1) l a w :=
  AnyG.firstW hi hs hQ f l a w (Region.free_spec hi hf) (by simpa using hr) (.inl ⟨hwn, fun w0 _ => hy w0⟩) h

/-- Take number i first. -/
theorem AnyG.take (i : Nat) {oi : Oper} {v : Value} {f : Nat} {l : Array Bool} {a : Act} {w : World} (hi : ops[i]? = some oi) (hs : Region.noSelect ops = true) (hf : Region.free md ops l i = true) (hr : (Region.ready md ops l).contains i = true) (hw : ns.all (fun n => waits md ops n i) = true)
    (hQ : ∀ c a w, Q (.panic c) (a.put oi.dst v) w → Q (.panic c) a w) (hS : S w) (hy : ∀ w0, S w0 → (execOp a.eval oi).run P w0 = .ok (.value v) w0) (hwn : Region.wanted oi (yielded ops a.tmps) = true)
    (h : AnyG P md ops Q S ns f (l.setIfInBounds i true) (a.put oi.dst v) w) : AnyG P md ops Q S ns (f + 1) l a w :=
  AnyG.first hi hs hQ hw f l a w (Region.free_spec hi hf) (by simpa using hr) (.inl ⟨hwn, hy⟩) hS h

/-- Number i alone may come up. -/
theorem AnyG.one (i : Nat) {o : Oper} {f : Nat} {l : Array Bool} {a : Act} {w : World} (hr : Region.ready md ops l = [i]) (ho : ops[i]? = some o)
    (h : ∀ K : Act → World → Prop, Shut (∀ a' w', (i ∉ ns → S w') → AnyG P md ops Q S ns f (l.setIfInBounds i true) a' w' → K a' w') → if Region.wanted o (yielded ops a.tmps) = true then Oper.wp P o a w K Q else K (a.put o.dst undef) w) :
    AnyG P md ops Q S ns (f + 1) l a w := by
  refine ⟨fun h0 => absurd (hr.symm.trans h0) (by simp), fun j hj => ?_⟩
  rw [hr] at hj
  obtain rfl := List.mem_singleton.1 hj
  exact wpOp_step ho (fun K hK => h K (fun a' w' hS hW => hK a' w' ⟨fun n _ => hS n, hW⟩))

/-- Numbers i and j may come up. -/
theorem AnyG.two (i j : Nat) {o p : Oper} {f : Nat} {l : Array Bool} {a : Act} {w : World} (hr : Region.ready md ops l = [i, j]) (ho : ops[i]? = some o) (hp : ops[j]? = some p)
    (h : ∀ K : Act → World → Prop, Shut (∀ a' w', (i ∉ ns → S w') → AnyG P md ops Q S ns f (l.setIfInBounds i true) a' w' → K a' w') → if Region.wanted o (yielded ops a.tmps) = true then Oper.wp P o a w K Q else K (a.put o.dst undef) w)
    (h2 : ∀ K : Act → World → Prop, Shut (∀ a' w', (j ∉ ns → S w') → AnyG P md ops Q S ns f (l.setIfInBounds j true) a' w' → K a' w') → if Region.wanted p (yielded ops a.tmps) = true then Oper.wp P p a w K Q else K (a.put p.dst undef) w) :
    AnyG P md ops Q S ns (f + 1) l a w := by
  refine ⟨fun h0 => absurd (hr.symm.trans h0) (by simp), fun k hk => ?_⟩
  rw [hr] at hk
  rcases List.mem_cons.1 hk with rfl | hk
  · exact wpOp_step ho (fun K hK => h K (fun a' w' hS hW => hK a' w' ⟨fun n _ => hS n, hW⟩))
  · obtain rfl := List.mem_singleton.1 hk
    exact wpOp_step hp (fun K hK => h2 K (fun a' w' hS hW => hK a' w' ⟨fun n _ => hS n, hW⟩))

theorem AnyG.done {l : Array Bool} {a : Act} {w : World} (hr : Region.ready md ops l = []) (h : Q .normal a w) : ∀ f, AnyG P md ops Q S ns f l a w
  | 0 => ⟨hr, h⟩
  | _ + 1 => ⟨fun _ => h, by rw [hr]; simp⟩

/-- The beginning. -/
theorem region_g (ns : List Nat) (S : World → Prop) {id : Nat} {a : Act} {w : World} (hm : P.follows .mixedOrders = true) (h : AnyG P .any ops Q S ns ops.size (Array.replicate ops.size false) a w.drew) : (Code.region id ops true).wp P Q a w :=
  wp_region_any hm (AnyG.any _ _ _ _ h)
end
end Go.Proofs.YtmphbnmcbonmmaaDoor

namespace Go.Proofs.YtmphbnmcbonmmaaDoor
open Go.RowKit Num Bit Bn
set_option linter.unusedVariables false
set_option linter.unusedSimpArgs false
set_option maxRecDepth 100000

theorem info3_8 : (Tryd.prog.info? 3).map (fun i => (i.zero, i.size, i.bytes)) = some (some (.int .i64 0), 1, 8) := by kernel_rfl
def iv8 (l : List Int) : List Value := l.map fun n : Int => Value.int .i64 n
def onL (m : Nat) (f : Nat → Bool) (G : Nat) : List Int := (List.range G).map fun j => (bon m f (8 * j) : Int)
def ptL (m : Nat) (f : Nat → Bool) (G : Nat) : List Int := (List.range G).map fun j => (bat m f (8 * j) : Int)
theorem onL_succ (m : Nat) (f : Nat → Bool) (G : Nat) : iv8 (onL m f G) ++ [.int .i64 (bon m f (8 * G))] = iv8 (onL m f (G + 1)) := by
  unfold onL iv8
  rw [List.range_succ, List.map_append, List.map_append]
  rfl
theorem ptL_succ (m : Nat) (f : Nat → Bool) (G : Nat) : iv8 (ptL m f G) ++ [.int .i64 (bat m f (8 * G))] = iv8 (ptL m f (G + 1)) := by
  unfold ptL iv8
  rw [List.range_succ, List.map_append, List.map_append]
  rfl
theorem bclP_succ (m : Nat) (f : Nat → Bool) (p : Nat) : wv (bclP m f p) ++ [.int .u64 (bcl m f p)] = wv (bclP m f (p + 1)) := by
  unfold bclP wv
  rw [List.range_succ, List.map_append, List.map_append]
  rfl
theorem bofP_succ (m : Nat) (f : Nat → Bool) (p : Nat) : bvl (bofP m f p) ++ bvl (Bit.bits (bof m f p) (bwd m f p)) = bvl (bofP m f (p + 1)) := by
  rw [bvl_app, bofP]

/-- The boxes. -/
structure R8 (w wr : World) (m n cap : Nat) (ao : Option Addr) (g : Nat) (ov pv : Value) : Prop where
  b1 : Cel wr w.heap.size [.int .i64 m, .slice ao n cap] 24
  b2 : Cel wr (w.heap.size + 1) [.int .i64 0, .int .i64 0, .int .i64 0, .int .i64 0, .slice none 0 0, .int .i64 0, .slice none 0 0, .slice none 0 0, .slice none 0 0] 31
  bx : Cel wr g [.int .i64 m, .int .i64 0, .int .i64 0, .int .i64 0, .slice none 0 0, .int .i64 0, .slice none 0 0, ov, pv] 31
  hg : w.heap.size + 1 < g
  hw : Below w.heap.size w wr
theorem R8.keep {w wr w' : World} {m n cap : Nat} {ao : Option Addr} {g : Nat} {ov pv : Value} (h : R8 w wr m n cap ao g ov pv) {base : Nat} (hb : Below base wr w') (hg : g < base) : R8 w w' m n cap ao g ov pv :=
  have := h.hg
  ⟨h.b1.keep hb (by omega), h.b2.keep hb (by omega), h.bx.keep hb hg, h.hg, h.hw.trans (hb.mono (by omega))⟩
theorem R8.ones {w wr : World} {m n cap : Nat} {ao : Option Addr} {g : Nat} {ov pv : Value} (h : R8 w wr m n cap ao g ov pv) (v : Value) : R8 w (wr.setCell ⟨g, 7, none⟩ v) m n cap ao g v pv :=
  have := h.hg
  ⟨h.b1.other (by show w.heap.size ≠ g; omega) v, h.b2.other (by show w.heap.size + 1 ≠ g; omega) v, h.bx.set 7 v, h.hg, h.hw.setCell (by show w.heap.size ≤ g; omega) _⟩
theorem R8.pts {w wr : World} {m n cap : Nat} {ao : Option Addr} {g : Nat} {ov pv : Value} (h : R8 w wr m n cap ao g ov pv) (v : Value) : R8 w (wr.setCell ⟨g, 8, none⟩ v) m n cap ao g ov v :=
  have := h.hg
  ⟨h.b1.other (by show w.heap.size ≠ g; omega) v, h.b2.other (by show w.heap.size + 1 ≠ g; omega) v, h.bx.set 8 v, h.hg, h.hw.setCell (by show w.heap.size ≤ g; omega) _⟩

/-- The rows. -/
structure RW (wr : World) (b : Nat) (cv fv ov pv : Value) (p1 p2 G1 G2 m : Nat) (f : Nat → Bool) : Prop where
  c : wr.ownsRow b 46 1 cv p1 (wv (bclP m f p1))
  o : wr.ownsRow b 4 1 fv (bat m f p2) (bvl (bofP m f p2))
  n : wr.ownsRow b 3 1 ov G1 (iv8 (onL m f G1))
  t : wr.ownsRow b 3 1 pv G2 (iv8 (ptL m f G2))
  co : Ap.Apart cv fv
  cn : Ap.Apart cv ov
  ct : Ap.Apart cv pv
  on : Ap.Apart fv ov
  ot : Ap.Apart fv pv
  nt : Ap.Apart ov pv
theorem RW.keep {wr w2 : World} {b : Nat} {cv fv ov pv : Value} {p1 p2 G1 G2 m : Nat} {f : Nat → Bool} (h : RW wr b cv fv ov pv p1 p2 G1 G2 m f) (hb : Below wr.heap.size wr w2) : RW w2 b cv fv ov pv p1 p2 G1 G2 m f :=
  ⟨Ap.owns_below h.c hb, Ap.owns_below h.o hb, Ap.owns_below h.n hb, Ap.owns_below h.t hb, h.co, h.cn, h.ct, h.on, h.ot, h.nt⟩
theorem owns_set8 {w : World} {base e n : Nat} {v u : Value} {vs : List Value} {a : Addr} (h : w.ownsRow base e 1 v n vs) (ha : a.block < base) : (w.setCell a u).ownsRow base e 1 v n vs := by
  obtain ⟨h1, h2 | ⟨g, cap, cur, e1, e2, hh, r⟩⟩ := h
  · exact ⟨h1, .inl h2⟩
  · exact ⟨h1, .inr ⟨g, cap, cur, e1, e2, (Below.heap_setCell w a u g (by omega)).trans hh, r⟩⟩
theorem RW.set {wr : World} {b : Nat} {cv fv ov pv : Value} {p1 p2 G1 G2 m : Nat} {f : Nat → Bool} (h : RW wr b cv fv ov pv p1 p2 G1 G2 m f) {a : Addr} (ha : a.block < b) (u : Value) : RW (wr.setCell a u) b cv fv ov pv p1 p2 G1 G2 m f :=
  ⟨owns_set8 h.c ha, owns_set8 h.o ha, owns_set8 h.n ha, owns_set8 h.t ha, h.co, h.cn, h.ct, h.on, h.ot, h.nt⟩
theorem RW.c' {wr w2 : World} {b : Nat} {cv fv ov pv : Value} {p1 p2 G1 G2 m : Nat} {f : Nat → Bool} (h : RW wr b cv fv ov pv p1 p2 G1 G2 m f) {u : Value} (ho : w2.ownsRow b 46 1 u (p1 + 1) (wv (bclP m f (p1 + 1)))) (hblk : ∀ k, u.ownBlock = some k → (cv.ownBlock = some k ∨ k = wr.heap.size) ∧ k < w2.heap.size) (hkeep : ∀ k, k < wr.heap.size → cv.ownBlock ≠ some k → w2.heap[k]? = wr.heap[k]?) : RW w2 b u fv ov pv (p1 + 1) (p2) (G1) (G2) m f :=
  ⟨ho, (Ap.owns_other h.o hkeep h.co.symm), (Ap.owns_other h.n hkeep h.cn.symm), (Ap.owns_other h.t hkeep h.ct.symm), (Ap.apart_new h.o hblk h.co.symm).symm, (Ap.apart_new h.n hblk h.cn.symm).symm, (Ap.apart_new h.t hblk h.ct.symm).symm, h.on, h.ot, h.nt⟩
theorem RW.o' {wr w2 : World} {b : Nat} {cv fv ov pv : Value} {p1 p2 G1 G2 m : Nat} {f : Nat → Bool} (h : RW wr b cv fv ov pv p1 p2 G1 G2 m f) {u : Value} (ho : w2.ownsRow b 4 1 u (bat m f (p2 + 1)) (bvl (bofP m f (p2 + 1)))) (hblk : ∀ k, u.ownBlock = some k → (fv.ownBlock = some k ∨ k = wr.heap.size) ∧ k < w2.heap.size) (hkeep : ∀ k, k < wr.heap.size → fv.ownBlock ≠ some k → w2.heap[k]? = wr.heap[k]?) : RW w2 b cv u ov pv (p1) (p2 + 1) (G1) (G2) m f :=
  ⟨(Ap.owns_other h.c hkeep h.co), ho, (Ap.owns_other h.n hkeep h.on.symm), (Ap.owns_other h.t hkeep h.ot.symm), (Ap.apart_new h.c hblk h.co), h.cn, h.ct, (Ap.apart_new h.n hblk h.on.symm).symm, (Ap.apart_new h.t hblk h.ot.symm).symm, h.nt⟩
theorem RW.n' {wr w2 : World} {b : Nat} {cv fv ov pv : Value} {p1 p2 G1 G2 m : Nat} {f : Nat → Bool} (h : RW wr b cv fv ov pv p1 p2 G1 G2 m f) {u : Value} (ho : w2.ownsRow b 3 1 u (G1 + 1) (iv8 (onL m f (G1 + 1)))) (hblk : ∀ k, u.ownBlock = some k → (ov.ownBlock = some k ∨ k = wr.heap.size) ∧ k < w2.heap.size) (hkeep : ∀ k, k < wr.heap.size → ov.ownBlock ≠ some k → w2.heap[k]? = wr.heap[k]?) : RW w2 b cv fv u pv (p1) (p2) (G1 + 1) (G2) m f :=
  ⟨(Ap.owns_other h.c hkeep h.cn), (Ap.owns_other h.o hkeep h.on), ho, (Ap.owns_other h.t hkeep h.nt.symm), h.co, (Ap.apart_new h.c hblk h.cn), h.ct, (Ap.apart_new h.o hblk h.on), h.ot, (Ap.apart_new h.t hblk h.nt.symm).symm⟩
theorem RW.t' {wr w2 : World} {b : Nat} {cv fv ov pv : Value} {p1 p2 G1 G2 m : Nat} {f : Nat → Bool} (h : RW wr b cv fv ov pv p1 p2 G1 G2 m f) {u : Value} (ho : w2.ownsRow b 3 1 u (G2 + 1) (iv8 (ptL m f (G2 + 1)))) (hblk : ∀ k, u.ownBlock = some k → (pv.ownBlock = some k ∨ k = wr.heap.size) ∧ k < w2.heap.size) (hkeep : ∀ k, k < wr.heap.size → pv.ownBlock ≠ some k → w2.heap[k]? = wr.heap[k]?) : RW w2 b cv fv ov u (p1) (p2) (G1) (G2 + 1) m f :=
  ⟨(Ap.owns_other h.c hkeep h.ct), (Ap.owns_other h.o hkeep h.ot), (Ap.owns_other h.n hkeep h.nt), ho, h.co, h.cn, (Ap.apart_new h.c hblk h.ct), h.on, (Ap.apart_new h.o hblk h.ot), (Ap.apart_new h.n hblk h.nt)⟩
end Go.Proofs.YtmphbnmcbonmmaaDoor

namespace Go.Proofs.YtmphbnmcbonmmaaDoor
open Go.RowKit Num Bit Bn
set_option linter.unusedVariables false
set_option linter.unusedSimpArgs false
set_option maxRecDepth 100000

theorem wd_own8 {w : World} {base n c : Nat} {ao : Option Addr} {l : List Nat} (h : w.ownsRow base 46 1 (.slice ao n c) n (wv l)) : Wd w ao l := by
  intro h0
  have hlen : (wv l).length = n * 1 := h.1
  have hl : l.length = n := by simp [wv] at hlen; omega
  have hk := fun k hk => h.lt k hk
  have hc := fun g hg => h.cells (g := g) hg
  obtain ⟨_, ⟨e, e2⟩ | ⟨g, cap, cur, e, _⟩⟩ := h
  · omega
  · simp only [Value.slice.injEq] at e
    obtain ⟨rfl, _, rfl⟩ := e
    refine ⟨g, 0, rfl, (hk g rfl).2, fun i hi => ?_⟩
    have hu : (wv l)[i]? = some (.int .u64 (gt l i)) := by
      unfold wv
      rw [List.getElem?_map, gt_get l i hi]
      rfl
    rw [← hc g rfl i _ hu]
    unfold Addr.add
    split
    · subst_vars; rfl
    · simp
theorem wd_base {w w1 w2 : World} {b : Nat} {ao : Option Addr} {l : List Nat} (h : Wd w ao l) (hb : ∀ a, 0 < l.length → ao = some a → a.block < b) (h1 : Below w.heap.size w w1) (h2 : Below b w1 w2) : Wd w2 ao l := by
  intro h0
  obtain ⟨c, off, e, hlt, hc⟩ := h h0
  have hcb := hb _ h0 e
  refine ⟨c, off, e, ?_, fun i hi => ((h2.cell (p := ⟨c, off + i, none⟩) hcb).trans (h1.cell (p := ⟨c, off + i, none⟩) hlt)).trans (hc i hi)⟩
  have := h1.size
  have := h2.size
  omega
theorem below_set8 {base : Nat} {w w' : World} (h : Below base w w') (b i : Nat) (v : Value) (hb : base ≤ b) : Below base w (w'.setCell ⟨b, i, none⟩ v) := h.setCell hb _
def rwN (o : Option (List Bool)) : Nat := (o.map List.length).getD 0
def rwX (o : Option (List Bool)) : List Nat := (o.map frL).getD []
theorem drop_gt (l : List Nat) (q : Nat) (h : q < l.length) : l.drop q = gt l q :: l.drop (q + 1) := by
  rw [List.drop_eq_getElem_cons h]
  congr 1
  unfold gt
  rw [List.getD_eq_getElem?_getD, List.getElem?_eq_getElem h]
  rfl

end Go.Proofs.YtmphbnmcbonmmaaDoor

namespace Go.Proofs.YtmphbnmcbonmmaaDoor
open Go.RowKit
set_option linter.unusedVariables false

/-- Nothing but block g is changed. -/
structure Only (g : Nat) (w w' : World) : Prop where
  os : w'.os = w.os
  tape : w'.tape = w.tape
  output : w'.output = w.output
  size : w'.heap.size = w.heap.size
  block : ∀ k, k ≠ g → w'.heap[k]? = w.heap[k]?
theorem Only.refl (g : Nat) (w : World) : Only g w w := ⟨rfl, rfl, rfl, rfl, fun _ _ => rfl⟩
theorem Only.trans {g : Nat} {a b c : World} (h : Only g a b) (k : Only g b c) : Only g a c := ⟨k.os.trans h.os, k.tape.trans h.tape, k.output.trans h.output, k.size.trans h.size, fun i hi => (k.block i hi).trans (h.block i hi)⟩
theorem Only.below {g base : Nat} {w w' : World} (h : Only g w w') (hb : base ≤ g) : Below base w w' := ⟨h.os, h.tape, h.output, by rw [h.size]; exact Nat.le_refl _, fun k hk => h.block k (by omega)⟩
theorem Only.set {g : Nat} {a w : World} (h : Only g a w) (i : Nat) (v : Value) : Only g a (w.setCell ⟨g, i, none⟩ v) :=
  ⟨h.os, h.tape, h.output, by rw [show (w.setCell ⟨g, i, none⟩ v).heap.size = w.heap.size by simp [World.setCell]]; exact h.size, fun k hk => (Below.heap_setCell w ⟨g, i, none⟩ v k hk).trans (h.block k hk)⟩
theorem Only.row (g : Nat) (w : World) (cs : Array Value) : Only g w (w.setRow g cs) := by
  refine ⟨rfl, rfl, rfl, ?_, fun k hk => ?_⟩
  · simp [World.setRow]
  · simp only [World.setRow, Array.getElem?_modify]
    rw [if_neg (by omega)]
theorem Only.cell {g : Nat} {w w' : World} (h : Only g w w') {p : Addr} (hp : p.block ≠ g) : w'.cell? p = w.cell? p := World.cell?_of_block (w := w) (h.block p.block hp)
theorem Only.cel {g b : Nat} {w w' : World} {cs : List Value} {T : TypeId} (h : Only g w w') (hc : Cel w b cs T) (hb : b ≠ g) : Cel w' b cs T := (h.block b hb).trans hc
theorem Only.wd {g : Nat} {w w' : World} {ao : Option Addr} {xs : List Nat} (h : Only g w w') (hx : Wd w ao xs) (hb : ∀ a, 0 < xs.length → ao = some a → a.block ≠ g) : Wd w' ao xs := by
  intro h0
  obtain ⟨b, off, e, hlt, hc⟩ := hx h0
  have hne := hb _ h0 e
  exact ⟨b, off, e, by rw [h.size]; exact hlt, fun i hi => (h.cell (p := ⟨b, off + i, none⟩) hne).trans (hc i hi)⟩
theorem Only.owns {g base e n : Nat} {w w' : World} {v : Value} {vs : List Value} (h : Only g w w') (ho : w.ownsRow base e 1 v n vs) (hg : g < base) : w'.ownsRow base e 1 v n vs := by
  obtain ⟨h1, h2 | ⟨b, cap, cur, e1, e2, hh, r⟩⟩ := ho
  · exact ⟨h1, .inl h2⟩
  · exact ⟨h1, .inr ⟨b, cap, cur, e1, e2, (h.block b (by omega)).trans hh, r⟩⟩

/-- Words do not lie in a block that holds none. -/
theorem Wd.apart {w : World} {ao : Option Addr} {xs : List Nat} {b : Nat} {cs : List Value} {T : TypeId} (hx : Wd w ao xs) (hc : Cel w b cs T) (hn : ∀ v ∈ cs, ∀ n, v ≠ .int .u64 n) : ∀ a, 0 < xs.length → ao = some a → a.block ≠ b := by
  intro a h0 ha he
  obtain ⟨b', off, e, hlt, hcc⟩ := hx h0
  rw [ha] at e
  obtain rfl := Option.some.inj e
  have he : b' = b := he
  subst he
  have h1 := hcc 0 h0
  unfold World.cell? at h1
  rw [show w.heap[({ block := b', off := off + 0, spot := none } : Addr).block]? = _ from hc] at h1
  have h2 : cs[off + 0]? = some (.int .u64 (Bit.gt xs 0)) := by simpa using h1
  exact hn _ (List.mem_of_getElem? h2) _ rfl
theorem store_cel {ops : Array Oper} {rest : List Oper} {d : Option Tmp} {ty T : TypeId} {ps : String} {af : Array Edge} {a : Act} {w : World} {Q : Exit → Act → World → Prop} {x y : Operand}
    (g : Nat) (old cs : List Value) (hx : a.eval x = .pointer (some ⟨g, 0, none⟩)) (hy : a.eval y = .agg cs.toArray) (hc : Cel w g old T) (lo : old.length = cs.length) (hi : (Tryd.prog.info? T).map (·.size) = some cs.length) (h1 : cs.toArray.all (·.oneCell') = true)
    (h : ∀ w1, Cel w1 g cs T → Only g w w1 → wpList Tryd.prog ops Q rest (a.put d undef) w1) :
    wpList Tryd.prog ops Q (⟨d, .store T x y, ty, ps, af, none⟩ :: rest) a w :=
  wpList_store_row rfl _ x y rfl g _ hx hy _ _ hc (by simpa using hi) (by simpa using lo) h1 (h _ (setRow_heap w g _ _ _ _ hc) (Only.row g w _))
theorem load_cel {ops : Array Oper} {rest : List Oper} {d : Option Tmp} {ty T : TypeId} {ps : String} {af : Array Edge} {a : Act} {w : World} {Q : Exit → Act → World → Prop} {x : Operand}
    (g : Nat) (cs : List Value) {fs : Array Field} (hx : a.eval x = .pointer (some ⟨g, 0, none⟩)) (hc : Cel w g cs T) (hu : Tryd.prog.underlying T = some (.struct fs)) (hi : (Tryd.prog.info? T).map (·.size) = some cs.length)
    (h : wpList Tryd.prog ops Q rest (a.put d (.agg cs.toArray)) w) :
    wpList Tryd.prog ops Q (⟨d, .load T x, ty, ps, af, none⟩ :: rest) a w :=
  wpList_load_row rfl _ x rfl g hx _ _ _ _ hc hu rfl (by simpa using hi) h
theorem result_cel {fn : Func} {p : Tmp} {T : TypeId} {w : World} {tmps : Array Value} {u : Tmp} (h : fn.results = #[.cell p T, .tmp u]) (g : Nat) (cs : List Value) {fs : Array Field} (hp : tmps.getD p undef = .pointer (some ⟨g, 0, none⟩)) (hc : Cel w g cs T) (hu : Tryd.prog.underlying T = some (.struct fs)) (hi : (Tryd.prog.info? T).map (·.size) = some cs.length) :
    (results fn tmps).run Tryd.prog w = .ok (.tuple #[.agg cs.toArray, tmps.getD u undef]) w := by
  have hp' : tmps[p]?.getD undef = .pointer (some ⟨g, 0, none⟩) := by simpa using hp
  have hl := run_loadVar_row (P := Tryd.prog) w g T T cs.toArray (0, 0) _ hc hu rfl (by simpa using hi)
  simp [results, h, hp', asAddr, hl]
theorem result_cel1 {fn : Func} {p : Tmp} {T : TypeId} {w : World} {tmps : Array Value} (h : fn.results = #[.cell p T]) (g : Nat) (cs : List Value) {fs : Array Field} (hp : tmps.getD p undef = .pointer (some ⟨g, 0, none⟩)) (hc : Cel w g cs T) (hu : Tryd.prog.underlying T = some (.struct fs)) (hi : (Tryd.prog.info? T).map (·.size) = some cs.length) :
    (results fn tmps).run Tryd.prog w = .ok (.agg cs.toArray) w := by
  have hp' : tmps[p]?.getD undef = .pointer (some ⟨g, 0, none⟩) := by simpa using hp
  have hl := run_loadVar_row (P := Tryd.prog) w g T T cs.toArray (0, 0) _ hc hu rfl (by simpa using hi)
  simp [results, h, hp', asAddr, hl]
end Go.Proofs.YtmphbnmcbonmmaaDoor

namespace Go.Proofs.YtmphbnmcbonmmaaDoor
open Go.RowKit Num Bit Bn
set_option linter.unusedVariables false
set_option linter.unusedSimpArgs false
set_option maxRecDepth 100000

/-- What is built: the words of the classes, the words of the offsets, the counts, the places. -/
def gN (m : Nat) : Nat := (max 1 (nb m) + 7) / 8
def rC (m : Nat) (f : Nat → Bool) : List Nat := mkS (bclP m f (nb m)) 4 (nb m)
def rO (m : Nat) (f : Nat → Bool) : List Nat := frL (bofP m f (nb m))
def rS (m : Nat) (f : Nat → Bool) : List Int := onL m f (gN m)
def rT (m : Nat) (f : Nat → Bool) : List Int := ptL m f (gN m)
/-- Four rows in memory. -/
structure RO (w : World) (C O : List Nat) (S T : List Int) (bo : Option Addr) (bc : Nat) (qo : Option Addr) (qc : Nat) (so : Option Addr) (sc : Nat) (tO : Option Addr) (tc : Nat) : Prop where
  c : Wd w bo C
  cl : C.length ≤ bc
  o : Wd w qo O
  ol : O.length ≤ qc
  s : Nd w so S
  sl : S.length ≤ sc
  t : Nd w tO T
  tl : T.length ≤ tc
theorem RO.keep {w w' : World} {C O : List Nat} {S T : List Int} {bo : Option Addr} {bc : Nat} {qo : Option Addr} {qc : Nat} {so : Option Addr} {sc : Nat} {tO : Option Addr} {tc : Nat} (h : RO w C O S T bo bc qo qc so sc tO tc) (hb : Below w.heap.size w w') : RO w' C O S T bo bc qo qc so sc tO tc :=
  ⟨h.c.keep hb, h.cl, h.o.keep hb, h.ol, h.s.keep hb, h.sl, h.t.keep hb, h.tl⟩
theorem length_onL (m : Nat) (f : Nat → Bool) (G : Nat) : (onL m f G).length = G := by simp [onL]
theorem length_ptL (m : Nat) (f : Nat → Bool) (G : Nat) : (ptL m f G).length = G := by simp [ptL]
theorem nd_own8 {w : World} {base n c : Nat} {ao : Option Addr} {l : List Int} (h : w.ownsRow base 3 1 (.slice ao n c) n (iv8 l)) : Nd w ao l := by
  intro h0
  have hlen : (iv8 l).length = n * 1 := h.1
  have hl : l.length = n := by simp [iv8] at hlen; omega
  have hk := fun k hk => h.lt k hk
  have hc := fun g hg => h.cells (g := g) hg
  obtain ⟨_, ⟨e, e2⟩ | ⟨g, cap, cur, e, _⟩⟩ := h
  · omega
  · simp only [Value.slice.injEq] at e
    obtain ⟨rfl, _, rfl⟩ := e
    refine ⟨g, 0, rfl, (hk g rfl).2, fun i hi => ?_⟩
    have hu : (iv8 l)[i]? = some (.int .i64 (gi l i)) := by
      unfold iv8 gi
      rw [List.getElem?_map, List.getD_eq_getElem?_getD, List.getElem?_eq_getElem hi]
      rfl
    rw [← hc g rfl i _ hu]
    unfold Addr.add
    split
    · subst_vars; rfl
    · simp
theorem im_ok (m : Nat) (f : Nat → Bool) (hm : m ≤ 1048576) : imE 4 (bclP m f (nb m)) = 0 := by
  unfold imE
  rw [if_neg]
  have := nb_le m hm
  rw [length_bclP]
  rintro (h | h | h | h)
  · omega
  · omega
  · omega
  · refine h fun j hj => ?_
    have h4 := bclP_lt m f (nb m) j
    have := len_le (gt (bclP m f (nb m)) j) 4 h4
    unfold lenI
    rw [Int.toNat_natCast]
    omega
theorem info_r9 : (Tryd.prog.info? 31).map (·.size) = some 9 := by kernel_rfl
theorem Nd.only {g : Nat} {w w' : World} {ao : Option Addr} {l : List Int} (h : Only g w w') (hx : Nd w ao l) (hb : ∀ a, ao = some a → a.block ≠ g) : Nd w' ao l := by
  intro h0
  obtain ⟨b, off, e, hlt, hc⟩ := hx h0
  have hne := hb _ e
  exact ⟨b, off, e, by rw [h.size]; exact hlt, fun i hi => (h.cell (p := ⟨b, off + i, none⟩) hne).trans (hc i hi)⟩
theorem own_src {w : World} {base e n c : Nat} {ao : Option Addr} {vs : List Value} (h : w.ownsRow base e 1 (.slice ao n c) n vs) : 0 < n → ∃ ad, ao = some ad ∧ ∀ j u, vs[j]? = some u → w.cell? (ad.add j) = some u := by
  intro h0
  have hc := fun g hg => h.cells (g := g) hg
  obtain ⟨_, ⟨e1, e2⟩ | ⟨g, cap, cur, e1, _⟩⟩ := h
  · omega
  · simp only [Value.slice.injEq] at e1
    obtain ⟨rfl, _, rfl⟩ := e1
    exact ⟨_, rfl, fun j u hj => hc g rfl j u hj⟩
theorem Hid.mk8 {p : Prop} (h : p) : Hid p := h
end Go.Proofs.YtmphbnmcbonmmaaDoor

namespace Go.Proofs.YtmphbnmcbonmmaaDoor
open Num Bit

def gaE (ok : Bool) (N : Int) (X : List Nat) (i : Int) : Int := if ok then getE N X i else 2
def gaB (ok : Bool) (N : Int) (X : List Nat) (i : Int) : Bool := ok && getB N X i
def grE (ok : Bool) (N : Int) (i : Int) : Int := if ok then (if i < 0 ∨ N < i then 3 else 0) else 2
def grN (ok : Bool) (N : Int) (X : List Nat) (bit : Bool) (i : Int) : Int := if grE ok N i = 0 then (cB X bit i.toNat : Int) else 0
def gsE (ok : Bool) (N : Int) (X : List Nat) (bit : Bool) (k : Int) : Int := if ok then (if (pselO N X bit k).isSome then 0 else 3) else 2
def gsX (ok : Bool) (N : Int) (X : List Nat) (bit : Bool) (k : Int) : Int := if ok then ((pselO N X bit k).getD 0 : Int) else 0
end Go.Proofs.YtmphbnmcbonmmaaDoor

namespace Go.Proofs.YtmphbnmcbonmmaaDoor
open Num Bit Bn
set_option linter.unusedVariables false

/-- What is read out of classes and offsets. -/
def rDec (N k V : Int) (xs : List Nat) (L : Int) (ys : List Nat) : Option (List Bool) := decG N.toNat L ys ((List.range k.toNat).map (numAt V.toNat xs)) 0 []
/-- Is it what is built of the row (m, f)? -/
def rEq (N k V M : Int) (xs : List Nat) (L : Int) (ys : List Nat) (S T : List Int) (m : Nat) (f : Nat → Bool) : Bool :=
  decide (N = m) && ((decide (k = nb m) && (decide (V = 4) && (decide (M = (nb m : Int) * 4) && decide (xs = rC m f)))) && ((decide (L = bat m f (nb m)) && decide (ys = rO m f)) && (decide (S = rS m f) && decide (T = rT m f))))
def rOk (N k V M : Int) (xs : List Nat) (L : Int) (ys : List Nat) (S T : List Int) : Bool :=
  (decide (0 ≤ N ∧ N ≤ 1048576) && (ichk k V M xs && chk L ys)) && rEq N k V M xs L ys S T (rwN (rDec N k V xs L ys)) (bitAt (rwX (rDec N k V xs L ys)))
def rBN (N k V M : Int) (xs : List Nat) (L : Int) (ys : List Nat) (S T : List Int) : Int := if rOk N k V M xs L ys S T then (rwN (rDec N k V xs L ys) : Int) else 0
def rBX (N k V M : Int) (xs : List Nat) (L : Int) (ys : List Nat) (S T : List Int) : List Nat := if rOk N k V M xs L ys S T then rwX (rDec N k V xs L ys) else []
def rzN (N k V M : Int) (xs : List Nat) (L : Int) (ys : List Nat) (S T : List Int) : Int := if rOk N k V M xs L ys S T then M + L + 64 * (S.length : Int) else 0

theorem rw_chk (o : Option (List Bool)) (h : ∀ l, o = some l → l.length ≤ 1048576) : chk (rwN o : Int) (rwX o) = true := by
  cases o with
  | none => decide
  | some l => exact chk_rowOf _ _ (h l rfl)
theorem rw_fit (o : Option (List Bool)) : Fit (rwX o) := by
  cases o with
  | none => intro i; unfold gt; simp [rwX]
  | some l => exact fit_rowOf _ _
theorem rDec_len (N k V : Int) (xs : List Nat) (L : Int) (ys : List Nat) (hN : N ≤ 1048576) : ∀ l, rDec N k V xs L ys = some l → l.length ≤ 1048576 := by
  intro l h
  have := length_decG N.toNat L ys _ 0 [] l (by simp) h
  omega
theorem rOk_out (N k V M : Int) (xs : List Nat) (L : Int) (ys : List Nat) (S T : List Int) (h : rOk N k V M xs L ys S T = true) :
    (0 ≤ N ∧ N ≤ 1048576) ∧ ichk k V M xs = true ∧ chk L ys = true ∧ rEq N k V M xs L ys S T (rwN (rDec N k V xs L ys)) (bitAt (rwX (rDec N k V xs L ys))) = true := by
  unfold rOk at h
  simp only [Bool.and_eq_true, decide_eq_true_eq] at h
  exact ⟨h.1.1, h.1.2.1, h.1.2.2, h.2⟩
theorem rB_chk (N k V M : Int) (xs : List Nat) (L : Int) (ys : List Nat) (S T : List Int) (h : rOk N k V M xs L ys S T = true) : chk (rBN N k V M xs L ys S T) (rBX N k V M xs L ys S T) = true := by
  obtain ⟨h1, _, _, _⟩ := rOk_out _ _ _ _ _ _ _ _ _ h
  unfold rBN rBX
  rw [if_pos h, if_pos h]
  exact rw_chk _ (rDec_len N k V xs L ys h1.2)
theorem rB_fit (N k V M : Int) (xs : List Nat) (L : Int) (ys : List Nat) (S T : List Int) : Fit (rBX N k V M xs L ys S T) := by
  unfold rBX
  split
  · exact rw_fit _
  · intro i; unfold gt; simp
theorem rEq_out (N k V M : Int) (xs : List Nat) (L : Int) (ys : List Nat) (S T : List Int) (m : Nat) (f : Nat → Bool) (h : rEq N k V M xs L ys S T m f = true) :
    N = m ∧ k = nb m ∧ V = 4 ∧ M = (nb m : Int) * 4 ∧ xs = rC m f ∧ L = bat m f (nb m) ∧ ys = rO m f ∧ S = rS m f ∧ T = rT m f := by
  unfold rEq at h
  simp only [Bool.and_eq_true, decide_eq_true_eq] at h
  obtain ⟨h1, ⟨h2, h3, h4, h5⟩, ⟨h6, h7⟩, h8, h9⟩ := h
  exact ⟨h1, h2, h3, h4, h5, h6, h7, h8, h9⟩
theorem rEq_self (m : Nat) (f : Nat → Bool) : rEq m (nb m) 4 ((nb m : Int) * 4) (rC m f) (bat m f (nb m)) (rO m f) (rS m f) (rT m f) m f = true := by
  unfold rEq
  simp
/-- What is built reads back as the row. -/
theorem rDec_built (m : Nat) (f : Nat → Bool) (hm : m ≤ 1048576) : rDec m (nb m) 4 (rC m f) (bat m f (nb m)) (rO m f) = some ((List.range m).map f) := by
  unfold rDec rC rO
  rw [Int.toNat_natCast, Int.toNat_natCast]
  exact dec_built m f hm
theorem bitAt_fr (m : Nat) (f : Nat → Bool) (i : Nat) (h : i < m) : bitAt (frL ((List.range m).map f)) i = f i := by
  rw [fr_row, bitAt_rowOf]
  simp [h]
end Go.Proofs.YtmphbnmcbonmmaaDoor

namespace Go.Proofs.YtmphbnmcbonmmaaDoor
open Go.RowKit Num Bit
set_option linter.unusedVariables false
set_option linter.unusedSimpArgs false
set_option maxRecDepth 100000

theorem r8info_b : (Tryd.prog.info? 24).map (·.size) = some 2 := by kernel_rfl

theorem r8onesI_in (N : Int) (xs : List Nat) (i : Nat) (hk : chk N xs = true) (hi : (i : Int) ≤ N) : onesI N xs i = (cntB xs i : Int) := by
  unfold onesI
  rw [hk, show min (i : Int) N = (i : Int) by omega, Int.toNat_natCast]
  rfl

end Go.Proofs.YtmphbnmcbonmmaaDoor

namespace Go.Proofs.YtmphbnmcbonmmaaDoor
open Go.RowKit Num Bit Bn
set_option linter.unusedVariables false
set_option linter.unusedSimpArgs false
set_option maxRecDepth 100000

def rbN (N : Int) (xs : List Nat) : Int := if chk N xs then N else 0
def rbK (N : Int) (xs : List Nat) : Int := if chk N xs then (nb N.toNat : Int) else 0
def rbV (N : Int) (xs : List Nat) : Int := if chk N xs then 4 else 0
def rbM (N : Int) (xs : List Nat) : Int := if chk N xs then (nb N.toNat : Int) * 4 else 0
def rbC (N : Int) (xs : List Nat) : List Nat := if chk N xs then rC N.toNat (bitAt xs) else []
def rbL (N : Int) (xs : List Nat) : Int := if chk N xs then (bat N.toNat (bitAt xs) (nb N.toNat) : Int) else 0
def rbO (N : Int) (xs : List Nat) : List Nat := if chk N xs then rO N.toNat (bitAt xs) else []
def rbS (N : Int) (xs : List Nat) : List Int := if chk N xs then rS N.toNat (bitAt xs) else []
def rbT (N : Int) (xs : List Nat) : List Int := if chk N xs then rT N.toNat (bitAt xs) else []
def rbE (N : Int) (xs : List Nat) : Int := if chk N xs then 0 else 2

/-- A row in blocks that is handed in. -/
structure RIn (w : World) (N k V M : Int) (ao : Option Addr) (xs : List Nat) (cap : Nat) (L : Int) (qo : Option Addr) (ys : List Nat) (dap : Nat) (so : Option Addr) (S : List Int) (sc : Nat) (tO : Option Addr) (T : List Int) (tc : Nat) : Prop where
  x : Wd w ao xs
  xf : Fit xs
  xc : xs.length ≤ cap
  y : Wd w qo ys
  yf : Fit ys
  yc : ys.length ≤ dap
  s : Nd w so S
  sl : S.length ≤ 1048576
  sc : S.length ≤ sc
  t : Nd w tO T
  tl : T.length ≤ 1048576
  tc : T.length ≤ tc
theorem RIn.keep {w w' : World} {N k V M : Int} {ao : Option Addr} {xs : List Nat} {cap : Nat} {L : Int} {qo : Option Addr} {ys : List Nat} {dap : Nat} {so : Option Addr} {S : List Int} {sc : Nat} {tO : Option Addr} {T : List Int} {tc : Nat} (h : RIn w N k V M ao xs cap L qo ys dap so S sc tO T tc) (hb : Below w.heap.size w w') : RIn w' N k V M ao xs cap L qo ys dap so S sc tO T tc :=
  ⟨h.x.keep hb, h.xf, h.xc, h.y.keep hb, h.yf, h.yc, h.s.keep hb, h.sl, h.sc, h.t.keep hb, h.tl, h.tc⟩

end Go.Proofs.YtmphbnmcbonmmaaDoor
