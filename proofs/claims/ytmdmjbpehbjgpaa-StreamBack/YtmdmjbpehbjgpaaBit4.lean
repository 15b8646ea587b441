/-
  Plain arithmetic of rows of bits, more: joined rows.
-/
import Derived.Test.YtmdmjbpehbjgpaaBit3
namespace Go.Proofs.Ytmdmjbpehbjgpaa
open Num
namespace Bit

/-- The words while the first q words of the second row are laid behind the first. -/
def joinS (xs ys : List Nat) (m k : Nat) : Nat → List Nat
  | 0 => cp xs k
  | q + 1 => putL (joinS xs ys m k q) (m + q * 64) (gt ys q)

theorem length_joinS (xs ys : List Nat) (m k q : Nat) : (joinS xs ys m k q).length = k := by
  induction q with
  | zero => exact length_cp xs k
  | succ q ih => simp only [joinS]; rw [length_putL, ih]

theorem word_lt (M : Nat) (ys : List Nat) (hf : Fit ys) (hk : chk (M : Int) ys = true) (q : Nat) : gt ys q < 2 ^ (min 64 (M - 64 * q)) := by
  refine Nat.lt_pow_two_of_testBit _ fun i hi => ?_
  by_cases h : i < 64
  · have e := chk_high M ys hk (64 * q + i) (by omega)
    unfold bitAt at e
    rw [show (64 * q + i) / 64 = q by omega, show (64 * q + i) % 64 = i by omega] at e
    exact e
  · exact test_big _ _ (hf q) (by omega)

theorem room_joinS (xs ys : List Nat) (m M k : Nat) (hf : Fit ys) (hk : chk (M : Int) ys = true) (hkk : k = (m + M + 63) / 64) (q : Nat) (hq : q < ys.length) : Room (joinS xs ys m k q) (m + q * 64) (gt ys q) := by
  obtain ⟨_, _, hl, _⟩ := chk_out M ys hk
  exact room_of _ _ _ _ (word_lt M ys hf hk q) (by omega) (by rw [length_joinS]; omega)

theorem joinS_bits (xs ys : List Nat) (m M k : Nat) (hfx : Fit xs) (hf : Fit ys) (hk : chk (M : Int) ys = true) (hkk : k = (m + M + 63) / 64) (q : Nat) (hq : q ≤ ys.length) :
    Fit (joinS xs ys m k q) ∧ ∀ i, bitAt (joinS xs ys m k q) i = (bitAt (cp xs k) i || (decide (m ≤ i ∧ i < m + q * 64) && bitAt ys (i - m))) := by
  induction q with
  | zero =>
    refine ⟨fit_cp xs hfx k, fun i => ?_⟩
    simp only [joinS]
    rw [show decide (m ≤ i ∧ i < m + 0 * 64) = false by simp]
    simp
  | succ q ih =>
    obtain ⟨i1, i2⟩ := ih (by omega)
    have hr := room_joinS xs ys m M k hf hk hkk q (by omega)
    refine ⟨fit_putL _ i1 _ _ (hf q) hr, fun i => ?_⟩
    simp only [joinS]
    rw [bitAt_putL _ _ _ (hf q) hr, i2 i, Bool.or_assoc]
    congr 1
    by_cases c1 : m + q * 64 ≤ i
    · rw [show decide (m ≤ i ∧ i < m + q * 64) = false by simp; omega, show decide (m + q * 64 ≤ i) = true by simpa using c1]
      by_cases c2 : i < m + (q + 1) * 64
      · rw [show decide (m ≤ i ∧ i < m + (q + 1) * 64) = true by simp; omega]
        unfold bitAt
        rw [show (i - m) / 64 = q by omega, show (i - m) % 64 = i - (m + q * 64) by omega]
        simp
      · rw [show decide (m ≤ i ∧ i < m + (q + 1) * 64) = false by simp; omega, test_big _ _ (hf q) (by omega)]
        simp
    · rw [show decide (m + q * 64 ≤ i) = false by simpa using c1]
      by_cases c2 : m ≤ i
      · rw [show decide (m ≤ i ∧ i < m + q * 64) = true by simp; omega, show decide (m ≤ i ∧ i < m + (q + 1) * 64) = true by simp; omega]
        simp
      · rw [show decide (m ≤ i ∧ i < m + q * 64) = false by simp; omega, show decide (m ≤ i ∧ i < m + (q + 1) * 64) = false by simp; omega]
        simp

theorem join_row (m M k : Nat) (xs ys : List Nat) (hfx : Fit xs) (hf : Fit ys) (hkx : chk (m : Int) xs = true) (hk : chk (M : Int) ys = true) (hkk : k = (m + M + 63) / 64) :
    joinS xs ys m k ys.length = rowOf (m + M) (fun j => if j < m then bitAt xs j else bitAt ys (j - m)) := by
  obtain ⟨_, _, hlx, _⟩ := chk_out m xs hkx
  obtain ⟨_, _, hl, _⟩ := chk_out M ys hk
  obtain ⟨h1, h2⟩ := joinS_bits xs ys m M k hfx hf hk hkk ys.length (Nat.le_refl _)
  refine eq_rowOf _ _ _ h1 (by rw [length_joinS]; exact hkk) fun i hi => ?_
  rw [length_joinS] at hi
  rw [h2 i]
  have hb : bitAt (cp xs k) i = bitAt xs i := by unfold bitAt; rw [gt_cp xs k _ (by omega)]
  rw [hb]
  by_cases c : i < m
  · rw [if_pos c, show decide (m ≤ i ∧ i < m + ys.length * 64) = false by simp; omega, show decide (i < m + M) = true by simp; omega]
    simp
  · rw [if_neg c, chk_high m xs hkx i (by omega)]
    by_cases c2 : i < m + M
    · rw [show decide (m ≤ i ∧ i < m + ys.length * 64) = true by simp; omega, show decide (i < m + M) = true by simpa using c2]
      simp
    · rw [chk_high M ys hk (i - m) (by omega)]
      simp
end Bit
end Go.Proofs.Ytmdmjbpehbjgpaa
