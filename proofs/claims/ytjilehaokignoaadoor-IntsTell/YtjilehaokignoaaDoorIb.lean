/-
  Plain arithmetic of rows of numbers: what may be, what is got, put, listed and made; bits that are laid over words.
-/
import Derived.Test.YtjilehaokignoaaDoorBit3
namespace Go.Proofs.YtjilehaokignoaaDoor
open Num
namespace Bit
set_option linter.unusedVariables false

theorem len_fit (x m : Nat) : Go.bitLen x ≤ m ↔ x < 2 ^ m := by
  constructor
  · intro h
    by_cases hx : x = 0
    · subst hx; exact Nat.two_pow_pos m
    · refine Nat.lt_of_not_le fun hc => ?_
      have h1 : ¬ x < 2 ^ Go.bitLen x := fun h2 => by
        have := Nat.pow_le_pow_right (n := 2) (by decide) h
        omega
      have key : ∀ d, x < 2 ^ (Go.bitLen x + d) → False := by
        intro d
        induction d with
        | zero => exact h1
        | succ d ih =>
          intro h2
          by_cases hb : x / 2 ^ (Go.bitLen x + d) % 2 = 1
          · have := len_eq x (Go.bitLen x + d) h2 hb
            omega
          · exact ih (len_down x _ h2 hb)
      refine key x ?_
      exact Nat.lt_of_lt_of_le (Nat.lt_two_pow_self (n := x)) (Nat.pow_le_pow_right (by decide) (by omega))
  · exact len_le x m

theorem lenI_fit (x m : Nat) : lenI (x : Int) ≤ (m : Int) ↔ x < 2 ^ m := by
  unfold lenI
  rw [Int.toNat_natCast, ← len_fit]
  omega

def ichk (N W M : Int) (xs : List Nat) : Bool := decide (1 ≤ W ∧ W ≤ 64 ∧ 0 ≤ N ∧ N * W = M) && chk M xs

theorem ichk_out (N W M : Int) (xs : List Nat) (h : ichk N W M xs = true) : 1 ≤ W ∧ W ≤ 64 ∧ 0 ≤ N ∧ N * W = M ∧ chk M xs = true ∧ 0 ≤ M ∧ M ≤ 1048576 ∧ N ≤ M := by
  unfold ichk at h
  rw [Bool.and_eq_true, decide_eq_true_eq] at h
  obtain ⟨⟨a, b, c, d⟩, e⟩ := h
  obtain ⟨f, g, _, _⟩ := chk_out M xs e
  refine ⟨a, b, c, d, e, f, g, ?_⟩
  have := Int.mul_le_mul_of_nonneg_left a c
  omega

def numAt (W : Nat) (xs : List Nat) (i : Nat) : Nat := numOf W (fun k => bitAt xs (i * W + k))
def igE (N W M : Int) (xs : List Nat) (i : Int) : Int := if ichk N W M xs = false then 2 else if i < 0 ∨ N ≤ i then 3 else 0
def igX (N W M : Int) (xs : List Nat) (i : Int) : Nat := if igE N W M xs i = 0 then numAt W.toNat xs i.toNat else 0
def ipE (N W M : Int) (xs : List Nat) (i : Int) (v : Nat) : Int := if igE N W M xs i = 0 then (if W < lenI v then 2 else 0) else igE N W M xs i
def ipL (N W M : Int) (xs : List Nat) (i : Int) (v : Nat) : List Nat := if ipE N W M xs i v = 0 then rowOf M.toNat (fun j => if i.toNat * W.toNat ≤ j ∧ j < i.toNat * W.toNat + W.toNat then v.testBit (j - i.toNat * W.toNat) else bitAt xs j) else xs
def ilL (N W M : Int) (xs : List Nat) : List Nat := if ichk N W M xs = true then (List.range N.toNat).map (numAt W.toNat xs) else []
def imE (W : Int) (l : List Nat) : Int := if W < 1 ∨ 64 < W ∨ 1048576 < (l.length : Int) * W ∨ ¬ (∀ j, j < l.length → lenI (gt l j) ≤ W) then 2 else 0
def imN (W : Int) (l : List Nat) : Int := if imE W l = 0 then (l.length : Int) else 0
def imW (W : Int) (l : List Nat) : Int := if imE W l = 0 then W else 0
def imM (W : Int) (l : List Nat) : Int := if imE W l = 0 then (l.length : Int) * W else 0
def mkS (l : List Nat) (W k : Nat) : List Nat := rowOf (l.length * W) (fun j => decide (j < k * W) && (gt l (j / W)).testBit (j % W))
def imL (W : Int) (l : List Nat) : List Nat := if imE W l = 0 then mkS l W.toNat l.length else []
def wm (l : List Nat) : Nat → Nat
  | 0 => 1
  | k + 1 => max (wm l k) (Go.bitLen (gt l k))

theorem igE_zero (N W M : Int) (xs : List Nat) (i : Int) (hE : igE N W M xs i = 0) : ichk N W M xs = true ∧ 0 ≤ i ∧ i < N := by
  unfold igE at hE
  cases h : ichk N W M xs with
  | false => rw [if_pos h] at hE; omega
  | true =>
    rw [if_neg (by simp [h])] at hE
    by_cases c : i < 0 ∨ N ≤ i
    · rw [if_pos c] at hE; omega
    · exact ⟨rfl, by omega, by omega⟩
theorem igE_of (N W M : Int) (xs : List Nat) (i : Int) (hk : ichk N W M xs = true) (h0 : 0 ≤ i) (h1 : i < N) : igE N W M xs i = 0 := by
  unfold igE
  rw [if_neg (by simp [hk]), if_neg (by omega)]
theorem ipE_zero (N W M : Int) (xs : List Nat) (i : Int) (v : Nat) (hE : ipE N W M xs i v = 0) : igE N W M xs i = 0 ∧ lenI v ≤ W := by
  unfold ipE at hE
  by_cases c : igE N W M xs i = 0
  · rw [if_pos c] at hE
    by_cases d : W < lenI v
    · rw [if_pos d] at hE; omega
    · exact ⟨c, by omega⟩
  · rw [if_neg c] at hE; exact absurd hE c
theorem get_place (N W M i : Int) (a1 : 1 ≤ W) (a2 : W ≤ 64) (a3 : 0 ≤ N) (a4 : N * W = M) (a7 : M ≤ 1048576) (i0 : 0 ≤ i) (i1 : i < N) : 0 ≤ i * W ∧ i * W + W ≤ M ∧ i * W ≤ M - W ∧ i * W ≤ 1048576 := by
  have h1 := Int.mul_nonneg i0 (show 0 ≤ W by omega)
  have h2 := Int.mul_le_mul_of_nonneg_right (show i + 1 ≤ N by omega) (show 0 ≤ W by omega)
  rw [Int.add_mul, Int.one_mul] at h2
  omega
theorem get_slice (N W M : Int) (xs : List Nat) (i : Int) (hk : ichk N W M xs = true) (i0 : 0 ≤ i) (i1 : i < N) : slcX M xs (i * W) W = igX N W M xs i ∧ slcE M xs (i * W) W = igE N W M xs i := by
  obtain ⟨a1, a2, a3, a4, a5, a6, a7, a8⟩ := ichk_out N W M xs hk
  obtain ⟨q1, q2, q3, q4⟩ := get_place N W M i a1 a2 a3 a4 a7 i0 i1
  have e := igE_of N W M xs i hk i0 i1
  have e2 : slcE M xs (i * W) W = 0 := by
    unfold slcE
    rw [if_neg (by simp [a5]; omega), if_neg (by omega)]
  refine ⟨?_, by rw [e, e2]⟩
  unfold slcX igX numAt
  rw [if_pos e, if_pos e2, Int.toNat_mul i0 (by omega)]

theorem wm_pos (l : List Nat) (k : Nat) : 1 ≤ wm l k := by
  induction k with
  | zero => exact Nat.le_refl _
  | succ k ih => simp only [wm]; omega
theorem wm_ge (l : List Nat) (k j : Nat) (h : j < k) : Go.bitLen (gt l j) ≤ wm l k := by
  induction k with
  | zero => omega
  | succ k ih =>
    simp only [wm]
    by_cases e : j = k
    · subst e; omega
    · have := ih (by omega); omega
theorem wm_le (l : List Nat) (hf : Fit l) (k : Nat) : wm l k ≤ 64 := by
  induction k with
  | zero => simp only [wm]; omega
  | succ k ih =>
    simp only [wm]
    have : Go.bitLen (gt l k) ≤ 64 := len_le _ _ (by rw [show (2 : Nat) ^ 64 = 18446744073709551616 from rfl]; exact hf k)
    omega
theorem wm_at (l : List Nat) (k : Nat) : wm l k = 1 ∨ ∃ j, j < k ∧ wm l k = Go.bitLen (gt l j) := by
  induction k with
  | zero => exact .inl rfl
  | succ k ih =>
    simp only [wm]
    by_cases c : Go.bitLen (gt l k) ≤ wm l k
    · rw [Nat.max_eq_left c]
      rcases ih with h | ⟨j, h1, h2⟩
      · exact .inl h
      · exact .inr ⟨j, by omega, h2⟩
    · rw [Nat.max_eq_right (by omega)]
      exact .inr ⟨k, by omega, rfl⟩

/-! What lay makes of the words. -/
theorem test_not (m r : Nat) (hm : m < 18446744073709551616) (hr : r < 64) : (18446744073709551615 - m).testBit r = !m.testBit r := by
  have h := Nat.testBit_two_pow_sub_succ (n := 64) (x := m) (by rw [show (2 : Nat) ^ 64 = 18446744073709551616 from rfl]; exact hm) r
  rw [show (2 : Nat) ^ 64 - (m + 1) = 18446744073709551615 - m by rw [show (2 : Nat) ^ 64 = 18446744073709551616 from rfl]; omega] at h
  rw [h]; simp [hr]

def lay1 (ys : List Nat) (p W v : Nat) : List Nat := ys.set (p / 64) ((gt ys (p / 64) &&& (18446744073709551615 - (2 ^ W - 1) * 2 ^ (p % 64) % 18446744073709551616)) ||| v * 2 ^ (p % 64) % 18446744073709551616)
def layL (ys : List Nat) (p W v : Nat) : List Nat :=
  if 64 - p % 64 < W then (lay1 ys p W v).set (p / 64 + 1) ((gt ys (p / 64 + 1) &&& (18446744073709551615 - (2 ^ W - 1) / 2 ^ (64 - p % 64))) ||| v / 2 ^ (64 - p % 64)) else lay1 ys p W v

theorem length_lay1 (ys : List Nat) (p W v : Nat) : (lay1 ys p W v).length = ys.length := by simp [lay1]
theorem length_layL (ys : List Nat) (p W v : Nat) : (layL ys p W v).length = ys.length := by
  unfold layL; split <;> simp [lay1]

theorem bitAt_layL (ys : List Nat) (p W v : Nat) (hW : 1 ≤ W) (hW2 : W ≤ 64) (hv : v < 2 ^ W) (hl : p + W ≤ 64 * ys.length) (i : Nat) :
    bitAt (layL ys p W v) i = if p ≤ i ∧ i < p + W then v.testBit (i - p) else bitAt ys i := by
  have hp : p / 64 < ys.length := by omega
  have hm : (2 : Nat) ^ W - 1 < 18446744073709551616 := by
    have := Nat.pow_le_pow_right (n := 2) (j := 64) (by decide) hW2
    rw [show (2 : Nat) ^ 64 = 18446744073709551616 from rfl] at this
    omega
  have hv0 : ∀ j, W ≤ j → v.testBit j = false := fun j hj => Nat.testBit_lt_two_pow (Nat.lt_of_lt_of_le hv (Nat.pow_le_pow_right (by decide) hj))
  have first : ∀ r, r < 64 → ((gt ys (p / 64) &&& (18446744073709551615 - (2 ^ W - 1) * 2 ^ (p % 64) % 18446744073709551616)) ||| v * 2 ^ (p % 64) % 18446744073709551616).testBit r = if p % 64 ≤ r ∧ r < p % 64 + W then v.testBit (r - p % 64) else (gt ys (p / 64)).testBit r := by
    intro r hr
    rw [Nat.testBit_or, Nat.testBit_and, test_not _ _ (Nat.mod_lt _ (by decide)) hr, test_shl _ _ _ hr, test_shl _ _ _ hr, Nat.testBit_two_pow_sub_one]
    by_cases c : p % 64 ≤ r
    · by_cases c2 : r < p % 64 + W
      · rw [if_pos ⟨c, c2⟩]; simp [c, show r - p % 64 < W by omega]
      · rw [if_neg (by omega), hv0 (r - p % 64) (by omega)]; simp [show ¬ r - p % 64 < W by omega]
    · rw [if_neg (by omega)]; simp [c]
  have second : ∀ r, r < 64 → ((gt ys (p / 64 + 1) &&& (18446744073709551615 - (2 ^ W - 1) / 2 ^ (64 - p % 64))) ||| v / 2 ^ (64 - p % 64)).testBit r = if r + (64 - p % 64) < W then v.testBit (r + (64 - p % 64)) else (gt ys (p / 64 + 1)).testBit r := by
    intro r hr
    rw [Nat.testBit_or, Nat.testBit_and, test_not _ _ (Nat.lt_of_le_of_lt (Nat.div_le_self _ _) hm) hr, test_shr, test_shr, Nat.testBit_two_pow_sub_one]
    by_cases c : r + (64 - p % 64) < W
    · rw [if_pos c, Nat.add_comm r (64 - p % 64)]; simp [show 64 - p % 64 + r < W by omega]
    · rw [if_neg c, hv0 (64 - p % 64 + r) (by omega)]; simp [show ¬ 64 - p % 64 + r < W by omega]
  have at1 : ∀ zs : List Nat, (∀ j, j ≠ p / 64 → gt zs j = gt ys j) → gt zs (p / 64) = ((gt ys (p / 64) &&& (18446744073709551615 - (2 ^ W - 1) * 2 ^ (p % 64) % 18446744073709551616)) ||| v * 2 ^ (p % 64) % 18446744073709551616) → (p % 64 + W ≤ 64 ∨ i / 64 ≠ p / 64 + 1) → bitAt zs i = if p ≤ i ∧ i < p + W then v.testBit (i - p) else bitAt ys i := by
    intro zs h1 h2 h3
    unfold bitAt
    by_cases e : i / 64 = p / 64
    · rw [e, h2, first _ (by omega)]
      by_cases c : p ≤ i ∧ i < p + W
      · rw [if_pos (by omega), if_pos c]; congr 1; omega
      · rw [if_neg (by omega), if_neg c]
    · rw [h1 _ e, if_neg (by omega)]
  have g1 : ∀ j, gt (lay1 ys p W v) j = if p / 64 = j then ((gt ys (p / 64) &&& (18446744073709551615 - (2 ^ W - 1) * 2 ^ (p % 64) % 18446744073709551616)) ||| v * 2 ^ (p % 64) % 18446744073709551616) else gt ys j := fun j => gt_set ys _ _ _ hp
  unfold layL
  by_cases c : 64 - p % 64 < W
  · rw [if_pos c]
    have hp1 : p / 64 + 1 < ys.length := by omega
    have g2 : ∀ j, gt ((lay1 ys p W v).set (p / 64 + 1) ((gt ys (p / 64 + 1) &&& (18446744073709551615 - (2 ^ W - 1) / 2 ^ (64 - p % 64))) ||| v / 2 ^ (64 - p % 64))) j = if p / 64 + 1 = j then ((gt ys (p / 64 + 1) &&& (18446744073709551615 - (2 ^ W - 1) / 2 ^ (64 - p % 64))) ||| v / 2 ^ (64 - p % 64)) else gt (lay1 ys p W v) j := fun j => gt_set _ _ _ _ (by rw [length_lay1]; exact hp1)
    by_cases e : i / 64 = p / 64 + 1
    · unfold bitAt
      rw [g2, if_pos e.symm, second _ (by omega)]
      by_cases d : p ≤ i ∧ i < p + W
      · rw [if_pos (by omega), if_pos d]; congr 1; omega
      · rw [if_neg (by omega), if_neg d, e]
    · refine Eq.trans ?_ (at1 (lay1 ys p W v) (fun j hj => by rw [g1, if_neg (by omega)]) (by rw [g1, if_pos rfl]) (.inr e))
      unfold bitAt
      rw [g2, if_neg (by omega)]
  · rw [if_neg c]
    exact at1 (lay1 ys p W v) (fun j hj => by rw [g1, if_neg (by omega)]) (by rw [g1, if_pos rfl]) (.inl (by omega))

theorem fit_layL (ys : List Nat) (hf : Fit ys) (p W v : Nat) (hv : v < 18446744073709551616) : Fit (layL ys p W v) := by
  have h1 : Fit (lay1 ys p W v) := fit_set ys hf _ _ (or_lt _ _ (Nat.lt_of_le_of_lt Nat.and_le_left (hf _)) (Nat.mod_lt _ (by decide)))
  unfold layL
  split
  · exact fit_set _ h1 _ _ (or_lt _ _ (Nat.lt_of_le_of_lt Nat.and_le_left (hf _)) (Nat.lt_of_le_of_lt (Nat.div_le_self _ _) hv))
  · exact h1

theorem length_mkS (l : List Nat) (W k : Nat) : (mkS l W k).length = (l.length * W + 63) / 64 := length_rowOf _ _
theorem fit_mkS (l : List Nat) (W k : Nat) : Fit (mkS l W k) := fit_rowOf _ _
theorem mkS_zero (l : List Nat) (W : Nat) : rowOf (l.length * W) (fun _ => false) = mkS l W 0 := rowOf_congr _ _ _ fun i _ => by simp
theorem mul_next (n W k : Nat) (h : k < n) : k * W + W ≤ n * W := by
  have := Nat.mul_le_mul_right W (show k + 1 ≤ n by omega)
  rw [Nat.add_mul, Nat.one_mul] at this
  exact this
theorem mkS_step (l : List Nat) (W k : Nat) (hW : 1 ≤ W) (hW2 : W ≤ 64) (hk : k < l.length) (hv : gt l k < 2 ^ W) (hv2 : gt l k < 18446744073709551616) : layL (mkS l W k) (k * W) W (gt l k) = mkS l W (k + 1) := by
  have hn := mul_next l.length W k hk
  refine eq_rowOf _ _ _ (fit_layL _ (fit_mkS _ _ _) _ _ _ hv2) (by rw [length_layL, length_mkS]) fun i _ => ?_
  rw [bitAt_layL _ _ _ _ hW hW2 hv (by rw [length_mkS]; omega) i]
  unfold mkS
  rw [bitAt_rowOf, Nat.add_mul, Nat.one_mul]
  by_cases c : k * W ≤ i ∧ i < k * W + W
  · rw [if_pos c]
    have e1 : i / W = k := by
      rw [Nat.div_eq_iff (by omega)]; rw [Nat.mul_comm] at c; constructor <;> (try rw [Nat.mul_comm]) <;> omega
    have e2 : i % W = i - k * W := by
      have := Nat.div_add_mod i W
      rw [e1, Nat.mul_comm] at this
      omega
    rw [e1, e2]
    simp [c.2, show i < l.length * W by omega]
  · rw [if_neg c]
    by_cases d : i < k * W
    · simp [d, show i < k * W + W by omega]
    · simp [d, show ¬ i < k * W + W by omega]
end Bit
end Go.Proofs.YtjilehaokignoaaDoor
