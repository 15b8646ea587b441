/-
  Plain arithmetic of rows of numbers: what may be, what is got, put, listed and made; bits that are laid over words. The contracts of package ints that tell why something may not be, and of what only reads: wide, narrow, mayBe, place, puttable, numberOf, Check, Get. The contracts of the document's answers on rows of numbers that only read: Check, fits, Width, Get. Rows that calls make: words that are copied, a row as it is, a longer one, bits that are laid over words, a new row. Plain arithmetic of rows of bits, more: joined rows. The contract of From. The contracts of the document's New, put and From. The contracts of package ints that write: lay (bits laid over words of the call's own), asItIs (a row in words of its own). The contracts of makeable, Make and Of. The contract of the document's Make. The contract of List. The contracts of the document's Make, Of and List, whatever is handed in. Appends to a row of the call's own, out of whatever source (nothing among them): as a step of a list of operations, and of a region that draws its order. Blocks of cells that may be written, whole: what they hold, what a store makes of them, what stays; numbers in memory.
-/
import Derived.Test.YtmphbnmcbonmmaaDoorM00
import Derived.Laws.CopyOwn
import Derived.OwnWalk
import Derived.Deep.RegionHeld3
import Derived.RegionTactic
import Derived.BigRegion
import Derived.Test.YtmphbnmcbonmmaaDoorRows
import Derived.WalkKit
import Derived.Deep.AppendLies
import Derived.WalkSmall
namespace Go.Proofs.YtmphbnmcbonmmaaDoor
open Num
namespace Bit
set_option linter.unusedVariables false

theorem len_fit (x m : Nat) : Go.bitLen x ≤ m ↔ x < 2 ^ m := by
  constructor
  · intro h
    by_cases hx : x = 0
    · subst hx; exact Nat.two_pow_pos m
    · refine Nat.lt_of_not_le fun hc => ?_
      have h1 : ¬ x < 2 ^ Go.bitLen x := fun h2 => by
        have := Nat.pow_le_pow_right (n := 2) (by decide) h
        omega
      have key : ∀ d, x < 2 ^ (Go.bitLen x + d) → False := by
        intro d
        induction d with
        | zero => exact h1
        | succ d ih =>
          intro h2
          by_cases hb : x / 2 ^ (Go.bitLen x + d) % 2 = 1
          · have := len_eq x (Go.bitLen x + d) h2 hb
            omega
          · exact ih (len_down x _ h2 hb)
      refine key x ?_
      exact Nat.lt_of_lt_of_le (Nat.lt_two_pow_self (n := x)) (Nat.pow_le_pow_right (by decide) (by omega))
  · exact len_le x m

theorem lenI_fit (x m : Nat) : lenI (x : Int) ≤ (m : Int) ↔ x < 2 ^ m := by
  unfold lenI
  rw [Int.toNat_natCast, ← len_fit]
  omega

def ichk (N W M : Int) (xs : List Nat) : Bool := decide (1 ≤ W ∧ W ≤ 64 ∧ 0 ≤ N ∧ N * W = M) && chk M xs

theorem ichk_out (N W M : Int) (xs : List Nat) (h : ichk N W M xs = true) : 1 ≤ W ∧ W ≤ 64 ∧ 0 ≤ N ∧ N * W = M ∧ chk M xs = true ∧ 0 ≤ M ∧ M ≤ 1048576 ∧ N ≤ M := by
  unfold ichk at h
  rw [Bool.and_eq_true, decide_eq_true_eq] at h
  obtain ⟨⟨a, b, c, d⟩, e⟩ := h
  obtain ⟨f, g, _, _⟩ := chk_out M xs e
  refine ⟨a, b, c, d, e, f, g, ?_⟩
  have := Int.mul_le_mul_of_nonneg_left a c
  omega

def numAt (W : Nat) (xs : List Nat) (i : Nat) : Nat := numOf W (fun k => bitAt xs (i * W + k))
def igE (N W M : Int) (xs : List Nat) (i : Int) : Int := if ichk N W M xs = false then 2 else if i < 0 ∨ N ≤ i then 3 else 0
def igX (N W M : Int) (xs : List Nat) (i : Int) : Nat := if igE N W M xs i = 0 then numAt W.toNat xs i.toNat else 0
def ipE (N W M : Int) (xs : List Nat) (i : Int) (v : Nat) : Int := if igE N W M xs i = 0 then (if W < lenI v then 2 else 0) else igE N W M xs i
def ipL (N W M : Int) (xs : List Nat) (i : Int) (v : Nat) : List Nat := if ipE N W M xs i v = 0 then rowOf M.toNat (fun j => if i.toNat * W.toNat ≤ j ∧ j < i.toNat * W.toNat + W.toNat then v.testBit (j - i.toNat * W.toNat) else bitAt xs j) else xs
def ilL (N W M : Int) (xs : List Nat) : List Nat := if ichk N W M xs = true then (List.range N.toNat).map (numAt W.toNat xs) else []
def imE (W : Int) (l : List Nat) : Int := if W < 1 ∨ 64 < W ∨ 1048576 < (l.length : Int) * W ∨ ¬ (∀ j, j < l.length → lenI (gt l j) ≤ W) then 2 else 0
def imN (W : Int) (l : List Nat) : Int := if imE W l = 0 then (l.length : Int) else 0
def imW (W : Int) (l : List Nat) : Int := if imE W l = 0 then W else 0
def imM (W : Int) (l : List Nat) : Int := if imE W l = 0 then (l.length : Int) * W else 0
def mkS (l : List Nat) (W k : Nat) : List Nat := rowOf (l.length * W) (fun j => decide (j < k * W) && (gt l (j / W)).testBit (j % W))
def imL (W : Int) (l : List Nat) : List Nat := if imE W l = 0 then mkS l W.toNat l.length else []
def wm (l : List Nat) : Nat → Nat
  | 0 => 1
  | k + 1 => max (wm l k) (Go.bitLen (gt l k))

theorem igE_zero (N W M : Int) (xs : List Nat) (i : Int) (hE : igE N W M xs i = 0) : ichk N W M xs = true ∧ 0 ≤ i ∧ i < N := by
  unfold igE at hE
  cases h : ichk N W M xs with
  | false => rw [if_pos h] at hE; omega
  | true =>
    rw [if_neg (by simp [h])] at hE
    by_cases c : i < 0 ∨ N ≤ i
    · rw [if_pos c] at hE; omega
    · exact ⟨rfl, by omega, by omega⟩
theorem igE_of (N W M : Int) (xs : List Nat) (i : Int) (hk : ichk N W M xs = true) (h0 : 0 ≤ i) (h1 : i < N) : igE N W M xs i = 0 := by
  unfold igE
  rw [if_neg (by simp [hk]), if_neg (by omega)]
theorem ipE_zero (N W M : Int) (xs : List Nat) (i : Int) (v : Nat) (hE : ipE N W M xs i v = 0) : igE N W M xs i = 0 ∧ lenI v ≤ W := by
  unfold ipE at hE
  by_cases c : igE N W M xs i = 0
  · rw [if_pos c] at hE
    by_cases d : W < lenI v
    · rw [if_pos d] at hE; omega
    · exact ⟨c, by omega⟩
  · rw [if_neg c] at hE; exact absurd hE c
theorem get_place (N W M i : Int) (a1 : 1 ≤ W) (a2 : W ≤ 64) (a3 : 0 ≤ N) (a4 : N * W = M) (a7 : M ≤ 1048576) (i0 : 0 ≤ i) (i1 : i < N) : 0 ≤ i * W ∧ i * W + W ≤ M ∧ i * W ≤ M - W ∧ i * W ≤ 1048576 := by
  have h1 := Int.mul_nonneg i0 (show 0 ≤ W by omega)
  have h2 := Int.mul_le_mul_of_nonneg_right (show i + 1 ≤ N by omega) (show 0 ≤ W by omega)
  rw [Int.add_mul, Int.one_mul] at h2
  omega
theorem get_slice (N W M : Int) (xs : List Nat) (i : Int) (hk : ichk N W M xs = true) (i0 : 0 ≤ i) (i1 : i < N) : slcX M xs (i * W) W = igX N W M xs i ∧ slcE M xs (i * W) W = igE N W M xs i := by
  obtain ⟨a1, a2, a3, a4, a5, a6, a7, a8⟩ := ichk_out N W M xs hk
  obtain ⟨q1, q2, q3, q4⟩ := get_place N W M i a1 a2 a3 a4 a7 i0 i1
  have e := igE_of N W M xs i hk i0 i1
  have e2 : slcE M xs (i * W) W = 0 := by
    unfold slcE
    rw [if_neg (by simp [a5]; omega), if_neg (by omega)]
  refine ⟨?_, by rw [e, e2]⟩
  unfold slcX igX numAt
  rw [if_pos e, if_pos e2, Int.toNat_mul i0 (by omega)]

theorem wm_pos (l : List Nat) (k : Nat) : 1 ≤ wm l k := by
  induction k with
  | zero => exact Nat.le_refl _
  | succ k ih => simp only [wm]; omega
theorem wm_ge (l : List Nat) (k j : Nat) (h : j < k) : Go.bitLen (gt l j) ≤ wm l k := by
  induction k with
  | zero => omega
  | succ k ih =>
    simp only [wm]
    by_cases e : j = k
    · subst e; omega
    · have := ih (by omega); omega
theorem wm_le (l : List Nat) (hf : Fit l) (k : Nat) : wm l k ≤ 64 := by
  induction k with
  | zero => simp only [wm]; omega
  | succ k ih =>
    simp only [wm]
    have : Go.bitLen (gt l k) ≤ 64 := len_le _ _ (by rw [show (2 : Nat) ^ 64 = 18446744073709551616 from rfl]; exact hf k)
    omega
theorem wm_at (l : List Nat) (k : Nat) : wm l k = 1 ∨ ∃ j, j < k ∧ wm l k = Go.bitLen (gt l j) := by
  induction k with
  | zero => exact .inl rfl
  | succ k ih =>
    simp only [wm]
    by_cases c : Go.bitLen (gt l k) ≤ wm l k
    · rw [Nat.max_eq_left c]
      rcases ih with h | ⟨j, h1, h2⟩
      · exact .inl h
      · exact .inr ⟨j, by omega, h2⟩
    · rw [Nat.max_eq_right (by omega)]
      exact .inr ⟨k, by omega, rfl⟩

/-! What lay makes of the words. -/
theorem test_not (m r : Nat) (hm : m < 18446744073709551616) (hr : r < 64) : (18446744073709551615 - m).testBit r = !m.testBit r := by
  have h := Nat.testBit_two_pow_sub_succ (n := 64) (x := m) (by rw [show (2 : Nat) ^ 64 = 18446744073709551616 from rfl]; exact hm) r
  rw [show (2 : Nat) ^ 64 - (m + 1) = 18446744073709551615 - m by rw [show (2 : Nat) ^ 64 = 18446744073709551616 from rfl]; omega] at h
  rw [h]; simp [hr]

def lay1 (ys : List Nat) (p W v : Nat) : List Nat := ys.set (p / 64) ((gt ys (p / 64) &&& (18446744073709551615 - (2 ^ W - 1) * 2 ^ (p % 64) % 18446744073709551616)) ||| v * 2 ^ (p % 64) % 18446744073709551616)
def layL (ys : List Nat) (p W v : Nat) : List Nat :=
  if 64 - p % 64 < W then (lay1 ys p W v).set (p / 64 + 1) ((gt ys (p / 64 + 1) &&& (18446744073709551615 - (2 ^ W - 1) / 2 ^ (64 - p % 64))) ||| v / 2 ^ (64 - p % 64)) else lay1 ys p W v

theorem length_lay1 (ys : List Nat) (p W v : Nat) : (lay1 ys p W v).length = ys.length := by simp [lay1]
theorem length_layL (ys : List Nat) (p W v : Nat) : (layL ys p W v).length = ys.length := by
  unfold layL; split <;> simp [lay1]

theorem bitAt_layL (ys : List Nat) (p W v : Nat) (hW : 1 ≤ W) (hW2 : W ≤ 64) (hv : v < 2 ^ W) (hl : p + W ≤ 64 * ys.length) (i : Nat) :
    bitAt (layL ys p W v) i = if p ≤ i ∧ i < p + W then v.testBit (i - p) else bitAt ys i := by
  have hp : p / 64 < ys.length := by omega
  have hm : (2 : Nat) ^ W - 1 < 18446744073709551616 := by
    have := Nat.pow_le_pow_right (n := 2) (j := 64) (by decide) hW2
    rw [show (2 : Nat) ^ 64 = 18446744073709551616 from rfl] at this
    omega
  have hv0 : ∀ j, W ≤ j → v.testBit j = false := fun j hj => Nat.testBit_lt_two_pow (Nat.lt_of_lt_of_le hv (Nat.pow_le_pow_right (by decide) hj))
  have first : ∀ r, r < 64 → ((gt ys (p / 64) &&& (18446744073709551615 - (2 ^ W - 1) * 2 ^ (p % 64) % 18446744073709551616)) ||| v * 2 ^ (p % 64) % 18446744073709551616).testBit r = if p % 64 ≤ r ∧ r < p % 64 + W then v.testBit (r - p % 64) else (gt ys (p / 64)).testBit r := by
    intro r hr
    rw [Nat.testBit_or, Nat.testBit_and, test_not _ _ (Nat.mod_lt _ (by decide)) hr, test_shl _ _ _ hr, test_shl _ _ _ hr, Nat.testBit_two_pow_sub_one]
    by_cases c : p % 64 ≤ r
    · by_cases c2 : r < p % 64 + W
      · rw [if_pos ⟨c, c2⟩]; simp [c, show r - p % 64 < W by omega]
      · rw [if_neg (by omega), hv0 (r - p % 64) (by omega)]; simp [show ¬ r - p % 64 < W by omega]
    · rw [if_neg (by omega)]; simp [c]
  have second : ∀ r, r < 64 → ((gt ys (p / 64 + 1) &&& (18446744073709551615 - (2 ^ W - 1) / 2 ^ (64 - p % 64))) ||| v / 2 ^ (64 - p % 64)).testBit r = if r + (64 - p % 64) < W then v.testBit (r + (64 - p % 64)) else (gt ys (p / 64 + 1)).testBit r := by
    intro r hr
    rw [Nat.testBit_or, Nat.testBit_and, test_not _ _ (Nat.lt_of_le_of_lt (Nat.div_le_self _ _) hm) hr, test_shr, test_shr, Nat.testBit_two_pow_sub_one]
    by_cases c : r + (64 - p % 64) < W
    · rw [if_pos c, Nat.add_comm r (64 - p % 64)]; simp [show 64 - p % 64 + r < W by omega]
    · rw [if_neg c, hv0 (64 - p % 64 + r) (by omega)]; simp [show ¬ 64 - p % 64 + r < W by omega]
  have at1 : ∀ zs : List Nat, (∀ j, j ≠ p / 64 → gt zs j = gt ys j) → gt zs (p / 64) = ((gt ys (p / 64) &&& (18446744073709551615 - (2 ^ W - 1) * 2 ^ (p % 64) % 18446744073709551616)) ||| v * 2 ^ (p % 64) % 18446744073709551616) → (p % 64 + W ≤ 64 ∨ i / 64 ≠ p / 64 + 1) → bitAt zs i = if p ≤ i ∧ i < p + W then v.testBit (i - p) else bitAt ys i := by
    intro zs h1 h2 h3
    unfold bitAt
    by_cases e : i / 64 = p / 64
    · rw [e, h2, first _ (by omega)]
      by_cases c : p ≤ i ∧ i < p + W
      · rw [if_pos (by omega), if_pos c]; congr 1; omega
      · rw [if_neg (by omega), if_neg c]
    · rw [h1 _ e, if_neg (by omega)]
  have g1 : ∀ j, gt (lay1 ys p W v) j = if p / 64 = j then ((gt ys (p / 64) &&& (18446744073709551615 - (2 ^ W - 1) * 2 ^ (p % 64) % 18446744073709551616)) ||| v * 2 ^ (p % 64) % 18446744073709551616) else gt ys j := fun j => gt_set ys _ _ _ hp
  unfold layL
  by_cases c : 64 - p % 64 < W
  · rw [if_pos c]
    have hp1 : p / 64 + 1 < ys.length := by omega
    have g2 : ∀ j, gt ((lay1 ys p W v).set (p / 64 + 1) ((gt ys (p / 64 + 1) &&& (18446744073709551615 - (2 ^ W - 1) / 2 ^ (64 - p % 64))) ||| v / 2 ^ (64 - p % 64))) j = if p / 64 + 1 = j then ((gt ys (p / 64 + 1) &&& (18446744073709551615 - (2 ^ W - 1) / 2 ^ (64 - p % 64))) ||| v / 2 ^ (64 - p % 64)) else gt (lay1 ys p W v) j := fun j => gt_set _ _ _ _ (by rw [length_lay1]; exact hp1)
    by_cases e : i / 64 = p / 64 + 1
    · unfold bitAt
      rw [g2, if_pos e.symm, second _ (by omega)]
      by_cases d : p ≤ i ∧ i < p + W
      · rw [if_pos (by omega), if_pos d]; congr 1; omega
      · rw [if_neg (by omega), if_neg d, e]
    · refine Eq.trans ?_ (at1 (lay1 ys p W v) (fun j hj => by rw [g1, if_neg (by omega)]) (by rw [g1, if_pos rfl]) (.inr e))
      unfold bitAt
      rw [g2, if_neg (by omega)]
  · rw [if_neg c]
    exact at1 (lay1 ys p W v) (fun j hj => by rw [g1, if_neg (by omega)]) (by rw [g1, if_pos rfl]) (.inl (by omega))

theorem fit_layL (ys : List Nat) (hf : Fit ys) (p W v : Nat) (hv : v < 18446744073709551616) : Fit (layL ys p W v) := by
  have h1 : Fit (lay1 ys p W v) := fit_set ys hf _ _ (or_lt _ _ (Nat.lt_of_le_of_lt Nat.and_le_left (hf _)) (Nat.mod_lt _ (by decide)))
  unfold layL
  split
  · exact fit_set _ h1 _ _ (or_lt _ _ (Nat.lt_of_le_of_lt Nat.and_le_left (hf _)) (Nat.lt_of_le_of_lt (Nat.div_le_self _ _) hv))
  · exact h1

theorem length_mkS (l : List Nat) (W k : Nat) : (mkS l W k).length = (l.length * W + 63) / 64 := length_rowOf _ _
theorem fit_mkS (l : List Nat) (W k : Nat) : Fit (mkS l W k) := fit_rowOf _ _
theorem mkS_zero (l : List Nat) (W : Nat) : rowOf (l.length * W) (fun _ => false) = mkS l W 0 := rowOf_congr _ _ _ fun i _ => by simp
theorem mul_next (n W k : Nat) (h : k < n) : k * W + W ≤ n * W := by
  have := Nat.mul_le_mul_right W (show k + 1 ≤ n by omega)
  rw [Nat.add_mul, Nat.one_mul] at this
  exact this
theorem mkS_step (l : List Nat) (W k : Nat) (hW : 1 ≤ W) (hW2 : W ≤ 64) (hk : k < l.length) (hv : gt l k < 2 ^ W) (hv2 : gt l k < 18446744073709551616) : layL (mkS l W k) (k * W) W (gt l k) = mkS l W (k + 1) := by
  have hn := mul_next l.length W k hk
  refine eq_rowOf _ _ _ (fit_layL _ (fit_mkS _ _ _) _ _ _ hv2) (by rw [length_layL, length_mkS]) fun i _ => ?_
  rw [bitAt_layL _ _ _ _ hW hW2 hv (by rw [length_mkS]; omega) i]
  unfold mkS
  rw [bitAt_rowOf, Nat.add_mul, Nat.one_mul]
  by_cases c : k * W ≤ i ∧ i < k * W + W
  · rw [if_pos c]
    have e1 : i / W = k := by
      rw [Nat.div_eq_iff (by omega)]; rw [Nat.mul_comm] at c; constructor <;> (try rw [Nat.mul_comm]) <;> omega
    have e2 : i % W = i - k * W := by
      have := Nat.div_add_mod i W
      rw [e1, Nat.mul_comm] at this
      omega
    rw [e1, e2]
    simp [c.2, show i < l.length * W by omega]
  · rw [if_neg c]
    by_cases d : i < k * W
    · simp [d, show i < k * W + W by omega]
    · simp [d, show ¬ i < k * W + W by omega]
end Bit
end Go.Proofs.YtmphbnmcbonmmaaDoor

namespace Go.Proofs.YtmphbnmcbonmmaaDoor
open Go.RowKit Num Bit
set_option maxRecDepth 100000
set_option linter.unusedVariables false

theorem wide_ok (W : Int) (h0 : 1 ≤ W) (h1 : W ≤ 64) (w : World) :
    Calls Tryd.prog 66 #[.int .i64 W] w fun e w' => e = .returned .nilIface ∧ w' = w := by
  go_enter Tryd.func66, Tryd.ntmps66
  go_wp2
  go_ret
  exact ⟨rfl, rfl⟩
theorem wide_bad (W : Int) (h : W < 1 ∨ 64 < W) (w : World) :
    Calls Tryd.prog 66 #[.int .i64 W] w fun e w' => (∃ s, e = .returned (.iface 107 (.agg #[.int .i64 2, .string s]))) ∧ w' = w := by
  rcases h with h | h
  · go_enter Tryd.func66, Tryd.ntmps66
    go_wp2
    go_ret
    exact ⟨⟨_, rfl⟩, rfl⟩
  · have h' : ¬ W < 1 := by omega
    go_enter Tryd.func66, Tryd.ntmps66
    go_wp2
    go_ret
    exact ⟨⟨_, rfl⟩, rfl⟩
theorem narrow_ok (v W : Int) (h0 : 0 ≤ v) (h1 : v < 18446744073709551616) (h : lenI v ≤ W) (w : World) :
    Calls Tryd.prog 67 #[.int .u64 v, .int .i64 W] w fun e w' => e = .returned .nilIface ∧ w' = w := by
  go_enter Tryd.func67, Tryd.ntmps67
  go_wp2_with (go_at_call 71; refine (len_c _ ?_ ?_ _).mono ?_; exact h0; exact h1; rintro e w' ⟨rfl, rfl⟩)
  go_ret
  exact ⟨rfl, rfl⟩
theorem narrow_bad (v W : Int) (h0 : 0 ≤ v) (h1 : v < 18446744073709551616) (h : W < lenI v) (w : World) :
    Calls Tryd.prog 67 #[.int .u64 v, .int .i64 W] w fun e w' => (∃ s, e = .returned (.iface 107 (.agg #[.int .i64 2, .string s]))) ∧ w' = w := by
  go_enter Tryd.func67, Tryd.ntmps67
  go_wp2_with (go_at_call 71; refine (len_c _ ?_ ?_ _).mono ?_; exact h0; exact h1; rintro e w' ⟨rfl, rfl⟩)
  go_ret
  exact ⟨⟨_, rfl⟩, rfl⟩

/-- A box of four cells. -/
def Box4 (w : World) (b : Nat) (p q r s : Value) : Prop := b < w.heap.size ∧ w.cell? ⟨b, 0, none⟩ = some p ∧ w.cell? ⟨b, 1, none⟩ = some q ∧ w.cell? ⟨b, 2, none⟩ = some r ∧ w.cell? ⟨b, 3, none⟩ = some s
theorem Box4.keep {w w' : World} {b : Nat} {p q r s : Value} (h : Box4 w b p q r s) (hb : Below w.heap.size w w') : Box4 w' b p q r s :=
  ⟨Nat.lt_of_lt_of_le h.1 hb.size, (hb.cell (p := ⟨b, 0, none⟩) h.1).trans h.2.1, (hb.cell (p := ⟨b, 1, none⟩) h.1).trans h.2.2.1, (hb.cell (p := ⟨b, 2, none⟩) h.1).trans h.2.2.2.1, (hb.cell (p := ⟨b, 3, none⟩) h.1).trans h.2.2.2.2⟩
theorem Box4.new {w w' : World} {p q r s : Value} {T : TypeId} (hb : Below (w.alloc (.cells #[p, q, r, s] T)).heap.size (w.alloc (.cells #[p, q, r, s] T)) w') : Box4 w' w.heap.size p q r s ∧ Below w.heap.size w w' := by
  have hz : (w.alloc (.cells #[p, q, r, s] T)).heap.size = w.heap.size + 1 := by simp
  refine ⟨⟨?_, ?_, ?_, ?_, ?_⟩, ?_⟩
  · have := hb.size; omega
  · rw [hb.cell (p := ⟨w.heap.size, 0, none⟩) (by simp)]; simp
  · rw [hb.cell (p := ⟨w.heap.size, 1, none⟩) (by simp)]; simp
  · rw [hb.cell (p := ⟨w.heap.size, 2, none⟩) (by simp)]; simp
  · rw [hb.cell (p := ⟨w.heap.size, 3, none⟩) (by simp)]; simp
  · exact (below_alloc w _).trans (hb.mono (by omega))

theorem mayBe_ok (N W M : Int) (ao : Option Addr) (xs : List Nat) (cap : Nat) (w : World) (hx : Wd w ao xs) (hk : ichk N W M xs = true) :
    Calls Tryd.prog 61 #[.agg #[.int .i64 N, .int .i64 W, .int .i64 M, .slice ao xs.length cap]] w fun e w' => e = .returned .nilIface ∧ Below w.heap.size w w' := by
  have K : ∀ o, Wd (w.alloc o) ao xs := fun o => hx.keep (below_alloc w o)
  obtain ⟨a1, a2, a3, a4, a5, a6, a7, a8⟩ := ichk_out N W M xs hk
  have d1 : (N * W != M) = false := by simpa using a4
  have hm : 0 ≤ N * W := by omega
  have hm2 : N * W ≤ 1048576 := by omega
  clear a4 hk
  go_enter Tryd.func61, Tryd.ntmps61
  go_wp2_with (first | (go_at_call 66; refine (wide_ok _ ?_ ?_ _).mono ?_; exact a1; exact a2; rintro e w' ⟨rfl, rfl⟩) | (go_at_call 18; refine (check_c _ _ _ _ _ (K _)).mono ?_; rintro e w' ⟨rfl, hb⟩; have KK := Box4.new hb; clear hb; obtain ⟨⟨hz, c0, c1, c2, c3⟩, hw⟩ := KK))
  go_ret
  exact ⟨rfl, by assumption⟩

theorem mayBe_bad (N W M : Int) (ao : Option Addr) (xs : List Nat) (cap : Nat) (w : World) (hx : Wd w ao xs) (hk : ichk N W M xs = false) :
    Calls Tryd.prog 61 #[.agg #[.int .i64 N, .int .i64 W, .int .i64 M, .slice ao xs.length cap]] w fun e w' => (∃ s, e = .returned (.iface 107 (.agg #[.int .i64 2, .string s]))) ∧ Below w.heap.size w w' := by
  have K : ∀ o, Wd (w.alloc o) ao xs := fun o => hx.keep (below_alloc w o)
  by_cases c : W < 1 ∨ 64 < W
  · clear hk
    go_enter Tryd.func61, Tryd.ntmps61
    go_wp2_with (go_at_call 66; refine (wide_bad _ ?_ _).mono ?_; exact c; rintro e w' ⟨⟨s, rfl⟩, rfl⟩)
    go_ret
    exact ⟨⟨_, rfl⟩, below_alloc w _⟩
  have a1 : 1 ≤ W := by omega
  have a2 : W ≤ 64 := by omega
  clear c
  cases hc : chk M xs with
  | false =>
    clear hk
    go_enter Tryd.func61, Tryd.ntmps61
    go_wp2_with (first | (go_at_call 66; refine (wide_ok _ ?_ ?_ _).mono ?_; exact a1; exact a2; rintro e w' ⟨rfl, rfl⟩) | (go_at_call 18; refine (check_c _ _ _ _ _ (K _)).mono ?_; rintro e w' ⟨rfl, hb⟩; have KK := Box4.new hb; clear hb; obtain ⟨⟨hz, c0, c1, c2, c3⟩, hw⟩ := KK))
    go_ret
    exact ⟨⟨_, rfl⟩, by assumption⟩
  | true =>
    obtain ⟨m0, m1, _, _⟩ := chk_out M xs hc
    by_cases n0 : N < 0
    · clear hk
      go_enter Tryd.func61, Tryd.ntmps61
      go_wp2_with (first | (go_at_call 66; refine (wide_ok _ ?_ ?_ _).mono ?_; exact a1; exact a2; rintro e w' ⟨rfl, rfl⟩) | (go_at_call 18; refine (check_c _ _ _ _ _ (K _)).mono ?_; rintro e w' ⟨rfl, hb⟩; have KK := Box4.new hb; clear hb; obtain ⟨⟨hz, c0, c1, c2, c3⟩, hw⟩ := KK))
      go_ret
      exact ⟨⟨_, rfl⟩, by assumption⟩
    have n0' : 0 ≤ N := by omega
    by_cases n1 : M < N
    · clear hk n0
      go_enter Tryd.func61, Tryd.ntmps61
      go_wp2_with (first | (go_at_call 66; refine (wide_ok _ ?_ ?_ _).mono ?_; exact a1; exact a2; rintro e w' ⟨rfl, rfl⟩) | (go_at_call 18; refine (check_c _ _ _ _ _ (K _)).mono ?_; rintro e w' ⟨rfl, hb⟩; have KK := Box4.new hb; clear hb; obtain ⟨⟨hz, c0, c1, c2, c3⟩, hw⟩ := KK))
      go_ret
      exact ⟨⟨_, rfl⟩, by assumption⟩
    have n2 : ¬ N * W = M := fun e => by unfold ichk at hk; rw [hc, show decide (1 ≤ W ∧ W ≤ 64 ∧ 0 ≤ N ∧ N * W = M) = true by simp; omega] at hk; cases hk
    have n3 : (N * W != M) = true := by simpa using n2
    have b1 : 0 ≤ N * W := Int.mul_nonneg n0' (by omega)
    have b2 : N * W ≤ 1048576 * 64 := Int.mul_le_mul (by omega) a2 (by omega) (by omega)
    clear hk n0 n2
    go_enter Tryd.func61, Tryd.ntmps61
    go_wp2_with (first | (go_at_call 66; refine (wide_ok _ ?_ ?_ _).mono ?_; exact a1; exact a2; rintro e w' ⟨rfl, rfl⟩) | (go_at_call 18; refine (check_c _ _ _ _ _ (K _)).mono ?_; rintro e w' ⟨rfl, hb⟩; have KK := Box4.new hb; clear hb; obtain ⟨⟨hz, c0, c1, c2, c3⟩, hw⟩ := KK))
    go_ret
    exact ⟨⟨_, rfl⟩, by assumption⟩

theorem icheck_c (N W M : Int) (ao : Option Addr) (xs : List Nat) (cap : Nat) (w : World) (hx : Wd w ao xs) :
    Calls Tryd.prog 46 #[.agg #[.int .i64 N, .int .i64 W, .int .i64 M, .slice ao xs.length cap]] w fun e w' => e = .returned (.bool (ichk N W M xs)) ∧ Below w.heap.size w w' := by
  have K : ∀ o, Wd (w.alloc o) ao xs := fun o => hx.keep (below_alloc w o)
  cases hk : ichk N W M xs with
  | true =>
    go_enter Tryd.func46, Tryd.ntmps46
    go_wp2_with (go_at_call 61; refine (mayBe_ok _ _ _ _ _ _ _ (K _) hk).mono ?_; rintro e w' ⟨rfl, hb⟩; have KK := Box4.new hb; clear hb; obtain ⟨⟨hz, c0, c1, c2, c3⟩, hw⟩ := KK)
    go_ret
    exact ⟨rfl, by assumption⟩
  | false =>
    go_enter Tryd.func46, Tryd.ntmps46
    go_wp2_with (go_at_call 61; refine (mayBe_bad _ _ _ _ _ _ _ (K _) hk).mono ?_; rintro e w' ⟨⟨s, rfl⟩, hb⟩; have KK := Box4.new hb; clear hb; obtain ⟨⟨hz, c0, c1, c2, c3⟩, hw⟩ := KK)
    go_ret
    exact ⟨rfl, by assumption⟩

theorem place_ok (N W M : Int) (ao : Option Addr) (xs : List Nat) (cap : Nat) (i : Int) (w : World) (hx : Wd w ao xs) (hE : igE N W M xs i = 0) :
    Calls Tryd.prog 62 #[.agg #[.int .i64 N, .int .i64 W, .int .i64 M, .slice ao xs.length cap], .int .i64 i] w fun e w' => e = .returned .nilIface ∧ Below w.heap.size w w' := by
  have K : ∀ o, Wd (w.alloc o) ao xs := fun o => hx.keep (below_alloc w o)
  obtain ⟨hk, i0, i1⟩ := igE_zero N W M xs i hE
  clear hE
  go_enter Tryd.func62, Tryd.ntmps62
  go_wp2_with (go_at_call 61; refine (mayBe_ok _ _ _ _ _ _ _ (K _) hk).mono ?_; rintro e w' ⟨rfl, hb⟩; have KK := Box4.new hb; clear hb; obtain ⟨⟨hz, c0, c1, c2, c3⟩, hw⟩ := KK)
  go_ret
  exact ⟨rfl, by assumption⟩

theorem place_bad (N W M : Int) (ao : Option Addr) (xs : List Nat) (cap : Nat) (i : Int) (w : World) (hx : Wd w ao xs) (hE : igE N W M xs i ≠ 0) :
    Calls Tryd.prog 62 #[.agg #[.int .i64 N, .int .i64 W, .int .i64 M, .slice ao xs.length cap], .int .i64 i] w fun e w' => (∃ s, e = .returned (.iface 107 (.agg #[.int .i64 (igE N W M xs i), .string s]))) ∧ Below w.heap.size w w' := by
  have K : ∀ o, Wd (w.alloc o) ao xs := fun o => hx.keep (below_alloc w o)
  cases hk : ichk N W M xs with
  | false =>
    have R : igE N W M xs i = 2 := by unfold igE; rw [if_pos hk]
    rw [R]
    clear hE R
    go_enter Tryd.func62, Tryd.ntmps62
    go_wp2_with (go_at_call 61; refine (mayBe_bad _ _ _ _ _ _ _ (K _) hk).mono ?_; rintro e w' ⟨⟨s, rfl⟩, hb⟩; have KK := Box4.new hb; clear hb; obtain ⟨⟨hz, c0, c1, c2, c3⟩, hw⟩ := KK)
    go_ret
    exact ⟨⟨_, rfl⟩, by assumption⟩
  | true =>
    have hc : i < 0 ∨ N ≤ i := by
      unfold igE at hE
      rw [if_neg (by simp [hk])] at hE
      by_cases h : i < 0 ∨ N ≤ i
      · exact h
      · rw [if_neg h] at hE; exact absurd rfl hE
    have R : igE N W M xs i = 3 := by unfold igE; rw [if_neg (by simp [hk]), if_pos hc]
    rw [R]
    clear hE R
    by_cases i0 : i < 0
    · clear hc
      go_enter Tryd.func62, Tryd.ntmps62
      go_wp2_with (go_at_call 61; refine (mayBe_ok _ _ _ _ _ _ _ (K _) hk).mono ?_; rintro e w' ⟨rfl, hb⟩; have KK := Box4.new hb; clear hb; obtain ⟨⟨hz, c0, c1, c2, c3⟩, hw⟩ := KK)
      go_ret
      exact ⟨⟨_, rfl⟩, by assumption⟩
    · have i1 : N ≤ i := by omega
      clear hc
      go_enter Tryd.func62, Tryd.ntmps62
      go_wp2_with (go_at_call 61; refine (mayBe_ok _ _ _ _ _ _ _ (K _) hk).mono ?_; rintro e w' ⟨rfl, hb⟩; have KK := Box4.new hb; clear hb; obtain ⟨⟨hz, c0, c1, c2, c3⟩, hw⟩ := KK)
      go_ret
      exact ⟨⟨_, rfl⟩, by assumption⟩

theorem iget_ok (N W M : Int) (ao : Option Addr) (xs : List Nat) (cap : Nat) (i : Int) (w : World) (hx : Wd w ao xs) (hf : Fit xs) (hE : igE N W M xs i = 0) :
    Calls Tryd.prog 47 #[.agg #[.int .i64 N, .int .i64 W, .int .i64 M, .slice ao xs.length cap], .int .i64 i] w fun e w' => e = .returned (.tuple #[.int .u64 (igX N W M xs i), .int .i64 (igE N W M xs i)]) ∧ Below w.heap.size w w' := by
  have K : ∀ o, Wd (w.alloc o) ao xs := fun o => hx.keep (below_alloc w o)
  obtain ⟨hk, i0, i1⟩ := igE_zero N W M xs i hE
  obtain ⟨a1, a2, a3, a4, a5, a6, a7, a8⟩ := ichk_out N W M xs hk
  obtain ⟨q1, q2, q3, q4⟩ := get_place N W M i a1 a2 a3 a4 a7 i0 i1
  have R : Hid (slcX M xs (i * W) W = igX N W M xs i ∧ slcE M xs (i * W) W = igE N W M xs i) := get_slice N W M xs i hk i0 i1
  clear a4 q3
  go_enter Tryd.func47, Tryd.ntmps47
  go_wp2_with fail
  refine (place_ok _ _ _ _ _ _ _ _ (K _) hE).mono ?_
  rintro e w1 ⟨rfl, hb⟩
  have KK := Box4.new hb
  clear hb K
  obtain ⟨⟨hz, c0, c1, c2, c3⟩, hw⟩ := KK
  go_wp2_with fail
  refine (slice_c _ _ _ _ _ _ _ (hx.keep hw) hf (by omega) (by omega) (by omega) (by omega)).mono ?_
  rintro e w2 ⟨rfl, hb⟩
  have hw2 := hw.trans (hb.mono hw.size)
  clear hb
  go_wp2
  go_ret2
  exact ⟨ret_pair (congrArg (Value.int IntKind.u64) (congrArg Int.ofNat R.out.1)) (congrArg (Value.int IntKind.i64) R.out.2), hw2⟩

end Go.Proofs.YtmphbnmcbonmmaaDoor

namespace Go.Proofs.YtmphbnmcbonmmaaDoor
open Go.RowKit Num Bit
set_option maxRecDepth 100000
set_option linter.unusedVariables false

end Go.Proofs.YtmphbnmcbonmmaaDoor

namespace Go.Proofs.YtmphbnmcbonmmaaDoor
open Go.RowKit Num Bit
set_option maxRecDepth 100000

theorem Tryd.info46 : (Tryd.prog.info? 46).map (fun i => (i.zero, i.size, i.bytes)) = some (some (.int .u64 0), 1, 8) := by kernel_rfl
theorem Tryd.size46 : (Tryd.prog.info? 46).map (·.size) = some 1 := by kernel_rfl

def wv (ys : List Nat) : List Value := ys.map fun y => Value.int .u64 (y : Nat)
def Own (w : World) (g : Nat) (ys : List Nat) : Prop := w.heap[g]? = some (.cells (wv ys).toArray 46 (0, 0))


theorem own_made {w : World} {base g n : Nat} (h : w.ownsRow base 46 1 (.slice (some ⟨g, 0, none⟩) n n) n (madeCells #[.int .u64 0] n).toList) : w.heap[g]? = some (.cells (wv (List.replicate n 0)).toArray 46 (0, 0)) := by
  obtain ⟨_, h | ⟨g', cap, cur, e, _, hh, _, _, hs, ht⟩⟩ := h
  · simp at h
  · simp only [Value.slice.injEq, Option.some.injEq, Addr.mk.injEq] at e
    obtain ⟨⟨rfl, _, _⟩, _, rfl⟩ := e
    rw [hh]
    have e2 : (madeCells #[.int .u64 0] n).toList = wv (List.replicate n 0) := by
      rw [toList_madeCells_one (.int .u64 0) n, wv, List.map_replicate]
      rfl
    rw [e2] at ht
    have e3 : cur.toList.take (n * 1) = cur.toList := List.take_of_length_le (by simp; omega)
    rw [e3] at ht
    rw [← ht]

theorem splice_cp (xs : List Nat) (n : Nat) : splice (wv (List.replicate n 0)) 0 (wv (xs.take n)) = wv (cp xs n) := by
  unfold splice wv cp
  rw [List.take_zero, List.nil_append, List.map_append, Nat.zero_add, List.length_map, List.length_take, ← List.map_drop, List.drop_replicate]
  congr 3
  omega

theorem Own.set_other {w : World} {g : Nat} {ys : List Nat} (h : Own w g ys) {a : Addr} (ha : g ≠ a.block) (v : Value) : Own (w.setCell a v) g ys :=
  (Below.heap_setCell w a v g ha).trans h

theorem size_set (w : World) (a : Addr) (v : Value) : (w.setCell a v).heap.size = w.heap.size := by simp [World.setCell]


theorem box2_cells {w W w' : World} {a b c d : Value} {T U : TypeId} (hW : W = (w.alloc (.cells #[a, b] T)).alloc (.cells #[c, d] U)) (hb : Below W.heap.size W w') :
    (w'.cell? ⟨w.heap.size, 0, none⟩ = some a ∧ w'.cell? ⟨w.heap.size, 1, none⟩ = some b) ∧ (w'.cell? ⟨w.heap.size + 1, 0, none⟩ = some c ∧ w'.cell? ⟨w.heap.size + 1, 1, none⟩ = some d) ∧
    (w'.frozen? ⟨w.heap.size + 1, 0, none⟩ = false ∧ w'.frozen? ⟨w.heap.size + 1, 1, none⟩ = false) ∧ w.heap.size + 1 < w'.heap.size ∧ Below w.heap.size w w' := by
  have hz : W.heap.size = w.heap.size + 2 := by rw [hW]; simp
  refine ⟨⟨?_, ?_⟩, ⟨?_, ?_⟩, ⟨?_, ?_⟩, ?_, ?_⟩
  · rw [hb.cell (p := ⟨w.heap.size, 0, none⟩) (by simp [hz]), hW]; simp
  · rw [hb.cell (p := ⟨w.heap.size, 1, none⟩) (by simp [hz]), hW]; simp
  · rw [hb.cell (p := ⟨w.heap.size + 1, 0, none⟩) (by simp [hz]), hW]; simp
  · rw [hb.cell (p := ⟨w.heap.size + 1, 1, none⟩) (by simp [hz]), hW]; simp
  · rw [hb.frozen (p := ⟨w.heap.size + 1, 0, none⟩) (by simp [hz]), hW]; simp
  · rw [hb.frozen (p := ⟨w.heap.size + 1, 1, none⟩) (by simp [hz]), hW]; simp
  · have := hb.size; omega
  · have h0 : Below w.heap.size w W := by rw [hW]; exact ((below_alloc w _).alloc (by simp) _)
    exact h0.trans (hb.mono (by omega))

/-- A world in which block g alone has turned. -/
structure Turned (g : Nat) (w w' : World) : Prop where
  os : w'.os = w.os
  tape : w'.tape = w.tape
  output : w'.output = w.output
  size : w'.heap.size = w.heap.size
  block : ∀ k, k ≠ g → w'.heap[k]? = w.heap[k]?

theorem Turned.refl (g : Nat) (w : World) : Turned g w w := ⟨rfl, rfl, rfl, rfl, fun _ _ => rfl⟩
theorem Turned.set {g : Nat} {a w : World} (h : Turned g a w) (off : Nat) (v : Value) : Turned g a (w.setCell ⟨g, off, none⟩ v) :=
  ⟨h.os, h.tape, h.output, (size_set _ _ _).trans h.size, fun k hk => (Below.heap_setCell _ _ _ _ hk).trans (h.block k hk)⟩
theorem Turned.cell {g : Nat} {w w' : World} (h : Turned g w w') {p : Addr} (hp : p.block ≠ g) : w'.cell? p = w.cell? p := World.cell?_of_block (w := w) (h.block p.block hp)
theorem Turned.frozen {g : Nat} {w w' : World} (h : Turned g w w') {p : Addr} (hp : p.block ≠ g) : w'.frozen? p = w.frozen? p := World.frozen?_of_block (w := w) (h.block p.block hp)
theorem Turned.below {g B : Nat} {w w' : World} (h : Turned g w w') (hB : B ≤ g) : Below B w w' :=
  ⟨h.os, h.tape, h.output, by rw [h.size]; exact Nat.le_refl _, fun k hk => h.block k (by omega)⟩

theorem length_wv (ys : List Nat) : (wv ys).length = ys.length := by simp [wv]
theorem Own.cell {w : World} {g : Nat} {ys : List Nat} (h : Own w g ys) (j : Nat) (hj : j < ys.length) : w.cell? ⟨g, j, none⟩ = some (.int .u64 (gt ys j)) := by
  unfold World.cell?
  rw [show w.heap[({ block := g, off := j, spot := none } : Addr).block]? = _ from h]
  show (wv ys).toArray[j]? = _
  rw [List.getElem?_toArray, wv, List.getElem?_map, gt_get ys j hj]
  rfl
theorem Own.frozen {w : World} {g : Nat} {ys : List Nat} (h : Own w g ys) (j : Nat) : w.frozen? ⟨g, j, none⟩ = false := by
  unfold World.frozen?
  rw [show w.heap[({ block := g, off := j, spot := none } : Addr).block]? = _ from h]
  simp
theorem Own.lt {w : World} {g : Nat} {ys : List Nat} (h : Own w g ys) : g < w.heap.size := (Array.getElem?_eq_some_iff.1 h).1
theorem Own.set {w : World} {g : Nat} {ys : List Nat} (h : Own w g ys) (j v : Nat) : Own (w.setCell ⟨g, j, none⟩ (.int .u64 v)) g (ys.set j v) := by
  unfold Own at *
  simp only [World.setCell, Array.getElem?_modify]
  rw [if_pos trivial, h]
  simp [wv, List.map_set]
theorem Own.wd {w : World} {g : Nat} {ys : List Nat} (h : Own w g ys) : Wd w (some ⟨g, 0, none⟩) ys :=
  fun _ => ⟨g, 0, rfl, h.lt, fun i hi => by rw [Nat.zero_add]; exact h.cell i hi⟩
theorem Own.keep {w w' : World} {g : Nat} {ys : List Nat} (h : Own w g ys) (hb : Below w.heap.size w w') : Own w' g ys := (hb.block g h.lt).trans h

theorem bne0 (a : Nat) : ((a : Int) != 0) = decide (a ≠ 0) := by
  rw [Bool.eq_iff_iff, bne_iff_ne, decide_eq_true_eq]; omega

theorem turn_cell {g : Nat} {w w' : World} {o : Obj} (hT : Turned g (w.alloc o).drew w') {b j : Nat} (hb : b < w.heap.size) (hg : b ≠ g) {v : Value} (h : w.cell? ⟨b, j, none⟩ = some v) : w'.cell? ⟨b, j, none⟩ = some v :=
  (hT.cell (p := ⟨b, j, none⟩) hg).trans (((below_alloc w o).drew.cell (p := ⟨b, j, none⟩) hb).trans h)
theorem turn_frozen {g : Nat} {w w' : World} {o : Obj} (hT : Turned g (w.alloc o).drew w') {b j : Nat} (hb : b < w.heap.size) (hg : b ≠ g) {v : Bool} (h : w.frozen? ⟨b, j, none⟩ = v) : w'.frozen? ⟨b, j, none⟩ = v :=
  (hT.frozen (p := ⟨b, j, none⟩) hg).trans (((below_alloc w o).drew.frozen (p := ⟨b, j, none⟩) hb).trans h)
theorem turn_box {g : Nat} {w w' : World} {a b : Value} {T : TypeId} (hT : Turned g (w.alloc (.cells #[a, b] T)).drew w') (hg : w.heap.size ≠ g) : w'.cell? ⟨w.heap.size, 0, none⟩ = some a ∧ w'.cell? ⟨w.heap.size, 1, none⟩ = some b :=
  ⟨(hT.cell (p := ⟨w.heap.size, 0, none⟩) hg).trans (by simp), (hT.cell (p := ⟨w.heap.size, 1, none⟩) hg).trans (by simp)⟩

theorem box_frozen {w w' : World} {a b : Value} {T : TypeId} (hb : Below (w.alloc (.cells #[a, b] T)).heap.size (w.alloc (.cells #[a, b] T)) w') :
    w'.frozen? ⟨w.heap.size, 0, none⟩ = false ∧ w'.frozen? ⟨w.heap.size, 1, none⟩ = false := by
  refine ⟨?_, ?_⟩
  · rw [hb.frozen (p := ⟨w.heap.size, 0, none⟩) (by simp)]; simp
  · rw [hb.frozen (p := ⟨w.heap.size, 1, none⟩) (by simp)]; simp

theorem new_ok (n : Int) (k : Nat) (w : World) (h0 : 0 ≤ n) (h1 : n ≤ 1048576) (hk : (n + 63) / 64 = (k : Int)) :
    Calls Tryd.prog 49 #[.int .i64 n] w fun e w' => ∃ g, e = .returned (.tuple #[.agg #[.int .i64 n, .slice (some ⟨g, 0, none⟩) k k], .int .i64 0]) ∧ w.heap.size ≤ g ∧ g < w'.heap.size ∧ Own w' g (List.replicate k 0) ∧ Below w.heap.size w w' := by
  obtain ⟨i0, hi, hz0, hz1, hz2⟩ := info_parts Tryd.info46
  have hk2 : k ≤ 1048576 := by omega
  go_enter Tryd.func49, Tryd.ntmps49
  go_wp2_with (first | (go_at_call 35; refine (need_c _ ?_ ?_ _).mono ?_; (omega); (omega); rintro e w' ⟨rfl, rfl⟩) | (at_make; refine wpList_make_full _ rfl _ _ 22 rfl (w.heap.size + 1) 46 i0 (.int .u64 0) 1 Tryd.underlying22 hi hz0 hz1 .i64 .i64 _ _ k rfl rfl rfl rfl ?b2 ?b3 ?b4 ?_))
  case b2 => rw [hz2]; omega
  case b3 => unfold maxLen; omega
  case b4 => simp
  intro w1 hown hgr
  have hb1 : Below (w.alloc (.cells #[.int .i64 0, .slice none 0 0] 24)).heap.size (w.alloc (.cells #[.int .i64 0, .slice none 0 0] 24)) w1 := (Below.refl _ _).grown hgr (Nat.le_refl _) (fun k h => by cases h)
  have hO : Own w1 (w.heap.size + 1) (List.replicate k 0) := own_made hown
  obtain ⟨k0, k1, hz, hw⟩ := box_cells hb1
  obtain ⟨k2, k3⟩ := box_frozen hb1
  have hlt := hO.lt
  clear hown hgr hi hz0 hz1 hz2 hb1
  go_wp2
  refine bodyPost_ret (v := .tuple #[.agg #[.int .i64 n, .slice (some ⟨w.heap.size + 1, 0, none⟩) k k], .int .i64 0]) (by simp [results, Tryd.results49, go_sem, k0, k1]) rfl ⟨w.heap.size + 1, rfl, by omega, ?_, ?_, ?_⟩
  · rw [size_set, size_set]; exact hlt
  · exact (hO.set_other (by simp) _).set_other (by simp) _
  · exact (hw.setCell (by simp) _).setCell (by simp) _

theorem new_bad (n : Int) (w : World) (h : n < 0 ∨ 1048576 < n) :
    Calls Tryd.prog 49 #[.int .i64 n] w fun e w' => e = .returned (.tuple #[.agg #[.int .i64 0, .slice none 0 0], .int .i64 2]) ∧ Below w.heap.size w w' := by
  rcases h with h | h
  · go_enter Tryd.func49, Tryd.ntmps49
    go_wp2
    exact bodyPost_ret (v := .tuple #[.agg #[.int .i64 0, .slice none 0 0], .int .i64 2]) (by simp [results, Tryd.results49, go_sem]) rfl ⟨rfl, below_alloc w _⟩
  · have h' : ¬ n < 0 := by omega
    go_enter Tryd.func49, Tryd.ntmps49
    go_wp2
    exact bodyPost_ret (v := .tuple #[.agg #[.int .i64 0, .slice none 0 0], .int .i64 2]) (by simp [results, Tryd.results49, go_sem]) rfl ⟨rfl, below_alloc w _⟩

/-- What a call that makes a row leaves: the words lie in memory of its own, and nothing old has turned. -/
def Out (w w' : World) (ao : Option Addr) (ys : List Nat) (cap : Nat) : Prop := Wd w' ao ys ∧ Fit ys ∧ ys.length ≤ cap ∧ Below w.heap.size w w'

theorem rep_row (n k : Nat) (hk : k = (n + 63) / 64) : List.replicate k 0 = rowOf n (fun _ => false) := by
  refine eq_rowOf n _ _ ?_ (by simp; exact hk) ?_
  · intro i
    unfold gt
    rw [List.getD_eq_getElem?_getD, List.getElem?_replicate]
    split <;> simp
  · intro i _
    unfold bitAt gt
    rw [List.getD_eq_getElem?_getD, List.getElem?_replicate]
    split <;> simp

theorem new_c (n : Int) (w : World) :
    Calls Tryd.prog 49 #[.int .i64 n] w fun e w' => ∃ ao cap, e = .returned (.tuple #[.agg #[.int .i64 (newN n), .slice ao (newL n).length cap], .int .i64 (newE n)]) ∧ Out w w' ao (newL n) cap := by
  by_cases h : n < 0 ∨ 1048576 < n
  · refine (new_bad n w h).mono ?_
    rintro e w' ⟨rfl, hb⟩
    have h1 : newE n = 2 := by unfold newE; rw [if_pos h]
    have h2 : newN n = 0 := by unfold newN; rw [h1]; rfl
    have h3 : newL n = [] := by unfold newL; rw [h1]; rfl
    rw [h1, h2, h3]
    exact ⟨none, 0, rfl, fun h => absurd h (by simp), fun i => by unfold gt; simp, by simp, hb⟩
  · obtain ⟨m, rfl⟩ := Int.eq_ofNat_of_zero_le (show 0 ≤ n by omega)
    refine (new_ok m ((m + 63) / 64) w (by omega) (by omega) (by omega)).mono ?_
    rintro e w' ⟨g, rfl, hg, hlt, hO, hb⟩
    have h1 : newE m = 0 := by unfold newE; rw [if_neg h]
    have h2 : newN m = m := by unfold newN; rw [h1]; rfl
    have h3 : newL m = List.replicate ((m + 63) / 64) 0 := by unfold newL; rw [h1, rep_row m _ rfl]; rfl
    rw [h1, h2, h3]
    refine ⟨some ⟨g, 0, none⟩, (m + 63) / 64, by simp, hO.wd, ?_, by simp, hb⟩
    rw [rep_row m _ rfl]; exact fit_rowOf _ _

end Go.Proofs.YtmphbnmcbonmmaaDoor

namespace Go.Proofs.YtmphbnmcbonmmaaDoor
open Num
namespace Bit

/-- The words while the first q words of the second row are laid behind the first. -/
def joinS (xs ys : List Nat) (m k : Nat) : Nat → List Nat
  | 0 => cp xs k
  | q + 1 => putL (joinS xs ys m k q) (m + q * 64) (gt ys q)

theorem length_joinS (xs ys : List Nat) (m k q : Nat) : (joinS xs ys m k q).length = k := by
  induction q with
  | zero => exact length_cp xs k
  | succ q ih => simp only [joinS]; rw [length_putL, ih]

theorem word_lt (M : Nat) (ys : List Nat) (hf : Fit ys) (hk : chk (M : Int) ys = true) (q : Nat) : gt ys q < 2 ^ (min 64 (M - 64 * q)) := by
  refine Nat.lt_pow_two_of_testBit _ fun i hi => ?_
  by_cases h : i < 64
  · have e := chk_high M ys hk (64 * q + i) (by omega)
    unfold bitAt at e
    rw [show (64 * q + i) / 64 = q by omega, show (64 * q + i) % 64 = i by omega] at e
    exact e
  · exact test_big _ _ (hf q) (by omega)

theorem room_joinS (xs ys : List Nat) (m M k : Nat) (hf : Fit ys) (hk : chk (M : Int) ys = true) (hkk : k = (m + M + 63) / 64) (q : Nat) (hq : q < ys.length) : Room (joinS xs ys m k q) (m + q * 64) (gt ys q) := by
  obtain ⟨_, _, hl, _⟩ := chk_out M ys hk
  exact room_of _ _ _ _ (word_lt M ys hf hk q) (by omega) (by rw [length_joinS]; omega)

theorem joinS_bits (xs ys : List Nat) (m M k : Nat) (hfx : Fit xs) (hf : Fit ys) (hk : chk (M : Int) ys = true) (hkk : k = (m + M + 63) / 64) (q : Nat) (hq : q ≤ ys.length) :
    Fit (joinS xs ys m k q) ∧ ∀ i, bitAt (joinS xs ys m k q) i = (bitAt (cp xs k) i || (decide (m ≤ i ∧ i < m + q * 64) && bitAt ys (i - m))) := by
  induction q with
  | zero =>
    refine ⟨fit_cp xs hfx k, fun i => ?_⟩
    simp only [joinS]
    rw [show decide (m ≤ i ∧ i < m + 0 * 64) = false by simp]
    simp
  | succ q ih =>
    obtain ⟨i1, i2⟩ := ih (by omega)
    have hr := room_joinS xs ys m M k hf hk hkk q (by omega)
    refine ⟨fit_putL _ i1 _ _ (hf q) hr, fun i => ?_⟩
    simp only [joinS]
    rw [bitAt_putL _ _ _ (hf q) hr, i2 i, Bool.or_assoc]
    congr 1
    by_cases c1 : m + q * 64 ≤ i
    · rw [show decide (m ≤ i ∧ i < m + q * 64) = false by simp; omega, show decide (m + q * 64 ≤ i) = true by simpa using c1]
      by_cases c2 : i < m + (q + 1) * 64
      · rw [show decide (m ≤ i ∧ i < m + (q + 1) * 64) = true by simp; omega]
        unfold bitAt
        rw [show (i - m) / 64 = q by omega, show (i - m) % 64 = i - (m + q * 64) by omega]
        simp
      · rw [show decide (m ≤ i ∧ i < m + (q + 1) * 64) = false by simp; omega, test_big _ _ (hf q) (by omega)]
        simp
    · rw [show decide (m + q * 64 ≤ i) = false by simpa using c1]
      by_cases c2 : m ≤ i
      · rw [show decide (m ≤ i ∧ i < m + q * 64) = true by simp; omega, show decide (m ≤ i ∧ i < m + (q + 1) * 64) = true by simp; omega]
        simp
      · rw [show decide (m ≤ i ∧ i < m + q * 64) = false by simp; omega, show decide (m ≤ i ∧ i < m + (q + 1) * 64) = false by simp; omega]
        simp

theorem join_row (m M k : Nat) (xs ys : List Nat) (hfx : Fit xs) (hf : Fit ys) (hkx : chk (m : Int) xs = true) (hk : chk (M : Int) ys = true) (hkk : k = (m + M + 63) / 64) :
    joinS xs ys m k ys.length = rowOf (m + M) (fun j => if j < m then bitAt xs j else bitAt ys (j - m)) := by
  obtain ⟨_, _, hlx, _⟩ := chk_out m xs hkx
  obtain ⟨_, _, hl, _⟩ := chk_out M ys hk
  obtain ⟨h1, h2⟩ := joinS_bits xs ys m M k hfx hf hk hkk ys.length (Nat.le_refl _)
  refine eq_rowOf _ _ _ h1 (by rw [length_joinS]; exact hkk) fun i hi => ?_
  rw [length_joinS] at hi
  rw [h2 i]
  have hb : bitAt (cp xs k) i = bitAt xs i := by unfold bitAt; rw [gt_cp xs k _ (by omega)]
  rw [hb]
  by_cases c : i < m
  · rw [if_pos c, show decide (m ≤ i ∧ i < m + ys.length * 64) = false by simp; omega, show decide (i < m + M) = true by simp; omega]
    simp
  · rw [if_neg c, chk_high m xs hkx i (by omega)]
    by_cases c2 : i < m + M
    · rw [show decide (m ≤ i ∧ i < m + ys.length * 64) = true by simp; omega, show decide (i < m + M) = true by simpa using c2]
      simp
    · rw [chk_high M ys hk (i - m) (by omega)]
      simp
end Bit
end Go.Proofs.YtmphbnmcbonmmaaDoor

namespace Go.Proofs.YtmphbnmcbonmmaaDoor
open Go.RowKit Num Bit
set_option maxRecDepth 100000

def bt (l : List Bool) (i : Nat) : Bool := l.getD i false
/-- A slice of bools that reads as a list. -/
def Bl (w : World) (ao : Option Addr) (l : List Bool) : Prop :=
  0 < l.length → ∃ b off, ao = some ⟨b, off, none⟩ ∧ b < w.heap.size ∧ ∀ i, i < l.length → w.cell? ⟨b, off + i, none⟩ = some (.bool (bt l i))
theorem Bl.keep {w w' : World} {ao : Option Addr} {l : List Bool} (h : Bl w ao l) (hb : Below w.heap.size w w') : Bl w' ao l := by
  intro hi
  obtain ⟨b, off, e, hlt, hc⟩ := h hi
  exact ⟨b, off, e, Nat.lt_of_lt_of_le hlt hb.size, fun i hi => (hb.cell (p := ⟨b, off + i, none⟩) hlt).trans (hc i hi)⟩

def fromS (l : List Bool) (q : Nat) : List Nat := rowOf l.length (fun j => decide (j < q) && bt l j)

theorem length_fromS (l : List Bool) (q : Nat) : (fromS l q).length = (l.length + 63) / 64 := length_rowOf _ _

theorem fit_fromS (l : List Bool) (q : Nat) : Fit (fromS l q) := fit_rowOf _ _

theorem from_step (l : List Bool) (q : Nat) (hq : q < l.length) (hl : l.length ≤ 1048576) (hb : bt l q = true) : (fromS l q).set (q / 64) (gt (fromS l q) (q / 64) ||| 2 ^ (q % 64)) = fromS l (q + 1) := by
  have e := set_row_true l.length (fromS l q) (fit_rowOf _ _) (chk_rowOf _ _ hl) q (by omega)
  rw [e, Int.toNat_natCast]
  refine rowOf_congr _ _ _ fun i hi => ?_
  unfold fromS
  rw [bitAt_rowOf]
  by_cases c : i = q
  · subst c; simp [hb]
  · rw [if_neg c]
    by_cases c2 : i < q
    · simp [hi, c2, show i < q + 1 by omega]
    · simp [c2, show ¬ i < q + 1 by omega]

theorem from_skip (l : List Bool) (q : Nat) (hb : bt l q = false) : fromS l q = fromS l (q + 1) := by
  refine rowOf_congr _ _ _ fun i _ => ?_
  by_cases c : i = q
  · subst c; simp [hb]
  · by_cases c2 : i < q
    · simp [c2, show i < q + 1 by omega]
    · simp [c2, show ¬ i < q + 1 by omega]

def frL (l : List Bool) : List Nat := rowOf l.length (bt l)

theorem fromS_all (l : List Bool) : fromS l l.length = frL l := rowOf_congr _ _ _ fun i hi => by simp [hi]

end Go.Proofs.YtmphbnmcbonmmaaDoor

namespace Go.Proofs.YtmphbnmcbonmmaaDoor
open Go.RowKit Num Bit
set_option maxRecDepth 100000

/-- What the document's put makes of the words. -/
def rputL (ys : List Nat) (p : Nat) (x : Bool) : List Nat :=
  if x then ys.set (p / 64) ((gt ys (p / 64) &&& (18446744073709551615 - 2 ^ (p % 64))) ||| 2 ^ (p % 64)) else ys.set (p / 64) (gt ys (p / 64) &&& (18446744073709551615 - 2 ^ (p % 64)))

theorem rput_row (N : Int) (xs : List Nat) (hf : Fit xs) (hk : chk N xs = true) (n : Nat) (hn : (n : Int) < N) (x : Bool) :
    rputL xs n x = rowOf N.toNat (fun j => if j = n then x else bitAt xs j) := by
  cases x with
  | false => exact set_row_false N xs hf hk n hn
  | true =>
    have e := set_row_true N xs hf hk n hn
    rw [← e]
    unfold rputL
    rw [if_pos rfl]
    congr 1
    refine eq_of_bits _ _ (or_lt _ _ (Nat.lt_of_le_of_lt Nat.and_le_left (hf _)) (two_pow_lt _ (by omega))) (or_lt _ _ (hf _) (two_pow_lt _ (by omega))) fun k hk64 => ?_
    rw [Nat.testBit_or, Nat.testBit_or, Nat.testBit_and, test_not_pow _ _ (by omega) hk64, Nat.testBit_two_pow]
    by_cases c : n % 64 = k <;> simp [c]

theorem from_put (l : List Bool) (q : Nat) (hq : q < l.length) (hl : l.length ≤ 1048576) : rputL (fromS l q) q (bt l q) = fromS l (q + 1) := by
  have e := rput_row l.length (fromS l q) (fit_rowOf _ _) (chk_rowOf _ _ hl) q (by omega) (bt l q)
  rw [e, Int.toNat_natCast]
  refine rowOf_congr _ _ _ fun i hi => ?_
  unfold fromS
  rw [bitAt_rowOf]
  by_cases c : i = q
  · subst c; simp
  · rw [if_neg c]
    by_cases c2 : i < q
    · simp [hi, c2, show i < q + 1 by omega]
    · simp [c2, show ¬ i < q + 1 by omega]

end Go.Proofs.YtmphbnmcbonmmaaDoor

namespace Go.Proofs.YtmphbnmcbonmmaaDoor
open Go.RowKit Num Bit
set_option maxRecDepth 100000
set_option linter.unusedVariables false

theorem Turned.drew {g : Nat} {a w : World} (h : Turned g a w) : Turned g a w.drew := ⟨h.os, h.tape, h.output, h.size, h.block⟩
theorem Own.drew {w : World} {g : Nat} {ys : List Nat} (h : Own w g ys) : Own w.drew g ys := h
theorem mask_n (W m : Nat) (hm : maskI (W : Int) = (m : Int)) (w : World) :
    Calls Tryd.prog 48 #[.int .i64 W] w fun e w' => e = .returned (.int .u64 (m : Int)) ∧ w' = w := by
  have h := mask_c (W : Int) w
  rw [hm] at h
  exact h
theorem mask_is (W : Nat) (h : W ≤ 64) : maskI (W : Int) = ((2 ^ W - 1 : Nat) : Int) := by
  unfold maskI
  rw [Int.toNat_natCast, Nat.min_eq_left h]

set_option maxHeartbeats 2000000 in
theorem lay_c (ys : List Nat) (l g cap p W v : Nat) (w : World) (hl : ys.length = l) (hO : Own w g ys) (hf : Fit ys) (hW : 1 ≤ W) (hW2 : W ≤ 64) (hv : v < 18446744073709551616) (hp : p + W ≤ 64 * ys.length) (hpb : p ≤ 1048576) :
    Calls Tryd.prog 57 #[.slice (some ⟨g, 0, none⟩) l cap, .int .i64 p, .int .i64 W, .int .u64 v] w fun e w' => e = .returned (.tuple #[]) ∧ Own w' g (layL ys p W v) ∧ Turned g w w' := by
  subst hl
  obtain ⟨m, hm⟩ : ∃ m : Nat, m = 2 ^ W - 1 := ⟨_, rfl⟩
  have hmm : Hid (maskI (W : Int) = (m : Int)) := by rw [hm]; exact mask_is W hW2
  have hmb : Hid (m < 18446744073709551616) := by
    have := Nat.pow_le_pow_right (n := 2) (j := 64) (by decide) hW2
    rw [show (2 : Nat) ^ 64 = 18446744073709551616 from rfl] at this
    unfold Hid; omega
  have h1 : p / 64 < ys.length := by omega
  have l1' : (p : Int) / 64 < (ys.length : Int) := by omega
  have e1 := hO.cell (p / 64) h1
  have f1 := hO.frozen (p / 64)
  have A1 : Hid (bits .andNot .u64 (gt ys (p / 64) : Int) ((m * 2 ^ (p % 64) % 18446744073709551616 : Nat) : Int) = ((gt ys (p / 64) &&& (18446744073709551615 - m * 2 ^ (p % 64) % 18446744073709551616) : Nat) : Int)) := u64_andNot_nat _ _ (hf _) (Nat.mod_lt _ (by decide))
  have A2 : Hid (bits .or .u64 ((gt ys (p / 64) &&& (18446744073709551615 - m * 2 ^ (p % 64) % 18446744073709551616) : Nat) : Int) ((v * 2 ^ (p % 64) % 18446744073709551616 : Nat) : Int) = (((gt ys (p / 64) &&& (18446744073709551615 - m * 2 ^ (p % 64) % 18446744073709551616)) ||| v * 2 ^ (p % 64) % 18446744073709551616 : Nat) : Int)) := u64_or_nat _ _ (Nat.lt_of_le_of_lt Nat.and_le_left (hf _)) (Nat.mod_lt _ (by decide))
  have HM : Hid (m = 2 ^ W - 1) := hm
  clear hm
  by_cases c : 64 - p % 64 < W
  · have c' : (64 : Int) - (p : Int) % 64 < (W : Int) := by omega
    have h2 : p / 64 + 1 < ys.length := by omega
    have l2' : (p : Int) / 64 + 1 < (ys.length : Int) := by omega
    have e2 := hO.cell (p / 64 + 1) h2
    have f2 := hO.frozen (p / 64 + 1)
    have B1 : Hid (bits .andNot .u64 (gt ys (p / 64 + 1) : Int) ((m / 2 ^ (64 - p % 64) : Nat) : Int) = ((gt ys (p / 64 + 1) &&& (18446744073709551615 - m / 2 ^ (64 - p % 64)) : Nat) : Int)) := u64_andNot_nat _ _ (hf _) (Nat.lt_of_le_of_lt (Nat.div_le_self _ _) hmb.out)
    have B2 : Hid (bits .or .u64 ((gt ys (p / 64 + 1) &&& (18446744073709551615 - m / 2 ^ (64 - p % 64)) : Nat) : Int) ((v / 2 ^ (64 - p % 64) : Nat) : Int) = (((gt ys (p / 64 + 1) &&& (18446744073709551615 - m / 2 ^ (64 - p % 64))) ||| v / 2 ^ (64 - p % 64) : Nat) : Int)) := u64_or_nat _ _ (Nat.lt_of_le_of_lt Nat.and_le_left (hf _)) (Nat.lt_of_le_of_lt (Nat.div_le_self _ _) hv)
    have R : Hid (layL ys p W v = ((ys.set (p / 64) ((gt ys (p / 64) &&& (18446744073709551615 - m * 2 ^ (p % 64) % 18446744073709551616)) ||| v * 2 ^ (p % 64) % 18446744073709551616)).set (p / 64 + 1) ((gt ys (p / 64 + 1) &&& (18446744073709551615 - m / 2 ^ (64 - p % 64))) ||| v / 2 ^ (64 - p % 64)))) := by
      unfold Hid layL lay1; rw [if_pos c, HM.out]
    clear c
    go_enter Tryd.func57, Tryd.ntmps57
    go_wp2_with (go_at_call 48; refine (mask_n _ _ hmm.out _).mono ?_; rintro e w' ⟨rfl, rfl⟩)
    go_region
    go_wp2
    go_region
    go_wp2
    go_end0
    rw [R.out, shl_nat, shl_nat, A1.out, A2.out, shr_cast, shr_cast, B1.out, B2.out]
    exact ⟨rfl, ((hO.set _ _).set _ _).drew.drew, (((Turned.refl _ _).set _ _).set _ _).drew.drew⟩
  · have c' : ¬ (64 : Int) - (p : Int) % 64 < (W : Int) := by omega
    have R : Hid (layL ys p W v = (ys.set (p / 64) ((gt ys (p / 64) &&& (18446744073709551615 - m * 2 ^ (p % 64) % 18446744073709551616)) ||| v * 2 ^ (p % 64) % 18446744073709551616))) := by
      unfold Hid layL lay1; rw [if_neg c, HM.out]
    clear c
    go_enter Tryd.func57, Tryd.ntmps57
    go_wp2_with (go_at_call 48; refine (mask_n _ _ hmm.out _).mono ?_; rintro e w' ⟨rfl, rfl⟩)
    go_region
    go_wp2
    go_end0
    rw [R.out, shl_nat, shl_nat, A1.out, A2.out]
    exact ⟨rfl, (hO.set _ _).drew, ((Turned.refl _ _).set _ _).drew⟩

theorem box4_two {w W w' : World} {a b c d p q r s : Value} {T U : TypeId} (hW : W = (w.alloc (.cells #[a, b, c, d] T)).alloc (.cells #[p, q, r, s] U)) (hb : Below W.heap.size W w') :
    (w'.cell? ⟨w.heap.size, 0, none⟩ = some a ∧ w'.cell? ⟨w.heap.size, 1, none⟩ = some b ∧ w'.cell? ⟨w.heap.size, 2, none⟩ = some c ∧ w'.cell? ⟨w.heap.size, 3, none⟩ = some d) ∧
    (w'.cell? ⟨w.heap.size + 1, 0, none⟩ = some p ∧ w'.cell? ⟨w.heap.size + 1, 1, none⟩ = some q ∧ w'.cell? ⟨w.heap.size + 1, 2, none⟩ = some r ∧ w'.cell? ⟨w.heap.size + 1, 3, none⟩ = some s) ∧
    (w'.frozen? ⟨w.heap.size + 1, 0, none⟩ = false ∧ w'.frozen? ⟨w.heap.size + 1, 1, none⟩ = false ∧ w'.frozen? ⟨w.heap.size + 1, 2, none⟩ = false ∧ w'.frozen? ⟨w.heap.size + 1, 3, none⟩ = false) ∧ w'.frozen? ⟨w.heap.size, 3, none⟩ = false ∧ w.heap.size + 1 < w'.heap.size ∧ Below w.heap.size w w' := by
  have hz : W.heap.size = w.heap.size + 2 := by rw [hW]; simp
  have C : ∀ (b' o : Nat) (v : Value), b' < w.heap.size + 2 → W.cell? ⟨b', o, none⟩ = some v → w'.cell? ⟨b', o, none⟩ = some v := fun b' o v hb' h => (hb.cell (p := ⟨b', o, none⟩) (by rw [hz]; exact hb')).trans h
  have F : ∀ (b' o : Nat), b' < w.heap.size + 2 → W.frozen? ⟨b', o, none⟩ = false → w'.frozen? ⟨b', o, none⟩ = false := fun b' o hb' h => (hb.frozen (p := ⟨b', o, none⟩) (by rw [hz]; exact hb')).trans h
  refine ⟨⟨?_, ?_, ?_, ?_⟩, ⟨?_, ?_, ?_, ?_⟩, ⟨?_, ?_, ?_, ?_⟩, ?_, ?_, ?_⟩
  · exact C _ _ _ (by omega) (by rw [hW]; simp)
  · exact C _ _ _ (by omega) (by rw [hW]; simp)
  · exact C _ _ _ (by omega) (by rw [hW]; simp)
  · exact C _ _ _ (by omega) (by rw [hW]; simp)
  · exact C _ _ _ (by omega) (by rw [hW]; simp)
  · exact C _ _ _ (by omega) (by rw [hW]; simp)
  · exact C _ _ _ (by omega) (by rw [hW]; simp)
  · exact C _ _ _ (by omega) (by rw [hW]; simp)
  · exact F _ _ (by omega) (by rw [hW]; simp)
  · exact F _ _ (by omega) (by rw [hW]; simp)
  · exact F _ _ (by omega) (by rw [hW]; simp)
  · exact F _ _ (by omega) (by rw [hW]; simp)
  · exact F _ _ (by omega) (by rw [hW]; simp)
  · have := hb.size; omega
  · have h0 : Below w.heap.size w W := by rw [hW]; exact ((below_alloc w _).alloc (by simp) _)
    exact h0.trans (hb.mono (by omega))

theorem splice_all (xs : List Nat) : splice (wv (List.replicate xs.length 0)) 0 (wv xs) = wv xs := by
  have h := splice_cp xs xs.length
  rw [List.take_length, cp_self] at h
  exact h

end Go.Proofs.YtmphbnmcbonmmaaDoor

namespace Go.Proofs.YtmphbnmcbonmmaaDoor
open Go.RowKit Num Bit
set_option maxRecDepth 100000
set_option linter.unusedVariables false

theorem imE_zero (W : Int) (l : List Nat) (h : imE W l = 0) : 1 ≤ W ∧ W ≤ 64 ∧ (l.length : Int) * W ≤ 1048576 ∧ ∀ j, j < l.length → lenI (gt l j) ≤ W := by
  unfold imE at h
  by_cases c : W < 1 ∨ 64 < W ∨ 1048576 < (l.length : Int) * W ∨ ¬ (∀ j, j < l.length → lenI (gt l j) ≤ W)
  · rw [if_pos c] at h; omega
  · refine ⟨by omega, by omega, by omega, ?_⟩
    exact Classical.byContradiction fun hc => c (.inr (.inr (.inr hc)))
theorem imE_bad (W : Int) (l : List Nat) (h : imE W l ≠ 0) : imE W l = 2 := by
  unfold imE at *
  split at h
  · rename_i c; rw [if_pos c]
  · exact absurd rfl h
theorem quo_le (W n : Int) (h0 : 1 ≤ W) : n ≤ 1048576 / W ↔ n * W ≤ 1048576 := Int.le_ediv_iff_mul_le (by omega)
theorem quo_bd (W : Int) (h0 : 1 ≤ W) : 0 ≤ 1048576 / W ∧ 1048576 / W ≤ 1048576 := ⟨Int.ediv_nonneg (by decide) (by omega), Int.ediv_le_self _ (by decide)⟩

set_option maxHeartbeats 1000000 in
theorem makeable_ok (W : Int) (al : Option Addr) (l : List Nat) (cap : Nat) (w : World) (hx : Wd w al l) (hf : Fit l) (hE : imE W l = 0) :
    Calls Tryd.prog 55 #[.int .i64 W, .slice al l.length cap] w fun e w' => e = .returned .nilIface ∧ w' = w := by
  obtain ⟨a1, a2, a3, a4⟩ := imE_zero W l hE
  have q1 : (l.length : Int) ≤ 1048576 / W := (quo_le W _ a1).2 a3
  obtain ⟨q2, q3⟩ := quo_bd W a1
  have hll : l.length ≤ 1048576 := by omega
  have HA : Hid (∀ j, j < l.length → lenI (gt l j) ≤ W) := a4
  clear hE a3 a4
  go_enter Tryd.func55, Tryd.ntmps55
  go_wp2_with (go_at_call 66; refine (wide_ok _ ?_ ?_ _).mono ?_; exact a1; exact a2; rintro e w' ⟨rfl, rfl⟩)
  go_loop [23] (fun i => ∃ k : Nat, k ≤ l.length ∧ i = .int .i64 k) (fun i => l.length - (intOf i).toNat)
  case atStart => exact ⟨0, by omega, rfl⟩
  case round =>
    obtain ⟨k, hk, rfl⟩ := hrel
    by_cases hlt : k < l.length
    · obtain ⟨b, off, rfl, hb, hc⟩ := hx (by omega)
      have e1 := hc k hlt
      have hlt3 : (k : Int) < (l.length : Int) := by omega
      have F1 : Hid ((gt l k : Int) < 18446744073709551616) := by unfold Hid; have := hf k; omega
      clear hc
      go_wp2_with (go_at_call 67; refine (narrow_ok _ _ ?_ ?_ ?_ _).mono ?_; (exact Int.natCast_nonneg _); exact F1.out; (exact HA.out k hlt); rintro e w' ⟨rfl, rfl⟩)
      go_round
      case rel => exact ⟨k + 1, by omega, by go_num⟩
      case measure => simp only [intOf]; omega
    · go_wp2
      go_ret
      exact ⟨rfl, rfl⟩

set_option maxHeartbeats 1000000 in
theorem makeable_bad (W : Int) (al : Option Addr) (l : List Nat) (cap : Nat) (w : World) (hx : Wd w al l) (hf : Fit l) (hE : imE W l ≠ 0) (hcap : l.length ≤ 9223372036854775807) :
    Calls Tryd.prog 55 #[.int .i64 W, .slice al l.length cap] w fun e w' => (∃ s, e = .returned (.iface 107 (.agg #[.int .i64 2, .string s]))) ∧ w' = w := by
  by_cases c : W < 1 ∨ 64 < W
  · clear hE
    go_enter Tryd.func55, Tryd.ntmps55
    go_wp2_with (go_at_call 66; refine (wide_bad _ ?_ _).mono ?_; exact c; rintro e w' ⟨⟨s, rfl⟩, rfl⟩)
    go_ret
    exact ⟨⟨_, rfl⟩, rfl⟩
  have a1 : 1 ≤ W := by omega
  have a2 : W ≤ 64 := by omega
  obtain ⟨q2, q3⟩ := quo_bd W a1
  by_cases c2 : 1048576 / W < (l.length : Int)
  · clear hE
    go_enter Tryd.func55, Tryd.ntmps55
    go_wp2_with (go_at_call 66; refine (wide_ok _ ?_ ?_ _).mono ?_; exact a1; exact a2; rintro e w' ⟨rfl, rfl⟩)
    go_ret
    exact ⟨⟨_, rfl⟩, rfl⟩
  have q1 : (l.length : Int) ≤ 1048576 / W := by omega
  have a3 := (quo_le W _ a1).1 q1
  have hll : l.length ≤ 1048576 := by omega
  have HA : Hid (¬ ∀ j, j < l.length → lenI (gt l j) ≤ W) := fun h => hE (by unfold imE; rw [if_neg]; rintro (h1 | h1 | h1 | h1) <;> first | omega | exact h1 h)
  clear hE c c2 a3
  go_enter Tryd.func55, Tryd.ntmps55
  go_wp2_with (go_at_call 66; refine (wide_ok _ ?_ ?_ _).mono ?_; exact a1; exact a2; rintro e w' ⟨rfl, rfl⟩)
  go_loop [23] (fun i => ∃ k : Nat, k ≤ l.length ∧ i = .int .i64 k ∧ Hid (∀ j, j < k → lenI (gt l j) ≤ W)) (fun i => l.length - (intOf i).toNat)
  case atStart => exact ⟨0, by omega, rfl, fun j hj => absurd hj (by omega)⟩
  case round =>
    obtain ⟨k, hk, rfl, H⟩ := hrel
    by_cases hlt : k < l.length
    · obtain ⟨b, off, rfl, hb, hc⟩ := hx (by omega)
      have e1 := hc k hlt
      have hlt3 : (k : Int) < (l.length : Int) := by omega
      have F1 : Hid ((gt l k : Int) < 18446744073709551616) := by unfold Hid; have := hf k; omega
      clear hc
      by_cases hfit : lenI (gt l k) ≤ W
      · have HF : Hid (lenI (gt l k) ≤ W) := hfit
        clear hfit
        go_wp2_with (go_at_call 67; refine (narrow_ok _ _ ?_ ?_ ?_ _).mono ?_; (exact Int.natCast_nonneg _); exact F1.out; exact HF.out; rintro e w' ⟨rfl, rfl⟩)
        go_round
        case rel =>
          refine ⟨k + 1, by omega, by go_num, fun j hj => ?_⟩
          by_cases e : j = k
          · subst e; exact HF.out
          · exact H.out j (by omega)
        case measure => simp only [intOf]; omega
      · have HF : Hid (W < lenI (gt l k)) := by unfold Hid; omega
        clear hfit
        go_wp2_with (go_at_call 67; refine (narrow_bad _ _ ?_ ?_ ?_ _).mono ?_; (exact Int.natCast_nonneg _); exact F1.out; exact HF.out; rintro e w' ⟨⟨s, rfl⟩, rfl⟩)
        go_ret
        exact ⟨⟨_, rfl⟩, rfl⟩
    · exact absurd (fun j hj => H.out j (by omega)) HA.out

set_option maxHeartbeats 2000000 in
theorem make_ok (W : Nat) (al : Option Addr) (l : List Nat) (cap k : Nat) (w : World) (hx : Wd w al l) (hf : Fit l) (hE : imE (W : Int) l = 0) (hk : k = (l.length * W + 63) / 64) :
    Calls Tryd.prog 41 #[.int .i64 W, .slice al l.length cap] w fun e w' => ∃ g, e = .returned (.tuple #[.agg #[.int .i64 l.length, .int .i64 W, .int .i64 ((l.length : Int) * W), .slice (some ⟨g, 0, none⟩) k k], .int .i64 0]) ∧ w.heap.size ≤ g ∧ Own w' g (mkS l W l.length) ∧ Below w.heap.size w w' := by
  obtain ⟨a1, a2, a3, a4⟩ := imE_zero W l hE
  have K : ∀ o, Wd (w.alloc o) al l := fun o => hx.keep (below_alloc w o)
  have hm : l.length * W ≤ 1048576 := by
    have : ((l.length * W : Nat) : Int) ≤ 1048576 := by rw [Int.natCast_mul]; exact a3
    omega
  have hll : l.length ≤ 1048576 := Nat.le_trans (Nat.le_mul_of_pos_right _ (by omega)) hm
  have hmi : (0 : Int) ≤ (l.length : Int) * (W : Int) := Int.mul_nonneg (by omega) (by omega)
  have HK : Hid (k = (l.length * W + 63) / 64) := hk
  have HK1 : Hid (((l.length : Int) * W + 63) / 64 = (k : Int)) := by unfold Hid; rw [← Int.natCast_mul]; omega
  have HE : Hid (imE (W : Int) l = 0) := hE
  have HA : Hid (∀ j, j < l.length → gt l j < 2 ^ W) := fun j hj => (lenI_fit _ _).1 (a4 j hj)
  clear hk hE a4
  go_enter Tryd.func41, Tryd.ntmps41
  go_wp2_with fail
  refine (makeable_ok _ _ _ _ _ (K _) hf HE.out).mono ?_
  rintro e w' ⟨rfl, hw'⟩
  subst hw'
  go_wp2_with fail
  refine (new_ok _ k _ hmi a3 HK1.out).mono ?_
  rintro e w1 ⟨g, rfl, hg1, hg2, hO, hb⟩
  have KF : w1.frozen? ⟨w.heap.size, 0, none⟩ = false ∧ w1.frozen? ⟨w.heap.size, 1, none⟩ = false ∧ w1.frozen? ⟨w.heap.size, 2, none⟩ = false ∧ w1.frozen? ⟨w.heap.size, 3, none⟩ = false :=
    ⟨(hb.frozen (p := ⟨w.heap.size, 0, none⟩) (by simp)).trans (by simp), (hb.frozen (p := ⟨w.heap.size, 1, none⟩) (by simp)).trans (by simp), (hb.frozen (p := ⟨w.heap.size, 2, none⟩) (by simp)).trans (by simp), (hb.frozen (p := ⟨w.heap.size, 3, none⟩) (by simp)).trans (by simp)⟩
  have KK := Box4.new hb
  have hg0 : w.heap.size + 1 ≤ g := by simpa using hg1
  clear hb hg1 K
  obtain ⟨⟨hz, k0, k1, k2, k3⟩, hw⟩ := KK
  obtain ⟨f0, f1, f2, f3⟩ := KF
  go_wp2
  go_loopw [33] (fun i wr => ∃ q : Nat, q ≤ l.length ∧ i = .int .i64 q ∧ Own wr g (mkS l W q) ∧ (wr.cell? ⟨w1.heap.size, 0, none⟩ = some (.int .i64 ((l.length : Int) * W)) ∧ wr.cell? ⟨w1.heap.size, 1, none⟩ = some (.slice (some ⟨g, 0, none⟩) k k)) ∧ (wr.cell? ⟨w.heap.size, 0, none⟩ = some (.int .i64 0) ∧ wr.cell? ⟨w.heap.size, 1, none⟩ = some (.int .i64 0) ∧ wr.cell? ⟨w.heap.size, 2, none⟩ = some (.int .i64 0) ∧ wr.cell? ⟨w.heap.size, 3, none⟩ = some (.slice none 0 0)) ∧ (wr.frozen? ⟨w.heap.size, 0, none⟩ = false ∧ wr.frozen? ⟨w.heap.size, 1, none⟩ = false ∧ wr.frozen? ⟨w.heap.size, 2, none⟩ = false ∧ wr.frozen? ⟨w.heap.size, 3, none⟩ = false) ∧ Below w.heap.size w wr) (fun i _ => l.length - (intOf i).toNat)
  case atStart =>
    have hb := below_alloc w1 (.cells #[.int .i64 ((l.length : Int) * W), .slice (some ⟨g, 0, none⟩) k k] 24)
    refine ⟨0, Nat.zero_le _, rfl, ?_, ⟨by simp, by simp⟩, ⟨(hb.cell (p := ⟨w.heap.size, 0, none⟩) hz).trans k0, (hb.cell (p := ⟨w.heap.size, 1, none⟩) hz).trans k1, (hb.cell (p := ⟨w.heap.size, 2, none⟩) hz).trans k2, (hb.cell (p := ⟨w.heap.size, 3, none⟩) hz).trans k3⟩, ⟨(hb.frozen (p := ⟨w.heap.size, 0, none⟩) hz).trans f0, (hb.frozen (p := ⟨w.heap.size, 1, none⟩) hz).trans f1, (hb.frozen (p := ⟨w.heap.size, 2, none⟩) hz).trans f2, (hb.frozen (p := ⟨w.heap.size, 3, none⟩) hz).trans f3⟩, hw.trans (hb.mono (by omega))⟩
    rw [← mkS_zero, ← rep_row (l.length * W) k HK.out]
    exact hO.keep hb
  case round =>
    obtain ⟨q, hq, rfl, hOr, ⟨r0, r1⟩, ⟨s0, s1, s2, s3⟩, ⟨t0, t1, t2, t3⟩, hwr⟩ := hrel
    by_cases hlt : q < l.length
    · obtain ⟨b, off, rfl, hb, hc⟩ := hx (by omega)
      have e1 := (hwr.cell (p := ⟨b, off + q, none⟩) hb).trans (hc q hlt)
      have hlt3 : (q : Int) < (l.length : Int) := by omega
      have hn := mul_next l.length W q hlt
      have hqW : q * W ≤ 1048576 := by omega
      have hqi : (0 : Int) ≤ (q : Int) * (W : Int) := Int.mul_nonneg (by omega) (by omega)
      have hqi2 : (q : Int) * (W : Int) ≤ 1048576 := by rw [← Int.natCast_mul]; omega
      have FS : Hid (layL (mkS l W q) (q * W) W (gt l q) = mkS l W (q + 1)) := mkS_step l W q (by omega) (by omega) hlt (HA.out q hlt) (hf q)
      have HLN : Hid ((mkS l W q).length = k) := by unfold Hid; rw [length_mkS]; exact HK.out.symm
      have HP : Hid (q * W + W ≤ 64 * (mkS l W q).length) := by unfold Hid; rw [length_mkS]; omega
      have HC : Hid ((q : Int) * (W : Int) = ((q * W : Nat) : Int)) := (Int.natCast_mul q W).symm
      clear hc hn
      go_wp2_with fail
      rw [HC.out]
      refine (lay_c (mkS l W q) k g k (q * W) W (gt l q) _ HLN.out hOr (fit_mkS _ _ _) (by omega) (by omega) (hf q) HP.out hqW).mono ?_
      rintro e w4 ⟨rfl, hO4, hT⟩
      rw [FS.out] at hO4
      have u0 := (hT.cell (p := ⟨w1.heap.size, 0, none⟩) (show w1.heap.size ≠ g by omega)).trans r0
      have u1 := (hT.cell (p := ⟨w1.heap.size, 1, none⟩) (show w1.heap.size ≠ g by omega)).trans r1
      have x0 := (hT.cell (p := ⟨w.heap.size, 0, none⟩) (show w.heap.size ≠ g by omega)).trans s0
      have x1 := (hT.cell (p := ⟨w.heap.size, 1, none⟩) (show w.heap.size ≠ g by omega)).trans s1
      have x2 := (hT.cell (p := ⟨w.heap.size, 2, none⟩) (show w.heap.size ≠ g by omega)).trans s2
      have x3 := (hT.cell (p := ⟨w.heap.size, 3, none⟩) (show w.heap.size ≠ g by omega)).trans s3
      have y0 := (hT.frozen (p := ⟨w.heap.size, 0, none⟩) (show w.heap.size ≠ g by omega)).trans t0
      have y1 := (hT.frozen (p := ⟨w.heap.size, 1, none⟩) (show w.heap.size ≠ g by omega)).trans t1
      have y2 := (hT.frozen (p := ⟨w.heap.size, 2, none⟩) (show w.heap.size ≠ g by omega)).trans t2
      have y3 := (hT.frozen (p := ⟨w.heap.size, 3, none⟩) (show w.heap.size ≠ g by omega)).trans t3
      have hw4 := hwr.trans (hT.below (B := w.heap.size) (by omega))
      clear hT r0 r1 s0 s1 s2 s3 t0 t1 t2 t3 hwr hOr e1
      go_wp2
      exact ⟨⟨q + 1, by omega, by go_num, hO4, ⟨u0, u1⟩, ⟨x0, x1, x2, x3⟩, ⟨y0, y1, y2, y3⟩, hw4⟩, by simp only [intOf]; omega⟩
    · have hq2 : q = l.length := by omega
      rw [hq2] at hOr
      clear hq2
      go_wp2
      refine bodyPost_ret (v := .tuple #[.agg #[.int .i64 l.length, .int .i64 W, .int .i64 ((l.length : Int) * W), .slice (some ⟨g, 0, none⟩) k k], .int .i64 0]) (by simp [results, Tryd.results41, go_sem, s0, s1, s2, s3]) rfl ⟨g, rfl, by omega, ?_, ?_⟩
      · exact (((hOr.set_other (by simp; omega) _).set_other (by simp; omega) _).set_other (by simp; omega) _).set_other (by simp; omega) _
      · exact (((hwr.setCell (by simp) _).setCell (by simp) _).setCell (by simp) _).setCell (by simp) _

/-- As Out, and the words lie in memory that is new. -/
def OutF (w w' : World) (ao : Option Addr) (ys : List Nat) (cap : Nat) : Prop := Wd w' ao ys ∧ Fit ys ∧ ys.length ≤ cap ∧ (∀ a, ao = some a → w.heap.size ≤ a.block) ∧ Below w.heap.size w w'
theorem Wd.set_other {w : World} {ao : Option Addr} {xs : List Nat} (h : Wd w ao xs) {a : Addr} (hn : ∀ p, ao = some p → p.block ≠ a.block) (v : Value) : Wd (w.setCell a v) ao xs := by
  intro hi
  obtain ⟨b, off, e, hlt, hc⟩ := h hi
  have hne := hn _ e
  refine ⟨b, off, e, by rw [size_set]; exact hlt, fun i hi => ?_⟩
  rw [← hc i hi]
  exact World.cell?_of_block (w := w) (a := ⟨b, off + i, none⟩) (Below.heap_setCell w a v b hne)

end Go.Proofs.YtmphbnmcbonmmaaDoor

namespace Go.Proofs.YtmphbnmcbonmmaaDoor
open Go.RowKit Num Bit
set_option maxRecDepth 100000
set_option linter.unusedVariables false

theorem info4 : (Tryd.prog.info? 4).map (fun i => (i.zero, i.size, i.bytes)) = some (some (.bool false), 1, 1) := by kernel_rfl

def bv (l : List Bool) : List Value := l.map fun b => Value.bool b
/-- The bits of numbers of that width, the first q of them. -/
def mb (l : List Nat) (W q : Nat) : List Bool := (List.range q).map fun j => (gt l (j / W)).testBit (j % W)
theorem length_mb (l : List Nat) (W q : Nat) : (mb l W q).length = q := by simp [mb]
theorem bt_mb (l : List Nat) (W q i : Nat) (h : i < q) : bt (mb l W q) i = (gt l (i / W)).testBit (i % W) := by
  unfold bt mb
  rw [List.getD_eq_getElem?_getD, List.getElem?_map, List.getElem?_range h]
  rfl
theorem mb_succ (l : List Nat) (W i k : Nat) (hk : k < W) : bv (mb l W (i * W + k)) ++ [.bool ((gt l i).testBit k)] = bv (mb l W (i * W + k + 1)) := by
  unfold bv mb
  rw [List.range_succ, List.map_append, List.map_append]
  have e1 : (i * W + k) / W = i := by rw [Nat.mul_comm, Nat.mul_add_div (by omega), Nat.div_eq_of_lt hk]; omega
  have e2 : (i * W + k) % W = k := by rw [Nat.mul_comm, Nat.mul_add_mod, Nat.mod_eq_of_lt hk]
  simp only [List.map_cons, List.map_nil, e1, e2]
theorem mb_row (l : List Nat) (W : Nat) : fromS (mb l W (l.length * W)) (mb l W (l.length * W)).length = mkS l W l.length := by
  unfold fromS mkS
  rw [length_mb]
  refine rowOf_congr _ _ _ fun i hi => ?_
  rw [bt_mb _ _ _ _ hi]
theorem shr_bit (y q : Nat) : (((y : Int) / 2 ^ q).tmod 2 == 1) = y.testBit q := by
  rw [bit_tmod _ _ (Int.natCast_nonneg _), bit_test, Int.toNat_natCast, Bool.eq_iff_iff, beq_iff_eq, decide_eq_true_eq]
  omega
theorem bl_owns {w : World} {base n : Nat} {v : Value} {l : List Bool} (h : w.ownsRow base 4 1 v n (bv l)) : ∃ ao cap, v = .slice ao n cap ∧ Bl w ao l ∧ l.length = n := by
  have hn : l.length = n := by have := h.1; simpa [bv] using this
  obtain ⟨h1, ⟨rfl, rfl⟩ | ⟨g, cap, cur, rfl, e2, hh, r, _, hs, ht⟩⟩ := h
  · exact ⟨none, 0, rfl, fun h => absurd h (by omega), hn⟩
  · refine ⟨some ⟨g, 0, none⟩, cap, rfl, fun _ => ⟨g, 0, rfl, (Array.getElem?_eq_some_iff.1 hh).1, fun i hi => ?_⟩, hn⟩
    unfold World.cell?
    rw [show w.heap[({ block := g, off := 0 + i, spot := none } : Addr).block]? = _ from hh]
    have h3 : (cur.toList.take (n * 1))[i]? = some (.bool (bt l i)) := by
      rw [ht, bv, List.getElem?_map]
      unfold bt
      rw [List.getD_eq_getElem?_getD, List.getElem?_eq_getElem hi]
      rfl
    rw [List.getElem?_take_of_lt (by omega)] at h3
    simpa using h3

/-- What stands while the bits are gathered: the result's box, and that nothing old has turned. -/
structure RB (w wr : World) : Prop where
  c0 : wr.cell? ⟨w.heap.size, 0, none⟩ = some (.int .i64 0)
  c1 : wr.cell? ⟨w.heap.size, 1, none⟩ = some (.int .i64 0)
  c2 : wr.cell? ⟨w.heap.size, 2, none⟩ = some (.int .i64 0)
  c3 : wr.cell? ⟨w.heap.size, 3, none⟩ = some (.slice none 0 0)
  f0 : wr.frozen? ⟨w.heap.size, 0, none⟩ = false
  f1 : wr.frozen? ⟨w.heap.size, 1, none⟩ = false
  f2 : wr.frozen? ⟨w.heap.size, 2, none⟩ = false
  f3 : wr.frozen? ⟨w.heap.size, 3, none⟩ = false
  lt : w.heap.size < wr.heap.size
  bel : Below w.heap.size w wr
theorem RB.new (w : World) : RB w (w.alloc (.cells #[.int .i64 0, .int .i64 0, .int .i64 0, .slice none 0 0] 28)) := ⟨by simp, by simp, by simp, by simp, by simp, by simp, by simp, by simp, by simp, below_alloc _ _⟩
theorem RB.keep {w w1 w2 : World} (h : RB w w1) (hb : Below (w.heap.size + 1) w1 w2) : RB w w2 :=
  ⟨(hb.cell (p := ⟨w.heap.size, 0, none⟩) (by simp)).trans h.c0, (hb.cell (p := ⟨w.heap.size, 1, none⟩) (by simp)).trans h.c1, (hb.cell (p := ⟨w.heap.size, 2, none⟩) (by simp)).trans h.c2, (hb.cell (p := ⟨w.heap.size, 3, none⟩) (by simp)).trans h.c3,
   (hb.frozen (p := ⟨w.heap.size, 0, none⟩) (by simp)).trans h.f0, (hb.frozen (p := ⟨w.heap.size, 1, none⟩) (by simp)).trans h.f1, (hb.frozen (p := ⟨w.heap.size, 2, none⟩) (by simp)).trans h.f2, (hb.frozen (p := ⟨w.heap.size, 3, none⟩) (by simp)).trans h.f3,
   Nat.lt_of_lt_of_le h.lt hb.size, h.bel.trans (hb.mono (by omega))⟩

theorem RB.put {w w1 : World} (h : RB w w1) (p q r s : Value) : Box4 ((((w1.setCell ⟨w.heap.size, 0, none⟩ p).setCell ⟨w.heap.size, 1, none⟩ q).setCell ⟨w.heap.size, 2, none⟩ r).setCell ⟨w.heap.size, 3, none⟩ s) w.heap.size p q r s :=
  ⟨by simp only [size_set]; exact h.lt, by simp [go_sem, h.c0], by simp [go_sem, h.c1], by simp [go_sem, h.c2], by simp [go_sem, h.c3]⟩

end Go.Proofs.YtmphbnmcbonmmaaDoor

namespace Go.Proofs.YtmphbnmcbonmmaaDoor
open Go.RowKit Num Bit
set_option maxRecDepth 100000
set_option linter.unusedVariables false

def lsS (n : Nat) (f : Nat → Nat) (k : Nat) : List Nat := (List.range n).map fun i => if i < k then f i else 0
theorem length_lsS (n : Nat) (f : Nat → Nat) (k : Nat) : (lsS n f k).length = n := by simp [lsS]
theorem gt_lsS (n : Nat) (f : Nat → Nat) (k j : Nat) : gt (lsS n f k) j = if j < n ∧ j < k then f j else 0 := by
  unfold lsS gt
  rw [List.getD_eq_getElem?_getD, List.getElem?_map]
  by_cases h : j < n
  · rw [List.getElem?_range h]
    by_cases c : j < k <;> simp [h, c]
  · rw [List.getElem?_eq_none (by simp; omega)]; simp [h]
theorem lsS_zero (n : Nat) (f : Nat → Nat) : List.replicate n 0 = lsS n f 0 := by
  refine list_ext _ _ (by rw [length_lsS]; simp) fun i hi => ?_
  rw [gt_lsS]
  simp only [List.length_replicate] at hi
  unfold gt
  rw [List.getD_eq_getElem?_getD, List.getElem?_replicate]
  simp [hi]
theorem lsS_step (n : Nat) (f : Nat → Nat) (k : Nat) (h : k < n) : (lsS n f k).set k (f k) = lsS n f (k + 1) := by
  refine list_ext _ _ (by rw [List.length_set, length_lsS, length_lsS]) fun i hi => ?_
  rw [gt_set _ _ _ _ (by rw [length_lsS]; exact h), gt_lsS, gt_lsS]
  rw [List.length_set, length_lsS] at hi
  by_cases c : k = i
  · subst c; simp [h]
  · rw [if_neg c]
    by_cases d : i < k
    · simp [hi, d, show i < k + 1 by omega]
    · simp [d, show ¬ i < k + 1 by omega]
theorem lsS_all (n : Nat) (f : Nat → Nat) : lsS n f n = (List.range n).map f := by
  unfold lsS
  refine List.map_congr_left fun i hi => ?_
  rw [if_pos (List.mem_range.1 hi)]
theorem numAt_lt (n : Nat) (h : n ≤ 64) (xs : List Nat) (i : Nat) : numAt n xs i < 18446744073709551616 := by
  have := numOf_lt n (fun k => bitAt xs (i * n + k))
  have h2 := Nat.pow_le_pow_right (n := 2) (j := 64) (by decide) h
  rw [show (2 : Nat) ^ 64 = 18446744073709551616 from rfl] at h2
  unfold numAt
  omega
theorem fit_map (n : Nat) (f : Nat → Nat) (h : ∀ i, f i < 18446744073709551616) : Fit ((List.range n).map f) := by
  rw [← lsS_all]
  intro i
  rw [gt_lsS]
  split
  · exact h i
  · decide
theorem gt_map (n : Nat) (f : Nat → Nat) (j : Nat) (h : j < n) : gt ((List.range n).map f) j = f j := by
  rw [← lsS_all, gt_lsS, if_pos ⟨h, h⟩]

end Go.Proofs.YtmphbnmcbonmmaaDoor

namespace Go.Proofs.YtmphbnmcbonmmaaDoor
open Go.RowKit Num Bit
set_option maxRecDepth 100000
set_option linter.unusedVariables false

/-! The document's List: what is appended lies in memory of the call's own, with room behind it. -/
def OwnC (w : World) (g : Nat) (ys : List Nat) : Prop := ∃ cur, w.heap[g]? = some (.cells cur 46 (0, 0)) ∧ ys.length ≤ cur.size ∧ ∀ j, j < ys.length → cur[j]? = some (.int .u64 (gt ys j))
theorem OwnC.lt {w : World} {g : Nat} {ys : List Nat} (h : OwnC w g ys) : g < w.heap.size := by obtain ⟨cur, hh, _⟩ := h; exact (Array.getElem?_eq_some_iff.1 hh).1
theorem OwnC.cell {w : World} {g : Nat} {ys : List Nat} (h : OwnC w g ys) (j : Nat) (hj : j < ys.length) : w.cell? ⟨g, j, none⟩ = some (.int .u64 (gt ys j)) := by
  obtain ⟨cur, hh, _, hc⟩ := h
  unfold World.cell?
  rw [show w.heap[({ block := g, off := j, spot := none } : Addr).block]? = _ from hh]
  exact hc j hj
theorem OwnC.frozen {w : World} {g : Nat} {ys : List Nat} (h : OwnC w g ys) (j : Nat) : w.frozen? ⟨g, j, none⟩ = false := by
  obtain ⟨cur, hh, _⟩ := h
  unfold World.frozen?
  rw [show w.heap[({ block := g, off := j, spot := none } : Addr).block]? = _ from hh]
  simp
theorem OwnC.wd {w : World} {g : Nat} {ys : List Nat} (h : OwnC w g ys) : Wd w (some ⟨g, 0, none⟩) ys := fun _ => ⟨g, 0, rfl, h.lt, fun i hi => by rw [Nat.zero_add]; exact h.cell i hi⟩
theorem OwnC.set {w : World} {g : Nat} {ys : List Nat} (h : OwnC w g ys) (j v : Nat) (hj : j < ys.length) : OwnC (w.setCell ⟨g, j, none⟩ (.int .u64 v)) g (ys.set j v) := by
  obtain ⟨cur, hh, hs, hc⟩ := h
  refine ⟨cur.setIfInBounds j (.int .u64 v), ?_, by simpa using hs, fun i hi => ?_⟩
  · simp only [World.setCell, Array.getElem?_modify]
    rw [if_pos trivial, hh]
    rfl
  · rw [List.length_set] at hi
    rw [Array.getElem?_setIfInBounds, gt_set ys j i v hj]
    by_cases e : j = i
    · subst e
      rw [if_pos rfl, if_pos rfl, if_pos (by omega)]
    · rw [if_neg e, if_neg e]; exact hc i hi
theorem OwnC.keep {w w' : World} {g : Nat} {ys : List Nat} (h : OwnC w g ys) (hb : Below w.heap.size w w') : OwnC w' g ys := by
  have hl := h.lt
  obtain ⟨cur, hh, r⟩ := h
  exact ⟨cur, (hb.block g hl).trans hh, r⟩
theorem owns_c {w : World} {base n : Nat} {v : Value} {ys : List Nat} (h : w.ownsRow base 46 1 v n (wv ys)) (hn : 0 < n) : ∃ g cap, v = .slice (some ⟨g, 0, none⟩) n cap ∧ base ≤ g ∧ n ≤ cap ∧ ys.length = n ∧ OwnC w g ys := by
  have hl : ys.length = n := by have := h.1; simpa [wv] using this
  obtain ⟨h1, ⟨rfl, rfl⟩ | ⟨g, cap, cur, rfl, e2, hh, r, _, hs, ht⟩⟩ := h
  · omega
  · refine ⟨g, cap, rfl, e2, r, hl, cur, hh, by omega, fun j hj => ?_⟩
    have h3 : (cur.toList.take (n * 1))[j]? = some (.int .u64 (gt ys j)) := by
      rw [ht, wv, List.getElem?_map, gt_get ys j hj]
      rfl
    rw [List.getElem?_take_of_lt (by omega)] at h3
    simpa using h3
theorem wv_succ (m : Nat) (xs : List Nat) (q : Nat) : wv ((List.range q).map (numAt m xs)) ++ [.int .u64 (numAt m xs q)] = wv ((List.range (q + 1)).map (numAt m xs)) := by
  unfold wv
  rw [List.range_succ, List.map_append, List.map_append]
  rfl
theorem owns_below {w w' : World} {base e n : Nat} {v : Value} {vs : List Value} (h : w.ownsRow base e 1 v n vs) (hb : Below w.heap.size w w') : w'.ownsRow base e 1 v n vs := by
  obtain ⟨h1, h2 | ⟨g, cap, cur, e1, e2, hh, r⟩⟩ := h
  · exact ⟨h1, .inl h2⟩
  · exact ⟨h1, .inr ⟨g, cap, cur, e1, e2, (hb.block g ((Array.getElem?_eq_some_iff.1 hh).1)).trans hh, r⟩⟩

end Go.Proofs.YtmphbnmcbonmmaaDoor

namespace Go.Proofs.YtmphbnmcbonmmaaDoor
open Go.RowKit
namespace Ap
theorem owns_below {w w' : World} {base e n : Nat} {v : Value} {vs : List Value} (h : w.ownsRow base e 1 v n vs) (hb : Below w.heap.size w w') : w'.ownsRow base e 1 v n vs := by
  obtain ⟨h1, h2 | ⟨g, cap, cur, e1, e2, hh, r⟩⟩ := h
  · exact ⟨h1, .inl h2⟩
  · exact ⟨h1, .inr ⟨g, cap, cur, e1, e2, (hb.block g ((Array.getElem?_eq_some_iff.1 hh).1)).trans hh, r⟩⟩
theorem owns_shape {w : World} {base e n : Nat} {v : Value} {vs : List Value} (h : w.ownsRow base e 1 v n vs) : ∃ ao cap, v = .slice ao n cap ∧ n ≤ cap ∧ (∀ k, v.ownBlock = some k → base ≤ k ∧ k < w.heap.size) := by
  have hl := h.lt
  obtain ⟨h1, ⟨rfl, rfl⟩ | ⟨g, cap, cur, rfl, e2, hh, r, _⟩⟩ := h
  · exact ⟨none, 0, rfl, Nat.le_refl _, hl⟩
  · exact ⟨some ⟨g, 0, none⟩, cap, rfl, r, hl⟩
theorem run_append_zero (w : World) (base : Nat) (t ty e : TypeId) (i : TypeInfo) (size : Nat) (ht : Tryd.prog.underlying t = some (.slice e)) (hi : Tryd.prog.info? e = some i)
    (v : Value) (n : Nat) (vs : List Value) (hown : w.ownsRow base e size v n vs) (xa : Option Addr) (c : Nat) :
    (Builtin.append_ #[t, t] ty #[v, .slice xa 0 c]).run Tryd.prog w = .ok v w := by
  have hc := fun ad : Addr => run_firstCells_some (P := Tryd.prog) w i.size 0 ad 0 c [] (by simp) (by simp)
  rcases hown.2 with ⟨rfl, rfl⟩ | ⟨g, cap, cur, rfl, _, _, hnc, _⟩
  · cases xa with
    | none => simp [Builtin.append_, run_underlying ht, sizeOf, typeInfo, hi, Builtin.lenOf, Builtin.firstCells]
    | some ad => simp [Builtin.append_, run_underlying ht, sizeOf, typeInfo, hi, Builtin.lenOf, hc]
  · cases xa with
    | none => simp [Builtin.append_, run_underlying ht, sizeOf, typeInfo, hi, Builtin.lenOf, Builtin.firstCells, hnc, storeCells]
    | some ad => simp [Builtin.append_, run_underlying ht, sizeOf, typeInfo, hi, Builtin.lenOf, hc, hnc, storeCells]

theorem step_append_u {ops : Array Oper} {o : Oper} {a : Act} {w : World} {K : Act → World → Prop} {Q : Exit → Act → World → Prop} {E : Prop} (hgd : o.guard = none) (s x : Operand) (t : TypeId)
    (ho : o.op = .call { callee := .builtin .append, args := #[s, x], argTypes := #[t, t] })
    (base : Nat) (e : TypeId) (i : TypeInfo) (z : Value) (bytes : Nat) (ht : Tryd.prog.underlying t = some (.slice e)) (hi : Tryd.prog.info? e = some i) (hz : i.zero = some z)
    (hsize : i.size = 1) (hby : i.bytes = bytes) (hzs : z.cells.size = 1)
    (v : Value) (n : Nat) (vs : List Value) (hs : a.eval s = v) (hown : w.ownsRow base e 1 v n vs)
    (xa : Option Addr) (m c : Nat) (news : List Value) (hx : a.eval x = .slice xa m c) (hl : news.length = m) (hsrc : 0 < m → ∃ ad, xa = some ad ∧ ∀ j u, news[j]? = some u → w.cell? (ad.add j) = some u) (h1 : ∀ u ∈ news, u.oneCell' = true)
    (h63 : n + m ≤ maxLen) (hbytes : (n + m) * bytes ≤ 140737488355328) (hbase : base ≤ w.heap.size)
    (h : ∀ ao cap w', w'.ownsRow base e 1 (.slice ao (n + m) cap) (n + m) (vs ++ news) → n + m ≤ cap → Below base w w' → (∀ k, (Value.slice ao (n + m) cap).ownBlock = some k → (v.ownBlock = some k ∨ k = w.heap.size) ∧ k < w'.heap.size) → (∀ k, k < w.heap.size → v.ownBlock ≠ some k → w'.heap[k]? = w.heap[k]?) → w.heap.size ≤ w'.heap.size → K (a.put o.dst (.slice ao (n + m) cap)) w') :
    if Region.wanted o (yielded ops a.tmps) = true then Oper.wp Tryd.prog o a w K Q else E := by
  have hw : Region.wanted o (yielded ops a.tmps) = true := by simp [Region.wanted, hgd]
  rw [if_pos hw]
  by_cases hm : m = 0
  · subst hm
    have hn : news = [] := List.eq_nil_of_length_eq_zero hl
    subst hn
    have hr := run_append_zero w base t o.type e i 1 ht hi v n vs hown xa c
    obtain ⟨ao, cap, rfl, hc, hk⟩ := owns_shape hown
    unfold Oper.wp execOp
    simp only [ho, resolve, invoke, builtin, Sem.run_bind, Sem.run_pure, Result.andThen_ok, List.map_toArray, List.map_cons, List.map_nil, hs, hx, hr]
    refine h ao cap w (by simpa using hown) hc (Below.refl _ _) (fun k e => ⟨.inl e, (hk k e).2⟩) (fun _ _ _ => rfl) (Nat.le_refl _)
  · obtain ⟨ad, rfl, hn⟩ := hsrc (by omega)
    refine wp_append_lies w s x t ho base e i z 1 bytes ht hi hz hsize hby hzs (by decide) v n vs hs hown ad m c news hx (by omega) hn h1 (by omega) h63 hbytes hbase w.heap.size rfl ?_
    intro g cap w' o1 o2 o3 o4
    refine h (some ⟨g, 0, none⟩) cap w' o1 ?_ ?_ ?_ ?_ o2.size
    · obtain ⟨_, h | ⟨g', cap', cur, e', _, hh, hle, _⟩⟩ := o1
      · simp at h
      · simp only [Value.slice.injEq] at e'
        omega
    · exact (Below.refl _ _).grown o2 hbase (fun k hk => (hown.lt k hk).1)
    · intro k hk
      simp only [Value.ownBlock, Option.some.injEq] at hk
      subst hk
      exact ⟨o3, o4⟩
    · intro k hk hne
      exact o2.block k hk (fun q => hne q.symm)

/-- An append to a row of the call's own, out of whatever source (nothing among them). -/
theorem wpList_append_u {ops : Array Oper} {rest : List Oper} {o : Oper} {a : Act} {w : World} {Q : Exit → Act → World → Prop} (hgd : o.guard = none) (s x : Operand) (t : TypeId)
    (ho : o.op = .call { callee := .builtin .append, args := #[s, x], argTypes := #[t, t] })
    (base : Nat) (e : TypeId) (i : TypeInfo) (z : Value) (bytes : Nat) (ht : Tryd.prog.underlying t = some (.slice e)) (hi : Tryd.prog.info? e = some i) (hz : i.zero = some z)
    (hsize : i.size = 1) (hby : i.bytes = bytes) (hzs : z.cells.size = 1)
    (v : Value) (n : Nat) (vs : List Value) (hs : a.eval s = v) (hown : w.ownsRow base e 1 v n vs)
    (xa : Option Addr) (m c : Nat) (news : List Value) (hx : a.eval x = .slice xa m c) (hl : news.length = m) (hsrc : 0 < m → ∃ ad, xa = some ad ∧ ∀ j u, news[j]? = some u → w.cell? (ad.add j) = some u) (h1 : ∀ u ∈ news, u.oneCell' = true)
    (h63 : n + m ≤ maxLen) (hbytes : (n + m) * bytes ≤ 140737488355328) (hbase : base ≤ w.heap.size)
    (h : ∀ ao cap w', w'.ownsRow base e 1 (.slice ao (n + m) cap) (n + m) (vs ++ news) → n + m ≤ cap → Below base w w' → wpList Tryd.prog ops Q rest (a.put o.dst (.slice ao (n + m) cap)) w') : wpList Tryd.prog ops Q (o :: rest) a w :=
  wpList_plain hgd fun K hK => by
    have hw : Region.wanted o (yielded ops a.tmps) = true := by simp [Region.wanted, hgd]
    have := step_append_u (ops := ops) (o := o) (a := a) (w := w) (K := K) (Q := Q) (E := True) hgd s x t ho base e i z bytes ht hi hz hsize hby hzs v n vs hs hown xa m c news hx hl hsrc h1 h63 hbytes hbase (fun ao cap w' h1 h2 h3 _ _ _ => hK _ _ (h ao cap w' h1 h2 h3))
    rw [if_pos hw] at this
    exact this

theorem owns_alloc {w : World} {base e n : Nat} {v : Value} {vs : List Value} (h : w.ownsRow base e 1 v n vs) (o : Obj) : (w.alloc o).ownsRow base e 1 v n vs := h.alloc o
/-- Two rows that lie in blocks of their own. -/
def Apart (u v : Value) : Prop := ∀ k, u.ownBlock = some k → v.ownBlock ≠ some k
theorem Apart.symm {u v : Value} (h : Apart u v) : Apart v u := fun k hk hu => h k hu hk
theorem apart_nil (v : Value) : Apart v (.slice none 0 0) := fun k _ h => by cases h
/-- A row stays where another one grows. -/
theorem owns_other {w w' : World} {base e n : Nat} {v u : Value} {vs : List Value} (h : w.ownsRow base e 1 v n vs) (hkeep : ∀ k, k < w.heap.size → u.ownBlock ≠ some k → w'.heap[k]? = w.heap[k]?) (ha : Apart v u) : w'.ownsRow base e 1 v n vs := by
  have hl := h.lt
  obtain ⟨h1, h2 | ⟨g, cap, cur, e1, e2, hh, r⟩⟩ := h
  · exact ⟨h1, .inl h2⟩
  · subst e1
    exact ⟨h1, .inr ⟨g, cap, cur, rfl, e2, (hkeep g (hl g rfl).2 (ha g rfl)).trans hh, r⟩⟩
theorem apart_new {w w' : World} {base e n : Nat} {v u u' : Value} {vs : List Value} (h : w.ownsRow base e 1 v n vs) (hn : ∀ k, u'.ownBlock = some k → (u.ownBlock = some k ∨ k = w.heap.size) ∧ k < w'.heap.size) (ha : Apart v u) : Apart v u' := by
  intro k hk hu
  rcases (hn k hu).1 with c | c
  · exact ha k hk c
  · have := (h.lt k hk).2
    omega
/-- As wpList_append_u, and it tells what stays. -/
theorem wpList_append_x {ops : Array Oper} {rest : List Oper} {o : Oper} {a : Act} {w : World} {Q : Exit → Act → World → Prop} (hgd : o.guard = none) (s x : Operand) (t : TypeId)
    (ho : o.op = .call { callee := .builtin .append, args := #[s, x], argTypes := #[t, t] })
    (base : Nat) (e : TypeId) (i : TypeInfo) (z : Value) (bytes : Nat) (ht : Tryd.prog.underlying t = some (.slice e)) (hi : Tryd.prog.info? e = some i) (hz : i.zero = some z)
    (hsize : i.size = 1) (hby : i.bytes = bytes) (hzs : z.cells.size = 1)
    (v : Value) (n : Nat) (vs : List Value) (hs : a.eval s = v) (hown : w.ownsRow base e 1 v n vs)
    (xa : Option Addr) (m c : Nat) (news : List Value) (hx : a.eval x = .slice xa m c) (hl : news.length = m) (hsrc : 0 < m → ∃ ad, xa = some ad ∧ ∀ j u, news[j]? = some u → w.cell? (ad.add j) = some u) (h1 : ∀ u ∈ news, u.oneCell' = true)
    (h63 : n + m ≤ maxLen) (hbytes : (n + m) * bytes ≤ 140737488355328) (hbase : base ≤ w.heap.size)
    (h : ∀ ao cap w', w'.ownsRow base e 1 (.slice ao (n + m) cap) (n + m) (vs ++ news) → n + m ≤ cap → Below base w w' → (∀ k, (Value.slice ao (n + m) cap).ownBlock = some k → (v.ownBlock = some k ∨ k = w.heap.size) ∧ k < w'.heap.size) → (∀ k, k < w.heap.size → v.ownBlock ≠ some k → w'.heap[k]? = w.heap[k]?) → w.heap.size ≤ w'.heap.size → wpList Tryd.prog ops Q rest (a.put o.dst (.slice ao (n + m) cap)) w') : wpList Tryd.prog ops Q (o :: rest) a w :=
  wpList_plain hgd fun K hK => by
    have hw : Region.wanted o (yielded ops a.tmps) = true := by simp [Region.wanted, hgd]
    have := step_append_u (ops := ops) (o := o) (a := a) (w := w) (K := K) (Q := Q) (E := True) hgd s x t ho base e i z bytes ht hi hz hsize hby hzs v n vs hs hown xa m c news hx hl hsrc h1 h63 hbytes hbase (fun ao cap w' h1 h2 h3 h4 h5 h6 => hK _ _ (h ao cap w' h1 h2 h3 h4 h5 h6))
    rw [if_pos hw] at this
    exact this
end Ap
end Go.Proofs.YtmphbnmcbonmmaaDoor

namespace Go.Proofs.YtmphbnmcbonmmaaDoor
open Go.RowKit
set_option linter.unusedVariables false

/-- Block b holds just these cells, and may be written. -/
def Cel (w : World) (b : Nat) (cs : List Value) (T : TypeId) : Prop := w.heap[b]? = some (.cells cs.toArray T (0, 0))
theorem Cel.lt {w : World} {b : Nat} {cs : List Value} {T : TypeId} (h : Cel w b cs T) : b < w.heap.size := (Array.getElem?_eq_some_iff.1 h).1
theorem Cel.cell {w : World} {b : Nat} {cs : List Value} {T : TypeId} (h : Cel w b cs T) (i : Nat) {v : Value} (hv : cs[i]? = some v) : w.cell? ⟨b, i, none⟩ = some v := by
  unfold World.cell?
  rw [show w.heap[({ block := b, off := i, spot := none } : Addr).block]? = _ from h]
  simpa using hv
theorem Cel.frozen {w : World} {b : Nat} {cs : List Value} {T : TypeId} (h : Cel w b cs T) (i : Nat) : w.frozen? ⟨b, i, none⟩ = false := by
  unfold World.frozen?
  rw [show w.heap[({ block := b, off := i, spot := none } : Addr).block]? = _ from h]
  simp
theorem Cel.set {w : World} {b : Nat} {cs : List Value} {T : TypeId} (h : Cel w b cs T) (i : Nat) (v : Value) : Cel (w.setCell ⟨b, i, none⟩ v) b (cs.set i v) T := by
  unfold Cel at h ⊢
  simp only [World.setCell, Array.getElem?_modify]
  rw [if_pos trivial, h]
  simp
theorem Cel.other {w : World} {b : Nat} {cs : List Value} {T : TypeId} (h : Cel w b cs T) {a : Addr} (ha : b ≠ a.block) (v : Value) : Cel (w.setCell a v) b cs T := (Below.heap_setCell w a v b ha).trans h
theorem Cel.keep {w w' : World} {b base : Nat} {cs : List Value} {T : TypeId} (h : Cel w b cs T) (hb : Below base w w') (hlt : b < base) : Cel w' b cs T := (hb.block b hlt).trans h
theorem Cel.kept {w w' : World} {b : Nat} {cs : List Value} {T : TypeId} (h : Cel w b cs T) (hb : Below w.heap.size w w') : Cel w' b cs T := h.keep hb h.lt
theorem Cel.drew {w : World} {b : Nat} {cs : List Value} {T : TypeId} (h : Cel w b cs T) : Cel w.drew b cs T := h
theorem Cel.new (w : World) (cs : List Value) (T : TypeId) : Cel (w.alloc (.cells cs.toArray T)) w.heap.size cs T := by
  show (w.heap.push (.cells cs.toArray T))[w.heap.size]? = _
  simp
theorem Cel.new2 (w : World) (o : Obj) (cs : List Value) (T : TypeId) : Cel ((w.alloc o).alloc (.cells cs.toArray T)) (w.heap.size + 1) cs T := by
  have := Cel.new (w.alloc o) cs T
  simpa using this
theorem Cel.alloc {w : World} {b : Nat} {cs : List Value} {T : TypeId} (h : Cel w b cs T) (o : Obj) : Cel (w.alloc o) b cs T := h.kept ((Below.refl _ _).alloc (Nat.le_refl _) _)
end Go.Proofs.YtmphbnmcbonmmaaDoor
