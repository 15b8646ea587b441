/-
  Plain: symbols by the one ahead need no more than without; a symbol more needs no less.
-/
import Derived.Test.YtbkagloonlddfaaLd
namespace Go.Proofs.Ytbkagloonlddfaa.Lg
set_option linter.unusedVariables false
set_option linter.unusedSimpArgs false
set_option maxRecDepth 10000

theorem prod_mul {α : Type} (l : List α) (f g : α → Nat) : prod (l.map fun p => f p * g p) = prod (l.map f) * prod (l.map g) := by
  induction l with
  | nil => rfl
  | cons p l ih =>
    rw [List.map_cons, List.map_cons, List.map_cons, prod, prod, prod, ih]
    simp only [Nat.mul_assoc, Nat.mul_comm, Nat.mul_left_comm]
theorem prod_two {α : Type} (l : List α) (f g : α → Nat) : prod (l.map fun p => 2 ^ (f p * g p)) = 2 ^ sum (l.map fun p => f p * g p) := by
  induction l with
  | nil => rfl
  | cons p l ih => rw [List.map_cons, List.map_cons, prod, sum, ih, Nat.pow_add]
/-- Cells of a table: how many are in it, in its row, in its column. -/
theorem cells_pow (l : List (Nat × Nat × Nat)) (M : Nat) (eM : M = sum (l.map fun p => p.1)) (hM : M ≠ 0) (h : ∀ p ∈ l, 0 < p.2.1 ∧ 0 < p.2.2) (hs : sum (l.map fun p => p.2.1 * p.2.2) ≤ M * M) : prod (l.map fun p => p.2.1 ^ p.1) * prod (l.map fun p => p.2.2 ^ p.1) ≤ M ^ M * prod (l.map fun p => p.1 ^ p.1) := by
  have g := gibbs (l.map fun p => (p.1, p.2.1 * p.2.2)) (fun q hq => by
    obtain ⟨p, hp, rfl⟩ := List.mem_map.1 hq
    exact Nat.mul_pos (h p hp).1 (h p hp).2)
  have e1 : fst (l.map fun p => (p.1, p.2.1 * p.2.2)) = M := by rw [eM]; unfold fst; rw [List.map_map]; rfl
  have e2 : snd (l.map fun p => (p.1, p.2.1 * p.2.2)) = sum (l.map fun p => p.2.1 * p.2.2) := by unfold snd; rw [List.map_map]; rfl
  have e3 : pw (l.map fun p => (p.1, p.2.1 * p.2.2)) = prod (l.map fun p => p.2.1 ^ p.1) * prod (l.map fun p => p.2.2 ^ p.1) := by
    unfold pw
    rw [List.map_map, ← prod_mul]
    congr 1
    refine List.map_congr_left fun p _ => ?_
    show (p.2.1 * p.2.2) ^ p.1 = _
    rw [Nat.mul_pow]
  have e4 : own (l.map fun p => (p.1, p.2.1 * p.2.2)) = prod (l.map fun p => p.1 ^ p.1) := by unfold own; rw [List.map_map]; rfl
  rw [e1, e2, e3, e4] at g
  have g2 := Nat.le_trans g (Nat.mul_le_mul_right _ (Nat.pow_le_pow_left hs M))
  rw [Nat.mul_pow, Nat.mul_assoc] at g2
  exact Nat.le_of_mul_le_mul_left g2 (Nat.pow_pos (Nat.pos_of_ne_zero hM))
theorem cells_e (E : Nat) (lo : ∀ x, x ≠ 0 → x ≤ 1073741824 → 2 ^ lg x ≤ x ^ E) (up : ∀ x, x ≠ 0 → x ≤ 1073741824 → x ^ E ≤ 2 ^ (lg x + 2)) (l : List (Nat × Nat × Nat)) (M : Nat) (hM : M ≠ 0) (hM2 : M ≤ 1073741824) (h : ∀ p ∈ l, (p.1 ≠ 0 ∧ p.1 ≤ M) ∧ (p.2.1 ≠ 0 ∧ p.2.1 ≤ M) ∧ (p.2.2 ≠ 0 ∧ p.2.2 ≤ M)) (hp : prod (l.map fun p => p.2.1 ^ p.1) * prod (l.map fun p => p.2.2 ^ p.1) ≤ M ^ M * prod (l.map fun p => p.1 ^ p.1)) : sum (l.map fun p => p.1 * lg p.2.1) + sum (l.map fun p => p.1 * lg p.2.2) ≤ M * (lg M + 2) + sum (l.map fun p => p.1 * (lg p.1 + 2)) := by
  have a1 : 2 ^ sum (l.map fun p => p.1 * lg p.2.1) ≤ prod (l.map fun p => p.2.1 ^ p.1) ^ E := by
    rw [prod_pow, ← prod_two]
    refine prod_le l _ _ fun p q => ?_
    rw [pow_swap, Nat.mul_comm p.1, Nat.pow_mul]
    exact Nat.pow_le_pow_left (lo _ (h p q).2.1.1 (Nat.le_trans (h p q).2.1.2 hM2)) _
  have a2 : 2 ^ sum (l.map fun p => p.1 * lg p.2.2) ≤ prod (l.map fun p => p.2.2 ^ p.1) ^ E := by
    rw [prod_pow, ← prod_two]
    refine prod_le l _ _ fun p q => ?_
    rw [pow_swap, Nat.mul_comm p.1, Nat.pow_mul]
    exact Nat.pow_le_pow_left (lo _ (h p q).2.2.1 (Nat.le_trans (h p q).2.2.2 hM2)) _
  have a3 : prod (l.map fun p => p.1 ^ p.1) ^ E ≤ 2 ^ sum (l.map fun p => p.1 * (lg p.1 + 2)) := by
    rw [prod_pow, ← prod_two]
    refine prod_le l _ _ fun p q => ?_
    rw [pow_swap, Nat.mul_comm p.1 (lg p.1 + 2), Nat.pow_mul]
    exact Nat.pow_le_pow_left (up _ (h p q).1.1 (Nat.le_trans (h p q).1.2 hM2)) _
  have a4 : (M ^ M) ^ E ≤ 2 ^ (M * (lg M + 2)) := by
    rw [pow_swap, Nat.mul_comm M (lg M + 2), Nat.pow_mul]
    exact Nat.pow_le_pow_left (up _ hM hM2) _
  have b := Nat.pow_le_pow_left hp E
  rw [Nat.mul_pow, Nat.mul_pow] at b
  have c := Nat.le_trans (Nat.mul_le_mul a1 a2) (Nat.le_trans b (Nat.mul_le_mul a4 a3))
  rw [← Nat.pow_add, ← Nat.pow_add] at c
  exact (Nat.pow_le_pow_iff_right (by decide)).1 c
/-- Symbols by the one ahead need no more than without, but for four parts each. -/
theorem cells (l : List (Nat × Nat × Nat)) (M : Nat) (eM : M = sum (l.map fun p => p.1)) (hM : M ≠ 0) (hM2 : M ≤ 1073741824) (h : ∀ p ∈ l, (p.1 ≠ 0 ∧ p.1 ≤ M) ∧ (p.2.1 ≠ 0 ∧ p.2.1 ≤ M) ∧ (p.2.2 ≠ 0 ∧ p.2.2 ≤ M)) (hs : sum (l.map fun p => p.2.1 * p.2.2) ≤ M * M) : sum (l.map fun p => p.1 * lg p.2.1) + sum (l.map fun p => p.1 * lg p.2.2) ≤ M * lg M + sum (l.map fun p => p.1 * lg p.1) + 4 * M := by
  have hp := cells_pow l M eM hM (fun p q => ⟨Nat.pos_of_ne_zero (h p q).2.1.1, Nat.pos_of_ne_zero (h p q).2.2.1⟩) hs
  have := cells_e 65536 (fun x a b => @lg_low x a b) (fun x a b => @lg_up x a b) l M hM hM2 h hp
  have e6 : sum (l.map fun p => p.1 * (lg p.1 + 2)) = sum (l.map fun p => p.1 * lg p.1) + M * 2 := by
    rw [eM, ← sum_mul, ← sum_add]
    exact sum_congr l _ _ fun p _ => by rw [Nat.mul_add]
  rw [e6, Nat.mul_add] at this
  omega
theorem grow_one (b : Nat) : (b + 1) ^ (b + 1) * (b + 1) ^ (b + 1) ≤ (b + 2) ^ (b + 2) * b ^ b := by
  have g := gibbs2 (b + 2) b (b + 1) (b + 1)
  rw [show b + 2 + b = (b + 1) + (b + 1) by omega] at g
  have hp : 0 < (b + 1 + (b + 1)) ^ (b + 1 + (b + 1)) := Nat.pow_pos (by omega)
  have g2 := Nat.le_of_mul_le_mul_left g hp
  rw [← Nat.pow_add] at g2 ⊢
  rwa [show b + 1 + (b + 1) = b + 2 + b by omega]
/-- A symbol more among more ones needs more. -/
theorem grow (a : Nat) : ∀ d, (a + 1) ^ (a + 1) * (a + d) ^ (a + d) ≤ (a + d + 1) ^ (a + d + 1) * a ^ a
  | 0 => Nat.le_refl _
  | d + 1 => by
    have ih := grow a d
    have g := grow_one (a + d)
    have hp : 0 < (a + d + 1) ^ (a + d + 1) := Nat.pow_pos (by omega)
    have hq : 0 < (a + d) ^ (a + d) := by
      by_cases e : a + d = 0
      · rw [e]; decide
      · exact Nat.pow_pos (Nat.pos_of_ne_zero e)
    show (a + 1) ^ (a + 1) * (a + d + 1) ^ (a + d + 1) ≤ (a + d + 2) ^ (a + d + 2) * a ^ a
    have m := Nat.mul_le_mul ih g
    refine Nat.le_of_mul_le_mul_right (c := (a + d) ^ (a + d) * (a + d + 1) ^ (a + d + 1)) ?_ (Nat.mul_pos hq hp)
    refine Nat.le_trans (Nat.le_of_eq ?_) (Nat.le_trans m (Nat.le_of_eq ?_))
    · simp only [Nat.mul_assoc, Nat.mul_comm, Nat.mul_left_comm]
    · simp only [Nat.mul_assoc, Nat.mul_comm, Nat.mul_left_comm]
end Go.Proofs.Ytbkagloonlddfaa.Lg
