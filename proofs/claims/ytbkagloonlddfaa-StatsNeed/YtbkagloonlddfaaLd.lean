/-
  Plain: what codes need at least, and that some need less than one bit more a symbol.
-/
import Derived.Test.YtbkagloonlddfaaLc
namespace Go.Proofs.Ytbkagloonlddfaa.Lg
set_option linter.unusedVariables false
set_option linter.unusedSimpArgs false
set_option maxRecDepth 10000

theorem pow_swap (a b c : Nat) : (a ^ b) ^ c = (a ^ c) ^ b := by rw [← Nat.pow_mul, ← Nat.pow_mul, Nat.mul_comm]
theorem prod_pow2 (l : List (Nat × Nat)) (f g : Nat × Nat → Nat) : prod (l.map fun p => 2 ^ (f p * g p)) = 2 ^ sum (l.map fun p => f p * g p) := by
  induction l with
  | nil => rfl
  | cons p l ih => rw [List.map_cons, List.map_cons, prod, sum, ih, Nat.pow_add]
theorem prod_le {α : Type} (l : List α) (f g : α → Nat) (h : ∀ p ∈ l, f p ≤ g p) : prod (l.map f) ≤ prod (l.map g) := by
  induction l with
  | nil => exact Nat.le_refl _
  | cons p l ih => exact Nat.mul_le_mul (h p (List.mem_cons_self ..)) (ih fun q hq => h q (List.mem_cons_of_mem _ hq))
theorem prod_pow {α : Type} (l : List α) (f : α → Nat) (n : Nat) : prod (l.map f) ^ n = prod (l.map fun p => f p ^ n) := by
  induction l with
  | nil => simp [prod]
  | cons p l ih => rw [List.map_cons, List.map_cons, prod, prod, Nat.mul_pow, ih]
theorem sum_add {α : Type} (l : List α) (f g : α → Nat) : sum (l.map fun p => f p + g p) = sum (l.map f) + sum (l.map g) := by
  induction l with
  | nil => rfl
  | cons p l ih => rw [List.map_cons, List.map_cons, List.map_cons, sum, sum, sum, ih]; omega
theorem sum_mul {α : Type} (l : List α) (f : α → Nat) (n : Nat) : sum (l.map fun p => f p * n) = sum (l.map f) * n := by
  induction l with
  | nil => simp [sum]
  | cons p l ih => rw [List.map_cons, List.map_cons, sum, sum, ih, Nat.add_mul]
theorem sum_congr {α : Type} (l : List α) (f g : α → Nat) (h : ∀ p ∈ l, f p = g p) : sum (l.map f) = sum (l.map g) := by
  rw [List.map_congr_left h]
theorem sum_le {α : Type} (l : List α) (f g : α → Nat) (h : ∀ p ∈ l, f p ≤ g p) : sum (l.map f) ≤ sum (l.map g) := by
  induction l with
  | nil => exact Nat.le_refl _
  | cons p l ih => exact Nat.add_le_add (h p (List.mem_cons_self ..)) (ih fun q hq => h q (List.mem_cons_of_mem _ hq))
/-- What is said by powers of counts, said by logarithms. -/
theorem by_logs_e (E : Nat) (lo : ∀ x, x ≠ 0 → x ≤ 1073741824 → 2 ^ lg x ≤ x ^ E) (up : ∀ x, x ≠ 0 → x ≤ 1073741824 → x ^ E ≤ 2 ^ (lg x + 2)) (l : List (Nat × Nat)) (N K : Nat) (hN : N ≠ 0) (hN2 : N ≤ 1073741824) (hc : ∀ p ∈ l, p.1 ≠ 0 ∧ p.1 ≤ 1073741824) (h : N ^ N ≤ 2 ^ K * own l) : N * lg N ≤ E * K + sum (l.map fun p => p.1 * (lg p.1 + 2)) := by
  have h1 : 2 ^ (N * lg N) ≤ (N ^ N) ^ E := by
    rw [pow_swap, Nat.mul_comm N, Nat.pow_mul]
    exact Nat.pow_le_pow_left (lo N hN hN2) _
  have h2 : own l ^ E ≤ 2 ^ sum (l.map fun p => p.1 * (lg p.1 + 2)) := by
    unfold own
    rw [prod_pow, ← prod_pow2]
    refine prod_le l _ _ fun p hp => ?_
    obtain ⟨a, b⟩ := hc p hp
    rw [pow_swap, Nat.mul_comm p.1 (lg p.1 + 2), Nat.pow_mul]
    exact Nat.pow_le_pow_left (up _ a b) _
  have h3 := Nat.pow_le_pow_left h E
  rw [Nat.mul_pow, ← Nat.pow_mul 2 K] at h3
  have h4 := Nat.le_trans h1 (Nat.le_trans h3 (Nat.mul_le_mul_left _ h2))
  rw [← Nat.pow_add, Nat.mul_comm K] at h4
  exact (Nat.pow_le_pow_iff_right (by decide)).1 h4
theorem by_logs (l : List (Nat × Nat)) (N K : Nat) (hN : N ≠ 0) (hN2 : N ≤ 1073741824) (hc : ∀ p ∈ l, p.1 ≠ 0 ∧ p.1 ≤ 1073741824) (h : N ^ N ≤ 2 ^ K * own l) : N * lg N ≤ 65536 * K + sum (l.map fun p => p.1 * (lg p.1 + 2)) := by_logs_e 65536 (fun x a b => @lg_low x a b) (fun x a b => @lg_up x a b) l N K hN hN2 hc h
/-- Codes whose lengths fit need at least the entropy, but for two parts a symbol. -/
theorem need (l : List (Nat × Nat)) (N : Nat) (eN : N = fst l) (hN2 : N ≤ 1073741824) (hc : ∀ p ∈ l, p.1 ≠ 0) (h40 : ∀ p ∈ l, p.2 ≤ 40) (hk : sum (l.map fun p => 2 ^ (40 - p.2)) ≤ 2 ^ 40) : N * lg N ≤ 65536 * sum (l.map fun p => p.1 * p.2) + sum (l.map fun p => p.1 * lg p.1) + 2 * N := by
  by_cases h0 : N = 0
  · subst h0; rw [Nat.zero_mul]; exact Nat.zero_le _
  have hle : ∀ m : List (Nat × Nat), ∀ p ∈ m, p.1 ≤ fst m := by
    intro m
    induction m with
    | nil => exact fun p hp => absurd hp (by simp)
    | cons q m ih =>
      intro p hp
      show p.1 ≤ q.1 + fst m
      rcases List.mem_cons.1 hp with rfl | hp
      · omega
      · have := ih p hp; omega
  have g := gibbs (l.map fun p => (p.1, 2 ^ (40 - p.2))) (fun q hq => by
    obtain ⟨p, _, rfl⟩ := List.mem_map.1 hq
    exact Nat.two_pow_pos _)
  have e1 : fst (l.map fun p => (p.1, 2 ^ (40 - p.2))) = N := by rw [eN]; unfold fst; rw [List.map_map]; rfl
  have e2 : snd (l.map fun p => (p.1, 2 ^ (40 - p.2))) = sum (l.map fun p => 2 ^ (40 - p.2)) := by unfold snd; rw [List.map_map]; rfl
  have e3 : pw (l.map fun p => (p.1, 2 ^ (40 - p.2))) = 2 ^ sum (l.map fun p => (40 - p.2) * p.1) := by
    unfold pw
    rw [List.map_map, ← prod_pow2]
    congr 1
    refine List.map_congr_left fun p _ => ?_
    show (2 ^ (40 - p.2)) ^ p.1 = _
    rw [← Nat.pow_mul]
  have e4 : own (l.map fun p => (p.1, 2 ^ (40 - p.2))) = own l := by unfold own; rw [List.map_map]; rfl
  rw [e1, e2, e3, e4] at g
  have g2 : N ^ N * 2 ^ sum (l.map fun p => (40 - p.2) * p.1) ≤ (2 ^ 40) ^ N * own l := Nat.le_trans g (Nat.mul_le_mul_right _ (Nat.pow_le_pow_left hk _))
  have e5 : sum (l.map fun p => (40 - p.2) * p.1) + sum (l.map fun p => p.1 * p.2) = 40 * N := by
    rw [← sum_add, eN]
    unfold fst
    rw [Nat.mul_comm, ← sum_mul]
    refine sum_congr l _ _ fun p hp => ?_
    have := h40 p hp
    rw [Nat.mul_comm p.1 p.2, ← Nat.add_mul, show 40 - p.2 + p.2 = 40 by omega, Nat.mul_comm]
  have g3 : N ^ N ≤ 2 ^ sum (l.map fun p => p.1 * p.2) * own l := by
    refine Nat.le_of_mul_le_mul_left (c := 2 ^ sum (l.map fun p => (40 - p.2) * p.1)) ?_ (Nat.two_pow_pos _)
    rw [← Nat.mul_assoc, ← Nat.pow_add, e5, Nat.pow_mul, Nat.mul_comm]
    exact g2
  have := by_logs l N _ h0 hN2 (fun p hp => ⟨hc p hp, by have := hle l p hp; omega⟩) g3
  have e6 : sum (l.map fun p => p.1 * (lg p.1 + 2)) = sum (l.map fun p => p.1 * lg p.1) + 2 * N := by
    rw [eN]
    unfold fst
    rw [Nat.mul_comm 2, ← sum_mul, ← sum_add]
    exact sum_congr l _ _ fun p _ => by rw [Nat.mul_add]
  rw [e6] at this
  omega
theorem lg_two_pow {c : Nat} (hc : c ≠ 0) : ∀ k, c * 2 ^ k ≤ 1073741824 → lg (c * 2 ^ k) = lg c + 65536 * k
  | 0, _ => by simp
  | k + 1, h => by
    have hp := Nat.two_pow_pos k
    have h1 : c * 2 ^ k ≤ 536870912 := by rw [Nat.pow_succ, ← Nat.mul_assoc] at h; omega
    rw [Nat.pow_succ, ← Nat.mul_assoc, Nat.mul_comm _ 2, lg_two (by have := Nat.mul_pos (Nat.pos_of_ne_zero hc) hp; omega) h1, lg_two_pow hc k (by omega)]
    omega
/-- The least length with which c of N go into one. -/
theorem shan {c N : Nat} (hc : c ≠ 0) (h : c ≤ N) (hN : N ≤ 1073741824) : ∃ k, k ≤ 30 ∧ N ≤ c * 2 ^ k ∧ 65536 * k ≤ lg N - lg c + 65536 := by
  have ex : ∃ k, N ≤ c * 2 ^ k := ⟨30, Nat.le_trans hN (by have := Nat.mul_le_mul_right (2 ^ 30) (Nat.pos_of_ne_zero hc); simpa using this)⟩
  have : ∀ n, N ≤ c * 2 ^ n → ∃ k, k ≤ n ∧ N ≤ c * 2 ^ k ∧ (k = 0 ∨ c * 2 ^ (k - 1) < N) := by
    intro n
    induction n with
    | zero => exact fun h => ⟨0, Nat.le_refl _, h, .inl rfl⟩
    | succ n ih =>
      intro h
      by_cases q : N ≤ c * 2 ^ n
      · obtain ⟨k, a, b, d⟩ := ih q
        exact ⟨k, by omega, b, d⟩
      · exact ⟨n + 1, Nat.le_refl _, h, .inr (by rw [Nat.add_sub_cancel]; omega)⟩
  obtain ⟨k, a, b, d⟩ := this 30 (Nat.le_trans hN (by have := Nat.mul_le_mul_right (2 ^ 30) (Nat.pos_of_ne_zero hc); simpa using this))
  refine ⟨k, a, b, ?_⟩
  rcases d with rfl | d
  · omega
  · by_cases hk : k = 0
    · subst hk; omega
    · have e := lg_two_pow hc (k - 1) (by omega)
      have m := lg_le (x := c * 2 ^ (k - 1)) (y := N) (by have := Nat.mul_pos (Nat.pos_of_ne_zero hc) (Nat.two_pow_pos (k - 1)); omega) (Nat.le_of_lt d)
      omega
end Go.Proofs.Ytbkagloonlddfaa.Lg
