/-
  Plain: the logarithm, bit by bit: it rises, doubles add one, powers of two have no more.
-/
namespace Go.Proofs.Ytbkagloonlddfaa.Lg
set_option linter.unusedVariables false

/-- One bit more: what is left, and the bits so far. -/
def step (s : Nat × Nat) : Nat × Nat := if 4294967296 ≤ s.1 * s.1 / 2147483648 then (s.1 * s.1 / 2147483648 / 2, 2 * s.2 + 1) else (s.1 * s.1 / 2147483648, 2 * s.2)
def run : Nat → Nat × Nat → Nat × Nat
  | 0, s => s
  | k + 1, s => run k (step s)
def ln (x : Nat) : Nat := Nat.log2 x
def lg (x : Nat) : Nat := (run 16 (x * 2 ^ (31 - ln x), ln x)).2
/-- What is left is from 2^31 on, below 2^32. -/
def In (m : Nat) : Prop := 2147483648 ≤ m ∧ m < 4294967296
theorem in_step {s : Nat × Nat} (h : In s.1) : In (step s).1 := by
  obtain ⟨h1, h2⟩ := h
  have a1 : 2147483648 * 2147483648 ≤ s.1 * s.1 := Nat.mul_le_mul h1 h1
  have a2 : s.1 * s.1 ≤ 4294967295 * 4294967295 := Nat.mul_le_mul (by omega) (by omega)
  unfold step In
  generalize s.1 * s.1 = q at *
  split
  · dsimp only; omega
  · dsimp only; omega
def le (s r : Nat × Nat) : Prop := s.2 < r.2 ∨ s.2 = r.2 ∧ s.1 ≤ r.1
theorem step_lo (s : Nat × Nat) : 2 * s.2 ≤ (step s).2 ∧ (step s).2 ≤ 2 * s.2 + 1 := by
  unfold step
  split <;> dsimp only <;> omega
theorem le_step {s r : Nat × Nat} (h : le s r) : le (step s) (step r) := by
  rcases h with h | ⟨h1, h2⟩
  · have := step_lo s
    have := step_lo r
    exact .inl (by omega)
  · have a : s.1 * s.1 ≤ r.1 * r.1 := Nat.mul_le_mul h2 h2
    unfold step le
    generalize s.1 * s.1 = p at *
    generalize r.1 * r.1 = q at *
    split <;> split <;> dsimp only <;> omega
theorem le_run : ∀ k {s r : Nat × Nat}, le s r → le (run k s) (run k r)
  | 0, _, _, h => h
  | k + 1, _, _, h => le_run k (le_step h)
theorem ln_le {x y : Nat} (hx : x ≠ 0) (h : x ≤ y) : ln x ≤ ln y := by
  unfold ln
  have hy : y ≠ 0 := by omega
  exact (Nat.le_log2 hy).2 (Nat.le_trans (Nat.log2_self_le hx) h)
/-- It rises. -/
theorem lg_le {x y : Nat} (hx : x ≠ 0) (h : x ≤ y) : lg x ≤ lg y := by
  unfold lg
  have h0 : le (x * 2 ^ (31 - ln x), ln x) (y * 2 ^ (31 - ln y), ln y) := by
    have := ln_le hx h
    by_cases e : ln x = ln y
    · exact .inr ⟨e, by show x * 2 ^ (31 - ln x) ≤ y * 2 ^ (31 - ln y); rw [e]; exact Nat.mul_le_mul_right _ h⟩
    · exact .inl (by show ln x < ln y; omega)
  rcases le_run 16 h0 with h | h <;> omega
theorem run_out : ∀ k m o, (run k (m, o)).2 = 2 ^ k * o + (run k (m, 0)).2 ∧ (run k (m, o)).1 = (run k (m, 0)).1
  | 0, m, o => by simp [run]
  | k + 1, m, o => by
    unfold run step
    dsimp only
    split
    · have h1 := run_out k (m * m / 2147483648 / 2) (2 * o + 1)
      have h2 := run_out k (m * m / 2147483648 / 2) (2 * 0 + 1)
      rw [h1.1, h1.2, h2.1, h2.2]
      refine ⟨?_, rfl⟩
      rw [Nat.pow_succ, Nat.mul_add, Nat.mul_add, ← Nat.mul_assoc, ← Nat.mul_assoc]
      omega
    · have h1 := run_out k (m * m / 2147483648) (2 * o)
      have h2 := run_out k (m * m / 2147483648) (2 * 0)
      rw [h1.1, h1.2, h2.1, h2.2]
      refine ⟨?_, rfl⟩
      rw [Nat.pow_succ, ← Nat.mul_assoc]
theorem ln_two {x : Nat} (hx : x ≠ 0) : ln (2 * x) = ln x + 1 := by
  unfold ln
  exact Nat.log2_two_mul hx
/-- Doubles add one. -/
theorem lg_two {x : Nat} (hx : x ≠ 0) (h : x ≤ 536870912) : lg (2 * x) = lg x + 65536 := by
  have hl : ln x ≤ 29 := by
    have := ln_le hx h
    have e : ln 536870912 = 29 := by decide
    omega
  unfold lg
  rw [ln_two hx, show 2 * x * 2 ^ (31 - (ln x + 1)) = x * 2 ^ (31 - ln x) by
    rw [show 31 - ln x = (31 - (ln x + 1)) + 1 by omega, Nat.pow_succ, Nat.mul_comm 2 x, Nat.mul_assoc, Nat.mul_comm 2]]
  rw [(run_out 16 _ (ln x + 1)).1, (run_out 16 _ (ln x)).1]
  omega
theorem run_pow : ∀ k o, run k (2147483648, o) = (2147483648, 2 ^ k * o)
  | 0, o => by simp [run]
  | k + 1, o => by
    unfold run
    have q : 2147483648 * 2147483648 / 2147483648 = 2147483648 := Nat.mul_div_cancel _ (by decide)
    have e : step (2147483648, o) = (2147483648, 2 * o) := by
      unfold step
      dsimp only
      rw [q, if_neg (by omega)]
    rw [e, run_pow k, Nat.pow_succ, Nat.mul_assoc]
/-- Of a power of two it is whole. -/
theorem lg_pow {e : Nat} (h : e ≤ 31) : lg (2 ^ e) = 65536 * e := by
  have hl : ln (2 ^ e) = e := by unfold ln; exact Nat.log2_two_pow
  unfold lg
  rw [hl, ← Nat.pow_add, show e + (31 - e) = 31 by omega, show (2 : Nat) ^ 31 = 2147483648 by decide, run_pow]
theorem start_in {x : Nat} (hx : x ≠ 0) (h : x ≤ 1073741824) : In (x * 2 ^ (31 - ln x)) := by
  have hl : ln x ≤ 30 := by
    have := ln_le hx h
    have e : ln 1073741824 = 30 := by decide
    omega
  have h1 : 2 ^ ln x ≤ x := Nat.log2_self_le hx
  have h2 : x < 2 ^ (ln x + 1) := Nat.lt_log2_self
  have e1 : 2 ^ ln x * 2 ^ (31 - ln x) = 2147483648 := by rw [← Nat.pow_add, show ln x + (31 - ln x) = 31 by omega]
  have e2 : 2 ^ (ln x + 1) * 2 ^ (31 - ln x) = 4294967296 := by rw [← Nat.pow_add, show ln x + 1 + (31 - ln x) = 32 by omega]
  have p : 0 < 2 ^ (31 - ln x) := Nat.two_pow_pos _
  unfold In
  rw [← e1, ← e2]
  exact ⟨Nat.mul_le_mul_right _ h1, (Nat.mul_lt_mul_right p).2 h2⟩
end Go.Proofs.Ytbkagloonlddfaa.Lg
