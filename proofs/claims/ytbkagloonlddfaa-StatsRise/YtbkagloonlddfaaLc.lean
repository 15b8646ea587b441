/-
  Plain: the logarithm, bit by bit, against powers: below it by less than two of its parts.
-/
import Derived.Test.YtbkagloonlddfaaLb
namespace Go.Proofs.Ytbkagloonlddfaa.Lg
set_option linter.unusedVariables false
set_option linter.unusedSimpArgs false
set_option maxRecDepth 10000

theorem sq_le {a b : Nat} (h : a ≤ b) : a * a ≤ b * b := Nat.mul_le_mul h h
theorem step_low (m : Nat) (hm : In m) : 2147483648 * (m * m / 2147483648) ≤ m * m := Nat.mul_div_le _ _
/-- What a step leaves, from below. -/
theorem low_step {X m o : Nat} (h : m * 2 ^ o ≤ 2147483648 * X) : (step (m, o)).1 * 2 ^ (step (m, o)).2 ≤ 2147483648 * (X * X) := by
  have h1 := sq_le h
  have e1 : m * 2 ^ o * (m * 2 ^ o) = m * m * 2 ^ (2 * o) := by
    rw [Nat.two_mul o, Nat.pow_add]
    simp only [Nat.mul_assoc, Nat.mul_comm, Nat.mul_left_comm]
  have e2 : 2147483648 * X * (2147483648 * X) = 2147483648 * (2147483648 * (X * X)) := by
    simp only [Nat.mul_assoc, Nat.mul_comm, Nat.mul_left_comm]
  rw [e1, e2] at h1
  have hd : 2147483648 * (m * m / 2147483648) ≤ m * m := Nat.mul_div_le _ _
  have h2 : 2147483648 * (m * m / 2147483648 * 2 ^ (2 * o)) ≤ 2147483648 * (2147483648 * (X * X)) := by
    rw [← Nat.mul_assoc]
    exact Nat.le_trans (Nat.mul_le_mul_right _ hd) h1
  have h3 := Nat.le_of_mul_le_mul_left h2 (by decide : 0 < 2147483648)
  unfold step
  dsimp only
  split
  · dsimp only
    rw [Nat.pow_succ, Nat.mul_comm (2 ^ (2 * o)) 2, ← Nat.mul_assoc]
    exact Nat.le_trans (Nat.mul_le_mul_right _ (Nat.div_mul_le_self _ _)) h3
  · exact h3
theorem low_run : ∀ k {x m o : Nat}, m * 2 ^ o ≤ 2147483648 * x → (run k (m, o)).1 * 2 ^ (run k (m, o)).2 ≤ 2147483648 * x ^ 2 ^ k
  | 0, x, m, o, h => by simpa [run] using h
  | k + 1, x, m, o, h => by
    have h1 := low_step h
    have := low_run k (x := x * x) (m := (step (m, o)).1) (o := (step (m, o)).2) h1
    rw [run]
    refine Nat.le_trans this (Nat.le_of_eq ?_)
    rw [Nat.pow_succ, Nat.mul_comm (2 ^ k) 2, Nat.pow_mul, Nat.pow_two]
theorem in_run : ∀ k {s : Nat × Nat}, In s.1 → In (run k s).1
  | 0, _, h => h
  | k + 1, _, h => in_run k (in_step h)
theorem start_eq {x : Nat} (hx : x ≠ 0) (h : x ≤ 1073741824) : x * 2 ^ (31 - ln x) * 2 ^ ln x = 2147483648 * x := by
  have hl : ln x ≤ 30 := by
    have := ln_le hx h
    have e : ln 1073741824 = 30 := by decide
    omega
  rw [Nat.mul_assoc, ← Nat.pow_add, show 31 - ln x + ln x = 31 by omega, Nat.mul_comm]
/-- It is not above. -/
theorem lg_low {x : Nat} (hx : x ≠ 0) (h : x ≤ 1073741824) : 2 ^ lg x ≤ x ^ 65536 := by
  have h1 := low_run 16 (Nat.le_of_eq (start_eq hx h))
  have h2 := (in_run 16 (s := (x * 2 ^ (31 - ln x), ln x)) (start_in hx h)).1
  have e : (2 : Nat) ^ 16 = 65536 := by decide
  rw [e] at h1
  exact Nat.le_of_mul_le_mul_left (Nat.le_trans (Nat.mul_le_mul_right _ h2) h1) (by decide : 0 < 2147483648)
theorem err_step (d : Nat) (hd : d ≤ 67108864) : 2147483649 * ((2147483648 + d) * (2147483648 + d)) ≤ (2147483648 + (3 * d + 2)) * 2147483648 * 2147483648 := by
  have e : (2147483648 + d) * (2147483648 + d) = 4611686018427387904 + 4294967296 * d + d * d := by
    rw [Nat.add_mul, Nat.mul_add, Nat.mul_add, Nat.mul_comm d 2147483648]
    omega
  have h : d * d ≤ 67108864 * d := Nat.mul_le_mul_right _ hd
  rw [e]
  generalize d * d = q at *
  omega
theorem up_part {Q R M : Nat} (hM : 2147483648 ≤ M) (h : 2147483649 * Q ≤ R * 2147483648) : (M + 1) * Q ≤ M * R := by
  have h1 : (M + 1) * 2147483648 ≤ M * 2147483649 := by omega
  have h2 : (M + 1) * 2147483648 * Q ≤ M * 2147483649 * Q := Nat.mul_le_mul_right _ h1
  have h3 : M * (2147483649 * Q) ≤ M * (R * 2147483648) := Nat.mul_le_mul_left _ h
  refine Nat.le_of_mul_le_mul_right (c := 2147483648) ?_ (by decide)
  calc (M + 1) * Q * 2147483648 = (M + 1) * 2147483648 * Q := by rw [Nat.mul_right_comm]
    _ ≤ M * 2147483649 * Q := h2
    _ = M * (2147483649 * Q) := by rw [Nat.mul_assoc]
    _ ≤ M * (R * 2147483648) := h3
    _ = M * R * 2147483648 := by rw [Nat.mul_assoc]
/-- What a step leaves, from above: with an error of d. -/
theorem up_step {X m o d : Nat} (hm : In m) (hd : d ≤ 67108864) (h : X * 2147483648 * 2147483648 ≤ m * (2147483648 + d) * 2 ^ o) : X * X * 2147483648 * 2147483648 ≤ (step (m, o)).1 * (2147483648 + (3 * d + 2)) * 2 ^ (step (m, o)).2 := by
  have h1 := sq_le h
  have hI := in_step (s := (m, o)) hm
  have e1 : m * (2147483648 + d) * 2 ^ o * (m * (2147483648 + d) * 2 ^ o) = m * m * ((2147483648 + d) * (2147483648 + d)) * 2 ^ (2 * o) := by
    rw [Nat.two_mul o, Nat.pow_add]
    simp only [Nat.mul_assoc, Nat.mul_comm, Nat.mul_left_comm]
  have e2 : X * 2147483648 * 2147483648 * (X * 2147483648 * 2147483648) = X * X * 2147483648 * 2147483648 * (2147483648 * 2147483648) := by
    simp only [Nat.mul_assoc, Nat.mul_comm, Nat.mul_left_comm]
  rw [e1, e2] at h1
  have hE := err_step d hd
  generalize (2147483648 + d) * (2147483648 + d) = Q at *
  generalize hR : (2147483648 + (3 * d + 2)) = R at *
  -- what is left, and the bits
  have key : ∃ M b, (step (m, o)).1 = M ∧ (step (m, o)).2 = 2 * o + b ∧ m * m ≤ 2147483648 * (M + 1) * 2 ^ b := by
    have hlt : m * m < 2147483648 * (m * m / 2147483648 + 1) := by
      have := Nat.lt_div_mul_add (a := m * m) (b := 2147483648) (by decide)
      rw [Nat.mul_add, Nat.mul_comm 2147483648]
      omega
    unfold step
    dsimp only
    split
    · refine ⟨_, 1, rfl, rfl, ?_⟩
      dsimp only
      generalize m * m / 2147483648 = q at *
      have : q + 1 ≤ (q / 2 + 1) * 2 := by omega
      have h2 := Nat.mul_le_mul_left 2147483648 this
      rw [← Nat.mul_assoc] at h2
      exact Nat.le_of_lt (Nat.lt_of_lt_of_le hlt (by rw [Nat.pow_one]; exact h2))
    · refine ⟨_, 0, rfl, rfl, ?_⟩
      dsimp only
      rw [Nat.pow_zero, Nat.mul_one]
      exact Nat.le_of_lt hlt
  obtain ⟨M, b, k1, k2, k3⟩ := key
  rw [k1] at hI ⊢
  rw [k2]
  have hp := up_part (R := R * 2147483648) hI.1 hE
  have h2 : m * m * Q * 2 ^ (2 * o) ≤ 2147483648 * (M * (R * 2147483648)) * 2 ^ b * 2 ^ (2 * o) := by
    refine Nat.mul_le_mul_right _ ?_
    calc m * m * Q ≤ 2147483648 * (M + 1) * 2 ^ b * Q := Nat.mul_le_mul_right _ k3
      _ = 2147483648 * ((M + 1) * Q) * 2 ^ b := by simp only [Nat.mul_assoc, Nat.mul_comm, Nat.mul_left_comm]
      _ ≤ 2147483648 * (M * (R * 2147483648)) * 2 ^ b := Nat.mul_le_mul_right _ (Nat.mul_le_mul_left _ hp)
  have h3 := Nat.le_trans h1 h2
  have e3 : 2147483648 * (M * (R * 2147483648)) * 2 ^ b * 2 ^ (2 * o) = M * R * 2 ^ (2 * o + b) * (2147483648 * 2147483648) := by
    rw [Nat.pow_add]
    simp only [Nat.mul_assoc, Nat.mul_comm, Nat.mul_left_comm]
  rw [e3] at h3
  exact Nat.le_of_mul_le_mul_right h3 (by decide)
def er : Nat → Nat → Nat
  | 0, d => d
  | k + 1, d => er k (3 * d + 2)
theorem er_le : ∀ j e, e ≤ er j e := by
  intro j
  induction j with
  | zero => exact fun e => Nat.le_refl _
  | succ j ih => exact fun e => by have := ih (3 * e + 2); rw [er]; omega
theorem up_run (k : Nat) : ∀ {x m o d : Nat}, In m → er k d ≤ 67108864 → x * 2147483648 * 2147483648 ≤ m * (2147483648 + d) * 2 ^ o → x ^ 2 ^ k * 2147483648 * 2147483648 ≤ (run k (m, o)).1 * (2147483648 + er k d) * 2 ^ (run k (m, o)).2 := by
  induction k with
  | zero => intro x m o d _ _ h; rw [Nat.pow_zero, Nat.pow_one]; exact h
  | succ k ih =>
    intro x m o d hm hd h
    have h0 := er_le (k + 1) d
    have h1 := up_step hm (Nat.le_trans h0 hd) h
    have := ih (x := x * x) (m := (step (m, o)).1) (o := (step (m, o)).2) (d := 3 * d + 2) (in_step (s := (m, o)) hm) hd h1
    rw [run, er]
    refine Nat.le_trans (Nat.le_of_eq ?_) this
    rw [Nat.pow_succ, Nat.mul_comm (2 ^ k) 2, Nat.pow_mul, Nat.pow_two]
theorem cancel4 (P L D : Nat) (hD : 0 < D) (h : P * D * D ≤ 4 * (D * D) * L) : P ≤ L * 4 := by
  refine Nat.le_of_mul_le_mul_right (c := D * D) ?_ (Nat.mul_pos hD hD)
  rw [← Nat.mul_assoc]
  refine Nat.le_trans h (Nat.le_of_eq ?_)
  rw [Nat.mul_right_comm, Nat.mul_comm 4 L]
/-- It is not below by more than two of its parts. -/
theorem lg_up {x : Nat} (hx : x ≠ 0) (h : x ≤ 1073741824) : x ^ 65536 ≤ 2 ^ (lg x + 2) := by
  have hs := start_eq hx h
  have h1 := up_run 16 (x := x) (m := x * 2 ^ (31 - ln x)) (o := ln x) (d := 0) (start_in hx h) (by decide) (by
    rw [Nat.add_zero, Nat.mul_right_comm (x * 2 ^ (31 - ln x)) 2147483648, hs, Nat.mul_comm 2147483648 x]
    exact Nat.le_refl _)
  have h2 := (in_run 16 (s := (x * 2 ^ (31 - ln x), ln x)) (start_in hx h)).2
  have e : (2 : Nat) ^ 16 = 65536 := by decide
  have e2 : er 16 0 = 43046720 := by decide
  rw [e, e2] at h1
  have el : (run 16 (x * 2 ^ (31 - ln x), ln x)).2 = lg x := rfl
  rw [el] at h1
  generalize (run 16 (x * 2 ^ (31 - ln x), ln x)).1 = M at *
  clear el e2 e hs
  generalize x ^ 65536 = P at *
  generalize hp : 2 ^ lg x = L at *
  rw [Nat.pow_add, hp, show (2 : Nat) ^ 2 = 4 by decide]
  have h3 : M * (2147483648 + 43046720) ≤ 4 * (2147483648 * 2147483648) := by
    have := Nat.mul_le_mul_right (2147483648 + 43046720) (Nat.le_of_lt h2)
    exact Nat.le_trans this (by decide)
  have h4 := Nat.le_trans h1 (Nat.mul_le_mul_right _ h3)
  exact cancel4 P L 2147483648 (by decide) h4
end Go.Proofs.Ytbkagloonlddfaa.Lg
