/-
  Plain: means; what is needed at least (Gibbs), in whole numbers.
-/
import Derived.Test.YtbkagloonlddfaaLa
namespace Go.Proofs.Ytbkagloonlddfaa.Lg
set_option linter.unusedVariables false
set_option linter.unusedSimpArgs false

theorem bern (a d : Int) (h0 : 0 ≤ a) (h : 0 ≤ a + d) : ∀ n : Nat, a ^ (n + 1) + (n + 1 : Nat) * d * a ^ n ≤ (a + d) ^ (n + 1)
  | 0 => by simp [Int.pow_succ]
  | n + 1 => by
    have ih := bern a d h0 h n
    have h1 : (a ^ (n + 1) + (n + 1 : Nat) * d * a ^ n) * (a + d) ≤ (a + d) ^ (n + 1) * (a + d) := Int.mul_le_mul_of_nonneg_right ih h
    have h2 : 0 ≤ ((n + 1 : Nat) : Int) * (d * d) * a ^ n := Int.mul_nonneg (Int.mul_nonneg (by omega) (by
      rcases Int.le_total 0 d with q | q
      · exact Int.mul_nonneg q q
      · have := Int.mul_nonneg (show 0 ≤ -d by omega) (show 0 ≤ -d by omega)
        rwa [Int.neg_mul_neg] at this)) (Int.pow_nonneg h0)
    have e1 : (a + d) ^ (n + 1 + 1) = (a + d) ^ (n + 1) * (a + d) := Int.pow_succ _ _
    have e2 : (a ^ (n + 1) + (n + 1 : Nat) * d * a ^ n) * (a + d) = a ^ (n + 1 + 1) + ((n + 1 + 1 : Nat) : Int) * d * a ^ (n + 1) + ((n + 1 : Nat) : Int) * (d * d) * a ^ n := by
      rw [Int.pow_succ a (n + 1), Int.pow_succ a n, show ((n + 1 + 1 : Nat) : Int) = ((n + 1 : Nat) : Int) + 1 by omega]
      generalize ((n + 1 : Nat) : Int) = k
      generalize a ^ n = p
      simp only [Int.add_mul, Int.mul_add, Int.one_mul]
      have q1 : k * d * p * a = k * d * (p * a) := by rw [Int.mul_assoc]
      have q2 : p * a * d = d * (p * a) := by rw [Int.mul_comm]
      have q3 : k * d * p * d = k * (d * d) * p := by
        rw [Int.mul_assoc, Int.mul_comm p d, ← Int.mul_assoc, Int.mul_assoc k d d]
      rw [q1, q2, q3]
      omega
    rw [e1]
    rw [e2] at h1
    omega
/-- A number more among k. -/
theorem mean_step (k S x : Nat) (hk : 0 < k) : (k + 1) ^ (k + 1) * (S ^ k * x) ≤ k ^ k * (S + x) ^ (k + 1) := by
  have b := bern (((k + 1) * S : Nat) : Int) ((k * x : Nat) - (S : Nat)) (by omega) (by
    have : ((k + 1) * S : Nat) = k * S + S := by rw [Nat.add_mul, Nat.one_mul]
    rw [this]
    have : (0 : Int) ≤ ((k * S : Nat) : Int) := by omega
    have : (0 : Int) ≤ ((k * x : Nat) : Int) := by omega
    omega) k
  have e1 : (((k + 1) * S : Nat) : Int) + (((k * x : Nat) : Int) - (S : Nat)) = ((k * (S + x) : Nat) : Int) := by
    have q1 : ((k + 1) * S : Nat) = k * S + S := by rw [Nat.add_mul, Nat.one_mul]
    have q2 : k * (S + x) = k * S + k * x := Nat.mul_add _ _ _
    rw [q1, q2]
    omega
  have e2 : (((k + 1) * S : Nat) : Int) ^ (k + 1) + ((k + 1 : Nat) : Int) * (((k * x : Nat) : Int) - (S : Nat)) * (((k + 1) * S : Nat) : Int) ^ k = (((k + 1) ^ (k + 1) * (S ^ k * x) * k : Nat) : Int) := by
    have p : (((k + 1) * S : Nat) : Int) ^ k = (((k + 1) ^ k * S ^ k : Nat) : Int) := by rw [← Nat.mul_pow, Int.natCast_pow]
    rw [Int.pow_succ, p]
    have q : ((k + 1 : Nat) : Int) * (((k * x : Nat) : Int) - (S : Nat)) = ((((k + 1) * (k * x) : Nat)) : Int) - (((k + 1) * S : Nat) : Int) := by
      rw [Int.mul_sub, Int.natCast_mul (k + 1) (k * x), Int.natCast_mul (k + 1) S]
    rw [q, Int.sub_mul, Int.mul_comm (((k + 1) ^ k * S ^ k : Nat) : Int) (((k + 1) * S : Nat) : Int)]
    have r : (((k + 1) * (k * x) : Nat) : Int) * (((k + 1) ^ k * S ^ k : Nat) : Int) = (((k + 1) ^ (k + 1) * (S ^ k * x) * k : Nat) : Int) := by
      rw [← Int.natCast_mul]
      congr 1
      rw [Nat.pow_succ]
      generalize (k + 1) ^ k = a
      generalize S ^ k = b
      rw [Nat.mul_comm a (k + 1)]
      simp only [Nat.mul_assoc, Nat.mul_comm, Nat.mul_left_comm]
    rw [r]
    omega
  rw [e1, e2] at b
  have b2 : (k + 1) ^ (k + 1) * (S ^ k * x) * k ≤ (k * (S + x)) ^ (k + 1) := by
    rw [← Int.natCast_pow] at b
    exact Int.ofNat_le.1 b
  rw [Nat.mul_pow, Nat.pow_succ k k, Nat.mul_right_comm (k ^ k) k] at b2
  exact Nat.le_of_mul_le_mul_right b2 hk
def sum : List Nat → Nat
  | [] => 0
  | a :: l => a + sum l
def prod : List Nat → Nat
  | [] => 1
  | a :: l => a * prod l
/-- No product is greater than that of as many means. -/
theorem amgm : ∀ l : List Nat, l.length ^ l.length * prod l ≤ sum l ^ l.length
  | [] => by simp [prod, sum]
  | [a] => by simp [prod, sum]
  | a :: b :: l => by
    have ih := amgm (b :: l)
    have hk : 0 < (b :: l).length := by simp
    generalize b :: l = m at *
    have h := mean_step m.length (sum m) a hk
    have h2 : (m.length + 1) ^ (m.length + 1) * (m.length ^ m.length * prod m * a) ≤ (m.length + 1) ^ (m.length + 1) * (sum m ^ m.length * a) := Nat.mul_le_mul_left _ (Nat.mul_le_mul_right _ ih)
    have h3 := Nat.le_trans h2 h
    have hp : 0 < m.length ^ m.length := Nat.pow_pos hk
    show (m.length + 1) ^ (m.length + 1) * (a * prod m) ≤ (a + sum m) ^ (m.length + 1)
    rw [Nat.add_comm a]
    refine Nat.le_of_mul_le_mul_left (Nat.le_trans (Nat.le_of_eq ?_) h3) hp
    simp only [Nat.mul_assoc, Nat.mul_comm, Nat.mul_left_comm]
theorem sum_app : ∀ a b, sum (a ++ b) = sum a + sum b
  | [], b => by simp [sum]
  | x :: a, b => by rw [List.cons_append, sum, sum, sum_app a b]; omega
theorem prod_app : ∀ a b, prod (a ++ b) = prod a * prod b
  | [], b => by simp [prod]
  | x :: a, b => by rw [List.cons_append, prod, prod, prod_app a b, Nat.mul_assoc]
theorem sum_rep (n x : Nat) : sum (List.replicate n x) = n * x := by
  induction n with
  | zero => simp [sum]
  | succ n ih => rw [List.replicate_succ, sum, ih, Nat.add_mul, Nat.one_mul, Nat.add_comm]
theorem prod_rep (n x : Nat) : prod (List.replicate n x) = x ^ n := by
  induction n with
  | zero => simp [prod]
  | succ n ih => rw [List.replicate_succ, prod, ih, Nat.pow_succ, Nat.mul_comm]
/-- Of two. -/
theorem gibbs2 (a1 a2 b1 b2 : Nat) : (a1 + a2) ^ (a1 + a2) * (b1 ^ a1 * b2 ^ a2) ≤ (b1 + b2) ^ (a1 + a2) * (a1 ^ a1 * a2 ^ a2) := by
  by_cases h1 : a1 = 0
  · subst h1
    simp only [Nat.zero_add, Nat.pow_zero, Nat.one_mul]
    rw [Nat.mul_comm]
    exact Nat.mul_le_mul_right _ (Nat.pow_le_pow_left (Nat.le_add_left _ _) _)
  by_cases h2 : a2 = 0
  · subst h2
    simp only [Nat.add_zero, Nat.pow_zero, Nat.mul_one]
    rw [Nat.mul_comm]
    exact Nat.mul_le_mul_right _ (Nat.pow_le_pow_left (Nat.le_add_right _ _) _)
  have h := amgm (List.replicate a1 (b1 * a2) ++ List.replicate a2 (b2 * a1))
  rw [List.length_append, List.length_replicate, List.length_replicate, sum_app, prod_app, sum_rep, sum_rep, prod_rep, prod_rep] at h
  have e1 : a1 * (b1 * a2) + a2 * (b2 * a1) = (b1 + b2) * (a1 * a2) := by
    rw [Nat.add_mul]
    simp only [Nat.mul_assoc, Nat.mul_comm, Nat.mul_left_comm]
  rw [e1, Nat.mul_pow, Nat.mul_pow, Nat.mul_pow, Nat.mul_pow, Nat.pow_add a1 a1 a2, Nat.pow_add a2 a1 a2] at h
  have hp : 0 < a2 ^ a1 * a1 ^ a2 := Nat.mul_pos (Nat.pow_pos (by omega)) (Nat.pow_pos (by omega))
  refine Nat.le_of_mul_le_mul_right (Nat.le_trans (Nat.le_of_eq ?_) (Nat.le_trans h (Nat.le_of_eq ?_))) hp
  · simp only [Nat.mul_assoc, Nat.mul_comm, Nat.mul_left_comm]
  · simp only [Nat.mul_assoc, Nat.mul_comm, Nat.mul_left_comm]
/-- Numbers, and others beside them. -/
def fst (l : List (Nat × Nat)) : Nat := sum (l.map (·.1))
def snd (l : List (Nat × Nat)) : Nat := sum (l.map (·.2))
def pw (l : List (Nat × Nat)) : Nat := prod (l.map fun p => p.2 ^ p.1)
def own (l : List (Nat × Nat)) : Nat := prod (l.map fun p => p.1 ^ p.1)
theorem gibbs : ∀ l : List (Nat × Nat), (∀ p ∈ l, 0 < p.2) → fst l ^ fst l * pw l ≤ snd l ^ fst l * own l
  | [], _ => by simp [fst, snd, pw, own, sum, prod]
  | p :: l, h => by
    have ih := gibbs l fun q hq => h q (List.mem_cons_of_mem _ hq)
    have g := gibbs2 p.1 (fst l) p.2 (snd l)
    show (p.1 + fst l) ^ (p.1 + fst l) * (p.2 ^ p.1 * pw l) ≤ (p.2 + snd l) ^ (p.1 + fst l) * (p.1 ^ p.1 * own l)
    by_cases h0 : fst l = 0
    · have hs : ∀ m : List (Nat × Nat), fst m = 0 → pw m = 1 ∧ own m = 1 := by
        intro m
        induction m with
        | nil => intro _; exact ⟨rfl, rfl⟩
        | cons q m im =>
          intro hm
          have hm' : q.1 + fst m = 0 := hm
          obtain ⟨i1, i2⟩ := im (by omega)
          have q0 : q.1 = 0 := by omega
          refine ⟨?_, ?_⟩
          · show q.2 ^ q.1 * pw m = 1
            rw [i1, q0, Nat.pow_zero]
          · show q.1 ^ q.1 * own m = 1
            rw [i2, q0, Nat.pow_zero]
      obtain ⟨i1, i2⟩ := hs l h0
      rw [h0, i1, i2, Nat.add_zero, Nat.mul_one, Nat.mul_one, Nat.mul_comm]
      exact Nat.mul_le_mul_right _ (Nat.pow_le_pow_left (Nat.le_add_right _ _) _)
    · have hsp : 0 < snd l := by
        match l, h0 with
        | [], h0 => exact absurd rfl h0
        | q :: m, _ =>
          have := h q (List.mem_cons_of_mem _ (List.mem_cons_self ..))
          show 0 < q.2 + snd m
          omega
      have hp : 0 < fst l ^ fst l * snd l ^ fst l := Nat.mul_pos (Nat.pow_pos (by omega)) (Nat.pow_pos hsp)
      have hm := Nat.mul_le_mul g ih
      refine Nat.le_of_mul_le_mul_right (Nat.le_trans (Nat.le_of_eq ?_) (Nat.le_trans hm (Nat.le_of_eq ?_))) hp
      · simp only [Nat.mul_assoc, Nat.mul_comm, Nat.mul_left_comm]
      · simp only [Nat.mul_assoc, Nat.mul_comm, Nat.mul_left_comm]
end Go.Proofs.Ytbkagloonlddfaa.Lg
