/-
  Plain: ends that begin so stand together.
-/
import Derived.Test.YtbkagloonlddfaaSb
namespace Go.Proofs.Ytbkagloonlddfaa.Su
set_option linter.unusedVariables false

theorem betw : ∀ (p a b c : List Nat), lt a b = true → lt b c = true → p <+: a → p <+: c → p <+: b
  | [], _, b, _, _, _, _, _ => List.nil_prefix
  | q :: p, [], _, _, _, _, h, _ => absurd h (by simp)
  | q :: p, _ :: _, _, [], _, _, _, h => absurd h (by simp)
  | q :: p, x :: a, [], _, h, _, _, _ => by simp [lt] at h
  | q :: p, x :: a, y :: b, z :: c, h1, h2, h3, h4 => by
    obtain ⟨rfl, g3⟩ := List.cons_prefix_cons.1 h3
    obtain ⟨rfl, g4⟩ := List.cons_prefix_cons.1 h4
    simp only [lt, Bool.or_eq_true, Bool.and_eq_true, decide_eq_true_eq] at h1 h2
    rcases h1 with h1 | ⟨rfl, h1⟩
    · rcases h2 with h2 | ⟨rfl, h2⟩
      · omega
      · omega
    · rcases h2 with h2 | ⟨_, h2⟩
      · omega
      · exact List.cons_prefix_cons.2 ⟨rfl, betw p a b c h1 h2 g3 g4⟩
/-- Does the end at i begin with p? -/
def Bp (t p : List Nat) (i : Nat) : Bool := decide (p <+: t.drop i)
theorem so_conv {t l : List Nat} (p : List Nat) (hl : So t l) {i j k x y z : Nat} (hij : i < j) (hjk : j < k) (hx : l[i]? = some x) (hy : l[j]? = some y) (hz : l[k]? = some z) (h1 : Bp t p x = true) (h2 : Bp t p z = true) : Bp t p y = true := by
  obtain ⟨hi, rfl⟩ := List.getElem?_eq_some_iff.1 hx
  obtain ⟨hj, rfl⟩ := List.getElem?_eq_some_iff.1 hy
  obtain ⟨hk, rfl⟩ := List.getElem?_eq_some_iff.1 hz
  have a1 := List.pairwise_iff_getElem.1 hl i j hi hj hij
  have a2 := List.pairwise_iff_getElem.1 hl j k hj hk hjk
  exact decide_eq_true (betw p _ _ _ a1 a2 (of_decide_eq_true h1) (of_decide_eq_true h2))
/-- How many of the first i begin to be so. -/
def rs (b : Nat → Bool) : Nat → Nat
  | 0 => 0
  | i + 1 => rs b i + (b i && (i == 0 || !b (i - 1))).toNat
theorem rs_one {b : Nat → Bool} {n : Nat} (h : ∀ i j k, i < j → j < k → k < n → b i = true → b k = true → b j = true) : ∀ i, i ≤ n → rs b i ≤ 1 ∧ (0 < rs b i → ∃ k, k < i ∧ b k = true)
  | 0, _ => ⟨Nat.zero_le _, fun h => absurd h (Nat.lt_irrefl _)⟩
  | i + 1, hi => by
    obtain ⟨h1, h2⟩ := rs_one h i (by omega)
    rw [rs]
    cases e : (b i && (i == 0 || !b (i - 1))) with
    | false => exact ⟨by simpa using h1, fun q => by
        obtain ⟨k, hk, hb⟩ := h2 (by simpa using q)
        exact ⟨k, by omega, hb⟩⟩
    | true =>
      simp only [Bool.and_eq_true, Bool.or_eq_true, beq_iff_eq, Bool.not_eq_true'] at e
      obtain ⟨e1, e2⟩ := e
      have h0 : rs b i = 0 := by
        rcases e2 with rfl | e2
        · rfl
        · by_cases q : 0 < rs b i
          · obtain ⟨k, hk, hb⟩ := h2 q
            by_cases e3 : k = i - 1
            · rw [← e3, hb] at e2; cases e2
            · have := h k (i - 1) i (by omega) (by omega) (by omega) hb e1
              rw [e2] at this
              cases this
          · omega
      rw [h0]
      exact ⟨by decide, fun _ => ⟨i, by omega, e1⟩⟩
/-- How many of the first i are so. -/
def ct (b : Nat → Bool) : Nat → Nat
  | 0 => 0
  | i + 1 => ct b i + (b i).toNat
theorem ct_filter (b : Nat → Bool) : ∀ n, ct b n = ((List.range n).filter b).length
  | 0 => rfl
  | n + 1 => by
    rw [ct, ct_filter b n, List.range_succ, List.filter_append, List.length_append]
    cases h : b n <;> simp [h]
theorem ct_le (b : Nat → Bool) : ∀ n, ct b n ≤ n
  | 0 => Nat.le_refl _
  | n + 1 => by have := ct_le b n; have := Bool.toNat_le (b n); rw [ct]; omega
/-- Counted in whatever order, there are as many. -/
theorem ct_perm {l : List Nat} {n : Nat} (b : Nat → Bool) (h : l.Perm (List.range n)) : ct (fun i => b (l.getD i 0)) n = ct b n := by
  have hl : l.length = n := by rw [h.length_eq, List.length_range]
  rw [ct_filter b n, ← (h.filter b).length_eq, ct_filter]
  have e : ∀ m : List Nat, ((List.range m.length).filter fun i => b (m.getD i 0)).length = (m.filter b).length := fun m => by
    have e1 : (List.range m.length).map (fun i => m.getD i 0) = m := by
      refine List.ext_getElem (by simp) fun i h1 h2 => ?_
      rw [List.getElem_map, List.getElem_range, List.getD_eq_getElem?_getD, List.getElem?_eq_getElem h2]
      rfl
    conv => rhs; rw [← e1, List.filter_map, List.length_map]
    rfl
  have := e l
  rw [hl] at this
  exact this
end Go.Proofs.Ytbkagloonlddfaa.Su
