/-
  Plain: codes in the canonical order: how much of 2 to the power of 40 lies ahead of a code; apart; in order.
-/
import Derived.Test.YtbkagloonlddfaaBit
namespace Go.Proofs.Ytbkagloonlddfaa.Hr

/-- How much the lengths of the first k symbols need of which P is so. -/
def need (l : Nat → Nat) (P : Nat → Bool) : Nat → Nat
  | 0 => 0
  | k + 1 => need l P k + (if 0 < l k ∧ P k = true then 2 ^ (40 - l k) else 0)
theorem need_mono {l : Nat → Nat} {P Q : Nat → Bool} (h : ∀ c, P c = true → Q c = true) : ∀ k, need l P k ≤ need l Q k
  | 0 => Nat.le_refl _
  | k + 1 => by
    have ih := need_mono (l := l) h k
    have tp := Nat.two_pow_pos (40 - l k)
    unfold need
    by_cases c : 0 < l k ∧ P k = true
    · rw [if_pos c, if_pos ⟨c.1, h k c.2⟩]; omega
    · rw [if_neg c]
      split <;> omega
/-- One more symbol is so. -/
theorem need_more {l : Nat → Nat} {P Q : Nat → Bool} {a : Nat} (h : ∀ c, P c = true → Q c = true) (hp : P a = false) (hq : Q a = true) (hl : 0 < l a) : ∀ k, a < k → need l P k + 2 ^ (40 - l a) ≤ need l Q k
  | 0, h0 => absurd h0 (Nat.not_lt_zero _)
  | k + 1, h0 => by
    unfold need
    by_cases e : a = k
    · subst e
      have := need_mono (l := l) h a
      rw [if_neg (by rw [hp]; simp), if_pos ⟨hl, hq⟩]
      omega
    · have ih := need_more (l := l) h hp hq hl k (by omega)
      have tp := Nat.two_pow_pos (40 - l k)
      by_cases c : 0 < l k ∧ P k = true
      · rw [if_pos c, if_pos ⟨c.1, h k c.2⟩]; omega
      · rw [if_neg c]
        split <;> omega
/-- All of them are of lengths up to n. -/
theorem need_dvd {l : Nat → Nat} {P : Nat → Bool} {n : Nat} (hn : n ≤ 40) (h : ∀ c, P c = true → l c ≤ n) : ∀ k, ∃ q, need l P k = q * 2 ^ (40 - n)
  | 0 => ⟨0, by simp [need]⟩
  | k + 1 => by
    obtain ⟨q, hq⟩ := need_dvd hn h k
    unfold need
    by_cases c : 0 < l k ∧ P k = true
    · have := h k c.2
      refine ⟨q + 2 ^ (n - l k), ?_⟩
      rw [if_pos c, hq, Nat.add_mul, ← Nat.pow_add]
      congr 2
      omega
    · exact ⟨q, by rw [if_neg c, hq]; rfl⟩
/-- c' comes ahead of c. -/
def ahead (l : Nat → Nat) (c c' : Nat) : Bool := decide (l c' < l c) || (decide (l c' = l c) && decide (c' < c))
theorem ahead_iff {l : Nat → Nat} {c c' : Nat} : ahead l c c' = true ↔ l c' < l c ∨ (l c' = l c ∧ c' < c) := by
  unfold ahead
  simp only [Bool.or_eq_true, Bool.and_eq_true, decide_eq_true_eq]
/-- The code of c among k symbols. -/
def code (l : Nat → Nat) (k c : Nat) : Nat := need l (ahead l c) k / 2 ^ (40 - l c)
theorem code_eq (l : Nat → Nat) (k c : Nat) (h : l c ≤ 40) : need l (ahead l c) k = code l k c * 2 ^ (40 - l c) := by
  obtain ⟨q, hq⟩ := need_dvd (l := l) (P := ahead l c) h (fun e he => by rcases ahead_iff.1 he with g | g <;> omega) k
  unfold code
  rw [hq, Nat.mul_div_cancel _ (Nat.two_pow_pos _)]
theorem step_over (l : Nat → Nat) (k : Nat) {a b : Nat} (ha : 0 < l a) (hk : a < k) (h : ahead l b a = true) : need l (ahead l a) k + 2 ^ (40 - l a) ≤ need l (ahead l b) k := by
  have hab := ahead_iff.1 h
  refine need_more (fun c hc => ?_) ?_ h ha k hk
  · have := ahead_iff.1 hc
    rw [ahead_iff]
    omega
  · refine Bool.eq_false_iff.2 fun e => ?_
    have := ahead_iff.1 e
    omega
/-- No code is the beginning of another one; they rise by length, then symbol. -/
theorem apart (l : Nat → Nat) (k : Nat) {a b : Nat} (ha : 0 < l a) (hb : 0 < l b) (h40 : l b ≤ 40) (hka : a < k) (hkb : b < k) (hne : a ≠ b) (hab : l a ≤ l b) :
    code l k b / 2 ^ (l b - l a) ≠ code l k a ∧ ((l a < l b ∨ a < b) ↔ code l k a < code l k b / 2 ^ (l b - l a)) := by
  have e1 := code_eq l k a (by omega)
  have e2 := code_eq l k b h40
  have first : code l k b / 2 ^ (l b - l a) = need l (ahead l b) k / 2 ^ (40 - l a) := by
    rw [e2, show 40 - l a = (40 - l b) + (l b - l a) by omega, Nat.pow_add, ← Nat.div_div_eq_div_mul, Nat.mul_div_cancel _ (Nat.two_pow_pos _)]
  have pos : 0 < 2 ^ (40 - l a) := Nat.two_pow_pos _
  by_cases c : l a < l b ∨ a < b
  · have h : ahead l b a = true := ahead_iff.2 (by omega)
    have := step_over l k ha hka h
    rw [e1] at this
    have lt : code l k a < code l k b / 2 ^ (l b - l a) := by
      rw [first, Nat.lt_iff_add_one_le, Nat.le_div_iff_mul_le pos, Nat.add_mul, Nat.one_mul]
      exact this
    exact ⟨by omega, ⟨fun _ => lt, fun _ => c⟩⟩
  · have h : ahead l a b = true := ahead_iff.2 (by omega)
    have := step_over l k hb hkb h
    have el : l a = l b := by omega
    rw [e1, e2, el, ← Nat.succ_mul] at this
    have := Nat.le_of_mul_le_mul_right this (Nat.two_pow_pos _)
    rw [el, Nat.sub_self, Nat.pow_zero, Nat.div_one]
    exact ⟨by omega, ⟨fun x => absurd x (by omega), fun x => absurd x (by omega)⟩⟩
/-- A code has no more bits than its length. -/
theorem code_lt (l : Nat → Nat) (k : Nat) {a : Nat} (ha : 0 < l a) (h40 : l a ≤ 40) (hka : a < k) (hs : need l (fun _ => true) k ≤ 2 ^ 40) : code l k a < 2 ^ l a := by
  have e1 := code_eq l k a h40
  have := need_more (l := l) (P := ahead l a) (Q := fun _ => true) (a := a) (fun _ _ => rfl) (by refine Bool.eq_false_iff.2 fun e => ?_; have := ahead_iff.1 e; omega) rfl ha k hka
  rw [e1, ← Nat.succ_mul] at this
  have h2 : 2 ^ 40 = 2 ^ l a * 2 ^ (40 - l a) := by rw [← Nat.pow_add]; congr 1; omega
  have h3 := Nat.le_trans this hs
  rw [h2] at h3
  exact Nat.le_of_mul_le_mul_right h3 (Nat.two_pow_pos _)
end Go.Proofs.Ytbkagloonlddfaa.Hr
