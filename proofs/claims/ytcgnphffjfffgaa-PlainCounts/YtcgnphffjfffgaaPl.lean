/-
  Plain arithmetic of rows of bits with counts beside them. Nothing of the program is in here.
-/
import Derived.Test.YtcgnphffjfffgaaBit2
namespace Go.Proofs.Ytcgnphffjfffgaa
open Num
namespace Bit
set_option linter.unusedVariables false

def gi (l : List Int) (i : Nat) : Int := l.getD i 0
theorem gi_get (l : List Int) (i : Nat) (h : i < l.length) : l[i]? = some (gi l i) := by
  unfold gi
  rw [List.getD_eq_getElem?_getD, List.getElem?_eq_getElem h]; rfl
theorem gi_map (f : Nat → Int) (n i : Nat) (h : i < n) : gi ((List.range n).map f) i = f i := by
  unfold gi
  rw [List.getD_eq_getElem?_getD, List.getElem?_map, List.getElem?_range h]; rfl
theorem gi_ext {l m : List Int} (hl : l.length = m.length) (h : ∀ i, i < l.length → gi l i = gi m i) : l = m := by
  refine List.ext_getElem? fun i => ?_
  by_cases c : i < l.length
  · rw [gi_get l i c, gi_get m i (by omega), h i c]
  · rw [List.getElem?_eq_none (by omega), List.getElem?_eq_none (by omega)]

def supI (N : Int) (xs : List Nat) (i : Nat) : Int := onesI N xs (512 * (i : Int))
def subI (N : Int) (xs : List Nat) (j : Nat) : Int := onesI N xs (64 * (j : Int)) - supI N xs (j / 8)
def supP (N : Int) (xs : List Nat) (q : Nat) : List Int := (List.range q).map (supI N xs)
def subP (N : Int) (xs : List Nat) (q : Nat) : List Int := (List.range q).map (subI N xs)
def supL (N : Int) (xs : List Nat) : List Int := supP N xs (N.toNat / 512 + 1)
def subL (N : Int) (xs : List Nat) : List Int := subP N xs xs.length
theorem length_supP (N : Int) (xs : List Nat) (q : Nat) : (supP N xs q).length = q := by simp [supP]
theorem length_subP (N : Int) (xs : List Nat) (q : Nat) : (subP N xs q).length = q := by simp [subP]
theorem length_supL (N : Int) (xs : List Nat) : (supL N xs).length = N.toNat / 512 + 1 := length_supP _ _ _
theorem length_subL (N : Int) (xs : List Nat) : (subL N xs).length = xs.length := length_subP _ _ _
theorem gi_supP (N : Int) (xs : List Nat) (q i : Nat) (h : i < q) : gi (supP N xs q) i = supI N xs i := gi_map _ _ _ h
theorem gi_subP (N : Int) (xs : List Nat) (q i : Nat) (h : i < q) : gi (subP N xs q) i = subI N xs i := gi_map _ _ _ h
theorem onesI_bound (N : Int) (xs : List Nat) (n : Int) : 0 ≤ onesI N xs n ∧ onesI N xs n ≤ 1048576 := by
  unfold onesI
  cases h : chk N xs with
  | false => simp
  | true =>
    obtain ⟨h0, h1, _, _⟩ := chk_out N xs h
    have := cntB_le xs (min n N).toNat
    simp only [if_true]
    omega
theorem supI_bound (N : Int) (xs : List Nat) (i : Nat) : 0 ≤ supI N xs i ∧ supI N xs i ≤ 1048576 := onesI_bound _ _ _
theorem subI_bound (N : Int) (xs : List Nat) (i : Nat) : -1048576 ≤ subI N xs i ∧ subI N xs i ≤ 1048576 := by
  have a := onesI_bound N xs (64 * (i : Int))
  have b := supI_bound N xs (i / 8)
  unfold subI
  omega

/-- Whether one may be. -/
def pchk (N : Int) (xs : List Nat) (su sb : List Int) : Bool := chk N xs && (decide (su = supL N xs) && decide (sb = subL N xs))
def pbN (N : Int) (xs : List Nat) : Int := if chk N xs then N else 0
def pbX (N : Int) (xs : List Nat) : List Nat := if chk N xs then xs else []
def pbS (N : Int) (xs : List Nat) : List Int := if chk N xs then supL N xs else []
def pbT (N : Int) (xs : List Nat) : List Int := if chk N xs then subL N xs else []
def pbE (N : Int) (xs : List Nat) : Int := if chk N xs then 0 else 2
def piN (N : Int) (xs : List Nat) (su sb : List Int) : Int := if pchk N xs su sb then N else 0
def piX (N : Int) (xs : List Nat) (su sb : List Int) : List Nat := if pchk N xs su sb then xs else []
def paE (N : Int) (xs : List Nat) (su sb : List Int) (i : Int) : Int := if pchk N xs su sb then getE N xs i else 2
def paB (N : Int) (xs : List Nat) (su sb : List Int) (i : Int) : Bool := pchk N xs su sb && getB N xs i
/-- How many of the first i bits are bit. -/
def cB (xs : List Nat) (bit : Bool) (i : Nat) : Nat := if bit then cntB xs i else i - cntB xs i
def prE (N : Int) (xs : List Nat) (su sb : List Int) (i : Int) : Int := if pchk N xs su sb then (if i < 0 ∨ N < i then 3 else 0) else 2
def prN (N : Int) (xs : List Nat) (su sb : List Int) (bit : Bool) (i : Int) : Int := if prE N xs su sb i = 0 then (cB xs bit i.toNat : Int) else 0
/-- Is there, at place i, the bit that has k such ahead? -/
def here (xs : List Nat) (bit : Bool) (k : Int) (i : Nat) : Bool := (bitAt xs i == bit) && decide ((cB xs bit i : Int) = k)
def pselO (N : Int) (xs : List Nat) (bit : Bool) (k : Int) : Option Nat := (List.range N.toNat).find? (here xs bit k)
def psE (N : Int) (xs : List Nat) (su sb : List Int) (bit : Bool) (k : Int) : Int := if pchk N xs su sb then (if (pselO N xs bit k).isSome then 0 else 3) else 2
def psX (N : Int) (xs : List Nat) (su sb : List Int) (bit : Bool) (k : Int) : Int := if pchk N xs su sb then ((pselO N xs bit k).getD 0 : Int) else 0
def pzN (N : Int) (xs : List Nat) (su sb : List Int) : Int := if pchk N xs su sb then N + 32 * (su.length : Int) + 16 * (sb.length : Int) else 0

theorem pchk_out (N : Int) (xs : List Nat) (su sb : List Int) (h : pchk N xs su sb = true) : chk N xs = true ∧ su = supL N xs ∧ sb = subL N xs := by
  unfold pchk at h
  simp only [Bool.and_eq_true, decide_eq_true_eq] at h
  exact ⟨h.1, h.2.1, h.2.2⟩
theorem pchk_of (N : Int) (xs : List Nat) (h : chk N xs = true) : pchk N xs (supL N xs) (subL N xs) = true := by
  unfold pchk
  simp [h]
theorem cB_le (xs : List Nat) (bit : Bool) (i : Nat) : cB xs bit i ≤ i := by
  unfold cB
  have := cntB_le xs i
  split <;> omega
theorem cB_succ (xs : List Nat) (bit : Bool) (i : Nat) : cB xs bit (i + 1) = cB xs bit i + if bitAt xs i = bit then 1 else 0 := by
  have := cntB_le xs i
  unfold cB
  cases bit with
  | true => simp only [if_true, cntB]
  | false =>
    simp only [cntB]
    cases h : bitAt xs i <;> simp <;> omega
theorem cB_mono (xs : List Nat) (bit : Bool) (i d : Nat) : cB xs bit i ≤ cB xs bit (i + d) := by
  induction d with
  | zero => exact Nat.le_refl _
  | succ d ih => have := cB_succ xs bit (i + d); rw [show i + (d + 1) = i + d + 1 by omega]; omega
theorem here_one (xs : List Nat) (bit : Bool) (k : Int) (i j : Nat) (hi : here xs bit k i = true) (hj : here xs bit k j = true) : i = j := by
  unfold here at hi hj
  simp only [Bool.and_eq_true, beq_iff_eq, decide_eq_true_eq] at hi hj
  rcases Nat.lt_trichotomy i j with c | c | c
  · have a := cB_succ xs bit i
    rw [if_pos hi.1] at a
    have b := cB_mono xs bit (i + 1) (j - (i + 1))
    rw [show i + 1 + (j - (i + 1)) = j by omega] at b
    omega
  · exact c
  · have a := cB_succ xs bit j
    rw [if_pos hj.1] at a
    have b := cB_mono xs bit (j + 1) (i - (j + 1))
    rw [show j + 1 + (i - (j + 1)) = i by omega] at b
    omega
theorem psel_some (N : Int) (xs : List Nat) (bit : Bool) (k : Int) (i : Nat) (hi : i < N.toNat) (h : here xs bit k i = true) : pselO N xs bit k = some i := by
  unfold pselO
  cases hf : (List.range N.toNat).find? (here xs bit k) with
  | none =>
    rw [List.find?_eq_none] at hf
    exact absurd h (by simpa using hf i (List.mem_range.2 hi))
  | some j =>
    have := List.find?_some hf
    rw [here_one xs bit k i j h this]
theorem psel_none (N : Int) (xs : List Nat) (bit : Bool) (k : Int) (h : ∀ i, i < N.toNat → here xs bit k i = false) : pselO N xs bit k = none := by
  unfold pselO
  rw [List.find?_eq_none]
  intro i hi
  have := h i (List.mem_range.1 hi)
  simp [this]
theorem psel_spec (N : Int) (xs : List Nat) (bit : Bool) (k : Int) (i : Nat) (h : pselO N xs bit k = some i) : i < N.toNat ∧ bitAt xs i = bit ∧ (cB xs bit i : Int) = k := by
  unfold pselO at h
  have a := List.find?_some h
  have b := List.mem_range.1 (List.mem_of_find?_eq_some h)
  unfold here at a
  simp only [Bool.and_eq_true, beq_iff_eq, decide_eq_true_eq] at a
  exact ⟨b, a.1, a.2⟩
/-- There is a place just where k counts. -/
theorem psel_iff (N : Int) (xs : List Nat) (bit : Bool) (k : Int) : (pselO N xs bit k).isSome = true ↔ 0 ≤ k ∧ k < (cB xs bit N.toNat : Int) := by
  constructor
  · intro h
    obtain ⟨i, hi⟩ := Option.isSome_iff_exists.1 h
    obtain ⟨h1, h2, h3⟩ := psel_spec N xs bit k i hi
    have a := cB_succ xs bit i
    rw [if_pos h2] at a
    have b := cB_mono xs bit (i + 1) (N.toNat - (i + 1))
    rw [show i + 1 + (N.toNat - (i + 1)) = N.toNat by omega] at b
    omega
  · rintro ⟨h0, h1⟩
    obtain ⟨m, rfl⟩ := Int.eq_ofNat_of_zero_le h0
    have key : ∀ n, m < cB xs bit n → ∃ i, i < n ∧ here xs bit m i = true := by
      intro n
      induction n with
      | zero => intro h; have := cB_le xs bit 0; omega
      | succ n ih =>
        intro h
        rw [cB_succ] at h
        by_cases c : m < cB xs bit n
        · obtain ⟨i, hi, hh⟩ := ih c
          exact ⟨i, by omega, hh⟩
        · by_cases hb : bitAt xs n = bit
          · rw [if_pos hb] at h
            refine ⟨n, by omega, ?_⟩
            unfold here
            simp only [Bool.and_eq_true, beq_iff_eq, decide_eq_true_eq]
            exact ⟨hb, by omega⟩
          · rw [if_neg hb] at h; omega
    obtain ⟨i, hi, hh⟩ := key N.toNat (by omega)
    rw [psel_some N xs bit m i hi hh]
    rfl
end Bit
end Go.Proofs.Ytcgnphffjfffgaa
