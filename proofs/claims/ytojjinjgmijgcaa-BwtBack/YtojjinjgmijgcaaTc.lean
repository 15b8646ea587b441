/-
  The contract of the program's Inverse.
-/
import Derived.Test.YtojjinjgmijgcaaRj
namespace Go.Proofs.Ytojjinjgmijgcaa
open Go.RowKit
set_option linter.unusedVariables false
set_option linter.unusedSimpArgs false
set_option maxRecDepth 100000

/-- The values of a list of numbers. -/
def zv (l : List Int) : List Value := l.map (Value.int .i64)
theorem length_zv (l : List Int) : (zv l).length = l.length := by simp [zv]
theorem zv_get (l : List Int) (i : Nat) {x : Int} (h : l[i]? = some x) : (zv l)[i]? = some (.int .i64 x) := by
  unfold zv
  rw [List.getElem?_map, h]; rfl
theorem zv_set (l : List Int) (i : Nat) (v : Int) : (zv l).set i (.int .i64 v) = zv (l.set i v) := by
  unfold zv
  rw [List.map_set]
theorem zv_toI (l : List Nat) : zv (toI l) = iv l := by
  unfold zv toI iv
  rw [List.map_map]
  rfl
namespace Su
/-- The first k are nowhere yet, the others nought. -/
def fz (n k : Nat) : List Int := List.replicate k (-1) ++ List.replicate (n - k) 0
theorem fz_set {n k : Nat} (h : k < n) : (fz n k).set k (-1) = fz n (k + 1) := by
  unfold fz
  rw [List.set_append_right _ _ (by simp), List.length_replicate, Nat.sub_self, show n - k = (n - (k + 1)) + 1 by omega, List.replicate_succ, List.set_cons_zero, show k + 1 = k + 1 from rfl, List.replicate_succ', List.append_assoc]
  rfl
theorem fz_get {n k : Nat} (h : k < n) : (fz n k)[k]? = some 0 := by
  unfold fz
  rw [List.getElem?_append_right (by simp), List.length_replicate, Nat.sub_self, List.getElem?_replicate, if_pos (by omega)]
theorem fz_zero (n : Nat) : fz n 0 = toI (List.replicate n 0) := by simp [fz, toI]
theorem fz_all (n : Nat) : fz n n = List.replicate n (-1) := by simp [fz]
/-- Of each place the number that met it, or nowhere. -/
def azL (l : List Int) : Nat → List Int
  | 0 => List.replicate l.length (-1)
  | q + 1 => (azL l q).set (gi l q).toNat (q : Int)
theorem length_azL (l : List Int) : ∀ q, (azL l q).length = l.length
  | 0 => List.length_replicate
  | q + 1 => by rw [azL, List.length_set, length_azL l q]
theorem az_met (l : List Int) : ∀ q p, p < l.length → ((azL l q)[p]? = some (-1) ∧ ∀ i, i < q → (gi l i).toNat ≠ p) ∨ ∃ i, i < q ∧ (gi l i).toNat = p ∧ (azL l q)[p]? = some (i : Int)
  | 0, p, hp => .inl ⟨by rw [azL, List.getElem?_replicate, if_pos hp], fun i h => absurd h (Nat.not_lt_zero _)⟩
  | q + 1, p, hp => by
    rw [azL, List.getElem?_set, length_azL]
    by_cases e : (gi l q).toNat = p
    · rw [if_pos e, if_pos (by omega)]
      exact .inr ⟨q, by omega, e, rfl⟩
    · rw [if_neg e]
      rcases az_met l q p hp with ⟨h1, h2⟩ | ⟨i, h1, h2, h3⟩
      · refine .inl ⟨h1, fun i hi => ?_⟩
        by_cases c : i = q
        · subst c; exact e
        · exact h2 i (by omega)
      · exact .inr ⟨i, by omega, h2, h3⟩
theorem az_inv {l : List Int} (h : Gd l l.length) : azL l l.length = toI (inv (ns l)) := by
  refine List.ext_getElem? fun p => ?_
  by_cases hp : p < l.length
  · have hm := h.pm.mem (x := p) (by rw [length_ns]; exact hp)
    obtain ⟨i, hi⟩ := List.getElem?_of_mem hm
    have hl := (List.getElem?_eq_some_iff.1 hi).1
    rw [length_ns] at hl
    have e2 := h.pm.inv_at hi
    unfold toI
    rw [List.getElem?_map, e2]
    rw [ns_at l hl] at hi
    injection hi with hi
    rcases az_met l l.length p hp with ⟨_, h2⟩ | ⟨k, h1, h2, h3⟩
    · exact absurd hi (h2 i hl)
    · rw [h3]
      have g1 := h.1 i hl
      have g2 := h.1 k h1
      have : k = i := by
        by_cases c : k < i
        · have := h.2 k i c hl; omega
        · by_cases c2 : i < k
          · have := h.2 i k c2 h1; omega
          · omega
      rw [this]
      rfl
  · rw [List.getElem?_eq_none (by rw [length_azL]; omega), List.getElem?_eq_none (by rw [length_toI, length_inv, length_ns]; omega)]
end Su
end Go.Proofs.Ytojjinjgmijgcaa
