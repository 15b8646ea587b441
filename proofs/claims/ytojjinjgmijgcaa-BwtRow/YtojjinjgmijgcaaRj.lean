/-
  The contract of the document's Inverse.
-/
import Derived.Test.YtojjinjgmijgcaaRi
namespace Go.Proofs.Ytojjinjgmijgcaa
open Go.RowKit
set_option linter.unusedVariables false
set_option linter.unusedSimpArgs false
set_option maxRecDepth 100000

namespace Su
/-- The first q numbers are places, no two the same. -/
def Gd (l : List Int) (q : Nat) : Prop := (∀ i, i < q → 0 ≤ gi l i ∧ gi l i < l.length) ∧ ∀ i j, i < j → j < q → gi l i ≠ gi l j
theorem gd_zero (l : List Int) : Gd l 0 := ⟨fun i h => absurd h (Nat.not_lt_zero _), fun i j _ h => absurd h (Nat.not_lt_zero _)⟩
theorem Gd.less {l : List Int} {q p : Nat} (h : Gd l q) (hp : p ≤ q) : Gd l p := ⟨fun i hi => h.1 i (by omega), fun i j a b => h.2 i j a (by omega)⟩
theorem Gd.more {l : List Int} {q : Nat} (h : Gd l q) (h1 : 0 ≤ gi l q) (h2 : gi l q < l.length) (h3 : ∀ i, i < q → gi l i ≠ gi l q) : Gd l (q + 1) := by
  refine ⟨fun i hi => ?_, fun i j a b => ?_⟩
  · by_cases e : i = q
    · subst e; exact ⟨h1, h2⟩
    · exact h.1 i (by omega)
  · by_cases e : j = q
    · subst e; exact h3 i a
    · exact h.2 i j a (by omega)
/-- Which places were met. -/
def mtL (l : List Int) : Nat → List Bool
  | 0 => List.replicate l.length false
  | q + 1 => (mtL l q).set (gi l q).toNat true
/-- Of each place the number that met it. -/
def otL (l : List Int) : Nat → List Nat
  | 0 => List.replicate l.length 0
  | q + 1 => (otL l q).set (gi l q).toNat q
theorem length_mtL (l : List Int) : ∀ q, (mtL l q).length = l.length
  | 0 => List.length_replicate
  | q + 1 => by rw [mtL, List.length_set, length_mtL l q]
theorem length_otL (l : List Int) : ∀ q, (otL l q).length = l.length
  | 0 => List.length_replicate
  | q + 1 => by rw [otL, List.length_set, length_otL l q]
theorem mt_at (l : List Int) : ∀ q p, p < l.length → ((mtL l q)[p]? = some true ↔ ∃ i, i < q ∧ (gi l i).toNat = p)
  | 0, p, hp => by
    rw [mtL, List.getElem?_replicate, if_pos hp]
    simp
  | q + 1, p, hp => by
    rw [mtL, List.getElem?_set, length_mtL]
    by_cases e : (gi l q).toNat = p
    · rw [if_pos e, if_pos (by omega)]
      exact ⟨fun _ => ⟨q, by omega, e⟩, fun _ => rfl⟩
    · rw [if_neg e, mt_at l q p hp]
      refine ⟨fun ⟨i, a, b⟩ => ⟨i, by omega, b⟩, fun ⟨i, a, b⟩ => ⟨i, ?_, b⟩⟩
      by_cases c : i = q
      · subst c; exact absurd b e
      · omega
theorem ot_at (l : List Int) : ∀ q i, Gd l q → q ≤ l.length → i < q → (otL l q)[(gi l i).toNat]? = some i
  | 0, i, _, _, h => absurd h (Nat.not_lt_zero _)
  | q + 1, i, g, hq, h => by
    rw [otL, List.getElem?_set, length_otL]
    by_cases e : i = q
    · subst e
      have := g.1 i h
      rw [if_pos rfl, if_pos (by omega)]
    · have h1 := g.1 i (by omega)
      have h2 := g.1 q (by omega)
      have h3 := g.2 i q (by omega) (by omega)
      rw [if_neg (by omega)]
      exact ot_at l q i (g.less (by omega)) (by omega) (by omega)
/-- The numbers as places. -/
def ns (l : List Int) : List Nat := l.map Int.toNat
theorem length_ns (l : List Int) : (ns l).length = l.length := by simp [ns]
theorem ns_at (l : List Int) {i : Nat} (h : i < l.length) : (ns l)[i]? = some (gi l i).toNat := by
  unfold ns
  rw [List.getElem?_map, gi_get l i h]
  rfl
theorem Gd.pm {l : List Int} (h : Gd l l.length) : Pm (ns l) := by
  refine pm_of ?_ fun x hx => ?_
  · unfold List.Nodup
    rw [List.pairwise_iff_getElem]
    intro i j hi hj hij e
    rw [length_ns] at hi hj
    have a := ns_at l hi
    have b := ns_at l hj
    rw [List.getElem?_eq_getElem (by rw [length_ns]; exact hi)] at a
    rw [List.getElem?_eq_getElem (by rw [length_ns]; exact hj)] at b
    injection a with a
    injection b with b
    have h1 := h.1 i hi
    have h2 := h.1 j hj
    have h3 := h.2 i j hij hj
    rw [a, b] at e
    omega
  · obtain ⟨i, hi⟩ := List.getElem?_of_mem hx
    have hl := (List.getElem?_eq_some_iff.1 hi).1
    rw [length_ns] at hl ⊢
    rw [ns_at l hl] at hi
    injection hi with hi
    have := h.1 i hl
    omega
theorem pm_gd {l : List Int} (h0 : ∀ i, i < l.length → 0 ≤ gi l i) (h : Pm (ns l)) : Gd l l.length := by
  refine ⟨fun i hi => ?_, fun i j hij hj e => ?_⟩
  · have := h.lt (List.mem_of_getElem? (ns_at l hi))
    rw [length_ns] at this
    have := h0 i hi
    omega
  · have hd := h.nodup
    unfold List.Nodup at hd
    rw [List.pairwise_iff_getElem] at hd
    refine hd i j (by rw [length_ns]; omega) (by rw [length_ns]; omega) hij ?_
    have a := ns_at l (show i < l.length by omega)
    have b := ns_at l hj
    rw [List.getElem?_eq_getElem (by rw [length_ns]; omega)] at a b
    injection a with a
    injection b with b
    rw [a, b, e]
theorem ot_inv {l : List Int} (h : Gd l l.length) : otL l l.length = inv (ns l) := by
  refine List.ext_getElem? fun p => ?_
  by_cases hp : p < l.length
  · have hm := h.pm.mem (x := p) (by rw [length_ns]; exact hp)
    obtain ⟨i, hi⟩ := List.getElem?_of_mem hm
    have hl := (List.getElem?_eq_some_iff.1 hi).1
    rw [length_ns] at hl
    rw [h.pm.inv_at hi]
    rw [ns_at l hl] at hi
    injection hi with hi
    have := ot_at l l.length i h (Nat.le_refl _) hl
    rwa [hi] at this
  · rw [List.getElem?_eq_none (by rw [length_otL]; omega), List.getElem?_eq_none (by rw [length_inv, length_ns]; omega)]
open Classical in
noncomputable def invE (l : List Int) : Int := if Gd l l.length then 0 else 2
open Classical in
noncomputable def invL (l : List Int) : List Nat := if Gd l l.length then inv (ns l) else []
theorem inv_yes {l : List Int} (h : Gd l l.length) : invE l = 0 ∧ invL l = inv (ns l) := by
  unfold invE invL
  rw [if_pos h, if_pos h]
  exact ⟨rfl, rfl⟩
theorem inv_no {l : List Int} {q : Nat} (hq : q ≤ l.length) (h : ¬ Gd l q) : invE l = 2 ∧ invL l = [] := by
  have h' : ¬ Gd l l.length := fun g => h (g.less hq)
  unfold invE invL
  rw [if_neg h', if_neg h']
  exact ⟨rfl, rfl⟩
end Su

theorem ns_toI (l : List Nat) : Su.ns (toI l) = l := by
  unfold Su.ns toI
  rw [List.map_map]
  exact (List.map_congr_left fun a _ => by simp).trans (List.map_id l)
theorem toI_ns {l : List Int} (h : ∀ i, i < l.length → 0 ≤ gi l i) : toI (Su.ns l) = l := by
  refine gi_ext (by rw [length_toI, Su.length_ns]) fun i hi => ?_
  rw [length_toI, Su.length_ns] at hi
  rw [gi_toI]
  have e := Su.ns_at l hi
  rw [gt_get _ i (by rw [Su.length_ns]; exact hi)] at e
  injection e with e
  rw [e]
  have := h i hi
  omega
end Go.Proofs.Ytojjinjgmijgcaa
