/-
  Plain: texts, turned; a step leads to the end that begins a sign earlier.
-/
import Derived.Test.YtojjinjgmijgcaaSd
namespace Go.Proofs.Ytojjinjgmijgcaa.Su
set_option linter.unusedVariables false

/-- A place in the order, among those that are not the whole text's. -/
def ix (R i : Nat) : Nat := if i ≤ R then i else i - 1
/-- The signs ahead of the ends, in order, but of the whole text. -/
def la (t l : List Nat) (R : Nat) : List Nat := (List.range t.length).map fun j => sg t (l.getD (if j < R then j else j + 1) 0 - 1)
theorem length_la (t l : List Nat) (R : Nat) : (la t l R).length = t.length := by simp [la]
theorem sg_la {t l : List Nat} {R i : Nat} (hR : i ≠ R) (hi : i ≤ t.length) : sg (la t l R) (ix R i) = sg t (l.getD i 0 - 1) ∨ (t.length ≤ ix R i) := by
  by_cases h : ix R i < t.length
  · refine .inl ?_
    unfold sg la
    rw [List.getD_eq_getElem?_getD, List.getElem?_map, List.getElem?_range h]
    show sg t _ = _
    unfold ix
    by_cases c : i ≤ R
    · rw [if_pos c, if_pos (by omega)]
      rfl
    · rw [if_neg c, if_neg (by omega), show i - 1 + 1 = i by omega]
      rfl
  · exact .inr (by omega)
theorem ix_lt {R i n : Nat} (hR : R ≤ n) (hi : i ≤ n) (hne : i ≠ R) : ix R i < n := by
  unfold ix
  split <;> omega
theorem ix_succ {R i : Nat} : ix R (i + 1) = if i = R then ix R i else ix R i + 1 := by
  unfold ix
  by_cases h : i = R
  · subst h
    rw [if_neg (by omega), if_pos rfl, if_pos (Nat.le_refl _)]
    omega
  · rw [if_neg h]
    by_cases c : i + 1 ≤ R
    · rw [if_pos c, if_pos (by omega)]
    · rw [if_neg c, if_neg (by omega)]
      omega
/-- Counts among the signs are counts along the order. -/
theorem ct_la {t l : List Nat} {R : Nat} (hR : R ≤ t.length) (h0 : l.getD R 0 = 0) (hp : ∀ i, i ≤ t.length → i ≠ R → 0 < l.getD i 0) (c : Nat) : ∀ i, i ≤ t.length + 1 → ct (fun j => decide (sg (la t l R) j = c)) (ix R i) = ct (fun k => decide (0 < l.getD k 0) && decide (sg t (l.getD k 0 - 1) = c)) i
  | 0, _ => by
    have : ix R 0 = 0 := by unfold ix; rw [if_pos (Nat.zero_le _)]
    rw [this]
    rfl
  | i + 1, hi => by
    have es : ct (fun k => decide (0 < l.getD k 0) && decide (sg t (l.getD k 0 - 1) = c)) (i + 1) = ct (fun k => decide (0 < l.getD k 0) && decide (sg t (l.getD k 0 - 1) = c)) i + (decide (0 < l.getD i 0) && decide (sg t (l.getD i 0 - 1) = c)).toNat := rfl
    rw [ix_succ, es]
    by_cases e : i = R
    · rw [if_pos e, ct_la hR h0 hp c i (by omega), e, h0]
      simp
    · rw [if_neg e, ct, ct_la hR h0 hp c i (by omega)]
      congr 1
      have h1 := (sg_la (t := t) (l := l) e (by omega)).resolve_right (by have := ix_lt hR (by omega) e; omega)
      rw [h1, decide_eq_true (hp i (by omega) e), Bool.true_and]
/-- What Step answers. -/
def stp (L : List Nat) (R : Nat) (C : Nat → Nat) (i : Nat) : Nat := if i = R then 0 else C (sg L (ix R i)) + ct (fun j => decide (sg L j = sg L (ix R i))) (ix R i)
theorem row_zero {t l : List Nat} (hp : l.Perm (List.range (t.length + 1))) (hl : So t l) : l.getD (rk t 0) 0 = 0 := by
  rw [List.getD_eq_getElem?_getD, so_at hp hl (Nat.zero_le _)]
  rfl
theorem rk_le {t l : List Nat} (hp : l.Perm (List.range (t.length + 1))) (hl : So t l) {p : Nat} (h : p ≤ t.length) : rk t p ≤ t.length := by
  have := (List.getElem?_eq_some_iff.1 (so_at hp hl h)).1
  rw [hp.length_eq, List.length_range] at this
  omega
theorem rk_inj {t l : List Nat} (hp : l.Perm (List.range (t.length + 1))) (hl : So t l) {p q : Nat} (h1 : p ≤ t.length) (h2 : q ≤ t.length) (h : rk t p = rk t q) : p = q := by
  have a := so_at hp hl h1
  rw [h, so_at hp hl h2] at a
  exact (Option.some.inj a).symm
theorem not_row {t l : List Nat} (hp : l.Perm (List.range (t.length + 1))) (hl : So t l) {i : Nat} (hi : i ≤ t.length) (hne : i ≠ rk t 0) : 0 < l.getD i 0 := by
  have hlen : l.length = t.length + 1 := by rw [hp.length_eq, List.length_range]
  obtain ⟨q, hq⟩ : ∃ q, l[i]? = some q := ⟨_, List.getElem?_eq_getElem (by omega)⟩
  have e := so_rank hp hl hq
  rw [List.getD_eq_getElem?_getD, hq]
  show 0 < q
  by_cases z : q = 0
  · subst z
    exact absurd e.symm hne
  · omega
/-- The sign ahead of an end. -/
theorem la_at {t l : List Nat} (hp : l.Perm (List.range (t.length + 1))) (hl : So t l) {p : Nat} (h : p < t.length) : rk t (p + 1) ≠ rk t 0 ∧ sg (la t l (rk t 0)) (ix (rk t 0) (rk t (p + 1))) = sg t p := by
  have hne : rk t (p + 1) ≠ rk t 0 := fun e => by
    have := rk_inj hp hl (by omega) (Nat.zero_le _) e
    omega
  refine ⟨hne, ?_⟩
  have hr := rk_le hp hl (p := p + 1) (by omega)
  rw [(sg_la (t := t) (l := l) hne hr).resolve_right (by have := ix_lt (rk_le hp hl (Nat.zero_le _)) hr hne; omega), List.getD_eq_getElem?_getD, so_at hp hl (by omega)]
  rfl
/-- A step leads to the end that begins a sign earlier. -/
theorem stp_at {t l : List Nat} (hp : l.Perm (List.range (t.length + 1))) (hl : So t l) {p : Nat} (h : p < t.length) : stp (la t l (rk t 0)) (rk t 0) (first t) (rk t (p + 1)) = rk t p := by
  obtain ⟨hne, e⟩ := la_at hp hl h
  unfold stp
  rw [if_neg hne, e, ct_la (rk_le hp hl (Nat.zero_le _)) (row_zero hp hl) (fun i h1 h2 => not_row hp hl h1 h2) (sg t p) _ (by have := rk_le hp hl (p := p + 1) (by omega); omega)]
  exact (lf hp hl h).symm
theorem stp_row (L : List Nat) (R : Nat) (C : Nat → Nat) : stp L R C R = 0 := by
  unfold stp
  rw [if_pos rfl]
end Go.Proofs.Ytojjinjgmijgcaa.Su
