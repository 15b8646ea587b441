/-
  Plain: places in the order of ends are counts; from an end to the one that begins a sign earlier.
-/
import Derived.Test.YtojjinjgmijgcaaSc
namespace Go.Proofs.Ytojjinjgmijgcaa.Su
set_option linter.unusedVariables false

/-- How many ends are ahead of that at p. -/
def rk (t : List Nat) (p : Nat) : Nat := ct (fun q => ah t q p) (t.length + 1)
theorem ct_congr {a b : Nat → Bool} : ∀ {n : Nat}, (∀ i, i < n → a i = b i) → ct a n = ct b n
  | 0, _ => rfl
  | n + 1, h => by rw [ct, ct, ct_congr fun i hi => h i (by omega), h n (by omega)]
theorem ct_up {b : Nat → Bool} {k : Nat} : ∀ {n : Nat}, k ≤ n → (∀ i, i < k → b i = true) → (∀ i, k ≤ i → i < n → b i = false) → ct b n = k
  | 0, hk, _, _ => by rw [ct]; omega
  | n + 1, hk, h1, h2 => by
    rw [ct]
    by_cases e : k = n + 1
    · subst e
      have : ct b n = n := ct_up (Nat.le_refl _) (fun i hi => h1 i (by omega)) fun i h3 h4 => absurd h4 (by omega)
      rw [this, h1 n (by omega)]
      rfl
    · rw [ct_up (k := k) (by omega) h1 fun i h3 h4 => h2 i h3 (by omega), h2 n (by omega) (by omega)]
      rfl
/-- Where an end stands in the order is how many are ahead of it. -/
theorem so_rank {t l : List Nat} (hp : l.Perm (List.range (t.length + 1))) (hl : So t l) {k p : Nat} (h : l[k]? = some p) : rk t p = k := by
  have hlen : l.length = t.length + 1 := by rw [hp.length_eq, List.length_range]
  obtain ⟨hk, rfl⟩ := List.getElem?_eq_some_iff.1 h
  unfold rk
  rw [← ct_perm (fun q => ah t q l[k]) hp]
  have hg : ∀ i, (hi : i < l.length) → l.getD i 0 = l[i] := fun i hi => by rw [List.getD_eq_getElem?_getD, List.getElem?_eq_getElem hi]; rfl
  refine ct_up (by omega) (fun i hi => ?_) fun i h1 h2 => ?_
  · rw [hg i (by omega)]
    exact List.pairwise_iff_getElem.1 hl i k (by omega) hk hi
  · rw [hg i (by omega)]
    by_cases e : k = i
    · subst e
      exact ah_irr _ _
    · exact lt_asym (List.pairwise_iff_getElem.1 hl k i hk (by omega) (by omega))
/-- The order has each end at as many places as are ahead of it. -/
theorem so_at {t l : List Nat} (hp : l.Perm (List.range (t.length + 1))) (hl : So t l) {p : Nat} (h : p ≤ t.length) : l[rk t p]? = some p := by
  have hm : p ∈ l := hp.mem_iff.2 (List.mem_range.2 (by omega))
  obtain ⟨k, hk⟩ := List.getElem?_of_mem hm
  rw [so_rank hp hl hk, hk]
theorem rk_end (t : List Nat) : rk t t.length = 0 := by
  unfold rk
  refine ct_up (Nat.zero_le _) (fun i hi => absurd hi (Nat.not_lt_zero _)) fun i _ h => ?_
  by_cases e : i = t.length
  · rw [e]; exact ah_irr _ _
  · exact lt_asym (ah_end t (by omega))
theorem ct_split {a b c : Nat → Bool} : ∀ {n : Nat}, (∀ i, i < n → (a i).toNat = (b i).toNat + (c i).toNat) → ct a n = ct b n + ct c n
  | 0, _ => rfl
  | n + 1, h => by
    rw [ct, ct, ct, ct_split fun i hi => h i (by omega), h n (by omega)]
    omega
def sg (t : List Nat) (i : Nat) : Nat := t.getD i 0
theorem ah_cons {t : List Nat} {q p : Nat} (hq : q < t.length) (hp : p < t.length) : ah t q p = (decide (sg t q < sg t p) || (decide (sg t q = sg t p) && ah t (q + 1) (p + 1))) := by
  have e : ∀ i, (hi : i < t.length) → t.drop i = sg t i :: t.drop (i + 1) := fun i hi => by
    unfold sg
    rw [List.drop_eq_getElem_cons hi, List.getD_eq_getElem?_getD, List.getElem?_eq_getElem hi]
    rfl
  unfold ah
  rw [e q hq, e p hp, lt]
/-- How many signs are less than c, and the empty end. -/
def first (t : List Nat) (c : Nat) : Nat := 1 + ct (fun q => decide (sg t q < c)) t.length
/-- One sign earlier: the signs that are less, and those like it whose ends behind them are ahead. -/
theorem rk_step {t : List Nat} {p : Nat} (hp : p < t.length) : rk t p = first t (sg t p) + ct (fun q => decide (sg t q = sg t p) && ah t (q + 1) (p + 1)) t.length := by
  unfold rk first
  rw [ct, ah_end t hp, ct_split (a := fun q => ah t q p) (b := fun q => decide (sg t q < sg t p)) (c := fun q => decide (sg t q = sg t p) && ah t (q + 1) (p + 1)) fun q hq => ?_]
  · have : true.toNat = 1 := rfl
    omega
  · show (ah t q p).toNat = _
    rw [ah_cons hq hp]
    by_cases h1 : sg t q < sg t p
    · rw [decide_eq_true h1, decide_eq_false (show ¬ sg t q = sg t p by omega)]
      rfl
    · rw [decide_eq_false h1]
      simp
/-- What is so of places behind a sign, counted along the order of ends up to a place. -/
theorem ct_ahead {t l : List Nat} (hp : l.Perm (List.range (t.length + 1))) (hl : So t l) {p : Nat} (h : p ≤ t.length) (f : Nat → Bool) : ct (fun k => f (l.getD k 0)) (rk t p) = ct (fun q => f q && ah t q p) (t.length + 1) := by
  rw [← ct_perm (fun q => f q && ah t q p) hp]
  have hlen : l.length = t.length + 1 := by rw [hp.length_eq, List.length_range]
  have hk := so_at hp hl h
  obtain ⟨hr, hre⟩ := List.getElem?_eq_some_iff.1 hk
  have hg : ∀ i, (hi : i < l.length) → l.getD i 0 = l[i] := fun i hi => by rw [List.getD_eq_getElem?_getD, List.getElem?_eq_getElem hi]; rfl
  have key : ∀ n, rk t p ≤ n → n ≤ l.length → ct (fun k => f (l.getD k 0) && ah t (l.getD k 0) p) n = ct (fun k => f (l.getD k 0)) (rk t p) := by
    intro n
    induction n with
    | zero => intro h1 _; rw [show rk t p = 0 by omega]; rfl
    | succ n ih =>
      intro h1 h2
      by_cases e : rk t p = n + 1
      · rw [e]
        refine ct_congr fun i hi => ?_
        have := List.pairwise_iff_getElem.1 hl i (rk t p) (by omega) hr (by omega)
        rw [hre] at this
        rw [hg i (by omega), this, Bool.and_true]
      · rw [ct, ih (by omega) (by omega)]
        have : ah t (l.getD n 0) p = false := by
          rw [hg n (by omega)]
          by_cases e2 : rk t p = n
          · have : l[n]? = some p := by rw [← e2]; exact hk
            rw [List.getElem?_eq_getElem (by omega)] at this
            injection this with this
            rw [this]
            exact ah_irr _ _
          · have := List.pairwise_iff_getElem.1 hl (rk t p) n hr (by omega) (by omega)
            rw [hre] at this
            exact lt_asym this
        rw [this, Bool.and_false]
        rfl
  exact (key (t.length + 1) (by omega) (by omega)).symm
theorem ct_shift (f : Nat → Bool) (h0 : f 0 = false) : ∀ n, ct f (n + 1) = ct (fun q => f (q + 1)) n
  | 0 => by rw [ct, ct, ct, h0]; rfl
  | n + 1 => by rw [ct, ct_shift f h0 n, ct]
/-- From the place of an end to that of the one that begins a sign earlier. -/
theorem lf {t l : List Nat} (hp : l.Perm (List.range (t.length + 1))) (hl : So t l) {p : Nat} (h : p < t.length) : rk t p = first t (sg t p) + ct (fun k => decide (0 < l.getD k 0) && decide (sg t (l.getD k 0 - 1) = sg t p)) (rk t (p + 1)) := by
  rw [rk_step h, ct_ahead hp hl (p := p + 1) (by omega) fun q => decide (0 < q) && decide (sg t (q - 1) = sg t p), ct_shift _ (by simp)]
  congr 1
end Go.Proofs.Ytojjinjgmijgcaa.Su
