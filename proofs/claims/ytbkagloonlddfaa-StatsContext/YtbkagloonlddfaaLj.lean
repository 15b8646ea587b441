/-
  Plain: symbols by the one ahead need no more than without, but for roundings.
-/
import Derived.Test.YtbkagloonlddfaaSt5
import Derived.Test.YtbkagloonlddfaaLe
namespace Go.Proofs.Ytbkagloonlddfaa
set_option linter.unusedVariables false
set_option linter.unusedSimpArgs false
set_option maxRecDepth 10000
namespace Lg

theorem sm_add (f g : Nat → Nat) : ∀ n, sm (fun i => f i + g i) n = sm f n + sm g n
  | 0 => rfl
  | n + 1 => by rw [sm, sm, sm, sm_add f g n]; omega
theorem sm_mul (f : Nat → Nat) (k : Nat) : ∀ n, sm (fun i => f i * k) n = sm f n * k
  | 0 => (Nat.zero_mul _).symm
  | n + 1 => by rw [sm, sm, sm_mul f k n, Nat.add_mul]
theorem sm_le {f g : Nat → Nat} : ∀ {n}, (∀ i, i < n → f i ≤ g i) → sm f n ≤ sm g n
  | 0, _ => Nat.le_refl _
  | n + 1, h => by
    have := sm_le (n := n) fun i hi => h i (by omega)
    have := h n (by omega)
    rw [sm, sm]
    omega
theorem sm_zero : ∀ n, sm (fun _ => 0) n = 0
  | 0 => rfl
  | n + 1 => by rw [sm, sm_zero n]
theorem sm_one (x : Nat) : ∀ n, sm (fun j => (decide (x = j)).toNat) n = (decide (x < n)).toNat
  | 0 => by simp [sm]
  | n + 1 => by
    rw [sm, sm_one x n]
    by_cases h : x < n
    · rw [decide_eq_true h, decide_eq_false (show ¬ x = n by omega), decide_eq_true (show x < n + 1 by omega)]
      rfl
    · rw [decide_eq_false h]
      by_cases e : x = n
      · rw [decide_eq_true e, decide_eq_true (show x < n + 1 by omega)]
        rfl
      · rw [decide_eq_false e, decide_eq_false (show ¬ x < n + 1 by omega)]
        rfl
theorem sm_swap (F : Nat → Nat → Nat) (m : Nat) : ∀ n, sm (fun c => sm (F c) m) n = sm (fun j => sm (fun c => F c j) n) m
  | 0 => by show 0 = sm (fun j => 0) m; rw [sm_zero]
  | n + 1 => by
    rw [sm, sm_swap F m n, ← sm_add]
    rfl
/-- Counted by what it is, all are counted. -/
theorem ct_by (A : Nat → Bool) (g : Nat → Nat) (N : Nat) (hg : ∀ i, g i < N) : ∀ q, sm (fun j => Su.ct (fun i => A i && decide (g i = j)) q) N = Su.ct A q
  | 0 => by show sm (fun j => 0) N = 0; exact sm_zero N
  | q + 1 => by
    have e : (fun j => Su.ct (fun i => A i && decide (g i = j)) (q + 1)) = fun j => Su.ct (fun i => A i && decide (g i = j)) q + (A q && decide (g q = j)).toNat := rfl
    rw [e, sm_add, ct_by A g N hg q]
    show _ = Su.ct A q + (A q).toNat
    congr 1
    cases h : A q with
    | false =>
      show sm (fun j => 0) N = 0
      exact sm_zero N
    | true =>
      have : (fun j => (true && decide (g q = j)).toNat) = fun j => (decide (g q = j)).toNat := by funext j; simp
      rw [this, sm_one, decide_eq_true (hg q)]
theorem sum_range (f : Nat → Nat) : ∀ n, sum ((List.range n).map f) = sm f n
  | 0 => rfl
  | n + 1 => by rw [List.range_succ, List.map_append, sum_app, sum_range f n]; simp [sum, sm]
theorem sum_flat {α : Type} (G : Nat → List α) (f : α → Nat) : ∀ n, sum (((List.range n).flatMap G).map f) = sm (fun c => sum ((G c).map f)) n
  | 0 => rfl
  | n + 1 => by
    rw [List.range_succ, List.flatMap_append, List.map_append, sum_app, sum_flat G f n]
    simp [sm]
theorem sum_filter {α : Type} (p : α → Bool) (f : α → Nat) (h : ∀ a, p a = false → f a = 0) : ∀ l : List α, sum ((l.filter p).map f) = sum (l.map f)
  | [] => rfl
  | a :: l => by
    rw [List.filter_cons]
    cases e : p a with
    | true => simp only [if_true, List.map_cons, sum, sum_filter p f h l]
    | false =>
      simp only [Bool.false_eq_true, if_false, List.map_cons, sum, sum_filter p f h l, h a e]
      omega
theorem sum_filter_le {α : Type} (p : α → Bool) (f : α → Nat) : ∀ l : List α, sum ((l.filter p).map f) ≤ sum (l.map f)
  | [] => Nat.le_refl _
  | a :: l => by
    have ih := sum_filter_le p f l
    rw [List.filter_cons]
    cases e : p a with
    | true => simp only [if_true, List.map_cons, sum]; omega
    | false => simp only [Bool.false_eq_true, if_false, List.map_cons, sum]; omega

/-- How often j stands behind c, among the first q. -/
def pc (t : List Nat) (c j q : Nat) : Nat := Su.ct (fun i => decide (gt t i = c) && decide (gt t (i + 1) = j)) q
def kc (t : List Nat) (j q : Nat) : Nat := Su.ct (fun i => decide (gt t (i + 1) = j)) q
theorem ct_cong {a b : Nat → Bool} : ∀ {n : Nat}, (∀ i, i < n → a i = b i) → Su.ct a n = Su.ct b n
  | 0, _ => rfl
  | n + 1, h => by rw [Su.ct, Su.ct, ct_cong fun i hi => h i (by omega), h n (by omega)]
theorem ct_true : ∀ q, Su.ct (fun _ => true) q = q
  | 0 => rfl
  | q + 1 => by rw [Su.ct, ct_true q]; rfl
theorem cn_snoc (l : List Nat) (x j : Nat) : cn (l ++ [x]) j (l ++ [x]).length = cn l j l.length + (decide (x = j)).toNat := by
  rw [List.length_append]
  show cn (l ++ [x]) j (l.length + 1) = _
  rw [cn_step]
  congr 1
  · refine ct_cong fun i hi => ?_
    rw [Su.gt_app, if_pos hi]
  · rw [Su.gt_app, if_neg (by omega), Nat.sub_self]
    rfl
theorem cn_nx (t : List Nat) (c j : Nat) : ∀ q, cn (nx t c q) j (nx t c q).length = pc t c j q
  | 0 => rfl
  | q + 1 => by
    have e : pc t c j (q + 1) = pc t c j q + (decide (gt t q = c) && decide (gt t (q + 1) = j)).toNat := rfl
    rw [e, nx]
    by_cases h : gt t q = c
    · rw [if_pos h, cn_snoc, cn_nx t c j q, decide_eq_true h, Bool.true_and]
    · rw [if_neg h, cn_nx t c j q, decide_eq_false h]
      rfl
theorem len_nx (t : List Nat) (c : Nat) : ∀ q, (nx t c q).length = cn t c q
  | 0 => rfl
  | q + 1 => by
    rw [nx, cn_step, ← len_nx t c q]
    by_cases h : gt t q = c
    · rw [if_pos h, decide_eq_true h, List.length_append]
      rfl
    · rw [if_neg h, decide_eq_false h]
      rfl
theorem pc_row {t : List Nat} (hb : Bytes t) (c q : Nat) : sm (fun j => pc t c j q) 256 = cn t c q := ct_by (fun i => decide (gt t i = c)) (fun i => gt t (i + 1)) 256 (fun i => gt_lt hb _) q
theorem pc_col {t : List Nat} (hb : Bytes t) (j q : Nat) : sm (fun c => pc t c j q) 256 = kc t j q := by
  have := ct_by (fun i => decide (gt t (i + 1) = j)) (fun i => gt t i) 256 (fun i => gt_lt hb _) q
  rw [show kc t j q = Su.ct (fun i => decide (gt t (i + 1) = j)) q from rfl, ← this]
  refine sm_congr fun c _ => ?_
  exact ct_cong fun i _ => Bool.and_comm _ _
theorem cn_all {t : List Nat} (hb : Bytes t) (q : Nat) : sm (fun c => cn t c q) 256 = q := by
  have := ct_by (fun _ => true) (fun i => gt t i) 256 (fun i => gt_lt hb _) q
  rw [ct_true] at this
  refine Eq.trans (sm_congr fun c _ => ?_) this
  exact ct_cong fun i _ => (Bool.true_and _).symm
theorem kc_all {t : List Nat} (hb : Bytes t) (q : Nat) : sm (fun j => kc t j q) 256 = q := by
  have := ct_by (fun _ => true) (fun i => gt t (i + 1)) 256 (fun i => gt_lt hb _) q
  rw [ct_true] at this
  refine Eq.trans (sm_congr fun c _ => ?_) this
  exact ct_cong fun i _ => (Bool.true_and _).symm
theorem kc_cn (t : List Nat) (j : Nat) : ∀ q, cn t j (q + 1) = kc t j q + (decide (gt t 0 = j)).toNat
  | 0 => by show 0 + _ = 0 + _; rfl
  | q + 1 => by
    rw [cn_step, kc_cn t j q]
    show _ = kc t j q + (decide (gt t (q + 1) = j)).toNat + _
    omega
/-- What is needed, with what is left out. -/
theorem en_eq (v : Nat → Nat) (N : Nat) (hN : ∀ i, v i ≠ 0 → lg (v i) ≤ lg N) : ∀ n, en v N n + sm (fun i => v i * lg (v i)) n = sm v n * lg N
  | 0 => (Nat.zero_mul _).symm
  | n + 1 => by
    have ih := en_eq v N hN n
    have h1 : v n * (lg N - lg (v n)) + v n * lg (v n) = v n * lg N := by
      by_cases h0 : v n = 0
      · rw [h0, Nat.zero_mul, Nat.zero_mul, Nat.zero_mul]
      · rw [← Nat.mul_add, Nat.sub_add_cancel (hN n h0)]
    rw [en, sm, sm, Nat.add_mul]
    omega
theorem pc_le_cn (t : List Nat) (c j q : Nat) : pc t c j q ≤ cn t c q := by
  induction q with
  | zero => exact Nat.le_refl _
  | succ q ih =>
    show pc t c j q + (decide (gt t q = c) && decide (gt t (q + 1) = j)).toNat ≤ cn t c q + (decide (gt t q = c)).toNat
    have : (decide (gt t q = c) && decide (gt t (q + 1) = j)).toNat ≤ (decide (gt t q = c)).toNat := by cases decide (gt t q = c) <;> cases decide (gt t (q + 1) = j) <;> decide
    omega
theorem pc_le_kc (t : List Nat) (c j q : Nat) : pc t c j q ≤ kc t j q := by
  induction q with
  | zero => exact Nat.le_refl _
  | succ q ih =>
    show pc t c j q + (decide (gt t q = c) && decide (gt t (q + 1) = j)).toNat ≤ kc t j q + (decide (gt t (q + 1) = j)).toNat
    have : (decide (gt t q = c) && decide (gt t (q + 1) = j)).toNat ≤ (decide (gt t (q + 1) = j)).toNat := by cases decide (gt t q = c) <;> cases decide (gt t (q + 1) = j) <;> decide
    omega
theorem kc_le (t : List Nat) (j q : Nat) : kc t j q ≤ q := Su.ct_le _ _
/-- The cells that are not empty. -/
def cel (t : List Nat) (M : Nat) : List (Nat × Nat × Nat) := ((List.range 256).flatMap fun c => (List.range 256).map fun j => (pc t c j M, cn t c M, kc t j M)).filter fun p => decide (p.1 ≠ 0)
theorem sum_cel (t : List Nat) (M : Nat) (f : Nat × Nat × Nat → Nat) (h : ∀ a, a.1 = 0 → f a = 0) : sum ((cel t M).map f) = sm (fun c => sm (fun j => f (pc t c j M, cn t c M, kc t j M)) 256) 256 := by
  unfold cel
  rw [sum_filter _ f (fun a ha => h a (by simpa using ha)), sum_flat]
  refine sm_congr fun c _ => ?_
  rw [List.map_map]
  exact sum_range _ 256
theorem cel_mem {t : List Nat} {M : Nat} {p : Nat × Nat × Nat} (h : p ∈ cel t M) : (p.1 ≠ 0 ∧ p.1 ≤ M) ∧ (p.2.1 ≠ 0 ∧ p.2.1 ≤ M) ∧ (p.2.2 ≠ 0 ∧ p.2.2 ≤ M) := by
  unfold cel at h
  obtain ⟨h1, h2⟩ := List.mem_filter.1 h
  obtain ⟨c, _, h3⟩ := List.mem_flatMap.1 h1
  obtain ⟨j, _, rfl⟩ := List.mem_map.1 h3
  have h4 : pc t c j M ≠ 0 := by simpa using h2
  have a := pc_le_cn t c j M
  have b := pc_le_kc t c j M
  have d := cn_le t c M
  have e := kc_le t j M
  refine ⟨⟨h4, ?_⟩, ⟨?_, d⟩, ⟨?_, e⟩⟩
  · show pc t c j M ≤ M; omega
  · show cn t c M ≠ 0; omega
  · show kc t j M ≠ 0; omega
/-- What all symbols need by the one ahead, together. -/
def sS (t : List Nat) (M : Nat) : Nat := sm (fun c => en (fun j => pc t c j M) (cn t c M) 256) 256
theorem by_one {t : List Nat} (hb : Bytes t) {M : Nat} (hM : M ≠ 0) (hM2 : M ≤ 1073741824) : sS t M + sm (fun j => kc t j M * lg (kc t j M)) 256 ≤ M * lg M + 4 * M := by
  have e1 : sum ((cel t M).map fun p => p.1) = M := by
    rw [sum_cel t M _ fun a h => h]
    rw [sm_congr (u := fun c => cn t c M) fun c _ => pc_row hb c M]
    exact cn_all hb M
  have e2 : sum ((cel t M).map fun p => p.2.1 * p.2.2) ≤ M * M := by
    unfold cel
    refine Nat.le_trans (sum_filter_le _ _ _) ?_
    rw [sum_flat]
    have : ∀ c, sum (((List.range 256).map fun j => (pc t c j M, cn t c M, kc t j M)).map fun p => p.2.1 * p.2.2) = cn t c M * M := fun c => by
      rw [List.map_map]
      show sum ((List.range 256).map fun j => cn t c M * kc t j M) = _
      rw [sum_range, sm_congr (u := fun j => kc t j M * cn t c M) fun j _ => Nat.mul_comm _ _, sm_mul, kc_all hb, Nat.mul_comm]
    rw [sm_congr fun c _ => this c, sm_mul, cn_all hb]
    exact Nat.le_refl _
  have h := cells (cel t M) M e1.symm hM hM2 (fun p hp => cel_mem hp) e2
  rw [sum_cel t M _ (fun a h => by rw [h, Nat.zero_mul]), sum_cel t M _ (fun a h => by rw [h, Nat.zero_mul]), sum_cel t M _ (fun a h => by rw [h, Nat.zero_mul])] at h
  dsimp only at h
  have e3 : sm (fun c => sm (fun j => pc t c j M * lg (cn t c M)) 256) 256 = sS t M + sm (fun c => sm (fun j => pc t c j M * lg (pc t c j M)) 256) 256 := by
    unfold sS
    rw [← sm_add]
    refine sm_congr fun c _ => ?_
    rw [sm_mul, ← en_eq (fun j => pc t c j M) (cn t c M) fun j hj => lg_le hj (pc_le_cn t c j M)]
  have e4 : sm (fun c => sm (fun j => pc t c j M * lg (kc t j M)) 256) 256 = sm (fun j => kc t j M * lg (kc t j M)) 256 := by
    rw [sm_swap]
    refine sm_congr fun j _ => ?_
    rw [sm_mul, pc_col hb]
  rw [e3, e4] at h
  omega
theorem self_low (E : Nat) (lo : ∀ x, x ≠ 0 → x ≤ 1073741824 → 2 ^ lg x ≤ x ^ E) (x : Nat) (h : x ≤ 1073741824) : 2 ^ (x * lg x) ≤ (x ^ x) ^ E := by
  by_cases h0 : x = 0
  · subst h0
    rw [Nat.zero_mul, Nat.pow_zero, Nat.one_pow]
    exact Nat.le_refl _
  · rw [pow_swap, Nat.mul_comm x, Nat.pow_mul]
    exact Nat.pow_le_pow_left (lo x h0 h) _
theorem self_up (E : Nat) (up : ∀ x, x ≠ 0 → x ≤ 1073741824 → x ^ E ≤ 2 ^ (lg x + 2)) (x : Nat) (h : x ≤ 1073741824) : (x ^ x) ^ E ≤ 2 ^ (x * (lg x + 2)) := by
  by_cases h0 : x = 0
  · subst h0
    rw [Nat.zero_mul, Nat.pow_zero, Nat.one_pow]
    exact Nat.le_refl _
  · rw [pow_swap, Nat.mul_comm x (lg x + 2), Nat.pow_mul]
    exact Nat.pow_le_pow_left (up x h0 h) _
theorem grow_e (E : Nat) (lo : ∀ x, x ≠ 0 → x ≤ 1073741824 → 2 ^ lg x ≤ x ^ E) (up : ∀ x, x ≠ 0 → x ≤ 1073741824 → x ^ E ≤ 2 ^ (lg x + 2)) (a d : Nat) (h : a + d + 1 ≤ 1073741824) : (a + 1) * lg (a + 1) + (a + d) * lg (a + d) ≤ (a + d + 1) * (lg (a + d + 1) + 2) + a * (lg a + 2) := by
  have g := Nat.pow_le_pow_left (grow a d) E
  rw [Nat.mul_pow, Nat.mul_pow] at g
  have l1 := self_low E lo (a + 1) (by omega)
  have l2 := self_low E lo (a + d) (by omega)
  have u1 := self_up E up (a + d + 1) h
  have u2 := self_up E up a (by omega)
  have c := Nat.le_trans (Nat.mul_le_mul l1 l2) (Nat.le_trans g (Nat.mul_le_mul u1 u2))
  rw [← Nat.pow_add, ← Nat.pow_add] at c
  exact (Nat.pow_le_pow_iff_right (by decide)).1 c
theorem grow_lg (a M : Nat) (ha : a ≤ M) (h : M + 1 ≤ 1073741824) : (a + 1) * lg (a + 1) + M * lg M ≤ (M + 1) * lg (M + 1) + a * lg a + 2 * (M + 1) + 2 * a := by
  obtain ⟨d, rfl⟩ : ∃ d, M = a + d := ⟨M - a, by omega⟩
  have := grow_e 65536 (fun x p q => @lg_low x p q) (fun x p q => @lg_up x p q) a d (by omega)
  rw [Nat.mul_add, Nat.mul_add] at this
  omega
end Lg
end Go.Proofs.Ytbkagloonlddfaa
