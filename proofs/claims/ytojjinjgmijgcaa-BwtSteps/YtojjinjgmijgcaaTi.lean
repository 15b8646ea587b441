/-
  Plain: names by pairs, as long as some are alike: what Array's way comes to.
-/
import Derived.Test.YtojjinjgmijgcaaTh
namespace Go.Proofs.Ytojjinjgmijgcaa.Su
set_option linter.unusedVariables false

/-- How names and ends stand: the names tell the order of beginnings of w signs, the empty end's is 0. -/
structure NS (t : List Nat) (w : Nat) (N : List Nat) : Prop where
  len : N.length = t.length + 1
  nm : Nm t w (fun i => gt N i)
  zero : gt N t.length = 0
theorem pl_twice {t N : List Nat} {w : Nat} (h : NS t w N) {i j : Nat} (hi : i ≤ t.length) (hj : j ≤ t.length) : pl (fun i => gt N i) (fun i => gt N (i + w)) i j ↔ gt N i < gt N j ∨ gt N i = gt N j ∧ gt N (min (i + w) t.length) < gt N (min (j + w) t.length) := by
  have e : ∀ i, gt N (min (i + w) t.length) = gt N (i + w) := fun i => by
    by_cases c : i + w ≤ t.length
    · rw [Nat.min_eq_left c]
    · rw [Nat.min_eq_right (by omega), h.zero, gt_out N _ (by rw [h.len]; omega)]
  rw [e, e]
  exact Iff.rfl
/-- The name at each place, read off the row of names. -/
theorem nl_at {E : List Nat} (p : Nat → Nat × Nat) (hE : E.Nodup) (hl : ∀ i, i < E.length → gt E i < E.length) : ∀ q i, q ≤ E.length → i < q → gt (nl E p q) (gt E i) = nk E p i
  | 0, i, _, h => absurd h (Nat.not_lt_zero _)
  | q + 1, i, hq, h => by
    rw [nl, gt_set _ _ _ _ (by rw [length_nl]; exact hl q (by omega))]
    by_cases e : i = q
    · rw [e, if_pos rfl]
    · have hne : gt E q ≠ gt E i := fun h2 => by
        have a := gt_get E q (by omega)
        have b := gt_get E i (by omega)
        rw [h2] at a
        unfold List.Nodup at hE
        rw [List.pairwise_iff_getElem] at hE
        have := hE i q (by omega) (by omega) (by omega)
        rw [List.getElem?_eq_getElem (by omega)] at a b
        injection a with a
        injection b with b
        exact this (by rw [a, b])
      rw [if_neg hne]
      exact nl_at p hE hl q i (by omega) (by omega)
theorem nk_mono (E : List Nat) (p : Nat → Nat × Nat) {i : Nat} : ∀ {j : Nat}, i ≤ j → nk E p i ≤ nk E p j
  | 0, h => by rw [show i = 0 by omega]; exact Nat.le_refl _
  | j + 1, h => by
    by_cases e : i = j + 1
    · rw [e]; exact Nat.le_refl _
    · have := nk_mono E p (i := i) (j := j) (by omega)
      rw [nk]
      omega
/-- The names rise as the pairs do. -/
theorem nk_lt {E : List Nat} {a b : Nat → Nat} (hs : ∀ i j, i < j → j < E.length → ¬ pl a b (gt E j) (gt E i)) {i j : Nat} (hij : i ≤ j) (hj : j < E.length) : nk E (fun x => (a x, b x)) i < nk E (fun x => (a x, b x)) j ↔ pl a b (gt E i) (gt E j) := by
  induction j with
  | zero =>
    obtain rfl : i = 0 := by omega
    constructor
    · intro h; omega
    · intro h; exact absurd h (pl_irr a b _)
  | succ j ih =>
    by_cases e : i = j + 1
    · subst e
      constructor
      · intro h; omega
      · intro h; exact absurd h (pl_irr a b _)
    · have ih := ih (by omega) (by omega)
      have h1 := hs j (j + 1) (by omega) hj
      have hm := nk_mono E (fun x => (a x, b x)) (i := i) (j := j) (by omega)
      rw [nk]
      by_cases c : (a (gt E (j + 1)), b (gt E (j + 1))) = (a (gt E j), b (gt E j))
      · rw [if_pos c]
        injection c with c1 c2
        rw [Nat.add_zero, ih]
        unfold pl
        rw [c1, c2]
      · rw [if_neg c]
        refine ⟨fun _ => ?_, fun _ => by omega⟩
        have h2 : pl a b (gt E j) (gt E (j + 1)) := by
          have hc : ¬ (a (gt E (j + 1)) = a (gt E j) ∧ b (gt E (j + 1)) = b (gt E j)) := fun h => c (by rw [h.1, h.2])
          unfold pl at h1 ⊢
          omega
        by_cases d : i = j
        · rw [d]; exact h2
        · have h3 := hs i j (by omega) (by omega)
          unfold pl at h2 h3 ⊢
          omega
/-- Sorted and named anew, the names tell twice as many signs. -/
theorem NS.next {t N E : List Nat} {w : Nat} (h : NS t w N) (hp : E.Perm (List.range (t.length + 1))) (hs : ∀ i j, i < j → j < E.length → ¬ pl (fun i => gt N i) (fun i => gt N (i + w)) (gt E j) (gt E i)) : NS t (w + w) (nl E (fun i => (gt N i, gt N (i + w))) E.length) := by
  have hlen : E.length = t.length + 1 := by rw [hp.length_eq, List.length_range]
  have hnd : E.Nodup := hp.nodup_iff.2 List.nodup_range
  have hlt : ∀ i, i < E.length → gt E i < E.length := fun i hi => by
    have := List.mem_range.1 (hp.mem_iff.1 (List.mem_of_getElem? (gt_get E i hi)))
    omega
  have at_ : ∀ x, x ≤ t.length → ∃ k, k < E.length ∧ gt E k = x := fun x hx => by
    obtain ⟨k, hk⟩ := List.getElem?_of_mem (hp.mem_iff.2 (List.mem_range.2 (show x < t.length + 1 by omega)))
    have hkl := (List.getElem?_eq_some_iff.1 hk).1
    rw [gt_get E k hkl] at hk
    injection hk with hk
    exact ⟨k, hkl, hk⟩
  have key : ∀ x y, x ≤ t.length → y ≤ t.length → (gt (nl E (fun i => (gt N i, gt N (i + w))) E.length) x < gt (nl E (fun i => (gt N i, gt N (i + w))) E.length) y ↔ pl (fun i => gt N i) (fun i => gt N (i + w)) x y) := fun x y hx hy => by
    obtain ⟨i, hi, rfl⟩ := at_ x hx
    obtain ⟨j, hj, rfl⟩ := at_ y hy
    rw [nl_at _ hnd hlt _ i (Nat.le_refl _) hi, nl_at _ hnd hlt _ j (Nat.le_refl _) hj]
    by_cases c : i ≤ j
    · exact nk_lt (a := fun i => gt N i) (b := fun i => gt N (i + w)) hs c hj
    · have := nk_mono E (fun i => (gt N i, gt N (i + w))) (i := j) (j := i) (by omega)
      exact ⟨fun h => absurd h (by omega), fun h => absurd h (hs j i (by omega) hi)⟩
  refine ⟨by rw [length_nl, hlen], ?_, ?_⟩
  · refine h.nm.twice fun i j hi hj => ?_
    exact (key i j hi hj).trans (pl_twice h hi hj)
  · obtain ⟨k, hk, hkx⟩ := at_ t.length (Nat.le_refl _)
    have h0 := nl_at (fun i => (gt N i, gt N (i + w))) hnd hlt _ 0 (Nat.le_refl _) (show 0 < E.length by omega)
    have h1 := key (gt E 0) t.length (by have := hlt 0 (by omega); omega) (Nat.le_refl _)
    have z2 : gt N (t.length + w) = 0 := by
      by_cases c : w = 0
      · rw [c, Nat.add_zero]; exact h.zero
      · exact gt_out N _ (by rw [h.len]; omega)
    have z1 := h.zero
    have h2 : ¬ pl (fun i => gt N i) (fun i => gt N (i + w)) (gt E 0) t.length := by
      show ¬ (gt N (gt E 0) < gt N t.length ∨ gt N (gt E 0) = gt N t.length ∧ gt N (gt E 0 + w) < gt N (t.length + w))
      omega
    have hz : nk E (fun i => (gt N i, gt N (i + w))) 0 = 0 := rfl
    rw [h0, hz] at h1
    have h3 : ¬ 0 < gt (nl E (fun i => (gt N i, gt N (i + w))) E.length) t.length := fun q => h2 (h1.1 q)
    omega
/-- The first names: a sign each. -/
theorem ns_one (t : List Nat) : NS t 1 ((List.range (t.length + 1)).map fun i => if i < t.length then gt t i + 1 else 0) := by
  have z : gt ((List.range (t.length + 1)).map fun i => if i < t.length then gt t i + 1 else 0) t.length = 0 := by rw [gt_map _ _ _ (by omega), if_neg (by omega)]
  refine ⟨by simp, nm_one z fun i hi => ?_, z⟩
  show gt _ i = _
  rw [gt_map _ _ _ (by omega), if_pos hi]
  have := gt_get t i hi
  rw [List.getElem?_eq_getElem hi] at this
  injection this with this
  rw [this]
theorem nk_all {E : List Nat} {p : Nat → Nat × Nat} : ∀ {m : Nat}, m ≤ nk E p m → ∀ i, i ≤ m → nk E p i = i
  | 0, _, i, hi => by
    obtain rfl : i = 0 := by omega
    rfl
  | m + 1, h, i, hi => by
    have h1 := nk_le E p m
    have h2 := nk_le E p (m + 1)
    by_cases e : i = m + 1
    · rw [e]; omega
    · refine nk_all (m := m) ?_ i (by omega)
      rw [nk] at h
      split at h <;> omega
theorem nk_up {E : List Nat} {p : Nat → Nat × Nat} : ∀ {m : Nat}, (∀ i, i < m → nk E p i ≠ nk E p (i + 1)) → nk E p m = m
  | 0, _ => rfl
  | m + 1, h => by
    have h1 := nk_up (m := m) fun i hi => h i (by omega)
    have h2 := h m (by omega)
    rw [nk] at h2 ⊢
    split at h2
    · omega
    · rename_i c
      rw [if_neg c, h1]
/-- No two names are the same: the ends are in order. -/
theorem ns_done {t E N : List Nat} {w : Nat} {p : Nat → Nat × Nat} (h : NS t w N) (hp : E.Perm (List.range (t.length + 1))) (hN : N = nl E p E.length) (hd : ¬ gt N (gt E t.length) < t.length) : Ord t E := by
  have hlen : E.length = t.length + 1 := by rw [hp.length_eq, List.length_range]
  have hnd : E.Nodup := hp.nodup_iff.2 List.nodup_range
  have hle : ∀ i, i < E.length → gt E i ≤ t.length := fun i hi => by
    have := List.mem_range.1 (hp.mem_iff.1 (List.mem_of_getElem? (gt_get E i hi)))
    omega
  have hat : ∀ i, i < E.length → gt N (gt E i) = nk E p i := fun i hi => by
    rw [hN]
    exact nl_at p hnd (fun i hi => by have := hle i hi; omega) _ i (Nat.le_refl _) hi
  rw [hat t.length (by omega)] at hd
  have hall := nk_all (E := E) (p := p) (m := t.length) (by omega)
  have hn : ∀ i, i < E.length → gt N (gt E i) = i := fun i hi => by rw [hat i hi, hall i (by omega)]
  have inj : ∀ i j, i ≤ t.length → j ≤ t.length → gt N i = gt N j → i = j := fun x y hx hy e => by
    have get : ∀ x, x ≤ t.length → ∃ k, k < E.length ∧ gt E k = x := fun x hx => by
      obtain ⟨k, hk⟩ := List.getElem?_of_mem (hp.mem_iff.2 (List.mem_range.2 (show x < t.length + 1 by omega)))
      have hkl := (List.getElem?_eq_some_iff.1 hk).1
      rw [gt_get E k hkl] at hk
      injection hk with hk
      exact ⟨k, hkl, hk⟩
    obtain ⟨i, hi, rfl⟩ := get x hx
    obtain ⟨j, hj, rfl⟩ := get y hy
    rw [hn i hi, hn j hj] at e
    rw [e]
  refine ⟨?_, hp⟩
  unfold So
  rw [List.pairwise_iff_getElem]
  intro i j hi hj hij
  have a := gt_get E i hi
  have b := gt_get E j hj
  rw [List.getElem?_eq_getElem (by omega)] at a b
  injection a with a
  injection b with b
  rw [a, b]
  refine (h.nm.all inj (hle i hi) (hle j hj)).1 ?_
  show gt N (gt E i) < gt N (gt E j)
  rw [hn i hi, hn j hj]
  exact hij
/-- Where two names are the same, there are signs behind. -/
theorem ns_more {t E N : List Nat} {w : Nat} {p : Nat → Nat × Nat} (h : NS t w N) (hp : E.Perm (List.range (t.length + 1))) (hN : N = nl E p E.length) (hd : gt N (gt E t.length) < t.length) : w < t.length := by
  by_cases c : w < t.length
  · exact c
  · exfalso
    have hlen : E.length = t.length + 1 := by rw [hp.length_eq, List.length_range]
    have hnd : E.Nodup := hp.nodup_iff.2 List.nodup_range
    have hle : ∀ i, i < E.length → gt E i ≤ t.length := fun i hi => by
      have := List.mem_range.1 (hp.mem_iff.1 (List.mem_of_getElem? (gt_get E i hi)))
      omega
    have hat : ∀ i, i < E.length → gt N (gt E i) = nk E p i := fun i hi => by
      rw [hN]
      exact nl_at p hnd (fun i hi => by have := hle i hi; omega) _ i (Nat.le_refl _) hi
    have inj := h.nm.long (by omega)
    have := nk_up (E := E) (p := p) (m := t.length) fun i hi e => by
      rw [← hat i (by omega), ← hat (i + 1) (by omega)] at e
      have e2 := inj _ _ (hle i (by omega)) (hle (i + 1) (by omega)) e
      unfold List.Nodup at hnd
      rw [List.pairwise_iff_getElem] at hnd
      have q := hnd i (i + 1) (by omega) (by omega) (by omega)
      have a := gt_get E i (by omega)
      have b := gt_get E (i + 1) (by omega)
      rw [List.getElem?_eq_getElem (by omega)] at a b
      injection a with a
      injection b with b
      exact q (by rw [a, b, e2])
    rw [hat t.length (by omega), this] at hd
    omega
end Go.Proofs.Ytojjinjgmijgcaa.Su
