/-
  Plain: names of beginnings, twice as long each time; rows that have each number once, and their inverses.
-/
import Derived.Test.YtadfnllfeoidhaaDoorSa
namespace Go.Proofs.YtadfnllfeoidhaaDoor.Su
set_option linter.unusedVariables false

/-- The first w signs of the end at i. -/
def bg (t : List Nat) (w i : Nat) : List Nat := (t.drop i).take w
/-- Names tell the order of beginnings of w signs. -/
def Nm (t : List Nat) (w : Nat) (f : Nat → Nat) : Prop := ∀ i j, i ≤ t.length → j ≤ t.length → (f i < f j ↔ lt (bg t w i) (bg t w j) = true)
theorem Nm.eq {t : List Nat} {w : Nat} {f : Nat → Nat} (h : Nm t w f) {i j : Nat} (hi : i ≤ t.length) (hj : j ≤ t.length) : f i = f j ↔ bg t w i = bg t w j := by
  constructor
  · intro e
    refine lt_tri _ _ (Bool.eq_false_iff.2 fun q => ?_) (Bool.eq_false_iff.2 fun q => ?_)
    · have := (h i j hi hj).2 q; omega
    · have := (h j i hj hi).2 q; omega
  · intro e
    have h1 : ¬ f i < f j := fun q => by
      have := (h i j hi hj).1 q
      rw [e, lt_irr] at this
      cases this
    have h2 : ¬ f j < f i := fun q => by
      have := (h j i hj hi).1 q
      rw [e, lt_irr] at this
      cases this
    omega
theorem bg_add (t : List Nat) (w i : Nat) : ((t.drop i).drop w) = t.drop (min (i + w) t.length) := by
  rw [List.drop_drop]
  by_cases h : i + w ≤ t.length
  · rw [Nat.min_eq_left h]
  · rw [Nat.min_eq_right (by omega), List.drop_length, List.drop_eq_nil_of_le (by omega)]
/-- Beginnings twice as long go by pairs of names. -/
theorem lt_twice {t : List Nat} {w : Nat} {f : Nat → Nat} (h : Nm t w f) {i j : Nat} (hi : i ≤ t.length) (hj : j ≤ t.length) : lt (bg t (w + w) i) (bg t (w + w) j) = true ↔ f i < f j ∨ f i = f j ∧ f (min (i + w) t.length) < f (min (j + w) t.length) := by
  unfold bg
  rw [lt_take, bg_add, bg_add, Bool.or_eq_true, Bool.and_eq_true, decide_eq_true_eq]
  have e := h.eq hi hj
  have l1 := h i j hi hj
  have l2 := h (min (i + w) t.length) (min (j + w) t.length) (Nat.min_le_right _ _) (Nat.min_le_right _ _)
  unfold bg at e l1 l2
  rw [← l1, ← e, ← l2]
theorem eq_twice {t : List Nat} {w : Nat} {f : Nat → Nat} (h : Nm t w f) {i j : Nat} (hi : i ≤ t.length) (hj : j ≤ t.length) : bg t (w + w) i = bg t (w + w) j ↔ f i = f j ∧ f (min (i + w) t.length) = f (min (j + w) t.length) := by
  unfold bg
  rw [eq_take, bg_add, bg_add]
  have e := h.eq hi hj
  have e2 := h.eq (i := min (i + w) t.length) (j := min (j + w) t.length) (Nat.min_le_right _ _) (Nat.min_le_right _ _)
  unfold bg at e e2
  rw [← e, ← e2]
/-- Names that go by the pairs are names of beginnings twice as long. -/
theorem Nm.twice {t : List Nat} {w : Nat} {f g : Nat → Nat} (h : Nm t w f) (hg : ∀ i j, i ≤ t.length → j ≤ t.length → (g i < g j ↔ f i < f j ∨ f i = f j ∧ f (min (i + w) t.length) < f (min (j + w) t.length))) : Nm t (w + w) g := fun i j hi hj => (hg i j hi hj).trans (lt_twice h hi hj).symm
theorem lt_apart (w : Nat) (x y : List Nat) (h : x.take w ≠ y.take w) : lt x y = lt (x.take w) (y.take w) := by
  have e := lt_take w (x.length + y.length) x y
  rw [List.take_of_length_le (by omega), List.take_of_length_le (by omega), decide_eq_false h] at e
  simpa using e
/-- If no two names are the same, they tell the order of the ends. -/
theorem Nm.all {t : List Nat} {w : Nat} {f : Nat → Nat} (h : Nm t w f) (hf : ∀ i j, i ≤ t.length → j ≤ t.length → f i = f j → i = j) {i j : Nat} (hi : i ≤ t.length) (hj : j ≤ t.length) : f i < f j ↔ ah t i j = true := by
  by_cases e : i = j
  · subst e
    rw [ah_irr]
    simp
  · have q := lt_apart w (t.drop i) (t.drop j) fun q => e (hf i j hi hj ((h.eq hi hj).2 q))
    rw [h i j hi hj]
    unfold ah
    rw [q]
    exact Iff.rfl
/-- Long enough, all beginnings are the ends. -/
theorem Nm.long {t : List Nat} {w : Nat} {f : Nat → Nat} (h : Nm t w f) (hw : t.length ≤ w) : ∀ i j, i ≤ t.length → j ≤ t.length → f i = f j → i = j := fun i j hi hj e => by
  have := (h.eq hi hj).1 e
  unfold bg at this
  rw [List.take_of_length_le (by rw [List.length_drop]; omega), List.take_of_length_le (by rw [List.length_drop]; omega)] at this
  exact drop_inj hi hj this
/-- Beginnings of one sign: the sign, and nothing behind the text. -/
theorem nm_one {t : List Nat} {f : Nat → Nat} (h0 : f t.length = 0) (h : ∀ i, (hi : i < t.length) → f i = t[i] + 1) : Nm t 1 f := fun i j hi hj => by
  have b : ∀ k, (hk : k < t.length) → bg t 1 k = [t[k]] := fun k hk => by
    unfold bg
    rw [List.drop_eq_getElem_cons hk]
    rfl
  have e : bg t 1 t.length = [] := by unfold bg; rw [List.drop_length]; rfl
  by_cases h1 : i < t.length
  · by_cases h2 : j < t.length
    · rw [b i h1, b j h2, h i h1, h j h2]
      simp [lt]
    · obtain rfl : j = t.length := by omega
      rw [e, lt_nil, h0]
      simp
  · obtain rfl : i = t.length := by omega
    by_cases h2 : j < t.length
    · rw [b j h2, e, h0, h j h2]
      simp [lt]
    · obtain rfl : j = t.length := by omega
      rw [lt_irr]
      simp
/-- Each of 0 to its length less one once. -/
def Pm (l : List Nat) : Prop := l.Perm (List.range l.length)
theorem pig : ∀ (n : Nat) (l : List Nat), l.Nodup → (∀ x ∈ l, x < n) → l.length ≤ n
  | 0, l, _, h => by
    cases l with
    | nil => exact Nat.le_refl _
    | cons a l => exact absurd (h a (List.mem_cons_self ..)) (Nat.not_lt_zero _)
  | n + 1, l, hn, h => by
    by_cases hm : n ∈ l
    · have h1 := pig n (l.erase n) (hn.erase n) fun x hx => by
        obtain ⟨h2, h3⟩ := (hn.mem_erase_iff).1 hx
        have := h x h3
        omega
      rw [List.length_erase_of_mem hm] at h1
      omega
    · have := pig n l hn fun x hx => by
        have := h x hx
        have : x ≠ n := fun e => hm (e ▸ hx)
        omega
      omega
theorem pm_of {l : List Nat} (hn : l.Nodup) (hl : ∀ x ∈ l, x < l.length) : Pm l := by
  refine (List.perm_ext_iff_of_nodup hn List.nodup_range).2 fun a => ⟨fun h => List.mem_range.2 (hl a h), fun h => ?_⟩
  have ha := List.mem_range.1 h
  by_cases hm : a ∈ l
  · exact hm
  · have := pig l.length (a :: l) (List.nodup_cons.2 ⟨hm, hn⟩) fun x hx => by
      rcases List.mem_cons.1 hx with rfl | hx
      · exact ha
      · exact hl x hx
    rw [List.length_cons] at this
    omega
theorem Pm.lt {l : List Nat} (h : Pm l) {x : Nat} (hx : x ∈ l) : x < l.length := List.mem_range.1 (h.mem_iff.1 hx)
theorem Pm.nodup {l : List Nat} (h : Pm l) : l.Nodup := h.nodup_iff.2 List.nodup_range
theorem Pm.mem {l : List Nat} (h : Pm l) {x : Nat} (hx : x < l.length) : x ∈ l := h.mem_iff.2 (List.mem_range.2 hx)
/-- Of each number its place. -/
def inv (l : List Nat) : List Nat := (List.range l.length).map fun x => l.idxOf x
theorem length_inv (l : List Nat) : (inv l).length = l.length := by simp [inv]
theorem get_inv (l : List Nat) {x : Nat} (hx : x < l.length) : (inv l)[x]? = some (l.idxOf x) := by
  unfold inv
  rw [List.getElem?_map, List.getElem?_range hx]
  rfl
theorem Pm.inv_at {l : List Nat} (h : Pm l) {i x : Nat} (hx : l[i]? = some x) : (inv l)[x]? = some i := by
  obtain ⟨hi, e⟩ := List.getElem?_eq_some_iff.1 hx
  have hm : x ∈ l := List.mem_of_getElem? hx
  rw [get_inv l (h.lt hm)]
  have h1 : l.idxOf x < l.length := List.idxOf_lt_length_of_mem hm
  have h2 : l[l.idxOf x] = x := List.getElem_idxOf h1
  have : l.idxOf x = i := (List.getElem_inj h.nodup).1 (h2.trans e.symm)
  rw [this]
theorem Pm.inv {l : List Nat} (h : Pm l) : Pm (Su.inv l) := by
  refine pm_of ?_ fun x hx => ?_
  · refine List.pairwise_iff_getElem.2 fun i j hi hj hij e0 => ?_
    have e1 := List.getElem?_eq_getElem hi
    have e2 := List.getElem?_eq_getElem hj
    rw [length_inv] at hi hj
    rw [get_inv l hi] at e1
    rw [get_inv l hj] at e2
    rw [e0, ← e2] at e1
    injection e1 with e
    clear e2 e0
    have h1 : l.idxOf i < l.length := List.idxOf_lt_length_of_mem (h.mem (by omega))
    have h2 : l.idxOf j < l.length := List.idxOf_lt_length_of_mem (h.mem hj)
    have e1 : l[l.idxOf i] = i := List.getElem_idxOf h1
    have e2 : l[l.idxOf j] = j := List.getElem_idxOf h2
    have : l[l.idxOf i]? = l[l.idxOf j]? := by rw [e]
    rw [List.getElem?_eq_getElem h1, List.getElem?_eq_getElem h2, e1, e2] at this
    injection this with this
    omega
  · unfold Su.inv at hx
    obtain ⟨y, hy, rfl⟩ := List.mem_map.1 hx
    rw [length_inv]
    exact List.idxOf_lt_length_of_mem (h.mem (List.mem_range.1 hy))
theorem Pm.back {l : List Nat} (h : Pm l) : Su.inv (Su.inv l) = l := by
  refine List.ext_getElem? fun x => ?_
  by_cases hx : x < l.length
  · have e := h.inv_at (List.getElem?_eq_getElem hx)
    rw [h.inv.inv_at e, List.getElem?_eq_getElem hx]
  · rw [List.getElem?_eq_none (by rw [length_inv, length_inv]; omega), List.getElem?_eq_none (by omega)]
end Go.Proofs.YtadfnllfeoidhaaDoor.Su
