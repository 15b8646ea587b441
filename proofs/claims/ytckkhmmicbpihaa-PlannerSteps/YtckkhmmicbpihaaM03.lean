/-
  Plain: the order of ends is one alone, and there is one; bytes as a string, compared. Plain: names of beginnings, twice as long each time; rows that have each number once, and their inverses. Rows of numbers of the call's own; the contracts of the document's Numbers and Inverse. The contracts of the document's up, fano and Row.
-/
import Derived.Test.YtckkhmmicbpihaaM02
import Derived.Test.YtckkhmmicbpihaaM01
import Derived.BigQuiet
import Derived.Laws.OwnMore
namespace Go.Proofs.Ytckkhmmicbpihaa
set_option linter.unusedVariables false
set_option linter.unusedSimpArgs false

namespace Su
/-- The places from p on, their ends in order. -/
def Op (t : List Nat) (p : Nat) (l : List Nat) : Prop := So t l ∧ l.Nodup ∧ l.length = t.length + 1 - p ∧ ∀ x, x ∈ l ↔ p ≤ x ∧ x ≤ t.length
theorem op_end (t : List Nat) : Op t t.length [t.length] := ⟨List.pairwise_singleton _ _, by simp, by simp, fun x => by simp; omega⟩
theorem Op.ins {t l : List Nat} {i p : Nat} (h : Op t (i + 1) l) (hi : i < t.length) (hp : p ≤ l.length) (h1 : ∀ j, j < p → ah t (gt l j) i = true) (h2 : ∀ j, p ≤ j → j < l.length → ah t (gt l j) i = false) : Op t i (l.take p ++ i :: l.drop p) := by
  obtain ⟨a, b, c, d⟩ := h
  have hmem : ∀ j, j < l.length → i + 1 ≤ gt l j ∧ gt l j ≤ t.length := fun j hj => (d _).1 (List.mem_of_getElem? (gt_get l j hj))
  refine ⟨so_ins a hp (fun j hj x hx => ?_) (fun j hj x hx => ?_), ?_, ?_, fun x => ?_⟩
  · have hl : j < l.length := by omega
    rw [gt_get l j hl] at hx
    injection hx with hx
    rw [← hx]
    exact h1 j hj
  · have hl := (List.getElem?_eq_some_iff.1 hx).1
    have e := gt_get l j hl
    rw [e] at hx
    injection hx with hx
    rw [← hx]
    have hm := hmem j hl
    rcases ah_tri (t := t) (i := i) (j := gt l j) (by omega) hm.2 (by omega) with q | q
    · exact q
    · rw [h2 j hj hl] at q; cases q
  · rw [perm_ins.nodup_iff]
    exact List.nodup_cons.2 ⟨fun q => by have := (d i).1 q; omega, b⟩
  · rw [perm_ins.length_eq, List.length_cons, c]; omega
  · rw [perm_ins.mem_iff, List.mem_cons, d]; omega
/-- The order of all ends. -/
def Ord (t l : List Nat) : Prop := So t l ∧ l.Perm (List.range (t.length + 1))
theorem Op.ord {t l : List Nat} (h : Op t 0 l) : Ord t l := ⟨h.1, (List.perm_ext_iff_of_nodup h.2.1 List.nodup_range).2 fun a => by rw [h.2.2.2 a, List.mem_range]; omega⟩
theorem Ord.one {t l m : List Nat} (h : Ord t l) (k : Ord t m) : l = m := so_one h.1 k.1 (h.2.trans k.2.symm)
theorem op_next {t l : List Nat} {i : Nat} (h : Op t (i + 1) l) (hi : i < t.length) : ∃ m, Op t i m := by
  have key : ∀ n, n ≤ l.length → ∃ p, p ≤ n ∧ (∀ j, j < p → ah t (gt l j) i = true) ∧ (∀ j, p ≤ j → j < n → ah t (gt l j) i = false) := by
    intro n
    induction n with
    | zero => intro _; exact ⟨0, Nat.le_refl _, fun j hj => absurd hj (by omega), fun j _ hj => absurd hj (by omega)⟩
    | succ n ih =>
      intro hn
      obtain ⟨p, h1, h2, h3⟩ := ih (by omega)
      cases c : ah t (gt l n) i with
      | false => exact ⟨p, by omega, h2, fun j hj hj2 => by
          by_cases e : j = n
          · rw [e]; exact c
          · exact h3 j hj (by omega)⟩
      | true =>
        refine ⟨n + 1, Nat.le_refl _, fun j hj => ?_, fun j h4 h5 => absurd h5 (by omega)⟩
        exact so_cut h.1 (i := j) (j := n) (by omega) (gt_get l j (by omega)) (gt_get l n (by omega)) i c
  obtain ⟨p, h1, h2, h3⟩ := key l.length (Nat.le_refl _)
  exact ⟨_, h.ins hi h1 h2 h3⟩
theorem op_all (t : List Nat) : ∀ d, d ≤ t.length → ∃ l, Op t (t.length - d) l
  | 0, _ => ⟨_, op_end t⟩
  | d + 1, h => by
    obtain ⟨l, hl⟩ := op_all t d (by omega)
    rw [show t.length - d = (t.length - (d + 1)) + 1 by omega] at hl
    exact op_next hl (by omega)
theorem ord_ex (t : List Nat) : ∃ l, Ord t l := by
  obtain ⟨l, hl⟩ := op_all t t.length (Nat.le_refl _)
  rw [Nat.sub_self] at hl
  exact ⟨l, hl.ord⟩
/-- The order of a text's ends. -/
noncomputable def sa (t : List Nat) : List Nat := Classical.choose (ord_ex t)
theorem ord_sa (t : List Nat) : Ord t (sa t) := Classical.choose_spec (ord_ex t)
theorem Ord.eq {t l : List Nat} (h : Ord t l) : l = sa t := h.one (ord_sa t)
theorem length_sa (t : List Nat) : (sa t).length = t.length + 1 := by rw [(ord_sa t).2.length_eq, List.length_range]
theorem sa_le (t : List Nat) (i : Nat) : gt (sa t) i ≤ t.length := by
  by_cases c : i < (sa t).length
  · have := (ord_sa t).2.mem_iff.1 (List.mem_of_getElem? (gt_get _ i c))
    have := List.mem_range.1 this
    omega
  · rw [gt_out _ _ (by omega)]; omega
end Su

/-- Bytes as a string. -/
def nums (t : List Nat) : List Int := t.map fun (y : Nat) => (y : Int)
theorem str_list (t : List Nat) : (strOfNums (nums t)).toList = t.map fun y => UInt8.ofNat y := by
  rw [ByteArray.toList_eq, strOfNums_data]
  unfold nums
  rw [List.map_map]
  rfl
theorem u8_lt {a b : Nat} (ha : a < 256) (hb : b < 256) : (UInt8.ofNat a < UInt8.ofNat b) = (a < b) := by
  rw [UInt8.lt_iff_toNat_lt, UInt8.toNat_ofNat', UInt8.toNat_ofNat', Nat.mod_eq_of_lt (by omega), Nat.mod_eq_of_lt (by omega)]
theorem u8_eq {a b : Nat} (ha : a < 256) (hb : b < 256) : (UInt8.ofNat a = UInt8.ofNat b) = (a = b) := by
  rw [← UInt8.toNat_inj, UInt8.toNat_ofNat', UInt8.toNat_ofNat', Nat.mod_eq_of_lt (by omega), Nat.mod_eq_of_lt (by omega)]
theorem str_less : ∀ (x y : List Nat), Bytes x → Bytes y → Op.bytesLess (x.map fun y => UInt8.ofNat y) (y.map fun y => UInt8.ofNat y) = Su.lt x y
  | [], [], _, _ => rfl
  | [], _ :: _, _, _ => rfl
  | _ :: _, [], _, _ => rfl
  | a :: x, b :: y, hx, hy => by
    have ha := hx a (List.mem_cons_self ..)
    have hb := hy b (List.mem_cons_self ..)
    have ih := str_less x y (fun z hz => hx z (List.mem_cons_of_mem _ hz)) (fun z hz => hy z (List.mem_cons_of_mem _ hz))
    show (decide (UInt8.ofNat a < UInt8.ofNat b) || ((UInt8.ofNat a == UInt8.ofNat b) && _)) = _
    rw [ih, Su.lt]
    congr 1
    · simp only [u8_lt ha hb]
    · congr 1
      show decide (UInt8.ofNat a = UInt8.ofNat b) = _
      simp only [u8_eq ha hb]
theorem less_str (x y : List Nat) (hx : Bytes x) (hy : Bytes y) : Op.bytesLess (strOfNums (nums x)).toList (strOfNums (nums y)).toList = Su.lt x y := by
  rw [str_list, str_list, str_less x y hx hy]
theorem str_inj : ∀ (x y : List Nat), Bytes x → Bytes y → ((x.map fun y => UInt8.ofNat y) = (y.map fun y => UInt8.ofNat y) ↔ x = y)
  | [], [], _, _ => by simp
  | [], _ :: _, _, _ => by simp
  | _ :: _, [], _, _ => by simp
  | a :: x, b :: y, hx, hy => by
    have ih := str_inj x y (fun z hz => hx z (List.mem_cons_of_mem _ hz)) (fun z hz => hy z (List.mem_cons_of_mem _ hz))
    rw [List.map_cons, List.map_cons, List.cons.injEq, List.cons.injEq, ih, u8_eq (hx a (List.mem_cons_self ..)) (hy b (List.mem_cons_self ..))]
theorem eq_str (x y : List Nat) (hx : Bytes x) (hy : Bytes y) : ((strOfNums (nums x)).toList == (strOfNums (nums y)).toList) = decide (x = y) := by
  rw [str_list, str_list, Bool.eq_iff_iff, beq_iff_eq, decide_eq_true_iff, str_inj x y hx hy]
theorem Bytes.drop {t : List Nat} (h : Bytes t) (i : Nat) : Bytes (t.drop i) := fun x hx => h x (List.mem_of_mem_drop hx)
theorem Bytes.take {t : List Nat} (h : Bytes t) (i : Nat) : Bytes (t.take i) := fun x hx => h x (List.mem_of_mem_take hx)
theorem gt_drop (t : List Nat) (i j : Nat) : gt (t.drop i) j = gt t (i + j) := by
  unfold gt
  rw [List.getD_eq_getElem?_getD, List.getD_eq_getElem?_getD, List.getElem?_drop]
end Go.Proofs.Ytckkhmmicbpihaa

namespace Go.Proofs.Ytckkhmmicbpihaa.Su
set_option linter.unusedVariables false

/-- The first w signs of the end at i. -/
def bg (t : List Nat) (w i : Nat) : List Nat := (t.drop i).take w
/-- Names tell the order of beginnings of w signs. -/
def Nm (t : List Nat) (w : Nat) (f : Nat → Nat) : Prop := ∀ i j, i ≤ t.length → j ≤ t.length → (f i < f j ↔ lt (bg t w i) (bg t w j) = true)
theorem Nm.eq {t : List Nat} {w : Nat} {f : Nat → Nat} (h : Nm t w f) {i j : Nat} (hi : i ≤ t.length) (hj : j ≤ t.length) : f i = f j ↔ bg t w i = bg t w j := by
  constructor
  · intro e
    refine lt_tri _ _ (Bool.eq_false_iff.2 fun q => ?_) (Bool.eq_false_iff.2 fun q => ?_)
    · have := (h i j hi hj).2 q; omega
    · have := (h j i hj hi).2 q; omega
  · intro e
    have h1 : ¬ f i < f j := fun q => by
      have := (h i j hi hj).1 q
      rw [e, lt_irr] at this
      cases this
    have h2 : ¬ f j < f i := fun q => by
      have := (h j i hj hi).1 q
      rw [e, lt_irr] at this
      cases this
    omega
theorem bg_add (t : List Nat) (w i : Nat) : ((t.drop i).drop w) = t.drop (min (i + w) t.length) := by
  rw [List.drop_drop]
  by_cases h : i + w ≤ t.length
  · rw [Nat.min_eq_left h]
  · rw [Nat.min_eq_right (by omega), List.drop_length, List.drop_eq_nil_of_le (by omega)]
/-- Beginnings twice as long go by pairs of names. -/
theorem lt_twice {t : List Nat} {w : Nat} {f : Nat → Nat} (h : Nm t w f) {i j : Nat} (hi : i ≤ t.length) (hj : j ≤ t.length) : lt (bg t (w + w) i) (bg t (w + w) j) = true ↔ f i < f j ∨ f i = f j ∧ f (min (i + w) t.length) < f (min (j + w) t.length) := by
  unfold bg
  rw [lt_take, bg_add, bg_add, Bool.or_eq_true, Bool.and_eq_true, decide_eq_true_eq]
  have e := h.eq hi hj
  have l1 := h i j hi hj
  have l2 := h (min (i + w) t.length) (min (j + w) t.length) (Nat.min_le_right _ _) (Nat.min_le_right _ _)
  unfold bg at e l1 l2
  rw [← l1, ← e, ← l2]
theorem eq_twice {t : List Nat} {w : Nat} {f : Nat → Nat} (h : Nm t w f) {i j : Nat} (hi : i ≤ t.length) (hj : j ≤ t.length) : bg t (w + w) i = bg t (w + w) j ↔ f i = f j ∧ f (min (i + w) t.length) = f (min (j + w) t.length) := by
  unfold bg
  rw [eq_take, bg_add, bg_add]
  have e := h.eq hi hj
  have e2 := h.eq (i := min (i + w) t.length) (j := min (j + w) t.length) (Nat.min_le_right _ _) (Nat.min_le_right _ _)
  unfold bg at e e2
  rw [← e, ← e2]
/-- Names that go by the pairs are names of beginnings twice as long. -/
theorem Nm.twice {t : List Nat} {w : Nat} {f g : Nat → Nat} (h : Nm t w f) (hg : ∀ i j, i ≤ t.length → j ≤ t.length → (g i < g j ↔ f i < f j ∨ f i = f j ∧ f (min (i + w) t.length) < f (min (j + w) t.length))) : Nm t (w + w) g := fun i j hi hj => (hg i j hi hj).trans (lt_twice h hi hj).symm
theorem lt_apart (w : Nat) (x y : List Nat) (h : x.take w ≠ y.take w) : lt x y = lt (x.take w) (y.take w) := by
  have e := lt_take w (x.length + y.length) x y
  rw [List.take_of_length_le (by omega), List.take_of_length_le (by omega), decide_eq_false h] at e
  simpa using e
/-- If no two names are the same, they tell the order of the ends. -/
theorem Nm.all {t : List Nat} {w : Nat} {f : Nat → Nat} (h : Nm t w f) (hf : ∀ i j, i ≤ t.length → j ≤ t.length → f i = f j → i = j) {i j : Nat} (hi : i ≤ t.length) (hj : j ≤ t.length) : f i < f j ↔ ah t i j = true := by
  by_cases e : i = j
  · subst e
    rw [ah_irr]
    simp
  · have q := lt_apart w (t.drop i) (t.drop j) fun q => e (hf i j hi hj ((h.eq hi hj).2 q))
    rw [h i j hi hj]
    unfold ah
    rw [q]
    exact Iff.rfl
/-- Long enough, all beginnings are the ends. -/
theorem Nm.long {t : List Nat} {w : Nat} {f : Nat → Nat} (h : Nm t w f) (hw : t.length ≤ w) : ∀ i j, i ≤ t.length → j ≤ t.length → f i = f j → i = j := fun i j hi hj e => by
  have := (h.eq hi hj).1 e
  unfold bg at this
  rw [List.take_of_length_le (by rw [List.length_drop]; omega), List.take_of_length_le (by rw [List.length_drop]; omega)] at this
  exact drop_inj hi hj this
/-- Beginnings of one sign: the sign, and nothing behind the text. -/
theorem nm_one {t : List Nat} {f : Nat → Nat} (h0 : f t.length = 0) (h : ∀ i, (hi : i < t.length) → f i = t[i] + 1) : Nm t 1 f := fun i j hi hj => by
  have b : ∀ k, (hk : k < t.length) → bg t 1 k = [t[k]] := fun k hk => by
    unfold bg
    rw [List.drop_eq_getElem_cons hk]
    rfl
  have e : bg t 1 t.length = [] := by unfold bg; rw [List.drop_length]; rfl
  by_cases h1 : i < t.length
  · by_cases h2 : j < t.length
    · rw [b i h1, b j h2, h i h1, h j h2]
      simp [lt]
    · obtain rfl : j = t.length := by omega
      rw [e, lt_nil, h0]
      simp
  · obtain rfl : i = t.length := by omega
    by_cases h2 : j < t.length
    · rw [b j h2, e, h0, h j h2]
      simp [lt]
    · obtain rfl : j = t.length := by omega
      rw [lt_irr]
      simp
/-- Each of 0 to its length less one once. -/
def Pm (l : List Nat) : Prop := l.Perm (List.range l.length)
theorem pig : ∀ (n : Nat) (l : List Nat), l.Nodup → (∀ x ∈ l, x < n) → l.length ≤ n
  | 0, l, _, h => by
    cases l with
    | nil => exact Nat.le_refl _
    | cons a l => exact absurd (h a (List.mem_cons_self ..)) (Nat.not_lt_zero _)
  | n + 1, l, hn, h => by
    by_cases hm : n ∈ l
    · have h1 := pig n (l.erase n) (hn.erase n) fun x hx => by
        obtain ⟨h2, h3⟩ := (hn.mem_erase_iff).1 hx
        have := h x h3
        omega
      rw [List.length_erase_of_mem hm] at h1
      omega
    · have := pig n l hn fun x hx => by
        have := h x hx
        have : x ≠ n := fun e => hm (e ▸ hx)
        omega
      omega
theorem pm_of {l : List Nat} (hn : l.Nodup) (hl : ∀ x ∈ l, x < l.length) : Pm l := by
  refine (List.perm_ext_iff_of_nodup hn List.nodup_range).2 fun a => ⟨fun h => List.mem_range.2 (hl a h), fun h => ?_⟩
  have ha := List.mem_range.1 h
  by_cases hm : a ∈ l
  · exact hm
  · have := pig l.length (a :: l) (List.nodup_cons.2 ⟨hm, hn⟩) fun x hx => by
      rcases List.mem_cons.1 hx with rfl | hx
      · exact ha
      · exact hl x hx
    rw [List.length_cons] at this
    omega
theorem Pm.lt {l : List Nat} (h : Pm l) {x : Nat} (hx : x ∈ l) : x < l.length := List.mem_range.1 (h.mem_iff.1 hx)
theorem Pm.nodup {l : List Nat} (h : Pm l) : l.Nodup := h.nodup_iff.2 List.nodup_range
theorem Pm.mem {l : List Nat} (h : Pm l) {x : Nat} (hx : x < l.length) : x ∈ l := h.mem_iff.2 (List.mem_range.2 hx)
/-- Of each number its place. -/
def inv (l : List Nat) : List Nat := (List.range l.length).map fun x => l.idxOf x
theorem length_inv (l : List Nat) : (inv l).length = l.length := by simp [inv]
theorem get_inv (l : List Nat) {x : Nat} (hx : x < l.length) : (inv l)[x]? = some (l.idxOf x) := by
  unfold inv
  rw [List.getElem?_map, List.getElem?_range hx]
  rfl
theorem Pm.inv_at {l : List Nat} (h : Pm l) {i x : Nat} (hx : l[i]? = some x) : (inv l)[x]? = some i := by
  obtain ⟨hi, e⟩ := List.getElem?_eq_some_iff.1 hx
  have hm : x ∈ l := List.mem_of_getElem? hx
  rw [get_inv l (h.lt hm)]
  have h1 : l.idxOf x < l.length := List.idxOf_lt_length_of_mem hm
  have h2 : l[l.idxOf x] = x := List.getElem_idxOf h1
  have : l.idxOf x = i := (List.getElem_inj h.nodup).1 (h2.trans e.symm)
  rw [this]
theorem Pm.inv {l : List Nat} (h : Pm l) : Pm (Su.inv l) := by
  refine pm_of ?_ fun x hx => ?_
  · refine List.pairwise_iff_getElem.2 fun i j hi hj hij e0 => ?_
    have e1 := List.getElem?_eq_getElem hi
    have e2 := List.getElem?_eq_getElem hj
    rw [length_inv] at hi hj
    rw [get_inv l hi] at e1
    rw [get_inv l hj] at e2
    rw [e0, ← e2] at e1
    injection e1 with e
    clear e2 e0
    have h1 : l.idxOf i < l.length := List.idxOf_lt_length_of_mem (h.mem (by omega))
    have h2 : l.idxOf j < l.length := List.idxOf_lt_length_of_mem (h.mem hj)
    have e1 : l[l.idxOf i] = i := List.getElem_idxOf h1
    have e2 : l[l.idxOf j] = j := List.getElem_idxOf h2
    have : l[l.idxOf i]? = l[l.idxOf j]? := by rw [e]
    rw [List.getElem?_eq_getElem h1, List.getElem?_eq_getElem h2, e1, e2] at this
    injection this with this
    omega
  · unfold Su.inv at hx
    obtain ⟨y, hy, rfl⟩ := List.mem_map.1 hx
    rw [length_inv]
    exact List.idxOf_lt_length_of_mem (h.mem (List.mem_range.1 hy))
theorem Pm.back {l : List Nat} (h : Pm l) : Su.inv (Su.inv l) = l := by
  refine List.ext_getElem? fun x => ?_
  by_cases hx : x < l.length
  · have e := h.inv_at (List.getElem?_eq_getElem hx)
    rw [h.inv.inv_at e, List.getElem?_eq_getElem hx]
  · rw [List.getElem?_eq_none (by rw [length_inv, length_inv]; omega), List.getElem?_eq_none (by omega)]
end Go.Proofs.Ytckkhmmicbpihaa.Su

namespace Go.Proofs.Ytckkhmmicbpihaa
open Go.RowKit
set_option linter.unusedVariables false
set_option linter.unusedSimpArgs false
set_option maxRecDepth 100000

/-- Places as numbers. -/
def toI (l : List Nat) : List Int := l.map fun x : Nat => (x : Int)
theorem length_toI (l : List Nat) : (toI l).length = l.length := by simp [toI]
theorem gi_toI (l : List Nat) (i : Nat) : gi (toI l) i = (gt l i : Int) := by
  unfold gi toI gt
  rw [List.getD_eq_getElem?_getD, List.getD_eq_getElem?_getD, List.getElem?_map]
  cases l[i]? <;> rfl
theorem toI_inj {l m : List Nat} (h : toI l = toI m) : l = m := by
  have hl : l.length = m.length := by rw [← length_toI, h, length_toI]
  refine List.ext_getElem? fun i => ?_
  by_cases c : i < l.length
  · have e : gi (toI l) i = gi (toI m) i := by rw [h]
    rw [gi_toI, gi_toI] at e
    rw [gt_get l i c, gt_get m i (by omega)]
    congr 1
    omega
  · rw [List.getElem?_eq_none (by omega), List.getElem?_eq_none (by omega)]
/-- The values of a list of places. -/
def iv (l : List Nat) : List Value := l.map fun x : Nat => Value.int .i64 (x : Int)
theorem length_iv (l : List Nat) : (iv l).length = l.length := by simp [iv]
theorem iv_get (l : List Nat) (i : Nat) (h : i < l.length) : (iv l)[i]? = some (.int .i64 (gt l i)) := by
  unfold iv
  rw [List.getElem?_map, gt_get l i h]; rfl
theorem iv_set (l : List Nat) (i v : Nat) : (iv l).set i (.int .i64 (v : Int)) = iv (l.set i v) := by
  unfold iv
  rw [List.map_set]
theorem nd_own {w : World} {base n c : Nat} {ao : Option Addr} {l : List Nat} (h : w.ownsRow base 3 1 (.slice ao n c) n (iv l)) : Nd w ao (toI l) := by
  intro h0
  rw [length_toI] at h0
  have hlen : (iv l).length = n * 1 := h.1
  rw [length_iv] at hlen
  have hk := fun k hk => h.lt k hk
  have hc := fun g hg => h.cells (g := g) hg
  obtain ⟨_, ⟨e, e2⟩ | ⟨g, cap, cur, e, _⟩⟩ := h
  · omega
  · simp only [Value.slice.injEq] at e
    obtain ⟨rfl, _, rfl⟩ := e
    refine ⟨g, 0, rfl, (hk g rfl).2, fun i hi => ?_⟩
    rw [length_toI] at hi
    rw [gi_toI, ← hc g rfl i _ (iv_get l i hi)]
    unfold Addr.add
    split
    · subst_vars; rfl
    · simp
theorem nd_cel {w : World} {g : Nat} {l : List Nat} (h : Cel w g (iv l) 3) : Nd w (some ⟨g, 0, none⟩) (toI l) := by
  intro h0
  rw [length_toI] at h0
  refine ⟨g, 0, rfl, h.lt, fun i hi => ?_⟩
  rw [length_toI] at hi
  rw [gi_toI, Nat.zero_add]
  exact h.cell i (iv_get l i hi)

def bv (l : List Bool) : List Value := l.map Value.bool
theorem length_bv (l : List Bool) : (bv l).length = l.length := by simp [bv]
theorem bv_set (l : List Bool) (i : Nat) (b : Bool) : (bv l).set i (.bool b) = bv (l.set i b) := by
  unfold bv
  rw [List.map_set]
theorem bv_get (l : List Bool) (i : Nat) {b : Bool} (h : l[i]? = some b) : (bv l)[i]? = some (.bool b) := by
  unfold bv
  rw [List.getElem?_map, h]; rfl
theorem Try.info4 : (Try.prog.info? 4).map (fun i => (i.zero, i.size, i.bytes)) = some (some (.bool false), 1, 1) := by kernel_rfl
theorem cel_made {w : World} {base g n : Nat} {E : TypeId} {z : Value} (h : w.ownsRow base E 1 (.slice (some ⟨g, 0, none⟩) n n) n (madeCells #[z] n).toList) : Cel w g (List.replicate n z) E := by
  obtain ⟨_, h | ⟨g', cap, cur, e, _, hh, _, _, hs, ht⟩⟩ := h
  · simp at h
  · simp only [Value.slice.injEq, Option.some.injEq, Addr.mk.injEq] at e
    obtain ⟨⟨rfl, _, _⟩, _, rfl⟩ := e
    unfold Cel
    rw [hh]
    rw [toList_madeCells_one] at ht
    have e3 : cur.toList.take (n * 1) = cur.toList := List.take_of_length_le (by simp; omega)
    rw [e3] at ht
    rw [← ht]
theorem iv_rep (n : Nat) : iv (List.replicate n 0) = List.replicate n (.int .i64 0) := by unfold iv; rw [List.map_replicate]; rfl
theorem bv_rep (n : Nat) : bv (List.replicate n false) = List.replicate n (.bool false) := by unfold bv; rw [List.map_replicate]

namespace Su
theorem list_ext {xs ys : List Nat} (hl : xs.length = ys.length) (h : ∀ i, i < xs.length → gt xs i = gt ys i) : xs = ys := by
  refine List.ext_getElem? fun i => ?_
  by_cases c : i < xs.length
  · rw [gt_get xs i c, gt_get ys i (by omega), h i c]
  · rw [List.getElem?_eq_none (by omega), List.getElem?_eq_none (by omega)]
theorem gt_set (ys : List Nat) (j i v : Nat) (hj : j < ys.length) : gt (ys.set j v) i = if j = i then v else gt ys i := by
  unfold gt
  rw [List.getD_eq_getElem?_getD, List.getD_eq_getElem?_getD, List.getElem?_set]
  by_cases c : j = i
  · subst c; simp [hj]
  · simp [c]
theorem gt_map (f : Nat → Nat) (n i : Nat) (h : i < n) : gt ((List.range n).map f) i = f i := by
  unfold gt
  rw [List.getD_eq_getElem?_getD, List.getElem?_map, List.getElem?_range h]; rfl
theorem gt_app (l m : List Nat) (i : Nat) : gt (l ++ m) i = if i < l.length then gt l i else gt m (i - l.length) := by
  unfold gt
  rw [List.getD_eq_getElem?_getD, List.getD_eq_getElem?_getD, List.getD_eq_getElem?_getD]
  by_cases c : i < l.length
  · rw [if_pos c, List.getElem?_append_left c]
  · rw [if_neg c, List.getElem?_append_right (by omega)]
theorem gt_take (l : List Nat) (p i : Nat) (h : i < p) : gt (l.take p) i = gt l i := by
  unfold gt
  rw [List.getD_eq_getElem?_getD, List.getD_eq_getElem?_getD, List.getElem?_take_of_lt h]
end Su
theorem iv_app (l m : List Nat) : iv l ++ iv m = iv (l ++ m) := by simp [iv]
end Go.Proofs.Ytckkhmmicbpihaa

namespace Go.Proofs.Ytckkhmmicbpihaa
open Go.RowKit Num
set_option linter.unusedVariables false
set_option linter.unusedSimpArgs false
set_option maxRecDepth 100000

theorem wq (k b d : Nat) (hd : d = k / b) (h : d ≤ 4611686018427387904) : wrap64 ((k : Int) / (b : Int)) = (d : Int) := by
  have e : (k : Int) / (b : Int) = (d : Int) := by rw [hd]; rfl
  rw [e]
  clear e hd
  unfold wrap64
  omega
theorem rup_c (n b : Nat) (hb : 0 < b) (hn : n ≤ 1099511627776) (hb2 : b ≤ 1099511627776) (w : World) :
    Calls Try.prog 26 #[.int .i64 (n : Int), .int .i64 (b : Int)] w fun e w' => e = .returned (.int .i64 (Pn.up n b : Nat)) ∧ w' = w := by
  obtain ⟨k, hk⟩ : ∃ k : Nat, n + b = k + 1 := ⟨n + b - 1, by omega⟩
  have e : Hid (Pn.up n b = k / b) := by show _ = _; unfold Pn.up; rw [hk]; rfl
  have e1 : (n : Int) + (b : Int) = (k : Int) + 1 := by omega
  have e2 : ((b : Int) == 0) = false := by simp; omega
  have hb3 : ¬ (b : Int) = 0 := by omega
  have hk2 : k ≤ 2199023255552 := by omega
  have hkb : k / b ≤ k := Nat.div_le_self _ _
  have ed := wq k b _ rfl (by omega)
  generalize k / b = d at *
  clear hk
  go_enter Try.func26, Try.ntmps26
  go_wp2
  go_ret
  rw [e.out]
  exact ⟨congrArg (fun x => Ending.returned (.int .i64 x)) ed, rfl⟩
theorem fano_c (n m : Nat) (hm : m ≤ n) (hn : n ≤ 1048576) (w : World) :
    Calls Try.prog 27 #[.int .i64 (n : Int), .int .i64 (m : Int)] w fun e w' => e = .returned (.int .i64 (Pn.fano n m : Nat)) ∧ w' = w := by
  by_cases h0 : m = 0
  · subst h0
    have e : Hid (Pn.fano n 0 = n + 65) := by
      show _ = _
      unfold Pn.fano Pn.fw
      rw [if_neg (by omega), Nat.pow_zero, Nat.div_one]
      omega
    go_enter Try.func27, Try.ntmps27
    go_wp2
    go_ret
    rw [e.out]
    exact ⟨by go_num, rfl⟩
  · obtain ⟨q, hq⟩ : ∃ q, q = n / m := ⟨_, rfl⟩
    have hqn : q ≤ n := by rw [hq]; exact Nat.div_le_self _ _
    have hq1 : 1 ≤ q := by rw [hq]; exact Nat.div_pos hm (by omega)
    obtain ⟨v, hv⟩ : ∃ v, Go.bitLen q = v + 1 := by
      have := (Go.bitLen_spec q).1
      refine ⟨Go.bitLen q - 1, ?_⟩
      by_cases c : Go.bitLen q = 0
      · rw [c] at this; simp at this; omega
      · omega
    have hv2 : Pn.fw n m = v := by unfold Pn.fw; rw [if_pos (by omega), ← hq, hv]; rfl
    have hv3 : v ≤ 20 := by rw [← hv2]; exact Pn.fw_le hn
    have LL : Hid (∀ w0, Calls Try.prog 30 #[.int .u64 (q : Int)] w0 fun e w' => e = .returned (.int .i64 ((v : Int) + 1)) ∧ w' = w0) := fun w0 => by
      have := reflen_c (q : Int) (by omega) (by omega) w0
      have e : lenI (q : Int) = (v : Int) + 1 := by unfold lenI; rw [Int.toNat_natCast, hv]; rfl
      rw [e] at this
      exact this
    obtain ⟨s, hs⟩ : ∃ s, s = n / 2 ^ v := ⟨_, rfl⟩
    have hs2 : s ≤ n := by rw [hs]; exact Nat.div_le_self _ _
    have e : Hid (Pn.fano n m = m * v + m + s + 65) := by
      show _ = _
      unfold Pn.fano
      rw [hv2, ← hs]
    have ed : wrap64 ((n : Int) / (m : Int)) = (q : Int) := by
      have : (n : Int) / (m : Int) = ((n / m : Nat) : Int) := rfl
      rw [this, ← hq]
      unfold wrap64
      omega
    have es : (n : Int) / 2 ^ v = (s : Int) := by
      rw [hs, Int.natCast_ediv, Int.natCast_pow]; rfl
    have e2 : ((m : Int) == 0) = false := by simp; omega
    have hm0 : (0 : Int) < (m : Int) := by omega
    have hmv : m * v ≤ m * 20 := Nat.mul_le_mul_left m hv3
    have ep : (m : Int) * (v : Int) = ((m * v : Nat) : Int) := by rw [Int.natCast_mul]
    generalize m * v = p at *
    clear hv hv2 hq hs h0
    go_enter Try.func27, Try.ntmps27
    go_wp2_with fail
    refine (LL.out _).mono ?_
    rintro e w1 ⟨rfl, h1⟩
    go_wp2
    go_ret
    rw [e.out]
    exact ⟨by go_num, rfl⟩
theorem rowI_in {k : Int} {n m : Nat} (hn : n ≤ 1048576) (hm : m ≤ n) : Pn.rowI k n m = Pn.row k n m := by
  unfold Pn.rowI
  rw [if_pos ⟨by omega, by omega, by omega, by omega⟩, Int.toNat_natCast, Int.toNat_natCast]
theorem rowI_out {k n m : Int} (h : ¬ (0 ≤ n ∧ n ≤ 1048576 ∧ 0 ≤ m ∧ m ≤ n)) : Pn.rowI k n m = 0 := by
  unfold Pn.rowI
  rw [if_neg h]
set_option maxHeartbeats 4000000 in
theorem rrow_c (k n m : Int) (w : World) :
    Calls Try.prog 12 #[.int .i64 k, .int .i64 n, .int .i64 m] w fun e w' => e = .returned (.int .i64 (Pn.rowI k n m : Nat)) ∧ w' = w := by
  by_cases h : 0 ≤ n ∧ n ≤ 1048576 ∧ 0 ≤ m ∧ m ≤ n
  · obtain ⟨h1, h2, h3, h4⟩ := h
    obtain ⟨N, rfl⟩ := Int.eq_ofNat_of_zero_le h1
    obtain ⟨M, rfl⟩ := Int.eq_ofNat_of_zero_le h3
    have hN : N ≤ 1048576 := by omega
    have hM : M ≤ N := by omega
    rw [rowI_in hN hM]
    have n1 : ¬ (N : Int) < 0 := by omega
    have n2 : ¬ (1048576 : Int) < (N : Int) := by omega
    have n3 : ¬ (M : Int) < 0 := by omega
    have n4 : ¬ (N : Int) < (M : Int) := by omega
    by_cases k1 : k = 1
    · subst k1
      have U := hide fun w0 => rup_c N 64 (by omega) (by omega) (by omega) w0
      have hu := Pn.up_le N 64 (by omega)
      have e : Hid (Pn.row 1 N M = N + 32 * (N / 512 + 1) + 16 * Pn.up N 64) := by show _ = _; unfold Pn.row; rw [if_pos rfl]
      generalize Pn.up N 64 = u at *
      go_enter Try.func12, Try.ntmps12
      go_wp2_with fail
      refine (U.out _).mono ?_
      rintro e w1 ⟨rfl, rfl⟩
      go_wp2
      go_ret
      rw [e.out]
      exact ⟨by go_num, rfl⟩
    · have k1z : (k == 1) = false := by simp; omega
      by_cases k2 : k = 2
      · subst k2
        have U := hide fun w0 => rup_c N 15 (by omega) (by omega) (by omega) w0
        have hu := Pn.up_le N 15 (by omega)
        have e : Hid (Pn.row 2 N M = 17 * Pn.up N 15 + 64 * max 1 (Pn.up (Pn.up N 15) 8)) := by show _ = _; unfold Pn.row; rw [if_neg (by decide), if_pos rfl]
        generalize Pn.up N 15 = u at *
        have U2 := hide fun w0 => rup_c u 8 (by omega) (by omega) (by omega) w0
        have hu2 := Pn.up_le u 8 (by omega)
        generalize Pn.up u 8 = u2 at *
        by_cases c1 : u2 ≤ 1
        · have c1z : (u2 : Int) ≤ 1 := by omega
          rw [show max 1 u2 = 1 by omega] at e
          go_enter Try.func12, Try.ntmps12
          go_wp2_with fail
          refine (U.out _).mono ?_
          rintro e w1 ⟨rfl, rfl⟩
          go_wp2_with fail
          refine (U2.out _).mono ?_
          rintro e w1 ⟨rfl, rfl⟩
          go_wp2
          go_ret
          rw [e.out]
          exact ⟨by go_num, rfl⟩
        · have c1z : ¬ (u2 : Int) ≤ 1 := by omega
          rw [show max 1 u2 = u2 by omega] at e
          go_enter Try.func12, Try.ntmps12
          go_wp2_with fail
          refine (U.out _).mono ?_
          rintro e w1 ⟨rfl, rfl⟩
          go_wp2_with fail
          refine (U2.out _).mono ?_
          rintro e w1 ⟨rfl, rfl⟩
          go_wp2
          go_ret
          rw [e.out]
          exact ⟨by go_num, rfl⟩
      · have k2z : (k == 2) = false := by simp; omega
        by_cases k3 : k = 3
        · subst k3
          have U := hide fun w0 => fano_c N M hM hN w0
          have e : Hid (Pn.row 3 N M = Pn.fano N M) := by show _ = _; unfold Pn.row; rw [if_neg (by decide), if_neg (by decide), if_pos rfl]
          rw [e.out]
          generalize Pn.fano N M = u at *
          go_enter Try.func12, Try.ntmps12
          go_wp2_with fail
          refine (U.out _).mono ?_
          rintro e w1 ⟨rfl, rfl⟩
          go_wp2
          go_ret
          exact ⟨rfl, rfl⟩
        · have k3z : (k == 3) = false := by simp; omega
          have e : Hid (Pn.row k N M = 0) := by show _ = _; unfold Pn.row; rw [if_neg k1, if_neg k2, if_neg k3]
          rw [e.out]
          go_enter Try.func12, Try.ntmps12
          go_wp2
          go_ret
          exact ⟨rfl, rfl⟩
  · rw [rowI_out h]
    by_cases n1 : n < 0
    · clear h
      go_enter Try.func12, Try.ntmps12
      go_wp2
      go_ret
      exact ⟨rfl, rfl⟩
    · by_cases n2 : (1048576 : Int) < n
      · clear h
        go_enter Try.func12, Try.ntmps12
        go_wp2
        go_ret
        exact ⟨rfl, rfl⟩
      · by_cases n3 : m < 0
        · clear h
          go_enter Try.func12, Try.ntmps12
          go_wp2
          go_ret
          exact ⟨rfl, rfl⟩
        · have n4 : n < m := by omega
          clear h
          go_enter Try.func12, Try.ntmps12
          go_wp2
          go_ret
          exact ⟨rfl, rfl⟩
end Go.Proofs.Ytckkhmmicbpihaa
