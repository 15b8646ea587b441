/-
  Plain: the order of ends is one alone, and there is one; bytes as a string, compared.
-/
import Derived.Test.YtadfnllfeoidhaaDoorSm
namespace Go.Proofs.YtadfnllfeoidhaaDoor
set_option linter.unusedVariables false
set_option linter.unusedSimpArgs false

namespace Su
/-- The places from p on, their ends in order. -/
def Op (t : List Nat) (p : Nat) (l : List Nat) : Prop := So t l ∧ l.Nodup ∧ l.length = t.length + 1 - p ∧ ∀ x, x ∈ l ↔ p ≤ x ∧ x ≤ t.length
theorem op_end (t : List Nat) : Op t t.length [t.length] := ⟨List.pairwise_singleton _ _, by simp, by simp, fun x => by simp; omega⟩
theorem Op.ins {t l : List Nat} {i p : Nat} (h : Op t (i + 1) l) (hi : i < t.length) (hp : p ≤ l.length) (h1 : ∀ j, j < p → ah t (gt l j) i = true) (h2 : ∀ j, p ≤ j → j < l.length → ah t (gt l j) i = false) : Op t i (l.take p ++ i :: l.drop p) := by
  obtain ⟨a, b, c, d⟩ := h
  have hmem : ∀ j, j < l.length → i + 1 ≤ gt l j ∧ gt l j ≤ t.length := fun j hj => (d _).1 (List.mem_of_getElem? (gt_get l j hj))
  refine ⟨so_ins a hp (fun j hj x hx => ?_) (fun j hj x hx => ?_), ?_, ?_, fun x => ?_⟩
  · have hl : j < l.length := by omega
    rw [gt_get l j hl] at hx
    injection hx with hx
    rw [← hx]
    exact h1 j hj
  · have hl := (List.getElem?_eq_some_iff.1 hx).1
    have e := gt_get l j hl
    rw [e] at hx
    injection hx with hx
    rw [← hx]
    have hm := hmem j hl
    rcases ah_tri (t := t) (i := i) (j := gt l j) (by omega) hm.2 (by omega) with q | q
    · exact q
    · rw [h2 j hj hl] at q; cases q
  · rw [perm_ins.nodup_iff]
    exact List.nodup_cons.2 ⟨fun q => by have := (d i).1 q; omega, b⟩
  · rw [perm_ins.length_eq, List.length_cons, c]; omega
  · rw [perm_ins.mem_iff, List.mem_cons, d]; omega
/-- The order of all ends. -/
def Ord (t l : List Nat) : Prop := So t l ∧ l.Perm (List.range (t.length + 1))
theorem Op.ord {t l : List Nat} (h : Op t 0 l) : Ord t l := ⟨h.1, (List.perm_ext_iff_of_nodup h.2.1 List.nodup_range).2 fun a => by rw [h.2.2.2 a, List.mem_range]; omega⟩
theorem Ord.one {t l m : List Nat} (h : Ord t l) (k : Ord t m) : l = m := so_one h.1 k.1 (h.2.trans k.2.symm)
theorem op_next {t l : List Nat} {i : Nat} (h : Op t (i + 1) l) (hi : i < t.length) : ∃ m, Op t i m := by
  have key : ∀ n, n ≤ l.length → ∃ p, p ≤ n ∧ (∀ j, j < p → ah t (gt l j) i = true) ∧ (∀ j, p ≤ j → j < n → ah t (gt l j) i = false) := by
    intro n
    induction n with
    | zero => intro _; exact ⟨0, Nat.le_refl _, fun j hj => absurd hj (by omega), fun j _ hj => absurd hj (by omega)⟩
    | succ n ih =>
      intro hn
      obtain ⟨p, h1, h2, h3⟩ := ih (by omega)
      cases c : ah t (gt l n) i with
      | false => exact ⟨p, by omega, h2, fun j hj hj2 => by
          by_cases e : j = n
          · rw [e]; exact c
          · exact h3 j hj (by omega)⟩
      | true =>
        refine ⟨n + 1, Nat.le_refl _, fun j hj => ?_, fun j h4 h5 => absurd h5 (by omega)⟩
        exact so_cut h.1 (i := j) (j := n) (by omega) (gt_get l j (by omega)) (gt_get l n (by omega)) i c
  obtain ⟨p, h1, h2, h3⟩ := key l.length (Nat.le_refl _)
  exact ⟨_, h.ins hi h1 h2 h3⟩
theorem op_all (t : List Nat) : ∀ d, d ≤ t.length → ∃ l, Op t (t.length - d) l
  | 0, _ => ⟨_, op_end t⟩
  | d + 1, h => by
    obtain ⟨l, hl⟩ := op_all t d (by omega)
    rw [show t.length - d = (t.length - (d + 1)) + 1 by omega] at hl
    exact op_next hl (by omega)
theorem ord_ex (t : List Nat) : ∃ l, Ord t l := by
  obtain ⟨l, hl⟩ := op_all t t.length (Nat.le_refl _)
  rw [Nat.sub_self] at hl
  exact ⟨l, hl.ord⟩
/-- The order of a text's ends. -/
noncomputable def sa (t : List Nat) : List Nat := Classical.choose (ord_ex t)
theorem ord_sa (t : List Nat) : Ord t (sa t) := Classical.choose_spec (ord_ex t)
theorem Ord.eq {t l : List Nat} (h : Ord t l) : l = sa t := h.one (ord_sa t)
theorem length_sa (t : List Nat) : (sa t).length = t.length + 1 := by rw [(ord_sa t).2.length_eq, List.length_range]
theorem sa_le (t : List Nat) (i : Nat) : gt (sa t) i ≤ t.length := by
  by_cases c : i < (sa t).length
  · have := (ord_sa t).2.mem_iff.1 (List.mem_of_getElem? (gt_get _ i c))
    have := List.mem_range.1 this
    omega
  · rw [gt_out _ _ (by omega)]; omega
end Su

/-- Bytes as a string. -/
def nums (t : List Nat) : List Int := t.map fun (y : Nat) => (y : Int)
theorem str_list (t : List Nat) : (strOfNums (nums t)).toList = t.map fun y => UInt8.ofNat y := by
  rw [ByteArray.toList_eq, strOfNums_data]
  unfold nums
  rw [List.map_map]
  rfl
theorem u8_lt {a b : Nat} (ha : a < 256) (hb : b < 256) : (UInt8.ofNat a < UInt8.ofNat b) = (a < b) := by
  rw [UInt8.lt_iff_toNat_lt, UInt8.toNat_ofNat', UInt8.toNat_ofNat', Nat.mod_eq_of_lt (by omega), Nat.mod_eq_of_lt (by omega)]
theorem u8_eq {a b : Nat} (ha : a < 256) (hb : b < 256) : (UInt8.ofNat a = UInt8.ofNat b) = (a = b) := by
  rw [← UInt8.toNat_inj, UInt8.toNat_ofNat', UInt8.toNat_ofNat', Nat.mod_eq_of_lt (by omega), Nat.mod_eq_of_lt (by omega)]
theorem str_less : ∀ (x y : List Nat), Bytes x → Bytes y → Op.bytesLess (x.map fun y => UInt8.ofNat y) (y.map fun y => UInt8.ofNat y) = Su.lt x y
  | [], [], _, _ => rfl
  | [], _ :: _, _, _ => rfl
  | _ :: _, [], _, _ => rfl
  | a :: x, b :: y, hx, hy => by
    have ha := hx a (List.mem_cons_self ..)
    have hb := hy b (List.mem_cons_self ..)
    have ih := str_less x y (fun z hz => hx z (List.mem_cons_of_mem _ hz)) (fun z hz => hy z (List.mem_cons_of_mem _ hz))
    show (decide (UInt8.ofNat a < UInt8.ofNat b) || ((UInt8.ofNat a == UInt8.ofNat b) && _)) = _
    rw [ih, Su.lt]
    congr 1
    · simp only [u8_lt ha hb]
    · congr 1
      show decide (UInt8.ofNat a = UInt8.ofNat b) = _
      simp only [u8_eq ha hb]
theorem less_str (x y : List Nat) (hx : Bytes x) (hy : Bytes y) : Op.bytesLess (strOfNums (nums x)).toList (strOfNums (nums y)).toList = Su.lt x y := by
  rw [str_list, str_list, str_less x y hx hy]
theorem str_inj : ∀ (x y : List Nat), Bytes x → Bytes y → ((x.map fun y => UInt8.ofNat y) = (y.map fun y => UInt8.ofNat y) ↔ x = y)
  | [], [], _, _ => by simp
  | [], _ :: _, _, _ => by simp
  | _ :: _, [], _, _ => by simp
  | a :: x, b :: y, hx, hy => by
    have ih := str_inj x y (fun z hz => hx z (List.mem_cons_of_mem _ hz)) (fun z hz => hy z (List.mem_cons_of_mem _ hz))
    rw [List.map_cons, List.map_cons, List.cons.injEq, List.cons.injEq, ih, u8_eq (hx a (List.mem_cons_self ..)) (hy b (List.mem_cons_self ..))]
theorem eq_str (x y : List Nat) (hx : Bytes x) (hy : Bytes y) : ((strOfNums (nums x)).toList == (strOfNums (nums y)).toList) = decide (x = y) := by
  rw [str_list, str_list, Bool.eq_iff_iff, beq_iff_eq, decide_eq_true_iff, str_inj x y hx hy]
theorem Bytes.drop {t : List Nat} (h : Bytes t) (i : Nat) : Bytes (t.drop i) := fun x hx => h x (List.mem_of_mem_drop hx)
theorem Bytes.take {t : List Nat} (h : Bytes t) (i : Nat) : Bytes (t.take i) := fun x hx => h x (List.mem_of_mem_take hx)
theorem gt_drop (t : List Nat) (i j : Nat) : gt (t.drop i) j = gt t (i + j) := by
  unfold gt
  rw [List.getD_eq_getElem?_getD, List.getD_eq_getElem?_getD, List.getElem?_drop]
theorem conv {w : World} {ao : Option Addr} {t : List Nat} (cap : Nat) (h : Bd w ao t) : (convert 49 9 (.slice ao t.length cap)).run Tryd.prog w = .ok (.string (strOfNums (nums t))) w := by
  by_cases h0 : 0 < t.length
  · obtain ⟨b, off, rfl, _, hc⟩ := h h0
    refine run_convert_bytes_arg w 49 5 Tryd.underlying49 Tryd.underlying5 b off t.length cap (nums t) (by simp [nums]) (fun i hi => ?_) 9 Tryd.underlying9
    rw [hc i hi]
    have : (nums t).getD i 0 = ((gt t i : Nat) : Int) := by
      unfold nums gt
      rw [List.getD_eq_getElem?_getD, List.getD_eq_getElem?_getD, List.getElem?_map, List.getElem?_eq_getElem hi]
      rfl
    rw [this]
  · obtain rfl : t = [] := List.eq_nil_of_length_eq_zero (by omega)
    cases ao with
    | none => exact run_convert_bytes_nil w 49 5 Tryd.underlying49 Tryd.underlying5 0 cap 9 Tryd.underlying9
    | some a => exact run_convert_bytes_back w 49 9 5 a cap [] Tryd.underlying49 Tryd.underlying5 Tryd.underlying9 (fun j hj => absurd hj (by simp))
end Go.Proofs.YtadfnllfeoidhaaDoor
