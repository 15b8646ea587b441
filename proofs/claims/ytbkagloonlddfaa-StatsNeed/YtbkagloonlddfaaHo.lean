/-
  Plain: the document's way to lengths: the least thing, without it, both together, again; where it ends.
-/
import Derived.Test.YtbkagloonlddfaaHn
namespace Go.Proofs.Ytbkagloonlddfaa.Ho
open Hm Hn

instance : Inhabited Tg := ⟨⟨0, 0, []⟩⟩
def tg (l : List Tg) (i : Nat) : Tg := l.getD i default
def less (a b : Tg) : Bool := decide (a.wt < b.wt) || (decide (a.wt = b.wt) && decide (a.id < b.id))
/-- The place of the least of the first q + 1. -/
def leastQ (l : List Tg) : Nat → Nat
  | 0 => 0
  | q + 1 => if less (tg l (q + 1)) (tg l (leastQ l q)) = true then q + 1 else leastQ l q
theorem leastQ_le (l : List Tg) (q : Nat) : leastQ l q ≤ q := by
  induction q with
  | zero => exact Nat.le_refl _
  | succ q ih =>
    unfold leastQ
    split <;> omega
theorem leastQ_wt (l : List Tg) (q : Nat) : ∀ j, j ≤ q → (tg l (leastQ l q)).wt ≤ (tg l j).wt := by
  induction q with
  | zero => intro j hj; obtain rfl : j = 0 := by omega
            exact Nat.le_refl _
  | succ q ih =>
    intro j hj
    unfold leastQ
    split
    · rename_i c
      unfold less at c
      simp only [Bool.or_eq_true, Bool.and_eq_true, decide_eq_true_eq] at c
      by_cases e : j = q + 1
      · subst e; exact Nat.le_refl _
      · have := ih j (by omega)
        omega
    · rename_i c
      unfold less at c
      simp only [Bool.or_eq_true, Bool.and_eq_true, decide_eq_true_eq] at c
      by_cases e : j = q + 1
      · subst e; omega
      · exact ih j (by omega)
def least (l : List Tg) : Nat := leastQ l (l.length - 1)
theorem least_lt {l : List Tg} (h : 0 < l.length) : least l < l.length := by
  have := leastQ_le l (l.length - 1)
  unfold least
  omega
theorem perm_erase : ∀ (l : List Tg) (i : Nat), i < l.length → (tg l i :: l.eraseIdx i).Perm l
  | x :: l, 0, _ => List.Perm.refl _
  | x :: l, i + 1, h => by
    have := perm_erase l i (by simpa using h)
    show (tg l i :: x :: l.eraseIdx i).Perm _
    exact (List.Perm.swap x (tg l i) _).trans (List.Perm.cons x this)
theorem least_all {l : List Tg} : ∀ x ∈ l, (tg l (least l)).wt ≤ x.wt := by
  intro x hx
  obtain ⟨j, hj, rfl⟩ := List.mem_iff_getElem.1 hx
  have := leastQ_wt l (l.length - 1) j (by omega)
  unfold tg at this
  rw [List.getD_eq_getElem?_getD, List.getD_eq_getElem?_getD, List.getElem?_eq_getElem hj] at this
  unfold tg least
  rw [List.getD_eq_getElem?_getD]
  exact this
def fstT (l : List Tg) : Tg := tg l (least l)
def lst1 (l : List Tg) : List Tg := l.eraseIdx (least l)
def sndT (l : List Tg) : Tg := fstT (lst1 l)
def lst2 (l : List Tg) : List Tg := lst1 (lst1 l)
def joint (n : Nat) (l : List Tg) : Tg := ⟨n, (fstT l).wt + (sndT l).wt, (fstT l).sy ++ (sndT l).sy⟩
def next (n : Nat) (l : List Tg) : List Tg := lst2 l ++ [joint n l]
theorem lst1_len {l : List Tg} (h : 0 < l.length) : (lst1 l).length = l.length - 1 := by
  unfold lst1
  rw [List.length_eraseIdx, if_pos (least_lt h)]
theorem parts {l : List Tg} (h : 2 ≤ l.length) : (fstT l :: sndT l :: lst2 l).Perm l ∧ (∀ x ∈ sndT l :: lst2 l, (fstT l).wt ≤ x.wt) ∧ (∀ x ∈ lst2 l, (sndT l).wt ≤ x.wt) := by
  have h1 := lst1_len (l := l) (by omega)
  have p1 : (fstT l :: lst1 l).Perm l := perm_erase l _ (least_lt (by omega))
  have p2 : (sndT l :: lst2 l).Perm (lst1 l) := perm_erase (lst1 l) _ (least_lt (by omega))
  refine ⟨(List.Perm.cons _ p2).trans p1, fun x hx => ?_, fun x hx => ?_⟩
  · exact least_all x (p1.subset (List.mem_cons_of_mem _ (p2.subset hx)))
  · exact least_all x (p2.subset (List.mem_cons_of_mem _ hx))
theorem next_len {l : List Tg} (n : Nat) (h : 2 ≤ l.length) : (next n l).length = l.length - 1 := by
  have h1 := lst1_len (l := l) (by omega)
  have h2 := lst1_len (l := lst1 l) (by omega)
  unfold next lst2
  simp
  omega
/-- Until there is one. -/
def run : Nat → Nat → List Tg → (Nat → Nat) → Nat → Nat
  | 0, _, _, d => d
  | f + 1, n, l, d => if l.length ≤ 1 then d else run f (n + 1) (next n l) (bump d ((fstT l).sy ++ (sndT l).sy))
def srt (l : List Nat) : List Nat := l.foldr ins []
theorem rises_srt (l : List Nat) : Rises (srt l) := by
  induction l with
  | nil => trivial
  | cons x l ih => exact rises_ins x _ ih
theorem ins_low {x : Nat} {l : List Nat} (h : ∀ y ∈ l, x ≤ y) : ins x l = x :: l := by
  cases l with
  | nil => rfl
  | cons w l => unfold ins; rw [if_pos (h w List.mem_cons_self)]
theorem ins_comm (x y : Nat) (l : List Nat) : ins x (ins y l) = ins y (ins x l) := by
  induction l with
  | nil =>
    simp only [ins]
    by_cases h : x ≤ y
    · by_cases g : y ≤ x
      · obtain rfl : x = y := by omega
        rfl
      · rw [if_pos h, if_neg g]
    · rw [if_neg h, if_pos (by omega)]
  | cons w l ih =>
    by_cases h : x ≤ w
    · by_cases g : y ≤ w
      · simp only [ins, if_pos h, if_pos g]
        by_cases e : x ≤ y
        · by_cases e2 : y ≤ x
          · obtain rfl : x = y := by omega
            rfl
          · rw [if_pos e, if_neg e2]
        · rw [if_neg e, if_pos (by omega)]
      · simp only [ins, if_pos h, if_neg g]
        rw [if_neg (by omega)]
    · by_cases g : y ≤ w
      · simp only [ins, if_neg h, if_pos g]
        rw [if_neg (by omega)]
      · simp only [ins, if_neg h, if_neg g, ih]
theorem srt_perm {a b : List Nat} (p : a.Perm b) : srt a = srt b := by
  induction p with
  | nil => rfl
  | cons x _ ih => show ins x (srt _) = ins x (srt _); rw [ih]
  | swap x y l => exact ins_comm y x _
  | trans _ _ h1 h2 => exact h1.trans h2
theorem mem_srt {x : Nat} {l : List Nat} : x ∈ srt l ↔ x ∈ l := by
  induction l with
  | nil => simp [srt]
  | cons y l ih => show x ∈ ins y (srt l) ↔ _; rw [mem_ins, ih, List.mem_cons]
def wts (l : List Tg) : List Nat := l.map Tg.wt
theorem srt_next {l : List Tg} (n : Nat) (h : 2 ≤ l.length) : srt (wts l) = (fstT l).wt :: (sndT l).wt :: srt (wts (lst2 l)) ∧ srt (wts (next n l)) = ins ((fstT l).wt + (sndT l).wt) (srt (wts (lst2 l))) := by
  obtain ⟨p, h1, h2⟩ := parts h
  constructor
  · have e0 : srt (wts l) = srt (wts (fstT l :: sndT l :: lst2 l)) := (srt_perm (p.map Tg.wt)).symm
    rw [e0]
    show ins _ (ins _ (srt (wts (lst2 l)))) = _
    have e2 : ins (sndT l).wt (srt (wts (lst2 l))) = (sndT l).wt :: srt (wts (lst2 l)) := ins_low fun y hy => by
      obtain ⟨x, hx, rfl⟩ := List.mem_map.1 (mem_srt.1 hy)
      exact h2 x hx
    rw [e2]
    refine ins_low fun y hy => ?_
    rcases List.mem_cons.1 hy with rfl | hy
    · exact h1 _ List.mem_cons_self
    · obtain ⟨x, hx, rfl⟩ := List.mem_map.1 (mem_srt.1 hy)
      exact h1 x (List.mem_cons_of_mem _ hx)
  · have q : (wts (next n l)).Perm (((fstT l).wt + (sndT l).wt) :: wts (lst2 l)) := by
      unfold next wts
      rw [List.map_append]
      exact List.perm_append_comm
    rw [srt_perm q]
    rfl
theorem sum_next {l : List Tg} (n : Nat) (h : 2 ≤ l.length) : (wts (next n l)).sum = (wts l).sum := by
  obtain ⟨p, _, _⟩ := parts h
  have e := (p.map Tg.wt).sum_nat
  unfold next wts at *
  rw [← e, List.map_append, List.sum_append]
  simp [joint]
  omega
/-- Where it ends: one thing of all symbols; what it costs. -/
theorem ends {cnt : Nat → Nat} : ∀ (f n : Nat) (l : List Tg) (d : Nat → Nat), Inv cnt d l → 1 ≤ l.length → l.length ≤ f → (wts l).sum ≤ 268435456 →
    ∃ z : Tg, Inv cnt (run f n l d) [z] ∧ z.sy.Perm (l.flatMap Tg.sy) ∧ costs cnt (run f n l d) [z] = costs cnt d l + huff f (srt (wts l)) ∧ z.wt ≤ 268435456 := by
  intro f
  induction f with
  | zero => intro n l d _ h1 h2; omega
  | succ f ih =>
    intro n l d hI h1 h2 hT
    unfold run
    by_cases c : l.length ≤ 1
    · rw [if_pos c]
      match l, h1, c with
      | [z], _, _ =>
        refine ⟨z, hI, by simp, ?_, by simpa [wts] using hT⟩
        show _ = _ + huff (f + 1) (srt [z.wt])
        simp [srt, ins, huff]
    · rw [if_neg c]
      have h3 : 2 ≤ l.length := by omega
      obtain ⟨p, q1, q2⟩ := parts h3
      have hs := (p.map Tg.wt).sum_nat
      have hT2 : (fstT l).wt + (sndT l).wt ≤ 268435456 := by
        simp only [List.map_cons, List.sum_cons] at hs
        unfold wts at hT
        omega
      have hI2 := (hI.perm p.symm).step n q1 q2 hT2
      have p3 : (joint n l :: lst2 l).Perm (next n l) := by
        unfold next
        exact (List.perm_append_comm (l₁ := lst2 l) (l₂ := [joint n l])).symm
      have hI3 := hI2.perm p3
      obtain ⟨z, g1, g2, g3, g4⟩ := ih (n + 1) (next n l) (bump d ((fstT l).sy ++ (sndT l).sy)) hI3 (by rw [next_len n h3]; omega) (by rw [next_len n h3]; omega) (by rw [sum_next n h3]; exact hT)
      refine ⟨z, g1, ?_, ?_, g4⟩
      · refine g2.trans ((p3.symm.flatMap_right Tg.sy).trans ?_)
        refine List.Perm.trans ?_ (p.flatMap_right Tg.sy)
        simp [joint, List.flatMap_cons]
      · obtain ⟨s1, s2⟩ := srt_next n h3
        rw [g3, s2, s1]
        have e1 := costs_perm (cnt := cnt) (d := bump d ((fstT l).sy ++ (sndT l).sy)) p3
        have e2 := costs_step (hI.perm p.symm) n
        have e3 := costs_perm (cnt := cnt) (d := d) p
        show _ = _ + ((fstT l).wt + (sndT l).wt + huff f _)
        unfold joint at e1
        omega
end Go.Proofs.Ytbkagloonlddfaa.Ho
