/-
  Plain: the document's way to lengths: the least thing, without it, both together, again; where it ends. Plain: the lengths of counts: which are none, none beyond 40, that they fit, that no others cost less, and their order. Plain: sums over all symbols, and over those that stand: costs, and what lengths need. Blocks of cells that may be written, whole: what they hold, what a store makes of them, what stays; numbers in memory. The contracts of the word functions and of the document's answers: for every word and numbers each call returns what the plain functions of YtcjhiolginpgoaaNum say, and leaves the world as it was. Words in memory: a slice of words that reads as a list of numbers (Wd), a row of words that a call has made (Own), and what stays of them while other memory grows. One block alone is written: what stays. A struct, or an array, whole, out of and into a block of its own.
-/
import Derived.Test.YtcjhiolginpgoaaM01
import Derived.Test.YtcjhiolginpgoaaRows
import Derived.WalkKit
import Derived.WalkSmall
import Derived.OwnWalk
import Derived.Test.YtcjhiolginpgoaaM00
import Derived.WalkSpells
import Derived.WalkLawsBesides
import Derived.Laws.Rows
import Derived.Laws.Tables
namespace Go.Proofs.Ytcjhiolginpgoaa.Ho
open Hm Hn

instance : Inhabited Tg := ⟨⟨0, 0, []⟩⟩
def tg (l : List Tg) (i : Nat) : Tg := l.getD i default
def less (a b : Tg) : Bool := decide (a.wt < b.wt) || (decide (a.wt = b.wt) && decide (a.id < b.id))
/-- The place of the least of the first q + 1. -/
def leastQ (l : List Tg) : Nat → Nat
  | 0 => 0
  | q + 1 => if less (tg l (q + 1)) (tg l (leastQ l q)) = true then q + 1 else leastQ l q
theorem leastQ_le (l : List Tg) (q : Nat) : leastQ l q ≤ q := by
  induction q with
  | zero => exact Nat.le_refl _
  | succ q ih =>
    unfold leastQ
    split <;> omega
theorem leastQ_wt (l : List Tg) (q : Nat) : ∀ j, j ≤ q → (tg l (leastQ l q)).wt ≤ (tg l j).wt := by
  induction q with
  | zero => intro j hj; obtain rfl : j = 0 := by omega
            exact Nat.le_refl _
  | succ q ih =>
    intro j hj
    unfold leastQ
    split
    · rename_i c
      unfold less at c
      simp only [Bool.or_eq_true, Bool.and_eq_true, decide_eq_true_eq] at c
      by_cases e : j = q + 1
      · subst e; exact Nat.le_refl _
      · have := ih j (by omega)
        omega
    · rename_i c
      unfold less at c
      simp only [Bool.or_eq_true, Bool.and_eq_true, decide_eq_true_eq] at c
      by_cases e : j = q + 1
      · subst e; omega
      · exact ih j (by omega)
def least (l : List Tg) : Nat := leastQ l (l.length - 1)
theorem least_lt {l : List Tg} (h : 0 < l.length) : least l < l.length := by
  have := leastQ_le l (l.length - 1)
  unfold least
  omega
theorem perm_erase : ∀ (l : List Tg) (i : Nat), i < l.length → (tg l i :: l.eraseIdx i).Perm l
  | x :: l, 0, _ => List.Perm.refl _
  | x :: l, i + 1, h => by
    have := perm_erase l i (by simpa using h)
    show (tg l i :: x :: l.eraseIdx i).Perm _
    exact (List.Perm.swap x (tg l i) _).trans (List.Perm.cons x this)
theorem least_all {l : List Tg} : ∀ x ∈ l, (tg l (least l)).wt ≤ x.wt := by
  intro x hx
  obtain ⟨j, hj, rfl⟩ := List.mem_iff_getElem.1 hx
  have := leastQ_wt l (l.length - 1) j (by omega)
  unfold tg at this
  rw [List.getD_eq_getElem?_getD, List.getD_eq_getElem?_getD, List.getElem?_eq_getElem hj] at this
  unfold tg least
  rw [List.getD_eq_getElem?_getD]
  exact this
def fstT (l : List Tg) : Tg := tg l (least l)
def lst1 (l : List Tg) : List Tg := l.eraseIdx (least l)
def sndT (l : List Tg) : Tg := fstT (lst1 l)
def lst2 (l : List Tg) : List Tg := lst1 (lst1 l)
def joint (n : Nat) (l : List Tg) : Tg := ⟨n, (fstT l).wt + (sndT l).wt, (fstT l).sy ++ (sndT l).sy⟩
def next (n : Nat) (l : List Tg) : List Tg := lst2 l ++ [joint n l]
theorem lst1_len {l : List Tg} (h : 0 < l.length) : (lst1 l).length = l.length - 1 := by
  unfold lst1
  rw [List.length_eraseIdx, if_pos (least_lt h)]
theorem parts {l : List Tg} (h : 2 ≤ l.length) : (fstT l :: sndT l :: lst2 l).Perm l ∧ (∀ x ∈ sndT l :: lst2 l, (fstT l).wt ≤ x.wt) ∧ (∀ x ∈ lst2 l, (sndT l).wt ≤ x.wt) := by
  have h1 := lst1_len (l := l) (by omega)
  have p1 : (fstT l :: lst1 l).Perm l := perm_erase l _ (least_lt (by omega))
  have p2 : (sndT l :: lst2 l).Perm (lst1 l) := perm_erase (lst1 l) _ (least_lt (by omega))
  refine ⟨(List.Perm.cons _ p2).trans p1, fun x hx => ?_, fun x hx => ?_⟩
  · exact least_all x (p1.subset (List.mem_cons_of_mem _ (p2.subset hx)))
  · exact least_all x (p2.subset (List.mem_cons_of_mem _ hx))
theorem next_len {l : List Tg} (n : Nat) (h : 2 ≤ l.length) : (next n l).length = l.length - 1 := by
  have h1 := lst1_len (l := l) (by omega)
  have h2 := lst1_len (l := lst1 l) (by omega)
  unfold next lst2
  simp
  omega
/-- Until there is one. -/
def run : Nat → Nat → List Tg → (Nat → Nat) → Nat → Nat
  | 0, _, _, d => d
  | f + 1, n, l, d => if l.length ≤ 1 then d else run f (n + 1) (next n l) (bump d ((fstT l).sy ++ (sndT l).sy))
def srt (l : List Nat) : List Nat := l.foldr ins []
theorem rises_srt (l : List Nat) : Rises (srt l) := by
  induction l with
  | nil => trivial
  | cons x l ih => exact rises_ins x _ ih
theorem ins_low {x : Nat} {l : List Nat} (h : ∀ y ∈ l, x ≤ y) : ins x l = x :: l := by
  cases l with
  | nil => rfl
  | cons w l => unfold ins; rw [if_pos (h w List.mem_cons_self)]
theorem ins_comm (x y : Nat) (l : List Nat) : ins x (ins y l) = ins y (ins x l) := by
  induction l with
  | nil =>
    simp only [ins]
    by_cases h : x ≤ y
    · by_cases g : y ≤ x
      · obtain rfl : x = y := by omega
        rfl
      · rw [if_pos h, if_neg g]
    · rw [if_neg h, if_pos (by omega)]
  | cons w l ih =>
    by_cases h : x ≤ w
    · by_cases g : y ≤ w
      · simp only [ins, if_pos h, if_pos g]
        by_cases e : x ≤ y
        · by_cases e2 : y ≤ x
          · obtain rfl : x = y := by omega
            rfl
          · rw [if_pos e, if_neg e2]
        · rw [if_neg e, if_pos (by omega)]
      · simp only [ins, if_pos h, if_neg g]
        rw [if_neg (by omega)]
    · by_cases g : y ≤ w
      · simp only [ins, if_neg h, if_pos g]
        rw [if_neg (by omega)]
      · simp only [ins, if_neg h, if_neg g, ih]
theorem srt_perm {a b : List Nat} (p : a.Perm b) : srt a = srt b := by
  induction p with
  | nil => rfl
  | cons x _ ih => show ins x (srt _) = ins x (srt _); rw [ih]
  | swap x y l => exact ins_comm y x _
  | trans _ _ h1 h2 => exact h1.trans h2
theorem mem_srt {x : Nat} {l : List Nat} : x ∈ srt l ↔ x ∈ l := by
  induction l with
  | nil => simp [srt]
  | cons y l ih => show x ∈ ins y (srt l) ↔ _; rw [mem_ins, ih, List.mem_cons]
def wts (l : List Tg) : List Nat := l.map Tg.wt
theorem srt_next {l : List Tg} (n : Nat) (h : 2 ≤ l.length) : srt (wts l) = (fstT l).wt :: (sndT l).wt :: srt (wts (lst2 l)) ∧ srt (wts (next n l)) = ins ((fstT l).wt + (sndT l).wt) (srt (wts (lst2 l))) := by
  obtain ⟨p, h1, h2⟩ := parts h
  constructor
  · have e0 : srt (wts l) = srt (wts (fstT l :: sndT l :: lst2 l)) := (srt_perm (p.map Tg.wt)).symm
    rw [e0]
    show ins _ (ins _ (srt (wts (lst2 l)))) = _
    have e2 : ins (sndT l).wt (srt (wts (lst2 l))) = (sndT l).wt :: srt (wts (lst2 l)) := ins_low fun y hy => by
      obtain ⟨x, hx, rfl⟩ := List.mem_map.1 (mem_srt.1 hy)
      exact h2 x hx
    rw [e2]
    refine ins_low fun y hy => ?_
    rcases List.mem_cons.1 hy with rfl | hy
    · exact h1 _ List.mem_cons_self
    · obtain ⟨x, hx, rfl⟩ := List.mem_map.1 (mem_srt.1 hy)
      exact h1 x (List.mem_cons_of_mem _ hx)
  · have q : (wts (next n l)).Perm (((fstT l).wt + (sndT l).wt) :: wts (lst2 l)) := by
      unfold next wts
      rw [List.map_append]
      exact List.perm_append_comm
    rw [srt_perm q]
    rfl
theorem sum_next {l : List Tg} (n : Nat) (h : 2 ≤ l.length) : (wts (next n l)).sum = (wts l).sum := by
  obtain ⟨p, _, _⟩ := parts h
  have e := (p.map Tg.wt).sum_nat
  unfold next wts at *
  rw [← e, List.map_append, List.sum_append]
  simp [joint]
  omega
/-- Where it ends: one thing of all symbols; what it costs. -/
theorem ends {cnt : Nat → Nat} : ∀ (f n : Nat) (l : List Tg) (d : Nat → Nat), Inv cnt d l → 1 ≤ l.length → l.length ≤ f → (wts l).sum ≤ 268435456 →
    ∃ z : Tg, Inv cnt (run f n l d) [z] ∧ z.sy.Perm (l.flatMap Tg.sy) ∧ costs cnt (run f n l d) [z] = costs cnt d l + huff f (srt (wts l)) ∧ z.wt ≤ 268435456 := by
  intro f
  induction f with
  | zero => intro n l d _ h1 h2; omega
  | succ f ih =>
    intro n l d hI h1 h2 hT
    unfold run
    by_cases c : l.length ≤ 1
    · rw [if_pos c]
      match l, h1, c with
      | [z], _, _ =>
        refine ⟨z, hI, by simp, ?_, by simpa [wts] using hT⟩
        show _ = _ + huff (f + 1) (srt [z.wt])
        simp [srt, ins, huff]
    · rw [if_neg c]
      have h3 : 2 ≤ l.length := by omega
      obtain ⟨p, q1, q2⟩ := parts h3
      have hs := (p.map Tg.wt).sum_nat
      have hT2 : (fstT l).wt + (sndT l).wt ≤ 268435456 := by
        simp only [List.map_cons, List.sum_cons] at hs
        unfold wts at hT
        omega
      have hI2 := (hI.perm p.symm).step n q1 q2 hT2
      have p3 : (joint n l :: lst2 l).Perm (next n l) := by
        unfold next
        exact (List.perm_append_comm (l₁ := lst2 l) (l₂ := [joint n l])).symm
      have hI3 := hI2.perm p3
      obtain ⟨z, g1, g2, g3, g4⟩ := ih (n + 1) (next n l) (bump d ((fstT l).sy ++ (sndT l).sy)) hI3 (by rw [next_len n h3]; omega) (by rw [next_len n h3]; omega) (by rw [sum_next n h3]; exact hT)
      refine ⟨z, g1, ?_, ?_, g4⟩
      · refine g2.trans ((p3.symm.flatMap_right Tg.sy).trans ?_)
        refine List.Perm.trans ?_ (p.flatMap_right Tg.sy)
        simp [joint, List.flatMap_cons]
      · obtain ⟨s1, s2⟩ := srt_next n h3
        rw [g3, s2, s1]
        have e1 := costs_perm (cnt := cnt) (d := bump d ((fstT l).sy ++ (sndT l).sy)) p3
        have e2 := costs_step (hI.perm p.symm) n
        have e3 := costs_perm (cnt := cnt) (d := d) p
        show _ = _ + ((fstT l).wt + (sndT l).wt + huff f _)
        unfold joint at e1
        omega
end Go.Proofs.Ytcjhiolginpgoaa.Ho

namespace Go.Proofs.Ytcjhiolginpgoaa.Hp
open Hm Hn Ho

def used (cnt : Nat → Nat) (k : Nat) : List Nat := (List.range k).filter fun c => decide (0 < cnt c)
theorem mem_used {cnt : Nat → Nat} {k c : Nat} : c ∈ used cnt k ↔ c < k ∧ 0 < cnt c := by
  unfold used
  rw [List.mem_filter, List.mem_range, decide_eq_true_eq]
theorem used_nodup (cnt : Nat → Nat) (k : Nat) : (used cnt k).Nodup := List.nodup_range.filter _
def one (cnt : Nat → Nat) (c : Nat) : Tg := ⟨c, cnt c, [c]⟩
def things (cnt : Nat → Nat) (k : Nat) : List Tg := (used cnt k).map (one cnt)
theorem things_sy (cnt : Nat → Nat) (k : Nat) : (things cnt k).flatMap Tg.sy = used cnt k := by
  unfold things
  rw [List.flatMap_map]
  show (used cnt k).flatMap (fun c => [c]) = _
  induction used cnt k with
  | nil => rfl
  | cons c l ih => rw [List.flatMap_cons, ih]; rfl
theorem inv0 (cnt : Nat → Nat) (k : Nat) : Inv cnt (fun _ => 0) (things cnt k) := by
  have hx : ∀ x ∈ things cnt k, ∃ c, 0 < cnt c ∧ x = one cnt c := fun x hx => by
    obtain ⟨c, hc, rfl⟩ := List.mem_map.1 hx
    exact ⟨c, (mem_used.1 hc).2, rfl⟩
  refine ⟨by rw [things_sy]; exact used_nodup cnt k, ?_, ?_, ?_, ?_⟩
  · intro x h
    obtain ⟨c, _, rfl⟩ := hx x h
    simp [one]
  · intro x h c _
    obtain ⟨e, he, rfl⟩ := hx x h
    show fib 2 ≤ cnt e
    exact he
  · refine List.pairwise_of_forall_mem_list ?_
    intro x h y g
    obtain ⟨e, he, rfl⟩ := hx x h
    obtain ⟨e2, he2, rfl⟩ := hx y g
    exact ⟨fun c _ => he2, fun c _ => he⟩
  · intro x h
    obtain ⟨c, _, rfl⟩ := hx x h
    simp [one]
/-- The lengths. -/
def hlen (cnt : Nat → Nat) (k : Nat) (c : Nat) : Nat :=
  if (used cnt k).length = 1 then (if c ∈ used cnt k then 1 else 0) else run k k (things cnt k) (fun _ => 0) c
theorem wts_things (cnt : Nat → Nat) (k : Nat) : wts (things cnt k) = (used cnt k).map cnt := by
  unfold wts things
  rw [List.map_map]
  rfl
theorem used_len (cnt : Nat → Nat) (k : Nat) : (used cnt k).length ≤ k := by
  have := List.length_filter_le (fun c => decide (0 < cnt c)) (List.range k)
  rw [List.length_range] at this
  exact this
theorem sum_le (cnt : Nat → Nat) (B : Nat) (l : List Nat) (h : ∀ c ∈ l, cnt c ≤ B) : (l.map cnt).sum ≤ l.length * B := by
  induction l with
  | nil => simp
  | cons c l ih =>
    have h1 := h c List.mem_cons_self
    have h2 := ih (fun x hx => h x (List.mem_cons_of_mem _ hx))
    simp only [List.map_cons, List.sum_cons, List.length_cons, Nat.add_mul]
    omega
theorem run_out (f : Nat) : ∀ (n : Nat) (l : List Tg) (d : Nat → Nat) (c : Nat), (∀ x ∈ l, c ∉ x.sy) → run f n l d c = d c := by
  induction f with
  | zero => intro n l d c _; rfl
  | succ f ih =>
    intro n l d c h
    unfold run
    by_cases e : l.length ≤ 1
    · rw [if_pos e]
    · rw [if_neg e]
      obtain ⟨p, _, _⟩ := parts (l := l) (by omega)
      have hf := h _ (p.subset List.mem_cons_self)
      have hs := h _ (p.subset (List.mem_cons_of_mem _ List.mem_cons_self))
      have hab : c ∉ (fstT l).sy ++ (sndT l).sy := fun hc => (List.mem_append.1 hc).elim hf hs
      rw [ih]
      · exact bump_out hab
      · intro x hx
        unfold next at hx
        rcases List.mem_append.1 hx with hx | hx
        · exact h x (p.subset (List.mem_cons_of_mem _ (List.mem_cons_of_mem _ hx)))
        · obtain rfl := List.mem_singleton.1 hx
          exact hab
theorem le_sum {f : Nat → Nat} {y : Nat} {m : List Nat} (h : y ∈ m) : f y ≤ (m.map f).sum := by
  induction m with
  | nil => cases h
  | cons x m ih =>
    simp only [List.map_cons, List.sum_cons]
    rcases List.mem_cons.1 h with rfl | h
    · omega
    · have := ih h; omega
theorem sum_pos2 {f : Nat → Nat} {l : List Nat} {c e : Nat} (hc : c ∈ l) (he : e ∈ l) (hne : c ≠ e) : f c + f e ≤ (l.map f).sum := by
  induction l with
  | nil => cases hc
  | cons x l ih =>
    simp only [List.map_cons, List.sum_cons]
    rcases List.mem_cons.1 hc with h1 | h1
    · rcases List.mem_cons.1 he with h2 | h2
      · exact absurd (h1.trans h2.symm) hne
      · have := le_sum (f := f) h2
        rw [h1]; omega
    · rcases List.mem_cons.1 he with h2 | h2
      · have := le_sum (f := f) h1
        rw [h2]; omega
      · have := ih h1 h2; omega
/-- What is known of the lengths of two symbols and more. -/
structure Fine (cnt : Nat → Nat) (k : Nat) (D : Nat → Nat) : Prop where
  none : ∀ c, c ∉ used cnt k → D c = 0
  some : ∀ c ∈ used cnt k, 1 ≤ D c ∧ D c ≤ 40
  sum : ((used cnt k).map fun c => 2 ^ (40 - D c)).sum = 2 ^ 40
  cost : ((used cnt k).map fun c => cnt c * D c).sum = huff k (srt ((used cnt k).map cnt))
theorem fine (cnt : Nat → Nat) (k : Nat) (hk : k ≤ 256) (hB : ∀ c, cnt c ≤ 1048576) (h2 : 2 ≤ (used cnt k).length) : Fine cnt k (hlen cnt k) := by
  have e0 : hlen cnt k = run k k (things cnt k) (fun _ => 0) := by
    funext c
    unfold hlen
    rw [if_neg (by omega)]
  have hl : (things cnt k).length = (used cnt k).length := by simp [things]
  have hu := used_len cnt k
  have hT : (wts (things cnt k)).sum ≤ 268435456 := by
    rw [wts_things]
    have := sum_le cnt 1048576 (used cnt k) (fun c _ => hB c)
    have : (used cnt k).length * 1048576 ≤ 256 * 1048576 := Nat.mul_le_mul_right _ (by omega)
    omega
  obtain ⟨z, g1, g2, g3, g4⟩ := ends (cnt := cnt) k k (things cnt k) (fun _ => 0) (inv0 cnt k) (by omega) (by omega) hT
  rw [← e0] at g1 g3
  rw [things_sy] at g2
  have kr := g1.kr z List.mem_cons_self
  have hs : ((used cnt k).map fun c => 2 ^ (40 - hlen cnt k c)).sum = 2 ^ 40 := by
    rw [← kr]
    exact (g2.symm.map _).sum_nat
  refine ⟨?_, ?_, hs, ?_⟩
  · intro c hc
    rw [e0]
    refine run_out k k (things cnt k) (fun _ => 0) c fun x hx hcx => hc ?_
    rw [← things_sy]
    exact List.mem_flatMap.2 ⟨x, hx, hcx⟩
  · intro c hc
    have hd := deep (g1.hi z List.mem_cons_self c (g2.symm.subset hc)) g4
    refine ⟨?_, hd⟩
    refine Nat.le_of_not_lt fun h0 => ?_
    obtain ⟨e, he, hne⟩ : ∃ e ∈ used cnt k, c ≠ e := by
      have nd := used_nodup cnt k
      match hm : used cnt k, h2 with
      | a :: b :: r, _ =>
        rw [hm] at nd
        by_cases ca : c = a
        · refine ⟨b, by simp, fun cb => ?_⟩
          have := (List.nodup_cons.1 nd).1
          exact this (by rw [← ca, cb]; simp)
        · exact ⟨a, by simp, ca⟩
    have := sum_pos2 (f := fun c => 2 ^ (40 - hlen cnt k c)) hc he hne
    rw [hs] at this
    have z0 : hlen cnt k c = 0 := by omega
    rw [z0] at this
    have : 0 < 2 ^ (40 - hlen cnt k e) := Nat.two_pow_pos _
    omega
  · have c0 : costs cnt (fun _ => 0) (things cnt k) = 0 := by
      unfold costs
      generalize (things cnt k).flatMap Tg.sy = s
      induction s with
      | nil => rfl
      | cons c s ih =>
        simp only [List.map_cons, List.sum_cons, Nat.mul_zero, Nat.zero_add] at ih ⊢
        exact ih
    rw [c0, Nat.zero_add, wts_things] at g3
    rw [← g3]
    unfold costs
    simp only [List.flatMap_cons, List.flatMap_nil, List.append_nil]
    exact (g2.symm.map _).sum_nat
/-- Lengths beside the weights, in the order of these. -/
theorem along (cnt o : Nat → Nat) (l : List Nat) : ∃ ls : List Nat, ls.Perm (l.map o) ∧ ls.length = (srt (l.map cnt)).length ∧ Hm.cost (srt (l.map cnt)) ls = (l.map fun c => cnt c * o c).sum := by
  induction l with
  | nil => exact ⟨[], List.Perm.refl _, rfl, rfl⟩
  | cons c l ih =>
    obtain ⟨ls, p, len, e⟩ := ih
    obtain ⟨ls', p', len', e'⟩ := cost_ins (cnt c) (o c) (srt (l.map cnt)) ls len
    refine ⟨ls', p'.trans (List.Perm.cons _ p), ?_, ?_⟩
    · show _ = (ins (cnt c) (srt (l.map cnt))).length
      rw [length_ins, len', len]
    · show Hm.cost (ins (cnt c) (srt (l.map cnt))) ls' = _
      rw [e', e]
      rfl
theorem kraft_sum (M : Nat) (l : List Nat) (o : Nat → Nat) : kraft M (l.map o) = (l.map fun c => 2 ^ (M - o c)).sum := by
  induction l with
  | nil => rfl
  | cons c l ih => simp only [List.map_cons, kraft, List.sum_cons, ih]
theorem srt_len (l : List Nat) : (srt l).length = l.length := by
  induction l with
  | nil => rfl
  | cons x l ih => show (ins x (srt l)).length = _; rw [length_ins, ih]; rfl
/-- No lengths that fit cost less. -/
theorem no_less (cnt : Nat → Nat) (k : Nat) (hk : k ≤ 256) (hB : ∀ c, cnt c ≤ 1048576) (o : Nat → Nat) (ho : ∀ c ∈ used cnt k, 1 ≤ o c ∧ o c ≤ 40) (hs : ((used cnt k).map fun c => 2 ^ (40 - o c)).sum ≤ 2 ^ 40) :
    ((used cnt k).map fun c => cnt c * hlen cnt k c).sum ≤ ((used cnt k).map fun c => cnt c * o c).sum := by
  by_cases h2 : 2 ≤ (used cnt k).length
  · have F := fine cnt k hk hB h2
    rw [F.cost]
    obtain ⟨ls, p, len, e⟩ := along cnt o (used cnt k)
    rw [← e]
    refine best 40 k _ ls ?_ len (rises_srt _) ?_ ?_
    · rw [srt_len, List.length_map]
      exact used_len cnt k
    · intro l hl
      obtain ⟨c, hc, rfl⟩ := List.mem_map.1 (p.subset hl)
      exact (ho c hc).2
    · rw [kraft_perm p, kraft_sum]
      exact hs
  · have H : ∀ c ∈ used cnt k, hlen cnt k c ≤ o c := fun c hc => by
      have l1 : (used cnt k).length = 1 := by
        have := List.length_pos_of_mem hc
        omega
      unfold hlen
      rw [if_pos l1, if_pos hc]
      exact (ho c hc).1
    generalize used cnt k = l at *
    clear ho hs h2
    induction l with
    | nil => exact Nat.le_refl _
    | cons c l ih =>
      simp only [List.map_cons, List.sum_cons]
      have h1 := Nat.mul_le_mul_left (cnt c) (H c List.mem_cons_self)
      have h2 := ih (fun x hx => H x (List.mem_cons_of_mem _ hx))
      omega
end Go.Proofs.Ytcjhiolginpgoaa.Hp

namespace Go.Proofs.Ytcjhiolginpgoaa.Hv
open Hm Hn Ho Hp Hr

def tot (f : Nat → Nat) : Nat → Nat
  | 0 => 0
  | k + 1 => tot f k + f k
theorem used_succ (cnt : Nat → Nat) (k : Nat) : used cnt (k + 1) = used cnt k ++ (if 0 < cnt k then [k] else []) := by
  unfold used
  rw [List.range_succ, List.filter_append]
  congr 1
  by_cases h : 0 < cnt k
  · rw [if_pos h]
    simp [h]
  · rw [if_neg h]
    simp [h]
theorem sum_used (cnt f : Nat → Nat) (k : Nat) : ((used cnt (k + 1)).map f).sum = ((used cnt k).map f).sum + (if 0 < cnt k then f k else 0) := by
  rw [used_succ, List.map_append, List.sum_append]
  split <;> simp
theorem tot_used (cnt D : Nat → Nat) (k : Nat) : tot (fun c => cnt c * D c) k = ((used cnt k).map fun c => cnt c * D c).sum := by
  induction k with
  | zero => rfl
  | succ k ih =>
    rw [sum_used, tot, ih]
    by_cases h : 0 < cnt k
    · rw [if_pos h]
    · rw [if_neg h, show cnt k = 0 by omega, Nat.zero_mul]
theorem used_need (cnt o : Nat → Nat) (k : Nat) (h : ∀ c ∈ used cnt k, 0 < o c) : ((used cnt k).map fun c => 2 ^ (40 - o c)).sum ≤ need o (fun _ => true) k := by
  induction k with
  | zero => exact Nat.le_refl _
  | succ k ih =>
    have h1 := ih (fun c hc => h c (by rw [used_succ]; exact List.mem_append_left _ hc))
    have tp := Nat.two_pow_pos (40 - o k)
    rw [sum_used]
    unfold need
    by_cases g : 0 < cnt k
    · have := h k (mem_used.2 ⟨by omega, g⟩)
      rw [if_pos g, if_pos ⟨this, rfl⟩]
      omega
    · rw [if_neg g]
      split <;> omega
theorem need_used (cnt D : Nat → Nat) (k : Nat) (h : ∀ c, c < k → (0 < D c ↔ 0 < cnt c)) : need D (fun _ => true) k = ((used cnt k).map fun c => 2 ^ (40 - D c)).sum := by
  induction k with
  | zero => rfl
  | succ k ih =>
    rw [sum_used, need, ih (fun c hc => h c (by omega))]
    congr 1
    by_cases g : 0 < cnt k
    · rw [if_pos g, if_pos ⟨(h k (by omega)).2 g, rfl⟩]
    · rw [if_neg g, if_neg (fun e => g ((h k (by omega)).1 e.1))]
theorem need_fine {cnt D : Nat → Nat} {k : Nat} (F : Fine cnt k D) : need D (fun _ => true) k = 2 ^ 40 := by
  rw [need_used cnt D k, F.sum]
  intro c hc
  constructor
  · intro h
    refine Nat.pos_of_ne_zero fun e => ?_
    have := F.none c (fun g => by have := (mem_used.1 g).2; omega)
    omega
  · intro h
    exact (F.some c (mem_used.2 ⟨hc, h⟩)).1
/-- No lengths that fit cost less: over all symbols. -/
theorem best_all (cnt : Nat → Nat) (k : Nat) (hk : k ≤ 256) (hB : ∀ c, cnt c ≤ 1048576) (o : Nat → Nat) (ho : ∀ c, c < k → 0 < cnt c → 0 < o c) (h40 : ∀ c, c < k → o c ≤ 40) (hs : need o (fun _ => true) k ≤ 2 ^ 40) :
    tot (fun c => cnt c * hlen cnt k c) k ≤ tot (fun c => cnt c * o c) k := by
  have hu : ∀ c ∈ used cnt k, 1 ≤ o c ∧ o c ≤ 40 := fun c hc => by
    have := mem_used.1 hc
    exact ⟨ho c this.1 this.2, h40 c this.1⟩
  rw [tot_used, tot_used]
  exact no_less cnt k hk hB o hu (Nat.le_trans (used_need cnt o k (fun c hc => (hu c hc).1)) hs)
end Go.Proofs.Ytcjhiolginpgoaa.Hv

namespace Go.Proofs.Ytcjhiolginpgoaa
open Go.RowKit
set_option linter.unusedVariables false

/-- Block b holds just these cells, and may be written. -/
def Cel (w : World) (b : Nat) (cs : List Value) (T : TypeId) : Prop := w.heap[b]? = some (.cells cs.toArray T (0, 0))
theorem Cel.lt {w : World} {b : Nat} {cs : List Value} {T : TypeId} (h : Cel w b cs T) : b < w.heap.size := (Array.getElem?_eq_some_iff.1 h).1
theorem Cel.cell {w : World} {b : Nat} {cs : List Value} {T : TypeId} (h : Cel w b cs T) (i : Nat) {v : Value} (hv : cs[i]? = some v) : w.cell? ⟨b, i, none⟩ = some v := by
  unfold World.cell?
  rw [show w.heap[({ block := b, off := i, spot := none } : Addr).block]? = _ from h]
  simpa using hv
theorem Cel.frozen {w : World} {b : Nat} {cs : List Value} {T : TypeId} (h : Cel w b cs T) (i : Nat) : w.frozen? ⟨b, i, none⟩ = false := by
  unfold World.frozen?
  rw [show w.heap[({ block := b, off := i, spot := none } : Addr).block]? = _ from h]
  simp
theorem Cel.set {w : World} {b : Nat} {cs : List Value} {T : TypeId} (h : Cel w b cs T) (i : Nat) (v : Value) : Cel (w.setCell ⟨b, i, none⟩ v) b (cs.set i v) T := by
  unfold Cel at h ⊢
  simp only [World.setCell, Array.getElem?_modify]
  rw [if_pos trivial, h]
  simp
theorem Cel.other {w : World} {b : Nat} {cs : List Value} {T : TypeId} (h : Cel w b cs T) {a : Addr} (ha : b ≠ a.block) (v : Value) : Cel (w.setCell a v) b cs T := (Below.heap_setCell w a v b ha).trans h
theorem Cel.keep {w w' : World} {b base : Nat} {cs : List Value} {T : TypeId} (h : Cel w b cs T) (hb : Below base w w') (hlt : b < base) : Cel w' b cs T := (hb.block b hlt).trans h
theorem Cel.kept {w w' : World} {b : Nat} {cs : List Value} {T : TypeId} (h : Cel w b cs T) (hb : Below w.heap.size w w') : Cel w' b cs T := h.keep hb h.lt
theorem Cel.drew {w : World} {b : Nat} {cs : List Value} {T : TypeId} (h : Cel w b cs T) : Cel w.drew b cs T := h
theorem Cel.new (w : World) (cs : List Value) (T : TypeId) : Cel (w.alloc (.cells cs.toArray T)) w.heap.size cs T := by
  show (w.heap.push (.cells cs.toArray T))[w.heap.size]? = _
  simp
theorem Cel.new2 (w : World) (o : Obj) (cs : List Value) (T : TypeId) : Cel ((w.alloc o).alloc (.cells cs.toArray T)) (w.heap.size + 1) cs T := by
  have := Cel.new (w.alloc o) cs T
  simpa using this
theorem Cel.alloc {w : World} {b : Nat} {cs : List Value} {T : TypeId} (h : Cel w b cs T) (o : Obj) : Cel (w.alloc o) b cs T := h.kept ((Below.refl _ _).alloc (Nat.le_refl _) _)
end Go.Proofs.Ytcjhiolginpgoaa

namespace Go.Proofs.Ytcjhiolginpgoaa
open Go.RowKit Num

theorem u64_wf (x : Int) (h : (Lit.int .u64 x).wf = true) : 0 ≤ x ∧ x < 18446744073709551616 := by
  simp only [Lit.wf, IntKind.min, IntKind.max, IntKind.signed, IntKind.bits, Bool.and_eq_true] at h
  simp at h
  omega

theorem i64_wf (x : Int) (h : (Lit.int .i64 x).wf = true) : -9223372036854775808 ≤ x ∧ x ≤ 9223372036854775807 := by
  simp only [Lit.wf, IntKind.min, IntKind.max, IntKind.signed, IntKind.bits, Bool.and_eq_true, decide_eq_true_eq] at h
  simp at h
  omega

theorem mask_c (n : Int) (w : World) :
    Calls Try.prog 47 #[.int .i64 n] w fun e w' => e = .returned (.int .u64 (maskI n)) ∧ w' = w := by
  by_cases c : n ≤ 0
  · go_enter Try.func47, Try.ntmps47
    go_wp2
    go_ret
    exact ⟨congrArg Ending.returned (congrArg (Value.int IntKind.u64) (mask_neg n c).symm), rfl⟩
  · have c' : 0 ≤ n := by omega
    go_enter Try.func47, Try.ntmps47
    go_wp2
    go_ret
    exact ⟨congrArg Ending.returned (congrArg (Value.int IntKind.u64) (mask_end n)), rfl⟩

end Go.Proofs.Ytcjhiolginpgoaa

namespace Go.Proofs.Ytcjhiolginpgoaa
open Go.RowKit Num Bit

def Wd (w : World) (ao : Option Addr) (xs : List Nat) : Prop :=
  0 < xs.length → ∃ b off, ao = some ⟨b, off, none⟩ ∧ b < w.heap.size ∧ ∀ i, i < xs.length → w.cell? ⟨b, off + i, none⟩ = some (.int .u64 (gt xs i))

theorem Wd.keep {w w' : World} {ao : Option Addr} {xs : List Nat} (h : Wd w ao xs) (hb : Below w.heap.size w w') : Wd w' ao xs := by
  intro hi
  obtain ⟨b, off, e, hlt, hc⟩ := h hi
  exact ⟨b, off, e, Nat.lt_of_lt_of_le hlt hb.size, fun i hi => (hb.cell (p := ⟨b, off + i, none⟩) hlt).trans (hc i hi)⟩

theorem below_alloc (w : World) (o : Obj) : Below w.heap.size w (w.alloc o) := (Below.refl _ _).alloc (Nat.le_refl _) _

/-- A box of two cells, and what a call that turns nothing old leaves of it. -/
theorem box_cells {w w' : World} {a b : Value} {T : TypeId} (hb : Below (w.alloc (.cells #[a, b] T)).heap.size (w.alloc (.cells #[a, b] T)) w') :
    w'.cell? ⟨w.heap.size, 0, none⟩ = some a ∧ w'.cell? ⟨w.heap.size, 1, none⟩ = some b ∧ w.heap.size < w'.heap.size ∧ Below w.heap.size w w' := by
  have hz : (w.alloc (.cells #[a, b] T)).heap.size = w.heap.size + 1 := by simp
  refine ⟨?_, ?_, ?_, ?_⟩
  · rw [hb.cell (p := ⟨w.heap.size, 0, none⟩) (by simp)]; simp
  · rw [hb.cell (p := ⟨w.heap.size, 1, none⟩) (by simp)]; simp
  · have := hb.size; omega
  · exact (below_alloc w _).trans (hb.mono (by omega))

theorem ret_bool {a b : Bool} (h : a = b) : Ending.returned (.bool a) = .returned (.bool b) := by rw [h]
theorem ret_int {k : IntKind} {a b : Int} (h : a = b) : Ending.returned (.int k a) = .returned (.int k b) := by rw [h]
theorem ret_pair {a b c d : Value} (h : a = b) (h2 : c = d) : Ending.returned (.tuple #[a, c]) = .returned (.tuple #[b, d]) := by rw [h, h2]
end Go.Proofs.Ytcjhiolginpgoaa

namespace Go.Proofs.Ytcjhiolginpgoaa
open Go.RowKit
set_option linter.unusedVariables false

/-- Nothing but block g is changed. -/
structure Only (g : Nat) (w w' : World) : Prop where
  os : w'.os = w.os
  tape : w'.tape = w.tape
  output : w'.output = w.output
  size : w'.heap.size = w.heap.size
  block : ∀ k, k ≠ g → w'.heap[k]? = w.heap[k]?
theorem Only.refl (g : Nat) (w : World) : Only g w w := ⟨rfl, rfl, rfl, rfl, fun _ _ => rfl⟩
theorem Only.trans {g : Nat} {a b c : World} (h : Only g a b) (k : Only g b c) : Only g a c := ⟨k.os.trans h.os, k.tape.trans h.tape, k.output.trans h.output, k.size.trans h.size, fun i hi => (k.block i hi).trans (h.block i hi)⟩
theorem Only.below {g base : Nat} {w w' : World} (h : Only g w w') (hb : base ≤ g) : Below base w w' := ⟨h.os, h.tape, h.output, by rw [h.size]; exact Nat.le_refl _, fun k hk => h.block k (by omega)⟩
theorem Only.set {g : Nat} {a w : World} (h : Only g a w) (i : Nat) (v : Value) : Only g a (w.setCell ⟨g, i, none⟩ v) :=
  ⟨h.os, h.tape, h.output, by rw [show (w.setCell ⟨g, i, none⟩ v).heap.size = w.heap.size by simp [World.setCell]]; exact h.size, fun k hk => (Below.heap_setCell w ⟨g, i, none⟩ v k hk).trans (h.block k hk)⟩
theorem Only.row (g : Nat) (w : World) (cs : Array Value) : Only g w (w.setRow g cs) := by
  refine ⟨rfl, rfl, rfl, ?_, fun k hk => ?_⟩
  · simp [World.setRow]
  · simp only [World.setRow, Array.getElem?_modify]
    rw [if_neg (by omega)]
theorem Only.cell {g : Nat} {w w' : World} (h : Only g w w') {p : Addr} (hp : p.block ≠ g) : w'.cell? p = w.cell? p := World.cell?_of_block (w := w) (h.block p.block hp)
theorem Only.cel {g b : Nat} {w w' : World} {cs : List Value} {T : TypeId} (h : Only g w w') (hc : Cel w b cs T) (hb : b ≠ g) : Cel w' b cs T := (h.block b hb).trans hc
theorem Only.wd {g : Nat} {w w' : World} {ao : Option Addr} {xs : List Nat} (h : Only g w w') (hx : Wd w ao xs) (hb : ∀ a, 0 < xs.length → ao = some a → a.block ≠ g) : Wd w' ao xs := by
  intro h0
  obtain ⟨b, off, e, hlt, hc⟩ := hx h0
  have hne := hb _ h0 e
  exact ⟨b, off, e, by rw [h.size]; exact hlt, fun i hi => (h.cell (p := ⟨b, off + i, none⟩) hne).trans (hc i hi)⟩
theorem Only.owns {g base e n : Nat} {w w' : World} {v : Value} {vs : List Value} (h : Only g w w') (ho : w.ownsRow base e 1 v n vs) (hg : g < base) : w'.ownsRow base e 1 v n vs := by
  obtain ⟨h1, h2 | ⟨b, cap, cur, e1, e2, hh, r⟩⟩ := ho
  · exact ⟨h1, .inl h2⟩
  · exact ⟨h1, .inr ⟨b, cap, cur, e1, e2, (h.block b (by omega)).trans hh, r⟩⟩

/-- Words do not lie in a block that holds none. -/
theorem Wd.apart {w : World} {ao : Option Addr} {xs : List Nat} {b : Nat} {cs : List Value} {T : TypeId} (hx : Wd w ao xs) (hc : Cel w b cs T) (hn : ∀ v ∈ cs, ∀ n, v ≠ .int .u64 n) : ∀ a, 0 < xs.length → ao = some a → a.block ≠ b := by
  intro a h0 ha he
  obtain ⟨b', off, e, hlt, hcc⟩ := hx h0
  rw [ha] at e
  obtain rfl := Option.some.inj e
  have he : b' = b := he
  subst he
  have h1 := hcc 0 h0
  unfold World.cell? at h1
  rw [show w.heap[({ block := b', off := off + 0, spot := none } : Addr).block]? = _ from hc] at h1
  have h2 : cs[off + 0]? = some (.int .u64 (Bit.gt xs 0)) := by simpa using h1
  exact hn _ (List.mem_of_getElem? h2) _ rfl
theorem store_cel {ops : Array Oper} {rest : List Oper} {d : Option Tmp} {ty T : TypeId} {ps : String} {af : Array Edge} {a : Act} {w : World} {Q : Exit → Act → World → Prop} {x y : Operand}
    (g : Nat) (old cs : List Value) (hx : a.eval x = .pointer (some ⟨g, 0, none⟩)) (hy : a.eval y = .agg cs.toArray) (hc : Cel w g old T) (lo : old.length = cs.length) (hi : (Try.prog.info? T).map (·.size) = some cs.length) (h1 : cs.toArray.all (·.oneCell') = true)
    (h : ∀ w1, Cel w1 g cs T → Only g w w1 → wpList Try.prog ops Q rest (a.put d undef) w1) :
    wpList Try.prog ops Q (⟨d, .store T x y, ty, ps, af, none⟩ :: rest) a w :=
  wpList_store_row rfl _ x y rfl g _ hx hy _ _ hc (by simpa using hi) (by simpa using lo) h1 (h _ (setRow_heap w g _ _ _ _ hc) (Only.row g w _))
theorem load_cel {ops : Array Oper} {rest : List Oper} {d : Option Tmp} {ty T : TypeId} {ps : String} {af : Array Edge} {a : Act} {w : World} {Q : Exit → Act → World → Prop} {x : Operand}
    (g : Nat) (cs : List Value) {fs : Array Field} (hx : a.eval x = .pointer (some ⟨g, 0, none⟩)) (hc : Cel w g cs T) (hu : Try.prog.underlying T = some (.struct fs)) (hi : (Try.prog.info? T).map (·.size) = some cs.length)
    (h : wpList Try.prog ops Q rest (a.put d (.agg cs.toArray)) w) :
    wpList Try.prog ops Q (⟨d, .load T x, ty, ps, af, none⟩ :: rest) a w :=
  wpList_load_row rfl _ x rfl g hx _ _ _ _ hc hu rfl (by simpa using hi) h
theorem result_cel {fn : Func} {p : Tmp} {T : TypeId} {w : World} {tmps : Array Value} {u : Tmp} (h : fn.results = #[.cell p T, .tmp u]) (g : Nat) (cs : List Value) {fs : Array Field} (hp : tmps.getD p undef = .pointer (some ⟨g, 0, none⟩)) (hc : Cel w g cs T) (hu : Try.prog.underlying T = some (.struct fs)) (hi : (Try.prog.info? T).map (·.size) = some cs.length) :
    (results fn tmps).run Try.prog w = .ok (.tuple #[.agg cs.toArray, tmps.getD u undef]) w := by
  have hp' : tmps[p]?.getD undef = .pointer (some ⟨g, 0, none⟩) := by simpa using hp
  have hl := run_loadVar_row (P := Try.prog) w g T T cs.toArray (0, 0) _ hc hu rfl (by simpa using hi)
  simp [results, h, hp', asAddr, hl]
theorem result_cel1 {fn : Func} {p : Tmp} {T : TypeId} {w : World} {tmps : Array Value} (h : fn.results = #[.cell p T]) (g : Nat) (cs : List Value) {fs : Array Field} (hp : tmps.getD p undef = .pointer (some ⟨g, 0, none⟩)) (hc : Cel w g cs T) (hu : Try.prog.underlying T = some (.struct fs)) (hi : (Try.prog.info? T).map (·.size) = some cs.length) :
    (results fn tmps).run Try.prog w = .ok (.agg cs.toArray) w := by
  have hp' : tmps[p]?.getD undef = .pointer (some ⟨g, 0, none⟩) := by simpa using hp
  have hl := run_loadVar_row (P := Try.prog) w g T T cs.toArray (0, 0) _ hc hu rfl (by simpa using hi)
  simp [results, h, hp', asAddr, hl]
end Go.Proofs.Ytcjhiolginpgoaa
