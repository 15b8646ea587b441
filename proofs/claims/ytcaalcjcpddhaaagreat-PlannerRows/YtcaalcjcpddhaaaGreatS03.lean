/-
  Plain arithmetic of rows of bits: words of 64 bits in a list, the bit at a place, the row of given bits, counts. Nothing of the program is in here. Plain: no lengths that fit cost less than the ones of the two least things, again and again. Plain: things of symbols, the two least become one, again and again: what stays so: each thing's symbols make up all of 2 to the power of 40, no symbol lies deeper than 40, and what it costs. Plain: the document's way to lengths: the least thing, without it, both together, again; where it ends.
-/
import Derived.Test.YtcaalcjcpddhaaaGreatS00
set_option linter.unusedVariables false
set_option linter.unusedSimpArgs false
set_option maxRecDepth 100000
namespace Go.Proofs.YtcaalcjcpddhaaaGreat.Zz
open Num
namespace Bit
def gt (xs : List Nat) (i : Nat) : Nat := xs.getD i 0
def bitAt (xs : List Nat) (i : Nat) : Bool := (gt xs (i / 64)).testBit (i % 64)
def chk (N : Int) (xs : List Nat) : Bool := decide (0 ≤ N ∧ N ≤ 1048576 ∧ (xs.length : Int) = (N + 63) / 64 ∧ (N % 64 = 0 ∨ gt xs (xs.length - 1) < 2 ^ (N % 64).toNat))
theorem gt_get (xs : List Nat) (i : Nat) (h : i < xs.length) : xs[i]? = some (gt xs i) := by
 unfold gt; rw [List.getD_eq_getElem?_getD, List.getElem?_eq_getElem h]; rfl
theorem chk_out (N : Int) (xs : List Nat) (h : chk N xs = true) : 0 ≤ N ∧ N ≤ 1048576 ∧ (xs.length : Int) = (N + 63) / 64 ∧ (N % 64 = 0 ∨ gt xs (xs.length - 1) < 2 ^ (N % 64).toNat) := by
 unfold chk at h; exact of_decide_eq_true h
def cntB (xs : List Nat) : Nat → Nat
 | 0 => 0
 | k + 1 => cntB xs k + if bitAt xs k then 1 else 0
def onesI (N : Int) (xs : List Nat) (n : Int) : Int := if chk N xs then (cntB xs (min n N).toNat : Int) else 0
end Bit
end Go.Proofs.YtcaalcjcpddhaaaGreat.Zz
namespace Go.Proofs.YtcaalcjcpddhaaaGreat.Zz.Hm
def cost : List Nat → List Nat → Nat
 | w :: ws, l :: ls => w * l + cost ws ls
 | _, _ => 0
def kraft (M : Nat) : List Nat → Nat
 | [] => 0
 | l :: ls => 2 ^ (M - l) + kraft M ls
def ins (x : Nat) : List Nat → List Nat
 | [] => [x]
 | w :: ws => if x ≤ w then x :: w :: ws else w :: ins x ws
theorem mem_ins {x y : Nat} {ws : List Nat} : y ∈ ins x ws ↔ y = x ∨ y ∈ ws := by
 induction ws with
 | nil => simp [ins]
 | cons w ws ih =>
  unfold ins
  split
  ·simp
  ·simp only [List.mem_cons, ih]
   constructor
   ·rintro (h | h | h)
    ·exact .inr (.inl h)
    ·exact .inl h
    ·exact .inr (.inr h)
   ·rintro (h | h | h)
    ·exact .inr (.inl h)
    ·exact .inl h
    ·exact .inr (.inr h)
def huff : Nat → List Nat → Nat
 | n + 1, a :: b :: r => (a + b) + huff n (ins (a + b) r)
 | _, _ => 0
end Go.Proofs.YtcaalcjcpddhaaaGreat.Zz.Hm
namespace Go.Proofs.YtcaalcjcpddhaaaGreat.Zz.Hn
structure Tg where
 id : Nat
 wt : Nat
 sy : List Nat
def fib : Nat → Nat
 | 0 => 0
 | 1 => 1
 | n + 2 => fib (n + 1) + fib n
theorem fib_step (n : Nat) : fib (n + 2) = fib (n + 1) + fib n := rfl
theorem fib_le (n : Nat) : fib n ≤ fib (n + 1) := by
 cases n with
 | zero => decide
 | succ n => rw [fib_step]; omega
theorem fib_mono {m n : Nat} (h : m ≤ n) : fib m ≤ fib n := by
 obtain ⟨k, rfl⟩ : ∃ k, n = m + k := ⟨n - m, by omega⟩
 clear h
 induction k with
 | zero => exact Nat.le_refl _
 | succ k ih => exact Nat.le_trans ih (fib_le _)
def fibs : Nat → Nat × Nat
 | 0 => (0, 1)
 | n + 1 => ((fibs n).2, (fibs n).2 + (fibs n).1)
theorem fibs_eq (n : Nat) : fibs n = (fib n, fib (n + 1)) := by
 induction n with
 | zero => rfl
 | succ n ih => rw [fibs, ih]; rfl
theorem fib_43 : 268435456 < fib 43 := by
 have : fib 43 = (fibs 43).1 := by rw [fibs_eq]
 rw [this]
 decide +kernel
theorem deep {d : Nat} {w : Nat} (h : fib (d + 2) ≤ w) (hw : w ≤ 268435456) : d ≤ 40 := by
 refine Nat.le_of_not_lt fun c => ?_
 have := fib_mono (show 43 ≤ d + 2 by omega)
 have := fib_43
 omega
def Apart (d : Nat → Nat) (x y : Tg) : Prop := (∀ c ∈ x.sy, fib (d c + 1) ≤ y.wt) ∧ (∀ c ∈ y.sy, fib (d c + 1) ≤ x.wt)
theorem Apart.symm {d : Nat → Nat} {x y : Tg} (h : Apart d x y) : Apart d y x := ⟨h.2, h.1⟩
structure Inv (cnt d : Nat → Nat) (l : List Tg) : Prop where
 nd : (l.flatMap Tg.sy).Nodup
 wt : ∀ x ∈ l, x.wt = (x.sy.map cnt).sum
 hi : ∀ x ∈ l, ∀ c ∈ x.sy, fib (d c + 2) ≤ x.wt
 ot : l.Pairwise (Apart d)
 kr : ∀ x ∈ l, (x.sy.map fun c => 2 ^ (40 - d c)).sum = 2 ^ 40
theorem Inv.perm {cnt d : Nat → Nat} {l m : List Tg} (p : l.Perm m) (h : Inv cnt d l) : Inv cnt d m :=
 ⟨(p.flatMap_right Tg.sy).nodup h.nd, fun x hx => h.wt x (p.symm.subset hx), fun x hx => h.hi x (p.symm.subset hx), (p.pairwise_iff (fun h => h.symm)).1 h.ot, fun x hx => h.kr x (p.symm.subset hx)⟩
def bump (d : Nat → Nat) (s : List Nat) (c : Nat) : Nat := d c + s.count c
theorem bump_in {d : Nat → Nat} {s : List Nat} (h : s.Nodup) {c : Nat} (hc : c ∈ s) : bump d s c = d c + 1 := by
 unfold bump
 rw [h.count, if_pos hc]
theorem bump_out {d : Nat → Nat} {s : List Nat} {c : Nat} (hc : c ∉ s) : bump d s c = d c := by
 unfold bump
 rw [List.count_eq_zero.2 hc]
 rfl
theorem sum_half (d : Nat → Nat) (s : List Nat) (h : ∀ c ∈ s, d c + 1 ≤ 40) : 2 * (s.map fun c => 2 ^ (40 - (d c + 1))).sum = (s.map fun c => 2 ^ (40 - d c)).sum := by
 induction s with
 | nil => rfl
 | cons c s ih =>
  have h1 := h c List.mem_cons_self
  have h2 := ih (fun x hx => h x (List.mem_cons_of_mem _ hx))
  have h3 : 2 ^ (40 - d c) = 2 * 2 ^ (40 - (d c + 1)) := by
   rw [show 40 - d c = (40 - (d c + 1)) + 1 by omega, Nat.pow_succ]; omega
  simp only [List.map_cons, List.sum_cons]
  rw [h3, ← h2]
  omega
theorem sum_cong {f g : Nat → Nat} {s : List Nat} (h : ∀ c ∈ s, f c = g c) : (s.map f).sum = (s.map g).sum := by
 rw [List.map_congr_left h]
theorem Inv.step {cnt d : Nat → Nat} {a b : Tg} {r : List Tg} (h : Inv cnt d (a :: b :: r)) (n : Nat) (ha : ∀ x ∈ b :: r, a.wt ≤ x.wt) (hb : ∀ x ∈ r, b.wt ≤ x.wt) (hT : a.wt + b.wt ≤ 268435456) :
  Inv cnt (bump d (a.sy ++ b.sy)) (⟨n, a.wt + b.wt, a.sy ++ b.sy⟩ :: r) := by
 have nd := h.nd
 simp only [List.flatMap_cons] at nd
 rw [← List.append_assoc] at nd
 have ndab : (a.sy ++ b.sy).Nodup := (List.nodup_append.1 nd).1
 have ndr : ∀ y ∈ r, ∀ c ∈ y.sy, c ∉ a.sy ++ b.sy := fun y hy c hc hab => (List.nodup_append.1 nd).2.2 c hab c (List.mem_flatMap.2 ⟨y, hy, hc⟩) rfl
 have inn : ∀ c ∈ a.sy ++ b.sy, bump d (a.sy ++ b.sy) c = d c + 1 := fun c hc => bump_in ndab hc
 have outt : ∀ y ∈ r, ∀ c ∈ y.sy, bump d (a.sy ++ b.sy) c = d c := fun y hy c hc => bump_out (ndr y hy c hc)
 have pa := List.pairwise_cons.1 h.ot
 have pb := List.pairwise_cons.1 pa.2
 have ab := pa.1 b List.mem_cons_self
 have hia := h.hi a List.mem_cons_self
 have hib := h.hi b (List.mem_cons_of_mem _ List.mem_cons_self)
 have hz : ∀ c ∈ a.sy ++ b.sy, fib (d c + 1 + 2) ≤ a.wt + b.wt := fun c hc => by
  rw [fib_step]
  rcases List.mem_append.1 hc with e | e
  ·have h1 := hia c e
   have h2 := ab.1 c e
   show fib (d c + 2) + fib (d c + 1) ≤ _
   omega
  ·have h1 := hib c e
   have h2 := ab.2 c e
   show fib (d c + 2) + fib (d c + 1) ≤ _
   omega
 refine ⟨?_, ?_, ?_, ?_, ?_⟩
 ·simp only [List.flatMap_cons]
  exact nd
 ·intro x hx
  rcases List.mem_cons.1 hx with rfl | hx
  ·show a.wt + b.wt = ((a.sy ++ b.sy).map cnt).sum
   rw [List.map_append, List.sum_append, ← h.wt a List.mem_cons_self, ← h.wt b (List.mem_cons_of_mem _ List.mem_cons_self)]
  ·exact h.wt x (List.mem_cons_of_mem _ (List.mem_cons_of_mem _ hx))
 ·intro x hx c hc
  rcases List.mem_cons.1 hx with rfl | hx
  ·rw [inn c hc]
   exact hz c hc
  ·rw [outt x hx c hc]
   exact h.hi x (List.mem_cons_of_mem _ (List.mem_cons_of_mem _ hx)) c hc
 ·refine List.pairwise_cons.2 ⟨fun y hy => ⟨fun c hc => ?_, fun c hc => ?_⟩, ?_⟩
  ·rw [inn c hc]
   show fib (d c + 2) ≤ y.wt
   rcases List.mem_append.1 hc with e | e
   ·exact Nat.le_trans (hia c e) (ha y (List.mem_cons_of_mem _ hy))
   ·exact Nat.le_trans (hib c e) (hb y hy)
  ·rw [outt y hy c hc]
   have := (pa.1 y (List.mem_cons_of_mem _ hy)).2 c hc
   show _ ≤ a.wt + b.wt
   omega
  ·refine List.Pairwise.imp_of_mem (fun hx hy hxy => ?_) pb.2
   exact ⟨fun c hc => by rw [outt _ hx c hc]; exact hxy.1 c hc, fun c hc => by rw [outt _ hy c hc]; exact hxy.2 c hc⟩
 ·intro x hx
  rcases List.mem_cons.1 hx with rfl | hx
  ·have le40 : ∀ c ∈ a.sy ++ b.sy, d c + 1 ≤ 40 := fun c hc => deep (hz c hc) hT
   show ((a.sy ++ b.sy).map fun c => 2 ^ (40 - bump d (a.sy ++ b.sy) c)).sum = 2 ^ 40
   rw [sum_cong (g := fun c => 2 ^ (40 - (d c + 1))) (fun c hc => by rw [inn c hc])]
   have k1 := h.kr a List.mem_cons_self
   have k2 := h.kr b (List.mem_cons_of_mem _ List.mem_cons_self)
   have s1 := sum_half d (a.sy ++ b.sy) le40
   have s2 : ((a.sy ++ b.sy).map fun c => 2 ^ (40 - d c)).sum = 2 ^ 40 + 2 ^ 40 := by
    rw [List.map_append, List.sum_append, k1, k2]
   rw [s2] at s1
   omega
  ·rw [sum_cong (g := fun c => 2 ^ (40 - d c)) (fun c hc => by rw [outt x hx c hc])]
   exact h.kr x (List.mem_cons_of_mem _ (List.mem_cons_of_mem _ hx))
def costs (cnt d : Nat → Nat) (l : List Tg) : Nat := ((l.flatMap Tg.sy).map fun c => cnt c * d c).sum
theorem costs_perm {cnt d : Nat → Nat} {l m : List Tg} (p : l.Perm m) : costs cnt d l = costs cnt d m := ((p.flatMap_right Tg.sy).map _).sum_nat
theorem sum_more (cnt d : Nat → Nat) (s : List Nat) : (s.map fun c => cnt c * (d c + 1)).sum = (s.map fun c => cnt c * d c).sum + (s.map cnt).sum := by
 induction s with
 | nil => rfl
 | cons c s ih =>
  simp only [List.map_cons, List.sum_cons]
  rw [ih, Nat.mul_succ]
  omega
theorem costs_step {cnt d : Nat → Nat} {a b : Tg} {r : List Tg} (h : Inv cnt d (a :: b :: r)) (n : Nat) : costs cnt (bump d (a.sy ++ b.sy)) (⟨n, a.wt + b.wt, a.sy ++ b.sy⟩ :: r) = costs cnt d (a :: b :: r) + (a.wt + b.wt) := by
 have nd := h.nd
 simp only [List.flatMap_cons] at nd
 rw [← List.append_assoc] at nd
 have ndab : (a.sy ++ b.sy).Nodup := (List.nodup_append.1 nd).1
 have e1 : ((a.sy ++ b.sy).map fun c => cnt c * bump d (a.sy ++ b.sy) c).sum = ((a.sy ++ b.sy).map fun c => cnt c * d c).sum + ((a.sy ++ b.sy).map cnt).sum := by
  rw [← sum_more]
  exact sum_cong fun c hc => by rw [bump_in ndab hc]
 have e2 : ((r.flatMap Tg.sy).map fun c => cnt c * bump d (a.sy ++ b.sy) c).sum = ((r.flatMap Tg.sy).map fun c => cnt c * d c).sum :=
  sum_cong fun c hc => by
   rw [bump_out fun hab => (List.nodup_append.1 nd).2.2 c hab c hc rfl]
 have wa := h.wt a List.mem_cons_self
 have wb := h.wt b (List.mem_cons_of_mem _ List.mem_cons_self)
 unfold costs
 simp only [List.flatMap_cons, List.map_append, List.sum_append] at e1 e2 ⊢
 omega
end Go.Proofs.YtcaalcjcpddhaaaGreat.Zz.Hn
namespace Go.Proofs.YtcaalcjcpddhaaaGreat.Zz.Ho
open Hm Hn
instance : Inhabited Tg := ⟨⟨0, 0, []⟩⟩
def tg (l : List Tg) (i : Nat) : Tg := l.getD i default
def less (a b : Tg) : Bool := decide (a.wt < b.wt) || (decide (a.wt = b.wt) && decide (a.id < b.id))
def leastQ (l : List Tg) : Nat → Nat
 | 0 => 0
 | q + 1 => if less (tg l (q + 1)) (tg l (leastQ l q)) = true then q + 1 else leastQ l q
theorem leastQ_le (l : List Tg) (q : Nat) : leastQ l q ≤ q := by
 induction q with
 | zero => exact Nat.le_refl _
 | succ q ih =>
  unfold leastQ
  split <;> omega
theorem leastQ_wt (l : List Tg) (q : Nat) : ∀ j, j ≤ q → (tg l (leastQ l q)).wt ≤ (tg l j).wt := by
  induction q with
  | zero => intro j hj; obtain rfl : j = 0 := by omega
            exact Nat.le_refl _
  | succ q ih =>
    intro j hj
    unfold leastQ
    split
    · rename_i c
      unfold less at c
      simp only [Bool.or_eq_true, Bool.and_eq_true, decide_eq_true_eq] at c
      by_cases e : j = q + 1
      · subst e; exact Nat.le_refl _
      · have := ih j (by omega)
        omega
    · rename_i c
      unfold less at c
      simp only [Bool.or_eq_true, Bool.and_eq_true, decide_eq_true_eq] at c
      by_cases e : j = q + 1
      · subst e; omega
      · exact ih j (by omega)
def least (l : List Tg) : Nat := leastQ l (l.length - 1)
theorem least_lt {l : List Tg} (h : 0 < l.length) : least l < l.length := by
 have := leastQ_le l (l.length - 1)
 unfold least
 omega
theorem perm_erase : ∀ (l : List Tg) (i : Nat), i < l.length → (tg l i :: l.eraseIdx i).Perm l
 | x :: l, 0, _ => List.Perm.refl _
 | x :: l, i + 1, h => by
  have := perm_erase l i (by simpa using h)
  show (tg l i :: x :: l.eraseIdx i).Perm _
  exact (List.Perm.swap x (tg l i) _).trans (List.Perm.cons x this)
theorem least_all {l : List Tg} : ∀ x ∈ l, (tg l (least l)).wt ≤ x.wt := by
 intro x hx
 obtain ⟨j, hj, rfl⟩ := List.mem_iff_getElem.1 hx
 have := leastQ_wt l (l.length - 1) j (by omega)
 unfold tg at this
 rw [List.getD_eq_getElem?_getD, List.getD_eq_getElem?_getD, List.getElem?_eq_getElem hj] at this
 unfold tg least
 rw [List.getD_eq_getElem?_getD]
 exact this
def fstT (l : List Tg) : Tg := tg l (least l)
def lst1 (l : List Tg) : List Tg := l.eraseIdx (least l)
def sndT (l : List Tg) : Tg := fstT (lst1 l)
def lst2 (l : List Tg) : List Tg := lst1 (lst1 l)
def joint (n : Nat) (l : List Tg) : Tg := ⟨n, (fstT l).wt + (sndT l).wt, (fstT l).sy ++ (sndT l).sy⟩
def next (n : Nat) (l : List Tg) : List Tg := lst2 l ++ [joint n l]
theorem lst1_len {l : List Tg} (h : 0 < l.length) : (lst1 l).length = l.length - 1 := by
 unfold lst1
 rw [List.length_eraseIdx, if_pos (least_lt h)]
theorem parts {l : List Tg} (h : 2 ≤ l.length) : (fstT l :: sndT l :: lst2 l).Perm l ∧ (∀ x ∈ sndT l :: lst2 l, (fstT l).wt ≤ x.wt) ∧ (∀ x ∈ lst2 l, (sndT l).wt ≤ x.wt) := by
 have h1 := lst1_len (l := l) (by omega)
 have p1 : (fstT l :: lst1 l).Perm l := perm_erase l _ (least_lt (by omega))
 have p2 : (sndT l :: lst2 l).Perm (lst1 l) := perm_erase (lst1 l) _ (least_lt (by omega))
 refine ⟨(List.Perm.cons _ p2).trans p1, fun x hx => ?_, fun x hx => ?_⟩
 ·exact least_all x (p1.subset (List.mem_cons_of_mem _ (p2.subset hx)))
 ·exact least_all x (p2.subset (List.mem_cons_of_mem _ hx))
theorem next_len {l : List Tg} (n : Nat) (h : 2 ≤ l.length) : (next n l).length = l.length - 1 := by
 have h1 := lst1_len (l := l) (by omega)
 have h2 := lst1_len (l := lst1 l) (by omega)
 unfold next lst2
 simp
 omega
def run : Nat → Nat → List Tg → (Nat → Nat) → Nat → Nat
 | 0, _, _, d => d
 | f + 1, n, l, d => if l.length ≤ 1 then d else run f (n + 1) (next n l) (bump d ((fstT l).sy ++ (sndT l).sy))
def srt (l : List Nat) : List Nat := l.foldr ins []
theorem ins_low {x : Nat} {l : List Nat} (h : ∀ y ∈ l, x ≤ y) : ins x l = x :: l := by
 cases l with
 | nil => rfl
 | cons w l => unfold ins; rw [if_pos (h w List.mem_cons_self)]
theorem ins_comm (x y : Nat) (l : List Nat) : ins x (ins y l) = ins y (ins x l) := by
 induction l with
 | nil =>
  simp only [ins]
  by_cases h : x ≤ y
  ·by_cases g : y ≤ x
   ·obtain rfl : x = y := by omega
    rfl
   ·rw [if_pos h, if_neg g]
  ·rw [if_neg h, if_pos (by omega)]
 | cons w l ih =>
  by_cases h : x ≤ w
  ·by_cases g : y ≤ w
   ·simp only [ins, if_pos h, if_pos g]
    by_cases e : x ≤ y
    ·by_cases e2 : y ≤ x
     ·obtain rfl : x = y := by omega
      rfl
     ·rw [if_pos e, if_neg e2]
    ·rw [if_neg e, if_pos (by omega)]
   ·simp only [ins, if_pos h, if_neg g]
    rw [if_neg (by omega)]
  ·by_cases g : y ≤ w
   ·simp only [ins, if_neg h, if_pos g]
    rw [if_neg (by omega)]
   ·simp only [ins, if_neg h, if_neg g, ih]
theorem srt_perm {a b : List Nat} (p : a.Perm b) : srt a = srt b := by
 induction p with
 | nil => rfl
 | cons x _ ih => show ins x (srt _) = ins x (srt _); rw [ih]
 | swap x y l => exact ins_comm y x _
 | trans _ _ h1 h2 => exact h1.trans h2
theorem mem_srt {x : Nat} {l : List Nat} : x ∈ srt l ↔ x ∈ l := by
 induction l with
 | nil => simp [srt]
 | cons y l ih => show x ∈ ins y (srt l) ↔ _; rw [mem_ins, ih, List.mem_cons]
def wts (l : List Tg) : List Nat := l.map Tg.wt
theorem srt_next {l : List Tg} (n : Nat) (h : 2 ≤ l.length) : srt (wts l) = (fstT l).wt :: (sndT l).wt :: srt (wts (lst2 l)) ∧ srt (wts (next n l)) = ins ((fstT l).wt + (sndT l).wt) (srt (wts (lst2 l))) := by
 obtain ⟨p, h1, h2⟩ := parts h
 constructor
 ·have e0 : srt (wts l) = srt (wts (fstT l :: sndT l :: lst2 l)) := (srt_perm (p.map Tg.wt)).symm
  rw [e0]
  show ins _ (ins _ (srt (wts (lst2 l)))) = _
  have e2 : ins (sndT l).wt (srt (wts (lst2 l))) = (sndT l).wt :: srt (wts (lst2 l)) := ins_low fun y hy => by
   obtain ⟨x, hx, rfl⟩ := List.mem_map.1 (mem_srt.1 hy)
   exact h2 x hx
  rw [e2]
  refine ins_low fun y hy => ?_
  rcases List.mem_cons.1 hy with rfl | hy
  ·exact h1 _ List.mem_cons_self
  ·obtain ⟨x, hx, rfl⟩ := List.mem_map.1 (mem_srt.1 hy)
   exact h1 x (List.mem_cons_of_mem _ hx)
 ·have q : (wts (next n l)).Perm (((fstT l).wt + (sndT l).wt) :: wts (lst2 l)) := by
   unfold next wts
   rw [List.map_append]
   exact List.perm_append_comm
  rw [srt_perm q]
  rfl
theorem sum_next {l : List Tg} (n : Nat) (h : 2 ≤ l.length) : (wts (next n l)).sum = (wts l).sum := by
 obtain ⟨p, _, _⟩ := parts h
 have e := (p.map Tg.wt).sum_nat
 unfold next wts at *
 rw [← e, List.map_append, List.sum_append]
 simp [joint]
 omega
theorem ends {cnt : Nat → Nat} : ∀ (f n : Nat) (l : List Tg) (d : Nat → Nat), Inv cnt d l → 1 ≤ l.length → l.length ≤ f → (wts l).sum ≤ 268435456 →
  ∃ z : Tg, Inv cnt (run f n l d) [z] ∧ z.sy.Perm (l.flatMap Tg.sy) ∧ costs cnt (run f n l d) [z] = costs cnt d l + huff f (srt (wts l)) ∧ z.wt ≤ 268435456 := by
 intro f
 induction f with
 | zero => intro n l d _ h1 h2; omega
 | succ f ih =>
  intro n l d hI h1 h2 hT
  unfold run
  by_cases c : l.length ≤ 1
  ·rw [if_pos c]
   match l, h1, c with
   | [z], _, _ =>
    refine ⟨z, hI, by simp, ?_, by simpa [wts] using hT⟩
    show _ = _ + huff (f + 1) (srt [z.wt])
    simp [srt, ins, huff]
  ·rw [if_neg c]
   have h3 : 2 ≤ l.length := by omega
   obtain ⟨p, q1, q2⟩ := parts h3
   have hs := (p.map Tg.wt).sum_nat
   have hT2 : (fstT l).wt + (sndT l).wt ≤ 268435456 := by
    simp only [List.map_cons, List.sum_cons] at hs
    unfold wts at hT
    omega
   have hI2 := (hI.perm p.symm).step n q1 q2 hT2
   have p3 : (joint n l :: lst2 l).Perm (next n l) := by
    unfold next
    exact (List.perm_append_comm (l₁ := lst2 l) (l₂ := [joint n l])).symm
   have hI3 := hI2.perm p3
   obtain ⟨z, g1, g2, g3, g4⟩ := ih (n + 1) (next n l) (bump d ((fstT l).sy ++ (sndT l).sy)) hI3 (by rw [next_len n h3]; omega) (by rw [next_len n h3]; omega) (by rw [sum_next n h3]; exact hT)
   refine ⟨z, g1, ?_, ?_, g4⟩
   ·refine g2.trans ((p3.symm.flatMap_right Tg.sy).trans ?_)
    refine List.Perm.trans ?_ (p.flatMap_right Tg.sy)
    simp [joint, List.flatMap_cons]
   ·obtain ⟨s1, s2⟩ := srt_next n h3
    rw [g3, s2, s1]
    have e1 := costs_perm (cnt := cnt) (d := bump d ((fstT l).sy ++ (sndT l).sy)) p3
    have e2 := costs_step (hI.perm p.symm) n
    have e3 := costs_perm (cnt := cnt) (d := d) p
    show _ = _ + ((fstT l).wt + (sndT l).wt + huff f _)
    unfold joint at e1
    omega
end Go.Proofs.YtcaalcjcpddhaaaGreat.Zz.Ho
