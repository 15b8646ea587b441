/-
  Plain: things of symbols, the two least become one, again and again: what stays so: each thing's symbols make up all of 2 to the power of 40, no symbol lies deeper than 40, and what it costs.
-/
import Derived.Test.YtbkagloonlddfaaHm
namespace Go.Proofs.Ytbkagloonlddfaa.Hn

structure Tg where
  id : Nat
  wt : Nat
  sy : List Nat
def fib : Nat → Nat
  | 0 => 0
  | 1 => 1
  | n + 2 => fib (n + 1) + fib n
theorem fib_step (n : Nat) : fib (n + 2) = fib (n + 1) + fib n := rfl
theorem fib_le (n : Nat) : fib n ≤ fib (n + 1) := by
  cases n with
  | zero => decide
  | succ n => rw [fib_step]; omega
theorem fib_mono {m n : Nat} (h : m ≤ n) : fib m ≤ fib n := by
  obtain ⟨k, rfl⟩ : ∃ k, n = m + k := ⟨n - m, by omega⟩
  clear h
  induction k with
  | zero => exact Nat.le_refl _
  | succ k ih => exact Nat.le_trans ih (fib_le _)
def fibs : Nat → Nat × Nat
  | 0 => (0, 1)
  | n + 1 => ((fibs n).2, (fibs n).2 + (fibs n).1)
theorem fibs_eq (n : Nat) : fibs n = (fib n, fib (n + 1)) := by
  induction n with
  | zero => rfl
  | succ n ih => rw [fibs, ih]; rfl
theorem fib_43 : 268435456 < fib 43 := by
  have : fib 43 = (fibs 43).1 := by rw [fibs_eq]
  rw [this]
  decide +kernel
/-- Deep symbols are heavy. -/
theorem deep {d : Nat} {w : Nat} (h : fib (d + 2) ≤ w) (hw : w ≤ 268435456) : d ≤ 40 := by
  refine Nat.le_of_not_lt fun c => ?_
  have := fib_mono (show 43 ≤ d + 2 by omega)
  have := fib_43
  omega
def Apart (d : Nat → Nat) (x y : Tg) : Prop := (∀ c ∈ x.sy, fib (d c + 1) ≤ y.wt) ∧ (∀ c ∈ y.sy, fib (d c + 1) ≤ x.wt)
theorem Apart.symm {d : Nat → Nat} {x y : Tg} (h : Apart d x y) : Apart d y x := ⟨h.2, h.1⟩
structure Inv (cnt d : Nat → Nat) (l : List Tg) : Prop where
  nd : (l.flatMap Tg.sy).Nodup
  wt : ∀ x ∈ l, x.wt = (x.sy.map cnt).sum
  hi : ∀ x ∈ l, ∀ c ∈ x.sy, fib (d c + 2) ≤ x.wt
  ot : l.Pairwise (Apart d)
  kr : ∀ x ∈ l, (x.sy.map fun c => 2 ^ (40 - d c)).sum = 2 ^ 40
theorem Inv.perm {cnt d : Nat → Nat} {l m : List Tg} (p : l.Perm m) (h : Inv cnt d l) : Inv cnt d m :=
  ⟨(p.flatMap_right Tg.sy).nodup h.nd, fun x hx => h.wt x (p.symm.subset hx), fun x hx => h.hi x (p.symm.subset hx), (p.pairwise_iff (fun h => h.symm)).1 h.ot, fun x hx => h.kr x (p.symm.subset hx)⟩
def bump (d : Nat → Nat) (s : List Nat) (c : Nat) : Nat := d c + s.count c
theorem bump_in {d : Nat → Nat} {s : List Nat} (h : s.Nodup) {c : Nat} (hc : c ∈ s) : bump d s c = d c + 1 := by
  unfold bump
  rw [h.count, if_pos hc]
theorem bump_out {d : Nat → Nat} {s : List Nat} {c : Nat} (hc : c ∉ s) : bump d s c = d c := by
  unfold bump
  rw [List.count_eq_zero.2 hc]
  rfl
theorem sum_half (d : Nat → Nat) (s : List Nat) (h : ∀ c ∈ s, d c + 1 ≤ 40) : 2 * (s.map fun c => 2 ^ (40 - (d c + 1))).sum = (s.map fun c => 2 ^ (40 - d c)).sum := by
  induction s with
  | nil => rfl
  | cons c s ih =>
    have h1 := h c List.mem_cons_self
    have h2 := ih (fun x hx => h x (List.mem_cons_of_mem _ hx))
    have h3 : 2 ^ (40 - d c) = 2 * 2 ^ (40 - (d c + 1)) := by
      rw [show 40 - d c = (40 - (d c + 1)) + 1 by omega, Nat.pow_succ]; omega
    simp only [List.map_cons, List.sum_cons]
    rw [h3, ← h2]
    omega
theorem sum_cong {f g : Nat → Nat} {s : List Nat} (h : ∀ c ∈ s, f c = g c) : (s.map f).sum = (s.map g).sum := by
  rw [List.map_congr_left h]
/-- The two least become one. -/
theorem Inv.step {cnt d : Nat → Nat} {a b : Tg} {r : List Tg} (h : Inv cnt d (a :: b :: r)) (n : Nat) (ha : ∀ x ∈ b :: r, a.wt ≤ x.wt) (hb : ∀ x ∈ r, b.wt ≤ x.wt) (hT : a.wt + b.wt ≤ 268435456) :
    Inv cnt (bump d (a.sy ++ b.sy)) (⟨n, a.wt + b.wt, a.sy ++ b.sy⟩ :: r) := by
  have nd := h.nd
  simp only [List.flatMap_cons] at nd
  rw [← List.append_assoc] at nd
  have ndab : (a.sy ++ b.sy).Nodup := (List.nodup_append.1 nd).1
  have ndr : ∀ y ∈ r, ∀ c ∈ y.sy, c ∉ a.sy ++ b.sy := fun y hy c hc hab => (List.nodup_append.1 nd).2.2 c hab c (List.mem_flatMap.2 ⟨y, hy, hc⟩) rfl
  have inn : ∀ c ∈ a.sy ++ b.sy, bump d (a.sy ++ b.sy) c = d c + 1 := fun c hc => bump_in ndab hc
  have outt : ∀ y ∈ r, ∀ c ∈ y.sy, bump d (a.sy ++ b.sy) c = d c := fun y hy c hc => bump_out (ndr y hy c hc)
  have pa := List.pairwise_cons.1 h.ot
  have pb := List.pairwise_cons.1 pa.2
  have ab := pa.1 b List.mem_cons_self
  have hia := h.hi a List.mem_cons_self
  have hib := h.hi b (List.mem_cons_of_mem _ List.mem_cons_self)
  have hz : ∀ c ∈ a.sy ++ b.sy, fib (d c + 1 + 2) ≤ a.wt + b.wt := fun c hc => by
    rw [fib_step]
    rcases List.mem_append.1 hc with e | e
    · have h1 := hia c e
      have h2 := ab.1 c e
      show fib (d c + 2) + fib (d c + 1) ≤ _
      omega
    · have h1 := hib c e
      have h2 := ab.2 c e
      show fib (d c + 2) + fib (d c + 1) ≤ _
      omega
  refine ⟨?_, ?_, ?_, ?_, ?_⟩
  · simp only [List.flatMap_cons]
    exact nd
  · intro x hx
    rcases List.mem_cons.1 hx with rfl | hx
    · show a.wt + b.wt = ((a.sy ++ b.sy).map cnt).sum
      rw [List.map_append, List.sum_append, ← h.wt a List.mem_cons_self, ← h.wt b (List.mem_cons_of_mem _ List.mem_cons_self)]
    · exact h.wt x (List.mem_cons_of_mem _ (List.mem_cons_of_mem _ hx))
  · intro x hx c hc
    rcases List.mem_cons.1 hx with rfl | hx
    · rw [inn c hc]
      exact hz c hc
    · rw [outt x hx c hc]
      exact h.hi x (List.mem_cons_of_mem _ (List.mem_cons_of_mem _ hx)) c hc
  · refine List.pairwise_cons.2 ⟨fun y hy => ⟨fun c hc => ?_, fun c hc => ?_⟩, ?_⟩
    · rw [inn c hc]
      show fib (d c + 2) ≤ y.wt
      rcases List.mem_append.1 hc with e | e
      · exact Nat.le_trans (hia c e) (ha y (List.mem_cons_of_mem _ hy))
      · exact Nat.le_trans (hib c e) (hb y hy)
    · rw [outt y hy c hc]
      have := (pa.1 y (List.mem_cons_of_mem _ hy)).2 c hc
      show _ ≤ a.wt + b.wt
      omega
    · refine List.Pairwise.imp_of_mem (fun hx hy hxy => ?_) pb.2
      exact ⟨fun c hc => by rw [outt _ hx c hc]; exact hxy.1 c hc, fun c hc => by rw [outt _ hy c hc]; exact hxy.2 c hc⟩
  · intro x hx
    rcases List.mem_cons.1 hx with rfl | hx
    · have le40 : ∀ c ∈ a.sy ++ b.sy, d c + 1 ≤ 40 := fun c hc => deep (hz c hc) hT
      show ((a.sy ++ b.sy).map fun c => 2 ^ (40 - bump d (a.sy ++ b.sy) c)).sum = 2 ^ 40
      rw [sum_cong (g := fun c => 2 ^ (40 - (d c + 1))) (fun c hc => by rw [inn c hc])]
      have k1 := h.kr a List.mem_cons_self
      have k2 := h.kr b (List.mem_cons_of_mem _ List.mem_cons_self)
      have s1 := sum_half d (a.sy ++ b.sy) le40
      have s2 : ((a.sy ++ b.sy).map fun c => 2 ^ (40 - d c)).sum = 2 ^ 40 + 2 ^ 40 := by
        rw [List.map_append, List.sum_append, k1, k2]
      rw [s2] at s1
      omega
    · rw [sum_cong (g := fun c => 2 ^ (40 - d c)) (fun c hc => by rw [outt x hx c hc])]
      exact h.kr x (List.mem_cons_of_mem _ (List.mem_cons_of_mem _ hx))
/-- What it costs so far. -/
def costs (cnt d : Nat → Nat) (l : List Tg) : Nat := ((l.flatMap Tg.sy).map fun c => cnt c * d c).sum
theorem costs_perm {cnt d : Nat → Nat} {l m : List Tg} (p : l.Perm m) : costs cnt d l = costs cnt d m := ((p.flatMap_right Tg.sy).map _).sum_nat
theorem sum_more (cnt d : Nat → Nat) (s : List Nat) : (s.map fun c => cnt c * (d c + 1)).sum = (s.map fun c => cnt c * d c).sum + (s.map cnt).sum := by
  induction s with
  | nil => rfl
  | cons c s ih =>
    simp only [List.map_cons, List.sum_cons]
    rw [ih, Nat.mul_succ]
    omega
theorem costs_step {cnt d : Nat → Nat} {a b : Tg} {r : List Tg} (h : Inv cnt d (a :: b :: r)) (n : Nat) : costs cnt (bump d (a.sy ++ b.sy)) (⟨n, a.wt + b.wt, a.sy ++ b.sy⟩ :: r) = costs cnt d (a :: b :: r) + (a.wt + b.wt) := by
  have nd := h.nd
  simp only [List.flatMap_cons] at nd
  rw [← List.append_assoc] at nd
  have ndab : (a.sy ++ b.sy).Nodup := (List.nodup_append.1 nd).1
  have e1 : ((a.sy ++ b.sy).map fun c => cnt c * bump d (a.sy ++ b.sy) c).sum = ((a.sy ++ b.sy).map fun c => cnt c * d c).sum + ((a.sy ++ b.sy).map cnt).sum := by
    rw [← sum_more]
    exact sum_cong fun c hc => by rw [bump_in ndab hc]
  have e2 : ((r.flatMap Tg.sy).map fun c => cnt c * bump d (a.sy ++ b.sy) c).sum = ((r.flatMap Tg.sy).map fun c => cnt c * d c).sum :=
    sum_cong fun c hc => by
      rw [bump_out fun hab => (List.nodup_append.1 nd).2.2 c hab c hc rfl]
  have wa := h.wt a List.mem_cons_self
  have wb := h.wt b (List.mem_cons_of_mem _ List.mem_cons_self)
  unfold costs
  simp only [List.flatMap_cons, List.map_append, List.sum_append] at e1 e2 ⊢
  omega
end Go.Proofs.Ytbkagloonlddfaa.Hn
