/-
  Plain: no lengths that fit cost less than the ones of the two least things, again and again. Plain: things of symbols, the two least become one, again and again: what stays so: each thing's symbols make up all of 2 to the power of 40, no symbol lies deeper than 40, and what it costs. Plain: the document's way to lengths: the least thing, without it, both together, again; where it ends. Plain: the lengths of counts: which are none, none beyond 40, that they fit, that no others cost less, and their order. Plain: codes in the canonical order: how much of 2 to the power of 40 lies ahead of a code; apart; in order. Plain: sums over all symbols, and over those that stand: costs, and what lengths need.
-/
import Derived.Test.YtcaalcjcpddhaaaGreatR26
namespace Go.Proofs.YtcaalcjcpddhaaaGreat.Zz.Hm

def cost : List Nat → List Nat → Nat
 | w :: ws, l :: ls => w * l + cost ws ls
 | _, _ => 0
def kraft (M : Nat) : List Nat → Nat
 | [] => 0
 | l :: ls => 2 ^ (M - l) + kraft M ls
def Rises : List Nat → Prop
 | [] => True
 | w :: ws => (∀ x ∈ ws, w ≤ x) ∧ Rises ws
def ins (x : Nat) : List Nat → List Nat
 | [] => [x]
 | w :: ws => if x ≤ w then x :: w :: ws else w :: ins x ws
theorem length_ins (x : Nat) (ws : List Nat) : (ins x ws).length = ws.length + 1 := by
 induction ws with
 | nil => rfl
 | cons w ws ih =>
  unfold ins
  split
  ·rfl
  ·simp [ih]
theorem mem_ins {x y : Nat} {ws : List Nat} : y ∈ ins x ws ↔ y = x ∨ y ∈ ws := by
 induction ws with
 | nil => simp [ins]
 | cons w ws ih =>
  unfold ins
  split
  ·simp
  ·simp only [List.mem_cons, ih]
   constructor
   ·rintro (h | h | h)
    ·exact .inr (.inl h)
    ·exact .inl h
    ·exact .inr (.inr h)
   ·rintro (h | h | h)
    ·exact .inr (.inl h)
    ·exact .inl h
    ·exact .inr (.inr h)
theorem rises_ins (x : Nat) (ws : List Nat) (h : Rises ws) : Rises (ins x ws) := by
 induction ws with
 | nil => exact ⟨fun y hy => (List.not_mem_nil hy).elim, trivial⟩
 | cons w ws ih =>
  unfold ins
  split
  ·rename_i c
   refine ⟨fun y hy => ?_, h⟩
   rcases List.mem_cons.1 hy with rfl | hy
   ·exact c
   ·exact Nat.le_trans c (h.1 y hy)
  ·rename_i c
   refine ⟨fun y hy => ?_, ih h.2⟩
   rcases mem_ins.1 hy with rfl | hy
   ·omega
   ·exact h.1 y hy
def huff : Nat → List Nat → Nat
 | n + 1, a :: b :: r => (a + b) + huff n (ins (a + b) r)
 | _, _ => 0
theorem kraft_perm {M : Nat} {a b : List Nat} (h : a.Perm b) : kraft M a = kraft M b := by
 induction h with
 | nil => rfl
 | cons x _ ih => simp only [kraft, ih]
 | swap x y l => simp only [kraft]; omega
 | trans _ _ h1 h2 => exact h1.trans h2
theorem kraft_dvd {M m : Nat} (hm : m ≤ M) (ls : List Nat) (h : ∀ x ∈ ls, x ≤ m) : ∃ k, kraft M ls = k * 2 ^ (M - m) := by
 induction ls with
 | nil => exact ⟨0, by simp [kraft]⟩
 | cons l ls ih =>
  obtain ⟨k, hk⟩ := ih (fun x hx => h x (List.mem_cons_of_mem _ hx))
  have hl := h l List.mem_cons_self
  refine ⟨2 ^ (m - l) + k, ?_⟩
  rw [kraft, hk, Nat.add_mul, ← Nat.pow_add]
  congr 2
  omega
theorem swap_max (ws : List Nat) : ∀ (w : Nat) (ls : List Nat) (l : Nat), ls.length = ws.length → (∀ x ∈ ws, w ≤ x) → ∃ m ls', (m :: ls').Perm (l :: ls) ∧ ls'.length = ls.length ∧ (∀ x ∈ ls', x ≤ m) ∧ w * m + cost ws ls' ≤ w * l + cost ws ls := by
 induction ws with
 | nil =>
  intro w ls l hl _
  obtain rfl := List.eq_nil_of_length_eq_zero hl
  exact ⟨l, [], List.Perm.refl _, rfl, fun x hx => (List.not_mem_nil hx).elim, Nat.le_refl _⟩
 | cons v ws ih =>
  intro w ls l hl hw
  match ls, hl with
  | k :: ls, hl =>
   have hv : w ≤ v := hw v List.mem_cons_self
   have hl' : ls.length = ws.length := by simpa using hl
   -- the greatest of l and the rest behind k, at w
   obtain ⟨m, ls', p, len, mx, c⟩ := ih w ls l hl' (fun x hx => hw x (List.mem_cons_of_mem _ hx))
   by_cases g : k ≤ m
   ·refine ⟨m, k :: ls', ?_, by simp [len], ?_, ?_⟩
    ·exact (List.Perm.swap k m ls').trans ((List.Perm.cons k p).trans (List.Perm.swap l k ls))
    ·intro x hx
     rcases List.mem_cons.1 hx with rfl | hx
     ·exact g
     ·exact mx x hx
    ·simp only [cost]
     omega
   ·refine ⟨k, m :: ls', ?_, by simp [len], ?_, ?_⟩
    ·exact (List.Perm.cons k p).trans (List.Perm.swap l k ls)
    ·intro x hx
     rcases List.mem_cons.1 hx with rfl | hx
     ·omega
     ·have := mx x hx; omega
    ·simp only [cost]
     have h1 : w * k + v * m ≤ w * m + v * k := by
      obtain ⟨d, rfl⟩ : ∃ d, v = w + d := ⟨v - w, by omega⟩
      obtain ⟨e, rfl⟩ : ∃ e, k = m + e := ⟨k - m, by omega⟩
      have : d * m ≤ d * (m + e) := Nat.mul_le_mul_left d (by omega)
      rw [Nat.add_mul, Nat.add_mul]
      omega
     omega
theorem cost_ins (x y : Nat) (ws : List Nat) : ∀ ls : List Nat, ls.length = ws.length → ∃ ls', ls'.Perm (y :: ls) ∧ ls'.length = ls.length + 1 ∧ cost (ins x ws) ls' = x * y + cost ws ls := by
 induction ws with
 | nil =>
  intro ls hl
  obtain rfl := List.eq_nil_of_length_eq_zero hl
  exact ⟨[y], List.Perm.refl _, rfl, rfl⟩
 | cons w ws ih =>
  intro ls hl
  match ls, hl with
  | l :: ls, hl =>
   unfold ins
   split
   ·exact ⟨y :: l :: ls, List.Perm.refl _, rfl, rfl⟩
   ·obtain ⟨ls', p, len, e⟩ := ih ls (by simpa using hl)
    refine ⟨l :: ls', (List.Perm.cons l p).trans (List.Perm.swap y l ls), by simp [len], ?_⟩
    simp only [cost, e]
    omega
theorem best (M : Nat) : ∀ (n : Nat) (ws ls : List Nat), ws.length ≤ n → ls.length = ws.length → Rises ws → (∀ l ∈ ls, l ≤ M) → kraft M ls ≤ 2 ^ M → huff n ws ≤ cost ws ls := by
 intro n
 induction n with
 | zero =>
  intro ws ls h1 _ _ _ _
  unfold huff
  exact Nat.zero_le _
 | succ n ih =>
  intro ws ls h1 h2 hr hM hk
  match ws, ls, h2 with
  | [], _, _ => exact Nat.zero_le _
  | [_], _, _ => exact Nat.zero_le _
  | a :: b :: r, la :: lb :: lr, h2 =>
   have hlen : lr.length = r.length := by simpa using h2
   obtain ⟨m1, q1, p1, len1, mx1, c1⟩ := swap_max (b :: r) a (lb :: lr) la (by simp [hlen]) hr.1
   match q1, len1 with
   | l2 :: q1, len1 =>
    have len1' : q1.length = r.length := by simp at len1; omega
    obtain ⟨m2, q2, p2, len2, mx2, c2⟩ := swap_max r b q1 l2 len1' hr.2.1
    have hm21 : m2 ≤ m1 := mx1 m2 (p2.subset List.mem_cons_self)
    have P : (m1 :: m2 :: q2).Perm (la :: lb :: lr) := (List.Perm.cons m1 p2).trans p1
    have hM2 : m2 ≤ M := hM m2 (P.subset (by simp))
    have hM1 : m1 ≤ M := hM m1 (P.subset (by simp))
    have K : 2 ^ (M - m1) + (2 ^ (M - m2) + kraft M q2) ≤ 2 ^ M := by
     have := kraft_perm (M := M) P
     simp only [kraft] at this hk
     omega
    obtain ⟨k, hkk⟩ := kraft_dvd hM2 q2 mx2
    have e0 : 2 ^ M = 2 ^ m2 * 2 ^ (M - m2) := by rw [← Nat.pow_add]; congr 1; omega
    have pos1 : 0 < 2 ^ (M - m1) := Nat.two_pow_pos _
    have pos2 : 0 < 2 ^ (M - m2) := Nat.two_pow_pos _
    have k2 : k + 2 ≤ 2 ^ m2 := by
     refine Nat.lt_of_mul_lt_mul_right (a := 2 ^ (M - m2)) ?_
     rw [← e0, Nat.add_mul, Nat.one_mul, ← hkk]
     omega
    have m2p : 1 ≤ m2 := by
     rcases Nat.eq_zero_or_pos m2 with e | e
     ·rw [e] at k2
      simp at k2
     ·exact e
    obtain ⟨ls', p', len', ec⟩ := cost_ins (a + b) (m2 - 1) r q2 (by omega)
    have K2 : kraft M ls' ≤ 2 ^ M := by
     rw [kraft_perm p', kraft, hkk, e0]
     have e1 : 2 ^ (M - (m2 - 1)) = 2 * 2 ^ (M - m2) := by
      rw [show M - (m2 - 1) = (M - m2) + 1 by omega, Nat.pow_succ]; omega
     rw [e1, ← Nat.add_mul]
     exact Nat.mul_le_mul_right _ (by omega)
    have I := ih (ins (a + b) r) ls' (by rw [length_ins]; simp at h1; omega) (by rw [length_ins]; omega) (rises_ins _ _ hr.2.2) (fun l hl => by
     rcases List.mem_cons.1 (p'.subset hl) with rfl | hl
     ·omega
     ·exact hM l (P.subset (by simp [hl]))) K2
    rw [ec] at I
    have s1 : a * m2 ≤ a * m1 := Nat.mul_le_mul_left a hm21
    have s2 : (a + b) * (m2 - 1) + (a + b) = (a + b) * m2 := by
     obtain ⟨d, rfl⟩ : ∃ d, m2 = d + 1 := ⟨m2 - 1, by omega⟩
     rw [Nat.add_sub_cancel, Nat.mul_succ]
    have s3 : (a + b) * m2 = a * m2 + b * m2 := Nat.add_mul _ _ _
    show (a + b) + huff n (ins (a + b) r) ≤ _
    simp only [cost] at c1 c2 ⊢
    omega
end Go.Proofs.YtcaalcjcpddhaaaGreat.Zz.Hm

namespace Go.Proofs.YtcaalcjcpddhaaaGreat.Zz.Hn

structure Tg where
 id : Nat
 wt : Nat
 sy : List Nat
def fib : Nat → Nat
 | 0 => 0
 | 1 => 1
 | n + 2 => fib (n + 1) + fib n
theorem fib_step (n : Nat) : fib (n + 2) = fib (n + 1) + fib n := rfl
theorem fib_le (n : Nat) : fib n ≤ fib (n + 1) := by
 cases n with
 | zero => decide
 | succ n => rw [fib_step]; omega
theorem fib_mono {m n : Nat} (h : m ≤ n) : fib m ≤ fib n := by
 obtain ⟨k, rfl⟩ : ∃ k, n = m + k := ⟨n - m, by omega⟩
 clear h
 induction k with
 | zero => exact Nat.le_refl _
 | succ k ih => exact Nat.le_trans ih (fib_le _)
def fibs : Nat → Nat × Nat
 | 0 => (0, 1)
 | n + 1 => ((fibs n).2, (fibs n).2 + (fibs n).1)
theorem fibs_eq (n : Nat) : fibs n = (fib n, fib (n + 1)) := by
 induction n with
 | zero => rfl
 | succ n ih => rw [fibs, ih]; rfl
theorem fib_43 : 268435456 < fib 43 := by
 have : fib 43 = (fibs 43).1 := by rw [fibs_eq]
 rw [this]
 decide +kernel
theorem deep {d : Nat} {w : Nat} (h : fib (d + 2) ≤ w) (hw : w ≤ 268435456) : d ≤ 40 := by
 refine Nat.le_of_not_lt fun c => ?_
 have := fib_mono (show 43 ≤ d + 2 by omega)
 have := fib_43
 omega
def Apart (d : Nat → Nat) (x y : Tg) : Prop := (∀ c ∈ x.sy, fib (d c + 1) ≤ y.wt) ∧ (∀ c ∈ y.sy, fib (d c + 1) ≤ x.wt)
theorem Apart.symm {d : Nat → Nat} {x y : Tg} (h : Apart d x y) : Apart d y x := ⟨h.2, h.1⟩
structure Inv (cnt d : Nat → Nat) (l : List Tg) : Prop where
 nd : (l.flatMap Tg.sy).Nodup
 wt : ∀ x ∈ l, x.wt = (x.sy.map cnt).sum
 hi : ∀ x ∈ l, ∀ c ∈ x.sy, fib (d c + 2) ≤ x.wt
 ot : l.Pairwise (Apart d)
 kr : ∀ x ∈ l, (x.sy.map fun c => 2 ^ (40 - d c)).sum = 2 ^ 40
theorem Inv.perm {cnt d : Nat → Nat} {l m : List Tg} (p : l.Perm m) (h : Inv cnt d l) : Inv cnt d m :=
 ⟨(p.flatMap_right Tg.sy).nodup h.nd, fun x hx => h.wt x (p.symm.subset hx), fun x hx => h.hi x (p.symm.subset hx), (p.pairwise_iff (fun h => h.symm)).1 h.ot, fun x hx => h.kr x (p.symm.subset hx)⟩
def bump (d : Nat → Nat) (s : List Nat) (c : Nat) : Nat := d c + s.count c
theorem bump_in {d : Nat → Nat} {s : List Nat} (h : s.Nodup) {c : Nat} (hc : c ∈ s) : bump d s c = d c + 1 := by
 unfold bump
 rw [h.count, if_pos hc]
theorem bump_out {d : Nat → Nat} {s : List Nat} {c : Nat} (hc : c ∉ s) : bump d s c = d c := by
 unfold bump
 rw [List.count_eq_zero.2 hc]
 rfl
theorem sum_half (d : Nat → Nat) (s : List Nat) (h : ∀ c ∈ s, d c + 1 ≤ 40) : 2 * (s.map fun c => 2 ^ (40 - (d c + 1))).sum = (s.map fun c => 2 ^ (40 - d c)).sum := by
 induction s with
 | nil => rfl
 | cons c s ih =>
  have h1 := h c List.mem_cons_self
  have h2 := ih (fun x hx => h x (List.mem_cons_of_mem _ hx))
  have h3 : 2 ^ (40 - d c) = 2 * 2 ^ (40 - (d c + 1)) := by
   rw [show 40 - d c = (40 - (d c + 1)) + 1 by omega, Nat.pow_succ]; omega
  simp only [List.map_cons, List.sum_cons]
  rw [h3, ← h2]
  omega
theorem sum_cong {f g : Nat → Nat} {s : List Nat} (h : ∀ c ∈ s, f c = g c) : (s.map f).sum = (s.map g).sum := by
 rw [List.map_congr_left h]
theorem Inv.step {cnt d : Nat → Nat} {a b : Tg} {r : List Tg} (h : Inv cnt d (a :: b :: r)) (n : Nat) (ha : ∀ x ∈ b :: r, a.wt ≤ x.wt) (hb : ∀ x ∈ r, b.wt ≤ x.wt) (hT : a.wt + b.wt ≤ 268435456) :
  Inv cnt (bump d (a.sy ++ b.sy)) (⟨n, a.wt + b.wt, a.sy ++ b.sy⟩ :: r) := by
 have nd := h.nd
 simp only [List.flatMap_cons] at nd
 rw [← List.append_assoc] at nd
 have ndab : (a.sy ++ b.sy).Nodup := (List.nodup_append.1 nd).1
 have ndr : ∀ y ∈ r, ∀ c ∈ y.sy, c ∉ a.sy ++ b.sy := fun y hy c hc hab => (List.nodup_append.1 nd).2.2 c hab c (List.mem_flatMap.2 ⟨y, hy, hc⟩) rfl
 have inn : ∀ c ∈ a.sy ++ b.sy, bump d (a.sy ++ b.sy) c = d c + 1 := fun c hc => bump_in ndab hc
 have outt : ∀ y ∈ r, ∀ c ∈ y.sy, bump d (a.sy ++ b.sy) c = d c := fun y hy c hc => bump_out (ndr y hy c hc)
 have pa := List.pairwise_cons.1 h.ot
 have pb := List.pairwise_cons.1 pa.2
 have ab := pa.1 b List.mem_cons_self
 have hia := h.hi a List.mem_cons_self
 have hib := h.hi b (List.mem_cons_of_mem _ List.mem_cons_self)
 have hz : ∀ c ∈ a.sy ++ b.sy, fib (d c + 1 + 2) ≤ a.wt + b.wt := fun c hc => by
  rw [fib_step]
  rcases List.mem_append.1 hc with e | e
  ·have h1 := hia c e
   have h2 := ab.1 c e
   show fib (d c + 2) + fib (d c + 1) ≤ _
   omega
  ·have h1 := hib c e
   have h2 := ab.2 c e
   show fib (d c + 2) + fib (d c + 1) ≤ _
   omega
 refine ⟨?_, ?_, ?_, ?_, ?_⟩
 ·simp only [List.flatMap_cons]
  exact nd
 ·intro x hx
  rcases List.mem_cons.1 hx with rfl | hx
  ·show a.wt + b.wt = ((a.sy ++ b.sy).map cnt).sum
   rw [List.map_append, List.sum_append, ← h.wt a List.mem_cons_self, ← h.wt b (List.mem_cons_of_mem _ List.mem_cons_self)]
  ·exact h.wt x (List.mem_cons_of_mem _ (List.mem_cons_of_mem _ hx))
 ·intro x hx c hc
  rcases List.mem_cons.1 hx with rfl | hx
  ·rw [inn c hc]
   exact hz c hc
  ·rw [outt x hx c hc]
   exact h.hi x (List.mem_cons_of_mem _ (List.mem_cons_of_mem _ hx)) c hc
 ·refine List.pairwise_cons.2 ⟨fun y hy => ⟨fun c hc => ?_, fun c hc => ?_⟩, ?_⟩
  ·rw [inn c hc]
   show fib (d c + 2) ≤ y.wt
   rcases List.mem_append.1 hc with e | e
   ·exact Nat.le_trans (hia c e) (ha y (List.mem_cons_of_mem _ hy))
   ·exact Nat.le_trans (hib c e) (hb y hy)
  ·rw [outt y hy c hc]
   have := (pa.1 y (List.mem_cons_of_mem _ hy)).2 c hc
   show _ ≤ a.wt + b.wt
   omega
  ·refine List.Pairwise.imp_of_mem (fun hx hy hxy => ?_) pb.2
   exact ⟨fun c hc => by rw [outt _ hx c hc]; exact hxy.1 c hc, fun c hc => by rw [outt _ hy c hc]; exact hxy.2 c hc⟩
 ·intro x hx
  rcases List.mem_cons.1 hx with rfl | hx
  ·have le40 : ∀ c ∈ a.sy ++ b.sy, d c + 1 ≤ 40 := fun c hc => deep (hz c hc) hT
   show ((a.sy ++ b.sy).map fun c => 2 ^ (40 - bump d (a.sy ++ b.sy) c)).sum = 2 ^ 40
   rw [sum_cong (g := fun c => 2 ^ (40 - (d c + 1))) (fun c hc => by rw [inn c hc])]
   have k1 := h.kr a List.mem_cons_self
   have k2 := h.kr b (List.mem_cons_of_mem _ List.mem_cons_self)
   have s1 := sum_half d (a.sy ++ b.sy) le40
   have s2 : ((a.sy ++ b.sy).map fun c => 2 ^ (40 - d c)).sum = 2 ^ 40 + 2 ^ 40 := by
    rw [List.map_append, List.sum_append, k1, k2]
   rw [s2] at s1
   omega
  ·rw [sum_cong (g := fun c => 2 ^ (40 - d c)) (fun c hc => by rw [outt x hx c hc])]
   exact h.kr x (List.mem_cons_of_mem _ (List.mem_cons_of_mem _ hx))
def costs (cnt d : Nat → Nat) (l : List Tg) : Nat := ((l.flatMap Tg.sy).map fun c => cnt c * d c).sum
theorem costs_perm {cnt d : Nat → Nat} {l m : List Tg} (p : l.Perm m) : costs cnt d l = costs cnt d m := ((p.flatMap_right Tg.sy).map _).sum_nat
theorem sum_more (cnt d : Nat → Nat) (s : List Nat) : (s.map fun c => cnt c * (d c + 1)).sum = (s.map fun c => cnt c * d c).sum + (s.map cnt).sum := by
 induction s with
 | nil => rfl
 | cons c s ih =>
  simp only [List.map_cons, List.sum_cons]
  rw [ih, Nat.mul_succ]
  omega
theorem costs_step {cnt d : Nat → Nat} {a b : Tg} {r : List Tg} (h : Inv cnt d (a :: b :: r)) (n : Nat) : costs cnt (bump d (a.sy ++ b.sy)) (⟨n, a.wt + b.wt, a.sy ++ b.sy⟩ :: r) = costs cnt d (a :: b :: r) + (a.wt + b.wt) := by
 have nd := h.nd
 simp only [List.flatMap_cons] at nd
 rw [← List.append_assoc] at nd
 have ndab : (a.sy ++ b.sy).Nodup := (List.nodup_append.1 nd).1
 have e1 : ((a.sy ++ b.sy).map fun c => cnt c * bump d (a.sy ++ b.sy) c).sum = ((a.sy ++ b.sy).map fun c => cnt c * d c).sum + ((a.sy ++ b.sy).map cnt).sum := by
  rw [← sum_more]
  exact sum_cong fun c hc => by rw [bump_in ndab hc]
 have e2 : ((r.flatMap Tg.sy).map fun c => cnt c * bump d (a.sy ++ b.sy) c).sum = ((r.flatMap Tg.sy).map fun c => cnt c * d c).sum :=
  sum_cong fun c hc => by
   rw [bump_out fun hab => (List.nodup_append.1 nd).2.2 c hab c hc rfl]
 have wa := h.wt a List.mem_cons_self
 have wb := h.wt b (List.mem_cons_of_mem _ List.mem_cons_self)
 unfold costs
 simp only [List.flatMap_cons, List.map_append, List.sum_append] at e1 e2 ⊢
 omega
end Go.Proofs.YtcaalcjcpddhaaaGreat.Zz.Hn

namespace Go.Proofs.YtcaalcjcpddhaaaGreat.Zz.Ho
open Hm Hn

instance : Inhabited Tg := ⟨⟨0, 0, []⟩⟩
def tg (l : List Tg) (i : Nat) : Tg := l.getD i default
def less (a b : Tg) : Bool := decide (a.wt < b.wt) || (decide (a.wt = b.wt) && decide (a.id < b.id))
def leastQ (l : List Tg) : Nat → Nat
 | 0 => 0
 | q + 1 => if less (tg l (q + 1)) (tg l (leastQ l q)) = true then q + 1 else leastQ l q
theorem leastQ_le (l : List Tg) (q : Nat) : leastQ l q ≤ q := by
 induction q with
 | zero => exact Nat.le_refl _
 | succ q ih =>
  unfold leastQ
  split <;> omega
theorem leastQ_wt (l : List Tg) (q : Nat) : ∀ j, j ≤ q → (tg l (leastQ l q)).wt ≤ (tg l j).wt := by
  induction q with
  | zero => intro j hj; obtain rfl : j = 0 := by omega
            exact Nat.le_refl _
  | succ q ih =>
    intro j hj
    unfold leastQ
    split
    · rename_i c
      unfold less at c
      simp only [Bool.or_eq_true, Bool.and_eq_true, decide_eq_true_eq] at c
      by_cases e : j = q + 1
      · subst e; exact Nat.le_refl _
      · have := ih j (by omega)
        omega
    · rename_i c
      unfold less at c
      simp only [Bool.or_eq_true, Bool.and_eq_true, decide_eq_true_eq] at c
      by_cases e : j = q + 1
      · subst e; omega
      · exact ih j (by omega)
def least (l : List Tg) : Nat := leastQ l (l.length - 1)
theorem least_lt {l : List Tg} (h : 0 < l.length) : least l < l.length := by
 have := leastQ_le l (l.length - 1)
 unfold least
 omega
theorem perm_erase : ∀ (l : List Tg) (i : Nat), i < l.length → (tg l i :: l.eraseIdx i).Perm l
 | x :: l, 0, _ => List.Perm.refl _
 | x :: l, i + 1, h => by
  have := perm_erase l i (by simpa using h)
  show (tg l i :: x :: l.eraseIdx i).Perm _
  exact (List.Perm.swap x (tg l i) _).trans (List.Perm.cons x this)
theorem least_all {l : List Tg} : ∀ x ∈ l, (tg l (least l)).wt ≤ x.wt := by
 intro x hx
 obtain ⟨j, hj, rfl⟩ := List.mem_iff_getElem.1 hx
 have := leastQ_wt l (l.length - 1) j (by omega)
 unfold tg at this
 rw [List.getD_eq_getElem?_getD, List.getD_eq_getElem?_getD, List.getElem?_eq_getElem hj] at this
 unfold tg least
 rw [List.getD_eq_getElem?_getD]
 exact this
def fstT (l : List Tg) : Tg := tg l (least l)
def lst1 (l : List Tg) : List Tg := l.eraseIdx (least l)
def sndT (l : List Tg) : Tg := fstT (lst1 l)
def lst2 (l : List Tg) : List Tg := lst1 (lst1 l)
def joint (n : Nat) (l : List Tg) : Tg := ⟨n, (fstT l).wt + (sndT l).wt, (fstT l).sy ++ (sndT l).sy⟩
def next (n : Nat) (l : List Tg) : List Tg := lst2 l ++ [joint n l]
theorem lst1_len {l : List Tg} (h : 0 < l.length) : (lst1 l).length = l.length - 1 := by
 unfold lst1
 rw [List.length_eraseIdx, if_pos (least_lt h)]
theorem parts {l : List Tg} (h : 2 ≤ l.length) : (fstT l :: sndT l :: lst2 l).Perm l ∧ (∀ x ∈ sndT l :: lst2 l, (fstT l).wt ≤ x.wt) ∧ (∀ x ∈ lst2 l, (sndT l).wt ≤ x.wt) := by
 have h1 := lst1_len (l := l) (by omega)
 have p1 : (fstT l :: lst1 l).Perm l := perm_erase l _ (least_lt (by omega))
 have p2 : (sndT l :: lst2 l).Perm (lst1 l) := perm_erase (lst1 l) _ (least_lt (by omega))
 refine ⟨(List.Perm.cons _ p2).trans p1, fun x hx => ?_, fun x hx => ?_⟩
 ·exact least_all x (p1.subset (List.mem_cons_of_mem _ (p2.subset hx)))
 ·exact least_all x (p2.subset (List.mem_cons_of_mem _ hx))
theorem next_len {l : List Tg} (n : Nat) (h : 2 ≤ l.length) : (next n l).length = l.length - 1 := by
 have h1 := lst1_len (l := l) (by omega)
 have h2 := lst1_len (l := lst1 l) (by omega)
 unfold next lst2
 simp
 omega
def run : Nat → Nat → List Tg → (Nat → Nat) → Nat → Nat
 | 0, _, _, d => d
 | f + 1, n, l, d => if l.length ≤ 1 then d else run f (n + 1) (next n l) (bump d ((fstT l).sy ++ (sndT l).sy))
def srt (l : List Nat) : List Nat := l.foldr ins []
theorem rises_srt (l : List Nat) : Rises (srt l) := by
 induction l with
 | nil => trivial
 | cons x l ih => exact rises_ins x _ ih
theorem ins_low {x : Nat} {l : List Nat} (h : ∀ y ∈ l, x ≤ y) : ins x l = x :: l := by
 cases l with
 | nil => rfl
 | cons w l => unfold ins; rw [if_pos (h w List.mem_cons_self)]
theorem ins_comm (x y : Nat) (l : List Nat) : ins x (ins y l) = ins y (ins x l) := by
 induction l with
 | nil =>
  simp only [ins]
  by_cases h : x ≤ y
  ·by_cases g : y ≤ x
   ·obtain rfl : x = y := by omega
    rfl
   ·rw [if_pos h, if_neg g]
  ·rw [if_neg h, if_pos (by omega)]
 | cons w l ih =>
  by_cases h : x ≤ w
  ·by_cases g : y ≤ w
   ·simp only [ins, if_pos h, if_pos g]
    by_cases e : x ≤ y
    ·by_cases e2 : y ≤ x
     ·obtain rfl : x = y := by omega
      rfl
     ·rw [if_pos e, if_neg e2]
    ·rw [if_neg e, if_pos (by omega)]
   ·simp only [ins, if_pos h, if_neg g]
    rw [if_neg (by omega)]
  ·by_cases g : y ≤ w
   ·simp only [ins, if_neg h, if_pos g]
    rw [if_neg (by omega)]
   ·simp only [ins, if_neg h, if_neg g, ih]
theorem srt_perm {a b : List Nat} (p : a.Perm b) : srt a = srt b := by
 induction p with
 | nil => rfl
 | cons x _ ih => show ins x (srt _) = ins x (srt _); rw [ih]
 | swap x y l => exact ins_comm y x _
 | trans _ _ h1 h2 => exact h1.trans h2
theorem mem_srt {x : Nat} {l : List Nat} : x ∈ srt l ↔ x ∈ l := by
 induction l with
 | nil => simp [srt]
 | cons y l ih => show x ∈ ins y (srt l) ↔ _; rw [mem_ins, ih, List.mem_cons]
def wts (l : List Tg) : List Nat := l.map Tg.wt
theorem srt_next {l : List Tg} (n : Nat) (h : 2 ≤ l.length) : srt (wts l) = (fstT l).wt :: (sndT l).wt :: srt (wts (lst2 l)) ∧ srt (wts (next n l)) = ins ((fstT l).wt + (sndT l).wt) (srt (wts (lst2 l))) := by
 obtain ⟨p, h1, h2⟩ := parts h
 constructor
 ·have e0 : srt (wts l) = srt (wts (fstT l :: sndT l :: lst2 l)) := (srt_perm (p.map Tg.wt)).symm
  rw [e0]
  show ins _ (ins _ (srt (wts (lst2 l)))) = _
  have e2 : ins (sndT l).wt (srt (wts (lst2 l))) = (sndT l).wt :: srt (wts (lst2 l)) := ins_low fun y hy => by
   obtain ⟨x, hx, rfl⟩ := List.mem_map.1 (mem_srt.1 hy)
   exact h2 x hx
  rw [e2]
  refine ins_low fun y hy => ?_
  rcases List.mem_cons.1 hy with rfl | hy
  ·exact h1 _ List.mem_cons_self
  ·obtain ⟨x, hx, rfl⟩ := List.mem_map.1 (mem_srt.1 hy)
   exact h1 x (List.mem_cons_of_mem _ hx)
 ·have q : (wts (next n l)).Perm (((fstT l).wt + (sndT l).wt) :: wts (lst2 l)) := by
   unfold next wts
   rw [List.map_append]
   exact List.perm_append_comm
  rw [srt_perm q]
  rfl
theorem sum_next {l : List Tg} (n : Nat) (h : 2 ≤ l.length) : (wts (next n l)).sum = (wts l).sum := by
 obtain ⟨p, _, _⟩ := parts h
 have e := (p.map Tg.wt).sum_nat
 unfold next wts at *
 rw [← e, List.map_append, List.sum_append]
 simp [joint]
 omega
theorem ends {cnt : Nat → Nat} : ∀ (f n : Nat) (l : List Tg) (d : Nat → Nat), Inv cnt d l → 1 ≤ l.length → l.length ≤ f → (wts l).sum ≤ 268435456 →
  ∃ z : Tg, Inv cnt (run f n l d) [z] ∧ z.sy.Perm (l.flatMap Tg.sy) ∧ costs cnt (run f n l d) [z] = costs cnt d l + huff f (srt (wts l)) ∧ z.wt ≤ 268435456 := by
 intro f
 induction f with
 | zero => intro n l d _ h1 h2; omega
 | succ f ih =>
  intro n l d hI h1 h2 hT
  unfold run
  by_cases c : l.length ≤ 1
  ·rw [if_pos c]
   match l, h1, c with
   | [z], _, _ =>
    refine ⟨z, hI, by simp, ?_, by simpa [wts] using hT⟩
    show _ = _ + huff (f + 1) (srt [z.wt])
    simp [srt, ins, huff]
  ·rw [if_neg c]
   have h3 : 2 ≤ l.length := by omega
   obtain ⟨p, q1, q2⟩ := parts h3
   have hs := (p.map Tg.wt).sum_nat
   have hT2 : (fstT l).wt + (sndT l).wt ≤ 268435456 := by
    simp only [List.map_cons, List.sum_cons] at hs
    unfold wts at hT
    omega
   have hI2 := (hI.perm p.symm).step n q1 q2 hT2
   have p3 : (joint n l :: lst2 l).Perm (next n l) := by
    unfold next
    exact (List.perm_append_comm (l₁ := lst2 l) (l₂ := [joint n l])).symm
   have hI3 := hI2.perm p3
   obtain ⟨z, g1, g2, g3, g4⟩ := ih (n + 1) (next n l) (bump d ((fstT l).sy ++ (sndT l).sy)) hI3 (by rw [next_len n h3]; omega) (by rw [next_len n h3]; omega) (by rw [sum_next n h3]; exact hT)
   refine ⟨z, g1, ?_, ?_, g4⟩
   ·refine g2.trans ((p3.symm.flatMap_right Tg.sy).trans ?_)
    refine List.Perm.trans ?_ (p.flatMap_right Tg.sy)
    simp [joint, List.flatMap_cons]
   ·obtain ⟨s1, s2⟩ := srt_next n h3
    rw [g3, s2, s1]
    have e1 := costs_perm (cnt := cnt) (d := bump d ((fstT l).sy ++ (sndT l).sy)) p3
    have e2 := costs_step (hI.perm p.symm) n
    have e3 := costs_perm (cnt := cnt) (d := d) p
    show _ = _ + ((fstT l).wt + (sndT l).wt + huff f _)
    unfold joint at e1
    omega
end Go.Proofs.YtcaalcjcpddhaaaGreat.Zz.Ho

namespace Go.Proofs.YtcaalcjcpddhaaaGreat.Zz.Hp
open Hm Hn Ho

def used (cnt : Nat → Nat) (k : Nat) : List Nat := (List.range k).filter fun c => decide (0 < cnt c)
theorem mem_used {cnt : Nat → Nat} {k c : Nat} : c ∈ used cnt k ↔ c < k ∧ 0 < cnt c := by
 unfold used
 rw [List.mem_filter, List.mem_range, decide_eq_true_eq]
theorem used_nodup (cnt : Nat → Nat) (k : Nat) : (used cnt k).Nodup := List.nodup_range.filter _
def one (cnt : Nat → Nat) (c : Nat) : Tg := ⟨c, cnt c, [c]⟩
def things (cnt : Nat → Nat) (k : Nat) : List Tg := (used cnt k).map (one cnt)
theorem things_sy (cnt : Nat → Nat) (k : Nat) : (things cnt k).flatMap Tg.sy = used cnt k := by
 unfold things
 rw [List.flatMap_map]
 show (used cnt k).flatMap (fun c => [c]) = _
 induction used cnt k with
 | nil => rfl
 | cons c l ih => rw [List.flatMap_cons, ih]; rfl
theorem inv0 (cnt : Nat → Nat) (k : Nat) : Inv cnt (fun _ => 0) (things cnt k) := by
 have hx : ∀ x ∈ things cnt k, ∃ c, 0 < cnt c ∧ x = one cnt c := fun x hx => by
  obtain ⟨c, hc, rfl⟩ := List.mem_map.1 hx
  exact ⟨c, (mem_used.1 hc).2, rfl⟩
 refine ⟨by rw [things_sy]; exact used_nodup cnt k, ?_, ?_, ?_, ?_⟩
 ·intro x h
  obtain ⟨c, _, rfl⟩ := hx x h
  simp [one]
 ·intro x h c _
  obtain ⟨e, he, rfl⟩ := hx x h
  show fib 2 ≤ cnt e
  exact he
 ·refine List.pairwise_of_forall_mem_list ?_
  intro x h y g
  obtain ⟨e, he, rfl⟩ := hx x h
  obtain ⟨e2, he2, rfl⟩ := hx y g
  exact ⟨fun c _ => he2, fun c _ => he⟩
 ·intro x h
  obtain ⟨c, _, rfl⟩ := hx x h
  simp [one]
def hlen (cnt : Nat → Nat) (k : Nat) (c : Nat) : Nat :=
 if (used cnt k).length = 1 then (if c ∈ used cnt k then 1 else 0) else run k k (things cnt k) (fun _ => 0) c
theorem wts_things (cnt : Nat → Nat) (k : Nat) : wts (things cnt k) = (used cnt k).map cnt := by
 unfold wts things
 rw [List.map_map]
 rfl
theorem used_len (cnt : Nat → Nat) (k : Nat) : (used cnt k).length ≤ k := by
 have := List.length_filter_le (fun c => decide (0 < cnt c)) (List.range k)
 rw [List.length_range] at this
 exact this
theorem sum_le (cnt : Nat → Nat) (B : Nat) (l : List Nat) (h : ∀ c ∈ l, cnt c ≤ B) : (l.map cnt).sum ≤ l.length * B := by
 induction l with
 | nil => simp
 | cons c l ih =>
  have h1 := h c List.mem_cons_self
  have h2 := ih (fun x hx => h x (List.mem_cons_of_mem _ hx))
  simp only [List.map_cons, List.sum_cons, List.length_cons, Nat.add_mul]
  omega
theorem run_out (f : Nat) : ∀ (n : Nat) (l : List Tg) (d : Nat → Nat) (c : Nat), (∀ x ∈ l, c ∉ x.sy) → run f n l d c = d c := by
 induction f with
 | zero => intro n l d c _; rfl
 | succ f ih =>
  intro n l d c h
  unfold run
  by_cases e : l.length ≤ 1
  ·rw [if_pos e]
  ·rw [if_neg e]
   obtain ⟨p, _, _⟩ := parts (l := l) (by omega)
   have hf := h _ (p.subset List.mem_cons_self)
   have hs := h _ (p.subset (List.mem_cons_of_mem _ List.mem_cons_self))
   have hab : c ∉ (fstT l).sy ++ (sndT l).sy := fun hc => (List.mem_append.1 hc).elim hf hs
   rw [ih]
   ·exact bump_out hab
   ·intro x hx
    unfold next at hx
    rcases List.mem_append.1 hx with hx | hx
    ·exact h x (p.subset (List.mem_cons_of_mem _ (List.mem_cons_of_mem _ hx)))
    ·obtain rfl := List.mem_singleton.1 hx
     exact hab
theorem le_sum {f : Nat → Nat} {y : Nat} {m : List Nat} (h : y ∈ m) : f y ≤ (m.map f).sum := by
 induction m with
 | nil => cases h
 | cons x m ih =>
  simp only [List.map_cons, List.sum_cons]
  rcases List.mem_cons.1 h with rfl | h
  ·omega
  ·have := ih h; omega
theorem sum_pos2 {f : Nat → Nat} {l : List Nat} {c e : Nat} (hc : c ∈ l) (he : e ∈ l) (hne : c ≠ e) : f c + f e ≤ (l.map f).sum := by
 induction l with
 | nil => cases hc
 | cons x l ih =>
  simp only [List.map_cons, List.sum_cons]
  rcases List.mem_cons.1 hc with h1 | h1
  ·rcases List.mem_cons.1 he with h2 | h2
   ·exact absurd (h1.trans h2.symm) hne
   ·have := le_sum (f := f) h2
    rw [h1]; omega
  ·rcases List.mem_cons.1 he with h2 | h2
   ·have := le_sum (f := f) h1
    rw [h2]; omega
   ·have := ih h1 h2; omega
structure Fine (cnt : Nat → Nat) (k : Nat) (D : Nat → Nat) : Prop where
 none : ∀ c, c ∉ used cnt k → D c = 0
 some : ∀ c ∈ used cnt k, 1 ≤ D c ∧ D c ≤ 40
 sum : ((used cnt k).map fun c => 2 ^ (40 - D c)).sum = 2 ^ 40
 cost : ((used cnt k).map fun c => cnt c * D c).sum = huff k (srt ((used cnt k).map cnt))
theorem fine (cnt : Nat → Nat) (k : Nat) (hk : k ≤ 256) (hB : ∀ c, cnt c ≤ 1048576) (h2 : 2 ≤ (used cnt k).length) : Fine cnt k (hlen cnt k) := by
 have e0 : hlen cnt k = run k k (things cnt k) (fun _ => 0) := by
  funext c
  unfold hlen
  rw [if_neg (by omega)]
 have hl : (things cnt k).length = (used cnt k).length := by simp [things]
 have hu := used_len cnt k
 have hT : (wts (things cnt k)).sum ≤ 268435456 := by
  rw [wts_things]
  have := sum_le cnt 1048576 (used cnt k) (fun c _ => hB c)
  have : (used cnt k).length * 1048576 ≤ 256 * 1048576 := Nat.mul_le_mul_right _ (by omega)
  omega
 obtain ⟨z, g1, g2, g3, g4⟩ := ends (cnt := cnt) k k (things cnt k) (fun _ => 0) (inv0 cnt k) (by omega) (by omega) hT
 rw [← e0] at g1 g3
 rw [things_sy] at g2
 have kr := g1.kr z List.mem_cons_self
 have hs : ((used cnt k).map fun c => 2 ^ (40 - hlen cnt k c)).sum = 2 ^ 40 := by
  rw [← kr]
  exact (g2.symm.map _).sum_nat
 refine ⟨?_, ?_, hs, ?_⟩
 ·intro c hc
  rw [e0]
  refine run_out k k (things cnt k) (fun _ => 0) c fun x hx hcx => hc ?_
  rw [← things_sy]
  exact List.mem_flatMap.2 ⟨x, hx, hcx⟩
 ·intro c hc
  have hd := deep (g1.hi z List.mem_cons_self c (g2.symm.subset hc)) g4
  refine ⟨?_, hd⟩
  refine Nat.le_of_not_lt fun h0 => ?_
  obtain ⟨e, he, hne⟩ : ∃ e ∈ used cnt k, c ≠ e := by
   have nd := used_nodup cnt k
   match hm : used cnt k, h2 with
   | a :: b :: r, _ =>
    rw [hm] at nd
    by_cases ca : c = a
    ·refine ⟨b, by simp, fun cb => ?_⟩
     have := (List.nodup_cons.1 nd).1
     exact this (by rw [← ca, cb]; simp)
    ·exact ⟨a, by simp, ca⟩
  have := sum_pos2 (f := fun c => 2 ^ (40 - hlen cnt k c)) hc he hne
  rw [hs] at this
  have z0 : hlen cnt k c = 0 := by omega
  rw [z0] at this
  have : 0 < 2 ^ (40 - hlen cnt k e) := Nat.two_pow_pos _
  omega
 ·have c0 : costs cnt (fun _ => 0) (things cnt k) = 0 := by
   unfold costs
   generalize (things cnt k).flatMap Tg.sy = s
   induction s with
   | nil => rfl
   | cons c s ih =>
    simp only [List.map_cons, List.sum_cons, Nat.mul_zero, Nat.zero_add] at ih ⊢
    exact ih
  rw [c0, Nat.zero_add, wts_things] at g3
  rw [← g3]
  unfold costs
  simp only [List.flatMap_cons, List.flatMap_nil, List.append_nil]
  exact (g2.symm.map _).sum_nat
theorem along (cnt o : Nat → Nat) (l : List Nat) : ∃ ls : List Nat, ls.Perm (l.map o) ∧ ls.length = (srt (l.map cnt)).length ∧ Hm.cost (srt (l.map cnt)) ls = (l.map fun c => cnt c * o c).sum := by
 induction l with
 | nil => exact ⟨[], List.Perm.refl _, rfl, rfl⟩
 | cons c l ih =>
  obtain ⟨ls, p, len, e⟩ := ih
  obtain ⟨ls', p', len', e'⟩ := cost_ins (cnt c) (o c) (srt (l.map cnt)) ls len
  refine ⟨ls', p'.trans (List.Perm.cons _ p), ?_, ?_⟩
  ·show _ = (ins (cnt c) (srt (l.map cnt))).length
   rw [length_ins, len', len]
  ·show Hm.cost (ins (cnt c) (srt (l.map cnt))) ls' = _
   rw [e', e]
   rfl
theorem kraft_sum (M : Nat) (l : List Nat) (o : Nat → Nat) : kraft M (l.map o) = (l.map fun c => 2 ^ (M - o c)).sum := by
 induction l with
 | nil => rfl
 | cons c l ih => simp only [List.map_cons, kraft, List.sum_cons, ih]
theorem srt_len (l : List Nat) : (srt l).length = l.length := by
 induction l with
 | nil => rfl
 | cons x l ih => show (ins x (srt l)).length = _; rw [length_ins, ih]; rfl
theorem no_less (cnt : Nat → Nat) (k : Nat) (hk : k ≤ 256) (hB : ∀ c, cnt c ≤ 1048576) (o : Nat → Nat) (ho : ∀ c ∈ used cnt k, 1 ≤ o c ∧ o c ≤ 40) (hs : ((used cnt k).map fun c => 2 ^ (40 - o c)).sum ≤ 2 ^ 40) :
  ((used cnt k).map fun c => cnt c * hlen cnt k c).sum ≤ ((used cnt k).map fun c => cnt c * o c).sum := by
 by_cases h2 : 2 ≤ (used cnt k).length
 ·have F := fine cnt k hk hB h2
  rw [F.cost]
  obtain ⟨ls, p, len, e⟩ := along cnt o (used cnt k)
  rw [← e]
  refine best 40 k _ ls ?_ len (rises_srt _) ?_ ?_
  ·rw [srt_len, List.length_map]
   exact used_len cnt k
  ·intro l hl
   obtain ⟨c, hc, rfl⟩ := List.mem_map.1 (p.subset hl)
   exact (ho c hc).2
  ·rw [kraft_perm p, kraft_sum]
   exact hs
 ·have H : ∀ c ∈ used cnt k, hlen cnt k c ≤ o c := fun c hc => by
   have l1 : (used cnt k).length = 1 := by
    have := List.length_pos_of_mem hc
    omega
   unfold hlen
   rw [if_pos l1, if_pos hc]
   exact (ho c hc).1
  generalize used cnt k = l at *
  clear ho hs h2
  induction l with
  | nil => exact Nat.le_refl _
  | cons c l ih =>
   simp only [List.map_cons, List.sum_cons]
   have h1 := Nat.mul_le_mul_left (cnt c) (H c List.mem_cons_self)
   have h2 := ih (fun x hx => H x (List.mem_cons_of_mem _ hx))
   omega
end Go.Proofs.YtcaalcjcpddhaaaGreat.Zz.Hp

namespace Go.Proofs.YtcaalcjcpddhaaaGreat.Zz.Hr

def need (l : Nat → Nat) (P : Nat → Bool) : Nat → Nat
 | 0 => 0
 | k + 1 => need l P k + (if 0 < l k ∧ P k = true then 2 ^ (40 - l k) else 0)
theorem need_mono {l : Nat → Nat} {P Q : Nat → Bool} (h : ∀ c, P c = true → Q c = true) : ∀ k, need l P k ≤ need l Q k
 | 0 => Nat.le_refl _
 | k + 1 => by
  have ih := need_mono (l := l) h k
  have tp := Nat.two_pow_pos (40 - l k)
  unfold need
  by_cases c : 0 < l k ∧ P k = true
  ·rw [if_pos c, if_pos ⟨c.1, h k c.2⟩]; omega
  ·rw [if_neg c]
   split <;> omega
theorem need_more {l : Nat → Nat} {P Q : Nat → Bool} {a : Nat} (h : ∀ c, P c = true → Q c = true) (hp : P a = false) (hq : Q a = true) (hl : 0 < l a) : ∀ k, a < k → need l P k + 2 ^ (40 - l a) ≤ need l Q k
 | 0, h0 => absurd h0 (Nat.not_lt_zero _)
 | k + 1, h0 => by
  unfold need
  by_cases e : a = k
  ·subst e
   have := need_mono (l := l) h a
   rw [if_neg (by rw [hp]; simp), if_pos ⟨hl, hq⟩]
   omega
  ·have ih := need_more (l := l) h hp hq hl k (by omega)
   have tp := Nat.two_pow_pos (40 - l k)
   by_cases c : 0 < l k ∧ P k = true
   ·rw [if_pos c, if_pos ⟨c.1, h k c.2⟩]; omega
   ·rw [if_neg c]
    split <;> omega
theorem need_dvd {l : Nat → Nat} {P : Nat → Bool} {n : Nat} (hn : n ≤ 40) (h : ∀ c, P c = true → l c ≤ n) : ∀ k, ∃ q, need l P k = q * 2 ^ (40 - n)
 | 0 => ⟨0, by simp [need]⟩
 | k + 1 => by
  obtain ⟨q, hq⟩ := need_dvd hn h k
  unfold need
  by_cases c : 0 < l k ∧ P k = true
  ·have := h k c.2
   refine ⟨q + 2 ^ (n - l k), ?_⟩
   rw [if_pos c, hq, Nat.add_mul, ← Nat.pow_add]
   congr 2
   omega
  ·exact ⟨q, by rw [if_neg c, hq]; rfl⟩
def ahead (l : Nat → Nat) (c c' : Nat) : Bool := decide (l c' < l c) || (decide (l c' = l c) && decide (c' < c))
theorem ahead_iff {l : Nat → Nat} {c c' : Nat} : ahead l c c' = true ↔ l c' < l c ∨ (l c' = l c ∧ c' < c) := by
 unfold ahead
 simp only [Bool.or_eq_true, Bool.and_eq_true, decide_eq_true_eq]
def code (l : Nat → Nat) (k c : Nat) : Nat := need l (ahead l c) k / 2 ^ (40 - l c)
theorem code_eq (l : Nat → Nat) (k c : Nat) (h : l c ≤ 40) : need l (ahead l c) k = code l k c * 2 ^ (40 - l c) := by
 obtain ⟨q, hq⟩ := need_dvd (l := l) (P := ahead l c) h (fun e he => by rcases ahead_iff.1 he with g | g <;> omega) k
 unfold code
 rw [hq, Nat.mul_div_cancel _ (Nat.two_pow_pos _)]
theorem step_over (l : Nat → Nat) (k : Nat) {a b : Nat} (ha : 0 < l a) (hk : a < k) (h : ahead l b a = true) : need l (ahead l a) k + 2 ^ (40 - l a) ≤ need l (ahead l b) k := by
 have hab := ahead_iff.1 h
 refine need_more (fun c hc => ?_) ?_ h ha k hk
 ·have := ahead_iff.1 hc
  rw [ahead_iff]
  omega
 ·refine Bool.eq_false_iff.2 fun e => ?_
  have := ahead_iff.1 e
  omega
theorem apart (l : Nat → Nat) (k : Nat) {a b : Nat} (ha : 0 < l a) (hb : 0 < l b) (h40 : l b ≤ 40) (hka : a < k) (hkb : b < k) (hne : a ≠ b) (hab : l a ≤ l b) :
  code l k b / 2 ^ (l b - l a) ≠ code l k a ∧ ((l a < l b ∨ a < b) ↔ code l k a < code l k b / 2 ^ (l b - l a)) := by
 have e1 := code_eq l k a (by omega)
 have e2 := code_eq l k b h40
 have first : code l k b / 2 ^ (l b - l a) = need l (ahead l b) k / 2 ^ (40 - l a) := by
  rw [e2, show 40 - l a = (40 - l b) + (l b - l a) by omega, Nat.pow_add, ← Nat.div_div_eq_div_mul, Nat.mul_div_cancel _ (Nat.two_pow_pos _)]
 have pos : 0 < 2 ^ (40 - l a) := Nat.two_pow_pos _
 by_cases c : l a < l b ∨ a < b
 ·have h : ahead l b a = true := ahead_iff.2 (by omega)
  have := step_over l k ha hka h
  rw [e1] at this
  have lt : code l k a < code l k b / 2 ^ (l b - l a) := by
   rw [first, Nat.lt_iff_add_one_le, Nat.le_div_iff_mul_le pos, Nat.add_mul, Nat.one_mul]
   exact this
  exact ⟨by omega, ⟨fun _ => lt, fun _ => c⟩⟩
 ·have h : ahead l a b = true := ahead_iff.2 (by omega)
  have := step_over l k hb hkb h
  have el : l a = l b := by omega
  rw [e1, e2, el, ← Nat.succ_mul] at this
  have := Nat.le_of_mul_le_mul_right this (Nat.two_pow_pos _)
  rw [el, Nat.sub_self, Nat.pow_zero, Nat.div_one]
  exact ⟨by omega, ⟨fun x => absurd x (by omega), fun x => absurd x (by omega)⟩⟩
theorem code_lt (l : Nat → Nat) (k : Nat) {a : Nat} (ha : 0 < l a) (h40 : l a ≤ 40) (hka : a < k) (hs : need l (fun _ => true) k ≤ 2 ^ 40) : code l k a < 2 ^ l a := by
 have e1 := code_eq l k a h40
 have := need_more (l := l) (P := ahead l a) (Q := fun _ => true) (a := a) (fun _ _ => rfl) (by refine Bool.eq_false_iff.2 fun e => ?_; have := ahead_iff.1 e; omega) rfl ha k hka
 rw [e1, ← Nat.succ_mul] at this
 have h2 : 2 ^ 40 = 2 ^ l a * 2 ^ (40 - l a) := by rw [← Nat.pow_add]; congr 1; omega
 have h3 := Nat.le_trans this hs
 rw [h2] at h3
 exact Nat.le_of_mul_le_mul_right h3 (Nat.two_pow_pos _)
end Go.Proofs.YtcaalcjcpddhaaaGreat.Zz.Hr

namespace Go.Proofs.YtcaalcjcpddhaaaGreat.Zz.Hv
open Hm Hn Ho Hp Hr

def tot (f : Nat → Nat) : Nat → Nat
 | 0 => 0
 | k + 1 => tot f k + f k
theorem used_succ (cnt : Nat → Nat) (k : Nat) : used cnt (k + 1) = used cnt k ++ (if 0 < cnt k then [k] else []) := by
 unfold used
 rw [List.range_succ, List.filter_append]
 congr 1
 by_cases h : 0 < cnt k
 ·rw [if_pos h]
  simp [h]
 ·rw [if_neg h]
  simp [h]
theorem sum_used (cnt f : Nat → Nat) (k : Nat) : ((used cnt (k + 1)).map f).sum = ((used cnt k).map f).sum + (if 0 < cnt k then f k else 0) := by
 rw [used_succ, List.map_append, List.sum_append]
 split <;> simp
theorem need_used (cnt D : Nat → Nat) (k : Nat) (h : ∀ c, c < k → (0 < D c ↔ 0 < cnt c)) : need D (fun _ => true) k = ((used cnt k).map fun c => 2 ^ (40 - D c)).sum := by
 induction k with
 | zero => rfl
 | succ k ih =>
  rw [sum_used, need, ih (fun c hc => h c (by omega))]
  congr 1
  by_cases g : 0 < cnt k
  ·rw [if_pos g, if_pos ⟨(h k (by omega)).2 g, rfl⟩]
  ·rw [if_neg g, if_neg (fun e => g ((h k (by omega)).1 e.1))]
theorem need_fine {cnt D : Nat → Nat} {k : Nat} (F : Fine cnt k D) : need D (fun _ => true) k = 2 ^ 40 := by
 rw [need_used cnt D k, F.sum]
 intro c hc
 constructor
 ·intro h
  refine Nat.pos_of_ne_zero fun e => ?_
  have := F.none c (fun g => by have := (mem_used.1 g).2; omega)
  omega
 ·intro h
  exact (F.some c (mem_used.2 ⟨hc, h⟩)).1
end Go.Proofs.YtcaalcjcpddhaaaGreat.Zz.Hv
