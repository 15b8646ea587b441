/-
  Plain: the sum over the nodes of codes. Plain: what the landed planner reckons is what the document reckons: rows of a tree in the other order, nodes in whatever order, the first of the least. Plain: how many codes there are of each length, the first of each length; whether lengths fit. Codes in memory (out of huff's template Ke). The contract of the document's Fits. The contract of the document's Codes. The document's things in memory; the contract of its least.
-/
import Derived.Test.YtcaalcjcpddhaaaGreatR28
import Derived.Test.YtcaalcjcpddhaaaGreatR27
namespace Go.Proofs.YtcaalcjcpddhaaaGreat.Zz.Pn
open Sh
set_option linter.unusedVariables false

section
variable (v k n : Nat → Nat)
def nN (L x q : Nat) : Nat := Hv.tot (fun c => if st v k L x c = true then n c else 0) q
def nO (L x q : Nat) : Nat := Hv.tot (fun c => if st v k L x c = true then n c * (pre v k (L + 1) c % 2) else 0) q
theorem nO_le (L x : Nat) : ∀ q, nO v k n L x q ≤ nN v k n L x q
 | 0 => Nat.le_refl _
 | q + 1 => by
  have ih := nO_le L x q
  unfold nO nN at ih ⊢
  rw [Hv.tot, Hv.tot]
  split
  ·have := Nat.mul_le_mul_left (n q) (show pre v k (L + 1) q % 2 ≤ 1 by omega)
   omega
  ·omega
theorem nN_le (L x : Nat) : ∀ q, nN v k n L x q ≤ Hv.tot n q
 | 0 => Nat.le_refl _
 | q + 1 => by
  have ih := nN_le L x q
  unfold nN at ih ⊢
  rw [Hv.tot, Hv.tot]
  split <;> omega
theorem nN_none {L x : Nat} : ∀ {q : Nat}, (∀ c, c < q → st v k L x c = false) → nN v k n L x q = 0 ∧ nO v k n L x q = 0
 | 0, _ => ⟨rfl, rfl⟩
 | q + 1, h => by
  have ih := nN_none (q := q) fun c hc => h c (by omega)
  unfold nN nO at ih ⊢
  rw [Hv.tot, Hv.tot, ih.1, ih.2, if_neg (by rw [h q (by omega)]; decide), if_neg (by rw [h q (by omega)]; decide)]
  exact ⟨rfl, rfl⟩
theorem nN_skip {L x q : Nat} (h : st v k L x q = false) : nN v k n L x (q + 1) = nN v k n L x q ∧ nO v k n L x (q + 1) = nO v k n L x q := by
 unfold nN nO
 rw [Hv.tot, Hv.tot, if_neg (by rw [h]; decide), if_neg (by rw [h]; decide)]
 exact ⟨rfl, rfl⟩
theorem nN_add {L x q : Nat} (h : st v k L x q = true) : nN v k n L x (q + 1) = nN v k n L x q + n q ∧ nO v k n L x (q + 1) = nO v k n L x q + n q * (pre v k (L + 1) q % 2) := by
 unfold nN nO
 rw [Hv.tot, Hv.tot, if_pos h, if_pos h]
 exact ⟨rfl, rfl⟩
structure NI (L a q : Nat) (fd : Bool) (p m o : Nat) : Prop where
 yes : fd = true → (∃ c, c < q ∧ L < v c ∧ pre v k L c = p) ∧ a ≤ p ∧ (∀ c, c < q → L < v c → a ≤ pre v k L c → p ≤ pre v k L c) ∧ m = nN v k n L p q ∧ o = nO v k n L p q
 no : fd = false → (∀ c, c < q → L < v c → pre v k L c < a) ∧ p = 0 ∧ m = 0 ∧ o = 0
theorem st_no {L x c : Nat} (h : L < v c → pre v k L c ≠ x) : st v k L x c = false := by
 unfold st
 by_cases h1 : L < v c
 ·rw [decide_eq_true h1, decide_eq_false (h h1)]; rfl
 ·rw [decide_eq_false h1]; rfl
theorem st_yes {L c : Nat} (h : L < v c) : st v k L (pre v k L c) c = true := by
 unfold st
 rw [decide_eq_true h, decide_eq_true rfl]; rfl
variable {v k n}
variable (v k n)
def nf (r : Int) (L x : Nat) : Nat := row r (nN v k n L x 256) (nO v k n L x 256)
def lv (r : Int) (L a : Nat) : Nat := ((lvF v k L a).map (nf v k n r L)).sum
def nds (r : Int) (L : Nat) : Nat := Hv.tot (fun L => lv v k n r L 0) L
variable {v k n}
theorem lvF_len (L a : Nat) : (lvF v k L a).length ≤ 256 := by
 have hw : ∀ x, x ∈ lvF v k L a → ∃ c, c < 256 ∧ L < v c ∧ pre v k L c = x := fun x hx => (isN_iff v k L x).1 (List.mem_filter.1 hx).2
 have hi : ∀ x, ∃ c, x ∈ lvF v k L a → c < 256 ∧ pre v k L c = x := fun x => by
  by_cases h : x ∈ lvF v k L a
  ·obtain ⟨c, h1, _, h2⟩ := hw x h
   exact ⟨c, fun _ => ⟨h1, h2⟩⟩
  ·exact ⟨0, fun g => absurd g h⟩
 have := inj_le (lvF v k L a) (List.range 256) (fun x => Classical.choose (hi x)) (List.Pairwise.filter _ List.nodup_range') (fun x hx y hy e => by
  have h1 := (Classical.choose_spec (hi x) hx).2
  have h2 := (Classical.choose_spec (hi y) hy).2
  have e' : Classical.choose (hi x) = Classical.choose (hi y) := e
  rw [← h1, ← h2, e']) (fun x hx => List.mem_range.2 (Classical.choose_spec (hi x) hx).1)
 rwa [List.length_range] at this
theorem sum_le (f : Nat → Nat) (B : Nat) : ∀ l : List Nat, (∀ x ∈ l, f x ≤ B) → (l.map f).sum ≤ l.length * B
 | [], _ => by simp
 | a :: l, h => by
  have := sum_le f B l fun x hx => h x (List.mem_cons_of_mem _ hx)
  have := h a (List.mem_cons_self ..)
  rw [List.map_cons, List.sum_cons, List.length_cons, Nat.succ_mul]
  omega
theorem lv_le (r : Int) (L a : Nat) (hn : Hv.tot n 256 ≤ 8192) : lv v k n r L a ≤ 179200000 := by
 have h1 := sum_le (nf v k n r L) 700000 (lvF v k L a) fun x _ => by
  have a1 := nN_le v k n L x 256
  have a2 := nO_le v k n L x 256
  have := row_le r (n := nN v k n L x 256) (m := nO v k n L x 256) (by omega) a2
  unfold nf
  omega
 have h2 := Nat.mul_le_mul_right 700000 (lvF_len (v := v) (k := k) L a)
 unfold lv
 omega
theorem nds_le (r : Int) (hn : Hv.tot n 256 ≤ 8192) : ∀ L, nds v k n r L ≤ L * 179200000
 | 0 => Nat.zero_le _
 | L + 1 => by
  have := nds_le r hn L
  have := lv_le (v := v) (k := k) r L 0 hn
  unfold nds at *
  rw [Hv.tot]
  omega
end
end Go.Proofs.YtcaalcjcpddhaaaGreat.Zz.Pn

namespace Go.Proofs.YtcaalcjcpddhaaaGreat.Zz.Pn
open Sh
set_option linter.unusedVariables false

def rwu (k : Int) (v : Nat → Nat) (n q : Nat) : Nat := Hv.tot (fun i => row k n (os v i 256)) q
theorem rwu_rws (k : Int) (v : Nat → Nat) (n : Nat) : rwu k v n 8 = rws k v n 8 := by
 unfold rwu rws
 simp only [Hv.tot, Nat.reduceSub]
 omega
def sm (f : Nat × Nat → Nat) (l : List (Nat × Nat)) : Nat := (l.map f).sum
theorem sm_app (f : Nat × Nat → Nat) (a b : List (Nat × Nat)) : sm f (a ++ b) = sm f a + sm f b := by
 unfold sm
 rw [List.map_append, List.sum_append]
theorem sm_perm (f : Nat × Nat → Nat) {a b : List (Nat × Nat)} (h : List.Perm a b) : sm f a = sm f b := by
 induction h with
 | nil => rfl
 | cons x _ ih => unfold sm at *; rw [List.map_cons, List.map_cons, List.sum_cons, List.sum_cons, ih]
 | swap x y l => unfold sm; rw [List.map_cons, List.map_cons, List.map_cons, List.map_cons, List.sum_cons, List.sum_cons, List.sum_cons, List.sum_cons]; omega
 | trans _ _ h1 h2 => rw [h1, h2]
theorem sm_flat (f : Nat × Nat → Nat) (g : Nat → List (Nat × Nat)) : ∀ q, sm f ((List.range q).flatMap g) = Hv.tot (fun L => sm f (g L)) q
 | 0 => rfl
 | q + 1 => by
  rw [List.range_succ, List.flatMap_append, sm_app, sm_flat f g q, Hv.tot]
  simp
theorem sm_map (f : Nat × Nat → Nat) (L : Nat) (l : List Nat) : sm f (l.map fun x => (L, x)) = (l.map fun x => f (L, x)).sum := by
 unfold sm
 rw [List.map_map]
 rfl
theorem few : ∀ {a b : List (Nat × Nat)}, a.Nodup → (∀ x ∈ a, x ∈ b) → a.length ≤ b.length
 | [], _, _, _ => Nat.zero_le _
 | x :: a, b, hn, hs => by
  have hx := hs x (List.mem_cons_self ..)
  have h1 := List.nodup_cons.1 hn
  have := few (a := a) (b := b.erase x) h1.2 (fun y hy => (List.mem_erase_of_ne (fun e : y = x => h1.1 (e ▸ hy))).2 (hs y (List.mem_cons_of_mem _ hy)))
  rw [List.length_erase_of_mem hx] at this
  have := List.length_pos_of_mem hx
  rw [List.length_cons]
  omega
theorem one_place {a : List (Nat × Nat)} {p : Nat × Nat} {i j : Nat} (hn : a.Nodup) (hi : a[i]? = some p) (hj : a[j]? = some p) : i = j := by
 obtain ⟨i1, i2⟩ := List.getElem?_eq_some_iff.1 hi
 obtain ⟨j1, j2⟩ := List.getElem?_eq_some_iff.1 hj
 have h := List.pairwise_iff_getElem.1 hn
 by_cases c : i < j
 ·exact absurd (i2.trans j2.symm) (h i j i1 j1 c)
 ·by_cases d : j < i
  ·exact absurd (j2.trans i2.symm) (h j i j1 i1 d)
  ·omega
section
variable (v k n : Nat → Nat)
def ndr (r : Int) (p : Nat × Nat) : Nat := nf v k n r p.1 p.2
theorem nds_sm (r : Int) : Pn.nds v k n r 40 = sm (ndr v k n r) (Sh.nds v k) := by
 unfold Pn.nds Sh.nds lv
 rw [sm_flat]
 congr 1
 funext L
 rw [sm_map]
 rfl
theorem nds_any (r : Int) (hk : ∀ c, k c < 2 ^ v c) {l : List (Nat × Nat)} (hn : l.Nodup) (hm : ∀ L x, (L, x) ∈ l ↔ L < 40 ∧ isN v k L x = true) : sm (ndr v k n r) l = Pn.nds v k n r 40 := by
 rw [nds_sm]
 refine sm_perm _ ((List.perm_ext_iff_of_nodup hn (nodup_nds v k)).2 fun p => ?_)
 obtain ⟨L, x⟩ := p
 rw [hm, mem_nds v k L x hk]
structure Met (q l : Nat) (ns : List (Nat × Nat)) (N O : Nat → Nat) : Prop where
 nd : ns.Nodup
 mem : ∀ L x, (L, x) ∈ ns ↔ (∃ c, c < q ∧ L < v c ∧ pre v k L c = x) ∨ (L < l ∧ L < v q ∧ pre v k L q = x)
 cN : ∀ i L x, ns[i]? = some (L, x) → N i = nN v k n L x (if L < l then q + 1 else q)
 cO : ∀ i L x, ns[i]? = some (L, x) → O i = nO v k n L x (if L < l then q + 1 else q)
theorem Met.start (N O : Nat → Nat) : Met v k n 0 0 [] N O := ⟨List.nodup_nil, fun L x => by simp, fun i L x h => by simp at h, fun i L x h => by simp at h⟩
variable {v k n}
theorem Met.len {q l : Nat} {ns : List (Nat × Nat)} {N O : Nat → Nat} (h : Met v k n q l ns N O) (hk : ∀ c, k c < 2 ^ v c) (hv : ∀ c, v c ≤ 40) (hq : q < 256) : ns.length ≤ 10240 := by
 have sub : ∀ p ∈ ns, p ∈ Sh.nds v k := fun p hp => by
  obtain ⟨L, x⟩ := p
  refine (mem_nds v k L x hk).2 ?_
  rcases (h.mem L x).1 hp with ⟨c, c1, c2, c3⟩ | ⟨_, c2, c3⟩
  ·exact ⟨by have := hv c; omega, (isN_iff v k L x).2 ⟨c, by omega, c2, c3⟩⟩
  ·exact ⟨by have := hv q; omega, (isN_iff v k L x).2 ⟨q, hq, c2, c3⟩⟩
 have := few h.nd sub
 refine Nat.le_trans this ?_
 have e : (Sh.nds v k).length = Hv.tot (fun L => (lvF v k L 0).length) 40 := by
  unfold Sh.nds
  rw [List.length_flatMap]
  have : ∀ q, (List.map (fun L => ((lvF v k L 0).map fun x => (L, x)).length) (List.range q)).sum = Hv.tot (fun L => (lvF v k L 0).length) q := fun q => by
   induction q with
   | zero => rfl
   | succ q ih => rw [List.range_succ, List.map_append, List.sum_append, ih, Hv.tot]; simp
  exact this 40
 rw [e]
 have b : ∀ q, Hv.tot (fun L => (lvF v k L 0).length) q ≤ q * 256 := fun q => by
  induction q with
  | zero => exact Nat.zero_le _
  | succ q ih => rw [Hv.tot]; have := lvF_len (v := v) (k := k) q 0; omega
 exact b 40
theorem Met.next {q : Nat} {ns : List (Nat × Nat)} {N O : Nat → Nat} (h : Met v k n q (v q) ns N O) : Met v k n (q + 1) 0 ns N O := by
 have key : ∀ L x, (if L < v q then q + 1 else q) = q + 1 ∨ st v k L x q = false := fun L x => by
  by_cases c : L < v q
  ·exact .inl (if_pos c)
  ·exact .inr (by unfold st; rw [decide_eq_false c]; rfl)
 refine ⟨h.nd, fun L x => ?_, fun i L x hi => ?_, fun i L x hi => ?_⟩
 ·rw [h.mem]
  constructor
  ·rintro (⟨c, c1, c2, c3⟩ | ⟨c1, c2, c3⟩)
   ·exact .inl ⟨c, by omega, c2, c3⟩
   ·exact .inl ⟨q, by omega, c2, c3⟩
  ·rintro (⟨c, c1, c2, c3⟩ | ⟨c1, _⟩)
   ·by_cases e : c = q
    ·subst e; exact .inr ⟨c2, c2, c3⟩
    ·exact .inl ⟨c, by omega, c2, c3⟩
   ·omega
 ·rw [h.cN i L x hi, if_neg (Nat.not_lt_zero L)]
  rcases key L x with e | e
  ·rw [e]
  ·by_cases c : L < v q
   ·rw [if_pos c]
   ·rw [if_neg c, (nN_skip v k n e).1]
 ·rw [h.cO i L x hi, if_neg (Nat.not_lt_zero L)]
  rcases key L x with e | e
  ·rw [e]
  ·by_cases c : L < v q
   ·rw [if_pos c]
   ·rw [if_neg c, (nN_skip v k n e).2]
theorem Met.old {q l : Nat} {ns : List (Nat × Nat)} {N O N' O' : Nat → Nat} (h : Met v k n q l ns N O) (hl : l < v q) {at_ : Nat} (ha : ns[at_]? = some (l, pre v k l q))
  (hN : N' at_ = N at_ + n q) (hO : O' at_ = O at_ + n q * (pre v k (l + 1) q % 2)) (oN : ∀ i, i ≠ at_ → N' i = N i) (oO : ∀ i, i ≠ at_ → O' i = O i) : Met v k n q (l + 1) ns N' O' := by
 have inj : ∀ i, ns[i]? = some (l, pre v k l q) → i = at_ := fun i hi => one_place h.nd hi ha
 have hlt := (List.getElem?_eq_some_iff.1 ha).1
 refine ⟨h.nd, fun L x => ?_, fun i L x hi => ?_, fun i L x hi => ?_⟩
 ·rw [h.mem]
  constructor
  ·rintro (c | ⟨c1, c2, c3⟩)
   ·exact .inl c
   ·exact .inr ⟨by omega, c2, c3⟩
  ·rintro (c | ⟨c1, c2, c3⟩)
   ·exact .inl c
   ·by_cases e : L = l
    ·subst e
     exact (h.mem L x).1 (by rw [← c3]; exact List.mem_of_getElem? ha)
    ·exact .inr ⟨by omega, c2, c3⟩
 ·by_cases e : i = at_
  ·subst e
   rw [ha] at hi
   obtain ⟨rfl, rfl⟩ := Prod.mk.inj (Option.some.inj hi)
   rw [hN, h.cN _ _ _ ha, if_neg (Nat.lt_irrefl _), if_pos (Nat.lt_succ_self _), (nN_add v k n (st_yes v k hl)).1]
  ·rw [oN i e, h.cN i L x hi]
   by_cases c : L < l
   ·rw [if_pos c, if_pos (by omega)]
   ·rw [if_neg c]
    by_cases d : L < l + 1
    ·obtain rfl : L = l := by omega
     rw [if_pos d, (nN_skip v k n (st_no v k (fun _ g => e (inj i (by rw [hi, g]))))).1]
    ·rw [if_neg d]
 ·by_cases e : i = at_
  ·subst e
   rw [ha] at hi
   obtain ⟨rfl, rfl⟩ := Prod.mk.inj (Option.some.inj hi)
   rw [hO, h.cO _ _ _ ha, if_neg (Nat.lt_irrefl _), if_pos (Nat.lt_succ_self _), (nN_add v k n (st_yes v k hl)).2]
  ·rw [oO i e, h.cO i L x hi]
   by_cases c : L < l
   ·rw [if_pos c, if_pos (by omega)]
   ·rw [if_neg c]
    by_cases d : L < l + 1
    ·obtain rfl : L = l := by omega
     rw [if_pos d, (nN_skip v k n (st_no v k (fun _ g => e (inj i (by rw [hi, g]))))).2]
    ·rw [if_neg d]
theorem Met.new {q l : Nat} {ns : List (Nat × Nat)} {N O N' O' : Nat → Nat} (h : Met v k n q l ns N O) (hl : l < v q) (ha : (l, pre v k l q) ∉ ns)
  (hN : N' ns.length = n q) (hO : O' ns.length = n q * (pre v k (l + 1) q % 2)) (oN : ∀ i, i < ns.length → N' i = N i) (oO : ∀ i, i < ns.length → O' i = O i) : Met v k n q (l + 1) (ns ++ [(l, pre v k l q)]) N' O' := by
 have hno : ∀ c, c < q → l < v c → pre v k l c ≠ pre v k l q := fun c h1 h2 h3 => ha ((h.mem _ _).2 (.inl ⟨c, h1, h2, h3⟩))
 have z := nN_none v k n (q := q) (L := l) (x := pre v k l q) fun c hc => st_no v k (hno c hc)
 have ad := nN_add v k n (st_yes v k hl)
 have part : ∀ i L x, (ns ++ [(l, pre v k l q)])[i]? = some (L, x) → (i < ns.length ∧ ns[i]? = some (L, x)) ∨ (i = ns.length ∧ L = l ∧ x = pre v k l q) := fun i L x hi => by
  by_cases c : i < ns.length
  ·rw [List.getElem?_append_left c] at hi
   exact .inl ⟨c, hi⟩
  ·rw [List.getElem?_append_right (by omega)] at hi
   by_cases d : i = ns.length
   ·subst d
    simp only [Nat.sub_self, List.getElem?_cons_zero, Option.some.injEq, Prod.mk.injEq] at hi
    exact .inr ⟨rfl, hi.1.symm, hi.2.symm⟩
   ·rw [show i - ns.length = (i - ns.length - 1) + 1 by omega, List.getElem?_cons_succ] at hi
    simp at hi
 have ne : ∀ i L x, i < ns.length → ns[i]? = some (L, x) → L < l + 1 → ¬ L < l → st v k L x q = false := fun i L x h1 h2 h3 h4 => by
  obtain rfl : L = l := by omega
  exact st_no v k fun _ g => ha (by rw [g]; exact List.mem_of_getElem? h2)
 refine ⟨?_, fun L x => ?_, fun i L x hi => ?_, fun i L x hi => ?_⟩
 ·refine List.nodup_append.2 ⟨h.nd, by simp, fun a h1 b h2 e => ?_⟩
  simp only [List.mem_singleton] at h2
  subst e
  rw [h2] at h1
  exact ha h1
 ·rw [List.mem_append, h.mem, List.mem_singleton, Prod.mk.injEq]
  constructor
  ·rintro ((c | ⟨c1, c2, c3⟩) | ⟨rfl, rfl⟩)
   ·exact .inl c
   ·exact .inr ⟨by omega, c2, c3⟩
   ·exact .inr ⟨by omega, hl, rfl⟩
  ·rintro (c | ⟨c1, c2, c3⟩)
   ·exact .inl (.inl c)
   ·by_cases e : L = l
    ·subst e; exact .inr ⟨rfl, c3.symm⟩
    ·exact .inl (.inr ⟨by omega, c2, c3⟩)
 ·rcases part i L x hi with ⟨h1, h2⟩ | ⟨rfl, rfl, rfl⟩
  ·rw [oN i h1, h.cN i L x h2]
   by_cases c : L < l
   ·rw [if_pos c, if_pos (by omega)]
   ·rw [if_neg c]
    by_cases d : L < l + 1
    ·rw [if_pos d, (nN_skip v k n (ne i L x h1 h2 d c)).1]
    ·rw [if_neg d]
  ·rw [hN, if_pos (by omega), ad.1, z.1, Nat.zero_add]
 ·rcases part i L x hi with ⟨h1, h2⟩ | ⟨rfl, rfl, rfl⟩
  ·rw [oO i h1, h.cO i L x h2]
   by_cases c : L < l
   ·rw [if_pos c, if_pos (by omega)]
   ·rw [if_neg c]
    by_cases d : L < l + 1
    ·rw [if_pos d, (nN_skip v k n (ne i L x h1 h2 d c)).2]
    ·rw [if_neg d]
  ·rw [hO, if_pos (by omega), ad.2, z.2, Nat.zero_add]
theorem Met.sum {ns : List (Nat × Nat)} {N O : Nat → Nat} (h : Met v k n 256 0 ns N O) (hk : ∀ c, k c < 2 ^ v c) (hv : ∀ c, v c ≤ 40) (r : Int) : Hv.tot (fun i => row r (N i) (O i)) ns.length = Pn.nds v k n r 40 := by
 rw [← nds_any v k n r hk h.nd (fun L x => ?_)]
 ·have key : ∀ q, q ≤ ns.length → Hv.tot (fun i => row r (N i) (O i)) q = sm (ndr v k n r) (ns.take q) := fun q hq => by
   induction q with
   | zero => rfl
   | succ q ih =>
    have hq' : q < ns.length := by omega
    have g := List.getElem?_eq_getElem hq'
    rw [Hv.tot, ih (by omega), List.take_add_one, g, sm_app]
    congr 1
    generalize hp : ns[q] = p at g
    obtain ⟨L, x⟩ := p
    unfold sm ndr nf
    have e1 := h.cN q L x g
    have e2 := h.cO q L x g
    rw [if_neg (Nat.not_lt_zero _)] at e1 e2
    simp [e1, e2]
  have := key ns.length (Nat.le_refl _)
  rw [List.take_length] at this
  exact this
 ·rw [h.mem, isN_iff]
  constructor
  ·rintro (⟨c, c1, c2, c3⟩ | ⟨c1, _⟩)
   ·exact ⟨by have := hv c; omega, c, c1, c2, c3⟩
   ·omega
  ·rintro ⟨_, c, c1, c2, c3⟩
   exact .inl ⟨c, c1, c2, c3⟩
theorem Met.bd {q l : Nat} {ns : List (Nat × Nat)} {N O : Nat → Nat} (h : Met v k n q l ns N O) (hn : Hv.tot n 256 ≤ 8192) (hq : q ≤ 256) (h0 : q = 256 → l = 0) {i : Nat} (hi : i < ns.length) : N i ≤ 8192 ∧ O i ≤ N i := by
 generalize hp : ns[i] = p
 obtain ⟨L, x⟩ := p
 have g : ns[i]? = some (L, x) := by rw [List.getElem?_eq_getElem hi, hp]
 rw [h.cN i L x g, h.cO i L x g]
 have b : (if L < l then q + 1 else q) ≤ 256 := by split <;> omega
 have a1 := nN_le v k n L x (if L < l then q + 1 else q)
 have a2 := nO_le v k n L x (if L < l then q + 1 else q)
 have a3 := tot_mono n b
 omega
end
def wsA (k : Int) (s : Nat) : Nat → Nat
 | 0 => 0
 | q + 1 => if q = 0 then 0 else if row k s (wsA k s q) < row k s q then q else wsA k s q
theorem wsA_lt (k : Int) (s : Nat) : ∀ {q : Nat}, 0 < q → wsA k s q < q
 | q + 1, _ => by
  rw [wsA]
  split
  ·omega
  ·split
   ·omega
   ·have := wsA_lt k s (q := q) (by omega)
    omega
theorem wsA_wsq (k : Int) (s : Nat) : ∀ {q : Nat}, 0 < q → row k s (wsA k s q) = wsq k s q
 | q + 1, _ => by
  rw [wsA, wsq]
  split
  ·rename_i h; subst h; simp [wsq]
  ·have := wsA_wsq k s (q := q) (by omega)
   split <;> omega
theorem wsA_wst (k : Int) (s : Nat) : row k s (wsA k s (s + 1)) = wst k s := wsA_wsq k s (by omega)
end Go.Proofs.YtcaalcjcpddhaaaGreat.Zz.Pn

namespace Go.Proofs.YtcaalcjcpddhaaaGreat.Zz.Ka
open Hr Ht Hp
set_option linter.unusedVariables false

theorem hlen_none (cnt : Nat → Nat) (c : Nat) (h : c ∉ used cnt 256) : hlen cnt 256 c = 0 := by
 unfold hlen
 by_cases g : (used cnt 256).length = 1
 ·rw [if_pos g, if_neg h]
 ·rw [if_neg g]
  refine run_out 256 256 _ _ c fun x hx hc => h ?_
  rw [← things_sy]
  exact List.mem_flatMap.2 ⟨x, hx, hc⟩
def cl (l : Nat → Nat) (L : Nat) : Nat → Nat
 | 0 => 0
 | q + 1 => cl l L q + (if 0 < l q ∧ l q = L then 1 else 0)
def fst (l : Nat → Nat) : Nat → Nat
 | 0 => 0
 | L + 1 => 2 * (fst l L + cl l L 256)
theorem cl_zero (l : Nat → Nat) (q : Nat) : cl l 0 q = 0 := by
 induction q with
 | zero => rfl
 | succ q ih => unfold cl; rw [ih, if_neg (by omega)]
theorem come_at (l : Nat → Nat) (L q k : Nat) (h : 0 < L) (hq : q ≤ k) : need l (come l L q) k = need l (come l L 0) k + cl l L q * 2 ^ (40 - L) := by
 induction q with
 | zero => unfold cl; rw [Nat.zero_mul]; rfl
 | succ q ih =>
  have e := ih (by omega)
  unfold cl
  by_cases c : l q = L
  ·subst c
   rw [come_one l q k h (by omega), e, if_pos ⟨h, rfl⟩, Nat.add_mul, Nat.one_mul]
   omega
  ·rw [come_same l L q k c, e, if_neg (fun x => c x.2)]
   rfl
theorem two_mul_comm (x y : Nat) : 2 * x * y = x * (y * 2) := by rw [Nat.mul_comm 2 x, Nat.mul_assoc, Nat.mul_comm 2 y]
theorem fst_need (l : Nat → Nat) : ∀ L, 0 < L → L ≤ 40 → fst l L * 2 ^ (40 - L) = need l (come l L 0) 256
 | 0, h, _ => absurd h (Nat.lt_irrefl _)
 | 1, _, _ => by
  rw [come_start]
  have e : fst l 1 = 0 := by
   show 2 * (0 + cl l 0 256) = 0
   rw [cl_zero]
  rw [e, Nat.zero_mul]
 | L + 2, _, h => by
  have ih := fst_need l (L + 1) (by omega) (by omega)
  rw [come_over, come_at l (L + 1) 256 256 (by omega) (Nat.le_refl _), ← ih]
  show 2 * (fst l (L + 1) + cl l (L + 1) 256) * 2 ^ (40 - (L + 2)) = _
  rw [show 40 - (L + 1) = (40 - (L + 2)) + 1 by omega, Nat.pow_succ, ← Nat.add_mul]
  exact two_mul_comm _ _
theorem code_is (l : Nat → Nat) (q : Nat) (h : 0 < l q) (h40 : l q ≤ 40) (hq : q < 256) : fst l (l q) + cl l (l q) q = code l 256 q := by
 have e := code_eq l 256 q h40
 have e1 := come_at l (l q) q 256 h (by omega)
 rw [come_ahead, e, ← fst_need l (l q) h h40, ← Nat.add_mul] at e1
 exact (Nat.mul_right_cancel (Nat.two_pow_pos _) e1).symm
theorem fst_le (l : Nat → Nat) (hs : need l (fun _ => true) 256 ≤ 2 ^ 40) (L : Nat) (h40 : L ≤ 40) : fst l L + cl l L 256 ≤ 2 ^ 40 := by
 by_cases c : L = 0
 ·subst c
  rw [cl_zero]
  unfold fst
  omega
 ·have e1 := come_at l L 256 256 (by omega) (Nat.le_refl _)
  rw [← fst_need l L (by omega) h40, ← Nat.add_mul] at e1
  have m := need_mono (l := l) (P := come l L 256) (Q := fun _ => true) (fun _ _ => rfl) 256
  have t := Nat.two_pow_pos (40 - L)
  have : (fst l L + cl l L 256) * 1 ≤ (fst l L + cl l L 256) * 2 ^ (40 - L) := Nat.mul_le_mul_left _ t
  omega
theorem cl_mono (l : Nat → Nat) (L : Nat) : ∀ {a b : Nat}, a ≤ b → cl l L a ≤ cl l L b := by
 intro a b h
 obtain ⟨k, rfl⟩ : ∃ k, b = a + k := ⟨b - a, by omega⟩
 clear h
 induction k with
 | zero => exact Nat.le_refl _
 | succ k ih => exact Nat.le_trans ih (by show _ ≤ cl l L (a + k) + _; omega)
theorem cl_le (l : Nat → Nat) (L q : Nat) : cl l L q ≤ q := by
 induction q with
 | zero => exact Nat.le_refl _
 | succ q ih => unfold cl; split <;> omega
theorem pow39 (L : Nat) (h : 0 < L) : 2 ^ (40 - L) ≤ 549755813888 := by
 have e : (2 : Nat) ^ 39 = 549755813888 := by decide
 rw [← e]
 exact Nat.pow_le_pow_right (by decide) (by omega)
theorem need_le (l : Nat → Nat) (k : Nat) : need l (fun _ => true) k ≤ k * 549755813888 := by
 induction k with
 | zero => exact Nat.zero_le _
 | succ k ih =>
  rw [Nat.add_mul, Nat.one_mul]
  unfold need
  refine Nat.add_le_add ih ?_
  split
  ·rename_i h
   exact pow39 (l k) h.1
  ·exact Nat.zero_le _
def fitb (l : Nat → Nat) : Bool := decide (need l (fun _ => true) 256 = 1099511627776) || (decide ((used l 256).length = 1) && decide (need l (fun _ => true) 256 = 549755813888)) || decide ((used l 256).length = 0)
theorem need_none (l : Nat → Nat) (k : Nat) (h : (used l k).length = 0) : need l (fun _ => true) k = 0 := by
 have h2 := List.eq_nil_of_length_eq_zero h
 have : ∀ c, c < k → l c = 0 := fun c hc => by
  refine Nat.eq_zero_of_not_pos fun hp => ?_
  have := mem_used.2 ⟨hc, hp⟩
  rw [h2] at this
  cases this
 clear h h2
 induction k with
 | zero => rfl
 | succ k ih =>
  unfold need
  rw [ih (fun c hc => this c (by omega)), if_neg (by rw [this k (by omega)]; omega)]
theorem fit_need {l : Nat → Nat} (h : fitb l = true) : need l (fun _ => true) 256 ≤ 2 ^ 40 := by
 unfold fitb at h
 simp only [Bool.or_eq_true, Bool.and_eq_true, decide_eq_true_eq] at h
 rcases h with (h | h) | h
 ·omega
 ·omega
 ·rw [need_none l 256 h]; omega
theorem used_more (l : Nat → Nat) (q : Nat) : (used l (q + 1)).length = (used l q).length + (if 0 < l q then 1 else 0) := by
 rw [Hv.used_succ, List.length_append]
 split <;> rfl
theorem hlen_fit (cnt : Nat → Nat) (hB : ∀ c, cnt c ≤ 1048576) : fitb (hlen cnt 256) = true ∧ (∀ c, hlen cnt 256 c ≤ 40) ∧ (∀ c, c < 256 → (0 < hlen cnt 256 c ↔ 0 < cnt c)) := by
 by_cases h2 : 2 ≤ (used cnt 256).length
 ·have F := fine cnt 256 (by omega) hB h2
  refine ⟨?_, fun c => ?_, fun c hc => ?_⟩
  ·unfold fitb
   rw [Hv.need_fine F]
   simp
  ·by_cases g : c ∈ used cnt 256
   ·exact (F.some c g).2
   ·rw [F.none c g]; omega
  ·constructor
   ·intro h
    refine Nat.pos_of_ne_zero fun e => ?_
    have := F.none c (fun g => by have := (mem_used.1 g).2; omega)
    omega
   ·intro h
    exact (F.some c (mem_used.2 ⟨hc, h⟩)).1
 ·have iff : ∀ c, c < 256 → (0 < hlen cnt 256 c ↔ 0 < cnt c) := fun c hc => by
   constructor
   ·intro h
    refine Nat.pos_of_ne_zero fun e => ?_
    have := hlen_none cnt c (fun g => by have := (mem_used.1 g).2; omega)
    omega
   ·intro h
    have hm := mem_used.2 ⟨hc, h⟩
    have := List.length_pos_of_mem hm
    unfold hlen
    rw [if_pos (by omega), if_pos hm]
    omega
  have le1 : ∀ c, hlen cnt 256 c ≤ 1 := fun c => by
   by_cases g : c ∈ used cnt 256
   ·have := List.length_pos_of_mem g
    unfold hlen
    rw [if_pos (by omega), if_pos g]
    omega
   ·rw [hlen_none cnt c g]; omega
  have ul : used (hlen cnt 256) 256 = used cnt 256 := by
   unfold used
   refine List.filter_congr fun c hc => ?_
   have := iff c (List.mem_range.1 hc)
   rw [decide_eq_decide]
   exact this
  refine ⟨?_, fun c => by have := le1 c; omega, iff⟩
  unfold fitb
  rw [ul]
  by_cases h0 : (used cnt 256).length = 0
  ·simp [h0]
  ·have h1 : (used cnt 256).length = 1 := by omega
   have nn : need (hlen cnt 256) (fun _ => true) 256 = 549755813888 := by
    rw [Hv.need_used cnt (hlen cnt 256) 256 iff]
    obtain ⟨c, hc⟩ : ∃ c, used cnt 256 = [c] := List.length_eq_one_iff.1 h1
    rw [hc]
    have hm : c ∈ used cnt 256 := by rw [hc]; simp
    have e1 : hlen cnt 256 c = 1 := by
     unfold hlen
     rw [if_pos h1, if_pos hm]
    simp [e1]
   simp [nn, h1]
end Go.Proofs.YtcaalcjcpddhaaaGreat.Zz.Ka

namespace Go.Proofs.YtcaalcjcpddhaaaGreat.Zz
open Go.RowKit Num Hp Ka Hr
set_option linter.unusedVariables false
set_option linter.unusedSimpArgs false
set_option maxRecDepth 100000

def bl2 (n : Nat) (a b : Nat → Value) : List Value := (List.range (n * 2)).map fun j => if j % 2 = 0 then a (j / 2) else b (j / 2)
theorem length_bl2 (n : Nat) (a b : Nat → Value) : (bl2 n a b).length = n * 2 := by simp [bl2]
theorem bl2_get (n : Nat) (a b : Nat → Value) (j : Nat) (h : j < n * 2) : (bl2 n a b)[j]? = some (if j % 2 = 0 then a (j / 2) else b (j / 2)) := by
 unfold bl2
 rw [List.getElem?_map, List.getElem?_range h]
 rfl
theorem bl2_fst (n : Nat) (a b : Nat → Value) (i : Nat) (h : i < n) : (bl2 n a b)[i * 2]? = some (a i) := by
 rw [bl2_get n a b (i * 2) (by omega), if_pos (by omega), show i * 2 / 2 = i by omega]
theorem bl2_snd (n : Nat) (a b : Nat → Value) (i : Nat) (h : i < n) : (bl2 n a b)[i * 2 + 1]? = some (b i) := by
 rw [bl2_get n a b (i * 2 + 1) (by omega), if_neg (by omega), show (i * 2 + 1) / 2 = i by omega]
theorem bl2_set (n : Nat) (a b a' b' : Nat → Value) (i : Nat) (h : i < n) (ha : ∀ j, j ≠ i → a' j = a j) (hb : ∀ j, j ≠ i → b' j = b j) : ((bl2 n a b).set (i * 2) (a' i)).set (i * 2 + 1) (b' i) = bl2 n a' b' := by
 refine List.ext_getElem? fun j => ?_
 by_cases c : j < n * 2
 ·rw [bl2_get n a' b' j c, List.getElem?_set, List.getElem?_set]
  by_cases c1 : i * 2 + 1 = j
  ·subst c1
   rw [if_pos rfl, List.length_set, length_bl2, if_pos c, if_neg (by omega), show (i * 2 + 1) / 2 = i by omega]
  ·rw [if_neg c1]
   by_cases c2 : i * 2 = j
   ·subst c2
    rw [if_pos rfl, length_bl2, if_pos c, if_pos (by omega), show i * 2 / 2 = i by omega]
   ·rw [if_neg c2, bl2_get n a b j c, ha (j / 2) (by omega), hb (j / 2) (by omega)]
 ·rw [List.getElem?_eq_none (by rw [List.length_set, List.length_set, length_bl2]; omega), List.getElem?_eq_none (by rw [length_bl2]; omega)]
theorem bl2_made (n : Nat) (x y : Value) : (madeCells #[x, y] (n * 2)).toList = bl2 n (fun _ => x) (fun _ => y) := by
 unfold madeCells bl2
 rw [Array.toList_map, Array.toList_range]
 refine List.map_congr_left fun j _ => ?_
 show #[x, y][j % 2]! = _
 rcases Nat.mod_two_eq_zero_or_one j with e | e
 ·rw [e]; rfl
 ·rw [e]; rfl
def cod (v : Nat → Nat) (c : Nat) : Nat := if 0 < v c then code v 256 c else 0
def cds (v : Nat → Nat) : List Value := bl2 256 (fun c => .int .i64 (v c : Nat)) (fun c => .int .u64 (cod v c : Nat))
def CO (w : World) (v : Nat → Nat) (e : Ending) (w' : World) : Prop := ∃ g, e = .returned (.tuple #[.slice (some ⟨g, 0, none⟩) 256 256, .int .i64 0]) ∧ Cel w' g (cds v) 137 ∧ w.heap.size ≤ g ∧ Below w.heap.size w w'
theorem CO.mk {w : World} {v : Nat → Nat} {e : Ending} {w' : World} (g : Nat) (h1 : e = .returned (.tuple #[.slice (some ⟨g, 0, none⟩) 256 256, .int .i64 0])) (h2 : Cel w' g (cds v) 137) (h3 : w.heap.size ≤ g) (h4 : Below w.heap.size w w') : CO w v e w' := ⟨g, h1, h2, h3, h4⟩
def lok (l : List Int) : Bool := win l 40 && fitb (cntOf l)
end Go.Proofs.YtcaalcjcpddhaaaGreat.Zz

namespace Go.Proofs.YtcaalcjcpddhaaaGreat.Zz
open Go.RowKit Num Hp Ka Hr
set_option linter.unusedVariables false
set_option linter.unusedSimpArgs false
set_option maxRecDepth 100000

structure FI (v : Nat → Nat) (q s c z : Nat) : Prop where
 ec : c = (used v q).length
 es : s = need v (fun _ => true) q
 one : c = 1 → s = 2 ^ (40 - z) ∧ 0 < z ∧ z ≤ 40
 no : c = 0 → s = 0
end Go.Proofs.YtcaalcjcpddhaaaGreat.Zz

namespace Go.Proofs.YtcaalcjcpddhaaaGreat.Zz
open Go.RowKit Num Hp Ka Hr Ht
set_option linter.unusedVariables false
set_option linter.unusedSimpArgs false
set_option maxRecDepth 100000

end Go.Proofs.YtcaalcjcpddhaaaGreat.Zz

namespace Go.Proofs.YtcaalcjcpddhaaaGreat.Zz
open Go.RowKit Num Hp
set_option linter.unusedVariables false
set_option linter.unusedSimpArgs false
set_option maxRecDepth 100000

structure TB where
 t : Hn.Tg
 g : Nat
 cap : Nat
instance : Inhabited TB := ⟨⟨⟨0, 0, []⟩, 0, 0⟩⟩
def tbi (L : List TB) (i : Nat) : TB := L.getD i default
def TR (w : World) (g : Nat) (L : List TB) : Prop := g < w.heap.size ∧ ∀ i, i < L.length → w.cell? ⟨g, i * 3, none⟩ = some (.int .i64 ((tbi L i).t.id : Nat)) ∧ w.cell? ⟨g, i * 3 + 1, none⟩ = some (.int .i64 ((tbi L i).t.wt : Nat))
end Go.Proofs.YtcaalcjcpddhaaaGreat.Zz
