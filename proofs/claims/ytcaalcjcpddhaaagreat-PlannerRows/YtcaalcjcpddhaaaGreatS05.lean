/-
  Plain: the two loops of Codes: what is next, and at which length. Plain: codes in the canonical order lie side by side; there are fewer nodes than symbols. Plain: the sum over the nodes of codes. Plain: what the landed planner reckons is what the document reckons: rows of a tree in the other order, nodes in whatever order, the first of the least.
-/
import Derived.Test.YtcaalcjcpddhaaaGreatS04
set_option linter.unusedVariables false
set_option linter.unusedSimpArgs false
set_option maxRecDepth 100000
namespace Go.Proofs.YtcaalcjcpddhaaaGreat.Zz.Ht
open Hr
def come (l : Nat → Nat) (n q c : Nat) : Bool := decide (l c < n) || (decide (l c = n) && decide (c < q))
theorem come_iff {l : Nat → Nat} {n q c : Nat} : come l n q c = true ↔ l c < n ∨ (l c = n ∧ c < q) := by
 unfold come
 simp only [Bool.or_eq_true, Bool.and_eq_true, decide_eq_true_eq]
theorem need_cong {l : Nat → Nat} {P Q : Nat → Bool} : ∀ k, (∀ c, c < k → P c = Q c) → need l P k = need l Q k
 | 0, _ => rfl
 | k + 1, h => by
  unfold need
  rw [need_cong k (fun c hc => h c (by omega)), h k (by omega)]
theorem need_one {l : Nat → Nat} {P Q : Nat → Bool} {a : Nat} (h : ∀ c, c ≠ a → P c = Q c) (hp : P a = false) (hq : Q a = true) (hl : 0 < l a) : ∀ k, a < k → need l Q k = need l P k + 2 ^ (40 - l a)
 | 0, h0 => absurd h0 (Nat.not_lt_zero _)
 | k + 1, h0 => by
  unfold need
  by_cases e : a = k
  ·subst e
   rw [need_cong a (fun c hc => (h c (by omega)).symm), if_pos ⟨hl, hq⟩, if_neg (by rw [hp]; simp)]
   rfl
  ·rw [need_one h hp hq hl k (by omega), h k (fun e2 => e e2.symm)]
   omega
theorem come_ahead (l : Nat → Nat) (q : Nat) : come l (l q) q = Hr.ahead l q := rfl
theorem come_same (l : Nat → Nat) (n q k : Nat) (h : l q ≠ n) : need l (come l n (q + 1)) k = need l (come l n q) k :=
 need_cong k fun c _ => by
  rw [Bool.eq_iff_iff, come_iff, come_iff]
  constructor
  ·rintro (e | ⟨e1, e2⟩)
   ·exact .inl e
   ·refine .inr ⟨e1, ?_⟩
    by_cases g : c = q
    ·subst g; exact absurd e1 h
    ·omega
  ·rintro (e | ⟨e1, e2⟩)
   ·exact .inl e
   ·exact .inr ⟨e1, by omega⟩
theorem come_one (l : Nat → Nat) (q k : Nat) (hl : 0 < l q) (hk : q < k) : need l (come l (l q) (q + 1)) k = need l (come l (l q) q) k + 2 ^ (40 - l q) := by
 refine need_one (fun c hc => ?_) ?_ ?_ hl k hk
 ·rw [Bool.eq_iff_iff, come_iff, come_iff]
  omega
 ·refine Bool.eq_false_iff.2 fun e => ?_
  have := come_iff.1 e
  omega
 ·exact come_iff.2 (by omega)
theorem come_over (l : Nat → Nat) (n k : Nat) : need l (come l (n + 1) 0) k = need l (come l n k) k :=
 need_cong k fun c hc => by
  rw [Bool.eq_iff_iff, come_iff, come_iff]
  omega
theorem come_start (l : Nat → Nat) (k : Nat) : need l (come l 1 0) k = 0 := by
 induction k with
 | zero => rfl
 | succ k ih =>
  unfold need
  rw [ih, if_neg]
  rintro ⟨h1, h2⟩
  have := come_iff.1 h2
  omega
structure At (l : Nat → Nat) (k n q nx at_ : Nat) : Prop where
 le : at_ ≤ n
 le40 : at_ ≤ 40
 sum : nx * 2 ^ (40 - at_) = need l (come l n q) k
theorem At.code {l : Nat → Nat} {k q nx a : Nat} (h : At l k (l q) q nx a) (h40 : l q ≤ 40) : nx * 2 ^ (l q - a) = code l k q := by
 have e := code_eq l k q h40
 have := h.sum
 rw [come_ahead, e, show 40 - a = (l q - a) + (40 - l q) by have := h.le; omega, Nat.pow_add, ← Nat.mul_assoc] at this
 exact Nat.mul_right_cancel (Nat.two_pow_pos _) this
theorem At.put {l : Nat → Nat} {k q nx a : Nat} (h : At l k (l q) q nx a) (hl : 0 < l q) (h40 : l q ≤ 40) (hk : q < k) : At l k (l q) (q + 1) (nx * 2 ^ (l q - a) + 1) (l q) := by
 refine ⟨Nat.le_refl _, h40, ?_⟩
 rw [come_one l q k hl hk, h.code h40, Nat.add_mul, Nat.one_mul, come_ahead, code_eq l k q h40]
end Go.Proofs.YtcaalcjcpddhaaaGreat.Zz.Ht
namespace Go.Proofs.YtcaalcjcpddhaaaGreat.Zz.Sh
open Num Bit Hr
theorem least {p : Nat → Prop} : ∀ n, p n → ∃ m, p m ∧ ∀ j, j < m → ¬ p j := by
 intro n
 induction n using Nat.strongRecOn with
 | ind n ih =>
  intro h
  by_cases g : ∃ j, j < n ∧ p j
  ·obtain ⟨j, h1, h2⟩ := g
   exact ih j h1 h2
  ·exact ⟨n, h, fun j hj hp => g ⟨j, hj, hp⟩⟩
theorem inj_le {α : Type} : ∀ (l : List α) (m : List Nat) (f : α → Nat), l.Nodup → (∀ a, a ∈ l → ∀ b, b ∈ l → f a = f b → a = b) → (∀ a, a ∈ l → f a ∈ m) → l.length ≤ m.length
 | [], _, _, _, _, _ => Nat.zero_le _
 | a :: l, m, f, hn, hi, hm => by
  have ha := hm a (List.mem_cons_self ..)
  have hn' := List.nodup_cons.1 hn
  have ih := inj_le l (m.erase (f a)) f hn'.2 (fun b hb d hd e => hi b (List.mem_cons_of_mem _ hb) d (List.mem_cons_of_mem _ hd) e) (fun b hb => by
   refine (List.mem_erase_of_ne fun e => ?_).2 (hm b (List.mem_cons_of_mem _ hb))
   exact hn'.1 (hi b (List.mem_cons_of_mem _ hb) a (List.mem_cons_self ..) e ▸ hb))
  rw [List.length_erase_of_mem ha] at ih
  have := List.length_pos_of_mem ha
  rw [List.length_cons]
  omega
section
variable (l : Nat → Nat)
end
end Go.Proofs.YtcaalcjcpddhaaaGreat.Zz.Sh
namespace Go.Proofs.YtcaalcjcpddhaaaGreat.Zz.Pn
open Sh
section
variable (v k n : Nat → Nat)
def nN (L x q : Nat) : Nat := Hv.tot (fun c => if st v k L x c = true then n c else 0) q
def nO (L x q : Nat) : Nat := Hv.tot (fun c => if st v k L x c = true then n c * (pre v k (L + 1) c % 2) else 0) q
theorem nO_le (L x : Nat) : ∀ q, nO v k n L x q ≤ nN v k n L x q
 | 0 => Nat.le_refl _
 | q + 1 => by
  have ih := nO_le L x q
  unfold nO nN at ih ⊢
  rw [Hv.tot, Hv.tot]
  split
  ·have := Nat.mul_le_mul_left (n q) (show pre v k (L + 1) q % 2 ≤ 1 by omega)
   omega
  ·omega
theorem nN_le (L x : Nat) : ∀ q, nN v k n L x q ≤ Hv.tot n q
 | 0 => Nat.le_refl _
 | q + 1 => by
  have ih := nN_le L x q
  unfold nN at ih ⊢
  rw [Hv.tot, Hv.tot]
  split <;> omega
theorem nN_none {L x : Nat} : ∀ {q : Nat}, (∀ c, c < q → st v k L x c = false) → nN v k n L x q = 0 ∧ nO v k n L x q = 0
 | 0, _ => ⟨rfl, rfl⟩
 | q + 1, h => by
  have ih := nN_none (q := q) fun c hc => h c (by omega)
  unfold nN nO at ih ⊢
  rw [Hv.tot, Hv.tot, ih.1, ih.2, if_neg (by rw [h q (by omega)]; decide), if_neg (by rw [h q (by omega)]; decide)]
  exact ⟨rfl, rfl⟩
theorem nN_skip {L x q : Nat} (h : st v k L x q = false) : nN v k n L x (q + 1) = nN v k n L x q ∧ nO v k n L x (q + 1) = nO v k n L x q := by
 unfold nN nO
 rw [Hv.tot, Hv.tot, if_neg (by rw [h]; decide), if_neg (by rw [h]; decide)]
 exact ⟨rfl, rfl⟩
theorem nN_add {L x q : Nat} (h : st v k L x q = true) : nN v k n L x (q + 1) = nN v k n L x q + n q ∧ nO v k n L x (q + 1) = nO v k n L x q + n q * (pre v k (L + 1) q % 2) := by
 unfold nN nO
 rw [Hv.tot, Hv.tot, if_pos h, if_pos h]
 exact ⟨rfl, rfl⟩
structure NI (L a q : Nat) (fd : Bool) (p m o : Nat) : Prop where
 yes : fd = true → (∃ c, c < q ∧ L < v c ∧ pre v k L c = p) ∧ a ≤ p ∧ (∀ c, c < q → L < v c → a ≤ pre v k L c → p ≤ pre v k L c) ∧ m = nN v k n L p q ∧ o = nO v k n L p q
 no : fd = false → (∀ c, c < q → L < v c → pre v k L c < a) ∧ p = 0 ∧ m = 0 ∧ o = 0
theorem st_no {L x c : Nat} (h : L < v c → pre v k L c ≠ x) : st v k L x c = false := by
 unfold st
 by_cases h1 : L < v c
 ·rw [decide_eq_true h1, decide_eq_false (h h1)]; rfl
 ·rw [decide_eq_false h1]; rfl
theorem st_yes {L c : Nat} (h : L < v c) : st v k L (pre v k L c) c = true := by
 unfold st
 rw [decide_eq_true h, decide_eq_true rfl]; rfl
variable {v k n}
theorem NI.skip {L a q : Nat} {fd : Bool} {p m o : Nat} (h : NI v k n L a q fd p m o) (hs : L < v q → pre v k L q < a) : NI v k n L a (q + 1) fd p m o := by
 refine ⟨fun e => ?_, fun e => ?_⟩
 ·obtain ⟨⟨c, c1, c2, c3⟩, h2, h3, h4, h5⟩ := h.yes e
  have sk := nN_skip v k n (st_no v k (L := L) (x := p) (c := q) fun hl => by have := hs hl; omega)
  refine ⟨⟨c, by omega, c2, c3⟩, h2, fun c hc hl ha => ?_, by rw [sk.1]; exact h4, by rw [sk.2]; exact h5⟩
  by_cases e : c = q
  ·subst e; have := hs hl; omega
  ·exact h3 c (by omega) hl ha
 ·obtain ⟨h1, h2⟩ := h.no e
  refine ⟨fun c hc hl => ?_, h2⟩
  by_cases e : c = q
  ·subst e; exact hs hl
  ·exact h1 c (by omega) hl
theorem NI.le {L a q : Nat} {fd : Bool} {p m o : Nat} (h : NI v k n L a q fd p m o) (hq : q ≤ 256) : m ≤ Hv.tot n 256 ∧ o ≤ m := by
 cases fd with
 | false => obtain ⟨_, _, h1, h2⟩ := h.no rfl; omega
 | true =>
  obtain ⟨_, _, _, h1, h2⟩ := h.yes rfl
  have a1 := nN_le v k n L p q
  have a2 := nO_le v k n L p q
  have a3 := tot_mono n hq
  omega
variable (v k n)
def nf (r : Int) (L x : Nat) : Nat := row r (nN v k n L x 256) (nO v k n L x 256)
def lv (r : Int) (L a : Nat) : Nat := ((lvF v k L a).map (nf v k n r L)).sum
def nds (r : Int) (L : Nat) : Nat := Hv.tot (fun L => lv v k n r L 0) L
variable {v k n}
theorem NI.none {L a p m o : Nat} {r : Int} (h : NI v k n L a 256 false p m o) : lv v k n r L a = 0 := by
 unfold lv
 rw [lvF_none v k L a (h.no rfl).1]
 rfl
theorem NI.some {L a p m o : Nat} {r : Int} (hk : ∀ c, k c < 2 ^ v c) (h : NI v k n L a 256 true p m o) : lv v k n r L a = row r m o + lv v k n r L (p + 1) ∧ p < 2 ^ L ∧ (lvF v k L (p + 1)).length < (lvF v k L a).length := by
 obtain ⟨⟨c, c1, c2, c3⟩, h2, h3, h4, h5⟩ := h.yes rfl
 have hp : p < 2 ^ L := by
  rw [← c3]
  unfold pre
  rw [Nat.div_lt_iff_lt_mul (Nat.two_pow_pos _)]
  have e : 2 ^ v c = 2 ^ L * 2 ^ (v c - L) := by rw [← Nat.pow_add, show L + (v c - L) = v c by omega]
  have := hk c
  omega
 have e := lvF_some v k L a p h2 hp h3 ((isN_iff v k L p).2 ⟨c, c1, c2, c3⟩)
 refine ⟨?_, hp, by rw [e, List.length_cons]; omega⟩
 unfold lv
 rw [e, List.map_cons, List.sum_cons, h4, h5]
 rfl
theorem lvF_len (L a : Nat) : (lvF v k L a).length ≤ 256 := by
 have hw : ∀ x, x ∈ lvF v k L a → ∃ c, c < 256 ∧ L < v c ∧ pre v k L c = x := fun x hx => (isN_iff v k L x).1 (List.mem_filter.1 hx).2
 have hi : ∀ x, ∃ c, x ∈ lvF v k L a → c < 256 ∧ pre v k L c = x := fun x => by
  by_cases h : x ∈ lvF v k L a
  ·obtain ⟨c, h1, _, h2⟩ := hw x h
   exact ⟨c, fun _ => ⟨h1, h2⟩⟩
  ·exact ⟨0, fun g => absurd g h⟩
 have := inj_le (lvF v k L a) (List.range 256) (fun x => Classical.choose (hi x)) (List.Pairwise.filter _ List.nodup_range') (fun x hx y hy e => by
  have h1 := (Classical.choose_spec (hi x) hx).2
  have h2 := (Classical.choose_spec (hi y) hy).2
  have e' : Classical.choose (hi x) = Classical.choose (hi y) := e
  rw [← h1, ← h2, e']) (fun x hx => List.mem_range.2 (Classical.choose_spec (hi x) hx).1)
 rwa [List.length_range] at this
theorem sum_le (f : Nat → Nat) (B : Nat) : ∀ l : List Nat, (∀ x ∈ l, f x ≤ B) → (l.map f).sum ≤ l.length * B
 | [], _ => by simp
 | a :: l, h => by
  have := sum_le f B l fun x hx => h x (List.mem_cons_of_mem _ hx)
  have := h a (List.mem_cons_self ..)
  rw [List.map_cons, List.sum_cons, List.length_cons, Nat.succ_mul]
  omega
theorem lv_le (r : Int) (L a : Nat) (hn : Hv.tot n 256 ≤ 8192) : lv v k n r L a ≤ 179200000 := by
 have h1 := sum_le (nf v k n r L) 700000 (lvF v k L a) fun x _ => by
  have a1 := nN_le v k n L x 256
  have a2 := nO_le v k n L x 256
  have := row_le r (n := nN v k n L x 256) (m := nO v k n L x 256) (by omega) a2
  unfold nf
  omega
 have h2 := Nat.mul_le_mul_right 700000 (lvF_len (v := v) (k := k) L a)
 unfold lv
 omega
theorem nds_le (r : Int) (hn : Hv.tot n 256 ≤ 8192) : ∀ L, nds v k n r L ≤ L * 179200000
 | 0 => Nat.zero_le _
 | L + 1 => by
  have := nds_le r hn L
  have := lv_le (v := v) (k := k) r L 0 hn
  unfold nds at *
  rw [Hv.tot]
  omega
end
end Go.Proofs.YtcaalcjcpddhaaaGreat.Zz.Pn
namespace Go.Proofs.YtcaalcjcpddhaaaGreat.Zz.Pn
open Sh
def rwu (k : Int) (v : Nat → Nat) (n q : Nat) : Nat := Hv.tot (fun i => row k n (os v i 256)) q
theorem rwu_rws (k : Int) (v : Nat → Nat) (n : Nat) : rwu k v n 8 = rws k v n 8 := by
 unfold rwu rws
 simp only [Hv.tot, Nat.reduceSub]
 omega
def sm (f : Nat × Nat → Nat) (l : List (Nat × Nat)) : Nat := (l.map f).sum
theorem sm_app (f : Nat × Nat → Nat) (a b : List (Nat × Nat)) : sm f (a ++ b) = sm f a + sm f b := by
 unfold sm
 rw [List.map_append, List.sum_append]
theorem sm_perm (f : Nat × Nat → Nat) {a b : List (Nat × Nat)} (h : List.Perm a b) : sm f a = sm f b := by
 induction h with
 | nil => rfl
 | cons x _ ih => unfold sm at *; rw [List.map_cons, List.map_cons, List.sum_cons, List.sum_cons, ih]
 | swap x y l => unfold sm; rw [List.map_cons, List.map_cons, List.map_cons, List.map_cons, List.sum_cons, List.sum_cons, List.sum_cons, List.sum_cons]; omega
 | trans _ _ h1 h2 => rw [h1, h2]
theorem sm_flat (f : Nat × Nat → Nat) (g : Nat → List (Nat × Nat)) : ∀ q, sm f ((List.range q).flatMap g) = Hv.tot (fun L => sm f (g L)) q
 | 0 => rfl
 | q + 1 => by
  rw [List.range_succ, List.flatMap_append, sm_app, sm_flat f g q, Hv.tot]
  simp
theorem sm_map (f : Nat × Nat → Nat) (L : Nat) (l : List Nat) : sm f (l.map fun x => (L, x)) = (l.map fun x => f (L, x)).sum := by
 unfold sm
 rw [List.map_map]
 rfl
theorem few : ∀ {a b : List (Nat × Nat)}, a.Nodup → (∀ x ∈ a, x ∈ b) → a.length ≤ b.length
 | [], _, _, _ => Nat.zero_le _
 | x :: a, b, hn, hs => by
  have hx := hs x (List.mem_cons_self ..)
  have h1 := List.nodup_cons.1 hn
  have := few (a := a) (b := b.erase x) h1.2 (fun y hy => (List.mem_erase_of_ne (fun e : y = x => h1.1 (e ▸ hy))).2 (hs y (List.mem_cons_of_mem _ hy)))
  rw [List.length_erase_of_mem hx] at this
  have := List.length_pos_of_mem hx
  rw [List.length_cons]
  omega
theorem one_place {a : List (Nat × Nat)} {p : Nat × Nat} {i j : Nat} (hn : a.Nodup) (hi : a[i]? = some p) (hj : a[j]? = some p) : i = j := by
 obtain ⟨i1, i2⟩ := List.getElem?_eq_some_iff.1 hi
 obtain ⟨j1, j2⟩ := List.getElem?_eq_some_iff.1 hj
 have h := List.pairwise_iff_getElem.1 hn
 by_cases c : i < j
 ·exact absurd (i2.trans j2.symm) (h i j i1 j1 c)
 ·by_cases d : j < i
  ·exact absurd (j2.trans i2.symm) (h j i j1 i1 d)
  ·omega
section
variable (v k n : Nat → Nat)
def ndr (r : Int) (p : Nat × Nat) : Nat := nf v k n r p.1 p.2
theorem nds_sm (r : Int) : Pn.nds v k n r 40 = sm (ndr v k n r) (Sh.nds v k) := by
 unfold Pn.nds Sh.nds lv
 rw [sm_flat]
 congr 1
 funext L
 rw [sm_map]
 rfl
theorem nds_any (r : Int) (hk : ∀ c, k c < 2 ^ v c) {l : List (Nat × Nat)} (hn : l.Nodup) (hm : ∀ L x, (L, x) ∈ l ↔ L < 40 ∧ isN v k L x = true) : sm (ndr v k n r) l = Pn.nds v k n r 40 := by
 rw [nds_sm]
 refine sm_perm _ ((List.perm_ext_iff_of_nodup hn (nodup_nds v k)).2 fun p => ?_)
 obtain ⟨L, x⟩ := p
 rw [hm, mem_nds v k L x hk]
structure Met (q l : Nat) (ns : List (Nat × Nat)) (N O : Nat → Nat) : Prop where
 nd : ns.Nodup
 mem : ∀ L x, (L, x) ∈ ns ↔ (∃ c, c < q ∧ L < v c ∧ pre v k L c = x) ∨ (L < l ∧ L < v q ∧ pre v k L q = x)
 cN : ∀ i L x, ns[i]? = some (L, x) → N i = nN v k n L x (if L < l then q + 1 else q)
 cO : ∀ i L x, ns[i]? = some (L, x) → O i = nO v k n L x (if L < l then q + 1 else q)
theorem Met.start (N O : Nat → Nat) : Met v k n 0 0 [] N O := ⟨List.nodup_nil, fun L x => by simp, fun i L x h => by simp at h, fun i L x h => by simp at h⟩
variable {v k n}
theorem Met.len {q l : Nat} {ns : List (Nat × Nat)} {N O : Nat → Nat} (h : Met v k n q l ns N O) (hk : ∀ c, k c < 2 ^ v c) (hv : ∀ c, v c ≤ 40) (hq : q < 256) : ns.length ≤ 10240 := by
 have sub : ∀ p ∈ ns, p ∈ Sh.nds v k := fun p hp => by
  obtain ⟨L, x⟩ := p
  refine (mem_nds v k L x hk).2 ?_
  rcases (h.mem L x).1 hp with ⟨c, c1, c2, c3⟩ | ⟨_, c2, c3⟩
  ·exact ⟨by have := hv c; omega, (isN_iff v k L x).2 ⟨c, by omega, c2, c3⟩⟩
  ·exact ⟨by have := hv q; omega, (isN_iff v k L x).2 ⟨q, hq, c2, c3⟩⟩
 have := few h.nd sub
 refine Nat.le_trans this ?_
 have e : (Sh.nds v k).length = Hv.tot (fun L => (lvF v k L 0).length) 40 := by
  unfold Sh.nds
  rw [List.length_flatMap]
  have : ∀ q, (List.map (fun L => ((lvF v k L 0).map fun x => (L, x)).length) (List.range q)).sum = Hv.tot (fun L => (lvF v k L 0).length) q := fun q => by
   induction q with
   | zero => rfl
   | succ q ih => rw [List.range_succ, List.map_append, List.sum_append, ih, Hv.tot]; simp
  exact this 40
 rw [e]
 have b : ∀ q, Hv.tot (fun L => (lvF v k L 0).length) q ≤ q * 256 := fun q => by
  induction q with
  | zero => exact Nat.zero_le _
  | succ q ih => rw [Hv.tot]; have := lvF_len (v := v) (k := k) q 0; omega
 exact b 40
theorem Met.next {q : Nat} {ns : List (Nat × Nat)} {N O : Nat → Nat} (h : Met v k n q (v q) ns N O) : Met v k n (q + 1) 0 ns N O := by
 have key : ∀ L x, (if L < v q then q + 1 else q) = q + 1 ∨ st v k L x q = false := fun L x => by
  by_cases c : L < v q
  ·exact .inl (if_pos c)
  ·exact .inr (by unfold st; rw [decide_eq_false c]; rfl)
 refine ⟨h.nd, fun L x => ?_, fun i L x hi => ?_, fun i L x hi => ?_⟩
 ·rw [h.mem]
  constructor
  ·rintro (⟨c, c1, c2, c3⟩ | ⟨c1, c2, c3⟩)
   ·exact .inl ⟨c, by omega, c2, c3⟩
   ·exact .inl ⟨q, by omega, c2, c3⟩
  ·rintro (⟨c, c1, c2, c3⟩ | ⟨c1, _⟩)
   ·by_cases e : c = q
    ·subst e; exact .inr ⟨c2, c2, c3⟩
    ·exact .inl ⟨c, by omega, c2, c3⟩
   ·omega
 ·rw [h.cN i L x hi, if_neg (Nat.not_lt_zero L)]
  rcases key L x with e | e
  ·rw [e]
  ·by_cases c : L < v q
   ·rw [if_pos c]
   ·rw [if_neg c, (nN_skip v k n e).1]
 ·rw [h.cO i L x hi, if_neg (Nat.not_lt_zero L)]
  rcases key L x with e | e
  ·rw [e]
  ·by_cases c : L < v q
   ·rw [if_pos c]
   ·rw [if_neg c, (nN_skip v k n e).2]
theorem Met.old {q l : Nat} {ns : List (Nat × Nat)} {N O N' O' : Nat → Nat} (h : Met v k n q l ns N O) (hl : l < v q) {at_ : Nat} (ha : ns[at_]? = some (l, pre v k l q))
  (hN : N' at_ = N at_ + n q) (hO : O' at_ = O at_ + n q * (pre v k (l + 1) q % 2)) (oN : ∀ i, i ≠ at_ → N' i = N i) (oO : ∀ i, i ≠ at_ → O' i = O i) : Met v k n q (l + 1) ns N' O' := by
 have inj : ∀ i, ns[i]? = some (l, pre v k l q) → i = at_ := fun i hi => one_place h.nd hi ha
 have hlt := (List.getElem?_eq_some_iff.1 ha).1
 refine ⟨h.nd, fun L x => ?_, fun i L x hi => ?_, fun i L x hi => ?_⟩
 ·rw [h.mem]
  constructor
  ·rintro (c | ⟨c1, c2, c3⟩)
   ·exact .inl c
   ·exact .inr ⟨by omega, c2, c3⟩
  ·rintro (c | ⟨c1, c2, c3⟩)
   ·exact .inl c
   ·by_cases e : L = l
    ·subst e
     exact (h.mem L x).1 (by rw [← c3]; exact List.mem_of_getElem? ha)
    ·exact .inr ⟨by omega, c2, c3⟩
 ·by_cases e : i = at_
  ·subst e
   rw [ha] at hi
   obtain ⟨rfl, rfl⟩ := Prod.mk.inj (Option.some.inj hi)
   rw [hN, h.cN _ _ _ ha, if_neg (Nat.lt_irrefl _), if_pos (Nat.lt_succ_self _), (nN_add v k n (st_yes v k hl)).1]
  ·rw [oN i e, h.cN i L x hi]
   by_cases c : L < l
   ·rw [if_pos c, if_pos (by omega)]
   ·rw [if_neg c]
    by_cases d : L < l + 1
    ·obtain rfl : L = l := by omega
     rw [if_pos d, (nN_skip v k n (st_no v k (fun _ g => e (inj i (by rw [hi, g]))))).1]
    ·rw [if_neg d]
 ·by_cases e : i = at_
  ·subst e
   rw [ha] at hi
   obtain ⟨rfl, rfl⟩ := Prod.mk.inj (Option.some.inj hi)
   rw [hO, h.cO _ _ _ ha, if_neg (Nat.lt_irrefl _), if_pos (Nat.lt_succ_self _), (nN_add v k n (st_yes v k hl)).2]
  ·rw [oO i e, h.cO i L x hi]
   by_cases c : L < l
   ·rw [if_pos c, if_pos (by omega)]
   ·rw [if_neg c]
    by_cases d : L < l + 1
    ·obtain rfl : L = l := by omega
     rw [if_pos d, (nN_skip v k n (st_no v k (fun _ g => e (inj i (by rw [hi, g]))))).2]
    ·rw [if_neg d]
theorem Met.new {q l : Nat} {ns : List (Nat × Nat)} {N O N' O' : Nat → Nat} (h : Met v k n q l ns N O) (hl : l < v q) (ha : (l, pre v k l q) ∉ ns)
  (hN : N' ns.length = n q) (hO : O' ns.length = n q * (pre v k (l + 1) q % 2)) (oN : ∀ i, i < ns.length → N' i = N i) (oO : ∀ i, i < ns.length → O' i = O i) : Met v k n q (l + 1) (ns ++ [(l, pre v k l q)]) N' O' := by
 have hno : ∀ c, c < q → l < v c → pre v k l c ≠ pre v k l q := fun c h1 h2 h3 => ha ((h.mem _ _).2 (.inl ⟨c, h1, h2, h3⟩))
 have z := nN_none v k n (q := q) (L := l) (x := pre v k l q) fun c hc => st_no v k (hno c hc)
 have ad := nN_add v k n (st_yes v k hl)
 have part : ∀ i L x, (ns ++ [(l, pre v k l q)])[i]? = some (L, x) → (i < ns.length ∧ ns[i]? = some (L, x)) ∨ (i = ns.length ∧ L = l ∧ x = pre v k l q) := fun i L x hi => by
  by_cases c : i < ns.length
  ·rw [List.getElem?_append_left c] at hi
   exact .inl ⟨c, hi⟩
  ·rw [List.getElem?_append_right (by omega)] at hi
   by_cases d : i = ns.length
   ·subst d
    simp only [Nat.sub_self, List.getElem?_cons_zero, Option.some.injEq, Prod.mk.injEq] at hi
    exact .inr ⟨rfl, hi.1.symm, hi.2.symm⟩
   ·rw [show i - ns.length = (i - ns.length - 1) + 1 by omega, List.getElem?_cons_succ] at hi
    simp at hi
 have ne : ∀ i L x, i < ns.length → ns[i]? = some (L, x) → L < l + 1 → ¬ L < l → st v k L x q = false := fun i L x h1 h2 h3 h4 => by
  obtain rfl : L = l := by omega
  exact st_no v k fun _ g => ha (by rw [g]; exact List.mem_of_getElem? h2)
 refine ⟨?_, fun L x => ?_, fun i L x hi => ?_, fun i L x hi => ?_⟩
 ·refine List.nodup_append.2 ⟨h.nd, by simp, fun a h1 b h2 e => ?_⟩
  simp only [List.mem_singleton] at h2
  subst e
  rw [h2] at h1
  exact ha h1
 ·rw [List.mem_append, h.mem, List.mem_singleton, Prod.mk.injEq]
  constructor
  ·rintro ((c | ⟨c1, c2, c3⟩) | ⟨rfl, rfl⟩)
   ·exact .inl c
   ·exact .inr ⟨by omega, c2, c3⟩
   ·exact .inr ⟨by omega, hl, rfl⟩
  ·rintro (c | ⟨c1, c2, c3⟩)
   ·exact .inl (.inl c)
   ·by_cases e : L = l
    ·subst e; exact .inr ⟨rfl, c3.symm⟩
    ·exact .inl (.inr ⟨by omega, c2, c3⟩)
 ·rcases part i L x hi with ⟨h1, h2⟩ | ⟨rfl, rfl, rfl⟩
  ·rw [oN i h1, h.cN i L x h2]
   by_cases c : L < l
   ·rw [if_pos c, if_pos (by omega)]
   ·rw [if_neg c]
    by_cases d : L < l + 1
    ·rw [if_pos d, (nN_skip v k n (ne i L x h1 h2 d c)).1]
    ·rw [if_neg d]
  ·rw [hN, if_pos (by omega), ad.1, z.1, Nat.zero_add]
 ·rcases part i L x hi with ⟨h1, h2⟩ | ⟨rfl, rfl, rfl⟩
  ·rw [oO i h1, h.cO i L x h2]
   by_cases c : L < l
   ·rw [if_pos c, if_pos (by omega)]
   ·rw [if_neg c]
    by_cases d : L < l + 1
    ·rw [if_pos d, (nN_skip v k n (ne i L x h1 h2 d c)).2]
    ·rw [if_neg d]
  ·rw [hO, if_pos (by omega), ad.2, z.2, Nat.zero_add]
theorem Met.sum {ns : List (Nat × Nat)} {N O : Nat → Nat} (h : Met v k n 256 0 ns N O) (hk : ∀ c, k c < 2 ^ v c) (hv : ∀ c, v c ≤ 40) (r : Int) : Hv.tot (fun i => row r (N i) (O i)) ns.length = Pn.nds v k n r 40 := by
 rw [← nds_any v k n r hk h.nd (fun L x => ?_)]
 ·have key : ∀ q, q ≤ ns.length → Hv.tot (fun i => row r (N i) (O i)) q = sm (ndr v k n r) (ns.take q) := fun q hq => by
   induction q with
   | zero => rfl
   | succ q ih =>
    have hq' : q < ns.length := by omega
    have g := List.getElem?_eq_getElem hq'
    rw [Hv.tot, ih (by omega), List.take_add_one, g, sm_app]
    congr 1
    generalize hp : ns[q] = p at g
    obtain ⟨L, x⟩ := p
    unfold sm ndr nf
    have e1 := h.cN q L x g
    have e2 := h.cO q L x g
    rw [if_neg (Nat.not_lt_zero _)] at e1 e2
    simp [e1, e2]
  have := key ns.length (Nat.le_refl _)
  rw [List.take_length] at this
  exact this
 ·rw [h.mem, isN_iff]
  constructor
  ·rintro (⟨c, c1, c2, c3⟩ | ⟨c1, _⟩)
   ·exact ⟨by have := hv c; omega, c, c1, c2, c3⟩
   ·omega
  ·rintro ⟨_, c, c1, c2, c3⟩
   exact .inl ⟨c, c1, c2, c3⟩
theorem Met.bd {q l : Nat} {ns : List (Nat × Nat)} {N O : Nat → Nat} (h : Met v k n q l ns N O) (hn : Hv.tot n 256 ≤ 8192) (hq : q ≤ 256) (h0 : q = 256 → l = 0) {i : Nat} (hi : i < ns.length) : N i ≤ 8192 ∧ O i ≤ N i := by
 generalize hp : ns[i] = p
 obtain ⟨L, x⟩ := p
 have g : ns[i]? = some (L, x) := by rw [List.getElem?_eq_getElem hi, hp]
 rw [h.cN i L x g, h.cO i L x g]
 have b : (if L < l then q + 1 else q) ≤ 256 := by split <;> omega
 have a1 := nN_le v k n L x (if L < l then q + 1 else q)
 have a2 := nO_le v k n L x (if L < l then q + 1 else q)
 have a3 := tot_mono n b
 omega
end
def wsA (k : Int) (s : Nat) : Nat → Nat
 | 0 => 0
 | q + 1 => if q = 0 then 0 else if row k s (wsA k s q) < row k s q then q else wsA k s q
theorem wsA_lt (k : Int) (s : Nat) : ∀ {q : Nat}, 0 < q → wsA k s q < q
 | q + 1, _ => by
  rw [wsA]
  split
  ·omega
  ·split
   ·omega
   ·have := wsA_lt k s (q := q) (by omega)
    omega
theorem wsA_wsq (k : Int) (s : Nat) : ∀ {q : Nat}, 0 < q → row k s (wsA k s q) = wsq k s q
 | q + 1, _ => by
  rw [wsA, wsq]
  split
  ·rename_i h; subst h; simp [wsq]
  ·have := wsA_wsq k s (q := q) (by omega)
   split <;> omega
theorem wsA_wst (k : Int) (s : Nat) : row k s (wsA k s (s + 1)) = wst k s := wsA_wsq k s (by omega)
end Go.Proofs.YtcaalcjcpddhaaaGreat.Zz.Pn
