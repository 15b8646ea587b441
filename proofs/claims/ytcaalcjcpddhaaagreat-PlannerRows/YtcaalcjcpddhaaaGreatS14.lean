/-
  Plain: the way to lengths does not hang on the order in which things lie: the two least are told by weights, then numbers. Plain: a symbol that stands more often has no longer code. Plain: the least two by two rows: the symbols by rising counts, and what became of two as it came about: the document's way, and how deep each symbol lies. Plain: where the two rows begin, where they end, and what is measured then: the lengths of the document.
-/
import Derived.Test.YtcaalcjcpddhaaaGreatS10
set_option linter.unusedVariables false
set_option linter.unusedSimpArgs false
set_option maxRecDepth 100000
namespace Go.Proofs.YtcaalcjcpddhaaaGreat.Zz.Hu
open Hm Hn Ho
theorem less_iff {a b : Tg} : less a b = true ↔ a.wt < b.wt ∨ (a.wt = b.wt ∧ a.id < b.id) := by
 unfold less
 simp only [Bool.or_eq_true, Bool.and_eq_true, decide_eq_true_eq]
theorem leastQ_min (l : List Tg) (q : Nat) : ∀ j, j ≤ q → less (tg l j) (tg l (leastQ l q)) = false := by
 induction q with
 | zero =>
  intro j hj
  obtain rfl : j = 0 := by omega
  refine Bool.eq_false_iff.2 fun e => ?_
  have := less_iff.1 e
  unfold leastQ at this
  omega
 | succ q ih =>
  intro j hj
  unfold leastQ
  split
  ·rename_i c
   have c := less_iff.1 c
   refine Bool.eq_false_iff.2 fun e => ?_
   have e := less_iff.1 e
   by_cases g : j = q + 1
   ·subst g; omega
   ·have h := ih j (by omega)
    have h : ¬ _ := fun x => by rw [less_iff.2 x] at h; cases h
    exact h (by omega)
  ·rename_i c
   by_cases g : j = q + 1
   ·subst g
    exact Bool.eq_false_iff.2 c
   ·exact ih j (by omega)
theorem fst_mem {l : List Tg} (h : 0 < l.length) : fstT l ∈ l := (perm_erase l _ (least_lt h)).subset List.mem_cons_self
theorem fst_min {l : List Tg} : ∀ x ∈ l, less x (fstT l) = false := by
 intro x hx
 obtain ⟨j, hj, rfl⟩ := List.mem_iff_getElem.1 hx
 have := leastQ_min l (l.length - 1) j (by omega)
 have e : tg l j = l[j] := by unfold tg; rw [List.getD_eq_getElem?_getD, List.getElem?_eq_getElem hj]; rfl
 rw [e] at this
 exact this
def Ids (l : List Tg) : Prop := (l.map Tg.id).Nodup
theorem ids_eq : ∀ {l : List Tg}, Ids l → ∀ x ∈ l, ∀ y ∈ l, x.id = y.id → x = y
 | [], _, _, hx, _, _, _ => absurd hx List.not_mem_nil
 | z :: l, h, x, hx, y, hy, e => by
  have h := List.nodup_cons.1 (show (z.id :: l.map Tg.id).Nodup from h)
  rcases List.mem_cons.1 hx with g1 | g1
  ·rcases List.mem_cons.1 hy with g2 | g2
   ·rw [g1, g2]
   ·exact absurd (show z.id ∈ l.map Tg.id by rw [← g1, e]; exact List.mem_map_of_mem g2) h.1
  ·rcases List.mem_cons.1 hy with g2 | g2
   ·exact absurd (show z.id ∈ l.map Tg.id by rw [← g2, ← e]; exact List.mem_map_of_mem g1) h.1
   ·exact ids_eq (l := l) h.2 x g1 y g2 e
theorem fst_of {l : List Tg} (hi : Ids l) {x : Tg} (hx : x ∈ l) (h : ∀ y ∈ l, less y x = false) : x = fstT l := by
 have h0 : 0 < l.length := List.length_pos_of_mem hx
 have h1 := h _ (fst_mem h0)
 have h2 := fst_min x hx
 refine ids_eq hi x hx _ (fst_mem h0) ?_
 have n1 : ¬ _ := fun e => by rw [less_iff.2 e] at h1; cases h1
 have n2 : ¬ _ := fun e => by rw [less_iff.2 e] at h2; cases h2
 omega
theorem Ids.perm {l m : List Tg} (p : l.Perm m) (h : Ids l) : Ids m := (p.map Tg.id).nodup h
theorem fst_perm {l m : List Tg} (p : l.Perm m) (h : Ids l) (h0 : 0 < l.length) : fstT l = fstT m :=
 fst_of (h.perm p) (p.subset (fst_mem h0)) (fun y hy => fst_min y (p.symm.subset hy))
theorem lst1_perm {l m : List Tg} (p : l.Perm m) (h : Ids l) (h0 : 0 < l.length) : (lst1 l).Perm (lst1 m) := by
 have p1 : (fstT l :: lst1 l).Perm l := perm_erase l _ (least_lt h0)
 have p2 : (fstT m :: lst1 m).Perm m := perm_erase m _ (least_lt (by rw [← p.length_eq]; exact h0))
 have := (p1.trans p).trans p2.symm
 rw [fst_perm p h h0] at this
 exact this.cons_inv
theorem lst1_ids {l : List Tg} (h : Ids l) (h0 : 0 < l.length) : Ids (lst1 l) := by
 have p1 : (fstT l :: lst1 l).Perm l := perm_erase l _ (least_lt h0)
 exact (List.nodup_cons.1 (show (_ :: (lst1 l).map Tg.id).Nodup from h.perm p1.symm)).2
theorem next_ids {l : List Tg} {n : Nat} (h : Ids l) (hn : ∀ x ∈ l, x.id < n) (h2 : 2 ≤ l.length) : Ids (next n l) ∧ ∀ x ∈ next n l, x.id < n + 1 := by
 obtain ⟨p, _, _⟩ := parts h2
 have l1 := lst1_len (l := l) (by omega)
 have i2 := lst1_ids (lst1_ids h (by omega)) (by omega)
 have sub : ∀ x ∈ lst2 l, x.id < n := fun x hx => hn x (p.subset (List.mem_cons_of_mem _ (List.mem_cons_of_mem _ hx)))
 constructor
 ·unfold Ids next
  rw [List.map_append, List.nodup_append]
  refine ⟨i2, by simp [joint], ?_⟩
  intro a ha b hb e
  obtain ⟨x, hx, rfl⟩ := List.mem_map.1 ha
  have : b = n := by simpa [joint] using hb
  have := sub x hx
  omega
 ·intro x hx
  unfold next at hx
  rcases List.mem_append.1 hx with hx | hx
  ·have := sub x hx; omega
  ·obtain rfl := List.mem_singleton.1 hx
   show n < n + 1
   omega
theorem next_perm {l m : List Tg} (n : Nat) (p : l.Perm m) (h : Ids l) (h2 : 2 ≤ l.length) : fstT l = fstT m ∧ sndT l = sndT m ∧ (next n l).Perm (next n m) := by
 have l1 := lst1_len (l := l) (by omega)
 have f1 := fst_perm p h (by omega)
 have q1 := lst1_perm p h (by omega)
 have i1 := lst1_ids h (by omega)
 have f2 : sndT l = sndT m := fst_perm q1 i1 (by omega)
 have q2 : (lst2 l).Perm (lst2 m) := lst1_perm q1 i1 (by omega)
 refine ⟨f1, f2, ?_⟩
 unfold next joint
 rw [f1, f2]
 exact q2.append_right _
theorem run_perm : ∀ (f n : Nat) (l m : List Tg) (d : Nat → Nat), l.Perm m → Ids l → (∀ x ∈ l, x.id < n) → run f n l d = run f n m d := by
 intro f
 induction f with
 | zero => intro n l m d _ _ _; rfl
 | succ f ih =>
  intro n l m d p h hn
  unfold run
  rw [p.length_eq]
  by_cases c : m.length ≤ 1
  ·rw [if_pos c, if_pos c]
  ·rw [if_neg c, if_neg c]
   have h2 : 2 ≤ l.length := by rw [p.length_eq]; omega
   obtain ⟨e1, e2, q⟩ := next_perm n p h h2
   obtain ⟨i1, i2⟩ := next_ids h hn h2
   rw [← e1, ← e2]
   exact ih (n + 1) (next n l) (next n m) _ q i1 i2
end Go.Proofs.YtcaalcjcpddhaaaGreat.Zz.Hu
namespace Go.Proofs.YtcaalcjcpddhaaaGreat.Zz.Hq
open Hm Hn Ho Hp
end Go.Proofs.YtcaalcjcpddhaaaGreat.Zz.Hq
namespace Go.Proofs.YtcaalcjcpddhaaaGreat.Zz.Ji
open Hm Hn Ho Hp Hu
def tgo (n : Nat) (f : Nat → T4) (S : Nat → List Nat) (k : Nat) : Tg := ⟨if k < n then (f k).sy else 256 + (k - n), (f k).ct, S k⟩
def lef (n : Nat) (f : Nat → T4) (S : Nat → List Nat) (s m e : Nat) : List Tg := (List.range' s (n - s)).map (tgo n f S) ++ (List.range' m (e - m)).map (tgo n f S)
theorem mem_lef {n : Nat} {f : Nat → T4} {S : Nat → List Nat} {s m e : Nat} {x : Tg} : x ∈ lef n f S s m e ↔ ∃ k, ((s ≤ k ∧ k < n) ∨ (m ≤ k ∧ k < e)) ∧ x = tgo n f S k := by
 unfold lef
 rw [List.mem_append, List.mem_map, List.mem_map]
 constructor
 ·rintro (⟨k, hk, rfl⟩ | ⟨k, hk, rfl⟩)
  ·have := List.mem_range'_1.1 hk
   exact ⟨k, .inl (by omega), rfl⟩
  ·have := List.mem_range'_1.1 hk
   exact ⟨k, .inr (by omega), rfl⟩
 ·rintro ⟨k, h | h, rfl⟩
  ·exact .inl ⟨k, List.mem_range'_1.2 (by omega), rfl⟩
  ·exact .inr ⟨k, List.mem_range'_1.2 (by omega), rfl⟩
theorem lef_len (n : Nat) (f : Nat → T4) (S : Nat → List Nat) (s m e : Nat) : (lef n f S s m e).length = (n - s) + (e - m) := by
 unfold lef; simp
theorem lef_sym {n : Nat} {f : Nat → T4} {S : Nat → List Nat} {s m e : Nat} (h : s < n) : lef n f S s m e = tgo n f S s :: lef n f S (s + 1) m e := by
 unfold lef
 rw [show n - s = (n - (s + 1)) + 1 by omega, List.range'_succ]
 rfl
theorem lef_made {n : Nat} {f : Nat → T4} {S : Nat → List Nat} {s m e : Nat} (h : m < e) : (lef n f S s m e).Perm (tgo n f S m :: lef n f S s (m + 1) e) := by
 unfold lef
 rw [show e - m = (e - (m + 1)) + 1 by omega, List.range'_succ, List.map_cons]
 exact List.perm_middle
theorem lef_more {n : Nat} {f : Nat → T4} {S : Nat → List Nat} {s m e : Nat} (h : m ≤ e) : lef n f S s m (e + 1) = lef n f S s m e ++ [tgo n f S e] := by
 unfold lef
 rw [show e + 1 - m = (e - m) + 1 by omega, List.range'_concat, List.map_append, List.append_assoc]
 simp
 rw [show m + (e - m) = e by omega]
theorem lef_cong {n : Nat} {f g : Nat → T4} {S R : Nat → List Nat} {s m e : Nat} (h : ∀ k, k < n ∨ k < e → tgo n f S k = tgo n g R k) : lef n f S s m e = lef n g R s m e := by
 unfold lef
 congr 1
 ·exact List.map_congr_left fun k hk => h k (.inl (by have := List.mem_range'_1.1 hk; omega))
 ·exact List.map_congr_left fun k hk => h k (.inr (by have := List.mem_range'_1.1 hk; omega))
theorem nodup_map {α β : Type} {f : α → β} : ∀ {l : List α}, l.Nodup → (∀ x ∈ l, ∀ y ∈ l, f x = f y → x = y) → (l.map f).Nodup
 | [], _, _ => List.nodup_nil
 | x :: l, h, hi => by
  have h := List.nodup_cons.1 h
  refine List.nodup_cons.2 ⟨fun hm => ?_, nodup_map h.2 fun a ha b hb => hi a (List.mem_cons_of_mem _ ha) b (List.mem_cons_of_mem _ hb)⟩
  obtain ⟨y, hy, e⟩ := List.mem_map.1 hm
  exact h.1 (by rw [← hi y (List.mem_cons_of_mem _ hy) x List.mem_cons_self e]; exact hy)
structure Ord (n : Nat) (f : Nat → T4) (s m e : Nat) : Prop where
 le : s ≤ n ∧ n ≤ m ∧ m ≤ e
 up : Sx.Up ltT 0 n f
 sy : ∀ k, k < n → (f k).sy < 256
 mono : ∀ i j, n ≤ i → i ≤ j → j < e → (f i).ct ≤ (f j).ct
theorem less_false {a b : Tg} (h : b.wt < a.wt ∨ (b.wt = a.wt ∧ b.id ≤ a.id)) : less a b = false := by
 refine Bool.eq_false_iff.2 fun e => ?_
 have := less_iff.1 e
 omega
theorem ord_ids {n : Nat} {f : Nat → T4} {S : Nat → List Nat} {s m e : Nat} (O : Ord n f s m e) (hs : ∀ i j, i < j → j < n → (f i).sy ≠ (f j).sy) : Ids (lef n f S s m e) := by
 unfold Ids lef
 rw [List.map_append, List.map_map, List.map_map, List.nodup_append]
 have hl := O.le
 refine ⟨?_, ?_, ?_⟩
 ·refine nodup_map List.nodup_range' ?_
  intro x hx y hy he
  have hx := List.mem_range'_1.1 hx
  have hy := List.mem_range'_1.1 hy
  simp only [Function.comp, tgo] at he
  rw [if_pos (by omega), if_pos (by omega)] at he
  refine Nat.le_antisymm (Nat.le_of_not_lt fun c => ?_) (Nat.le_of_not_lt fun c => ?_)
  ·exact hs y x c (by omega) he.symm
  ·exact hs x y c (by omega) he
 ·refine nodup_map List.nodup_range' ?_
  intro x hx y hy he
  have hx := List.mem_range'_1.1 hx
  have hy := List.mem_range'_1.1 hy
  simp only [Function.comp, tgo] at he
  rw [if_neg (by omega), if_neg (by omega)] at he
  omega
 ·intro a ha b hb
  obtain ⟨x, hx, rfl⟩ := List.mem_map.1 ha
  obtain ⟨y, hy, rfl⟩ := List.mem_map.1 hb
  have hx := List.mem_range'_1.1 hx
  have hy := List.mem_range'_1.1 hy
  simp only [Function.comp, tgo]
  rw [if_pos (by omega), if_neg (by omega)]
  have := O.sy x (by omega)
  omega
theorem least_sym {n : Nat} {f : Nat → T4} {S : Nat → List Nat} {s m e : Nat} (O : Ord n f s m e) (hs : ∀ i j, i < j → j < n → (f i).sy ≠ (f j).sy) (h : s < n) (hc : m = e ∨ (f s).ct ≤ (f m).ct) : tgo n f S s = fstT (lef n f S s m e) := by
 have hl := O.le
 refine fst_of (ord_ids O hs) (mem_lef.2 ⟨s, .inl ⟨Nat.le_refl _, h⟩, rfl⟩) fun y hy => ?_
 obtain ⟨k, hk, rfl⟩ := mem_lef.1 hy
 refine less_false ?_
 simp only [tgo]
 rw [if_pos h]
 rcases hk with hk | hk
 ·rw [if_pos hk.2]
  by_cases c : k = s
  ·subst c; exact .inr ⟨rfl, Nat.le_refl _⟩
  ·have := O.up s k (Nat.zero_le _) (by omega) hk.2
   unfold ltT at this
   omega
 ·rw [if_neg (by omega)]
  have h1 := O.mono m k (by omega) hk.1 hk.2
  have h2 := O.sy s h
  omega
theorem least_made {n : Nat} {f : Nat → T4} {S : Nat → List Nat} {s m e : Nat} (O : Ord n f s m e) (hs : ∀ i j, i < j → j < n → (f i).sy ≠ (f j).sy) (h : m < e) (hc : ¬ (s < n ∧ (f s).ct ≤ (f m).ct)) : tgo n f S m = fstT (lef n f S s m e) := by
 have hl := O.le
 refine fst_of (ord_ids O hs) (mem_lef.2 ⟨m, .inr ⟨Nat.le_refl _, h⟩, rfl⟩) fun y hy => ?_
 obtain ⟨k, hk, rfl⟩ := mem_lef.1 hy
 refine less_false ?_
 simp only [tgo]
 rw [if_neg (show ¬ m < n by omega)]
 rcases hk with hk | hk
 ·rw [if_pos hk.2]
  by_cases c : k = s
  ·subst c; omega
  ·have := O.up s k (Nat.zero_le _) (by omega) hk.2
   unfold ltT at this
   omega
 ·rw [if_neg (by omega)]
  have h1 := O.mono m k (by omega) hk.1 hk.2
  by_cases c : k = m
  ·subst c; omega
  ·omega
def Lf (n s m e k : Nat) : Prop := (s ≤ k ∧ k < n) ∨ (m ≤ k ∧ k < e)
def Pick (n : Nat) (f : Nat → T4) (s m e a s' m' : Nat) : Prop := (a = s ∧ s < n ∧ s' = s + 1 ∧ m' = m ∧ (m = e ∨ (f s).ct ≤ (f m).ct)) ∨ (a = m ∧ m < e ∧ s' = s ∧ m' = m + 1 ∧ ¬ (s < n ∧ (f s).ct ≤ (f m).ct))
theorem pick_fst {n : Nat} {f : Nat → T4} {S : Nat → List Nat} {s m e a s' m' : Nat} (O : Ord n f s m e) (hs : ∀ i j, i < j → j < n → (f i).sy ≠ (f j).sy) (h : Pick n f s m e a s' m') :
  tgo n f S a = fstT (lef n f S s m e) ∧ (lef n f S s m e).Perm (tgo n f S a :: lef n f S s' m' e) ∧ Ord n f s' m' e ∧ (∀ k, Lf n s m e k ↔ (k = a ∨ Lf n s' m' e k)) ∧ ¬ Lf n s' m' e a ∧ Lf n s m e a := by
 have hl := O.le
 rcases h with ⟨rfl, h1, rfl, rfl, h2⟩ | ⟨rfl, h1, rfl, rfl, h2⟩
 ·refine ⟨least_sym O hs h1 h2, by rw [lef_sym h1], ⟨by omega, O.up, O.sy, O.mono⟩, fun k => ?_, ?_, ?_⟩
  ·unfold Lf; omega
  ·unfold Lf; omega
  ·unfold Lf; omega
 ·refine ⟨least_made O hs h1 h2, lef_made h1, ⟨by omega, O.up, O.sy, O.mono⟩, fun k => ?_, ?_, ?_⟩
  ·unfold Lf; omega
  ·unfold Lf; omega
  ·unfold Lf; omega
structure JS (n : Nat) (D : Nat → Nat) (f : Nat → T4) (s m e r : Nat) (S : Nat → List Nat) (hh : Nat → Nat → Nat) (d : Nat → Nat) (Y : Nat) : Prop where
 O : Ord n f s m e
 er : e = n + r
 num : (n - s) + (e - m) = n - r
 rn : r < n
 n256 : n ≤ 256
 dif : ∀ i j, i < j → j < n → (f i).sy ≠ (f j).sy
 nd : ((lef n f S s m e).flatMap Tg.sy).Nodup
 rn2 : run (256 - r) (256 + r) (lef n f S s m e) d = D
 lo : ∀ k, Lf n s m e k → Y ≤ (f k).ct
 hi : ∀ k, n ≤ k → k < e → (f k).ct ≤ 2 * Y
 sum : (wts (lef n f S s m e)).sum ≤ 268435456
 lf : ∀ k, k < n → S k = [(f k).sy] ∧ hh k (f k).sy = 0
 lef_ : ∀ k, Lf n s m e k → ∀ c ∈ S k, hh k c = d c
 par : ∀ k, k < e → ¬ Lf n s m e k → k < (f k).it ∧ (f k).it < e ∧ ∀ c ∈ S k, c ∈ S (f k).it ∧ hh (f k).it c = hh k c + 1
 mke : 0 < r → m < e
 ln0 : ∀ k, (f k).ln = 0
def joi (f : Nat → T4) (a b e : Nat) : Nat → T4 := upd (upd (upd f a { f a with it := e }) b { upd f a { f a with it := e } b with it := e }) e ⟨0, (f a).ct + (f b).ct, 0, 0⟩
theorem joi_at (f : Nat → T4) (a b e : Nat) : joi f a b e e = ⟨0, (f a).ct + (f b).ct, 0, 0⟩ := upd_at _ _ _
theorem joi_a (f : Nat → T4) (a b e : Nat) (h1 : a ≠ b) (h2 : a ≠ e) : joi f a b e a = { f a with it := e } := by
 unfold joi; rw [upd_ne _ _ _ _ h2, upd_ne _ _ _ _ h1, upd_at]
theorem joi_b (f : Nat → T4) (a b e : Nat) (h1 : a ≠ b) (h2 : b ≠ e) : joi f a b e b = { f b with it := e } := by
 unfold joi; rw [upd_ne _ _ _ _ h2, upd_at, upd_ne _ _ _ _ (Ne.symm h1)]
theorem joi_ne (f : Nat → T4) (a b e k : Nat) (h1 : k ≠ a) (h2 : k ≠ b) (h3 : k ≠ e) : joi f a b e k = f k := by
 unfold joi; rw [upd_ne _ _ _ _ h3, upd_ne _ _ _ _ h2, upd_ne _ _ _ _ h1]
theorem joi_same (f : Nat → T4) (a b e k : Nat) (h1 : a ≠ b) (h3 : k ≠ e) : (joi f a b e k).sy = (f k).sy ∧ (joi f a b e k).ct = (f k).ct ∧ (joi f a b e k).ln = (f k).ln := by
 by_cases c1 : k = a
 ·subst c1; rw [joi_a f k b e h1 h3]; exact ⟨rfl, rfl, rfl⟩
 ·by_cases c2 : k = b
  ·subst c2; rw [joi_b f a k e h1 h3]; exact ⟨rfl, rfl, rfl⟩
  ·rw [joi_ne f a b e k c1 c2 h3]; exact ⟨rfl, rfl, rfl⟩
theorem cons_perm {l : List Tg} (h0 : 0 < l.length) {x : Tg} {r : List Tg} (hx : x = fstT l) (p : l.Perm (x :: r)) : (lst1 l).Perm r := by
 have p1 : (fstT l :: lst1 l).Perm l := perm_erase l _ (least_lt h0)
 rw [← hx] at p1
 exact (p1.trans p).cons_inv
theorem min_wt {l : List Tg} {x : Tg} (hx : x = fstT l) : ∀ y ∈ l, x.wt ≤ y.wt := fun y hy => by
 have h := fst_min y hy
 rw [← hx] at h
 have n1 : ¬ _ := fun e => by rw [less_iff.2 e] at h; cases h
 omega
theorem JS.step {n : Nat} {D : Nat → Nat} {f : Nat → T4} {s m e r : Nat} {S : Nat → List Nat} {hh : Nat → Nat → Nat} {d : Nat → Nat} {Y a s1 m1 b s2 m2 : Nat} (J : JS n D f s m e r S hh d Y) (hr : r + 1 < n) (P1 : Pick n f s m e a s1 m1) (P2 : Pick n f s1 m1 e b s2 m2) :
  ∃ S' hh' d' Y', JS n D (joi f a b e) s2 m2 (e + 1) (r + 1) S' hh' d' Y' := by
 obtain ⟨a1, a2, a3, a4, a5, a6⟩ := pick_fst (S := S) J.O J.dif P1
 obtain ⟨b1, b2, b3, b4, b5, b6⟩ := pick_fst (S := S) a3 J.dif P2
 have hl := J.O.le
 have hl2 := b3.le
 have her := J.er
 have hnum := J.num
 have hn256 := J.n256
 have P := a2.trans (List.Perm.cons _ b2)
 have hlen := lef_len n f S s m e
 have hlen1 := lef_len n f S s1 m1 e
 have hlen2 := lef_len n f S s2 m2 e
 have hl1 : (lef n f S s m e).length = (lef n f S s1 m1 e).length + 1 := by rw [a2.length_eq]; rfl
 have hl22 : (lef n f S s1 m1 e).length = (lef n f S s2 m2 e).length + 1 := by rw [b2.length_eq]; rfl
 have hab : a ≠ b := fun c => a5 (by rw [c]; exact b6)
 have hae : a < e := by rcases a6 with c | c <;> omega
 have hbe : b < e := by rcases b6 with c | c <;> omega
 have ids := ord_ids (S := S) J.O J.dif
 have q1 := cons_perm (by omega) a1 a2
 have i1 : Ids (lst1 (lef n f S s m e)) := lst1_ids ids (by omega)
 have hs1 : (lst1 (lef n f S s m e)).length = (lef n f S s1 m1 e).length := q1.length_eq
 have e2 : sndT (lef n f S s m e) = tgo n f S b := by
  show fstT (lst1 _) = _
  rw [fst_perm q1 i1 (by omega), ← b1]
 have q2 : (lst2 (lef n f S s m e)).Perm (lef n f S s2 m2 e) := by
  show (lst1 (lst1 _)).Perm _
  exact (lst1_perm q1 i1 (by omega)).trans (cons_perm (by omega) b1 b2)
 obtain ⟨S', hS'⟩ : ∃ S', S' = fun k => if k = e then S a ++ S b else S k := ⟨_, rfl⟩
 obtain ⟨d', hd'⟩ : ∃ d', d' = bump d (S a ++ S b) := ⟨_, rfl⟩
 obtain ⟨hh', hhh'⟩ : ∃ hh' : Nat → Nat → Nat, hh' = fun k c => if k = e then d' c else hh k c := ⟨_, rfl⟩
 have Se : S' e = S a ++ S b := by rw [hS']; exact if_pos rfl
 have Sk : ∀ k, k ≠ e → S' k = S k := fun k hk => by rw [hS']; exact if_neg hk
 have He : ∀ c, hh' e c = d' c := fun c => by rw [hhh']; exact if_pos rfl
 have Hk : ∀ k c, k ≠ e → hh' k c = hh k c := fun k c hk => by rw [hhh']; exact if_neg hk
 have tk : ∀ k, k < n ∨ k < e → tgo n f S k = tgo n (joi f a b e) S' k := fun k hk => by
  have hke : k ≠ e := by omega
  obtain ⟨x1, x2, _⟩ := joi_same f a b e k hab hke
  unfold tgo
  rw [x1, x2, Sk k hke]
 have te : tgo n (joi f a b e) S' e = joint (256 + r) (lef n f S s m e) := by
  unfold tgo joint
  rw [← a1, e2, joi_at, Se, if_neg (by omega), show e - n = r by omega]
  rfl
 have L' : lef n (joi f a b e) S' s2 m2 (e + 1) = lef n f S s2 m2 e ++ [joint (256 + r) (lef n f S s m e)] := by
  rw [lef_more hl2.2.2, te, ← lef_cong tk]
 have hidb : ∀ x ∈ lef n f S s m e, x.id < 256 + r := fun x hx => by
  obtain ⟨k, hk, rfl⟩ := mem_lef.1 hx
  unfold tgo
  by_cases c : k < n
  ·have := J.O.sy k c
   simp only [if_pos c]; omega
  ·simp only [if_neg c]; omega
 have nx : (next (256 + r) (lef n f S s m e)).Perm (lef n (joi f a b e) S' s2 m2 (e + 1)) := by
  rw [L']
  exact q2.append_right _
 have ndP : ((S a ++ S b) ++ (lef n f S s2 m2 e).flatMap Tg.sy).Nodup := by
  have h := (P.flatMap_right Tg.sy).nodup J.nd
  simp only [List.flatMap_cons] at h
  rw [← List.append_assoc] at h
  exact h
 have ndab := (List.nodup_append.1 ndP).1
 have bin : ∀ c ∈ S a ++ S b, d' c = d c + 1 := fun c hc => by rw [hd']; exact bump_in ndab hc
 have bout : ∀ k, Lf n s2 m2 e k → ∀ c ∈ S k, d' c = d c := fun k hk c hc => by
  rw [hd']
  refine bump_out fun hab' => (List.nodup_append.1 ndP).2.2 c hab' c ?_ rfl
  exact List.mem_flatMap.2 ⟨tgo n f S k, mem_lef.2 ⟨k, hk, rfl⟩, hc⟩
 have wab : (f a).ct ≤ (f b).ct := min_wt a1 (tgo n f S b) (mem_lef.2 ⟨b, (a4 b).2 (.inr b6), rfl⟩)
 have wb : ∀ k, Lf n s2 m2 e k → (f b).ct ≤ (f k).ct := fun k hk => min_wt b1 (tgo n f S k) (mem_lef.2 ⟨k, (b4 k).2 (.inr hk), rfl⟩)
 have Ya := J.lo a a6
 have Yb := J.lo b ((a4 b).2 (.inr b6))
 have left2 : ∀ k, Lf n s2 m2 (e + 1) k ↔ (k = e ∨ Lf n s2 m2 e k) := fun k => by unfold Lf; omega
 have sub2 : ∀ k, Lf n s2 m2 e k → k < e := fun k hk => by rcases hk with c | c <;> omega
 have njs : ∀ k, k ≠ e → (joi f a b e k).sy = (f k).sy ∧ (joi f a b e k).ct = (f k).ct ∧ (joi f a b e k).ln = (f k).ln := fun k hk => joi_same f a b e k hab hk
 refine ⟨S', hh', d', (f b).ct, ⟨⟨by omega, ?_, ?_, ?_⟩, by omega, by omega, by omega, hn256, ?_, ?_, ?_, ?_, ?_, ?_, ?_, ?_, ?_, fun _ => by omega, ?_⟩⟩
 ·intro i j h1 h2 h3
  have x1 := njs i (by omega)
  have x2 := njs j (by omega)
  have := J.O.up i j h1 h2 h3
  unfold ltT at this ⊢
  rw [x1.1, x1.2.1, x2.1, x2.2.1]
  exact this
 ·intro k hk
  rw [(njs k (by omega)).1]; exact J.O.sy k hk
 ·intro i j h1 h2 h3
  by_cases c : j = e
  ·subst c
   by_cases c2 : i = j
   ·subst c2; exact Nat.le_refl _
   ·rw [(njs i c2).2.1, joi_at]
    have := J.hi i h1 (by omega)
    show _ ≤ (f a).ct + (f b).ct
    omega
  ·rw [(njs i (by omega)).2.1, (njs j c).2.1]
   exact J.O.mono i j h1 h2 (by omega)
 ·intro i j h1 h2
  rw [(njs i (by omega)).1, (njs j (by omega)).1]
  exact J.dif i j h1 h2
 ·rw [L', List.flatMap_append]
  simp only [List.flatMap_cons, List.flatMap_nil, List.append_nil]
  have : (joint (256 + r) (lef n f S s m e)).sy = S a ++ S b := by
   unfold joint
   rw [← a1, e2]
   rfl
  rw [this]
  exact List.perm_append_comm.nodup ndP
 ·rw [← J.rn2, show 256 - r = (256 - (r + 1)) + 1 by omega]
  conv => rhs; unfold run
  rw [if_neg (by omega), ← a1, e2]
  obtain ⟨n1, n2⟩ := next_ids (n := 256 + r) ids hidb (by omega)
  rw [show 256 + (r + 1) = 256 + r + 1 by omega, hd']
  exact (run_perm _ _ _ _ _ nx n1 n2).symm
 ·intro k hk
  rcases (left2 k).1 hk with c | c
  ·subst c; rw [joi_at]; show _ ≤ (f a).ct + (f b).ct; omega
  ·rw [(njs k (by have := sub2 k c; omega)).2.1]; exact wb k c
 ·intro k h1 h2
  by_cases c : k = e
  ·subst c; rw [joi_at]; show (f a).ct + (f b).ct ≤ _; omega
  ·rw [(njs k c).2.1]
   have := J.hi k h1 (by omega)
   omega
 ·have h1 := sum_next (l := lef n f S s m e) (256 + r) (by omega)
  have h2 := (nx.map Tg.wt).sum_nat
  have h3 := J.sum
  unfold wts at h1 h3 ⊢
  omega
 ·intro k hk
  have hke : k ≠ e := by omega
  rw [Sk k hke, (njs k hke).1, Hk k _ hke]
  exact J.lf k hk
 ·intro k hk c hc
  rcases (left2 k).1 hk with h1 | h1
  ·rw [h1]; exact He c
  ·have hke : k ≠ e := by have := sub2 k h1; omega
   rw [Sk k hke] at hc
   rw [Hk k c hke, bout k h1 c hc]
   exact J.lef_ k ((a4 k).2 (.inr ((b4 k).2 (.inr h1)))) c hc
 ·intro k hk hnl
  have hke : k ≠ e := fun c => hnl ((left2 k).2 (.inl c))
  have hnl2 : ¬ Lf n s2 m2 e k := fun c => hnl ((left2 k).2 (.inr c))
  by_cases ca : k = a
  ·subst ca
   rw [joi_a f k b e hab hke]
   refine ⟨hae, by show e < e + 1; omega, fun c hc => ?_⟩
   show c ∈ S' e ∧ hh' e c = hh' k c + 1
   rw [Sk k hke] at hc
   rw [Se, He, Hk k c hke, bin c (List.mem_append_left _ hc), J.lef_ k a6 c hc]
   exact ⟨List.mem_append_left _ hc, rfl⟩
  ·by_cases cb : k = b
   ·subst cb
    rw [joi_b f a k e hab hke]
    refine ⟨hbe, by show e < e + 1; omega, fun c hc => ?_⟩
    show c ∈ S' e ∧ hh' e c = hh' k c + 1
    rw [Sk k hke] at hc
    rw [Se, He, Hk k c hke, bin c (List.mem_append_right _ hc), J.lef_ k ((a4 k).2 (.inr b6)) c hc]
    exact ⟨List.mem_append_right _ hc, rfl⟩
   ·rw [joi_ne f a b e k ca cb hke]
    have hn : ¬ Lf n s m e k := fun c => by
     rcases (a4 k).1 c with c | c
     ·exact ca c
     ·rcases (b4 k).1 c with c | c
      ·exact cb c
      ·exact hnl2 c
    obtain ⟨p1, p2, p3⟩ := J.par k (by omega) hn
    refine ⟨p1, by omega, fun c hc => ?_⟩
    rw [Sk k hke] at hc
    rw [Sk _ (by omega), Hk _ _ (by omega), Hk k c hke]
    exact p3 c hc
 ·intro k
  by_cases c : k = e
  ·subst c; rw [joi_at]
  ·rw [(njs k c).2.2]; exact J.ln0 k
end Go.Proofs.YtcaalcjcpddhaaaGreat.Zz.Ji
namespace Go.Proofs.YtcaalcjcpddhaaaGreat.Zz.Ji
open Hm Hn Ho Hp Hu
def th0 : T4 := ⟨0, 0, 0, 0⟩
def th1 (cnt : Nat → Nat) (c : Nat) : T4 := ⟨c, cnt c, 0, 0⟩
def laidL (u : List Nat) (cnt : Nat → Nat) (k : Nat) : T4 := if k < u.length then th1 cnt (u.getD k 0) else th0
theorem laid_nil (cnt : Nat → Nat) : laidL [] cnt = fun _ => th0 := by funext k; unfold laidL; rw [if_neg (by simp)]
theorem laid_step (u : List Nat) (cnt : Nat → Nat) (q : Nat) : upd (laidL u cnt) u.length (th1 cnt q) = laidL (u ++ [q]) cnt := by
 funext k
 unfold upd laidL
 rw [List.length_append]
 by_cases c : k = u.length
 ·subst c
  rw [if_pos rfl, if_pos (by simp), List.getD_eq_getElem?_getD, List.getElem?_append_right (Nat.le_refl _)]
  simp
 ·rw [if_neg c]
  by_cases c2 : k < u.length
  ·rw [if_pos c2, if_pos (by simp; omega), List.getD_eq_getElem?_getD, List.getD_eq_getElem?_getD, List.getElem?_append_left c2]
  ·rw [if_neg c2, if_neg (by simp; omega)]
theorem getD_mem {u : List Nat} {k : Nat} (h : k < u.length) : u.getD k 0 ∈ u := by
 rw [List.getD_eq_getElem?_getD, List.getElem?_eq_getElem h]
 exact List.getElem_mem h
theorem perm_of_sub : ∀ {l u : List Nat}, l.Nodup → (∀ x ∈ l, x ∈ u) → u.length ≤ l.length → l.Perm u
 | [], u, _, _, h => by
  obtain rfl : u = [] := List.eq_nil_of_length_eq_zero (by simpa using h)
  exact List.Perm.refl _
 | x :: l, u, hn, hs, h => by
  have hn := List.nodup_cons.1 hn
  have hx := hs x List.mem_cons_self
  have p := List.perm_cons_erase hx
  refine List.Perm.trans (List.Perm.cons x (perm_of_sub hn.2 (fun y hy => ?_) ?_)) p.symm
  ·have h1 := p.subset (hs y (List.mem_cons_of_mem _ hy))
   rcases List.mem_cons.1 h1 with e | e
   ·exact absurd (by rw [← e]; exact hy) hn.1
   ·exact e
  ·have := p.length_eq
   simp at this h
   omega
structure Srt (cnt : Nat → Nat) (n : Nat) (f : Nat → T4) : Prop where
 nu : n = (used cnt 256).length
 im : Sx.Im 0 n (laidL (used cnt 256) cnt) f
 up : Sx.Up ltT 0 n f
theorem Srt.at {cnt : Nat → Nat} {n : Nat} {f : Nat → T4} (h : Srt cnt n f) (k : Nat) (hk : k < n) : ∃ c ∈ used cnt 256, f k = th1 cnt c := by
 obtain ⟨j, _, j2, e⟩ := h.im.inn k (Nat.zero_le _) hk
 have hj : j < (used cnt 256).length := by rw [← h.nu]; exact j2
 refine ⟨(used cnt 256).getD j 0, getD_mem hj, ?_⟩
 rw [e]
 unfold laidL
 rw [if_pos hj]
theorem Srt.out {cnt : Nat → Nat} {n : Nat} {f : Nat → T4} (h : Srt cnt n f) (k : Nat) (hk : n ≤ k) : f k = th0 := by
 rw [h.im.out k (.inr hk)]
 unfold laidL
 rw [if_neg (by rw [← h.nu]; omega)]
theorem Srt.dif {cnt : Nat → Nat} {n : Nat} {f : Nat → T4} (h : Srt cnt n f) : ∀ i j, i < j → j < n → (f i).sy ≠ (f j).sy := by
 intro i j h1 h2 he
 obtain ⟨c, _, e1⟩ := h.at i (by omega)
 obtain ⟨c2, _, e2⟩ := h.at j h2
 have L := h.up i j (Nat.zero_le _) h1 h2
 rw [e1, e2] at L he
 have he : c = c2 := he
 subst he
 unfold ltT at L
 omega
def syms (n : Nat) (f : Nat → T4) : List Nat := (List.range n).map fun k => (f k).sy
theorem Srt.perm {cnt : Nat → Nat} {n : Nat} {f : Nat → T4} (h : Srt cnt n f) : (syms n f).Perm (used cnt 256) := by
 refine perm_of_sub ?_ ?_ (by rw [← h.nu]; simp [syms])
 ·refine nodup_map List.nodup_range ?_
  intro x hx y hy he
  have hx := List.mem_range.1 hx
  have hy := List.mem_range.1 hy
  refine Nat.le_antisymm (Nat.le_of_not_lt fun c => ?_) (Nat.le_of_not_lt fun c => ?_)
  ·exact h.dif y x c hx he.symm
  ·exact h.dif x y c hy he
 ·intro x hx
  obtain ⟨k, hk, rfl⟩ := List.mem_map.1 hx
  obtain ⟨c, hc, e⟩ := h.at k (List.mem_range.1 hk)
  rw [e]
  exact hc
theorem js_start {cnt : Nat → Nat} (hB : ∀ c, cnt c ≤ 1048576) {n : Nat} {f : Nat → T4} (h : Srt cnt n f) (h1 : 1 ≤ n) :
  JS n (run 256 256 (things cnt 256) (fun _ => 0)) f 0 n n 0 (fun k => [(f k).sy]) (fun _ _ => 0) (fun _ => 0) 0 := by
 have hO : Ord n f 0 n n := ⟨by omega, h.up, fun k hk => by
  obtain ⟨c, hc, e⟩ := h.at k hk
  rw [e]
  exact (mem_used.1 hc).1, fun i j h1 h2 h3 => by omega⟩
 have eL : lef n f (fun k => [(f k).sy]) 0 n n = (syms n f).map (one cnt) := by
  unfold lef syms
  rw [Nat.sub_self, Nat.sub_zero, show List.range' n 0 = [] from rfl, List.map_nil, List.append_nil, List.map_map, ← List.range_eq_range']
  refine List.map_congr_left fun k hk => ?_
  have hk := List.mem_range.1 hk
  obtain ⟨c, hc, e⟩ := h.at k hk
  unfold tgo
  rw [if_pos hk]
  simp only [Function.comp, e, one, th1]
 have P : (lef n f (fun k => [(f k).sy]) 0 n n).Perm (things cnt 256) := by
  rw [eL]
  exact h.perm.map _
 have hu := used_len cnt 256
 refine ⟨hO, by omega, by omega, by omega, by rw [h.nu]; exact hu, h.dif, ?_, ?_, fun _ _ => Nat.zero_le _, fun k g1 g2 => by omega, ?_, fun k hk => ⟨rfl, rfl⟩, fun _ _ _ _ => rfl, fun k hk hn => absurd (show Lf n 0 n n k from .inl ⟨Nat.zero_le _, hk⟩) hn, fun h0 => by omega, ?_⟩
 ·refine (P.flatMap_right Tg.sy).symm.nodup ?_
  rw [things_sy]
  exact used_nodup cnt 256
 ·refine run_perm 256 256 _ _ _ P (ord_ids hO h.dif) fun x hx => ?_
  obtain ⟨k, hk, rfl⟩ := mem_lef.1 hx
  have hk : k < n := by omega
  unfold tgo
  rw [if_pos hk]
  exact hO.sy k hk
 ·have e := (P.map Tg.wt).sum_nat
  unfold wts
  rw [e]
  show (wts (things cnt 256)).sum ≤ _
  rw [wts_things]
  have h1 := sum_le cnt 1048576 (used cnt 256) (fun c _ => hB c)
  have h2 : (used cnt 256).length * 1048576 ≤ 256 * 1048576 := Nat.mul_le_mul_right _ hu
  omega
 ·intro k
  by_cases c : k < n
  ·obtain ⟨x, _, e⟩ := h.at k c
   rw [e]; rfl
  ·rw [h.out k (by omega)]; rfl
structure Tree (n : Nat) (D : Nat → Nat) (f : Nat → T4) (S : Nat → List Nat) (hh : Nat → Nat → Nat) : Prop where
 par : ∀ k, k < 2 * n - 2 → k < (f k).it ∧ (f k).it ≤ 2 * n - 2 ∧ ∀ c ∈ S k, c ∈ S (f k).it ∧ hh (f k).it c = hh k c + 1
 root : ∀ c ∈ S (2 * n - 2), D c = hh (2 * n - 2) c
 lf : ∀ k, k < n → S k = [(f k).sy] ∧ hh k (f k).sy = 0
 ln0 : ∀ k, (f k).ln = 0
theorem JS.ends {n : Nat} {D : Nat → Nat} {f : Nat → T4} {s m e r : Nat} {S : Nat → List Nat} {hh : Nat → Nat → Nat} {d : Nat → Nat} {Y : Nat} (J : JS n D f s m e r S hh d Y) (hr : r + 1 = n) (h2 : 2 ≤ n) : Tree n D f S hh := by
 have hl := J.O.le
 have her := J.er
 have hnum := J.num
 have hm := J.mke (by omega)
 have hn := J.n256
 have hD : D = d := by
  rw [← J.rn2, show 256 - r = (256 - r - 1) + 1 by omega]
  unfold run
  rw [if_pos (by rw [lef_len]; omega)]
 have left : ∀ k, k < e → (Lf n s m e k ↔ k = 2 * n - 2) := fun k hk => by unfold Lf; omega
 refine ⟨fun k hk => ?_, fun c hc => ?_, J.lf, J.ln0⟩
 ·obtain ⟨p1, p2, p3⟩ := J.par k (by omega) (fun c => by have := (left k (by omega)).1 c; omega)
  exact ⟨p1, by omega, p3⟩
 ·rw [hD]
  exact (J.lef_ (2 * n - 2) ((left _ (by omega)).2 rfl) c hc).symm
structure Ms (n : Nat) (D : Nat → Nat) (f F : Nat → T4) (S : Nat → List Nat) (hh : Nat → Nat → Nat) (i : Nat) : Prop where
 same : ∀ k, (F k).sy = (f k).sy ∧ (F k).it = (f k).it
 ln : ∀ k, i ≤ k → k ≤ 2 * n - 2 → (F k).ln + k ≤ 2 * n - 2 ∧ ∀ c ∈ S k, D c = (F k).ln + hh k c
theorem Ms.start {n : Nat} {D : Nat → Nat} {f : Nat → T4} {S : Nat → List Nat} {hh : Nat → Nat → Nat} (T : Tree n D f S hh) : Ms n D f f S hh (2 * n - 2) :=
 ⟨fun _ => ⟨rfl, rfl⟩, fun k h1 h2 => by
  obtain rfl : k = 2 * n - 2 := by omega
  rw [T.ln0]
  exact ⟨by omega, fun c hc => by rw [T.root c hc]; omega⟩⟩
theorem Ms.step {n : Nat} {D : Nat → Nat} {f F : Nat → T4} {S : Nat → List Nat} {hh : Nat → Nat → Nat} {i : Nat} (T : Tree n D f S hh) (M : Ms n D f F S hh (i + 1)) (hi : i < 2 * n - 2) :
  (F i).it ≤ 2 * n - 2 ∧ i < (F i).it ∧ (F (F i).it).ln ≤ 2 * n ∧ Ms n D f (upd F i { F i with ln := (F (F i).it).ln + 1 }) S hh i := by
 obtain ⟨p1, p2, p3⟩ := T.par i hi
 rw [← (M.same i).2] at p1 p2 p3
 obtain ⟨q1, q2⟩ := M.ln _ p1 p2
 refine ⟨p2, p1, by omega, fun k => ?_, fun k h1 h2 => ?_⟩
 ·by_cases c : k = i
  ·subst c; rw [upd_at]; exact M.same k
  ·rw [upd_ne _ _ _ _ c]; exact M.same k
 ·by_cases c : k = i
  ·subst c
   rw [upd_at]
   refine ⟨by show _ + 1 + k ≤ _; omega, fun x hx => ?_⟩
   obtain ⟨r1, r2⟩ := p3 x hx
   have := q2 x r1
   show D x = _ + 1 + _
   omega
  ·rw [upd_ne _ _ _ _ c]; exact M.ln k (by omega) h2
structure Lns (cnt : Nat → Nat) (n : Nat) (F : Nat → T4) : Prop where
 nu : n = (used cnt 256).length
 sy : ∀ k, k < n → (F k).sy ∈ used cnt 256
 all : ∀ c ∈ used cnt 256, ∃ k, k < n ∧ (F k).sy = c
 ln : ∀ k, k < n → max (F k).ln 1 = hlen cnt 256 (F k).sy ∧ (F k).ln ≤ 600
theorem Srt.all {cnt : Nat → Nat} {n : Nat} {f : Nat → T4} (h : Srt cnt n f) : ∀ c ∈ used cnt 256, ∃ k, k < n ∧ (f k).sy = c := fun c hc => by
 obtain ⟨k, hk, e⟩ := List.mem_map.1 (h.perm.symm.subset hc)
 exact ⟨k, List.mem_range.1 hk, e⟩
theorem Ms.done {cnt : Nat → Nat} (hB : ∀ c, cnt c ≤ 1048576) {n : Nat} {f0 f F : Nat → T4} {S : Nat → List Nat} {hh : Nat → Nat → Nat} (h : Srt cnt n f0) (h2 : 2 ≤ n) (sm : ∀ k, k < n → (f k).sy = (f0 k).sy) (T : Tree n (run 256 256 (things cnt 256) (fun _ => 0)) f S hh) (M : Ms n (run 256 256 (things cnt 256) (fun _ => 0)) f F S hh 0) : Lns cnt n F := by
 have hu := used_len cnt 256
 have hnu := h.nu
 have ex : ∀ k, k < n → (F k).sy = (f0 k).sy := fun k hk => (M.same k).1.trans (sm k hk)
 have hin : ∀ k, k < n → (F k).sy ∈ used cnt 256 := fun k hk => by
  obtain ⟨c, hc, e⟩ := h.at k hk
  rw [ex k hk, e]; exact hc
 refine ⟨hnu, hin, fun c hc => ?_, fun k hk => ?_⟩
 ·obtain ⟨k, hk, e⟩ := h.all c hc
  exact ⟨k, hk, by rw [ex k hk]; exact e⟩
 ·obtain ⟨q1, q2⟩ := M.ln k (Nat.zero_le _) (by omega)
  obtain ⟨l1, l2⟩ := T.lf k hk
  have e := q2 (f k).sy (by rw [l1]; simp)
  rw [l2, ← (M.same k).1] at e
  have eh : hlen cnt 256 (F k).sy = (F k).ln := by
   unfold hlen
   rw [if_neg (by omega), e]
   rfl
  have F1 := (fine cnt 256 (by omega) hB (by omega)).some _ (hin k hk)
  rw [eh] at F1
  exact ⟨by rw [eh]; omega, by omega⟩
theorem lns_one {cnt : Nat → Nat} {n : Nat} {f : Nat → T4} (h : Srt cnt n f) (h2 : n ≤ 1) : Lns cnt n f := by
 have hnu := h.nu
 refine ⟨hnu, fun k hk => ?_, h.all, fun k hk => ?_⟩
 ·obtain ⟨c, hc, e⟩ := h.at k hk
  rw [e]; exact hc
 ·obtain ⟨c, hc, e⟩ := h.at k hk
  rw [e]
  unfold hlen
  rw [if_pos (by omega), if_pos (show (th1 cnt c).sy ∈ _ from hc)]
  exact ⟨rfl, by show 0 ≤ 600; omega⟩
theorem hlen_none (cnt : Nat → Nat) (c : Nat) (h : c ∉ used cnt 256) : hlen cnt 256 c = 0 := by
 unfold hlen
 by_cases g : (used cnt 256).length = 1
 ·rw [if_pos g, if_neg h]
 ·rw [if_neg g]
  refine run_out 256 256 _ _ c fun x hx hc => h ?_
  rw [← things_sy]
  exact List.mem_flatMap.2 ⟨x, hx, hc⟩
def lnP (cnt : Nat → Nat) (F : Nat → T4) (q : Nat) : List Nat := (List.range 256).map fun c => if (List.range q).any (fun k => decide ((F k).sy = c)) = true then hlen cnt 256 c else 0
theorem lnP_zero (cnt : Nat → Nat) (F : Nat → T4) : lnP cnt F 0 = List.replicate 256 0 := by
 unfold lnP
 rw [List.eq_replicate_iff]
 refine ⟨by simp, fun b hb => ?_⟩
 obtain ⟨c, _, rfl⟩ := List.mem_map.1 hb
 simp
theorem lnP_step {cnt : Nat → Nat} {n : Nat} {F : Nat → T4} (L : Lns cnt n F) (q : Nat) (hq : q < n) : (lnP cnt F q).set (F q).sy (max (F q).ln 1) = lnP cnt F (q + 1) := by
 have hs := (mem_used.1 (L.sy q hq)).1
 refine List.ext_getElem? fun c => ?_
 unfold lnP
 rw [List.getElem?_set, List.length_map, List.length_range]
 by_cases c2 : c < 256
 ·rw [List.getElem?_map, List.getElem?_map, List.getElem?_range c2]
  by_cases e : (F q).sy = c
  ·subst e
   rw [if_pos rfl, if_pos hs, (L.ln q hq).1]
   simp only [Option.map_some]
   rw [if_pos]
   exact List.any_eq_true.2 ⟨q, List.mem_range.2 (by omega), by simp⟩
  ·rw [if_neg e]
   simp only [Option.map_some]
   congr 1
   have : ((List.range (q + 1)).any fun k => decide ((F k).sy = c)) = ((List.range q).any fun k => decide ((F k).sy = c)) := by
    rw [List.range_succ, List.any_append]
    simp [e]
   rw [this]
 ·rw [if_neg (by omega), List.getElem?_eq_none (by simp; omega), List.getElem?_eq_none (by simp; omega)]
theorem lnP_done {cnt : Nat → Nat} {n : Nat} {F : Nat → T4} (L : Lns cnt n F) : lnP cnt F n = (List.range 256).map (hlen cnt 256) := by
 unfold lnP
 refine List.map_congr_left fun c hc => ?_
 by_cases g : c ∈ used cnt 256
 ·obtain ⟨k, hk, e⟩ := L.all c g
  rw [if_pos]
  exact List.any_eq_true.2 ⟨k, List.mem_range.2 hk, by simp [e]⟩
 ·rw [hlen_none cnt c g]
  split <;> rfl
end Go.Proofs.YtcaalcjcpddhaaaGreat.Zz.Ji
