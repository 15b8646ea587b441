/-
  Plain: the lengths of counts: which are none, none beyond 40, that they fit, that no others cost less, and their order. Plain: codes in the canonical order: how much of 2 to the power of 40 lies ahead of a code; apart; in order. Plain: sums over all symbols, and over those that stand: costs, and what lengths need. What the document's Lengths and Cost are told by (out of huff's templates Jg, Jk, Jo, Kf). The contracts of the document's counted and Cost. The contracts of the document's total and rows. The contracts of the document's worst and block. Plain: parts of a text by what its symbols are, their bits as rows, and how counts go down and up along codes. Plain: the nodes of codes, by length, then number.
-/
import Derived.Test.YtcaalcjcpddhaaaGreatS03
import Derived.Test.YtcaalcjcpddhaaaGreatS02
import Derived.Deep.WholeRow
import Derived.Laws.ResultCell
set_option linter.unusedVariables false
set_option linter.unusedSimpArgs false
set_option maxRecDepth 100000
namespace Go.Proofs.YtcaalcjcpddhaaaGreat.Zz.Hp
open Hm Hn Ho
def used (cnt : Nat → Nat) (k : Nat) : List Nat := (List.range k).filter fun c => decide (0 < cnt c)
theorem mem_used {cnt : Nat → Nat} {k c : Nat} : c ∈ used cnt k ↔ c < k ∧ 0 < cnt c := by
 unfold used
 rw [List.mem_filter, List.mem_range, decide_eq_true_eq]
theorem used_nodup (cnt : Nat → Nat) (k : Nat) : (used cnt k).Nodup := List.nodup_range.filter _
def one (cnt : Nat → Nat) (c : Nat) : Tg := ⟨c, cnt c, [c]⟩
def things (cnt : Nat → Nat) (k : Nat) : List Tg := (used cnt k).map (one cnt)
theorem things_sy (cnt : Nat → Nat) (k : Nat) : (things cnt k).flatMap Tg.sy = used cnt k := by
 unfold things
 rw [List.flatMap_map]
 show (used cnt k).flatMap (fun c => [c]) = _
 induction used cnt k with
 | nil => rfl
 | cons c l ih => rw [List.flatMap_cons, ih]; rfl
theorem inv0 (cnt : Nat → Nat) (k : Nat) : Inv cnt (fun _ => 0) (things cnt k) := by
 have hx : ∀ x ∈ things cnt k, ∃ c, 0 < cnt c ∧ x = one cnt c := fun x hx => by
  obtain ⟨c, hc, rfl⟩ := List.mem_map.1 hx
  exact ⟨c, (mem_used.1 hc).2, rfl⟩
 refine ⟨by rw [things_sy]; exact used_nodup cnt k, ?_, ?_, ?_, ?_⟩
 ·intro x h
  obtain ⟨c, _, rfl⟩ := hx x h
  simp [one]
 ·intro x h c _
  obtain ⟨e, he, rfl⟩ := hx x h
  show fib 2 ≤ cnt e
  exact he
 ·refine List.pairwise_of_forall_mem_list ?_
  intro x h y g
  obtain ⟨e, he, rfl⟩ := hx x h
  obtain ⟨e2, he2, rfl⟩ := hx y g
  exact ⟨fun c _ => he2, fun c _ => he⟩
 ·intro x h
  obtain ⟨c, _, rfl⟩ := hx x h
  simp [one]
def hlen (cnt : Nat → Nat) (k : Nat) (c : Nat) : Nat :=
 if (used cnt k).length = 1 then (if c ∈ used cnt k then 1 else 0) else run k k (things cnt k) (fun _ => 0) c
theorem wts_things (cnt : Nat → Nat) (k : Nat) : wts (things cnt k) = (used cnt k).map cnt := by
 unfold wts things
 rw [List.map_map]
 rfl
theorem used_len (cnt : Nat → Nat) (k : Nat) : (used cnt k).length ≤ k := by
 have := List.length_filter_le (fun c => decide (0 < cnt c)) (List.range k)
 rw [List.length_range] at this
 exact this
theorem sum_le (cnt : Nat → Nat) (B : Nat) (l : List Nat) (h : ∀ c ∈ l, cnt c ≤ B) : (l.map cnt).sum ≤ l.length * B := by
 induction l with
 | nil => simp
 | cons c l ih =>
  have h1 := h c List.mem_cons_self
  have h2 := ih (fun x hx => h x (List.mem_cons_of_mem _ hx))
  simp only [List.map_cons, List.sum_cons, List.length_cons, Nat.add_mul]
  omega
theorem run_out (f : Nat) : ∀ (n : Nat) (l : List Tg) (d : Nat → Nat) (c : Nat), (∀ x ∈ l, c ∉ x.sy) → run f n l d c = d c := by
 induction f with
 | zero => intro n l d c _; rfl
 | succ f ih =>
  intro n l d c h
  unfold run
  by_cases e : l.length ≤ 1
  ·rw [if_pos e]
  ·rw [if_neg e]
   obtain ⟨p, _, _⟩ := parts (l := l) (by omega)
   have hf := h _ (p.subset List.mem_cons_self)
   have hs := h _ (p.subset (List.mem_cons_of_mem _ List.mem_cons_self))
   have hab : c ∉ (fstT l).sy ++ (sndT l).sy := fun hc => (List.mem_append.1 hc).elim hf hs
   rw [ih]
   ·exact bump_out hab
   ·intro x hx
    unfold next at hx
    rcases List.mem_append.1 hx with hx | hx
    ·exact h x (p.subset (List.mem_cons_of_mem _ (List.mem_cons_of_mem _ hx)))
    ·obtain rfl := List.mem_singleton.1 hx
     exact hab
theorem le_sum {f : Nat → Nat} {y : Nat} {m : List Nat} (h : y ∈ m) : f y ≤ (m.map f).sum := by
 induction m with
 | nil => cases h
 | cons x m ih =>
  simp only [List.map_cons, List.sum_cons]
  rcases List.mem_cons.1 h with rfl | h
  ·omega
  ·have := ih h; omega
theorem sum_pos2 {f : Nat → Nat} {l : List Nat} {c e : Nat} (hc : c ∈ l) (he : e ∈ l) (hne : c ≠ e) : f c + f e ≤ (l.map f).sum := by
 induction l with
 | nil => cases hc
 | cons x l ih =>
  simp only [List.map_cons, List.sum_cons]
  rcases List.mem_cons.1 hc with h1 | h1
  ·rcases List.mem_cons.1 he with h2 | h2
   ·exact absurd (h1.trans h2.symm) hne
   ·have := le_sum (f := f) h2
    rw [h1]; omega
  ·rcases List.mem_cons.1 he with h2 | h2
   ·have := le_sum (f := f) h1
    rw [h2]; omega
   ·have := ih h1 h2; omega
structure Fine (cnt : Nat → Nat) (k : Nat) (D : Nat → Nat) : Prop where
 none : ∀ c, c ∉ used cnt k → D c = 0
 some : ∀ c ∈ used cnt k, 1 ≤ D c ∧ D c ≤ 40
 sum : ((used cnt k).map fun c => 2 ^ (40 - D c)).sum = 2 ^ 40
 cost : ((used cnt k).map fun c => cnt c * D c).sum = huff k (srt ((used cnt k).map cnt))
theorem fine (cnt : Nat → Nat) (k : Nat) (hk : k ≤ 256) (hB : ∀ c, cnt c ≤ 1048576) (h2 : 2 ≤ (used cnt k).length) : Fine cnt k (hlen cnt k) := by
 have e0 : hlen cnt k = run k k (things cnt k) (fun _ => 0) := by
  funext c
  unfold hlen
  rw [if_neg (by omega)]
 have hl : (things cnt k).length = (used cnt k).length := by simp [things]
 have hu := used_len cnt k
 have hT : (wts (things cnt k)).sum ≤ 268435456 := by
  rw [wts_things]
  have := sum_le cnt 1048576 (used cnt k) (fun c _ => hB c)
  have : (used cnt k).length * 1048576 ≤ 256 * 1048576 := Nat.mul_le_mul_right _ (by omega)
  omega
 obtain ⟨z, g1, g2, g3, g4⟩ := ends (cnt := cnt) k k (things cnt k) (fun _ => 0) (inv0 cnt k) (by omega) (by omega) hT
 rw [← e0] at g1 g3
 rw [things_sy] at g2
 have kr := g1.kr z List.mem_cons_self
 have hs : ((used cnt k).map fun c => 2 ^ (40 - hlen cnt k c)).sum = 2 ^ 40 := by
  rw [← kr]
  exact (g2.symm.map _).sum_nat
 refine ⟨?_, ?_, hs, ?_⟩
 ·intro c hc
  rw [e0]
  refine run_out k k (things cnt k) (fun _ => 0) c fun x hx hcx => hc ?_
  rw [← things_sy]
  exact List.mem_flatMap.2 ⟨x, hx, hcx⟩
 ·intro c hc
  have hd := deep (g1.hi z List.mem_cons_self c (g2.symm.subset hc)) g4
  refine ⟨?_, hd⟩
  refine Nat.le_of_not_lt fun h0 => ?_
  obtain ⟨e, he, hne⟩ : ∃ e ∈ used cnt k, c ≠ e := by
   have nd := used_nodup cnt k
   match hm : used cnt k, h2 with
   | a :: b :: r, _ =>
    rw [hm] at nd
    by_cases ca : c = a
    ·refine ⟨b, by simp, fun cb => ?_⟩
     have := (List.nodup_cons.1 nd).1
     exact this (by rw [← ca, cb]; simp)
    ·exact ⟨a, by simp, ca⟩
  have := sum_pos2 (f := fun c => 2 ^ (40 - hlen cnt k c)) hc he hne
  rw [hs] at this
  have z0 : hlen cnt k c = 0 := by omega
  rw [z0] at this
  have : 0 < 2 ^ (40 - hlen cnt k e) := Nat.two_pow_pos _
  omega
 ·have c0 : costs cnt (fun _ => 0) (things cnt k) = 0 := by
   unfold costs
   generalize (things cnt k).flatMap Tg.sy = s
   induction s with
   | nil => rfl
   | cons c s ih =>
    simp only [List.map_cons, List.sum_cons, Nat.mul_zero, Nat.zero_add] at ih ⊢
    exact ih
  rw [c0, Nat.zero_add, wts_things] at g3
  rw [← g3]
  unfold costs
  simp only [List.flatMap_cons, List.flatMap_nil, List.append_nil]
  exact (g2.symm.map _).sum_nat
end Go.Proofs.YtcaalcjcpddhaaaGreat.Zz.Hp
namespace Go.Proofs.YtcaalcjcpddhaaaGreat.Zz.Hr
def need (l : Nat → Nat) (P : Nat → Bool) : Nat → Nat
 | 0 => 0
 | k + 1 => need l P k + (if 0 < l k ∧ P k = true then 2 ^ (40 - l k) else 0)
theorem need_mono {l : Nat → Nat} {P Q : Nat → Bool} (h : ∀ c, P c = true → Q c = true) : ∀ k, need l P k ≤ need l Q k
 | 0 => Nat.le_refl _
 | k + 1 => by
  have ih := need_mono (l := l) h k
  have tp := Nat.two_pow_pos (40 - l k)
  unfold need
  by_cases c : 0 < l k ∧ P k = true
  ·rw [if_pos c, if_pos ⟨c.1, h k c.2⟩]; omega
  ·rw [if_neg c]
   split <;> omega
theorem need_more {l : Nat → Nat} {P Q : Nat → Bool} {a : Nat} (h : ∀ c, P c = true → Q c = true) (hp : P a = false) (hq : Q a = true) (hl : 0 < l a) : ∀ k, a < k → need l P k + 2 ^ (40 - l a) ≤ need l Q k
 | 0, h0 => absurd h0 (Nat.not_lt_zero _)
 | k + 1, h0 => by
  unfold need
  by_cases e : a = k
  ·subst e
   have := need_mono (l := l) h a
   rw [if_neg (by rw [hp]; simp), if_pos ⟨hl, hq⟩]
   omega
  ·have ih := need_more (l := l) h hp hq hl k (by omega)
   have tp := Nat.two_pow_pos (40 - l k)
   by_cases c : 0 < l k ∧ P k = true
   ·rw [if_pos c, if_pos ⟨c.1, h k c.2⟩]; omega
   ·rw [if_neg c]
    split <;> omega
theorem need_dvd {l : Nat → Nat} {P : Nat → Bool} {n : Nat} (hn : n ≤ 40) (h : ∀ c, P c = true → l c ≤ n) : ∀ k, ∃ q, need l P k = q * 2 ^ (40 - n)
 | 0 => ⟨0, by simp [need]⟩
 | k + 1 => by
  obtain ⟨q, hq⟩ := need_dvd hn h k
  unfold need
  by_cases c : 0 < l k ∧ P k = true
  ·have := h k c.2
   refine ⟨q + 2 ^ (n - l k), ?_⟩
   rw [if_pos c, hq, Nat.add_mul, ← Nat.pow_add]
   congr 2
   omega
  ·exact ⟨q, by rw [if_neg c, hq]; rfl⟩
def ahead (l : Nat → Nat) (c c' : Nat) : Bool := decide (l c' < l c) || (decide (l c' = l c) && decide (c' < c))
theorem ahead_iff {l : Nat → Nat} {c c' : Nat} : ahead l c c' = true ↔ l c' < l c ∨ (l c' = l c ∧ c' < c) := by
 unfold ahead
 simp only [Bool.or_eq_true, Bool.and_eq_true, decide_eq_true_eq]
def code (l : Nat → Nat) (k c : Nat) : Nat := need l (ahead l c) k / 2 ^ (40 - l c)
theorem code_eq (l : Nat → Nat) (k c : Nat) (h : l c ≤ 40) : need l (ahead l c) k = code l k c * 2 ^ (40 - l c) := by
 obtain ⟨q, hq⟩ := need_dvd (l := l) (P := ahead l c) h (fun e he => by rcases ahead_iff.1 he with g | g <;> omega) k
 unfold code
 rw [hq, Nat.mul_div_cancel _ (Nat.two_pow_pos _)]
theorem step_over (l : Nat → Nat) (k : Nat) {a b : Nat} (ha : 0 < l a) (hk : a < k) (h : ahead l b a = true) : need l (ahead l a) k + 2 ^ (40 - l a) ≤ need l (ahead l b) k := by
 have hab := ahead_iff.1 h
 refine need_more (fun c hc => ?_) ?_ h ha k hk
 ·have := ahead_iff.1 hc
  rw [ahead_iff]
  omega
 ·refine Bool.eq_false_iff.2 fun e => ?_
  have := ahead_iff.1 e
  omega
theorem apart (l : Nat → Nat) (k : Nat) {a b : Nat} (ha : 0 < l a) (hb : 0 < l b) (h40 : l b ≤ 40) (hka : a < k) (hkb : b < k) (hne : a ≠ b) (hab : l a ≤ l b) :
  code l k b / 2 ^ (l b - l a) ≠ code l k a ∧ ((l a < l b ∨ a < b) ↔ code l k a < code l k b / 2 ^ (l b - l a)) := by
 have e1 := code_eq l k a (by omega)
 have e2 := code_eq l k b h40
 have first : code l k b / 2 ^ (l b - l a) = need l (ahead l b) k / 2 ^ (40 - l a) := by
  rw [e2, show 40 - l a = (40 - l b) + (l b - l a) by omega, Nat.pow_add, ← Nat.div_div_eq_div_mul, Nat.mul_div_cancel _ (Nat.two_pow_pos _)]
 have pos : 0 < 2 ^ (40 - l a) := Nat.two_pow_pos _
 by_cases c : l a < l b ∨ a < b
 ·have h : ahead l b a = true := ahead_iff.2 (by omega)
  have := step_over l k ha hka h
  rw [e1] at this
  have lt : code l k a < code l k b / 2 ^ (l b - l a) := by
   rw [first, Nat.lt_iff_add_one_le, Nat.le_div_iff_mul_le pos, Nat.add_mul, Nat.one_mul]
   exact this
  exact ⟨by omega, ⟨fun _ => lt, fun _ => c⟩⟩
 ·have h : ahead l a b = true := ahead_iff.2 (by omega)
  have := step_over l k hb hkb h
  have el : l a = l b := by omega
  rw [e1, e2, el, ← Nat.succ_mul] at this
  have := Nat.le_of_mul_le_mul_right this (Nat.two_pow_pos _)
  rw [el, Nat.sub_self, Nat.pow_zero, Nat.div_one]
  exact ⟨by omega, ⟨fun x => absurd x (by omega), fun x => absurd x (by omega)⟩⟩
theorem code_lt (l : Nat → Nat) (k : Nat) {a : Nat} (ha : 0 < l a) (h40 : l a ≤ 40) (hka : a < k) (hs : need l (fun _ => true) k ≤ 2 ^ 40) : code l k a < 2 ^ l a := by
 have e1 := code_eq l k a h40
 have := need_more (l := l) (P := ahead l a) (Q := fun _ => true) (a := a) (fun _ _ => rfl) (by refine Bool.eq_false_iff.2 fun e => ?_; have := ahead_iff.1 e; omega) rfl ha k hka
 rw [e1, ← Nat.succ_mul] at this
 have h2 : 2 ^ 40 = 2 ^ l a * 2 ^ (40 - l a) := by rw [← Nat.pow_add]; congr 1; omega
 have h3 := Nat.le_trans this hs
 rw [h2] at h3
 exact Nat.le_of_mul_le_mul_right h3 (Nat.two_pow_pos _)
end Go.Proofs.YtcaalcjcpddhaaaGreat.Zz.Hr
namespace Go.Proofs.YtcaalcjcpddhaaaGreat.Zz.Hv
open Hm Hn Ho Hp Hr
def tot (f : Nat → Nat) : Nat → Nat
 | 0 => 0
 | k + 1 => tot f k + f k
theorem used_succ (cnt : Nat → Nat) (k : Nat) : used cnt (k + 1) = used cnt k ++ (if 0 < cnt k then [k] else []) := by
 unfold used
 rw [List.range_succ, List.filter_append]
 congr 1
 by_cases h : 0 < cnt k
 ·rw [if_pos h]
  simp [h]
 ·rw [if_neg h]
  simp [h]
theorem sum_used (cnt f : Nat → Nat) (k : Nat) : ((used cnt (k + 1)).map f).sum = ((used cnt k).map f).sum + (if 0 < cnt k then f k else 0) := by
 rw [used_succ, List.map_append, List.sum_append]
 split <;> simp
theorem need_used (cnt D : Nat → Nat) (k : Nat) (h : ∀ c, c < k → (0 < D c ↔ 0 < cnt c)) : need D (fun _ => true) k = ((used cnt k).map fun c => 2 ^ (40 - D c)).sum := by
 induction k with
 | zero => rfl
 | succ k ih =>
  rw [sum_used, need, ih (fun c hc => h c (by omega))]
  congr 1
  by_cases g : 0 < cnt k
  ·rw [if_pos g, if_pos ⟨(h k (by omega)).2 g, rfl⟩]
  ·rw [if_neg g, if_neg (fun e => g ((h k (by omega)).1 e.1))]
theorem need_fine {cnt D : Nat → Nat} {k : Nat} (F : Fine cnt k D) : need D (fun _ => true) k = 2 ^ 40 := by
 rw [need_used cnt D k, F.sum]
 intro c hc
 constructor
 ·intro h
  refine Nat.pos_of_ne_zero fun e => ?_
  have := F.none c (fun g => by have := (mem_used.1 g).2; omega)
  omega
 ·intro h
  exact (F.some c (mem_used.2 ⟨hc, h⟩)).1
end Go.Proofs.YtcaalcjcpddhaaaGreat.Zz.Hv
namespace Go.Proofs.YtcaalcjcpddhaaaGreat.Zz
open Go.RowKit Num Hp
def bad (top n : Int) : Bool := decide (n < 0) || decide (top < n)
theorem gi_mem {l : List Int} {i : Nat} (h : i < l.length) : gi l i ∈ l := by
 unfold gi
 rw [List.getD_eq_getElem?_getD, List.getElem?_eq_getElem h]
 exact List.getElem_mem h
theorem any_true {l : List Int} {top : Int} {i : Nat} (h : i < l.length) (hb : bad top (gi l i) = true) : l.any (bad top) = true := List.any_eq_true.2 ⟨_, gi_mem h, hb⟩
theorem any_false {l : List Int} {top : Int} (h : ∀ i, i < l.length → bad top (gi l i) = false) : l.any (bad top) = false := by
 refine Bool.eq_false_iff.2 fun e => ?_
 obtain ⟨x, hx, hb⟩ := List.any_eq_true.1 e
 obtain ⟨i, hi, rfl⟩ := List.mem_iff_getElem.1 hx
 have := h i hi
 unfold gi at this
 rw [List.getD_eq_getElem?_getD, List.getElem?_eq_getElem hi] at this
 rw [show (some l[i]).getD 0 = l[i] from rfl, hb] at this
 cases this
def win (l : List Int) (top : Int) : Bool := decide (l.length = 256) && !l.any (bad top)
def cntOf (l : List Int) (c : Nat) : Nat := (gi l c).toNat
def ivh (l : List Nat) : List Value := l.map fun n : Nat => Value.int .i64 (n : Int)
theorem ivh_get (l : List Nat) (i : Nat) (h : i < l.length) : (ivh l)[i]? = some (.int .i64 (l.getD i 0 : Nat)) := by
 unfold ivh
 rw [List.getElem?_map, List.getElem?_eq_getElem h, List.getD_eq_getElem?_getD, List.getElem?_eq_getElem h]
 rfl
theorem ivh_set (l : List Nat) (i v : Nat) : (ivh l).set i (.int .i64 (v : Nat)) = ivh (l.set i v) := by simp [ivh, List.map_set]
theorem info_i64 : (Tryz.prog.info? 3).map (fun i => (i.zero, i.size, i.bytes)) = some (some (.int .i64 0), 1, 8) := by kernel_rfl
theorem cel_made1 {w : World} {base g n : Nat} (h : w.ownsRow base 3 1 (.slice (some ⟨g, 0, none⟩) n n) n (madeCells #[.int .i64 0] n).toList) : Cel w g (ivh (List.replicate n 0)) 3 := by
 obtain ⟨_, h | ⟨g', cap, cur, e, _, hh, _, _, hs, ht⟩⟩ := h
 ·simp at h
 ·simp only [Value.slice.injEq, Option.some.injEq, Addr.mk.injEq] at e
  obtain ⟨⟨rfl, _, _⟩, _, rfl⟩ := e
  unfold Cel
  rw [hh]
  have e2 : (madeCells #[.int .i64 0] n).toList = ivh (List.replicate n 0) := by
   rw [toList_madeCells_one (.int .i64 0) n, ivh, List.map_replicate]
   rfl
  rw [e2] at ht
  have e3 : cur.toList.take (n * 1) = cur.toList := List.take_of_length_le (by simp; omega)
  rw [e3] at ht
  rw [← ht]
def hls (l : List Int) : List Nat := (List.range 256).map (hlen (cntOf l) 256)
theorem win_len {l : List Int} {top : Int} (h : win l top = true) : l.length = 256 ∧ ∀ i, i < l.length → 0 ≤ gi l i ∧ gi l i ≤ top := by
 unfold win at h
 simp only [Bool.and_eq_true, decide_eq_true_eq, Bool.not_eq_true'] at h
 refine ⟨h.1, fun i hi => ?_⟩
 have := Bool.eq_false_iff.1 h.2
 have hb : ¬ bad top (gi l i) = true := fun e => this (any_true hi e)
 unfold bad at hb
 simp only [Bool.or_eq_true, decide_eq_true_eq] at hb
 omega
theorem cntI_le {l : List Int} (h : ∀ i, i < l.length → 0 ≤ gi l i ∧ gi l i ≤ 1048576) (c : Nat) : cntOf l c ≤ 1048576 := by
 unfold cntOf
 by_cases g : c < l.length
 ·have := h c g; omega
 ·have : gi l c = 0 := by unfold gi; rw [List.getD_eq_getElem?_getD, List.getElem?_eq_none (by omega)]; rfl
  omega
def LO (w : World) (ys : List Nat) (e : Ending) (w' : World) : Prop := ∃ g, e = .returned (.tuple #[.slice (some ⟨g, 0, none⟩) 256 256, .int .i64 0]) ∧ Cel w' g (ivh ys) 3 ∧ w.heap.size ≤ g ∧ Below w.heap.size w w'
theorem LO.mk {w : World} {ys : List Nat} {e : Ending} {w' : World} (g : Nat) (h1 : e = .returned (.tuple #[.slice (some ⟨g, 0, none⟩) 256 256, .int .i64 0])) (h2 : Cel w' g (ivh ys) 3) (h3 : w.heap.size ≤ g) (h4 : Below w.heap.size w w') : LO w ys e w' := ⟨g, h1, h2, h3, h4⟩
def costv (c l : List Int) : Nat := if win c 1048576 && win l 40 then Hv.tot (fun i => cntOf c i * cntOf l i) 256 else 0
end Go.Proofs.YtcaalcjcpddhaaaGreat.Zz
namespace Go.Proofs.YtcaalcjcpddhaaaGreat.Zz
open Go.RowKit Num Hp
theorem bad_neg {top x : Int} (h : x < 0) : bad top x = true := by unfold bad; simp [h]
theorem bad_no {top x : Int} (h : ¬ x < 0) (h2 : ¬ top < x) : bad top x = false := by unfold bad; simp [h, h2]
theorem win_bad {l : List Int} {top : Int} {i : Nat} (h : i < l.length) (hb : bad top (gi l i) = true) : win l top = false := by
 unfold win; rw [any_true h hb]; simp
theorem win_fine {l : List Int} {top : Int} (h : ∀ i, i < l.length → bad top (gi l i) = false) : win l top = decide (l.length = 256) := by
 unfold win; rw [any_false h]; simp
theorem more_fine {l : List Int} {top : Int} {k : Nat} (H : ∀ j, j < k → bad top (gi l j) = false) (h : bad top (gi l k) = false) : ∀ j, j < k + 1 → bad top (gi l j) = false := fun j hj => by
 by_cases e : j = k
 ·subst e; exact h
 ·exact H j (by omega)
end Go.Proofs.YtcaalcjcpddhaaaGreat.Zz
namespace Go.Proofs.YtcaalcjcpddhaaaGreat.Zz
open Go.RowKit Num Hp
namespace Pn
def okT (l : List Int) : Bool := win l 8192 && decide (Hv.tot (cntOf l) 256 ≤ 8192)
def os (v : Nat → Nat) (b q : Nat) : Nat := Hv.tot (fun c => if c / 2 ^ b % 2 = 1 then v c else 0) q
theorem os_le (v : Nat → Nat) (b : Nat) : ∀ q, os v b q ≤ Hv.tot v q
 | 0 => Nat.le_refl _
 | q + 1 => by
  have := os_le v b q
  unfold os at this ⊢
  rw [Hv.tot, Hv.tot]
  split <;> omega
theorem tot_mono (v : Nat → Nat) {a b : Nat} (h : a ≤ b) : Hv.tot v a ≤ Hv.tot v b := by
 induction b with
 | zero => rw [show a = 0 by omega]; exact Nat.le_refl _
 | succ b ih =>
  by_cases e : a = b + 1
  ·rw [e]; exact Nat.le_refl _
  ·have := ih (by omega)
   rw [Hv.tot]
   omega
def rws (k : Int) (v : Nat → Nat) (n q : Nat) : Nat := Hv.tot (fun i => row k n (os v (7 - i) 256)) q
theorem row_le (k : Int) {n m : Nat} (hn : n ≤ 1048576) (hm : m ≤ n) : row k n m ≤ 85 * n + 145 := by
 unfold row
 split
 ·have := up_le n 64 (by omega)
  have : n / 512 ≤ n := Nat.div_le_self _ _
  omega
 ·split
  ·have := up_le n 15 (by omega)
   have := up_le (up n 15) 8 (by omega)
   omega
  ·split
   ·have := fano_le hn hm
    omega
   ·omega
end Pn
end Go.Proofs.YtcaalcjcpddhaaaGreat.Zz
namespace Go.Proofs.YtcaalcjcpddhaaaGreat.Zz
open Go.RowKit Num Hp
namespace Pn
def wsq (k : Int) (s : Nat) : Nat → Nat
 | 0 => 0
 | q + 1 => max (wsq k s q) (row k s q)
def wst (k : Int) (s : Nat) : Nat := wsq k s (s + 1)
theorem wsq_le (k : Int) {s : Nat} (hs : s ≤ 1048576) : ∀ q, q ≤ s + 1 → wsq k s q ≤ 85 * s + 145
 | 0, _ => Nat.zero_le _
 | q + 1, h => by
  have := wsq_le k hs q (by omega)
  have := row_le k hs (show q ≤ s by omega)
  rw [wsq]
  omega
def blk (i k : Int) (s : Nat) : Nat := if i = 1 then 8 * wst k s else if i = 3 then 8 * wst k s + 256 else 1536 + min 255 s * wst k s
theorem blk_le (i k : Int) {s : Nat} (hs : s ≤ 8192) : blk i k s ≤ 200000000 := by
 have h : wst k s ≤ 700000 := by
  have := wsq_le k (s := s) (by omega) (s + 1) (Nat.le_refl _)
  unfold wst
  omega
 unfold blk
 split
 ·omega
 ·split
  ·omega
  ·have := Nat.mul_le_mul (Nat.min_le_left 255 s) h
   omega
end Pn
end Go.Proofs.YtcaalcjcpddhaaaGreat.Zz
namespace Go.Proofs.YtcaalcjcpddhaaaGreat.Zz.Sh
open Num Bit
def mem (P : Nat → Bool) (t : List Nat) (n : Nat) : List Nat := (List.range n).filter fun j => P (gt t j)
def row (P f : Nat → Bool) (t : List Nat) (n : Nat) : List Bool := (mem P t n).map fun j => f (gt t j)
section
variable (v k : Nat → Nat)
def pre (L c : Nat) : Nat := k c / 2 ^ (v c - L)
def bg (L x c : Nat) : Bool := decide (L ≤ v c) && decide (pre v k L c = x)
def st (L x c : Nat) : Bool := decide (L < v c) && decide (pre v k L c = x)
def Apart : Prop := ∀ c d, 0 < v c → 0 < v d → v c ≤ v d → pre v k (v c) d = k c → c = d
theorem pre_half {L c : Nat} (h : L < v c) : pre v k (L + 1) c / 2 = pre v k L c := by
 unfold pre
 rw [Nat.div_div_eq_div_mul, ← Nat.pow_succ, show (v c - (L + 1)).succ = v c - L by omega]
end
end Go.Proofs.YtcaalcjcpddhaaaGreat.Zz.Sh
namespace Go.Proofs.YtcaalcjcpddhaaaGreat.Zz.Sh
open Num Bit
section
variable (v k : Nat → Nat)
def isN (L x : Nat) : Bool := (List.range 256).any (st v k L x)
def lvF (L a : Nat) : List Nat := (List.range' a (2 ^ L - a)).filter (isN v k L)
def nds : List (Nat × Nat) := (List.range 40).flatMap fun L => (lvF v k L 0).map fun x => (L, x)
theorem isN_iff (L x : Nat) : isN v k L x = true ↔ ∃ c, c < 256 ∧ L < v c ∧ pre v k L c = x := by
 unfold isN st
 simp
theorem lvF_none (L a : Nat) (h : ∀ c, c < 256 → L < v c → pre v k L c < a) : lvF v k L a = [] := by
 unfold lvF
 rw [List.filter_eq_nil_iff]
 intro x hx g
 obtain ⟨c, h1, h2, h3⟩ := (isN_iff v k L x).1 g
 have := h c h1 h2
 rw [List.mem_range'_1] at hx
 omega
theorem lvF_skip (L a d : Nat) (hd : a + d ≤ 2 ^ L) (h : ∀ x, a ≤ x → x < a + d → isN v k L x = false) : lvF v k L a = lvF v k L (a + d) := by
 unfold lvF
 rw [show 2 ^ L - a = d + (2 ^ L - (a + d)) by omega, ← List.range'_append_1, List.filter_append, List.filter_eq_nil_iff.2 (fun x hx => by
  rw [List.mem_range'_1] at hx
  rw [h x hx.1 hx.2]
  decide)]
 rfl
theorem lvF_some (L a b : Nat) (hab : a ≤ b) (hb : b < 2 ^ L) (h : ∀ c, c < 256 → L < v c → a ≤ pre v k L c → b ≤ pre v k L c) (hn : isN v k L b = true) : lvF v k L a = b :: lvF v k L (b + 1) := by
 have e := lvF_skip v k L a (b - a) (by omega) (fun x h1 h2 => by
  refine Bool.eq_false_iff.2 fun g => ?_
  obtain ⟨c, c1, c2, c3⟩ := (isN_iff v k L x).1 g
  have := h c c1 c2 (by omega)
  omega)
 rw [e, show a + (b - a) = b by omega]
 unfold lvF
 rw [show 2 ^ L - b = (2 ^ L - (b + 1)) + 1 by omega, List.range'_succ, List.filter_cons, hn, if_pos rfl]
theorem mem_nds (L x : Nat) (hk : ∀ c, k c < 2 ^ v c) : (L, x) ∈ nds v k ↔ L < 40 ∧ isN v k L x = true := by
 unfold nds lvF
 rw [List.mem_flatMap]
 constructor
 ·rintro ⟨M, hM, h⟩
  obtain ⟨y, hy, e⟩ := List.mem_map.1 h
  obtain ⟨rfl, rfl⟩ := Prod.mk.inj e
  exact ⟨List.mem_range.1 hM, (List.mem_filter.1 hy).2⟩
 ·rintro ⟨h1, h2⟩
  refine ⟨L, List.mem_range.2 h1, List.mem_map.2 ⟨x, List.mem_filter.2 ⟨?_, h2⟩, rfl⟩⟩
  obtain ⟨c, _, c2, rfl⟩ := (isN_iff v k L x).1 h2
  rw [List.mem_range'_1]
  refine ⟨Nat.zero_le _, ?_⟩
  unfold pre
  rw [Nat.div_lt_iff_lt_mul (Nat.two_pow_pos _)]
  have e : 2 ^ v c = 2 ^ L * 2 ^ (v c - L) := by rw [← Nat.pow_add, show L + (v c - L) = v c by omega]
  have := hk c
  simp only [Nat.sub_zero, Nat.zero_add]
  omega
theorem nodup_nds : (nds v k).Nodup := by
 unfold nds List.Nodup
 rw [List.pairwise_flatMap]
 refine ⟨fun L _ => ?_, ?_⟩
 ·rw [List.pairwise_map]
  unfold lvF
  exact (List.Pairwise.filter _ List.nodup_range').imp fun h e => h (Prod.mk.inj e).2
 ·refine List.Pairwise.imp (fun {a b} hne => ?_) (show List.Pairwise (fun a b => a ≠ b) (List.range 40) from List.nodup_range)
  intro p h1 q h2 e
  obtain ⟨y, _, rfl⟩ := List.mem_map.1 h1
  obtain ⟨z, _, rfl⟩ := List.mem_map.1 h2
  exact hne (Prod.mk.inj e).1
end
end Go.Proofs.YtcaalcjcpddhaaaGreat.Zz.Sh
