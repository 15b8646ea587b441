/-
  What the document's Lengths and Cost are told by (out of huff's templates Jg, Jk, Jo, Kf). The contracts of the document's counted and Cost. The contracts of the document's total and rows. The contracts of the document's worst and block. Plain: parts of a text by what its symbols are, their bits as rows, and how counts go down and up along codes. Plain: the nodes of codes, by length, then number. Plain: the two loops of Codes: what is next, and at which length. Plain: codes in the canonical order lie side by side; there are fewer nodes than symbols.
-/
import Derived.Test.YtcaalcjcpddhaaaGreatR26
import Derived.Test.YtcaalcjcpddhaaaGreatR17
import Derived.Test.YtcaalcjcpddhaaaGreatR27
import Derived.Deep.WholeRow
import Derived.Laws.ResultCell
namespace Go.Proofs.YtcaalcjcpddhaaaGreat.Zz
open Go.RowKit Num Hp
set_option linter.unusedVariables false
set_option linter.unusedSimpArgs false
set_option maxRecDepth 100000
def bad (top n : Int) : Bool := decide (n < 0) || decide (top < n)
theorem gi_mem {l : List Int} {i : Nat} (h : i < l.length) : gi l i ∈ l := by
 unfold gi
 rw [List.getD_eq_getElem?_getD, List.getElem?_eq_getElem h]
 exact List.getElem_mem h
theorem any_true {l : List Int} {top : Int} {i : Nat} (h : i < l.length) (hb : bad top (gi l i) = true) : l.any (bad top) = true := List.any_eq_true.2 ⟨_, gi_mem h, hb⟩
theorem any_false {l : List Int} {top : Int} (h : ∀ i, i < l.length → bad top (gi l i) = false) : l.any (bad top) = false := by
 refine Bool.eq_false_iff.2 fun e => ?_
 obtain ⟨x, hx, hb⟩ := List.any_eq_true.1 e
 obtain ⟨i, hi, rfl⟩ := List.mem_iff_getElem.1 hx
 have := h i hi
 unfold gi at this
 rw [List.getD_eq_getElem?_getD, List.getElem?_eq_getElem hi] at this
 rw [show (some l[i]).getD 0 = l[i] from rfl, hb] at this
 cases this
def win (l : List Int) (top : Int) : Bool := decide (l.length = 256) && !l.any (bad top)
def cntOf (l : List Int) (c : Nat) : Nat := (gi l c).toNat
def ivh (l : List Nat) : List Value := l.map fun n : Nat => Value.int .i64 (n : Int)
theorem ivh_get (l : List Nat) (i : Nat) (h : i < l.length) : (ivh l)[i]? = some (.int .i64 (l.getD i 0 : Nat)) := by
 unfold ivh
 rw [List.getElem?_map, List.getElem?_eq_getElem h, List.getD_eq_getElem?_getD, List.getElem?_eq_getElem h]
 rfl
theorem ivh_set (l : List Nat) (i v : Nat) : (ivh l).set i (.int .i64 (v : Nat)) = ivh (l.set i v) := by simp [ivh, List.map_set]
theorem info_i64 : (Tryz.prog.info? 3).map (fun i => (i.zero, i.size, i.bytes)) = some (some (.int .i64 0), 1, 8) := by kernel_rfl
theorem cel_made1 {w : World} {base g n : Nat} (h : w.ownsRow base 3 1 (.slice (some ⟨g, 0, none⟩) n n) n (madeCells #[.int .i64 0] n).toList) : Cel w g (ivh (List.replicate n 0)) 3 := by
 obtain ⟨_, h | ⟨g', cap, cur, e, _, hh, _, _, hs, ht⟩⟩ := h
 ·simp at h
 ·simp only [Value.slice.injEq, Option.some.injEq, Addr.mk.injEq] at e
  obtain ⟨⟨rfl, _, _⟩, _, rfl⟩ := e
  unfold Cel
  rw [hh]
  have e2 : (madeCells #[.int .i64 0] n).toList = ivh (List.replicate n 0) := by
   rw [toList_madeCells_one (.int .i64 0) n, ivh, List.map_replicate]
   rfl
  rw [e2] at ht
  have e3 : cur.toList.take (n * 1) = cur.toList := List.take_of_length_le (by simp; omega)
  rw [e3] at ht
  rw [← ht]
def hls (l : List Int) : List Nat := (List.range 256).map (hlen (cntOf l) 256)
theorem win_len {l : List Int} {top : Int} (h : win l top = true) : l.length = 256 ∧ ∀ i, i < l.length → 0 ≤ gi l i ∧ gi l i ≤ top := by
 unfold win at h
 simp only [Bool.and_eq_true, decide_eq_true_eq, Bool.not_eq_true'] at h
 refine ⟨h.1, fun i hi => ?_⟩
 have := Bool.eq_false_iff.1 h.2
 have hb : ¬ bad top (gi l i) = true := fun e => this (any_true hi e)
 unfold bad at hb
 simp only [Bool.or_eq_true, decide_eq_true_eq] at hb
 omega
theorem cntI_le {l : List Int} (h : ∀ i, i < l.length → 0 ≤ gi l i ∧ gi l i ≤ 1048576) (c : Nat) : cntOf l c ≤ 1048576 := by
 unfold cntOf
 by_cases g : c < l.length
 ·have := h c g; omega
 ·have : gi l c = 0 := by unfold gi; rw [List.getD_eq_getElem?_getD, List.getElem?_eq_none (by omega)]; rfl
  omega
def LO (w : World) (ys : List Nat) (e : Ending) (w' : World) : Prop := ∃ g, e = .returned (.tuple #[.slice (some ⟨g, 0, none⟩) 256 256, .int .i64 0]) ∧ Cel w' g (ivh ys) 3 ∧ w.heap.size ≤ g ∧ Below w.heap.size w w'
theorem LO.mk {w : World} {ys : List Nat} {e : Ending} {w' : World} (g : Nat) (h1 : e = .returned (.tuple #[.slice (some ⟨g, 0, none⟩) 256 256, .int .i64 0])) (h2 : Cel w' g (ivh ys) 3) (h3 : w.heap.size ≤ g) (h4 : Below w.heap.size w w') : LO w ys e w' := ⟨g, h1, h2, h3, h4⟩
def costv (c l : List Int) : Nat := if win c 1048576 && win l 40 then Hv.tot (fun i => cntOf c i * cntOf l i) 256 else 0
end Go.Proofs.YtcaalcjcpddhaaaGreat.Zz

namespace Go.Proofs.YtcaalcjcpddhaaaGreat.Zz
open Go.RowKit Num Hp
set_option linter.unusedVariables false
set_option linter.unusedSimpArgs false
set_option maxRecDepth 100000

theorem bad_neg {top x : Int} (h : x < 0) : bad top x = true := by unfold bad; simp [h]
theorem bad_no {top x : Int} (h : ¬ x < 0) (h2 : ¬ top < x) : bad top x = false := by unfold bad; simp [h, h2]
theorem win_bad {l : List Int} {top : Int} {i : Nat} (h : i < l.length) (hb : bad top (gi l i) = true) : win l top = false := by
 unfold win; rw [any_true h hb]; simp
theorem win_fine {l : List Int} {top : Int} (h : ∀ i, i < l.length → bad top (gi l i) = false) : win l top = decide (l.length = 256) := by
 unfold win; rw [any_false h]; simp
theorem more_fine {l : List Int} {top : Int} {k : Nat} (H : ∀ j, j < k → bad top (gi l j) = false) (h : bad top (gi l k) = false) : ∀ j, j < k + 1 → bad top (gi l j) = false := fun j hj => by
 by_cases e : j = k
 ·subst e; exact h
 ·exact H j (by omega)
end Go.Proofs.YtcaalcjcpddhaaaGreat.Zz

namespace Go.Proofs.YtcaalcjcpddhaaaGreat.Zz
open Go.RowKit Num Hp
set_option linter.unusedVariables false
set_option linter.unusedSimpArgs false
set_option maxRecDepth 100000

namespace Pn
def okT (l : List Int) : Bool := win l 8192 && decide (Hv.tot (cntOf l) 256 ≤ 8192)
def os (v : Nat → Nat) (b q : Nat) : Nat := Hv.tot (fun c => if c / 2 ^ b % 2 = 1 then v c else 0) q
theorem os_le (v : Nat → Nat) (b : Nat) : ∀ q, os v b q ≤ Hv.tot v q
 | 0 => Nat.le_refl _
 | q + 1 => by
  have := os_le v b q
  unfold os at this ⊢
  rw [Hv.tot, Hv.tot]
  split <;> omega
theorem tot_mono (v : Nat → Nat) {a b : Nat} (h : a ≤ b) : Hv.tot v a ≤ Hv.tot v b := by
 induction b with
 | zero => rw [show a = 0 by omega]; exact Nat.le_refl _
 | succ b ih =>
  by_cases e : a = b + 1
  ·rw [e]; exact Nat.le_refl _
  ·have := ih (by omega)
   rw [Hv.tot]
   omega
def rws (k : Int) (v : Nat → Nat) (n q : Nat) : Nat := Hv.tot (fun i => row k n (os v (7 - i) 256)) q
theorem row_le (k : Int) {n m : Nat} (hn : n ≤ 1048576) (hm : m ≤ n) : row k n m ≤ 85 * n + 145 := by
 unfold row
 split
 ·have := up_le n 64 (by omega)
  have : n / 512 ≤ n := Nat.div_le_self _ _
  omega
 ·split
  ·have := up_le n 15 (by omega)
   have := up_le (up n 15) 8 (by omega)
   omega
  ·split
   ·have := fano_le hn hm
    omega
   ·omega
end Pn
end Go.Proofs.YtcaalcjcpddhaaaGreat.Zz

namespace Go.Proofs.YtcaalcjcpddhaaaGreat.Zz
open Go.RowKit Num Hp
set_option linter.unusedVariables false
set_option linter.unusedSimpArgs false
set_option maxRecDepth 100000

namespace Pn
def wsq (k : Int) (s : Nat) : Nat → Nat
 | 0 => 0
 | q + 1 => max (wsq k s q) (row k s q)
def wst (k : Int) (s : Nat) : Nat := wsq k s (s + 1)
theorem wsq_le (k : Int) {s : Nat} (hs : s ≤ 1048576) : ∀ q, q ≤ s + 1 → wsq k s q ≤ 85 * s + 145
 | 0, _ => Nat.zero_le _
 | q + 1, h => by
  have := wsq_le k hs q (by omega)
  have := row_le k hs (show q ≤ s by omega)
  rw [wsq]
  omega
def blk (i k : Int) (s : Nat) : Nat := if i = 1 then 8 * wst k s else if i = 3 then 8 * wst k s + 256 else 1536 + min 255 s * wst k s
theorem blk_le (i k : Int) {s : Nat} (hs : s ≤ 8192) : blk i k s ≤ 200000000 := by
 have h : wst k s ≤ 700000 := by
  have := wsq_le k (s := s) (by omega) (s + 1) (Nat.le_refl _)
  unfold wst
  omega
 unfold blk
 split
 ·omega
 ·split
  ·omega
  ·have := Nat.mul_le_mul (Nat.min_le_left 255 s) h
   omega
end Pn
end Go.Proofs.YtcaalcjcpddhaaaGreat.Zz

namespace Go.Proofs.YtcaalcjcpddhaaaGreat.Zz.Sh
open Num Bit
set_option linter.unusedVariables false

def cp (P : Nat → Bool) (t : List Nat) : Nat → Nat
 | 0 => 0
 | i + 1 => cp P t i + (P (gt t i)).toNat
def mem (P : Nat → Bool) (t : List Nat) (n : Nat) : List Nat := (List.range n).filter fun j => P (gt t j)
def row (P f : Nat → Bool) (t : List Nat) (n : Nat) : List Bool := (mem P t n).map fun j => f (gt t j)
def ct (b : Bool) (l : List Bool) (i : Nat) : Nat := ((l.take i).filter (· == b)).length
section
variable (v k : Nat → Nat)
def pre (L c : Nat) : Nat := k c / 2 ^ (v c - L)
def bg (L x c : Nat) : Bool := decide (L ≤ v c) && decide (pre v k L c = x)
def st (L x c : Nat) : Bool := decide (L < v c) && decide (pre v k L c = x)
def nb (L c : Nat) : Bool := decide (pre v k (L + 1) c % 2 = 1)
def Apart : Prop := ∀ c d, 0 < v c → 0 < v d → v c ≤ v d → pre v k (v c) d = k c → c = d
theorem pre_half {L c : Nat} (h : L < v c) : pre v k (L + 1) c / 2 = pre v k L c := by
 unfold pre
 rw [Nat.div_div_eq_div_mul, ← Nat.pow_succ, show (v c - (L + 1)).succ = v c - L by omega]
def cc (t : List Nat) (c L i : Nat) : Nat := cp (bg v k L (pre v k L c)) t i
end
end Go.Proofs.YtcaalcjcpddhaaaGreat.Zz.Sh

namespace Go.Proofs.YtcaalcjcpddhaaaGreat.Zz.Sh
open Num Bit
set_option linter.unusedVariables false

section
variable (v k : Nat → Nat)
def isN (L x : Nat) : Bool := (List.range 256).any (st v k L x)
def lvF (L a : Nat) : List Nat := (List.range' a (2 ^ L - a)).filter (isN v k L)
def nds : List (Nat × Nat) := (List.range 40).flatMap fun L => (lvF v k L 0).map fun x => (L, x)
theorem isN_iff (L x : Nat) : isN v k L x = true ↔ ∃ c, c < 256 ∧ L < v c ∧ pre v k L c = x := by
 unfold isN st
 simp
theorem mem_nds (L x : Nat) (hk : ∀ c, k c < 2 ^ v c) : (L, x) ∈ nds v k ↔ L < 40 ∧ isN v k L x = true := by
 unfold nds lvF
 rw [List.mem_flatMap]
 constructor
 ·rintro ⟨M, hM, h⟩
  obtain ⟨y, hy, e⟩ := List.mem_map.1 h
  obtain ⟨rfl, rfl⟩ := Prod.mk.inj e
  exact ⟨List.mem_range.1 hM, (List.mem_filter.1 hy).2⟩
 ·rintro ⟨h1, h2⟩
  refine ⟨L, List.mem_range.2 h1, List.mem_map.2 ⟨x, List.mem_filter.2 ⟨?_, h2⟩, rfl⟩⟩
  obtain ⟨c, _, c2, rfl⟩ := (isN_iff v k L x).1 h2
  rw [List.mem_range'_1]
  refine ⟨Nat.zero_le _, ?_⟩
  unfold pre
  rw [Nat.div_lt_iff_lt_mul (Nat.two_pow_pos _)]
  have e : 2 ^ v c = 2 ^ L * 2 ^ (v c - L) := by rw [← Nat.pow_add, show L + (v c - L) = v c by omega]
  have := hk c
  simp only [Nat.sub_zero, Nat.zero_add]
  omega
theorem nodup_nds : (nds v k).Nodup := by
 unfold nds List.Nodup
 rw [List.pairwise_flatMap]
 refine ⟨fun L _ => ?_, ?_⟩
 ·rw [List.pairwise_map]
  unfold lvF
  exact (List.Pairwise.filter _ List.nodup_range').imp fun h e => h (Prod.mk.inj e).2
 ·refine List.Pairwise.imp (fun {a b} hne => ?_) (show List.Pairwise (fun a b => a ≠ b) (List.range 40) from List.nodup_range)
  intro p h1 q h2 e
  obtain ⟨y, _, rfl⟩ := List.mem_map.1 h1
  obtain ⟨z, _, rfl⟩ := List.mem_map.1 h2
  exact hne (Prod.mk.inj e).1
end
end Go.Proofs.YtcaalcjcpddhaaaGreat.Zz.Sh

namespace Go.Proofs.YtcaalcjcpddhaaaGreat.Zz.Ht
open Hr

def come (l : Nat → Nat) (n q c : Nat) : Bool := decide (l c < n) || (decide (l c = n) && decide (c < q))
theorem come_iff {l : Nat → Nat} {n q c : Nat} : come l n q c = true ↔ l c < n ∨ (l c = n ∧ c < q) := by
 unfold come
 simp only [Bool.or_eq_true, Bool.and_eq_true, decide_eq_true_eq]
theorem need_cong {l : Nat → Nat} {P Q : Nat → Bool} : ∀ k, (∀ c, c < k → P c = Q c) → need l P k = need l Q k
 | 0, _ => rfl
 | k + 1, h => by
  unfold need
  rw [need_cong k (fun c hc => h c (by omega)), h k (by omega)]
theorem need_one {l : Nat → Nat} {P Q : Nat → Bool} {a : Nat} (h : ∀ c, c ≠ a → P c = Q c) (hp : P a = false) (hq : Q a = true) (hl : 0 < l a) : ∀ k, a < k → need l Q k = need l P k + 2 ^ (40 - l a)
 | 0, h0 => absurd h0 (Nat.not_lt_zero _)
 | k + 1, h0 => by
  unfold need
  by_cases e : a = k
  ·subst e
   rw [need_cong a (fun c hc => (h c (by omega)).symm), if_pos ⟨hl, hq⟩, if_neg (by rw [hp]; simp)]
   rfl
  ·rw [need_one h hp hq hl k (by omega), h k (fun e2 => e e2.symm)]
   omega
theorem come_ahead (l : Nat → Nat) (q : Nat) : come l (l q) q = Hr.ahead l q := rfl
theorem come_same (l : Nat → Nat) (n q k : Nat) (h : l q ≠ n) : need l (come l n (q + 1)) k = need l (come l n q) k :=
 need_cong k fun c _ => by
  rw [Bool.eq_iff_iff, come_iff, come_iff]
  constructor
  ·rintro (e | ⟨e1, e2⟩)
   ·exact .inl e
   ·refine .inr ⟨e1, ?_⟩
    by_cases g : c = q
    ·subst g; exact absurd e1 h
    ·omega
  ·rintro (e | ⟨e1, e2⟩)
   ·exact .inl e
   ·exact .inr ⟨e1, by omega⟩
theorem come_one (l : Nat → Nat) (q k : Nat) (hl : 0 < l q) (hk : q < k) : need l (come l (l q) (q + 1)) k = need l (come l (l q) q) k + 2 ^ (40 - l q) := by
 refine need_one (fun c hc => ?_) ?_ ?_ hl k hk
 ·rw [Bool.eq_iff_iff, come_iff, come_iff]
  omega
 ·refine Bool.eq_false_iff.2 fun e => ?_
  have := come_iff.1 e
  omega
 ·exact come_iff.2 (by omega)
theorem come_over (l : Nat → Nat) (n k : Nat) : need l (come l (n + 1) 0) k = need l (come l n k) k :=
 need_cong k fun c hc => by
  rw [Bool.eq_iff_iff, come_iff, come_iff]
  omega
theorem come_start (l : Nat → Nat) (k : Nat) : need l (come l 1 0) k = 0 := by
 induction k with
 | zero => rfl
 | succ k ih =>
  unfold need
  rw [ih, if_neg]
  rintro ⟨h1, h2⟩
  have := come_iff.1 h2
  omega
structure At (l : Nat → Nat) (k n q nx at_ : Nat) : Prop where
 le : at_ ≤ n
 le40 : at_ ≤ 40
 sum : nx * 2 ^ (40 - at_) = need l (come l n q) k
end Go.Proofs.YtcaalcjcpddhaaaGreat.Zz.Ht

namespace Go.Proofs.YtcaalcjcpddhaaaGreat.Zz.Sh
open Num Bit Hr
set_option linter.unusedVariables false

theorem least {p : Nat → Prop} : ∀ n, p n → ∃ m, p m ∧ ∀ j, j < m → ¬ p j := by
 intro n
 induction n using Nat.strongRecOn with
 | ind n ih =>
  intro h
  by_cases g : ∃ j, j < n ∧ p j
  ·obtain ⟨j, h1, h2⟩ := g
   exact ih j h1 h2
  ·exact ⟨n, h, fun j hj hp => g ⟨j, hj, hp⟩⟩
theorem inj_le {α : Type} : ∀ (l : List α) (m : List Nat) (f : α → Nat), l.Nodup → (∀ a, a ∈ l → ∀ b, b ∈ l → f a = f b → a = b) → (∀ a, a ∈ l → f a ∈ m) → l.length ≤ m.length
 | [], _, _, _, _, _ => Nat.zero_le _
 | a :: l, m, f, hn, hi, hm => by
  have ha := hm a (List.mem_cons_self ..)
  have hn' := List.nodup_cons.1 hn
  have ih := inj_le l (m.erase (f a)) f hn'.2 (fun b hb d hd e => hi b (List.mem_cons_of_mem _ hb) d (List.mem_cons_of_mem _ hd) e) (fun b hb => by
   refine (List.mem_erase_of_ne fun e => ?_).2 (hm b (List.mem_cons_of_mem _ hb))
   exact hn'.1 (hi b (List.mem_cons_of_mem _ hb) a (List.mem_cons_self ..) e ▸ hb))
  rw [List.length_erase_of_mem ha] at ih
  have := List.length_pos_of_mem ha
  rw [List.length_cons]
  omega
section
variable (l : Nat → Nat)
end
end Go.Proofs.YtcaalcjcpddhaaaGreat.Zz.Sh
