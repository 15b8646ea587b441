/-
  The contract of the document's Build. The contracts of the document's Build, Check, Whole, Bits and Size. The contracts of the document's Access, Rank and Select. A row with counts that is handed in: what is known of it. errors.As at the target of package ints (a struct of a number and a text): an error of that very type is found, and the target holds it; numberOf answers its number. Plain arithmetic of rows of bits, more: what is laid over words (put), words that are copied, and the rows that append and join make.
-/
import Derived.Test.YtpeecabfcgijhaaGreatDoorM02
import Derived.Deep.DeepCutAuto
import Derived.Deep.CutBlock
import Derived.Test.YtpeecabfcgijhaaGreatDoorM00
import Derived.WalkKit
import Derived.LaidEql
import Derived.Stop.Asserts
import Derived.RowKitTokens
import Derived.WalkSmall
import Derived.Test.YtpeecabfcgijhaaGreatDoorM01
namespace Go.Proofs.YtpeecabfcgijhaaGreatDoor
open Go.RowKit Num Bit
set_option linter.unusedVariables false
set_option linter.unusedSimpArgs false
set_option maxRecDepth 100000

def iv (l : List Int) : List Value := l.map fun n : Int => Value.int .i64 n
theorem length_iv (l : List Int) : (iv l).length = l.length := by simp [iv]
theorem iv_snoc (l : List Int) (v : Int) : iv l ++ [.int .i64 v] = iv (l ++ [v]) := by simp [iv]
theorem iv_get (l : List Int) (i : Nat) (h : i < l.length) : (iv l)[i]? = some (.int .i64 (gi l i)) := by
 unfold iv
 rw [List.getElem?_map, gi_get l i h]; rfl
theorem supP_succ (N : Int) (xs : List Nat) (q : Nat) : supP N xs (q + 1) = supP N xs q ++ [supI N xs q] := by
 unfold supP; rw [List.range_succ, List.map_append]; rfl
theorem nd_own {w : World} {base n c : Nat} {ao : Option Addr} {l : List Int} (h : w.ownsRow base 3 1 (.slice ao n c) n (iv l)) : Nd w ao l := by
 intro h0
 have hlen : (iv l).length = n * 1 := h.1
 rw [length_iv] at hlen
 have hk := fun k hk => h.lt k hk
 have hc := fun g hg => h.cells (g := g) hg
 obtain ⟨_, ⟨e, e2⟩ | ⟨g, cap, cur, e, _⟩⟩ := h
 ·omega
 ·simp only [Value.slice.injEq] at e
  obtain ⟨rfl, _, rfl⟩ := e
  refine ⟨g, 0, rfl, (hk g rfl).2, fun i hi => ?_⟩
  rw [← hc g rfl i _ (iv_get l i hi)]
  unfold Addr.add
  split
  ·subst_vars; rfl
  ·simp
theorem owns_set {w : World} {base e n : Nat} {v u : Value} {vs : List Value} {a : Addr} (h : w.ownsRow base e 1 v n vs) (ha : a.block < base) : (w.setCell a u).ownsRow base e 1 v n vs := by
 obtain ⟨h1, h2 | ⟨g, cap, cur, e1, e2, hh, r⟩⟩ := h
 ·exact ⟨h1, .inl h2⟩
 ·exact ⟨h1, .inr ⟨g, cap, cur, e1, e2, (Below.heap_setCell w a u g (by omega)).trans hh, r⟩⟩
def Sup (w : World) (bs : Nat) (l : List Int) : Prop := ∀ i, i < l.length → w.cell? ⟨bs, i, none⟩ = some (.int .i64 (gi l i))
theorem Sup.keep {w w' : World} {bs base : Nat} {l : List Int} (h : Sup w bs l) (hb : Below base w w') (hlt : bs < base) : Sup w' bs l := fun i hi => (hb.cell (p := ⟨bs, i, none⟩) hlt).trans (h i hi)
theorem Sup.other {w : World} {bs : Nat} {l : List Int} (h : Sup w bs l) {a : Addr} (ha : bs ≠ a.block) (v : Value) : Sup (w.setCell a v) bs l := fun i hi => (World.cell?_of_block (w := w) (Below.heap_setCell w a v bs ha)).trans (h i hi)
theorem below_set {base : Nat} {w w' : World} (h : Below base w w') (b i : Nat) (v : Value) (hb : base ≤ b) : Below base w (w'.setCell ⟨b, i, none⟩ v) := h.setCell hb _
theorem Hid.mk' {p : Prop} (h : p) : Hid p := h
structure BI (w wr : World) (m n cap : Nat) (ao : Option Addr) (g : Nat) (sv tv : Value) : Prop where
 b1 : Cel wr w.heap.size [.int .i64 m, .slice ao n cap] 24
 b2 : Cel wr (w.heap.size + 1) [.int .i64 0, .slice none 0 0, .slice none 0 0, .slice none 0 0] 29
 bx : Cel wr g [.int .i64 m, .slice ao n cap, sv, tv] 29
 hg : w.heap.size + 1 < g
 hw : Below w.heap.size w wr
theorem BI.keep {w wr w' : World} {m n cap : Nat} {ao : Option Addr} {g : Nat} {sv tv : Value} (h : BI w wr m n cap ao g sv tv) {base : Nat} (hb : Below base wr w') (hg : g < base) : BI w w' m n cap ao g sv tv :=
 have := h.hg
 ⟨h.b1.keep hb (by omega), h.b2.keep hb (by omega), h.bx.keep hb hg, h.hg, h.hw.trans (hb.mono (by omega))⟩
theorem BI.sup {w wr : World} {m n cap : Nat} {ao : Option Addr} {g : Nat} {sv tv : Value} (h : BI w wr m n cap ao g sv tv) (v : Value) : BI w (wr.setCell ⟨g, 2, none⟩ v) m n cap ao g v tv :=
 have := h.hg
 ⟨h.b1.other (by show w.heap.size ≠ g; omega) v, h.b2.other (by show w.heap.size + 1 ≠ g; omega) v, h.bx.set 2 v, h.hg, h.hw.setCell (by show w.heap.size ≤ g; omega) _⟩
theorem BI.sub {w wr : World} {m n cap : Nat} {ao : Option Addr} {g : Nat} {sv tv : Value} (h : BI w wr m n cap ao g sv tv) (v : Value) : BI w (wr.setCell ⟨g, 3, none⟩ v) m n cap ao g sv v :=
 have := h.hg
 ⟨h.b1.other (by show w.heap.size ≠ g; omega) v, h.b2.other (by show w.heap.size + 1 ≠ g; omega) v, h.bx.set 3 v, h.hg, h.hw.setCell (by show w.heap.size ≤ g; omega) _⟩
end Go.Proofs.YtpeecabfcgijhaaGreatDoor

namespace Go.Proofs.YtpeecabfcgijhaaGreatDoor
open Go.RowKit Num Bit
set_option linter.unusedVariables false
set_option linter.unusedSimpArgs false
set_option maxRecDepth 100000

structure PlOut (base : Nat) (w : World) (bo : Option Addr) (X : List Nat) (bc : Nat) (so : Option Addr) (S : List Int) (sc : Nat) (tO : Option Addr) (T : List Int) (tc : Nat) : Prop where
 x : Wd w bo X
 xc : X.length ≤ bc
 s : Nd w so S
 sc : S.length ≤ sc
 t : Nd w tO T
 tc : T.length ≤ tc
 sn : Fr base so
 tn : Fr base tO
theorem PlOut.keep {base : Nat} {w w' : World} {bo : Option Addr} {X : List Nat} {bc : Nat} {so : Option Addr} {S : List Int} {sc : Nat} {tO : Option Addr} {T : List Int} {tc : Nat} (h : PlOut base w bo X bc so S sc tO T tc) (hb : Below w.heap.size w w') : PlOut base w' bo X bc so S sc tO T tc :=
 ⟨h.x.keep hb, h.xc, h.s.keep hb, h.sc, h.t.keep hb, h.tc, h.sn, h.tn⟩
end Go.Proofs.YtpeecabfcgijhaaGreatDoor

namespace Go.Proofs.YtpeecabfcgijhaaGreatDoor
open Go.RowKit Num Bit
set_option linter.unusedVariables false
set_option linter.unusedSimpArgs false
set_option maxRecDepth 100000

end Go.Proofs.YtpeecabfcgijhaaGreatDoor

namespace Go.Proofs.YtpeecabfcgijhaaGreatDoor
open Go.RowKit Num Bit
set_option linter.unusedVariables false

structure PlIn (w : World) (N : Int) (ao : Option Addr) (xs : List Nat) (cap : Nat) (so : Option Addr) (su : List Int) (sc : Nat) (tO : Option Addr) (sb : List Int) (tc : Nat) : Prop where
 n : -9223372036854775808 ≤ N ∧ N ≤ 9223372036854775807
 x : Wd w ao xs
 f : Fit xs
 c : xs.length ≤ cap
 l : xs.length ≤ 1048576
 s : Nd w so su
 sf : FitI su
 sc : su.length ≤ sc
 sl : su.length ≤ 1048576
 t : Nd w tO sb
 tf : FitI sb
 tc : sb.length ≤ tc
 tl : sb.length ≤ 1048576
theorem PlIn.keep {w w' : World} {N : Int} {ao : Option Addr} {xs : List Nat} {cap : Nat} {so : Option Addr} {su : List Int} {sc : Nat} {tO : Option Addr} {sb : List Int} {tc : Nat} (h : PlIn w N ao xs cap so su sc tO sb tc) (hb : Below w.heap.size w w') : PlIn w' N ao xs cap so su sc tO sb tc :=
 ⟨h.n, h.x.keep hb, h.f, h.c, h.l, h.s.keep hb, h.sf, h.sc, h.sl, h.t.keep hb, h.tf, h.tc, h.tl⟩
structure PlArg (w : World) (N : Int) (ao : Option Addr) (xs : List Nat) (cap : Nat) (so : Option Addr) (su : List Int) (sc : Nat) (tO : Option Addr) (sb : List Int) (tc : Nat) : Prop where
 n : -9223372036854775808 ≤ N ∧ N ≤ 9223372036854775807
 x : Wd w ao xs
 f : Fit xs
 c : xs.length ≤ cap
 s : Nd w so su
 sf : FitI su
 sc : su.length ≤ sc
 t : Nd w tO sb
 tf : FitI sb
 tc : sb.length ≤ tc
theorem PlArg.plin {w : World} {N : Int} {ao : Option Addr} {xs : List Nat} {cap : Nat} {so : Option Addr} {su : List Int} {sc : Nat} {tO : Option Addr} {sb : List Int} {tc : Nat} (h : PlArg w N ao xs cap so su sc tO sb tc) (h1 : xs.length ≤ 1048576) (h2 : su.length ≤ 1048576) (h3 : sb.length ≤ 1048576) : PlIn w N ao xs cap so su sc tO sb tc :=
 ⟨h.n, h.x, h.f, h.c, h1, h.s, h.sf, h.sc, h2, h.t, h.tf, h.tc, h3⟩
theorem fit_sup (N : Int) (xs : List Nat) : FitI (supL N xs) := by
 intro i
 by_cases c : i < (supL N xs).length
 ·unfold supL at c ⊢
  rw [length_supP] at c
  rw [gi_supP _ _ _ _ c]
  have := supI_bound N xs i
  omega
 ·unfold gi
  rw [List.getD_eq_getElem?_getD, List.getElem?_eq_none (by omega)]
  decide
theorem fit_sub (N : Int) (xs : List Nat) : FitI (subL N xs) := by
 intro i
 by_cases c : i < (subL N xs).length
 ·unfold subL at c ⊢
  rw [length_subP] at c
  rw [gi_subP _ _ _ _ c]
  have := subI_bound N xs i
  omega
 ·unfold gi
  rw [List.getD_eq_getElem?_getD, List.getElem?_eq_none (by omega)]
  decide
theorem PlOut.plin {base : Nat} {w : World} {bo : Option Addr} {bc : Nat} {so : Option Addr} {sc : Nat} {tO : Option Addr} {tc : Nat} (N : Int) (xs : List Nat) (hn : -9223372036854775808 ≤ N ∧ N ≤ 9223372036854775807) (hf : Fit xs) (hl : xs.length ≤ 1048576) (h : PlOut base w bo (pbX N xs) bc so (pbS N xs) sc tO (pbT N xs) tc) :
  PlIn w (pbN N xs) bo (pbX N xs) bc so (pbS N xs) sc tO (pbT N xs) tc := by
 have e1 : -9223372036854775808 ≤ pbN N xs ∧ pbN N xs ≤ 9223372036854775807 := by unfold pbN; split <;> omega
 have e2 : Fit (pbX N xs) := by
  unfold pbX
  split
  ·exact hf
  ·intro i; unfold gt; simp
 have e3 : (pbX N xs).length ≤ 1048576 := by
  unfold pbX
  split
  ·exact hl
  ·simp
 have e4 : FitI (pbS N xs) := by
  unfold pbS
  split
  ·exact fit_sup N xs
  ·intro i; unfold gi; simp
 have e5 : (pbS N xs).length ≤ 1048576 := by
  unfold pbS
  split
  ·rename_i hk
   obtain ⟨h0, h1, _, _⟩ := chk_out N xs hk
   rw [length_supL]; omega
  ·simp
 have e6 : FitI (pbT N xs) := by
  unfold pbT
  split
  ·exact fit_sub N xs
  ·intro i; unfold gi; simp
 have e7 : (pbT N xs).length ≤ 1048576 := by
  unfold pbT
  split
  ·rw [length_subL]; omega
  ·simp
 exact ⟨e1, h.x, e2, h.xc, e3, h.s, e4, h.sc, e5, h.t, e6, h.tc, e7⟩
end Go.Proofs.YtpeecabfcgijhaaGreatDoor

namespace Go.Proofs.YtpeecabfcgijhaaGreatDoor
open Go.RowKit Go.Extern.Stop Go.Stop Go.Extern

def ET (w : World) : Prop := w.cell? ⟨0, 0, none⟩ = some (.iface 223 (.agg #[.pointer (some ⟨1, 187, none⟩)]))
theorem ET.lt {w : World} (h : ET w) : 0 < w.heap.size := by
 rcases Nat.eq_zero_or_pos w.heap.size with h0 | h1
 ·simp [ET, World.cell?, h0] at h
 ·exact h1
theorem ET.keep {w w' : World} (h : ET w) (hb : Below w.heap.size w w') : ET w' := (hb.cell (p := ⟨0, 0, none⟩) h.lt).trans h
end Go.Proofs.YtpeecabfcgijhaaGreatDoor

namespace Go.Proofs.YtpeecabfcgijhaaGreatDoor
open Num
namespace Bit

def cp (xs : List Nat) (n : Nat) : List Nat := xs.take n ++ List.replicate (n - xs.length) 0
def putL (ys : List Nat) (p x : Nat) : List Nat :=
 let a := if x * 2 ^ (p % 64) % 18446744073709551616 = 0 then ys else ys.set (p / 64) (gt ys (p / 64) ||| x * 2 ^ (p % 64) % 18446744073709551616)
 if x / 2 ^ (64 - p % 64) = 0 then a else a.set (p / 64 + 1) (gt a (p / 64 + 1) ||| x / 2 ^ (64 - p % 64))
theorem length_putL (ys : List Nat) (p x : Nat) : (putL ys p x).length = ys.length := by
 unfold putL
 simp only
 split <;> split <;> simp
def Room (ys : List Nat) (p x : Nat) : Prop := (x * 2 ^ (p % 64) % 18446744073709551616 ≠ 0 → p / 64 < ys.length) ∧ (x / 2 ^ (64 - p % 64) ≠ 0 → p / 64 + 1 < ys.length)
theorem gt_putL (ys : List Nat) (p x : Nat) (h : Room ys p x) (j : Nat) :
  gt (putL ys p x) j = gt ys j ||| (if j = p / 64 then x * 2 ^ (p % 64) % 18446744073709551616 else if j = p / 64 + 1 then x / 2 ^ (64 - p % 64) else 0) := by
 obtain ⟨h1, h2⟩ := h
 unfold putL
 simp only
 by_cases c1 : x * 2 ^ (p % 64) % 18446744073709551616 = 0
 ·rw [if_pos c1]
  by_cases c2 : x / 2 ^ (64 - p % 64) = 0
  ·rw [if_pos c2, c1, c2]; split <;> (try split) <;> simp
  ·rw [if_neg c2, gt_set _ _ _ _ (h2 c2), c1]
   by_cases e : j = p / 64
   ·rw [if_pos e, if_neg (by omega)]; simp
   ·rw [if_neg e]
    by_cases e2 : j = p / 64 + 1
    ·rw [if_pos e2, if_pos e2.symm, e2]
    ·rw [if_neg e2, if_neg (fun q => e2 q.symm)]; simp
 ·rw [if_neg c1]
  have hl := h1 c1
  by_cases c2 : x / 2 ^ (64 - p % 64) = 0
  ·rw [if_pos c2, gt_set _ _ _ _ hl, c2]
   by_cases e : j = p / 64
   ·rw [if_pos e, if_pos e.symm, e]
   ·rw [if_neg e, if_neg (fun q => e q.symm)]; split <;> simp
  ·rw [if_neg c2, gt_set _ _ _ _ (by rw [List.length_set]; exact h2 c2), gt_set _ _ _ _ hl, gt_set _ _ _ _ hl]
   by_cases e : j = p / 64
   ·rw [if_pos e, if_neg (by omega), if_pos e.symm, e]
   ·rw [if_neg e, if_neg (show ¬ p / 64 = j from fun q => e q.symm), if_neg (show ¬ p / 64 = p / 64 + 1 by omega)]
    by_cases e2 : j = p / 64 + 1
    ·rw [if_pos e2, if_pos e2.symm, e2]
    ·rw [if_neg e2, if_neg (fun q => e2 q.symm)]; simp
theorem fit_putL (ys : List Nat) (hf : Fit ys) (p x : Nat) (hx : x < 18446744073709551616) (h : Room ys p x) : Fit (putL ys p x) := by
 intro j
 rw [gt_putL ys p x h j]
 refine or_lt _ _ (hf j) ?_
 split
 ·exact Nat.mod_lt _ (by decide)
 ·split
  ·exact Nat.lt_of_le_of_lt (Nat.div_le_self _ _) hx
  ·decide
theorem bitAt_putL (ys : List Nat) (p x : Nat) (hx : x < 18446744073709551616) (h : Room ys p x) (i : Nat) : bitAt (putL ys p x) i = (bitAt ys i || (decide (p ≤ i) && x.testBit (i - p))) := by
 unfold bitAt
 rw [gt_putL ys p x h, Nat.testBit_or]
 congr 1
 have hm : i % 64 < 64 := Nat.mod_lt _ (by decide)
 by_cases e : i / 64 = p / 64
 ·rw [if_pos e, test_shl _ _ _ hm]
  by_cases c : p ≤ i
  ·rw [show decide (p % 64 ≤ i % 64) = true by simp; omega, show decide (p ≤ i) = true by simpa using c, show i % 64 - p % 64 = i - p by omega]
  ·rw [show decide (p % 64 ≤ i % 64) = false by simp; omega, show decide (p ≤ i) = false by simpa using c]; rfl
 ·rw [if_neg e]
  by_cases e2 : i / 64 = p / 64 + 1
  ·rw [if_pos e2, test_shr, show decide (p ≤ i) = true by simp; omega, show 64 - p % 64 + i % 64 = i - p by omega]; rfl
  ·rw [if_neg e2, Nat.zero_testBit]
   by_cases c : p ≤ i
   ·rw [test_big x _ hx (by omega)]; simp
   ·simp [c]
theorem room_of (ys : List Nat) (p x m : Nat) (hx : x < 2 ^ m) (hm : m ≤ 64) (hl : p + m ≤ 64 * ys.length) : Room ys p x := by
 have hp : 0 < 2 ^ (64 - p % 64) := Nat.pow_pos (by decide)
 constructor
 ·intro h
  by_cases c : m = 0
  ·subst c
   have : x = 0 := by simpa using hx
   subst this; simp at h
  ·omega
 ·intro h
  by_cases c : m ≤ 64 - p % 64
  ·have : x < 2 ^ (64 - p % 64) := Nat.lt_of_lt_of_le hx (Nat.pow_le_pow_right (by decide) c)
   exact absurd (Nat.div_eq_of_lt this) h
  ·omega
end Bit
end Go.Proofs.YtpeecabfcgijhaaGreatDoor
