/-
  The contracts of the document's Access, Rank and Select. A row with counts that is handed in: what is known of it. errors.As at the target of package ints (a struct of a number and a text): an error of that very type is found, and the target holds it; numberOf answers its number. Plain arithmetic of rows of bits, more: what is laid over words (put), words that are copied, and the rows that append and join make. Plain arithmetic of rows of numbers: what may be, what is got, put, listed and made; bits that are laid over words. The contracts of package ints that tell why something may not be, and of what only reads: wide, narrow, mayBe, place, puttable, numberOf, Check, Get. The contracts of the document's answers on rows of numbers that only read: Check, fits, Width, Get. Rows that calls make: words that are copied, a row as it is, a longer one, bits that are laid over words, a new row.
-/
import Derived.Test.YtcaalcjcpddhaaaGreatR04
import Derived.Test.YtcaalcjcpddhaaaGreatR01
import Derived.WalkKit
import Derived.LaidEql
import Derived.Stop.Asserts
import Derived.RowKitTokens
import Derived.WalkSmall
import Derived.Test.YtcaalcjcpddhaaaGreatR02
import Derived.Laws.CopyOwn
import Derived.OwnWalk
import Derived.Deep.RegionHeld3
namespace Go.Proofs.YtcaalcjcpddhaaaGreat
open Go.RowKit Num Bit
set_option linter.unusedVariables false
set_option linter.unusedSimpArgs false
set_option maxRecDepth 100000

end Go.Proofs.YtcaalcjcpddhaaaGreat

namespace Go.Proofs.YtcaalcjcpddhaaaGreat
open Go.RowKit Num Bit
set_option linter.unusedVariables false

structure PlIn (w : World) (N : Int) (ao : Option Addr) (xs : List Nat) (cap : Nat) (so : Option Addr) (su : List Int) (sc : Nat) (tO : Option Addr) (sb : List Int) (tc : Nat) : Prop where
 n : -9223372036854775808 ≤ N ∧ N ≤ 9223372036854775807
 x : Wd w ao xs
 f : Fit xs
 c : xs.length ≤ cap
 l : xs.length ≤ 1048576
 s : Nd w so su
 sf : FitI su
 sc : su.length ≤ sc
 sl : su.length ≤ 1048576
 t : Nd w tO sb
 tf : FitI sb
 tc : sb.length ≤ tc
 tl : sb.length ≤ 1048576
structure PlArg (w : World) (N : Int) (ao : Option Addr) (xs : List Nat) (cap : Nat) (so : Option Addr) (su : List Int) (sc : Nat) (tO : Option Addr) (sb : List Int) (tc : Nat) : Prop where
 n : -9223372036854775808 ≤ N ∧ N ≤ 9223372036854775807
 x : Wd w ao xs
 f : Fit xs
 c : xs.length ≤ cap
 s : Nd w so su
 sf : FitI su
 sc : su.length ≤ sc
 t : Nd w tO sb
 tf : FitI sb
 tc : sb.length ≤ tc
theorem fit_sup (N : Int) (xs : List Nat) : FitI (supL N xs) := by
 intro i
 by_cases c : i < (supL N xs).length
 ·unfold supL at c ⊢
  rw [length_supP] at c
  rw [gi_supP _ _ _ _ c]
  have := supI_bound N xs i
  omega
 ·unfold gi
  rw [List.getD_eq_getElem?_getD, List.getElem?_eq_none (by omega)]
  decide
theorem fit_sub (N : Int) (xs : List Nat) : FitI (subL N xs) := by
 intro i
 by_cases c : i < (subL N xs).length
 ·unfold subL at c ⊢
  rw [length_subP] at c
  rw [gi_subP _ _ _ _ c]
  have := subI_bound N xs i
  omega
 ·unfold gi
  rw [List.getD_eq_getElem?_getD, List.getElem?_eq_none (by omega)]
  decide
theorem PlOut.plin {base : Nat} {w : World} {bo : Option Addr} {bc : Nat} {so : Option Addr} {sc : Nat} {tO : Option Addr} {tc : Nat} (N : Int) (xs : List Nat) (hn : -9223372036854775808 ≤ N ∧ N ≤ 9223372036854775807) (hf : Fit xs) (hl : xs.length ≤ 1048576) (h : PlOut base w bo (pbX N xs) bc so (pbS N xs) sc tO (pbT N xs) tc) :
  PlIn w (pbN N xs) bo (pbX N xs) bc so (pbS N xs) sc tO (pbT N xs) tc := by
 have e1 : -9223372036854775808 ≤ pbN N xs ∧ pbN N xs ≤ 9223372036854775807 := by unfold pbN; split <;> omega
 have e2 : Fit (pbX N xs) := by
  unfold pbX
  split
  ·exact hf
  ·intro i; unfold gt; simp
 have e3 : (pbX N xs).length ≤ 1048576 := by
  unfold pbX
  split
  ·exact hl
  ·simp
 have e4 : FitI (pbS N xs) := by
  unfold pbS
  split
  ·exact fit_sup N xs
  ·intro i; unfold gi; simp
 have e5 : (pbS N xs).length ≤ 1048576 := by
  unfold pbS
  split
  ·rename_i hk
   obtain ⟨h0, h1, _, _⟩ := chk_out N xs hk
   rw [length_supL]; omega
  ·simp
 have e6 : FitI (pbT N xs) := by
  unfold pbT
  split
  ·exact fit_sub N xs
  ·intro i; unfold gi; simp
 have e7 : (pbT N xs).length ≤ 1048576 := by
  unfold pbT
  split
  ·rw [length_subL]; omega
  ·simp
 exact ⟨e1, h.x, e2, h.xc, e3, h.s, e4, h.sc, e5, h.t, e6, h.tc, e7⟩
end Go.Proofs.YtcaalcjcpddhaaaGreat

namespace Go.Proofs.YtcaalcjcpddhaaaGreat
open Go.RowKit Go.Extern.Stop Go.Stop Go.Extern

end Go.Proofs.YtcaalcjcpddhaaaGreat

namespace Go.Proofs.YtcaalcjcpddhaaaGreat
open Num
namespace Bit

def cp (xs : List Nat) (n : Nat) : List Nat := xs.take n ++ List.replicate (n - xs.length) 0
end Bit
end Go.Proofs.YtcaalcjcpddhaaaGreat

namespace Go.Proofs.YtcaalcjcpddhaaaGreat
open Num
namespace Bit
set_option linter.unusedVariables false

def ichk (N W M : Int) (xs : List Nat) : Bool := decide (1 ≤ W ∧ W ≤ 64 ∧ 0 ≤ N ∧ N * W = M) && chk M xs
theorem ichk_out (N W M : Int) (xs : List Nat) (h : ichk N W M xs = true) : 1 ≤ W ∧ W ≤ 64 ∧ 0 ≤ N ∧ N * W = M ∧ chk M xs = true ∧ 0 ≤ M ∧ M ≤ 1048576 ∧ N ≤ M := by
 unfold ichk at h
 rw [Bool.and_eq_true, decide_eq_true_eq] at h
 obtain ⟨⟨a, b, c, d⟩, e⟩ := h
 obtain ⟨f, g, _, _⟩ := chk_out M xs e
 refine ⟨a, b, c, d, e, f, g, ?_⟩
 have := Int.mul_le_mul_of_nonneg_left a c
 omega
def numAt (W : Nat) (xs : List Nat) (i : Nat) : Nat := numOf W (fun k => bitAt xs (i * W + k))
def igE (N W M : Int) (xs : List Nat) (i : Int) : Int := if ichk N W M xs = false then 2 else if i < 0 ∨ N ≤ i then 3 else 0
def igX (N W M : Int) (xs : List Nat) (i : Int) : Nat := if igE N W M xs i = 0 then numAt W.toNat xs i.toNat else 0
def imE (W : Int) (l : List Nat) : Int := if W < 1 ∨ 64 < W ∨ 1048576 < (l.length : Int) * W ∨ ¬ (∀ j, j < l.length → lenI (gt l j) ≤ W) then 2 else 0
def imN (W : Int) (l : List Nat) : Int := if imE W l = 0 then (l.length : Int) else 0
def imW (W : Int) (l : List Nat) : Int := if imE W l = 0 then W else 0
def imM (W : Int) (l : List Nat) : Int := if imE W l = 0 then (l.length : Int) * W else 0
def mkS (l : List Nat) (W k : Nat) : List Nat := rowOf (l.length * W) (fun j => decide (j < k * W) && (gt l (j / W)).testBit (j % W))
def imL (W : Int) (l : List Nat) : List Nat := if imE W l = 0 then mkS l W.toNat l.length else []
theorem igE_zero (N W M : Int) (xs : List Nat) (i : Int) (hE : igE N W M xs i = 0) : ichk N W M xs = true ∧ 0 ≤ i ∧ i < N := by
 unfold igE at hE
 cases h : ichk N W M xs with
 | false => rw [if_pos h] at hE; omega
 | true =>
  rw [if_neg (by simp [h])] at hE
  by_cases c : i < 0 ∨ N ≤ i
  ·rw [if_pos c] at hE; omega
  ·exact ⟨rfl, by omega, by omega⟩
theorem igE_of (N W M : Int) (xs : List Nat) (i : Int) (hk : ichk N W M xs = true) (h0 : 0 ≤ i) (h1 : i < N) : igE N W M xs i = 0 := by
 unfold igE
 rw [if_neg (by simp [hk]), if_neg (by omega)]
theorem get_place (N W M i : Int) (a1 : 1 ≤ W) (a2 : W ≤ 64) (a3 : 0 ≤ N) (a4 : N * W = M) (a7 : M ≤ 1048576) (i0 : 0 ≤ i) (i1 : i < N) : 0 ≤ i * W ∧ i * W + W ≤ M ∧ i * W ≤ M - W ∧ i * W ≤ 1048576 := by
 have h1 := Int.mul_nonneg i0 (show 0 ≤ W by omega)
 have h2 := Int.mul_le_mul_of_nonneg_right (show i + 1 ≤ N by omega) (show 0 ≤ W by omega)
 rw [Int.add_mul, Int.one_mul] at h2
 omega
theorem get_slice (N W M : Int) (xs : List Nat) (i : Int) (hk : ichk N W M xs = true) (i0 : 0 ≤ i) (i1 : i < N) : slcX M xs (i * W) W = igX N W M xs i ∧ slcE M xs (i * W) W = igE N W M xs i := by
 obtain ⟨a1, a2, a3, a4, a5, a6, a7, a8⟩ := ichk_out N W M xs hk
 obtain ⟨q1, q2, q3, q4⟩ := get_place N W M i a1 a2 a3 a4 a7 i0 i1
 have e := igE_of N W M xs i hk i0 i1
 have e2 : slcE M xs (i * W) W = 0 := by
  unfold slcE
  rw [if_neg (by simp [a5]; omega), if_neg (by omega)]
 refine ⟨?_, by rw [e, e2]⟩
 unfold slcX igX numAt
 rw [if_pos e, if_pos e2, Int.toNat_mul i0 (by omega)]
/-! What lay makes of the words. -/
theorem length_mkS (l : List Nat) (W k : Nat) : (mkS l W k).length = (l.length * W + 63) / 64 := length_rowOf _ _
theorem fit_mkS (l : List Nat) (W k : Nat) : Fit (mkS l W k) := fit_rowOf _ _
theorem mul_next (n W k : Nat) (h : k < n) : k * W + W ≤ n * W := by
 have := Nat.mul_le_mul_right W (show k + 1 ≤ n by omega)
 rw [Nat.add_mul, Nat.one_mul] at this
 exact this
end Bit
end Go.Proofs.YtcaalcjcpddhaaaGreat

namespace Go.Proofs.YtcaalcjcpddhaaaGreat
open Go.RowKit Num Bit
set_option maxRecDepth 100000
set_option linter.unusedVariables false

def Box4 (w : World) (b : Nat) (p q r s : Value) : Prop := b < w.heap.size ∧ w.cell? ⟨b, 0, none⟩ = some p ∧ w.cell? ⟨b, 1, none⟩ = some q ∧ w.cell? ⟨b, 2, none⟩ = some r ∧ w.cell? ⟨b, 3, none⟩ = some s
theorem Box4.keep {w w' : World} {b : Nat} {p q r s : Value} (h : Box4 w b p q r s) (hb : Below w.heap.size w w') : Box4 w' b p q r s :=
 ⟨Nat.lt_of_lt_of_le h.1 hb.size, (hb.cell (p := ⟨b, 0, none⟩) h.1).trans h.2.1, (hb.cell (p := ⟨b, 1, none⟩) h.1).trans h.2.2.1, (hb.cell (p := ⟨b, 2, none⟩) h.1).trans h.2.2.2.1, (hb.cell (p := ⟨b, 3, none⟩) h.1).trans h.2.2.2.2⟩
theorem Box4.new {w w' : World} {p q r s : Value} {T : TypeId} (hb : Below (w.alloc (.cells #[p, q, r, s] T)).heap.size (w.alloc (.cells #[p, q, r, s] T)) w') : Box4 w' w.heap.size p q r s ∧ Below w.heap.size w w' := by
 have hz : (w.alloc (.cells #[p, q, r, s] T)).heap.size = w.heap.size + 1 := by simp
 refine ⟨⟨?_, ?_, ?_, ?_, ?_⟩, ?_⟩
 ·have := hb.size; omega
 ·rw [hb.cell (p := ⟨w.heap.size, 0, none⟩) (by simp)]; simp
 ·rw [hb.cell (p := ⟨w.heap.size, 1, none⟩) (by simp)]; simp
 ·rw [hb.cell (p := ⟨w.heap.size, 2, none⟩) (by simp)]; simp
 ·rw [hb.cell (p := ⟨w.heap.size, 3, none⟩) (by simp)]; simp
 ·exact (below_alloc w _).trans (hb.mono (by omega))
end Go.Proofs.YtcaalcjcpddhaaaGreat

namespace Go.Proofs.YtcaalcjcpddhaaaGreat
open Go.RowKit Num Bit
set_option maxRecDepth 100000
set_option linter.unusedVariables false

theorem reffits_c (v W : Int) (h0 : 0 ≤ v) (h1 : v < 18446744073709551616) (w : World) :
  Calls Tryz.prog 64 #[.int .u64 v, .int .i64 W] w fun e w' => e = .returned (.bool (decide (lenI v ≤ W))) ∧ w' = w := by
 go_enter Tryz.func64, Tryz.ntmps64
 go_wp2_with (go_at_call 63; refine (reflen_c _ ?_ ?_ _).mono ?_; exact h0; exact h1; rintro e w' ⟨rfl, rfl⟩)
 go_ret
 exact ⟨rfl, rfl⟩
theorem irefcheck_c (N W M : Int) (ao : Option Addr) (xs : List Nat) (cap : Nat) (w : World) (hx : Wd w ao xs) (hf : Fit xs) :
  Calls Tryz.prog 89 #[.agg #[.int .i64 N, .int .i64 W, .int .i64 M, .slice ao xs.length cap]] w fun e w' => e = .returned (.bool (ichk N W M xs)) ∧ Below w.heap.size w w' := by
 have K : ∀ o, Wd (w.alloc o) ao xs := fun o => hx.keep (below_alloc w o)
 by_cases a1 : 1 ≤ W
 case neg =>
  have d1 : decide (1 ≤ W) = false := by simpa using a1
  have R : Hid (false = ichk N W M xs) := by unfold Hid ichk; rw [show decide (1 ≤ W ∧ W ≤ 64 ∧ 0 ≤ N ∧ N * W = M) = false by simp; omega]; rfl
  go_enter Tryz.func89, Tryz.ntmps89
  go_wp2
  go_ret
  exact ⟨ret_bool R.out, below_alloc w _⟩
 by_cases a2 : W ≤ 64
 case neg =>
  have d2 : decide (W ≤ 64) = false := by simpa using a2
  have R : Hid (false = ichk N W M xs) := by unfold Hid ichk; rw [show decide (1 ≤ W ∧ W ≤ 64 ∧ 0 ≤ N ∧ N * W = M) = false by simp; omega]; rfl
  go_enter Tryz.func89, Tryz.ntmps89
  go_wp2
  go_ret
  exact ⟨ret_bool R.out, below_alloc w _⟩
 by_cases a3 : 0 ≤ N
 case neg =>
  have d3 : decide (0 ≤ N) = false := by simpa using a3
  have R : Hid (false = ichk N W M xs) := by unfold Hid ichk; rw [show decide (1 ≤ W ∧ W ≤ 64 ∧ 0 ≤ N ∧ N * W = M) = false by simp; omega]; rfl
  go_enter Tryz.func89, Tryz.ntmps89
  go_wp2
  go_ret
  exact ⟨ret_bool R.out, below_alloc w _⟩
 by_cases a4 : N ≤ 1048576
 case neg =>
  have d4 : decide (N ≤ 1048576) = false := by simpa using a4
  have R : Hid (false = ichk N W M xs) := by
   unfold Hid
   cases h : ichk N W M xs with
   | false => rfl
   | true => obtain ⟨_, _, _, _, _, _, b7, b8⟩ := ichk_out N W M xs h; omega
  go_enter Tryz.func89, Tryz.ntmps89
  go_wp2
  go_ret
  exact ⟨ret_bool R.out, below_alloc w _⟩
 have b1 : 0 ≤ N * W := Int.mul_nonneg a3 (by omega)
 have b2 : N * W ≤ 1048576 * 64 := Int.mul_le_mul a4 a2 (by omega) (by omega)
 cases hc : chk M xs with
 | false =>
  have R : Hid (false = ichk N W M xs) := by unfold Hid ichk; rw [hc, Bool.and_false]
  go_enter Tryz.func89, Tryz.ntmps89
  go_wp2_with (go_at_call 21; refine (refcheck_c _ _ _ _ _ (K _) hf).mono ?_; rintro e w' ⟨rfl, hb⟩; have KK := Box4.new hb; clear hb; obtain ⟨⟨hz, c0, c1, c2, c3⟩, hw⟩ := KK)
  go_ret
  exact ⟨ret_bool R.out, by assumption⟩
 | true =>
  have R : Hid ((M == N * W) = ichk N W M xs) := by
   unfold Hid ichk
   rw [hc, Bool.and_true, Bool.eq_iff_iff, beq_iff_eq, decide_eq_true_eq]
   omega
  go_enter Tryz.func89, Tryz.ntmps89
  go_wp2_with (go_at_call 21; refine (refcheck_c _ _ _ _ _ (K _) hf).mono ?_; rintro e w' ⟨rfl, hb⟩; have KK := Box4.new hb; clear hb; obtain ⟨⟨hz, c0, c1, c2, c3⟩, hw⟩ := KK)
  go_ret
  exact ⟨ret_bool R.out, by assumption⟩
theorem irefget_c (N W M : Int) (ao : Option Addr) (xs : List Nat) (cap : Nat) (i : Int) (w : World) (hx : Wd w ao xs) (hf : Fit xs) :
  Calls Tryz.prog 111 #[.agg #[.int .i64 N, .int .i64 W, .int .i64 M, .slice ao xs.length cap], .int .i64 i] w fun e w' => e = .returned (.tuple #[.int .u64 (igX N W M xs i), .int .i64 (igE N W M xs i)]) ∧ Below w.heap.size w w' := by
 have K : ∀ o, Wd (w.alloc o) ao xs := fun o => hx.keep (below_alloc w o)
 by_cases hE : igE N W M xs i = 0
 ·obtain ⟨hk, i0, i1⟩ := igE_zero N W M xs i hE
  obtain ⟨a1, a2, a3, a4, a5, a6, a7, a8⟩ := ichk_out N W M xs hk
  obtain ⟨q1, q2, q3, q4⟩ := get_place N W M i a1 a2 a3 a4 a7 i0 i1
  have R : Hid (slcX M xs (i * W) W = igX N W M xs i ∧ slcE M xs (i * W) W = igE N W M xs i) := get_slice N W M xs i hk i0 i1
  clear a4 q3 hE
  go_enter Tryz.func111, Tryz.ntmps111
  go_wp2_with fail
  refine (irefcheck_c _ _ _ _ _ _ _ (K _) hf).mono ?_
  rintro e w1 ⟨rfl, hb⟩
  have KK := Box4.new hb
  clear hb K
  obtain ⟨⟨hz, c0, c1, c2, c3⟩, hw⟩ := KK
  go_wp2_with fail
  refine (refslice_c _ _ _ _ _ _ _ (hx.keep hw) hf (by omega) (by omega) (by omega) (by omega)).mono ?_
  rintro e w2 ⟨rfl, hb⟩
  have hw2 := hw.trans (hb.mono hw.size)
  clear hb
  go_wp2
  go_ret2
  exact ⟨ret_pair (congrArg (Value.int IntKind.u64) (congrArg Int.ofNat R.out.1)) (congrArg (Value.int IntKind.i64) R.out.2), hw2⟩
 ·have R : Hid (0 = ((igX N W M xs i : Nat) : Int)) := by unfold igX Hid; rw [if_neg hE]; rfl
  cases hk : ichk N W M xs with
  | false =>
   have RE : Hid (2 = igE N W M xs i) := by unfold igE Hid; rw [if_pos hk]
   clear hE
   go_enter Tryz.func111, Tryz.ntmps111
   go_wp2_with (go_at_call 89; refine (irefcheck_c _ _ _ _ _ _ _ (K _) hf).mono ?_; rintro e w' ⟨rfl, hb⟩; have KK := Box4.new hb; clear hb; obtain ⟨⟨hz, c0, c1, c2, c3⟩, hw⟩ := KK)
   go_ret2
   exact ⟨ret_pair (congrArg (Value.int IntKind.u64) R.out) (congrArg (Value.int IntKind.i64) RE.out), by assumption⟩
  | true =>
   have hc : i < 0 ∨ N ≤ i := by
    unfold igE at hE
    rw [if_neg (by simp [hk])] at hE
    by_cases h : i < 0 ∨ N ≤ i
    ·exact h
    ·rw [if_neg h] at hE; exact absurd rfl hE
   have RE : Hid (3 = igE N W M xs i) := by unfold igE Hid; rw [if_neg (by simp [hk]), if_pos hc]
   clear hE
   by_cases i0 : i < 0
   ·clear hc
    go_enter Tryz.func111, Tryz.ntmps111
    go_wp2_with (go_at_call 89; refine (irefcheck_c _ _ _ _ _ _ _ (K _) hf).mono ?_; rintro e w' ⟨rfl, hb⟩; have KK := Box4.new hb; clear hb; obtain ⟨⟨hz, c0, c1, c2, c3⟩, hw⟩ := KK)
    go_ret2
    exact ⟨ret_pair (congrArg (Value.int IntKind.u64) R.out) (congrArg (Value.int IntKind.i64) RE.out), by assumption⟩
   ·have i1 : N ≤ i := by omega
    clear hc
    go_enter Tryz.func111, Tryz.ntmps111
    go_wp2_with (go_at_call 89; refine (irefcheck_c _ _ _ _ _ _ _ (K _) hf).mono ?_; rintro e w' ⟨rfl, hb⟩; have KK := Box4.new hb; clear hb; obtain ⟨⟨hz, c0, c1, c2, c3⟩, hw⟩ := KK)
    go_ret2
    exact ⟨ret_pair (congrArg (Value.int IntKind.u64) R.out) (congrArg (Value.int IntKind.i64) RE.out), by assumption⟩
end Go.Proofs.YtcaalcjcpddhaaaGreat

namespace Go.Proofs.YtcaalcjcpddhaaaGreat
open Go.RowKit Num Bit
set_option maxRecDepth 100000

theorem Tryz.info83 : (Tryz.prog.info? 83).map (fun i => (i.zero, i.size, i.bytes)) = some (some (.int .u64 0), 1, 8) := by kernel_rfl
def wv (ys : List Nat) : List Value := ys.map fun y => Value.int .u64 (y : Nat)
def Own (w : World) (g : Nat) (ys : List Nat) : Prop := w.heap[g]? = some (.cells (wv ys).toArray 83 (0, 0))
theorem own_made {w : World} {base g n : Nat} (h : w.ownsRow base 83 1 (.slice (some ⟨g, 0, none⟩) n n) n (madeCells #[.int .u64 0] n).toList) : w.heap[g]? = some (.cells (wv (List.replicate n 0)).toArray 83 (0, 0)) := by
 obtain ⟨_, h | ⟨g', cap, cur, e, _, hh, _, _, hs, ht⟩⟩ := h
 ·simp at h
 ·simp only [Value.slice.injEq, Option.some.injEq, Addr.mk.injEq] at e
  obtain ⟨⟨rfl, _, _⟩, _, rfl⟩ := e
  rw [hh]
  have e2 : (madeCells #[.int .u64 0] n).toList = wv (List.replicate n 0) := by
   rw [toList_madeCells_one (.int .u64 0) n, wv, List.map_replicate]
   rfl
  rw [e2] at ht
  have e3 : cur.toList.take (n * 1) = cur.toList := List.take_of_length_le (by simp; omega)
  rw [e3] at ht
  rw [← ht]
theorem Own.set_other {w : World} {g : Nat} {ys : List Nat} (h : Own w g ys) {a : Addr} (ha : g ≠ a.block) (v : Value) : Own (w.setCell a v) g ys :=
 (Below.heap_setCell w a v g ha).trans h
theorem size_set (w : World) (a : Addr) (v : Value) : (w.setCell a v).heap.size = w.heap.size := by simp [World.setCell]
structure Turned (g : Nat) (w w' : World) : Prop where
 os : w'.os = w.os
 tape : w'.tape = w.tape
 output : w'.output = w.output
 size : w'.heap.size = w.heap.size
 block : ∀ k, k ≠ g → w'.heap[k]? = w.heap[k]?
theorem Turned.refl (g : Nat) (w : World) : Turned g w w := ⟨rfl, rfl, rfl, rfl, fun _ _ => rfl⟩
theorem Turned.set {g : Nat} {a w : World} (h : Turned g a w) (off : Nat) (v : Value) : Turned g a (w.setCell ⟨g, off, none⟩ v) :=
 ⟨h.os, h.tape, h.output, (size_set _ _ _).trans h.size, fun k hk => (Below.heap_setCell _ _ _ _ hk).trans (h.block k hk)⟩
theorem Turned.cell {g : Nat} {w w' : World} (h : Turned g w w') {p : Addr} (hp : p.block ≠ g) : w'.cell? p = w.cell? p := World.cell?_of_block (w := w) (h.block p.block hp)
theorem Turned.frozen {g : Nat} {w w' : World} (h : Turned g w w') {p : Addr} (hp : p.block ≠ g) : w'.frozen? p = w.frozen? p := World.frozen?_of_block (w := w) (h.block p.block hp)
theorem Turned.below {g B : Nat} {w w' : World} (h : Turned g w w') (hB : B ≤ g) : Below B w w' :=
 ⟨h.os, h.tape, h.output, by rw [h.size]; exact Nat.le_refl _, fun k hk => h.block k (by omega)⟩
theorem Own.cell {w : World} {g : Nat} {ys : List Nat} (h : Own w g ys) (j : Nat) (hj : j < ys.length) : w.cell? ⟨g, j, none⟩ = some (.int .u64 (gt ys j)) := by
 unfold World.cell?
 rw [show w.heap[({ block := g, off := j, spot := none } : Addr).block]? = _ from h]
 show (wv ys).toArray[j]? = _
 rw [List.getElem?_toArray, wv, List.getElem?_map, gt_get ys j hj]
 rfl
theorem Own.frozen {w : World} {g : Nat} {ys : List Nat} (h : Own w g ys) (j : Nat) : w.frozen? ⟨g, j, none⟩ = false := by
 unfold World.frozen?
 rw [show w.heap[({ block := g, off := j, spot := none } : Addr).block]? = _ from h]
 simp
theorem Own.lt {w : World} {g : Nat} {ys : List Nat} (h : Own w g ys) : g < w.heap.size := (Array.getElem?_eq_some_iff.1 h).1
theorem Own.set {w : World} {g : Nat} {ys : List Nat} (h : Own w g ys) (j v : Nat) : Own (w.setCell ⟨g, j, none⟩ (.int .u64 v)) g (ys.set j v) := by
 unfold Own at *
 simp only [World.setCell, Array.getElem?_modify]
 rw [if_pos trivial, h]
 simp [wv, List.map_set]
theorem Own.wd {w : World} {g : Nat} {ys : List Nat} (h : Own w g ys) : Wd w (some ⟨g, 0, none⟩) ys :=
 fun _ => ⟨g, 0, rfl, h.lt, fun i hi => by rw [Nat.zero_add]; exact h.cell i hi⟩
theorem Own.keep {w w' : World} {g : Nat} {ys : List Nat} (h : Own w g ys) (hb : Below w.heap.size w w') : Own w' g ys := (hb.block g h.lt).trans h
theorem box_frozen {w w' : World} {a b : Value} {T : TypeId} (hb : Below (w.alloc (.cells #[a, b] T)).heap.size (w.alloc (.cells #[a, b] T)) w') :
  w'.frozen? ⟨w.heap.size, 0, none⟩ = false ∧ w'.frozen? ⟨w.heap.size, 1, none⟩ = false := by
 refine ⟨?_, ?_⟩
 ·rw [hb.frozen (p := ⟨w.heap.size, 0, none⟩) (by simp)]; simp
 ·rw [hb.frozen (p := ⟨w.heap.size, 1, none⟩) (by simp)]; simp
def Out (w w' : World) (ao : Option Addr) (ys : List Nat) (cap : Nat) : Prop := Wd w' ao ys ∧ Fit ys ∧ ys.length ≤ cap ∧ Below w.heap.size w w'
theorem rep_row (n k : Nat) (hk : k = (n + 63) / 64) : List.replicate k 0 = rowOf n (fun _ => false) := by
 refine eq_rowOf n _ _ ?_ (by simp; exact hk) ?_
 ·intro i
  unfold gt
  rw [List.getD_eq_getElem?_getD, List.getElem?_replicate]
  split <;> simp
 ·intro i _
  unfold bitAt gt
  rw [List.getD_eq_getElem?_getD, List.getElem?_replicate]
  split <;> simp
end Go.Proofs.YtcaalcjcpddhaaaGreat
