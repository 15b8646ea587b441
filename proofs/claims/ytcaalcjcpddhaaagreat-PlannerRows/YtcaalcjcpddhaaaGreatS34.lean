/-
  The contracts of package ints that tell why something may not be, and of what only reads: wide, narrow, mayBe, place, puttable, numberOf, Check, Get. The contracts of the document's answers on rows of numbers that only read: Check, fits, Width, Get. Rows that calls make: words that are copied, a row as it is, a longer one, bits that are laid over words, a new row. Plain arithmetic of rows of bits, more: joined rows. The contract of From. The contracts of the document's New, put and From. The contracts of package ints that write: lay (bits laid over words of the call's own), asItIs (a row in words of its own). The contracts of makeable, Make and Of.
-/
import Derived.Test.YtcaalcjcpddhaaaGreatS33
import Derived.Laws.CopyOwn
import Derived.RegionTactic
import Derived.BigRegion
set_option maxRecDepth 100000
set_option linter.unusedVariables false
set_option linter.unusedSimpArgs false
namespace Go.Proofs.YtcaalcjcpddhaaaGreat
open Go.RowKit Num Bit
def Box4 (w : World) (b : Nat) (p q r s : Value) : Prop := b < w.heap.size ∧ w.cell? ⟨b, 0, none⟩ = some p ∧ w.cell? ⟨b, 1, none⟩ = some q ∧ w.cell? ⟨b, 2, none⟩ = some r ∧ w.cell? ⟨b, 3, none⟩ = some s
theorem Box4.keep {w w' : World} {b : Nat} {p q r s : Value} (h : Box4 w b p q r s) (hb : Below w.heap.size w w') : Box4 w' b p q r s :=
 ⟨Nat.lt_of_lt_of_le h.1 hb.size, (hb.cell (p := ⟨b, 0, none⟩) h.1).trans h.2.1, (hb.cell (p := ⟨b, 1, none⟩) h.1).trans h.2.2.1, (hb.cell (p := ⟨b, 2, none⟩) h.1).trans h.2.2.2.1, (hb.cell (p := ⟨b, 3, none⟩) h.1).trans h.2.2.2.2⟩
theorem Box4.new {w w' : World} {p q r s : Value} {T : TypeId} (hb : Below (w.alloc (.cells #[p, q, r, s] T)).heap.size (w.alloc (.cells #[p, q, r, s] T)) w') : Box4 w' w.heap.size p q r s ∧ Below w.heap.size w w' := by
 have hz : (w.alloc (.cells #[p, q, r, s] T)).heap.size = w.heap.size + 1 := by simp
 refine ⟨⟨?_, ?_, ?_, ?_, ?_⟩, ?_⟩
 ·have := hb.size; omega
 ·rw [hb.cell (p := ⟨w.heap.size, 0, none⟩) (by simp)]; simp
 ·rw [hb.cell (p := ⟨w.heap.size, 1, none⟩) (by simp)]; simp
 ·rw [hb.cell (p := ⟨w.heap.size, 2, none⟩) (by simp)]; simp
 ·rw [hb.cell (p := ⟨w.heap.size, 3, none⟩) (by simp)]; simp
 ·exact (below_alloc w _).trans (hb.mono (by omega))
end Go.Proofs.YtcaalcjcpddhaaaGreat
namespace Go.Proofs.YtcaalcjcpddhaaaGreat
open Go.RowKit Num Bit
theorem reffits_c (v W : Int) (h0 : 0 ≤ v) (h1 : v < 18446744073709551616) (w : World) :
  Calls Tryz.prog 64 #[.int .u64 v, .int .i64 W] w fun e w' => e = .returned (.bool (decide (lenI v ≤ W))) ∧ w' = w := by
 go_enter Tryz.func64, Tryz.ntmps64
 go_wp2_with (go_at_call 63; refine (reflen_c _ ?_ ?_ _).mono ?_; exact h0; exact h1; rintro e w' ⟨rfl, rfl⟩)
 go_ret
 exact ⟨rfl, rfl⟩
theorem irefcheck_c (N W M : Int) (ao : Option Addr) (xs : List Nat) (cap : Nat) (w : World) (hx : Wd w ao xs) (hf : Fit xs) :
  Calls Tryz.prog 89 #[.agg #[.int .i64 N, .int .i64 W, .int .i64 M, .slice ao xs.length cap]] w fun e w' => e = .returned (.bool (ichk N W M xs)) ∧ Below w.heap.size w w' := by
 have K : ∀ o, Wd (w.alloc o) ao xs := fun o => hx.keep (below_alloc w o)
 by_cases a1 : 1 ≤ W
 case neg =>
  have d1 : decide (1 ≤ W) = false := by simpa using a1
  have R : Hid (false = ichk N W M xs) := by unfold Hid ichk; rw [show decide (1 ≤ W ∧ W ≤ 64 ∧ 0 ≤ N ∧ N * W = M) = false by simp; omega]; rfl
  go_enter Tryz.func89, Tryz.ntmps89
  go_wp2
  go_ret
  exact ⟨ret_bool R.out, below_alloc w _⟩
 by_cases a2 : W ≤ 64
 case neg =>
  have d2 : decide (W ≤ 64) = false := by simpa using a2
  have R : Hid (false = ichk N W M xs) := by unfold Hid ichk; rw [show decide (1 ≤ W ∧ W ≤ 64 ∧ 0 ≤ N ∧ N * W = M) = false by simp; omega]; rfl
  go_enter Tryz.func89, Tryz.ntmps89
  go_wp2
  go_ret
  exact ⟨ret_bool R.out, below_alloc w _⟩
 by_cases a3 : 0 ≤ N
 case neg =>
  have d3 : decide (0 ≤ N) = false := by simpa using a3
  have R : Hid (false = ichk N W M xs) := by unfold Hid ichk; rw [show decide (1 ≤ W ∧ W ≤ 64 ∧ 0 ≤ N ∧ N * W = M) = false by simp; omega]; rfl
  go_enter Tryz.func89, Tryz.ntmps89
  go_wp2
  go_ret
  exact ⟨ret_bool R.out, below_alloc w _⟩
 by_cases a4 : N ≤ 1048576
 case neg =>
  have d4 : decide (N ≤ 1048576) = false := by simpa using a4
  have R : Hid (false = ichk N W M xs) := by
   unfold Hid
   cases h : ichk N W M xs with
   | false => rfl
   | true => obtain ⟨_, _, _, _, _, _, b7, b8⟩ := ichk_out N W M xs h; omega
  go_enter Tryz.func89, Tryz.ntmps89
  go_wp2
  go_ret
  exact ⟨ret_bool R.out, below_alloc w _⟩
 have b1 : 0 ≤ N * W := Int.mul_nonneg a3 (by omega)
 have b2 : N * W ≤ 1048576 * 64 := Int.mul_le_mul a4 a2 (by omega) (by omega)
 cases hc : chk M xs with
 | false =>
  have R : Hid (false = ichk N W M xs) := by unfold Hid ichk; rw [hc, Bool.and_false]
  go_enter Tryz.func89, Tryz.ntmps89
  go_wp2_with (go_at_call 21; refine (refcheck_c _ _ _ _ _ (K _) hf).mono ?_; rintro e w' ⟨rfl, hb⟩; have KK := Box4.new hb; clear hb; obtain ⟨⟨hz, c0, c1, c2, c3⟩, hw⟩ := KK)
  go_ret
  exact ⟨ret_bool R.out, by assumption⟩
 | true =>
  have R : Hid ((M == N * W) = ichk N W M xs) := by
   unfold Hid ichk
   rw [hc, Bool.and_true, Bool.eq_iff_iff, beq_iff_eq, decide_eq_true_eq]
   omega
  go_enter Tryz.func89, Tryz.ntmps89
  go_wp2_with (go_at_call 21; refine (refcheck_c _ _ _ _ _ (K _) hf).mono ?_; rintro e w' ⟨rfl, hb⟩; have KK := Box4.new hb; clear hb; obtain ⟨⟨hz, c0, c1, c2, c3⟩, hw⟩ := KK)
  go_ret
  exact ⟨ret_bool R.out, by assumption⟩
theorem irefget_c (N W M : Int) (ao : Option Addr) (xs : List Nat) (cap : Nat) (i : Int) (w : World) (hx : Wd w ao xs) (hf : Fit xs) :
  Calls Tryz.prog 111 #[.agg #[.int .i64 N, .int .i64 W, .int .i64 M, .slice ao xs.length cap], .int .i64 i] w fun e w' => e = .returned (.tuple #[.int .u64 (igX N W M xs i), .int .i64 (igE N W M xs i)]) ∧ Below w.heap.size w w' := by
 have K : ∀ o, Wd (w.alloc o) ao xs := fun o => hx.keep (below_alloc w o)
 by_cases hE : igE N W M xs i = 0
 ·obtain ⟨hk, i0, i1⟩ := igE_zero N W M xs i hE
  obtain ⟨a1, a2, a3, a4, a5, a6, a7, a8⟩ := ichk_out N W M xs hk
  obtain ⟨q1, q2, q3, q4⟩ := get_place N W M i a1 a2 a3 a4 a7 i0 i1
  have R : Hid (slcX M xs (i * W) W = igX N W M xs i ∧ slcE M xs (i * W) W = igE N W M xs i) := get_slice N W M xs i hk i0 i1
  clear a4 q3 hE
  go_enter Tryz.func111, Tryz.ntmps111
  go_wp2_with fail
  refine (irefcheck_c _ _ _ _ _ _ _ (K _) hf).mono ?_
  rintro e w1 ⟨rfl, hb⟩
  have KK := Box4.new hb
  clear hb K
  obtain ⟨⟨hz, c0, c1, c2, c3⟩, hw⟩ := KK
  go_wp2_with fail
  refine (refslice_c _ _ _ _ _ _ _ (hx.keep hw) hf (by omega) (by omega) (by omega) (by omega)).mono ?_
  rintro e w2 ⟨rfl, hb⟩
  have hw2 := hw.trans (hb.mono hw.size)
  clear hb
  go_wp2
  go_ret2
  exact ⟨ret_pair (congrArg (Value.int IntKind.u64) (congrArg Int.ofNat R.out.1)) (congrArg (Value.int IntKind.i64) R.out.2), hw2⟩
 ·have R : Hid (0 = ((igX N W M xs i : Nat) : Int)) := by unfold igX Hid; rw [if_neg hE]; rfl
  cases hk : ichk N W M xs with
  | false =>
   have RE : Hid (2 = igE N W M xs i) := by unfold igE Hid; rw [if_pos hk]
   clear hE
   go_enter Tryz.func111, Tryz.ntmps111
   go_wp2_with (go_at_call 89; refine (irefcheck_c _ _ _ _ _ _ _ (K _) hf).mono ?_; rintro e w' ⟨rfl, hb⟩; have KK := Box4.new hb; clear hb; obtain ⟨⟨hz, c0, c1, c2, c3⟩, hw⟩ := KK)
   go_ret2
   exact ⟨ret_pair (congrArg (Value.int IntKind.u64) R.out) (congrArg (Value.int IntKind.i64) RE.out), by assumption⟩
  | true =>
   have hc : i < 0 ∨ N ≤ i := by
    unfold igE at hE
    rw [if_neg (by simp [hk])] at hE
    by_cases h : i < 0 ∨ N ≤ i
    ·exact h
    ·rw [if_neg h] at hE; exact absurd rfl hE
   have RE : Hid (3 = igE N W M xs i) := by unfold igE Hid; rw [if_neg (by simp [hk]), if_pos hc]
   clear hE
   by_cases i0 : i < 0
   ·clear hc
    go_enter Tryz.func111, Tryz.ntmps111
    go_wp2_with (go_at_call 89; refine (irefcheck_c _ _ _ _ _ _ _ (K _) hf).mono ?_; rintro e w' ⟨rfl, hb⟩; have KK := Box4.new hb; clear hb; obtain ⟨⟨hz, c0, c1, c2, c3⟩, hw⟩ := KK)
    go_ret2
    exact ⟨ret_pair (congrArg (Value.int IntKind.u64) R.out) (congrArg (Value.int IntKind.i64) RE.out), by assumption⟩
   ·have i1 : N ≤ i := by omega
    clear hc
    go_enter Tryz.func111, Tryz.ntmps111
    go_wp2_with (go_at_call 89; refine (irefcheck_c _ _ _ _ _ _ _ (K _) hf).mono ?_; rintro e w' ⟨rfl, hb⟩; have KK := Box4.new hb; clear hb; obtain ⟨⟨hz, c0, c1, c2, c3⟩, hw⟩ := KK)
    go_ret2
    exact ⟨ret_pair (congrArg (Value.int IntKind.u64) R.out) (congrArg (Value.int IntKind.i64) RE.out), by assumption⟩
end Go.Proofs.YtcaalcjcpddhaaaGreat
namespace Go.Proofs.YtcaalcjcpddhaaaGreat
open Go.RowKit Num Bit
theorem Tryz.info83 : (Tryz.prog.info? 83).map (fun i => (i.zero, i.size, i.bytes)) = some (some (.int .u64 0), 1, 8) := by kernel_rfl
def wv (ys : List Nat) : List Value := ys.map fun y => Value.int .u64 (y : Nat)
def Own (w : World) (g : Nat) (ys : List Nat) : Prop := w.heap[g]? = some (.cells (wv ys).toArray 83 (0, 0))
theorem own_made {w : World} {base g n : Nat} (h : w.ownsRow base 83 1 (.slice (some ⟨g, 0, none⟩) n n) n (madeCells #[.int .u64 0] n).toList) : w.heap[g]? = some (.cells (wv (List.replicate n 0)).toArray 83 (0, 0)) := by
 obtain ⟨_, h | ⟨g', cap, cur, e, _, hh, _, _, hs, ht⟩⟩ := h
 ·simp at h
 ·simp only [Value.slice.injEq, Option.some.injEq, Addr.mk.injEq] at e
  obtain ⟨⟨rfl, _, _⟩, _, rfl⟩ := e
  rw [hh]
  have e2 : (madeCells #[.int .u64 0] n).toList = wv (List.replicate n 0) := by
   rw [toList_madeCells_one (.int .u64 0) n, wv, List.map_replicate]
   rfl
  rw [e2] at ht
  have e3 : cur.toList.take (n * 1) = cur.toList := List.take_of_length_le (by simp; omega)
  rw [e3] at ht
  rw [← ht]
theorem Own.set_other {w : World} {g : Nat} {ys : List Nat} (h : Own w g ys) {a : Addr} (ha : g ≠ a.block) (v : Value) : Own (w.setCell a v) g ys :=
 (Below.heap_setCell w a v g ha).trans h
theorem size_set (w : World) (a : Addr) (v : Value) : (w.setCell a v).heap.size = w.heap.size := by simp [World.setCell]
structure Turned (g : Nat) (w w' : World) : Prop where
 os : w'.os = w.os
 tape : w'.tape = w.tape
 output : w'.output = w.output
 size : w'.heap.size = w.heap.size
 block : ∀ k, k ≠ g → w'.heap[k]? = w.heap[k]?
theorem Turned.refl (g : Nat) (w : World) : Turned g w w := ⟨rfl, rfl, rfl, rfl, fun _ _ => rfl⟩
theorem Turned.set {g : Nat} {a w : World} (h : Turned g a w) (off : Nat) (v : Value) : Turned g a (w.setCell ⟨g, off, none⟩ v) :=
 ⟨h.os, h.tape, h.output, (size_set _ _ _).trans h.size, fun k hk => (Below.heap_setCell _ _ _ _ hk).trans (h.block k hk)⟩
theorem Turned.cell {g : Nat} {w w' : World} (h : Turned g w w') {p : Addr} (hp : p.block ≠ g) : w'.cell? p = w.cell? p := World.cell?_of_block (w := w) (h.block p.block hp)
theorem Turned.frozen {g : Nat} {w w' : World} (h : Turned g w w') {p : Addr} (hp : p.block ≠ g) : w'.frozen? p = w.frozen? p := World.frozen?_of_block (w := w) (h.block p.block hp)
theorem Turned.below {g B : Nat} {w w' : World} (h : Turned g w w') (hB : B ≤ g) : Below B w w' :=
 ⟨h.os, h.tape, h.output, by rw [h.size]; exact Nat.le_refl _, fun k hk => h.block k (by omega)⟩
theorem Own.cell {w : World} {g : Nat} {ys : List Nat} (h : Own w g ys) (j : Nat) (hj : j < ys.length) : w.cell? ⟨g, j, none⟩ = some (.int .u64 (gt ys j)) := by
 unfold World.cell?
 rw [show w.heap[({ block := g, off := j, spot := none } : Addr).block]? = _ from h]
 show (wv ys).toArray[j]? = _
 rw [List.getElem?_toArray, wv, List.getElem?_map, gt_get ys j hj]
 rfl
theorem Own.frozen {w : World} {g : Nat} {ys : List Nat} (h : Own w g ys) (j : Nat) : w.frozen? ⟨g, j, none⟩ = false := by
 unfold World.frozen?
 rw [show w.heap[({ block := g, off := j, spot := none } : Addr).block]? = _ from h]
 simp
theorem Own.lt {w : World} {g : Nat} {ys : List Nat} (h : Own w g ys) : g < w.heap.size := (Array.getElem?_eq_some_iff.1 h).1
theorem Own.set {w : World} {g : Nat} {ys : List Nat} (h : Own w g ys) (j v : Nat) : Own (w.setCell ⟨g, j, none⟩ (.int .u64 v)) g (ys.set j v) := by
 unfold Own at *
 simp only [World.setCell, Array.getElem?_modify]
 rw [if_pos trivial, h]
 simp [wv, List.map_set]
theorem Own.wd {w : World} {g : Nat} {ys : List Nat} (h : Own w g ys) : Wd w (some ⟨g, 0, none⟩) ys :=
 fun _ => ⟨g, 0, rfl, h.lt, fun i hi => by rw [Nat.zero_add]; exact h.cell i hi⟩
theorem Own.keep {w w' : World} {g : Nat} {ys : List Nat} (h : Own w g ys) (hb : Below w.heap.size w w') : Own w' g ys := (hb.block g h.lt).trans h
theorem box_frozen {w w' : World} {a b : Value} {T : TypeId} (hb : Below (w.alloc (.cells #[a, b] T)).heap.size (w.alloc (.cells #[a, b] T)) w') :
  w'.frozen? ⟨w.heap.size, 0, none⟩ = false ∧ w'.frozen? ⟨w.heap.size, 1, none⟩ = false := by
 refine ⟨?_, ?_⟩
 ·rw [hb.frozen (p := ⟨w.heap.size, 0, none⟩) (by simp)]; simp
 ·rw [hb.frozen (p := ⟨w.heap.size, 1, none⟩) (by simp)]; simp
theorem rep_row (n k : Nat) (hk : k = (n + 63) / 64) : List.replicate k 0 = rowOf n (fun _ => false) := by
 refine eq_rowOf n _ _ ?_ (by simp; exact hk) ?_
 ·intro i
  unfold gt
  rw [List.getD_eq_getElem?_getD, List.getElem?_replicate]
  split <;> simp
 ·intro i _
  unfold bitAt gt
  rw [List.getD_eq_getElem?_getD, List.getElem?_replicate]
  split <;> simp
end Go.Proofs.YtcaalcjcpddhaaaGreat
namespace Go.Proofs.YtcaalcjcpddhaaaGreat
open Num
namespace Bit
end Bit
end Go.Proofs.YtcaalcjcpddhaaaGreat
namespace Go.Proofs.YtcaalcjcpddhaaaGreat
open Go.RowKit Num Bit
def bt (l : List Bool) (i : Nat) : Bool := l.getD i false
def Bl (w : World) (ao : Option Addr) (l : List Bool) : Prop :=
 0 < l.length → ∃ b off, ao = some ⟨b, off, none⟩ ∧ b < w.heap.size ∧ ∀ i, i < l.length → w.cell? ⟨b, off + i, none⟩ = some (.bool (bt l i))
def fromS (l : List Bool) (q : Nat) : List Nat := rowOf l.length (fun j => decide (j < q) && bt l j)
theorem length_fromS (l : List Bool) (q : Nat) : (fromS l q).length = (l.length + 63) / 64 := length_rowOf _ _
theorem fit_fromS (l : List Bool) (q : Nat) : Fit (fromS l q) := fit_rowOf _ _
def frL (l : List Bool) : List Nat := rowOf l.length (bt l)
theorem fromS_all (l : List Bool) : fromS l l.length = frL l := rowOf_congr _ _ _ fun i hi => by simp [hi]
end Go.Proofs.YtcaalcjcpddhaaaGreat
namespace Go.Proofs.YtcaalcjcpddhaaaGreat
open Go.RowKit Num Bit
theorem refnew_ok (n : Int) (k : Nat) (w : World) (h0 : 0 ≤ n) (h1 : n ≤ 1048576) (hk : (n + 63) / 64 = (k : Int)) :
  Calls Tryz.prog 65 #[.int .i64 n] w fun e w' => ∃ g, e = .returned (.tuple #[.agg #[.int .i64 n, .slice (some ⟨g, 0, none⟩) k k], .int .i64 0]) ∧ w.heap.size ≤ g ∧ g < w'.heap.size ∧ Own w' g (List.replicate k 0) ∧ Below w.heap.size w w' := by
 obtain ⟨i0, hi, hz0, hz1, hz2⟩ := info_parts Tryz.info83
 have hk2 : k ≤ 1048576 := by omega
 go_enter Tryz.func65, Tryz.ntmps65
 go_wp2_with (first | (go_at_call 45; refine (refwords_c _ ?_ ?_ _).mono ?_; (omega); (omega); rintro e w' ⟨rfl, rfl⟩) | (at_make; refine wpList_make_full _ rfl _ _ 22 rfl (w.heap.size + 1) 83 i0 (.int .u64 0) 1 Tryz.underlying22 hi hz0 hz1 .i64 .i64 _ _ k rfl rfl rfl rfl ?b2 ?b3 ?b4 ?_))
 case b2 => rw [hz2]; omega
 case b3 => unfold maxLen; omega
 case b4 => simp
 intro w1 hown hgr
 have hb1 : Below (w.alloc (.cells #[.int .i64 0, .slice none 0 0] 24)).heap.size (w.alloc (.cells #[.int .i64 0, .slice none 0 0] 24)) w1 := (Below.refl _ _).grown hgr (Nat.le_refl _) (fun k h => by cases h)
 have hO : Own w1 (w.heap.size + 1) (List.replicate k 0) := own_made hown
 obtain ⟨k0, k1, hz, hw⟩ := box_cells hb1
 obtain ⟨k2, k3⟩ := box_frozen hb1
 have hlt := hO.lt
 clear hown hgr hi hz0 hz1 hz2 hb1
 go_wp2
 refine bodyPost_ret (v := .tuple #[.agg #[.int .i64 n, .slice (some ⟨w.heap.size + 1, 0, none⟩) k k], .int .i64 0]) (by simp [results, Tryz.results65, go_sem, k0, k1]) rfl ⟨w.heap.size + 1, rfl, by omega, ?_, ?_, ?_⟩
 ·rw [size_set, size_set]; exact hlt
 ·exact (hO.set_other (by simp) _).set_other (by simp) _
 ·exact (hw.setCell (by simp) _).setCell (by simp) _
def rputL (ys : List Nat) (p : Nat) (x : Bool) : List Nat :=
 if x then ys.set (p / 64) ((gt ys (p / 64) &&& (18446744073709551615 - 2 ^ (p % 64))) ||| 2 ^ (p % 64)) else ys.set (p / 64) (gt ys (p / 64) &&& (18446744073709551615 - 2 ^ (p % 64)))
theorem refput_c (ys : List Nat) (g cap p : Nat) (x : Bool) (w : World) (hO : Own w g ys) (hp : p ≤ 2097152) (hf : Fit ys) (h1 : p / 64 < ys.length) :
  Calls Tryz.prog 66 #[.slice (some ⟨g, 0, none⟩) ys.length cap, .int .i64 p, .bool x] w fun e w' => e = .returned (.tuple #[]) ∧ Own w' g (rputL ys p x) ∧ Turned g w w' := by
 have l1' : (p : Int) / 64 < (ys.length : Int) := by omega
 have e1 := hO.cell (p / 64) h1
 have f1 := hO.frozen (p / 64)
 have SO : Hid (IntKind.u64.wrap ((2 : Int) ^ (p % 64)) = ((2 ^ (p % 64) : Nat) : Int)) := shl_one _ (by omega)
 have SP : Hid (2 ^ (p % 64) < 18446744073709551616) := two_pow_lt _ (by omega)
 have SA : Hid (gt ys (p / 64) &&& (18446744073709551615 - 2 ^ (p % 64)) < 18446744073709551616) := Nat.lt_of_le_of_lt Nat.and_le_left (hf _)
 cases x with
 | false =>
  go_enter Tryz.func66, Tryz.ntmps66
  go_wp2
  go_end0
  rw [SO.out, u64_andNot_nat _ _ (hf _) SP.out]
  exact ⟨rfl, hO.set _ _, (Turned.refl _ _).set _ _⟩
 | true =>
  go_enter Tryz.func66, Tryz.ntmps66
  go_wp2
  go_end0
  rw [SO.out, u64_andNot_nat _ _ (hf _) SP.out, u64_or_nat _ _ SA.out SP.out]
  refine ⟨rfl, ?_, ((Turned.refl _ _).set _ _).set _ _⟩
  have h := (hO.set (p / 64) (gt ys (p / 64) &&& (18446744073709551615 - 2 ^ (p % 64)))).set (p / 64) ((gt ys (p / 64) &&& (18446744073709551615 - 2 ^ (p % 64))) ||| 2 ^ (p % 64))
  rw [List.set_set] at h
  exact h
theorem rput_row (N : Int) (xs : List Nat) (hf : Fit xs) (hk : chk N xs = true) (n : Nat) (hn : (n : Int) < N) (x : Bool) :
  rputL xs n x = rowOf N.toNat (fun j => if j = n then x else bitAt xs j) := by
 cases x with
 | false => exact set_row_false N xs hf hk n hn
 | true =>
  have e := set_row_true N xs hf hk n hn
  rw [← e]
  unfold rputL
  rw [if_pos rfl]
  congr 1
  refine eq_of_bits _ _ (or_lt _ _ (Nat.lt_of_le_of_lt Nat.and_le_left (hf _)) (two_pow_lt _ (by omega))) (or_lt _ _ (hf _) (two_pow_lt _ (by omega))) fun k hk64 => ?_
  rw [Nat.testBit_or, Nat.testBit_or, Nat.testBit_and, test_not_pow _ _ (by omega) hk64, Nat.testBit_two_pow]
  by_cases c : n % 64 = k <;> simp [c]
theorem refput_l (ys : List Nat) (l g cap p : Nat) (x : Bool) (w : World) (hl : ys.length = l) (hO : Own w g ys) (hp : p ≤ 2097152) (hf : Fit ys) (h1 : p / 64 < l) :
  Calls Tryz.prog 66 #[.slice (some ⟨g, 0, none⟩) l cap, .int .i64 p, .bool x] w fun e w' => e = .returned (.tuple #[]) ∧ Own w' g (rputL ys p x) ∧ Turned g w w' := by
 subst hl
 exact refput_c ys g cap p x w hO hp hf h1
theorem from_put (l : List Bool) (q : Nat) (hq : q < l.length) (hl : l.length ≤ 1048576) : rputL (fromS l q) q (bt l q) = fromS l (q + 1) := by
 have e := rput_row l.length (fromS l q) (fit_rowOf _ _) (chk_rowOf _ _ hl) q (by omega) (bt l q)
 rw [e, Int.toNat_natCast]
 refine rowOf_congr _ _ _ fun i hi => ?_
 unfold fromS
 rw [bitAt_rowOf]
 by_cases c : i = q
 ·subst c; simp
 ·rw [if_neg c]
  by_cases c2 : i < q
  ·simp [hi, c2, show i < q + 1 by omega]
  ·simp [c2, show ¬ i < q + 1 by omega]
theorem reffrom_ok (ao : Option Addr) (l : List Bool) (cap k : Nat) (w : World) (hx : Bl w ao l) (hl : l.length ≤ 1048576) (hk : k = (l.length + 63) / 64) :
  Calls Tryz.prog 37 #[.slice ao l.length cap] w fun e w' => ∃ g, e = .returned (.tuple #[.agg #[.int .i64 l.length, .slice (some ⟨g, 0, none⟩) k k], .int .i64 0]) ∧ w.heap.size ≤ g ∧ Own w' g (fromS l l.length) ∧ Below w.heap.size w w' := by
 have HK : Hid (k = (l.length + 63) / 64) := hk
 have hk1 : ((l.length : Int) + 63) / 64 = (k : Int) := by omega
 have HK1 : Hid (((l.length : Int) + 63) / 64 = (k : Int)) := hk1
 clear hk hk1
 go_enter Tryz.func37, Tryz.ntmps37
 go_wp2_with fail
 refine (refnew_ok _ k _ (Int.natCast_nonneg _) (by omega) HK1.out).mono ?_
 rintro e w1 ⟨g, rfl, hg1, hg2, hO, hb⟩
 have KK := box_cells hb
 have KF := box_frozen hb
 have hg0 : w.heap.size + 1 ≤ g := by simpa using hg1
 clear hb hg1
 obtain ⟨k0, k1, hz, hw⟩ := KK
 obtain ⟨k2, k3⟩ := KF
 go_wp2
 go_loopw [6] (fun i wr => ∃ q : Nat, q ≤ l.length ∧ i = .int .i64 q ∧ Own wr g (fromS l q) ∧ (wr.cell? ⟨w1.heap.size, 0, none⟩ = some (.int .i64 l.length) ∧ wr.cell? ⟨w1.heap.size, 1, none⟩ = some (.slice (some ⟨g, 0, none⟩) k k)) ∧ (wr.cell? ⟨w.heap.size, 0, none⟩ = some (.int .i64 0) ∧ wr.cell? ⟨w.heap.size, 1, none⟩ = some (.slice none 0 0) ∧ wr.frozen? ⟨w.heap.size, 0, none⟩ = false ∧ wr.frozen? ⟨w.heap.size, 1, none⟩ = false) ∧ Below w.heap.size w wr) (fun i _ => l.length - (intOf i).toNat)
 case atStart =>
  have hb := below_alloc w1 (.cells #[.int .i64 l.length, .slice (some ⟨g, 0, none⟩) k k] 24)
  refine ⟨0, Nat.zero_le _, rfl, ?_, ⟨by simp, by simp⟩, ⟨(hb.cell (p := ⟨w.heap.size, 0, none⟩) hz).trans k0, (hb.cell (p := ⟨w.heap.size, 1, none⟩) hz).trans k1, (hb.frozen (p := ⟨w.heap.size, 0, none⟩) hz).trans k2, (hb.frozen (p := ⟨w.heap.size, 1, none⟩) hz).trans k3⟩, hw.trans (hb.mono (by omega))⟩
  have e1 : fromS l 0 = List.replicate k 0 := by
   rw [rep_row l.length k HK.out]
   exact rowOf_congr _ _ _ fun i _ => by simp
  rw [e1]
  exact hO.keep hb
 case round =>
  obtain ⟨q, hq, rfl, hOr, ⟨r0, r1⟩, ⟨r3, r4, r5, r6⟩, hwr⟩ := hrel
  by_cases hlt : q < l.length
  ·obtain ⟨b, off, rfl, hb, hc⟩ := hx (by omega)
   have e1 := (hwr.cell (p := ⟨b, off + q, none⟩) hb).trans (hc q hlt)
   have hlt3 : (q : Int) < (l.length : Int) := by omega
   have HQ : Hid (q / 64 < k) := by have := HK.out; unfold Hid; omega
   have FS : Hid (rputL (fromS l q) q (bt l q) = fromS l (q + 1)) := from_put l q hlt hl
   have HLN : Hid ((fromS l q).length = k) := by unfold Hid; rw [length_fromS]; exact HK.out.symm
   clear hc
   go_wp2
   go_region_held3 (fun w' => w'.cell? ⟨w1.heap.size, 1, none⟩ = some (.slice (some ⟨g, 0, none⟩) k k) ∧ w'.cell? ⟨b, off + q, none⟩ = some (.bool (bt l q))) (first | go_keep | (refine ⟨?_, ?_⟩ <;> assumption))
    (first | (go_at_call 66; refine (refput_l (fromS l q) k g k q (bt l q) _ HLN.out ?_ (by omega) (fit_fromS l q) HQ.out).mono ?_; (exact hOr); rintro e w4 ⟨rfl, hO4, hT⟩; have q0 := (hT.cell (p := ⟨w1.heap.size, 0, none⟩) (show w1.heap.size ≠ g by omega)).trans r0; have q1 : w4.cell? ⟨w1.heap.size, 1, none⟩ = some (.slice (some ⟨g, 0, none⟩) k k) := (hT.cell (p := ⟨w1.heap.size, 1, none⟩) (show w1.heap.size ≠ g by omega)).trans r1; have q2 : w4.cell? ⟨b, off + q, none⟩ = some (.bool (bt l q)) := (hT.cell (p := ⟨b, off + q, none⟩) (show b ≠ g by omega)).trans e1; have q3 := (hT.cell (p := ⟨w.heap.size, 0, none⟩) (show w.heap.size ≠ g by omega)).trans r3; have q4 := (hT.cell (p := ⟨w.heap.size, 1, none⟩) (show w.heap.size ≠ g by omega)).trans r4; have q5 := (hT.frozen (p := ⟨w.heap.size, 0, none⟩) (show w.heap.size ≠ g by omega)).trans r5; have q6 := (hT.frozen (p := ⟨w.heap.size, 1, none⟩) (show w.heap.size ≠ g by omega)).trans r6; have hw4 := hwr.trans (Below.trans (Below.drew (Below.refl _ _)) (hT.below (B := w.heap.size) (by omega))); clear hT))
   go_wp2
   rw [FS.out] at hO4
   exact ⟨⟨q + 1, by omega, by go_num, hO4, ⟨q0, q1⟩, ⟨q3, q4, q5, q6⟩, hw4⟩, by simp only [intOf]; omega⟩
  ·have hq2 : q = l.length := by omega
   rw [hq2] at hOr
   clear hq2
   go_wp2
   refine bodyPost_ret (v := .tuple #[.agg #[.int .i64 l.length, .slice (some ⟨g, 0, none⟩) k k], .int .i64 0]) (by simp [results, Tryz.results37, go_sem, r3, r4]) rfl ⟨g, rfl, by omega, ?_, ?_⟩
   ·exact (hOr.set_other (by simp; omega) _).set_other (by simp; omega) _
   ·exact (hwr.setCell (by simp) _).setCell (by simp) _
end Go.Proofs.YtcaalcjcpddhaaaGreat
namespace Go.Proofs.YtcaalcjcpddhaaaGreat
open Go.RowKit Num Bit
end Go.Proofs.YtcaalcjcpddhaaaGreat
namespace Go.Proofs.YtcaalcjcpddhaaaGreat
open Go.RowKit Num Bit
theorem imE_zero (W : Int) (l : List Nat) (h : imE W l = 0) : 1 ≤ W ∧ W ≤ 64 ∧ (l.length : Int) * W ≤ 1048576 ∧ ∀ j, j < l.length → lenI (gt l j) ≤ W := by
 unfold imE at h
 by_cases c : W < 1 ∨ 64 < W ∨ 1048576 < (l.length : Int) * W ∨ ¬ (∀ j, j < l.length → lenI (gt l j) ≤ W)
 ·rw [if_pos c] at h; omega
 ·refine ⟨by omega, by omega, by omega, ?_⟩
  exact Classical.byContradiction fun hc => c (.inr (.inr (.inr hc)))
theorem imE_bad (W : Int) (l : List Nat) (h : imE W l ≠ 0) : imE W l = 2 := by
 unfold imE at *
 split at h
 ·rename_i c; rw [if_pos c]
 ·exact absurd rfl h
def OutF (w w' : World) (ao : Option Addr) (ys : List Nat) (cap : Nat) : Prop := Wd w' ao ys ∧ Fit ys ∧ ys.length ≤ cap ∧ (∀ a, ao = some a → w.heap.size ≤ a.block) ∧ Below w.heap.size w w'
end Go.Proofs.YtcaalcjcpddhaaaGreat
