/-
  What the document's Lengths and Cost are told by (out of huff's templates Jg, Jk, Jo, Kf).
-/
import Derived.Test.YtbkagloonlddfaaSt5
import Derived.Test.YtbkagloonlddfaaHv
import Derived.Deep.WholeRow
import Derived.Laws.ResultCell
namespace Go.Proofs.Ytbkagloonlddfaa
open Go.RowKit Num Hp
set_option linter.unusedVariables false
set_option linter.unusedSimpArgs false
set_option maxRecDepth 100000
def bad (top n : Int) : Bool := decide (n < 0) || decide (top < n)
theorem gi_mem {l : List Int} {i : Nat} (h : i < l.length) : gi l i ∈ l := by
  unfold gi
  rw [List.getD_eq_getElem?_getD, List.getElem?_eq_getElem h]
  exact List.getElem_mem h
theorem any_true {l : List Int} {top : Int} {i : Nat} (h : i < l.length) (hb : bad top (gi l i) = true) : l.any (bad top) = true := List.any_eq_true.2 ⟨_, gi_mem h, hb⟩
theorem any_false {l : List Int} {top : Int} (h : ∀ i, i < l.length → bad top (gi l i) = false) : l.any (bad top) = false := by
  refine Bool.eq_false_iff.2 fun e => ?_
  obtain ⟨x, hx, hb⟩ := List.any_eq_true.1 e
  obtain ⟨i, hi, rfl⟩ := List.mem_iff_getElem.1 hx
  have := h i hi
  unfold gi at this
  rw [List.getD_eq_getElem?_getD, List.getElem?_eq_getElem hi] at this
  rw [show (some l[i]).getD 0 = l[i] from rfl, hb] at this
  cases this
/-- 256 of them, each from 0 to top. -/
def win (l : List Int) (top : Int) : Bool := decide (l.length = 256) && !l.any (bad top)
/-- The counts as numbers. -/
def cntOf (l : List Int) (c : Nat) : Nat := (gi l c).toNat
/-- Numbers as cells. -/
def ivh (l : List Nat) : List Value := l.map fun n : Nat => Value.int .i64 (n : Int)
theorem length_ivh (l : List Nat) : (ivh l).length = l.length := by simp [ivh]
theorem ivh_get (l : List Nat) (i : Nat) (h : i < l.length) : (ivh l)[i]? = some (.int .i64 (l.getD i 0 : Nat)) := by
  unfold ivh
  rw [List.getElem?_map, List.getElem?_eq_getElem h, List.getD_eq_getElem?_getD, List.getElem?_eq_getElem h]
  rfl
theorem ivh_set (l : List Nat) (i v : Nat) : (ivh l).set i (.int .i64 (v : Nat)) = ivh (l.set i v) := by simp [ivh, List.map_set]
theorem info_i64 : (Try.prog.info? 3).map (fun i => (i.zero, i.size, i.bytes)) = some (some (.int .i64 0), 1, 8) := by kernel_rfl
theorem cel_made1 {w : World} {base g n : Nat} (h : w.ownsRow base 3 1 (.slice (some ⟨g, 0, none⟩) n n) n (madeCells #[.int .i64 0] n).toList) : Cel w g (ivh (List.replicate n 0)) 3 := by
  obtain ⟨_, h | ⟨g', cap, cur, e, _, hh, _, _, hs, ht⟩⟩ := h
  · simp at h
  · simp only [Value.slice.injEq, Option.some.injEq, Addr.mk.injEq] at e
    obtain ⟨⟨rfl, _, _⟩, _, rfl⟩ := e
    unfold Cel
    rw [hh]
    have e2 : (madeCells #[.int .i64 0] n).toList = ivh (List.replicate n 0) := by
      rw [toList_madeCells_one (.int .i64 0) n, ivh, List.map_replicate]
      rfl
    rw [e2] at ht
    have e3 : cur.toList.take (n * 1) = cur.toList := List.take_of_length_le (by simp; omega)
    rw [e3] at ht
    rw [← ht]
/-- The lengths of counts. -/
def hls (l : List Int) : List Nat := (List.range 256).map (hlen (cntOf l) 256)
theorem win_len {l : List Int} {top : Int} (h : win l top = true) : l.length = 256 ∧ ∀ i, i < l.length → 0 ≤ gi l i ∧ gi l i ≤ top := by
  unfold win at h
  simp only [Bool.and_eq_true, decide_eq_true_eq, Bool.not_eq_true'] at h
  refine ⟨h.1, fun i hi => ?_⟩
  have := Bool.eq_false_iff.1 h.2
  have hb : ¬ bad top (gi l i) = true := fun e => this (any_true hi e)
  unfold bad at hb
  simp only [Bool.or_eq_true, decide_eq_true_eq] at hb
  omega
theorem cntI_le {l : List Int} (h : ∀ i, i < l.length → 0 ≤ gi l i ∧ gi l i ≤ 1048576) (c : Nat) : cntOf l c ≤ 1048576 := by
  unfold cntOf
  by_cases g : c < l.length
  · have := h c g; omega
  · have : gi l c = 0 := by unfold gi; rw [List.getD_eq_getElem?_getD, List.getElem?_eq_none (by omega)]; rfl
    omega
/-- A new row of 256 numbers. -/
def LO (w : World) (ys : List Nat) (e : Ending) (w' : World) : Prop := ∃ g, e = .returned (.tuple #[.slice (some ⟨g, 0, none⟩) 256 256, .int .i64 0]) ∧ Cel w' g (ivh ys) 3 ∧ w.heap.size ≤ g ∧ Below w.heap.size w w'
theorem LO.mk {w : World} {ys : List Nat} {e : Ending} {w' : World} (g : Nat) (h1 : e = .returned (.tuple #[.slice (some ⟨g, 0, none⟩) 256 256, .int .i64 0])) (h2 : Cel w' g (ivh ys) 3) (h3 : w.heap.size ≤ g) (h4 : Below w.heap.size w w') : LO w ys e w' := ⟨g, h1, h2, h3, h4⟩
/-- What counts cost at these lengths. -/
def costv (c l : List Int) : Nat := if win c 1048576 && win l 40 then Hv.tot (fun i => cntOf c i * cntOf l i) 256 else 0
end Go.Proofs.Ytbkagloonlddfaa
