/-
  A row of words of the call's own.
-/
import Derived.Test.YtjbabnnibocdfaaWords
import Derived.Test.YtjbabnnibocdfaaBn
import Derived.WalkSmall
import Derived.OwnWalk
import Derived.RegionTactic
import Derived.BigRegion
import Derived.Deep.RegionHeld3
namespace Go.Proofs.Ytjbabnnibocdfaa
open Go.RowKit Num Bn
namespace Ow
set_option linter.unusedVariables false
set_option linter.unusedSimpArgs false
set_option maxRecDepth 100000

theorem info64 : (Try.prog.info? 22).map (fun i => (i.zero, i.size, i.bytes)) = some (some (.int .u64 0), 1, 8) := by kernel_rfl
theorem below_alloc (w : World) (o : Obj) : Below w.heap.size w (w.alloc o) := (Below.refl _ _).alloc (Nat.le_refl _) _

def gt (xs : List Nat) (i : Nat) : Nat := xs.getD i 0
theorem gt_get (xs : List Nat) (i : Nat) (h : i < xs.length) : xs[i]? = some (gt xs i) := by
  unfold gt
  rw [List.getD_eq_getElem?_getD, List.getElem?_eq_getElem h]; rfl
theorem gt_map (f : Nat → Nat) (n i : Nat) (h : i < n) : gt ((List.range n).map f) i = f i := by
  unfold gt
  rw [List.getD_eq_getElem?_getD, List.getElem?_map, List.getElem?_range h]; rfl
theorem gt_set (ys : List Nat) (j i v : Nat) (hj : j < ys.length) : gt (ys.set j v) i = if j = i then v else gt ys i := by
  unfold gt
  rw [List.getD_eq_getElem?_getD, List.getD_eq_getElem?_getD, List.getElem?_set]
  by_cases c : j = i
  · subst c; simp [hj]
  · simp [c]
theorem list_ext {xs ys : List Nat} (hl : xs.length = ys.length) (h : ∀ i, i < xs.length → gt xs i = gt ys i) : xs = ys := by
  refine List.ext_getElem? fun i => ?_
  by_cases c : i < xs.length
  · rw [gt_get xs i c, gt_get ys i (by omega), h i c]
  · rw [List.getElem?_eq_none (by omega), List.getElem?_eq_none (by omega)]

def wv (ys : List Nat) : List Value := ys.map fun y : Nat => Value.int .u64 (y : Int)
theorem length_wv (ys : List Nat) : (wv ys).length = ys.length := by simp [wv]
def Own (w : World) (g : Nat) (ys : List Nat) : Prop := w.heap[g]? = some (.cells (wv ys).toArray 22 (0, 0))
theorem own_made {w : World} {base g n : Nat} (h : w.ownsRow base 22 1 (.slice (some ⟨g, 0, none⟩) n n) n (madeCells #[.int .u64 0] n).toList) : Own w g (List.replicate n 0) := by
  obtain ⟨_, h | ⟨g', cap, cur, e, _, hh, _, _, hs, ht⟩⟩ := h
  · simp at h
  · simp only [Value.slice.injEq, Option.some.injEq, Addr.mk.injEq] at e
    obtain ⟨⟨rfl, _, _⟩, _, rfl⟩ := e
    unfold Own
    rw [hh]
    have e2 : (madeCells #[.int .u64 0] n).toList = wv (List.replicate n 0) := by
      rw [toList_madeCells_one (.int .u64 0) n, wv, List.map_replicate]
      rfl
    rw [e2] at ht
    have e3 : cur.toList.take (n * 1) = cur.toList := List.take_of_length_le (by simp; omega)
    rw [e3] at ht
    rw [← ht]
theorem Own.cell {w : World} {g : Nat} {ys : List Nat} (h : Own w g ys) (j : Nat) (hj : j < ys.length) : w.cell? ⟨g, j, none⟩ = some (.int .u64 (gt ys j)) := by
  unfold World.cell?
  rw [show w.heap[({ block := g, off := j, spot := none } : Addr).block]? = _ from h]
  simp only [List.getElem?_toArray, wv, List.getElem?_map, gt_get ys j hj]
  rfl
theorem Own.frozen {w : World} {g : Nat} {ys : List Nat} (h : Own w g ys) (j : Nat) : w.frozen? ⟨g, j, none⟩ = false := by
  unfold World.frozen?
  rw [show w.heap[({ block := g, off := j, spot := none } : Addr).block]? = _ from h]
  simp
theorem Own.lt {w : World} {g : Nat} {ys : List Nat} (h : Own w g ys) : g < w.heap.size := (Array.getElem?_eq_some_iff.1 h).1
theorem Own.set {w : World} {g : Nat} {ys : List Nat} (h : Own w g ys) (j v : Nat) : Own (w.setCell ⟨g, j, none⟩ (.int .u64 v)) g (ys.set j v) := by
  unfold Own at h ⊢
  simp only [World.setCell, Array.getElem?_modify]
  rw [if_pos trivial, h]
  simp [wv, List.map_set]
theorem Own.drew {w : World} {g : Nat} {ys : List Nat} (h : Own w g ys) : Own w.drew g ys := h

/-- Row i of the triangle, in n + 1 places. -/
def rowP (n i : Nat) : List Nat := (List.range (n + 1)).map (ch i)
/-- Row i above place j, row i - 1 up to it. -/
def pas (n i j : Nat) : List Nat := (List.range (n + 1)).map fun t => if j < t then ch i t else ch (i - 1) t
theorem length_pas (n i j : Nat) : (pas n i j).length = n + 1 := by simp [pas]
theorem length_rowP (n i : Nat) : (rowP n i).length = n + 1 := by simp [rowP]
theorem pas_first (n i : Nat) : pas n i i = rowP n (i - 1) := by
  unfold pas rowP
  refine List.map_congr_left fun t _ => ?_
  by_cases c : i < t
  · rw [if_pos c, ch_out i t c, ch_out (i - 1) t (by omega)]
  · rw [if_neg c]
theorem pas_last (n i : Nat) : pas n i 0 = rowP n i := by
  unfold pas rowP
  refine List.map_congr_left fun t _ => ?_
  by_cases c : 0 < t
  · rw [if_pos c]
  · obtain rfl : t = 0 := by omega
    rw [if_neg c, ch_zero, ch_zero]
theorem gt_pas (n i j t : Nat) (h : t ≤ n) : gt (pas n i j) t = if j < t then ch i t else ch (i - 1) t := gt_map _ _ _ (by omega)
theorem gt_rowP (n i t : Nat) (h : t ≤ n) : gt (rowP n i) t = ch i t := gt_map _ _ _ (by omega)
theorem pas_step (n i j : Nat) (hi : 1 ≤ i) (hj : 1 ≤ j) (hn : j ≤ n) : (pas n i j).set j (ch (i - 1) j + ch (i - 1) (j - 1)) = pas n i (j - 1) := by
  refine list_ext (by rw [List.length_set, length_pas, length_pas]) fun t ht => ?_
  rw [List.length_set, length_pas] at ht
  rw [gt_set _ _ _ _ (by rw [length_pas]; omega), gt_pas _ _ _ _ (by omega), gt_pas _ _ _ _ (by omega)]
  by_cases c : j = t
  · subst c
    obtain ⟨a, rfl⟩ : ∃ a, i = a + 1 := ⟨i - 1, by omega⟩
    obtain ⟨b, rfl⟩ : ∃ b, j = b + 1 := ⟨j - 1, by omega⟩
    rw [if_pos rfl, if_pos (by omega), ch_succ, Nat.add_sub_cancel, Nat.add_sub_cancel]
    omega
  · rw [if_neg c]
    by_cases d : j < t
    · rw [if_pos d, if_pos (by omega)]
    · rw [if_neg d, if_neg (by omega)]
theorem row_start (n : Nat) : (List.replicate (n + 1) 0).set 0 1 = rowP n 0 := by
  refine list_ext (by rw [List.length_set, length_rowP, List.length_replicate]) fun t ht => ?_
  rw [List.length_set, List.length_replicate] at ht
  rw [gt_set _ _ _ _ (by simp), gt_rowP _ _ _ (by omega)]
  by_cases c : 0 = t
  · subst c; rw [if_pos rfl, ch_zero]
  · rw [if_neg c, ch_out 0 t (by omega)]
    unfold gt
    rw [List.getD_eq_getElem?_getD, List.getElem?_replicate]
    split <;> rfl
end Ow
end Go.Proofs.Ytjbabnnibocdfaa
