/-
  Rows of numbers of the call's own; the contracts of the document's Numbers and Inverse.
-/
import Derived.Test.YtadfnllfeoidhaaDoorSf
import Derived.BigQuiet
import Derived.Test.YtadfnllfeoidhaaDoorSb
import Derived.Laws.OwnMore
namespace Go.Proofs.YtadfnllfeoidhaaDoor
open Go.RowKit
set_option linter.unusedVariables false
set_option linter.unusedSimpArgs false
set_option maxRecDepth 100000

/-- Places as numbers. -/
def toI (l : List Nat) : List Int := l.map fun x : Nat => (x : Int)
theorem length_toI (l : List Nat) : (toI l).length = l.length := by simp [toI]
theorem gi_toI (l : List Nat) (i : Nat) : gi (toI l) i = (gt l i : Int) := by
  unfold gi toI gt
  rw [List.getD_eq_getElem?_getD, List.getD_eq_getElem?_getD, List.getElem?_map]
  cases l[i]? <;> rfl
theorem toI_inj {l m : List Nat} (h : toI l = toI m) : l = m := by
  have hl : l.length = m.length := by rw [← length_toI, h, length_toI]
  refine List.ext_getElem? fun i => ?_
  by_cases c : i < l.length
  · have e : gi (toI l) i = gi (toI m) i := by rw [h]
    rw [gi_toI, gi_toI] at e
    rw [gt_get l i c, gt_get m i (by omega)]
    congr 1
    omega
  · rw [List.getElem?_eq_none (by omega), List.getElem?_eq_none (by omega)]
/-- The values of a list of places. -/
def iv (l : List Nat) : List Value := l.map fun x : Nat => Value.int .i64 (x : Int)
theorem length_iv (l : List Nat) : (iv l).length = l.length := by simp [iv]
theorem iv_get (l : List Nat) (i : Nat) (h : i < l.length) : (iv l)[i]? = some (.int .i64 (gt l i)) := by
  unfold iv
  rw [List.getElem?_map, gt_get l i h]; rfl
theorem iv_set (l : List Nat) (i v : Nat) : (iv l).set i (.int .i64 (v : Int)) = iv (l.set i v) := by
  unfold iv
  rw [List.map_set]
theorem nd_own {w : World} {base n c : Nat} {ao : Option Addr} {l : List Nat} (h : w.ownsRow base 3 1 (.slice ao n c) n (iv l)) : Nd w ao (toI l) := by
  intro h0
  rw [length_toI] at h0
  have hlen : (iv l).length = n * 1 := h.1
  rw [length_iv] at hlen
  have hk := fun k hk => h.lt k hk
  have hc := fun g hg => h.cells (g := g) hg
  obtain ⟨_, ⟨e, e2⟩ | ⟨g, cap, cur, e, _⟩⟩ := h
  · omega
  · simp only [Value.slice.injEq] at e
    obtain ⟨rfl, _, rfl⟩ := e
    refine ⟨g, 0, rfl, (hk g rfl).2, fun i hi => ?_⟩
    rw [length_toI] at hi
    rw [gi_toI, ← hc g rfl i _ (iv_get l i hi)]
    unfold Addr.add
    split
    · subst_vars; rfl
    · simp
theorem nd_cel {w : World} {g : Nat} {l : List Nat} (h : Cel w g (iv l) 3) : Nd w (some ⟨g, 0, none⟩) (toI l) := by
  intro h0
  rw [length_toI] at h0
  refine ⟨g, 0, rfl, h.lt, fun i hi => ?_⟩
  rw [length_toI] at hi
  rw [gi_toI, Nat.zero_add]
  exact h.cell i (iv_get l i hi)

def bv (l : List Bool) : List Value := l.map Value.bool
theorem length_bv (l : List Bool) : (bv l).length = l.length := by simp [bv]
theorem bv_set (l : List Bool) (i : Nat) (b : Bool) : (bv l).set i (.bool b) = bv (l.set i b) := by
  unfold bv
  rw [List.map_set]
theorem bv_get (l : List Bool) (i : Nat) {b : Bool} (h : l[i]? = some b) : (bv l)[i]? = some (.bool b) := by
  unfold bv
  rw [List.getElem?_map, h]; rfl
theorem Tryd.info4 : (Tryd.prog.info? 4).map (fun i => (i.zero, i.size, i.bytes)) = some (some (.bool false), 1, 1) := by kernel_rfl
theorem cel_made {w : World} {base g n : Nat} {E : TypeId} {z : Value} (h : w.ownsRow base E 1 (.slice (some ⟨g, 0, none⟩) n n) n (madeCells #[z] n).toList) : Cel w g (List.replicate n z) E := by
  obtain ⟨_, h | ⟨g', cap, cur, e, _, hh, _, _, hs, ht⟩⟩ := h
  · simp at h
  · simp only [Value.slice.injEq, Option.some.injEq, Addr.mk.injEq] at e
    obtain ⟨⟨rfl, _, _⟩, _, rfl⟩ := e
    unfold Cel
    rw [hh]
    rw [toList_madeCells_one] at ht
    have e3 : cur.toList.take (n * 1) = cur.toList := List.take_of_length_le (by simp; omega)
    rw [e3] at ht
    rw [← ht]
theorem iv_rep (n : Nat) : iv (List.replicate n 0) = List.replicate n (.int .i64 0) := by unfold iv; rw [List.map_replicate]; rfl
theorem bv_rep (n : Nat) : bv (List.replicate n false) = List.replicate n (.bool false) := by unfold bv; rw [List.map_replicate]

namespace Su
theorem list_ext {xs ys : List Nat} (hl : xs.length = ys.length) (h : ∀ i, i < xs.length → gt xs i = gt ys i) : xs = ys := by
  refine List.ext_getElem? fun i => ?_
  by_cases c : i < xs.length
  · rw [gt_get xs i c, gt_get ys i (by omega), h i c]
  · rw [List.getElem?_eq_none (by omega), List.getElem?_eq_none (by omega)]
theorem gt_set (ys : List Nat) (j i v : Nat) (hj : j < ys.length) : gt (ys.set j v) i = if j = i then v else gt ys i := by
  unfold gt
  rw [List.getD_eq_getElem?_getD, List.getD_eq_getElem?_getD, List.getElem?_set]
  by_cases c : j = i
  · subst c; simp [hj]
  · simp [c]
theorem gt_map (f : Nat → Nat) (n i : Nat) (h : i < n) : gt ((List.range n).map f) i = f i := by
  unfold gt
  rw [List.getD_eq_getElem?_getD, List.getElem?_map, List.getElem?_range h]; rfl
theorem gt_app (l m : List Nat) (i : Nat) : gt (l ++ m) i = if i < l.length then gt l i else gt m (i - l.length) := by
  unfold gt
  rw [List.getD_eq_getElem?_getD, List.getD_eq_getElem?_getD, List.getD_eq_getElem?_getD]
  by_cases c : i < l.length
  · rw [if_pos c, List.getElem?_append_left c]
  · rw [if_neg c, List.getElem?_append_right (by omega)]
theorem gt_take (l : List Nat) (p i : Nat) (h : i < p) : gt (l.take p) i = gt l i := by
  unfold gt
  rw [List.getD_eq_getElem?_getD, List.getD_eq_getElem?_getD, List.getElem?_take_of_lt h]
end Su
theorem iv_app (l m : List Nat) : iv l ++ iv m = iv (l ++ m) := by simp [iv]
end Go.Proofs.YtadfnllfeoidhaaDoor
