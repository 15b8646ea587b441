/-
  The contract of the document's Back.
-/
import Derived.Test.YtojjinjgmijgcaaBw4
namespace Go.Proofs.Ytojjinjgmijgcaa
open Go.RowKit
set_option linter.unusedVariables false
set_option linter.unusedSimpArgs false
set_option maxRecDepth 100000

/-- What a Back answers. -/
def BackQ (L : List Nat) (r : Int) (C : List Int) (w : World) (e : Ending) (w' : World) : Prop := ∃ tO tc, e = .returned (.tuple #[.slice tO (Su.backT L r C).length tc, .int .i64 (Su.backE L r C)]) ∧ Bd w' tO (Su.backT L r C) ∧ (Su.backT L r C).length ≤ tc ∧ Below w.heap.size w w'
theorem back_none {L : List Nat} {r : Int} {C : List Int} {w w' : World} (h : ∀ t, ¬ Su.Tn L r C t) (hb : Below w.heap.size w w') : BackQ L r C w (.returned (.tuple #[.slice none 0 0, .int .i64 161])) w' := by
  unfold BackQ
  rw [(Su.back_bad h).1, (Su.back_bad h).2]
  exact ⟨none, 0, rfl, bd0 _ _, Nat.le_refl _, hb⟩
theorem yv_set (l : List Nat) (i v : Nat) : (yv l).set i (.int .u8 (v : Int)) = yv (l.set i v) := by
  unfold yv
  rw [List.map_set]
theorem yv_rep (n : Nat) : yv (List.replicate n 0) = List.replicate n (.int .u8 0) := by unfold yv; rw [List.map_replicate]; rfl
theorem bd_cel {w : World} {g : Nat} {l : List Nat} (h : Cel w g (yv l) 5) : Bd w (some ⟨g, 0, none⟩) l := by
  intro h0
  refine ⟨g, 0, rfl, h.lt, fun i hi => ?_⟩
  rw [Nat.zero_add]
  exact h.cell i (yv_get l i hi)
theorem lay_one (i : Nat) (s : List Nat) (x : Nat) : (List.replicate (i + 1) 0 ++ s).set i x = List.replicate i 0 ++ (x :: s) := by
  rw [List.replicate_succ', List.append_assoc, List.set_append_right _ _ (by rw [List.length_replicate]; exact Nat.le_refl _), List.length_replicate, Nat.sub_self]
  rfl
theorem stp_fs {L : List Nat} (hb : Bytes L) (R i : Nat) : Su.stp L R (gt (Su.fs L)) i = Su.stp L R (Su.first L) i := by
  unfold Su.stp
  rw [Su.gt_fs L _ (by have := Su.sg_lt hb (Su.ix R i); omega)]
end Go.Proofs.Ytojjinjgmijgcaa
