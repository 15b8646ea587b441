/-
  The contract of the document's Make.
-/
import Derived.Test.YtojjinjgmijgcaaBw3
import Derived.Test.YtojjinjgmijgcaaRg
namespace Go.Proofs.Ytojjinjgmijgcaa
open Go.RowKit
set_option linter.unusedVariables false
set_option linter.unusedSimpArgs false
set_option maxRecDepth 100000

namespace Su
/-- The turned signs of the first q places. -/
noncomputable def lq (t : List Nat) (q : Nat) : List Nat := (La t).take (ix (rk t 0) q)
theorem lq_zero (t : List Nat) : lq t 0 = [] := by
  unfold lq ix
  rw [if_pos (Nat.zero_le _), List.take_zero]
theorem lq_row (t : List Nat) : lq t (rk t 0 + 1) = lq t (rk t 0) := by
  unfold lq
  rw [ix_succ, if_pos rfl]
theorem lq_next {t : List Nat} {q : Nat} (hq : q ≤ t.length) (h : q ≠ rk t 0) : lq t (q + 1) = lq t q ++ [sg t (gt (sa t) q - 1)] := by
  have hk := ix_lt (rw_le t) hq h
  have h1 := (sg_la (t := t) (l := sa t) h hq).resolve_right (by omega)
  unfold lq
  rw [ix_succ, if_neg h, List.take_add_one, gt_get _ _ (by rw [length_La]; exact hk)]
  show _ ++ [gt (La t) (ix (rk t 0) q)] = _
  congr 2
theorem lq_all (t : List Nat) : lq t (t.length + 1) = La t := by
  unfold lq ix
  rw [if_neg (by have := rw_le t; omega), Nat.add_sub_cancel, List.take_of_length_le (by rw [length_La]; exact Nat.le_refl _)]
theorem length_lq {t : List Nat} {q : Nat} (hq : q ≤ t.length + 1) : (lq t q).length = ix (rk t 0) q := by
  unfold lq
  rw [List.length_take, length_La]
  have := rw_le t
  unfold ix
  split <;> omega
theorem lq_le (t : List Nat) (q : Nat) : (lq t q).length ≤ q := by
  unfold lq
  rw [List.length_take]
  unfold ix
  split <;> omega
/-- The row, as far as it is met. -/
noncomputable def rv (t : List Nat) (q : Nat) : Nat := if rk t 0 < q then rk t 0 else 0
theorem row_iff {t : List Nat} {q : Nat} (hq : q ≤ t.length) : gt (sa t) q = 0 ↔ q = rk t 0 := by
  have o := ord_sa t
  constructor
  · intro h
    by_cases e : q = rk t 0
    · exact e
    · have := not_row o.2 o.1 hq e
      unfold gt at h
      omega
  · intro h
    rw [h]
    exact row_zero o.2 o.1
end Su
/-- What a Make answers. -/
def MakQ (t : List Nat) (w : World) (e : Ending) (w' : World) : Prop := ∃ lo lc co cc, e = .returned (.tuple #[.agg #[.slice lo (Su.mkL t).length lc, .int .i64 (Su.mkR t : Nat), .slice co (Su.mkC t).length cc], .int .i64 (Su.arrE t)]) ∧ Bd w' lo (Su.mkL t) ∧ (Su.mkL t).length ≤ lc ∧ Nd w' co (toI (Su.mkC t)) ∧ (Su.mkC t).length ≤ cc ∧ Below w.heap.size w w'
/-- What stands while signs are laid. -/
structure MB (wb wr : World) (t : List Nat) (gf lo : Option Addr) (lc q : Nat) : Prop where
  bx : Cel wr wb.heap.size [.slice lo (Su.lq t q).length lc, .int .i64 (Su.rv t q : Nat), .slice gf 257 257] 25
  hb : Below wb.heap.size wb wr
  ow : wr.ownsRow (wb.heap.size + 1) 5 1 (.slice lo (Su.lq t q).length lc) (Su.lq t q).length (yv (Su.lq t q))
theorem nd_only {g : Nat} {w w' : World} {b off : Nat} {l : List Int} (h : Nd w (some ⟨b, off, none⟩) l) (hO : Only g w w') (hb : b ≠ g) : Nd w' (some ⟨b, off, none⟩) l := by
  intro h0
  obtain ⟨b', off', e, hlt, hc⟩ := h h0
  simp only [Option.some.injEq, Addr.mk.injEq] at e
  obtain ⟨rfl, rfl, _⟩ := e
  exact ⟨b, off, rfl, by rw [hO.size]; exact hlt, fun i hi => (hO.cell (p := ⟨b, off + i, none⟩) hb).trans (hc i hi)⟩
theorem yv_app (l m : List Nat) : yv l ++ yv m = yv (l ++ m) := by simp [yv]
end Go.Proofs.Ytojjinjgmijgcaa
