/-
  The contracts of the document's Check, Step and Runs of turned texts.
-/
import Derived.Test.YtojjinjgmijgcaaBw5
namespace Go.Proofs.Ytojjinjgmijgcaa
open Go.RowKit
set_option linter.unusedVariables false
set_option linter.unusedSimpArgs false
set_option maxRecDepth 100000

namespace Su
noncomputable def bok (L : List Nat) (r : Int) (C : List Int) : Bool := decide (backE L r C = 0)
theorem bok_yes {L : List Nat} {r : Int} {C : List Int} {t : List Nat} (h : Tn L r C t) : bok L r C = true := by
  unfold bok
  exact decide_eq_true (back_ok h).1
theorem bok_no {L : List Nat} {r : Int} {C : List Int} (h : ∀ t, ¬ Tn L r C t) : bok L r C = false := by
  unfold bok
  rw [(back_bad h).1]
  decide
theorem bok_or (L : List Nat) (r : Int) (C : List Int) : (bok L r C = true ∧ ∃ t, Tn L r C t) ∨ (bok L r C = false ∧ ∀ t, ¬ Tn L r C t) := by
  rcases back_or L r C with ⟨t, h⟩ | h
  · exact .inl ⟨bok_yes h, t, h⟩
  · exact .inr ⟨bok_no h, h⟩
noncomputable def stE (L : List Nat) (r : Int) (C : List Int) (i : Int) : Int := if bok L r C then (if i < 0 ∨ (L.length : Int) < i then 3 else 0) else 2
noncomputable def stN (L : List Nat) (r : Int) (C : List Int) (i : Int) : Nat := if stE L r C i = 0 then stp L r.toNat (first L) i.toNat else 0
noncomputable def rnN (L : List Nat) (r : Int) (C : List Int) : Nat := if bok L r C then rn L L.length else 0
theorem st_in {L : List Nat} {r : Int} {C : List Int} {i : Nat} (h : bok L r C = true) (hi : i ≤ L.length) : stE L r C i = 0 ∧ stN L r C i = stp L r.toNat (first L) i := by
  have e : stE L r C i = 0 := by
    unfold stE
    rw [if_pos h, if_neg (by omega)]
  refine ⟨e, ?_⟩
  unfold stN
  rw [if_pos e, Int.toNat_natCast]
theorem st_out {L : List Nat} {r : Int} {C : List Int} {i : Int} (h : bok L r C = true) (hi : i < 0 ∨ (L.length : Int) < i) : stE L r C i = 3 ∧ stN L r C i = 0 := by
  have e : stE L r C i = 3 := by
    unfold stE
    rw [if_pos h, if_pos hi]
  refine ⟨e, ?_⟩
  unfold stN
  rw [if_neg (by rw [e]; decide)]
theorem st_bad {L : List Nat} {r : Int} {C : List Int} {i : Int} (h : bok L r C = false) : stE L r C i = 2 ∧ stN L r C i = 0 := by
  have e : stE L r C i = 2 := by
    unfold stE
    rw [if_neg (by rw [h]; decide)]
  refine ⟨e, ?_⟩
  unfold stN
  rw [if_neg (by rw [e]; decide)]
end Su
/-- A turned text in memory. -/
structure BA (w : World) (ao : Option Addr) (L : List Nat) (ac : Nat) (bo : Option Addr) (C : List Int) (bc : Nat) : Prop where
  x : Bd w ao L
  b : Bytes L
  a : L.length ≤ ac
  n : Nd w bo C
  c : C.length ≤ 1048576
theorem BA.keep {w w' : World} {ao : Option Addr} {L : List Nat} {ac : Nat} {bo : Option Addr} {C : List Int} {bc : Nat} (h : BA w ao L ac bo C bc) (hb : Below w.heap.size w w') : BA w' ao L ac bo C bc := ⟨h.x.keep hb, h.b, h.a, h.n.keep hb, h.c⟩
end Go.Proofs.Ytojjinjgmijgcaa
