/-
  A row with counts that is handed in: what is known of it.
-/
import Derived.Test.YtcgnphffjfffgaaRd9
namespace Go.Proofs.Ytcgnphffjfffgaa
open Go.RowKit Num Bit
set_option linter.unusedVariables false

structure PlIn (w : World) (N : Int) (ao : Option Addr) (xs : List Nat) (cap : Nat) (so : Option Addr) (su : List Int) (sc : Nat) (tO : Option Addr) (sb : List Int) (tc : Nat) : Prop where
  n : -9223372036854775808 ≤ N ∧ N ≤ 9223372036854775807
  x : Wd w ao xs
  f : Fit xs
  c : xs.length ≤ cap
  l : xs.length ≤ 1048576
  s : Nd w so su
  sf : FitI su
  sc : su.length ≤ sc
  sl : su.length ≤ 1048576
  t : Nd w tO sb
  tf : FitI sb
  tc : sb.length ≤ tc
  tl : sb.length ≤ 1048576
theorem PlIn.keep {w w' : World} {N : Int} {ao : Option Addr} {xs : List Nat} {cap : Nat} {so : Option Addr} {su : List Int} {sc : Nat} {tO : Option Addr} {sb : List Int} {tc : Nat} (h : PlIn w N ao xs cap so su sc tO sb tc) (hb : Below w.heap.size w w') : PlIn w' N ao xs cap so su sc tO sb tc :=
  ⟨h.n, h.x.keep hb, h.f, h.c, h.l, h.s.keep hb, h.sf, h.sc, h.sl, h.t.keep hb, h.tf, h.tc, h.tl⟩
/-- A row with counts as it comes in, however long. -/
structure PlArg (w : World) (N : Int) (ao : Option Addr) (xs : List Nat) (cap : Nat) (so : Option Addr) (su : List Int) (sc : Nat) (tO : Option Addr) (sb : List Int) (tc : Nat) : Prop where
  n : -9223372036854775808 ≤ N ∧ N ≤ 9223372036854775807
  x : Wd w ao xs
  f : Fit xs
  c : xs.length ≤ cap
  s : Nd w so su
  sf : FitI su
  sc : su.length ≤ sc
  t : Nd w tO sb
  tf : FitI sb
  tc : sb.length ≤ tc
theorem PlArg.plin {w : World} {N : Int} {ao : Option Addr} {xs : List Nat} {cap : Nat} {so : Option Addr} {su : List Int} {sc : Nat} {tO : Option Addr} {sb : List Int} {tc : Nat} (h : PlArg w N ao xs cap so su sc tO sb tc) (h1 : xs.length ≤ 1048576) (h2 : su.length ≤ 1048576) (h3 : sb.length ≤ 1048576) : PlIn w N ao xs cap so su sc tO sb tc :=
  ⟨h.n, h.x, h.f, h.c, h1, h.s, h.sf, h.sc, h2, h.t, h.tf, h.tc, h3⟩
theorem fit_sup (N : Int) (xs : List Nat) : FitI (supL N xs) := by
  intro i
  by_cases c : i < (supL N xs).length
  · unfold supL at c ⊢
    rw [length_supP] at c
    rw [gi_supP _ _ _ _ c]
    have := supI_bound N xs i
    omega
  · unfold gi
    rw [List.getD_eq_getElem?_getD, List.getElem?_eq_none (by omega)]
    decide
theorem fit_sub (N : Int) (xs : List Nat) : FitI (subL N xs) := by
  intro i
  by_cases c : i < (subL N xs).length
  · unfold subL at c ⊢
    rw [length_subP] at c
    rw [gi_subP _ _ _ _ c]
    have := subI_bound N xs i
    omega
  · unfold gi
    rw [List.getD_eq_getElem?_getD, List.getElem?_eq_none (by omega)]
    decide
/-- What Build answers may be handed in. -/
theorem PlOut.plin {w : World} {bo : Option Addr} {bc : Nat} {so : Option Addr} {sc : Nat} {tO : Option Addr} {tc : Nat} (N : Int) (xs : List Nat) (hn : -9223372036854775808 ≤ N ∧ N ≤ 9223372036854775807) (hf : Fit xs) (hl : xs.length ≤ 1048576) (h : PlOut w bo (pbX N xs) bc so (pbS N xs) sc tO (pbT N xs) tc) :
    PlIn w (pbN N xs) bo (pbX N xs) bc so (pbS N xs) sc tO (pbT N xs) tc := by
  have e1 : -9223372036854775808 ≤ pbN N xs ∧ pbN N xs ≤ 9223372036854775807 := by unfold pbN; split <;> omega
  have e2 : Fit (pbX N xs) := by
    unfold pbX
    split
    · exact hf
    · intro i; unfold gt; simp
  have e3 : (pbX N xs).length ≤ 1048576 := by
    unfold pbX
    split
    · exact hl
    · simp
  have e4 : FitI (pbS N xs) := by
    unfold pbS
    split
    · exact fit_sup N xs
    · intro i; unfold gi; simp
  have e5 : (pbS N xs).length ≤ 1048576 := by
    unfold pbS
    split
    · rename_i hk
      obtain ⟨h0, h1, _, _⟩ := chk_out N xs hk
      rw [length_supL]; omega
    · simp
  have e6 : FitI (pbT N xs) := by
    unfold pbT
    split
    · exact fit_sub N xs
    · intro i; unfold gi; simp
  have e7 : (pbT N xs).length ≤ 1048576 := by
    unfold pbT
    split
    · rw [length_subL]; omega
    · simp
  exact ⟨e1, h.x, e2, h.xc, e3, h.s, e4, h.sc, e5, h.t, e6, h.tc, e7⟩
end Go.Proofs.Ytcgnphffjfffgaa
