/-
  The contracts of the document's Array of whatever text, and Check.
-/
import Derived.Test.YtojjinjgmijgcaaRk
namespace Go.Proofs.Ytojjinjgmijgcaa
open Go.RowKit
set_option linter.unusedVariables false
set_option linter.unusedSimpArgs false
set_option maxRecDepth 100000

namespace Su
noncomputable def arrL (t : List Nat) : List Nat := if t.length ≤ 8192 then sa t else []
def arrE (t : List Nat) : Int := if t.length ≤ 8192 then 0 else 4
theorem arr_in {t : List Nat} (h : t.length ≤ 8192) : arrL t = sa t ∧ arrE t = 0 := by
  unfold arrL arrE
  rw [if_pos h, if_pos h]
  exact ⟨rfl, rfl⟩
theorem arr_out {t : List Nat} (h : ¬ t.length ≤ 8192) : arrL t = [] ∧ arrE t = 4 := by
  unfold arrL arrE
  rw [if_neg h, if_neg h]
  exact ⟨rfl, rfl⟩
noncomputable def chk (t : List Nat) (l : List Int) : Bool := decide (t.length ≤ 8192) && decide (toI (sa t) = l)
end Su
/-- What an Array answers. -/
def ArrQ (t : List Nat) (w : World) (e : Ending) (w' : World) : Prop := ∃ bo dap, e = .returned (.tuple #[.slice bo (Su.arrL t).length dap, .int .i64 (Su.arrE t)]) ∧ Nd w' bo (toI (Su.arrL t)) ∧ (Su.arrL t).length ≤ dap ∧ Below w.heap.size w w'
set_option maxHeartbeats 2000000 in
theorem rarr_a (ao : Option Addr) (t : List Nat) (cap : Nat) (w : World) (hx : Bd w ao t) (hb : Bytes t) (hc : t.length ≤ cap) :
    Calls Try.prog 13 #[.slice ao t.length cap] w (ArrQ t w) := by
  by_cases h : t.length ≤ 8192
  · refine (rarr_c ao t cap w hx hb hc h).mono fun e w' H => ?_
    unfold ArrQ
    rw [(Su.arr_in h).1, (Su.arr_in h).2]
    exact H
  · have h2 : (8192 : Int) < (t.length : Int) := by omega
    have R := hide (Su.arr_out h)
    clear hx hb hc h
    go_enter Try.func13, Try.ntmps13
    go_wp2
    go_ret2
    unfold ArrQ
    rw [R.out.1, R.out.2]
    exact ⟨none, 0, rfl, nd0 _ _, Nat.zero_le _, Below.refl _ _⟩
end Go.Proofs.Ytojjinjgmijgcaa
