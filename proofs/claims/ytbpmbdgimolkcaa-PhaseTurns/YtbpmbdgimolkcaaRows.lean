/-
  No cell of these rows narrows 'for every input' (looked for: loops, veiled, ifaces, maps, wideKeys, modest, calm, conditions, laid).
  DERIVED. THE GIVEN ROWS OF THIS SEAT. 3 by the template 'for every input the law returns true; each argument reads behind the call as it read before'; 0 by the template 'total and deterministic' (their statements: YtbpmbdgimolkcaaTotals.lean).
  GIVEN WITH THE SEED: the statements are not yours to turn. If you find one false, say at which input.
  Laid BY PROGRAM, IN A SANDBOX (cutbox-rows.mjs): the forced cells as the released guide's own fill.sh prints them over the translation 58c7413592f9a3c0… (all of the seat's roots in one cut). By AI agents, Wed Nov 11 2026. No macro, syntax, notation, axiom, sorry.
-/
import Derived.Test.YtbpmbdgimolkcaaChecked
import GoSem.Claim
import GoSem.ClaimJoined
import GoSem.ClaimMapViews
import Derived.JoinedTies
import Derived.KernelRfl
namespace Go.Proofs.Ytbpmbdgimolkcaa
/- THE CELL 'sum', in the pinned program and in every row, IS THE sha256 OF THE DUMP (.gsa) THAT YtbpmbdgimolkcaaProg.lean LOADS. Nothing in Lean hashes anything: it is a label: what it is worth is what the hold of that sum in a sandbox is worth. -/
noncomputable def Try.pinned : Pinned := { name := "ytbpmbdgimolkcaa", sum := "58c7413592f9a3c0bf3b344de0c093bcd93170cc3c6865e985eab8d85281d813", checked := Try.checked }
namespace Rows
def none {H : Type} : Left H := { results := [], args := [] }

/-- 'haystacklaw23.PhaseBounds': WHATEVER THE INPUT: true; the input reads as it did. -/
def phaseBoundsSpec : ChangeSpec := { name := "phaseBounds", fn := fun _ => fun
  | [d1, d2] => { results := [.lit (.bool true)], args := [d1, d2] }
  | _ => none }
def phaseBoundsRow : OpenClaim := { program := "ytbpmbdgimolkcaa", sum := "58c7413592f9a3c0bf3b344de0c093bcd93170cc3c6865e985eab8d85281d813", func := "haystack/haystacklaw23.PhaseBounds", spec := "phaseBounds", apart := false }
def PhaseBoundsSaid : Prop := phaseBoundsRow.holds Try.pinned (OpenSpec.ofChange phaseBoundsSpec)

/-- ITS FALSE NEIGHBOUR: 'it returns false'. Refute it at one input. -/
def phaseBoundsWrong : ChangeSpec := { name := "phaseBounds", fn := fun _ => fun
  | [d1, d2] => { results := [.lit (.bool false)], args := [d1, d2] }
  | _ => none }
def PhaseBoundsWrongFalsely : Prop := phaseBoundsRow.holds Try.pinned (OpenSpec.ofChange phaseBoundsWrong)

/-- 'haystacklaw23.PhaseTurns': WHATEVER THE INPUT: true; the input reads as it did. -/
def phaseTurnsSpec : ChangeSpec := { name := "phaseTurns", fn := fun _ => fun
  | [d1, d2] => { results := [.lit (.bool true)], args := [d1, d2] }
  | _ => none }
def phaseTurnsRow : OpenClaim := { program := "ytbpmbdgimolkcaa", sum := "58c7413592f9a3c0bf3b344de0c093bcd93170cc3c6865e985eab8d85281d813", func := "haystack/haystacklaw23.PhaseTurns", spec := "phaseTurns", apart := false }
def PhaseTurnsSaid : Prop := phaseTurnsRow.holds Try.pinned (OpenSpec.ofChange phaseTurnsSpec)

/-- ITS FALSE NEIGHBOUR: 'it returns false'. Refute it at one input. -/
def phaseTurnsWrong : ChangeSpec := { name := "phaseTurns", fn := fun _ => fun
  | [d1, d2] => { results := [.lit (.bool false)], args := [d1, d2] }
  | _ => none }
def PhaseTurnsWrongFalsely : Prop := phaseTurnsRow.holds Try.pinned (OpenSpec.ofChange phaseTurnsWrong)

/-- 'haystacklaw23.PhaseFilters': WHATEVER THE INPUT: true; the input reads as it did. -/
def phaseFiltersSpec : ChangeSpec := { name := "phaseFilters", fn := fun _ => fun
  | [d1, d2] => { results := [.lit (.bool true)], args := [d1, d2] }
  | _ => none }
def phaseFiltersRow : OpenClaim := { program := "ytbpmbdgimolkcaa", sum := "58c7413592f9a3c0bf3b344de0c093bcd93170cc3c6865e985eab8d85281d813", func := "haystack/haystacklaw23.PhaseFilters", spec := "phaseFilters", apart := false }
def PhaseFiltersSaid : Prop := phaseFiltersRow.holds Try.pinned (OpenSpec.ofChange phaseFiltersSpec)

/-- ITS FALSE NEIGHBOUR: 'it returns false'. Refute it at one input. -/
def phaseFiltersWrong : ChangeSpec := { name := "phaseFilters", fn := fun _ => fun
  | [d1, d2] => { results := [.lit (.bool false)], args := [d1, d2] }
  | _ => none }
def PhaseFiltersWrongFalsely : Prop := phaseFiltersRow.holds Try.pinned (OpenSpec.ofChange phaseFiltersWrong)

/- THE SECOND FORM. 'bulk': how many values and letters a reading holds, each counted each time it is reached (what is shared counts as often as it is met; a slice's spare places count too). A statement '..UptoSaid' is the law's where the arguments, and the package variables that the reading takes, are together of bulk at most 1048576: NARROWER than '..Said'. Prove '..Said' where nothing that the law and all that it calls make is longer than what came in: it says more and counts as full. Else prove '..UptoSaid'. A law counts once. -/
mutual
def uptoBulk {H : Type} : DataW H → Nat
  | .lit (.string bytes) => bytes.length + 1
  | .lit _ => 1
  | .nil => 1
  | .ptr d => uptoBulk d + 1
  | .slice elems spare => uptoBulkAll elems + uptoBulkAll spare + 1
  | .agg parts => uptoBulkAll parts + 1
  | .iface _ d => uptoBulk d + 1
  | .map entries => uptoBulkEntries entries + 1
  | .held _ => 1
def uptoBulkAll {H : Type} : List (DataW H) → Nat
  | [] => 0
  | d :: r => uptoBulk d + uptoBulkAll r
def uptoBulkEntries {H : Type} : List (Lit × DataW H) → Nat
  | [] => 0
  | x :: r => uptoBulkEntry x + uptoBulkEntries r
def uptoBulkEntry {H : Type} : Lit × DataW H → Nat
  | (.string bytes, d) => bytes.length + uptoBulk d + 1
  | (_, d) => uptoBulk d + 1
 end
def uptoSmall : (H : Type) → List (DataW H) → Bool := fun _ ds => decide (uptoBulkAll ds ≤ 1048576)
def OpenSpec.upto (s : _root_.Go.ChangeSpec) : _root_.Go.OpenSpec := { _root_.Go.OpenSpec.ofChange s with cond := some uptoSmall }

/-- 'haystacklaw23.PhaseBounds', WHERE WHAT IT READS IS OF BULK AT MOST 1048576: true; the input reads as it did. -/
def phaseBoundsUptoRow : OpenClaim := { program := "ytbpmbdgimolkcaa", sum := "58c7413592f9a3c0bf3b344de0c093bcd93170cc3c6865e985eab8d85281d813", func := "haystack/haystacklaw23.PhaseBounds", spec := "phaseBounds", apart := false, narrowed := true }
def PhaseBoundsUptoSaid : Prop := phaseBoundsUptoRow.holds Try.pinned (OpenSpec.upto phaseBoundsSpec)

/-- 'haystacklaw23.PhaseTurns', WHERE WHAT IT READS IS OF BULK AT MOST 1048576: true; the input reads as it did. -/
def phaseTurnsUptoRow : OpenClaim := { program := "ytbpmbdgimolkcaa", sum := "58c7413592f9a3c0bf3b344de0c093bcd93170cc3c6865e985eab8d85281d813", func := "haystack/haystacklaw23.PhaseTurns", spec := "phaseTurns", apart := false, narrowed := true }
def PhaseTurnsUptoSaid : Prop := phaseTurnsUptoRow.holds Try.pinned (OpenSpec.upto phaseTurnsSpec)

/-- 'haystacklaw23.PhaseFilters', WHERE WHAT IT READS IS OF BULK AT MOST 1048576: true; the input reads as it did. -/
def phaseFiltersUptoRow : OpenClaim := { program := "ytbpmbdgimolkcaa", sum := "58c7413592f9a3c0bf3b344de0c093bcd93170cc3c6865e985eab8d85281d813", func := "haystack/haystacklaw23.PhaseFilters", spec := "phaseFilters", apart := false, narrowed := true }
def PhaseFiltersUptoSaid : Prop := phaseFiltersUptoRow.holds Try.pinned (OpenSpec.upto phaseFiltersSpec)

end Rows
end Go.Proofs.Ytbpmbdgimolkcaa
