/-
  No cell of these rows narrows 'for every input' (looked for: loops, veiled, ifaces, maps, wideKeys, modest, calm, conditions, laid).
  DERIVED. THE GIVEN ROWS OF THIS SEAT. 4 by the template 'for every input the law returns true; each argument reads behind the call as it read before'; 0 by the template 'total and deterministic' (their statements: YtckkhmmicbpihaaTotals.lean).
  GIVEN WITH THE SEED: the statements are not yours to turn. If you find one false, say at which input.
  Laid BY PROGRAM, IN A SANDBOX (cutbox-rows.mjs): the forced cells as the released guide's own fill.sh prints them over the translation ab82e25c5edc5ce5… (all of the seat's roots in one cut). By AI agents, Wed Nov 11 2026. No macro, syntax, notation, axiom, sorry.
-/
import Derived.Test.YtckkhmmicbpihaaChecked
import GoSem.Claim
import GoSem.ClaimJoined
import GoSem.ClaimMapViews
import Derived.JoinedTies
import Derived.KernelRfl
namespace Go.Proofs.Ytckkhmmicbpihaa
/- THE CELL 'sum', in the pinned program and in every row, IS THE sha256 OF THE DUMP (.gsa) THAT YtckkhmmicbpihaaProg.lean LOADS. Nothing in Lean hashes anything: it is a label: what it is worth is what the hold of that sum in a sandbox is worth. -/
noncomputable def Try.pinned : Pinned := { name := "ytckkhmmicbpihaa", sum := "ab82e25c5edc5ce528a23a6f1ef7b3e178f0b24e06e2dbc2344c07869b8fd5e5", checked := Try.checked }
namespace Rows
def none {H : Type} : Left H := { results := [], args := [] }

/-- 'haystacklaw21.PlannerSteps': WHATEVER THE INPUT: true; the input reads as it did. -/
def plannerStepsSpec : ChangeSpec := { name := "plannerSteps", fn := fun _ => fun
  | [d1, d2] => { results := [.lit (.bool true)], args := [d1, d2] }
  | _ => none }
def plannerStepsRow : OpenClaim := { program := "ytckkhmmicbpihaa", sum := "ab82e25c5edc5ce528a23a6f1ef7b3e178f0b24e06e2dbc2344c07869b8fd5e5", func := "haystack/haystacklaw21.PlannerSteps", spec := "plannerSteps", unfollowed := true, recurses := true, plainKeys := false, apart := false }
def PlannerStepsSaid : Prop := plannerStepsRow.holds Try.pinned (OpenSpec.ofChange plannerStepsSpec)

/-- ITS FALSE NEIGHBOUR: 'it returns false'. Refute it at one input. -/
def plannerStepsWrong : ChangeSpec := { name := "plannerSteps", fn := fun _ => fun
  | [d1, d2] => { results := [.lit (.bool false)], args := [d1, d2] }
  | _ => none }
def PlannerStepsWrongFalsely : Prop := plannerStepsRow.holds Try.pinned (OpenSpec.ofChange plannerStepsWrong)

/-- 'haystacklaw21.PlannerTells': WHATEVER THE INPUT: true; the input reads as it did. -/
def plannerTellsSpec : ChangeSpec := { name := "plannerTells", fn := fun _ => fun
  | [d1, d2, d3, d4, d5] => { results := [.lit (.bool true)], args := [d1, d2, d3, d4, d5] }
  | _ => none }
def plannerTellsRow : OpenClaim := { program := "ytckkhmmicbpihaa", sum := "ab82e25c5edc5ce528a23a6f1ef7b3e178f0b24e06e2dbc2344c07869b8fd5e5", func := "haystack/haystacklaw21.PlannerTells", spec := "plannerTells", unfollowed := true, recurses := true, plainKeys := false, apart := false }
def PlannerTellsSaid : Prop := plannerTellsRow.holds Try.pinned (OpenSpec.ofChange plannerTellsSpec)

/-- ITS FALSE NEIGHBOUR: 'it returns false'. Refute it at one input. -/
def plannerTellsWrong : ChangeSpec := { name := "plannerTells", fn := fun _ => fun
  | [d1, d2, d3, d4, d5] => { results := [.lit (.bool false)], args := [d1, d2, d3, d4, d5] }
  | _ => none }
def PlannerTellsWrongFalsely : Prop := plannerTellsRow.holds Try.pinned (OpenSpec.ofChange plannerTellsWrong)

/-- 'haystacklaw21.PlannerChooses': WHATEVER THE INPUT: true; the input reads as it did. -/
def plannerChoosesSpec : ChangeSpec := { name := "plannerChooses", fn := fun _ => fun
  | [d1, d2] => { results := [.lit (.bool true)], args := [d1, d2] }
  | _ => none }
def plannerChoosesRow : OpenClaim := { program := "ytckkhmmicbpihaa", sum := "ab82e25c5edc5ce528a23a6f1ef7b3e178f0b24e06e2dbc2344c07869b8fd5e5", func := "haystack/haystacklaw21.PlannerChooses", spec := "plannerChooses", unfollowed := true, recurses := true, plainKeys := false, apart := false }
def PlannerChoosesSaid : Prop := plannerChoosesRow.holds Try.pinned (OpenSpec.ofChange plannerChoosesSpec)

/-- ITS FALSE NEIGHBOUR: 'it returns false'. Refute it at one input. -/
def plannerChoosesWrong : ChangeSpec := { name := "plannerChooses", fn := fun _ => fun
  | [d1, d2] => { results := [.lit (.bool false)], args := [d1, d2] }
  | _ => none }
def PlannerChoosesWrongFalsely : Prop := plannerChoosesRow.holds Try.pinned (OpenSpec.ofChange plannerChoosesWrong)

/-- 'haystacklaw21.PlannerBest': WHATEVER THE INPUT: true; the input reads as it did. -/
def plannerBestSpec : ChangeSpec := { name := "plannerBest", fn := fun _ => fun
  | [d1, d2, d3] => { results := [.lit (.bool true)], args := [d1, d2, d3] }
  | _ => none }
def plannerBestRow : OpenClaim := { program := "ytckkhmmicbpihaa", sum := "ab82e25c5edc5ce528a23a6f1ef7b3e178f0b24e06e2dbc2344c07869b8fd5e5", func := "haystack/haystacklaw21.PlannerBest", spec := "plannerBest", unfollowed := true, recurses := true, plainKeys := false, apart := false }
def PlannerBestSaid : Prop := plannerBestRow.holds Try.pinned (OpenSpec.ofChange plannerBestSpec)

/-- ITS FALSE NEIGHBOUR: 'it returns false'. Refute it at one input. -/
def plannerBestWrong : ChangeSpec := { name := "plannerBest", fn := fun _ => fun
  | [d1, d2, d3] => { results := [.lit (.bool false)], args := [d1, d2, d3] }
  | _ => none }
def PlannerBestWrongFalsely : Prop := plannerBestRow.holds Try.pinned (OpenSpec.ofChange plannerBestWrong)

/- THE SECOND FORM. 'bulk': how many values and letters a reading holds, each counted each time it is reached (what is shared counts as often as it is met; a slice's spare places count too). A statement '..UptoSaid' is the law's where the arguments, and the package variables that the reading takes, are together of bulk at most 1048576: NARROWER than '..Said'. Prove '..Said' where nothing that the law and all that it calls make is longer than what came in: it says more and counts as full. Else prove '..UptoSaid'. A law counts once. -/
mutual
def uptoBulk {H : Type} : DataW H → Nat
  | .lit (.string bytes) => bytes.length + 1
  | .lit _ => 1
  | .nil => 1
  | .ptr d => uptoBulk d + 1
  | .slice elems spare => uptoBulkAll elems + uptoBulkAll spare + 1
  | .agg parts => uptoBulkAll parts + 1
  | .iface _ d => uptoBulk d + 1
  | .map entries => uptoBulkEntries entries + 1
  | .held _ => 1
def uptoBulkAll {H : Type} : List (DataW H) → Nat
  | [] => 0
  | d :: r => uptoBulk d + uptoBulkAll r
def uptoBulkEntries {H : Type} : List (Lit × DataW H) → Nat
  | [] => 0
  | x :: r => uptoBulkEntry x + uptoBulkEntries r
def uptoBulkEntry {H : Type} : Lit × DataW H → Nat
  | (.string bytes, d) => bytes.length + uptoBulk d + 1
  | (_, d) => uptoBulk d + 1
 end
def uptoSmall : (H : Type) → List (DataW H) → Bool := fun _ ds => decide (uptoBulkAll ds ≤ 1048576)
def OpenSpec.upto (s : _root_.Go.ChangeSpec) : _root_.Go.OpenSpec := { _root_.Go.OpenSpec.ofChange s with cond := some uptoSmall }

/-- 'haystacklaw21.PlannerSteps', WHERE WHAT IT READS IS OF BULK AT MOST 1048576: true; the input reads as it did. -/
def plannerStepsUptoRow : OpenClaim := { program := "ytckkhmmicbpihaa", sum := "ab82e25c5edc5ce528a23a6f1ef7b3e178f0b24e06e2dbc2344c07869b8fd5e5", func := "haystack/haystacklaw21.PlannerSteps", spec := "plannerSteps", unfollowed := true, recurses := true, plainKeys := false, apart := false, narrowed := true }
def PlannerStepsUptoSaid : Prop := plannerStepsUptoRow.holds Try.pinned (OpenSpec.upto plannerStepsSpec)

/-- 'haystacklaw21.PlannerTells', WHERE WHAT IT READS IS OF BULK AT MOST 1048576: true; the input reads as it did. -/
def plannerTellsUptoRow : OpenClaim := { program := "ytckkhmmicbpihaa", sum := "ab82e25c5edc5ce528a23a6f1ef7b3e178f0b24e06e2dbc2344c07869b8fd5e5", func := "haystack/haystacklaw21.PlannerTells", spec := "plannerTells", unfollowed := true, recurses := true, plainKeys := false, apart := false, narrowed := true }
def PlannerTellsUptoSaid : Prop := plannerTellsUptoRow.holds Try.pinned (OpenSpec.upto plannerTellsSpec)

/-- 'haystacklaw21.PlannerChooses', WHERE WHAT IT READS IS OF BULK AT MOST 1048576: true; the input reads as it did. -/
def plannerChoosesUptoRow : OpenClaim := { program := "ytckkhmmicbpihaa", sum := "ab82e25c5edc5ce528a23a6f1ef7b3e178f0b24e06e2dbc2344c07869b8fd5e5", func := "haystack/haystacklaw21.PlannerChooses", spec := "plannerChooses", unfollowed := true, recurses := true, plainKeys := false, apart := false, narrowed := true }
def PlannerChoosesUptoSaid : Prop := plannerChoosesUptoRow.holds Try.pinned (OpenSpec.upto plannerChoosesSpec)

/-- 'haystacklaw21.PlannerBest', WHERE WHAT IT READS IS OF BULK AT MOST 1048576: true; the input reads as it did. -/
def plannerBestUptoRow : OpenClaim := { program := "ytckkhmmicbpihaa", sum := "ab82e25c5edc5ce528a23a6f1ef7b3e178f0b24e06e2dbc2344c07869b8fd5e5", func := "haystack/haystacklaw21.PlannerBest", spec := "plannerBest", unfollowed := true, recurses := true, plainKeys := false, apart := false, narrowed := true }
def PlannerBestUptoSaid : Prop := plannerBestUptoRow.holds Try.pinned (OpenSpec.upto plannerBestSpec)

end Rows
end Go.Proofs.Ytckkhmmicbpihaa
