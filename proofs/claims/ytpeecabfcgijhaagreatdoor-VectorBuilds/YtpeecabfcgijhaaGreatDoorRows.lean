/-
  NARROWER THAN 'FOR EVERY INPUT', by the rows' own cells (each row's printed sentence says how): VectorAlike: laid · VectorBuilds: laid · VectorTells: laid · VectorBack: laid.
  DERIVED. THE GIVEN ROWS OF THIS SEAT. 4 by the template 'for every input the law returns true; each argument reads behind the call as it read before'; 0 by the template 'total and deterministic' (their statements: YtpeecabfcgijhaaGreatDoorTotals.lean).
  GIVEN WITH THE SEED: the statements are not yours to turn. If you find one false, say at which input.
  Laid BY PROGRAM, IN A SANDBOX (cutbox-rows.mjs): the forced cells as the released guide's own fill.sh prints them over the translation 754346434cf1377e… (all of the seat's roots in one cut). By AI agents, Wed Nov 11 2026. No macro, syntax, notation, axiom, sorry.
-/
import Derived.Test.YtpeecabfcgijhaaGreatDoorChecked
import GoSem.Claim
import GoSem.ClaimJoined
import GoSem.ClaimMapViews
import Derived.JoinedTies
import Derived.KernelRfl
namespace Go.Proofs.YtpeecabfcgijhaaGreatDoor
/- THE CELL 'sum', in the pinned program and in every row, IS THE sha256 OF THE DUMP (.gsa) THAT YtpeecabfcgijhaaGreatDoorProg.lean LOADS. Nothing in Lean hashes anything: it is a label: what it is worth is what the hold of that sum in a sandbox is worth. -/
noncomputable def Tryz.pinned : Pinned := { name := "ytpeecabfcgijhaagreatdoor", sum := "754346434cf1377e90b060de65d99c9d7444cab96e723780aeb47a055c1548d7", checked := Tryz.checked }
namespace Rows
def none {H : Type} : Left H := { results := [], args := [] }

/- WHAT THE LISTED PACKAGE-LEVEL VARIABLES READ AS WHEN THE CALL BEGINS. Each datum BY PROGRAM (the guide's laid-datum.mjs) off the statement by which the dump's own 'gosem.cut.vars' lays the variable. In a bare row this is a premise. The card (YtpeecabfcgijhaaGreatDoorCards.lean) ties it to the program's text. -/
def laid_errors_errorType {H : Type} : DataW H := .iface "internal/reflectlite.rtype" (.agg [.ptr (.lit (.string [101, 114, 114, 111, 114]))])
def laid_haystack_rrr_ways {H : Type} : DataW H := .agg [.lit (.int .u64 1), .lit (.int .u64 15), .lit (.int .u64 105), .lit (.int .u64 455), .lit (.int .u64 1365), .lit (.int .u64 3003), .lit (.int .u64 5005), .lit (.int .u64 6435), .lit (.int .u64 6435), .lit (.int .u64 5005), .lit (.int .u64 3003), .lit (.int .u64 1365), .lit (.int .u64 455), .lit (.int .u64 105), .lit (.int .u64 15), .lit (.int .u64 1)]
def laid_haystack_rrr_widths {H : Type} : DataW H := .agg [.lit (.int .i64 0), .lit (.int .i64 4), .lit (.int .i64 7), .lit (.int .i64 9), .lit (.int .i64 11), .lit (.int .i64 12), .lit (.int .i64 13), .lit (.int .i64 13), .lit (.int .i64 13), .lit (.int .i64 13), .lit (.int .i64 12), .lit (.int .i64 11), .lit (.int .i64 9), .lit (.int .i64 7), .lit (.int .i64 4), .lit (.int .i64 0)]

/-- 'haystacklaw10.VectorAlike': WHATEVER THE INPUT: true; the input reads as it did. -/
def vectorAlikeSpec : ChangeSpec := { name := "vectorAlike", fn := fun _ => fun
  | [d1, d2, d3, d4] => { results := [.lit (.bool true)], args := [d1, d2, d3, d4] }
  | _ => none }
def vectorAlikeRow : OpenClaim := { program := "ytpeecabfcgijhaagreatdoor", sum := "754346434cf1377e90b060de65d99c9d7444cab96e723780aeb47a055c1548d7", func := "haystack/haystacklaw10.VectorAlike", spec := "vectorAlike", inPlace := ["internal/reflectlite.ValueOf", "(internal/reflectlite.Value).Type", "(internal/reflectlite.Value).IsNil", "internal/reflectlite.TypeOf", "(internal/reflectlite.Value).Elem", "(internal/reflectlite.Value).Set"], unfollowed := true, recurses := true, named := ["haystack/rrr.widths", "errors.errorType", "haystack/rrr.ways"], apart := false, laid := [("errors.errorType", laid_errors_errorType), ("haystack/rrr.ways", laid_haystack_rrr_ways), ("haystack/rrr.widths", laid_haystack_rrr_widths)] }
def VectorAlikeSaid : Prop := vectorAlikeRow.holds Tryz.pinned (OpenSpec.ofChange vectorAlikeSpec)

/-- ITS FALSE NEIGHBOUR: 'it returns false'. Refute it at one input. -/
def vectorAlikeWrong : ChangeSpec := { name := "vectorAlike", fn := fun _ => fun
  | [d1, d2, d3, d4] => { results := [.lit (.bool false)], args := [d1, d2, d3, d4] }
  | _ => none }
def VectorAlikeWrongFalsely : Prop := vectorAlikeRow.holds Tryz.pinned (OpenSpec.ofChange vectorAlikeWrong)

/-- 'haystacklaw10.VectorBuilds': WHATEVER THE INPUT: true; the input reads as it did. -/
def vectorBuildsSpec : ChangeSpec := { name := "vectorBuilds", fn := fun _ => fun
  | [d1, d2] => { results := [.lit (.bool true)], args := [d1, d2] }
  | _ => none }
def vectorBuildsRow : OpenClaim := { program := "ytpeecabfcgijhaagreatdoor", sum := "754346434cf1377e90b060de65d99c9d7444cab96e723780aeb47a055c1548d7", func := "haystack/haystacklaw10.VectorBuilds", spec := "vectorBuilds", inPlace := ["internal/reflectlite.ValueOf", "(internal/reflectlite.Value).Type", "(internal/reflectlite.Value).IsNil", "internal/reflectlite.TypeOf", "(internal/reflectlite.Value).Elem", "(internal/reflectlite.Value).Set"], unfollowed := true, recurses := true, named := ["haystack/rrr.widths", "errors.errorType", "haystack/rrr.ways"], apart := false, laid := [("errors.errorType", laid_errors_errorType), ("haystack/rrr.ways", laid_haystack_rrr_ways), ("haystack/rrr.widths", laid_haystack_rrr_widths)] }
def VectorBuildsSaid : Prop := vectorBuildsRow.holds Tryz.pinned (OpenSpec.ofChange vectorBuildsSpec)

/-- ITS FALSE NEIGHBOUR: 'it returns false'. Refute it at one input. -/
def vectorBuildsWrong : ChangeSpec := { name := "vectorBuilds", fn := fun _ => fun
  | [d1, d2] => { results := [.lit (.bool false)], args := [d1, d2] }
  | _ => none }
def VectorBuildsWrongFalsely : Prop := vectorBuildsRow.holds Tryz.pinned (OpenSpec.ofChange vectorBuildsWrong)

/-- 'haystacklaw10.VectorTells': WHATEVER THE INPUT: true; the input reads as it did. -/
def vectorTellsSpec : ChangeSpec := { name := "vectorTells", fn := fun _ => fun
  | [d1, d2, d3] => { results := [.lit (.bool true)], args := [d1, d2, d3] }
  | _ => none }
def vectorTellsRow : OpenClaim := { program := "ytpeecabfcgijhaagreatdoor", sum := "754346434cf1377e90b060de65d99c9d7444cab96e723780aeb47a055c1548d7", func := "haystack/haystacklaw10.VectorTells", spec := "vectorTells", inPlace := ["internal/reflectlite.ValueOf", "(internal/reflectlite.Value).Type", "(internal/reflectlite.Value).IsNil", "internal/reflectlite.TypeOf", "(internal/reflectlite.Value).Elem", "(internal/reflectlite.Value).Set"], unfollowed := true, recurses := true, named := ["haystack/rrr.widths", "errors.errorType", "haystack/rrr.ways"], apart := false, laid := [("errors.errorType", laid_errors_errorType), ("haystack/rrr.ways", laid_haystack_rrr_ways), ("haystack/rrr.widths", laid_haystack_rrr_widths)] }
def VectorTellsSaid : Prop := vectorTellsRow.holds Tryz.pinned (OpenSpec.ofChange vectorTellsSpec)

/-- ITS FALSE NEIGHBOUR: 'it returns false'. Refute it at one input. -/
def vectorTellsWrong : ChangeSpec := { name := "vectorTells", fn := fun _ => fun
  | [d1, d2, d3] => { results := [.lit (.bool false)], args := [d1, d2, d3] }
  | _ => none }
def VectorTellsWrongFalsely : Prop := vectorTellsRow.holds Tryz.pinned (OpenSpec.ofChange vectorTellsWrong)

/-- 'haystacklaw10.VectorBack': WHATEVER THE INPUT: true; the input reads as it did. -/
def vectorBackSpec : ChangeSpec := { name := "vectorBack", fn := fun _ => fun
  | [d1, d2, d3, d4] => { results := [.lit (.bool true)], args := [d1, d2, d3, d4] }
  | _ => none }
def vectorBackRow : OpenClaim := { program := "ytpeecabfcgijhaagreatdoor", sum := "754346434cf1377e90b060de65d99c9d7444cab96e723780aeb47a055c1548d7", func := "haystack/haystacklaw10.VectorBack", spec := "vectorBack", inPlace := ["internal/reflectlite.ValueOf", "(internal/reflectlite.Value).Type", "(internal/reflectlite.Value).IsNil", "internal/reflectlite.TypeOf", "(internal/reflectlite.Value).Elem", "(internal/reflectlite.Value).Set"], unfollowed := true, recurses := true, named := ["haystack/rrr.widths", "errors.errorType", "haystack/rrr.ways"], apart := false, laid := [("errors.errorType", laid_errors_errorType), ("haystack/rrr.ways", laid_haystack_rrr_ways), ("haystack/rrr.widths", laid_haystack_rrr_widths)] }
def VectorBackSaid : Prop := vectorBackRow.holds Tryz.pinned (OpenSpec.ofChange vectorBackSpec)

/-- ITS FALSE NEIGHBOUR: 'it returns false'. Refute it at one input. -/
def vectorBackWrong : ChangeSpec := { name := "vectorBack", fn := fun _ => fun
  | [d1, d2, d3, d4] => { results := [.lit (.bool false)], args := [d1, d2, d3, d4] }
  | _ => none }
def VectorBackWrongFalsely : Prop := vectorBackRow.holds Tryz.pinned (OpenSpec.ofChange vectorBackWrong)

/- THE SECOND FORM. 'bulk': how many values and letters a reading holds, each counted each time it is reached (what is shared counts as often as it is met; a slice's spare places count too). A statement '..UptoSaid' is the law's where the arguments, and the package variables that the reading takes, are together of bulk at most 1048576: NARROWER than '..Said'. Prove '..Said' where nothing that the law and all that it calls make is longer than what came in: it says more and counts as full. Else prove '..UptoSaid'. A law counts once. -/
mutual
def uptoBulk {H : Type} : DataW H → Nat
  | .lit (.string bytes) => bytes.length + 1
  | .lit _ => 1
  | .nil => 1
  | .ptr d => uptoBulk d + 1
  | .slice elems spare => uptoBulkAll elems + uptoBulkAll spare + 1
  | .agg parts => uptoBulkAll parts + 1
  | .iface _ d => uptoBulk d + 1
  | .map entries => uptoBulkEntries entries + 1
  | .held _ => 1
def uptoBulkAll {H : Type} : List (DataW H) → Nat
  | [] => 0
  | d :: r => uptoBulk d + uptoBulkAll r
def uptoBulkEntries {H : Type} : List (Lit × DataW H) → Nat
  | [] => 0
  | x :: r => uptoBulkEntry x + uptoBulkEntries r
def uptoBulkEntry {H : Type} : Lit × DataW H → Nat
  | (.string bytes, d) => bytes.length + uptoBulk d + 1
  | (_, d) => uptoBulk d + 1
 end
def uptoSmall : (H : Type) → List (DataW H) → Bool := fun _ ds => decide (uptoBulkAll ds ≤ 1048576)
def OpenSpec.upto (s : _root_.Go.ChangeSpec) : _root_.Go.OpenSpec := { _root_.Go.OpenSpec.ofChange s with cond := some uptoSmall }

/-- 'haystacklaw10.VectorAlike', WHERE WHAT IT READS IS OF BULK AT MOST 1048576: true; the input reads as it did. -/
def vectorAlikeUptoRow : OpenClaim := { program := "ytpeecabfcgijhaagreatdoor", sum := "754346434cf1377e90b060de65d99c9d7444cab96e723780aeb47a055c1548d7", func := "haystack/haystacklaw10.VectorAlike", spec := "vectorAlike", inPlace := ["internal/reflectlite.ValueOf", "(internal/reflectlite.Value).Type", "(internal/reflectlite.Value).IsNil", "internal/reflectlite.TypeOf", "(internal/reflectlite.Value).Elem", "(internal/reflectlite.Value).Set"], unfollowed := true, recurses := true, named := ["haystack/rrr.widths", "errors.errorType", "haystack/rrr.ways"], apart := false, laid := [("errors.errorType", laid_errors_errorType), ("haystack/rrr.ways", laid_haystack_rrr_ways), ("haystack/rrr.widths", laid_haystack_rrr_widths)], narrowed := true }
def VectorAlikeUptoSaid : Prop := vectorAlikeUptoRow.holds Tryz.pinned (OpenSpec.upto vectorAlikeSpec)

/-- 'haystacklaw10.VectorBuilds', WHERE WHAT IT READS IS OF BULK AT MOST 1048576: true; the input reads as it did. -/
def vectorBuildsUptoRow : OpenClaim := { program := "ytpeecabfcgijhaagreatdoor", sum := "754346434cf1377e90b060de65d99c9d7444cab96e723780aeb47a055c1548d7", func := "haystack/haystacklaw10.VectorBuilds", spec := "vectorBuilds", inPlace := ["internal/reflectlite.ValueOf", "(internal/reflectlite.Value).Type", "(internal/reflectlite.Value).IsNil", "internal/reflectlite.TypeOf", "(internal/reflectlite.Value).Elem", "(internal/reflectlite.Value).Set"], unfollowed := true, recurses := true, named := ["haystack/rrr.widths", "errors.errorType", "haystack/rrr.ways"], apart := false, laid := [("errors.errorType", laid_errors_errorType), ("haystack/rrr.ways", laid_haystack_rrr_ways), ("haystack/rrr.widths", laid_haystack_rrr_widths)], narrowed := true }
def VectorBuildsUptoSaid : Prop := vectorBuildsUptoRow.holds Tryz.pinned (OpenSpec.upto vectorBuildsSpec)

/-- 'haystacklaw10.VectorTells', WHERE WHAT IT READS IS OF BULK AT MOST 1048576: true; the input reads as it did. -/
def vectorTellsUptoRow : OpenClaim := { program := "ytpeecabfcgijhaagreatdoor", sum := "754346434cf1377e90b060de65d99c9d7444cab96e723780aeb47a055c1548d7", func := "haystack/haystacklaw10.VectorTells", spec := "vectorTells", inPlace := ["internal/reflectlite.ValueOf", "(internal/reflectlite.Value).Type", "(internal/reflectlite.Value).IsNil", "internal/reflectlite.TypeOf", "(internal/reflectlite.Value).Elem", "(internal/reflectlite.Value).Set"], unfollowed := true, recurses := true, named := ["haystack/rrr.widths", "errors.errorType", "haystack/rrr.ways"], apart := false, laid := [("errors.errorType", laid_errors_errorType), ("haystack/rrr.ways", laid_haystack_rrr_ways), ("haystack/rrr.widths", laid_haystack_rrr_widths)], narrowed := true }
def VectorTellsUptoSaid : Prop := vectorTellsUptoRow.holds Tryz.pinned (OpenSpec.upto vectorTellsSpec)

/-- 'haystacklaw10.VectorBack', WHERE WHAT IT READS IS OF BULK AT MOST 1048576: true; the input reads as it did. -/
def vectorBackUptoRow : OpenClaim := { program := "ytpeecabfcgijhaagreatdoor", sum := "754346434cf1377e90b060de65d99c9d7444cab96e723780aeb47a055c1548d7", func := "haystack/haystacklaw10.VectorBack", spec := "vectorBack", inPlace := ["internal/reflectlite.ValueOf", "(internal/reflectlite.Value).Type", "(internal/reflectlite.Value).IsNil", "internal/reflectlite.TypeOf", "(internal/reflectlite.Value).Elem", "(internal/reflectlite.Value).Set"], unfollowed := true, recurses := true, named := ["haystack/rrr.widths", "errors.errorType", "haystack/rrr.ways"], apart := false, laid := [("errors.errorType", laid_errors_errorType), ("haystack/rrr.ways", laid_haystack_rrr_ways), ("haystack/rrr.widths", laid_haystack_rrr_widths)], narrowed := true }
def VectorBackUptoSaid : Prop := vectorBackUptoRow.holds Tryz.pinned (OpenSpec.upto vectorBackSpec)

end Rows
end Go.Proofs.YtpeecabfcgijhaaGreatDoor
