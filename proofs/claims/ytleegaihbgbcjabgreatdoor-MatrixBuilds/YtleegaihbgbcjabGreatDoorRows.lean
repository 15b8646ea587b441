/-
  NARROWER THAN 'FOR EVERY INPUT', by the rows' own cells (each row's printed sentence says how): MatrixCounts: laid · MatrixBuilds: laid · MatrixTells: laid · MatrixBack: laid.
  DERIVED. THE GIVEN ROWS OF THIS SEAT. 4 by the template 'for every input the law returns true; each argument reads behind the call as it read before'; 0 by the template 'total and deterministic' (their statements: YtleegaihbgbcjabGreatDoorTotals.lean).
  GIVEN WITH THE SEED: the statements are not yours to turn. If you find one false, say at which input.
  Laid BY PROGRAM, IN A SANDBOX (cutbox-rows.mjs): the forced cells as the released guide's own fill.sh prints them over the translation 926cfed8a0af6015… (all of the seat's roots in one cut). By AI agents, Wed Nov 11 2026. No macro, syntax, notation, axiom, sorry.
-/
import Derived.Test.YtleegaihbgbcjabGreatDoorChecked
import GoSem.Claim
import GoSem.ClaimJoined
import GoSem.ClaimMapViews
import Derived.JoinedTies
import Derived.KernelRfl
namespace Go.Proofs.YtleegaihbgbcjabGreatDoor
/- THE CELL 'sum', in the pinned program and in every row, IS THE sha256 OF THE DUMP (.gsa) THAT YtleegaihbgbcjabGreatDoorProg.lean LOADS. Nothing in Lean hashes anything: it is a label: what it is worth is what the hold of that sum in a sandbox is worth. -/
noncomputable def Tryz.pinned : Pinned := { name := "ytleegaihbgbcjabgreatdoor", sum := "926cfed8a0af6015b9128b3df19ac3f0238fc314b9056edc2f84341a6e7eec34", checked := Tryz.checked }
namespace Rows
def none {H : Type} : Left H := { results := [], args := [] }

/- WHAT THE LISTED PACKAGE-LEVEL VARIABLES READ AS WHEN THE CALL BEGINS. Each datum BY PROGRAM (the guide's laid-datum.mjs) off the statement by which the dump's own 'gosem.cut.vars' lays the variable. In a bare row this is a premise. The card (YtleegaihbgbcjabGreatDoorCards.lean) ties it to the program's text. -/
def laid_errors_errorType {H : Type} : DataW H := .iface "internal/reflectlite.rtype" (.agg [.ptr (.lit (.string [101, 114, 114, 111, 114]))])
def laid_haystack_rrr_ways {H : Type} : DataW H := .agg [.lit (.int .u64 1), .lit (.int .u64 15), .lit (.int .u64 105), .lit (.int .u64 455), .lit (.int .u64 1365), .lit (.int .u64 3003), .lit (.int .u64 5005), .lit (.int .u64 6435), .lit (.int .u64 6435), .lit (.int .u64 5005), .lit (.int .u64 3003), .lit (.int .u64 1365), .lit (.int .u64 455), .lit (.int .u64 105), .lit (.int .u64 15), .lit (.int .u64 1)]
def laid_haystack_rrr_widths {H : Type} : DataW H := .agg [.lit (.int .i64 0), .lit (.int .i64 4), .lit (.int .i64 7), .lit (.int .i64 9), .lit (.int .i64 11), .lit (.int .i64 12), .lit (.int .i64 13), .lit (.int .i64 13), .lit (.int .i64 13), .lit (.int .i64 13), .lit (.int .i64 12), .lit (.int .i64 11), .lit (.int .i64 9), .lit (.int .i64 7), .lit (.int .i64 4), .lit (.int .i64 0)]

/-- 'haystacklaw14.MatrixCounts': WHATEVER THE INPUT: true; the input reads as it did. -/
def matrixCountsSpec : ChangeSpec := { name := "matrixCounts", fn := fun _ => fun
  | [d1, d2, d3, d4] => { results := [.lit (.bool true)], args := [d1, d2, d3, d4] }
  | _ => none }
def matrixCountsRow : OpenClaim := { program := "ytleegaihbgbcjabgreatdoor", sum := "926cfed8a0af6015b9128b3df19ac3f0238fc314b9056edc2f84341a6e7eec34", func := "haystack/haystacklaw14.MatrixCounts", spec := "matrixCounts", inPlace := ["internal/reflectlite.ValueOf", "(internal/reflectlite.Value).Type", "(internal/reflectlite.Value).IsNil", "internal/reflectlite.TypeOf", "(internal/reflectlite.Value).Elem", "(internal/reflectlite.Value).Set"], unfollowed := true, recurses := true, named := ["haystack/rrr.widths", "errors.errorType", "haystack/rrr.ways"], apart := false, laid := [("errors.errorType", laid_errors_errorType), ("haystack/rrr.ways", laid_haystack_rrr_ways), ("haystack/rrr.widths", laid_haystack_rrr_widths)] }
def MatrixCountsSaid : Prop := matrixCountsRow.holds Tryz.pinned (OpenSpec.ofChange matrixCountsSpec)

/-- ITS FALSE NEIGHBOUR: 'it returns false'. Refute it at one input. -/
def matrixCountsWrong : ChangeSpec := { name := "matrixCounts", fn := fun _ => fun
  | [d1, d2, d3, d4] => { results := [.lit (.bool false)], args := [d1, d2, d3, d4] }
  | _ => none }
def MatrixCountsWrongFalsely : Prop := matrixCountsRow.holds Tryz.pinned (OpenSpec.ofChange matrixCountsWrong)

/-- 'haystacklaw14.MatrixBuilds': WHATEVER THE INPUT: true; the input reads as it did. -/
def matrixBuildsSpec : ChangeSpec := { name := "matrixBuilds", fn := fun _ => fun
  | [d1, d2] => { results := [.lit (.bool true)], args := [d1, d2] }
  | _ => none }
def matrixBuildsRow : OpenClaim := { program := "ytleegaihbgbcjabgreatdoor", sum := "926cfed8a0af6015b9128b3df19ac3f0238fc314b9056edc2f84341a6e7eec34", func := "haystack/haystacklaw14.MatrixBuilds", spec := "matrixBuilds", inPlace := ["internal/reflectlite.ValueOf", "(internal/reflectlite.Value).Type", "(internal/reflectlite.Value).IsNil", "internal/reflectlite.TypeOf", "(internal/reflectlite.Value).Elem", "(internal/reflectlite.Value).Set"], unfollowed := true, recurses := true, named := ["haystack/rrr.widths", "errors.errorType", "haystack/rrr.ways"], apart := false, laid := [("errors.errorType", laid_errors_errorType), ("haystack/rrr.ways", laid_haystack_rrr_ways), ("haystack/rrr.widths", laid_haystack_rrr_widths)] }
def MatrixBuildsSaid : Prop := matrixBuildsRow.holds Tryz.pinned (OpenSpec.ofChange matrixBuildsSpec)

/-- ITS FALSE NEIGHBOUR: 'it returns false'. Refute it at one input. -/
def matrixBuildsWrong : ChangeSpec := { name := "matrixBuilds", fn := fun _ => fun
  | [d1, d2] => { results := [.lit (.bool false)], args := [d1, d2] }
  | _ => none }
def MatrixBuildsWrongFalsely : Prop := matrixBuildsRow.holds Tryz.pinned (OpenSpec.ofChange matrixBuildsWrong)

/-- 'haystacklaw14.MatrixTells': WHATEVER THE INPUT: true; the input reads as it did. -/
def matrixTellsSpec : ChangeSpec := { name := "matrixTells", fn := fun _ => fun
  | [d1, d2, d3] => { results := [.lit (.bool true)], args := [d1, d2, d3] }
  | _ => none }
def matrixTellsRow : OpenClaim := { program := "ytleegaihbgbcjabgreatdoor", sum := "926cfed8a0af6015b9128b3df19ac3f0238fc314b9056edc2f84341a6e7eec34", func := "haystack/haystacklaw14.MatrixTells", spec := "matrixTells", inPlace := ["internal/reflectlite.ValueOf", "(internal/reflectlite.Value).Type", "(internal/reflectlite.Value).IsNil", "internal/reflectlite.TypeOf", "(internal/reflectlite.Value).Elem", "(internal/reflectlite.Value).Set"], unfollowed := true, recurses := true, named := ["haystack/rrr.widths", "errors.errorType", "haystack/rrr.ways"], apart := false, laid := [("errors.errorType", laid_errors_errorType), ("haystack/rrr.ways", laid_haystack_rrr_ways), ("haystack/rrr.widths", laid_haystack_rrr_widths)] }
def MatrixTellsSaid : Prop := matrixTellsRow.holds Tryz.pinned (OpenSpec.ofChange matrixTellsSpec)

/-- ITS FALSE NEIGHBOUR: 'it returns false'. Refute it at one input. -/
def matrixTellsWrong : ChangeSpec := { name := "matrixTells", fn := fun _ => fun
  | [d1, d2, d3] => { results := [.lit (.bool false)], args := [d1, d2, d3] }
  | _ => none }
def MatrixTellsWrongFalsely : Prop := matrixTellsRow.holds Tryz.pinned (OpenSpec.ofChange matrixTellsWrong)

/-- 'haystacklaw14.MatrixBack': WHATEVER THE INPUT: true; the input reads as it did. -/
def matrixBackSpec : ChangeSpec := { name := "matrixBack", fn := fun _ => fun
  | [d1, d2, d3, d4] => { results := [.lit (.bool true)], args := [d1, d2, d3, d4] }
  | _ => none }
def matrixBackRow : OpenClaim := { program := "ytleegaihbgbcjabgreatdoor", sum := "926cfed8a0af6015b9128b3df19ac3f0238fc314b9056edc2f84341a6e7eec34", func := "haystack/haystacklaw14.MatrixBack", spec := "matrixBack", inPlace := ["internal/reflectlite.ValueOf", "(internal/reflectlite.Value).Type", "(internal/reflectlite.Value).IsNil", "internal/reflectlite.TypeOf", "(internal/reflectlite.Value).Elem", "(internal/reflectlite.Value).Set"], unfollowed := true, recurses := true, named := ["haystack/rrr.widths", "errors.errorType", "haystack/rrr.ways"], apart := false, laid := [("errors.errorType", laid_errors_errorType), ("haystack/rrr.ways", laid_haystack_rrr_ways), ("haystack/rrr.widths", laid_haystack_rrr_widths)] }
def MatrixBackSaid : Prop := matrixBackRow.holds Tryz.pinned (OpenSpec.ofChange matrixBackSpec)

/-- ITS FALSE NEIGHBOUR: 'it returns false'. Refute it at one input. -/
def matrixBackWrong : ChangeSpec := { name := "matrixBack", fn := fun _ => fun
  | [d1, d2, d3, d4] => { results := [.lit (.bool false)], args := [d1, d2, d3, d4] }
  | _ => none }
def MatrixBackWrongFalsely : Prop := matrixBackRow.holds Tryz.pinned (OpenSpec.ofChange matrixBackWrong)

/- THE SECOND FORM. 'bulk': how many values and letters a reading holds, each counted each time it is reached (what is shared counts as often as it is met; a slice's spare places count too). A statement '..UptoSaid' is the law's where the arguments, and the package variables that the reading takes, are together of bulk at most 1048576: NARROWER than '..Said'. Prove '..Said' where nothing that the law and all that it calls make is longer than what came in: it says more and counts as full. Else prove '..UptoSaid'. A law counts once. -/
mutual
def uptoBulk {H : Type} : DataW H → Nat
  | .lit (.string bytes) => bytes.length + 1
  | .lit _ => 1
  | .nil => 1
  | .ptr d => uptoBulk d + 1
  | .slice elems spare => uptoBulkAll elems + uptoBulkAll spare + 1
  | .agg parts => uptoBulkAll parts + 1
  | .iface _ d => uptoBulk d + 1
  | .map entries => uptoBulkEntries entries + 1
  | .held _ => 1
def uptoBulkAll {H : Type} : List (DataW H) → Nat
  | [] => 0
  | d :: r => uptoBulk d + uptoBulkAll r
def uptoBulkEntries {H : Type} : List (Lit × DataW H) → Nat
  | [] => 0
  | x :: r => uptoBulkEntry x + uptoBulkEntries r
def uptoBulkEntry {H : Type} : Lit × DataW H → Nat
  | (.string bytes, d) => bytes.length + uptoBulk d + 1
  | (_, d) => uptoBulk d + 1
 end
def uptoSmall : (H : Type) → List (DataW H) → Bool := fun _ ds => decide (uptoBulkAll ds ≤ 1048576)
def OpenSpec.upto (s : _root_.Go.ChangeSpec) : _root_.Go.OpenSpec := { _root_.Go.OpenSpec.ofChange s with cond := some uptoSmall }

/-- 'haystacklaw14.MatrixCounts', WHERE WHAT IT READS IS OF BULK AT MOST 1048576: true; the input reads as it did. -/
def matrixCountsUptoRow : OpenClaim := { program := "ytleegaihbgbcjabgreatdoor", sum := "926cfed8a0af6015b9128b3df19ac3f0238fc314b9056edc2f84341a6e7eec34", func := "haystack/haystacklaw14.MatrixCounts", spec := "matrixCounts", inPlace := ["internal/reflectlite.ValueOf", "(internal/reflectlite.Value).Type", "(internal/reflectlite.Value).IsNil", "internal/reflectlite.TypeOf", "(internal/reflectlite.Value).Elem", "(internal/reflectlite.Value).Set"], unfollowed := true, recurses := true, named := ["haystack/rrr.widths", "errors.errorType", "haystack/rrr.ways"], apart := false, laid := [("errors.errorType", laid_errors_errorType), ("haystack/rrr.ways", laid_haystack_rrr_ways), ("haystack/rrr.widths", laid_haystack_rrr_widths)], narrowed := true }
def MatrixCountsUptoSaid : Prop := matrixCountsUptoRow.holds Tryz.pinned (OpenSpec.upto matrixCountsSpec)

/-- 'haystacklaw14.MatrixBuilds', WHERE WHAT IT READS IS OF BULK AT MOST 1048576: true; the input reads as it did. -/
def matrixBuildsUptoRow : OpenClaim := { program := "ytleegaihbgbcjabgreatdoor", sum := "926cfed8a0af6015b9128b3df19ac3f0238fc314b9056edc2f84341a6e7eec34", func := "haystack/haystacklaw14.MatrixBuilds", spec := "matrixBuilds", inPlace := ["internal/reflectlite.ValueOf", "(internal/reflectlite.Value).Type", "(internal/reflectlite.Value).IsNil", "internal/reflectlite.TypeOf", "(internal/reflectlite.Value).Elem", "(internal/reflectlite.Value).Set"], unfollowed := true, recurses := true, named := ["haystack/rrr.widths", "errors.errorType", "haystack/rrr.ways"], apart := false, laid := [("errors.errorType", laid_errors_errorType), ("haystack/rrr.ways", laid_haystack_rrr_ways), ("haystack/rrr.widths", laid_haystack_rrr_widths)], narrowed := true }
def MatrixBuildsUptoSaid : Prop := matrixBuildsUptoRow.holds Tryz.pinned (OpenSpec.upto matrixBuildsSpec)

/-- 'haystacklaw14.MatrixTells', WHERE WHAT IT READS IS OF BULK AT MOST 1048576: true; the input reads as it did. -/
def matrixTellsUptoRow : OpenClaim := { program := "ytleegaihbgbcjabgreatdoor", sum := "926cfed8a0af6015b9128b3df19ac3f0238fc314b9056edc2f84341a6e7eec34", func := "haystack/haystacklaw14.MatrixTells", spec := "matrixTells", inPlace := ["internal/reflectlite.ValueOf", "(internal/reflectlite.Value).Type", "(internal/reflectlite.Value).IsNil", "internal/reflectlite.TypeOf", "(internal/reflectlite.Value).Elem", "(internal/reflectlite.Value).Set"], unfollowed := true, recurses := true, named := ["haystack/rrr.widths", "errors.errorType", "haystack/rrr.ways"], apart := false, laid := [("errors.errorType", laid_errors_errorType), ("haystack/rrr.ways", laid_haystack_rrr_ways), ("haystack/rrr.widths", laid_haystack_rrr_widths)], narrowed := true }
def MatrixTellsUptoSaid : Prop := matrixTellsUptoRow.holds Tryz.pinned (OpenSpec.upto matrixTellsSpec)

/-- 'haystacklaw14.MatrixBack', WHERE WHAT IT READS IS OF BULK AT MOST 1048576: true; the input reads as it did. -/
def matrixBackUptoRow : OpenClaim := { program := "ytleegaihbgbcjabgreatdoor", sum := "926cfed8a0af6015b9128b3df19ac3f0238fc314b9056edc2f84341a6e7eec34", func := "haystack/haystacklaw14.MatrixBack", spec := "matrixBack", inPlace := ["internal/reflectlite.ValueOf", "(internal/reflectlite.Value).Type", "(internal/reflectlite.Value).IsNil", "internal/reflectlite.TypeOf", "(internal/reflectlite.Value).Elem", "(internal/reflectlite.Value).Set"], unfollowed := true, recurses := true, named := ["haystack/rrr.widths", "errors.errorType", "haystack/rrr.ways"], apart := false, laid := [("errors.errorType", laid_errors_errorType), ("haystack/rrr.ways", laid_haystack_rrr_ways), ("haystack/rrr.widths", laid_haystack_rrr_widths)], narrowed := true }
def MatrixBackUptoSaid : Prop := matrixBackUptoRow.holds Tryz.pinned (OpenSpec.upto matrixBackSpec)

end Rows
end Go.Proofs.YtleegaihbgbcjabGreatDoor
