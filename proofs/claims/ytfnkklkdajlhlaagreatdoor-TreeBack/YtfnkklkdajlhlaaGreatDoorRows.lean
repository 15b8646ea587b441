/-
  NARROWER THAN 'FOR EVERY INPUT', by the rows' own cells (each row's printed sentence says how): TreeLevels: laid · TreeCounts: laid · TreeBuilds: laid · TreeTells: laid · TreeBack: laid.
  DERIVED. THE GIVEN ROWS OF THIS SEAT. 5 by the template 'for every input the law returns true; each argument reads behind the call as it read before'; 0 by the template 'total and deterministic' (their statements: YtfnkklkdajlhlaaGreatDoorTotals.lean).
  GIVEN WITH THE SEED: the statements are not yours to turn. If you find one false, say at which input.
  Laid BY PROGRAM, IN A SANDBOX (cutbox-rows.mjs): the forced cells as the released guide's own fill.sh prints them over the translation 6dd01aad768dbbe1… (all of the seat's roots in one cut). By AI agents, Wed Nov 11 2026. No macro, syntax, notation, axiom, sorry.
-/
import Derived.Test.YtfnkklkdajlhlaaGreatDoorChecked
import GoSem.Claim
import GoSem.ClaimJoined
import GoSem.ClaimMapViews
import Derived.JoinedTies
import Derived.KernelRfl
namespace Go.Proofs.YtfnkklkdajlhlaaGreatDoor
/- THE CELL 'sum', in the pinned program and in every row, IS THE sha256 OF THE DUMP (.gsa) THAT YtfnkklkdajlhlaaGreatDoorProg.lean LOADS. Nothing in Lean hashes anything: it is a label: what it is worth is what the hold of that sum in a sandbox is worth. -/
noncomputable def Tryz.pinned : Pinned := { name := "ytfnkklkdajlhlaagreatdoor", sum := "6dd01aad768dbbe12077a41bff588d34ebaf565aa75b9791bb8ef7cad448fa29", checked := Tryz.checked }
namespace Rows
def none {H : Type} : Left H := { results := [], args := [] }

/- WHAT THE LISTED PACKAGE-LEVEL VARIABLES READ AS WHEN THE CALL BEGINS. Each datum BY PROGRAM (the guide's laid-datum.mjs) off the statement by which the dump's own 'gosem.cut.vars' lays the variable. In a bare row this is a premise. The card (YtfnkklkdajlhlaaGreatDoorCards.lean) ties it to the program's text. -/
def laid_errors_errorType {H : Type} : DataW H := .iface "internal/reflectlite.rtype" (.agg [.ptr (.lit (.string [101, 114, 114, 111, 114]))])
def laid_haystack_rrr_ways {H : Type} : DataW H := .agg [.lit (.int .u64 1), .lit (.int .u64 15), .lit (.int .u64 105), .lit (.int .u64 455), .lit (.int .u64 1365), .lit (.int .u64 3003), .lit (.int .u64 5005), .lit (.int .u64 6435), .lit (.int .u64 6435), .lit (.int .u64 5005), .lit (.int .u64 3003), .lit (.int .u64 1365), .lit (.int .u64 455), .lit (.int .u64 105), .lit (.int .u64 15), .lit (.int .u64 1)]
def laid_haystack_rrr_widths {H : Type} : DataW H := .agg [.lit (.int .i64 0), .lit (.int .i64 4), .lit (.int .i64 7), .lit (.int .i64 9), .lit (.int .i64 11), .lit (.int .i64 12), .lit (.int .i64 13), .lit (.int .i64 13), .lit (.int .i64 13), .lit (.int .i64 13), .lit (.int .i64 12), .lit (.int .i64 11), .lit (.int .i64 9), .lit (.int .i64 7), .lit (.int .i64 4), .lit (.int .i64 0)]

/-- 'haystacklaw12.TreeLevels': WHATEVER THE INPUT: true; the input reads as it did. -/
def treeLevelsSpec : ChangeSpec := { name := "treeLevels", fn := fun _ => fun
  | [d1, d2] => { results := [.lit (.bool true)], args := [d1, d2] }
  | _ => none }
def treeLevelsRow : OpenClaim := { program := "ytfnkklkdajlhlaagreatdoor", sum := "6dd01aad768dbbe12077a41bff588d34ebaf565aa75b9791bb8ef7cad448fa29", func := "haystack/haystacklaw12.TreeLevels", spec := "treeLevels", inPlace := ["internal/reflectlite.ValueOf", "(internal/reflectlite.Value).Type", "(internal/reflectlite.Value).IsNil", "internal/reflectlite.TypeOf", "(internal/reflectlite.Value).Elem", "(internal/reflectlite.Value).Set"], unfollowed := true, recurses := true, named := ["haystack/rrr.widths", "errors.errorType", "haystack/rrr.ways"], apart := false, laid := [("errors.errorType", laid_errors_errorType), ("haystack/rrr.ways", laid_haystack_rrr_ways), ("haystack/rrr.widths", laid_haystack_rrr_widths)] }
def TreeLevelsSaid : Prop := treeLevelsRow.holds Tryz.pinned (OpenSpec.ofChange treeLevelsSpec)

/-- ITS FALSE NEIGHBOUR: 'it returns false'. Refute it at one input. -/
def treeLevelsWrong : ChangeSpec := { name := "treeLevels", fn := fun _ => fun
  | [d1, d2] => { results := [.lit (.bool false)], args := [d1, d2] }
  | _ => none }
def TreeLevelsWrongFalsely : Prop := treeLevelsRow.holds Tryz.pinned (OpenSpec.ofChange treeLevelsWrong)

/-- 'haystacklaw12.TreeCounts': WHATEVER THE INPUT: true; the input reads as it did. -/
def treeCountsSpec : ChangeSpec := { name := "treeCounts", fn := fun _ => fun
  | [d1, d2, d3, d4] => { results := [.lit (.bool true)], args := [d1, d2, d3, d4] }
  | _ => none }
def treeCountsRow : OpenClaim := { program := "ytfnkklkdajlhlaagreatdoor", sum := "6dd01aad768dbbe12077a41bff588d34ebaf565aa75b9791bb8ef7cad448fa29", func := "haystack/haystacklaw12.TreeCounts", spec := "treeCounts", inPlace := ["internal/reflectlite.ValueOf", "(internal/reflectlite.Value).Type", "(internal/reflectlite.Value).IsNil", "internal/reflectlite.TypeOf", "(internal/reflectlite.Value).Elem", "(internal/reflectlite.Value).Set"], unfollowed := true, recurses := true, named := ["haystack/rrr.widths", "errors.errorType", "haystack/rrr.ways"], apart := false, laid := [("errors.errorType", laid_errors_errorType), ("haystack/rrr.ways", laid_haystack_rrr_ways), ("haystack/rrr.widths", laid_haystack_rrr_widths)] }
def TreeCountsSaid : Prop := treeCountsRow.holds Tryz.pinned (OpenSpec.ofChange treeCountsSpec)

/-- ITS FALSE NEIGHBOUR: 'it returns false'. Refute it at one input. -/
def treeCountsWrong : ChangeSpec := { name := "treeCounts", fn := fun _ => fun
  | [d1, d2, d3, d4] => { results := [.lit (.bool false)], args := [d1, d2, d3, d4] }
  | _ => none }
def TreeCountsWrongFalsely : Prop := treeCountsRow.holds Tryz.pinned (OpenSpec.ofChange treeCountsWrong)

/-- 'haystacklaw12.TreeBuilds': WHATEVER THE INPUT: true; the input reads as it did. -/
def treeBuildsSpec : ChangeSpec := { name := "treeBuilds", fn := fun _ => fun
  | [d1, d2] => { results := [.lit (.bool true)], args := [d1, d2] }
  | _ => none }
def treeBuildsRow : OpenClaim := { program := "ytfnkklkdajlhlaagreatdoor", sum := "6dd01aad768dbbe12077a41bff588d34ebaf565aa75b9791bb8ef7cad448fa29", func := "haystack/haystacklaw12.TreeBuilds", spec := "treeBuilds", inPlace := ["internal/reflectlite.ValueOf", "(internal/reflectlite.Value).Type", "(internal/reflectlite.Value).IsNil", "internal/reflectlite.TypeOf", "(internal/reflectlite.Value).Elem", "(internal/reflectlite.Value).Set"], unfollowed := true, recurses := true, named := ["haystack/rrr.widths", "errors.errorType", "haystack/rrr.ways"], apart := false, laid := [("errors.errorType", laid_errors_errorType), ("haystack/rrr.ways", laid_haystack_rrr_ways), ("haystack/rrr.widths", laid_haystack_rrr_widths)] }
def TreeBuildsSaid : Prop := treeBuildsRow.holds Tryz.pinned (OpenSpec.ofChange treeBuildsSpec)

/-- ITS FALSE NEIGHBOUR: 'it returns false'. Refute it at one input. -/
def treeBuildsWrong : ChangeSpec := { name := "treeBuilds", fn := fun _ => fun
  | [d1, d2] => { results := [.lit (.bool false)], args := [d1, d2] }
  | _ => none }
def TreeBuildsWrongFalsely : Prop := treeBuildsRow.holds Tryz.pinned (OpenSpec.ofChange treeBuildsWrong)

/-- 'haystacklaw12.TreeTells': WHATEVER THE INPUT: true; the input reads as it did. -/
def treeTellsSpec : ChangeSpec := { name := "treeTells", fn := fun _ => fun
  | [d1, d2, d3] => { results := [.lit (.bool true)], args := [d1, d2, d3] }
  | _ => none }
def treeTellsRow : OpenClaim := { program := "ytfnkklkdajlhlaagreatdoor", sum := "6dd01aad768dbbe12077a41bff588d34ebaf565aa75b9791bb8ef7cad448fa29", func := "haystack/haystacklaw12.TreeTells", spec := "treeTells", inPlace := ["internal/reflectlite.ValueOf", "(internal/reflectlite.Value).Type", "(internal/reflectlite.Value).IsNil", "internal/reflectlite.TypeOf", "(internal/reflectlite.Value).Elem", "(internal/reflectlite.Value).Set"], unfollowed := true, recurses := true, named := ["haystack/rrr.widths", "errors.errorType", "haystack/rrr.ways"], apart := false, laid := [("errors.errorType", laid_errors_errorType), ("haystack/rrr.ways", laid_haystack_rrr_ways), ("haystack/rrr.widths", laid_haystack_rrr_widths)] }
def TreeTellsSaid : Prop := treeTellsRow.holds Tryz.pinned (OpenSpec.ofChange treeTellsSpec)

/-- ITS FALSE NEIGHBOUR: 'it returns false'. Refute it at one input. -/
def treeTellsWrong : ChangeSpec := { name := "treeTells", fn := fun _ => fun
  | [d1, d2, d3] => { results := [.lit (.bool false)], args := [d1, d2, d3] }
  | _ => none }
def TreeTellsWrongFalsely : Prop := treeTellsRow.holds Tryz.pinned (OpenSpec.ofChange treeTellsWrong)

/-- 'haystacklaw12.TreeBack': WHATEVER THE INPUT: true; the input reads as it did. -/
def treeBackSpec : ChangeSpec := { name := "treeBack", fn := fun _ => fun
  | [d1, d2, d3, d4] => { results := [.lit (.bool true)], args := [d1, d2, d3, d4] }
  | _ => none }
def treeBackRow : OpenClaim := { program := "ytfnkklkdajlhlaagreatdoor", sum := "6dd01aad768dbbe12077a41bff588d34ebaf565aa75b9791bb8ef7cad448fa29", func := "haystack/haystacklaw12.TreeBack", spec := "treeBack", inPlace := ["internal/reflectlite.ValueOf", "(internal/reflectlite.Value).Type", "(internal/reflectlite.Value).IsNil", "internal/reflectlite.TypeOf", "(internal/reflectlite.Value).Elem", "(internal/reflectlite.Value).Set"], unfollowed := true, recurses := true, named := ["haystack/rrr.widths", "errors.errorType", "haystack/rrr.ways"], apart := false, laid := [("errors.errorType", laid_errors_errorType), ("haystack/rrr.ways", laid_haystack_rrr_ways), ("haystack/rrr.widths", laid_haystack_rrr_widths)] }
def TreeBackSaid : Prop := treeBackRow.holds Tryz.pinned (OpenSpec.ofChange treeBackSpec)

/-- ITS FALSE NEIGHBOUR: 'it returns false'. Refute it at one input. -/
def treeBackWrong : ChangeSpec := { name := "treeBack", fn := fun _ => fun
  | [d1, d2, d3, d4] => { results := [.lit (.bool false)], args := [d1, d2, d3, d4] }
  | _ => none }
def TreeBackWrongFalsely : Prop := treeBackRow.holds Tryz.pinned (OpenSpec.ofChange treeBackWrong)

/- THE SECOND FORM. 'bulk': how many values and letters a reading holds, each counted each time it is reached (what is shared counts as often as it is met; a slice's spare places count too). A statement '..UptoSaid' is the law's where the arguments, and the package variables that the reading takes, are together of bulk at most 1048576: NARROWER than '..Said'. Prove '..Said' where nothing that the law and all that it calls make is longer than what came in: it says more and counts as full. Else prove '..UptoSaid'. A law counts once. -/
mutual
def uptoBulk {H : Type} : DataW H → Nat
  | .lit (.string bytes) => bytes.length + 1
  | .lit _ => 1
  | .nil => 1
  | .ptr d => uptoBulk d + 1
  | .slice elems spare => uptoBulkAll elems + uptoBulkAll spare + 1
  | .agg parts => uptoBulkAll parts + 1
  | .iface _ d => uptoBulk d + 1
  | .map entries => uptoBulkEntries entries + 1
  | .held _ => 1
def uptoBulkAll {H : Type} : List (DataW H) → Nat
  | [] => 0
  | d :: r => uptoBulk d + uptoBulkAll r
def uptoBulkEntries {H : Type} : List (Lit × DataW H) → Nat
  | [] => 0
  | x :: r => uptoBulkEntry x + uptoBulkEntries r
def uptoBulkEntry {H : Type} : Lit × DataW H → Nat
  | (.string bytes, d) => bytes.length + uptoBulk d + 1
  | (_, d) => uptoBulk d + 1
 end
def uptoSmall : (H : Type) → List (DataW H) → Bool := fun _ ds => decide (uptoBulkAll ds ≤ 1048576)
def OpenSpec.upto (s : _root_.Go.ChangeSpec) : _root_.Go.OpenSpec := { _root_.Go.OpenSpec.ofChange s with cond := some uptoSmall }

/-- 'haystacklaw12.TreeLevels', WHERE WHAT IT READS IS OF BULK AT MOST 1048576: true; the input reads as it did. -/
def treeLevelsUptoRow : OpenClaim := { program := "ytfnkklkdajlhlaagreatdoor", sum := "6dd01aad768dbbe12077a41bff588d34ebaf565aa75b9791bb8ef7cad448fa29", func := "haystack/haystacklaw12.TreeLevels", spec := "treeLevels", inPlace := ["internal/reflectlite.ValueOf", "(internal/reflectlite.Value).Type", "(internal/reflectlite.Value).IsNil", "internal/reflectlite.TypeOf", "(internal/reflectlite.Value).Elem", "(internal/reflectlite.Value).Set"], unfollowed := true, recurses := true, named := ["haystack/rrr.widths", "errors.errorType", "haystack/rrr.ways"], apart := false, laid := [("errors.errorType", laid_errors_errorType), ("haystack/rrr.ways", laid_haystack_rrr_ways), ("haystack/rrr.widths", laid_haystack_rrr_widths)], narrowed := true }
def TreeLevelsUptoSaid : Prop := treeLevelsUptoRow.holds Tryz.pinned (OpenSpec.upto treeLevelsSpec)

/-- 'haystacklaw12.TreeCounts', WHERE WHAT IT READS IS OF BULK AT MOST 1048576: true; the input reads as it did. -/
def treeCountsUptoRow : OpenClaim := { program := "ytfnkklkdajlhlaagreatdoor", sum := "6dd01aad768dbbe12077a41bff588d34ebaf565aa75b9791bb8ef7cad448fa29", func := "haystack/haystacklaw12.TreeCounts", spec := "treeCounts", inPlace := ["internal/reflectlite.ValueOf", "(internal/reflectlite.Value).Type", "(internal/reflectlite.Value).IsNil", "internal/reflectlite.TypeOf", "(internal/reflectlite.Value).Elem", "(internal/reflectlite.Value).Set"], unfollowed := true, recurses := true, named := ["haystack/rrr.widths", "errors.errorType", "haystack/rrr.ways"], apart := false, laid := [("errors.errorType", laid_errors_errorType), ("haystack/rrr.ways", laid_haystack_rrr_ways), ("haystack/rrr.widths", laid_haystack_rrr_widths)], narrowed := true }
def TreeCountsUptoSaid : Prop := treeCountsUptoRow.holds Tryz.pinned (OpenSpec.upto treeCountsSpec)

/-- 'haystacklaw12.TreeBuilds', WHERE WHAT IT READS IS OF BULK AT MOST 1048576: true; the input reads as it did. -/
def treeBuildsUptoRow : OpenClaim := { program := "ytfnkklkdajlhlaagreatdoor", sum := "6dd01aad768dbbe12077a41bff588d34ebaf565aa75b9791bb8ef7cad448fa29", func := "haystack/haystacklaw12.TreeBuilds", spec := "treeBuilds", inPlace := ["internal/reflectlite.ValueOf", "(internal/reflectlite.Value).Type", "(internal/reflectlite.Value).IsNil", "internal/reflectlite.TypeOf", "(internal/reflectlite.Value).Elem", "(internal/reflectlite.Value).Set"], unfollowed := true, recurses := true, named := ["haystack/rrr.widths", "errors.errorType", "haystack/rrr.ways"], apart := false, laid := [("errors.errorType", laid_errors_errorType), ("haystack/rrr.ways", laid_haystack_rrr_ways), ("haystack/rrr.widths", laid_haystack_rrr_widths)], narrowed := true }
def TreeBuildsUptoSaid : Prop := treeBuildsUptoRow.holds Tryz.pinned (OpenSpec.upto treeBuildsSpec)

/-- 'haystacklaw12.TreeTells', WHERE WHAT IT READS IS OF BULK AT MOST 1048576: true; the input reads as it did. -/
def treeTellsUptoRow : OpenClaim := { program := "ytfnkklkdajlhlaagreatdoor", sum := "6dd01aad768dbbe12077a41bff588d34ebaf565aa75b9791bb8ef7cad448fa29", func := "haystack/haystacklaw12.TreeTells", spec := "treeTells", inPlace := ["internal/reflectlite.ValueOf", "(internal/reflectlite.Value).Type", "(internal/reflectlite.Value).IsNil", "internal/reflectlite.TypeOf", "(internal/reflectlite.Value).Elem", "(internal/reflectlite.Value).Set"], unfollowed := true, recurses := true, named := ["haystack/rrr.widths", "errors.errorType", "haystack/rrr.ways"], apart := false, laid := [("errors.errorType", laid_errors_errorType), ("haystack/rrr.ways", laid_haystack_rrr_ways), ("haystack/rrr.widths", laid_haystack_rrr_widths)], narrowed := true }
def TreeTellsUptoSaid : Prop := treeTellsUptoRow.holds Tryz.pinned (OpenSpec.upto treeTellsSpec)

/-- 'haystacklaw12.TreeBack', WHERE WHAT IT READS IS OF BULK AT MOST 1048576: true; the input reads as it did. -/
def treeBackUptoRow : OpenClaim := { program := "ytfnkklkdajlhlaagreatdoor", sum := "6dd01aad768dbbe12077a41bff588d34ebaf565aa75b9791bb8ef7cad448fa29", func := "haystack/haystacklaw12.TreeBack", spec := "treeBack", inPlace := ["internal/reflectlite.ValueOf", "(internal/reflectlite.Value).Type", "(internal/reflectlite.Value).IsNil", "internal/reflectlite.TypeOf", "(internal/reflectlite.Value).Elem", "(internal/reflectlite.Value).Set"], unfollowed := true, recurses := true, named := ["haystack/rrr.widths", "errors.errorType", "haystack/rrr.ways"], apart := false, laid := [("errors.errorType", laid_errors_errorType), ("haystack/rrr.ways", laid_haystack_rrr_ways), ("haystack/rrr.widths", laid_haystack_rrr_widths)], narrowed := true }
def TreeBackUptoSaid : Prop := treeBackUptoRow.holds Tryz.pinned (OpenSpec.upto treeBackSpec)

end Rows
end Go.Proofs.YtfnkklkdajlhlaaGreatDoor
