/-
  NARROWER THAN 'FOR EVERY INPUT', by the rows' own cells (each row's printed sentence says how): ShapedRows: laid · ShapedCounts: laid · ShapedBuilds: laid · ShapedTells: laid · ShapedBack: laid · MatrixAlike: laid.
  DERIVED. THE GIVEN ROWS OF THIS SEAT. 6 by the template 'for every input the law returns true; each argument reads behind the call as it read before'; 0 by the template 'total and deterministic' (their statements: YtleegaihbgbcjaaGreatDoorTotals.lean).
  GIVEN WITH THE SEED: the statements are not yours to turn. If you find one false, say at which input.
  Laid BY PROGRAM, IN A SANDBOX (cutbox-rows.mjs): the forced cells as the released guide's own fill.sh prints them over the translation 3eff2bace1decb32… (all of the seat's roots in one cut). By AI agents, Wed Nov 11 2026. No macro, syntax, notation, axiom, sorry.
-/
import Derived.Test.YtleegaihbgbcjaaGreatDoorChecked
import GoSem.Claim
import GoSem.ClaimJoined
import GoSem.ClaimMapViews
import Derived.JoinedTies
import Derived.KernelRfl
namespace Go.Proofs.YtleegaihbgbcjaaGreatDoor
/- THE CELL 'sum', in the pinned program and in every row, IS THE sha256 OF THE DUMP (.gsa) THAT YtleegaihbgbcjaaGreatDoorProg.lean LOADS. Nothing in Lean hashes anything: it is a label: what it is worth is what the hold of that sum in a sandbox is worth. -/
noncomputable def Tryz.pinned : Pinned := { name := "ytleegaihbgbcjaagreatdoor", sum := "3eff2bace1decb324f9121c7144fefce4ab76a374c2df5c073389cd8dbc0847f", checked := Tryz.checked }
namespace Rows
def none {H : Type} : Left H := { results := [], args := [] }

/- WHAT THE LISTED PACKAGE-LEVEL VARIABLES READ AS WHEN THE CALL BEGINS. Each datum BY PROGRAM (the guide's laid-datum.mjs) off the statement by which the dump's own 'gosem.cut.vars' lays the variable. In a bare row this is a premise. The card (YtleegaihbgbcjaaGreatDoorCards.lean) ties it to the program's text. -/
def laid_errors_errorType {H : Type} : DataW H := .iface "internal/reflectlite.rtype" (.agg [.ptr (.lit (.string [101, 114, 114, 111, 114]))])
def laid_haystack_rrr_ways {H : Type} : DataW H := .agg [.lit (.int .u64 1), .lit (.int .u64 15), .lit (.int .u64 105), .lit (.int .u64 455), .lit (.int .u64 1365), .lit (.int .u64 3003), .lit (.int .u64 5005), .lit (.int .u64 6435), .lit (.int .u64 6435), .lit (.int .u64 5005), .lit (.int .u64 3003), .lit (.int .u64 1365), .lit (.int .u64 455), .lit (.int .u64 105), .lit (.int .u64 15), .lit (.int .u64 1)]
def laid_haystack_rrr_widths {H : Type} : DataW H := .agg [.lit (.int .i64 0), .lit (.int .i64 4), .lit (.int .i64 7), .lit (.int .i64 9), .lit (.int .i64 11), .lit (.int .i64 12), .lit (.int .i64 13), .lit (.int .i64 13), .lit (.int .i64 13), .lit (.int .i64 13), .lit (.int .i64 12), .lit (.int .i64 11), .lit (.int .i64 9), .lit (.int .i64 7), .lit (.int .i64 4), .lit (.int .i64 0)]

/-- 'haystacklaw13.ShapedRows': WHATEVER THE INPUT: true; the input reads as it did. -/
def shapedRowsSpec : ChangeSpec := { name := "shapedRows", fn := fun _ => fun
  | [d1, d2] => { results := [.lit (.bool true)], args := [d1, d2] }
  | _ => none }
def shapedRowsRow : OpenClaim := { program := "ytleegaihbgbcjaagreatdoor", sum := "3eff2bace1decb324f9121c7144fefce4ab76a374c2df5c073389cd8dbc0847f", func := "haystack/haystacklaw13.ShapedRows", spec := "shapedRows", inPlace := ["internal/reflectlite.ValueOf", "(internal/reflectlite.Value).Type", "(internal/reflectlite.Value).IsNil", "internal/reflectlite.TypeOf", "(internal/reflectlite.Value).Elem", "(internal/reflectlite.Value).Set"], unfollowed := true, recurses := true, named := ["haystack/rrr.widths", "errors.errorType", "haystack/rrr.ways"], plainKeys := false, apart := false, laid := [("errors.errorType", laid_errors_errorType), ("haystack/rrr.ways", laid_haystack_rrr_ways), ("haystack/rrr.widths", laid_haystack_rrr_widths)] }
def ShapedRowsSaid : Prop := shapedRowsRow.holds Tryz.pinned (OpenSpec.ofChange shapedRowsSpec)

/-- ITS FALSE NEIGHBOUR: 'it returns false'. Refute it at one input. -/
def shapedRowsWrong : ChangeSpec := { name := "shapedRows", fn := fun _ => fun
  | [d1, d2] => { results := [.lit (.bool false)], args := [d1, d2] }
  | _ => none }
def ShapedRowsWrongFalsely : Prop := shapedRowsRow.holds Tryz.pinned (OpenSpec.ofChange shapedRowsWrong)

/-- 'haystacklaw13.ShapedCounts': WHATEVER THE INPUT: true; the input reads as it did. -/
def shapedCountsSpec : ChangeSpec := { name := "shapedCounts", fn := fun _ => fun
  | [d1, d2, d3, d4] => { results := [.lit (.bool true)], args := [d1, d2, d3, d4] }
  | _ => none }
def shapedCountsRow : OpenClaim := { program := "ytleegaihbgbcjaagreatdoor", sum := "3eff2bace1decb324f9121c7144fefce4ab76a374c2df5c073389cd8dbc0847f", func := "haystack/haystacklaw13.ShapedCounts", spec := "shapedCounts", inPlace := ["internal/reflectlite.ValueOf", "(internal/reflectlite.Value).Type", "(internal/reflectlite.Value).IsNil", "internal/reflectlite.TypeOf", "(internal/reflectlite.Value).Elem", "(internal/reflectlite.Value).Set"], unfollowed := true, recurses := true, named := ["haystack/rrr.widths", "errors.errorType", "haystack/rrr.ways"], plainKeys := false, apart := false, laid := [("errors.errorType", laid_errors_errorType), ("haystack/rrr.ways", laid_haystack_rrr_ways), ("haystack/rrr.widths", laid_haystack_rrr_widths)] }
def ShapedCountsSaid : Prop := shapedCountsRow.holds Tryz.pinned (OpenSpec.ofChange shapedCountsSpec)

/-- ITS FALSE NEIGHBOUR: 'it returns false'. Refute it at one input. -/
def shapedCountsWrong : ChangeSpec := { name := "shapedCounts", fn := fun _ => fun
  | [d1, d2, d3, d4] => { results := [.lit (.bool false)], args := [d1, d2, d3, d4] }
  | _ => none }
def ShapedCountsWrongFalsely : Prop := shapedCountsRow.holds Tryz.pinned (OpenSpec.ofChange shapedCountsWrong)

/-- 'haystacklaw13.ShapedBuilds': WHATEVER THE INPUT: true; the input reads as it did. -/
def shapedBuildsSpec : ChangeSpec := { name := "shapedBuilds", fn := fun _ => fun
  | [d1, d2] => { results := [.lit (.bool true)], args := [d1, d2] }
  | _ => none }
def shapedBuildsRow : OpenClaim := { program := "ytleegaihbgbcjaagreatdoor", sum := "3eff2bace1decb324f9121c7144fefce4ab76a374c2df5c073389cd8dbc0847f", func := "haystack/haystacklaw13.ShapedBuilds", spec := "shapedBuilds", inPlace := ["internal/reflectlite.ValueOf", "(internal/reflectlite.Value).Type", "(internal/reflectlite.Value).IsNil", "internal/reflectlite.TypeOf", "(internal/reflectlite.Value).Elem", "(internal/reflectlite.Value).Set"], unfollowed := true, recurses := true, named := ["haystack/rrr.widths", "errors.errorType", "haystack/rrr.ways"], plainKeys := false, apart := false, laid := [("errors.errorType", laid_errors_errorType), ("haystack/rrr.ways", laid_haystack_rrr_ways), ("haystack/rrr.widths", laid_haystack_rrr_widths)] }
def ShapedBuildsSaid : Prop := shapedBuildsRow.holds Tryz.pinned (OpenSpec.ofChange shapedBuildsSpec)

/-- ITS FALSE NEIGHBOUR: 'it returns false'. Refute it at one input. -/
def shapedBuildsWrong : ChangeSpec := { name := "shapedBuilds", fn := fun _ => fun
  | [d1, d2] => { results := [.lit (.bool false)], args := [d1, d2] }
  | _ => none }
def ShapedBuildsWrongFalsely : Prop := shapedBuildsRow.holds Tryz.pinned (OpenSpec.ofChange shapedBuildsWrong)

/-- 'haystacklaw13.ShapedTells': WHATEVER THE INPUT: true; the input reads as it did. -/
def shapedTellsSpec : ChangeSpec := { name := "shapedTells", fn := fun _ => fun
  | [d1, d2, d3] => { results := [.lit (.bool true)], args := [d1, d2, d3] }
  | _ => none }
def shapedTellsRow : OpenClaim := { program := "ytleegaihbgbcjaagreatdoor", sum := "3eff2bace1decb324f9121c7144fefce4ab76a374c2df5c073389cd8dbc0847f", func := "haystack/haystacklaw13.ShapedTells", spec := "shapedTells", inPlace := ["internal/reflectlite.ValueOf", "(internal/reflectlite.Value).Type", "(internal/reflectlite.Value).IsNil", "internal/reflectlite.TypeOf", "(internal/reflectlite.Value).Elem", "(internal/reflectlite.Value).Set"], unfollowed := true, recurses := true, named := ["haystack/rrr.widths", "errors.errorType", "haystack/rrr.ways"], plainKeys := false, apart := false, laid := [("errors.errorType", laid_errors_errorType), ("haystack/rrr.ways", laid_haystack_rrr_ways), ("haystack/rrr.widths", laid_haystack_rrr_widths)] }
def ShapedTellsSaid : Prop := shapedTellsRow.holds Tryz.pinned (OpenSpec.ofChange shapedTellsSpec)

/-- ITS FALSE NEIGHBOUR: 'it returns false'. Refute it at one input. -/
def shapedTellsWrong : ChangeSpec := { name := "shapedTells", fn := fun _ => fun
  | [d1, d2, d3] => { results := [.lit (.bool false)], args := [d1, d2, d3] }
  | _ => none }
def ShapedTellsWrongFalsely : Prop := shapedTellsRow.holds Tryz.pinned (OpenSpec.ofChange shapedTellsWrong)

/-- 'haystacklaw13.ShapedBack': WHATEVER THE INPUT: true; the input reads as it did. -/
def shapedBackSpec : ChangeSpec := { name := "shapedBack", fn := fun _ => fun
  | [d1, d2, d3, d4] => { results := [.lit (.bool true)], args := [d1, d2, d3, d4] }
  | _ => none }
def shapedBackRow : OpenClaim := { program := "ytleegaihbgbcjaagreatdoor", sum := "3eff2bace1decb324f9121c7144fefce4ab76a374c2df5c073389cd8dbc0847f", func := "haystack/haystacklaw13.ShapedBack", spec := "shapedBack", inPlace := ["internal/reflectlite.ValueOf", "(internal/reflectlite.Value).Type", "(internal/reflectlite.Value).IsNil", "internal/reflectlite.TypeOf", "(internal/reflectlite.Value).Elem", "(internal/reflectlite.Value).Set"], unfollowed := true, recurses := true, named := ["haystack/rrr.widths", "errors.errorType", "haystack/rrr.ways"], plainKeys := false, apart := false, laid := [("errors.errorType", laid_errors_errorType), ("haystack/rrr.ways", laid_haystack_rrr_ways), ("haystack/rrr.widths", laid_haystack_rrr_widths)] }
def ShapedBackSaid : Prop := shapedBackRow.holds Tryz.pinned (OpenSpec.ofChange shapedBackSpec)

/-- ITS FALSE NEIGHBOUR: 'it returns false'. Refute it at one input. -/
def shapedBackWrong : ChangeSpec := { name := "shapedBack", fn := fun _ => fun
  | [d1, d2, d3, d4] => { results := [.lit (.bool false)], args := [d1, d2, d3, d4] }
  | _ => none }
def ShapedBackWrongFalsely : Prop := shapedBackRow.holds Tryz.pinned (OpenSpec.ofChange shapedBackWrong)

/-- 'haystacklaw14.MatrixAlike': WHATEVER THE INPUT: true; the input reads as it did. -/
def matrixAlikeSpec : ChangeSpec := { name := "matrixAlike", fn := fun _ => fun
  | [d1, d2, d3, d4] => { results := [.lit (.bool true)], args := [d1, d2, d3, d4] }
  | _ => none }
def matrixAlikeRow : OpenClaim := { program := "ytleegaihbgbcjaagreatdoor", sum := "3eff2bace1decb324f9121c7144fefce4ab76a374c2df5c073389cd8dbc0847f", func := "haystack/haystacklaw14.MatrixAlike", spec := "matrixAlike", inPlace := ["internal/reflectlite.ValueOf", "(internal/reflectlite.Value).Type", "(internal/reflectlite.Value).IsNil", "internal/reflectlite.TypeOf", "(internal/reflectlite.Value).Elem", "(internal/reflectlite.Value).Set"], unfollowed := true, recurses := true, named := ["haystack/rrr.widths", "errors.errorType", "haystack/rrr.ways"], plainKeys := false, apart := false, laid := [("errors.errorType", laid_errors_errorType), ("haystack/rrr.ways", laid_haystack_rrr_ways), ("haystack/rrr.widths", laid_haystack_rrr_widths)] }
def MatrixAlikeSaid : Prop := matrixAlikeRow.holds Tryz.pinned (OpenSpec.ofChange matrixAlikeSpec)

/-- ITS FALSE NEIGHBOUR: 'it returns false'. Refute it at one input. -/
def matrixAlikeWrong : ChangeSpec := { name := "matrixAlike", fn := fun _ => fun
  | [d1, d2, d3, d4] => { results := [.lit (.bool false)], args := [d1, d2, d3, d4] }
  | _ => none }
def MatrixAlikeWrongFalsely : Prop := matrixAlikeRow.holds Tryz.pinned (OpenSpec.ofChange matrixAlikeWrong)

/- THE SECOND FORM. 'bulk': how many values and letters a reading holds, each counted each time it is reached (what is shared counts as often as it is met; a slice's spare places count too). A statement '..UptoSaid' is the law's where the arguments, and the package variables that the reading takes, are together of bulk at most 1048576: NARROWER than '..Said'. Prove '..Said' where nothing that the law and all that it calls make is longer than what came in: it says more and counts as full. Else prove '..UptoSaid'. A law counts once. -/
mutual
def uptoBulk {H : Type} : DataW H → Nat
  | .lit (.string bytes) => bytes.length + 1
  | .lit _ => 1
  | .nil => 1
  | .ptr d => uptoBulk d + 1
  | .slice elems spare => uptoBulkAll elems + uptoBulkAll spare + 1
  | .agg parts => uptoBulkAll parts + 1
  | .iface _ d => uptoBulk d + 1
  | .map entries => uptoBulkEntries entries + 1
  | .held _ => 1
def uptoBulkAll {H : Type} : List (DataW H) → Nat
  | [] => 0
  | d :: r => uptoBulk d + uptoBulkAll r
def uptoBulkEntries {H : Type} : List (Lit × DataW H) → Nat
  | [] => 0
  | x :: r => uptoBulkEntry x + uptoBulkEntries r
def uptoBulkEntry {H : Type} : Lit × DataW H → Nat
  | (.string bytes, d) => bytes.length + uptoBulk d + 1
  | (_, d) => uptoBulk d + 1
 end
def uptoSmall : (H : Type) → List (DataW H) → Bool := fun _ ds => decide (uptoBulkAll ds ≤ 1048576)
def OpenSpec.upto (s : _root_.Go.ChangeSpec) : _root_.Go.OpenSpec := { _root_.Go.OpenSpec.ofChange s with cond := some uptoSmall }

/-- 'haystacklaw13.ShapedRows', WHERE WHAT IT READS IS OF BULK AT MOST 1048576: true; the input reads as it did. -/
def shapedRowsUptoRow : OpenClaim := { program := "ytleegaihbgbcjaagreatdoor", sum := "3eff2bace1decb324f9121c7144fefce4ab76a374c2df5c073389cd8dbc0847f", func := "haystack/haystacklaw13.ShapedRows", spec := "shapedRows", inPlace := ["internal/reflectlite.ValueOf", "(internal/reflectlite.Value).Type", "(internal/reflectlite.Value).IsNil", "internal/reflectlite.TypeOf", "(internal/reflectlite.Value).Elem", "(internal/reflectlite.Value).Set"], unfollowed := true, recurses := true, named := ["haystack/rrr.widths", "errors.errorType", "haystack/rrr.ways"], plainKeys := false, apart := false, laid := [("errors.errorType", laid_errors_errorType), ("haystack/rrr.ways", laid_haystack_rrr_ways), ("haystack/rrr.widths", laid_haystack_rrr_widths)], narrowed := true }
def ShapedRowsUptoSaid : Prop := shapedRowsUptoRow.holds Tryz.pinned (OpenSpec.upto shapedRowsSpec)

/-- 'haystacklaw13.ShapedCounts', WHERE WHAT IT READS IS OF BULK AT MOST 1048576: true; the input reads as it did. -/
def shapedCountsUptoRow : OpenClaim := { program := "ytleegaihbgbcjaagreatdoor", sum := "3eff2bace1decb324f9121c7144fefce4ab76a374c2df5c073389cd8dbc0847f", func := "haystack/haystacklaw13.ShapedCounts", spec := "shapedCounts", inPlace := ["internal/reflectlite.ValueOf", "(internal/reflectlite.Value).Type", "(internal/reflectlite.Value).IsNil", "internal/reflectlite.TypeOf", "(internal/reflectlite.Value).Elem", "(internal/reflectlite.Value).Set"], unfollowed := true, recurses := true, named := ["haystack/rrr.widths", "errors.errorType", "haystack/rrr.ways"], plainKeys := false, apart := false, laid := [("errors.errorType", laid_errors_errorType), ("haystack/rrr.ways", laid_haystack_rrr_ways), ("haystack/rrr.widths", laid_haystack_rrr_widths)], narrowed := true }
def ShapedCountsUptoSaid : Prop := shapedCountsUptoRow.holds Tryz.pinned (OpenSpec.upto shapedCountsSpec)

/-- 'haystacklaw13.ShapedBuilds', WHERE WHAT IT READS IS OF BULK AT MOST 1048576: true; the input reads as it did. -/
def shapedBuildsUptoRow : OpenClaim := { program := "ytleegaihbgbcjaagreatdoor", sum := "3eff2bace1decb324f9121c7144fefce4ab76a374c2df5c073389cd8dbc0847f", func := "haystack/haystacklaw13.ShapedBuilds", spec := "shapedBuilds", inPlace := ["internal/reflectlite.ValueOf", "(internal/reflectlite.Value).Type", "(internal/reflectlite.Value).IsNil", "internal/reflectlite.TypeOf", "(internal/reflectlite.Value).Elem", "(internal/reflectlite.Value).Set"], unfollowed := true, recurses := true, named := ["haystack/rrr.widths", "errors.errorType", "haystack/rrr.ways"], plainKeys := false, apart := false, laid := [("errors.errorType", laid_errors_errorType), ("haystack/rrr.ways", laid_haystack_rrr_ways), ("haystack/rrr.widths", laid_haystack_rrr_widths)], narrowed := true }
def ShapedBuildsUptoSaid : Prop := shapedBuildsUptoRow.holds Tryz.pinned (OpenSpec.upto shapedBuildsSpec)

/-- 'haystacklaw13.ShapedTells', WHERE WHAT IT READS IS OF BULK AT MOST 1048576: true; the input reads as it did. -/
def shapedTellsUptoRow : OpenClaim := { program := "ytleegaihbgbcjaagreatdoor", sum := "3eff2bace1decb324f9121c7144fefce4ab76a374c2df5c073389cd8dbc0847f", func := "haystack/haystacklaw13.ShapedTells", spec := "shapedTells", inPlace := ["internal/reflectlite.ValueOf", "(internal/reflectlite.Value).Type", "(internal/reflectlite.Value).IsNil", "internal/reflectlite.TypeOf", "(internal/reflectlite.Value).Elem", "(internal/reflectlite.Value).Set"], unfollowed := true, recurses := true, named := ["haystack/rrr.widths", "errors.errorType", "haystack/rrr.ways"], plainKeys := false, apart := false, laid := [("errors.errorType", laid_errors_errorType), ("haystack/rrr.ways", laid_haystack_rrr_ways), ("haystack/rrr.widths", laid_haystack_rrr_widths)], narrowed := true }
def ShapedTellsUptoSaid : Prop := shapedTellsUptoRow.holds Tryz.pinned (OpenSpec.upto shapedTellsSpec)

/-- 'haystacklaw13.ShapedBack', WHERE WHAT IT READS IS OF BULK AT MOST 1048576: true; the input reads as it did. -/
def shapedBackUptoRow : OpenClaim := { program := "ytleegaihbgbcjaagreatdoor", sum := "3eff2bace1decb324f9121c7144fefce4ab76a374c2df5c073389cd8dbc0847f", func := "haystack/haystacklaw13.ShapedBack", spec := "shapedBack", inPlace := ["internal/reflectlite.ValueOf", "(internal/reflectlite.Value).Type", "(internal/reflectlite.Value).IsNil", "internal/reflectlite.TypeOf", "(internal/reflectlite.Value).Elem", "(internal/reflectlite.Value).Set"], unfollowed := true, recurses := true, named := ["haystack/rrr.widths", "errors.errorType", "haystack/rrr.ways"], plainKeys := false, apart := false, laid := [("errors.errorType", laid_errors_errorType), ("haystack/rrr.ways", laid_haystack_rrr_ways), ("haystack/rrr.widths", laid_haystack_rrr_widths)], narrowed := true }
def ShapedBackUptoSaid : Prop := shapedBackUptoRow.holds Tryz.pinned (OpenSpec.upto shapedBackSpec)

/-- 'haystacklaw14.MatrixAlike', WHERE WHAT IT READS IS OF BULK AT MOST 1048576: true; the input reads as it did. -/
def matrixAlikeUptoRow : OpenClaim := { program := "ytleegaihbgbcjaagreatdoor", sum := "3eff2bace1decb324f9121c7144fefce4ab76a374c2df5c073389cd8dbc0847f", func := "haystack/haystacklaw14.MatrixAlike", spec := "matrixAlike", inPlace := ["internal/reflectlite.ValueOf", "(internal/reflectlite.Value).Type", "(internal/reflectlite.Value).IsNil", "internal/reflectlite.TypeOf", "(internal/reflectlite.Value).Elem", "(internal/reflectlite.Value).Set"], unfollowed := true, recurses := true, named := ["haystack/rrr.widths", "errors.errorType", "haystack/rrr.ways"], plainKeys := false, apart := false, laid := [("errors.errorType", laid_errors_errorType), ("haystack/rrr.ways", laid_haystack_rrr_ways), ("haystack/rrr.widths", laid_haystack_rrr_widths)], narrowed := true }
def MatrixAlikeUptoSaid : Prop := matrixAlikeUptoRow.holds Tryz.pinned (OpenSpec.upto matrixAlikeSpec)

end Rows
end Go.Proofs.YtleegaihbgbcjaaGreatDoor
