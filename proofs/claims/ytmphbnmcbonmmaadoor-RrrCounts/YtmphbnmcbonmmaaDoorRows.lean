/-
  NARROWER THAN 'FOR EVERY INPUT', by the rows' own cells (each row's printed sentence says how): RrrCounts: laid · RrrSizes: laid · RrrBack: laid.
  DERIVED. THE GIVEN ROWS OF THIS SEAT. 3 by the template 'for every input the law returns true; each argument reads behind the call as it read before'; 0 by the template 'total and deterministic' (their statements: YtmphbnmcbonmmaaDoorTotals.lean).
  GIVEN WITH THE SEED: the statements are not yours to turn. If you find one false, say at which input.
  Laid BY PROGRAM, IN A SANDBOX (cutbox-rows.mjs): the forced cells as the released guide's own fill.sh prints them over the translation 6c39a75e29b8eaad… (all of the seat's roots in one cut). By AI agents, Wed Nov 11 2026. No macro, syntax, notation, axiom, sorry.
-/
import Derived.Test.YtmphbnmcbonmmaaDoorChecked
import GoSem.Claim
import GoSem.ClaimJoined
import GoSem.ClaimMapViews
import Derived.JoinedTies
import Derived.KernelRfl
namespace Go.Proofs.YtmphbnmcbonmmaaDoor
/- THE CELL 'sum', in the pinned program and in every row, IS THE sha256 OF THE DUMP (.gsa) THAT YtmphbnmcbonmmaaDoorProg.lean LOADS. Nothing in Lean hashes anything: it is a label: what it is worth is what the hold of that sum in a sandbox is worth. -/
noncomputable def Tryd.pinned : Pinned := { name := "ytmphbnmcbonmmaadoor", sum := "6c39a75e29b8eaadf6feb7f4823556eb1c4e3af938e5f0e10687b0038afe8a99", checked := Tryd.checked }
namespace Rows
def none {H : Type} : Left H := { results := [], args := [] }

/- WHAT THE LISTED PACKAGE-LEVEL VARIABLES READ AS WHEN THE CALL BEGINS. Each datum BY PROGRAM (the guide's laid-datum.mjs) off the statement by which the dump's own 'gosem.cut.vars' lays the variable. In a bare row this is a premise. The card (YtmphbnmcbonmmaaDoorCards.lean) ties it to the program's text. -/
def laid_errors_errorType {H : Type} : DataW H := .iface "internal/reflectlite.rtype" (.agg [.ptr (.lit (.string [101, 114, 114, 111, 114]))])
def laid_haystack_rrr_ways {H : Type} : DataW H := .agg [.lit (.int .u64 1), .lit (.int .u64 15), .lit (.int .u64 105), .lit (.int .u64 455), .lit (.int .u64 1365), .lit (.int .u64 3003), .lit (.int .u64 5005), .lit (.int .u64 6435), .lit (.int .u64 6435), .lit (.int .u64 5005), .lit (.int .u64 3003), .lit (.int .u64 1365), .lit (.int .u64 455), .lit (.int .u64 105), .lit (.int .u64 15), .lit (.int .u64 1)]
def laid_haystack_rrr_widths {H : Type} : DataW H := .agg [.lit (.int .i64 0), .lit (.int .i64 4), .lit (.int .i64 7), .lit (.int .i64 9), .lit (.int .i64 11), .lit (.int .i64 12), .lit (.int .i64 13), .lit (.int .i64 13), .lit (.int .i64 13), .lit (.int .i64 13), .lit (.int .i64 12), .lit (.int .i64 11), .lit (.int .i64 9), .lit (.int .i64 7), .lit (.int .i64 4), .lit (.int .i64 0)]

/-- 'haystacklaw08.RrrCounts': WHATEVER THE INPUT: true; the input reads as it did. -/
def rrrCountsSpec : ChangeSpec := { name := "rrrCounts", fn := fun _ => fun
  | [d1, d2] => { results := [.lit (.bool true)], args := [d1, d2] }
  | _ => none }
def rrrCountsRow : OpenClaim := { program := "ytmphbnmcbonmmaadoor", sum := "6c39a75e29b8eaadf6feb7f4823556eb1c4e3af938e5f0e10687b0038afe8a99", func := "haystack/haystacklaw08.RrrCounts", spec := "rrrCounts", inPlace := ["internal/reflectlite.ValueOf", "(internal/reflectlite.Value).Type", "(internal/reflectlite.Value).IsNil", "internal/reflectlite.TypeOf", "(internal/reflectlite.Value).Elem", "(internal/reflectlite.Value).Set"], unfollowed := true, recurses := true, named := ["haystack/rrr.widths", "errors.errorType", "haystack/rrr.ways"], apart := false, laid := [("errors.errorType", laid_errors_errorType), ("haystack/rrr.ways", laid_haystack_rrr_ways), ("haystack/rrr.widths", laid_haystack_rrr_widths)] }
def RrrCountsSaid : Prop := rrrCountsRow.holds Tryd.pinned (OpenSpec.ofChange rrrCountsSpec)

/-- ITS FALSE NEIGHBOUR: 'it returns false'. Refute it at one input. -/
def rrrCountsWrong : ChangeSpec := { name := "rrrCounts", fn := fun _ => fun
  | [d1, d2] => { results := [.lit (.bool false)], args := [d1, d2] }
  | _ => none }
def RrrCountsWrongFalsely : Prop := rrrCountsRow.holds Tryd.pinned (OpenSpec.ofChange rrrCountsWrong)

/-- 'haystacklaw08.RrrSizes': WHATEVER THE INPUT: true; the input reads as it did. -/
def rrrSizesSpec : ChangeSpec := { name := "rrrSizes", fn := fun _ => fun
  | [d] => { results := [.lit (.bool true)], args := [d] }
  | _ => none }
def rrrSizesRow : OpenClaim := { program := "ytmphbnmcbonmmaadoor", sum := "6c39a75e29b8eaadf6feb7f4823556eb1c4e3af938e5f0e10687b0038afe8a99", func := "haystack/haystacklaw08.RrrSizes", spec := "rrrSizes", inPlace := ["internal/reflectlite.ValueOf", "(internal/reflectlite.Value).Type", "(internal/reflectlite.Value).IsNil", "internal/reflectlite.TypeOf", "(internal/reflectlite.Value).Elem", "(internal/reflectlite.Value).Set"], unfollowed := true, recurses := true, named := ["haystack/rrr.widths", "errors.errorType", "haystack/rrr.ways"], apart := false, laid := [("errors.errorType", laid_errors_errorType), ("haystack/rrr.ways", laid_haystack_rrr_ways), ("haystack/rrr.widths", laid_haystack_rrr_widths)] }
def RrrSizesSaid : Prop := rrrSizesRow.holds Tryd.pinned (OpenSpec.ofChange rrrSizesSpec)

/-- ITS FALSE NEIGHBOUR: 'it returns false'. Refute it at one input. -/
def rrrSizesWrong : ChangeSpec := { name := "rrrSizes", fn := fun _ => fun
  | [d] => { results := [.lit (.bool false)], args := [d] }
  | _ => none }
def RrrSizesWrongFalsely : Prop := rrrSizesRow.holds Tryd.pinned (OpenSpec.ofChange rrrSizesWrong)

/-- 'haystacklaw08.RrrBack': WHATEVER THE INPUT: true; the input reads as it did. -/
def rrrBackSpec : ChangeSpec := { name := "rrrBack", fn := fun _ => fun
  | [d1, d2, d3] => { results := [.lit (.bool true)], args := [d1, d2, d3] }
  | _ => none }
def rrrBackRow : OpenClaim := { program := "ytmphbnmcbonmmaadoor", sum := "6c39a75e29b8eaadf6feb7f4823556eb1c4e3af938e5f0e10687b0038afe8a99", func := "haystack/haystacklaw08.RrrBack", spec := "rrrBack", inPlace := ["internal/reflectlite.ValueOf", "(internal/reflectlite.Value).Type", "(internal/reflectlite.Value).IsNil", "internal/reflectlite.TypeOf", "(internal/reflectlite.Value).Elem", "(internal/reflectlite.Value).Set"], unfollowed := true, recurses := true, named := ["haystack/rrr.widths", "errors.errorType", "haystack/rrr.ways"], apart := false, laid := [("errors.errorType", laid_errors_errorType), ("haystack/rrr.ways", laid_haystack_rrr_ways), ("haystack/rrr.widths", laid_haystack_rrr_widths)] }
def RrrBackSaid : Prop := rrrBackRow.holds Tryd.pinned (OpenSpec.ofChange rrrBackSpec)

/-- ITS FALSE NEIGHBOUR: 'it returns false'. Refute it at one input. -/
def rrrBackWrong : ChangeSpec := { name := "rrrBack", fn := fun _ => fun
  | [d1, d2, d3] => { results := [.lit (.bool false)], args := [d1, d2, d3] }
  | _ => none }
def RrrBackWrongFalsely : Prop := rrrBackRow.holds Tryd.pinned (OpenSpec.ofChange rrrBackWrong)

/- THE SECOND FORM. 'bulk': how many values and letters a reading holds, each counted each time it is reached (what is shared counts as often as it is met; a slice's spare places count too). A statement '..UptoSaid' is the law's where the arguments, and the package variables that the reading takes, are together of bulk at most 1048576: NARROWER than '..Said'. Prove '..Said' where nothing that the law and all that it calls make is longer than what came in: it says more and counts as full. Else prove '..UptoSaid'. A law counts once. -/
mutual
def uptoBulk {H : Type} : DataW H → Nat
  | .lit (.string bytes) => bytes.length + 1
  | .lit _ => 1
  | .nil => 1
  | .ptr d => uptoBulk d + 1
  | .slice elems spare => uptoBulkAll elems + uptoBulkAll spare + 1
  | .agg parts => uptoBulkAll parts + 1
  | .iface _ d => uptoBulk d + 1
  | .map entries => uptoBulkEntries entries + 1
  | .held _ => 1
def uptoBulkAll {H : Type} : List (DataW H) → Nat
  | [] => 0
  | d :: r => uptoBulk d + uptoBulkAll r
def uptoBulkEntries {H : Type} : List (Lit × DataW H) → Nat
  | [] => 0
  | x :: r => uptoBulkEntry x + uptoBulkEntries r
def uptoBulkEntry {H : Type} : Lit × DataW H → Nat
  | (.string bytes, d) => bytes.length + uptoBulk d + 1
  | (_, d) => uptoBulk d + 1
 end
def uptoSmall : (H : Type) → List (DataW H) → Bool := fun _ ds => decide (uptoBulkAll ds ≤ 1048576)
def OpenSpec.upto (s : _root_.Go.ChangeSpec) : _root_.Go.OpenSpec := { _root_.Go.OpenSpec.ofChange s with cond := some uptoSmall }

/-- 'haystacklaw08.RrrCounts', WHERE WHAT IT READS IS OF BULK AT MOST 1048576: true; the input reads as it did. -/
def rrrCountsUptoRow : OpenClaim := { program := "ytmphbnmcbonmmaadoor", sum := "6c39a75e29b8eaadf6feb7f4823556eb1c4e3af938e5f0e10687b0038afe8a99", func := "haystack/haystacklaw08.RrrCounts", spec := "rrrCounts", inPlace := ["internal/reflectlite.ValueOf", "(internal/reflectlite.Value).Type", "(internal/reflectlite.Value).IsNil", "internal/reflectlite.TypeOf", "(internal/reflectlite.Value).Elem", "(internal/reflectlite.Value).Set"], unfollowed := true, recurses := true, named := ["haystack/rrr.widths", "errors.errorType", "haystack/rrr.ways"], apart := false, laid := [("errors.errorType", laid_errors_errorType), ("haystack/rrr.ways", laid_haystack_rrr_ways), ("haystack/rrr.widths", laid_haystack_rrr_widths)], narrowed := true }
def RrrCountsUptoSaid : Prop := rrrCountsUptoRow.holds Tryd.pinned (OpenSpec.upto rrrCountsSpec)

/-- 'haystacklaw08.RrrSizes', WHERE WHAT IT READS IS OF BULK AT MOST 1048576: true; the input reads as it did. -/
def rrrSizesUptoRow : OpenClaim := { program := "ytmphbnmcbonmmaadoor", sum := "6c39a75e29b8eaadf6feb7f4823556eb1c4e3af938e5f0e10687b0038afe8a99", func := "haystack/haystacklaw08.RrrSizes", spec := "rrrSizes", inPlace := ["internal/reflectlite.ValueOf", "(internal/reflectlite.Value).Type", "(internal/reflectlite.Value).IsNil", "internal/reflectlite.TypeOf", "(internal/reflectlite.Value).Elem", "(internal/reflectlite.Value).Set"], unfollowed := true, recurses := true, named := ["haystack/rrr.widths", "errors.errorType", "haystack/rrr.ways"], apart := false, laid := [("errors.errorType", laid_errors_errorType), ("haystack/rrr.ways", laid_haystack_rrr_ways), ("haystack/rrr.widths", laid_haystack_rrr_widths)], narrowed := true }
def RrrSizesUptoSaid : Prop := rrrSizesUptoRow.holds Tryd.pinned (OpenSpec.upto rrrSizesSpec)

/-- 'haystacklaw08.RrrBack', WHERE WHAT IT READS IS OF BULK AT MOST 1048576: true; the input reads as it did. -/
def rrrBackUptoRow : OpenClaim := { program := "ytmphbnmcbonmmaadoor", sum := "6c39a75e29b8eaadf6feb7f4823556eb1c4e3af938e5f0e10687b0038afe8a99", func := "haystack/haystacklaw08.RrrBack", spec := "rrrBack", inPlace := ["internal/reflectlite.ValueOf", "(internal/reflectlite.Value).Type", "(internal/reflectlite.Value).IsNil", "internal/reflectlite.TypeOf", "(internal/reflectlite.Value).Elem", "(internal/reflectlite.Value).Set"], unfollowed := true, recurses := true, named := ["haystack/rrr.widths", "errors.errorType", "haystack/rrr.ways"], apart := false, laid := [("errors.errorType", laid_errors_errorType), ("haystack/rrr.ways", laid_haystack_rrr_ways), ("haystack/rrr.widths", laid_haystack_rrr_widths)], narrowed := true }
def RrrBackUptoSaid : Prop := rrrBackUptoRow.holds Tryd.pinned (OpenSpec.upto rrrBackSpec)

end Rows
end Go.Proofs.YtmphbnmcbonmmaaDoor
