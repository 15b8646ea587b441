/-
  DERIVED. GIVEN WITH THE SEED: THE CARDS: each row of YtmphbnmcbonmmaaDoorRows.lean that lists a variable, with what it lists TIED to the program's text (the seventh form; the later family's looks); each row that meets fmt, with fmt's text TOLD by the authors' own Lean function (tested against real Go, not proved from fmt's source: count such statements apart). THE CARD IS WHAT COUNTS. Prove the row's statement (the work); the ties are given (YtmphbnmcbonmmaaDoorTie.lean); close each card by the builder's one call (the guide's Derived/Test/ToyasCard.lean, 'card_holds'). Laid BY PROGRAM, IN A SANDBOX (cutbox-door.mjs). By AI agents, Wed Nov 11 2026. No macro, syntax, notation, axiom, sorry.
-/
import Derived.Test.YtmphbnmcbonmmaaDoorRows
import GoSem.ClaimSeven
namespace Go.Proofs.YtmphbnmcbonmmaaDoor
namespace Rows

/-- THE TIED CARD OF 'haystacklaw08.RrrCounts'. -/
def rrrCountsCard : Claim7 := { stood := { row := rrrCountsRow, standIns := [], harness := (true, "38e76869893b3c87cbf43ba33690b1b3f64c983969ad74c81bd1bc6dc1ddd24b"), looks := true }, kinds := [], alts := [], laidByText := true, laidKinds := [.handle, .data, .data], laidTests := true, laidLooks := .later }
def RrrCountsCardSaid : Prop := Claim7.holds Tryd.pinned (.plain (OpenSpec.ofChange rrrCountsSpec)) rrrCountsCard

/-- THE TIED CARD OF 'haystacklaw08.RrrSizes'. -/
def rrrSizesCard : Claim7 := { stood := { row := rrrSizesRow, standIns := [], harness := (true, "38e76869893b3c87cbf43ba33690b1b3f64c983969ad74c81bd1bc6dc1ddd24b"), looks := true }, kinds := [], alts := [], laidByText := true, laidKinds := [.handle, .data, .data], laidTests := true, laidLooks := .later }
def RrrSizesCardSaid : Prop := Claim7.holds Tryd.pinned (.plain (OpenSpec.ofChange rrrSizesSpec)) rrrSizesCard

/-- THE TIED CARD OF 'haystacklaw08.RrrBack'. -/
def rrrBackCard : Claim7 := { stood := { row := rrrBackRow, standIns := [], harness := (true, "38e76869893b3c87cbf43ba33690b1b3f64c983969ad74c81bd1bc6dc1ddd24b"), looks := true }, kinds := [], alts := [], laidByText := true, laidKinds := [.handle, .data, .data], laidTests := true, laidLooks := .later }
def RrrBackCardSaid : Prop := Claim7.holds Tryd.pinned (.plain (OpenSpec.ofChange rrrBackSpec)) rrrBackCard

/-- THE SECOND FORM's CARD OF 'haystacklaw08.RrrCounts'. -/
def rrrCountsUptoCard : Claim7 := { stood := { row := rrrCountsUptoRow, standIns := [], harness := (true, "38e76869893b3c87cbf43ba33690b1b3f64c983969ad74c81bd1bc6dc1ddd24b"), looks := true }, kinds := [], alts := [], laidByText := true, laidKinds := [.handle, .data, .data], laidTests := true, laidLooks := .later }
def RrrCountsUptoCardSaid : Prop := Claim7.holds Tryd.pinned (.plain (OpenSpec.upto rrrCountsSpec)) rrrCountsUptoCard

/-- THE SECOND FORM's CARD OF 'haystacklaw08.RrrSizes'. -/
def rrrSizesUptoCard : Claim7 := { stood := { row := rrrSizesUptoRow, standIns := [], harness := (true, "38e76869893b3c87cbf43ba33690b1b3f64c983969ad74c81bd1bc6dc1ddd24b"), looks := true }, kinds := [], alts := [], laidByText := true, laidKinds := [.handle, .data, .data], laidTests := true, laidLooks := .later }
def RrrSizesUptoCardSaid : Prop := Claim7.holds Tryd.pinned (.plain (OpenSpec.upto rrrSizesSpec)) rrrSizesUptoCard

/-- THE SECOND FORM's CARD OF 'haystacklaw08.RrrBack'. -/
def rrrBackUptoCard : Claim7 := { stood := { row := rrrBackUptoRow, standIns := [], harness := (true, "38e76869893b3c87cbf43ba33690b1b3f64c983969ad74c81bd1bc6dc1ddd24b"), looks := true }, kinds := [], alts := [], laidByText := true, laidKinds := [.handle, .data, .data], laidTests := true, laidLooks := .later }
def RrrBackUptoCardSaid : Prop := Claim7.holds Tryd.pinned (.plain (OpenSpec.upto rrrBackSpec)) rrrBackUptoCard
end Rows
end Go.Proofs.YtmphbnmcbonmmaaDoor
