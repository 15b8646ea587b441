/-
  DERIVED. GIVEN WITH THE SEED: THE CARDS: each row of YtleegaihbgbcjabGreatDoorRows.lean that lists a variable, with what it lists TIED to the program's text (the seventh form; the later family's looks); each row that meets fmt, with fmt's text TOLD by the authors' own Lean function (tested against real Go, not proved from fmt's source: count such statements apart). THE CARD IS WHAT COUNTS. Prove the row's statement (the work); the ties are given (YtleegaihbgbcjabGreatDoorTie.lean); close each card by the builder's one call (the guide's Derived/Test/ToyasCard.lean, 'card_holds'). Laid BY PROGRAM, IN A SANDBOX (cutbox-door.mjs). By AI agents, Wed Nov 11 2026. No macro, syntax, notation, axiom, sorry.
-/
import Derived.Test.YtleegaihbgbcjabGreatDoorRows
import GoSem.ClaimSeven
namespace Go.Proofs.YtleegaihbgbcjabGreatDoor
namespace Rows

/-- THE TIED CARD OF 'haystacklaw14.MatrixCounts'. -/
def matrixCountsCard : Claim7 := { stood := { row := matrixCountsRow, standIns := [], harness := (true, "7b508cc1f8ab7d2856745cbd51bcc22d90ed0c50f55d16c0d4c975af93704cd1"), looks := true }, kinds := [], alts := [], laidByText := true, laidKinds := [.handle, .data, .data], laidTests := true, laidLooks := .later }
def MatrixCountsCardSaid : Prop := Claim7.holds Tryz.pinned (.plain (OpenSpec.ofChange matrixCountsSpec)) matrixCountsCard

/-- THE TIED CARD OF 'haystacklaw14.MatrixBuilds'. -/
def matrixBuildsCard : Claim7 := { stood := { row := matrixBuildsRow, standIns := [], harness := (true, "7b508cc1f8ab7d2856745cbd51bcc22d90ed0c50f55d16c0d4c975af93704cd1"), looks := true }, kinds := [], alts := [], laidByText := true, laidKinds := [.handle, .data, .data], laidTests := true, laidLooks := .later }
def MatrixBuildsCardSaid : Prop := Claim7.holds Tryz.pinned (.plain (OpenSpec.ofChange matrixBuildsSpec)) matrixBuildsCard

/-- THE TIED CARD OF 'haystacklaw14.MatrixTells'. -/
def matrixTellsCard : Claim7 := { stood := { row := matrixTellsRow, standIns := [], harness := (true, "7b508cc1f8ab7d2856745cbd51bcc22d90ed0c50f55d16c0d4c975af93704cd1"), looks := true }, kinds := [], alts := [], laidByText := true, laidKinds := [.handle, .data, .data], laidTests := true, laidLooks := .later }
def MatrixTellsCardSaid : Prop := Claim7.holds Tryz.pinned (.plain (OpenSpec.ofChange matrixTellsSpec)) matrixTellsCard

/-- THE TIED CARD OF 'haystacklaw14.MatrixBack'. -/
def matrixBackCard : Claim7 := { stood := { row := matrixBackRow, standIns := [], harness := (true, "7b508cc1f8ab7d2856745cbd51bcc22d90ed0c50f55d16c0d4c975af93704cd1"), looks := true }, kinds := [], alts := [], laidByText := true, laidKinds := [.handle, .data, .data], laidTests := true, laidLooks := .later }
def MatrixBackCardSaid : Prop := Claim7.holds Tryz.pinned (.plain (OpenSpec.ofChange matrixBackSpec)) matrixBackCard

/-- THE SECOND FORM's CARD OF 'haystacklaw14.MatrixCounts'. -/
def matrixCountsUptoCard : Claim7 := { stood := { row := matrixCountsUptoRow, standIns := [], harness := (true, "7b508cc1f8ab7d2856745cbd51bcc22d90ed0c50f55d16c0d4c975af93704cd1"), looks := true }, kinds := [], alts := [], laidByText := true, laidKinds := [.handle, .data, .data], laidTests := true, laidLooks := .later }
def MatrixCountsUptoCardSaid : Prop := Claim7.holds Tryz.pinned (.plain (OpenSpec.upto matrixCountsSpec)) matrixCountsUptoCard

/-- THE SECOND FORM's CARD OF 'haystacklaw14.MatrixBuilds'. -/
def matrixBuildsUptoCard : Claim7 := { stood := { row := matrixBuildsUptoRow, standIns := [], harness := (true, "7b508cc1f8ab7d2856745cbd51bcc22d90ed0c50f55d16c0d4c975af93704cd1"), looks := true }, kinds := [], alts := [], laidByText := true, laidKinds := [.handle, .data, .data], laidTests := true, laidLooks := .later }
def MatrixBuildsUptoCardSaid : Prop := Claim7.holds Tryz.pinned (.plain (OpenSpec.upto matrixBuildsSpec)) matrixBuildsUptoCard

/-- THE SECOND FORM's CARD OF 'haystacklaw14.MatrixTells'. -/
def matrixTellsUptoCard : Claim7 := { stood := { row := matrixTellsUptoRow, standIns := [], harness := (true, "7b508cc1f8ab7d2856745cbd51bcc22d90ed0c50f55d16c0d4c975af93704cd1"), looks := true }, kinds := [], alts := [], laidByText := true, laidKinds := [.handle, .data, .data], laidTests := true, laidLooks := .later }
def MatrixTellsUptoCardSaid : Prop := Claim7.holds Tryz.pinned (.plain (OpenSpec.upto matrixTellsSpec)) matrixTellsUptoCard

/-- THE SECOND FORM's CARD OF 'haystacklaw14.MatrixBack'. -/
def matrixBackUptoCard : Claim7 := { stood := { row := matrixBackUptoRow, standIns := [], harness := (true, "7b508cc1f8ab7d2856745cbd51bcc22d90ed0c50f55d16c0d4c975af93704cd1"), looks := true }, kinds := [], alts := [], laidByText := true, laidKinds := [.handle, .data, .data], laidTests := true, laidLooks := .later }
def MatrixBackUptoCardSaid : Prop := Claim7.holds Tryz.pinned (.plain (OpenSpec.upto matrixBackSpec)) matrixBackUptoCard
end Rows
end Go.Proofs.YtleegaihbgbcjabGreatDoor
