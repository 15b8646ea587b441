/-
  DERIVED. GIVEN WITH THE SEED: THE CARDS: each row of YtleegaihbgbcjaaGreatDoorRows.lean that lists a variable, with what it lists TIED to the program's text (the seventh form; the later family's looks); each row that meets fmt, with fmt's text TOLD by the authors' own Lean function (tested against real Go, not proved from fmt's source: count such statements apart). THE CARD IS WHAT COUNTS. Prove the row's statement (the work); the ties are given (YtleegaihbgbcjaaGreatDoorTie.lean); close each card by the builder's one call (the guide's Derived/Test/ToyasCard.lean, 'card_holds'). Laid BY PROGRAM, IN A SANDBOX (cutbox-door.mjs). By AI agents, Wed Nov 11 2026. No macro, syntax, notation, axiom, sorry.
-/
import Derived.Test.YtleegaihbgbcjaaGreatDoorRows
import GoSem.ClaimSeven
namespace Go.Proofs.YtleegaihbgbcjaaGreatDoor
namespace Rows

/-- THE TIED CARD OF 'haystacklaw13.ShapedRows'. -/
def shapedRowsCard : Claim7 := { stood := { row := shapedRowsRow, standIns := [], harness := (true, "7dc86c0d37a791c5e197edebda7a118415b0d18b1a23dc2c250974a41f2107e1"), looks := true }, kinds := [], alts := [], laidByText := true, laidKinds := [.handle, .data, .data], laidTests := true, laidLooks := .later }
def ShapedRowsCardSaid : Prop := Claim7.holds Tryz.pinned (.plain (OpenSpec.ofChange shapedRowsSpec)) shapedRowsCard

/-- THE TIED CARD OF 'haystacklaw13.ShapedCounts'. -/
def shapedCountsCard : Claim7 := { stood := { row := shapedCountsRow, standIns := [], harness := (true, "7dc86c0d37a791c5e197edebda7a118415b0d18b1a23dc2c250974a41f2107e1"), looks := true }, kinds := [], alts := [], laidByText := true, laidKinds := [.handle, .data, .data], laidTests := true, laidLooks := .later }
def ShapedCountsCardSaid : Prop := Claim7.holds Tryz.pinned (.plain (OpenSpec.ofChange shapedCountsSpec)) shapedCountsCard

/-- THE TIED CARD OF 'haystacklaw13.ShapedBuilds'. -/
def shapedBuildsCard : Claim7 := { stood := { row := shapedBuildsRow, standIns := [], harness := (true, "7dc86c0d37a791c5e197edebda7a118415b0d18b1a23dc2c250974a41f2107e1"), looks := true }, kinds := [], alts := [], laidByText := true, laidKinds := [.handle, .data, .data], laidTests := true, laidLooks := .later }
def ShapedBuildsCardSaid : Prop := Claim7.holds Tryz.pinned (.plain (OpenSpec.ofChange shapedBuildsSpec)) shapedBuildsCard

/-- THE TIED CARD OF 'haystacklaw13.ShapedTells'. -/
def shapedTellsCard : Claim7 := { stood := { row := shapedTellsRow, standIns := [], harness := (true, "7dc86c0d37a791c5e197edebda7a118415b0d18b1a23dc2c250974a41f2107e1"), looks := true }, kinds := [], alts := [], laidByText := true, laidKinds := [.handle, .data, .data], laidTests := true, laidLooks := .later }
def ShapedTellsCardSaid : Prop := Claim7.holds Tryz.pinned (.plain (OpenSpec.ofChange shapedTellsSpec)) shapedTellsCard

/-- THE TIED CARD OF 'haystacklaw13.ShapedBack'. -/
def shapedBackCard : Claim7 := { stood := { row := shapedBackRow, standIns := [], harness := (true, "7dc86c0d37a791c5e197edebda7a118415b0d18b1a23dc2c250974a41f2107e1"), looks := true }, kinds := [], alts := [], laidByText := true, laidKinds := [.handle, .data, .data], laidTests := true, laidLooks := .later }
def ShapedBackCardSaid : Prop := Claim7.holds Tryz.pinned (.plain (OpenSpec.ofChange shapedBackSpec)) shapedBackCard

/-- THE TIED CARD OF 'haystacklaw14.MatrixAlike'. -/
def matrixAlikeCard : Claim7 := { stood := { row := matrixAlikeRow, standIns := [], harness := (true, "7dc86c0d37a791c5e197edebda7a118415b0d18b1a23dc2c250974a41f2107e1"), looks := true }, kinds := [], alts := [], laidByText := true, laidKinds := [.handle, .data, .data], laidTests := true, laidLooks := .later }
def MatrixAlikeCardSaid : Prop := Claim7.holds Tryz.pinned (.plain (OpenSpec.ofChange matrixAlikeSpec)) matrixAlikeCard

/-- THE SECOND FORM's CARD OF 'haystacklaw13.ShapedRows'. -/
def shapedRowsUptoCard : Claim7 := { stood := { row := shapedRowsUptoRow, standIns := [], harness := (true, "7dc86c0d37a791c5e197edebda7a118415b0d18b1a23dc2c250974a41f2107e1"), looks := true }, kinds := [], alts := [], laidByText := true, laidKinds := [.handle, .data, .data], laidTests := true, laidLooks := .later }
def ShapedRowsUptoCardSaid : Prop := Claim7.holds Tryz.pinned (.plain (OpenSpec.upto shapedRowsSpec)) shapedRowsUptoCard

/-- THE SECOND FORM's CARD OF 'haystacklaw13.ShapedCounts'. -/
def shapedCountsUptoCard : Claim7 := { stood := { row := shapedCountsUptoRow, standIns := [], harness := (true, "7dc86c0d37a791c5e197edebda7a118415b0d18b1a23dc2c250974a41f2107e1"), looks := true }, kinds := [], alts := [], laidByText := true, laidKinds := [.handle, .data, .data], laidTests := true, laidLooks := .later }
def ShapedCountsUptoCardSaid : Prop := Claim7.holds Tryz.pinned (.plain (OpenSpec.upto shapedCountsSpec)) shapedCountsUptoCard

/-- THE SECOND FORM's CARD OF 'haystacklaw13.ShapedBuilds'. -/
def shapedBuildsUptoCard : Claim7 := { stood := { row := shapedBuildsUptoRow, standIns := [], harness := (true, "7dc86c0d37a791c5e197edebda7a118415b0d18b1a23dc2c250974a41f2107e1"), looks := true }, kinds := [], alts := [], laidByText := true, laidKinds := [.handle, .data, .data], laidTests := true, laidLooks := .later }
def ShapedBuildsUptoCardSaid : Prop := Claim7.holds Tryz.pinned (.plain (OpenSpec.upto shapedBuildsSpec)) shapedBuildsUptoCard

/-- THE SECOND FORM's CARD OF 'haystacklaw13.ShapedTells'. -/
def shapedTellsUptoCard : Claim7 := { stood := { row := shapedTellsUptoRow, standIns := [], harness := (true, "7dc86c0d37a791c5e197edebda7a118415b0d18b1a23dc2c250974a41f2107e1"), looks := true }, kinds := [], alts := [], laidByText := true, laidKinds := [.handle, .data, .data], laidTests := true, laidLooks := .later }
def ShapedTellsUptoCardSaid : Prop := Claim7.holds Tryz.pinned (.plain (OpenSpec.upto shapedTellsSpec)) shapedTellsUptoCard

/-- THE SECOND FORM's CARD OF 'haystacklaw13.ShapedBack'. -/
def shapedBackUptoCard : Claim7 := { stood := { row := shapedBackUptoRow, standIns := [], harness := (true, "7dc86c0d37a791c5e197edebda7a118415b0d18b1a23dc2c250974a41f2107e1"), looks := true }, kinds := [], alts := [], laidByText := true, laidKinds := [.handle, .data, .data], laidTests := true, laidLooks := .later }
def ShapedBackUptoCardSaid : Prop := Claim7.holds Tryz.pinned (.plain (OpenSpec.upto shapedBackSpec)) shapedBackUptoCard

/-- THE SECOND FORM's CARD OF 'haystacklaw14.MatrixAlike'. -/
def matrixAlikeUptoCard : Claim7 := { stood := { row := matrixAlikeUptoRow, standIns := [], harness := (true, "7dc86c0d37a791c5e197edebda7a118415b0d18b1a23dc2c250974a41f2107e1"), looks := true }, kinds := [], alts := [], laidByText := true, laidKinds := [.handle, .data, .data], laidTests := true, laidLooks := .later }
def MatrixAlikeUptoCardSaid : Prop := Claim7.holds Tryz.pinned (.plain (OpenSpec.upto matrixAlikeSpec)) matrixAlikeUptoCard
end Rows
end Go.Proofs.YtleegaihbgbcjaaGreatDoor
