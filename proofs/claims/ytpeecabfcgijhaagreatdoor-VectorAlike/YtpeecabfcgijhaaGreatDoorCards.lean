/-
  DERIVED. GIVEN WITH THE SEED: THE CARDS: each row of YtpeecabfcgijhaaGreatDoorRows.lean that lists a variable, with what it lists TIED to the program's text (the seventh form; the later family's looks); each row that meets fmt, with fmt's text TOLD by the authors' own Lean function (tested against real Go, not proved from fmt's source: count such statements apart). THE CARD IS WHAT COUNTS. Prove the row's statement (the work); the ties are given (YtpeecabfcgijhaaGreatDoorTie.lean); close each card by the builder's one call (the guide's Derived/Test/ToyasCard.lean, 'card_holds'). Laid BY PROGRAM, IN A SANDBOX (cutbox-door.mjs). By AI agents, Wed Nov 11 2026. No macro, syntax, notation, axiom, sorry.
-/
import Derived.Test.YtpeecabfcgijhaaGreatDoorRows
import GoSem.ClaimSeven
namespace Go.Proofs.YtpeecabfcgijhaaGreatDoor
namespace Rows

/-- THE TIED CARD OF 'haystacklaw10.VectorAlike'. -/
def vectorAlikeCard : Claim7 := { stood := { row := vectorAlikeRow, standIns := [], harness := (true, "2bd0379edccf0840bff9a4e248c1b4fe7872517fd67d6c1943d395fa38030269"), looks := true }, kinds := [], alts := [], laidByText := true, laidKinds := [.handle, .data, .data], laidTests := true, laidLooks := .later }
def VectorAlikeCardSaid : Prop := Claim7.holds Tryz.pinned (.plain (OpenSpec.ofChange vectorAlikeSpec)) vectorAlikeCard

/-- THE TIED CARD OF 'haystacklaw10.VectorBuilds'. -/
def vectorBuildsCard : Claim7 := { stood := { row := vectorBuildsRow, standIns := [], harness := (true, "2bd0379edccf0840bff9a4e248c1b4fe7872517fd67d6c1943d395fa38030269"), looks := true }, kinds := [], alts := [], laidByText := true, laidKinds := [.handle, .data, .data], laidTests := true, laidLooks := .later }
def VectorBuildsCardSaid : Prop := Claim7.holds Tryz.pinned (.plain (OpenSpec.ofChange vectorBuildsSpec)) vectorBuildsCard

/-- THE TIED CARD OF 'haystacklaw10.VectorTells'. -/
def vectorTellsCard : Claim7 := { stood := { row := vectorTellsRow, standIns := [], harness := (true, "2bd0379edccf0840bff9a4e248c1b4fe7872517fd67d6c1943d395fa38030269"), looks := true }, kinds := [], alts := [], laidByText := true, laidKinds := [.handle, .data, .data], laidTests := true, laidLooks := .later }
def VectorTellsCardSaid : Prop := Claim7.holds Tryz.pinned (.plain (OpenSpec.ofChange vectorTellsSpec)) vectorTellsCard

/-- THE TIED CARD OF 'haystacklaw10.VectorBack'. -/
def vectorBackCard : Claim7 := { stood := { row := vectorBackRow, standIns := [], harness := (true, "2bd0379edccf0840bff9a4e248c1b4fe7872517fd67d6c1943d395fa38030269"), looks := true }, kinds := [], alts := [], laidByText := true, laidKinds := [.handle, .data, .data], laidTests := true, laidLooks := .later }
def VectorBackCardSaid : Prop := Claim7.holds Tryz.pinned (.plain (OpenSpec.ofChange vectorBackSpec)) vectorBackCard

/-- THE SECOND FORM's CARD OF 'haystacklaw10.VectorAlike'. -/
def vectorAlikeUptoCard : Claim7 := { stood := { row := vectorAlikeUptoRow, standIns := [], harness := (true, "2bd0379edccf0840bff9a4e248c1b4fe7872517fd67d6c1943d395fa38030269"), looks := true }, kinds := [], alts := [], laidByText := true, laidKinds := [.handle, .data, .data], laidTests := true, laidLooks := .later }
def VectorAlikeUptoCardSaid : Prop := Claim7.holds Tryz.pinned (.plain (OpenSpec.upto vectorAlikeSpec)) vectorAlikeUptoCard

/-- THE SECOND FORM's CARD OF 'haystacklaw10.VectorBuilds'. -/
def vectorBuildsUptoCard : Claim7 := { stood := { row := vectorBuildsUptoRow, standIns := [], harness := (true, "2bd0379edccf0840bff9a4e248c1b4fe7872517fd67d6c1943d395fa38030269"), looks := true }, kinds := [], alts := [], laidByText := true, laidKinds := [.handle, .data, .data], laidTests := true, laidLooks := .later }
def VectorBuildsUptoCardSaid : Prop := Claim7.holds Tryz.pinned (.plain (OpenSpec.upto vectorBuildsSpec)) vectorBuildsUptoCard

/-- THE SECOND FORM's CARD OF 'haystacklaw10.VectorTells'. -/
def vectorTellsUptoCard : Claim7 := { stood := { row := vectorTellsUptoRow, standIns := [], harness := (true, "2bd0379edccf0840bff9a4e248c1b4fe7872517fd67d6c1943d395fa38030269"), looks := true }, kinds := [], alts := [], laidByText := true, laidKinds := [.handle, .data, .data], laidTests := true, laidLooks := .later }
def VectorTellsUptoCardSaid : Prop := Claim7.holds Tryz.pinned (.plain (OpenSpec.upto vectorTellsSpec)) vectorTellsUptoCard

/-- THE SECOND FORM's CARD OF 'haystacklaw10.VectorBack'. -/
def vectorBackUptoCard : Claim7 := { stood := { row := vectorBackUptoRow, standIns := [], harness := (true, "2bd0379edccf0840bff9a4e248c1b4fe7872517fd67d6c1943d395fa38030269"), looks := true }, kinds := [], alts := [], laidByText := true, laidKinds := [.handle, .data, .data], laidTests := true, laidLooks := .later }
def VectorBackUptoCardSaid : Prop := Claim7.holds Tryz.pinned (.plain (OpenSpec.upto vectorBackSpec)) vectorBackUptoCard
end Rows
end Go.Proofs.YtpeecabfcgijhaaGreatDoor
