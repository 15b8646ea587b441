/-
  DERIVED. GIVEN WITH THE SEED: THE CARDS: each row of YtadfnllfeoidhaaDoorRows.lean that lists a variable, with what it lists TIED to the program's text (the seventh form; the later family's looks); each row that meets fmt, with fmt's text TOLD by the authors' own Lean function (tested against real Go, not proved from fmt's source: count such statements apart). THE CARD IS WHAT COUNTS. Prove the row's statement (the work); the ties are given (YtadfnllfeoidhaaDoorTie.lean); close each card by the builder's one call (the guide's Derived/Test/ToyasCard.lean, 'card_holds'). Laid BY PROGRAM, IN A SANDBOX (cutbox-door.mjs). By AI agents, Wed Nov 11 2026. No macro, syntax, notation, axiom, sorry.
-/
import Derived.Test.YtadfnllfeoidhaaDoorRows
import GoSem.ClaimSeven
namespace Go.Proofs.YtadfnllfeoidhaaDoor
namespace Rows

/-- THE TIED CARD OF 'haystacklaw20.ConfigApart'. -/
def configApartCard : Claim7 := { stood := { row := configApartRow, standIns := [], harness := (true, "1593746b2f8074c2f823bae7dda62f5e0b82fecdbe1678f3b126733c587ff417"), looks := false }, kinds := [], alts := [], laidByText := true, laidKinds := [.data, .data, .data], laidTests := true, laidLooks := .later }
def ConfigApartCardSaid : Prop := Claim7.holds Tryd.pinned (.plain (OpenSpec.ofChange configApartSpec)) configApartCard

/-- THE TIED CARD OF 'haystacklaw20.ConfigTells'. -/
def configTellsCard : Claim7 := { stood := { row := configTellsRow, standIns := [], harness := (true, "1593746b2f8074c2f823bae7dda62f5e0b82fecdbe1678f3b126733c587ff417"), looks := false }, kinds := [], alts := [], laidByText := true, laidKinds := [.data, .data, .data], laidTests := true, laidLooks := .later }
def ConfigTellsCardSaid : Prop := Claim7.holds Tryd.pinned (.plain (OpenSpec.ofChange configTellsSpec)) configTellsCard

/-- THE TIED CARD OF 'haystacklaw20.ConfigAll'. -/
def configAllCard : Claim7 := { stood := { row := configAllRow, standIns := [], harness := (true, "1593746b2f8074c2f823bae7dda62f5e0b82fecdbe1678f3b126733c587ff417"), looks := false }, kinds := [], alts := [], laidByText := true, laidKinds := [.data, .data, .data], laidTests := true, laidLooks := .later }
def ConfigAllCardSaid : Prop := Claim7.holds Tryd.pinned (.plain (OpenSpec.ofChange configAllSpec)) configAllCard

/-- THE TIED CARD OF 'haystacklaw20.ConfigBack'. -/
def configBackCard : Claim7 := { stood := { row := configBackRow, standIns := [], harness := (true, "1593746b2f8074c2f823bae7dda62f5e0b82fecdbe1678f3b126733c587ff417"), looks := false }, kinds := [], alts := [], laidByText := true, laidKinds := [.data, .data, .data], laidTests := true, laidLooks := .later }
def ConfigBackCardSaid : Prop := Claim7.holds Tryd.pinned (.plain (OpenSpec.ofChange configBackSpec)) configBackCard

/-- THE SECOND FORM's CARD OF 'haystacklaw20.ConfigApart'. -/
def configApartUptoCard : Claim7 := { stood := { row := configApartUptoRow, standIns := [], harness := (true, "1593746b2f8074c2f823bae7dda62f5e0b82fecdbe1678f3b126733c587ff417"), looks := false }, kinds := [], alts := [], laidByText := true, laidKinds := [.data, .data, .data], laidTests := true, laidLooks := .later }
def ConfigApartUptoCardSaid : Prop := Claim7.holds Tryd.pinned (.plain (OpenSpec.upto configApartSpec)) configApartUptoCard

/-- THE SECOND FORM's CARD OF 'haystacklaw20.ConfigTells'. -/
def configTellsUptoCard : Claim7 := { stood := { row := configTellsUptoRow, standIns := [], harness := (true, "1593746b2f8074c2f823bae7dda62f5e0b82fecdbe1678f3b126733c587ff417"), looks := false }, kinds := [], alts := [], laidByText := true, laidKinds := [.data, .data, .data], laidTests := true, laidLooks := .later }
def ConfigTellsUptoCardSaid : Prop := Claim7.holds Tryd.pinned (.plain (OpenSpec.upto configTellsSpec)) configTellsUptoCard

/-- THE SECOND FORM's CARD OF 'haystacklaw20.ConfigAll'. -/
def configAllUptoCard : Claim7 := { stood := { row := configAllUptoRow, standIns := [], harness := (true, "1593746b2f8074c2f823bae7dda62f5e0b82fecdbe1678f3b126733c587ff417"), looks := false }, kinds := [], alts := [], laidByText := true, laidKinds := [.data, .data, .data], laidTests := true, laidLooks := .later }
def ConfigAllUptoCardSaid : Prop := Claim7.holds Tryd.pinned (.plain (OpenSpec.upto configAllSpec)) configAllUptoCard

/-- THE SECOND FORM's CARD OF 'haystacklaw20.ConfigBack'. -/
def configBackUptoCard : Claim7 := { stood := { row := configBackUptoRow, standIns := [], harness := (true, "1593746b2f8074c2f823bae7dda62f5e0b82fecdbe1678f3b126733c587ff417"), looks := false }, kinds := [], alts := [], laidByText := true, laidKinds := [.data, .data, .data], laidTests := true, laidLooks := .later }
def ConfigBackUptoCardSaid : Prop := Claim7.holds Tryd.pinned (.plain (OpenSpec.upto configBackSpec)) configBackUptoCard
end Rows
end Go.Proofs.YtadfnllfeoidhaaDoor
