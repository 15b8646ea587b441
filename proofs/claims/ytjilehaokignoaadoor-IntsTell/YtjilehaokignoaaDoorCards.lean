/-
  DERIVED. GIVEN WITH THE SEED: THE CARDS: each row of YtjilehaokignoaaDoorRows.lean that lists a variable, with what it lists TIED to the program's text (the seventh form; the later family's looks); each row that meets fmt, with fmt's text TOLD by the authors' own Lean function (tested against real Go, not proved from fmt's source: count such statements apart). THE CARD IS WHAT COUNTS. Prove the row's statement (the work); the ties are given (YtjilehaokignoaaDoorTie.lean); close each card by the builder's one call (the guide's Derived/Test/ToyasCard.lean, 'card_holds'). Laid BY PROGRAM, IN A SANDBOX (cutbox-door.mjs). By AI agents, Wed Nov 11 2026. No macro, syntax, notation, axiom, sorry.
-/
import Derived.Test.YtjilehaokignoaaDoorRows
import GoSem.ClaimSeven
namespace Go.Proofs.YtjilehaokignoaaDoor
namespace Rows

/-- THE TIED CARD OF 'haystacklaw03.IntsLeast'. -/
def intsLeastCard : Claim7 := { stood := { row := intsLeastRow, standIns := [], harness := (true, "ddd179aae804cd5fe4d58a7f688ecba0d555650f9f20d33ce8723e8ead9036f9"), looks := true }, kinds := [], alts := [], laidByText := true, laidKinds := [.handle], laidTests := true, laidLooks := .later }
def IntsLeastCardSaid : Prop := Claim7.holds Tryd.pinned (.plain (OpenSpec.ofChange intsLeastSpec)) intsLeastCard

/-- THE TIED CARD OF 'haystacklaw03.IntsTell'. -/
def intsTellCard : Claim7 := { stood := { row := intsTellRow, standIns := [], harness := (true, "ddd179aae804cd5fe4d58a7f688ecba0d555650f9f20d33ce8723e8ead9036f9"), looks := true }, kinds := [], alts := [], laidByText := true, laidKinds := [.handle], laidTests := true, laidLooks := .later }
def IntsTellCardSaid : Prop := Claim7.holds Tryd.pinned (.plain (OpenSpec.ofChange intsTellSpec)) intsTellCard

/-- THE TIED CARD OF 'haystacklaw03.IntsBack'. -/
def intsBackCard : Claim7 := { stood := { row := intsBackRow, standIns := [], harness := (true, "ddd179aae804cd5fe4d58a7f688ecba0d555650f9f20d33ce8723e8ead9036f9"), looks := true }, kinds := [], alts := [], laidByText := true, laidKinds := [.handle], laidTests := true, laidLooks := .later }
def IntsBackCardSaid : Prop := Claim7.holds Tryd.pinned (.plain (OpenSpec.ofChange intsBackSpec)) intsBackCard

/-- THE TIED CARD OF 'haystacklaw03.IntsPuts'. -/
def intsPutsCard : Claim7 := { stood := { row := intsPutsRow, standIns := [], harness := (true, "ddd179aae804cd5fe4d58a7f688ecba0d555650f9f20d33ce8723e8ead9036f9"), looks := true }, kinds := [], alts := [], laidByText := true, laidKinds := [.handle], laidTests := true, laidLooks := .later }
def IntsPutsCardSaid : Prop := Claim7.holds Tryd.pinned (.plain (OpenSpec.ofChange intsPutsSpec)) intsPutsCard

/-- THE SECOND FORM's CARD OF 'haystacklaw03.IntsLeast'. -/
def intsLeastUptoCard : Claim7 := { stood := { row := intsLeastUptoRow, standIns := [], harness := (true, "ddd179aae804cd5fe4d58a7f688ecba0d555650f9f20d33ce8723e8ead9036f9"), looks := true }, kinds := [], alts := [], laidByText := true, laidKinds := [.handle], laidTests := true, laidLooks := .later }
def IntsLeastUptoCardSaid : Prop := Claim7.holds Tryd.pinned (.plain (OpenSpec.upto intsLeastSpec)) intsLeastUptoCard

/-- THE SECOND FORM's CARD OF 'haystacklaw03.IntsTell'. -/
def intsTellUptoCard : Claim7 := { stood := { row := intsTellUptoRow, standIns := [], harness := (true, "ddd179aae804cd5fe4d58a7f688ecba0d555650f9f20d33ce8723e8ead9036f9"), looks := true }, kinds := [], alts := [], laidByText := true, laidKinds := [.handle], laidTests := true, laidLooks := .later }
def IntsTellUptoCardSaid : Prop := Claim7.holds Tryd.pinned (.plain (OpenSpec.upto intsTellSpec)) intsTellUptoCard

/-- THE SECOND FORM's CARD OF 'haystacklaw03.IntsBack'. -/
def intsBackUptoCard : Claim7 := { stood := { row := intsBackUptoRow, standIns := [], harness := (true, "ddd179aae804cd5fe4d58a7f688ecba0d555650f9f20d33ce8723e8ead9036f9"), looks := true }, kinds := [], alts := [], laidByText := true, laidKinds := [.handle], laidTests := true, laidLooks := .later }
def IntsBackUptoCardSaid : Prop := Claim7.holds Tryd.pinned (.plain (OpenSpec.upto intsBackSpec)) intsBackUptoCard

/-- THE SECOND FORM's CARD OF 'haystacklaw03.IntsPuts'. -/
def intsPutsUptoCard : Claim7 := { stood := { row := intsPutsUptoRow, standIns := [], harness := (true, "ddd179aae804cd5fe4d58a7f688ecba0d555650f9f20d33ce8723e8ead9036f9"), looks := true }, kinds := [], alts := [], laidByText := true, laidKinds := [.handle], laidTests := true, laidLooks := .later }
def IntsPutsUptoCardSaid : Prop := Claim7.holds Tryd.pinned (.plain (OpenSpec.upto intsPutsSpec)) intsPutsUptoCard
end Rows
end Go.Proofs.YtjilehaokignoaaDoor
