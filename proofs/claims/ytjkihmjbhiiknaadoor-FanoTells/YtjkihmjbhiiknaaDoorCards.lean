/-
  DERIVED. GIVEN WITH THE SEED: THE CARDS: each row of YtjkihmjbhiiknaaDoorRows.lean that lists a variable, with what it lists TIED to the program's text (the seventh form; the later family's looks); each row that meets fmt, with fmt's text TOLD by the authors' own Lean function (tested against real Go, not proved from fmt's source: count such statements apart). THE CARD IS WHAT COUNTS. Prove the row's statement (the work); the ties are given (YtjkihmjbhiiknaaDoorTie.lean); close each card by the builder's one call (the guide's Derived/Test/ToyasCard.lean, 'card_holds'). Laid BY PROGRAM, IN A SANDBOX (cutbox-door.mjs). By AI agents, Wed Nov 11 2026. No macro, syntax, notation, axiom, sorry.
-/
import Derived.Test.YtjkihmjbhiiknaaDoorRows
import GoSem.ClaimSeven
namespace Go.Proofs.YtjkihmjbhiiknaaDoor
namespace Rows

/-- THE TIED CARD OF 'haystacklaw09.FanoCounts'. -/
def fanoCountsCard : Claim7 := { stood := { row := fanoCountsRow, standIns := [], harness := (true, "3a222dbbe02b21a97eb75f2888ab3fae0b7ef26e91ab02ee551924d56334078e"), looks := true }, kinds := [], alts := [], laidByText := true, laidKinds := [.handle], laidTests := true, laidLooks := .later }
def FanoCountsCardSaid : Prop := Claim7.holds Tryd.pinned (.plain (OpenSpec.ofChange fanoCountsSpec)) fanoCountsCard

/-- THE TIED CARD OF 'haystacklaw09.FanoSizes'. -/
def fanoSizesCard : Claim7 := { stood := { row := fanoSizesRow, standIns := [], harness := (true, "3a222dbbe02b21a97eb75f2888ab3fae0b7ef26e91ab02ee551924d56334078e"), looks := true }, kinds := [], alts := [], laidByText := true, laidKinds := [.handle], laidTests := true, laidLooks := .later }
def FanoSizesCardSaid : Prop := Claim7.holds Tryd.pinned (.plain (OpenSpec.ofChange fanoSizesSpec)) fanoSizesCard

/-- THE TIED CARD OF 'haystacklaw09.FanoBuilds'. -/
def fanoBuildsCard : Claim7 := { stood := { row := fanoBuildsRow, standIns := [], harness := (true, "3a222dbbe02b21a97eb75f2888ab3fae0b7ef26e91ab02ee551924d56334078e"), looks := true }, kinds := [], alts := [], laidByText := true, laidKinds := [.handle], laidTests := true, laidLooks := .later }
def FanoBuildsCardSaid : Prop := Claim7.holds Tryd.pinned (.plain (OpenSpec.ofChange fanoBuildsSpec)) fanoBuildsCard

/-- THE TIED CARD OF 'haystacklaw09.FanoTells'. -/
def fanoTellsCard : Claim7 := { stood := { row := fanoTellsRow, standIns := [], harness := (true, "3a222dbbe02b21a97eb75f2888ab3fae0b7ef26e91ab02ee551924d56334078e"), looks := true }, kinds := [], alts := [], laidByText := true, laidKinds := [.handle], laidTests := true, laidLooks := .later }
def FanoTellsCardSaid : Prop := Claim7.holds Tryd.pinned (.plain (OpenSpec.ofChange fanoTellsSpec)) fanoTellsCard

/-- THE TIED CARD OF 'haystacklaw09.FanoBack'. -/
def fanoBackCard : Claim7 := { stood := { row := fanoBackRow, standIns := [], harness := (true, "3a222dbbe02b21a97eb75f2888ab3fae0b7ef26e91ab02ee551924d56334078e"), looks := true }, kinds := [], alts := [], laidByText := true, laidKinds := [.handle], laidTests := true, laidLooks := .later }
def FanoBackCardSaid : Prop := Claim7.holds Tryd.pinned (.plain (OpenSpec.ofChange fanoBackSpec)) fanoBackCard

/-- THE SECOND FORM's CARD OF 'haystacklaw09.FanoCounts'. -/
def fanoCountsUptoCard : Claim7 := { stood := { row := fanoCountsUptoRow, standIns := [], harness := (true, "3a222dbbe02b21a97eb75f2888ab3fae0b7ef26e91ab02ee551924d56334078e"), looks := true }, kinds := [], alts := [], laidByText := true, laidKinds := [.handle], laidTests := true, laidLooks := .later }
def FanoCountsUptoCardSaid : Prop := Claim7.holds Tryd.pinned (.plain (OpenSpec.upto fanoCountsSpec)) fanoCountsUptoCard

/-- THE SECOND FORM's CARD OF 'haystacklaw09.FanoSizes'. -/
def fanoSizesUptoCard : Claim7 := { stood := { row := fanoSizesUptoRow, standIns := [], harness := (true, "3a222dbbe02b21a97eb75f2888ab3fae0b7ef26e91ab02ee551924d56334078e"), looks := true }, kinds := [], alts := [], laidByText := true, laidKinds := [.handle], laidTests := true, laidLooks := .later }
def FanoSizesUptoCardSaid : Prop := Claim7.holds Tryd.pinned (.plain (OpenSpec.upto fanoSizesSpec)) fanoSizesUptoCard

/-- THE SECOND FORM's CARD OF 'haystacklaw09.FanoBuilds'. -/
def fanoBuildsUptoCard : Claim7 := { stood := { row := fanoBuildsUptoRow, standIns := [], harness := (true, "3a222dbbe02b21a97eb75f2888ab3fae0b7ef26e91ab02ee551924d56334078e"), looks := true }, kinds := [], alts := [], laidByText := true, laidKinds := [.handle], laidTests := true, laidLooks := .later }
def FanoBuildsUptoCardSaid : Prop := Claim7.holds Tryd.pinned (.plain (OpenSpec.upto fanoBuildsSpec)) fanoBuildsUptoCard

/-- THE SECOND FORM's CARD OF 'haystacklaw09.FanoTells'. -/
def fanoTellsUptoCard : Claim7 := { stood := { row := fanoTellsUptoRow, standIns := [], harness := (true, "3a222dbbe02b21a97eb75f2888ab3fae0b7ef26e91ab02ee551924d56334078e"), looks := true }, kinds := [], alts := [], laidByText := true, laidKinds := [.handle], laidTests := true, laidLooks := .later }
def FanoTellsUptoCardSaid : Prop := Claim7.holds Tryd.pinned (.plain (OpenSpec.upto fanoTellsSpec)) fanoTellsUptoCard

/-- THE SECOND FORM's CARD OF 'haystacklaw09.FanoBack'. -/
def fanoBackUptoCard : Claim7 := { stood := { row := fanoBackUptoRow, standIns := [], harness := (true, "3a222dbbe02b21a97eb75f2888ab3fae0b7ef26e91ab02ee551924d56334078e"), looks := true }, kinds := [], alts := [], laidByText := true, laidKinds := [.handle], laidTests := true, laidLooks := .later }
def FanoBackUptoCardSaid : Prop := Claim7.holds Tryd.pinned (.plain (OpenSpec.upto fanoBackSpec)) fanoBackUptoCard
end Rows
end Go.Proofs.YtjkihmjbhiiknaaDoor
