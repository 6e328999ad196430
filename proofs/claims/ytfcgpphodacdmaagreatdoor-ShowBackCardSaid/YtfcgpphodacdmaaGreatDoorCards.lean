/-
  DERIVED. GIVEN WITH THE SEED: THE CARDS: each row of YtfcgpphodacdmaaGreatDoorRows.lean that lists a variable, with what it lists TIED to the program's text (the seventh form; the later family's looks); each row that meets fmt, with fmt's text TOLD by the authors' own Lean function (tested against real Go, not proved from fmt's source: count such statements apart). THE CARD IS WHAT COUNTS. Prove the row's statement (the work); the ties are given (YtfcgpphodacdmaaGreatDoorTie.lean); close each card by the builder's one call (the guide's Derived/Test/ToyasCard.lean, 'card_holds'). Laid BY PROGRAM, IN A SANDBOX (cutbox-door.mjs). By AI agents, Wed Nov 11 2026. No macro, syntax, notation, axiom, sorry.
-/
import Derived.Test.YtfcgpphodacdmaaGreatDoorRows
import GoSem.ClaimSeven
namespace Go.Proofs.YtfcgpphodacdmaaGreatDoor
namespace Rows

/-- THE TIED CARD OF 'septumlaw05.ShowPrints'. -/
def showPrintsCard : Claim7 := { stood := { row := showPrintsRow, standIns := [], harness := (true, "b46b5b93a33aac313a2848fee160a2227a772a88f9ea2910c60cd5e12768be54"), looks := true }, kinds := [], alts := [], laidByText := true, laidKinds := [.data, .data, .data, .data], laidTests := true, laidLooks := .later }
def ShowPrintsCardSaid : Prop := Claim7.holds Tryz.pinned (.plain (OpenSpec.ofChange showPrintsSpec)) showPrintsCard

/-- THE TIED CARD OF 'septumlaw05.ShowBack'. -/
def showBackCard : Claim7 := { stood := { row := showBackRow, standIns := [], harness := (true, "b46b5b93a33aac313a2848fee160a2227a772a88f9ea2910c60cd5e12768be54"), looks := true }, kinds := [], alts := [], laidByText := true, laidKinds := [.data, .data, .data, .data], laidTests := true, laidLooks := .later }
def ShowBackCardSaid : Prop := Claim7.holds Tryz.pinned (.plain (OpenSpec.ofChange showBackSpec)) showBackCard

/-- THE TIED CARD OF 'septumlaw05.ShowTwice'. -/
def showTwiceCard : Claim7 := { stood := { row := showTwiceRow, standIns := [], harness := (true, "b46b5b93a33aac313a2848fee160a2227a772a88f9ea2910c60cd5e12768be54"), looks := true }, kinds := [], alts := [], laidByText := true, laidKinds := [.data, .data, .data, .data], laidTests := true, laidLooks := .later }
def ShowTwiceCardSaid : Prop := Claim7.holds Tryz.pinned (.plain (OpenSpec.ofChange showTwiceSpec)) showTwiceCard

/-- THE TIED CARD OF 'septumlaw06.EarlyNames'. -/
def earlyNamesCard : Claim7 := { stood := { row := earlyNamesRow, standIns := [], harness := (true, "b46b5b93a33aac313a2848fee160a2227a772a88f9ea2910c60cd5e12768be54"), looks := true }, kinds := [], alts := [], laidByText := true, laidKinds := [.data, .data, .data, .data], laidTests := true, laidLooks := .later }
def EarlyNamesCardSaid : Prop := Claim7.holds Tryz.pinned (.plain (OpenSpec.ofChange earlyNamesSpec)) earlyNamesCard

/-- THE TIED CARD OF 'septumlaw06.EarlyForms'. -/
def earlyFormsCard : Claim7 := { stood := { row := earlyFormsRow, standIns := [], harness := (true, "b46b5b93a33aac313a2848fee160a2227a772a88f9ea2910c60cd5e12768be54"), looks := true }, kinds := [], alts := [], laidByText := true, laidKinds := [.data, .data, .data, .data], laidTests := true, laidLooks := .later }
def EarlyFormsCardSaid : Prop := Claim7.holds Tryz.pinned (.plain (OpenSpec.ofChange earlyFormsSpec)) earlyFormsCard

/-- THE TIED CARD OF 'septumlaw06.EarlyInner'. -/
def earlyInnerCard : Claim7 := { stood := { row := earlyInnerRow, standIns := [], harness := (true, "b46b5b93a33aac313a2848fee160a2227a772a88f9ea2910c60cd5e12768be54"), looks := true }, kinds := [], alts := [], laidByText := true, laidKinds := [.data, .data, .data, .data], laidTests := true, laidLooks := .later }
def EarlyInnerCardSaid : Prop := Claim7.holds Tryz.pinned (.plain (OpenSpec.ofChange earlyInnerSpec)) earlyInnerCard

/-- THE TIED CARD OF 'septumlaw06.EarlyJoins'. -/
def earlyJoinsCard : Claim7 := { stood := { row := earlyJoinsRow, standIns := [], harness := (true, "b46b5b93a33aac313a2848fee160a2227a772a88f9ea2910c60cd5e12768be54"), looks := true }, kinds := [], alts := [], laidByText := true, laidKinds := [.data, .data, .data, .data], laidTests := true, laidLooks := .later }
def EarlyJoinsCardSaid : Prop := Claim7.holds Tryz.pinned (.plain (OpenSpec.ofChange earlyJoinsSpec)) earlyJoinsCard

/-- THE TIED CARD OF 'septumlaw06.EarlySaid'. -/
def earlySaidCard : Claim7 := { stood := { row := earlySaidRow, standIns := [], harness := (true, "b46b5b93a33aac313a2848fee160a2227a772a88f9ea2910c60cd5e12768be54"), looks := true }, kinds := [], alts := [], laidByText := true, laidKinds := [.data, .data, .data, .data], laidTests := true, laidLooks := .later }
def EarlySaidCardSaid : Prop := Claim7.holds Tryz.pinned (.plain (OpenSpec.ofChange earlySaidSpec)) earlySaidCard

/-- THE SECOND FORM's CARD OF 'septumlaw05.ShowPrints'. -/
def showPrintsUptoCard : Claim7 := { stood := { row := showPrintsUptoRow, standIns := [], harness := (true, "b46b5b93a33aac313a2848fee160a2227a772a88f9ea2910c60cd5e12768be54"), looks := true }, kinds := [], alts := [], laidByText := true, laidKinds := [.data, .data, .data, .data], laidTests := true, laidLooks := .later }
def ShowPrintsUptoCardSaid : Prop := Claim7.holds Tryz.pinned (.plain (OpenSpec.upto showPrintsSpec)) showPrintsUptoCard

/-- THE SECOND FORM's CARD OF 'septumlaw05.ShowBack'. -/
def showBackUptoCard : Claim7 := { stood := { row := showBackUptoRow, standIns := [], harness := (true, "b46b5b93a33aac313a2848fee160a2227a772a88f9ea2910c60cd5e12768be54"), looks := true }, kinds := [], alts := [], laidByText := true, laidKinds := [.data, .data, .data, .data], laidTests := true, laidLooks := .later }
def ShowBackUptoCardSaid : Prop := Claim7.holds Tryz.pinned (.plain (OpenSpec.upto showBackSpec)) showBackUptoCard

/-- THE SECOND FORM's CARD OF 'septumlaw05.ShowTwice'. -/
def showTwiceUptoCard : Claim7 := { stood := { row := showTwiceUptoRow, standIns := [], harness := (true, "b46b5b93a33aac313a2848fee160a2227a772a88f9ea2910c60cd5e12768be54"), looks := true }, kinds := [], alts := [], laidByText := true, laidKinds := [.data, .data, .data, .data], laidTests := true, laidLooks := .later }
def ShowTwiceUptoCardSaid : Prop := Claim7.holds Tryz.pinned (.plain (OpenSpec.upto showTwiceSpec)) showTwiceUptoCard

/-- THE SECOND FORM's CARD OF 'septumlaw06.EarlyNames'. -/
def earlyNamesUptoCard : Claim7 := { stood := { row := earlyNamesUptoRow, standIns := [], harness := (true, "b46b5b93a33aac313a2848fee160a2227a772a88f9ea2910c60cd5e12768be54"), looks := true }, kinds := [], alts := [], laidByText := true, laidKinds := [.data, .data, .data, .data], laidTests := true, laidLooks := .later }
def EarlyNamesUptoCardSaid : Prop := Claim7.holds Tryz.pinned (.plain (OpenSpec.upto earlyNamesSpec)) earlyNamesUptoCard

/-- THE SECOND FORM's CARD OF 'septumlaw06.EarlyForms'. -/
def earlyFormsUptoCard : Claim7 := { stood := { row := earlyFormsUptoRow, standIns := [], harness := (true, "b46b5b93a33aac313a2848fee160a2227a772a88f9ea2910c60cd5e12768be54"), looks := true }, kinds := [], alts := [], laidByText := true, laidKinds := [.data, .data, .data, .data], laidTests := true, laidLooks := .later }
def EarlyFormsUptoCardSaid : Prop := Claim7.holds Tryz.pinned (.plain (OpenSpec.upto earlyFormsSpec)) earlyFormsUptoCard

/-- THE SECOND FORM's CARD OF 'septumlaw06.EarlyInner'. -/
def earlyInnerUptoCard : Claim7 := { stood := { row := earlyInnerUptoRow, standIns := [], harness := (true, "b46b5b93a33aac313a2848fee160a2227a772a88f9ea2910c60cd5e12768be54"), looks := true }, kinds := [], alts := [], laidByText := true, laidKinds := [.data, .data, .data, .data], laidTests := true, laidLooks := .later }
def EarlyInnerUptoCardSaid : Prop := Claim7.holds Tryz.pinned (.plain (OpenSpec.upto earlyInnerSpec)) earlyInnerUptoCard

/-- THE SECOND FORM's CARD OF 'septumlaw06.EarlyJoins'. -/
def earlyJoinsUptoCard : Claim7 := { stood := { row := earlyJoinsUptoRow, standIns := [], harness := (true, "b46b5b93a33aac313a2848fee160a2227a772a88f9ea2910c60cd5e12768be54"), looks := true }, kinds := [], alts := [], laidByText := true, laidKinds := [.data, .data, .data, .data], laidTests := true, laidLooks := .later }
def EarlyJoinsUptoCardSaid : Prop := Claim7.holds Tryz.pinned (.plain (OpenSpec.upto earlyJoinsSpec)) earlyJoinsUptoCard

/-- THE SECOND FORM's CARD OF 'septumlaw06.EarlySaid'. -/
def earlySaidUptoCard : Claim7 := { stood := { row := earlySaidUptoRow, standIns := [], harness := (true, "b46b5b93a33aac313a2848fee160a2227a772a88f9ea2910c60cd5e12768be54"), looks := true }, kinds := [], alts := [], laidByText := true, laidKinds := [.data, .data, .data, .data], laidTests := true, laidLooks := .later }
def EarlySaidUptoCardSaid : Prop := Claim7.holds Tryz.pinned (.plain (OpenSpec.upto earlySaidSpec)) earlySaidUptoCard
end Rows
end Go.Proofs.YtfcgpphodacdmaaGreatDoor
