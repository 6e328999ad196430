/-
  DERIVED. GIVEN WITH THE SEED: THE CARDS: each row of YtnkfodelgpidkaaGreatDoorRows.lean that lists a variable, with what it lists TIED to the program's text (the seventh form; the later family's looks); each row that meets fmt, with fmt's text TOLD by the authors' own Lean function (tested against real Go, not proved from fmt's source: count such statements apart). THE CARD IS WHAT COUNTS. Prove the row's statement (the work); the ties are given (YtnkfodelgpidkaaGreatDoorTie.lean); close each card by the builder's one call (the guide's Derived/Test/ToyasCard.lean, 'card_holds'). Laid BY PROGRAM, IN A SANDBOX (cutbox-door.mjs). By AI agents, Wed Nov 11 2026. No macro, syntax, notation, axiom, sorry.
-/
import Derived.Test.YtnkfodelgpidkaaGreatDoorRows
import GoSem.ClaimSeven
namespace Go.Proofs.YtnkfodelgpidkaaGreatDoor
namespace Rows

/-- THE TIED CARD OF 'septumlaw04.SynDeep'. -/
def synDeepCard : Claim7 := { stood := { row := synDeepRow, standIns := [], harness := (true, "2fa3ed807e41eff13cb1c535e893fa209872a5630f5a66e22360353a13d61c6d"), looks := true }, kinds := [], alts := [], laidByText := true, laidKinds := [.data, .data, .data], laidTests := true, laidLooks := .later }
def SynDeepCardSaid : Prop := Claim7.holds Tryz.pinned (.plain (OpenSpec.ofChange synDeepSpec)) synDeepCard

/-- THE TIED CARD OF 'septumlaw04.SynSizes'. -/
def synSizesCard : Claim7 := { stood := { row := synSizesRow, standIns := [], harness := (true, "2fa3ed807e41eff13cb1c535e893fa209872a5630f5a66e22360353a13d61c6d"), looks := true }, kinds := [], alts := [], laidByText := true, laidKinds := [.data, .data, .data], laidTests := true, laidLooks := .later }
def SynSizesCardSaid : Prop := Claim7.holds Tryz.pinned (.plain (OpenSpec.ofChange synSizesSpec)) synSizesCard

/-- THE TIED CARD OF 'septumlaw04.SynBlanks'. -/
def synBlanksCard : Claim7 := { stood := { row := synBlanksRow, standIns := [], harness := (true, "2fa3ed807e41eff13cb1c535e893fa209872a5630f5a66e22360353a13d61c6d"), looks := true }, kinds := [], alts := [], laidByText := true, laidKinds := [.data, .data, .data], laidTests := true, laidLooks := .later }
def SynBlanksCardSaid : Prop := Claim7.holds Tryz.pinned (.plain (OpenSpec.ofChange synBlanksSpec)) synBlanksCard

/-- THE TIED CARD OF 'septumlaw04.SynJoins'. -/
def synJoinsCard : Claim7 := { stood := { row := synJoinsRow, standIns := [], harness := (true, "2fa3ed807e41eff13cb1c535e893fa209872a5630f5a66e22360353a13d61c6d"), looks := true }, kinds := [], alts := [], laidByText := true, laidKinds := [.data, .data, .data], laidTests := true, laidLooks := .later }
def SynJoinsCardSaid : Prop := Claim7.holds Tryz.pinned (.plain (OpenSpec.ofChange synJoinsSpec)) synJoinsCard

/-- THE TIED CARD OF 'septumlaw04.SynWraps'. -/
def synWrapsCard : Claim7 := { stood := { row := synWrapsRow, standIns := [], harness := (true, "2fa3ed807e41eff13cb1c535e893fa209872a5630f5a66e22360353a13d61c6d"), looks := true }, kinds := [], alts := [], laidByText := true, laidKinds := [.data, .data, .data], laidTests := true, laidLooks := .later }
def SynWrapsCardSaid : Prop := Claim7.holds Tryz.pinned (.plain (OpenSpec.ofChange synWrapsSpec)) synWrapsCard

/-- THE TIED CARD OF 'septumlaw05.ShowPrints'. -/
def showPrintsCard : Claim7 := { stood := { row := showPrintsRow, standIns := [], harness := (true, "2fa3ed807e41eff13cb1c535e893fa209872a5630f5a66e22360353a13d61c6d"), looks := true }, kinds := [], alts := [], laidByText := true, laidKinds := [.data, .data, .data, .data], laidTests := true, laidLooks := .later }
def ShowPrintsCardSaid : Prop := Claim7.holds Tryz.pinned (.plain (OpenSpec.ofChange showPrintsSpec)) showPrintsCard

/-- THE TIED CARD OF 'septumlaw05.ShowBack'. -/
def showBackCard : Claim7 := { stood := { row := showBackRow, standIns := [], harness := (true, "2fa3ed807e41eff13cb1c535e893fa209872a5630f5a66e22360353a13d61c6d"), looks := true }, kinds := [], alts := [], laidByText := true, laidKinds := [.data, .data, .data, .data], laidTests := true, laidLooks := .later }
def ShowBackCardSaid : Prop := Claim7.holds Tryz.pinned (.plain (OpenSpec.ofChange showBackSpec)) showBackCard

/-- THE TIED CARD OF 'septumlaw05.ShowTwice'. -/
def showTwiceCard : Claim7 := { stood := { row := showTwiceRow, standIns := [], harness := (true, "2fa3ed807e41eff13cb1c535e893fa209872a5630f5a66e22360353a13d61c6d"), looks := true }, kinds := [], alts := [], laidByText := true, laidKinds := [.data, .data, .data, .data], laidTests := true, laidLooks := .later }
def ShowTwiceCardSaid : Prop := Claim7.holds Tryz.pinned (.plain (OpenSpec.ofChange showTwiceSpec)) showTwiceCard

/-- THE SECOND FORM's CARD OF 'septumlaw04.SynDeep'. -/
def synDeepUptoCard : Claim7 := { stood := { row := synDeepUptoRow, standIns := [], harness := (true, "2fa3ed807e41eff13cb1c535e893fa209872a5630f5a66e22360353a13d61c6d"), looks := true }, kinds := [], alts := [], laidByText := true, laidKinds := [.data, .data, .data], laidTests := true, laidLooks := .later }
def SynDeepUptoCardSaid : Prop := Claim7.holds Tryz.pinned (.plain (OpenSpec.upto synDeepSpec)) synDeepUptoCard

/-- THE SECOND FORM's CARD OF 'septumlaw04.SynSizes'. -/
def synSizesUptoCard : Claim7 := { stood := { row := synSizesUptoRow, standIns := [], harness := (true, "2fa3ed807e41eff13cb1c535e893fa209872a5630f5a66e22360353a13d61c6d"), looks := true }, kinds := [], alts := [], laidByText := true, laidKinds := [.data, .data, .data], laidTests := true, laidLooks := .later }
def SynSizesUptoCardSaid : Prop := Claim7.holds Tryz.pinned (.plain (OpenSpec.upto synSizesSpec)) synSizesUptoCard

/-- THE SECOND FORM's CARD OF 'septumlaw04.SynBlanks'. -/
def synBlanksUptoCard : Claim7 := { stood := { row := synBlanksUptoRow, standIns := [], harness := (true, "2fa3ed807e41eff13cb1c535e893fa209872a5630f5a66e22360353a13d61c6d"), looks := true }, kinds := [], alts := [], laidByText := true, laidKinds := [.data, .data, .data], laidTests := true, laidLooks := .later }
def SynBlanksUptoCardSaid : Prop := Claim7.holds Tryz.pinned (.plain (OpenSpec.upto synBlanksSpec)) synBlanksUptoCard

/-- THE SECOND FORM's CARD OF 'septumlaw04.SynJoins'. -/
def synJoinsUptoCard : Claim7 := { stood := { row := synJoinsUptoRow, standIns := [], harness := (true, "2fa3ed807e41eff13cb1c535e893fa209872a5630f5a66e22360353a13d61c6d"), looks := true }, kinds := [], alts := [], laidByText := true, laidKinds := [.data, .data, .data], laidTests := true, laidLooks := .later }
def SynJoinsUptoCardSaid : Prop := Claim7.holds Tryz.pinned (.plain (OpenSpec.upto synJoinsSpec)) synJoinsUptoCard

/-- THE SECOND FORM's CARD OF 'septumlaw04.SynWraps'. -/
def synWrapsUptoCard : Claim7 := { stood := { row := synWrapsUptoRow, standIns := [], harness := (true, "2fa3ed807e41eff13cb1c535e893fa209872a5630f5a66e22360353a13d61c6d"), looks := true }, kinds := [], alts := [], laidByText := true, laidKinds := [.data, .data, .data], laidTests := true, laidLooks := .later }
def SynWrapsUptoCardSaid : Prop := Claim7.holds Tryz.pinned (.plain (OpenSpec.upto synWrapsSpec)) synWrapsUptoCard

/-- THE SECOND FORM's CARD OF 'septumlaw05.ShowPrints'. -/
def showPrintsUptoCard : Claim7 := { stood := { row := showPrintsUptoRow, standIns := [], harness := (true, "2fa3ed807e41eff13cb1c535e893fa209872a5630f5a66e22360353a13d61c6d"), looks := true }, kinds := [], alts := [], laidByText := true, laidKinds := [.data, .data, .data, .data], laidTests := true, laidLooks := .later }
def ShowPrintsUptoCardSaid : Prop := Claim7.holds Tryz.pinned (.plain (OpenSpec.upto showPrintsSpec)) showPrintsUptoCard

/-- THE SECOND FORM's CARD OF 'septumlaw05.ShowBack'. -/
def showBackUptoCard : Claim7 := { stood := { row := showBackUptoRow, standIns := [], harness := (true, "2fa3ed807e41eff13cb1c535e893fa209872a5630f5a66e22360353a13d61c6d"), looks := true }, kinds := [], alts := [], laidByText := true, laidKinds := [.data, .data, .data, .data], laidTests := true, laidLooks := .later }
def ShowBackUptoCardSaid : Prop := Claim7.holds Tryz.pinned (.plain (OpenSpec.upto showBackSpec)) showBackUptoCard

/-- THE SECOND FORM's CARD OF 'septumlaw05.ShowTwice'. -/
def showTwiceUptoCard : Claim7 := { stood := { row := showTwiceUptoRow, standIns := [], harness := (true, "2fa3ed807e41eff13cb1c535e893fa209872a5630f5a66e22360353a13d61c6d"), looks := true }, kinds := [], alts := [], laidByText := true, laidKinds := [.data, .data, .data, .data], laidTests := true, laidLooks := .later }
def ShowTwiceUptoCardSaid : Prop := Claim7.holds Tryz.pinned (.plain (OpenSpec.upto showTwiceSpec)) showTwiceUptoCard
end Rows
end Go.Proofs.YtnkfodelgpidkaaGreatDoor
