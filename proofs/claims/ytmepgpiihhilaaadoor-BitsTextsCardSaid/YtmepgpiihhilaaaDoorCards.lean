/-
  DERIVED. GIVEN WITH THE SEED: THE CARDS: each row of YtmepgpiihhilaaaDoorRows.lean that lists a variable, with what it lists TIED to the program's text (the seventh form; the later family's looks); each row that meets fmt, with fmt's text TOLD by the authors' own Lean function (tested against real Go, not proved from fmt's source: count such statements apart). THE CARD IS WHAT COUNTS. Prove the row's statement (the work); the ties are given (YtmepgpiihhilaaaDoorTie.lean); close each card by the builder's one call (the guide's Derived/Test/ToyasCard.lean, 'card_holds'). Laid BY PROGRAM, IN A SANDBOX (cutbox-door.mjs). By AI agents, Wed Nov 11 2026. No macro, syntax, notation, axiom, sorry.
-/
import Derived.Test.YtmepgpiihhilaaaDoorRows
import GoSem.ClaimSeven
namespace Go.Proofs.YtmepgpiihhilaaaDoor
namespace Rows

/-- THE TIED CARD OF 'septumlaw01.BitsReckon'. -/
def bitsReckonCard : Claim7 := { stood := { row := bitsReckonRow, standIns := [], harness := (true, "554359809f5b0e518b274227a056c2a804283e6d027d392816c9c7cdeb82ed8d"), looks := false }, kinds := [], alts := [], laidByText := true, laidKinds := [.data, .data, .data, .data, .pinned], laidTests := true, laidLooks := .later }
def BitsReckonCardSaid : Prop := Claim7.holds Tryd.pinned (.plain (OpenSpec.ofChange bitsReckonSpec)) bitsReckonCard

/-- THE TIED CARD OF 'septumlaw01.BitsRems'. -/
def bitsRemsCard : Claim7 := { stood := { row := bitsRemsRow, standIns := [], harness := (true, "554359809f5b0e518b274227a056c2a804283e6d027d392816c9c7cdeb82ed8d"), looks := false }, kinds := [], alts := [], laidByText := true, laidKinds := [.data, .data, .data, .data, .pinned], laidTests := true, laidLooks := .later }
def BitsRemsCardSaid : Prop := Claim7.holds Tryd.pinned (.plain (OpenSpec.ofChange bitsRemsSpec)) bitsRemsCard

/-- THE TIED CARD OF 'septumlaw01.BitsOrders'. -/
def bitsOrdersCard : Claim7 := { stood := { row := bitsOrdersRow, standIns := [], harness := (true, "554359809f5b0e518b274227a056c2a804283e6d027d392816c9c7cdeb82ed8d"), looks := false }, kinds := [], alts := [], laidByText := true, laidKinds := [.data, .data, .data, .data, .pinned], laidTests := true, laidLooks := .later }
def BitsOrdersCardSaid : Prop := Claim7.holds Tryd.pinned (.plain (OpenSpec.ofChange bitsOrdersSpec)) bitsOrdersCard

/-- THE TIED CARD OF 'septumlaw01.BitsWholes'. -/
def bitsWholesCard : Claim7 := { stood := { row := bitsWholesRow, standIns := [], harness := (true, "554359809f5b0e518b274227a056c2a804283e6d027d392816c9c7cdeb82ed8d"), looks := false }, kinds := [], alts := [], laidByText := true, laidKinds := [.data, .data, .data, .data, .pinned], laidTests := true, laidLooks := .later }
def BitsWholesCardSaid : Prop := Claim7.holds Tryd.pinned (.plain (OpenSpec.ofChange bitsWholesSpec)) bitsWholesCard

/-- THE TIED CARD OF 'septumlaw01.BitsTexts'. -/
def bitsTextsCard : Claim7 := { stood := { row := bitsTextsRow, standIns := [], harness := (true, "554359809f5b0e518b274227a056c2a804283e6d027d392816c9c7cdeb82ed8d"), looks := false }, kinds := [], alts := [], laidByText := true, laidKinds := [.data, .data, .data, .data, .pinned], laidTests := true, laidLooks := .later }
def BitsTextsCardSaid : Prop := Claim7.holds Tryd.pinned (.plain (OpenSpec.ofChange bitsTextsSpec)) bitsTextsCard

/-- THE TIED CARD OF 'septumlaw01.BitsBack'. -/
def bitsBackCard : Claim7 := { stood := { row := bitsBackRow, standIns := [], harness := (true, "554359809f5b0e518b274227a056c2a804283e6d027d392816c9c7cdeb82ed8d"), looks := false }, kinds := [], alts := [], laidByText := true, laidKinds := [.data, .data, .data, .data, .pinned], laidTests := true, laidLooks := .later }
def BitsBackCardSaid : Prop := Claim7.holds Tryd.pinned (.plain (OpenSpec.ofChange bitsBackSpec)) bitsBackCard

/-- THE TIED CARD OF 'septumlaw01.BitsSmall'. -/
def bitsSmallCard : Claim7 := { stood := { row := bitsSmallRow, standIns := [], harness := (true, "554359809f5b0e518b274227a056c2a804283e6d027d392816c9c7cdeb82ed8d"), looks := false }, kinds := [], alts := [], laidByText := true, laidKinds := [.data, .data, .data, .data, .pinned], laidTests := true, laidLooks := .later }
def BitsSmallCardSaid : Prop := Claim7.holds Tryd.pinned (.plain (OpenSpec.ofChange bitsSmallSpec)) bitsSmallCard

/-- THE TIED CARD OF 'septumlaw01.BitsLeft'. -/
def bitsLeftCard : Claim7 := { stood := { row := bitsLeftRow, standIns := [], harness := (true, "554359809f5b0e518b274227a056c2a804283e6d027d392816c9c7cdeb82ed8d"), looks := false }, kinds := [], alts := [], laidByText := true, laidKinds := [.data, .data, .data, .data, .pinned], laidTests := true, laidLooks := .later }
def BitsLeftCardSaid : Prop := Claim7.holds Tryd.pinned (.plain (OpenSpec.ofChange bitsLeftSpec)) bitsLeftCard

/-- THE TIED CARD OF 'septumlaw01.BitsNought'. -/
def bitsNoughtCard : Claim7 := { stood := { row := bitsNoughtRow, standIns := [], harness := (true, "554359809f5b0e518b274227a056c2a804283e6d027d392816c9c7cdeb82ed8d"), looks := false }, kinds := [], alts := [], laidByText := true, laidKinds := [.data, .data, .data, .data, .pinned], laidTests := true, laidLooks := .later }
def BitsNoughtCardSaid : Prop := Claim7.holds Tryd.pinned (.plain (OpenSpec.ofChange bitsNoughtSpec)) bitsNoughtCard

/-- THE TIED CARD OF 'septumlaw01.BitsWords'. -/
def bitsWordsCard : Claim7 := { stood := { row := bitsWordsRow, standIns := [], harness := (true, "554359809f5b0e518b274227a056c2a804283e6d027d392816c9c7cdeb82ed8d"), looks := false }, kinds := [], alts := [], laidByText := true, laidKinds := [.data, .data, .data, .data, .pinned], laidTests := true, laidLooks := .later }
def BitsWordsCardSaid : Prop := Claim7.holds Tryd.pinned (.plain (OpenSpec.ofChange bitsWordsSpec)) bitsWordsCard

/-- THE TIED CARD OF 'septumlaw01.BitsDigits'. -/
def bitsDigitsCard : Claim7 := { stood := { row := bitsDigitsRow, standIns := [], harness := (true, "554359809f5b0e518b274227a056c2a804283e6d027d392816c9c7cdeb82ed8d"), looks := false }, kinds := [], alts := [], laidByText := true, laidKinds := [.data, .data, .data, .data, .pinned], laidTests := true, laidLooks := .later }
def BitsDigitsCardSaid : Prop := Claim7.holds Tryd.pinned (.plain (OpenSpec.ofChange bitsDigitsSpec)) bitsDigitsCard

/-- THE TIED CARD OF 'septumlaw01.BitsTurns'. -/
def bitsTurnsCard : Claim7 := { stood := { row := bitsTurnsRow, standIns := [], harness := (true, "554359809f5b0e518b274227a056c2a804283e6d027d392816c9c7cdeb82ed8d"), looks := false }, kinds := [], alts := [], laidByText := true, laidKinds := [.data, .data, .data, .data, .pinned], laidTests := true, laidLooks := .later }
def BitsTurnsCardSaid : Prop := Claim7.holds Tryd.pinned (.plain (OpenSpec.ofChange bitsTurnsSpec)) bitsTurnsCard

/-- THE SECOND FORM's CARD OF 'septumlaw01.BitsReckon'. -/
def bitsReckonUptoCard : Claim7 := { stood := { row := bitsReckonUptoRow, standIns := [], harness := (true, "554359809f5b0e518b274227a056c2a804283e6d027d392816c9c7cdeb82ed8d"), looks := false }, kinds := [], alts := [], laidByText := true, laidKinds := [.data, .data, .data, .data, .pinned], laidTests := true, laidLooks := .later }
def BitsReckonUptoCardSaid : Prop := Claim7.holds Tryd.pinned (.plain (OpenSpec.upto bitsReckonSpec)) bitsReckonUptoCard

/-- THE SECOND FORM's CARD OF 'septumlaw01.BitsRems'. -/
def bitsRemsUptoCard : Claim7 := { stood := { row := bitsRemsUptoRow, standIns := [], harness := (true, "554359809f5b0e518b274227a056c2a804283e6d027d392816c9c7cdeb82ed8d"), looks := false }, kinds := [], alts := [], laidByText := true, laidKinds := [.data, .data, .data, .data, .pinned], laidTests := true, laidLooks := .later }
def BitsRemsUptoCardSaid : Prop := Claim7.holds Tryd.pinned (.plain (OpenSpec.upto bitsRemsSpec)) bitsRemsUptoCard

/-- THE SECOND FORM's CARD OF 'septumlaw01.BitsOrders'. -/
def bitsOrdersUptoCard : Claim7 := { stood := { row := bitsOrdersUptoRow, standIns := [], harness := (true, "554359809f5b0e518b274227a056c2a804283e6d027d392816c9c7cdeb82ed8d"), looks := false }, kinds := [], alts := [], laidByText := true, laidKinds := [.data, .data, .data, .data, .pinned], laidTests := true, laidLooks := .later }
def BitsOrdersUptoCardSaid : Prop := Claim7.holds Tryd.pinned (.plain (OpenSpec.upto bitsOrdersSpec)) bitsOrdersUptoCard

/-- THE SECOND FORM's CARD OF 'septumlaw01.BitsWholes'. -/
def bitsWholesUptoCard : Claim7 := { stood := { row := bitsWholesUptoRow, standIns := [], harness := (true, "554359809f5b0e518b274227a056c2a804283e6d027d392816c9c7cdeb82ed8d"), looks := false }, kinds := [], alts := [], laidByText := true, laidKinds := [.data, .data, .data, .data, .pinned], laidTests := true, laidLooks := .later }
def BitsWholesUptoCardSaid : Prop := Claim7.holds Tryd.pinned (.plain (OpenSpec.upto bitsWholesSpec)) bitsWholesUptoCard

/-- THE SECOND FORM's CARD OF 'septumlaw01.BitsTexts'. -/
def bitsTextsUptoCard : Claim7 := { stood := { row := bitsTextsUptoRow, standIns := [], harness := (true, "554359809f5b0e518b274227a056c2a804283e6d027d392816c9c7cdeb82ed8d"), looks := false }, kinds := [], alts := [], laidByText := true, laidKinds := [.data, .data, .data, .data, .pinned], laidTests := true, laidLooks := .later }
def BitsTextsUptoCardSaid : Prop := Claim7.holds Tryd.pinned (.plain (OpenSpec.upto bitsTextsSpec)) bitsTextsUptoCard

/-- THE SECOND FORM's CARD OF 'septumlaw01.BitsBack'. -/
def bitsBackUptoCard : Claim7 := { stood := { row := bitsBackUptoRow, standIns := [], harness := (true, "554359809f5b0e518b274227a056c2a804283e6d027d392816c9c7cdeb82ed8d"), looks := false }, kinds := [], alts := [], laidByText := true, laidKinds := [.data, .data, .data, .data, .pinned], laidTests := true, laidLooks := .later }
def BitsBackUptoCardSaid : Prop := Claim7.holds Tryd.pinned (.plain (OpenSpec.upto bitsBackSpec)) bitsBackUptoCard

/-- THE SECOND FORM's CARD OF 'septumlaw01.BitsSmall'. -/
def bitsSmallUptoCard : Claim7 := { stood := { row := bitsSmallUptoRow, standIns := [], harness := (true, "554359809f5b0e518b274227a056c2a804283e6d027d392816c9c7cdeb82ed8d"), looks := false }, kinds := [], alts := [], laidByText := true, laidKinds := [.data, .data, .data, .data, .pinned], laidTests := true, laidLooks := .later }
def BitsSmallUptoCardSaid : Prop := Claim7.holds Tryd.pinned (.plain (OpenSpec.upto bitsSmallSpec)) bitsSmallUptoCard

/-- THE SECOND FORM's CARD OF 'septumlaw01.BitsLeft'. -/
def bitsLeftUptoCard : Claim7 := { stood := { row := bitsLeftUptoRow, standIns := [], harness := (true, "554359809f5b0e518b274227a056c2a804283e6d027d392816c9c7cdeb82ed8d"), looks := false }, kinds := [], alts := [], laidByText := true, laidKinds := [.data, .data, .data, .data, .pinned], laidTests := true, laidLooks := .later }
def BitsLeftUptoCardSaid : Prop := Claim7.holds Tryd.pinned (.plain (OpenSpec.upto bitsLeftSpec)) bitsLeftUptoCard

/-- THE SECOND FORM's CARD OF 'septumlaw01.BitsNought'. -/
def bitsNoughtUptoCard : Claim7 := { stood := { row := bitsNoughtUptoRow, standIns := [], harness := (true, "554359809f5b0e518b274227a056c2a804283e6d027d392816c9c7cdeb82ed8d"), looks := false }, kinds := [], alts := [], laidByText := true, laidKinds := [.data, .data, .data, .data, .pinned], laidTests := true, laidLooks := .later }
def BitsNoughtUptoCardSaid : Prop := Claim7.holds Tryd.pinned (.plain (OpenSpec.upto bitsNoughtSpec)) bitsNoughtUptoCard

/-- THE SECOND FORM's CARD OF 'septumlaw01.BitsWords'. -/
def bitsWordsUptoCard : Claim7 := { stood := { row := bitsWordsUptoRow, standIns := [], harness := (true, "554359809f5b0e518b274227a056c2a804283e6d027d392816c9c7cdeb82ed8d"), looks := false }, kinds := [], alts := [], laidByText := true, laidKinds := [.data, .data, .data, .data, .pinned], laidTests := true, laidLooks := .later }
def BitsWordsUptoCardSaid : Prop := Claim7.holds Tryd.pinned (.plain (OpenSpec.upto bitsWordsSpec)) bitsWordsUptoCard

/-- THE SECOND FORM's CARD OF 'septumlaw01.BitsDigits'. -/
def bitsDigitsUptoCard : Claim7 := { stood := { row := bitsDigitsUptoRow, standIns := [], harness := (true, "554359809f5b0e518b274227a056c2a804283e6d027d392816c9c7cdeb82ed8d"), looks := false }, kinds := [], alts := [], laidByText := true, laidKinds := [.data, .data, .data, .data, .pinned], laidTests := true, laidLooks := .later }
def BitsDigitsUptoCardSaid : Prop := Claim7.holds Tryd.pinned (.plain (OpenSpec.upto bitsDigitsSpec)) bitsDigitsUptoCard

/-- THE SECOND FORM's CARD OF 'septumlaw01.BitsTurns'. -/
def bitsTurnsUptoCard : Claim7 := { stood := { row := bitsTurnsUptoRow, standIns := [], harness := (true, "554359809f5b0e518b274227a056c2a804283e6d027d392816c9c7cdeb82ed8d"), looks := false }, kinds := [], alts := [], laidByText := true, laidKinds := [.data, .data, .data, .data, .pinned], laidTests := true, laidLooks := .later }
def BitsTurnsUptoCardSaid : Prop := Claim7.holds Tryd.pinned (.plain (OpenSpec.upto bitsTurnsSpec)) bitsTurnsUptoCard
end Rows
end Go.Proofs.YtmepgpiihhilaaaDoor
