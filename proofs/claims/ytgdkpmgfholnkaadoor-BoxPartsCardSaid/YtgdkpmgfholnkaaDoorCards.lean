/-
  DERIVED. GIVEN WITH THE SEED: THE CARDS: each row of YtgdkpmgfholnkaaDoorRows.lean that lists a variable, with what it lists TIED to the program's text (the seventh form; the later family's looks); each row that meets fmt, with fmt's text TOLD by the authors' own Lean function (tested against real Go, not proved from fmt's source: count such statements apart). THE CARD IS WHAT COUNTS. Prove the row's statement (the work); the ties are given (YtgdkpmgfholnkaaDoorTie.lean); close each card by the builder's one call (the guide's Derived/Test/ToyasCard.lean, 'card_holds'). Laid BY PROGRAM, IN A SANDBOX (cutbox-door.mjs). By AI agents, Wed Nov 11 2026. No macro, syntax, notation, axiom, sorry.
-/
import Derived.Test.YtgdkpmgfholnkaaDoorRows
import GoSem.ClaimSeven
namespace Go.Proofs.YtgdkpmgfholnkaaDoor
namespace Rows

/-- THE TIED CARD OF 'laminalaw01.CrcSums'. -/
def crcSumsCard : Claim7 := { stood := { row := crcSumsRow, standIns := [], harness := (true, "d9f85c8c7bca4c78576fe710604c9363e4f06de600eb2d703871971403d5d423"), looks := true }, kinds := [], alts := [], laidByText := true, laidKinds := [.data], laidTests := true, laidLooks := .later }
def CrcSumsCardSaid : Prop := Claim7.holds Tryd.pinned (.plain (OpenSpec.ofChange crcSumsSpec)) crcSumsCard

/-- THE TIED CARD OF 'laminalaw04.BoxSeals'. -/
def boxSealsCard : Claim7 := { stood := { row := boxSealsRow, standIns := [], harness := (true, "d9f85c8c7bca4c78576fe710604c9363e4f06de600eb2d703871971403d5d423"), looks := true }, kinds := [], alts := [], laidByText := true, laidKinds := [.data], laidTests := true, laidLooks := .later }
def BoxSealsCardSaid : Prop := Claim7.holds Tryd.pinned (.plain (OpenSpec.ofChange boxSealsSpec)) boxSealsCard

/-- THE TIED CARD OF 'laminalaw04.BoxIs'. -/
def boxIsCard : Claim7 := { stood := { row := boxIsRow, standIns := [], harness := (true, "d9f85c8c7bca4c78576fe710604c9363e4f06de600eb2d703871971403d5d423"), looks := true }, kinds := [], alts := [], laidByText := true, laidKinds := [.data], laidTests := true, laidLooks := .later }
def BoxIsCardSaid : Prop := Claim7.holds Tryd.pinned (.plain (OpenSpec.ofChange boxIsSpec)) boxIsCard

/-- THE TIED CARD OF 'laminalaw04.BoxTurns'. -/
def boxTurnsCard : Claim7 := { stood := { row := boxTurnsRow, standIns := [], harness := (true, "d9f85c8c7bca4c78576fe710604c9363e4f06de600eb2d703871971403d5d423"), looks := true }, kinds := [], alts := [], laidByText := true, laidKinds := [.data], laidTests := true, laidLooks := .later }
def BoxTurnsCardSaid : Prop := Claim7.holds Tryd.pinned (.plain (OpenSpec.ofChange boxTurnsSpec)) boxTurnsCard

/-- THE TIED CARD OF 'laminalaw04.BoxParts'. -/
def boxPartsCard : Claim7 := { stood := { row := boxPartsRow, standIns := [], harness := (true, "d9f85c8c7bca4c78576fe710604c9363e4f06de600eb2d703871971403d5d423"), looks := true }, kinds := [], alts := [], laidByText := true, laidKinds := [.data], laidTests := true, laidLooks := .later }
def BoxPartsCardSaid : Prop := Claim7.holds Tryd.pinned (.plain (OpenSpec.ofChange boxPartsSpec)) boxPartsCard

/-- THE TIED CARD OF 'laminalaw04.BoxApart'. -/
def boxApartCard : Claim7 := { stood := { row := boxApartRow, standIns := [], harness := (true, "d9f85c8c7bca4c78576fe710604c9363e4f06de600eb2d703871971403d5d423"), looks := true }, kinds := [], alts := [], laidByText := true, laidKinds := [.data], laidTests := true, laidLooks := .later }
def BoxApartCardSaid : Prop := Claim7.holds Tryd.pinned (.plain (OpenSpec.ofChange boxApartSpec)) boxApartCard

/-- THE SECOND FORM's CARD OF 'laminalaw01.CrcSums'. -/
def crcSumsUptoCard : Claim7 := { stood := { row := crcSumsUptoRow, standIns := [], harness := (true, "d9f85c8c7bca4c78576fe710604c9363e4f06de600eb2d703871971403d5d423"), looks := true }, kinds := [], alts := [], laidByText := true, laidKinds := [.data], laidTests := true, laidLooks := .later }
def CrcSumsUptoCardSaid : Prop := Claim7.holds Tryd.pinned (.plain (OpenSpec.upto crcSumsSpec)) crcSumsUptoCard

/-- THE SECOND FORM's CARD OF 'laminalaw04.BoxSeals'. -/
def boxSealsUptoCard : Claim7 := { stood := { row := boxSealsUptoRow, standIns := [], harness := (true, "d9f85c8c7bca4c78576fe710604c9363e4f06de600eb2d703871971403d5d423"), looks := true }, kinds := [], alts := [], laidByText := true, laidKinds := [.data], laidTests := true, laidLooks := .later }
def BoxSealsUptoCardSaid : Prop := Claim7.holds Tryd.pinned (.plain (OpenSpec.upto boxSealsSpec)) boxSealsUptoCard

/-- THE SECOND FORM's CARD OF 'laminalaw04.BoxIs'. -/
def boxIsUptoCard : Claim7 := { stood := { row := boxIsUptoRow, standIns := [], harness := (true, "d9f85c8c7bca4c78576fe710604c9363e4f06de600eb2d703871971403d5d423"), looks := true }, kinds := [], alts := [], laidByText := true, laidKinds := [.data], laidTests := true, laidLooks := .later }
def BoxIsUptoCardSaid : Prop := Claim7.holds Tryd.pinned (.plain (OpenSpec.upto boxIsSpec)) boxIsUptoCard

/-- THE SECOND FORM's CARD OF 'laminalaw04.BoxTurns'. -/
def boxTurnsUptoCard : Claim7 := { stood := { row := boxTurnsUptoRow, standIns := [], harness := (true, "d9f85c8c7bca4c78576fe710604c9363e4f06de600eb2d703871971403d5d423"), looks := true }, kinds := [], alts := [], laidByText := true, laidKinds := [.data], laidTests := true, laidLooks := .later }
def BoxTurnsUptoCardSaid : Prop := Claim7.holds Tryd.pinned (.plain (OpenSpec.upto boxTurnsSpec)) boxTurnsUptoCard

/-- THE SECOND FORM's CARD OF 'laminalaw04.BoxParts'. -/
def boxPartsUptoCard : Claim7 := { stood := { row := boxPartsUptoRow, standIns := [], harness := (true, "d9f85c8c7bca4c78576fe710604c9363e4f06de600eb2d703871971403d5d423"), looks := true }, kinds := [], alts := [], laidByText := true, laidKinds := [.data], laidTests := true, laidLooks := .later }
def BoxPartsUptoCardSaid : Prop := Claim7.holds Tryd.pinned (.plain (OpenSpec.upto boxPartsSpec)) boxPartsUptoCard

/-- THE SECOND FORM's CARD OF 'laminalaw04.BoxApart'. -/
def boxApartUptoCard : Claim7 := { stood := { row := boxApartUptoRow, standIns := [], harness := (true, "d9f85c8c7bca4c78576fe710604c9363e4f06de600eb2d703871971403d5d423"), looks := true }, kinds := [], alts := [], laidByText := true, laidKinds := [.data], laidTests := true, laidLooks := .later }
def BoxApartUptoCardSaid : Prop := Claim7.holds Tryd.pinned (.plain (OpenSpec.upto boxApartSpec)) boxApartUptoCard
end Rows
end Go.Proofs.YtgdkpmgfholnkaaDoor
