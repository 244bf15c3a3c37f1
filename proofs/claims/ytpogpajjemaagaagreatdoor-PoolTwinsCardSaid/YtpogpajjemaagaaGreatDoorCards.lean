/-
  DERIVED. GIVEN WITH THE SEED: THE CARDS: each row of YtpogpajjemaagaaGreatDoorRows.lean that lists a variable, with what it lists TIED to the program's text (the seventh form; the later family's looks); each row that meets fmt, with fmt's text TOLD by the authors' own Lean function (tested against real Go, not proved from fmt's source: count such statements apart). THE CARD IS WHAT COUNTS. Prove the row's statement (the work); the ties are given (YtpogpajjemaagaaGreatDoorTie.lean); close each card by the builder's one call (the guide's Derived/Test/ToyasCard.lean, 'card_holds'). Laid BY PROGRAM, IN A SANDBOX (cutbox-door.mjs). By AI agents, Wed Nov 11 2026. No macro, syntax, notation, axiom, sorry.
-/
import Derived.Test.YtpogpajjemaagaaGreatDoorRows
import GoSem.ClaimSeven
namespace Go.Proofs.YtpogpajjemaagaaGreatDoor
namespace Rows

/-- THE TIED CARD OF 'laminalaw08.PoolKeeps'. -/
def poolKeepsCard : Claim7 := { stood := { row := poolKeepsRow, standIns := [], harness := (true, "8110c428ff4281f6eeb1df56ad2c1be21ee847672c08008a15260ca1aeafb5c8"), looks := true }, kinds := [], alts := [], laidByText := true, laidKinds := [.data], laidTests := true, laidLooks := .later }
def PoolKeepsCardSaid : Prop := Claim7.holds Tryz.pinned (.plain (OpenSpec.ofChange poolKeepsSpec)) poolKeepsCard

/-- THE TIED CARD OF 'laminalaw08.PoolReads'. -/
def poolReadsCard : Claim7 := { stood := { row := poolReadsRow, standIns := [], harness := (true, "8110c428ff4281f6eeb1df56ad2c1be21ee847672c08008a15260ca1aeafb5c8"), looks := true }, kinds := [], alts := [], laidByText := true, laidKinds := [.data], laidTests := true, laidLooks := .later }
def PoolReadsCardSaid : Prop := Claim7.holds Tryz.pinned (.plain (OpenSpec.ofChange poolReadsSpec)) poolReadsCard

/-- THE TIED CARD OF 'laminalaw08.PoolNone'. -/
def poolNoneCard : Claim7 := { stood := { row := poolNoneRow, standIns := [], harness := (true, "8110c428ff4281f6eeb1df56ad2c1be21ee847672c08008a15260ca1aeafb5c8"), looks := true }, kinds := [], alts := [], laidByText := true, laidKinds := [.data], laidTests := true, laidLooks := .later }
def PoolNoneCardSaid : Prop := Claim7.holds Tryz.pinned (.plain (OpenSpec.ofChange poolNoneSpec)) poolNoneCard

/-- THE TIED CARD OF 'laminalaw08.PoolTwins'. -/
def poolTwinsCard : Claim7 := { stood := { row := poolTwinsRow, standIns := [], harness := (true, "8110c428ff4281f6eeb1df56ad2c1be21ee847672c08008a15260ca1aeafb5c8"), looks := true }, kinds := [], alts := [], laidByText := true, laidKinds := [.data], laidTests := true, laidLooks := .later }
def PoolTwinsCardSaid : Prop := Claim7.holds Tryz.pinned (.plain (OpenSpec.ofChange poolTwinsSpec)) poolTwinsCard

/-- THE TIED CARD OF 'laminalaw15.ImageNumbers'. -/
def imageNumbersCard : Claim7 := { stood := { row := imageNumbersRow, standIns := [], harness := (true, "8110c428ff4281f6eeb1df56ad2c1be21ee847672c08008a15260ca1aeafb5c8"), looks := true }, kinds := [], alts := [], laidByText := true, laidKinds := [.data], laidTests := true, laidLooks := .later }
def ImageNumbersCardSaid : Prop := Claim7.holds Tryz.pinned (.plain (OpenSpec.ofChange imageNumbersSpec)) imageNumbersCard

/-- THE TIED CARD OF 'laminalaw15.ImageNone'. -/
def imageNoneCard : Claim7 := { stood := { row := imageNoneRow, standIns := [], harness := (true, "8110c428ff4281f6eeb1df56ad2c1be21ee847672c08008a15260ca1aeafb5c8"), looks := true }, kinds := [], alts := [], laidByText := true, laidKinds := [.data], laidTests := true, laidLooks := .later }
def ImageNoneCardSaid : Prop := Claim7.holds Tryz.pinned (.plain (OpenSpec.ofChange imageNoneSpec)) imageNoneCard

/-- THE TIED CARD OF 'laminalaw15.ImageAlone'. -/
def imageAloneCard : Claim7 := { stood := { row := imageAloneRow, standIns := [], harness := (true, "8110c428ff4281f6eeb1df56ad2c1be21ee847672c08008a15260ca1aeafb5c8"), looks := true }, kinds := [], alts := [], laidByText := true, laidKinds := [.data], laidTests := true, laidLooks := .later }
def ImageAloneCardSaid : Prop := Claim7.holds Tryz.pinned (.plain (OpenSpec.ofChange imageAloneSpec)) imageAloneCard

/-- THE SECOND FORM's CARD OF 'laminalaw08.PoolKeeps'. -/
def poolKeepsUptoCard : Claim7 := { stood := { row := poolKeepsUptoRow, standIns := [], harness := (true, "8110c428ff4281f6eeb1df56ad2c1be21ee847672c08008a15260ca1aeafb5c8"), looks := true }, kinds := [], alts := [], laidByText := true, laidKinds := [.data], laidTests := true, laidLooks := .later }
def PoolKeepsUptoCardSaid : Prop := Claim7.holds Tryz.pinned (.plain (OpenSpec.upto poolKeepsSpec)) poolKeepsUptoCard

/-- THE SECOND FORM's CARD OF 'laminalaw08.PoolReads'. -/
def poolReadsUptoCard : Claim7 := { stood := { row := poolReadsUptoRow, standIns := [], harness := (true, "8110c428ff4281f6eeb1df56ad2c1be21ee847672c08008a15260ca1aeafb5c8"), looks := true }, kinds := [], alts := [], laidByText := true, laidKinds := [.data], laidTests := true, laidLooks := .later }
def PoolReadsUptoCardSaid : Prop := Claim7.holds Tryz.pinned (.plain (OpenSpec.upto poolReadsSpec)) poolReadsUptoCard

/-- THE SECOND FORM's CARD OF 'laminalaw08.PoolNone'. -/
def poolNoneUptoCard : Claim7 := { stood := { row := poolNoneUptoRow, standIns := [], harness := (true, "8110c428ff4281f6eeb1df56ad2c1be21ee847672c08008a15260ca1aeafb5c8"), looks := true }, kinds := [], alts := [], laidByText := true, laidKinds := [.data], laidTests := true, laidLooks := .later }
def PoolNoneUptoCardSaid : Prop := Claim7.holds Tryz.pinned (.plain (OpenSpec.upto poolNoneSpec)) poolNoneUptoCard

/-- THE SECOND FORM's CARD OF 'laminalaw08.PoolTwins'. -/
def poolTwinsUptoCard : Claim7 := { stood := { row := poolTwinsUptoRow, standIns := [], harness := (true, "8110c428ff4281f6eeb1df56ad2c1be21ee847672c08008a15260ca1aeafb5c8"), looks := true }, kinds := [], alts := [], laidByText := true, laidKinds := [.data], laidTests := true, laidLooks := .later }
def PoolTwinsUptoCardSaid : Prop := Claim7.holds Tryz.pinned (.plain (OpenSpec.upto poolTwinsSpec)) poolTwinsUptoCard

/-- THE SECOND FORM's CARD OF 'laminalaw15.ImageNumbers'. -/
def imageNumbersUptoCard : Claim7 := { stood := { row := imageNumbersUptoRow, standIns := [], harness := (true, "8110c428ff4281f6eeb1df56ad2c1be21ee847672c08008a15260ca1aeafb5c8"), looks := true }, kinds := [], alts := [], laidByText := true, laidKinds := [.data], laidTests := true, laidLooks := .later }
def ImageNumbersUptoCardSaid : Prop := Claim7.holds Tryz.pinned (.plain (OpenSpec.upto imageNumbersSpec)) imageNumbersUptoCard

/-- THE SECOND FORM's CARD OF 'laminalaw15.ImageNone'. -/
def imageNoneUptoCard : Claim7 := { stood := { row := imageNoneUptoRow, standIns := [], harness := (true, "8110c428ff4281f6eeb1df56ad2c1be21ee847672c08008a15260ca1aeafb5c8"), looks := true }, kinds := [], alts := [], laidByText := true, laidKinds := [.data], laidTests := true, laidLooks := .later }
def ImageNoneUptoCardSaid : Prop := Claim7.holds Tryz.pinned (.plain (OpenSpec.upto imageNoneSpec)) imageNoneUptoCard

/-- THE SECOND FORM's CARD OF 'laminalaw15.ImageAlone'. -/
def imageAloneUptoCard : Claim7 := { stood := { row := imageAloneUptoRow, standIns := [], harness := (true, "8110c428ff4281f6eeb1df56ad2c1be21ee847672c08008a15260ca1aeafb5c8"), looks := true }, kinds := [], alts := [], laidByText := true, laidKinds := [.data], laidTests := true, laidLooks := .later }
def ImageAloneUptoCardSaid : Prop := Claim7.holds Tryz.pinned (.plain (OpenSpec.upto imageAloneSpec)) imageAloneUptoCard
end Rows
end Go.Proofs.YtpogpajjemaagaaGreatDoor
