/-
  DERIVED. GIVEN WITH THE SEED: THE CARDS: each row of YtfekelmldebplaaGreatDoorRows.lean that lists a variable, with what it lists TIED to the program's text (the seventh form; the later family's looks); each row that meets fmt, with fmt's text TOLD by the authors' own Lean function (tested against real Go, not proved from fmt's source: count such statements apart). THE CARD IS WHAT COUNTS. Prove the row's statement (the work); the ties are given (YtfekelmldebplaaGreatDoorTie.lean); close each card by the builder's one call (the guide's Derived/Test/ToyasCard.lean, 'card_holds'). Laid BY PROGRAM, IN A SANDBOX (cutbox-door.mjs). By AI agents, Wed Nov 11 2026. No macro, syntax, notation, axiom, sorry.
-/
import Derived.Test.YtfekelmldebplaaGreatDoorRows
import GoSem.ClaimSeven
namespace Go.Proofs.YtfekelmldebplaaGreatDoor
namespace Rows

/-- THE TIED CARD OF 'relaylaw.Splits'. -/
def splitsCard : Claim7 := { stood := { row := splitsRow, standIns := [], harness := (true, "dd6b6644330d04be1043d63bb8847daf5ca6087d158a31d4d7b8712b7f74da13"), looks := true }, kinds := [], alts := [], goes := true, laidByText := true, laidKinds := [.data, .data, .data, .handle], laidTests := true, laidLooks := .later }
def SplitsCardSaid : Prop := Claim7.holds Tryz.pinned (.plain (OpenSpec.ofChange splitsSpec)) splitsCard

/-- THE TIED CARD OF 'relaylaw.Banks'. -/
def banksCard : Claim7 := { stood := { row := banksRow, standIns := [], harness := (true, "dd6b6644330d04be1043d63bb8847daf5ca6087d158a31d4d7b8712b7f74da13"), looks := true }, kinds := [], alts := [], goes := true, laidByText := true, laidKinds := [.data, .data, .data, .handle], laidTests := true, laidLooks := .later }
def BanksCardSaid : Prop := Claim7.holds Tryz.pinned (.plain (OpenSpec.ofChange banksSpec)) banksCard

/-- THE TIED CARD OF 'relaylaw.Answers'. -/
def answersCard : Claim7 := { stood := { row := answersRow, standIns := [], harness := (true, "dd6b6644330d04be1043d63bb8847daf5ca6087d158a31d4d7b8712b7f74da13"), looks := true }, kinds := [], alts := [], goes := true, laidByText := true, laidKinds := [.data, .data, .data, .handle], laidTests := true, laidLooks := .later }
def AnswersCardSaid : Prop := Claim7.holds Tryz.pinned (.plain (OpenSpec.ofChange answersSpec)) answersCard

/-- THE TIED CARD OF 'relaylaw.Serves'. -/
def servesCard : Claim7 := { stood := { row := servesRow, standIns := [], harness := (true, "dd6b6644330d04be1043d63bb8847daf5ca6087d158a31d4d7b8712b7f74da13"), looks := true }, kinds := [], alts := [], goes := true, laidByText := true, laidKinds := [.data, .data, .data, .handle], laidTests := true, laidLooks := .later }
def ServesCardSaid : Prop := Claim7.holds Tryz.pinned (.plain (OpenSpec.ofChange servesSpec)) servesCard

/-- THE TIED CARD OF 'relaylaw.All'. -/
def allCard : Claim7 := { stood := { row := allRow, standIns := [], harness := (true, "dd6b6644330d04be1043d63bb8847daf5ca6087d158a31d4d7b8712b7f74da13"), looks := true }, kinds := [], alts := [], goes := true, laidByText := true, laidKinds := [.data, .data, .data, .handle], laidTests := true, laidLooks := .later }
def AllCardSaid : Prop := Claim7.holds Tryz.pinned (.plain (OpenSpec.ofChange allSpec)) allCard

/-- THE TIED CARD OF 'relaykeep.Set'. -/
def setCard : Claim7 := { stood := { row := setRow, standIns := [], harness := (true, "dd6b6644330d04be1043d63bb8847daf5ca6087d158a31d4d7b8712b7f74da13"), looks := true }, kinds := [], alts := [], goes := true, laidByText := true, laidKinds := [.data, .data, .data, .handle], laidTests := true, laidLooks := .later }
def SetCardSaid : Prop := Claim7.holds Tryz.pinned (.plain (OpenSpec.ofChange setSpec)) setCard

/-- THE TIED CARD OF 'relaykeep.Coils'. -/
def coilsCard : Claim7 := { stood := { row := coilsRow, standIns := [], harness := (true, "dd6b6644330d04be1043d63bb8847daf5ca6087d158a31d4d7b8712b7f74da13"), looks := true }, kinds := [], alts := [], goes := true, laidByText := true, laidKinds := [.data, .data, .data, .handle], laidTests := true, laidLooks := .later }
def CoilsCardSaid : Prop := Claim7.holds Tryz.pinned (.plain (OpenSpec.ofChange coilsSpec)) coilsCard

/-- THE TIED CARD OF 'relaykeep.Holders'. -/
def holdersCard : Claim7 := { stood := { row := holdersRow, standIns := [], harness := (true, "dd6b6644330d04be1043d63bb8847daf5ca6087d158a31d4d7b8712b7f74da13"), looks := true }, kinds := [], alts := [], goes := true, laidByText := true, laidKinds := [.data, .data, .data, .handle], laidTests := true, laidLooks := .later }
def HoldersCardSaid : Prop := Claim7.holds Tryz.pinned (.plain (OpenSpec.ofChange holdersSpec)) holdersCard

/-- THE TIED CARD OF 'relaykeep.Refused'. -/
def refusedCard : Claim7 := { stood := { row := refusedRow, standIns := [], harness := (true, "dd6b6644330d04be1043d63bb8847daf5ca6087d158a31d4d7b8712b7f74da13"), looks := true }, kinds := [], alts := [], goes := true, laidByText := true, laidKinds := [.data, .data, .data, .handle], laidTests := true, laidLooks := .later }
def RefusedCardSaid : Prop := Claim7.holds Tryz.pinned (.plain (OpenSpec.ofChange refusedSpec)) refusedCard

/-- THE TIED CARD OF 'relaykeep.Ruled'. -/
def ruledCard : Claim7 := { stood := { row := ruledRow, standIns := [], harness := (true, "dd6b6644330d04be1043d63bb8847daf5ca6087d158a31d4d7b8712b7f74da13"), looks := true }, kinds := [], alts := [], goes := true, laidByText := true, laidKinds := [.data, .data, .data, .handle], laidTests := true, laidLooks := .later }
def RuledCardSaid : Prop := Claim7.holds Tryz.pinned (.plain (OpenSpec.ofChange ruledSpec)) ruledCard

/-- THE TIED CARD OF 'relaykeep.Turns'. -/
def turnsCard : Claim7 := { stood := { row := turnsRow, standIns := [], harness := (true, "dd6b6644330d04be1043d63bb8847daf5ca6087d158a31d4d7b8712b7f74da13"), looks := true }, kinds := [], alts := [], goes := true, laidByText := true, laidKinds := [.data, .data, .data, .handle], laidTests := true, laidLooks := .later }
def TurnsCardSaid : Prop := Claim7.holds Tryz.pinned (.plain (OpenSpec.ofChange turnsSpec)) turnsCard

/-- THE SECOND FORM's CARD OF 'relaylaw.Splits'. -/
def splitsUptoCard : Claim7 := { stood := { row := splitsUptoRow, standIns := [], harness := (true, "dd6b6644330d04be1043d63bb8847daf5ca6087d158a31d4d7b8712b7f74da13"), looks := true }, kinds := [], alts := [], goes := true, laidByText := true, laidKinds := [.data, .data, .data, .handle], laidTests := true, laidLooks := .later }
def SplitsUptoCardSaid : Prop := Claim7.holds Tryz.pinned (.plain (OpenSpec.upto splitsSpec)) splitsUptoCard

/-- THE SECOND FORM's CARD OF 'relaylaw.Banks'. -/
def banksUptoCard : Claim7 := { stood := { row := banksUptoRow, standIns := [], harness := (true, "dd6b6644330d04be1043d63bb8847daf5ca6087d158a31d4d7b8712b7f74da13"), looks := true }, kinds := [], alts := [], goes := true, laidByText := true, laidKinds := [.data, .data, .data, .handle], laidTests := true, laidLooks := .later }
def BanksUptoCardSaid : Prop := Claim7.holds Tryz.pinned (.plain (OpenSpec.upto banksSpec)) banksUptoCard

/-- THE SECOND FORM's CARD OF 'relaylaw.Answers'. -/
def answersUptoCard : Claim7 := { stood := { row := answersUptoRow, standIns := [], harness := (true, "dd6b6644330d04be1043d63bb8847daf5ca6087d158a31d4d7b8712b7f74da13"), looks := true }, kinds := [], alts := [], goes := true, laidByText := true, laidKinds := [.data, .data, .data, .handle], laidTests := true, laidLooks := .later }
def AnswersUptoCardSaid : Prop := Claim7.holds Tryz.pinned (.plain (OpenSpec.upto answersSpec)) answersUptoCard

/-- THE SECOND FORM's CARD OF 'relaylaw.Serves'. -/
def servesUptoCard : Claim7 := { stood := { row := servesUptoRow, standIns := [], harness := (true, "dd6b6644330d04be1043d63bb8847daf5ca6087d158a31d4d7b8712b7f74da13"), looks := true }, kinds := [], alts := [], goes := true, laidByText := true, laidKinds := [.data, .data, .data, .handle], laidTests := true, laidLooks := .later }
def ServesUptoCardSaid : Prop := Claim7.holds Tryz.pinned (.plain (OpenSpec.upto servesSpec)) servesUptoCard

/-- THE SECOND FORM's CARD OF 'relaylaw.All'. -/
def allUptoCard : Claim7 := { stood := { row := allUptoRow, standIns := [], harness := (true, "dd6b6644330d04be1043d63bb8847daf5ca6087d158a31d4d7b8712b7f74da13"), looks := true }, kinds := [], alts := [], goes := true, laidByText := true, laidKinds := [.data, .data, .data, .handle], laidTests := true, laidLooks := .later }
def AllUptoCardSaid : Prop := Claim7.holds Tryz.pinned (.plain (OpenSpec.upto allSpec)) allUptoCard

/-- THE SECOND FORM's CARD OF 'relaykeep.Set'. -/
def setUptoCard : Claim7 := { stood := { row := setUptoRow, standIns := [], harness := (true, "dd6b6644330d04be1043d63bb8847daf5ca6087d158a31d4d7b8712b7f74da13"), looks := true }, kinds := [], alts := [], goes := true, laidByText := true, laidKinds := [.data, .data, .data, .handle], laidTests := true, laidLooks := .later }
def SetUptoCardSaid : Prop := Claim7.holds Tryz.pinned (.plain (OpenSpec.upto setSpec)) setUptoCard

/-- THE SECOND FORM's CARD OF 'relaykeep.Coils'. -/
def coilsUptoCard : Claim7 := { stood := { row := coilsUptoRow, standIns := [], harness := (true, "dd6b6644330d04be1043d63bb8847daf5ca6087d158a31d4d7b8712b7f74da13"), looks := true }, kinds := [], alts := [], goes := true, laidByText := true, laidKinds := [.data, .data, .data, .handle], laidTests := true, laidLooks := .later }
def CoilsUptoCardSaid : Prop := Claim7.holds Tryz.pinned (.plain (OpenSpec.upto coilsSpec)) coilsUptoCard

/-- THE SECOND FORM's CARD OF 'relaykeep.Holders'. -/
def holdersUptoCard : Claim7 := { stood := { row := holdersUptoRow, standIns := [], harness := (true, "dd6b6644330d04be1043d63bb8847daf5ca6087d158a31d4d7b8712b7f74da13"), looks := true }, kinds := [], alts := [], goes := true, laidByText := true, laidKinds := [.data, .data, .data, .handle], laidTests := true, laidLooks := .later }
def HoldersUptoCardSaid : Prop := Claim7.holds Tryz.pinned (.plain (OpenSpec.upto holdersSpec)) holdersUptoCard

/-- THE SECOND FORM's CARD OF 'relaykeep.Refused'. -/
def refusedUptoCard : Claim7 := { stood := { row := refusedUptoRow, standIns := [], harness := (true, "dd6b6644330d04be1043d63bb8847daf5ca6087d158a31d4d7b8712b7f74da13"), looks := true }, kinds := [], alts := [], goes := true, laidByText := true, laidKinds := [.data, .data, .data, .handle], laidTests := true, laidLooks := .later }
def RefusedUptoCardSaid : Prop := Claim7.holds Tryz.pinned (.plain (OpenSpec.upto refusedSpec)) refusedUptoCard

/-- THE SECOND FORM's CARD OF 'relaykeep.Ruled'. -/
def ruledUptoCard : Claim7 := { stood := { row := ruledUptoRow, standIns := [], harness := (true, "dd6b6644330d04be1043d63bb8847daf5ca6087d158a31d4d7b8712b7f74da13"), looks := true }, kinds := [], alts := [], goes := true, laidByText := true, laidKinds := [.data, .data, .data, .handle], laidTests := true, laidLooks := .later }
def RuledUptoCardSaid : Prop := Claim7.holds Tryz.pinned (.plain (OpenSpec.upto ruledSpec)) ruledUptoCard

/-- THE SECOND FORM's CARD OF 'relaykeep.Turns'. -/
def turnsUptoCard : Claim7 := { stood := { row := turnsUptoRow, standIns := [], harness := (true, "dd6b6644330d04be1043d63bb8847daf5ca6087d158a31d4d7b8712b7f74da13"), looks := true }, kinds := [], alts := [], goes := true, laidByText := true, laidKinds := [.data, .data, .data, .handle], laidTests := true, laidLooks := .later }
def TurnsUptoCardSaid : Prop := Claim7.holds Tryz.pinned (.plain (OpenSpec.upto turnsSpec)) turnsUptoCard
end Rows
end Go.Proofs.YtfekelmldebplaaGreatDoor
