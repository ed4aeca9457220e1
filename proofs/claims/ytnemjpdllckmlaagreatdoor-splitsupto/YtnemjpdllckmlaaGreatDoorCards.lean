/-
  DERIVED. GIVEN WITH THE SEED: THE CARDS: each row of YtnemjpdllckmlaaGreatDoorRows.lean that lists a variable, with what it lists TIED to the program's text (the seventh form; the later family's looks); each row that meets fmt, with fmt's text TOLD by the authors' own Lean function (tested against real Go, not proved from fmt's source: count such statements apart). THE CARD IS WHAT COUNTS. Prove the row's statement (the work); the ties are given (YtnemjpdllckmlaaGreatDoorTie.lean); close each card by the builder's one call (the guide's Derived/Test/ToyasCard.lean, 'card_holds'). Laid BY PROGRAM, IN A SANDBOX (cutbox-door.mjs). By AI agents, Wed Nov 11 2026. No macro, syntax, notation, axiom, sorry.
-/
import Derived.Test.YtnemjpdllckmlaaGreatDoorRows
import GoSem.ClaimSeven
namespace Go.Proofs.YtnemjpdllckmlaaGreatDoor
namespace Rows

/-- THE TIED CARD OF 'relaylaw.Splits'. -/
def splitsCard : Claim7 := { stood := { row := splitsRow, standIns := [], harness := (true, "f6b379868908303d5c725eda3e3448d1f4c1b4876a6ef4e7dba36fa6a09ed33f"), looks := true }, kinds := [], alts := [], laidByText := true, laidKinds := [.data, .data, .data, .handle], laidTests := true, laidLooks := .later }
def SplitsCardSaid : Prop := Claim7.holds Tryz.pinned (.plain (OpenSpec.ofChange splitsSpec)) splitsCard

/-- THE TIED CARD OF 'relaylaw.Banks'. -/
def banksCard : Claim7 := { stood := { row := banksRow, standIns := [], harness := (true, "f6b379868908303d5c725eda3e3448d1f4c1b4876a6ef4e7dba36fa6a09ed33f"), looks := true }, kinds := [], alts := [], laidByText := true, laidKinds := [.data, .data, .data, .handle], laidTests := true, laidLooks := .later }
def BanksCardSaid : Prop := Claim7.holds Tryz.pinned (.plain (OpenSpec.ofChange banksSpec)) banksCard

/-- THE TIED CARD OF 'relaylaw.Answers'. -/
def answersCard : Claim7 := { stood := { row := answersRow, standIns := [], harness := (true, "f6b379868908303d5c725eda3e3448d1f4c1b4876a6ef4e7dba36fa6a09ed33f"), looks := true }, kinds := [], alts := [], laidByText := true, laidKinds := [.data, .data, .data, .handle], laidTests := true, laidLooks := .later }
def AnswersCardSaid : Prop := Claim7.holds Tryz.pinned (.plain (OpenSpec.ofChange answersSpec)) answersCard

/-- THE TIED CARD OF 'relaykeep.Set'. -/
def setCard : Claim7 := { stood := { row := setRow, standIns := [], harness := (true, "f6b379868908303d5c725eda3e3448d1f4c1b4876a6ef4e7dba36fa6a09ed33f"), looks := true }, kinds := [], alts := [], laidByText := true, laidKinds := [.data, .data, .data, .handle], laidTests := true, laidLooks := .later }
def SetCardSaid : Prop := Claim7.holds Tryz.pinned (.plain (OpenSpec.ofChange setSpec)) setCard

/-- THE SECOND FORM's CARD OF 'relaylaw.Splits'. -/
def splitsUptoCard : Claim7 := { stood := { row := splitsUptoRow, standIns := [], harness := (true, "f6b379868908303d5c725eda3e3448d1f4c1b4876a6ef4e7dba36fa6a09ed33f"), looks := true }, kinds := [], alts := [], laidByText := true, laidKinds := [.data, .data, .data, .handle], laidTests := true, laidLooks := .later }
def SplitsUptoCardSaid : Prop := Claim7.holds Tryz.pinned (.plain (OpenSpec.upto splitsSpec)) splitsUptoCard

/-- THE SECOND FORM's CARD OF 'relaylaw.Banks'. -/
def banksUptoCard : Claim7 := { stood := { row := banksUptoRow, standIns := [], harness := (true, "f6b379868908303d5c725eda3e3448d1f4c1b4876a6ef4e7dba36fa6a09ed33f"), looks := true }, kinds := [], alts := [], laidByText := true, laidKinds := [.data, .data, .data, .handle], laidTests := true, laidLooks := .later }
def BanksUptoCardSaid : Prop := Claim7.holds Tryz.pinned (.plain (OpenSpec.upto banksSpec)) banksUptoCard

/-- THE SECOND FORM's CARD OF 'relaylaw.Answers'. -/
def answersUptoCard : Claim7 := { stood := { row := answersUptoRow, standIns := [], harness := (true, "f6b379868908303d5c725eda3e3448d1f4c1b4876a6ef4e7dba36fa6a09ed33f"), looks := true }, kinds := [], alts := [], laidByText := true, laidKinds := [.data, .data, .data, .handle], laidTests := true, laidLooks := .later }
def AnswersUptoCardSaid : Prop := Claim7.holds Tryz.pinned (.plain (OpenSpec.upto answersSpec)) answersUptoCard

/-- THE SECOND FORM's CARD OF 'relaykeep.Set'. -/
def setUptoCard : Claim7 := { stood := { row := setUptoRow, standIns := [], harness := (true, "f6b379868908303d5c725eda3e3448d1f4c1b4876a6ef4e7dba36fa6a09ed33f"), looks := true }, kinds := [], alts := [], laidByText := true, laidKinds := [.data, .data, .data, .handle], laidTests := true, laidLooks := .later }
def SetUptoCardSaid : Prop := Claim7.holds Tryz.pinned (.plain (OpenSpec.upto setSpec)) setUptoCard
end Rows
end Go.Proofs.YtnemjpdllckmlaaGreatDoor
