/-
  DERIVED. GIVEN WITH THE SEED: THE CARDS: each row of YtcglmmbgoonjnaaGreatDoorRows.lean that lists a variable, with what it lists TIED to the program's text (the seventh form; the later family's looks); each row that meets fmt, with fmt's text TOLD by the authors' own Lean function (tested against real Go, not proved from fmt's source: count such statements apart). THE CARD IS WHAT COUNTS. Prove the row's statement (the work); the ties are given (YtcglmmbgoonjnaaGreatDoorTie.lean); close each card by the builder's one call (the guide's Derived/Test/ToyasCard.lean, 'card_holds'). Laid BY PROGRAM, IN A SANDBOX (cutbox-door.mjs). By AI agents, Wed Nov 11 2026. No macro, syntax, notation, axiom, sorry.
-/
import Derived.Test.YtcglmmbgoonjnaaGreatDoorRows
import GoSem.ClaimSeven
namespace Go.Proofs.YtcglmmbgoonjnaaGreatDoor
namespace Rows

/-- THE TIED CARD OF 'amblelaw01.ExactReads'. -/
def exactReadsCard : Claim7 := { stood := { row := exactReadsRow, standIns := [], harness := (true, "4dde45f3aca3f39908dfadba38df44ace8972f1aa340d7aa5b2c52cfca2db2a9"), looks := false }, kinds := [], alts := [], laidByText := true, laidKinds := [.data, .data, .data], laidTests := true, laidLooks := .later }
def ExactReadsCardSaid : Prop := Claim7.holds Tryz.pinned (.plain (OpenSpec.ofChange exactReadsSpec)) exactReadsCard

/-- THE TIED CARD OF 'amblelaw01.ExactOps'. -/
def exactOpsCard : Claim7 := { stood := { row := exactOpsRow, standIns := [], harness := (true, "4dde45f3aca3f39908dfadba38df44ace8972f1aa340d7aa5b2c52cfca2db2a9"), looks := false }, kinds := [], alts := [], laidByText := true, laidKinds := [.data, .data, .data], laidTests := true, laidLooks := .later }
def ExactOpsCardSaid : Prop := Claim7.holds Tryz.pinned (.plain (OpenSpec.ofChange exactOpsSpec)) exactOpsCard

/-- THE TIED CARD OF 'amblelaw01.ExactParts'. -/
def exactPartsCard : Claim7 := { stood := { row := exactPartsRow, standIns := [], harness := (true, "4dde45f3aca3f39908dfadba38df44ace8972f1aa340d7aa5b2c52cfca2db2a9"), looks := false }, kinds := [], alts := [], laidByText := true, laidKinds := [.data, .data, .data], laidTests := true, laidLooks := .later }
def ExactPartsCardSaid : Prop := Claim7.holds Tryz.pinned (.plain (OpenSpec.ofChange exactPartsSpec)) exactPartsCard

/-- THE TIED CARD OF 'amblelaw01.ExactNears'. -/
def exactNearsCard : Claim7 := { stood := { row := exactNearsRow, standIns := [], harness := (true, "4dde45f3aca3f39908dfadba38df44ace8972f1aa340d7aa5b2c52cfca2db2a9"), looks := false }, kinds := [], alts := [], laidByText := true, laidKinds := [.data, .data, .data], laidTests := true, laidLooks := .later }
def ExactNearsCardSaid : Prop := Claim7.holds Tryz.pinned (.plain (OpenSpec.ofChange exactNearsSpec)) exactNearsCard

/-- THE TIED CARD OF 'amblelaw01.ExactFolds'. -/
def exactFoldsCard : Claim7 := { stood := { row := exactFoldsRow, standIns := [], harness := (true, "4dde45f3aca3f39908dfadba38df44ace8972f1aa340d7aa5b2c52cfca2db2a9"), looks := false }, kinds := [], alts := [], laidByText := true, laidKinds := [.data, .data, .data], laidTests := true, laidLooks := .later }
def ExactFoldsCardSaid : Prop := Claim7.holds Tryz.pinned (.plain (OpenSpec.ofChange exactFoldsSpec)) exactFoldsCard

/-- THE TIED CARD OF 'amblelaw01.ExactPoints'. -/
def exactPointsCard : Claim7 := { stood := { row := exactPointsRow, standIns := [], harness := (true, "4dde45f3aca3f39908dfadba38df44ace8972f1aa340d7aa5b2c52cfca2db2a9"), looks := false }, kinds := [], alts := [], laidByText := true, laidKinds := [.data, .data, .data], laidTests := true, laidLooks := .later }
def ExactPointsCardSaid : Prop := Claim7.holds Tryz.pinned (.plain (OpenSpec.ofChange exactPointsSpec)) exactPointsCard

/-- THE TIED CARD OF 'amblelaw01.ExactNames'. -/
def exactNamesCard : Claim7 := { stood := { row := exactNamesRow, standIns := [], harness := (true, "4dde45f3aca3f39908dfadba38df44ace8972f1aa340d7aa5b2c52cfca2db2a9"), looks := false }, kinds := [], alts := [], laidByText := true, laidKinds := [.data, .data, .data], laidTests := true, laidLooks := .later }
def ExactNamesCardSaid : Prop := Claim7.holds Tryz.pinned (.plain (OpenSpec.ofChange exactNamesSpec)) exactNamesCard

/-- THE TIED CARD OF 'amblelaw01.ExactField'. -/
def exactFieldCard : Claim7 := { stood := { row := exactFieldRow, standIns := [], harness := (true, "4dde45f3aca3f39908dfadba38df44ace8972f1aa340d7aa5b2c52cfca2db2a9"), looks := false }, kinds := [], alts := [], laidByText := true, laidKinds := [.data, .data, .data], laidTests := true, laidLooks := .later }
def ExactFieldCardSaid : Prop := Claim7.holds Tryz.pinned (.plain (OpenSpec.ofChange exactFieldSpec)) exactFieldCard

/-- THE TIED CARD OF 'amblelaw01.ExactTexts'. -/
def exactTextsCard : Claim7 := { stood := { row := exactTextsRow, standIns := [], harness := (true, "4dde45f3aca3f39908dfadba38df44ace8972f1aa340d7aa5b2c52cfca2db2a9"), looks := false }, kinds := [], alts := [], laidByText := true, laidKinds := [.data, .data, .data], laidTests := true, laidLooks := .later }
def ExactTextsCardSaid : Prop := Claim7.holds Tryz.pinned (.plain (OpenSpec.ofChange exactTextsSpec)) exactTextsCard

/-- THE TIED CARD OF 'amblelaw01.ExactRounds'. -/
def exactRoundsCard : Claim7 := { stood := { row := exactRoundsRow, standIns := [], harness := (true, "4dde45f3aca3f39908dfadba38df44ace8972f1aa340d7aa5b2c52cfca2db2a9"), looks := false }, kinds := [], alts := [], laidByText := true, laidKinds := [.data, .data, .data], laidTests := true, laidLooks := .later }
def ExactRoundsCardSaid : Prop := Claim7.holds Tryz.pinned (.plain (OpenSpec.ofChange exactRoundsSpec)) exactRoundsCard

/-- THE TIED CARD OF 'amblelaw01.ExactZeros'. -/
def exactZerosCard : Claim7 := { stood := { row := exactZerosRow, standIns := [], harness := (true, "4dde45f3aca3f39908dfadba38df44ace8972f1aa340d7aa5b2c52cfca2db2a9"), looks := false }, kinds := [], alts := [], laidByText := true, laidKinds := [.data, .data, .data], laidTests := true, laidLooks := .later }
def ExactZerosCardSaid : Prop := Claim7.holds Tryz.pinned (.plain (OpenSpec.ofChange exactZerosSpec)) exactZerosCard

/-- THE TIED CARD OF 'amblelaw01.ExactTurns'. -/
def exactTurnsCard : Claim7 := { stood := { row := exactTurnsRow, standIns := [], harness := (true, "4dde45f3aca3f39908dfadba38df44ace8972f1aa340d7aa5b2c52cfca2db2a9"), looks := false }, kinds := [], alts := [], laidByText := true, laidKinds := [.data, .data, .data], laidTests := true, laidLooks := .later }
def ExactTurnsCardSaid : Prop := Claim7.holds Tryz.pinned (.plain (OpenSpec.ofChange exactTurnsSpec)) exactTurnsCard

/-- THE SECOND FORM's CARD OF 'amblelaw01.ExactReads'. -/
def exactReadsUptoCard : Claim7 := { stood := { row := exactReadsUptoRow, standIns := [], harness := (true, "4dde45f3aca3f39908dfadba38df44ace8972f1aa340d7aa5b2c52cfca2db2a9"), looks := false }, kinds := [], alts := [], laidByText := true, laidKinds := [.data, .data, .data], laidTests := true, laidLooks := .later }
def ExactReadsUptoCardSaid : Prop := Claim7.holds Tryz.pinned (.plain (OpenSpec.upto exactReadsSpec)) exactReadsUptoCard

/-- THE SECOND FORM's CARD OF 'amblelaw01.ExactOps'. -/
def exactOpsUptoCard : Claim7 := { stood := { row := exactOpsUptoRow, standIns := [], harness := (true, "4dde45f3aca3f39908dfadba38df44ace8972f1aa340d7aa5b2c52cfca2db2a9"), looks := false }, kinds := [], alts := [], laidByText := true, laidKinds := [.data, .data, .data], laidTests := true, laidLooks := .later }
def ExactOpsUptoCardSaid : Prop := Claim7.holds Tryz.pinned (.plain (OpenSpec.upto exactOpsSpec)) exactOpsUptoCard

/-- THE SECOND FORM's CARD OF 'amblelaw01.ExactParts'. -/
def exactPartsUptoCard : Claim7 := { stood := { row := exactPartsUptoRow, standIns := [], harness := (true, "4dde45f3aca3f39908dfadba38df44ace8972f1aa340d7aa5b2c52cfca2db2a9"), looks := false }, kinds := [], alts := [], laidByText := true, laidKinds := [.data, .data, .data], laidTests := true, laidLooks := .later }
def ExactPartsUptoCardSaid : Prop := Claim7.holds Tryz.pinned (.plain (OpenSpec.upto exactPartsSpec)) exactPartsUptoCard

/-- THE SECOND FORM's CARD OF 'amblelaw01.ExactNears'. -/
def exactNearsUptoCard : Claim7 := { stood := { row := exactNearsUptoRow, standIns := [], harness := (true, "4dde45f3aca3f39908dfadba38df44ace8972f1aa340d7aa5b2c52cfca2db2a9"), looks := false }, kinds := [], alts := [], laidByText := true, laidKinds := [.data, .data, .data], laidTests := true, laidLooks := .later }
def ExactNearsUptoCardSaid : Prop := Claim7.holds Tryz.pinned (.plain (OpenSpec.upto exactNearsSpec)) exactNearsUptoCard

/-- THE SECOND FORM's CARD OF 'amblelaw01.ExactFolds'. -/
def exactFoldsUptoCard : Claim7 := { stood := { row := exactFoldsUptoRow, standIns := [], harness := (true, "4dde45f3aca3f39908dfadba38df44ace8972f1aa340d7aa5b2c52cfca2db2a9"), looks := false }, kinds := [], alts := [], laidByText := true, laidKinds := [.data, .data, .data], laidTests := true, laidLooks := .later }
def ExactFoldsUptoCardSaid : Prop := Claim7.holds Tryz.pinned (.plain (OpenSpec.upto exactFoldsSpec)) exactFoldsUptoCard

/-- THE SECOND FORM's CARD OF 'amblelaw01.ExactPoints'. -/
def exactPointsUptoCard : Claim7 := { stood := { row := exactPointsUptoRow, standIns := [], harness := (true, "4dde45f3aca3f39908dfadba38df44ace8972f1aa340d7aa5b2c52cfca2db2a9"), looks := false }, kinds := [], alts := [], laidByText := true, laidKinds := [.data, .data, .data], laidTests := true, laidLooks := .later }
def ExactPointsUptoCardSaid : Prop := Claim7.holds Tryz.pinned (.plain (OpenSpec.upto exactPointsSpec)) exactPointsUptoCard

/-- THE SECOND FORM's CARD OF 'amblelaw01.ExactNames'. -/
def exactNamesUptoCard : Claim7 := { stood := { row := exactNamesUptoRow, standIns := [], harness := (true, "4dde45f3aca3f39908dfadba38df44ace8972f1aa340d7aa5b2c52cfca2db2a9"), looks := false }, kinds := [], alts := [], laidByText := true, laidKinds := [.data, .data, .data], laidTests := true, laidLooks := .later }
def ExactNamesUptoCardSaid : Prop := Claim7.holds Tryz.pinned (.plain (OpenSpec.upto exactNamesSpec)) exactNamesUptoCard

/-- THE SECOND FORM's CARD OF 'amblelaw01.ExactField'. -/
def exactFieldUptoCard : Claim7 := { stood := { row := exactFieldUptoRow, standIns := [], harness := (true, "4dde45f3aca3f39908dfadba38df44ace8972f1aa340d7aa5b2c52cfca2db2a9"), looks := false }, kinds := [], alts := [], laidByText := true, laidKinds := [.data, .data, .data], laidTests := true, laidLooks := .later }
def ExactFieldUptoCardSaid : Prop := Claim7.holds Tryz.pinned (.plain (OpenSpec.upto exactFieldSpec)) exactFieldUptoCard

/-- THE SECOND FORM's CARD OF 'amblelaw01.ExactTexts'. -/
def exactTextsUptoCard : Claim7 := { stood := { row := exactTextsUptoRow, standIns := [], harness := (true, "4dde45f3aca3f39908dfadba38df44ace8972f1aa340d7aa5b2c52cfca2db2a9"), looks := false }, kinds := [], alts := [], laidByText := true, laidKinds := [.data, .data, .data], laidTests := true, laidLooks := .later }
def ExactTextsUptoCardSaid : Prop := Claim7.holds Tryz.pinned (.plain (OpenSpec.upto exactTextsSpec)) exactTextsUptoCard

/-- THE SECOND FORM's CARD OF 'amblelaw01.ExactRounds'. -/
def exactRoundsUptoCard : Claim7 := { stood := { row := exactRoundsUptoRow, standIns := [], harness := (true, "4dde45f3aca3f39908dfadba38df44ace8972f1aa340d7aa5b2c52cfca2db2a9"), looks := false }, kinds := [], alts := [], laidByText := true, laidKinds := [.data, .data, .data], laidTests := true, laidLooks := .later }
def ExactRoundsUptoCardSaid : Prop := Claim7.holds Tryz.pinned (.plain (OpenSpec.upto exactRoundsSpec)) exactRoundsUptoCard

/-- THE SECOND FORM's CARD OF 'amblelaw01.ExactZeros'. -/
def exactZerosUptoCard : Claim7 := { stood := { row := exactZerosUptoRow, standIns := [], harness := (true, "4dde45f3aca3f39908dfadba38df44ace8972f1aa340d7aa5b2c52cfca2db2a9"), looks := false }, kinds := [], alts := [], laidByText := true, laidKinds := [.data, .data, .data], laidTests := true, laidLooks := .later }
def ExactZerosUptoCardSaid : Prop := Claim7.holds Tryz.pinned (.plain (OpenSpec.upto exactZerosSpec)) exactZerosUptoCard

/-- THE SECOND FORM's CARD OF 'amblelaw01.ExactTurns'. -/
def exactTurnsUptoCard : Claim7 := { stood := { row := exactTurnsUptoRow, standIns := [], harness := (true, "4dde45f3aca3f39908dfadba38df44ace8972f1aa340d7aa5b2c52cfca2db2a9"), looks := false }, kinds := [], alts := [], laidByText := true, laidKinds := [.data, .data, .data], laidTests := true, laidLooks := .later }
def ExactTurnsUptoCardSaid : Prop := Claim7.holds Tryz.pinned (.plain (OpenSpec.upto exactTurnsSpec)) exactTurnsUptoCard
end Rows
end Go.Proofs.YtcglmmbgoonjnaaGreatDoor
