/-
  DERIVED. GIVEN WITH THE SEED: THE CARDS: each row of YtmijlcldmefggaaGreatDoorRows.lean that lists a variable, with what it lists TIED to the program's text (the seventh form; the later family's looks); each row that meets fmt, with fmt's text TOLD by the authors' own Lean function (tested against real Go, not proved from fmt's source: count such statements apart). THE CARD IS WHAT COUNTS. Prove the row's statement (the work); the ties are given (YtmijlcldmefggaaGreatDoorTie.lean); close each card by the builder's one call (the guide's Derived/Test/ToyasCard.lean, 'card_holds'). Laid BY PROGRAM, IN A SANDBOX (cutbox-door.mjs). By AI agents, Wed Nov 11 2026. No macro, syntax, notation, axiom, sorry.
-/
import Derived.Test.YtmijlcldmefggaaGreatDoorRows
import GoSem.ClaimSeven
namespace Go.Proofs.YtmijlcldmefggaaGreatDoor
namespace Rows

/-- THE TIED CARD OF 'amblelaw01.ExactOps'. -/
def exactOpsCard : Claim7 := { stood := { row := exactOpsRow, standIns := [], harness := (true, "a9a3ba4d2547f63b6b06c01938e224b0adb9bc39a07674682243f9a6491c462d"), looks := false }, kinds := [], alts := [], laidByText := true, laidKinds := [.data, .data, .data], laidTests := true, laidLooks := .later }
def ExactOpsCardSaid : Prop := Claim7.holds Tryz.pinned (.plain (OpenSpec.ofChange exactOpsSpec)) exactOpsCard

/-- THE TIED CARD OF 'amblelaw06.MotionNames'. -/
def motionNamesCard : Claim7 := { stood := { row := motionNamesRow, standIns := [], harness := (true, "a9a3ba4d2547f63b6b06c01938e224b0adb9bc39a07674682243f9a6491c462d"), looks := false }, kinds := [], alts := [], laidByText := true, laidKinds := [.data, .data, .data], laidTests := true, laidLooks := .later }
def MotionNamesCardSaid : Prop := Claim7.holds Tryz.pinned (.plain (OpenSpec.ofChange motionNamesSpec)) motionNamesCard

/-- THE SECOND FORM's CARD OF 'amblelaw01.ExactOps'. -/
def exactOpsUptoCard : Claim7 := { stood := { row := exactOpsUptoRow, standIns := [], harness := (true, "a9a3ba4d2547f63b6b06c01938e224b0adb9bc39a07674682243f9a6491c462d"), looks := false }, kinds := [], alts := [], laidByText := true, laidKinds := [.data, .data, .data], laidTests := true, laidLooks := .later }
def ExactOpsUptoCardSaid : Prop := Claim7.holds Tryz.pinned (.plain (OpenSpec.upto exactOpsSpec)) exactOpsUptoCard

/-- THE SECOND FORM's CARD OF 'amblelaw06.MotionNames'. -/
def motionNamesUptoCard : Claim7 := { stood := { row := motionNamesUptoRow, standIns := [], harness := (true, "a9a3ba4d2547f63b6b06c01938e224b0adb9bc39a07674682243f9a6491c462d"), looks := false }, kinds := [], alts := [], laidByText := true, laidKinds := [.data, .data, .data], laidTests := true, laidLooks := .later }
def MotionNamesUptoCardSaid : Prop := Claim7.holds Tryz.pinned (.plain (OpenSpec.upto motionNamesSpec)) motionNamesUptoCard
end Rows
end Go.Proofs.YtmijlcldmefggaaGreatDoor
