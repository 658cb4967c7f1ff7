/-
  DERIVED. GIVEN WITH THE SEED: THE CARDS: each row of YtioogdcgllajmaaGreatDoorRows.lean that lists a variable, with what it lists TIED to the program's text (the seventh form; the later family's looks); each row that meets fmt, with fmt's text TOLD by the authors' own Lean function (tested against real Go, not proved from fmt's source: count such statements apart). THE CARD IS WHAT COUNTS. Prove the row's statement (the work); the ties are given (YtioogdcgllajmaaGreatDoorTie.lean); close each card by the builder's one call (the guide's Derived/Test/ToyasCard.lean, 'card_holds'). Laid BY PROGRAM, IN A SANDBOX (cutbox-door.mjs). By AI agents, Wed Nov 11 2026. No macro, syntax, notation, axiom, sorry.
-/
import Derived.Test.YtioogdcgllajmaaGreatDoorRows
import GoSem.ClaimSeven
namespace Go.Proofs.YtioogdcgllajmaaGreatDoor
namespace Rows

/-- THE TIED CARD OF 'amblelaw01.ExactOps'. -/
def exactOpsCard : Claim7 := { stood := { row := exactOpsRow, standIns := [], harness := (true, "54ff79b43c5f847d44c5cdd977fddf5083e4a37d0074ec7ee0812c6b815b3976"), looks := false }, kinds := [], alts := [], laidByText := true, laidKinds := [.data, .data, .data], laidTests := true, laidLooks := .later }
def ExactOpsCardSaid : Prop := Claim7.holds Tryz.pinned (.plain (OpenSpec.ofChange exactOpsSpec)) exactOpsCard

/-- THE TIED CARD OF 'amblelaw04.PoseNames'. -/
def poseNamesCard : Claim7 := { stood := { row := poseNamesRow, standIns := [], harness := (true, "54ff79b43c5f847d44c5cdd977fddf5083e4a37d0074ec7ee0812c6b815b3976"), looks := false }, kinds := [], alts := [], laidByText := true, laidKinds := [.data, .data, .data], laidTests := true, laidLooks := .later }
def PoseNamesCardSaid : Prop := Claim7.holds Tryz.pinned (.plain (OpenSpec.ofChange poseNamesSpec)) poseNamesCard

/-- THE SECOND FORM's CARD OF 'amblelaw01.ExactOps'. -/
def exactOpsUptoCard : Claim7 := { stood := { row := exactOpsUptoRow, standIns := [], harness := (true, "54ff79b43c5f847d44c5cdd977fddf5083e4a37d0074ec7ee0812c6b815b3976"), looks := false }, kinds := [], alts := [], laidByText := true, laidKinds := [.data, .data, .data], laidTests := true, laidLooks := .later }
def ExactOpsUptoCardSaid : Prop := Claim7.holds Tryz.pinned (.plain (OpenSpec.upto exactOpsSpec)) exactOpsUptoCard

/-- THE SECOND FORM's CARD OF 'amblelaw04.PoseNames'. -/
def poseNamesUptoCard : Claim7 := { stood := { row := poseNamesUptoRow, standIns := [], harness := (true, "54ff79b43c5f847d44c5cdd977fddf5083e4a37d0074ec7ee0812c6b815b3976"), looks := false }, kinds := [], alts := [], laidByText := true, laidKinds := [.data, .data, .data], laidTests := true, laidLooks := .later }
def PoseNamesUptoCardSaid : Prop := Claim7.holds Tryz.pinned (.plain (OpenSpec.upto poseNamesSpec)) poseNamesUptoCard
end Rows
end Go.Proofs.YtioogdcgllajmaaGreatDoor
