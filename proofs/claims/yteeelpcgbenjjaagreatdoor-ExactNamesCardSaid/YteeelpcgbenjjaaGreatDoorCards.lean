/-
  DERIVED. GIVEN WITH THE SEED: THE CARDS: each row of YteeelpcgbenjjaaGreatDoorRows.lean that lists a variable, with what it lists TIED to the program's text (the seventh form; the later family's looks); each row that meets fmt, with fmt's text TOLD by the authors' own Lean function (tested against real Go, not proved from fmt's source: count such statements apart). THE CARD IS WHAT COUNTS. Prove the row's statement (the work); the ties are given (YteeelpcgbenjjaaGreatDoorTie.lean); close each card by the builder's one call (the guide's Derived/Test/ToyasCard.lean, 'card_holds'). Laid BY PROGRAM, IN A SANDBOX (cutbox-door.mjs). By AI agents, Wed Nov 11 2026. No macro, syntax, notation, axiom, sorry.
-/
import Derived.Test.YteeelpcgbenjjaaGreatDoorRows
import GoSem.ClaimSeven
namespace Go.Proofs.YteeelpcgbenjjaaGreatDoor
namespace Rows

/-- THE TIED CARD OF 'amblelaw01.ExactOps'. -/
def exactOpsCard : Claim7 := { stood := { row := exactOpsRow, standIns := [], harness := (true, "177b6912df20b555ea986edd0ea8ce1f2ae7a7c795ebe62c697243daa94782a5"), looks := false }, kinds := [], alts := [], laidByText := true, laidKinds := [.data, .data, .data], laidTests := true, laidLooks := .later }
def ExactOpsCardSaid : Prop := Claim7.holds Tryz.pinned (.plain (OpenSpec.ofChange exactOpsSpec)) exactOpsCard

/-- THE TIED CARD OF 'amblelaw01.ExactNames'. -/
def exactNamesCard : Claim7 := { stood := { row := exactNamesRow, standIns := [], harness := (true, "177b6912df20b555ea986edd0ea8ce1f2ae7a7c795ebe62c697243daa94782a5"), looks := false }, kinds := [], alts := [], laidByText := true, laidKinds := [.data, .data, .data], laidTests := true, laidLooks := .later }
def ExactNamesCardSaid : Prop := Claim7.holds Tryz.pinned (.plain (OpenSpec.ofChange exactNamesSpec)) exactNamesCard

/-- THE TIED CARD OF 'amblelaw01.ExactField'. -/
def exactFieldCard : Claim7 := { stood := { row := exactFieldRow, standIns := [], harness := (true, "177b6912df20b555ea986edd0ea8ce1f2ae7a7c795ebe62c697243daa94782a5"), looks := false }, kinds := [], alts := [], laidByText := true, laidKinds := [.data, .data, .data], laidTests := true, laidLooks := .later }
def ExactFieldCardSaid : Prop := Claim7.holds Tryz.pinned (.plain (OpenSpec.ofChange exactFieldSpec)) exactFieldCard

/-- THE SECOND FORM's CARD OF 'amblelaw01.ExactOps'. -/
def exactOpsUptoCard : Claim7 := { stood := { row := exactOpsUptoRow, standIns := [], harness := (true, "177b6912df20b555ea986edd0ea8ce1f2ae7a7c795ebe62c697243daa94782a5"), looks := false }, kinds := [], alts := [], laidByText := true, laidKinds := [.data, .data, .data], laidTests := true, laidLooks := .later }
def ExactOpsUptoCardSaid : Prop := Claim7.holds Tryz.pinned (.plain (OpenSpec.upto exactOpsSpec)) exactOpsUptoCard

/-- THE SECOND FORM's CARD OF 'amblelaw01.ExactNames'. -/
def exactNamesUptoCard : Claim7 := { stood := { row := exactNamesUptoRow, standIns := [], harness := (true, "177b6912df20b555ea986edd0ea8ce1f2ae7a7c795ebe62c697243daa94782a5"), looks := false }, kinds := [], alts := [], laidByText := true, laidKinds := [.data, .data, .data], laidTests := true, laidLooks := .later }
def ExactNamesUptoCardSaid : Prop := Claim7.holds Tryz.pinned (.plain (OpenSpec.upto exactNamesSpec)) exactNamesUptoCard

/-- THE SECOND FORM's CARD OF 'amblelaw01.ExactField'. -/
def exactFieldUptoCard : Claim7 := { stood := { row := exactFieldUptoRow, standIns := [], harness := (true, "177b6912df20b555ea986edd0ea8ce1f2ae7a7c795ebe62c697243daa94782a5"), looks := false }, kinds := [], alts := [], laidByText := true, laidKinds := [.data, .data, .data], laidTests := true, laidLooks := .later }
def ExactFieldUptoCardSaid : Prop := Claim7.holds Tryz.pinned (.plain (OpenSpec.upto exactFieldSpec)) exactFieldUptoCard
end Rows
end Go.Proofs.YteeelpcgbenjjaaGreatDoor
