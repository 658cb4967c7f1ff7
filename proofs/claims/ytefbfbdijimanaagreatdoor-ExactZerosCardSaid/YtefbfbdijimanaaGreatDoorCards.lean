/-
  DERIVED. GIVEN WITH THE SEED: THE CARDS: each row of YtefbfbdijimanaaGreatDoorRows.lean that lists a variable, with what it lists TIED to the program's text (the seventh form; the later family's looks); each row that meets fmt, with fmt's text TOLD by the authors' own Lean function (tested against real Go, not proved from fmt's source: count such statements apart). THE CARD IS WHAT COUNTS. Prove the row's statement (the work); the ties are given (YtefbfbdijimanaaGreatDoorTie.lean); close each card by the builder's one call (the guide's Derived/Test/ToyasCard.lean, 'card_holds'). Laid BY PROGRAM, IN A SANDBOX (cutbox-door.mjs). By AI agents, Wed Nov 11 2026. No macro, syntax, notation, axiom, sorry.
-/
import Derived.Test.YtefbfbdijimanaaGreatDoorRows
import GoSem.ClaimSeven
namespace Go.Proofs.YtefbfbdijimanaaGreatDoor
namespace Rows

/-- THE TIED CARD OF 'amblelaw01.ExactOps'. -/
def exactOpsCard : Claim7 := { stood := { row := exactOpsRow, standIns := [], harness := (true, "ecc28849fd6501eb11c64e693e4102d7c952c92f26561a4471d08d38255bdbe2"), looks := false }, kinds := [], alts := [], laidByText := true, laidKinds := [.data, .data, .data], laidTests := true, laidLooks := .later }
def ExactOpsCardSaid : Prop := Claim7.holds Tryz.pinned (.plain (OpenSpec.ofChange exactOpsSpec)) exactOpsCard

/-- THE TIED CARD OF 'amblelaw01.ExactQuadratics'. -/
def exactQuadraticsCard : Claim7 := { stood := { row := exactQuadraticsRow, standIns := [], harness := (true, "ecc28849fd6501eb11c64e693e4102d7c952c92f26561a4471d08d38255bdbe2"), looks := false }, kinds := [], alts := [], laidByText := true, laidKinds := [.data, .data, .data], laidTests := true, laidLooks := .later }
def ExactQuadraticsCardSaid : Prop := Claim7.holds Tryz.pinned (.plain (OpenSpec.ofChange exactQuadraticsSpec)) exactQuadraticsCard

/-- THE TIED CARD OF 'amblelaw01.ExactPoints'. -/
def exactPointsCard : Claim7 := { stood := { row := exactPointsRow, standIns := [], harness := (true, "ecc28849fd6501eb11c64e693e4102d7c952c92f26561a4471d08d38255bdbe2"), looks := false }, kinds := [], alts := [], laidByText := true, laidKinds := [.data, .data, .data], laidTests := true, laidLooks := .later }
def ExactPointsCardSaid : Prop := Claim7.holds Tryz.pinned (.plain (OpenSpec.ofChange exactPointsSpec)) exactPointsCard

/-- THE TIED CARD OF 'amblelaw01.ExactZeros'. -/
def exactZerosCard : Claim7 := { stood := { row := exactZerosRow, standIns := [], harness := (true, "ecc28849fd6501eb11c64e693e4102d7c952c92f26561a4471d08d38255bdbe2"), looks := false }, kinds := [], alts := [], laidByText := true, laidKinds := [.data, .data, .data], laidTests := true, laidLooks := .later }
def ExactZerosCardSaid : Prop := Claim7.holds Tryz.pinned (.plain (OpenSpec.ofChange exactZerosSpec)) exactZerosCard

/-- THE SECOND FORM's CARD OF 'amblelaw01.ExactOps'. -/
def exactOpsUptoCard : Claim7 := { stood := { row := exactOpsUptoRow, standIns := [], harness := (true, "ecc28849fd6501eb11c64e693e4102d7c952c92f26561a4471d08d38255bdbe2"), looks := false }, kinds := [], alts := [], laidByText := true, laidKinds := [.data, .data, .data], laidTests := true, laidLooks := .later }
def ExactOpsUptoCardSaid : Prop := Claim7.holds Tryz.pinned (.plain (OpenSpec.upto exactOpsSpec)) exactOpsUptoCard

/-- THE SECOND FORM's CARD OF 'amblelaw01.ExactQuadratics'. -/
def exactQuadraticsUptoCard : Claim7 := { stood := { row := exactQuadraticsUptoRow, standIns := [], harness := (true, "ecc28849fd6501eb11c64e693e4102d7c952c92f26561a4471d08d38255bdbe2"), looks := false }, kinds := [], alts := [], laidByText := true, laidKinds := [.data, .data, .data], laidTests := true, laidLooks := .later }
def ExactQuadraticsUptoCardSaid : Prop := Claim7.holds Tryz.pinned (.plain (OpenSpec.upto exactQuadraticsSpec)) exactQuadraticsUptoCard

/-- THE SECOND FORM's CARD OF 'amblelaw01.ExactPoints'. -/
def exactPointsUptoCard : Claim7 := { stood := { row := exactPointsUptoRow, standIns := [], harness := (true, "ecc28849fd6501eb11c64e693e4102d7c952c92f26561a4471d08d38255bdbe2"), looks := false }, kinds := [], alts := [], laidByText := true, laidKinds := [.data, .data, .data], laidTests := true, laidLooks := .later }
def ExactPointsUptoCardSaid : Prop := Claim7.holds Tryz.pinned (.plain (OpenSpec.upto exactPointsSpec)) exactPointsUptoCard

/-- THE SECOND FORM's CARD OF 'amblelaw01.ExactZeros'. -/
def exactZerosUptoCard : Claim7 := { stood := { row := exactZerosUptoRow, standIns := [], harness := (true, "ecc28849fd6501eb11c64e693e4102d7c952c92f26561a4471d08d38255bdbe2"), looks := false }, kinds := [], alts := [], laidByText := true, laidKinds := [.data, .data, .data], laidTests := true, laidLooks := .later }
def ExactZerosUptoCardSaid : Prop := Claim7.holds Tryz.pinned (.plain (OpenSpec.upto exactZerosSpec)) exactZerosUptoCard
end Rows
end Go.Proofs.YtefbfbdijimanaaGreatDoor
