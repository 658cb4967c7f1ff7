/-
  DERIVED. GIVEN WITH THE SEED: THE CARDS: each row of YthalajpklaodkaaGreatDoorRows.lean that lists a variable, with what it lists TIED to the program's text (the seventh form; the later family's looks); each row that meets fmt, with fmt's text TOLD by the authors' own Lean function (tested against real Go, not proved from fmt's source: count such statements apart). THE CARD IS WHAT COUNTS. Prove the row's statement (the work); the ties are given (YthalajpklaodkaaGreatDoorTie.lean); close each card by the builder's one call (the guide's Derived/Test/ToyasCard.lean, 'card_holds'). Laid BY PROGRAM, IN A SANDBOX (cutbox-door.mjs). By AI agents, Wed Nov 11 2026. No macro, syntax, notation, axiom, sorry.
-/
import Derived.Test.YthalajpklaodkaaGreatDoorRows
import GoSem.ClaimSeven
namespace Go.Proofs.YthalajpklaodkaaGreatDoor
namespace Rows

/-- THE TIED CARD OF 'amblelaw01.ExactOps'. -/
def exactOpsCard : Claim7 := { stood := { row := exactOpsRow, standIns := [], harness := (true, "a7bbac2978936fe2f6bcf834dc43fb1afde782f7594bc8bd3461a113f622bbb8"), looks := false }, kinds := [], alts := [], laidByText := true, laidKinds := [.data, .data, .data], laidTests := true, laidLooks := .later }
def ExactOpsCardSaid : Prop := Claim7.holds Tryz.pinned (.plain (OpenSpec.ofChange exactOpsSpec)) exactOpsCard

/-- THE TIED CARD OF 'amblelaw01.ExactParts'. -/
def exactPartsCard : Claim7 := { stood := { row := exactPartsRow, standIns := [], harness := (true, "a7bbac2978936fe2f6bcf834dc43fb1afde782f7594bc8bd3461a113f622bbb8"), looks := false }, kinds := [], alts := [], laidByText := true, laidKinds := [.data, .data, .data], laidTests := true, laidLooks := .later }
def ExactPartsCardSaid : Prop := Claim7.holds Tryz.pinned (.plain (OpenSpec.ofChange exactPartsSpec)) exactPartsCard

/-- THE TIED CARD OF 'amblelaw01.ExactNears'. -/
def exactNearsCard : Claim7 := { stood := { row := exactNearsRow, standIns := [], harness := (true, "a7bbac2978936fe2f6bcf834dc43fb1afde782f7594bc8bd3461a113f622bbb8"), looks := false }, kinds := [], alts := [], laidByText := true, laidKinds := [.data, .data, .data], laidTests := true, laidLooks := .later }
def ExactNearsCardSaid : Prop := Claim7.holds Tryz.pinned (.plain (OpenSpec.ofChange exactNearsSpec)) exactNearsCard

/-- THE TIED CARD OF 'amblelaw01.ExactPoints'. -/
def exactPointsCard : Claim7 := { stood := { row := exactPointsRow, standIns := [], harness := (true, "a7bbac2978936fe2f6bcf834dc43fb1afde782f7594bc8bd3461a113f622bbb8"), looks := false }, kinds := [], alts := [], laidByText := true, laidKinds := [.data, .data, .data], laidTests := true, laidLooks := .later }
def ExactPointsCardSaid : Prop := Claim7.holds Tryz.pinned (.plain (OpenSpec.ofChange exactPointsSpec)) exactPointsCard

/-- THE TIED CARD OF 'amblelaw01.ExactQuadratics'. -/
def exactQuadraticsCard : Claim7 := { stood := { row := exactQuadraticsRow, standIns := [], harness := (true, "a7bbac2978936fe2f6bcf834dc43fb1afde782f7594bc8bd3461a113f622bbb8"), looks := false }, kinds := [], alts := [], laidByText := true, laidKinds := [.data, .data, .data], laidTests := true, laidLooks := .later }
def ExactQuadraticsCardSaid : Prop := Claim7.holds Tryz.pinned (.plain (OpenSpec.ofChange exactQuadraticsSpec)) exactQuadraticsCard

/-- THE TIED CARD OF 'amblelaw01.ExactRounds'. -/
def exactRoundsCard : Claim7 := { stood := { row := exactRoundsRow, standIns := [], harness := (true, "a7bbac2978936fe2f6bcf834dc43fb1afde782f7594bc8bd3461a113f622bbb8"), looks := false }, kinds := [], alts := [], laidByText := true, laidKinds := [.data, .data, .data], laidTests := true, laidLooks := .later }
def ExactRoundsCardSaid : Prop := Claim7.holds Tryz.pinned (.plain (OpenSpec.ofChange exactRoundsSpec)) exactRoundsCard

/-- THE TIED CARD OF 'amblelaw01.ExactZeros'. -/
def exactZerosCard : Claim7 := { stood := { row := exactZerosRow, standIns := [], harness := (true, "a7bbac2978936fe2f6bcf834dc43fb1afde782f7594bc8bd3461a113f622bbb8"), looks := false }, kinds := [], alts := [], laidByText := true, laidKinds := [.data, .data, .data], laidTests := true, laidLooks := .later }
def ExactZerosCardSaid : Prop := Claim7.holds Tryz.pinned (.plain (OpenSpec.ofChange exactZerosSpec)) exactZerosCard

/-- THE SECOND FORM's CARD OF 'amblelaw01.ExactOps'. -/
def exactOpsUptoCard : Claim7 := { stood := { row := exactOpsUptoRow, standIns := [], harness := (true, "a7bbac2978936fe2f6bcf834dc43fb1afde782f7594bc8bd3461a113f622bbb8"), looks := false }, kinds := [], alts := [], laidByText := true, laidKinds := [.data, .data, .data], laidTests := true, laidLooks := .later }
def ExactOpsUptoCardSaid : Prop := Claim7.holds Tryz.pinned (.plain (OpenSpec.upto exactOpsSpec)) exactOpsUptoCard

/-- THE SECOND FORM's CARD OF 'amblelaw01.ExactParts'. -/
def exactPartsUptoCard : Claim7 := { stood := { row := exactPartsUptoRow, standIns := [], harness := (true, "a7bbac2978936fe2f6bcf834dc43fb1afde782f7594bc8bd3461a113f622bbb8"), looks := false }, kinds := [], alts := [], laidByText := true, laidKinds := [.data, .data, .data], laidTests := true, laidLooks := .later }
def ExactPartsUptoCardSaid : Prop := Claim7.holds Tryz.pinned (.plain (OpenSpec.upto exactPartsSpec)) exactPartsUptoCard

/-- THE SECOND FORM's CARD OF 'amblelaw01.ExactNears'. -/
def exactNearsUptoCard : Claim7 := { stood := { row := exactNearsUptoRow, standIns := [], harness := (true, "a7bbac2978936fe2f6bcf834dc43fb1afde782f7594bc8bd3461a113f622bbb8"), looks := false }, kinds := [], alts := [], laidByText := true, laidKinds := [.data, .data, .data], laidTests := true, laidLooks := .later }
def ExactNearsUptoCardSaid : Prop := Claim7.holds Tryz.pinned (.plain (OpenSpec.upto exactNearsSpec)) exactNearsUptoCard

/-- THE SECOND FORM's CARD OF 'amblelaw01.ExactPoints'. -/
def exactPointsUptoCard : Claim7 := { stood := { row := exactPointsUptoRow, standIns := [], harness := (true, "a7bbac2978936fe2f6bcf834dc43fb1afde782f7594bc8bd3461a113f622bbb8"), looks := false }, kinds := [], alts := [], laidByText := true, laidKinds := [.data, .data, .data], laidTests := true, laidLooks := .later }
def ExactPointsUptoCardSaid : Prop := Claim7.holds Tryz.pinned (.plain (OpenSpec.upto exactPointsSpec)) exactPointsUptoCard

/-- THE SECOND FORM's CARD OF 'amblelaw01.ExactQuadratics'. -/
def exactQuadraticsUptoCard : Claim7 := { stood := { row := exactQuadraticsUptoRow, standIns := [], harness := (true, "a7bbac2978936fe2f6bcf834dc43fb1afde782f7594bc8bd3461a113f622bbb8"), looks := false }, kinds := [], alts := [], laidByText := true, laidKinds := [.data, .data, .data], laidTests := true, laidLooks := .later }
def ExactQuadraticsUptoCardSaid : Prop := Claim7.holds Tryz.pinned (.plain (OpenSpec.upto exactQuadraticsSpec)) exactQuadraticsUptoCard

/-- THE SECOND FORM's CARD OF 'amblelaw01.ExactRounds'. -/
def exactRoundsUptoCard : Claim7 := { stood := { row := exactRoundsUptoRow, standIns := [], harness := (true, "a7bbac2978936fe2f6bcf834dc43fb1afde782f7594bc8bd3461a113f622bbb8"), looks := false }, kinds := [], alts := [], laidByText := true, laidKinds := [.data, .data, .data], laidTests := true, laidLooks := .later }
def ExactRoundsUptoCardSaid : Prop := Claim7.holds Tryz.pinned (.plain (OpenSpec.upto exactRoundsSpec)) exactRoundsUptoCard

/-- THE SECOND FORM's CARD OF 'amblelaw01.ExactZeros'. -/
def exactZerosUptoCard : Claim7 := { stood := { row := exactZerosUptoRow, standIns := [], harness := (true, "a7bbac2978936fe2f6bcf834dc43fb1afde782f7594bc8bd3461a113f622bbb8"), looks := false }, kinds := [], alts := [], laidByText := true, laidKinds := [.data, .data, .data], laidTests := true, laidLooks := .later }
def ExactZerosUptoCardSaid : Prop := Claim7.holds Tryz.pinned (.plain (OpenSpec.upto exactZerosSpec)) exactZerosUptoCard
end Rows
end Go.Proofs.YthalajpklaodkaaGreatDoor
