/- What the proof rests on, part 36: The one example of Near that the statements run. -/
import Derived.Test.YtppjkikaaonbkaaGreatDoorP35
import Derived.Test.YtppjkikaaonbkaaGreatDoorP31
namespace Go.Proofs.YtppjkikaaonbkaaGreatDoor
instance fitsDec (k : Nat) (r : Rat) : Decidable (Fits k r) := inferInstanceAs (Decidable (_ ∧ _))
theorem near_hyp : NearHyp (mkRat 355 113) 7 2 1 0 (mkRat 22 7) 3 where
 m1 := by decide
 m2 := by decide
 hk := by decide
 den := by decide +kernel
 fd := by decide +kernel
 fm := by decide +kernel
 fa := by decide +kernel
 step := fun i hi => by
  rcases (show i = 0 ∨ i = 1 ∨ i = 2 by omega) with rfl | rfl | rfl
  ·exact ⟨by decide +kernel, by decide +kernel, by decide +kernel, by decide +kernel, by decide +kernel, by decide +kernel, by decide +kernel, by decide +kernel, by decide +kernel, by decide +kernel, by decide +kernel, by decide +kernel, by decide +kernel⟩
  ·exact ⟨by decide +kernel, by decide +kernel, by decide +kernel, by decide +kernel, by decide +kernel, by decide +kernel, by decide +kernel, by decide +kernel, by decide +kernel, by decide +kernel, by decide +kernel, by decide +kernel, by decide +kernel⟩
  ·exact ⟨by decide +kernel, by decide +kernel, by decide +kernel, by decide +kernel, by decide +kernel, by decide +kernel, by decide +kernel, by decide +kernel, by decide +kernel, by decide +kernel, by decide +kernel, by decide +kernel, by decide +kernel⟩
 q0 := by decide +kernel
 d1 := by decide +kernel
 d2 := by decide +kernel
 hK := by decide +kernel
 fK := by decide +kernel
 kp := by decide +kernel
 kq := by decide +kernel
 sp := by decide +kernel
 sq := by decide +kernel
 s0 := by decide +kernel
 hX := by decide +kernel
 hY := by decide +kernel
 fX := by decide +kernel
 fY := by decide +kernel
 fXa := by decide +kernel
 fYa := by decide +kernel
 lt := by decide +kernel
theorem nearOK : NearOK := fun v w h hE => near_walk (mkRat 355 113) 7 2 1 0 (mkRat 22 7) 3 v w h hE.tz near_hyp
end Go.Proofs.YtppjkikaaonbkaaGreatDoor
