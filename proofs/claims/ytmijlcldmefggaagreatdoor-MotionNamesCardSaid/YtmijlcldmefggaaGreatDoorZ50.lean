/- What the proof rests on, part 50. -/
import Derived.Test.YtmijlcldmefggaaGreatDoorZ20
import Derived.Test.YtmijlcldmefggaaGreatDoorTie
import Derived.Test.YtmijlcldmefggaaGreatDoorCards
import Derived.Test.YtmijlcldmefggaaGreatDoorZ48
import Derived.Test.YtmijlcldmefggaaGreatDoorZ49
namespace Go.Proofs.YtmijlcldmefggaaGreatDoor
set_option maxRecDepth 100000
set_option maxHeartbeats 80000000
section
open Go.ChangeShapes Go.WideShapes Go.ChangeAt Go.RowKit Go.Joins
theorem moFact12:((Rows.motionNamesRow.recurses == Tryz.prog.recurses 4))=true:=by kernel_rfl
end
section
open Go.ChangeShapes Go.WideShapes Go.ChangeAt Go.RowKit Go.Joins
theorem moFact13:((Rows.motionNamesRow.named == Tryz.prog.varsNamed 4))=true:=by kernel_rfl
end
section
open Go.ChangeShapes Go.WideShapes Go.ChangeAt Go.RowKit Go.Joins
theorem andT {a b:Bool} (ha:a=true) (hb:b=true):(a && b)=true:=by rw [ha,hb];rfl
theorem motionNames_facts:joinedFacts Tryz.prog 4 Tryz.f4 Rows.motionNamesSpec Rows.motionNamesRow=true:=by
 unfold joinedFacts
 exact (andT (andT (andT (andT (andT (andT (andT (andT (andT (andT (andT (andT (andT (andT (andT (andT (andT (andT (andT (andT (andT (andT (andT (andT (andT (andT (andT (andT (andT (andT (andT (by kernel_rfl) moFact2) moFact3) (by kernel_rfl)) (by kernel_rfl)) (by kernel_rfl)) (by kernel_rfl)) (by kernel_rfl)) (by kernel_rfl)) moFact10) moFact11) moFact12) moFact13) (by kernel_rfl)) (by kernel_rfl)) (by kernel_rfl)) (by kernel_rfl)) (by kernel_rfl)) (by kernel_rfl)) (by kernel_rfl)) (by kernel_rfl)) (by kernel_rfl)) moFact23) (by kernel_rfl)) moFact25) moFact26) moFact27) (by kernel_rfl)) (by kernel_rfl)) (by kernel_rfl)) (by kernel_rfl)) (by kernel_rfl))
end
end Go.Proofs.YtmijlcldmefggaaGreatDoor
