/- What the proof rests on, part 49. -/
import Derived.Test.YtmijlcldmefggaaGreatDoorZ20
import Derived.Test.YtmijlcldmefggaaGreatDoorTie
import Derived.Test.YtmijlcldmefggaaGreatDoorCards
namespace Go.Proofs.YtmijlcldmefggaaGreatDoor
set_option maxRecDepth 100000
set_option maxHeartbeats 80000000
section
open Go.ChangeShapes Go.WideShapes Go.ChangeAt Go.RowKit Go.Joins
theorem moFact10:((Rows.motionNamesRow.inPlace == Tryz.prog.inPlace 4))=true:=by kernel_rfl
end
section
open Go.ChangeShapes Go.WideShapes Go.ChangeAt Go.RowKit Go.Joins
theorem moFact11:((Rows.motionNamesRow.unfollowed == Tryz.prog.unfollowed 4))=true:=by kernel_rfl
end
end Go.Proofs.YtmijlcldmefggaaGreatDoor
