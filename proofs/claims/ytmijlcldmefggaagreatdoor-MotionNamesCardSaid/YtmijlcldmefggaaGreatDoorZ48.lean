/- What the proof rests on, part 48. -/
import Derived.Test.YtmijlcldmefggaaGreatDoorZ20
import Derived.Test.YtmijlcldmefggaaGreatDoorTie
import Derived.Test.YtmijlcldmefggaaGreatDoorCards
namespace Go.Proofs.YtmijlcldmefggaaGreatDoor
set_option maxRecDepth 100000
set_option maxHeartbeats 80000000
section
open Go.ChangeShapes Go.WideShapes Go.ChangeAt Go.RowKit Go.Joins
theorem moFact2:(laidOutB Tryz.prog)=true:=by kernel_rfl
theorem moFact3:(mapsRowed Tryz.prog)=true:=by kernel_rfl
theorem moFact23:((Rows.motionNamesRow.plainKeys == Tryz.prog.plainKeys))=true:=by kernel_rfl
theorem moFact25:(Tryz.prog.stopsHeard)=true:=by kernel_rfl
theorem moFact26:(Tryz.prog.mayEnter)=true:=by kernel_rfl
theorem moFact27:((Rows.motionNamesRow.lifted == Tryz.prog.liftsFinal))=true:=by kernel_rfl
end
end Go.Proofs.YtmijlcldmefggaaGreatDoor
