/- What the proof rests on, part 51. -/
import Derived.Test.YtmijlcldmefggaaGreatDoorZ20
import Derived.Test.YtmijlcldmefggaaGreatDoorTie
import Derived.Test.YtmijlcldmefggaaGreatDoorCards
namespace Go.Proofs.YtmijlcldmefggaaGreatDoor
set_option maxRecDepth 100000
set_option maxHeartbeats 80000000
section
open Go.ChangeShapes Go.WideShapes Go.ChangeAt Go.RowKit Go.Joins
theorem mo_wf:Rows.motionNamesRow.wfByText (OpenSpec.ofChange Rows.motionNamesSpec)=true:=by kernel_rfl
theorem mo_named:Tryz.prog.funcNamed "amble/amblelaw06.MotionNames" = some 4:=by kernel_rfl
theorem mo_looks:false=Tryz.prog.looks []:=by kernel_rfl
theorem mo_goes:false=Rows.motionNamesRow.goesBy Tryz.prog:=by kernel_rfl
end
end Go.Proofs.YtmijlcldmefggaaGreatDoor
