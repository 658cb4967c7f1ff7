/- What the proof rests on, part 41. -/
import Derived.Test.YtmijlcldmefggaaGreatDoorZ40
namespace Go.Proofs.YtmijlcldmefggaaGreatDoor
set_option maxRecDepth 100000
set_option maxHeartbeats 80000000
namespace Rx.Ry
open Go.RowKit
def mAwk:Con SM:=conR 36 [] (.e (.s (.bl true)))
theorem mAwk_ok:mAwk.Ok Tryz.prog SM EV:=conRF_ok (fuel:=400) (d:=40) wq_ok hSolve2_ok (by kernel_rfl) rfl
end Rx.Ry
end Go.Proofs.YtmijlcldmefggaaGreatDoor
