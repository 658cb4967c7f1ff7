/- What the proof rests on, part 33. -/
import Derived.Test.YteeelpcgbenjjaaGreatDoorP30
namespace Go.Proofs.YteeelpcgbenjjaaGreatDoor
set_option maxRecDepth 100000
set_option maxHeartbeats 80000000
namespace Rx.Ry
open Go.RowKit
def vSrd:Con SM:=conR 37 [] (.e (.s (.bl true)))
theorem vSrd_ok:vSrd.Ok Tryz.prog SM EV:=conR_ok (fuel:=400) (d:=20) kq_ok (by kernel_rfl) rfl
end Rx.Ry
end Go.Proofs.YteeelpcgbenjjaaGreatDoor
