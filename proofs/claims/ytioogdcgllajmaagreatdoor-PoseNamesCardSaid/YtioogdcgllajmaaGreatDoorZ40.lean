/- What the proof rests on, part 40. -/
import Derived.Test.YtioogdcgllajmaaGreatDoorZ37
import Derived.Test.YtioogdcgllajmaaGreatDoorZ38
namespace Go.Proofs.YtioogdcgllajmaaGreatDoor
set_option maxRecDepth 100000
set_option maxHeartbeats 80000000
namespace Rx.Ry
open Go.RowKit
def pGrd:Con SM:=conR 40 [] (.e (.s (.bl true)))
theorem pGrd_ok:pGrd.Ok Tryz.prog SM EV:=conRF_ok (fuel:=400) (d:=30) wq_ok noH_ok (by kernel_rfl) rfl
end Rx.Ry
end Go.Proofs.YtioogdcgllajmaaGreatDoor
