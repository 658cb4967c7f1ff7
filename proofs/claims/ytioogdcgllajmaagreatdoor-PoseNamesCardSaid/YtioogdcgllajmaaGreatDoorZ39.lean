/- What the proof rests on, part 39. -/
import Derived.Test.YtioogdcgllajmaaGreatDoorZ37
import Derived.Test.YtioogdcgllajmaaGreatDoorZ38
namespace Go.Proofs.YtioogdcgllajmaaGreatDoor
set_option maxRecDepth 100000
set_option maxHeartbeats 80000000
namespace Rx.Ry
open Go.RowKit
def pAwk:Con SM:=conR 33 [] (.e (.s (.bl true)))
theorem pAwk_ok:pAwk.Ok Tryz.prog SM EV:=conRF_ok (fuel:=400) (d:=30) wq_ok noH_ok (by kernel_rfl) rfl
end Rx.Ry
end Go.Proofs.YtioogdcgllajmaaGreatDoor
