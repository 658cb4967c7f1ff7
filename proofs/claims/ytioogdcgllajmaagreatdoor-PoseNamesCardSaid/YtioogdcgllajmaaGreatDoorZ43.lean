/- What the proof rests on, part 43. -/
import Derived.Test.YtioogdcgllajmaaGreatDoorZ39
import Derived.Test.YtioogdcgllajmaaGreatDoorZ40
import Derived.Test.YtioogdcgllajmaaGreatDoorZ41
import Derived.Test.YtioogdcgllajmaaGreatDoorZ42
namespace Go.Proofs.YtioogdcgllajmaaGreatDoor
set_option maxRecDepth 100000
set_option maxHeartbeats 80000000
namespace Rx.Ry
open Go.RowKit
def pNm:List (Con SM):=pAwk :: pGrd :: wq
theorem pNm_ok:∀ c∈pNm,c.Ok Tryz.prog SM EV:=cons_ok pAwk_ok (cons_ok pGrd_ok wq_ok)
theorem pose_run (W:World) (hE:Go.Proofs.YtioogdcgllajmaaGreatDoor.Env W):Calls Tryz.prog 4 #[] W fun e W'=>e=.returned (.bool true)∧Below W.heap.size W W':=
 run_callsF (fuel:=400) (d:=30) (args:=[]) (res:=.e (.s (.bl true))) pNm_ok (orH hAp1_ok hAp2_ok) (by kernel_rfl) rfl (fun _=>default) W hE
end Rx.Ry
end Go.Proofs.YtioogdcgllajmaaGreatDoor
