/- What the proof rests on, part 34. -/
import Derived.Test.YteeelpcgbenjjaaGreatDoorP31
import Derived.Test.YteeelpcgbenjjaaGreatDoorP32
import Derived.Test.YteeelpcgbenjjaaGreatDoorP33
namespace Go.Proofs.YteeelpcgbenjjaaGreatDoor
set_option maxRecDepth 100000
set_option maxHeartbeats 80000000
namespace Rx.Ry
open Go.RowKit
def vNm:List (Con SM):=vAwk :: vMat :: vSrd :: kq
theorem vNm_ok:∀ c∈vNm,c.Ok Tryz.prog SM EV:=cons_ok vAwk_ok (cons_ok vMat_ok (cons_ok vSrd_ok kq_ok))
theorem names_run (W:World) (hE:Go.Proofs.YteeelpcgbenjjaaGreatDoor.Env W):Calls Tryz.prog 4 #[] W fun e W'=>e=.returned (.bool true)∧Below W.heap.size W W':=
 run_calls (fuel:=400) (d:=20) (args:=[]) (res:=.e (.s (.bl true))) vNm_ok (by kernel_rfl) rfl (fun _=>default) W hE
end Rx.Ry
end Go.Proofs.YteeelpcgbenjjaaGreatDoor
