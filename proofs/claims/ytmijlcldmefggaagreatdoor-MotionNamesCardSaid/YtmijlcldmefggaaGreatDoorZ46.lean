/- What the proof rests on, part 46. -/
import Derived.Test.YtmijlcldmefggaaGreatDoorZ41
import Derived.Test.YtmijlcldmefggaaGreatDoorZ43
import Derived.Test.YtmijlcldmefggaaGreatDoorZ44
import Derived.Test.YtmijlcldmefggaaGreatDoorZ45
namespace Go.Proofs.YtmijlcldmefggaaGreatDoor
set_option maxRecDepth 100000
set_option maxHeartbeats 80000000
namespace Rx.Ry
open Go.RowKit
def mCs:List (Con SM):=mAwk :: wq
theorem mCs_ok:∀ c∈mCs,c.Ok Tryz.prog SM EV:=cons_ok mAwk_ok wq_ok
theorem motion_run (W:World) (hE:Go.Proofs.YtmijlcldmefggaaGreatDoor.Env W):Calls Tryz.prog 4 #[] W fun e W'=>e=.returned (.bool true)∧Below W.heap.size W W':=
 run_callsF (fuel:=400) (d:=40) (args:=[]) (res:=.e (.s (.bl true))) mCs_ok (orH hStep3_ok (orH hStep4_ok (orH hStart5_ok (orH hStart6_ok hStep6_ok)))) (by kernel_rfl) rfl (fun _=>default) W hE
end Rx.Ry
end Go.Proofs.YtmijlcldmefggaaGreatDoor
