/- What the proof rests on, part 40. -/
import Derived.Test.YtmijlcldmefggaaGreatDoorZ39
namespace Go.Proofs.YtmijlcldmefggaaGreatDoor
set_option maxRecDepth 100000
set_option maxHeartbeats 80000000
namespace Rx.Ry
open Go.RowKit
def hSolve2:HCon SM where
 fn:=189
 args:=[.e (.a ([.sl 1242 0 2 0,.sl 1221 0 2 0,.sl 1227 0 1 0] ++ nn 0 0))]
 n0:=1253
 its:=[(1242,.blk 72 [.sl 1229 0 2 0,.sl 1236 0 2 0] none [0]),
 (1229,.blk 32 (nn 200 0 ++ nn 0 0) (some 2) p5),
 (1236,.blk 32 (nn 0 0 ++ nn 600 0) (some 2) p5),
 (1221,.blk 32 (nm 80 0 ++ nn 20 0) (some 2) p5),
 (1227,.blk 32 (nn 0 0) none p5)]
 res:=.t [.a [.sl 2534 0 1 0,.sl 3974 0 2 0,.sl 3990 0 2 0],.s (.it .i64 0)]
 n1:=3991
 new:=[(2534,.blk 5 [.it .u8 2] none [0]),
 (3974,.blk 32 (nn 2 5 ++ nn 0 0) (some 2) p5),
 (3990,.blk 32 (nn 0 0 ++ nn 20 0) (some 2) p5)]
theorem hSolve2_ok:HsOk (appH hSolve2):=hconF_ok (cons:=wq) wq_ok noH_ok (fuel:=400) (d:=40) (by kernel_rfl)
end Rx.Ry
end Go.Proofs.YtmijlcldmefggaaGreatDoor
