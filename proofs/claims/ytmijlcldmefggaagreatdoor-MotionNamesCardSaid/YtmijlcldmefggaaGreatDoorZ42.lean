/- What the proof rests on, part 42. -/
import Derived.Test.YtmijlcldmefggaaGreatDoorZ39
namespace Go.Proofs.YtmijlcldmefggaaGreatDoor
set_option maxRecDepth 100000
set_option maxHeartbeats 80000000
namespace Rx.Ry
open Go.RowKit
def hSolve3:HCon SM where
 fn:=189
 args:=[.e (.a ([.sl 583 0 2 0,.sl 562 0 2 0,.sl 568 0 1 0] ++ nn 1 2))]
 n0:=594
 its:=[(583,.blk 72 [.sl 570 0 2 0,.sl 577 0 2 0] none [0]),
 (570,.blk 32 (nn 200 0 ++ nn 0 0) (some 2) p5),
 (577,.blk 32 (nn 0 0 ++ nn 600 0) (some 2) p5),
 (562,.blk 32 (nm 80 0 ++ nn 20 0) (some 2) p5),
 (568,.blk 32 (nn 0 0) none p5)]
 res:=.t [.a [.sl 1875 0 1 0,.sl 3315 0 2 0,.sl 3331 0 2 0],.s (.it .i64 0)]
 n1:=3332
 new:=[(1875,.blk 5 [.it .u8 2] none [0]),
 (3315,.blk 32 (nn 3 5 ++ nn 0 0) (some 2) p5),
 (3331,.blk 32 (nn 40 0 ++ nn 20 0) (some 2) p5)]
theorem hSolve3_ok:HsOk (appH hSolve3):=hconF_ok (cons:=wq) wq_ok noH_ok (fuel:=400) (d:=40) (by kernel_rfl)
end Rx.Ry
end Go.Proofs.YtmijlcldmefggaaGreatDoor
