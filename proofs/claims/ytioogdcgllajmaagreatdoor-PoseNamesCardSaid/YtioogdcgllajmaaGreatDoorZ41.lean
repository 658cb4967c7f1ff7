/- What the proof rests on, part 41. -/
import Derived.Test.YtioogdcgllajmaaGreatDoorZ37
import Derived.Test.YtioogdcgllajmaaGreatDoorZ38
namespace Go.Proofs.YtioogdcgllajmaaGreatDoor
set_option maxRecDepth 100000
set_option maxHeartbeats 80000000
namespace Rx.Ry
open Go.RowKit
def hAp1:HCon SM where
 fn:=38
 args:=[.e (.s (.sl 5 0 3 0)),.e (.s (.sl 6 0 2 0))]
 n0:=7
 its:=[(5,.blk 67 [.bl false,.it .u64 0,.nils,.it .u64 0,.nils,.bl false,.it .u64 0,.nils,.it .u64 0,.nils,.bl false,.it .u64 2,.nils,.it .u64 0,.nils,.bl false,.it .u64 0,.nils,.it .u64 0,.nils,.bl false,.it .u64 0,.nils,.it .u64 0,.nils,.bl false,.it .u64 2,.nils,.it .u64 0,.nils] (some 3) [0,1,0,1,0,0,1,0,1,0]),(6,.blk 67 [.bl false,.it .u64 1,.nils,.it .u64 0,.nils,.bl false,.it .u64 1,.nils,.it .u64 0,.nils,.bl false,.it .u64 3,.nils,.it .u64 0,.nils,.bl false,.it .u64 3,.nils,.it .u64 0,.nils] (some 2) [0,1,0,1,0,0,1,0,1,0])]
 res:=.t [.a [.bl true,.bl false,.it .u64 1,.nils,.it .u64 0,.nils,.bl false,.it .u64 1,.nils,.it .u64 0,.nils,.bl false,.it .u64 0,.nils,.it .u64 0,.nils,.bl false,.it .u64 0,.nils,.it .u64 0,.nils,.bl false,.it .u64 0,.nils,.it .u64 0,.nils,.sl 833 0 5 0],.s (.it .i64 0)]
 n1:=882
 new:=[]
theorem hAp1_ok:HsOk (appH hAp1):=hconF_ok (cons:=wq) wq_ok noH_ok (fuel:=400) (d:=30) (by kernel_rfl)
end Rx.Ry
end Go.Proofs.YtioogdcgllajmaaGreatDoor
