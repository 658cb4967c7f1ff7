/- What the proof rests on, part 44. -/
import Derived.Test.YtmijlcldmefggaaGreatDoorZ39
namespace Go.Proofs.YtmijlcldmefggaaGreatDoor
set_option maxRecDepth 100000
set_option maxHeartbeats 80000000
namespace Rx.Ry
open Go.RowKit
def hStart5:HCon SM where
 fn:=30
 args:=[.e (.a ([.st ⟨#[119,97,108,107,101,114]⟩,.sl 4353 0 3 0,.nils,.nils,.nils,.nils,.sl 23 0 2 0] ++ nn 0 0 ++ nn 1 10 ++ nn 0 0)),.e (.a (nn 0 0 ++ nn 4 0 ++ nn 0 0 ++ [.sl 4371 0 2 0])),.e (.s (.sl 4382 0 5 0))]
 n0:=4383
 its:=[(4353,.blk 97 ([.st ⟨#[116,114,117,110,107]⟩,.it .i64 (-1)] ++ nn 0 0 ++ nn 0 0 ++ nn 2 0 ++ nn 1 0 ++ nn 0 0 ++ nn 0 0 ++ nn 0 0 ++ nn 0 0 ++ [.nils,.st ⟨#[108,101,103]⟩,.it .i64 0] ++ nn 0 0 ++ nn 0 0 ++ nn 1 0 ++ nn 1 0 ++ nn 0 0 ++ nm 1 0 ++ nm 1 0 ++ nn 1 0 ++ [.nils,.st ⟨#[115,104,105,110]⟩,.it .i64 1] ++ nn 0 0 ++ nm 2 0 ++ nn 1 0 ++ nn 1 0 ++ nn 0 0 ++ nm 1 0 ++ nn 0 0 ++ nn 1 0 ++ [.nils]) (some 3) [0,2,0,1,0,1,0,0,1,0,1,0,0,1,0,1,0,0,1,0,1,0,0,1,0,1,0,0,1,0,1,0,0,1,0,1,0,0,1,0,1,0,0]),
 (23,.blk 78 (nm 10 0 ++ nn 0 0 ++ nn 10 0 ++ nn 0 0) (some 2) p10),
 (4371,.blk 32 (nn 0 0 ++ nn 0 0) (some 2) p5),
 (4382,.blk 32 (nn 0 0 ++ nn 0 0 ++ nn 0 0 ++ nn 1 0 ++ nn 0 0) none p5)]
 res:=.t [.a [.sl 4901 0 3 0,.sl 4903 0 3 0,.sl 5114 0 9 0,.sl 4531 0 0 0],.s (.it .i64 0)]
 n1:=5115
 new:=[(4901,.blk 78 (nn 0 0 ++ nn 4 0 ++ nn 0 0 ++ nn 3 0 ++ nn 0 0 ++ nn 1 0) none p10),
 (4903,.blk 126 (nn 1 0 ++ nn 0 0 ++ nn 1 0 ++ nn 0 0 ++ nn 1 0 ++ nn 0 0) none p10),
 (5114,.blk 32 (nn 0 0 ++ nn 0 0 ++ nn 0 0 ++ nn 1 0 ++ nn 0 0 ++ nn 1 0 ++ nn 3 0 ++ nn 0 0 ++ nn 1 0) none p5),
 (4531,.blk 32 [] (some 0) p5)]
theorem hStart5_ok:HsOk (appH hStart5):=hconF_ok (cons:=wq) wq_ok noH_ok (fuel:=400) (d:=40) (by kernel_rfl)
def hStart6:HCon SM where
 fn:=30
 args:=[.e (.a ([.st ⟨#[119,97,108,107,101,114]⟩,.sl 4353 0 3 0,.nils,.nils,.nils,.nils,.sl 23 0 2 0] ++ nn 0 0 ++ nn 1 10 ++ nn 0 0)),.e (.a (nn 0 0 ++ nn 4 0 ++ nn 0 0 ++ [.sl 5124 0 2 0])),.e (.s (.sl 5135 0 5 0))]
 n0:=5136
 its:=[(4353,.blk 97 ([.st ⟨#[116,114,117,110,107]⟩,.it .i64 (-1)] ++ nn 0 0 ++ nn 0 0 ++ nn 2 0 ++ nn 1 0 ++ nn 0 0 ++ nn 0 0 ++ nn 0 0 ++ nn 0 0 ++ [.nils,.st ⟨#[108,101,103]⟩,.it .i64 0] ++ nn 0 0 ++ nn 0 0 ++ nn 1 0 ++ nn 1 0 ++ nn 0 0 ++ nm 1 0 ++ nm 1 0 ++ nn 1 0 ++ [.nils,.st ⟨#[115,104,105,110]⟩,.it .i64 1] ++ nn 0 0 ++ nm 2 0 ++ nn 1 0 ++ nn 1 0 ++ nn 0 0 ++ nm 1 0 ++ nn 0 0 ++ nn 1 0 ++ [.nils]) (some 3) [0,2,0,1,0,1,0,0,1,0,1,0,0,1,0,1,0,0,1,0,1,0,0,1,0,1,0,0,1,0,1,0,0,1,0,1,0,0,1,0,1,0,0]),
 (23,.blk 78 (nm 10 0 ++ nn 0 0 ++ nn 10 0 ++ nn 0 0) (some 2) p10),
 (5124,.blk 32 (nn 0 0 ++ nn 0 0) (some 2) p5),
 (5135,.blk 32 (nn 0 0 ++ nn 0 0 ++ nn 0 0 ++ nn 0 0 ++ nm 1 0) none p5)]
 res:=.t [.a [.sl 5654 0 3 0,.sl 5656 0 3 0,.sl 5867 0 9 0,.sl 5284 0 0 0],.s (.it .i64 0)]
 n1:=5868
 new:=[(5654,.blk 78 (nn 0 0 ++ nn 4 0 ++ nn 0 0 ++ nn 3 0 ++ nn 0 0 ++ nn 1 0) none p10),
 (5656,.blk 126 (nn 1 0 ++ nn 0 0 ++ nn 1 0 ++ nn 0 0 ++ nn 1 0 ++ nn 0 0) none p10),
 (5867,.blk 32 (nn 0 0 ++ nn 0 0 ++ nn 0 0 ++ nn 0 0 ++ nn 0 0 ++ nn 0 0 ++ nm 1 0 ++ nn 0 0 ++ nm 1 0) none p5),
 (5284,.blk 32 [] (some 0) p5)]
theorem hStart6_ok:HsOk (appH hStart6):=hconF_ok (cons:=wq) wq_ok noH_ok (fuel:=400) (d:=40) (by kernel_rfl)
end Rx.Ry
namespace Rx.Ry
open Go.RowKit
def hSemi:HCon SM where
 fn:=294
 args:=[.e (.s (.sl 6005 0 9 0))]
 n0:=6336
 its:=[(6005,.blk 72 [.sl 6007 0 9 0,.sl 6009 0 9 0,.sl 6011 0 9 0,.sl 6013 0 9 0,.sl 6015 0 9 0,.sl 6017 0 9 0,.sl 6019 0 9 0,.sl 6021 0 9 0,.sl 6023 0 9 0] (some 9) [0]),
 (6007,.blk 32 (nn 2 0 ++ nn 0 0 ++ nn 0 0 ++ nn 0 0 ++ nn 0 0 ++ nn 0 0 ++ nn 0 0 ++ nn 0 0 ++ nn 0 0) (some 9) p5),
 (6009,.blk 32 (nn 0 0 ++ nn 2 0 ++ nn 0 0 ++ nn 0 0 ++ nn 0 0 ++ nn 0 0 ++ nn 0 0 ++ nn 0 0 ++ nn 0 0) (some 9) p5),
 (6011,.blk 32 (nn 0 0 ++ nn 0 0 ++ nn 1 0 ++ nn 0 0 ++ nn 0 0 ++ nn 0 0 ++ nn 0 0 ++ nn 0 0 ++ nn 0 0) (some 9) p5),
 (6013,.blk 32 (nn 0 0 ++ nn 0 0 ++ nn 0 0 ++ nn 1 0 ++ nn 0 0 ++ nn 0 0 ++ nn 0 0 ++ nn 0 0 ++ nn 0 0) (some 9) p5),
 (6015,.blk 32 (nn 0 0 ++ nn 0 0 ++ nn 0 0 ++ nn 0 0 ++ nn 1 0 ++ nn 0 0 ++ nn 0 0 ++ nn 0 0 ++ nn 0 0) (some 9) p5),
 (6017,.blk 32 (nn 0 0 ++ nn 0 0 ++ nn 0 0 ++ nn 0 0 ++ nn 0 0 ++ nn 1 0 ++ nn 0 0 ++ nn 0 0 ++ nn 0 0) (some 9) p5),
 (6019,.blk 32 (nn 0 0 ++ nn 0 0 ++ nn 0 0 ++ nn 0 0 ++ nn 0 0 ++ nn 0 0 ++ nn 1 0 ++ nn 0 0 ++ nn 0 0) (some 9) p5),
 (6021,.blk 32 (nn 0 0 ++ nn 0 0 ++ nn 0 0 ++ nn 0 0 ++ nn 0 0 ++ nn 0 0 ++ nn 0 0 ++ nn 1 0 ++ nn 0 0) (some 9) p5),
 (6023,.blk 32 (nn 0 0 ++ nn 0 0 ++ nn 0 0 ++ nn 0 0 ++ nn 0 0 ++ nn 0 0 ++ nn 0 0 ++ nn 0 0 ++ nn 1 0) (some 9) p5)]
 res:=.t [.s (.bl true),.s (.nils),.s (.it .i64 0)]
 n1:=6467
 new:=[]
theorem hSemi_ok:HsOk (appH hSemi):=hconF_ok (cons:=wq) wq_ok noH_ok (fuel:=400) (d:=40) (by kernel_rfl)
def hInv:HCon SM where
 fn:=295
 args:=[.e (.s (.sl 6005 0 9 0))]
 n0:=6467
 its:=[(6005,.blk 72 [.sl 6007 0 9 0,.sl 6009 0 9 0,.sl 6011 0 9 0,.sl 6013 0 9 0,.sl 6015 0 9 0,.sl 6017 0 9 0,.sl 6019 0 9 0,.sl 6021 0 9 0,.sl 6023 0 9 0] (some 9) [0]),
 (6007,.blk 32 (nn 2 0 ++ nn 0 0 ++ nn 0 0 ++ nn 0 0 ++ nn 0 0 ++ nn 0 0 ++ nn 0 0 ++ nn 0 0 ++ nn 0 0) (some 9) p5),
 (6009,.blk 32 (nn 0 0 ++ nn 2 0 ++ nn 0 0 ++ nn 0 0 ++ nn 0 0 ++ nn 0 0 ++ nn 0 0 ++ nn 0 0 ++ nn 0 0) (some 9) p5),
 (6011,.blk 32 (nn 0 0 ++ nn 0 0 ++ nn 1 0 ++ nn 0 0 ++ nn 0 0 ++ nn 0 0 ++ nn 0 0 ++ nn 0 0 ++ nn 0 0) (some 9) p5),
 (6013,.blk 32 (nn 0 0 ++ nn 0 0 ++ nn 0 0 ++ nn 1 0 ++ nn 0 0 ++ nn 0 0 ++ nn 0 0 ++ nn 0 0 ++ nn 0 0) (some 9) p5),
 (6015,.blk 32 (nn 0 0 ++ nn 0 0 ++ nn 0 0 ++ nn 0 0 ++ nn 1 0 ++ nn 0 0 ++ nn 0 0 ++ nn 0 0 ++ nn 0 0) (some 9) p5),
 (6017,.blk 32 (nn 0 0 ++ nn 0 0 ++ nn 0 0 ++ nn 0 0 ++ nn 0 0 ++ nn 1 0 ++ nn 0 0 ++ nn 0 0 ++ nn 0 0) (some 9) p5),
 (6019,.blk 32 (nn 0 0 ++ nn 0 0 ++ nn 0 0 ++ nn 0 0 ++ nn 0 0 ++ nn 0 0 ++ nn 1 0 ++ nn 0 0 ++ nn 0 0) (some 9) p5),
 (6021,.blk 32 (nn 0 0 ++ nn 0 0 ++ nn 0 0 ++ nn 0 0 ++ nn 0 0 ++ nn 0 0 ++ nn 0 0 ++ nn 1 0 ++ nn 0 0) (some 9) p5),
 (6023,.blk 32 (nn 0 0 ++ nn 0 0 ++ nn 0 0 ++ nn 0 0 ++ nn 0 0 ++ nn 0 0 ++ nn 0 0 ++ nn 0 0 ++ nn 1 0) (some 9) p5)]
 res:=.t [.s (.sl 6588 0 9 0),.s (.it .i64 0)]
 n1:=6598
 new:=[(6588,.blk 72 [.sl 6589 0 9 0,.sl 6590 0 9 0,.sl 6591 0 9 0,.sl 6592 0 9 0,.sl 6593 0 9 0,.sl 6594 0 9 0,.sl 6595 0 9 0,.sl 6596 0 9 0,.sl 6597 0 9 0] (some 9) [0]),
 (6589,.blk 32 (nn 1 2 ++ nn 0 0 ++ nn 0 0 ++ nn 0 0 ++ nn 0 0 ++ nn 0 0 ++ nn 0 0 ++ nn 0 0 ++ nn 0 0) (some 9) p5),
 (6590,.blk 32 (nn 0 0 ++ nn 1 2 ++ nn 0 0 ++ nn 0 0 ++ nn 0 0 ++ nn 0 0 ++ nn 0 0 ++ nn 0 0 ++ nn 0 0) (some 9) p5),
 (6591,.blk 32 (nn 0 0 ++ nn 0 0 ++ nn 1 0 ++ nn 0 0 ++ nn 0 0 ++ nn 0 0 ++ nn 0 0 ++ nn 0 0 ++ nn 0 0) (some 9) p5),
 (6592,.blk 32 (nn 0 0 ++ nn 0 0 ++ nn 0 0 ++ nn 1 0 ++ nn 0 0 ++ nn 0 0 ++ nn 0 0 ++ nn 0 0 ++ nn 0 0) (some 9) p5),
 (6593,.blk 32 (nn 0 0 ++ nn 0 0 ++ nn 0 0 ++ nn 0 0 ++ nn 1 0 ++ nn 0 0 ++ nn 0 0 ++ nn 0 0 ++ nn 0 0) (some 9) p5),
 (6594,.blk 32 (nn 0 0 ++ nn 0 0 ++ nn 0 0 ++ nn 0 0 ++ nn 0 0 ++ nn 1 0 ++ nn 0 0 ++ nn 0 0 ++ nn 0 0) (some 9) p5),
 (6595,.blk 32 (nn 0 0 ++ nn 0 0 ++ nn 0 0 ++ nn 0 0 ++ nn 0 0 ++ nn 0 0 ++ nn 1 0 ++ nn 0 0 ++ nn 0 0) (some 9) p5),
 (6596,.blk 32 (nn 0 0 ++ nn 0 0 ++ nn 0 0 ++ nn 0 0 ++ nn 0 0 ++ nn 0 0 ++ nn 0 0 ++ nn 1 0 ++ nn 0 0) (some 9) p5),
 (6597,.blk 32 (nn 0 0 ++ nn 0 0 ++ nn 0 0 ++ nn 0 0 ++ nn 0 0 ++ nn 0 0 ++ nn 0 0 ++ nn 0 0 ++ nn 1 0) (some 9) p5)]
theorem hInv_ok:HsOk (appH hInv):=hconF_ok (cons:=wq) wq_ok noH_ok (fuel:=400) (d:=40) (by kernel_rfl)
def hBind:HCon SM where
 fn:=244
 args:=[.e (.s (.sl 6588 0 9 0)),.e (.s (.sl 6238 0 4 0))]
 n0:=6641
 its:=[(6588,.blk 72 [.sl 6589 0 9 0,.sl 6590 0 9 0,.sl 6591 0 9 0,.sl 6592 0 9 0,.sl 6593 0 9 0,.sl 6594 0 9 0,.sl 6595 0 9 0,.sl 6596 0 9 0,.sl 6597 0 9 0] (some 9) [0]),
 (6589,.blk 32 (nn 1 2 ++ nn 0 0 ++ nn 0 0 ++ nn 0 0 ++ nn 0 0 ++ nn 0 0 ++ nn 0 0 ++ nn 0 0 ++ nn 0 0) (some 9) p5),
 (6590,.blk 32 (nn 0 0 ++ nn 1 2 ++ nn 0 0 ++ nn 0 0 ++ nn 0 0 ++ nn 0 0 ++ nn 0 0 ++ nn 0 0 ++ nn 0 0) (some 9) p5),
 (6591,.blk 32 (nn 0 0 ++ nn 0 0 ++ nn 1 0 ++ nn 0 0 ++ nn 0 0 ++ nn 0 0 ++ nn 0 0 ++ nn 0 0 ++ nn 0 0) (some 9) p5),
 (6592,.blk 32 (nn 0 0 ++ nn 0 0 ++ nn 0 0 ++ nn 1 0 ++ nn 0 0 ++ nn 0 0 ++ nn 0 0 ++ nn 0 0 ++ nn 0 0) (some 9) p5),
 (6593,.blk 32 (nn 0 0 ++ nn 0 0 ++ nn 0 0 ++ nn 0 0 ++ nn 1 0 ++ nn 0 0 ++ nn 0 0 ++ nn 0 0 ++ nn 0 0) (some 9) p5),
 (6594,.blk 32 (nn 0 0 ++ nn 0 0 ++ nn 0 0 ++ nn 0 0 ++ nn 0 0 ++ nn 1 0 ++ nn 0 0 ++ nn 0 0 ++ nn 0 0) (some 9) p5),
 (6595,.blk 32 (nn 0 0 ++ nn 0 0 ++ nn 0 0 ++ nn 0 0 ++ nn 0 0 ++ nn 0 0 ++ nn 1 0 ++ nn 0 0 ++ nn 0 0) (some 9) p5),
 (6596,.blk 32 (nn 0 0 ++ nn 0 0 ++ nn 0 0 ++ nn 0 0 ++ nn 0 0 ++ nn 0 0 ++ nn 0 0 ++ nn 1 0 ++ nn 0 0) (some 9) p5),
 (6597,.blk 32 (nn 0 0 ++ nn 0 0 ++ nn 0 0 ++ nn 0 0 ++ nn 0 0 ++ nn 0 0 ++ nn 0 0 ++ nn 0 0 ++ nn 1 0) (some 9) p5),
 (6238,.blk 72 [.sl 6076 0 9 0,.sl 6105 0 9 0,.sl 6183 0 9 0,.sl 6212 0 9 0] none [0]),
 (6076,.blk 32 (nm 1 0 ++ nn 0 0 ++ nn 0 0 ++ nn 1 0 ++ nn 0 0 ++ nm 1 0 ++ nn 0 0 ++ nn 0 0 ++ nn 0 0) (some 9) p5),
 (6105,.blk 32 (nn 0 0 ++ nm 1 0 ++ nn 0 0 ++ nn 0 0 ++ nn 1 0 ++ nn 0 0 ++ nn 0 0 ++ nn 0 0 ++ nn 0 0) (some 9) p5),
 (6183,.blk 32 (nn 0 0 ++ nn 0 0 ++ nn 0 0 ++ nm 1 0 ++ nn 0 0 ++ nm 1 0 ++ nn 1 0 ++ nn 0 0 ++ nm 1 0) (some 9) p5),
 (6212,.blk 32 (nn 0 0 ++ nn 0 0 ++ nn 0 0 ++ nn 0 0 ++ nm 1 0 ++ nn 0 0 ++ nn 0 0 ++ nn 1 0 ++ nn 0 0) (some 9) p5)]
 res:=.e (.a [.sl 6238 0 4 0,.sl 6726 0 4 0])
 n1:=6727
 new:=[(6726,.blk 72 [.sl 6643 0 9 0,.sl 6664 0 9 0,.sl 6685 0 9 0,.sl 6706 0 9 0] none [0]),
 (6643,.blk 32 (nm 1 2 ++ nn 0 0 ++ nn 0 0 ++ nn 1 0 ++ nn 0 0 ++ nm 1 0 ++ nn 0 0 ++ nn 0 0 ++ nn 0 0) (some 9) p5),
 (6664,.blk 32 (nn 0 0 ++ nm 1 2 ++ nn 0 0 ++ nn 0 0 ++ nn 1 0 ++ nn 0 0 ++ nn 0 0 ++ nn 0 0 ++ nn 0 0) (some 9) p5),
 (6685,.blk 32 (nn 0 0 ++ nn 0 0 ++ nn 0 0 ++ nm 1 0 ++ nn 0 0 ++ nm 1 0 ++ nn 1 0 ++ nn 0 0 ++ nm 1 0) (some 9) p5),
 (6706,.blk 32 (nn 0 0 ++ nn 0 0 ++ nn 0 0 ++ nn 0 0 ++ nm 1 0 ++ nn 0 0 ++ nn 0 0 ++ nn 1 0 ++ nn 0 0) (some 9) p5)]
theorem hBind_ok:HsOk (appH hBind):=hconF_ok (cons:=wq) wq_ok noH_ok (fuel:=400) (d:=40) (by kernel_rfl)
end Rx.Ry
namespace Rx.Ry
open Go.RowKit
def hHold:HCon SM where
 fn:=245
 args:=[.e (.a [.sl 6238 0 4 0,.sl 6726 0 4 0]),.e (.s (.sl 6640 0 3 0))]
 n0:=6727
 its:=[(6238,.blk 72 [.sl 6076 0 9 0,.sl 6105 0 9 0,.sl 6183 0 9 0,.sl 6212 0 9 0] none [0]),
 (6076,.blk 32 (nm 1 0 ++ nn 0 0 ++ nn 0 0 ++ nn 1 0 ++ nn 0 0 ++ nm 1 0 ++ nn 0 0 ++ nn 0 0 ++ nn 0 0) (some 9) p5),
 (6105,.blk 32 (nn 0 0 ++ nm 1 0 ++ nn 0 0 ++ nn 0 0 ++ nn 1 0 ++ nn 0 0 ++ nn 0 0 ++ nn 0 0 ++ nn 0 0) (some 9) p5),
 (6183,.blk 32 (nn 0 0 ++ nn 0 0 ++ nn 0 0 ++ nm 1 0 ++ nn 0 0 ++ nm 1 0 ++ nn 1 0 ++ nn 0 0 ++ nm 1 0) (some 9) p5),
 (6212,.blk 32 (nn 0 0 ++ nn 0 0 ++ nn 0 0 ++ nn 0 0 ++ nm 1 0 ++ nn 0 0 ++ nn 0 0 ++ nn 1 0 ++ nn 0 0) (some 9) p5),
 (6726,.blk 72 [.sl 6643 0 9 0,.sl 6664 0 9 0,.sl 6685 0 9 0,.sl 6706 0 9 0] none [0]),
 (6643,.blk 32 (nm 1 2 ++ nn 0 0 ++ nn 0 0 ++ nn 1 0 ++ nn 0 0 ++ nm 1 0 ++ nn 0 0 ++ nn 0 0 ++ nn 0 0) (some 9) p5),
 (6664,.blk 32 (nn 0 0 ++ nm 1 2 ++ nn 0 0 ++ nn 0 0 ++ nn 1 0 ++ nn 0 0 ++ nn 0 0 ++ nn 0 0 ++ nn 0 0) (some 9) p5),
 (6685,.blk 32 (nn 0 0 ++ nn 0 0 ++ nn 0 0 ++ nm 1 0 ++ nn 0 0 ++ nm 1 0 ++ nn 1 0 ++ nn 0 0 ++ nm 1 0) (some 9) p5),
 (6706,.blk 32 (nn 0 0 ++ nn 0 0 ++ nn 0 0 ++ nn 0 0 ++ nm 1 0 ++ nn 0 0 ++ nn 0 0 ++ nn 1 0 ++ nn 0 0) (some 9) p5),
 (6640,.blk 72 [.sl 6249 0 9 0,.sl 6599 0 9 0,.sl 6620 0 9 0] none [0]),
 (6249,.blk 32 (nn 0 0 ++ nn 0 0 ++ nn 0 0 ++ nn 0 0 ++ nn 0 0 ++ nn 0 0 ++ nm 1 0 ++ nn 0 0 ++ nm 1 0) none p5),
 (6599,.blk 32 (nn 0 0 ++ nn 0 0 ++ nn 0 0 ++ nn 0 0 ++ nn 0 0 ++ nm 1 0 ++ nn 0 0 ++ nn 0 0 ++ nn 1 0) (some 9) p5),
 (6620,.blk 32 (nn 0 0 ++ nn 0 0 ++ nn 0 0 ++ nn 0 0 ++ nn 0 0 ++ nn 0 0 ++ nn 0 0 ++ nn 0 0 ++ nn 0 0) (some 9) p5)]
 res:=.e (.s (.sl 6829 0 3 0))
 n1:=6860
 new:=[(6829,.blk 72 [.sl 6839 0 9 0,.sl 6849 0 9 0,.sl 6859 0 9 0] (some 3) [0]),
 (6839,.blk 32 (nn 0 0 ++ nn 0 0 ++ nn 0 0 ++ nn 0 0 ++ nn 0 0 ++ nn 0 0 ++ nm 1 0 ++ nn 0 0 ++ nm 1 0) (some 9) p5),
 (6849,.blk 32 (nn 1 5 ++ nn 0 0 ++ nn 0 0 ++ nm 2 5 ++ nn 0 0 ++ nm 3 5 ++ nn 0 0 ++ nn 0 0 ++ nn 1 0) (some 9) p5),
 (6859,.blk 32 (nn 0 0 ++ nn 0 0 ++ nn 0 0 ++ nn 0 0 ++ nn 0 0 ++ nn 0 0 ++ nn 0 0 ++ nn 0 0 ++ nn 0 0) (some 9) p5)]
theorem hHold_ok:HsOk (appH hHold):=hconF_ok (cons:=wq) wq_ok noH_ok (fuel:=400) (d:=40) (by kernel_rfl)
end Rx.Ry
end Go.Proofs.YtmijlcldmefggaaGreatDoor
