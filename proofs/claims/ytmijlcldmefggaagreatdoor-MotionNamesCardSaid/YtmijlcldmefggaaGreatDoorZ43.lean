/- What the proof rests on, part 43. -/
import Derived.Test.YtmijlcldmefggaaGreatDoorZ42
namespace Go.Proofs.YtmijlcldmefggaaGreatDoor
set_option maxRecDepth 100000
set_option maxHeartbeats 80000000
namespace Rx.Ry
open Go.RowKit
def hStep3:HCon SM where
 fn:=33
 args:=[.e (.a ([.st ⟨#[98,97,108,108]⟩,.sl 16 0 1 0,.nils,.nils,.nils,.sl 19 0 1 0,.sl 23 0 2 0] ++ nn 10 0 ++ nn 1 10 ++ nn 1 2)),.e (.a [.sl 137 0 1 0,.sl 139 0 1 0,.sl 270 0 3 0,.sl 127 0 0 0]),.e (.s (.nils))]
 n0:=272
 its:=[(16,.blk 97 ([.st ⟨#[116,114,117,110,107]⟩,.it .i64 (-1)] ++ nn 0 0 ++ nn 0 0 ++ nn 2 0 ++ nn 1 0 ++ nn 0 0 ++ nn 0 0 ++ nn 0 0 ++ nn 0 0 ++ [.nils]) (some 1) [0,2,0,1,0,1,0,0,1,0,1,0,0,1,0,1,0,0,1,0,1,0,0,1,0,1,0,0,1,0,1,0,0,1,0,1,0,0,1,0,1,0,0]),
 (19,.blk 130 ([.it .i64 0,.sl 18 0 1 0] ++ nn 0 0) (some 1) [2,0,0,1,0,1,0]),
 (18,.blk 78 (nn 0 0 ++ nm 1 0) (some 1) p10),
 (23,.blk 78 (nm 10 0 ++ nn 0 0 ++ nn 10 0 ++ nn 0 0) (some 2) p10),
 (137,.blk 78 (nn 0 0 ++ nn 1 0) none p10),
 (139,.blk 126 (nn 1 0 ++ nn 0 0) none p10),
 (270,.blk 32 (nn 1 0 ++ nm 3 0 ++ nn 0 0) none p5),
 (127,.blk 32 [] (some 0) p5)]
 res:=.t [.a [.sl 3402 0 1 0,.sl 3417 0 1 0,.sl 3342 0 3 0,.sl 3388 0 0 0],.a ([.sl 3421 0 1 0,.sl 1875 0 1 0,.sl 3315 0 2 0,.sl 3435 0 1 0] ++ nm 12 0 ++ [.nils]),.s (.it .i64 0)]
 n1:=3437
 new:=[(3402,.blk 78 (nn 1 10 ++ nn 6 5) none p10),
 (3417,.blk 126 (nn 1 0 ++ nn 0 0) none p10),
 (3342,.blk 32 (nn 1 0 ++ nn 2 0 ++ nn 0 0) (some 3) p5),
 (3388,.blk 32 [] (some 0) p5),
 (3421,.blk 99 ([.it .u8 1,.it .i64 0,.it .i64 0] ++ nn 0 0 ++ nn 0 0) none [0,2,2,0,1,0,1,0,0,1,0,1,0]),
 (1875,.blk 5 [.it .u8 2] none [0]),
 (3315,.blk 32 (nn 3 5 ++ nn 0 0) (some 2) p5),
 (3435,.blk 78 (nn 0 0 ++ nn 12 0) none p10)]
theorem hStep3_ok:HsOk (appH hStep3):=hconF_ok (cons:=wq) wq_ok hSolve3_ok (fuel:=400) (d:=40) (by kernel_rfl)
def hStep4:HCon SM where
 fn:=33
 args:=[.e (.a ([.st ⟨#[98,97,108,108]⟩,.sl 16 0 1 0,.nils,.nils,.nils,.sl 19 0 1 0,.sl 23 0 2 0] ++ nn 10 0 ++ nn 1 10 ++ nn 1 2)),.e (.a [.sl 3537 0 1 0,.sl 3539 0 1 0,.sl 3670 0 3 0,.sl 3527 0 0 0]),.e (.s (.nils))]
 n0:=3672
 its:=[(16,.blk 97 ([.st ⟨#[116,114,117,110,107]⟩,.it .i64 (-1)] ++ nn 0 0 ++ nn 0 0 ++ nn 2 0 ++ nn 1 0 ++ nn 0 0 ++ nn 0 0 ++ nn 0 0 ++ nn 0 0 ++ [.nils]) (some 1) [0,2,0,1,0,1,0,0,1,0,1,0,0,1,0,1,0,0,1,0,1,0,0,1,0,1,0,0,1,0,1,0,0,1,0,1,0,0,1,0,1,0,0]),
 (19,.blk 130 ([.it .i64 0,.sl 18 0 1 0] ++ nn 0 0) (some 1) [2,0,0,1,0,1,0]),
 (18,.blk 78 (nn 0 0 ++ nm 1 0) (some 1) p10),
 (23,.blk 78 (nm 10 0 ++ nn 0 0 ++ nn 10 0 ++ nn 0 0) (some 2) p10),
 (3537,.blk 78 (nn 0 0 ++ nn 2 0) none p10),
 (3539,.blk 126 (nn 1 0 ++ nn 0 0) none p10),
 (3670,.blk 32 (nn 1 0 ++ nn 0 0 ++ nn 0 0) none p5),
 (3527,.blk 32 [] (some 0) p5)]
 res:=.t [.a [.sl 4092 0 1 0,.sl 4107 0 1 0,.sl 4044 0 3 0,.sl 4078 0 0 0],.a ([.nils,.sl 3924 0 0 0,.sl 4029 0 0 0,.nils] ++ nn 0 0 ++ [.nils]),.s (.it .i64 0)]
 n1:=4110
 new:=[(4092,.blk 78 (nn 1 10 ++ nn 19 10) none p10),
 (4107,.blk 126 (nn 1 0 ++ nn 0 0) none p10),
 (4044,.blk 32 (nn 1 0 ++ nm 1 0 ++ nn 0 0) (some 3) p5),
 (4078,.blk 32 [] (some 0) p5),
 (3924,.blk 5 [] (some 0) [0]),
 (4029,.blk 32 [] (some 0) p5)]
theorem hStep4_ok:HsOk (appH hStep4):=hconF_ok (cons:=wq) wq_ok noH_ok (fuel:=400) (d:=40) (by kernel_rfl)
end Rx.Ry
end Go.Proofs.YtmijlcldmefggaaGreatDoor
