/- What the proof rests on, part 45. -/
import Derived.Test.YtmijlcldmefggaaGreatDoorZ39
import Derived.Test.YtmijlcldmefggaaGreatDoorZ44
namespace Go.Proofs.YtmijlcldmefggaaGreatDoor
set_option maxRecDepth 100000
set_option maxHeartbeats 80000000
namespace Rx.Ry
open Go.RowKit
def hSolve6:HCon SM where
 fn:=189
 args:=[.e (.a ([.sl 6881 0 2 0,.sl 6860 0 2 0,.sl 6866 0 1 0] ++ nn 0 0))]
 n0:=6898
 its:=[(6881,.blk 72 [.sl 6868 0 2 0,.sl 6875 0 2 0] none [0]),
 (6868,.blk 32 (nn 8 5 ++ nn 0 0) (some 2) p5),
 (6875,.blk 32 (nn 0 0 ++ nn 0 0) (some 2) p5),
 (6860,.blk 32 (nm 1 0 ++ nn 0 0) (some 2) p5),
 (6866,.blk 32 (nn 0 0) none p5)]
 res:=.t [.a [.sl 7258 0 1 0,.sl 8969 0 2 0,.sl 8985 0 2 0],.s (.it .i64 0)]
 n1:=8986
 new:=[(7258,.blk 5 [.it .u8 1] none [0]),
 (8969,.blk 32 (nn 5 8 ++ nn 0 0) (some 2) p5),
 (8985,.blk 32 (nn 0 0 ++ nn 0 0) (some 2) p5)]
theorem hSolve6_ok:HsOk (appH hSolve6):=hconF_ok (cons:=wq) wq_ok noH_ok (fuel:=400) (d:=40) (by kernel_rfl)
end Rx.Ry
namespace Rx.Ry
open Go.RowKit
def hStep6:HCon SM where
 fn:=33
 args:=[.e (.a ([.st ⟨#[119,97,108,107,101,114]⟩,.sl 4353 0 3 0,.nils,.nils,.nils,.nils,.sl 23 0 2 0] ++ nn 0 0 ++ nn 1 10 ++ nn 0 0)),.e (.a [.sl 5654 0 3 0,.sl 5656 0 3 0,.sl 5867 0 9 0,.sl 5284 0 0 0]),.e (.s (.nils))]
 n0:=5869
 its:=[(4353,.blk 97 ([.st ⟨#[116,114,117,110,107]⟩,.it .i64 (-1)] ++ nn 0 0 ++ nn 0 0 ++ nn 2 0 ++ nn 1 0 ++ nn 0 0 ++ nn 0 0 ++ nn 0 0 ++ nn 0 0 ++ [.nils,.st ⟨#[108,101,103]⟩,.it .i64 0] ++ nn 0 0 ++ nn 0 0 ++ nn 1 0 ++ nn 1 0 ++ nn 0 0 ++ nm 1 0 ++ nm 1 0 ++ nn 1 0 ++ [.nils,.st ⟨#[115,104,105,110]⟩,.it .i64 1] ++ nn 0 0 ++ nm 2 0 ++ nn 1 0 ++ nn 1 0 ++ nn 0 0 ++ nm 1 0 ++ nn 0 0 ++ nn 1 0 ++ [.nils]) (some 3) [0,2,0,1,0,1,0,0,1,0,1,0,0,1,0,1,0,0,1,0,1,0,0,1,0,1,0,0,1,0,1,0,0,1,0,1,0,0,1,0,1,0,0]),
 (23,.blk 78 (nm 10 0 ++ nn 0 0 ++ nn 10 0 ++ nn 0 0) (some 2) p10),
 (5654,.blk 78 (nn 0 0 ++ nn 4 0 ++ nn 0 0 ++ nn 3 0 ++ nn 0 0 ++ nn 1 0) none p10),
 (5656,.blk 126 (nn 1 0 ++ nn 0 0 ++ nn 1 0 ++ nn 0 0 ++ nn 1 0 ++ nn 0 0) none p10),
 (5867,.blk 32 (nn 0 0 ++ nn 0 0 ++ nn 0 0 ++ nn 0 0 ++ nn 0 0 ++ nn 0 0 ++ nm 1 0 ++ nn 0 0 ++ nm 1 0) none p5),
 (5284,.blk 32 [] (some 0) p5)]
 res:=.t [.a [.sl 9124 0 3 0,.sl 9139 0 3 0,.sl 9008 0 9 0,.sl 9054 0 0 0],.a ([.sl 9143 0 1 0,.sl 7258 0 1 0,.sl 8969 0 2 0,.nils] ++ nm 5 16 ++ [.nils]),.s (.it .i64 0)]
 n1:=9146
 new:=[(9124,.blk 78 (nn 1 80 ++ nn 4 0 ++ nm 1 40 ++ nn 3 0 ++ nm 1 10 ++ nn 1 0) none p10),
 (9139,.blk 126 (nn 1 0 ++ nn 0 0 ++ nn 25591 25609 ++ nm 960 25609 ++ nn 25591 25609 ++ nm 960 25609) none p10),
 (9008,.blk 32 (nn 1 8 ++ nn 0 0 ++ nn 0 0 ++ nm 1 4 ++ nn 0 0 ++ nm 3 8 ++ nm 1 0 ++ nn 0 0 ++ nm 3 8) (some 9) p5),
 (9054,.blk 32 [] (some 0) p5),
 (9143,.blk 99 ([.it .u8 2,.it .i64 2,.it .i64 0] ++ nn 0 0 ++ nn 0 0) none [0,2,2,0,1,0,1,0,0,1,0,1,0]),
 (7258,.blk 5 [.it .u8 1] none [0]),
 (8969,.blk 32 (nn 5 8 ++ nn 0 0) (some 2) p5)]
theorem hStep6_ok:HsOk (appH hStep6):=hconF_ok (cons:=wq) wq_ok (orH hSemi_ok (orH hInv_ok (orH hBind_ok (orH hHold_ok hSolve6_ok)))) (fuel:=400) (d:=40) (by kernel_rfl)
end Rx.Ry
end Go.Proofs.YtmijlcldmefggaaGreatDoor
