/- What the proof rests on, part 34. -/
import Derived.Test.YtefbfbdijimanaaGreatDoorP33
namespace Go.Proofs.YtefbfbdijimanaaGreatDoor
set_option maxRecDepth 100000
set_option maxHeartbeats 80000000
namespace Rx
open Go.RowKit
def Dj:List Fc→Nat→Option (RE×Nat)
 | [],_=>none
 | .z s e k :: r,n=>if s=n then some (e,k) else Dj r n
 | _ :: r,n=>Dj r n
def BA (db:List Fc):List Cell→Option (RE×Nat)
 | [.ob a,.os c]=>if a=c then (match Dj db a with
  | some x=>some x
  | none=>match oV db a with
   | some (e,k)=>some (.num e,k)
   | none=>none) else none
 | _=>none
section
variable {β:Nat→Rat} {h:Hint} {f:FuncId} {vals:Array Value} {W:World} {ρ:Env} {b:Nat} {db:List Fc}
end
section
variable (β:Nat→Rat) (h:Hint)
def P7:Con (SQ β) where
 fn:=74
 app:=fun db b args=>match args with
  | [.e (.a x)]=>match iY db x with
   | some (e,k)=>some (.e (.a (zC b)),[.z b (.den e) k])
   | none=>none
  | _=>none
def P8:Con (SQ β) where
 fn:=73
 app:=fun db b args=>match args with
  | [.e (.a x),.e (.a y)]=>match BA db x,BA db y with
   | some (e,k),some (e',k')=>if decide (k≤K1) && decide (k'≤K1) then some (.e (.a (zC b)),[.z b (.mul e e') (k+k')]) else none
   | _,_=>none
  | _=>none
def P6:Con (SQ β) where
 fn:=139
 app:=fun db b args=>match args with
  | [.e (.a x)]=>match BA db x with
   | some (e,k)=>if 1≤k then some (.e (.a (cZ b)),[.r b e k]) else none
   | none=>none
  | _=>none
def PX:Con (SQ β) where
 fn:=138
 app:=fun db b args=>match args with
  | [.e (.a x)]=>match iY db x with
   | some (e,k)=>if decide (k≤60) && decide (sgB h e=some 1) then
     (if yD h e then some (.t [.a (cZ b),.s (.bl true)],[.r b (rtE e) k]) else
     if zl h e then some (.t [.a (cZ b),.s (.bl false)],[.r b (rtE e) k]) else none) else none
   | none=>none
  | _=>none
def cwP:List (Con (SQ β)):=xB β h :: mJ β 102 .num id :: mJ β 101 .den id :: cq β h
def cw:List (Con (SQ β)):=xB β h :: PX β h :: P7 β :: P8 β :: P6 β :: mJ β 102 .num id :: mJ β 101 .den id :: c1 β h
end
section
variable {β:Nat→Rat} {h:Hint}
theorem Io {k:Nat} {r:Rat} (h:Fits k r):Fits k (r.num:Rat)∧Fits k ((((r.den:Nat):Int):Rat)):=by
 have h1:1<B64 ^ k:=Nat.lt_of_le_of_lt r.den_pos h.2
 exact ⟨⟨by rw [Rat.num_intCast];exact h.1,by rw [Rat.den_intCast];exact h1⟩,by rw [Rat.num_intCast];simpa using h.2,by rw [Rat.den_intCast];exact h1⟩
theorem Qe (ok:h.Ok β):∀ c∈cwP β h,c.Ok Tryz.prog (SQ β) EV:=by
 unfold cwP
 simp only [List.forall_mem_cons]
 exact ⟨Px ok,xw fun e k v W _ h1 h2 _=>⟨Nr _ v W h1,(Io h2).1⟩,xw fun e k v W _ h1 h2 _=>⟨FB _ v W h1,(Io h2).2⟩,iO ok⟩
end
end Rx
namespace Rx
open Go.RowKit
abbrev y4:RE:=.v 4
abbrev y5:RE:=.v 5
abbrev Q3:List At:=[.q,.q,.q]
abbrev R3:List At:=[.r,.r,.r]
abbrev R1:List At:=[.r,.o,.o]
abbrev xS:TypeId:=65
abbrev fS:TypeId:=67
def xE (β:Nat→Rat) (h:Hint):Con (SQ β) where
 fn:=95
 app:=fun db b args=>match args with
  | [.e (.a x)]=>match dW db x with
   | some (e,k)=>if nzB h e then some (.e (.a (aH b)),[.q b (.div (.c 1) e) k]) else none
   | none=>none
  | _=>none
theorem PD {β:Nat→Rat} {h:Hint} (ok:h.Ok β):(xE β h).Ok Tryz.prog (SQ β) EV:=by
 refine Con.ok0 rfl ?_
 intro db b args res new ha ρ W hf hE
 simp only [xE] at ha
 split at ha
 ·split at ha
  ·rename_i e k hx
   split at ha
   ·rename_i hn
    cases ha
    obtain ⟨⟨h1,h2⟩,-⟩:=fU hx hf
    have h0:=vG ok hn
    have e1:(RE.div (.c 1) e).ev β=(e.ev β)⁻¹:=by show ((1:Int):Rat) / e.ev β=_;rw [Rat.div_def,show ((1:Int):Rat)=1 from rfl,Rat.one_mul]
    exact uH (e:=.div (.c 1) e) (by rw [e1];exact AA _ _ W h1 h0) (by rw [e1];exact h2.inv h0)
   ·cases ha
  ·cases ha
 ·cases ha
def Py (β:Nat→Rat):Con (SQ β) where
 fn:=16
 app:=fun _ b args=>match args with
  | [.e (.s (.it .i64 4))]=>some (.e (.a (cZ b)),[.r b (.c 4) 1])
  | _=>none
def TI (β:Nat→Rat) (h:Hint):Con (SQ β):=aI β h 20 [[.r],[.r]] 16 {} (.at [.r] [.sub y0 y1]) 33
def Dp (β:Nat→Rat) (h:Hint):Con (SQ β):=aI β h 98 [Q3] K1 { sg:=[(y2,1)] } (.bl true) K1
theorem SB {β:Nat→Rat} {h:Hint} (ok:h.Ok β):(Dp β h).Ok Tryz.prog (SQ β) EV:=dL ok (by decide) fun γ g=>⟨{ sg:=[(y2,1)] },g,1,cq γ { sg:=[(y2,1)] },iO g,by kernel_rfl⟩
def TN (β:Nat→Rat) (h:Hint):Con (SQ β):=aI β h 96 [[.r]] 60 {} (.at R1 [y0,.c 0,.c 0]) 60
def d0p (β:Nat→Rat) (h:Hint):List (Con (SQ β)):=Dp β h :: xE β h :: cwP β h
theorem iF {β:Nat→Rat} {h:Hint} (ok:h.Ok β):∀ c∈d0p β h,c.Ok Tryz.prog (SQ β) EV:=by
 unfold d0p
 simp only [List.forall_mem_cons]
 exact ⟨SB ok,PD ok,Qe ok⟩
def d0 (β:Nat→Rat) (h:Hint):List (Con (SQ β)):=TI β h :: Dp β h :: TN β h :: xE β h :: Py β :: cw β h
def noS (n:Bool) (e:RE):RE×RE:=match n with
 | true=>(sq2 (.num e),.num e)
 | false=>(sq2 (.den e),.den e)
def rF (s:Int) (β:Nat→Rat) (h:Hint):Con (SQ β):=aI β h 61 [Q3] 60 { eq:=[(sq2 (.num y2),.num y2),(sq2 (.den y2),.den y2)],sg:=[(y1,s),(y2,1)] } (.ati Q3 [.add y0 (.mul y1 (rtE y2)),.c 0,.c 0] 0) 256
theorem Tf {β:Nat→Rat} {h:Hint} (ok:h.Ok β):(rF 1 β h).Ok Tryz.prog (SQ β) EV:=dL ok (by decide) fun γ g=>⟨{ eq:=[(sq2 (.num y2),.num y2),(sq2 (.den y2),.den y2)],sg:=[(y1,1),(y2,1)] },g,1,d0p γ { eq:=[(sq2 (.num y2),.num y2),(sq2 (.den y2),.den y2)],sg:=[(y1,1),(y2,1)] },iF g,by kernel_rfl⟩
theorem Td {β:Nat→Rat} {h:Hint} (ok:h.Ok β):(rF (-1) β h).Ok Tryz.prog (SQ β) EV:=dL ok (by decide) fun γ g=>⟨{ eq:=[(sq2 (.num y2),.num y2),(sq2 (.den y2),.den y2)],sg:=[(y1,(-1)),(y2,1)] },g,1,d0p γ { eq:=[(sq2 (.num y2),.num y2),(sq2 (.den y2),.den y2)],sg:=[(y1,(-1)),(y2,1)] },iF g,by kernel_rfl⟩
def jo (s:Int) (n:Bool) (β:Nat→Rat) (h:Hint):Con (SQ β):=aI β h 61 [Q3] 60 { ne:=[noS n y2],nz:=[.den y2],sg:=[(y1,s),(y2,1)] } (.ati Q3 [y0,.div y1 (.den y2),.mul (.num y2) (.den y2)] 0) 256
theorem Tc {β:Nat→Rat} {h:Hint} (ok:h.Ok β):(jo 1 true β h).Ok Tryz.prog (SQ β) EV:=dL ok (by decide) fun γ g=>⟨{ ne:=[noS true y2],nz:=[.den y2],sg:=[(y1,1),(y2,1)] },g,1,d0p γ { ne:=[noS true y2],nz:=[.den y2],sg:=[(y1,1),(y2,1)] },iF g,by kernel_rfl⟩
theorem S9 {β:Nat→Rat} {h:Hint} (ok:h.Ok β):(jo 1 false β h).Ok Tryz.prog (SQ β) EV:=dL ok (by decide) fun γ g=>⟨{ ne:=[noS false y2],nz:=[.den y2],sg:=[(y1,1),(y2,1)] },g,1,d0p γ { ne:=[noS false y2],nz:=[.den y2],sg:=[(y1,1),(y2,1)] },iF g,by kernel_rfl⟩
theorem SY {β:Nat→Rat} {h:Hint} (ok:h.Ok β):(jo (-1) true β h).Ok Tryz.prog (SQ β) EV:=dL ok (by decide) fun γ g=>⟨{ ne:=[noS true y2],nz:=[.den y2],sg:=[(y1,(-1)),(y2,1)] },g,1,d0p γ { ne:=[noS true y2],nz:=[.den y2],sg:=[(y1,(-1)),(y2,1)] },iF g,by kernel_rfl⟩
theorem SX {β:Nat→Rat} {h:Hint} (ok:h.Ok β):(jo (-1) false β h).Ok Tryz.prog (SQ β) EV:=dL ok (by decide) fun γ g=>⟨{ ne:=[noS false y2],nz:=[.den y2],sg:=[(y1,(-1)),(y2,1)] },g,1,d0p γ { ne:=[noS false y2],nz:=[.den y2],sg:=[(y1,(-1)),(y2,1)] },iF g,by kernel_rfl⟩
def IB (s:Int) (β:Nat→Rat) (h:Hint):Con (SQ β):=aI β h 97 [R3] 60 { eq:=[(sq2 (.num y2),.num y2),(sq2 (.den y2),.den y2)],sg:=[(y1,s),(y2,1)] } (.at R1 [.add y0 (.mul y1 (rtE y2)),.c 0,.c 0]) 256
def xZ (s:Int) (n:Bool) (β:Nat→Rat) (h:Hint):Con (SQ β):=aI β h 97 [R3] 60 { ne:=[noS n y2],nz:=[.den y2],sg:=[(y1,s),(y2,1)] } (.at R3 [y0,.div y1 (.den y2),.mul (.num y2) (.den y2)]) 256
def rC (s:Int) (β:Nat→Rat) (h:Hint):Con (SQ β):=jD β h 94 [[.q],[.q]] 4 { nz:=[y0],sg:=[(y0,s)] } 1 xS Q3 [.div (.neg y1) y0,.c 0,.c 0] true 256
theorem SL {β:Nat→Rat} {h:Hint} (ok:h.Ok β):(rC 1 β h).Ok Tryz.prog (SQ β) EV:=jl ok (by decide) fun γ g=>⟨{ nz:=[y0],sg:=[(y0,1)] },g,1,d0p γ { nz:=[y0],sg:=[(y0,1)] },iF g,by kernel_rfl⟩
theorem SK {β:Nat→Rat} {h:Hint} (ok:h.Ok β):(rC (-1) β h).Ok Tryz.prog (SQ β) EV:=jl ok (by decide) fun γ g=>⟨{ nz:=[y0],sg:=[(y0,(-1))] },g,1,d0p γ { nz:=[y0],sg:=[(y0,(-1))] },iF g,by kernel_rfl⟩
def Dq (β:Nat→Rat) (h:Hint):Con (SQ β):=aI β h 94 [[.q],[.q]] 4 { sg:=[(y0,0),(y1,0)] } (.ks [.z,.i 10]) 256
theorem SI {β:Nat→Rat} {h:Hint} (ok:h.Ok β):(Dq β h).Ok Tryz.prog (SQ β) EV:=dL ok (by decide) fun γ g=>⟨{ sg:=[(y0,0),(y1,0)] },g,1,d0p γ { sg:=[(y0,0),(y1,0)] },iF g,by kernel_rfl⟩
def rE (s:Int) (β:Nat→Rat) (h:Hint):Con (SQ β):=aI β h 94 [[.q],[.q]] 4 { sg:=[(y0,0),(y1,s)] } (.ks [.z,.i 0]) 256
theorem SH {β:Nat→Rat} {h:Hint} (ok:h.Ok β):(rE 1 β h).Ok Tryz.prog (SQ β) EV:=dL ok (by decide) fun γ g=>⟨{ sg:=[(y0,0),(y1,1)] },g,1,d0p γ { sg:=[(y0,0),(y1,1)] },iF g,by kernel_rfl⟩
theorem SG {β:Nat→Rat} {h:Hint} (ok:h.Ok β):(rE (-1) β h).Ok Tryz.prog (SQ β) EV:=dL ok (by decide) fun γ g=>⟨{ sg:=[(y0,0),(y1,(-1))] },g,1,d0p γ { sg:=[(y0,0),(y1,(-1))] },iF g,by kernel_rfl⟩
def d1p (β:Nat→Rat) (h:Hint):List (Con (SQ β)):=rF 1 β h :: rF (-1) β h :: jo 1 true β h :: jo 1 false β h :: jo (-1) true β h :: jo (-1) false β h :: rC 1 β h :: rC (-1) β h :: Dq β h :: rE 1 β h :: rE (-1) β h :: d0p β h
theorem iG {β:Nat→Rat} {h:Hint} (ok:h.Ok β):∀ c∈d1p β h,c.Ok Tryz.prog (SQ β) EV:=by
 unfold d1p
 simp only [List.forall_mem_cons]
 exact ⟨Tf ok,Td ok,Tc ok,S9 ok,SY ok,SX ok,SL ok,SK ok,SI ok,SH ok,SG ok,iF ok⟩
def d1 (β:Nat→Rat) (h:Hint):List (Con (SQ β)):=rF 1 β h :: rF (-1) β h :: jo 1 true β h :: jo 1 false β h :: jo (-1) true β h :: jo (-1) false β h :: IB 1 β h :: IB (-1) β h :: xZ 1 true β h :: xZ 1 false β h :: xZ (-1) true β h :: xZ (-1) false β h :: rC 1 β h :: rC (-1) β h :: Dq β h :: rE 1 β h :: rE (-1) β h :: d0 β h
abbrev rD:RE:=.add y0 y0
abbrev rM:RE:=.div (.neg y1) rD
abbrev rU:RE:=.sub (.mul y1 y1) (.mul (.mul rD y2) (.c 2))
abbrev rH:RE:=.abs (.div (.c 1) rD)
abbrev sT:RE:=.mul (.c 2) y0
abbrev sM:RE:=.neg (.div y1 sT)
abbrev sU:RE:=.sub (.mul y1 y1) (.mul (.c 4) (.mul y0 y2))
abbrev sH:RE:=.abs (.div (.c 1) sT)
def rQ0 (β:Nat→Rat) (h:Hint):Con (SQ β):=aI β h 30 [[.q],[.q],[.q]] 4 { sg:=[(y0,0),(y1,0),(y2,0)] } (.ks [.z,.i 10]) 256
theorem Xp {β:Nat→Rat} {h:Hint} (ok:h.Ok β):(rQ0 β h).Ok Tryz.prog (SQ β) EV:=dL ok (by decide) fun γ g=>⟨{ sg:=[(y0,0),(y1,0),(y2,0)] },g,1,d1p γ { sg:=[(y0,0),(y1,0),(y2,0)] },iG g,by kernel_rfl⟩
def rQ1 (s:Int) (β:Nat→Rat) (h:Hint):Con (SQ β):=aI β h 30 [[.q],[.q],[.q]] 4 { sg:=[(y0,0),(y1,0),(y2,s)] } (.ks [.z,.i 0]) 256
theorem Xr {β:Nat→Rat} {h:Hint} (ok:h.Ok β):(rQ1 1 β h).Ok Tryz.prog (SQ β) EV:=dL ok (by decide) fun γ g=>⟨{ sg:=[(y0,0),(y1,0),(y2,1)] },g,1,d1p γ { sg:=[(y0,0),(y1,0),(y2,1)] },iG g,by kernel_rfl⟩
theorem Xq {β:Nat→Rat} {h:Hint} (ok:h.Ok β):(rQ1 (-1) β h).Ok Tryz.prog (SQ β) EV:=dL ok (by decide) fun γ g=>⟨{ sg:=[(y0,0),(y1,0),(y2,(-1))] },g,1,d1p γ { sg:=[(y0,0),(y1,0),(y2,(-1))] },iG g,by kernel_rfl⟩
def rQ2 (s:Int) (β:Nat→Rat) (h:Hint):Con (SQ β):=jD β h 30 [[.q],[.q],[.q]] 4 { nz:=[y1],sg:=[(y0,0),(y1,s)] } 1 xS Q3 [.div (.neg y2) y1,.c 0,.c 0] true 256
theorem Xu {β:Nat→Rat} {h:Hint} (ok:h.Ok β):(rQ2 1 β h).Ok Tryz.prog (SQ β) EV:=jl ok (by decide) fun γ g=>⟨{ nz:=[y1],sg:=[(y0,0),(y1,1)] },g,1,d1p γ { nz:=[y1],sg:=[(y0,0),(y1,1)] },iG g,by kernel_rfl⟩
theorem Xt {β:Nat→Rat} {h:Hint} (ok:h.Ok β):(rQ2 (-1) β h).Ok Tryz.prog (SQ β) EV:=jl ok (by decide) fun γ g=>⟨{ nz:=[y1],sg:=[(y0,0),(y1,(-1))] },g,1,d1p γ { nz:=[y1],sg:=[(y0,0),(y1,(-1))] },iG g,by kernel_rfl⟩
def rQ3 (s:Int) (β:Nat→Rat) (h:Hint):Con (SQ β):=aI β h 30 [[.q],[.q],[.q]] 4 { nz:=[rD],sg:=[(y0,s),(rU,-1)] } (.ks [.z,.i 0]) 256
theorem Xw {β:Nat→Rat} {h:Hint} (ok:h.Ok β):(rQ3 1 β h).Ok Tryz.prog (SQ β) EV:=dL ok (by decide) fun γ g=>⟨{ nz:=[rD],sg:=[(y0,1),(rU,-1)] },g,1,d1p γ { nz:=[rD],sg:=[(y0,1),(rU,-1)] },iG g,by kernel_rfl⟩
theorem Xv {β:Nat→Rat} {h:Hint} (ok:h.Ok β):(rQ3 (-1) β h).Ok Tryz.prog (SQ β) EV:=dL ok (by decide) fun γ g=>⟨{ nz:=[rD],sg:=[(y0,(-1)),(rU,-1)] },g,1,d1p γ { nz:=[rD],sg:=[(y0,(-1)),(rU,-1)] },iG g,by kernel_rfl⟩
def rQ4 (s:Int) (β:Nat→Rat) (h:Hint):Con (SQ β):=jD β h 30 [[.q],[.q],[.q]] 4 { nz:=[rD],sg:=[(y0,s),(rU,0)] } 1 xS Q3 [rM,.c 0,.c 0] true 256
theorem Xy {β:Nat→Rat} {h:Hint} (ok:h.Ok β):(rQ4 1 β h).Ok Tryz.prog (SQ β) EV:=jl ok (by decide) fun γ g=>⟨{ nz:=[rD],sg:=[(y0,1),(rU,0)] },g,1,d1p γ { nz:=[rD],sg:=[(y0,1),(rU,0)] },iG g,by kernel_rfl⟩
theorem Xx {β:Nat→Rat} {h:Hint} (ok:h.Ok β):(rQ4 (-1) β h).Ok Tryz.prog (SQ β) EV:=jl ok (by decide) fun γ g=>⟨{ nz:=[rD],sg:=[(y0,(-1)),(rU,0)] },g,1,d1p γ { nz:=[rD],sg:=[(y0,(-1)),(rU,0)] },iG g,by kernel_rfl⟩
def rQ5 (s:Int) (β:Nat→Rat) (h:Hint):Con (SQ β):=jD β h 30 [[.q],[.q],[.q]] 4 { eq:=[(sq2 (.num rU),.num rU),(sq2 (.den rU),.den rU)],nz:=[rD],sg:=[(y0,s),(rU,1),(rH,1),(.neg rH,-1)] } 2 xS (Q3 ++ Q3) [.add rM (.mul (.neg rH) (rtE rU)),.c 0,.c 0,.add rM (.mul rH (rtE rU)),.c 0,.c 0] true 256
theorem XA {β:Nat→Rat} {h:Hint} (ok:h.Ok β):(rQ5 1 β h).Ok Tryz.prog (SQ β) EV:=jl ok (by decide) fun γ g=>⟨{ eq:=[(sq2 (.num rU),.num rU),(sq2 (.den rU),.den rU)],nz:=[rD],sg:=[(y0,1),(rU,1),(rH,1),(.neg rH,-1)] },g,1,d1p γ { eq:=[(sq2 (.num rU),.num rU),(sq2 (.den rU),.den rU)],nz:=[rD],sg:=[(y0,1),(rU,1),(rH,1),(.neg rH,-1)] },iG g,by kernel_rfl⟩
theorem Xz {β:Nat→Rat} {h:Hint} (ok:h.Ok β):(rQ5 (-1) β h).Ok Tryz.prog (SQ β) EV:=jl ok (by decide) fun γ g=>⟨{ eq:=[(sq2 (.num rU),.num rU),(sq2 (.den rU),.den rU)],nz:=[rD],sg:=[(y0,(-1)),(rU,1),(rH,1),(.neg rH,-1)] },g,1,d1p γ { eq:=[(sq2 (.num rU),.num rU),(sq2 (.den rU),.den rU)],nz:=[rD],sg:=[(y0,(-1)),(rU,1),(rH,1),(.neg rH,-1)] },iG g,by kernel_rfl⟩
def rQ6 (s:Int) (n:Bool) (β:Nat→Rat) (h:Hint):Con (SQ β):=jD β h 30 [[.q],[.q],[.q]] 4 { ne:=[noS n rU],nz:=[rD,.den rU],sg:=[(y0,s),(rU,1),(rH,1),(.neg rH,-1)] } 2 xS (Q3 ++ Q3) [rM,.div (.neg rH) (.den rU),.mul (.num rU) (.den rU),rM,.div rH (.den rU),.mul (.num rU) (.den rU)] true 256
theorem XE {β:Nat→Rat} {h:Hint} (ok:h.Ok β):(rQ6 1 true β h).Ok Tryz.prog (SQ β) EV:=jl ok (by decide) fun γ g=>⟨{ ne:=[noS true rU],nz:=[rD,.den rU],sg:=[(y0,1),(rU,1),(rH,1),(.neg rH,-1)] },g,1,d1p γ { ne:=[noS true rU],nz:=[rD,.den rU],sg:=[(y0,1),(rU,1),(rH,1),(.neg rH,-1)] },iG g,by kernel_rfl⟩
theorem XD {β:Nat→Rat} {h:Hint} (ok:h.Ok β):(rQ6 1 false β h).Ok Tryz.prog (SQ β) EV:=jl ok (by decide) fun γ g=>⟨{ ne:=[noS false rU],nz:=[rD,.den rU],sg:=[(y0,1),(rU,1),(rH,1),(.neg rH,-1)] },g,1,d1p γ { ne:=[noS false rU],nz:=[rD,.den rU],sg:=[(y0,1),(rU,1),(rH,1),(.neg rH,-1)] },iG g,by kernel_rfl⟩
theorem XC {β:Nat→Rat} {h:Hint} (ok:h.Ok β):(rQ6 (-1) true β h).Ok Tryz.prog (SQ β) EV:=jl ok (by decide) fun γ g=>⟨{ ne:=[noS true rU],nz:=[rD,.den rU],sg:=[(y0,(-1)),(rU,1),(rH,1),(.neg rH,-1)] },g,1,d1p γ { ne:=[noS true rU],nz:=[rD,.den rU],sg:=[(y0,(-1)),(rU,1),(rH,1),(.neg rH,-1)] },iG g,by kernel_rfl⟩
theorem XB {β:Nat→Rat} {h:Hint} (ok:h.Ok β):(rQ6 (-1) false β h).Ok Tryz.prog (SQ β) EV:=jl ok (by decide) fun γ g=>⟨{ ne:=[noS false rU],nz:=[rD,.den rU],sg:=[(y0,(-1)),(rU,1),(rH,1),(.neg rH,-1)] },g,1,d1p γ { ne:=[noS false rU],nz:=[rD,.den rU],sg:=[(y0,(-1)),(rU,1),(rH,1),(.neg rH,-1)] },iG g,by kernel_rfl⟩
def fQ1 (β:Nat→Rat) (h:Hint):Con (SQ β):=aI β h 31 [[.r],[.r],[.r]] 4 { sg:=[(y0,0),(y1,0)] } (.ks [.z]) 256
def fQ2 (s:Int) (β:Nat→Rat) (h:Hint):Con (SQ β):=jD β h 31 [[.r],[.r],[.r]] 4 { nz:=[y1],sg:=[(y0,0),(y1,s)] } 1 fS R1 [.neg (.div y2 y1),.c 0,.c 0] false 256
def fQ3 (s:Int) (β:Nat→Rat) (h:Hint):Con (SQ β):=aI β h 31 [[.r],[.r],[.r]] 4 { nz:=[sT],sg:=[(y0,s),(sU,-1)] } (.ks [.z]) 256
def fQ4 (s:Int) (β:Nat→Rat) (h:Hint):Con (SQ β):=jD β h 31 [[.r],[.r],[.r]] 4 { nz:=[sT],sg:=[(y0,s),(sU,0)] } 1 fS R1 [sM,.c 0,.c 0] false 256
def fQ5 (s:Int) (β:Nat→Rat) (h:Hint):Con (SQ β):=jD β h 31 [[.r],[.r],[.r]] 4 { eq:=[(sq2 (.num sU),.num sU),(sq2 (.den sU),.den sU)],nz:=[sT],sg:=[(y0,s),(sU,1),(sH,1),(.neg sH,-1)] } 2 fS (R1 ++ R1) [.add sM (.mul (.neg sH) (rtE sU)),.c 0,.c 0,.add sM (.mul sH (rtE sU)),.c 0,.c 0] false 256
def fQ6 (s:Int) (n:Bool) (β:Nat→Rat) (h:Hint):Con (SQ β):=jD β h 31 [[.r],[.r],[.r]] 4 { ne:=[noS n sU],nz:=[sT,.den sU],sg:=[(y0,s),(sU,1),(sH,1),(.neg sH,-1)] } 2 fS (R3 ++ R3) [sM,.div (.neg sH) (.den sU),.mul (.num sU) (.den sU),sM,.div sH (.den sU),.mul (.num sU) (.den sU)] false 256
def TV (β:Nat→Rat) (h:Hint):Con (SQ β):=aI β h 32 [Q3,R3] K1 { eq:=[(y0,y3),(y1,y4),(y2,y5)] } (.bl true) K1
def TW (β:Nat→Rat) (h:Hint):Con (SQ β):=aI β h 32 [Q3,R1] K1 { eq:=[(y0,y3),(y1,.c 0),(y2,.c 0)] } (.bl true) K1
def d2p (β:Nat→Rat) (h:Hint):List (Con (SQ β)):=rQ0 β h :: rQ1 1 β h :: rQ1 (-1) β h :: rQ2 1 β h :: rQ2 (-1) β h :: rQ3 1 β h :: rQ3 (-1) β h :: rQ4 1 β h :: rQ4 (-1) β h :: rQ5 1 β h :: rQ5 (-1) β h :: rQ6 1 true β h :: rQ6 1 false β h :: rQ6 (-1) true β h :: rQ6 (-1) false β h :: cq β h
theorem Qg {β:Nat→Rat} {h:Hint} (ok:h.Ok β):∀ c∈d2p β h,c.Ok Tryz.prog (SQ β) EV:=by
 unfold d2p
 simp only [List.forall_mem_cons]
 exact ⟨Xp ok,Xr ok,Xq ok,Xu ok,Xt ok,Xw ok,Xv ok,Xy ok,Xx ok,XA ok,Xz ok,XE ok,XD ok,XC ok,XB ok,iO ok⟩
def d2 (β:Nat→Rat) (h:Hint):List (Con (SQ β)):=TV β h :: TW β h :: rQ0 β h :: rQ1 1 β h :: rQ1 (-1) β h :: rQ2 1 β h :: rQ2 (-1) β h :: rQ3 1 β h :: rQ3 (-1) β h :: rQ4 1 β h :: rQ4 (-1) β h :: rQ5 1 β h :: rQ5 (-1) β h :: rQ6 1 true β h :: rQ6 1 false β h :: rQ6 (-1) true β h :: rQ6 (-1) false β h :: fQ1 β h :: fQ2 1 β h :: fQ2 (-1) β h :: fQ3 1 β h :: fQ3 (-1) β h :: fQ4 1 β h :: fQ4 (-1) β h :: fQ5 1 β h :: fQ5 (-1) β h :: fQ6 1 true β h :: fQ6 1 false β h :: fQ6 (-1) true β h :: fQ6 (-1) false β h :: c1 β h
end Rx
namespace Rx
open Go.RowKit
abbrev y6:RE:=.v 6
abbrev KS:Nat:=16384
theorem vH {β:Nat→Rat} {ρ:Env} {W:World} {db:List Fc} {ins:List (List At)} {args:List SV} {xs:List (RE×Nat)} {kin:Nat} {es:List RE} (hf:∀ f∈db,(SQ β).on ρ f W) (hx:gK db ins args=some xs) (hk:∀ x∈xs,x.2≤kin) (hes:xs.map (·.1)=es) :
  ∃ ρ0:Env,(iW ins 0).map (SV.den ρ0)=args.map (SV.den ρ)∧∀ f∈bY ins.flatten 0 (vars kin 0 ins.flatten.length),(SQ (put β es)).on ρ0 f W:=by
 obtain ⟨L,hL,hn⟩:=zf hf hx
 obtain ⟨h1,h2⟩:=hn (fun i=>L[i]?.getD default) 0 (fun i hi=>by simp)
 have hlen:=zF hx
 have h3:=h2 (put β es) (vars kin 0 ins.flatten.length) (by
  rw [← hlen]
  refine Ak fun j x hj=>⟨?_,hk x (List.mem_of_getElem? hj)⟩
  rw [← hes,Nat.zero_add,List.getD_eq_getElem?_getD,List.getElem?_map,hj];rfl)
 exact ⟨_,h1,h3⟩
def sgV (a b d o:Int):Int:=if b*d=0 then a else if a=0∨a=b*d then b*d else a*o
def sgS (A B D:Rat):Int:=sgV (sgQ A) (sgQ B) (sgQ D) (aS (A*A) (B*B*D))
def lN (p q o x d:Int):Int:=
 if (if p=0 then q else if q = -p then p*o else p)=0 then x else
 if x=0∨x=(if p=0 then q else if q = -p then p*o else p) then (if p=0 then q else if q = -p then p*o else p) else x*d
def gB (x B D B' D':Rat):Int:=
 lN (sgS 0 B D) (sgS 0 B' D') (aS (B*B*D) (B' * B' * D')) (sgQ x) (sgS (x*x - B*B*D - B' * B' * D') (-(B*B' + B*B')) (D*D'))
abbrev sqR (b d:RE):RE:=.mul (.mul b b) d
def IE (β:Nat→Rat) (h:Hint):Con (SQ β):=aI β h 140 [Q3] KS {} (.at [.q] [sqR y1 y2]) K1
theorem Ua {β:Nat→Rat} {h:Hint} (ok:h.Ok β):(IE β h).Ok Tryz.prog (SQ β) EV:=dL ok (by decide) fun γ g=>⟨{},g,1,cq γ {},iO g,by kernel_rfl⟩
def IG (β:Nat→Rat) (h:Hint):Con (SQ β):=aI β h 140 [Q3] K3 {} (.at [.q] [sqR y1 y2]) 3072
theorem Ub {β:Nat→Rat} {h:Hint} (ok:h.Ok β):(IG β h).Ok Tryz.prog (SQ β) EV:=dL ok (by decide) fun γ g=>⟨{},g,1,cq γ {},iO g,by kernel_rfl⟩
def e0 (β:Nat→Rat) (h:Hint):List (Con (SQ β)):=IE β h :: cq β h
theorem H7 {β:Nat→Rat} {h:Hint} (ok:h.Ok β):∀ c∈e0 β h,c.Ok Tryz.prog (SQ β) EV:=by
 unfold e0
 simp only [List.forall_mem_cons]
 exact ⟨Ua ok,iO ok⟩
def i3:List Int:=[-1,0,1]
theorem mem3 {x:Int} (h:x = -1∨x=0∨x=1):x∈i3:=by
 rcases h with rfl | rfl | rfl <;> decide
def sgH (a b d o:Int):Hint:={ sg:=[(y0,a),(y1,b),(y2,d)],cm:=[(.mul y0 y0,sqR y1 y2,o)] }
theorem YD (β:Nat→Rat):(i3.all fun a=>i3.all fun b=>i3.all fun d=>i3.all fun o=>isI (sgV a b d o) (aT Tryz.prog (SQ β) (HQ β {} (jc β)) (e0 β (sgH a b d o)) 1 99 (iW [Q3] 0) (bY Q3 0 (vars KS 0 3)) 6))=true:=by kernel_rfl
abbrev SgL:=List (RE×RE×RE×Int)
def jB (β:Nat→Rat) (L:SgL):Prop:=∀ p∈L,sgS (p.1.ev β) (p.2.1.ev β) (p.2.2.1.ev β)=p.2.2.2
def Di (L:SgL) (a b d:RE):Option Int:=(L.find? fun p=>p.1.beq a && p.2.1.beq b && p.2.2.1.beq d).map (·.2.2.2)
theorem Il {β:Nat→Rat} {L:SgL} (ok:jB β L) {a b d:RE} {n:Int} (h:Di L a b d=some n):sgS (a.ev β) (b.ev β) (d.ev β)=n:=by
 obtain ⟨p,hp,rfl⟩:=Option.map_eq_some_iff.1 h
 have h1:=List.find?_some hp
 simp only [Bool.and_eq_true] at h1
 rw [← RE.beq_eq h1.1.1,← RE.beq_eq h1.1.2,← RE.beq_eq h1.2]
 exact ok p (List.mem_of_find?_eq_some hp)
def vI (db:List Fc) (args:List SV):Option (RE×RE×RE):=match gK db [Q3] args with
 | some [(a,k),(b,k'),(d,k'')]=>if decide (k≤KS) && decide (k'≤KS) && decide (k''≤KS) then some (a,b,d) else none
 | _=>none
theorem Ef {db:List Fc} {args:List SV} {a b d:RE} (h:vI db args=some (a,b,d)):∃ xs,gK db [Q3] args=some xs∧(∀ x∈xs,x.2≤KS)∧xs.map (·.1)=[a,b,d]:=by
 unfold vI at h
 split at h
 ·rename_i a' k b' k' d' k'' hx
  split at h
  ·rename_i hh
   simp only [Bool.and_eq_true,decide_eq_true_eq] at hh
   cases h
   refine ⟨_,hx,?_,rfl⟩
   simp only [List.forall_mem_cons,List.not_mem_nil,false_imp_iff,implies_true,and_true]
   exact ⟨hh.1.1,hh.1.2,hh.2⟩
  ·cases h
 ·cases h
def xG (β:Nat→Rat) (L:SgL):Con (SQ β) where
 fn:=99
 app:=fun db _ args=>match vI db args with
  | some (a,b,d)=>match Di L a b d with
   | some n=>some (.e (.s (.it .i64 n)),[])
   | none=>none
  | none=>none
theorem G7 {β:Nat→Rat} {L:SgL} (ok:jB β L):(xG β L).Ok Tryz.prog (SQ β) EV:=by
 refine Con.ok0 rfl ?_
 intro db b args res new ha ρ W hf hE
 simp only [xG] at ha
 split at ha
 ·rename_i a c d hx
  split at ha
  ·rename_i n hn
   cases ha
   obtain ⟨xs,h1,h2,h3⟩:=Ef hx
   obtain ⟨ρ0,g1,g2⟩:=vH hf h1 h2 h3
   rw [← g1]
   have hv:=Il ok hn
   have hr:=YD (put β [a,c,d])
   have hq:=List.all_eq_true.1 (List.all_eq_true.1 (List.all_eq_true.1 (List.all_eq_true.1 hr _ (mem3 (sg3 (a.ev β)))) _ (mem3 (sg3 (c.ev β)))) _ (mem3 (sg3 (d.ev β)))) _ (mem3 (oM (a.ev β*a.ev β) (c.ev β*c.ev β*d.ev β)))
   rw [show sgV (sgQ (a.ev β)) (sgQ (c.ev β)) (sgQ (d.ev β)) (aS (a.ev β*a.ev β) (c.ev β*c.ev β*d.ev β))=n from hv] at hq
   obtain ⟨fs',heq⟩:=IZ hq
   have okh:(sgH (sgQ (a.ev β)) (sgQ (c.ev β)) (sgQ (d.ev β)) (aS (a.ev β*a.ev β) (c.ev β*c.ev β*d.ev β))).Ok (put β [a,c,d]):=⟨fun p h=>(by cases h),fun p h=>(by cases h),fun p h=>(by cases h),by
    simp only [sgH,List.forall_mem_cons,List.not_mem_nil,false_imp_iff,implies_true,and_true]
    exact ⟨rfl,rfl,rfl⟩,fun p hp=>by obtain rfl:=List.mem_singleton.1 hp;rfl⟩
   exact (gy mixed (H7 okh) heq (iJ hE) g2).mono fun x W' ⟨ρ',_,hx',hb,_⟩=>⟨ρ,fun _ _=>rfl,by rw [hx'];rfl,hb,fun g hg=>by cases hg⟩
  ·cases ha
 ·cases ha
def iD (β:Nat→Rat) (L:List RE):Prop:=∀ e∈L,sgQ (e.ev β)=0∨sgQ (e.ev β)=1
def uN (β:Nat→Rat) (L:List RE):Con (SQ β) where
 fn:=98
 app:=fun db _ args=>match vI db args with
  | some (_,_,d)=>if L.any (·.beq d) then some (.e (.s (.bl true)),[]) else none
  | none=>none
theorem Rk (β:Nat→Rat):([(0:Int),1].all fun s=>isB true (aT Tryz.prog (SQ β) (HQ β {} (jc β)) (cq β { sg:=[(y2,s)] }) 1 98 (iW [Q3] 0) (bY Q3 0 (vars KS 0 3)) 6))=true:=by kernel_rfl
theorem Ce {β:Nat→Rat} {L:List RE} (ok:iD β L):(uN β L).Ok Tryz.prog (SQ β) EV:=by
 refine Con.ok0 rfl ?_
 intro db b args res new ha ρ W hf hE
 simp only [uN] at ha
 split at ha
 ·rename_i a c d hx
  split at ha
  ·rename_i hn
   cases ha
   obtain ⟨xs,h1,h2,h3⟩:=Ef hx
   obtain ⟨ρ0,g1,g2⟩:=vH hf h1 h2 h3
   rw [← g1]
   obtain ⟨e,he,hb⟩:=List.any_eq_true.1 hn
   have hs:=ok e he
   rw [RE.beq_eq hb] at hs
   have hm:sgQ (d.ev β)∈[(0:Int),1]:=by simp [hs]
   obtain ⟨fs',heq⟩:=Dx (List.all_eq_true.1 (Rk (put β [a,c,d])) _ hm)
   have okh:Hint.Ok (put β [a,c,d]) { sg:=[(y2,sgQ (d.ev β))] }:=⟨fun p h=>(by cases h),fun p h=>(by cases h),fun p h=>(by cases h),fun p hp=>(by obtain rfl:=List.mem_singleton.1 hp;rfl),fun p h=>(by cases h)⟩
   exact (gy mixed (iO okh) heq (iJ hE) g2).mono fun x W' ⟨ρ',_,hx',hb,_⟩=>⟨ρ,fun _ _=>rfl,by rw [hx'];rfl,hb,fun g hg=>by cases hg⟩
  ·cases ha
 ·cases ha
abbrev sdA:RE:=.sub (.sub (.mul y0 y0) (sqR y2 y3)) (sqR y5 y6)
abbrev sdB:RE:=.neg (.add (.mul y2 y5) (.mul y2 y5))
abbrev sdD:RE:=.mul y3 y6
abbrev smI:List (List At):=[[.q],Q3,Q3]
def smL (p q d:Int):SgL:=[(y1,y2,y3,p),(y4,y5,y6,q),(sdA,sdB,sdD,d)]
def smH (o x:Int):Hint:={ sg:=[(y0,x)],cm:=[(sqR y2 y3,sqR y5 y6,o)] }
def e1 (β:Nat→Rat) (h:Hint) (L:SgL):List (Con (SQ β)):=xG β L :: IG β h :: e0 β h
theorem QL {β:Nat→Rat} {h:Hint} {L:SgL} (ok:h.Ok β) (okL:jB β L):∀ c∈e1 β h L,c.Ok Tryz.prog (SQ β) EV:=by
 unfold e1
 simp only [List.forall_mem_cons]
 exact ⟨G7 okL,Ub ok,H7 ok⟩
def Sum3 (p:Int):Prop:=∀ β:Nat→Rat,(i3.all fun q=>i3.all fun o=>i3.all fun x=>i3.all fun d=>isI (lN p q o x d) (aT Tryz.prog (SQ β) (HQ β {} (jc β)) (e1 β (smH o x) (smL p q d)) 1 103 (iW smI 0) (bY smI.flatten 0 (vars K3 0 7)) 14))=true
theorem Zb:Sum3 (-1):=fun β=>by kernel_rfl
theorem Zc:Sum3 0:=fun β=>by kernel_rfl
theorem Zd:Sum3 1:=fun β=>by kernel_rfl
end Rx
namespace Rx
open Go.RowKit
theorem Yy {a b d o:Int} (ha:a = -1∨a=0∨a=1) (hb:b = -1∨b=0∨b=1) (hd:d = -1∨d=0∨d=1) (ho:o = -1∨o=0∨o=1):sgV a b d o = -1∨sgV a b d o=0∨sgV a b d o=1:=by
 rcases ha with rfl | rfl | rfl <;> rcases hb with rfl | rfl | rfl <;> rcases hd with rfl | rfl | rfl <;> rcases ho with rfl | rfl | rfl <;> decide
theorem ql (A B D:Rat):sgS A B D = -1∨sgS A B D=0∨sgS A B D=1:=Yy (sg3 _) (sg3 _) (sg3 _) (oM _ _)
abbrev SmL:=List ((RE×RE×RE×RE×RE)×Int)
def wS (β:Nat→Rat) (L:SmL):Prop:=∀ p∈L,gB (p.1.1.ev β) (p.1.2.1.ev β) (p.1.2.2.1.ev β) (p.1.2.2.2.1.ev β) (p.1.2.2.2.2.ev β)=p.2
def Ik (L:SmL) (x b d b' d':RE):Option Int:=(L.find? fun p=>p.1.1.beq x && p.1.2.1.beq b && p.1.2.2.1.beq d && p.1.2.2.2.1.beq b' && p.1.2.2.2.2.beq d').map (·.2)
theorem RF {β:Nat→Rat} {L:SmL} (ok:wS β L) {x b d b' d':RE} {n:Int} (h:Ik L x b d b' d' = some n):gB (x.ev β) (b.ev β) (d.ev β) (b'.ev β) (d'.ev β)=n:=by
 obtain ⟨p,hp,rfl⟩:=Option.map_eq_some_iff.1 h
 have h1:=List.find?_some hp
 simp only [Bool.and_eq_true] at h1
 rw [← RE.beq_eq h1.1.1.1.1,← RE.beq_eq h1.1.1.1.2,← RE.beq_eq h1.1.1.2,← RE.beq_eq h1.1.2,← RE.beq_eq h1.2]
 exact ok p (List.mem_of_find?_eq_some hp)
def Aq:RE→Bool
 | .c 0=>true
 | _=>false
theorem MZ {β:Nat→Rat} {e:RE} (h:Aq e=true):e.ev β=0:=by
 unfold Aq at h
 split at h
 ·rfl
 ·cases h
def CJ (β:Nat→Rat) (L:SmL):Con (SQ β) where
 fn:=103
 app:=fun db _ args=>match gK db smI args with
  | some xs=>match xs with
   | [x,a,b,d,a',b',d']=>if xs.all (fun z=>decide (z.2≤K3)) && Aq a.1 && Aq a'.1 then (match Ik L x.1 b.1 d.1 b'.1 d'.1 with
    | some n=>some (.e (.s (.it .i64 n)),[])
    | none=>none) else none
   | _=>none
  | none=>none
theorem Ze (β:Nat→Rat) {p q o x d:Int} (hp:p = -1∨p=0∨p=1) (hq:q = -1∨q=0∨q=1) (ho:o = -1∨o=0∨o=1) (hx:x = -1∨x=0∨x=1) (hd:d = -1∨d=0∨d=1) :
  isI (lN p q o x d) (aT Tryz.prog (SQ β) (HQ β {} (jc β)) (e1 β (smH o x) (smL p q d)) 1 103 (iW smI 0) (bY smI.flatten 0 (vars K3 0 7)) 14)=true:=by
 have key:∀ {p:Int},Sum3 p→isI (lN p q o x d) (aT Tryz.prog (SQ β) (HQ β {} (jc β)) (e1 β (smH o x) (smL p q d)) 1 103 (iW smI 0) (bY smI.flatten 0 (vars K3 0 7)) 14)=true:=fun h =>
  List.all_eq_true.1 (List.all_eq_true.1 (List.all_eq_true.1 (List.all_eq_true.1 (h β) _ (mem3 hq)) _ (mem3 ho)) _ (mem3 hx)) _ (mem3 hd)
 rcases hp with rfl | rfl | rfl
 ·exact key Zb
 ·exact key Zc
 ·exact key Zd
theorem PY {β:Nat→Rat} {L:SmL} (ok:wS β L):(CJ β L).Ok Tryz.prog (SQ β) EV:=by
 refine Con.ok0 rfl ?_
 intro db b args res new ha ρ W hf hE
 simp only [CJ] at ha
 split at ha
 ·rename_i xs h1
  split at ha
  ·rename_i x a c d a' c' d'
   split at ha
   ·rename_i hh
    simp only [Bool.and_eq_true] at hh
    split at ha
    ·rename_i n hn
     cases ha
     obtain ⟨ρ0,g1,g2⟩:=vH (es:=[x.1,a.1,c.1,d.1,a'.1,c'.1,d'.1]) (kin:=K3) hf h1 (fun z hz=>of_decide_eq_true (List.all_eq_true.1 hh.1.1 z hz)) rfl
     rw [← g1]
     have hv:=RF ok hn
     have z1:=MZ (β:=β) hh.1.2
     have z2:=MZ (β:=β) hh.2
     have okL:jB (put β [x.1,a.1,c.1,d.1,a'.1,c'.1,d'.1]) (smL (sgS 0 (c.1.ev β) (d.1.ev β)) (sgS 0 (c'.1.ev β) (d'.1.ev β)) (sgS (x.1.ev β*x.1.ev β - c.1.ev β*c.1.ev β*d.1.ev β - c'.1.ev β*c'.1.ev β*d'.1.ev β) (-(c.1.ev β*c'.1.ev β+c.1.ev β*c'.1.ev β)) (d.1.ev β*d'.1.ev β))):=by
      unfold jB smL
      simp only [List.forall_mem_cons,List.not_mem_nil,false_imp_iff,implies_true,and_true]
      refine ⟨?_,?_,rfl⟩
      ·show sgS (a.1.ev β) (c.1.ev β) (d.1.ev β)=_
       rw [z1]
      ·show sgS (a'.1.ev β) (c'.1.ev β) (d'.1.ev β)=_
       rw [z2]
     have okh:(smH (aS (c.1.ev β*c.1.ev β*d.1.ev β) (c'.1.ev β*c'.1.ev β*d'.1.ev β)) (sgQ (x.1.ev β))).Ok (put β [x.1,a.1,c.1,d.1,a'.1,c'.1,d'.1]):=
      ⟨fun p h=>(by cases h),fun p h=>(by cases h),fun p h=>(by cases h),fun p hp=>(by obtain rfl:=List.mem_singleton.1 hp;rfl),fun p hp=>(by obtain rfl:=List.mem_singleton.1 hp;rfl)⟩
     have hq:=Ze (put β [x.1,a.1,c.1,d.1,a'.1,c'.1,d'.1]) (ql 0 (c.1.ev β) (d.1.ev β)) (ql 0 (c'.1.ev β) (d'.1.ev β)) (oM (c.1.ev β*c.1.ev β*d.1.ev β) (c'.1.ev β*c'.1.ev β*d'.1.ev β)) (sg3 (x.1.ev β)) (ql (x.1.ev β*x.1.ev β - c.1.ev β*c.1.ev β*d.1.ev β - c'.1.ev β*c'.1.ev β*d'.1.ev β) (-(c.1.ev β*c'.1.ev β+c.1.ev β*c'.1.ev β)) (d.1.ev β*d'.1.ev β))
     have hv':lN _ _ _ _ _=n:=hv
     rw [hv'] at hq
     obtain ⟨fs',heq⟩:=IZ hq
     exact (gy mixed (QL okh okL) heq (iJ hE) g2).mono fun y W' ⟨ρ',_,hx',hb,_⟩=>⟨ρ,fun _ _=>rfl,by rw [hx'];rfl,hb,fun g hg=>by cases hg⟩
    ·cases ha
   ·cases ha
  ·cases ha
 ·cases ha
abbrev cmL (n:Int):SmL:=[((.sub y0 y3,y1,y2,.neg y4,y5),n)]
def e2 (β:Nat→Rat) (L:SmL) (N:List RE):List (Con (SQ β)):=CJ β L :: uN β N :: cq β {}
theorem QM {β:Nat→Rat} {L:SmL} {N:List RE} (okL:wS β L) (okN:iD β N):∀ c∈e2 β L N,c.Ok Tryz.prog (SQ β) EV:=by
 unfold e2
 simp only [List.forall_mem_cons]
 exact ⟨PY okL,Ce okN,iO (jc _)⟩
def zu:Option (SV×List Fc)→Option Int
 | some (.t [.s (.it .i64 m),.s (.it .i64 0)],_)=>some m
 | _=>none
theorem JO {n:Int} {o:Option (SV×List Fc)} (h:zu o=some n):∃ fs,o=some (.t [.s (.it .i64 n),.s (.it .i64 0)],fs):=by
 unfold zu at h
 split at h
 ·rename_i m fs
  cases h;exact ⟨fs,rfl⟩
 ·cases h
theorem O1 (β:Nat→Rat) (n:Int):zu (aT Tryz.prog (SQ β) (HQ β {} (jc β)) (e2 β (cmL n) [y2,y5]) 1 63 (iW [Q3,Q3] 0) (bY [Q3,Q3].flatten 0 (vars 256 0 6)) 12)=some n:=by kernel_rfl
abbrev CmL:=List ((RE×RE×RE)×(RE×RE×RE)×Int)
def lW (β:Nat→Rat) (L:CmL):Prop:=∀ p∈L,gB (p.1.1.ev β - p.2.1.1.ev β) (p.1.2.1.ev β) (p.1.2.2.ev β) (-p.2.1.2.1.ev β) (p.2.1.2.2.ev β)=p.2.2
def xk (x y:RE×RE×RE):Bool:=x.1.beq y.1 && x.2.1.beq y.2.1 && x.2.2.beq y.2.2
theorem Gn {x y:RE×RE×RE} (h:xk x y=true):x=y:=by
 obtain ⟨a,b,c⟩:=x
 obtain ⟨a',b',c'⟩:=y
 simp only [xk,Bool.and_eq_true] at h
 rw [RE.beq_eq h.1.1,RE.beq_eq h.1.2,RE.beq_eq h.2]
def Ij (L:CmL) (x y:RE×RE×RE):Option Int:=(L.find? fun p=>xk p.1 x && xk p.2.1 y).map (·.2.2)
theorem RD {β:Nat→Rat} {L:CmL} (ok:lW β L) {x y:RE×RE×RE} {n:Int} (h:Ij L x y=some n):gB (x.1.ev β - y.1.ev β) (x.2.1.ev β) (x.2.2.ev β) (-y.2.1.ev β) (y.2.2.ev β)=n:=by
 obtain ⟨p,hp,rfl⟩:=Option.map_eq_some_iff.1 h
 have h1:=List.find?_some hp
 simp only [Bool.and_eq_true] at h1
 have h2:=ok p (List.mem_of_find?_eq_some hp)
 rw [Gn h1.1,Gn h1.2] at h2
 exact h2
def Cb (β:Nat→Rat) (L:CmL) (N:List RE):Con (SQ β) where
 fn:=63
 app:=fun db _ args=>match gK db [Q3,Q3] args with
  | some xs=>match xs with
   | [a,b,d,a',b',d']=>if xs.all (fun z=>decide (z.2≤256)) && N.any (·.beq d.1) && N.any (·.beq d'.1) then (match Ij L (a.1,b.1,d.1) (a'.1,b'.1,d'.1) with
    | some n=>some (.t [.s (.it .i64 n),.s (.it .i64 0)],[])
    | none=>none) else none
   | _=>none
  | none=>none
theorem zk {β:Nat→Rat} {N:List RE} (ok:iD β N) {d:RE} (h:N.any (·.beq d)=true):sgQ (d.ev β)=0∨sgQ (d.ev β)=1:=by
 obtain ⟨e,he,hb⟩:=List.any_eq_true.1 h
 have:=ok e he
 rwa [RE.beq_eq hb] at this
theorem Po {β:Nat→Rat} {L:CmL} {N:List RE} (ok:lW β L) (okN:iD β N):(Cb β L N).Ok Tryz.prog (SQ β) EV:=by
 refine Con.ok0 rfl ?_
 intro db b args res new ha ρ W hf hE
 simp only [Cb] at ha
 split at ha
 ·rename_i xs h1
  split at ha
  ·rename_i a c d a' c' d'
   split at ha
   ·rename_i hh
    simp only [Bool.and_eq_true] at hh
    split at ha
    ·rename_i n hn
     cases ha
     obtain ⟨ρ0,g1,g2⟩:=vH (es:=[a.1,c.1,d.1,a'.1,c'.1,d'.1]) (kin:=256) hf h1 (fun z hz=>of_decide_eq_true (List.all_eq_true.1 hh.1.1 z hz)) rfl
     rw [← g1]
     have hv:=RD ok hn
     have okL:wS (put β [a.1,c.1,d.1,a'.1,c'.1,d'.1]) (cmL n):=fun p hp=>by
      obtain rfl:=List.mem_singleton.1 hp
      exact hv
     have okN':iD (put β [a.1,c.1,d.1,a'.1,c'.1,d'.1]) [y2,y5]:=by
      unfold iD
      simp only [List.forall_mem_cons,List.not_mem_nil,false_imp_iff,implies_true,and_true]
      exact ⟨zk okN hh.1.2,zk okN hh.2⟩
     obtain ⟨fs',heq⟩:=JO (O1 (put β [a.1,c.1,d.1,a'.1,c'.1,d'.1]) n)
     exact (gy mixed (QM okL okN') heq (iJ hE) g2).mono fun y W' ⟨ρ',_,hx',hb,_⟩=>⟨ρ,fun _ _=>rfl,by rw [hx'];rfl,hb,fun g hg=>by cases hg⟩
    ·cases ha
   ·cases ha
  ·cases ha
 ·cases ha
def e3 (β:Nat→Rat) (L:SgL) (N:List RE):List (Con (SQ β)):=xG β L :: uN β N :: cq β {}
theorem QN {β:Nat→Rat} {L:SgL} {N:List RE} (okL:jB β L) (okN:iD β N):∀ c∈e3 β L N,c.Ok Tryz.prog (SQ β) EV:=by
 unfold e3
 simp only [List.forall_mem_cons]
 exact ⟨G7 okL,Ce okN,iO (jc _)⟩
theorem YT (β:Nat→Rat) (n:Int):zu (aT Tryz.prog (SQ β) (HQ β {} (jc β)) (e3 β [(y0,y1,y2,n)] [y2]) 1 60 (iW [Q3] 0) (bY [Q3].flatten 0 (vars KS 0 3)) 6)=some n:=by kernel_rfl
def CB (β:Nat→Rat) (L:SgL) (N:List RE):Con (SQ β) where
 fn:=60
 app:=fun db _ args=>match vI db args with
  | some (a,b,d)=>if N.any (·.beq d) then (match Di L a b d with
   | some n=>some (.t [.s (.it .i64 n),.s (.it .i64 0)],[])
   | none=>none) else none
  | none=>none
theorem PU {β:Nat→Rat} {L:SgL} {N:List RE} (ok:jB β L) (okN:iD β N):(CB β L N).Ok Tryz.prog (SQ β) EV:=by
 refine Con.ok0 rfl ?_
 intro db b args res new ha ρ W hf hE
 simp only [CB] at ha
 split at ha
 ·rename_i a c d hx
  split at ha
  ·rename_i hd
   split at ha
   ·rename_i n hn
    cases ha
    obtain ⟨xs,h1,h2,h3⟩:=Ef hx
    obtain ⟨ρ0,g1,g2⟩:=vH hf h1 h2 h3
    rw [← g1]
    have okL:jB (put β [a,c,d]) [(y0,y1,y2,n)]:=fun p hp=>by
     obtain rfl:=List.mem_singleton.1 hp
     exact Il ok hn
    have okN':iD (put β [a,c,d]) [y2]:=fun e he=>by
     obtain rfl:=List.mem_singleton.1 he
     exact zk okN hd
    obtain ⟨fs',heq⟩:=JO (YT (put β [a,c,d]) n)
    exact (gy mixed (QN okL okN') heq (iJ hE) g2).mono fun y W' ⟨ρ',_,hx',hb,_⟩=>⟨ρ,fun _ _=>rfl,by rw [hx'];rfl,hb,fun g hg=>by cases hg⟩
   ·cases ha
  ·cases ha
 ·cases ha
end Rx
end Go.Proofs.YtefbfbdijimanaaGreatDoor
