/- What the proof rests on, part 37. -/
import Derived.Test.YtefbfbdijimanaaGreatDoorP36
import Derived.Test.YtefbfbdijimanaaGreatDoorP32
namespace Go.Proofs.YtefbfbdijimanaaGreatDoor
set_option maxRecDepth 100000
set_option maxHeartbeats 80000000
namespace Rx
open Go.RowKit
abbrev y4:RE:=.v 4
abbrev y5:RE:=.v 5
abbrev Q3:List At:=[.q,.q,.q]
abbrev R3:List At:=[.r,.r,.r]
abbrev R1:List At:=[.r,.o,.o]
abbrev xS:TypeId:=65
abbrev fS:TypeId:=67
def CQ (β:Nat→Rat) (h:Hint):Con (SQ β) where
 fn:=95
 app:=fun db b args=>match args with
  | [.e (.a x)]=>match dW db x with
   | some (e,k)=>if nzB h e then some (.e (.a (aI b)),[.q b (.div (.c 1) e) k]) else none
   | none=>none
  | _=>none
theorem QC {β:Nat→Rat} {h:Hint} (ok:h.Ok β):(CQ β h).Ok Tryz.prog (SQ β) EV:=by
 refine Con.ok0 rfl ?_
 intro db b args res new ha ρ W hf hE
 simp only [CQ] at ha
 split at ha
 ·split at ha
  ·rename_i e k hx
   split at ha
   ·rename_i hn
    cases ha
    obtain ⟨⟨h1,h2⟩,-⟩:=gG hx hf
    have h0:=lT ok hn
    have e1:(RE.div (.c 1) e).ev β=(e.ev β)⁻¹:=by show ((1:Int):Rat) / e.ev β=_;rw [Rat.div_def,show ((1:Int):Rat)=1 from rfl,Rat.one_mul]
    exact uK (e:=.div (.c 1) e) (by rw [e1];exact AU _ _ W h1 h0) (by rw [e1];exact h2.inv h0)
   ·cases ha
  ·cases ha
 ·cases ha
theorem Zl {W:World} (hE:EV W):Calls Tryz.prog 16 #[.int .i64 4] W (Z4.fM W ((4:Int):Rat)):=
 lW (β:=bet []) (ρ:=ev []) (args:=[.e (.s (.it .i64 4))]) (fs:=[]) (e:=.c 4) (fuel:=1) (n0:=0) (iW (fQ _)) (by kernel_rfl) rfl hE (fun g hg=>by cases hg)
def CO (β:Nat→Rat):Con (SQ β) where
 fn:=16
 app:=fun _ b args=>match args with
  | [.e (.s (.it .i64 4))]=>some (.e (.a (aX b)),[.r b (.c 4) 1])
  | _=>none
theorem QA {β:Nat→Rat}:(CO β).Ok Tryz.prog (SQ β) EV:=by
 refine Con.ok0 rfl ?_
 intro db b args res new ha ρ W hf hE
 simp only [CO] at ha
 split at ha
 ·cases ha
  exact qZ (e:=.c 4) (Zl hE) (fits_int (n:=4) (by decide) (by decide))
 ·cases ha
def JA (β:Nat→Rat) (h:Hint):Con (SQ β):=aK β h 20 [[.r],[.r]] 16 {} (.at [.r] [.sub y0 y1]) 33
theorem U6 {β:Nat→Rat} {h:Hint} (ok:h.Ok β):(JA β h).Ok Tryz.prog (SQ β) EV:=bG ok (by decide) fun γ g=>⟨{},g,1,c0 γ {},o9 g,by kernel_rfl⟩
def Jw (β:Nat→Rat) (h:Hint):Con (SQ β):=aK β h 98 [Q3] K1 { sg:=[(y2,1)] } (.bl true) K1
theorem Uu {β:Nat→Rat} {h:Hint} (ok:h.Ok β):(Jw β h).Ok Tryz.prog (SQ β) EV:=bG ok (by decide) fun γ g=>⟨{ sg:=[(y2,1)] },g,1,c0 γ { sg:=[(y2,1)] },o9 g,by kernel_rfl⟩
def JB (β:Nat→Rat) (h:Hint):Con (SQ β):=aK β h 96 [[.r]] 60 {} (.at R1 [y0,.c 0,.c 0]) 60
theorem Vd {β:Nat→Rat} {h:Hint} (ok:h.Ok β):(JB β h).Ok Tryz.prog (SQ β) EV:=bG ok (by decide) fun γ g=>⟨{},g,1,c0 γ {},o9 g,by kernel_rfl⟩
def d0 (β:Nat→Rat) (h:Hint):List (Con (SQ β)):=JA β h :: Jw β h :: JB β h :: CQ β h :: CO β :: cw β h
theorem gJ {β:Nat→Rat} {h:Hint} (ok:h.Ok β):∀ c∈d0 β h,c.Ok Tryz.prog (SQ β) EV:=by
 unfold d0
 simp only [List.forall_mem_cons]
 exact ⟨U6 ok,Uu ok,Vd ok,QC ok,QA,Ri ok⟩
def noS (n:Bool) (e:RE):RE×RE:=match n with
 | true=>(sq2 (.num e),.num e)
 | false=>(sq2 (.den e),.den e)
def yx (s:Int) (β:Nat→Rat) (h:Hint):Con (SQ β):=aK β h 61 [Q3] 60 { eq:=[(sq2 (.num y2),.num y2),(sq2 (.den y2),.den y2)],sg:=[(y1,s),(y2,1)] } (.ati Q3 [.add y0 (.mul y1 (rtE y2)),.c 0,.c 0] 0) 256
theorem UK {β:Nat→Rat} {h:Hint} (ok:h.Ok β):(yx 1 β h).Ok Tryz.prog (SQ β) EV:=bG ok (by decide) fun γ g=>⟨{ eq:=[(sq2 (.num y2),.num y2),(sq2 (.den y2),.den y2)],sg:=[(y1,1),(y2,1)] },g,1,d0 γ { eq:=[(sq2 (.num y2),.num y2),(sq2 (.den y2),.den y2)],sg:=[(y1,1),(y2,1)] },gJ g,by kernel_rfl⟩
theorem UJ {β:Nat→Rat} {h:Hint} (ok:h.Ok β):(yx (-1) β h).Ok Tryz.prog (SQ β) EV:=bG ok (by decide) fun γ g=>⟨{ eq:=[(sq2 (.num y2),.num y2),(sq2 (.den y2),.den y2)],sg:=[(y1,(-1)),(y2,1)] },g,1,d0 γ { eq:=[(sq2 (.num y2),.num y2),(sq2 (.den y2),.den y2)],sg:=[(y1,(-1)),(y2,1)] },gJ g,by kernel_rfl⟩
def nP (s:Int) (n:Bool) (β:Nat→Rat) (h:Hint):Con (SQ β):=aK β h 61 [Q3] 60 { ne:=[noS n y2],nz:=[.den y2],sg:=[(y1,s),(y2,1)] } (.ati Q3 [y0,.div y1 (.den y2),.mul (.num y2) (.den y2)] 0) 256
theorem UH {β:Nat→Rat} {h:Hint} (ok:h.Ok β):(nP 1 true β h).Ok Tryz.prog (SQ β) EV:=bG ok (by decide) fun γ g=>⟨{ ne:=[noS true y2],nz:=[.den y2],sg:=[(y1,1),(y2,1)] },g,1,d0 γ { ne:=[noS true y2],nz:=[.den y2],sg:=[(y1,1),(y2,1)] },gJ g,by kernel_rfl⟩
theorem UG {β:Nat→Rat} {h:Hint} (ok:h.Ok β):(nP 1 false β h).Ok Tryz.prog (SQ β) EV:=bG ok (by decide) fun γ g=>⟨{ ne:=[noS false y2],nz:=[.den y2],sg:=[(y1,1),(y2,1)] },g,1,d0 γ { ne:=[noS false y2],nz:=[.den y2],sg:=[(y1,1),(y2,1)] },gJ g,by kernel_rfl⟩
theorem UF {β:Nat→Rat} {h:Hint} (ok:h.Ok β):(nP (-1) true β h).Ok Tryz.prog (SQ β) EV:=bG ok (by decide) fun γ g=>⟨{ ne:=[noS true y2],nz:=[.den y2],sg:=[(y1,(-1)),(y2,1)] },g,1,d0 γ { ne:=[noS true y2],nz:=[.den y2],sg:=[(y1,(-1)),(y2,1)] },gJ g,by kernel_rfl⟩
theorem UE {β:Nat→Rat} {h:Hint} (ok:h.Ok β):(nP (-1) false β h).Ok Tryz.prog (SQ β) EV:=bG ok (by decide) fun γ g=>⟨{ ne:=[noS false y2],nz:=[.den y2],sg:=[(y1,(-1)),(y2,1)] },g,1,d0 γ { ne:=[noS false y2],nz:=[.den y2],sg:=[(y1,(-1)),(y2,1)] },gJ g,by kernel_rfl⟩
def yC (s:Int) (β:Nat→Rat) (h:Hint):Con (SQ β):=aK β h 97 [R3] 60 { eq:=[(sq2 (.num y2),.num y2),(sq2 (.den y2),.den y2)],sg:=[(y1,s),(y2,1)] } (.at R1 [.add y0 (.mul y1 (rtE y2)),.c 0,.c 0]) 256
theorem U4 {β:Nat→Rat} {h:Hint} (ok:h.Ok β):(yC 1 β h).Ok Tryz.prog (SQ β) EV:=bG ok (by decide) fun γ g=>⟨{ eq:=[(sq2 (.num y2),.num y2),(sq2 (.den y2),.den y2)],sg:=[(y1,1),(y2,1)] },g,1,d0 γ { eq:=[(sq2 (.num y2),.num y2),(sq2 (.den y2),.den y2)],sg:=[(y1,1),(y2,1)] },gJ g,by kernel_rfl⟩
theorem U3 {β:Nat→Rat} {h:Hint} (ok:h.Ok β):(yC (-1) β h).Ok Tryz.prog (SQ β) EV:=bG ok (by decide) fun γ g=>⟨{ eq:=[(sq2 (.num y2),.num y2),(sq2 (.den y2),.den y2)],sg:=[(y1,(-1)),(y2,1)] },g,1,d0 γ { eq:=[(sq2 (.num y2),.num y2),(sq2 (.den y2),.den y2)],sg:=[(y1,(-1)),(y2,1)] },gJ g,by kernel_rfl⟩
def nR (s:Int) (n:Bool) (β:Nat→Rat) (h:Hint):Con (SQ β):=aK β h 97 [R3] 60 { ne:=[noS n y2],nz:=[.den y2],sg:=[(y1,s),(y2,1)] } (.at R3 [y0,.div y1 (.den y2),.mul (.num y2) (.den y2)]) 256
theorem U2 {β:Nat→Rat} {h:Hint} (ok:h.Ok β):(nR 1 true β h).Ok Tryz.prog (SQ β) EV:=bG ok (by decide) fun γ g=>⟨{ ne:=[noS true y2],nz:=[.den y2],sg:=[(y1,1),(y2,1)] },g,1,d0 γ { ne:=[noS true y2],nz:=[.den y2],sg:=[(y1,1),(y2,1)] },gJ g,by kernel_rfl⟩
theorem U1 {β:Nat→Rat} {h:Hint} (ok:h.Ok β):(nR 1 false β h).Ok Tryz.prog (SQ β) EV:=bG ok (by decide) fun γ g=>⟨{ ne:=[noS false y2],nz:=[.den y2],sg:=[(y1,1),(y2,1)] },g,1,d0 γ { ne:=[noS false y2],nz:=[.den y2],sg:=[(y1,1),(y2,1)] },gJ g,by kernel_rfl⟩
theorem U0 {β:Nat→Rat} {h:Hint} (ok:h.Ok β):(nR (-1) true β h).Ok Tryz.prog (SQ β) EV:=bG ok (by decide) fun γ g=>⟨{ ne:=[noS true y2],nz:=[.den y2],sg:=[(y1,(-1)),(y2,1)] },g,1,d0 γ { ne:=[noS true y2],nz:=[.den y2],sg:=[(y1,(-1)),(y2,1)] },gJ g,by kernel_rfl⟩
theorem UZ {β:Nat→Rat} {h:Hint} (ok:h.Ok β):(nR (-1) false β h).Ok Tryz.prog (SQ β) EV:=bG ok (by decide) fun γ g=>⟨{ ne:=[noS false y2],nz:=[.den y2],sg:=[(y1,(-1)),(y2,1)] },g,1,d0 γ { ne:=[noS false y2],nz:=[.den y2],sg:=[(y1,(-1)),(y2,1)] },gJ g,by kernel_rfl⟩
def yu (s:Int) (β:Nat→Rat) (h:Hint):Con (SQ β):=jI β h 94 [[.q],[.q]] 4 { nz:=[y0],sg:=[(y0,s)] } 1 xS Q3 [.div (.neg y1) y0,.c 0,.c 0] true 256
theorem UD {β:Nat→Rat} {h:Hint} (ok:h.Ok β):(yu 1 β h).Ok Tryz.prog (SQ β) EV:=dL ok (by decide) fun γ g=>⟨{ nz:=[y0],sg:=[(y0,1)] },g,1,d0 γ { nz:=[y0],sg:=[(y0,1)] },gJ g,by kernel_rfl⟩
theorem UC {β:Nat→Rat} {h:Hint} (ok:h.Ok β):(yu (-1) β h).Ok Tryz.prog (SQ β) EV:=dL ok (by decide) fun γ g=>⟨{ nz:=[y0],sg:=[(y0,(-1))] },g,1,d0 γ { nz:=[y0],sg:=[(y0,(-1))] },gJ g,by kernel_rfl⟩
def Jy (β:Nat→Rat) (h:Hint):Con (SQ β):=aK β h 94 [[.q],[.q]] 4 { sg:=[(y0,0),(y1,0)] } (.ks [.z,.i 10]) 256
theorem UA {β:Nat→Rat} {h:Hint} (ok:h.Ok β):(Jy β h).Ok Tryz.prog (SQ β) EV:=bG ok (by decide) fun γ g=>⟨{ sg:=[(y0,0),(y1,0)] },g,1,d0 γ { sg:=[(y0,0),(y1,0)] },gJ g,by kernel_rfl⟩
def yw (s:Int) (β:Nat→Rat) (h:Hint):Con (SQ β):=aK β h 94 [[.q],[.q]] 4 { sg:=[(y0,0),(y1,s)] } (.ks [.z,.i 0]) 256
theorem Uz {β:Nat→Rat} {h:Hint} (ok:h.Ok β):(yw 1 β h).Ok Tryz.prog (SQ β) EV:=bG ok (by decide) fun γ g=>⟨{ sg:=[(y0,0),(y1,1)] },g,1,d0 γ { sg:=[(y0,0),(y1,1)] },gJ g,by kernel_rfl⟩
theorem Uy {β:Nat→Rat} {h:Hint} (ok:h.Ok β):(yw (-1) β h).Ok Tryz.prog (SQ β) EV:=bG ok (by decide) fun γ g=>⟨{ sg:=[(y0,0),(y1,(-1))] },g,1,d0 γ { sg:=[(y0,0),(y1,(-1))] },gJ g,by kernel_rfl⟩
def d1 (β:Nat→Rat) (h:Hint):List (Con (SQ β)):=yx 1 β h :: yx (-1) β h :: nP 1 true β h :: nP 1 false β h :: nP (-1) true β h :: nP (-1) false β h :: yC 1 β h :: yC (-1) β h :: nR 1 true β h :: nR 1 false β h :: nR (-1) true β h :: nR (-1) false β h :: yu 1 β h :: yu (-1) β h :: Jy β h :: yw 1 β h :: yw (-1) β h :: d0 β h
theorem bV {β:Nat→Rat} {h:Hint} (ok:h.Ok β):∀ c∈d1 β h,c.Ok Tryz.prog (SQ β) EV:=by
 unfold d1
 simp only [List.forall_mem_cons]
 exact ⟨UK ok,UJ ok,UH ok,UG ok,UF ok,UE ok,U4 ok,U3 ok,U2 ok,U1 ok,U0 ok,UZ ok,UD ok,UC ok,UA ok,Uz ok,Uy ok,gJ ok⟩
abbrev rD:RE:=.add y0 y0
abbrev rM:RE:=.div (.neg y1) rD
abbrev rU:RE:=.sub (.mul y1 y1) (.mul (.mul rD y2) (.c 2))
abbrev rH:RE:=.abs (.div (.c 1) rD)
abbrev sT:RE:=.mul (.c 2) y0
abbrev sM:RE:=.neg (.div y1 sT)
abbrev sU:RE:=.sub (.mul y1 y1) (.mul (.c 4) (.mul y0 y2))
abbrev sH:RE:=.abs (.div (.c 1) sT)
def rQ0 (β:Nat→Rat) (h:Hint):Con (SQ β):=aK β h 30 [[.q],[.q],[.q]] 4 { sg:=[(y0,0),(y1,0),(y2,0)] } (.ks [.z,.i 10]) 256
theorem YP {β:Nat→Rat} {h:Hint} (ok:h.Ok β):(rQ0 β h).Ok Tryz.prog (SQ β) EV:=bG ok (by decide) fun γ g=>⟨{ sg:=[(y0,0),(y1,0),(y2,0)] },g,1,d1 γ { sg:=[(y0,0),(y1,0),(y2,0)] },bV g,by kernel_rfl⟩
def rQ1 (s:Int) (β:Nat→Rat) (h:Hint):Con (SQ β):=aK β h 30 [[.q],[.q],[.q]] 4 { sg:=[(y0,0),(y1,0),(y2,s)] } (.ks [.z,.i 0]) 256
theorem YR {β:Nat→Rat} {h:Hint} (ok:h.Ok β):(rQ1 1 β h).Ok Tryz.prog (SQ β) EV:=bG ok (by decide) fun γ g=>⟨{ sg:=[(y0,0),(y1,0),(y2,1)] },g,1,d1 γ { sg:=[(y0,0),(y1,0),(y2,1)] },bV g,by kernel_rfl⟩
theorem YQ {β:Nat→Rat} {h:Hint} (ok:h.Ok β):(rQ1 (-1) β h).Ok Tryz.prog (SQ β) EV:=bG ok (by decide) fun γ g=>⟨{ sg:=[(y0,0),(y1,0),(y2,(-1))] },g,1,d1 γ { sg:=[(y0,0),(y1,0),(y2,(-1))] },bV g,by kernel_rfl⟩
def rQ2 (s:Int) (β:Nat→Rat) (h:Hint):Con (SQ β):=jI β h 30 [[.q],[.q],[.q]] 4 { nz:=[y1],sg:=[(y0,0),(y1,s)] } 1 xS Q3 [.div (.neg y2) y1,.c 0,.c 0] true 256
theorem YT {β:Nat→Rat} {h:Hint} (ok:h.Ok β):(rQ2 1 β h).Ok Tryz.prog (SQ β) EV:=dL ok (by decide) fun γ g=>⟨{ nz:=[y1],sg:=[(y0,0),(y1,1)] },g,1,d1 γ { nz:=[y1],sg:=[(y0,0),(y1,1)] },bV g,by kernel_rfl⟩
theorem YS {β:Nat→Rat} {h:Hint} (ok:h.Ok β):(rQ2 (-1) β h).Ok Tryz.prog (SQ β) EV:=dL ok (by decide) fun γ g=>⟨{ nz:=[y1],sg:=[(y0,0),(y1,(-1))] },g,1,d1 γ { nz:=[y1],sg:=[(y0,0),(y1,(-1))] },bV g,by kernel_rfl⟩
def rQ3 (s:Int) (β:Nat→Rat) (h:Hint):Con (SQ β):=aK β h 30 [[.q],[.q],[.q]] 4 { nz:=[rD],sg:=[(y0,s),(rU,-1)] } (.ks [.z,.i 0]) 256
theorem YV {β:Nat→Rat} {h:Hint} (ok:h.Ok β):(rQ3 1 β h).Ok Tryz.prog (SQ β) EV:=bG ok (by decide) fun γ g=>⟨{ nz:=[rD],sg:=[(y0,1),(rU,-1)] },g,1,d1 γ { nz:=[rD],sg:=[(y0,1),(rU,-1)] },bV g,by kernel_rfl⟩
theorem YU {β:Nat→Rat} {h:Hint} (ok:h.Ok β):(rQ3 (-1) β h).Ok Tryz.prog (SQ β) EV:=bG ok (by decide) fun γ g=>⟨{ nz:=[rD],sg:=[(y0,(-1)),(rU,-1)] },g,1,d1 γ { nz:=[rD],sg:=[(y0,(-1)),(rU,-1)] },bV g,by kernel_rfl⟩
def rQ4 (s:Int) (β:Nat→Rat) (h:Hint):Con (SQ β):=jI β h 30 [[.q],[.q],[.q]] 4 { nz:=[rD],sg:=[(y0,s),(rU,0)] } 1 xS Q3 [rM,.c 0,.c 0] true 256
theorem YX {β:Nat→Rat} {h:Hint} (ok:h.Ok β):(rQ4 1 β h).Ok Tryz.prog (SQ β) EV:=dL ok (by decide) fun γ g=>⟨{ nz:=[rD],sg:=[(y0,1),(rU,0)] },g,1,d1 γ { nz:=[rD],sg:=[(y0,1),(rU,0)] },bV g,by kernel_rfl⟩
theorem YW {β:Nat→Rat} {h:Hint} (ok:h.Ok β):(rQ4 (-1) β h).Ok Tryz.prog (SQ β) EV:=dL ok (by decide) fun γ g=>⟨{ nz:=[rD],sg:=[(y0,(-1)),(rU,0)] },g,1,d1 γ { nz:=[rD],sg:=[(y0,(-1)),(rU,0)] },bV g,by kernel_rfl⟩
def rQ5 (s:Int) (β:Nat→Rat) (h:Hint):Con (SQ β):=jI β h 30 [[.q],[.q],[.q]] 4 { eq:=[(sq2 (.num rU),.num rU),(sq2 (.den rU),.den rU)],nz:=[rD],sg:=[(y0,s),(rU,1),(rH,1),(.neg rH,-1)] } 2 xS (Q3 ++ Q3) [.add rM (.mul (.neg rH) (rtE rU)),.c 0,.c 0,.add rM (.mul rH (rtE rU)),.c 0,.c 0] true 256
theorem Y0 {β:Nat→Rat} {h:Hint} (ok:h.Ok β):(rQ5 1 β h).Ok Tryz.prog (SQ β) EV:=dL ok (by decide) fun γ g=>⟨{ eq:=[(sq2 (.num rU),.num rU),(sq2 (.den rU),.den rU)],nz:=[rD],sg:=[(y0,1),(rU,1),(rH,1),(.neg rH,-1)] },g,1,d1 γ { eq:=[(sq2 (.num rU),.num rU),(sq2 (.den rU),.den rU)],nz:=[rD],sg:=[(y0,1),(rU,1),(rH,1),(.neg rH,-1)] },bV g,by kernel_rfl⟩
theorem YZ {β:Nat→Rat} {h:Hint} (ok:h.Ok β):(rQ5 (-1) β h).Ok Tryz.prog (SQ β) EV:=dL ok (by decide) fun γ g=>⟨{ eq:=[(sq2 (.num rU),.num rU),(sq2 (.den rU),.den rU)],nz:=[rD],sg:=[(y0,(-1)),(rU,1),(rH,1),(.neg rH,-1)] },g,1,d1 γ { eq:=[(sq2 (.num rU),.num rU),(sq2 (.den rU),.den rU)],nz:=[rD],sg:=[(y0,(-1)),(rU,1),(rH,1),(.neg rH,-1)] },bV g,by kernel_rfl⟩
def rQ6 (s:Int) (n:Bool) (β:Nat→Rat) (h:Hint):Con (SQ β):=jI β h 30 [[.q],[.q],[.q]] 4 { ne:=[noS n rU],nz:=[rD,.den rU],sg:=[(y0,s),(rU,1),(rH,1),(.neg rH,-1)] } 2 xS (Q3 ++ Q3) [rM,.div (.neg rH) (.den rU),.mul (.num rU) (.den rU),rM,.div rH (.den rU),.mul (.num rU) (.den rU)] true 256
theorem Y4 {β:Nat→Rat} {h:Hint} (ok:h.Ok β):(rQ6 1 true β h).Ok Tryz.prog (SQ β) EV:=dL ok (by decide) fun γ g=>⟨{ ne:=[noS true rU],nz:=[rD,.den rU],sg:=[(y0,1),(rU,1),(rH,1),(.neg rH,-1)] },g,1,d1 γ { ne:=[noS true rU],nz:=[rD,.den rU],sg:=[(y0,1),(rU,1),(rH,1),(.neg rH,-1)] },bV g,by kernel_rfl⟩
theorem Y3 {β:Nat→Rat} {h:Hint} (ok:h.Ok β):(rQ6 1 false β h).Ok Tryz.prog (SQ β) EV:=dL ok (by decide) fun γ g=>⟨{ ne:=[noS false rU],nz:=[rD,.den rU],sg:=[(y0,1),(rU,1),(rH,1),(.neg rH,-1)] },g,1,d1 γ { ne:=[noS false rU],nz:=[rD,.den rU],sg:=[(y0,1),(rU,1),(rH,1),(.neg rH,-1)] },bV g,by kernel_rfl⟩
theorem Y2 {β:Nat→Rat} {h:Hint} (ok:h.Ok β):(rQ6 (-1) true β h).Ok Tryz.prog (SQ β) EV:=dL ok (by decide) fun γ g=>⟨{ ne:=[noS true rU],nz:=[rD,.den rU],sg:=[(y0,(-1)),(rU,1),(rH,1),(.neg rH,-1)] },g,1,d1 γ { ne:=[noS true rU],nz:=[rD,.den rU],sg:=[(y0,(-1)),(rU,1),(rH,1),(.neg rH,-1)] },bV g,by kernel_rfl⟩
theorem Y1 {β:Nat→Rat} {h:Hint} (ok:h.Ok β):(rQ6 (-1) false β h).Ok Tryz.prog (SQ β) EV:=dL ok (by decide) fun γ g=>⟨{ ne:=[noS false rU],nz:=[rD,.den rU],sg:=[(y0,(-1)),(rU,1),(rH,1),(.neg rH,-1)] },g,1,d1 γ { ne:=[noS false rU],nz:=[rD,.den rU],sg:=[(y0,(-1)),(rU,1),(rH,1),(.neg rH,-1)] },bV g,by kernel_rfl⟩
def fQ1 (β:Nat→Rat) (h:Hint):Con (SQ β):=aK β h 31 [[.r],[.r],[.r]] 4 { sg:=[(y0,0),(y1,0)] } (.ks [.z]) 256
theorem TB {β:Nat→Rat} {h:Hint} (ok:h.Ok β):(fQ1 β h).Ok Tryz.prog (SQ β) EV:=bG ok (by decide) fun γ g=>⟨{ sg:=[(y0,0),(y1,0)] },g,1,d1 γ { sg:=[(y0,0),(y1,0)] },bV g,by kernel_rfl⟩
def fQ2 (s:Int) (β:Nat→Rat) (h:Hint):Con (SQ β):=jI β h 31 [[.r],[.r],[.r]] 4 { nz:=[y1],sg:=[(y0,0),(y1,s)] } 1 fS R1 [.neg (.div y2 y1),.c 0,.c 0] false 256
theorem TF {β:Nat→Rat} {h:Hint} (ok:h.Ok β):(fQ2 1 β h).Ok Tryz.prog (SQ β) EV:=dL ok (by decide) fun γ g=>⟨{ nz:=[y1],sg:=[(y0,0),(y1,1)] },g,1,d1 γ { nz:=[y1],sg:=[(y0,0),(y1,1)] },bV g,by kernel_rfl⟩
theorem TD {β:Nat→Rat} {h:Hint} (ok:h.Ok β):(fQ2 (-1) β h).Ok Tryz.prog (SQ β) EV:=dL ok (by decide) fun γ g=>⟨{ nz:=[y1],sg:=[(y0,0),(y1,(-1))] },g,1,d1 γ { nz:=[y1],sg:=[(y0,0),(y1,(-1))] },bV g,by kernel_rfl⟩
def fQ3 (s:Int) (β:Nat→Rat) (h:Hint):Con (SQ β):=aK β h 31 [[.r],[.r],[.r]] 4 { nz:=[sT],sg:=[(y0,s),(sU,-1)] } (.ks [.z]) 256
theorem TI {β:Nat→Rat} {h:Hint} (ok:h.Ok β):(fQ3 1 β h).Ok Tryz.prog (SQ β) EV:=bG ok (by decide) fun γ g=>⟨{ nz:=[sT],sg:=[(y0,1),(sU,-1)] },g,1,d1 γ { nz:=[sT],sg:=[(y0,1),(sU,-1)] },bV g,by kernel_rfl⟩
theorem TG {β:Nat→Rat} {h:Hint} (ok:h.Ok β):(fQ3 (-1) β h).Ok Tryz.prog (SQ β) EV:=bG ok (by decide) fun γ g=>⟨{ nz:=[sT],sg:=[(y0,(-1)),(sU,-1)] },g,1,d1 γ { nz:=[sT],sg:=[(y0,(-1)),(sU,-1)] },bV g,by kernel_rfl⟩
def fQ4 (s:Int) (β:Nat→Rat) (h:Hint):Con (SQ β):=jI β h 31 [[.r],[.r],[.r]] 4 { nz:=[sT],sg:=[(y0,s),(sU,0)] } 1 fS R1 [sM,.c 0,.c 0] false 256
theorem TK {β:Nat→Rat} {h:Hint} (ok:h.Ok β):(fQ4 1 β h).Ok Tryz.prog (SQ β) EV:=dL ok (by decide) fun γ g=>⟨{ nz:=[sT],sg:=[(y0,1),(sU,0)] },g,1,d1 γ { nz:=[sT],sg:=[(y0,1),(sU,0)] },bV g,by kernel_rfl⟩
theorem TJ {β:Nat→Rat} {h:Hint} (ok:h.Ok β):(fQ4 (-1) β h).Ok Tryz.prog (SQ β) EV:=dL ok (by decide) fun γ g=>⟨{ nz:=[sT],sg:=[(y0,(-1)),(sU,0)] },g,1,d1 γ { nz:=[sT],sg:=[(y0,(-1)),(sU,0)] },bV g,by kernel_rfl⟩
def fQ5 (s:Int) (β:Nat→Rat) (h:Hint):Con (SQ β):=jI β h 31 [[.r],[.r],[.r]] 4 { eq:=[(sq2 (.num sU),.num sU),(sq2 (.den sU),.den sU)],nz:=[sT],sg:=[(y0,s),(sU,1),(sH,1),(.neg sH,-1)] } 2 fS (R1 ++ R1) [.add sM (.mul (.neg sH) (rtE sU)),.c 0,.c 0,.add sM (.mul sH (rtE sU)),.c 0,.c 0] false 256
theorem TM {β:Nat→Rat} {h:Hint} (ok:h.Ok β):(fQ5 1 β h).Ok Tryz.prog (SQ β) EV:=dL ok (by decide) fun γ g=>⟨{ eq:=[(sq2 (.num sU),.num sU),(sq2 (.den sU),.den sU)],nz:=[sT],sg:=[(y0,1),(sU,1),(sH,1),(.neg sH,-1)] },g,1,d1 γ { eq:=[(sq2 (.num sU),.num sU),(sq2 (.den sU),.den sU)],nz:=[sT],sg:=[(y0,1),(sU,1),(sH,1),(.neg sH,-1)] },bV g,by kernel_rfl⟩
theorem TL {β:Nat→Rat} {h:Hint} (ok:h.Ok β):(fQ5 (-1) β h).Ok Tryz.prog (SQ β) EV:=dL ok (by decide) fun γ g=>⟨{ eq:=[(sq2 (.num sU),.num sU),(sq2 (.den sU),.den sU)],nz:=[sT],sg:=[(y0,(-1)),(sU,1),(sH,1),(.neg sH,-1)] },g,1,d1 γ { eq:=[(sq2 (.num sU),.num sU),(sq2 (.den sU),.den sU)],nz:=[sT],sg:=[(y0,(-1)),(sU,1),(sH,1),(.neg sH,-1)] },bV g,by kernel_rfl⟩
def fQ6 (s:Int) (n:Bool) (β:Nat→Rat) (h:Hint):Con (SQ β):=jI β h 31 [[.r],[.r],[.r]] 4 { ne:=[noS n sU],nz:=[sT,.den sU],sg:=[(y0,s),(sU,1),(sH,1),(.neg sH,-1)] } 2 fS (R3 ++ R3) [sM,.div (.neg sH) (.den sU),.mul (.num sU) (.den sU),sM,.div sH (.den sU),.mul (.num sU) (.den sU)] false 256
theorem TR {β:Nat→Rat} {h:Hint} (ok:h.Ok β):(fQ6 1 true β h).Ok Tryz.prog (SQ β) EV:=dL ok (by decide) fun γ g=>⟨{ ne:=[noS true sU],nz:=[sT,.den sU],sg:=[(y0,1),(sU,1),(sH,1),(.neg sH,-1)] },g,1,d1 γ { ne:=[noS true sU],nz:=[sT,.den sU],sg:=[(y0,1),(sU,1),(sH,1),(.neg sH,-1)] },bV g,by kernel_rfl⟩
theorem TQ {β:Nat→Rat} {h:Hint} (ok:h.Ok β):(fQ6 1 false β h).Ok Tryz.prog (SQ β) EV:=dL ok (by decide) fun γ g=>⟨{ ne:=[noS false sU],nz:=[sT,.den sU],sg:=[(y0,1),(sU,1),(sH,1),(.neg sH,-1)] },g,1,d1 γ { ne:=[noS false sU],nz:=[sT,.den sU],sg:=[(y0,1),(sU,1),(sH,1),(.neg sH,-1)] },bV g,by kernel_rfl⟩
theorem TP {β:Nat→Rat} {h:Hint} (ok:h.Ok β):(fQ6 (-1) true β h).Ok Tryz.prog (SQ β) EV:=dL ok (by decide) fun γ g=>⟨{ ne:=[noS true sU],nz:=[sT,.den sU],sg:=[(y0,(-1)),(sU,1),(sH,1),(.neg sH,-1)] },g,1,d1 γ { ne:=[noS true sU],nz:=[sT,.den sU],sg:=[(y0,(-1)),(sU,1),(sH,1),(.neg sH,-1)] },bV g,by kernel_rfl⟩
theorem TN {β:Nat→Rat} {h:Hint} (ok:h.Ok β):(fQ6 (-1) false β h).Ok Tryz.prog (SQ β) EV:=dL ok (by decide) fun γ g=>⟨{ ne:=[noS false sU],nz:=[sT,.den sU],sg:=[(y0,(-1)),(sU,1),(sH,1),(.neg sH,-1)] },g,1,d1 γ { ne:=[noS false sU],nz:=[sT,.den sU],sg:=[(y0,(-1)),(sU,1),(sH,1),(.neg sH,-1)] },bV g,by kernel_rfl⟩
def JE (β:Nat→Rat) (h:Hint):Con (SQ β):=aK β h 32 [Q3,R3] K1 { eq:=[(y0,y3),(y1,y4),(y2,y5)] } (.bl true) K1
theorem Vh {β:Nat→Rat} {h:Hint} (ok:h.Ok β):(JE β h).Ok Tryz.prog (SQ β) EV:=bG ok (by decide) fun γ g=>⟨{ eq:=[(y0,y3),(y1,y4),(y2,y5)] },g,1,c1 γ { eq:=[(y0,y3),(y1,y4),(y2,y5)] },xG g,by kernel_rfl⟩
def JF (β:Nat→Rat) (h:Hint):Con (SQ β):=aK β h 32 [Q3,R1] K1 { eq:=[(y0,y3),(y1,.c 0),(y2,.c 0)] } (.bl true) K1
theorem Vj {β:Nat→Rat} {h:Hint} (ok:h.Ok β):(JF β h).Ok Tryz.prog (SQ β) EV:=bG ok (by decide) fun γ g=>⟨{ eq:=[(y0,y3),(y1,.c 0),(y2,.c 0)] },g,1,c1 γ { eq:=[(y0,y3),(y1,.c 0),(y2,.c 0)] },xG g,by kernel_rfl⟩
def d2 (β:Nat→Rat) (h:Hint):List (Con (SQ β)):=JE β h :: JF β h :: rQ0 β h :: rQ1 1 β h :: rQ1 (-1) β h :: rQ2 1 β h :: rQ2 (-1) β h :: rQ3 1 β h :: rQ3 (-1) β h :: rQ4 1 β h :: rQ4 (-1) β h :: rQ5 1 β h :: rQ5 (-1) β h :: rQ6 1 true β h :: rQ6 1 false β h :: rQ6 (-1) true β h :: rQ6 (-1) false β h :: fQ1 β h :: fQ2 1 β h :: fQ2 (-1) β h :: fQ3 1 β h :: fQ3 (-1) β h :: fQ4 1 β h :: fQ4 (-1) β h :: fQ5 1 β h :: fQ5 (-1) β h :: fQ6 1 true β h :: fQ6 1 false β h :: fQ6 (-1) true β h :: fQ6 (-1) false β h :: c1 β h
theorem Rj {β:Nat→Rat} {h:Hint} (ok:h.Ok β):∀ c∈d2 β h,c.Ok Tryz.prog (SQ β) EV:=by
 unfold d2
 simp only [List.forall_mem_cons]
 exact ⟨Vh ok,Vj ok,YP ok,YR ok,YQ ok,YT ok,YS ok,YV ok,YU ok,YX ok,YW ok,Y0 ok,YZ ok,Y4 ok,Y3 ok,Y2 ok,Y1 ok,TB ok,TF ok,TD ok,TI ok,TG ok,TK ok,TJ ok,TM ok,TL ok,TR ok,TQ ok,TP ok,TN ok,xG ok⟩
end Rx
namespace Rx
open Go.RowKit
def d3 (β:Nat→Rat) (h:Hint):List (Con (SQ β)):=uT β :: (d2 β h ++ cl1 β)
theorem Rk {β:Nat→Rat} {h:Hint} (ok:h.Ok β):∀ c∈d3 β h,c.Ok Tryz.prog (SQ β) EV:=fun c hc=>by
 rcases List.mem_cons.1 hc with rfl | hc
 ·exact Qs
 ·rcases List.mem_append.1 hc with hc | hc
  ·exact Rj ok c hc
  ·exact Qg c hc
abbrev Tj:List (RE×RE):=[(.add rM (.mul (.neg rH) (rtE rU)),.add sM (.mul (.neg sH) (rtE sU))),(.add rM (.mul rH (rtE rU)),.add sM (.mul sH (rtE sU)))]
abbrev Ti:List (RE×RE):=[(rM,sM),(.div (.neg rH) (.den rU),.div (.neg sH) (.den sU)),(.mul (.num rU) (.den rU),.mul (.num sU) (.den sU)),(.div rH (.den rU),.div sH (.den sU))]
abbrev Ae (s:Int):List (RE×Int):=[(y0,s),(rU,1),(rH,1),(.neg rH,-1),(sU,1),(sH,1),(.neg sH,-1)]
def q0:Hint:={ sg:=[(y0,0),(y1,0),(y2,0)] }
def q1 (s:Int):Hint:={ sg:=[(y0,0),(y1,0),(y2,s)] }
def q2 (s:Int):Hint:={ eq:=[(.div (.neg y2) y1,.neg (.div y2 y1))],nz:=[y1],sg:=[(y0,0),(y1,s)] }
def q3 (s:Int):Hint:={ nz:=[rD,sT],sg:=[(y0,s),(rU,-1),(sU,-1)] }
def q4 (s:Int):Hint:={ eq:=[(rM,sM)],nz:=[rD,sT],sg:=[(y0,s),(rU,0),(sU,0)] }
def q5 (s:Int):Hint:={ eq:=(sq2 (.num rU),.num rU) :: (sq2 (.den rU),.den rU) :: (sq2 (.num sU),.num sU) :: (sq2 (.den sU),.den sU) :: Tj,nz:=[rD,sT],sg:=Ae s }
def q6 (s:Int) (n:Bool):Hint:={ eq:=Ti,ne:=[noS n rU,noS n sU],nz:=[rD,.den rU,sT,.den sU],sg:=Ae s }
abbrev LK:List SV:=[.e (.a (yF 0)),.e (.a (yF 3)),.e (.a (yF 6))]
abbrev FI:List Fc:=[.n 0 (.v 0),.n 3 (.v 1),.n 6 (.v 2)]
def fH (h:Hint):Prop:=∀ (β:Nat→Rat) (ok:h.Ok β),isB true (aV Tryz.prog (SQ β) (HQ β h ok) (d3 β h) 4 4 LK FI 9)=true
theorem Yx:fH q0:=fun β ok=>by kernel_rfl
theorem Yz:fH (q1 1):=fun β ok=>by kernel_rfl
theorem Yy:fH (q1 (-1)):=fun β ok=>by kernel_rfl
theorem YB:fH (q2 1):=fun β ok=>by kernel_rfl
theorem YA:fH (q2 (-1)):=fun β ok=>by kernel_rfl
theorem YD:fH (q3 1):=fun β ok=>by kernel_rfl
theorem YC:fH (q3 (-1)):=fun β ok=>by kernel_rfl
theorem YF:fH (q4 1):=fun β ok=>by kernel_rfl
theorem YE:fH (q4 (-1)):=fun β ok=>by kernel_rfl
theorem YH:fH (q5 1):=fun β ok=>by kernel_rfl
theorem YG:fH (q5 (-1)):=fun β ok=>by kernel_rfl
theorem YL:fH (q6 1 true):=fun β ok=>by kernel_rfl
theorem YJ:fH (q6 (-1) true):=fun β ok=>by kernel_rfl
theorem YK:fH (q6 1 false):=fun β ok=>by kernel_rfl
theorem YI:fH (q6 (-1) false):=fun β ok=>by kernel_rfl
section
variable {β:Nat→Rat}
theorem NW:((2:Int):Rat)=1+1:=by decide +kernel
theorem Um:((4:Int):Rat)=1+1+(1+1):=by decide +kernel
theorem DX:rD.ev β=sT.ev β:=by
 show β 0+β 0=((2:Int):Rat)*β 0
 rw [NW];grind
theorem yj:rM.ev β=sM.ev β:=by
 show -β 1 / rD.ev β = -(β 1 / sT.ev β)
 rw [DX,Rat.div_def,Rat.div_def,Rat.neg_mul]
theorem pJ:rU.ev β=sU.ev β:=by
 show β 1*β 1 - (β 0+β 0)*β 2*((2:Int):Rat)=β 1*β 1 - ((4:Int):Rat)*(β 0*β 2)
 rw [NW,Um];grind
theorem rX:rH.ev β=sH.ev β:=by
 show (if ((RE.div (.c 1) rD).ev β).num<0 then -(RE.div (.c 1) rD).ev β else (RE.div (.c 1) rD).ev β)=(if ((RE.div (.c 1) sT).ev β).num<0 then -(RE.div (.c 1) sT).ev β else (RE.div (.c 1) sT).ev β)
 rw [show (RE.div (.c 1) rD).ev β=(RE.div (.c 1) sT).ev β by show _ / rD.ev β=_ / sT.ev β;rw [DX]]
theorem sgz {a:Rat} (h:sgQ a=0):a=0:=by
 rw [mg] at h
 split at h
 ·cases h
 ·split at h
  ·rename_i h0;exact Rat.num_eq_zero.1 h0
  ·cases h
theorem Nl {r:Rat} (h:r≠0) {s:Int} (hs:sgQ r=s):s=1∨s = -1:=by
 rcases sg3 r with h1 | h1 | h1
 ·exact .inr (hs.symm.trans h1)
 ·exact absurd (sgz h1) h
 ·exact .inl (hs.symm.trans h1)
theorem Nj {r:Rat} (h:sgQ r=1):sgQ (-r) = -1:=by
 rw [mg] at h ⊢
 rw [Rat.neg_num]
 split at h
 ·cases h
 ·split at h
  ·cases h
  ·rw [if_pos (by omega)]
theorem Z9 {r:Rat} (h:r≠0):sgQ (if r.num<0 then -r else r)=1:=by
 have hn:r.num≠0:=fun h0=>h (Rat.num_eq_zero.1 h0)
 split
 ·rw [mg,Rat.neg_num,if_neg (by omega),if_neg (by omega)]
 ·rw [mg,if_neg (by omega),if_neg hn]
theorem EH (h:β 0≠0):rD.ev β≠0:=by
 show β 0+β 0≠0
 intro h0
 exact h (by grind)
theorem Z8 (h:β 0≠0):sgQ (rH.ev β)=1:=by
 refine Z9 ?_
 show ((1:Int):Rat) / rD.ev β≠0
 intro h0
 have h1:((1:Int):Rat) / rD.ev β*rD.ev β=((1:Int):Rat):=Rat.div_mul_cancel (EH h)
 rw [h0,Rat.zero_mul] at h1
 exact absurd h1 (by decide +kernel)
theorem NI {e e':RE} (h:e.ev β=e'.ev β):(sq2 (.num e)).ev β=(sq2 (.num e')).ev β∧(RE.num e).ev β=(RE.num e').ev β∧(sq2 (.den e)).ev β=(sq2 (.den e')).ev β∧(RE.den e).ev β=(RE.den e').ev β:=by
 simp only [sq2,RE.ev]
 rw [h]
 exact ⟨rfl,rfl,rfl,rfl⟩
theorem MG {e e':RE} (h:e.ev β=e'.ev β):(rtE e).ev β=(rtE e').ev β:=by rw [qI,qI,h]
theorem Yu (h0:sgQ (β 0)=0) (h1:sgQ (β 1)=0) (h2:sgQ (β 2)=0):q0.Ok β:=
 ⟨fun p h=>(by cases h),fun p h=>(by cases h),fun p h=>(by cases h),by
  simp only [q0,List.forall_mem_cons,List.not_mem_nil,false_imp_iff,implies_true,and_true]
  exact ⟨h0,h1,h2⟩,fun p h=>(by cases h)⟩
theorem LC {s:Int} (h0:sgQ (β 0)=0) (h1:sgQ (β 1)=0) (h2:sgQ (β 2)=s):(q1 s).Ok β:=
 ⟨fun p h=>(by cases h),fun p h=>(by cases h),fun p h=>(by cases h),by
  simp only [q1,List.forall_mem_cons,List.not_mem_nil,false_imp_iff,implies_true,and_true]
  exact ⟨h0,h1,h2⟩,fun p h=>(by cases h)⟩
theorem LD {s:Int} (h0:sgQ (β 0)=0) (h1:sgQ (β 1)=s) (hn:β 1≠0):(q2 s).Ok β:=
 ⟨fun p hp=>(by
  obtain rfl:=List.mem_singleton.1 hp
  show -β 2 / β 1 = -(β 2 / β 1)
  rw [Rat.div_def,Rat.div_def,Rat.neg_mul]),fun p h=>(by cases h),fun p hp=>(by obtain rfl:=List.mem_singleton.1 hp;exact hn),by
  simp only [q2,List.forall_mem_cons,List.not_mem_nil,false_imp_iff,implies_true,and_true]
  exact ⟨h0,h1⟩,fun p h=>(by cases h)⟩
theorem zM (h:β 0≠0):∀ p∈[rD,sT],p.ev β≠0:=by
 simp only [List.forall_mem_cons,List.not_mem_nil,false_imp_iff,implies_true,and_true]
 exact ⟨EH h,by rw [← DX];exact EH h⟩
theorem LG {s:Int} (h0:sgQ (β 0)=s) (hn:β 0≠0) (hu:sgQ (rU.ev β) = -1):(q3 s).Ok β:=
 ⟨fun p h=>(by cases h),fun p h=>(by cases h),zM hn,by
  simp only [q3,List.forall_mem_cons,List.not_mem_nil,false_imp_iff,implies_true,and_true]
  exact ⟨h0,hu,by rw [← pJ];exact hu⟩,fun p h=>(by cases h)⟩
theorem LH {s:Int} (h0:sgQ (β 0)=s) (hn:β 0≠0) (hu:sgQ (rU.ev β)=0):(q4 s).Ok β:=
 ⟨fun p hp=>(by obtain rfl:=List.mem_singleton.1 hp;exact yj),fun p h=>(by cases h),zM hn,by
  simp only [q4,List.forall_mem_cons,List.not_mem_nil,false_imp_iff,implies_true,and_true]
  exact ⟨h0,hu,by rw [← pJ];exact hu⟩,fun p h=>(by cases h)⟩
theorem Nk {s:Int} (h0:sgQ (β 0)=s) (hn:β 0≠0) (hu:sgQ (rU.ev β)=1):∀ p∈Ae s,sgQ (p.1.ev β)=p.2:=by
 simp only [Ae,List.forall_mem_cons,List.not_mem_nil,false_imp_iff,implies_true,and_true]
 have hh:=Z8 hn
 exact ⟨h0,hu,hh,Nj hh,by rw [← pJ];exact hu,by rw [← rX];exact hh,by show sgQ (-sH.ev β) = -1;rw [← rX];exact Nj hh⟩
theorem LJ {s:Int} (h0:sgQ (β 0)=s) (hn:β 0≠0) (hu:sgQ (rU.ev β)=1) (n1:(sq2 (.num rU)).ev β=(RE.num rU).ev β) (n2:(sq2 (.den rU)).ev β=(RE.den rU).ev β):(q5 s).Ok β:=by
 obtain ⟨g1,g2,g3,g4⟩:=NI (β:=β) pJ
 refine ⟨?_,fun p h=>(by cases h),zM hn,Nk h0 hn hu,fun p h=>(by cases h)⟩
 simp only [q5,List.forall_mem_cons,List.not_mem_nil,false_imp_iff,implies_true,and_true]
 refine ⟨n1,n2,by rw [← g1,← g2];exact n1,by rw [← g3,← g4];exact n2,?_,?_⟩
 ·show rM.ev β + -rH.ev β*(rtE rU).ev β=sM.ev β + -sH.ev β*(rtE sU).ev β
  rw [yj,rX,MG pJ]
 ·show rM.ev β+rH.ev β*(rtE rU).ev β=sM.ev β+sH.ev β*(rtE sU).ev β
  rw [yj,rX,MG pJ]
theorem zV {s:Int} {n:Bool} (h0:sgQ (β 0)=s) (hn:β 0≠0) (hu:sgQ (rU.ev β)=1) (hs:(noS n rU).1.ev β≠(noS n rU).2.ev β):(q6 s n).Ok β:=by
 obtain ⟨g1,g2,g3,g4⟩:=NI (β:=β) pJ
 refine ⟨?_,?_,?_,Nk h0 hn hu,fun p h=>(by cases h)⟩
 ·simp only [q6,List.forall_mem_cons,List.not_mem_nil,false_imp_iff,implies_true,and_true]
  refine ⟨yj,?_,?_,?_⟩
  ·show -rH.ev β / (RE.den rU).ev β = -sH.ev β / (RE.den sU).ev β
   rw [rX,g4]
  ·show (RE.num rU).ev β*(RE.den rU).ev β=(RE.num sU).ev β*(RE.den sU).ev β
   rw [g2,g4]
  ·show rH.ev β / (RE.den rU).ev β=sH.ev β / (RE.den sU).ev β
   rw [rX,g4]
 ·simp only [q6,List.forall_mem_cons,List.not_mem_nil,false_imp_iff,implies_true,and_true]
  refine ⟨hs,?_⟩
  cases n
  ·show (sq2 (.den sU)).ev β≠(RE.den sU).ev β
   rw [← g3,← g4];exact hs
  ·show (sq2 (.num sU)).ev β≠(RE.num sU).ev β
   rw [← g1,← g2];exact hs
 ·simp only [q6,List.forall_mem_cons,List.not_mem_nil,false_imp_iff,implies_true,and_true]
  have:=zM hn
  simp only [List.forall_mem_cons,List.not_mem_nil,false_imp_iff,implies_true,and_true] at this
  exact ⟨this.1,jZ _,this.2,jZ _⟩
theorem YM (β:Nat→Rat):∃ h:Hint,fH h∧h.Ok β:=by
 by_cases h0:β 0=0
 ·have e0:sgQ (β 0)=0:=by rw [h0];rfl
  by_cases h1:β 1=0
  ·have e1:sgQ (β 1)=0:=by rw [h1];rfl
   rcases sg3 (β 2) with e2 | e2 | e2
   ·exact ⟨_,Yy,LC e0 e1 e2⟩
   ·exact ⟨_,Yx,Yu e0 e1 e2⟩
   ·exact ⟨_,Yz,LC e0 e1 e2⟩
  ·rcases Nl h1 rfl with e1 | e1
   ·exact ⟨_,YB,LD e0 e1 h1⟩
   ·exact ⟨_,YA,LD e0 e1 h1⟩
 ·have two:∀ {hp hm:Hint},fH hp→fH hm→(sgQ (β 0)=1→hp.Ok β)→(sgQ (β 0) = -1→hm.Ok β)→∃ h:Hint,fH h∧h.Ok β:=fun a b c d=>by
   rcases Nl h0 rfl with e0 | e0
   ·exact ⟨_,a,c e0⟩
   ·exact ⟨_,b,d e0⟩
  rcases sg3 (rU.ev β) with eu | eu | eu
  ·exact two YD YC (fun e=>LG e h0 eu) (fun e=>LG e h0 eu)
  ·exact two YF YE (fun e=>LH e h0 eu) (fun e=>LH e h0 eu)
  ·by_cases n1:(sq2 (.num rU)).ev β=(RE.num rU).ev β
   ·by_cases n2:(sq2 (.den rU)).ev β=(RE.den rU).ev β
    ·exact two YH YG (fun e=>LJ e h0 eu n1 n2) (fun e=>LJ e h0 eu n1 n2)
    ·exact two YK YI (fun e=>zV e h0 eu n2) (fun e=>zV e h0 eu n2)
   ·exact two YL YJ (fun e=>zV e h0 eu n1) (fun e=>zV e h0 eu n1)
end
theorem YN {n1 d1 b1 n2 d2 b2 n3 d3 b3:Int} {r1 r2 r3:Rat} {W:World} (h1:IsN n1 d1 b1 r1) (h2:IsN n2 d2 b2 r2) (h3:IsN n3 d3 b3 r3) (hE:EV W) :
  Calls Tryz.prog 4 #[.agg #[.int .i64 n1,.int .i64 d1,.int .u8 b1],.agg #[.int .i64 n2,.int .i64 d2,.int .u8 b2],.agg #[.int .i64 n3,.int .i64 d3,.int .u8 b3]] W (bH W (.bool true)):=by
 obtain ⟨h,hq,ok⟩:=YM (bet [r1,r2,r3])
 obtain ⟨ρ,hρ⟩:∃ ρ,ρ=ev [nu n1,nu d1,nu b1,nu n2,nu d2,nu b2,nu n3,nu d3,nu b3]:=⟨_,rfl⟩
 have he:(List.map (SV.den ρ) LK).toArray=#[.agg #[.int .i64 n1,.int .i64 d1,.int .u8 b1],.agg #[.int .i64 n2,.int .i64 d2,.int .u8 b2],.agg #[.int .i64 n3,.int .i64 d3,.int .u8 b3]]:=by
  rw [hρ];kernel_rfl
 have hg:∀ g∈FI,Fc.on (bet [r1,r2,r3]) ρ g W:=by
  rw [hρ]
  simp only [FI,List.forall_mem_cons,List.not_mem_nil,false_imp_iff,implies_true,and_true]
  exact ⟨h1,h2,h3⟩
 rw [← he]
 exact MN (Rk ok) (hq _ ok) hE hg
end Rx
end Go.Proofs.YtefbfbdijimanaaGreatDoor
