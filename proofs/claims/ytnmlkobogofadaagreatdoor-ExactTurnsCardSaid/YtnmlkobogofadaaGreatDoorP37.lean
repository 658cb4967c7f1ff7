/- What the proof rests on, part 37: Straight code over the numbers: points as they are handed in; ExactTurns. Points as they are handed in. ExactTurns, run over names. -/
import Derived.Test.YtnmlkobogofadaaGreatDoorP36
import Derived.Test.YtnmlkobogofadaaGreatDoorP22
namespace Go.Proofs.YtnmlkobogofadaaGreatDoor.Rx
open Go.RowKit
def asRef (db:List Fc):List Cell→Option RE
 | [.ob a,.os b,.bl false,.os c]=>if a=b && a+1=c then findR db a else none
 | _=>none
theorem asRef_ok {β:Nat→Rat} {ρ:Env} {W:World} {db:List Fc} {cs:List Cell} {e:RE} (h:asRef db cs=some e) (hf:∀ f∈db,(SQ β).on ρ f W):Z4.IsR W (.agg (cs.map (Cell.den ρ)).toArray) (e.ev β):=by
 unfold asRef at h
 split at h
 ·rename_i a b c
  split at h
  ·rename_i hh
   simp only [Bool.and_eq_true,decide_eq_true_eq] at hh
   obtain ⟨rfl,rfl⟩:=hh
   exact hf _ (findR_mem h)
  ·cases h
 ·cases h
def RefV (a b:Rat) (v:Value) (W:World):Prop:=∃ c d c' d':Nv,v=.agg #[.bool c.b,.slice c.p c.l c.c,.bool false,.slice d.p d.l d.c,.bool c'.b,.slice c'.p c'.l c'.c,.bool false,.slice d'.p d'.l d'.c] ∧
 Z4.IsR W (.agg #[.bool c.b,.slice c.p c.l c.c,.bool false,.slice d.p d.l d.c]) a∧Z4.IsR W (.agg #[.bool c'.b,.slice c'.p c'.l c'.c,.bool false,.slice d'.p d'.l d'.c]) b
def asRefs (db:List Fc) (cs:List Cell):Option (RE×RE):=
 match asRef db (cs.take 4),asRef db (cs.drop 4) with
 | some x,some y=>some (x,y)
 | _,_=>none
theorem asRefs_ok {β:Nat→Rat} {ρ:Env} {W:World} {db:List Fc} {cs:List Cell} {e e':RE} (h:asRefs db cs=some (e,e')) (hf:∀ f∈db,(SQ β).on ρ f W):RefV (e.ev β) (e'.ev β) (.agg (cs.map (Cell.den ρ)).toArray) W:=by
 unfold asRefs at h
 split at h
 ·rename_i x y h1 h2
  cases h
  have h3:=asRef_ok h1 hf
  have h4:=asRef_ok h2 hf
  obtain ⟨c,d,e3⟩:=rv_of h3
  obtain ⟨c',d',e4⟩:=rv_of h4
  rw [e3] at h3
  rw [e4] at h4
  have hl:(cs.map (Cell.den ρ))=((cs.take 4).map (Cell.den ρ)) ++ ((cs.drop 4).map (Cell.den ρ)):=by rw [← List.map_append,List.take_append_drop]
  have e3':(cs.take 4).map (Cell.den ρ)=[.bool c.b,.slice c.p c.l c.c,.bool false,.slice d.p d.l d.c]:=by
   simpa using congrArg Array.toList (Value.agg.inj e3)
  have e4':(cs.drop 4).map (Cell.den ρ)=[.bool c'.b,.slice c'.p c'.l c'.c,.bool false,.slice d'.p d'.l d'.c]:=by
   simpa using congrArg Array.toList (Value.agg.inj e4)
  rw [hl,e3',e4']
  exact ⟨_,_,_,_,rfl,h3,h4⟩
 ·cases h
def RetBP (w:World) (a b:Rat) (e:Ending) (w':World):Prop:=∃ v v',e=.returned (.tuple #[v,v'])∧RotV a b v w'∧RefV a b v' w'∧Below w.heap.size w w'
theorem ans_bp {β:Nat→Rat} {f:FuncId} {vals:Array Value} {W:World} {ρ:Env} {b:Nat} {e e':RE} {k k':Nat} (hc:Calls Tryz.prog f vals W (RetBP W (e.ev β) (e'.ev β))) (hk:Fits k (e.ev β)) (hk':Fits k' (e'.ev β)) :
  Calls Tryz.prog f vals W (Ans β ρ b W (.t [.a (numC b ++ numC (b+2)),.a (refC (b+4) ++ refC (b+6))]) [.q b e k,.q (b+2) e' k',.r (b+4) e,.r (b+6) e']):=by
 refine hc.mono fun _ W' ⟨v,v',he,hv,hv',hb⟩=>?_
 obtain ⟨c1,d1,c2,d2,rfl,i1,i2⟩:=open_rot hv
 obtain ⟨c3,d3,c4,d4,rfl,i3,i4⟩:=hv'
 have a0:=show b≤b+2+1 by omega
 have a1:=show b+2+1 - b=3 by omega
 have a2:=show b≤b+4+1 by omega
 have a3:=show b+4+1 - b=5 by omega
 have a4:=show b≤b+6+1 by omega
 have a5:=show b+6+1 - b=7 by omega
 have h1:(numC b).map (Cell.den (setL ρ b [c1,d1,c2,d2,c3,d3,c4,d4]))=[.bool c1.b,.int .u64 c1.u,.slice c1.p c1.l c1.c,.int .u64 d1.u,.slice d1.p d1.l d1.c]:=by simp [numC,Cell.den,setL]
 have h2:(numC (b+2)).map (Cell.den (setL ρ b [c1,d1,c2,d2,c3,d3,c4,d4]))=[.bool c2.b,.int .u64 c2.u,.slice c2.p c2.l c2.c,.int .u64 d2.u,.slice d2.p d2.l d2.c]:=by simp [numC,Cell.den,setL,a0,a1]
 have h3:(refC (b+4)).map (Cell.den (setL ρ b [c1,d1,c2,d2,c3,d3,c4,d4]))=[.bool c3.b,.slice c3.p c3.l c3.c,.bool false,.slice d3.p d3.l d3.c]:=by simp [refC,Cell.den,setL,a2,a3]
 have h4:(refC (b+6)).map (Cell.den (setL ρ b [c1,d1,c2,d2,c3,d3,c4,d4]))=[.bool c4.b,.slice c4.p c4.l c4.c,.bool false,.slice d4.p d4.l d4.c]:=by simp [refC,Cell.den,setL,a4,a5]
 refine ⟨setL ρ b [c1,d1,c2,d2,c3,d3,c4,d4],setL_out (by simp [M]),?_,hb,fun g hg=>?_⟩
 ·rw [he];simp only [SV.den,El.den,List.map_cons,List.map_nil,List.map_append,h1,h2,h3,h4];rfl
 ·simp only [List.mem_cons,List.not_mem_nil,or_false] at hg
  rcases hg with rfl | rfl | rfl | rfl
  ·exact ⟨by rw [h1];exact i1,hk⟩
  ·exact ⟨by rw [h2];exact i2,hk'⟩
  ·show Z4.IsR _ _ _;rw [h3];exact i3
  ·show Z4.IsR _ _ _;rw [h4];exact i4
def isBP (e e':RE):Option (SV×List Fc)→Bool
 | some (.t [.a cs,.a rs],fs)=>match asPair fs cs,asRefs fs rs with
  | some ((x,_),y,_),some (x',y')=>x.beq e && y.beq e' && (x'.beq e && y'.beq e')
  | _,_=>false
 | _=>false
theorem isBP_spec {e e':RE} {o:Option (SV×List Fc)} (h:isBP e e' o=true):∃ cs rs fs k k',o=some (.t [.a cs,.a rs],fs)∧asPair fs cs=some ((e,k),e',k')∧asRefs fs rs=some (e,e'):=by
 unfold isBP at h
 split at h
 ·split at h
  ·rename_i cs rs fs _ _ x k y k' x' y' ha hb
   simp only [Bool.and_eq_true] at h
   exact ⟨cs,rs,fs,k,k',rfl,by rw [ha,RE.beq_eq h.1.1,RE.beq_eq h.1.2],by rw [hb,RE.beq_eq h.2.1,RE.beq_eq h.2.2]⟩
  ·cases h
 ·cases h
def nu (n:Int):Nv:=⟨false,n,none,0,0,.empty,0⟩
abbrev hv (n d b:Int):List Value:=[.int .i64 n,.int .i64 d,.int .u8 b]
theorem bothp_q {n d b n' d' b':Int} {r r':Rat} {W:World} (h1:IsN n d b r) (h2:IsN n' d' b' r') (hE:EV W):Calls Tryz.prog 66 #[.agg (hv n d b ++ hv n' d' b').toArray] W (RetBP W r r'):=by
 have hr:isBP (.v 0) (.v 1) (runF Tryz.prog (SQ (bet [r,r'])) (HQ _ {} (hint0 _)) (cl _ {}) 1 66 [.e (.a (handC 0 ++ handC 3))] [.n 0 (.v 0),.n 3 (.v 1)] 6)=true:=by kernel_rfl
 obtain ⟨cs,rs,fs',k,k',heq,ha,hb⟩:=isBP_spec hr
 have hg:∀ g∈[Fc.n 0 (.v 0),Fc.n 3 (.v 1)],Fc.on (bet [r,r']) (ev [nu n,nu d,nu b,nu n',nu d',nu b']) g W:=by
  simp only [List.forall_mem_cons,List.not_mem_nil,false_imp_iff,implies_true,and_true]
  exact ⟨h1,h2⟩
 exact (runF_ok mixed (cl_ok (hint0 _)) heq (EV_below hE) (ρ:=ev [nu n,nu d,nu b,nu n',nu d',nu b']) (w:=W) hg).mono fun x W' ⟨ρ',_,hx,hb',hfs⟩=>⟨_,_,hx,(asPair_ok ha hfs).1,asRefs_ok hb hfs,hb'⟩
def conBothP (β:Nat→Rat):Con (SQ β) where
 fn:=66
 app:=fun db b args=>match args with
  | [.e (.a x)]=>match isHand (x.take 3),isHand (x.drop 3) with
   | some a,some a'=>match findN db a,findN db a' with
    | some e,some e'=>some (.t [.a (numC b ++ numC (b+2)),.a (refC (b+4) ++ refC (b+6))],[.q b e 4,.q (b+2) e' 4,.r (b+4) e,.r (b+6) e'])
    | _,_=>none
   | _,_=>none
  | _=>none
theorem IsN.fits {n d b:Int} {r:Rat} (h:IsN n d b r):Fits 4 r:=by
 obtain ⟨pw,-,-,h1,h2,h3,h4,he⟩:=h
 rw [← he]
 exact numOf_fits _ _ _ h1 h2 h3 h4
theorem conBothP_ok {β:Nat→Rat}:(conBothP β).Ok Tryz.prog (SQ β) EV:=by
 intro db b args res new ha ρ W hf hE
 simp only [conBothP] at ha
 split at ha
 ·rename_i x
  split at ha
  ·rename_i a a' hx hx'
   split at ha
   ·rename_i e e' hn hn'
    cases ha
    have hm:=hf _ (findN_mem hn)
    have hm':=hf _ (findN_mem hn')
    have hl:x=handC a ++ handC a':=by rw [← isHand_ok hx,← isHand_ok hx',List.take_append_drop]
    rw [hl]
    exact ans_bp (bothp_q hm hm' hE) (IsN.fits hm) (IsN.fits hm')
   ·cases ha
  ·cases ha
 ·cases ha
def dotE (a b c d:RE):RE:=.add (.mul a c) (.mul b d)
def crossE (a b c d:RE):RE:=.sub (.mul a d) (.mul b c)
def turnX (a b c d:RE):RE:=.sub (.mul c a) (.mul d b)
def turnZ (a b c d:RE):RE:=.add (.mul d a) (.mul c b)
def thenC (a b c d:RE):RE:=.sub (.mul a c) (.mul b d)
def thenS (a b c d:RE):RE:=.add (.mul b c) (.mul a d)
abbrev C1:RE:=tC (.v 0)
abbrev S1:RE:=tS (.v 0)
abbrev C2:RE:=tC (.v 1)
abbrev S2:RE:=tS (.v 1)
abbrev wC:RE:=thenC C1 S1 C2 S2
abbrev wS:RE:=thenS C1 S1 C2 S2
abbrev ax:RE:=turnX (.v 2) (.v 3) C1 S1
abbrev az:RE:=turnZ (.v 2) (.v 3) C1 S1
abbrev bx:RE:=turnX (.v 4) (.v 5) C1 S1
abbrev bz:RE:=turnZ (.v 4) (.v 5) C1 S1
def turnsH:Hint where
 eq:=[(.add (.mul C1 C1) (.mul S1 S1),.c 1),(.div S1 (.add (.c 1) C1),.v 0),(dotE ax az bx bz,dotE (.v 2) (.v 3) (.v 4) (.v 5)),(crossE ax az bx bz,crossE (.v 2) (.v 3) (.v 4) (.v 5)),
  (.add (.mul wC wC) (.mul wS wS),.c 1),(thenC wC wS C2 (.neg S2),C1),(thenS wC wS C2 (.neg S2),S1),(turnX ax az C2 S2,turnX (.v 2) (.v 3) wC wS),(turnZ ax az C2 S2,turnZ (.v 2) (.v 3) wC wS)]
 nz:=[.add (.c 1) C1]
theorem half_facts (t:Rat):let C:=(1 - t*t) / (1+t*t);let S:=(t+t) / (1+t*t);C*C+S*S=1∧1+C≠0∧S / (1+C)=t:=by
 have hq:=one_sq t
 obtain ⟨D,hD⟩:∃ D,1+t*t=D:=⟨_,rfl⟩
 intro C S
 have hCd:C*D=1 - t*t:=by
  show (1 - t*t) / (1+t*t)*D=_
  rw [hD,Rat.div_mul_cancel (by rw [← hD];exact hq)]
 have hSd:S*D=t+t:=by
  show (t+t) / (1+t*t)*D=_
  rw [hD,Rat.div_mul_cancel (by rw [← hD];exact hq)]
 have hD0:D≠0:=by rw [← hD];exact hq
 generalize C=C at *
 generalize S=S at *
 have e1:C*C+S*S=1:=by
  have:(C*C+S*S - 1)*(D*D)=0:=by grind
  rcases Rat.mul_eq_zero.1 this with h | h
  ·grind
  ·rcases Rat.mul_eq_zero.1 h with h | h <;> exact absurd h hD0
 have e2:1+C≠0:=fun h=>by
  have:(1+C)*D=2:=by grind
  rw [h] at this
  grind
 refine ⟨e1,e2,?_⟩
 have:S=t*(1+C):=by
  have:(S - t*(1+C))*D=0:=by grind
  rcases Rat.mul_eq_zero.1 this with h | h
  ·grind
  ·exact absurd h hD0
 rw [this,Rat.mul_div_cancel e2]
theorem turnsH_ok (t u x1 z1 x2 z2:Rat):turnsH.Ok (bet [t,u,x1,z1,x2,z2]):=by
 obtain ⟨h1,h2,h3⟩:=half_facts t
 obtain ⟨g1,-,-⟩:=half_facts u
 refine ⟨?_,fun p h=>(by cases h),fun p hp=>(by simp [turnsH] at hp;subst hp;exact h2),fun p h=>(by cases h),fun p h=>(by cases h)⟩
 unfold turnsH
 simp only [List.forall_mem_cons,List.not_mem_nil,false_imp_iff,implies_true,and_true]
 have e0:RE.ev (bet [t,u,x1,z1,x2,z2]) (.v 0)=t:=rfl
 have ec1:RE.ev (bet [t,u,x1,z1,x2,z2]) C1=(1 - t*t) / (1+t*t):=rfl
 have es1:RE.ev (bet [t,u,x1,z1,x2,z2]) S1=(t+t) / (1+t*t):=rfl
 have ec2:RE.ev (bet [t,u,x1,z1,x2,z2]) C2=(1 - u*u) / (1+u*u):=rfl
 have es2:RE.ev (bet [t,u,x1,z1,x2,z2]) S2=(u+u) / (1+u*u):=rfl
 refine ⟨h1,h3,?_⟩
 simp only [dotE,crossE,turnX,turnZ,thenC,thenS,RE.ev,ec1,es1,ec2,es2]
 generalize (1 - t*t) / (1+t*t)=C at *
 generalize (t+t) / (1+t*t)=S at *
 generalize (1 - u*u) / (1+u*u)=D at *
 generalize (u+u) / (1+u*u)=T at *
 simp only [bet,List.getD,List.getElem?_cons_succ,List.getElem?_cons_zero,Option.getD_some]
 refine ⟨?_,?_,?_,?_,?_,?_,?_⟩ <;> grind
end Go.Proofs.YtnmlkobogofadaaGreatDoor.Rx
namespace Go.Proofs.YtnmlkobogofadaaGreatDoor
set_option maxRecDepth 100000
set_option maxHeartbeats 80000000
open Go.ChangeShapes Go.WideShapes Go.ChangeAt Go.RowKit Go.Joins
section
variable {H:Type} {enc:TypeId×Value→H}
theorem NumIn.is {n d:Int} {b:Nat} (h:NumIn n d b):Rx.IsN n d (b:Int) (numOf n d b):=⟨b,rfl,h.b1,h.n1,h.n2,h.d1,h.d2,rfl⟩
theorem list6 {α:Type} {l:List α} (h:l.length=6):∃ c0 c1 c2 c3 c4 c5,l=[c0,c1,c2,c3,c4,c5]:=by
 match l,h with
 | [c0,c1,c2,c3,c4,c5],_=>exact ⟨c0,c1,c2,c3,c4,c5,rfl⟩
theorem spotCells:Tryz.prog.cellsOf 81=6:=by kernel_rfl
theorem cells64:Tryz.prog.cellsOf 2=1:=by kernel_rfl
theorem cells8:Tryz.prog.cellsOf 5=1:=by kernel_rfl
theorem raw_num {W:World} {c0 c1 c2:Value} {fuel:Nat} {x:DataW H×List MemPlace} (h:DataW.trod enc Tryz.prog W 0 (fun _=>true) true fuel 46 [c0,c1,c2]=some x) :
  ∃ (n d:Int) (b:Nat),c0=.int .i64 n∧c1=.int .i64 d∧c2=.int .u8 (b:Int)∧x=(.agg [.lit (.int .i64 n),.lit (.int .i64 d),.lit (.int .u8 (b:Int))],[])∧NumIn n d b:=by
 obtain ⟨y0,y1,y2,m,rfl,-,hy0,hy1,hy2⟩:=Go.Deep.trod_struct3 Tryz.underlying46 h
 simp only [cells64,cells8,List.drop_zero,List.take_succ_cons,List.take_zero,List.drop_succ_cons] at hy0 hy1 hy2
 obtain ⟨n,e0,e0',wn⟩:=DataW.trod_int Tryz.underlying2 hy0
 obtain ⟨d,e1,e1',wd⟩:=DataW.trod_int Tryz.underlying2 hy1
 obtain ⟨b,e2,e2',wb⟩:=DataW.trod_int Tryz.underlying5 hy2
 simp at e0 e1 e2
 subst e0 e1 e2 e0' e1' e2'
 have:=u8_bounds wb
 obtain ⟨k,rfl⟩:∃ k:Nat,b=(k:Int):=⟨b.toNat,by omega⟩
 exact ⟨n,d,k,rfl,rfl,rfl,rfl,wn,wd,wb⟩
theorem open_spot {W:World} {base:Nat} {v:Value} {x:DataW H} {p:List MemPlace} (hv:Value.okWide Tryz.prog W .any base 81 v) (h:DataW.Trod enc Tryz.prog W 0 (fun _=>true) true 81 v x p) :
  ∃ (n d:Int) (b:Nat) (n' d':Int) (b':Nat),v=.agg #[.int .i64 n,.int .i64 d,.int .u8 (b:Int),.int .i64 n',.int .i64 d',.int .u8 (b':Int)] ∧
   x=.agg [.agg [.lit (.int .i64 n),.lit (.int .i64 d),.lit (.int .u8 (b:Int))],.agg [.lit (.int .i64 n'),.lit (.int .i64 d'),.lit (.int .u8 (b':Int))]]∧p=[]∧NumIn n d b∧NumIn n' d' b':=by
 obtain ⟨cs,rfl,hsz⟩:=okWide_struct Tryz.underlying81 hv
 rw [spotCells] at hsz
 obtain ⟨l⟩:=cs
 obtain ⟨c0,c1,c2,c3,c4,c5,rfl⟩:=list6 hsz
 obtain ⟨fuel,hf⟩:=h
 obtain ⟨y0,y1,m,hx,-,h0,h1⟩:=trod_struct2 Tryz.underlying81 hf
 simp only [Value.cells,numCells,List.drop_zero,List.take_succ_cons,List.take_zero,List.drop_succ_cons] at h0 h1
 obtain ⟨n,d,b,rfl,rfl,rfl,rfl,w0⟩:=raw_num h0
 obtain ⟨n',d',b',rfl,rfl,rfl,rfl,w1⟩:=raw_num h1
 simp only [Prod.mk.injEq,List.append_nil] at hx
 exact ⟨n,d,b,n',d',b',rfl,hx.1,hx.2,w0,w1⟩
theorem shut_spot {W:World} {base:Nat} {sp:Nat→Bool} {held:Bool} {n d n' d':Int} {b b':Nat} (h:NumIn n d b) (h':NumIn n' d' b') :
  DataW.Trod enc Tryz.prog W base sp held 81 (.agg #[.int .i64 n,.int .i64 d,.int .u8 (b:Int),.int .i64 n',.int .i64 d',.int .u8 (b':Int)]) (.agg [.agg [.lit (.int .i64 n),.lit (.int .i64 d),.lit (.int .u8 (b:Int))],.agg [.lit (.int .i64 n'),.lit (.int .i64 d'),.lit (.int .u8 (b':Int))]]) []:=by
 obtain ⟨m0,t0⟩:=shut_num (enc:=enc) (W:=W) (base:=base) (sp:=sp) (held:=held) h
 obtain ⟨m1,t1⟩:=shut_num (enc:=enc) (W:=W) (base:=base) (sp:=sp) (held:=held) h'
 have ts:=trod_struct2_mk (enc:=enc) (w:=W) (base:=base) (spare:=sp) (held:=held) (n:=max m0 m1) (cs:=[.int .i64 n,.int .i64 d,.int .u8 (b:Int),.int .i64 n',.int .i64 d',.int .u8 (b':Int)]) Tryz.underlying81 (by rw [spotCells];rfl)
  (by simp only [numCells,List.drop_zero,List.take_succ_cons,List.take_zero];exact DataW.trod_le (Nat.le_max_left m0 m1) t0)
  (by simp only [numCells,List.take_succ_cons,List.take_zero,List.drop_succ_cons,List.drop_zero];exact DataW.trod_le (Nat.le_max_right m0 m1) t1)
 exact ⟨_,ts⟩
end
end Go.Proofs.YtnmlkobogofadaaGreatDoor
namespace Go.Proofs.YtnmlkobogofadaaGreatDoor.Rx
set_option maxRecDepth 100000
set_option maxHeartbeats 80000000
open Go.RowKit
theorem turns_run (β:Nat→Rat) (ok:turnsH.Ok β):isB true (runF Tryz.prog (SQ β) (HQ β turnsH ok) (conBothP β :: cl β turnsH) 1 14 [.e (.a (handC 0)),.e (.a (handC 3)),.e (.a (handC 6 ++ handC 9)),.e (.a (handC 12 ++ handC 15))] [.n 0 (.v 0),.n 3 (.v 1),.n 6 (.v 2),.n 9 (.v 3),.n 12 (.v 4),.n 15 (.v 5)] 18)=true:=by kernel_rfl
theorem turns_q {n1 d1 b1 n2 d2 b2 n3 d3 b3 n4 d4 b4 n5 d5 b5 n6 d6 b6:Int} {t u x1 z1 x2 z2:Rat} {W:World} (h1:IsN n1 d1 b1 t) (h2:IsN n2 d2 b2 u) (h3:IsN n3 d3 b3 x1) (h4:IsN n4 d4 b4 z1) (h5:IsN n5 d5 b5 x2) (h6:IsN n6 d6 b6 z2) (hE:EV W) :
  Calls Tryz.prog 14 #[.agg #[.int .i64 n1,.int .i64 d1,.int .u8 b1],.agg #[.int .i64 n2,.int .i64 d2,.int .u8 b2],.agg #[.int .i64 n3,.int .i64 d3,.int .u8 b3,.int .i64 n4,.int .i64 d4,.int .u8 b4],.agg #[.int .i64 n5,.int .i64 d5,.int .u8 b5,.int .i64 n6,.int .i64 d6,.int .u8 b6]] W (RetI W (.bool true)):=by
 have ok:=turnsH_ok t u x1 z1 x2 z2
 have hcons:∀ c∈conBothP (bet [t,u,x1,z1,x2,z2]) :: cl _ turnsH,c.Ok Tryz.prog (SQ _) EV:=List.forall_mem_cons.2 ⟨conBothP_ok,cl_ok ok⟩
 obtain ⟨ρ,hρ⟩:∃ ρ,ρ=ev [nu n1,nu d1,nu b1,nu n2,nu d2,nu b2,nu n3,nu d3,nu b3,nu n4,nu d4,nu b4,nu n5,nu d5,nu b5,nu n6,nu d6,nu b6]:=⟨_,rfl⟩
 have he:(List.map (SV.den ρ) [.e (.a (handC 0)),.e (.a (handC 3)),.e (.a (handC 6 ++ handC 9)),.e (.a (handC 12 ++ handC 15))]).toArray=#[.agg #[.int .i64 n1,.int .i64 d1,.int .u8 b1],.agg #[.int .i64 n2,.int .i64 d2,.int .u8 b2],.agg #[.int .i64 n3,.int .i64 d3,.int .u8 b3,.int .i64 n4,.int .i64 d4,.int .u8 b4],.agg #[.int .i64 n5,.int .i64 d5,.int .u8 b5,.int .i64 n6,.int .i64 d6,.int .u8 b6]]:=by
  rw [hρ];kernel_rfl
 have hg:∀ g∈[Fc.n 0 (.v 0),.n 3 (.v 1),.n 6 (.v 2),.n 9 (.v 3),.n 12 (.v 4),.n 15 (.v 5)],Fc.on (bet [t,u,x1,z1,x2,z2]) ρ g W:=by
  rw [hρ]
  simp only [List.forall_mem_cons,List.not_mem_nil,false_imp_iff,implies_true,and_true]
  exact ⟨h1,h2,h3,h4,h5,h6⟩
 rw [← he]
 exact run_b hcons (turns_run _ ok) hE hg
end Go.Proofs.YtnmlkobogofadaaGreatDoor.Rx
