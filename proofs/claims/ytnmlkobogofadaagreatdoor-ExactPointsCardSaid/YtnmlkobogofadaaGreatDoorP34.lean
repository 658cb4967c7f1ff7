/- What the proof rests on, part 34. -/
import Derived.Test.YtnmlkobogofadaaGreatDoorP32
import Derived.Test.YtnmlkobogofadaaGreatDoorP33
import Derived.Test.YtnmlkobogofadaaGreatDoorP21
import Derived.Test.YtnmlkobogofadaaGreatDoorP17
namespace Go.Proofs.YtnmlkobogofadaaGreatDoor
set_option maxRecDepth 100000
set_option maxHeartbeats 80000000
namespace Rx
open Go.RowKit
def mg (β:Nat→Rat):Prop:=β 0=mkRat (-5) 4∧β 1=mkRat 3 2∧β 2=mkRat 355 113∧β 3=mkRat 22 7∧β 4=mkRat 11 8∧β 5=mkRat 1 2
def uy (s:ByteArray):Option Nat:=
 if s.data.toList=[45,49,46,50,53,48] then some 0 else if s.data.toList=[54,47,52] then some 1 else
 if s.data.toList=[51,53,53,47,49,49,51] then some 2 else if s.data.toList=[49,47,50] then some 5 else none
def Aa:List (RE×List UInt8):=[(.v 0,[45,53,47,52]),(.v 1,[51,47,50]),(.v 3,[50,50,47,55]),(.v 4,[49,49,47,56]),(tC (.v 5),[51,47,53]),(tS (.v 5),[52,47,53]),(.add (.v 0) (.v 1),[49,47,52]),(.mul (.v 0) (.v 1),[45,49,53,47,56])]
section
variable (β:Nat→Rat)
def BN:Con (SQ β) where
 fn:=16
 app:=fun _ b args=>match args with
  | [.e (.s (.st s))]=>match uy s with
   | some i=>some (.t [.a (aS b),.s (.it .i64 0)],[.q b (.v i) 1])
   | none=>none
  | _=>none
def xA:Con (SQ β) where
 fn:=93
 app:=fun _ b args=>match args with
  | [.e (.s (.st s))]=>match uy s with
   | some i=>some (.e (.a (aS b)),[.q b (.v i) 1])
   | none=>none
  | _=>none
def Bv:Con (SQ β) where
 fn:=55
 app:=fun db b args=>match args with
  | [.e (.a x),.e (.s (.it .i64 7))]=>match fO db x with
   | some (.v 2,_)=>some (.t [.a (aS b),.s (.it .i64 0)],[.q b (.v 3) 1])
   | _=>none
  | _=>none
def aRoot:Con (SQ β) where
 fn:=56
 app:=fun db b args=>match args with
  | [.e (.a x),.e (.s (.it .i64 3))]=>match fO db x with
   | some (.c 2,_)=>some (.t [.a (aS b),.s (.it .i64 0)],[.q b (.v 4) 1])
   | _=>none
  | _=>none
def aIs:Con (SQ β) where
 fn:=92
 app:=fun db _ args=>match args with
  | [.e (.a x),.e (.s (.st s))]=>match fO db x with
   | some (e,k)=>if decide (k≤K0) && Aa.any (fun p=>p.1.beq e && decide (p.2=s.data.toList)) then some (.e (.s (.bl true)),[]) else none
   | none=>none
  | _=>none
end
section
variable {β:Nat→Rat}
theorem GH (h:mg β) {s:ByteArray} {i:Nat} (ht:uy s=some i):Fits 1 (β i)∧∀ W,EV W→Calls Tryz.prog 16 #[.string s] W (eU W (β i) 0):=by
 obtain ⟨h0,h1,h2,-,-,h5⟩:=h
 obtain ⟨⟨l⟩⟩:=s
 unfold uy at ht
 simp only at ht
 split at ht
 ·rename_i hl
  cases ht;subst hl;rw [h0]
  exact ⟨jT (by decide +kernel) (by decide +kernel),fun W hE=>RU W hE⟩
 split at ht
 ·rename_i hl
  cases ht;subst hl;rw [h1]
  exact ⟨jT (by decide +kernel) (by decide +kernel),fun W hE=>p64 W hE⟩
 split at ht
 ·rename_i hl
  cases ht;subst hl;rw [h2]
  exact ⟨jT (by decide +kernel) (by decide +kernel),fun W hE=>J8 W hE⟩
 split at ht
 ·rename_i hl
  cases ht;subst hl;rw [h5]
  exact ⟨jT (by decide +kernel) (by decide +kernel),fun W hE=>p12 W hE⟩
 ·cases ht
theorem MK (h:mg β):∀ p∈Aa,gJ (p.1.ev β)=p.2:=by
 obtain ⟨h0,h1,h2,h3,h4,h5⟩:=h
 have c1:((1:Int):Rat)=1:=rfl
 unfold Aa
 simp only [List.forall_mem_cons,List.not_mem_nil,false_imp_iff,implies_true,and_true,RE.ev,tC,tS,h0,h1,h3,h4,h5,c1]
 exact ⟨by decide +kernel,by decide +kernel,by decide +kernel,by decide +kernel,by decide +kernel,by decide +kernel,by decide +kernel,by decide +kernel⟩
theorem QY (h:mg β):(BN β).Ok Tryz.prog (SQ β) EV:=by
 intro db b args res new ha ρ W hf hE
 simp only [BN] at ha
 split at ha
 ·split at ha
  ·rename_i i ht
   cases ha
   obtain ⟨h1,h2⟩:=GH h ht
   exact rY (e:=.v i) (h2 W hE) h1
  ·cases ha
 ·cases ha
theorem U0 (h:mg β):(xA β).Ok Tryz.prog (SQ β) EV:=by
 intro db b args res new ha ρ W hf hE
 simp only [xA] at ha
 split at ha
 ·rename_i s
  split at ha
  ·rename_i i ht
   cases ha
   obtain ⟨h1,h2⟩:=GH h ht
   obtain ⟨⟨l⟩⟩:=s
   exact vH (e:=.v i) (NP l (β i) 0 W (hid fun W' hb=>h2 W' (Env.below hE hb (Nat.le_refl _)))) h1
  ·cases ha
 ·cases ha
theorem Pn (h:mg β):(Bv β).Ok Tryz.prog (SQ β) EV:=by
 intro db b args res new ha ρ W hf hE
 simp only [Bv] at ha
 split at ha
 ·split at ha
  ·rename_i hx
   cases ha
   obtain ⟨⟨h1,h2⟩,-⟩:=gG hx hf
   rw [show (RE.v 2).ev β=mkRat 355 113 from h.2.2.1] at h1
   have hv:(RE.v 3).ev β=mkRat 22 7:=h.2.2.2.1
   exact rY (e:=.v 3) (by rw [hv];exact N9 _ W h1 hE) (by rw [hv];exact jT (by decide +kernel) (by decide +kernel))
  ·cases ha
 ·cases ha
theorem QD (h:mg β):(aRoot β).Ok Tryz.prog (SQ β) EV:=by
 intro db b args res new ha ρ W hf hE
 simp only [aRoot] at ha
 split at ha
 ·split at ha
  ·rename_i hx
   cases ha
   obtain ⟨⟨h1,h2⟩,-⟩:=gG hx hf
   have hv:(RE.v 4).ev β=mkRat 11 8:=h.2.2.2.2.1
   exact rY (e:=.v 4) (by rw [hv];exact UL _ W h1 hE) (by rw [hv];exact jT (by decide +kernel) (by decide +kernel))
  ·cases ha
 ·cases ha
theorem SH (h:mg β):(aIs β).Ok Tryz.prog (SQ β) EV:=by
 intro db b args res new ha ρ W hf hE
 simp only [aIs] at ha
 split at ha
 ·rename_i x s
  split at ha
  ·rename_i e k hx
   split at ha
   ·rename_i hh
    simp only [Bool.and_eq_true,decide_eq_true_eq] at hh
    cases ha
    obtain ⟨⟨h1,h2⟩,-⟩:=gG hx hf
    obtain ⟨p,hp,hq⟩:=List.any_eq_true.1 hh.2
    simp only [Bool.and_eq_true,decide_eq_true_eq] at hq
    have ht:=MK h p hp
    rw [RE.beq_eq hq.1,hq.2] at ht
    obtain ⟨⟨l⟩⟩:=s
    have hc:=QH l _ _ k W h1 hh.1 h2 hE
    rw [show gJ (e.ev β)=l from ht,beq_self_eq_true] at hc
    exact qA hc rfl
   ·cases ha
  ·cases ha
 ·cases ha
def aw (β:Nat→Rat):List (Con (SQ β)):=BN β :: xA β :: Bv β :: aRoot β :: aIs β :: uT β :: cq β {}
theorem SA (β:Nat→Rat):isB true (jk Tryz.prog (SQ β) (HQ β {} (aO β)) (aw β) 1 15 [] [] 0)=true:=by kernel_rfl
theorem Ox {W:World} (hE:EV W):Calls Tryz.prog 15 #[] W (dh W (.bool true)):=by
 obtain ⟨β,h⟩:∃ β,mg β:=⟨bet [mkRat (-5) 4,mkRat 3 2,mkRat 355 113,mkRat 22 7,mkRat 11 8,mkRat 1 2],rfl,rfl,rfl,rfl,rfl,rfl⟩
 refine Ee (β:=β) (ρ:=ev []) (args:=[]) (fs:=[]) (cons:=aw _) ?_ (SA _) hE (fun g hg=>by cases hg)
 unfold aw
 simp only [List.forall_mem_cons]
 exact ⟨QY h,U0 h,Pn h,QD h,SH h,DI,wJ (aO _)⟩
end
section
variable (β:Nat→Rat) (h:Hint)
def wF:Con (SQ β) where
 fn:=15
 app:=fun _ _ args=>match args with
  | []=>some (.e (.s (.bl true)),[])
  | _=>none
def cl:List (Con (SQ β)):=wF β :: (cq β h ++ cl1 β)
end
theorem Eh {β:Nat→Rat}:(wF β).Ok Tryz.prog (SQ β) EV:=by
 intro db b args res new ha ρ W hf hE
 simp only [wF] at ha
 split at ha
 ·cases ha
  exact qA (Ox hE) rfl
 ·cases ha
theorem Ti {β:Nat→Rat} {h:Hint} (ok:h.Ok β):∀ c∈cl β h,c.Ok Tryz.prog (SQ β) EV:=fun c hc=>by
 rcases List.mem_cons.1 hc with rfl | hc
 ·exact Eh
 rcases List.mem_append.1 hc with hc | hc
 ·exact wJ ok c hc
 ·exact IV c hc
end Rx
namespace Rx
open Go.RowKit
def jg (db:List Fc):List Cell→Option (RE×Nat)
 | [.ob a,.os b,.bl false,.os c]=>if a=b && a+1=c then qC db a else none
 | _=>none
theorem jG {β:Nat→Rat} {ρ:Env} {W:World} {db:List Fc} {cs:List Cell} {e:RE} {k:Nat} (h:jg db cs=some (e,k)) (hf:∀ f∈db,(SQ β).on ρ f W):Z4.IsR W (.agg (cs.map (Cell.den ρ)).toArray) (e.ev β)∧Fits k (e.ev β):=by
 unfold jg at h
 split at h
 ·rename_i a b c
  split at h
  ·rename_i hh
   simp only [Bool.and_eq_true,decide_eq_true_eq] at hh
   obtain ⟨rfl,rfl⟩:=hh
   exact hf _ (sG h)
  ·cases h
 ·cases h
def CU (a b:Rat) (v:Value) (W:World):Prop:=∃ c d c' d':Nv,v=.agg #[.bool c.b,.slice c.p c.l c.c,.bool false,.slice d.p d.l d.c,.bool c'.b,.slice c'.p c'.l c'.c,.bool false,.slice d'.p d'.l d'.c] ∧
 Z4.IsR W (.agg #[.bool c.b,.slice c.p c.l c.c,.bool false,.slice d.p d.l d.c]) a∧Z4.IsR W (.agg #[.bool c'.b,.slice c'.p c'.l c'.c,.bool false,.slice d'.p d'.l d'.c]) b
def uF (db:List Fc) (cs:List Cell):Option ((RE×Nat)×RE×Nat):=
 match jg db (cs.take 4),jg db (cs.drop 4) with
 | some x,some y=>some (x,y)
 | _,_=>none
theorem JF {β:Nat→Rat} {ρ:Env} {W:World} {db:List Fc} {cs:List Cell} {e e':RE} {k k':Nat} (h:uF db cs=some ((e,k),e',k')) (hf:∀ f∈db,(SQ β).on ρ f W):CU (e.ev β) (e'.ev β) (.agg (cs.map (Cell.den ρ)).toArray) W∧Fits k (e.ev β)∧Fits k' (e'.ev β):=by
 unfold uF at h
 split at h
 ·rename_i x y h1 h2
  cases h
  obtain ⟨h3,f3⟩:=jG h1 hf
  obtain ⟨h4,f4⟩:=jG h2 hf
  obtain ⟨c,d,e3⟩:=kR h3
  obtain ⟨c',d',e4⟩:=kR h4
  rw [e3] at h3
  rw [e4] at h4
  have hl:(cs.map (Cell.den ρ))=((cs.take 4).map (Cell.den ρ)) ++ ((cs.drop 4).map (Cell.den ρ)):=by rw [← List.map_append,List.take_append_drop]
  have e3':(cs.take 4).map (Cell.den ρ)=[.bool c.b,.slice c.p c.l c.c,.bool false,.slice d.p d.l d.c]:=by
   simpa using congrArg Array.toList (Value.agg.inj e3)
  have e4':(cs.drop 4).map (Cell.den ρ)=[.bool c'.b,.slice c'.p c'.l c'.c,.bool false,.slice d'.p d'.l d'.c]:=by
   simpa using congrArg Array.toList (Value.agg.inj e4)
  rw [hl,e3',e4']
  exact ⟨⟨_,_,_,_,rfl,h3,h4⟩,f3,f4⟩
 ·cases h
def CW (w:World) (a b:Rat) (e:Ending) (w':World):Prop:=∃ v v',e=.returned (.tuple #[v,v'])∧wV a b v w'∧CU a b v' w'∧Below w.heap.size w w'
theorem LY {β:Nat→Rat} {f:FuncId} {vals:Array Value} {W:World} {ρ:Env} {b:Nat} {e e':RE} {k k':Nat} (hc:Calls Tryz.prog f vals W (CW W (e.ev β) (e'.ev β))) (hk:Fits k (e.ev β)) (hk':Fits k' (e'.ev β)) :
  Calls Tryz.prog f vals W (Ans β ρ b W (.t [.a (aS b ++ aS (b+2)),.a (bg (b+4) ++ bg (b+6))]) [.q b e k,.q (b+2) e' k',.r (b+4) e k,.r (b+6) e' k']):=by
 refine hc.mono fun _ W' ⟨v,v',he,hv,hv',hb⟩=>?_
 obtain ⟨c1,d1,c2,d2,rfl,i1,i2⟩:=PO hv
 obtain ⟨c3,d3,c4,d4,rfl,i3,i4⟩:=hv'
 have a0:=show b≤b+2+1 by omega
 have a1:=show b+2+1 - b=3 by omega
 have a2:=show b≤b+4+1 by omega
 have a3:=show b+4+1 - b=5 by omega
 have a4:=show b≤b+6+1 by omega
 have a5:=show b+6+1 - b=7 by omega
 have h1:(aS b).map (Cell.den (aK ρ b [c1,d1,c2,d2,c3,d3,c4,d4]))=[.bool c1.b,.int .u64 c1.u,.slice c1.p c1.l c1.c,.int .u64 d1.u,.slice d1.p d1.l d1.c]:=by simp [aS,Cell.den,aK]
 have h2:(aS (b+2)).map (Cell.den (aK ρ b [c1,d1,c2,d2,c3,d3,c4,d4]))=[.bool c2.b,.int .u64 c2.u,.slice c2.p c2.l c2.c,.int .u64 d2.u,.slice d2.p d2.l d2.c]:=by simp [aS,Cell.den,aK,a0,a1]
 have h3:(bg (b+4)).map (Cell.den (aK ρ b [c1,d1,c2,d2,c3,d3,c4,d4]))=[.bool c3.b,.slice c3.p c3.l c3.c,.bool false,.slice d3.p d3.l d3.c]:=by simp [bg,Cell.den,aK,a2,a3]
 have h4:(bg (b+6)).map (Cell.den (aK ρ b [c1,d1,c2,d2,c3,d3,c4,d4]))=[.bool c4.b,.slice c4.p c4.l c4.c,.bool false,.slice d4.p d4.l d4.c]:=by simp [bg,Cell.den,aK,a4,a5]
 refine ⟨aK ρ b [c1,d1,c2,d2,c3,d3,c4,d4],iZ (by simp [M]),?_,hb,fun g hg=>?_⟩
 ·rw [he];simp only [SV.den,El.den,List.map_cons,List.map_nil,List.map_append,h1,h2,h3,h4];rfl
 ·simp only [List.mem_cons,List.not_mem_nil,or_false] at hg
  rcases hg with rfl | rfl | rfl | rfl
  ·exact ⟨by rw [h1];exact i1,hk⟩
  ·exact ⟨by rw [h2];exact i2,hk'⟩
  ·exact ⟨by rw [h3];exact i3,hk⟩
  ·exact ⟨by rw [h4];exact i4,hk'⟩
def zu (e e':RE):Option (SV×List Fc)→Bool
 | some (.t [.a cs,.a rs],fs)=>match qL fs cs,uF fs rs with
  | some ((x,_),y,_),some ((x',_),y',_)=>x.beq e && y.beq e' && (x'.beq e && y'.beq e')
  | _,_=>false
 | _=>false
theorem Sv {e e':RE} {o:Option (SV×List Fc)} (h:zu e e' o=true):∃ cs rs fs k k' j j',o=some (.t [.a cs,.a rs],fs)∧qL fs cs=some ((e,k),e',k')∧uF fs rs=some ((e,j),e',j'):=by
 unfold zu at h
 split at h
 ·split at h
  ·rename_i cs rs fs _ _ x k y k' x' j y' j' ha hb
   simp only [Bool.and_eq_true] at h
   exact ⟨cs,rs,fs,k,k',j,j',rfl,by rw [ha,RE.beq_eq h.1.1,RE.beq_eq h.1.2],by rw [hb,RE.beq_eq h.2.1,RE.beq_eq h.2.2]⟩
  ·cases h
 ·cases h
def nu (n:Int):Nv:=⟨false,n,none,0,0,.empty,0⟩
abbrev hv (n d b:Int):List Value:=[.int .i64 n,.int .i64 d,.int .u8 b]
theorem Sm {n d b n' d' b':Int} {r r':Rat} {W:World} (h1:IsN n d b r) (h2:IsN n' d' b' r') (hE:EV W):Calls Tryz.prog 66 #[.agg (hv n d b ++ hv n' d' b').toArray] W (CW W r r'):=by
 have hr:zu (.v 0) (.v 1) (jk Tryz.prog (SQ (bet [r,r'])) (HQ _ {} (aO _)) (cl _ {}) 1 66 [.e (.a (handC 0 ++ handC 3))] [.n 0 (.v 0),.n 3 (.v 1)] 6)=true:=by kernel_rfl
 obtain ⟨cs,rs,fs',k,k',j,j',heq,ha,hb⟩:=Sv hr
 have hg:∀ g∈[Fc.n 0 (.v 0),Fc.n 3 (.v 1)],Fc.on (bet [r,r']) (ev [nu n,nu d,nu b,nu n',nu d',nu b']) g W:=by
  simp only [List.forall_mem_cons,List.not_mem_nil,false_imp_iff,implies_true,and_true]
  exact ⟨h1,h2⟩
 exact (jM mixed (Ti (aO _)) heq (jK hE) (ρ:=ev [nu n,nu d,nu b,nu n',nu d',nu b']) (w:=W) hg).mono fun x W' ⟨ρ',_,hx,hb',hfs⟩=>⟨_,_,hx,(GK ha hfs).1,(JF hb hfs).1,hb'⟩
def conBothP (β:Nat→Rat):Con (SQ β) where
 fn:=66
 app:=fun db b args=>match args with
  | [.e (.a x)]=>match qP (x.take 3),qP (x.drop 3) with
   | some a,some a'=>match mG db a,mG db a' with
    | some e,some e'=>some (.t [.a (aS b ++ aS (b+2)),.a (bg (b+4) ++ bg (b+6))],[.q b e 4,.q (b+2) e' 4,.r (b+4) e 4,.r (b+6) e' 4])
    | _,_=>none
   | _,_=>none
  | _=>none
theorem IsN.fits {n d b:Int} {r:Rat} (h:IsN n d b r):Fits 4 r:=by
 obtain ⟨pw,-,-,h1,h2,h3,h4,he⟩:=h
 rw [← he]
 exact Dt _ _ _ h1 h2 h3 h4
theorem PV {β:Nat→Rat}:(conBothP β).Ok Tryz.prog (SQ β) EV:=by
 intro db b args res new ha ρ W hf hE
 simp only [conBothP] at ha
 split at ha
 ·rename_i x
  split at ha
  ·rename_i a a' hx hx'
   split at ha
   ·rename_i e e' hn hn'
    cases ha
    have hm:=hf _ (nM hn)
    have hm':=hf _ (nM hn')
    have hl:x=handC a ++ handC a':=by rw [← wW hx,← wW hx',List.take_append_drop]
    rw [hl]
    exact LY (Sm hm hm' hE) (IsN.fits hm) (IsN.fits hm')
   ·cases ha
  ·cases ha
 ·cases ha
def Jc (a b c d:RE):RE:=.sub (.mul c a) (.mul d b)
def LD (a b c d:RE):RE:=.sub (.mul a c) (.mul b d)
abbrev C1:RE:=tC (.v 0)
abbrev S1:RE:=tS (.v 0)
abbrev C2:RE:=tC (.v 1)
abbrev S2:RE:=tS (.v 1)
abbrev wC:RE:=LD C1 S1 C2 S2
abbrev ax:RE:=Jc (.v 2) (.v 3) C1 S1
abbrev bx:RE:=Jc (.v 4) (.v 5) C1 S1
end Rx
section
open Go.ChangeShapes Go.WideShapes Go.ChangeAt Go.RowKit Go.Joins
section
variable {H:Type} {enc:TypeId×Value→H}
theorem NumIn.is {n d:Int} {b:Nat} (h:NumIn n d b):Rx.IsN n d (b:Int) (numOf n d b):=⟨b,rfl,h.b1,h.n1,h.n2,h.d1,h.d2,rfl⟩
theorem Ux {α:Type} {l:List α} (h:l.length=6):∃ c0 c1 c2 c3 c4 c5,l=[c0,c1,c2,c3,c4,c5]:=by
 match l,h with
 | [c0,c1,c2,c3,c4,c5],_=>exact ⟨c0,c1,c2,c3,c4,c5,rfl⟩
theorem Fa:Tryz.prog.cellsOf 81=6:=by kernel_rfl
theorem Ri:Tryz.prog.cellsOf 2=1:=by kernel_rfl
theorem Qx:Tryz.prog.cellsOf 5=1:=by kernel_rfl
theorem BO {W:World} {c0 c1 c2:Value} {fuel:Nat} {x:DataW H×List MemPlace} (h:DataW.trod enc Tryz.prog W 0 (fun _=>true) true fuel 46 [c0,c1,c2]=some x) :
  ∃ (n d:Int) (b:Nat),c0=.int .i64 n∧c1=.int .i64 d∧c2=.int .u8 (b:Int)∧x=(.agg [.lit (.int .i64 n),.lit (.int .i64 d),.lit (.int .u8 (b:Int))],[])∧NumIn n d b:=by
 obtain ⟨y0,y1,y2,m,rfl,-,hy0,hy1,hy2⟩:=Go.Deep.trod_struct3 Tryz.underlying46 h
 simp only [Ri,Qx,List.drop_zero,List.take_succ_cons,List.take_zero,List.drop_succ_cons] at hy0 hy1 hy2
 obtain ⟨n,e0,e0',wn⟩:=DataW.trod_int Tryz.underlying2 hy0
 obtain ⟨d,e1,e1',wd⟩:=DataW.trod_int Tryz.underlying2 hy1
 obtain ⟨b,e2,e2',wb⟩:=DataW.trod_int Tryz.underlying5 hy2
 simp at e0 e1 e2
 subst e0 e1 e2 e0' e1' e2'
 have:=zU wb
 obtain ⟨k,rfl⟩:∃ k:Nat,b=(k:Int):=⟨b.toNat,by omega⟩
 exact ⟨n,d,k,rfl,rfl,rfl,rfl,wn,wd,wb⟩
theorem tX {W:World} {base:Nat} {v:Value} {x:DataW H} {p:List MemPlace} (hv:Value.okWide Tryz.prog W .any base 81 v) (h:DataW.Trod enc Tryz.prog W 0 (fun _=>true) true 81 v x p) :
  ∃ (n d:Int) (b:Nat) (n' d':Int) (b':Nat),v=.agg #[.int .i64 n,.int .i64 d,.int .u8 (b:Int),.int .i64 n',.int .i64 d',.int .u8 (b':Int)] ∧
   x=.agg [.agg [.lit (.int .i64 n),.lit (.int .i64 d),.lit (.int .u8 (b:Int))],.agg [.lit (.int .i64 n'),.lit (.int .i64 d'),.lit (.int .u8 (b':Int))]]∧p=[]∧NumIn n d b∧NumIn n' d' b':=by
 obtain ⟨cs,rfl,hsz⟩:=okWide_struct Tryz.underlying81 hv
 rw [Fa] at hsz
 obtain ⟨l⟩:=cs
 obtain ⟨c0,c1,c2,c3,c4,c5,rfl⟩:=Ux hsz
 obtain ⟨fuel,hf⟩:=h
 obtain ⟨y0,y1,m,hx,-,h0,h1⟩:=trod_struct2 Tryz.underlying81 hf
 simp only [Value.cells,numCells,List.drop_zero,List.take_succ_cons,List.take_zero,List.drop_succ_cons] at h0 h1
 obtain ⟨n,d,b,rfl,rfl,rfl,rfl,w0⟩:=BO h0
 obtain ⟨n',d',b',rfl,rfl,rfl,rfl,w1⟩:=BO h1
 simp only [Prod.mk.injEq,List.append_nil] at hx
 exact ⟨n,d,b,n',d',b',rfl,hx.1,hx.2,w0,w1⟩
theorem uI {W:World} {base:Nat} {sp:Nat→Bool} {held:Bool} {n d n' d':Int} {b b':Nat} (h:NumIn n d b) (h':NumIn n' d' b') :
  DataW.Trod enc Tryz.prog W base sp held 81 (.agg #[.int .i64 n,.int .i64 d,.int .u8 (b:Int),.int .i64 n',.int .i64 d',.int .u8 (b':Int)]) (.agg [.agg [.lit (.int .i64 n),.lit (.int .i64 d),.lit (.int .u8 (b:Int))],.agg [.lit (.int .i64 n'),.lit (.int .i64 d'),.lit (.int .u8 (b':Int))]]) []:=by
 obtain ⟨m0,t0⟩:=AV (enc:=enc) (W:=W) (base:=base) (sp:=sp) (held:=held) h
 obtain ⟨m1,t1⟩:=AV (enc:=enc) (W:=W) (base:=base) (sp:=sp) (held:=held) h'
 have ts:=trod_struct2_mk (enc:=enc) (w:=W) (base:=base) (spare:=sp) (held:=held) (n:=max m0 m1) (cs:=[.int .i64 n,.int .i64 d,.int .u8 (b:Int),.int .i64 n',.int .i64 d',.int .u8 (b':Int)]) Tryz.underlying81 (by rw [Fa];rfl)
  (by simp only [numCells,List.drop_zero,List.take_succ_cons,List.take_zero];exact DataW.trod_le (Nat.le_max_left m0 m1) t0)
  (by simp only [numCells,List.take_succ_cons,List.take_zero,List.drop_succ_cons,List.drop_zero];exact DataW.trod_le (Nat.le_max_right m0 m1) t1)
 exact ⟨_,ts⟩
end
end
section
open Go.ChangeShapes Go.WideShapes Go.ChangeAt Go.RowKit Go.Joins
section
variable {P:Program} {H:Type} {enc:TypeId×Value→H} {w:World} {base:Nat} {spare:Nat→Bool} {held:Bool}
theorem Ud {t t' t'' t3 t4:TypeId} {args:Array Value} {ds:List (DataW H)} {ps:List MemPlace} (h:DataW.TrodAll enc P w base spare held [t,t',t'',t3,t4] args.toList ds ps) :
  ∃ v v' v'' v3 v4 d d' d'' d3 d4 p p' p'' p3 p4,args=#[v,v',v'',v3,v4]∧ds=[d,d',d'',d3,d4]∧ps=p ++ p' ++ p'' ++ p3 ++ p4∧DataW.Trod enc P w base spare held t v d p∧DataW.Trod enc P w base spare held t' v' d' p'∧DataW.Trod enc P w base spare held t'' v'' d'' p''∧DataW.Trod enc P w base spare held t3 v3 d3 p3∧DataW.Trod enc P w base spare held t4 v4 d4 p4:=by
 obtain ⟨v,vs,d,ds',p,q,hargs,rfl,rfl,hd,hrest⟩:=trodAll_cons h
 obtain ⟨v',v'',v3,v4,d',d'',d3,d4,p',p'',p3,p4,hv,rfl,rfl,h1,h2,h3,h4⟩:=trodAll_four (args:=vs.toArray) hrest
 have hvs:vs=[v',v'',v3,v4]:=by simpa using congrArg Array.toList hv
 exact ⟨v,v',v'',v3,v4,d,d',d'',d3,d4,p,p',p'',p3,p4,by cases args;simp_all,rfl,by simp,hd,h1,h2,h3,h4⟩
theorem JU {t t' t'' t3 t4:TypeId} {v v' v'' v3 v4:Value} {d d' d'' d3 d4:DataW H} {p p' p'' p3 p4:List MemPlace} (h:DataW.Trod enc P w base spare held t v d p) (h':DataW.Trod enc P w base spare held t' v' d' p')
  (h'':DataW.Trod enc P w base spare held t'' v'' d'' p'') (h3:DataW.Trod enc P w base spare held t3 v3 d3 p3) (h4:DataW.Trod enc P w base spare held t4 v4 d4 p4):DataW.TrodAll enc P w base spare held [t,t',t'',t3,t4] [v,v',v'',v3,v4] [d,d',d'',d3,d4] (p ++ (p' ++ (p'' ++ (p3 ++ p4)))):=⟨p,p' ++ (p'' ++ (p3 ++ p4)),h,trodAll_mk4 h' h'' h3 h4,rfl⟩
end
end
namespace Z4
open Go.RowKit Go.Sort
structure kF (xs ys ds:List Nat) (k c:Nat):Prop where
 len:ds.length=k
 dig:Dig ds
 le:c≤1
 eq:val ds+c*B4 ^ k=val (xs.take k)+val (ys.take k)
 top:k=0∨(∃ e d,ds=e ++ [d]∧d≠0)∨k<xs.length∨k<ys.length∨0<c
 b1:k≤xs.length+ys.length+1
 b2:0<c→k≤xs.length+ys.length
theorem kF.start (xs ys:List Nat):kF xs ys [] 0 0:=⟨rfl,Dig.nil,by omega,by simp [val],.inl rfl,by omega,by omega⟩
theorem DW (xs:List Nat) (k:Nat):val (xs.take (k+1))=val (xs.take k)+B4 ^ k*xs[k]?.getD 0:=by
 by_cases hk:k<xs.length
 ·rw [uh xs k hk,List.getElem?_eq_getElem hk];rfl
 ·rw [List.getElem?_eq_none (by omega),List.take_of_length_le (by omega),List.take_of_length_le (by omega)];simp
theorem kF.step {xs ys ds:List Nat} {k c x y d c':Nat} (h:kF xs ys ds k c) (hgo:k<xs.length∨k<ys.length∨0<c) (tx:aG xs) (ty:aG ys) (hx:xs[k]?.getD 0=x) (hy:ys[k]?.getD 0=y) (hd:d<10000) (hc:c'≤1) (e:c+x+y=d+c' * 10000) (e0:k<xs.length→x<10000) (e1:k<ys.length→y<10000) :
  kF xs ys (ds ++ [d]) (k+1) c':=by
 have hb:xs.length≤k→x=0:=fun h=>by rw [← hx,List.getElem?_eq_none h];rfl
 have hb':ys.length≤k→y=0:=fun h=>by rw [← hy,List.getElem?_eq_none h];rfl
 have hle:=h.le
 have hb1:=h.b1
 have hb2:=h.b2
 have hlast:k+1=xs.length→x≠0:=fun hk e0=>by
  have hne:xs≠[]:=fun e=>by subst e;simp at hk
  have:=tx hne
  rw [List.getLast_eq_getElem] at this
  apply this
  rw [← e0,← hx,List.getElem?_eq_getElem (by omega)]
  simp only [Option.getD_some]
  congr 1
  omega
 have hlast':k+1=ys.length→y≠0:=fun hk e0=>by
  have hne:ys≠[]:=fun e=>by subst e;simp at hk
  have:=ty hne
  rw [List.getLast_eq_getElem] at this
  apply this
  rw [← e0,← hy,List.getElem?_eq_getElem (by omega)]
  simp only [Option.getD_some]
  congr 1
  omega
 refine ⟨by simp [h.len],h.dig.append (fun z hz=>by simp at hz;subst hz;exact hd),hc,?_,?_,?_,?_⟩
 ·have h1:=h.eq
  rw [DW xs,DW ys,gu,h.len,Nat.pow_succ,hx,hy,show B4=10000 from rfl]
  rw [show B4=10000 from rfl] at h1
  generalize 10000 ^ k=P at *
  generalize val (xs.take k)=X at *
  generalize val (ys.take k)=Y at *
  generalize val ds=D at *
  have:=congrArg (P * ·) e
  grind
 ·right
  by_cases hd0:d=0
  ·right
   subst hd0
   rcases Nat.eq_zero_or_pos c' with hc0 | hc0
   ·subst hc0
    have:c=0∧x=0∧y=0:=by omega
    obtain ⟨rfl,rfl,rfl⟩:=this
    rcases Nat.lt_trichotomy (k+1) xs.length with h1 | h1 | h1
    ·exact .inl h1
    ·exact absurd rfl (hlast h1)
    ·rcases Nat.lt_trichotomy (k+1) ys.length with h2 | h2 | h2
     ·exact .inr (.inl h2)
     ·exact absurd rfl (hlast' h2)
     ·omega
   ·exact .inr (.inr hc0)
  ·exact .inl ⟨ds,d,rfl,hd0⟩
 ·omega
 ·intro hc0
  by_cases h1:k<xs.length
  ·omega
  ·by_cases h2:k<ys.length
   ·omega
   ·have:=hb (by omega);have:=hb' (by omega);omega
theorem kF.done {xs ys ds:List Nat} {k:Nat} (h:kF xs ys ds k 0) (h1:xs.length≤k) (h2:ys.length≤k):val ds=val xs+val ys∧aG ds:=by
 refine ⟨?_,?_⟩
 ·have:=h.eq
  rw [List.take_of_length_le h1,List.take_of_length_le h2] at this
  omega
 ·intro hne
  rcases h.top with h3 | ⟨e,d,rfl,hd⟩ | h3 | h3 | h3
  ·exfalso;apply hne;rw [← List.length_eq_zero_iff,h.len,h3]
  ·simpa using hd
  ·omega
  ·omega
  ·omega
theorem RN (p p2:Option Addr) (b o k b2 o2 k2:Nat) (xs ys:List Nat) (w:World) (hp:xs.length≠0→p=some ⟨b,o,none⟩) (hbw:xs.length≠0→b<w.heap.size) (hx:Ints w b o xs) (hp2:ys.length≠0→p2=some ⟨b2,o2,none⟩) (hbw2:ys.length≠0→b2<w.heap.size) (hy:Ints w b2 o2 ys)
  (dx:Dig xs) (dy:Dig ys) (tx:aG xs) (ty:aG ys) (hsz:xs.length≤549755813888) (hsz2:ys.length≤549755813888) :
  Calls Tryz.prog 167 #[.slice p xs.length k,.slice p2 ys.length k2] w (jF w (val xs+val ys)):=by
 have HP:=hid (And.intro hp (And.intro hbw hx))
 have HP2:=hid (And.intro hp2 (And.intro hbw2 hy))
 have HT:=hid (And.intro tx ty)
 clear hp hbw hx hp2 hbw2 hy tx ty
 obtain ⟨i0,hi,hz0,hz1,hz2⟩:=info_parts lu
 obtain ⟨V,hV⟩:∃ V,val xs+val ys=V:=⟨_,rfl⟩
 rw [hV]
 have HVV:=hid hV
 clear hV
 go_enter Tryz.func167,Tryz.ntmps167
 go_wp2
 go_loopw [5,6,7] (fun ov cv iv wr=>∃ (i c:Nat) (ds:List Nat),iv=.int .i64 i∧cv=.int .i64 c∧wr.ownsRow w.heap.size 3 1 ov i (ds.map enc)∧kF xs ys ds i c∧Below w.heap.size w wr) (fun _ _ iv _=>(xs.length+ys.length+1) - (intOf iv).toNat)
 case atStart=>exact ⟨0,0,[],rfl,rfl,World.ownsRow_nil _ _ _ _,kF.start xs ys,Below.refl _ _⟩
 case round =>
  obtain ⟨i,c,ds,rfl,rfl,hown,hI,hB⟩:=hrel
  have hc1:=hI.le
  have hb1:=hI.b1
  have hb2:=hI.b2
  have HB:=hid hB
  have HO:=hid hown
  by_cases hgo:i<xs.length∨i<ys.length∨0<c
  ·obtain ⟨x,hxi⟩:∃ x,xs[i]?.getD 0=x:=⟨_,rfl⟩
   obtain ⟨y,hyi⟩:∃ y,ys[i]?.getD 0=y:=⟨_,rfl⟩
   have hx1:x<10000:=hxi ▸ dx.getD i
   have hy1:y<10000:=hyi ▸ dy.getD i
   have HI:=hid (fun (d c':Nat) (hd:d<10000) (hc:c'≤1) (e:c+x+y=d+c' * 10000) (e0:k=k) (e1:k=k)=>hI.step hgo HT.out.1 HT.out.2 hxi hyi hd hc e (fun _=>hx1) (fun _=>hy1))
   have HX:=hid hxi
   have HY:=hid hyi
   clear hI hxi hyi hB hown
   by_cases hlx:i<xs.length
   ·by_cases hly:i<ys.length
    ·clear hgo
     obtain rfl:=HP.out.1 (by omega)
     have cx:wr.cell? ⟨b,o+i,none⟩=some (.int .i64 (x:Int)):=by rw [HB.out.cell (p:=⟨b,o+i,none⟩) (HP.out.2.1 (by omega)),HP.out.2.2 i (by omega),HX.out]
     obtain rfl:=HP2.out.1 (by omega)
     have cy:wr.cell? ⟨b2,o2+i,none⟩=some (.int .i64 (y:Int)):=by rw [HB.out.cell (p:=⟨b2,o2+i,none⟩) (HP2.out.2.1 (by omega)),HP2.out.2.2 i (by omega),HY.out]
     obtain ⟨s,hs⟩:∃ s:Nat,s=c+x+y:=⟨_,rfl⟩
     obtain ⟨d,hd⟩:∃ d:Nat,d=s % 10000:=⟨_,rfl⟩
     obtain ⟨c',hc'⟩:∃ c':Nat,c' = s / 10000:=⟨_,rfl⟩
     have hd1:d<10000:=by omega
     have HN:=hid (HI.out d c' hd1 (by omega) (by omega) (by omega) (by omega))
     have HD:=hid (And.intro hs (And.intro hd hc'))
     clear hs hd hc' hd1
     go_wp2_with (first
      | (at_builtin;refine wpList_append_own _ rfl _ _ 36 rfl w.heap.size 3 i0 (.int .i64 0) 1 8 Tryz.underlying36 hi hz0 hz1 hz2 rfl (by decide) _ _ _ rfl (HO.out.alloc _) ⟨wr.heap.size,0,none⟩ 1 1 [.int .i64 (d:Int)] rfl rfl ?c1 ?c2 ?c3 ?c4 ?c5 ?_))
     case c1 =>
      intro j u hj
      match j,hj with
      | 0,hj=>simp at hj;subst hj;have:=HD.out;first | (simp;omega) | (simp [Addr.add];omega) | (simp [Addr.add])
     case c2=>first | rfl | (intro u hu;simp at hu;subst hu;rfl)
     case c3=>unfold maxLen;omega
     case c4=>omega
     case c5=>have:=HB.out.size;simp;omega
     intro v' w1 hown' hgrow _
     have hB2:Below w.heap.size w w1:=(HB.out.alloc HB.out.size _).grown hgrow (by have:=HB.out.size;simp;omega) (fun k hk=>(HO.out.lt k hk).1)
     rw [← iV] at hown'
     have HO2:=hid hown'
     have HB2:=hid hB2
     clear hown' hgrow hB2
     go_wp2
     go_roundw
     case rel=>exact ⟨i+1,c',ds ++ [d],by go_num,by have:=HD.out;first | rfl | (congr 1;omega),HO2.out,HN.out,HB2.out⟩
     case measure=>simp [intOf];omega
    ·clear hgo
     obtain rfl:=HP.out.1 (by omega)
     have cx:wr.cell? ⟨b,o+i,none⟩=some (.int .i64 (x:Int)):=by rw [HB.out.cell (p:=⟨b,o+i,none⟩) (HP.out.2.1 (by omega)),HP.out.2.2 i (by omega),HX.out]
     obtain rfl:y=0:=by rw [← HY.out,List.getElem?_eq_none (by omega)];rfl
     obtain ⟨s,hs⟩:∃ s:Nat,s=c+x+0:=⟨_,rfl⟩
     obtain ⟨d,hd⟩:∃ d:Nat,d=s % 10000:=⟨_,rfl⟩
     obtain ⟨c',hc'⟩:∃ c':Nat,c' = s / 10000:=⟨_,rfl⟩
     have hd1:d<10000:=by omega
     have HN:=hid (HI.out d c' hd1 (by omega) (by omega) (by omega) (by omega))
     have HD:=hid (And.intro hs (And.intro hd hc'))
     clear hs hd hc' hd1
     go_wp2_with (first
      | (at_builtin;refine wpList_append_own _ rfl _ _ 36 rfl w.heap.size 3 i0 (.int .i64 0) 1 8 Tryz.underlying36 hi hz0 hz1 hz2 rfl (by decide) _ _ _ rfl (HO.out.alloc _) ⟨wr.heap.size,0,none⟩ 1 1 [.int .i64 (d:Int)] rfl rfl ?c1 ?c2 ?c3 ?c4 ?c5 ?_))
     case c1 =>
      intro j u hj
      match j,hj with
      | 0,hj=>simp at hj;subst hj;have:=HD.out;first | (simp;omega) | (simp [Addr.add];omega) | (simp [Addr.add])
     case c2=>first | rfl | (intro u hu;simp at hu;subst hu;rfl)
     case c3=>unfold maxLen;omega
     case c4=>omega
     case c5=>have:=HB.out.size;simp;omega
     intro v' w1 hown' hgrow _
     have hB2:Below w.heap.size w w1:=(HB.out.alloc HB.out.size _).grown hgrow (by have:=HB.out.size;simp;omega) (fun k hk=>(HO.out.lt k hk).1)
     rw [← iV] at hown'
     have HO2:=hid hown'
     have HB2:=hid hB2
     clear hown' hgrow hB2
     go_wp2
     go_roundw
     case rel=>exact ⟨i+1,c',ds ++ [d],by go_num,by have:=HD.out;first | rfl | (congr 1;omega),HO2.out,HN.out,HB2.out⟩
     case measure=>simp [intOf];omega
   ·by_cases hly:i<ys.length
    ·clear hgo
     obtain rfl:x=0:=by rw [← HX.out,List.getElem?_eq_none (by omega)];rfl
     obtain rfl:=HP2.out.1 (by omega)
     have cy:wr.cell? ⟨b2,o2+i,none⟩=some (.int .i64 (y:Int)):=by rw [HB.out.cell (p:=⟨b2,o2+i,none⟩) (HP2.out.2.1 (by omega)),HP2.out.2.2 i (by omega),HY.out]
     obtain ⟨s,hs⟩:∃ s:Nat,s=c+0+y:=⟨_,rfl⟩
     obtain ⟨d,hd⟩:∃ d:Nat,d=s % 10000:=⟨_,rfl⟩
     obtain ⟨c',hc'⟩:∃ c':Nat,c' = s / 10000:=⟨_,rfl⟩
     have hd1:d<10000:=by omega
     have HN:=hid (HI.out d c' hd1 (by omega) (by omega) (by omega) (by omega))
     have HD:=hid (And.intro hs (And.intro hd hc'))
     clear hs hd hc' hd1
     go_wp2_with (first
      | (at_builtin;refine wpList_append_own _ rfl _ _ 36 rfl w.heap.size 3 i0 (.int .i64 0) 1 8 Tryz.underlying36 hi hz0 hz1 hz2 rfl (by decide) _ _ _ rfl (HO.out.alloc _) ⟨wr.heap.size,0,none⟩ 1 1 [.int .i64 (d:Int)] rfl rfl ?c1 ?c2 ?c3 ?c4 ?c5 ?_))
     case c1 =>
      intro j u hj
      match j,hj with
      | 0,hj=>simp at hj;subst hj;have:=HD.out;first | (simp;omega) | (simp [Addr.add];omega) | (simp [Addr.add])
     case c2=>first | rfl | (intro u hu;simp at hu;subst hu;rfl)
     case c3=>unfold maxLen;omega
     case c4=>omega
     case c5=>have:=HB.out.size;simp;omega
     intro v' w1 hown' hgrow _
     have hB2:Below w.heap.size w w1:=(HB.out.alloc HB.out.size _).grown hgrow (by have:=HB.out.size;simp;omega) (fun k hk=>(HO.out.lt k hk).1)
     rw [← iV] at hown'
     have HO2:=hid hown'
     have HB2:=hid hB2
     clear hown' hgrow hB2
     go_wp2
     go_roundw
     case rel=>exact ⟨i+1,c',ds ++ [d],by go_num,by have:=HD.out;first | rfl | (congr 1;omega),HO2.out,HN.out,HB2.out⟩
     case measure=>simp [intOf];omega
    ·have hc0:0<c:=by omega
     clear hgo
     obtain rfl:x=0:=by rw [← HX.out,List.getElem?_eq_none (by omega)];rfl
     obtain rfl:y=0:=by rw [← HY.out,List.getElem?_eq_none (by omega)];rfl
     have hcc:0<c:=by omega
     obtain rfl:c=1:=by omega
     obtain ⟨s,hs⟩:∃ s:Nat,s=1+0+0:=⟨_,rfl⟩
     obtain ⟨d,hd⟩:∃ d:Nat,d=s % 10000:=⟨_,rfl⟩
     obtain ⟨c',hc'⟩:∃ c':Nat,c' = s / 10000:=⟨_,rfl⟩
     have hd1:d<10000:=by omega
     have HN:=hid (HI.out d c' hd1 (by omega) (by omega) (by omega) (by omega))
     have HD:=hid (And.intro hs (And.intro hd hc'))
     clear hs hd hc' hd1
     go_wp2_with (first
      | (at_builtin;refine wpList_append_own _ rfl _ _ 36 rfl w.heap.size 3 i0 (.int .i64 0) 1 8 Tryz.underlying36 hi hz0 hz1 hz2 rfl (by decide) _ _ _ rfl (HO.out.alloc _) ⟨wr.heap.size,0,none⟩ 1 1 [.int .i64 (d:Int)] rfl rfl ?c1 ?c2 ?c3 ?c4 ?c5 ?_))
     case c1 =>
      intro j u hj
      match j,hj with
      | 0,hj=>simp at hj;subst hj;have:=HD.out;first | (simp;omega) | (simp [Addr.add];omega) | (simp [Addr.add])
     case c2=>first | rfl | (intro u hu;simp at hu;subst hu;rfl)
     case c3=>unfold maxLen;omega
     case c4=>omega
     case c5=>have:=HB.out.size;simp;omega
     intro v' w1 hown' hgrow _
     have hB2:Below w.heap.size w w1:=(HB.out.alloc HB.out.size _).grown hgrow (by have:=HB.out.size;simp;omega) (fun k hk=>(HO.out.lt k hk).1)
     rw [← iV] at hown'
     have HO2:=hid hown'
     have HB2:=hid hB2
     clear hown' hgrow hB2
     go_wp2
     go_roundw
     case rel=>exact ⟨i+1,c',ds ++ [d],by go_num,by have:=HD.out;first | rfl | (congr 1;omega),HO2.out,HN.out,HB2.out⟩
     case measure=>simp [intOf];omega
  ·have hlx:¬ i<xs.length:=by omega
   have hly:¬ i<ys.length:=by omega
   obtain rfl:c=0:=by omega
   clear hgo
   have HD:=hid (hI.done (by omega) (by omega))
   have HL:=hid (IsL.of_own hown)
   have HI:=hid hI
   clear hI hown hB
   go_wp2
   go_ret
   exact ⟨_,_,rfl,HL.out,HI.out.dig,HD.out.2,by rw [HD.out.1,HVV.out],HB.out⟩
theorem LK {B B2:Nat} (v v2:Value) (xs ys:List Nat) (w:World) (h:IsL B w v xs) (h2:IsL B2 w v2 ys) (dx:Dig xs) (dy:Dig ys) (tx:aG xs) (ty:aG ys) (hsz:xs.length≤549755813888) (hsz2:ys.length≤549755813888) :
  Calls Tryz.prog 167 #[v,v2] w (jF w (val xs+val ys)):=by
 obtain ⟨p,b,o,k,rfl,hp,hb,hk,hx⟩:=h.shape
 obtain ⟨p2,b2,o2,k2,rfl,hp2,hb2,hk2,hy⟩:=h2.shape
 exact RN p p2 b o k b2 o2 k2 xs ys w hp hb hx hp2 hb2 hy dx dy tx ty hsz hsz2
end Z4
namespace Rx
open Go.RowKit
inductive Fd
 | l (s:Nat) (e:RE) (k:Nat)
 | z (s:Nat) (e:RE) (k:Nat)
 | r (s:Nat) (e:RE) (k:Nat)
def Fd.nm:Fd→List Nat
 | .l s _ _ | .z s _ _=>[s]
 | .r s _ _=>[s,s+1]
def zC (s:Nat):List Cell:=[.ob s,.os s]
def IsG (W:World) (v:Value) (r:Rat) (k:Nat):Prop:=∃ xs,Z4.IsL 0 W v xs∧Z4.Dig xs∧Z4.aG xs∧((Z4.val xs:Nat):Rat)=r∧Z4.val xs<B64 ^ k
def IsY (W:World) (v:Value) (r:Rat) (k:Nat):Prop:=∃ z:Int,Z4.IsZ W v z∧(z:Rat)=r∧z.natAbs<B64 ^ k
def Fd.on (β:Nat→Rat) (ρ:Env):Fd→World→Prop
 | .l s e k,W=>IsG W (.slice (ρ s).p (ρ s).l (ρ s).c) (e.ev β) k
 | .z s e k,W=>IsY W (.agg ((zC s).map (Cell.den ρ)).toArray) (e.ev β) k
 | .r s e k,W=>Z4.IsR W (.agg ((bg s).map (Cell.den ρ)).toArray) (e.ev β)∧Fits k (e.ev β)
def SR (β:Nat→Rat):Sys where
 F:=Fd
 nm:=Fd.nm
 on:=Fd.on β
 okC:=okC
 cg:=fun {ρ ρ' f W} h hf=>by
  cases f with
  | l s e k=>simp only [Fd.on] at hf ⊢;rw [← h s (by simp [Fd.nm])];exact hf
  | z s e k =>
   simp only [Fd.nm,List.mem_cons,List.not_mem_nil,or_false] at h
   simp only [Fd.on] at hf ⊢
   rwa [nG (ρ:=ρ') (ρ':=ρ) (l:=zC s) fun n hn=>(h n (by simpa [zC,Cell.nm] using hn)).symm]
  | r s e k =>
   simp only [Fd.nm,List.mem_cons,List.not_mem_nil,or_false] at h
   simp only [Fd.on] at hf ⊢
   rwa [nG (ρ:=ρ') (ρ':=ρ) (l:=bg s) fun n hn=>(h n (by simpa [bg,Cell.nm] using hn)).symm]
 bl:=fun {ρ f W W'} hb hf=>by
  cases f with
  | l s e k=>obtain ⟨xs,h1,h2⟩:=hf;exact ⟨xs,h1.below hb,h2⟩
  | z s e k=>obtain ⟨z,h1,h2⟩:=hf;exact ⟨z,h1.below hb,h2⟩
  | r s e k=>exact ⟨Z4.IsR.below hf.1 hb,hf.2⟩
 st:=fun {ρ f W b T cs i u} hok hb hf=>by
  have hv:=zD ρ hok
  have hb':Go.Proofs.YtnmlkobogofadaaGreatDoor.Bx W b T (cs.map (Cell.den ρ)):=hb
  cases f with
  | l s e k=>obtain ⟨xs,h1,h2⟩:=hf;exact ⟨xs,h1.setBox hb' hv,h2⟩
  | z s e k=>obtain ⟨z,h1,h2⟩:=hf;exact ⟨z,h1.setBox hb' hv,h2⟩
  | r s e k=>exact ⟨Z4.IsR.setBox hf.1 hb' hv,hf.2⟩
def HR (β:Nat→Rat):Tests (SR β) where
 eq:=fun _ _ _=>none
 ok:=fun h=>(by cases h)
theorem ji (k:Nat):B64 ^ k≤Z4.B4 ^ (5*k):=by
 rw [Nat.pow_mul]
 exact Nat.pow_le_pow_left (by decide) k
theorem qO {xs:List Nat} {k:Nat} (t:Z4.aG xs) (h:Z4.val xs<B64 ^ k):xs.length≤5*k:=Z4.dw t (Nat.lt_of_lt_of_le h (ji k))
def iU:List Fd→Nat→Option (RE×Nat)
 | [],_=>none
 | .l s e k :: r,n=>if s=n then some (e,k) else iU r n
 | _ :: r,n=>iU r n
theorem jh {n:Nat} {e:RE} {k:Nat}:∀ {db:List Fd},iU db n=some (e,k)→.l n e k∈db
 | [],h=>by simp [iU] at h
 | f :: r,h=>by
  cases f with
  | l s e' k' =>
   simp only [iU] at h
   split at h
   ·rename_i hs;cases h;subst hs;simp
   ·exact List.mem_cons_of_mem _ (jh h)
  | z _ _ _=>exact List.mem_cons_of_mem _ (jh h)
  | r _ _ _=>exact List.mem_cons_of_mem _ (jh h)
def asG (db:List Fd):Cell→Option (RE×Nat)
 | .os s=>iU db s
 | .nils=>some (.c 0,0)
 | _=>none
theorem qm {β:Nat→Rat} {ρ:Env} {W:World} {db:List Fd} {c:Cell} {e:RE} {k:Nat} (h:asG db c=some (e,k)) (hf:∀ f∈db,(SR β).on ρ f W):IsG W (c.den ρ) (e.ev β) k:=by
 unfold asG at h
 split at h
 ·exact hf _ (jh h)
 ·cases h
  exact ⟨[],Z4.IsL.nil 0 W,Z4.Dig.nil,fun h=>absurd rfl h,rfl,by simp [Z4.val]⟩
 ·cases h
section
variable (β:Nat→Rat) (h:Hint)
def yN:Con (SR β) where
 fn:=167
 app:=fun db b args=>match args with
  | [.e (.s x),.e (.s y)]=>match asG db x,asG db y with
   | some (e,k),some (e',k')=>if decide (k≤K1) && decide (k'≤K1) then some (.e (.s (.os b)),[.l b (.add e e') (max k k' + 1)]) else none
   | _,_=>none
  | _=>none
def wX:Con (SR β) where
 fn:=169
 app:=fun db b args=>match args with
  | [.e (.s x),.e (.s y)]=>match asG db x,asG db y with
   | some (e,k),some (e',k')=>if decide (k≤K1) && decide (k'≤K1) && (cmB h e e').any (0≤·) then some (.e (.s (.os b)),[.l b (.sub e e') k]) else none
   | _,_=>none
  | _=>none
def zW:Con (SR β) where
 fn:=168
 app:=fun db _ args=>match args with
  | [.e (.s x),.e (.s y)]=>match asG db x,asG db y with
   | some (e,k),some (e',k')=>if decide (k≤K1) && decide (k'≤K1) then (match cmB h e e' with
     | some c=>some (.e (.s (.it .i64 c)),[])
     | none=>none) else none
   | _,_=>none
  | _=>none
def yG:Con (SR β) where
 fn:=134
 app:=fun db _ args=>match args with
  | [.e (.s (.bl t)),.e (.s (.os s))]=>match iU db s with
   | some (e,_)=>if !t then some (.e (.a [.bl false,.os s]),[]) else
     if nzB h e then some (.e (.a [.bl true,.os s]),[]) else
     if eqB h e (.c 0) then some (.e (.a [.bl false,.os s]),[]) else none
   | none=>none
  | _=>none
def cz:List (Con (SR β)):=[yN β,wX β h,zW β h,yG β h]
end
section
variable {β:Nat→Rat} {h:Hint}
def Anr (β:Nat→Rat) (ρ:Env) (b:Nat) (W:World) (res:SV) (new:List Fd) (e:Ending) (W':World):Prop:=
 ∃ ρ':Env,(∀ n,n<b∨b+M≤n→ρ' n=ρ n)∧e=.returned (res.den ρ')∧Below W.heap.size W W'∧∀ g∈new,(SR β).on ρ' g W'
theorem LC {a b:Nat}:((a:Nat):Rat)<((b:Nat):Rat)↔a<b:=by exact_mod_cast Iff.rfl
theorem Ef {f:FuncId} {vals:Array Value} {W:World} {ρ:Env} {b:Nat} {n:Nat} {e:RE} {k:Nat} (hc:Calls Tryz.prog f vals W (Z4.jF W n)) (hn:((n:Nat):Rat)=e.ev β) (hk:n<B64 ^ k) :
  Calls Tryz.prog f vals W (Anr β ρ b W (.e (.s (.os b))) [.l b e k]):=by
 refine hc.mono fun _ W' ⟨v,ds,he,hl,hd,ht,hv,hb⟩=>?_
 obtain ⟨p,l,c,rfl⟩:=hl.mk
 refine ⟨aK ρ b [⟨false,0,p,l,c,.empty,0⟩],iZ (by simp [M]),?_,hb,fun g hg=>?_⟩
 ·rw [he];simp [SV.den,El.den,Cell.den,aK]
 ·rw [List.mem_singleton] at hg
  subst hg
  refine ⟨ds,?_,hd,ht,by rw [hv];exact hn,by rw [hv];exact hk⟩
  simpa [aK] using hl.mono (Nat.zero_le _)
theorem TU:(yN β).Ok Tryz.prog (SR β) EV:=by
 intro db b args res new ha ρ W hf hE
 simp only [yN] at ha
 split at ha
 ·split at ha
  ·rename_i x y _ _ e k e' k' hx hy
   split at ha
   ·rename_i hk
    simp only [Bool.and_eq_true,decide_eq_true_eq] at hk
    cases ha
    obtain ⟨xs,h1,h2,h3,h4,h5⟩:=qm hx hf
    obtain ⟨ys,g1,g2,g3,g4,g5⟩:=qm hy hf
    refine Ef (e:=.add e e') (Z4.LK _ _ xs ys W h1 g1 h2 g2 h3 g3 (Nat.le_trans (qO h3 h5) (by simp only [K1] at hk;omega)) (Nat.le_trans (qO g3 g5) (by simp only [K1] at hk;omega))) (by rw [Rat.natCast_add,h4,g4];rfl) ?_
    have a1:=Nat.pow_le_pow_right (show 0<B64 by decide) (Nat.le_max_left k k')
    have a2:=Nat.pow_le_pow_right (show 0<B64 by decide) (Nat.le_max_right k k')
    rw [Nat.pow_succ]
    have:B64 ^ max k k' * 2≤B64 ^ max k k' * B64:=Nat.mul_le_mul_left _ (by decide)
    omega
   ·cases ha
  ·cases ha
 ·cases ha
theorem wK {m n:Nat}:aY ((m:Nat):Rat) ((n:Nat):Rat)=aI m n:=by
 unfold aY aI
 have e:((m:Nat):Rat)=((n:Nat):Rat)↔m=n:=by exact_mod_cast Iff.rfl
 simp only [LC,e]
theorem LW {m n:Nat} (h:0≤aI m n):n≤m:=by
 unfold aI at h
 split at h
 ·omega
 ·omega
theorem Ut (ok:h.Ok β):(wX β h).Ok Tryz.prog (SR β) EV:=by
 intro db b args res new ha ρ W hf hE
 simp only [wX] at ha
 split at ha
 ·split at ha
  ·rename_i x y _ _ e k e' k' hx hy
   split at ha
   ·rename_i hk
    simp only [Bool.and_eq_true,decide_eq_true_eq] at hk
    cases ha
    obtain ⟨xs,h1,h2,h3,h4,h5⟩:=qm hx hf
    obtain ⟨ys,g1,g2,g3,g4,g5⟩:=qm hy hf
    obtain ⟨c,hc,hc0⟩:∃ c,cmB h e e' = some c∧0≤c:=by
     cases hcm:cmB h e e' with
     | none=>rw [hcm] at hk;simp at hk
     | some c=>rw [hcm] at hk;exact ⟨c,rfl,by simpa using hk.2⟩
    have hle:Z4.val ys≤Z4.val xs:=by
     have:=qJ ok hc
     rw [← h4,← g4,wK] at this
     exact LW (by omega)
    refine Ef (e:=.sub e e') (Z4.nU _ _ xs ys W h1 g1 h2 g2 g3 hle (Nat.le_trans (qO h3 h5) (by simp only [K1] at hk;omega))) ?_ (by omega)
    show _=e.ev β - e'.ev β
    rw [← h4,← g4]
    have:Z4.val xs - Z4.val ys+Z4.val ys=Z4.val xs:=by omega
    have h6:=congrArg (fun n:Nat=>(n:Rat)) this
    simp only [Rat.natCast_add] at h6
    grind
   ·cases ha
  ·cases ha
 ·cases ha
theorem Ko (ok:h.Ok β):(zW β h).Ok Tryz.prog (SR β) EV:=by
 intro db b args res new ha ρ W hf hE
 simp only [zW] at ha
 split at ha
 ·split at ha
  ·rename_i x y _ _ e k e' k' hx hy
   split at ha
   ·rename_i hk
    simp only [Bool.and_eq_true,decide_eq_true_eq] at hk
    split at ha
    ·rename_i c hc
     cases ha
     obtain ⟨xs,h1,h2,h3,h4,h5⟩:=qm hx hf
     obtain ⟨ys,g1,g2,g3,g4,g5⟩:=qm hy hf
     have hcc:=qJ ok hc
     rw [← h4,← g4,wK] at hcc
     refine (Z4.vw _ _ xs ys W h1 g1 h2 g2 h3 g3 (Nat.le_trans (qO h3 h5) (by simp only [K1] at hk;omega)) (Nat.le_trans (qO g3 g5) (by simp only [K1] at hk;omega))).mono fun _ W' ⟨he,q,hq⟩=>⟨ρ,fun _ _=>rfl,?_,?_,fun g hg=>by cases hg⟩
     ·rw [he,hcc];rfl
     ·subst hq
      exact Z4.dY (Below.refl _ _) q
    ·cases ha
   ·cases ha
  ·cases ha
 ·cases ha
theorem MB (ok:h.Ok β):(yG β h).Ok Tryz.prog (SR β) EV:=by
 intro db b args res new ha ρ W hf hE
 simp only [yG] at ha
 split at ha
 ·rename_i t s
  split at ha
  ·rename_i e k hx
   obtain ⟨xs,h1,h2,h3,h4,h5⟩:=hf _ (jh hx)
   have hlen:=h1.len
   have hc:=Z4.Fp t (ρ s).p (ρ s).l (ρ s).c W
   have hpos:e.ev β≠0→decide (0<(ρ s).l)=true:=fun hne=>by
    rw [decide_eq_true_eq]
    rcases Nat.eq_zero_or_pos (ρ s).l with h0 | h0
    ·exfalso;apply hne;rw [← h4]
     have:xs=[]:=List.length_eq_zero_iff.1 (by omega)
     subst this;rfl
    ·exact h0
   have hzero:e.ev β=0→decide (0<(ρ s).l)=false:=fun h0=>by
    rw [decide_eq_false_iff_not]
    intro hp
    have hne:xs≠[]:=fun e=>by subst e;simp at hlen;omega
    have:=Z4.kJ h3 hne
    have h6:((Z4.val xs:Nat):Rat)=((0:Nat):Rat):=h4.trans h0
    have:Z4.val xs=0:=by exact_mod_cast h6
    omega
   have hans:∀ x:Bool,(t && decide (0<(ρ s).l))=x→Calls Tryz.prog 134 #[.bool t,.slice (ρ s).p (ρ s).l (ρ s).c] W (Anr β ρ b W (.e (.a [.bl x,.os s])) []):=fun x hx=>by
    refine hc.mono fun _ W' ⟨he,hb⟩=>⟨ρ,fun _ _=>rfl,?_,hb,fun g hg=>by cases hg⟩
    rw [he,hx];rfl
   split at ha
   ·rename_i ht
    cases ha
    exact hans false (by simp at ht;simp [ht])
   ·rename_i ht
    have ht':t=true:=by simpa using ht
    split at ha
    ·rename_i hn
     cases ha
     exact hans true (by rw [ht',hpos (qB ok hn)];rfl)
    ·split at ha
     ·rename_i hn
      cases ha
      exact hans false (by rw [hzero ((qR ok hn).trans rfl)];simp)
     ·cases ha
  ·cases ha
 ·cases ha
theorem Fh (ok:h.Ok β):∀ c∈cz β h,c.Ok Tryz.prog (SR β) EV:=by
 unfold cz
 simp only [List.forall_mem_cons,List.not_mem_nil,false_imp_iff,implies_true,and_true]
 exact ⟨TU,Ut ok,Ko ok,MB ok⟩
end
end Rx
end Go.Proofs.YtnmlkobogofadaaGreatDoor
