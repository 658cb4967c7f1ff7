/- What the proof rests on, part 32. -/
import Derived.Test.YtefbfbdijimanaaGreatDoorP30
import Derived.Test.YtefbfbdijimanaaGreatDoorP31
import Derived.Test.YtefbfbdijimanaaGreatDoorP22
import Derived.Test.YtefbfbdijimanaaGreatDoorP19
import Derived.Test.YtefbfbdijimanaaGreatDoorP18
import Derived.Test.YtefbfbdijimanaaGreatDoorP29
import Derived.Test.YtefbfbdijimanaaGreatDoorP26
import Derived.Test.YtefbfbdijimanaaGreatDoorP27
import Derived.Test.YtefbfbdijimanaaGreatDoorP15
import Derived.Test.YtefbfbdijimanaaGreatDoorP28
namespace Go.Proofs.YtefbfbdijimanaaGreatDoor
set_option maxRecDepth 100000
set_option maxHeartbeats 80000000
namespace Rx
open Go.RowKit
def lV (β:Nat→Rat):Prop:=β 0=mkRat (-5) 4∧β 1=mkRat 3 2∧β 2=mkRat 355 113∧β 3=mkRat 22 7∧β 4=mkRat 11 8∧β 5=mkRat 1 2
def wZ (s:ByteArray):Option Nat:=
 if s.data.toList=[45,49,46,50,53,48] then some 0 else if s.data.toList=[54,47,52] then some 1 else
 if s.data.toList=[51,53,53,47,49,49,51] then some 2 else if s.data.toList=[49,47,50] then some 5 else none
def BD:List (RE×List UInt8):=[(.v 0,[45,53,47,52]),(.v 1,[51,47,50]),(.v 3,[50,50,47,55]),(.v 4,[49,49,47,56]),(tC (.v 5),[51,47,53]),(tS (.v 5),[52,47,53]),(.add (.v 0) (.v 1),[49,47,52]),(.mul (.v 0) (.v 1),[45,49,53,47,56])]
section
variable (β:Nat→Rat)
def Bg:Con (SQ β) where
 fn:=89
 app:=fun _ b args=>match args with
  | [.e (.s (.st s))]=>match wZ s with
   | some i=>some (.t [.a (aH b),.s (.it .i64 0)],[.q b (.v i) 1])
   | none=>none
  | _=>none
def Bf:Con (SQ β) where
 fn:=90
 app:=fun _ b args=>match args with
  | [.e (.s (.st s))]=>match wZ s with
   | some i=>some (.e (.a (aH b)),[.q b (.v i) 1])
   | none=>none
  | _=>none
def Bd:Con (SQ β) where
 fn:=91
 app:=fun db b args=>match args with
  | [.e (.a x),.e (.s (.it .i64 7))]=>match dW db x with
   | some (.v 2,_)=>some (.t [.a (aH b),.s (.it .i64 0)],[.q b (.v 3) 1])
   | _=>none
  | _=>none
def aRoot:Con (SQ β) where
 fn:=92
 app:=fun db b args=>match args with
  | [.e (.a x),.e (.s (.it .i64 3))]=>match dW db x with
   | some (.c 2,_)=>some (.t [.a (aH b),.s (.it .i64 0)],[.q b (.v 4) 1])
   | _=>none
  | _=>none
def aIs:Con (SQ β) where
 fn:=93
 app:=fun db _ args=>match args with
  | [.e (.a x),.e (.s (.st s))]=>match dW db x with
   | some (e,k)=>if decide (k≤K0) && BD.any (fun p=>p.1.beq e && decide (p.2=s.data.toList)) then some (.e (.s (.bl true)),[]) else none
   | none=>none
  | _=>none
end
section
variable {β:Nat→Rat}
theorem Gl (h:lV β) {s:ByteArray} {i:Nat} (ht:wZ s=some i):Fits 1 (β i)∧∀ W,EV W→Calls Tryz.prog 89 #[.string s] W (fG W (β i) 0):=by
 obtain ⟨h0,h1,h2,-,-,h5⟩:=h
 obtain ⟨⟨l⟩⟩:=s
 unfold wZ at ht
 simp only at ht
 split at ht
 ·rename_i hl
  cases ht;subst hl;rw [h0]
  exact ⟨kC (by decide +kernel) (by decide +kernel),fun W hE=>Xa W hE⟩
 split at ht
 ·rename_i hl
  cases ht;subst hl;rw [h1]
  exact ⟨kC (by decide +kernel) (by decide +kernel),fun W hE=>p64 W hE⟩
 split at ht
 ·rename_i hl
  cases ht;subst hl;rw [h2]
  exact ⟨kC (by decide +kernel) (by decide +kernel),fun W hE=>Xb W hE⟩
 split at ht
 ·rename_i hl
  cases ht;subst hl;rw [h5]
  exact ⟨kC (by decide +kernel) (by decide +kernel),fun W hE=>p12 W hE⟩
 ·cases ht
theorem Om (h:lV β):∀ p∈BD,kF (p.1.ev β)=p.2:=by
 obtain ⟨h0,h1,h2,h3,h4,h5⟩:=h
 have c1:((1:Int):Rat)=1:=rfl
 unfold BD
 simp only [List.forall_mem_cons,List.not_mem_nil,false_imp_iff,implies_true,and_true,RE.ev,tC,tS,h0,h1,h3,h4,h5,c1]
 exact ⟨by decide +kernel,by decide +kernel,by decide +kernel,by decide +kernel,by decide +kernel,by decide +kernel,by decide +kernel,by decide +kernel⟩
theorem NM (h:lV β):(Bg β).Ok Tryz.prog (SQ β) EV:=by
 refine Con.ok0 rfl ?_
 intro db b args res new ha ρ W hf hE
 simp only [Bg] at ha
 split at ha
 ·split at ha
  ·rename_i i ht
   cases ha
   obtain ⟨h1,h2⟩:=Gl h ht
   exact uI (e:=.v i) (h2 W hE) h1
  ·cases ha
 ·cases ha
theorem NK (h:lV β):(Bf β).Ok Tryz.prog (SQ β) EV:=by
 refine Con.ok0 rfl ?_
 intro db b args res new ha ρ W hf hE
 simp only [Bf] at ha
 split at ha
 ·rename_i s
  split at ha
  ·rename_i i ht
   cases ha
   obtain ⟨h1,h2⟩:=Gl h ht
   obtain ⟨⟨l⟩⟩:=s
   exact uH (e:=.v i) (WH l (β i) 0 W (hid fun W' hb=>h2 W' (Env.below hE hb (Nat.le_refl _)))) h1
  ·cases ha
 ·cases ha
theorem NJ (h:lV β):(Bd β).Ok Tryz.prog (SQ β) EV:=by
 refine Con.ok0 rfl ?_
 intro db b args res new ha ρ W hf hE
 simp only [Bd] at ha
 split at ha
 ·split at ha
  ·rename_i hx
   cases ha
   obtain ⟨⟨h1,h2⟩,-⟩:=fU hx hf
   rw [show (RE.v 2).ev β=mkRat 355 113 from h.2.2.1] at h1
   have hv:(RE.v 3).ev β=mkRat 22 7:=h.2.2.2.1
   exact uI (e:=.v 3) (by rw [hv];exact V7 _ W h1 hE) (by rw [hv];exact kC (by decide +kernel) (by decide +kernel))
  ·cases ha
 ·cases ha
theorem NP (h:lV β):(aRoot β).Ok Tryz.prog (SQ β) EV:=by
 refine Con.ok0 rfl ?_
 intro db b args res new ha ρ W hf hE
 simp only [aRoot] at ha
 split at ha
 ·split at ha
  ·rename_i hx
   cases ha
   obtain ⟨⟨h1,h2⟩,-⟩:=fU hx hf
   have hv:(RE.v 4).ev β=mkRat 11 8:=h.2.2.2.2.1
   exact uI (e:=.v 4) (by rw [hv];exact XW _ W h1 hE) (by rw [hv];exact kC (by decide +kernel) (by decide +kernel))
  ·cases ha
 ·cases ha
theorem NI (h:lV β):(aIs β).Ok Tryz.prog (SQ β) EV:=by
 refine Con.ok0 rfl ?_
 intro db b args res new ha ρ W hf hE
 simp only [aIs] at ha
 split at ha
 ·rename_i x s
  split at ha
  ·rename_i e k hx
   split at ha
   ·rename_i hh
    simp only [Bool.and_eq_true,decide_eq_true_eq] at hh
    cases ha
    obtain ⟨⟨h1,h2⟩,-⟩:=fU hx hf
    obtain ⟨p,hp,hq⟩:=List.any_eq_true.1 hh.2
    simp only [Bool.and_eq_true,decide_eq_true_eq] at hq
    have ht:=Om h p hp
    rw [RE.beq_eq hq.1,hq.2] at ht
    obtain ⟨⟨l⟩⟩:=s
    have hc:=UZ l _ _ k W h1 hh.1 h2 hE
    rw [show kF (e.ev β)=l from ht,beq_self_eq_true] at hc
    exact uG hc rfl
   ·cases ha
  ·cases ha
 ·cases ha
def aw (β:Nat→Rat):List (Con (SQ β)):=Bg β :: Bf β :: Bd β :: aRoot β :: aIs β :: xI β :: cq β {}
theorem Oq (β:Nat→Rat):isB true (aT Tryz.prog (SQ β) (HQ β {} (jc β)) (aw β) 1 29 [] [] 0)=true:=by kernel_rfl
theorem Oo {W:World} (hE:EV W):Calls Tryz.prog 29 #[] W (bF W (.bool true)):=by
 obtain ⟨β,h⟩:∃ β,lV β:=⟨bet [mkRat (-5) 4,mkRat 3 2,mkRat 355 113,mkRat 22 7,mkRat 11 8,mkRat 1 2],rfl,rfl,rfl,rfl,rfl,rfl⟩
 refine KT (β:=β) (ρ:=ev []) (args:=[]) (fs:=[]) (cons:=aw _) ?_ (Oq _) hE (fun g hg=>by cases hg)
 unfold aw
 simp only [List.forall_mem_cons]
 exact ⟨NM h,NK h,NJ h,NP h,NI h,G8,iO (jc _)⟩
end
section
variable (β:Nat→Rat) (h:Hint)
def qN:Con (SQ β) where
 fn:=29
 app:=fun _ _ args=>match args with
  | []=>some (.e (.s (.bl true)),[])
  | _=>none
def cl:List (Con (SQ β)):=qN β :: (cq β h ++ cl1 β)
end
theorem Ph {β:Nat→Rat}:(qN β).Ok Tryz.prog (SQ β) EV:=by
 refine Con.ok0 rfl ?_
 intro db b args res new ha ρ W hf hE
 simp only [qN] at ha
 split at ha
 ·cases ha
  exact uG (Oo hE) rfl
 ·cases ha
end Rx
namespace Rx
open Go.RowKit
def iY (db:List Fc):List Cell→Option (RE×Nat)
 | [.ob a,.os b,.bl false,.os c]=>if a=b && a+1=c then oV db a else none
 | _=>none
theorem Gj {β:Nat→Rat} {ρ:Env} {W:World} {db:List Fc} {cs:List Cell} {e:RE} {k:Nat} (h:iY db cs=some (e,k)) (hf:∀ f∈db,(SQ β).on ρ f W):Z4.IsR W (.agg (cs.map (Cell.den ρ)).toArray) (e.ev β)∧Fits k (e.ev β):=by
 unfold iY at h
 split at h
 ·rename_i a b c
  split at h
  ·rename_i hh
   simp only [Bool.and_eq_true,decide_eq_true_eq] at hh
   obtain ⟨rfl,rfl⟩:=hh
   exact hf _ (oW h)
  ·cases h
 ·cases h
def nu (n:Int):Nv:=⟨false,n,none,0,0,.empty,0,default⟩
abbrev hv (n d b:Int):List Value:=[.int .i64 n,.int .i64 d,.int .u8 b]
def Pj (β:Nat→Rat):Con (SQ β) where
 fn:=33
 app:=fun db b args=>match args with
  | [.e (.a x)]=>match nH (x.take 3),nH (x.drop 3) with
   | some a,some a'=>match jG db a,jG db a' with
    | some e,some e'=>some (.t [.a (aH b ++ aH (b+2)),.a (cZ (b+4) ++ cZ (b+6))],[.q b e 4,.q (b+2) e' 4,.r (b+4) e 4,.r (b+6) e' 4])
    | _,_=>none
   | _,_=>none
  | _=>none
def Me (a b c d:RE):RE:=.sub (.mul c a) (.mul d b)
def Zf (a b c d:RE):RE:=.sub (.mul a c) (.mul b d)
abbrev C1:RE:=tC (.v 0)
abbrev S1:RE:=tS (.v 0)
abbrev C2:RE:=tC (.v 1)
abbrev S2:RE:=tS (.v 1)
abbrev wC:RE:=Zf C1 S1 C2 S2
abbrev ax:RE:=Me (.v 2) (.v 3) C1 S1
abbrev bx:RE:=Me (.v 4) (.v 5) C1 S1
end Rx
section
open Go.ChangeShapes Go.WideShapes Go.ChangeAt Go.RowKit Go.Joins
section
variable {H:Type} {enc:TypeId×Value→H}
theorem NumIn.is {n d:Int} {b:Nat} (h:NumIn n d b):Rx.IsN n d (b:Int) (numOf n d b):=⟨b,rfl,h.b1,h.n1,h.n2,h.d1,h.d2,rfl⟩
theorem OQ:Tryz.prog.cellsOf 2=1:=by kernel_rfl
theorem OT:Tryz.prog.cellsOf 5=1:=by kernel_rfl
theorem ED {W:World} {c0 c1 c2:Value} {fuel:Nat} {x:DataW H×List MemPlace} (h:DataW.trod enc Tryz.prog W 0 (fun _=>true) true fuel 23 [c0,c1,c2]=some x) :
  ∃ (n d:Int) (b:Nat),c0=.int .i64 n∧c1=.int .i64 d∧c2=.int .u8 (b:Int)∧x=(.agg [.lit (.int .i64 n),.lit (.int .i64 d),.lit (.int .u8 (b:Int))],[])∧NumIn n d b:=by
 obtain ⟨y0,y1,y2,m,rfl,-,hy0,hy1,hy2⟩:=Go.Deep.trod_struct3 Tryz.underlying23 h
 simp only [OQ,OT,List.drop_zero,List.take_succ_cons,List.take_zero,List.drop_succ_cons] at hy0 hy1 hy2
 obtain ⟨n,e0,e0',wn⟩:=DataW.trod_int Tryz.underlying2 hy0
 obtain ⟨d,e1,e1',wd⟩:=DataW.trod_int Tryz.underlying2 hy1
 obtain ⟨b,e2,e2',wb⟩:=DataW.trod_int Tryz.underlying5 hy2
 simp at e0 e1 e2
 subst e0 e1 e2 e0' e1' e2'
 have:=Fe wb
 obtain ⟨k,rfl⟩:∃ k:Nat,b=(k:Int):=⟨b.toNat,by omega⟩
 exact ⟨n,d,k,rfl,rfl,rfl,rfl,wn,wd,wb⟩
end
end
section
open Go.ChangeShapes Go.WideShapes Go.ChangeAt Go.RowKit Go.Joins
section
variable {H:Type} {enc:TypeId×Value→H}
theorem U7 {α:Type} {l:List α} (h:l.length=9):∃ c0 c1 c2 c3 c4 c5 c6 c7 c8,l=[c0,c1,c2,c3,c4,c5,c6,c7,c8]:=by
 match l,h with
 | [c0,c1,c2,c3,c4,c5,c6,c7,c8],_=>exact ⟨c0,c1,c2,c3,c4,c5,c6,c7,c8,rfl⟩
theorem Ky:Tryz.prog.cellsOf 104=9:=by kernel_rfl
theorem WQ {W:World} {base:Nat} {v:Value} {x:DataW H} {p:List MemPlace} (hv:Value.okWide Tryz.prog W .any base 104 v) (h:DataW.Trod enc Tryz.prog W 0 (fun _=>true) true 104 v x p) :
  ∃ (n d:Int) (b:Nat) (n' d':Int) (b':Nat) (m e:Int) (c:Nat),v=.agg #[.int .i64 n,.int .i64 d,.int .u8 (b:Int),.int .i64 n',.int .i64 d',.int .u8 (b':Int),.int .i64 m,.int .i64 e,.int .u8 (c:Int)] ∧
   x=.agg [.agg [.lit (.int .i64 n),.lit (.int .i64 d),.lit (.int .u8 (b:Int))],.agg [.lit (.int .i64 n'),.lit (.int .i64 d'),.lit (.int .u8 (b':Int))],.agg [.lit (.int .i64 m),.lit (.int .i64 e),.lit (.int .u8 (c:Int))]]∧p=[]∧NumIn n d b∧NumIn n' d' b'∧NumIn m e c:=by
 obtain ⟨cs,rfl,hsz⟩:=okWide_struct Tryz.underlying104 hv
 rw [Ky] at hsz
 obtain ⟨l⟩:=cs
 obtain ⟨c0,c1,c2,c3,c4,c5,c6,c7,c8,rfl⟩:=U7 hsz
 obtain ⟨fuel,hf⟩:=h
 obtain ⟨y0,y1,y2,m,hx,-,h0,h1,h2⟩:=Go.Deep.trod_struct3 Tryz.underlying104 hf
 simp only [Value.cells,numCells,List.drop_zero,List.take_succ_cons,List.take_zero,List.drop_succ_cons] at h0 h1 h2
 obtain ⟨n,d,b,rfl,rfl,rfl,rfl,w0⟩:=ED h0
 obtain ⟨n',d',b',rfl,rfl,rfl,rfl,w1⟩:=ED h1
 obtain ⟨n'',d'',b'',rfl,rfl,rfl,rfl,w2⟩:=ED h2
 simp only [Prod.mk.injEq,List.append_nil] at hx
 exact ⟨n,d,b,n',d',b',n'',d'',b'',rfl,hx.1,hx.2,w0,w1,w2⟩
theorem YR {W:World} {base:Nat} {sp:Nat→Bool} {held:Bool} {n d n' d' m e:Int} {b b' c:Nat} (h:NumIn n d b) (h':NumIn n' d' b') (h'':NumIn m e c) :
  DataW.Trod enc Tryz.prog W base sp held 104 (.agg #[.int .i64 n,.int .i64 d,.int .u8 (b:Int),.int .i64 n',.int .i64 d',.int .u8 (b':Int),.int .i64 m,.int .i64 e,.int .u8 (c:Int)]) (.agg [.agg [.lit (.int .i64 n),.lit (.int .i64 d),.lit (.int .u8 (b:Int))],.agg [.lit (.int .i64 n'),.lit (.int .i64 d'),.lit (.int .u8 (b':Int))],.agg [.lit (.int .i64 m),.lit (.int .i64 e),.lit (.int .u8 (c:Int))]]) []:=by
 obtain ⟨m0,t0⟩:=tN (enc:=enc) (W:=W) (base:=base) (sp:=sp) (held:=held) h
 obtain ⟨m1,t1⟩:=tN (enc:=enc) (W:=W) (base:=base) (sp:=sp) (held:=held) h'
 obtain ⟨m2,t2⟩:=tN (enc:=enc) (W:=W) (base:=base) (sp:=sp) (held:=held) h''
 have ts:=Go.Deep.trod_struct3_mk (enc:=enc) (w:=W) (base:=base) (spare:=sp) (held:=held) (n:=max m0 (max m1 m2)) (cs:=[.int .i64 n,.int .i64 d,.int .u8 (b:Int),.int .i64 n',.int .i64 d',.int .u8 (b':Int),.int .i64 m,.int .i64 e,.int .u8 (c:Int)]) Tryz.underlying104 (by rw [Ky];rfl)
  (by simp only [numCells,List.drop_zero,List.take_succ_cons,List.take_zero];exact DataW.trod_le (by omega) t0)
  (by simp only [numCells,List.take_succ_cons,List.take_zero,List.drop_succ_cons,List.drop_zero];exact DataW.trod_le (by omega) t1)
  (by simp only [numCells,List.take_succ_cons,List.take_zero,List.drop_succ_cons,List.drop_zero];exact DataW.trod_le (by omega) t2)
 exact ⟨_,ts⟩
end
end
namespace Z4
open Go.RowKit Go.Sort
structure oz (xs ys ds:List Nat) (k c:Nat):Prop where
 len:ds.length=k
 dig:Dig ds
 le:c≤1
 eq:val ds+c*B4 ^ k=val (xs.take k)+val (ys.take k)
 top:k=0∨(∃ e d,ds=e ++ [d]∧d≠0)∨k<xs.length∨k<ys.length∨0<c
 b1:k≤xs.length+ys.length+1
 b2:0<c→k≤xs.length+ys.length
theorem oz.start (xs ys:List Nat):oz xs ys [] 0 0:=⟨rfl,Dig.nil,by omega,by simp [val],.inl rfl,by omega,by omega⟩
theorem L8 (xs:List Nat) (k:Nat):val (xs.take (k+1))=val (xs.take k)+B4 ^ k*xs[k]?.getD 0:=by
 by_cases hk:k<xs.length
 ·rw [Aj xs k hk,List.getElem?_eq_getElem hk];rfl
 ·rw [List.getElem?_eq_none (by omega),List.take_of_length_le (by omega),List.take_of_length_le (by omega)];simp
theorem oz.step {xs ys ds:List Nat} {k c x y d c':Nat} (h:oz xs ys ds k c) (hgo:k<xs.length∨k<ys.length∨0<c) (tx:aB xs) (ty:aB ys) (hx:xs[k]?.getD 0=x) (hy:ys[k]?.getD 0=y) (hd:d<10000) (hc:c'≤1) (e:c+x+y=d+c' * 10000) (e0:k<xs.length→x<10000) (e1:k<ys.length→y<10000) :
  oz xs ys (ds ++ [d]) (k+1) c':=by
 have hb:xs.length≤k→x=0:=fun h=>by rw [← hx,List.getElem?_eq_none h];rfl
 have hb':ys.length≤k→y=0:=fun h=>by rw [← hy,List.getElem?_eq_none h];rfl
 have hle:=h.le
 have hb1:=h.b1
 have hb2:=h.b2
 have hlast:k+1=xs.length→x≠0:=fun hk e0=>by
  have hne:xs≠[]:=fun e=>by subst e;simp at hk
  have:=tx hne
  rw [List.getLast_eq_getElem] at this
  apply this
  rw [← e0,← hx,List.getElem?_eq_getElem (by omega)]
  simp only [Option.getD_some]
  congr 1
  omega
 have hlast':k+1=ys.length→y≠0:=fun hk e0=>by
  have hne:ys≠[]:=fun e=>by subst e;simp at hk
  have:=ty hne
  rw [List.getLast_eq_getElem] at this
  apply this
  rw [← e0,← hy,List.getElem?_eq_getElem (by omega)]
  simp only [Option.getD_some]
  congr 1
  omega
 refine ⟨by simp [h.len],h.dig.append (fun z hz=>by simp at hz;subst hz;exact hd),hc,?_,?_,?_,?_⟩
 ·have h1:=h.eq
  rw [L8 xs,L8 ys,gW,h.len,Nat.pow_succ,hx,hy,show B4=10000 from rfl]
  rw [show B4=10000 from rfl] at h1
  generalize 10000 ^ k=P at *
  generalize val (xs.take k)=X at *
  generalize val (ys.take k)=Y at *
  generalize val ds=D at *
  have:=congrArg (P * ·) e
  grind
 ·right
  by_cases hd0:d=0
  ·right
   subst hd0
   rcases Nat.eq_zero_or_pos c' with hc0 | hc0
   ·subst hc0
    have:c=0∧x=0∧y=0:=by omega
    obtain ⟨rfl,rfl,rfl⟩:=this
    rcases Nat.lt_trichotomy (k+1) xs.length with h1 | h1 | h1
    ·exact .inl h1
    ·exact absurd rfl (hlast h1)
    ·rcases Nat.lt_trichotomy (k+1) ys.length with h2 | h2 | h2
     ·exact .inr (.inl h2)
     ·exact absurd rfl (hlast' h2)
     ·omega
   ·exact .inr (.inr hc0)
  ·exact .inl ⟨ds,d,rfl,hd0⟩
 ·omega
 ·intro hc0
  by_cases h1:k<xs.length
  ·omega
  ·by_cases h2:k<ys.length
   ·omega
   ·have:=hb (by omega);have:=hb' (by omega);omega
theorem oz.done {xs ys ds:List Nat} {k:Nat} (h:oz xs ys ds k 0) (h1:xs.length≤k) (h2:ys.length≤k):val ds=val xs+val ys∧aB ds:=by
 refine ⟨?_,?_⟩
 ·have:=h.eq
  rw [List.take_of_length_le h1,List.take_of_length_le h2] at this
  omega
 ·intro hne
  rcases h.top with h3 | ⟨e,d,rfl,hd⟩ | h3 | h3 | h3
  ·exfalso;apply hne;rw [← List.length_eq_zero_iff,h.len,h3]
  ·simpa using hd
  ·omega
  ·omega
  ·omega
end Z4
section
def flo (r:Rat):Int:=r.num / (r.den:Int)
theorem Iq (r:Rat):flo r=r.floor:=by rw [Rat.floor_def];rfl
theorem RQ (r:Rat):(flo r:Rat)≤r:=by rw [Iq];exact Rat.floor_le r
theorem Vf (r:Rat):r<(flo r:Rat)+1:=by have:=@Rat.lt_floor r;rw [Iq];grind
theorem RP {r:Rat} {n:Int} (h1:(n:Rat)≤r) (h2:r<(n:Rat)+1):flo r=n:=by
 have a1:=RQ r
 have a2:=Vf r
 have b1:(n:Rat)<(flo r:Rat)+1:=by grind
 have b2:(flo r:Rat)<(n:Rat)+1:=by grind
 have c1:n<flo r+1:=by exact_mod_cast b1
 have c2:flo r<n+1:=by exact_mod_cast b2
 omega
theorem RN (z:Int) (d:Nat) (hd:0<d):flo ((z:Rat) / ((d:Int):Rat))=z / (d:Int):=by
 have hd':(0:Rat)<((d:Int):Rat):=by exact_mod_cast (show (0:Int)<d by omega)
 have hm:=Int.mul_ediv_add_emod z d
 have h0:=Int.emod_nonneg z (show (d:Int)≠0 by omega)
 have h1:=Int.emod_lt_of_pos z (show (0:Int)<d by omega)
 refine RP ?_ ?_
 ·rw [← Rat.not_lt,Rat.div_lt_iff hd',Rat.not_lt,← Rat.intCast_mul]
  have:z / (d:Int)*d≤z:=by rw [Int.mul_comm];omega
  exact_mod_cast this
 ·rw [Rat.div_lt_iff hd',← show ((z / (d:Int)+1:Int):Rat)=((z / (d:Int):Int):Rat)+1 by rw [Rat.intCast_add];rfl,← Rat.intCast_mul]
  have:z<(z / (d:Int)+1)*d:=by rw [Int.add_mul,Int.mul_comm];omega
  exact_mod_cast this
end
namespace Rx
open Go.RowKit
def pY:RE→Bool
 | .den _=>true
 | .mul a b=>pY a && pY b
 | .c n=>decide (0<n)
 | _=>false
theorem zG {β:Nat→Rat}:∀ {e:RE},pY e=true→0<e.ev β
 | .den a,_=>by
  show (0:Rat)<((((a.ev β).den:Nat):Int):Rat)
  exact_mod_cast show (0:Int)<(((a.ev β).den:Nat):Int) by have:=(a.ev β).den_pos;omega
 | .mul a b,h=>by
  simp only [pY,Bool.and_eq_true] at h
  exact Rat.mul_pos (zG h.1) (zG h.2)
 | .c n,h=>by
  simp only [pY,decide_eq_true_eq] at h
  show (0:Rat)<((n:Int):Rat)
  exact_mod_cast h
 | .v _,h | .add _ _,h | .sub _ _,h | .div _ _,h | .neg _,h | .abs _,h | .flo _,h | .num _,h=>by cases h
def rem (e e':RE):RE:=.sub e (.mul e' (.flo (.div e e')))
theorem Xo {β:Nat→Rat} {n m:Nat} (hm:0<m) {e e':RE} (h:((n:Nat):Rat)=e.ev β) (h':((m:Nat):Rat)=e'.ev β):((n / m:Nat):Rat)=(RE.flo (.div e e')).ev β:=by
 show _=((flo (e.ev β / e'.ev β):Int):Rat)
 rw [← h,← h',show ((n:Nat):Rat) / ((m:Nat):Rat)=(((n:Nat):Int):Rat) / (((m:Nat):Int):Rat) from rfl,RN _ _ hm,← Int.natCast_ediv]
 rfl
theorem XQ {β:Nat→Rat} {n m:Nat} (hm:0<m) {e e':RE} (h:((n:Nat):Rat)=e.ev β) (h':((m:Nat):Rat)=e'.ev β):((n % m:Nat):Rat)=(rem e e').ev β:=by
 show _=e.ev β - e'.ev β*(RE.flo (.div e e')).ev β
 rw [← Xo hm h h',← h,← h',← Rat.natCast_mul]
 have:=congrArg (fun x:Nat=>(x:Rat)) (Nat.div_add_mod n m)
 simp only [Rat.natCast_add] at this
 grind
end Rx
namespace Rx
open Go.RowKit
inductive Fd
 | l (s:Nat) (e:RE) (k:Nat)
 | z (s:Nat) (e:RE) (k:Nat)
 | r (s:Nat) (e:RE) (k:Nat)
 | n (b s:Nat)
 | i (s:Nat) (e:RE)
def Fd.nm:Fd→List Nat
 | .n b s=>[b,s]
 | .i s _=>[s]
 | .l s _ _ | .z s _ _=>[s]
 | .r s _ _=>[s,s+1]
def IsG (W:World) (v:Value) (r:Rat) (k:Nat):Prop:=∃ xs,Z4.IsL 0 W v xs∧Z4.Dig xs∧Z4.aB xs∧((Z4.val xs:Nat):Rat)=r∧Z4.val xs<B64 ^ k
def IsY (W:World) (v:Value) (r:Rat) (k:Nat):Prop:=∃ z:Int,Z4.IsZ W v z∧(z:Rat)=r∧z.natAbs<B64 ^ k
def Fd.on (β:Nat→Rat) (ρ:Env):Fd→World→Prop
 | .l s e k,W=>IsG W (.slice (ρ s).p (ρ s).l (ρ s).c) (e.ev β) k
 | .z s e k,W=>IsY W (.agg ((zC s).map (Cell.den ρ)).toArray) (e.ev β) k
 | .r s e k,W=>Z4.IsR W (.agg ((cZ s).map (Cell.den ρ)).toArray) (e.ev β)∧Fits k (e.ev β)
 | .n b s,_=>(ρ b).u=((ρ s).l:Int)
 | .i s e,_=>(((ρ s).u:Int):Rat)=e.ev β
def jZ:List Fd→Nat→Option (RE×Nat)
 | [],_=>none
 | .l s e k :: r,n=>if s=n then some (e,k) else jZ r n
 | _ :: r,n=>jZ r n
theorem mZ {n:Nat} {e:RE} {k:Nat}:∀ {db:List Fd},jZ db n=some (e,k)→.l n e k∈db
 | [],h=>by simp [jZ] at h
 | f :: r,h=>by
  cases f with
  | l s e' k' =>
   simp only [jZ] at h
   split at h
   ·rename_i hs;cases h;subst hs;simp
   ·exact List.mem_cons_of_mem _ (mZ h)
  | z _ _ _=>exact List.mem_cons_of_mem _ (mZ h)
  | r _ _ _=>exact List.mem_cons_of_mem _ (mZ h)
  | n _ _=>exact List.mem_cons_of_mem _ (mZ h)
  | i _ _=>exact List.mem_cons_of_mem _ (mZ h)
def SR (β:Nat→Rat):Sys where
 F:=Fd
 nm:=Fd.nm
 on:=Fd.on β
 okC:=okC
 cg:=fun {ρ ρ' f W} h hf=>by
  cases f with
  | l s e k=>simp only [Fd.on] at hf ⊢;rw [← h s (by simp [Fd.nm])];exact hf
  | z s e k =>
   simp only [Fd.nm,List.mem_cons,List.not_mem_nil,or_false] at h
   simp only [Fd.on] at hf ⊢
   rwa [jU (ρ:=ρ') (ρ':=ρ) (l:=zC s) fun n hn=>(h n (by simpa [zC,Cell.nm] using hn)).symm]
  | r s e k =>
   simp only [Fd.nm,List.mem_cons,List.not_mem_nil,or_false] at h
   simp only [Fd.on] at hf ⊢
   rwa [jU (ρ:=ρ') (ρ':=ρ) (l:=cZ s) fun n hn=>(h n (by simpa [cZ,Cell.nm] using hn)).symm]
  | n b t=>simp only [Fd.on] at hf ⊢;rw [← h b (by simp [Fd.nm]),← h t (by simp [Fd.nm])];exact hf
  | i t e=>simp only [Fd.on] at hf ⊢;rw [← h t (by simp [Fd.nm])];exact hf
 bl:=fun {ρ f W W'} hb hf=>by
  cases f with
  | l s e k=>obtain ⟨xs,h1,h2⟩:=hf;exact ⟨xs,h1.below hb,h2⟩
  | z s e k=>obtain ⟨z,h1,h2⟩:=hf;exact ⟨z,h1.below hb,h2⟩
  | r s e k=>exact ⟨Z4.IsR.below hf.1 hb,hf.2⟩
  | n b t=>exact hf
  | i t e=>exact hf
 st:=fun {ρ f W b T cs i u} hok _ hb hf=>by
  have hv:=zq ρ hok
  have hb':Go.Proofs.YtefbfbdijimanaaGreatDoor.Bx W b T (cs.map (Cell.den ρ)):=hb
  cases f with
  | l s e k=>obtain ⟨xs,h1,h2⟩:=hf;exact ⟨xs,h1.setBox hb' hv,h2⟩
  | z s e k=>obtain ⟨z,h1,h2⟩:=hf;exact ⟨z,h1.setBox hb' hv,h2⟩
  | r s e k=>exact ⟨Z4.IsR.setBox hf.1 hb' hv,hf.2⟩
  | n b t=>exact hf
  | i t e=>exact hf
 lit:=fun x b=>if 0<x∧x<10000 then [.l b (.c x) 1] else []
 litOk:=fun {x b f ρ W T} hm h1 h2 h3=>by
  split at hm
  ·rename_i hx
   rw [List.mem_singleton] at hm
   subst hm
   obtain ⟨m,rfl⟩:∃ m:Nat,x=(m:Int):=⟨x.toNat,by omega⟩
   show IsG _ (.slice (ρ b).p (ρ b).l (ρ b).c) _ 1
   rw [h1,h2,h3]
   refine ⟨[m],.inr ⟨W.heap.size,0,1,rfl,Nat.zero_le _,by simp,Nat.le_refl _,fun j hj=>?_⟩,fun y hy=>?_,fun _=>?_,?_,?_⟩
   ·have:j=0:=by simpa using hj
    subst this
    go_simp
   ·rw [List.mem_singleton] at hy;subst hy;show _<10000;omega
   ·simp;omega
   ·simp [Z4.val,RE.ev];rfl
   ·simp [Z4.val];unfold B64;omega
  ·cases hm
 elt:=fun db s j b=>match j,jZ db s with
  | 0,some (e,_)=>if pY e then some [.i b (rem e (.c 10000))] else none
  | _,_=>none
 eltOk:=fun {db s j b fs ρ W} h hf=>by
  split at h
  ·rename_i e k hx
   split at h
   ·rename_i hp
    cases h
    obtain ⟨xs,h1,h2,h3,h4,-⟩:=(show IsG W (.slice (ρ s).p (ρ s).l (ρ s).c) (e.ev β) k from hf _ (mZ hx))
    have hpos:=zG (β:=β) hp
    rcases h1 with ⟨-,rfl⟩ | ⟨b0,o,k0,hv,-,-,-,h5⟩
    ·exfalso
     rw [← h4] at hpos
     exact absurd hpos (by decide)
    ·obtain ⟨hp1,hp2,-⟩:=Value.slice.inj hv
     cases xs with
     | nil=>exfalso;rw [← h4] at hpos;exact absurd hpos (by decide)
     | cons x r =>
      have hc:=h5 0 (by simp)
      refine ⟨by rw [hp2];simp,_,(x:Int),hp1,by rw [uz];exact hc,fun ρ' _ hu f hm=>?_⟩
      rw [List.mem_singleton] at hm
      subst hm
      show (((ρ' b).u:Int):Rat)=_
      rw [hu]
      have hx1:x<10000:=h2 x (by simp)
      have:=XQ (β:=β) (n:=Z4.val (x :: r)) (m:=10000) (e:=e) (e':=.c 10000) (by decide) h4 rfl
      rw [← this,show Z4.val (x :: r) % 10000=x by show (x+10000*Z4.val r) % 10000=x;omega]
      rfl
   ·cases h
  ·cases h
 len:=fun s b=>[.n b s]
 lenOk:=fun {s b f ρ W} hm h=>by
  rw [List.mem_singleton] at hm
  subst hm
  exact h
def HR (β:Nat→Rat):Tests (SR β) where
 eq:=fun _ _ _=>none
 ok:=fun h=>(by cases h)
theorem kT (k:Nat):B64 ^ k≤Z4.B4 ^ (5*k):=by
 rw [Nat.pow_mul]
 exact Nat.pow_le_pow_left (by decide) k
def asG (db:List Fd):Cell→Option (RE×Nat)
 | .os s=>jZ db s
 | .nils=>some (.c 0,0)
 | _=>none
section
variable (β:Nat→Rat) (h:Hint)
def PI:Con (SR β) where
 fn:=121
 app:=fun db b args=>match args with
  | [.e (.s x),.e (.s y)]=>match asG db x,asG db y with
   | some (e,k),some (e',k')=>if decide (k≤K1) && decide (k'≤K1) then some (.e (.s (.os b)),[.l b (.add e e') (max k k' + 1)]) else none
   | _,_=>none
  | _=>none
def PE:Con (SR β) where
 fn:=122
 app:=fun db b args=>match args with
  | [.e (.s x),.e (.s y)]=>match asG db x,asG db y with
   | some (e,k),some (e',k')=>if decide (k≤K1) && decide (k'≤K1) && (cmB h e e').any (0≤·) then some (.e (.s (.os b)),[.l b (.sub e e') k]) else none
   | _,_=>none
  | _=>none
def Pg:Con (SR β) where
 fn:=108
 app:=fun db _ args=>match args with
  | [.e (.s x),.e (.s y)]=>match asG db x,asG db y with
   | some (e,k),some (e',k')=>if decide (k≤K1) && decide (k'≤K1) then (match cmB h e e' with
     | some c=>some (.e (.s (.it .i64 c)),[])
     | none=>none) else none
   | _,_=>none
  | _=>none
def PW:Con (SR β) where
 fn:=86
 app:=fun db _ args=>match args with
  | [.e (.s (.bl t)),.e (.s (.os s))]=>match jZ db s with
   | some (e,_)=>if !t then some (.e (.a [.bl false,.os s]),[]) else
     if nzB h e then some (.e (.a [.bl true,.os s]),[]) else
     if eqB h e (.c 0) then some (.e (.a [.bl false,.os s]),[]) else none
   | none=>none
  | _=>none
def cz:List (Con (SR β)):=[PI β,PE β h,Pg β h,PW β h]
end
section
variable {β:Nat→Rat} {h:Hint}
theorem XJ {a b:Nat}:((a:Nat):Rat)<((b:Nat):Rat)↔a<b:=by exact_mod_cast Iff.rfl
theorem O6 {m n:Nat}:aS ((m:Nat):Rat) ((n:Nat):Rat)=aC m n:=by
 unfold aS aC
 have e:((m:Nat):Rat)=((n:Nat):Rat)↔m=n:=by exact_mod_cast Iff.rfl
 simp only [XJ,e]
end
end Rx
namespace Rx
open Go.RowKit
section
variable {a b:Int} {v1 v2:Value} {w:World}
abbrev x0:RE:=.v 0
abbrev x1:RE:=.v 1
end
end Rx
namespace Z4
open Go.RowKit Go.Sort Go.Lib
end Z4
namespace Rx
open Go.RowKit
def qZ:List Fd→Nat→Option (RE×Nat)
 | [],_=>none
 | .z s e k :: r,n=>if s=n then some (e,k) else qZ r n
 | _ :: r,n=>qZ r n
theorem ru {n:Nat} {e:RE} {k:Nat}:∀ {db:List Fd},qZ db n=some (e,k)→.z n e k∈db
 | [],h=>by simp [qZ] at h
 | f :: r,h=>by
  cases f with
  | z s e' k' =>
   simp only [qZ] at h
   split at h
   ·rename_i hs;cases h;subst hs;simp
   ·exact List.mem_cons_of_mem _ (ru h)
  | l _ _ _=>exact List.mem_cons_of_mem _ (ru h)
  | r _ _ _=>exact List.mem_cons_of_mem _ (ru h)
  | n _ _=>exact List.mem_cons_of_mem _ (ru h)
  | i _ _=>exact List.mem_cons_of_mem _ (ru h)
section
variable {β:Nat→Rat} {ρ:Env} {W:World} {db:List Fd}
end
section
variable (β:Nat→Rat) (h:Hint)
end
section
variable {β:Nat→Rat} {h:Hint} {f:FuncId} {vals:Array Value} {W:World} {ρ:Env} {b:Nat}
end
end Rx
namespace Rx
open Go.RowKit
section
variable {β:Nat→Rat} {ρ:Env} {W:World} {db:List Fd}
end
section
variable {β:Nat→Rat} {h:Hint} {fuel:Nat} {f:FuncId} {args:List SV} {fs:List Fd} {n0:Nat} {ρ:Env} {w:World}
end
abbrev K2:Nat:=65536
abbrev rr (s:Nat):SV:=.e (.a (cZ s))
section
variable {a b:Rat} {v1 v2:Value} {W:World}
abbrev nn (x:RE):RE:=.num x
theorem xO (r:Rat):(((r.den:Nat):Int):Rat)≠0:=fun h=>by
 have h2:((r.den:Nat):Int)=0:=by exact_mod_cast h
 have:=r.den_nz
 omega
theorem JG (r:Rat):(r.num:Rat)=r*(((r.den:Nat):Int):Rat):=by
 have h1:r=(r.num:Rat) / (((r.den:Nat):Int):Rat):=by
  have:=(Rat.num_divInt_den r).symm
  rwa [Rat.divInt_eq_div] at this
 have h2:(r.num:Rat) / (((r.den:Nat):Int):Rat)*(((r.den:Nat):Int):Rat)=(r.num:Rat):=Rat.div_mul_cancel (xO r)
 rw [← h1] at h2
 exact h2.symm
theorem oM (a b:Rat):aS a b = -1∨aS a b=0∨aS a b=1:=by
 unfold aS
 split
 ·exact .inl rfl
 ·split
  ·exact .inr (.inl rfl)
  ·exact .inr (.inr rfl)
theorem lI (a:Rat):sgQ a=if a.num<0 then -1 else if a.num=0 then 0 else 1:=by
 unfold sgQ sgn
 by_cases h:a.num<0
 ·rw [if_pos (decide_eq_true h),if_pos h]
 ·rw [if_neg (by simpa using h),if_neg h]
  by_cases h0:a.num=0
  ·rw [if_pos (by omega),if_pos h0]
  ·rw [if_neg (by omega),if_neg h0]
theorem sg3 (a:Rat):sgQ a = -1∨sgQ a=0∨sgQ a=1:=by
 rw [lI]
 split
 ·exact .inl rfl
 ·split
  ·exact .inr (.inl rfl)
  ·exact .inr (.inr rfl)
end
end Rx
namespace Rx
open Go.RowKit
def oO:List Fd→Nat→Option Nat
 | [],_=>none
 | .n b s :: r,n=>if b=n then some s else oO r n
 | _ :: r,n=>oO r n
theorem oP {n s:Nat}:∀ {db:List Fd},oO db n=some s→.n n s∈db
 | [],h=>by simp [oO] at h
 | f :: r,h=>by
  cases f with
  | n b s' =>
   simp only [oO] at h
   split at h
   ·rename_i hs;cases h;subst hs;simp
   ·exact List.mem_cons_of_mem _ (oP h)
  | l _ _ _=>exact List.mem_cons_of_mem _ (oP h)
  | z _ _ _=>exact List.mem_cons_of_mem _ (oP h)
  | r _ _ _=>exact List.mem_cons_of_mem _ (oP h)
  | i _ _=>exact List.mem_cons_of_mem _ (oP h)
def worth (db:List Fd) (s:Nat):Option RE:=match jZ db s with
 | some (e,_)=>some e
 | none=>match qZ db s with
  | some (e,_)=>some e
  | none=>none
def yI (h:Hint) (db:List Fd) (a:Nat):Option Bool:=match oO db a with
 | some s=>match worth db s with
  | some e=>if nzB h e then some false else if eqB h e (.c 0) then some true else none
  | none=>none
 | none=>none
section
variable {β:Nat→Rat} {ρ:Env} {W:World} {db:List Fd} {h:Hint}
theorem ZC {s:Nat} {e:RE} (hw:worth db s=some e) (hf:∀ f∈db,(SR β).on ρ f W):(ρ s).l=0↔e.ev β=0:=by
 have key:∀ xs,Z4.IsL 0 W (.slice (ρ s).p (ρ s).l (ρ s).c) xs→Z4.Dig xs→Z4.aB xs→((ρ s).l=0↔Z4.val xs=0):=fun xs h1 h2 h3=>by
  rw [← h1.len];exact Z4.ug h2 h3
 unfold worth at hw
 split at hw
 ·rename_i e' k hx
  cases hw
  obtain ⟨xs,h1,h2,h3,h4,-⟩:=hf _ (mZ hx)
  rw [key xs h1 h2 h3,← h4]
  exact ⟨fun h=>by rw [h];rfl,fun h=>by exact_mod_cast h⟩
 ·split at hw
  ·rename_i e' k hx
   cases hw
   obtain ⟨z,⟨p,l,c,xs,he,h1,h2,h3,h4⟩,h5,-⟩:=hf _ (ru hx)
   have he':=congrArg Array.toList (Value.agg.inj he)
   simp only [zC,List.map_cons,List.map_nil,Cell.den,List.cons.injEq,Value.slice.injEq,and_true] at he'
   obtain ⟨-,rfl,rfl,rfl⟩:=he'
   rw [key xs h1 h2 h3,← h5,h4]
   constructor
   ·intro h;rw [show z=0 by omega];rfl
   ·intro h
    have:z=0:=by exact_mod_cast h
    rw [this];rfl
  ·cases hw
theorem Jf (ok:h.Ok β) {a:Nat} {x:Bool} (hh:yI h db a=some x) (hf:∀ f∈db,(SR β).on ρ f W):0≤(ρ a).u∧((ρ a).u == 0)=x:=by
 unfold yI at hh
 split at hh
 ·rename_i s hs
  split at hh
  ·rename_i e hw
   have h1:(ρ a).u=((ρ s).l:Int):=hf _ (oP hs)
   have h2:=ZC hw hf
   refine ⟨by omega,?_⟩
   split at hh
   ·rename_i hn
    cases hh
    have:=vG ok hn
    rw [beq_eq_false_iff_ne]
    intro h0
    exact this (h2.1 (by omega))
   ·split at hh
    ·rename_i hn
     cases hh
     have:=h2.2 ((kX ok hn).trans rfl)
     rw [beq_iff_eq]
     omega
    ·cases hh
  ·cases hh
 ·cases hh
end
def DZ (h:Hint) (db:List Fd) (a:Nat):Option Bool:=match oO db a with
 | some s=>match jZ db s with
  | some (e,_)=>if pY e then (match cmB h e (.c 10000) with
    | some (-1)=>some true
    | some 0 | some 1=>some false
    | _=>none) else none
  | none=>none
 | none=>none
def mX:List Fd→Nat→Option RE
 | [],_=>none
 | .i s e :: r,n=>if s=n then some e else mX r n
 | _ :: r,n=>mX r n
theorem mY {n:Nat} {e:RE}:∀ {db:List Fd},mX db n=some e→.i n e∈db
 | [],h=>by simp [mX] at h
 | f :: r,h=>by
  cases f with
  | i b e' =>
   simp only [mX] at h
   split at h
   ·rename_i hs;cases h;subst hs;simp
   ·exact List.mem_cons_of_mem _ (mY h)
  | l _ _ _=>exact List.mem_cons_of_mem _ (mY h)
  | z _ _ _=>exact List.mem_cons_of_mem _ (mY h)
  | r _ _ _=>exact List.mem_cons_of_mem _ (mY h)
  | n _ _=>exact List.mem_cons_of_mem _ (mY h)
def Dw (h:Hint) (db:List Fd) (a:Nat) (m:Int):Option Bool:=match mX db a with
 | some e=>if eqB h e (.c m) then some true else if h.ne.any (fun p=>p.1.beq e && p.2.beq (.c m)) then some false else none
 | none=>if m=0 then yI h db a else if m=1 then DZ h db a else none
section
variable {β:Nat→Rat} {ρ:Env} {W:World} {db:List Fd} {h:Hint}
theorem WL (ok:h.Ok β) {a:Nat} {x:Bool} (hh:DZ h db a=some x) (hf:∀ f∈db,(SR β).on ρ f W):((ρ a).u == 1)=x:=by
 unfold DZ at hh
 split at hh
 ·rename_i s hs
  split at hh
  ·rename_i e k hx
   split at hh
   ·rename_i hp
    have h1:(ρ a).u=((ρ s).l:Int):=hf _ (oP hs)
    obtain ⟨xs,g1,g2,g3,g4,-⟩:=(show IsG W (.slice (ρ s).p (ρ s).l (ρ s).c) (e.ev β) k from hf _ (mZ hx))
    have hl:=g1.len
    have hpos:0<Z4.val xs:=by
     have:=zG (β:=β) hp
     rw [← g4] at this
     rcases Nat.eq_zero_or_pos (Z4.val xs) with h0 | h0
     ·rw [h0] at this;exact absurd this (by decide)
     ·exact h0
    have hl1:1≤xs.length:=by
     rcases Nat.eq_zero_or_pos xs.length with h0 | h0
     ·have:=(Z4.ug g2 g3).1 h0;omega
     ·exact h0
    have hcm:∀ c,cmB h e (.c 10000)=some c→aC (Z4.val xs) 10000=c:=fun c hc=>by
     have:=uM ok hc
     rw [← g4,show (RE.c 10000).ev β=((10000:Nat):Rat) from rfl,O6] at this
     exact this
    have hge:2≤xs.length→10000≤Z4.val xs:=fun h2=>by
     have h3:=Z4.kL g3 (by intro e;subst e;simp at hl1)
     have h4:Z4.B4 ^ 1≤Z4.B4 ^ (xs.length - 1):=Nat.pow_le_pow_right (by decide) (by omega)
     have h5:Z4.B4 ^ 1=10000:=by decide
     omega
    have hlt:xs.length≤1→Z4.val xs<10000:=fun h2=>by
     have h3:=Z4.aU g2
     have h4:Z4.B4 ^ xs.length=10000:=by rw [show xs.length=1 by omega];decide
     omega
    split at hh
    ·rename_i hc
     cases hh
     have:=hcm _ hc
     unfold aC at this
     rw [beq_iff_eq]
     split at this
     ·rcases Nat.lt_or_ge xs.length 2 with h6 | h6
      ·omega
      ·have:=hge h6;omega
     ·split at this <;> omega
    ·rename_i hc
     cases hh
     have:=hcm _ hc
     unfold aC at this
     rw [beq_eq_false_iff_ne]
     intro h7
     have:=hlt (by omega)
     rw [if_pos this] at *
     omega
    ·rename_i hc
     cases hh
     have:=hcm _ hc
     unfold aC at this
     rw [beq_eq_false_iff_ne]
     intro h7
     have:=hlt (by omega)
     rw [if_pos this] at *
     omega
    ·cases hh
   ·cases hh
  ·cases hh
 ·cases hh
theorem Uy (ok:h.Ok β) {a:Nat} {m:Int} {x:Bool} (hh:Dw h db a m=some x) (hf:∀ f∈db,(SR β).on ρ f W):((ρ a).u == m)=x:=by
 unfold Dw at hh
 split at hh
 ·rename_i e hx
  have h1:(((ρ a).u:Int):Rat)=e.ev β:=hf _ (mY hx)
  split at hh
  ·rename_i he
   cases hh
   rw [kX ok he] at h1
   rw [beq_iff_eq]
   have h2:(((ρ a).u:Int):Rat)=((m:Int):Rat):=h1
   exact_mod_cast h2
  ·split at hh
   ·rename_i hn
    cases hh
    obtain ⟨p,hp,h2⟩:=List.any_eq_true.1 hn
    simp only [Bool.and_eq_true] at h2
    have:=ok.2.1 p hp
    rw [RE.beq_eq h2.1,RE.beq_eq h2.2,← h1] at this
    rw [beq_eq_false_iff_ne]
    intro h0
    exact this (by rw [h0];rfl)
   ·cases hh
 ·split at hh
  ·rename_i hm;subst hm;exact (Jf ok hh hf).2
  ·split at hh
   ·rename_i hm;subst hm;exact WL ok hh hf
   ·cases hh
end
def F6 (h:Hint) (db:List Fd) (a a' b:Nat):Option (List Fd):=match mX db a,mX db a' with
 | some e,some e'=>if cmB h (.add e e') (.c 4611686018427387904)=some (-1) && cmB h (.c (-1)) (.add e e')=some (-1) then some [.i b (.add e e')] else none
 | _,_=>none
theorem GV {a b:Rat} (h:aS a b = -1):a<b:=by
 unfold aS at h
 split at h
 ·assumption
 ·split at h <;> cases h
def HL (β:Nat→Rat) (h:Hint) (ok:h.Ok β):Tests (SR β) where
 eq:=fun db c d=>match c,d with
  | .oi a,.it .i64 m=>Dw h db a m
  | _,_=>none
 ok:=fun {fs c d x} hh ρ W hf=>by
  split at hh
  ·rename_i a m
   exact .inr ⟨.i64,(ρ a).u,m,rfl,rfl,Uy ok hh hf⟩
  ·cases hh
 add:=F6 h
 addOk:=fun {db a a' b new} hh ρ W hf=>by
  unfold F6 at hh
  split at hh
  ·rename_i e e' h1 h2
   split at hh
   ·rename_i hc
    simp only [Bool.and_eq_true,decide_eq_true_eq] at hc
    cases hh
    have g1:(((ρ a).u:Int):Rat)=e.ev β:=hf _ (mY h1)
    have g2:(((ρ a').u:Int):Rat)=e'.ev β:=hf _ (mY h2)
    have hs:(((ρ a).u+(ρ a').u:Int):Rat)=(RE.add e e').ev β:=by rw [Rat.intCast_add,g1,g2];rfl
    have k1:=GV (uM ok hc.1)
    have k2:=GV (uM ok hc.2)
    rw [← hs] at k1 k2
    have l1:(ρ a).u+(ρ a').u<4611686018427387904:=Rat.intCast_lt_intCast.1 (show (((ρ a).u+(ρ a').u:Int):Rat)<((4611686018427387904:Int):Rat) from k1)
    have l2:-1<(ρ a).u+(ρ a').u:=Rat.intCast_lt_intCast.1 (show ((-1:Int):Rat)<(((ρ a).u+(ρ a').u:Int):Rat) from k2)
    refine ⟨by rw [IntKind.wrap_i64];omega,fun ρ' _ hu f hm=>?_⟩
    obtain rfl:=List.mem_singleton.1 hm
    show (((ρ' b).u:Int):Rat)=_
    rw [hu,hs]
   ·cases hh
  ·cases hh
 gt:=fun db c d=>match c,d with
  | .oi a,.it .i64 0=>(yI h db a).map (!·)
  | _,_=>none
 gok:=fun {fs c d x} hh ρ W hf=>by
  split at hh
  ·rename_i a
   obtain ⟨y,hy,rfl⟩:=Option.map_eq_some_iff.1 hh
   obtain ⟨h1,h2⟩:=Jf ok hy hf
   refine ⟨.i64,(ρ a).u,0,rfl,rfl,?_⟩
   rw [← h2]
   by_cases h0:(ρ a).u=0
   ·rw [h0];rfl
   ·rw [decide_eq_true (by omega),beq_eq_false_iff_ne.2 h0];rfl
  ·cases hh
section
variable (β:Nat→Rat) (h:Hint)
def PG:Con (SR β) where
 fn:=107
 app:=fun db b args=>match args with
  | [.e (.s x),.e (.s y)]=>match asG db x,asG db y with
   | some (e,k),some (e',k')=>if decide (k≤K1) && decide (k'≤K1) && nzB h e' then some (.t [.s (.os b),.s (.os (b+1))],[.l b (.flo (.div e e')) k,.l (b+1) (rem e e') k]) else none
   | _,_=>none
  | _=>none
def cf:List (Con (SR β)):=PG β h :: cz β h
end
section
variable {β:Nat→Rat} {h:Hint} {f:FuncId} {vals:Array Value} {W:World} {ρ:Env} {b:Nat}
end
section
variable {a b:Int} {v1 v2:Value} {w:World}
end
end Rx
namespace Rx
open Go.RowKit
section
variable (β:Nat→Rat) (h:Hint)
end
section
variable {β:Nat→Rat} {h:Hint} {f:FuncId} {vals:Array Value} {W:World} {ρ:Env} {b:Nat}
end
end Rx
namespace Rx
open Go.RowKit
def Cell.eqB:Cell→Cell→Bool
 | .bl a,.bl b=>a == b
 | .it k n,.it k' n'=>decide (k=k') && decide (n=n')
 | .st s,.st t=>decide (s=t)
 | .nils,.nils=>true
 | .ob a,.ob b | .ou a,.ou b | .oi a,.oi b | .o8 a,.o8 b | .os a,.os b | .ot a,.ot b=>a == b
 | .ptr k o,.ptr k' o' | .elp k o,.elp k' o'=>k == k' && o == o'
 | .elv n i z,.elv n' i' z'=>n == n' && i == i' && z == z'
 | _,_=>false
section
variable (P:Program) (S:Sys) (H:Tests S) (cons:List (Con S))
end
section
variable {P:Program} {Sj:Nat→Sys} {eqF:∀ j,(Sj j).F→(Sj j).F→Bool} {Hj:∀ j,Tests (Sj j)} {cj:∀ j,List (Con (Sj j))} {E:World→Prop}
end
end Rx
namespace Z4
open Go.RowKit Go.Sort Go.Lib
end Z4
end Go.Proofs.YtefbfbdijimanaaGreatDoor
