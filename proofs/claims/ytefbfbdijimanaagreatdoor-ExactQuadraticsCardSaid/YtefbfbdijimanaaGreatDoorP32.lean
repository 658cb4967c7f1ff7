/- What the proof rests on, part 32. -/
import Derived.Test.YtefbfbdijimanaaGreatDoorP30
import Derived.Test.YtefbfbdijimanaaGreatDoorP31
import Derived.Test.YtefbfbdijimanaaGreatDoorP22
import Derived.Test.YtefbfbdijimanaaGreatDoorP19
import Derived.Test.YtefbfbdijimanaaGreatDoorP18
import Derived.Test.YtefbfbdijimanaaGreatDoorP29
namespace Go.Proofs.YtefbfbdijimanaaGreatDoor
set_option maxRecDepth 100000
set_option maxHeartbeats 80000000
namespace Rx
open Go.RowKit
def mO (β:Nat→Rat):Prop:=β 0=mkRat (-5) 4∧β 1=mkRat 3 2∧β 2=mkRat 355 113∧β 3=mkRat 22 7∧β 4=mkRat 11 8∧β 5=mkRat 1 2
def xC (s:ByteArray):Option Nat:=
 if s.data.toList=[45,49,46,50,53,48] then some 0 else if s.data.toList=[54,47,52] then some 1 else
 if s.data.toList=[51,53,53,47,49,49,51] then some 2 else if s.data.toList=[49,47,50] then some 5 else none
def BM:List (RE×List UInt8):=[(.v 0,[45,53,47,52]),(.v 1,[51,47,50]),(.v 3,[50,50,47,55]),(.v 4,[49,49,47,56]),(tC (.v 5),[51,47,53]),(tS (.v 5),[52,47,53]),(.add (.v 0) (.v 1),[49,47,52]),(.mul (.v 0) (.v 1),[45,49,53,47,56])]
section
variable (β:Nat→Rat)
def Bv:Con (SQ β) where
 fn:=89
 app:=fun _ b args=>match args with
  | [.e (.s (.st s))]=>match xC s with
   | some i=>some (.t [.a (aI b),.s (.it .i64 0)],[.q b (.v i) 1])
   | none=>none
  | _=>none
def Bq:Con (SQ β) where
 fn:=90
 app:=fun _ b args=>match args with
  | [.e (.s (.st s))]=>match xC s with
   | some i=>some (.e (.a (aI b)),[.q b (.v i) 1])
   | none=>none
  | _=>none
def Bo:Con (SQ β) where
 fn:=91
 app:=fun db b args=>match args with
  | [.e (.a x),.e (.s (.it .i64 7))]=>match dW db x with
   | some (.v 2,_)=>some (.t [.a (aI b),.s (.it .i64 0)],[.q b (.v 3) 1])
   | _=>none
  | _=>none
def aRoot:Con (SQ β) where
 fn:=92
 app:=fun db b args=>match args with
  | [.e (.a x),.e (.s (.it .i64 3))]=>match dW db x with
   | some (.c 2,_)=>some (.t [.a (aI b),.s (.it .i64 0)],[.q b (.v 4) 1])
   | _=>none
  | _=>none
def aIs:Con (SQ β) where
 fn:=93
 app:=fun db _ args=>match args with
  | [.e (.a x),.e (.s (.st s))]=>match dW db x with
   | some (e,k)=>if decide (k≤K0) && BM.any (fun p=>p.1.beq e && decide (p.2=s.data.toList)) then some (.e (.s (.bl true)),[]) else none
   | none=>none
  | _=>none
end
section
variable {β:Nat→Rat}
theorem Ie (h:mO β) {s:ByteArray} {i:Nat} (ht:xC s=some i):Fits 1 (β i)∧∀ W,EV W→Calls Tryz.prog 89 #[.string s] W (fJ W (β i) 0):=by
 obtain ⟨h0,h1,h2,-,-,h5⟩:=h
 obtain ⟨⟨l⟩⟩:=s
 unfold xC at ht
 simp only at ht
 split at ht
 ·rename_i hl
  cases ht;subst hl;rw [h0]
  exact ⟨kF (by decide +kernel) (by decide +kernel),fun W hE=>Yg W hE⟩
 split at ht
 ·rename_i hl
  cases ht;subst hl;rw [h1]
  exact ⟨kF (by decide +kernel) (by decide +kernel),fun W hE=>p64 W hE⟩
 split at ht
 ·rename_i hl
  cases ht;subst hl;rw [h2]
  exact ⟨kF (by decide +kernel) (by decide +kernel),fun W hE=>Yh W hE⟩
 split at ht
 ·rename_i hl
  cases ht;subst hl;rw [h5]
  exact ⟨kF (by decide +kernel) (by decide +kernel),fun W hE=>p12 W hE⟩
 ·cases ht
theorem PN (h:mO β):∀ p∈BM,iH (p.1.ev β)=p.2:=by
 obtain ⟨h0,h1,h2,h3,h4,h5⟩:=h
 have c1:((1:Int):Rat)=1:=rfl
 unfold BM
 simp only [List.forall_mem_cons,List.not_mem_nil,false_imp_iff,implies_true,and_true,RE.ev,tC,tS,h0,h1,h3,h4,h5,c1]
 exact ⟨by decide +kernel,by decide +kernel,by decide +kernel,by decide +kernel,by decide +kernel,by decide +kernel,by decide +kernel,by decide +kernel⟩
theorem OV (h:mO β):(Bv β).Ok Tryz.prog (SQ β) EV:=by
 refine Con.ok0 rfl ?_
 intro db b args res new ha ρ W hf hE
 simp only [Bv] at ha
 split at ha
 ·split at ha
  ·rename_i i ht
   cases ha
   obtain ⟨h1,h2⟩:=Ie h ht
   exact uM (e:=.v i) (h2 W hE) h1
  ·cases ha
 ·cases ha
theorem OU (h:mO β):(Bq β).Ok Tryz.prog (SQ β) EV:=by
 refine Con.ok0 rfl ?_
 intro db b args res new ha ρ W hf hE
 simp only [Bq] at ha
 split at ha
 ·rename_i s
  split at ha
  ·rename_i i ht
   cases ha
   obtain ⟨h1,h2⟩:=Ie h ht
   obtain ⟨⟨l⟩⟩:=s
   exact uK (e:=.v i) (X3 l (β i) 0 W (hid fun W' hb=>h2 W' (Env.below hE hb (Nat.le_refl _)))) h1
  ·cases ha
 ·cases ha
theorem OT (h:mO β):(Bo β).Ok Tryz.prog (SQ β) EV:=by
 refine Con.ok0 rfl ?_
 intro db b args res new ha ρ W hf hE
 simp only [Bo] at ha
 split at ha
 ·split at ha
  ·rename_i hx
   cases ha
   obtain ⟨⟨h1,h2⟩,-⟩:=gG hx hf
   rw [show (RE.v 2).ev β=mkRat 355 113 from h.2.2.1] at h1
   have hv:(RE.v 3).ev β=mkRat 22 7:=h.2.2.2.1
   exact uM (e:=.v 3) (by rw [hv];exact XI _ W h1 hE) (by rw [hv];exact kF (by decide +kernel) (by decide +kernel))
  ·cases ha
 ·cases ha
theorem OW (h:mO β):(aRoot β).Ok Tryz.prog (SQ β) EV:=by
 refine Con.ok0 rfl ?_
 intro db b args res new ha ρ W hf hE
 simp only [aRoot] at ha
 split at ha
 ·split at ha
  ·rename_i hx
   cases ha
   obtain ⟨⟨h1,h2⟩,-⟩:=gG hx hf
   have hv:(RE.v 4).ev β=mkRat 11 8:=h.2.2.2.2.1
   exact uM (e:=.v 4) (by rw [hv];exact Zo _ W h1 hE) (by rw [hv];exact kF (by decide +kernel) (by decide +kernel))
  ·cases ha
 ·cases ha
theorem OQ (h:mO β):(aIs β).Ok Tryz.prog (SQ β) EV:=by
 refine Con.ok0 rfl ?_
 intro db b args res new ha ρ W hf hE
 simp only [aIs] at ha
 split at ha
 ·rename_i x s
  split at ha
  ·rename_i e k hx
   split at ha
   ·rename_i hh
    simp only [Bool.and_eq_true,decide_eq_true_eq] at hh
    cases ha
    obtain ⟨⟨h1,h2⟩,-⟩:=gG hx hf
    obtain ⟨p,hp,hq⟩:=List.any_eq_true.1 hh.2
    simp only [Bool.and_eq_true,decide_eq_true_eq] at hq
    have ht:=PN h p hp
    rw [RE.beq_eq hq.1,hq.2] at ht
    obtain ⟨⟨l⟩⟩:=s
    have hc:=Wn l _ _ k W h1 hh.1 h2 hE
    rw [show iH (e.ev β)=l from ht,beq_self_eq_true] at hc
    exact qY hc rfl
   ·cases ha
  ·cases ha
 ·cases ha
def aw (β:Nat→Rat):List (Con (SQ β)):=Bv β :: Bq β :: Bo β :: aRoot β :: aIs β :: xQ β :: cq β {}
theorem PS (β:Nat→Rat):isB true (aV Tryz.prog (SQ β) (HQ β {} (fQ β)) (aw β) 1 29 [] [] 0)=true:=by kernel_rfl
theorem PO {W:World} (hE:EV W):Calls Tryz.prog 29 #[] W (bH W (.bool true)):=by
 obtain ⟨β,h⟩:∃ β,mO β:=⟨bet [mkRat (-5) 4,mkRat 3 2,mkRat 355 113,mkRat 22 7,mkRat 11 8,mkRat 1 2],rfl,rfl,rfl,rfl,rfl,rfl⟩
 refine MN (β:=β) (ρ:=ev []) (args:=[]) (fs:=[]) (cons:=aw _) ?_ (PS _) hE (fun g hg=>by cases hg)
 unfold aw
 simp only [List.forall_mem_cons]
 exact ⟨OV h,OU h,OT h,OW h,OQ h,II,DF (fQ _)⟩
end
section
variable (β:Nat→Rat) (h:Hint)
def uT:Con (SQ β) where
 fn:=29
 app:=fun _ _ args=>match args with
  | []=>some (.e (.s (.bl true)),[])
  | _=>none
def cl:List (Con (SQ β)):=uT β :: (cq β h ++ cl1 β)
end
theorem Qs {β:Nat→Rat}:(uT β).Ok Tryz.prog (SQ β) EV:=by
 refine Con.ok0 rfl ?_
 intro db b args res new ha ρ W hf hE
 simp only [uT] at ha
 split at ha
 ·cases ha
  exact qY (PO hE) rfl
 ·cases ha
end Rx
namespace Rx
open Go.RowKit
def jq (db:List Fc):List Cell→Option (RE×Nat)
 | [.ob a,.os b,.bl false,.os c]=>if a=b && a+1=c then pV db a else none
 | _=>none
theorem jW {β:Nat→Rat} {ρ:Env} {W:World} {db:List Fc} {cs:List Cell} {e:RE} {k:Nat} (h:jq db cs=some (e,k)) (hf:∀ f∈db,(SQ β).on ρ f W):Z4.IsR W (.agg (cs.map (Cell.den ρ)).toArray) (e.ev β)∧Fits k (e.ev β):=by
 unfold jq at h
 split at h
 ·rename_i a b c
  split at h
  ·rename_i hh
   simp only [Bool.and_eq_true,decide_eq_true_eq] at hh
   obtain ⟨rfl,rfl⟩:=hh
   exact hf _ (nK h)
  ·cases h
 ·cases h
def nu (n:Int):Nv:=⟨false,n,none,0,0,.empty,0,default⟩
abbrev hv (n d b:Int):List Value:=[.int .i64 n,.int .i64 d,.int .u8 b]
def Qu (β:Nat→Rat):Con (SQ β) where
 fn:=33
 app:=fun db b args=>match args with
  | [.e (.a x)]=>match vC (x.take 3),vC (x.drop 3) with
   | some a,some a'=>match nJ db a,nJ db a' with
    | some e,some e'=>some (.t [.a (aI b ++ aI (b+2)),.a (aX (b+4) ++ aX (b+6))],[.q b e 4,.q (b+2) e' 4,.r (b+4) e 4,.r (b+6) e' 4])
    | _,_=>none
   | _,_=>none
  | _=>none
def NV (a b c d:RE):RE:=.sub (.mul c a) (.mul d b)
def aaz (a b c d:RE):RE:=.sub (.mul a c) (.mul b d)
abbrev C1:RE:=tC (.v 0)
abbrev S1:RE:=tS (.v 0)
abbrev C2:RE:=tC (.v 1)
abbrev S2:RE:=tS (.v 1)
abbrev wC:RE:=aaz C1 S1 C2 S2
abbrev ax:RE:=NV (.v 2) (.v 3) C1 S1
abbrev bx:RE:=NV (.v 4) (.v 5) C1 S1
end Rx
section
open Go.ChangeShapes Go.WideShapes Go.ChangeAt Go.RowKit Go.Joins
section
variable {H:Type} {enc:TypeId×Value→H}
theorem NumIn.is {n d:Int} {b:Nat} (h:NumIn n d b):Rx.IsN n d (b:Int) (numOf n d b):=⟨b,rfl,h.b1,h.n1,h.n2,h.d1,h.d2,rfl⟩
end
end
namespace Z4
open Go.RowKit Go.Sort
structure kV (xs ys ds:List Nat) (k c:Nat):Prop where
 len:ds.length=k
 dig:Dig ds
 le:c≤1
 eq:val ds+c*B4 ^ k=val (xs.take k)+val (ys.take k)
 top:k=0∨(∃ e d,ds=e ++ [d]∧d≠0)∨k<xs.length∨k<ys.length∨0<c
 b1:k≤xs.length+ys.length+1
 b2:0<c→k≤xs.length+ys.length
theorem kV.start (xs ys:List Nat):kV xs ys [] 0 0:=⟨rfl,Dig.nil,by omega,by simp [val],.inl rfl,by omega,by omega⟩
theorem NR (xs:List Nat) (k:Nat):val (xs.take (k+1))=val (xs.take k)+B4 ^ k*xs[k]?.getD 0:=by
 by_cases hk:k<xs.length
 ·rw [Aw xs k hk,List.getElem?_eq_getElem hk];rfl
 ·rw [List.getElem?_eq_none (by omega),List.take_of_length_le (by omega),List.take_of_length_le (by omega)];simp
theorem kV.step {xs ys ds:List Nat} {k c x y d c':Nat} (h:kV xs ys ds k c) (hgo:k<xs.length∨k<ys.length∨0<c) (tx:aA xs) (ty:aA ys) (hx:xs[k]?.getD 0=x) (hy:ys[k]?.getD 0=y) (hd:d<10000) (hc:c'≤1) (e:c+x+y=d+c' * 10000) (e0:k<xs.length→x<10000) (e1:k<ys.length→y<10000) :
  kV xs ys (ds ++ [d]) (k+1) c':=by
 have hb:xs.length≤k→x=0:=fun h=>by rw [← hx,List.getElem?_eq_none h];rfl
 have hb':ys.length≤k→y=0:=fun h=>by rw [← hy,List.getElem?_eq_none h];rfl
 have hle:=h.le
 have hb1:=h.b1
 have hb2:=h.b2
 have hlast:k+1=xs.length→x≠0:=fun hk e0=>by
  have hne:xs≠[]:=fun e=>by subst e;simp at hk
  have:=tx hne
  rw [List.getLast_eq_getElem] at this
  apply this
  rw [← e0,← hx,List.getElem?_eq_getElem (by omega)]
  simp only [Option.getD_some]
  congr 1
  omega
 have hlast':k+1=ys.length→y≠0:=fun hk e0=>by
  have hne:ys≠[]:=fun e=>by subst e;simp at hk
  have:=ty hne
  rw [List.getLast_eq_getElem] at this
  apply this
  rw [← e0,← hy,List.getElem?_eq_getElem (by omega)]
  simp only [Option.getD_some]
  congr 1
  omega
 refine ⟨by simp [h.len],h.dig.append (fun z hz=>by simp at hz;subst hz;exact hd),hc,?_,?_,?_,?_⟩
 ·have h1:=h.eq
  rw [NR xs,NR ys,iy,h.len,Nat.pow_succ,hx,hy,show B4=10000 from rfl]
  rw [show B4=10000 from rfl] at h1
  generalize 10000 ^ k=P at *
  generalize val (xs.take k)=X at *
  generalize val (ys.take k)=Y at *
  generalize val ds=D at *
  have:=congrArg (P * ·) e
  grind
 ·right
  by_cases hd0:d=0
  ·right
   subst hd0
   rcases Nat.eq_zero_or_pos c' with hc0 | hc0
   ·subst hc0
    have:c=0∧x=0∧y=0:=by omega
    obtain ⟨rfl,rfl,rfl⟩:=this
    rcases Nat.lt_trichotomy (k+1) xs.length with h1 | h1 | h1
    ·exact .inl h1
    ·exact absurd rfl (hlast h1)
    ·rcases Nat.lt_trichotomy (k+1) ys.length with h2 | h2 | h2
     ·exact .inr (.inl h2)
     ·exact absurd rfl (hlast' h2)
     ·omega
   ·exact .inr (.inr hc0)
  ·exact .inl ⟨ds,d,rfl,hd0⟩
 ·omega
 ·intro hc0
  by_cases h1:k<xs.length
  ·omega
  ·by_cases h2:k<ys.length
   ·omega
   ·have:=hb (by omega);have:=hb' (by omega);omega
theorem kV.done {xs ys ds:List Nat} {k:Nat} (h:kV xs ys ds k 0) (h1:xs.length≤k) (h2:ys.length≤k):val ds=val xs+val ys∧aA ds:=by
 refine ⟨?_,?_⟩
 ·have:=h.eq
  rw [List.take_of_length_le h1,List.take_of_length_le h2] at this
  omega
 ·intro hne
  rcases h.top with h3 | ⟨e,d,rfl,hd⟩ | h3 | h3 | h3
  ·exfalso;apply hne;rw [← List.length_eq_zero_iff,h.len,h3]
  ·simpa using hd
  ·omega
  ·omega
  ·omega
theorem Ym (p p2:Option Addr) (b o k b2 o2 k2:Nat) (xs ys:List Nat) (w:World) (hp:xs.length≠0→p=some ⟨b,o,none⟩) (hbw:xs.length≠0→b<w.heap.size) (hx:Ints w b o xs) (hp2:ys.length≠0→p2=some ⟨b2,o2,none⟩) (hbw2:ys.length≠0→b2<w.heap.size) (hy:Ints w b2 o2 ys)
  (dx:Dig xs) (dy:Dig ys) (tx:aA xs) (ty:aA ys) (hsz:xs.length≤549755813888) (hsz2:ys.length≤549755813888) :
  Calls Tryz.prog 121 #[.slice p xs.length k,.slice p2 ys.length k2] w (jH w (val xs+val ys)):=by
 have HP:=hid (And.intro hp (And.intro hbw hx))
 have HP2:=hid (And.intro hp2 (And.intro hbw2 hy))
 have HT:=hid (And.intro tx ty)
 clear hp hbw hx hp2 hbw2 hy tx ty
 obtain ⟨i0,hi,hz0,hz1,hz2⟩:=info_parts nU
 obtain ⟨V,hV⟩:∃ V,val xs+val ys=V:=⟨_,rfl⟩
 rw [hV]
 have HVV:=hid hV
 clear hV
 go_enter Tryz.func121,Tryz.ntmps121
 go_wp2
 go_loopw [5,6,7] (fun ov cv iv wr=>∃ (i c:Nat) (ds:List Nat),iv=.int .i64 i∧cv=.int .i64 c∧wr.ownsRow w.heap.size 3 1 ov i (ds.map enc)∧kV xs ys ds i c∧Below w.heap.size w wr) (fun _ _ iv _=>(xs.length+ys.length+1) - (intOf iv).toNat)
 case atStart=>exact ⟨0,0,[],rfl,rfl,World.ownsRow_nil _ _ _ _,kV.start xs ys,Below.refl _ _⟩
 case round =>
  obtain ⟨i,c,ds,rfl,rfl,hown,hI,hB⟩:=hrel
  have hc1:=hI.le
  have hb1:=hI.b1
  have hb2:=hI.b2
  have HB:=hid hB
  have HO:=hid hown
  by_cases hgo:i<xs.length∨i<ys.length∨0<c
  ·obtain ⟨x,hxi⟩:∃ x,xs[i]?.getD 0=x:=⟨_,rfl⟩
   obtain ⟨y,hyi⟩:∃ y,ys[i]?.getD 0=y:=⟨_,rfl⟩
   have hx1:x<10000:=hxi ▸ dx.getD i
   have hy1:y<10000:=hyi ▸ dy.getD i
   have HI:=hid (fun (d c':Nat) (hd:d<10000) (hc:c'≤1) (e:c+x+y=d+c' * 10000) (e0:k=k) (e1:k=k)=>hI.step hgo HT.out.1 HT.out.2 hxi hyi hd hc e (fun _=>hx1) (fun _=>hy1))
   have HX:=hid hxi
   have HY:=hid hyi
   clear hI hxi hyi hB hown
   by_cases hlx:i<xs.length
   ·by_cases hly:i<ys.length
    ·clear hgo
     obtain rfl:=HP.out.1 (by omega)
     have cx:wr.cell? ⟨b,o+i,none⟩=some (.int .i64 (x:Int)):=by rw [HB.out.cell (p:=⟨b,o+i,none⟩) (HP.out.2.1 (by omega)),HP.out.2.2 i (by omega),HX.out]
     obtain rfl:=HP2.out.1 (by omega)
     have cy:wr.cell? ⟨b2,o2+i,none⟩=some (.int .i64 (y:Int)):=by rw [HB.out.cell (p:=⟨b2,o2+i,none⟩) (HP2.out.2.1 (by omega)),HP2.out.2.2 i (by omega),HY.out]
     obtain ⟨s,hs⟩:∃ s:Nat,s=c+x+y:=⟨_,rfl⟩
     obtain ⟨d,hd⟩:∃ d:Nat,d=s % 10000:=⟨_,rfl⟩
     obtain ⟨c',hc'⟩:∃ c':Nat,c' = s / 10000:=⟨_,rfl⟩
     have hd1:d<10000:=by omega
     have HN:=hid (HI.out d c' hd1 (by omega) (by omega) (by omega) (by omega))
     have HD:=hid (And.intro hs (And.intro hd hc'))
     clear hs hd hc' hd1
     go_wp2_with (first
      | (at_builtin;refine wpList_append_own _ rfl _ _ 33 rfl w.heap.size 3 i0 (.int .i64 0) 1 8 Tryz.underlying33 hi hz0 hz1 hz2 rfl (by decide) _ _ _ rfl (HO.out.alloc _) ⟨wr.heap.size,0,none⟩ 1 1 [.int .i64 (d:Int)] rfl rfl ?c1 ?c2 ?c3 ?c4 ?c5 ?_))
     case c1 =>
      intro j u hj
      match j,hj with
      | 0,hj=>simp at hj;subst hj;have:=HD.out;first | (simp;omega) | (simp [Addr.add];omega) | (simp [Addr.add])
     case c2=>first | rfl | (intro u hu;simp at hu;subst hu;rfl)
     case c3=>unfold maxLen;omega
     case c4=>omega
     case c5=>have:=HB.out.size;simp;omega
     intro v' w1 hown' hgrow _
     have hB2:Below w.heap.size w w1:=(HB.out.alloc HB.out.size _).grown hgrow (by have:=HB.out.size;simp;omega) (fun k hk=>(HO.out.lt k hk).1)
     rw [← jk] at hown'
     have HO2:=hid hown'
     have HB2:=hid hB2
     clear hown' hgrow hB2
     go_wp2
     go_roundw
     case rel=>exact ⟨i+1,c',ds ++ [d],by go_num,by have:=HD.out;first | rfl | (congr 1;omega),HO2.out,HN.out,HB2.out⟩
     case measure=>simp [intOf];omega
    ·clear hgo
     obtain rfl:=HP.out.1 (by omega)
     have cx:wr.cell? ⟨b,o+i,none⟩=some (.int .i64 (x:Int)):=by rw [HB.out.cell (p:=⟨b,o+i,none⟩) (HP.out.2.1 (by omega)),HP.out.2.2 i (by omega),HX.out]
     obtain rfl:y=0:=by rw [← HY.out,List.getElem?_eq_none (by omega)];rfl
     obtain ⟨s,hs⟩:∃ s:Nat,s=c+x+0:=⟨_,rfl⟩
     obtain ⟨d,hd⟩:∃ d:Nat,d=s % 10000:=⟨_,rfl⟩
     obtain ⟨c',hc'⟩:∃ c':Nat,c' = s / 10000:=⟨_,rfl⟩
     have hd1:d<10000:=by omega
     have HN:=hid (HI.out d c' hd1 (by omega) (by omega) (by omega) (by omega))
     have HD:=hid (And.intro hs (And.intro hd hc'))
     clear hs hd hc' hd1
     go_wp2_with (first
      | (at_builtin;refine wpList_append_own _ rfl _ _ 33 rfl w.heap.size 3 i0 (.int .i64 0) 1 8 Tryz.underlying33 hi hz0 hz1 hz2 rfl (by decide) _ _ _ rfl (HO.out.alloc _) ⟨wr.heap.size,0,none⟩ 1 1 [.int .i64 (d:Int)] rfl rfl ?c1 ?c2 ?c3 ?c4 ?c5 ?_))
     case c1 =>
      intro j u hj
      match j,hj with
      | 0,hj=>simp at hj;subst hj;have:=HD.out;first | (simp;omega) | (simp [Addr.add];omega) | (simp [Addr.add])
     case c2=>first | rfl | (intro u hu;simp at hu;subst hu;rfl)
     case c3=>unfold maxLen;omega
     case c4=>omega
     case c5=>have:=HB.out.size;simp;omega
     intro v' w1 hown' hgrow _
     have hB2:Below w.heap.size w w1:=(HB.out.alloc HB.out.size _).grown hgrow (by have:=HB.out.size;simp;omega) (fun k hk=>(HO.out.lt k hk).1)
     rw [← jk] at hown'
     have HO2:=hid hown'
     have HB2:=hid hB2
     clear hown' hgrow hB2
     go_wp2
     go_roundw
     case rel=>exact ⟨i+1,c',ds ++ [d],by go_num,by have:=HD.out;first | rfl | (congr 1;omega),HO2.out,HN.out,HB2.out⟩
     case measure=>simp [intOf];omega
   ·by_cases hly:i<ys.length
    ·clear hgo
     obtain rfl:x=0:=by rw [← HX.out,List.getElem?_eq_none (by omega)];rfl
     obtain rfl:=HP2.out.1 (by omega)
     have cy:wr.cell? ⟨b2,o2+i,none⟩=some (.int .i64 (y:Int)):=by rw [HB.out.cell (p:=⟨b2,o2+i,none⟩) (HP2.out.2.1 (by omega)),HP2.out.2.2 i (by omega),HY.out]
     obtain ⟨s,hs⟩:∃ s:Nat,s=c+0+y:=⟨_,rfl⟩
     obtain ⟨d,hd⟩:∃ d:Nat,d=s % 10000:=⟨_,rfl⟩
     obtain ⟨c',hc'⟩:∃ c':Nat,c' = s / 10000:=⟨_,rfl⟩
     have hd1:d<10000:=by omega
     have HN:=hid (HI.out d c' hd1 (by omega) (by omega) (by omega) (by omega))
     have HD:=hid (And.intro hs (And.intro hd hc'))
     clear hs hd hc' hd1
     go_wp2_with (first
      | (at_builtin;refine wpList_append_own _ rfl _ _ 33 rfl w.heap.size 3 i0 (.int .i64 0) 1 8 Tryz.underlying33 hi hz0 hz1 hz2 rfl (by decide) _ _ _ rfl (HO.out.alloc _) ⟨wr.heap.size,0,none⟩ 1 1 [.int .i64 (d:Int)] rfl rfl ?c1 ?c2 ?c3 ?c4 ?c5 ?_))
     case c1 =>
      intro j u hj
      match j,hj with
      | 0,hj=>simp at hj;subst hj;have:=HD.out;first | (simp;omega) | (simp [Addr.add];omega) | (simp [Addr.add])
     case c2=>first | rfl | (intro u hu;simp at hu;subst hu;rfl)
     case c3=>unfold maxLen;omega
     case c4=>omega
     case c5=>have:=HB.out.size;simp;omega
     intro v' w1 hown' hgrow _
     have hB2:Below w.heap.size w w1:=(HB.out.alloc HB.out.size _).grown hgrow (by have:=HB.out.size;simp;omega) (fun k hk=>(HO.out.lt k hk).1)
     rw [← jk] at hown'
     have HO2:=hid hown'
     have HB2:=hid hB2
     clear hown' hgrow hB2
     go_wp2
     go_roundw
     case rel=>exact ⟨i+1,c',ds ++ [d],by go_num,by have:=HD.out;first | rfl | (congr 1;omega),HO2.out,HN.out,HB2.out⟩
     case measure=>simp [intOf];omega
    ·have hc0:0<c:=by omega
     clear hgo
     obtain rfl:x=0:=by rw [← HX.out,List.getElem?_eq_none (by omega)];rfl
     obtain rfl:y=0:=by rw [← HY.out,List.getElem?_eq_none (by omega)];rfl
     have hcc:0<c:=by omega
     obtain rfl:c=1:=by omega
     obtain ⟨s,hs⟩:∃ s:Nat,s=1+0+0:=⟨_,rfl⟩
     obtain ⟨d,hd⟩:∃ d:Nat,d=s % 10000:=⟨_,rfl⟩
     obtain ⟨c',hc'⟩:∃ c':Nat,c' = s / 10000:=⟨_,rfl⟩
     have hd1:d<10000:=by omega
     have HN:=hid (HI.out d c' hd1 (by omega) (by omega) (by omega) (by omega))
     have HD:=hid (And.intro hs (And.intro hd hc'))
     clear hs hd hc' hd1
     go_wp2_with (first
      | (at_builtin;refine wpList_append_own _ rfl _ _ 33 rfl w.heap.size 3 i0 (.int .i64 0) 1 8 Tryz.underlying33 hi hz0 hz1 hz2 rfl (by decide) _ _ _ rfl (HO.out.alloc _) ⟨wr.heap.size,0,none⟩ 1 1 [.int .i64 (d:Int)] rfl rfl ?c1 ?c2 ?c3 ?c4 ?c5 ?_))
     case c1 =>
      intro j u hj
      match j,hj with
      | 0,hj=>simp at hj;subst hj;have:=HD.out;first | (simp;omega) | (simp [Addr.add];omega) | (simp [Addr.add])
     case c2=>first | rfl | (intro u hu;simp at hu;subst hu;rfl)
     case c3=>unfold maxLen;omega
     case c4=>omega
     case c5=>have:=HB.out.size;simp;omega
     intro v' w1 hown' hgrow _
     have hB2:Below w.heap.size w w1:=(HB.out.alloc HB.out.size _).grown hgrow (by have:=HB.out.size;simp;omega) (fun k hk=>(HO.out.lt k hk).1)
     rw [← jk] at hown'
     have HO2:=hid hown'
     have HB2:=hid hB2
     clear hown' hgrow hB2
     go_wp2
     go_roundw
     case rel=>exact ⟨i+1,c',ds ++ [d],by go_num,by have:=HD.out;first | rfl | (congr 1;omega),HO2.out,HN.out,HB2.out⟩
     case measure=>simp [intOf];omega
  ·have hlx:¬ i<xs.length:=by omega
   have hly:¬ i<ys.length:=by omega
   obtain rfl:c=0:=by omega
   clear hgo
   have HD:=hid (hI.done (by omega) (by omega))
   have HL:=hid (IsL.of_own hown)
   have HI:=hid hI
   clear hI hown hB
   go_wp2
   go_ret
   exact ⟨_,_,rfl,HL.out,HI.out.dig,HD.out.2,by rw [HD.out.1,HVV.out],HB.out⟩
theorem Yj {B B2:Nat} (v v2:Value) (xs ys:List Nat) (w:World) (h:IsL B w v xs) (h2:IsL B2 w v2 ys) (dx:Dig xs) (dy:Dig ys) (tx:aA xs) (ty:aA ys) (hsz:xs.length≤549755813888) (hsz2:ys.length≤549755813888) :
  Calls Tryz.prog 121 #[v,v2] w (jH w (val xs+val ys)):=by
 obtain ⟨p,b,o,k,rfl,hp,hb,hk,hx⟩:=h.shape
 obtain ⟨p2,b2,o2,k2,rfl,hp2,hb2,hk2,hy⟩:=h2.shape
 exact Ym p p2 b o k b2 o2 k2 xs ys w hp hb hx hp2 hb2 hy dx dy tx ty hsz hsz2
end Z4
section
def flo (r:Rat):Int:=r.num / (r.den:Int)
theorem Jr (r:Rat):flo r=r.floor:=by rw [Rat.floor_def];rfl
theorem Ud (r:Rat):(flo r:Rat)≤r:=by rw [Jr];exact Rat.floor_le r
theorem WO (r:Rat):r<(flo r:Rat)+1:=by have:=@Rat.lt_floor r;rw [Jr];grind
theorem Uc {r:Rat} {n:Int} (h1:(n:Rat)≤r) (h2:r<(n:Rat)+1):flo r=n:=by
 have a1:=Ud r
 have a2:=WO r
 have b1:(n:Rat)<(flo r:Rat)+1:=by grind
 have b2:(flo r:Rat)<(n:Rat)+1:=by grind
 have c1:n<flo r+1:=by exact_mod_cast b1
 have c2:flo r<n+1:=by exact_mod_cast b2
 omega
theorem D9 (z:Int) (d:Nat) (hd:0<d):flo ((z:Rat) / ((d:Int):Rat))=z / (d:Int):=by
 have hd':(0:Rat)<((d:Int):Rat):=by exact_mod_cast (show (0:Int)<d by omega)
 have hm:=Int.mul_ediv_add_emod z d
 have h0:=Int.emod_nonneg z (show (d:Int)≠0 by omega)
 have h1:=Int.emod_lt_of_pos z (show (0:Int)<d by omega)
 refine Uc ?_ ?_
 ·rw [← Rat.not_lt,Rat.div_lt_iff hd',Rat.not_lt,← Rat.intCast_mul]
  have:z / (d:Int)*d≤z:=by rw [Int.mul_comm];omega
  exact_mod_cast this
 ·rw [Rat.div_lt_iff hd',← show ((z / (d:Int)+1:Int):Rat)=((z / (d:Int):Int):Rat)+1 by rw [Rat.intCast_add];rfl,← Rat.intCast_mul]
  have:z<(z / (d:Int)+1)*d:=by rw [Int.add_mul,Int.mul_comm];omega
  exact_mod_cast this
end
namespace Rx
open Go.RowKit
def jA:RE→Bool
 | .den _=>true
 | .mul a b=>jA a && jA b
 | .c n=>decide (0<n)
 | _=>false
theorem Fv {β:Nat→Rat}:∀ {e:RE},jA e=true→e.ev β≠0
 | .den a,_=>fun h=>by
  have h1:((((a.ev β).den:Nat):Int):Rat)=((0:Int):Rat):=h
  have h2:(((a.ev β).den:Nat):Int)=0:=by exact_mod_cast h1
  have:=(a.ev β).den_nz
  omega
 | .mul a b,h=>by
  simp only [jA,Bool.and_eq_true] at h
  intro h0
  rcases Rat.mul_eq_zero.1 (show a.ev β*b.ev β=0 from h0) with h1 | h1
  ·exact Fv h.1 h1
  ·exact Fv h.2 h1
 | .c n,h=>fun h0=>by
  simp only [jA,decide_eq_true_eq] at h
  have h1:((n:Int):Rat)=((0:Int):Rat):=h0
  have:n=0:=by exact_mod_cast h1
  omega
 | .v _,h | .add _ _,h | .sub _ _,h | .div _ _,h | .neg _,h | .abs _,h | .flo _,h | .num _,h=>by cases h
theorem vS {β:Nat→Rat}:∀ {e:RE},jA e=true→0<e.ev β
 | .den a,_=>by
  show (0:Rat)<((((a.ev β).den:Nat):Int):Rat)
  exact_mod_cast show (0:Int)<(((a.ev β).den:Nat):Int) by have:=(a.ev β).den_pos;omega
 | .mul a b,h=>by
  simp only [jA,Bool.and_eq_true] at h
  exact Rat.mul_pos (vS h.1) (vS h.2)
 | .c n,h=>by
  simp only [jA,decide_eq_true_eq] at h
  show (0:Rat)<((n:Int):Rat)
  exact_mod_cast h
 | .v _,h | .add _ _,h | .sub _ _,h | .div _ _,h | .neg _,h | .abs _,h | .flo _,h | .num _,h=>by cases h
def rem (e e':RE):RE:=.sub e (.mul e' (.flo (.div e e')))
theorem FK {β:Nat→Rat} {n m:Nat} (hm:0<m) {e e':RE} (h:((n:Nat):Rat)=e.ev β) (h':((m:Nat):Rat)=e'.ev β):((n / m:Nat):Rat)=(RE.flo (.div e e')).ev β:=by
 show _=((flo (e.ev β / e'.ev β):Int):Rat)
 rw [← h,← h',show ((n:Nat):Rat) / ((m:Nat):Rat)=(((n:Nat):Int):Rat) / (((m:Nat):Int):Rat) from rfl,D9 _ _ hm,← Int.natCast_ediv]
 rfl
theorem FQ {β:Nat→Rat} {n m:Nat} (hm:0<m) {e e':RE} (h:((n:Nat):Rat)=e.ev β) (h':((m:Nat):Rat)=e'.ev β):((n % m:Nat):Rat)=(rem e e').ev β:=by
 show _=e.ev β - e'.ev β*(RE.flo (.div e e')).ev β
 rw [← FK hm h h',← h,← h',← Rat.natCast_mul]
 have:=congrArg (fun x:Nat=>(x:Rat)) (Nat.div_add_mod n m)
 simp only [Rat.natCast_add] at this
 grind
end Rx
namespace Rx
open Go.RowKit
inductive Fd
 | l (s:Nat) (e:RE) (k:Nat)
 | z (s:Nat) (e:RE) (k:Nat)
 | r (s:Nat) (e:RE) (k:Nat)
 | n (b s:Nat)
 | i (s:Nat) (e:RE)
def Fd.nm:Fd→List Nat
 | .n b s=>[b,s]
 | .i s _=>[s]
 | .l s _ _ | .z s _ _=>[s]
 | .r s _ _=>[s,s+1]
def IsG (W:World) (v:Value) (r:Rat) (k:Nat):Prop:=∃ xs,Z4.IsL 0 W v xs∧Z4.Dig xs∧Z4.aA xs∧((Z4.val xs:Nat):Rat)=r∧Z4.val xs<B64 ^ k
def IsY (W:World) (v:Value) (r:Rat) (k:Nat):Prop:=∃ z:Int,Z4.IsZ W v z∧(z:Rat)=r∧z.natAbs<B64 ^ k
def Fd.on (β:Nat→Rat) (ρ:Env):Fd→World→Prop
 | .l s e k,W=>IsG W (.slice (ρ s).p (ρ s).l (ρ s).c) (e.ev β) k
 | .z s e k,W=>IsY W (.agg ((zC s).map (Cell.den ρ)).toArray) (e.ev β) k
 | .r s e k,W=>Z4.IsR W (.agg ((aX s).map (Cell.den ρ)).toArray) (e.ev β)∧Fits k (e.ev β)
 | .n b s,_=>(ρ b).u=((ρ s).l:Int)
 | .i s e,_=>(((ρ s).u:Int):Rat)=e.ev β
def iE:List Fd→Nat→Option (RE×Nat)
 | [],_=>none
 | .l s e k :: r,n=>if s=n then some (e,k) else iE r n
 | _ :: r,n=>iE r n
theorem gK {n:Nat} {e:RE} {k:Nat}:∀ {db:List Fd},iE db n=some (e,k)→.l n e k∈db
 | [],h=>by simp [iE] at h
 | f :: r,h=>by
  cases f with
  | l s e' k' =>
   simp only [iE] at h
   split at h
   ·rename_i hs;cases h;subst hs;simp
   ·exact List.mem_cons_of_mem _ (gK h)
  | z _ _ _=>exact List.mem_cons_of_mem _ (gK h)
  | r _ _ _=>exact List.mem_cons_of_mem _ (gK h)
  | n _ _=>exact List.mem_cons_of_mem _ (gK h)
  | i _ _=>exact List.mem_cons_of_mem _ (gK h)
def SR (β:Nat→Rat):Sys where
 F:=Fd
 nm:=Fd.nm
 on:=Fd.on β
 okC:=okC
 cg:=fun {ρ ρ' f W} h hf=>by
  cases f with
  | l s e k=>simp only [Fd.on] at hf ⊢;rw [← h s (by simp [Fd.nm])];exact hf
  | z s e k =>
   simp only [Fd.nm,List.mem_cons,List.not_mem_nil,or_false] at h
   simp only [Fd.on] at hf ⊢
   rwa [jX (ρ:=ρ') (ρ':=ρ) (l:=zC s) fun n hn=>(h n (by simpa [zC,Cell.nm] using hn)).symm]
  | r s e k =>
   simp only [Fd.nm,List.mem_cons,List.not_mem_nil,or_false] at h
   simp only [Fd.on] at hf ⊢
   rwa [jX (ρ:=ρ') (ρ':=ρ) (l:=aX s) fun n hn=>(h n (by simpa [aX,Cell.nm] using hn)).symm]
  | n b t=>simp only [Fd.on] at hf ⊢;rw [← h b (by simp [Fd.nm]),← h t (by simp [Fd.nm])];exact hf
  | i t e=>simp only [Fd.on] at hf ⊢;rw [← h t (by simp [Fd.nm])];exact hf
 bl:=fun {ρ f W W'} hb hf=>by
  cases f with
  | l s e k=>obtain ⟨xs,h1,h2⟩:=hf;exact ⟨xs,h1.below hb,h2⟩
  | z s e k=>obtain ⟨z,h1,h2⟩:=hf;exact ⟨z,h1.below hb,h2⟩
  | r s e k=>exact ⟨Z4.IsR.below hf.1 hb,hf.2⟩
  | n b t=>exact hf
  | i t e=>exact hf
 st:=fun {ρ f W b T cs i u} hok _ hb hf=>by
  have hv:=zN ρ hok
  have hb':Go.Proofs.YtefbfbdijimanaaGreatDoor.Bx W b T (cs.map (Cell.den ρ)):=hb
  cases f with
  | l s e k=>obtain ⟨xs,h1,h2⟩:=hf;exact ⟨xs,h1.setBox hb' hv,h2⟩
  | z s e k=>obtain ⟨z,h1,h2⟩:=hf;exact ⟨z,h1.setBox hb' hv,h2⟩
  | r s e k=>exact ⟨Z4.IsR.setBox hf.1 hb' hv,hf.2⟩
  | n b t=>exact hf
  | i t e=>exact hf
 lit:=fun x b=>if 0<x∧x<10000 then [.l b (.c x) 1] else []
 litOk:=fun {x b f ρ W T} hm h1 h2 h3=>by
  split at hm
  ·rename_i hx
   rw [List.mem_singleton] at hm
   subst hm
   obtain ⟨m,rfl⟩:∃ m:Nat,x=(m:Int):=⟨x.toNat,by omega⟩
   show IsG _ (.slice (ρ b).p (ρ b).l (ρ b).c) _ 1
   rw [h1,h2,h3]
   refine ⟨[m],.inr ⟨W.heap.size,0,1,rfl,Nat.zero_le _,by simp,Nat.le_refl _,fun j hj=>?_⟩,fun y hy=>?_,fun _=>?_,?_,?_⟩
   ·have:j=0:=by simpa using hj
    subst this
    go_simp
   ·rw [List.mem_singleton] at hy;subst hy;show _<10000;omega
   ·simp;omega
   ·simp [Z4.val,RE.ev];rfl
   ·simp [Z4.val];unfold B64;omega
  ·cases hm
 elt:=fun db s j b=>match j,iE db s with
  | 0,some (e,_)=>if jA e then some [.i b (rem e (.c 10000))] else none
  | _,_=>none
 eltOk:=fun {db s j b fs ρ W} h hf=>by
  split at h
  ·rename_i e k hx
   split at h
   ·rename_i hp
    cases h
    obtain ⟨xs,h1,h2,h3,h4,-⟩:=(show IsG W (.slice (ρ s).p (ρ s).l (ρ s).c) (e.ev β) k from hf _ (gK hx))
    have hpos:=vS (β:=β) hp
    rcases h1 with ⟨-,rfl⟩ | ⟨b0,o,k0,hv,-,-,-,h5⟩
    ·exfalso
     rw [← h4] at hpos
     exact absurd hpos (by decide)
    ·obtain ⟨hp1,hp2,-⟩:=Value.slice.inj hv
     cases xs with
     | nil=>exfalso;rw [← h4] at hpos;exact absurd hpos (by decide)
     | cons x r =>
      have hc:=h5 0 (by simp)
      refine ⟨by rw [hp2];simp,_,(x:Int),hp1,by rw [uI];exact hc,fun ρ' _ hu f hm=>?_⟩
      rw [List.mem_singleton] at hm
      subst hm
      show (((ρ' b).u:Int):Rat)=_
      rw [hu]
      have hx1:x<10000:=h2 x (by simp)
      have:=FQ (β:=β) (n:=Z4.val (x :: r)) (m:=10000) (e:=e) (e':=.c 10000) (by decide) h4 rfl
      rw [← this,show Z4.val (x :: r) % 10000=x by show (x+10000*Z4.val r) % 10000=x;omega]
      rfl
   ·cases h
  ·cases h
 len:=fun s b=>[.n b s]
 lenOk:=fun {s b f ρ W} hm h=>by
  rw [List.mem_singleton] at hm
  subst hm
  exact h
def HR (β:Nat→Rat):Tests (SR β) where
 eq:=fun _ _ _=>none
 ok:=fun h=>(by cases h)
theorem je (k:Nat):B64 ^ k≤Z4.B4 ^ (5*k):=by
 rw [Nat.pow_mul]
 exact Nat.pow_le_pow_left (by decide) k
theorem qm {xs:List Nat} {k:Nat} (t:Z4.aA xs) (h:Z4.val xs<B64 ^ k):xs.length≤5*k:=Z4.cO t (Nat.lt_of_lt_of_le h (je k))
def asG (db:List Fd):Cell→Option (RE×Nat)
 | .os s=>iE db s
 | .nils=>some (.c 0,0)
 | _=>none
theorem kX {β:Nat→Rat} {ρ:Env} {W:World} {db:List Fd} {c:Cell} {e:RE} {k:Nat} (h:asG db c=some (e,k)) (hf:∀ f∈db,(SR β).on ρ f W):IsG W (c.den ρ) (e.ev β) k:=by
 unfold asG at h
 split at h
 ·exact hf _ (gK h)
 ·cases h
  exact ⟨[],Z4.IsL.nil 0 W,Z4.Dig.nil,fun h=>absurd rfl h,rfl,by simp [Z4.val]⟩
 ·cases h
section
variable (β:Nat→Rat) (h:Hint)
def CX:Con (SR β) where
 fn:=121
 app:=fun db b args=>match args with
  | [.e (.s x),.e (.s y)]=>match asG db x,asG db y with
   | some (e,k),some (e',k')=>if decide (k≤K1) && decide (k'≤K1) then some (.e (.s (.os b)),[.l b (.add e e') (max k k' + 1)]) else none
   | _,_=>none
  | _=>none
def CU:Con (SR β) where
 fn:=122
 app:=fun db b args=>match args with
  | [.e (.s x),.e (.s y)]=>match asG db x,asG db y with
   | some (e,k),some (e',k')=>if decide (k≤K1) && decide (k'≤K1) && (cmB h e e').any (0≤·) then some (.e (.s (.os b)),[.l b (.sub e e') k]) else none
   | _,_=>none
  | _=>none
def Ci:Con (SR β) where
 fn:=108
 app:=fun db _ args=>match args with
  | [.e (.s x),.e (.s y)]=>match asG db x,asG db y with
   | some (e,k),some (e',k')=>if decide (k≤K1) && decide (k'≤K1) then (match cmB h e e' with
     | some c=>some (.e (.s (.it .i64 c)),[])
     | none=>none) else none
   | _,_=>none
  | _=>none
def Dj:Con (SR β) where
 fn:=86
 app:=fun db _ args=>match args with
  | [.e (.s (.bl t)),.e (.s (.os s))]=>match iE db s with
   | some (e,_)=>if !t then some (.e (.a [.bl false,.os s]),[]) else
     if nzB h e then some (.e (.a [.bl true,.os s]),[]) else
     if eqB h e (.c 0) then some (.e (.a [.bl false,.os s]),[]) else none
   | none=>none
  | _=>none
def cz:List (Con (SR β)):=[CX β,CU β h,Ci β h,Dj β h]
end
section
variable {β:Nat→Rat} {h:Hint}
def Anr (β:Nat→Rat) (ρ:Env) (b:Nat) (W:World) (res:SV) (new:List Fd) (e:Ending) (W':World):Prop:=
 ∃ ρ':Env,(∀ n,n<b∨b+M≤n→ρ' n=ρ n)∧e=.returned (res.den ρ')∧Below W.heap.size W W'∧∀ g∈new,(SR β).on ρ' g W'
theorem Y9 {a b:Nat}:((a:Nat):Rat)<((b:Nat):Rat)↔a<b:=by exact_mod_cast Iff.rfl
theorem H7 {f:FuncId} {vals:Array Value} {W:World} {ρ:Env} {b:Nat} {n:Nat} {e:RE} {k:Nat} (hc:Calls Tryz.prog f vals W (Z4.jH W n)) (hn:((n:Nat):Rat)=e.ev β) (hk:n<B64 ^ k) :
  Calls Tryz.prog f vals W (Anr β ρ b W (.e (.s (.os b))) [.l b e k]):=by
 refine hc.mono fun _ W' ⟨v,ds,he,hl,hd,ht,hv,hb⟩=>?_
 obtain ⟨p,l,c,rfl⟩:=hl.mk
 refine ⟨aF ρ b [⟨false,0,p,l,c,.empty,0,default⟩],fV (by simp [M]),?_,hb,fun g hg=>?_⟩
 ·rw [he];simp [SV.den,El.den,Cell.den,aF]
 ·rw [List.mem_singleton] at hg
  subst hg
  refine ⟨ds,?_,hd,ht,by rw [hv];exact hn,by rw [hv];exact hk⟩
  simpa [aF] using hl.mono (Nat.zero_le _)
theorem QH:(CX β).Ok Tryz.prog (SR β) EV:=by
 refine Con.ok0 rfl ?_
 intro db b args res new ha ρ W hf hE
 simp only [CX] at ha
 split at ha
 ·split at ha
  ·rename_i x y _ _ e k e' k' hx hy
   split at ha
   ·rename_i hk
    simp only [Bool.and_eq_true,decide_eq_true_eq] at hk
    cases ha
    obtain ⟨xs,h1,h2,h3,h4,h5⟩:=kX hx hf
    obtain ⟨ys,g1,g2,g3,g4,g5⟩:=kX hy hf
    refine H7 (e:=.add e e') (Z4.Yj _ _ xs ys W h1 g1 h2 g2 h3 g3 (Nat.le_trans (qm h3 h5) (by simp only [K1] at hk;omega)) (Nat.le_trans (qm g3 g5) (by simp only [K1] at hk;omega))) (by rw [Rat.natCast_add,h4,g4];rfl) ?_
    have a1:=Nat.pow_le_pow_right (show 0<B64 by decide) (Nat.le_max_left k k')
    have a2:=Nat.pow_le_pow_right (show 0<B64 by decide) (Nat.le_max_right k k')
    rw [Nat.pow_succ]
    have:B64 ^ max k k' * 2≤B64 ^ max k k' * B64:=Nat.mul_le_mul_left _ (by decide)
    omega
   ·cases ha
  ·cases ha
 ·cases ha
theorem rG {m n:Nat}:aN ((m:Nat):Rat) ((n:Nat):Rat)=aC m n:=by
 unfold aN aC
 have e:((m:Nat):Rat)=((n:Nat):Rat)↔m=n:=by exact_mod_cast Iff.rfl
 simp only [Y9,e]
theorem Qj {m n:Nat} (h:0≤aC m n):n≤m:=by
 unfold aC at h
 split at h
 ·omega
 ·omega
theorem QE (ok:h.Ok β):(CU β h).Ok Tryz.prog (SR β) EV:=by
 refine Con.ok0 rfl ?_
 intro db b args res new ha ρ W hf hE
 simp only [CU] at ha
 split at ha
 ·split at ha
  ·rename_i x y _ _ e k e' k' hx hy
   split at ha
   ·rename_i hk
    simp only [Bool.and_eq_true,decide_eq_true_eq] at hk
    cases ha
    obtain ⟨xs,h1,h2,h3,h4,h5⟩:=kX hx hf
    obtain ⟨ys,g1,g2,g3,g4,g5⟩:=kX hy hf
    obtain ⟨c,hc,hc0⟩:∃ c,cmB h e e' = some c∧0≤c:=by
     cases hcm:cmB h e e' with
     | none=>rw [hcm] at hk;simp at hk
     | some c=>rw [hcm] at hk;exact ⟨c,rfl,by simpa using hk.2⟩
    have hle:Z4.val ys≤Z4.val xs:=by
     have:=kZ ok hc
     rw [← h4,← g4,rG] at this
     exact Qj (by omega)
    refine H7 (e:=.sub e e') (Z4.qp _ _ xs ys W h1 g1 h2 g2 g3 hle (Nat.le_trans (qm h3 h5) (by simp only [K1] at hk;omega))) ?_ (by omega)
    show _=e.ev β - e'.ev β
    rw [← h4,← g4]
    have:Z4.val xs - Z4.val ys+Z4.val ys=Z4.val xs:=by omega
    have h6:=congrArg (fun n:Nat=>(n:Rat)) this
    simp only [Rat.natCast_add] at h6
    grind
   ·cases ha
  ·cases ha
 ·cases ha
theorem Qr (ok:h.Ok β):(Ci β h).Ok Tryz.prog (SR β) EV:=by
 refine Con.ok0 rfl ?_
 intro db b args res new ha ρ W hf hE
 simp only [Ci] at ha
 split at ha
 ·split at ha
  ·rename_i x y _ _ e k e' k' hx hy
   split at ha
   ·rename_i hk
    simp only [Bool.and_eq_true,decide_eq_true_eq] at hk
    split at ha
    ·rename_i c hc
     cases ha
     obtain ⟨xs,h1,h2,h3,h4,h5⟩:=kX hx hf
     obtain ⟨ys,g1,g2,g3,g4,g5⟩:=kX hy hf
     have hcc:=kZ ok hc
     rw [← h4,← g4,rG] at hcc
     refine (Z4.xg _ _ xs ys W h1 g1 h2 g2 h3 g3 (Nat.le_trans (qm h3 h5) (by simp only [K1] at hk;omega)) (Nat.le_trans (qm g3 g5) (by simp only [K1] at hk;omega))).mono fun _ W' ⟨he,q,hq⟩=>⟨ρ,fun _ _=>rfl,?_,?_,fun g hg=>by cases hg⟩
     ·rw [he,hcc];rfl
     ·subst hq
      exact Z4.dX (Below.refl _ _) q
    ·cases ha
   ·cases ha
  ·cases ha
 ·cases ha
theorem QO (ok:h.Ok β):(Dj β h).Ok Tryz.prog (SR β) EV:=by
 refine Con.ok0 rfl ?_
 intro db b args res new ha ρ W hf hE
 simp only [Dj] at ha
 split at ha
 ·rename_i t s
  split at ha
  ·rename_i e k hx
   obtain ⟨xs,h1,h2,h3,h4,h5⟩:=hf _ (gK hx)
   have hlen:=h1.len
   have hc:=Z4.Nw t (ρ s).p (ρ s).l (ρ s).c W
   have hpos:e.ev β≠0→decide (0<(ρ s).l)=true:=fun hne=>by
    rw [decide_eq_true_eq]
    rcases Nat.eq_zero_or_pos (ρ s).l with h0 | h0
    ·exfalso;apply hne;rw [← h4]
     have:xs=[]:=List.length_eq_zero_iff.1 (by omega)
     subst this;rfl
    ·exact h0
   have hzero:e.ev β=0→decide (0<(ρ s).l)=false:=fun h0=>by
    rw [decide_eq_false_iff_not]
    intro hp
    have hne:xs≠[]:=fun e=>by subst e;simp at hlen;omega
    have:=Z4.mJ h3 hne
    have h6:((Z4.val xs:Nat):Rat)=((0:Nat):Rat):=h4.trans h0
    have:Z4.val xs=0:=by exact_mod_cast h6
    omega
   have hans:∀ x:Bool,(t && decide (0<(ρ s).l))=x→Calls Tryz.prog 86 #[.bool t,.slice (ρ s).p (ρ s).l (ρ s).c] W (Anr β ρ b W (.e (.a [.bl x,.os s])) []):=fun x hx=>by
    refine hc.mono fun _ W' ⟨he,hb⟩=>⟨ρ,fun _ _=>rfl,?_,hb,fun g hg=>by cases hg⟩
    rw [he,hx];rfl
   split at ha
   ·rename_i ht
    cases ha
    exact hans false (by simp at ht;simp [ht])
   ·rename_i ht
    have ht':t=true:=by simpa using ht
    split at ha
    ·rename_i hn
     cases ha
     exact hans true (by rw [ht',hpos (lT ok hn)];rfl)
    ·split at ha
     ·rename_i hn
      cases ha
      exact hans false (by rw [hzero ((kD ok hn).trans rfl)];simp)
     ·cases ha
  ·cases ha
 ·cases ha
theorem DL (ok:h.Ok β):∀ c∈cz β h,c.Ok Tryz.prog (SR β) EV:=by
 unfold cz
 simp only [List.forall_mem_cons,List.not_mem_nil,false_imp_iff,implies_true,and_true]
 exact ⟨QH,QE ok,Qr ok,QO ok⟩
end
end Rx
end Go.Proofs.YtefbfbdijimanaaGreatDoor
