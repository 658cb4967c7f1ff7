/- What the proof rests on, part 36. -/
import Derived.Test.YthalajpklaodkaaGreatDoorQ35
import Derived.Test.YthalajpklaodkaaGreatDoorQ31
import Derived.Test.YthalajpklaodkaaGreatDoorQ32
import Derived.Test.YthalajpklaodkaaGreatDoorQ34
import Derived.Test.YthalajpklaodkaaGreatDoorQ33
import Derived.Test.YthalajpklaodkaaGreatDoorQ28
namespace Go.Proofs.YthalajpklaodkaaGreatDoor
set_option maxRecDepth 100000
set_option maxHeartbeats 80000000
namespace Nm
theorem tri (x:Rat):x<0∨x=0∨0<x:=by
 by_cases h:x<0
 ·exact .inl h
 ·by_cases h':x=0
  ·exact .inr (.inl h')
  ·exact .inr (.inr (by grind))
theorem vk {r:Rat} (h:r<0):aJ r = -r:=by
 unfold aJ
 rw [if_pos ((Rx.MO r).2.2 h)]
theorem nH {r:Rat} (h:0≤r):aJ r=r:=by
 unfold aJ
 rw [if_neg fun hn=>by have:=(Rx.MO r).2.1 hn;grind]
def Lx (a r y:Rat):Prop:=aJ (r - a)<aJ (y - a)∨(aJ (r - a)=aJ (y - a)∧(r.den<y.den∨(r.den=y.den∧r≤y)))
def kG (a:Rat) (m:Int) (r:Rat):Prop:=(r.den:Int)≤m∧∀ y:Rat,(y.den:Int)≤m→Lx a r y
theorem Xx {a r y:Rat} (h:Lx a r y) (k:Lx a y r):r=y:=by
 rcases h with h | ⟨h,h'⟩ <;> rcases k with k | ⟨k,k'⟩
 ·grind
 ·grind
 ·grind
 ·rcases h' with h' | ⟨h',h''⟩ <;> rcases k' with k' | ⟨k',k''⟩
  ·omega
  ·omega
  ·omega
  ·exact Rat.le_antisymm h'' k''
theorem Yt {a:Rat} {m:Int} {r s:Rat} (h:kG a m r) (k:kG a m s):r=s:=Xx (h.2 s k.1) (k.2 r h.1)
theorem Yr {a:Rat} {m:Int} (h:(a.den:Int)≤m):kG a m a:=by
 refine ⟨h,fun y hy=>?_⟩
 unfold Lx
 rw [show a - a=0 by grind,nH (Rat.le_refl)]
 rcases tri (y - a) with h1 | h1 | h1
 ·rw [vk h1];left;grind
 ·obtain rfl:y=a:=by grind
  right;rw [h1,nH (Rat.le_refl)];exact ⟨rfl,.inr ⟨rfl,Rat.le_refl⟩⟩
 ·rw [nH (Rat.le_of_lt h1)];left;exact h1
def pick (a X Y:Rat):Rat:=
 if aJ (X - a)<aJ (Y - a) then X else if aJ (Y - a)<aJ (X - a) then Y else
 if X.den<Y.den then X else if Y.den<X.den then Y else if Y<X then Y else X
theorem AP (a X Y:Rat):(pick a X Y=X∨pick a X Y=Y)∧Lx a (pick a X Y) X∧Lx a (pick a X Y) Y:=by
 unfold pick Lx
 split
 ·rename_i h;exact ⟨.inl rfl,.inr ⟨rfl,.inr ⟨rfl,Rat.le_refl⟩⟩,.inl h⟩
 ·rename_i h1
  split
  ·rename_i h;exact ⟨.inr rfl,.inl h,.inr ⟨rfl,.inr ⟨rfl,Rat.le_refl⟩⟩⟩
  ·rename_i h2
   have he:aJ (X - a)=aJ (Y - a):=by grind
   split
   ·rename_i h;exact ⟨.inl rfl,.inr ⟨rfl,.inr ⟨rfl,Rat.le_refl⟩⟩,.inr ⟨he,.inl h⟩⟩
   ·rename_i h3
    split
    ·rename_i h;exact ⟨.inr rfl,.inr ⟨he.symm,.inl h⟩,.inr ⟨rfl,.inr ⟨rfl,Rat.le_refl⟩⟩⟩
    ·rename_i h4
     have hd:X.den=Y.den:=by omega
     split
     ·rename_i h;exact ⟨.inr rfl,.inr ⟨he.symm,.inr ⟨hd.symm,Rat.le_of_lt h⟩⟩,.inr ⟨rfl,.inr ⟨rfl,Rat.le_refl⟩⟩⟩
     ·rename_i h;exact ⟨.inl rfl,.inr ⟨rfl,.inr ⟨rfl,Rat.le_refl⟩⟩,.inr ⟨he,.inr ⟨hd,by grind⟩⟩⟩
theorem outside {pl ql pr qr u v m:Int} (hl:1≤ql) (hr:1≤qr) (hd:pr*ql - pl*qr=1) (hm:m<ql+qr) (hv:v≤m):u*ql≤pl*v∨pr*v≤u*qr:=by
 rcases Int.lt_or_le (pl*v) (u*ql) with h1 | h1
 ·rcases Int.lt_or_le (u*qr) (pr*v) with h2 | h2
  ·exfalso
   have e:v=ql*(pr*v - u*qr)+qr*(u*ql - pl*v):=by
    have:v=v*(pr*ql - pl*qr):=by rw [hd,Int.mul_one]
    grind
   have m1:=Int.mul_le_mul_of_nonneg_left (show 1≤pr*v - u*qr by omega) (show 0≤ql by omega)
   have m2:=Int.mul_le_mul_of_nonneg_left (show 1≤u*ql - pl*v by omega) (show 0≤qr by omega)
   omega
  ·exact .inr h2
 ·exact .inl h1
theorem zl {p q:Int} (hq:1≤q) {L y:Rat} (hL:L*(q:Rat)=(p:Rat)):(y.num*q≤p*(y.den:Int)→y≤L)∧(p*(y.den:Int)≤y.num*q→L≤y):=by
 have hn:=qR y
 have hd:=vN y
 have hq':(0:Rat)<(q:Rat):=by
  have:((0:Int):Rat)<(q:Rat):=jo.2 (by omega)
  exact this
 have hpos:=Rat.mul_pos hd hq'
 constructor
 ·intro h
  have h1:=jm.2 h
  rw [Rat.intCast_mul,Rat.intCast_mul,← hn,← hL] at h1
  by_cases h2:y≤L
  ·exact h2
  ·have:=Rat.mul_pos (show 0<y - L by grind) hpos
   grind
 ·intro h
  have h1:=jm.2 h
  rw [Rat.intCast_mul,Rat.intCast_mul,← hn,← hL] at h1
  by_cases h2:L≤y
  ·exact h2
  ·have:=Rat.mul_pos (show 0<L - y by grind) hpos
   grind
theorem LK {a L R r y:Rat} (h1:L<a) (h2:a<R) (hl:Lx a r L) (hr:Lx a r R) (hy:y≤L∨R≤y):Lx a r y:=by
 rcases hy with hy | hy
 ·rcases tri (y - L) with h | h | h
  ·left
   rw [vk (show y - a<0 by grind)]
   have:aJ (r - a)≤aJ (L - a):=by rcases hl with h | h <;> grind
   rw [vk (show L - a<0 by grind)] at this
   grind
  ·obtain rfl:y=L:=by grind
   exact hl
  ·grind
 ·rcases tri (y - R) with h | h | h
  ·grind
  ·obtain rfl:y=R:=by grind
   exact hr
  ·left
   rw [nH (show 0≤y - a by grind)]
   have:aJ (r - a)≤aJ (R - a):=by rcases hr with h | h <;> grind
   rw [nH (show 0≤R - a by grind)] at this
   grind
theorem Yq {a X Y:Rat} {m p q sp sq:Int} (hq:1≤q) (hs:1≤sq) (hqm:q≤m) (hsm:sq≤m) (hm:m<q+sq) (hX:X*(q:Rat)=(p:Rat)) (hY:Y*(sq:Rat)=(sp:Rat))
  (hd:(p*sq - sp*q=1∧Y<a∧a<X)∨(p*sq - sp*q = -1∧X<a∧a<Y)):kG a m (pick a X Y):=by
 obtain ⟨hp,px,py⟩:=AP a X Y
 refine ⟨?_,fun y hy=>?_⟩
 ·rcases hp with h | h <;> rw [h]
  ·have:=yO hq hX;omega
  ·have:=yO hs hY;omega
 ·rcases hd with ⟨h1,h2,h3⟩ | ⟨h1,h2,h3⟩
  ·refine LK h2 h3 py px ?_
   rcases outside (pl:=sp) (ql:=sq) (pr:=p) (qr:=q) (u:=y.num) (v:=y.den) hs hq h1 (show m<sq+q by omega) hy with h | h
   ·exact .inl ((zl hs hY).1 h)
   ·exact .inr ((zl hq hX).2 h)
  ·refine LK h2 h3 px py ?_
   rcases outside (pl:=p) (ql:=q) (pr:=sp) (qr:=sq) (u:=y.num) (v:=y.den) hq hs (show sp*q - p*sq=1 by omega) hm hy with h | h
   ·exact .inl ((zl hq hX).1 h)
   ·exact .inr ((zl hs hY).2 h)
theorem Yp {a:Rat} {m:Int} (hf:Fits 4 a) (h1:1≤m) (h2:m<9223372036854775808) (hd:m<(a.den:Int)):∃ (N:Nat) (K X Y:Rat),BR a m N 40 K X Y∧kG a m (pick a X Y):=by
 obtain ⟨N,hu,he⟩:=abn hd h1
 obtain ⟨K,hK,q1,l0,k0,s1,s2,s3,kx⟩:=last h1 h2 hu he
 obtain ⟨c1,c2,c3,c4⟩:=vM a N
 have hc:=hu.ci N (Nat.le_refl _)
 obtain ⟨b1,b2,b3,b4⟩:=wO h1 hu (Nat.le_refl N)
 obtain ⟨f1,f2⟩:=Np hf h1 h2 hu (Nat.le_refl N)
 have fq:Fits 1 ((cz a N).q:Rat):=wz b1 (by omega)
 have flq:Fits 1 ((cz a N).lq:Rat):=wz b3 (by omega)
 have fm:Fits 1 (m:Rat):=wz (by omega) h2
 have q0:((cz a N).q:Rat)≠0:=fun h=>by
  have:=jo.2 (show (0:Int)<(cz a N).q by omega)
  rw [h] at this
  exact Rat.lt_irrefl this
 have s0:((cz a N).lq:Rat)+(K:Rat)*((cz a N).q:Rat)≠0:=fun h=>by
  have:=jo.2 (show (0:Int)<(cz a N).lq+K*(cz a N).q by omega)
  rw [Rat.intCast_add,Rat.intCast_mul,h] at this
  exact Rat.lt_irrefl this
 rw [← c1] at f1
 rw [← c3] at f2
 have fd1:Fits 3 ((m:Rat) - (cv a N).lq):=by rw [c4];exact (fm.minus flq).mono (by decide)
 have fd2:Fits 5 (((m:Rat) - (cv a N).lq) / (cv a N).q):=by rw [c2];exact (fd1.over fq).mono (by decide)
 have fK:Fits 5 (K:Rat):=by rw [hK];exact EP fd2
 rw [← c2] at fq q0
 rw [← c4] at flq
 rw [← c2,← c4] at s0
 have fkp:=fK.mul f1
 have fkq:=fK.mul fq
 have fsp:=f2.plus fkp
 have fsq:=flq.plus fkq
 have fX:=f1.over fq
 have fY:=fsp.over fsq
 refine ⟨N,K,_,_,{
  m1:=h1
  m2:=h2
  hk:=by decide
  den:=Jp hd
  fd:=(Rx.Kz hf).2.mono (by decide)
  fm:=fm.mono (by decide)
  fa:=hf.mono (by decide)
  step:=fun i hi=>step_ok hf h1 h2 hu he hi
  q0:=q0
  d1:=fd1.mono (by decide)
  d2:=fd2.mono (by decide)
  hK:=hK.symm
  fK:=fK.mono (by decide)
  kp:=fkp.mono (by decide)
  kq:=fkq.mono (by decide)
  sp:=fsp.mono (by decide)
  sq:=fsq.mono (by decide)
  s0:=s0
  hX:=rfl
  hY:=rfl
  fX:=fX.mono (by decide)
  fY:=fY.mono (by decide)
  fXa:=(fX.minus hf).mono (by decide)
  fYa:=(fY.minus hf).mono (by decide) },?_⟩
 have hX:(cv a N).p / (cv a N).q*(cv a N).q=(cv a N).p:=Rat.div_mul_cancel q0
 have hY:((cv a N).lp+(K:Rat)*(cv a N).p) / ((cv a N).lq+(K:Rat)*(cv a N).q)*((cv a N).lq+(K:Rat)*(cv a N).q)=(cv a N).lp+(K:Rat)*(cv a N).p:=Rat.div_mul_cancel s0
 generalize (cv a N).p / (cv a N).q=X at *
 generalize ((cv a N).lp+(K:Rat)*(cv a N).p) / ((cv a N).lq+(K:Rat)*(cv a N).q)=Y at *
 rw [c1,c2] at hX
 rw [c1,c2,c3,c4] at hY
 have hY':Y*(((cz a N).lq+K*(cz a N).q:Int):Rat)=(((cz a N).lp+K*(cz a N).p:Int):Rat):=by
  rw [Rat.intCast_add,Rat.intCast_mul,Rat.intCast_add,Rat.intCast_mul];exact hY
 have hqp:(0:Rat)<((cz a N).q:Rat):=by
  have:((0:Int):Rat)<((cz a N).q:Rat):=jo.2 (by omega)
  exact this
 have hsp:(0:Rat)<((cz a N).lq:Rat)+(K:Rat)*((cz a N).q:Rat):=by
  have:=jo.2 (show (0:Int)<(cz a N).lq+K*(cz a N).q by omega)
  rw [Rat.intCast_add,Rat.intCast_mul] at this
  exact this
 have e1:(a - X)*((cz a N).q:Rat)=er a N:=by unfold er;grind
 have e2:(a - Y)*(((cz a N).lq:Rat)+(K:Rat)*((cz a N).q:Rat)) = -((cfr a N - (K:Rat))*er a N):=by
  have h3:=hc.le
  unfold ler at h3
  have h4:er a N=a*((cz a N).q:Rat) - ((cz a N).p:Rat):=rfl
  grind
 refine Yq q1 s1 b2 s2 (by omega) hX hY' ?_
 have hdt:(cz a N).p*((cz a N).lq+K*(cz a N).q) - ((cz a N).lp+K*(cz a N).p)*(cz a N).q=dt a N:=by unfold dt;grind
 rw [hdt]
 have lt_of:∀ {x y:Rat},0<x*y→0<y→0<x:=fun {x y} h1 h2=>by
  by_cases h:0<x
  ·exact h
  ·have:=Rat.mul_nonneg (show 0≤-x by grind) (Rat.le_of_lt h2)
   grind
 rcases hc.det with ⟨g1,g2⟩ | ⟨g1,g2⟩
 ·refine .inl ⟨g1,?_,?_⟩
  ·have:=Rat.mul_pos (show 0<cfr a N - (K:Rat) by grind) (show 0 < -er a N by grind)
   have:=lt_of (x:=a - Y) (by rw [e2];grind) hsp
   grind
  ·have:=lt_of (x:=X - a) (by grind) hqp
   grind
 ·refine .inr ⟨g1,?_,?_⟩
  ·have:=lt_of (x:=a - X) (by rw [e1];exact g2) hqp
   grind
  ·have:=Rat.mul_pos (show 0<cfr a N - (K:Rat) by grind) g2
   have:=lt_of (x:=Y - a) (by grind) hsp
   grind
end Nm
namespace Nm
theorem wF {a r s t:Rat} (h:Lx a r s) (k:Lx a s t):Lx a r t:=by
 rcases h with h | ⟨h,h'⟩ <;> rcases k with k | ⟨k,k'⟩
 ·exact .inl (by grind)
 ·exact .inl (by grind)
 ·exact .inl (by grind)
 ·refine .inr ⟨h.trans k,?_⟩
  rcases h' with h' | ⟨h',h''⟩ <;> rcases k' with k' | ⟨k',k''⟩
  ·exact .inl (by omega)
  ·exact .inl (by omega)
  ·exact .inl (by omega)
  ·exact .inr ⟨by omega,Rat.le_trans h'' k''⟩
def cand (a:Rat) (d:Nat) (k:Int):Rat:=((fl (a*((d:Int):Rat))+k:Int):Rat) / ((d:Int):Rat)
def gB (a:Rat):Nat→Rat
 | 0=>(fl a:Rat)
 | d+1=>pick a (pick a (gB a d) (cand a (d+1) 0)) (cand a (d+1) 1)
theorem Dq (a:Rat) {d:Nat} (hd:1≤d) (k:Int):cand a d k*((d:Int):Rat)=((fl (a*((d:Int):Rat))+k:Int):Rat):=
 Rat.div_mul_cancel (fun h=>by
  have:=jo.2 (show (0:Int)<(d:Int) by omega)
  rw [h] at this
  exact Rat.lt_irrefl this)
theorem Jf (a:Rat) {d:Nat} (hd:1≤d) (k:Int):(cand a d k).den≤d:=by
 have:=yO (q:=(d:Int)) (by omega) (Dq a hd k)
 omega
theorem NH (a:Rat):∀ m:Nat,(gB a m).den≤max 1 m∧∀ d,1≤d→d≤m→Lx a (gB a m) (cand a d 0)∧Lx a (gB a m) (cand a d 1)
 | 0=>⟨by show ((fl a:Rat)).den≤_;rw [Rat.den_intCast];omega,fun d h1 h2=>by omega⟩
 | m+1=>by
  obtain ⟨i1,i2⟩:=NH a m
  obtain ⟨p1,p2,p3⟩:=AP a (gB a m) (cand a (m+1) 0)
  obtain ⟨q1,q2,q3⟩:=AP a (pick a (gB a m) (cand a (m+1) 0)) (cand a (m+1) 1)
  refine ⟨?_,fun d h1 h2=>?_⟩
  ·have c0:=Jf a (show 1≤m+1 by omega) 0
   have c1:=Jf a (show 1≤m+1 by omega) 1
   show (pick a (pick a (gB a m) (cand a (m+1) 0)) (cand a (m+1) 1)).den≤_
   rcases q1 with h | h <;> rw [h]
   ·rcases p1 with h | h <;> rw [h] <;> omega
   ·omega
  ·show Lx a (pick a (pick a (gB a m) (cand a (m+1) 0)) (cand a (m+1) 1)) _∧Lx a (pick a (pick a (gB a m) (cand a (m+1) 0)) (cand a (m+1) 1)) _
   rcases Nat.lt_or_ge m d with h | h
   ·obtain rfl:d=m+1:=by omega
    exact ⟨wF q2 p3,q3⟩
   ·obtain ⟨g1,g2⟩:=i2 d h1 h
    exact ⟨wF q2 (wF p2 g1),wF q2 (wF p2 g2)⟩
theorem LJ {a r c y:Rat} (h:Lx a r c) (k:aJ (c - a)<aJ (y - a)):Lx a r y:=by
 rcases h with h | ⟨h,-⟩
 ·exact .inl (by grind)
 ·exact .inl (by rw [h];exact k)
theorem NI (a:Rat) {m:Nat} (hm:1≤m):kG a (m:Int) (gB a m):=by
 obtain ⟨h1,h2⟩:=NH a m
 refine ⟨by omega,fun y hy=>?_⟩
 have hv:1≤y.den:=y.den_pos
 obtain ⟨c0,c1⟩:=h2 y.den hv (by omega)
 have e0:=Dq a hv 0
 have e1:=Dq a hv 1
 have hn:=qR y
 have hd:=vN y
 have b1:=zf (a*((y.den:Int):Rat))
 have b2:=Ac (a*((y.den:Int):Rat))
 rw [Rat.intCast_add] at e0 e1
 rw [show ((0:Int):Rat)=0 from rfl] at e0
 rw [show ((1:Int):Rat)=1 from rfl] at e1
 generalize fl (a*((y.den:Int):Rat))=x at *
 generalize cand a y.den 0=C at *
 generalize cand a y.den 1=D at *
 generalize ((y.den:Int):Rat)=v at *
 have le_of:∀ {s t:Rat},s*v≤t*v→s≤t:=fun {s t} h=>by
  by_cases h':s≤t
  ·exact h'
  ·have:=Rat.mul_pos (show 0<s - t by grind) hd
   grind
 have lt_of:∀ {s t:Rat},s*v<t*v→s<t:=fun {s t} h=>by
  by_cases h':s<t
  ·exact h'
  ·have:=Rat.mul_nonneg (show 0≤s - t by grind) (Rat.le_of_lt hd)
   grind
 have hC:C≤a:=le_of (by rw [e0];grind)
 have hD:a<D:=lt_of (by rw [e1];grind)
 rcases Int.lt_or_le x y.num with h | h
 ·have h3:D≤y:=le_of (by
   rw [e1,hn]
   have:=jm.2 (show x+1≤y.num by omega)
   rw [Rat.intCast_add,show ((1:Int):Rat)=1 from rfl] at this
   exact this)
  by_cases h4:D=y
  ·rw [← h4];exact c1
  ·refine LJ c1 ?_
   rw [nH (show 0≤D - a by grind),nH (show 0≤y - a by grind)]
   have:=Rat.lt_of_le_of_ne h3 h4
   grind
 ·have h3:y≤C:=le_of (by
   rw [e0,hn]
   have:=jm.2 h
   grind)
  by_cases h4:y=C
  ·rw [h4];exact c0
  ·have h5:=Rat.lt_of_le_of_ne h3 h4
   refine LJ c0 ?_
   rw [vk (show y - a<0 by grind)]
   by_cases h6:C<a
   ·rw [vk (show C - a<0 by grind)];grind
   ·rw [nH (show 0≤C - a by grind)];grind
end Nm
namespace Nm
open Go.RowKit Rx
abbrev dX:RE:=.abs (.sub y1 y0)
abbrev dY:RE:=.abs (.sub y2 y0)
def pkV (o o2 o3:Int):Int:=if o=0 then (if o2=0 then o3 else o2) else o
def pkE (o o2 o3:Int):RE:=if 0<pkV o o2 o3 then y2 else y1
def pkH (o o2 o3:Int):Hint:={ cm:=[(dX,dY,o),(.den y1,.den y2,o2),(y1,y2,o3)] }
def cNr (β:Nat→Rat) (h:Hint):List (Con (SQ β)):=vJ β 40 .den id :: cq β h
theorem Je {β:Nat→Rat} {h:Hint} (ok:h.Ok β):∀ c∈cNr β h,c.Ok Tryz.prog (SQ β) EV:=by
 unfold cNr
 simp only [List.forall_mem_cons]
 exact ⟨Dy fun e k v W _ h1 h2 _=>⟨Ig _ v W h1,(Kz h2).2⟩,yK ok⟩
theorem Yw (β:Nat→Rat):(i3.all fun o=>i3.all fun o2=>i3.all fun o3=>isQ (pkE o o2 o3) (aN Tryz.prog (SQ β) (HQ β {} (aV β)) (cNr β (pkH o o2 o3)) 1 122 (rX [[.q],[.q],[.q]] 0) (iy Q3 0 (vars K1 0 3)) 6))=true:=by kernel_rfl
theorem Ro {X Y:Rat}:aF (((X.den:Nat):Int):Rat) (((Y.den:Nat):Int):Rat)=if X.den<Y.den then -1 else if X.den=Y.den then 0 else 1:=by
 by_cases h:X.den<Y.den
 ·rw [if_pos h];exact sG.2 (jo.2 (by omega))
 ·rw [if_neg h]
  by_cases h':X.den=Y.den
  ·rw [if_pos h'];exact sJ.2 (by rw [h'])
  ·rw [if_neg h'];exact sF.2 (jo.2 (by omega))
theorem Nj (A X Y:Rat):(pkE (aF (aJ (X - A)) (aJ (Y - A))) (aF (((X.den:Nat):Int):Rat) (((Y.den:Nat):Int):Rat)) (aF X Y)).ev (bet [A,X,Y])=pick A X Y:=by
 unfold pick pkE pkV
 rcases tri (aJ (X - A) - aJ (Y - A)) with h | h | h
 ·rw [sG.2 (show aJ (X - A)<aJ (Y - A) by grind),if_pos (show aJ (X - A)<aJ (Y - A) by grind)];rfl
 ·rw [sJ.2 (show aJ (X - A)=aJ (Y - A) by grind),if_neg (show ¬ aJ (X - A)<aJ (Y - A) by grind),if_neg (show ¬ aJ (Y - A)<aJ (X - A) by grind),if_pos rfl,Ro]
  by_cases h1:X.den<Y.den
  ·rw [if_pos h1,if_pos h1];rfl
  ·rw [if_neg h1,if_neg h1]
   by_cases h2:X.den=Y.den
   ·rw [if_pos h2,if_pos rfl,if_neg (show ¬ Y.den<X.den by omega)]
    rcases tri (X - Y) with h3 | h3 | h3
    ·rw [sG.2 (show X<Y by grind),if_neg (show ¬ Y<X by grind)];rfl
    ·rw [sJ.2 (show X=Y by grind),if_neg (show ¬ Y<X by grind)];rfl
    ·rw [sF.2 (show Y<X by grind),if_pos (show Y<X by grind)];rfl
   ·rw [if_neg h2,if_pos (show Y.den<X.den by omega)];rfl
 ·rw [sF.2 (show aJ (Y - A)<aJ (X - A) by grind),if_neg (show ¬ aJ (X - A)<aJ (Y - A) by grind),if_pos (show aJ (Y - A)<aJ (X - A) by grind)];rfl
theorem Yv {A X Y:Rat} {va vx vy:Value} {w:World} (h0:IsQ w va A) (h1:IsQ w vx X) (h2:IsQ w vy Y) (f0:Fits K1 A) (f1:Fits K1 X) (f2:Fits K1 Y) (hE:EV w):Calls Tryz.prog 122 #[va,vx,vy] w (aY w (pick A X Y)):=by
 obtain ⟨c0,d0,rfl⟩:=ku h0
 obtain ⟨c1,d1,rfl⟩:=ku h1
 obtain ⟨c2,d2,rfl⟩:=ku h2
 rw [← Nj]
 have hr:=List.all_eq_true.1 (List.all_eq_true.1 (List.all_eq_true.1 (Yw (bet [A,X,Y])) (aF (aJ (X - A)) (aJ (Y - A))) (mem3 (nP _ _))) (aF (((X.den:Nat):Int):Rat) (((Y.den:Nat):Int):Rat)) (mem3 (nP _ _))) (aF X Y) (mem3 (nP _ _))
 have ok:Hint.Ok (bet [A,X,Y]) (pkH (aF (aJ (X - A)) (aJ (Y - A))) (aF (((X.den:Nat):Int):Rat) (((Y.den:Nat):Int):Rat)) (aF X Y)):=by
  refine ⟨fun p h=>(by cases h),fun p h=>(by cases h),fun p h=>(by cases h),fun p h=>(by cases h),?_⟩
  simp only [pkH,List.forall_mem_cons,List.not_mem_nil,false_imp_iff,implies_true,and_true]
  exact ⟨rfl,rfl,rfl⟩
 have hg:∀ g∈iy Q3 0 (vars K1 0 3),(SQ (bet [A,X,Y])).on (ev [c0,d0,c1,d1,c2,d2]) g w:=by
  show ∀ g∈[Rx.Fc.q 0 y0 K1,.q 2 y1 K1,.q 4 y2 K1],Rx.Fc.on (bet [A,X,Y]) (ev [c0,d0,c1,d1,c2,d2]) g w
  simp only [List.forall_mem_cons,List.not_mem_nil,false_imp_iff,implies_true,and_true]
  exact ⟨⟨h0,f0⟩,⟨h1,f1⟩,⟨h2,f2⟩⟩
 have he:(List.map (SV.den (ev [c0,d0,c1,d1,c2,d2])) (rX [[.q],[.q],[.q]] 0)).toArray=#[qv c0 d0,qv c1 d1,qv c2 d2]:=rfl
 rw [← he]
 generalize aF (aJ (X - A)) (aJ (Y - A))=o at *
 generalize aF (((X.den:Nat):Int):Rat) (((Y.den:Nat):Int):Rat)=o2 at *
 generalize aF X Y=o3 at *
 have hc:=Je ok
 exact aak hc hr hE hg
end Nm
namespace Nm
open Go.RowKit Rx
def nhT:Ari:={ gt:=[(.c 1,.v 1,false)] }
def Fe (e:RE):Option (SV×List Rx.Fc)→Bool
 | some (.t [.a cs,.s (.it .i64 0)],fs)=>match dD fs cs with
  | some (e',_)=>e'.beq e
  | none=>false
 | _=>false
theorem WS {e:RE} {o:Option (SV×List Rx.Fc)} (h:Fe e o=true):∃ cs fs k,o=some (.t [.a cs,.s (.it .i64 0)],fs)∧dD fs cs=some (e,k):=by
 unfold Fe at h
 split at h
 ·split at h
  ·rename_i cs fs _ e' k ha
   exact ⟨cs,fs,k,rfl,by rw [ha,RE.beq_eq h]⟩
  ·cases h
 ·cases h
def nhC (β:Nat→Rat) (c:Int):List (Con (SQ β)):=zF β :: cNr β { cm:=[(.den (.v 0),.v 1,c)] }
theorem Yo (β:Nat→Rat) (ok:nhT.Ok β):([-1,0].all fun c=>Fe (.v 0) (aN Tryz.prog (SQ β) (HAr β {} (aV β) nhT ok) (nhC β c) 1 48 [.e (.a (aK 0)),.e (.s (.oi 2))] [.q 0 (.v 0) 4,.i 2 (.v 1)] 3))=true:=by kernel_rfl
theorem Yn {a:Rat} {m c:Int} {v:Value} {w:World} (h:IsQ w v a) (hE:EV w) (m1:1≤m) (m2:m<9223372036854775808) (hf:Fits 4 a) (hc:aF (((a.den:Nat):Int):Rat) (m:Rat)=c) (hc0:c = -1∨c=0) :
  Calls Tryz.prog 48 #[v,.int .i64 m] w (cO w a 0):=by
 obtain ⟨x,y,rfl⟩:=ku h
 have okT:nhT.Ok (bet [a,(m:Rat)]):=⟨fun p h=>(by cases h),fun p h=>(by cases h),fun p hp x y hx hy=>by
  obtain rfl:=List.mem_singleton.1 hp
  obtain rfl:x=1:=intCast_inj hx
  obtain rfl:y=m:=intCast_inj hy
  exact decide_eq_false (by omega)⟩
 have ok:Hint.Ok (bet [a,(m:Rat)]) { cm:=[(.den (.v 0),.v 1,c)] }:=⟨fun p h=>(by cases h),fun p h=>(by cases h),fun p h=>(by cases h),fun p h=>(by cases h),fun p hp=>by
  obtain rfl:=List.mem_singleton.1 hp
  exact hc⟩
 obtain ⟨cs,fs,k,heq,ha⟩:=WS (List.all_eq_true.1 (Yo _ okT) c (by rcases hc0 with rfl | rfl <;> decide))
 have hg:∀ g∈[Rx.Fc.q 0 (.v 0) 4,.i 2 (.v 1)],Rx.Fc.on (bet [a,(m:Rat)]) (ev [x,y,nu m]) g w:=by
  simp only [List.forall_mem_cons,List.not_mem_nil,false_imp_iff,implies_true,and_true]
  exact ⟨⟨h,hf⟩,⟨by show _≤m;omega,by show m≤_;omega,rfl⟩⟩
 have he:(List.map (SV.den (ev [x,y,nu m])) [.e (.a (aK 0)),.e (.s (.oi 2))]).toArray=#[qv x y,.int .i64 m]:=rfl
 have hcc:∀ c'∈nhC (bet [a,(m:Rat)]) c,c'.Ok Tryz.prog (SQ _) EV:=by
  unfold nhC
  simp only [List.forall_mem_cons]
  exact ⟨V4,Je ok⟩
 rw [← he]
 exact (dJ mixed hcc heq (bg hE) hg).mono fun _ W' ⟨ρ',_,hx,hb,hfs⟩=>⟨_,hx,(eY ha hfs).1.1,hb⟩
end Nm
namespace Nm
open Go.RowKit Rx
open Classical in
noncomputable def oW (a:Rat) (m:Int):Rat:=if h:∃ r,kG a m r then Classical.choose h else 0
theorem Ar {a:Rat} {m:Int} {r:Rat} (h:kG a m r):oW a m=r:=by
 have h0:∃ r,kG a m r:=⟨r,h⟩
 unfold oW
 rw [dif_pos h0]
 exact Yt (Classical.choose_spec h0) h
theorem FN {a:Rat} {m:Int} (hf:Fits 4 a) (h1:1≤m) (h2:m<9223372036854775808):kG a m (oW a m)∧Fits 40 (oW a m)∧∀ v w,IsQ w v a→EV w→Calls Tryz.prog 48 #[v,.int .i64 m] w (cO w (oW a m) 0):=by
 by_cases hd:m<(a.den:Int)
 ·obtain ⟨N,K,X,Y,hH,hp⟩:=Yp hf h1 h2 hd
  rw [Ar hp]
  refine ⟨hp,?_,fun v w h hE=>?_⟩
  ·rcases (AP a X Y).1 with h | h <;> rw [h]
   ·exact hH.fX
   ·exact hH.fY
  ·exact MK a m N 40 K X Y v w h hE.tz hH _ fun W va vx vy hB i0 i1 i2=>Yv i0 i1 i2 (hf.mono (show 4≤1048576 by omega)) (hH.fX.mono (show 40≤1048576 by omega)) (hH.fY.mono (show 40≤1048576 by omega)) (bg hE _ hB)
 ·have hs:=Yr (a:=a) (m:=m) (by omega)
  rw [Ar hs]
  refine ⟨hs,hf.mono (by decide),fun v w h hE=>Yn h hE h1 h2 hf rfl ?_⟩
  have:=Jq (x:=(a.den:Int)) (y:=m) (by omega)
  rcases nP (((a.den:Nat):Int):Rat) (m:Rat) with h | h | h
  ·exact .inl h
  ·exact .inr h
  ·exfalso
   have h':aF (((a.den:Nat):Int):Rat) (m:Rat)≤0:=this
   omega
end Nm
namespace Nm
open Go.RowKit Rx
theorem Dx (x y:Rat):aF x y = -aF y x:=by
 rcases tri (x - y) with h | h | h
 ·rw [sG.2 (show x<y by grind),sF.2 (show x<y by grind)]
 ·rw [sJ.2 (show x=y by grind),sJ.2 (show y=x by grind)];rfl
 ·rw [sF.2 (show y<x by grind),sG.2 (show y<x by grind)];rfl
abbrev T3:=Int×Int×Int
def nt (o o2 o3:Int):T3:=(o,if o=0 then o2 else 0,if o=0 then (if o2=0 then o3 else 0) else 0)
def T7:List T3:=[(-1,0,0),(1,0,0),(0,-1,0),(0,1,0),(0,0,-1),(0,0,0),(0,0,1)]
theorem YQ {o o2 o3:Int} (h:o = -1∨o=0∨o=1) (h2:o2 = -1∨o2=0∨o2=1) (h3:o3 = -1∨o3=0∨o3=1):nt o o2 o3∈T7:=by
 rcases h with rfl | rfl | rfl <;> rcases h2 with rfl | rfl | rfl <;> rcases h3 with rfl | rfl | rfl <;> decide
def less (t:T3):Bool:=decide (pkV t.1 t.2.1 t.2.2<0)
theorem Xn (o o2 o3:Int):less (nt o o2 o3)=decide (pkV o o2 o3<0):=by
 unfold less nt pkV
 by_cases h:o=0
 ·subst h
  by_cases h2:o2=0
  ·subst h2;rfl
  ·simp [h2]
 ·simp [h]
theorem Y9 (o o2 o3:Int):pkV (-o) (-o2) (-o3) = -pkV o o2 o3:=by
 unfold pkV
 by_cases h:o=0
 ·subst h
  by_cases h2:o2=0
  ·subst h2;rfl
  ·rw [if_pos (by rfl),if_neg (by omega),if_pos rfl,if_neg h2]
 ·rw [if_neg (by omega),if_neg h]
def tst (a Y X:Rat):T3:=nt (aF (aJ (Y - a)) (aJ (X - a))) (aF (((Y.den:Nat):Int):Rat) (((X.den:Nat):Int):Rat)) (aF Y X)
theorem OY (a Y X:Rat):tst a Y X∈T7:=YQ (nP _ _) (nP _ _) (nP _ _)
theorem Nh (a X Y:Rat):pick a X Y=if less (tst a Y X) then Y else X:=by
 rw [← Nj a X Y,tst,Xn,Dx (aJ (Y - a)),Dx (((Y.den:Nat):Int):Rat),Dx Y,Y9]
 unfold pkE
 by_cases h:0<pkV (aF (aJ (X - a)) (aJ (Y - a))) (aF (((X.den:Nat):Int):Rat) (((Y.den:Nat):Int):Rat)) (aF X Y)
 ·rw [if_pos h,if_pos (decide_eq_true (by omega))];rfl
 ·rw [if_neg h,if_neg (by simp only [decide_eq_true_eq];omega)];rfl
theorem Zt {a:Rat} (hf:Fits 4 a) {d:Nat} (hd:d<9223372036854775808):Fits 40 (gB a d):=by
 rcases Nat.eq_zero_or_pos d with h | h
 ·subst h
  exact (EP hf).mono (by decide)
 ·have h1:=FN (a:=a) (m:=(d:Int)) hf (by omega) (by omega)
  rw [← Ar (NI a h)]
  exact h1.2.1
theorem Zu {a:Rat} {m:Nat} (hm:1≤m):gB a m=oW a (m:Int):=(Ar (NI a hm)).symm
abbrev dE (e:RE):RE:=.abs (.sub e (.v 0))
abbrev yE (k:Int):RE:=.div (.add (.flo (.mul (.v 0) (.v 2))) (.c k)) (.v 2)
def cmL (x y:RE) (t:T3):List (RE×RE×Int):=(dE x,dE y,t.1) :: (if t.1=0 then (.den x,.den y,t.2.1) :: (if t.2.1=0 then [(x,y,t.2.2)] else []) else [])
theorem Jh {β:Nat→Rat} (x y:RE):∀ p∈cmL x y (tst (β 0) (x.ev β) (y.ev β)),aF (p.1.ev β) (p.2.1.ev β)=p.2.2:=by
 intro p hp
 unfold cmL tst nt at hp
 rcases List.mem_cons.1 hp with rfl | hp
 ·rfl
 ·dsimp only at hp
  split at hp
  ·rename_i h
   rcases List.mem_cons.1 hp with rfl | hp
   ·rfl
   ·split at hp
    ·obtain rfl:=List.mem_singleton.1 hp
     rfl
    ·cases hp
  ·cases hp
abbrev bE (t:T3):RE:=if less t then yE 0 else .v 1
def fE (t t':T3):RE:=if less t' then yE 1 else bE t
def nrH (t t':T3):Hint:={ nz:=[.v 2],cm:=cmL (yE 0) (.v 1) t ++ cmL (yE 1) (bE t) t' }
abbrev nrB (a:Rat) (m j:Nat):Nat→Rat:=bet [a,gB a j,(((j+1:Nat):Int):Rat),((m:Int):Rat),(((j+2:Nat):Int):Rat)]
theorem BK (a:Rat) (m j:Nat) (k:Int):(yE k).ev (nrB a m j)=cand a (j+1) k:=by
 unfold cand
 rw [Rat.intCast_add]
 rfl
abbrev t0 (a:Rat) (j:Nat):T3:=tst a (cand a (j+1) 0) (gB a j)
abbrev t1 (a:Rat) (j:Nat):T3:=tst a (cand a (j+1) 1) (pick a (gB a j) (cand a (j+1) 0))
theorem I9 (a:Rat) (m j:Nat):(bE (t0 a j)).ev (nrB a m j)=pick a (gB a j) (cand a (j+1) 0):=by
 rw [Nh,bE]
 split
 ·exact BK a m j 0
 ·rfl
theorem UD (a:Rat) (m j:Nat):(fE (t0 a j) (t1 a j)).ev (nrB a m j)=gB a (j+1):=by
 show _=pick a (pick a (gB a j) (cand a (j+1) 0)) (cand a (j+1) 1)
 rw [Nh a (pick a (gB a j) (cand a (j+1) 0)),fE]
 split
 ·exact BK a m j 1
 ·exact I9 a m j
theorem YG (a:Rat) (m j:Nat):(nrH (t0 a j) (t1 a j)).Ok (nrB a m j):=by
 refine ⟨fun p h=>(by cases h),fun p h=>(by cases h),fun p hp=>?_,fun p h=>(by cases h),fun p hp=>?_⟩
 ·obtain rfl:=List.mem_singleton.1 hp
  show (((j+1:Nat):Int):Rat)≠0
  intro h
  have h0:((j+1:Nat):Int)=0:=intCast_inj h
  omega
 ·rcases List.mem_append.1 hp with hp | hp
  ·have h:=Jh (β:=nrB a m j) (yE 0) (.v 1)
   rw [BK] at h
   exact h p hp
  ·have h:=Jh (β:=nrB a m j) (yE 1) (bE (t0 a j))
   rw [BK,I9] at h
   exact h p hp
end Nm
namespace Rx
open Go.RowKit
def nf0 (fn:Func):Code:=match fn.body with | some (.seq a _)=>a | _=>.skip
def nf1 (fn:Func):Code:=match fn.body with | some (.seq _ (.seq a _))=>a | _=>.skip
def nf2 (fn:Func):Code:=match fn.body with | some (.seq _ (.seq _ (.seq (.seq a _) _)))=>a | _=>.skip
def nfB (fn:Func):Code:=match fn.body with | some (.seq _ (.seq _ (.seq (.seq _ (.block _ (.loop b))) _)))=>b | _=>.skip
def nfR (fn:Func):Code:=match fn.body with | some (.seq _ (.seq _ (.seq _ r)))=>r | _=>.skip
def oh:Fc→Fc→Bool
 | .r s e k,.r s' e' k'=>s == s' && e.beq e' && k == k'
 | .i s e,.i s' e'=>s == s' && e.beq e'
 | _,_=>false
theorem J5 {a b:Fc} (h:oh a b=true):a=b:=by
 unfold oh at h
 split at h
 ·simp only [Bool.and_eq_true,beq_iff_eq] at h
  rw [h.1.1,RE.beq_eq h.1.2,h.2]
 ·simp only [Bool.and_eq_true,beq_iff_eq] at h
  rw [h.1,RE.beq_eq h.2]
 ·cases h
def um (e:RE) (k:Nat) (v:SV) (fs:List Fc):Bool:=match v with
 | .e (.a cs)=>match iK fs cs with
  | some (e',k')=>e'.beq e && decide (k'≤k)
  | none=>false
 | _=>false
theorem Fj {β:Nat→Rat} {e:RE} {k:Nat} {v:SV} {fs:List Fc} {ρ:Env} {W:World} (h:um e k v fs=true) (hf:∀ f∈fs,(SQ β).on ρ f W):Z4.IsR W (v.den ρ) (e.ev β):=by
 unfold um at h
 split at h
 ·split at h
  ·rename_i e' k' hx
   simp only [Bool.and_eq_true] at h
   rw [← RE.beq_eq h.1]
   exact (jd hx hf).1
  ·cases h
 ·cases h
def nrT (more:Bool):Ari:={ gt:=[(.v 2,.v 3,!more)] }
def nrL (more:Bool):List (RE×RE):=if more then [(.v 2,.v 4)] else []
theorem YI {a:Rat} {m j:Nat} {more:Bool} (h:more=decide (j<m)):(nrT more).Ok (Nm.nrB a m j):=by
 subst h
 refine ⟨fun p h=>(by cases h),fun p h=>(by cases h),fun p hp x y hx hy=>?_⟩
 obtain rfl:=List.mem_singleton.1 hp
 obtain rfl:x=((j+1:Nat):Int):=intCast_inj hx
 obtain rfl:y=(m:Int):=intCast_inj hy
 show decide (((j+1:Nat):Int) > (m:Int)) = !decide (j<m)
 rw [← decide_not]
 exact decide_eq_decide.2 (by omega)
theorem YH {a:Rat} {m j:Nat} (hm:m≤60) {more:Bool} (h:more=decide (j<m)):jG (Nm.nrB a m j) (nrL more):=by
 subst h
 intro p hp x hx
 by_cases hj:j<m
 ·rw [decide_eq_true hj] at hp
  obtain rfl:=List.mem_singleton.1 hp
  obtain rfl:x=((j+1:Nat):Int):=intCast_inj hx
  exact ⟨by omega,by omega,rfl⟩
 ·rw [decide_eq_false hj] at hp
  cases hp
def nrC (β:Nat→Rat) (h:Hint):List (Con (SQ β)):=yC β :: Ei β :: Eo β :: DZ β h :: Ej β h :: Em β :: yG β :: zG β :: c1 β h
theorem YF {β:Nat→Rat} {h:Hint} (ok:h.Ok β):∀ c∈nrC β h,c.Ok Tryz.prog (SQ β) EV:=by
 unfold nrC
 simp only [List.forall_mem_cons]
 exact ⟨JA,SH,SN,RZ ok,SK ok,SL,JD,V7,xY ok⟩
noncomputable abbrev fnN:Func:=Tryz.f50
abbrev tRQ:TypeId:=37
def nrP:Pat:=[none,some (.oi 2),some (.ptr 6 0),none,some (.ptr 7 0),some (.ptr 8 0),some (.oi 900)] ++ List.replicate 67 none
abbrev rz4:List Cell:=[.bl false,.nils,.bl false,.nils]
def nrX:List (Nat×TypeId×List Cell):=[(6,tRQ,aT 0),(7,tRQ,rz4),(8,tRQ,aT 4)]
def nrF:List Fc:=[.r 0 (.v 0) 4,.i 2 (.v 3),.r 4 (.v 1) 40,.i 900 (.v 2)]
def FQ:Nat→Option Nat
 | 0=>some 0 | 1=>some 1 | 2=>some 2 | 4=>some 259 | 5=>some 260 | 6=>some 3 | 7=>some 67 | 8=>some 323 | _=>none
def ML:List Fc:=[.r 0 (.v 0) 4,.i 2 (.v 3),.r 259 (.flo (.v 0)) 4]
def nb1 (t:Nm.T3):Nat:=bif Nm.less t then 5061 else 4933
def nbb (t t':Nm.T3):Nat:=bif Nm.less t' then nb1 t+512 else bif Nm.less t then 2117 else 4
def nbd (t t':Nm.T3):Nat:=nb1 t+3520+bif Nm.less t' then 128 else 0
def nbk (t t':Nm.T3):Nat:=bif Nm.less t' || Nm.less t then 6 else 40
def nrm (t t':Nm.T3):Nat→Option Nat
 | 0=>some 0 | 1=>some 1 | 2=>some 2 | 4=>some (nbb t t') | 5=>some (nbb t t' + 1) | 6=>some 6 | 7=>some 7 | 8=>some 8 | 900=>some (nbd t t') | _=>none
def nrn (t t':Nm.T3):List Fc:=[.r 0 (.v 0) 4,.i 2 (.v 3),.r (nbb t t') (Nm.fE t t') (nbk t t'),.i (nbd t t') (.v 4)]
section
variable (β:Nat→Rat)
theorem FP (more:Bool) (ok:(nrT more).Ok β) (okL:jG β (nrL more)) (h:Hint):kW (SQ β) [.e (.a (aT 0)),.e (.s (.oi 2))] [.r 0 (.v 0) 4,.i 2 (.v 3)] 3=true ∧
  okR (S:=SQ β) oh nrP nrX FQ ML (mQ Tryz.prog (SQ β) (HAi β {} (aV β) (nrT more) ok (nrL more) okL) (nrC β h) [nf0 fnN,nf1 fnN,nf2 fnN] ⟨[.e (.a (aT 0)),.e (.s (.oi 2))] ++ List.replicate (fnN.ntmps - [SV.e (.a (aT 0)),SV.e (.s (.oi 2))].length) .und,[],[.r 0 (.v 0) 4,.i 2 (.v 3)],3⟩)=true∧wfB (SQ β) nrP nrX nrF 901=true:=⟨by kernel_rfl,by kernel_rfl,by kernel_rfl⟩
def vP (k:Nat) (e:RE):Option (SV×List Fc)→Bool
 | some (v,fs)=>um e k v fs
 | none=>false
theorem EH {k:Nat} {e:RE} {o:Option (SV×List Fc)} (h:vP k e o=true):∃ v fs,o=some (v,fs)∧um e k v fs=true:=by
 unfold vP at h
 split at h
 ·exact ⟨_,_,rfl,h⟩
 ·cases h
theorem YJ {more:Bool} (hm:more=false) (ok:(nrT more).Ok β) (okL:jG β (nrL more)) (h:Hint) (u:Nat→Value):vP 40 (.v 1) (nZ Tryz.prog (SQ β) (HAi β {} (aV β) (nrT more) ok (nrL more) okL) (nrC β h) (nfB fnN) (nfR fnN) fnN ⟨bV nrP u 0,nrX,nrF,901⟩)=true:=by
 subst hm
 kernel_rfl
noncomputable def nrR (t t':Nm.T3) (more:Bool) (ok:(nrT more).Ok β) (okL:jG β (nrL more)) (u:Nat→Value):Bool:=okR (S:=SQ β) oh nrP nrX (nrm t t') (nrn t t') (exec Tryz.prog (SQ β) (HAi β {} (aV β) (nrT more) ok (nrL more) okL) (nrC β (Nm.nrH t t')) 4 (nfB fnN) ⟨bV nrP u 0,nrX,nrF,901⟩)
theorem YK {more:Bool} (hm:more=true) (ok:(nrT more).Ok β) (okL:jG β (nrL more)) (u:Nat→Value):(Nm.T7.all fun t=>Nm.T7.all fun t'=>nrR β t t' more ok okL u)=true:=by
 subst hm
 kernel_rfl
end
theorem ZK {a:Rat} {m:Int} {v:Value} {w:World} (h:Z4.IsR w v a) (hf:Fits 4 a) (h1:1≤m) (h2:m≤60) (hE:EV w):Calls Tryz.prog 50 #[v,.int .i64 m] w (Z4.dW w (Nm.oW a m)):=by
 obtain ⟨n,rfl⟩:∃ n:Nat,m=(n:Int):=⟨m.toNat,by omega⟩
 rw [← Nm.Zu (by omega)]
 obtain ⟨c,d,rfl⟩:=mP h
 have hc:fnN.body=some ((nf0 fnN).seq ((nf1 fnN).seq (((nf2 fnN).seq (.block 0 (.loop (nfB fnN)))).seq (nfR fnN)))):=by kernel_rfl
 have okT:∀ j,(nrT (decide (j<n))).Ok (Nm.nrB a n j):=fun j=>YI rfl
 have okL:∀ j,jG (Nm.nrB a n j) (nrL (decide (j<n))):=fun j=>YH (by omega) rfl
 refine KF (Sj:=fun j=>SQ (Nm.nrB a n j)) (eqF:=fun _=>oh) (Hj:=fun j=>HAi (Nm.nrB a n j) {} (aV _) (nrT (decide (j<n))) (okT j) (nrL (decide (j<n))) (okL j)) (cj:=fun j=>nrC (Nm.nrB a n j) (Nm.nrH (Nm.t0 a j) (Nm.t1 a j))) (E:=EV) (n:=n) (fu:=4)
  (args:=[.e (.a (aT 0)),.e (.s (.oi 2))]) (fs0:=[.r 0 (.v 0) 4,.i 2 (.v 3)]) (b:=3) (p:=nrP) (bx:=fun _=>nrX) (fs:=fun _=>nrF) (base:=901) (m0:=FQ) (m1:=fun j=>nrm (Nm.t0 a j) (Nm.t1 a j)) (need0:=ML) (need:=fun j=>nrn (Nm.t0 a j) (Nm.t1 a j)) (R:=fun v fs=>um (.v 1) 40 v fs=true) (ρ:=ev [c,d,nu (n:Int)])
  (fun _ _ _ h=>J5 h) mixed (fun j=>YF (Nm.YG a n j)) Tryz.func50 hc (FP _ _ (okT 0) (okL 0) (Nm.nrH (Nm.t0 a 0) (Nm.t1 a 0))).1 (FP _ _ (okT 0) (okL 0) (Nm.nrH (Nm.t0 a 0) (Nm.t1 a 0))).2.1 (fun j=>(FP _ _ (okT j) (okL j) (Nm.nrH (Nm.t0 a j) (Nm.t1 a j))).2.2) (fun j hj u=>?_) (fun u=>?_) (fun _=>Nat.zero_le _) (bg hE) (fun f=>?_) (fun ρ W h=>?_) (fun j hj ρ W h=>?_) (fun v fs hv ρ' W' hb hfs=>⟨_,rfl,Fj hv hfs,hb⟩)
 ·exact List.all_eq_true.1 (List.all_eq_true.1 (YK _ (decide_eq_true hj) (okT j) (okL j) u) _ (Nm.OY ..)) _ (Nm.OY ..)
 ·exact EH (YJ _ (decide_eq_false (Nat.lt_irrefl _)) (okT n) (okL n) _ u)
 ·revert f
  show ∀ f∈[Fc.r 0 (.v 0) 4,.i 2 (.v 3)],Fc.on (Nm.nrB a n 0) (ev [c,d,nu (n:Int)]) f w
  simp only [List.forall_mem_cons,List.not_mem_nil,false_imp_iff,implies_true,and_true]
  exact ⟨⟨h,hf⟩,⟨by show _≤(n:Int);omega,by show (n:Int)≤_;omega,rfl⟩⟩
 ·have g1:=h (Fc.r 0 (.v 0) 4) (.head _)
  have g2:=h (Fc.i 2 (.v 3)) (.tail _ (.head _))
  have g3:=h (Fc.r 259 (.flo (.v 0)) 4) (.tail _ (.tail _ (.head _)))
  show ∀ f∈[Fc.r 0 (.v 0) 4,.i 2 (.v 3),.r 4 (.v 1) 40,.i 900 (.v 2)],Fc.on (Nm.nrB a n 0) (iw FQ ρ) f W
  simp only [List.forall_mem_cons,List.not_mem_nil,false_imp_iff,implies_true,and_true]
  exact ⟨g1,g2,⟨g3.1,Fits.mono g3.2 (show 4≤40 by decide)⟩,⟨(by decide:(-9223372036854775808:Int)≤1),(by decide:(1:Int)≤9223372036854775807),rfl⟩⟩
 ·have g1:=h (Fc.r 0 (.v 0) 4) (.head _)
  have g2:=h (Fc.i 2 (.v 3)) (.tail _ (.head _))
  have g3:=(h (Fc.r (nbb (Nm.t0 a j) (Nm.t1 a j)) (Nm.fE (Nm.t0 a j) (Nm.t1 a j)) (nbk (Nm.t0 a j) (Nm.t1 a j))) (.tail _ (.tail _ (.head _)))).1
  have g4:=h (Fc.i (nbd (Nm.t0 a j) (Nm.t1 a j)) (.v 4)) (.tail _ (.tail _ (.tail _ (.head _))))
  rw [Nm.UD] at g3
  show ∀ f∈[Fc.r 0 (.v 0) 4,.i 2 (.v 3),.r 4 (.v 1) 40,.i 900 (.v 2)],Fc.on (Nm.nrB a n (j+1)) (iw (nrm (Nm.t0 a j) (Nm.t1 a j)) ρ) f W
  simp only [List.forall_mem_cons,List.not_mem_nil,false_imp_iff,implies_true,and_true]
  exact ⟨g1,g2,⟨g3,Nm.Zt hf (by omega)⟩,g4⟩
end Rx
namespace Rx
open Go.RowKit
def ug (n:Int):Option (SV×List Fc)→Bool
 | some (.t [.a [.bl false,.it .u64 0,.nils,.it .u64 0,.nils],.s (.it .i64 m)],_)=>n == m
 | _=>false
theorem WH {n:Int} {o:Option (SV×List Fc)} (h:ug n o=true):∃ fs,o=some (.t [.a [.bl false,.it .u64 0,.nils,.it .u64 0,.nils],.s (.it .i64 n)],fs):=by
 unfold ug at h
 split at h
 ·rw [eq_of_beq h];exact ⟨_,rfl⟩
 ·cases h
theorem GL {β:Nat→Rat} {H:Tests (SQ β)} {cons:List (Con (SQ β))} {fuel:Nat} {f:FuncId} {args:List SV} {fs:List Fc} {b:Nat} {ρ:Env} {w:World} {n:Int} (hc:∀ c∈cons,c.Ok Tryz.prog (SQ β) EV) (hr:ug n (aN Tryz.prog (SQ β) H cons fuel f args fs b)=true) (hE:EV w) (hf:∀ g∈fs,Fc.on β ρ g w):Calls Tryz.prog f (args.map (SV.den ρ)).toArray w (cO w 0 n):=by
 obtain ⟨fs',heq⟩:=WH hr
 exact (dJ mixed hc heq (bg hE) hf).mono fun x W' ⟨ρ',_,hx,hb,_⟩=>⟨_,hx,qI _,hb⟩
def nT0:Ari:={ gt:=[(.c 1,.v 1,true)] }
def nT (x y:Bool):Ari:={ gt:=[(.c 0,.v 1,x),(.v 1,.c 64,y)] }
theorem Yl (β:Nat→Rat) (ok:nT0.Ok β):ug 3 (aN Tryz.prog (SQ β) (HAr β {} (aV β) nT0 ok) [] 1 48 [.e (.a (aK 0)),.e (.s (.oi 2))] [.i 2 (.v 1)] 3)=true:=by kernel_rfl
section
variable {a:Rat} {v:Value} {W:World} {m:Int}
theorem Yk (h:IsQ W v a) (h1:-9223372036854775808≤m) (h2:m<1) (hE:EV W):Calls Tryz.prog 48 #[v,.int .i64 m] W (cO W 0 3):=by
 obtain ⟨c,d,rfl⟩:=ku h
 have ok:nT0.Ok (bet [0,(m:Rat)]):=⟨fun p h=>(by cases h),fun p h=>(by cases h),fun p hp x y hx hy=>by
  obtain rfl:=List.mem_singleton.1 hp
  obtain rfl:x=1:=intCast_inj hx
  obtain rfl:y=m:=intCast_inj hy
  exact decide_eq_true (by omega)⟩
 have he:(List.map (SV.den (ev [c,d,nu m])) [.e (.a (aK 0)),.e (.s (.oi 2))]).toArray=#[qv c d,.int .i64 m]:=rfl
 rw [← he]
 exact GL (fun c h=>absurd h List.not_mem_nil) (Yl _ ok) hE fun g hg=>by
  obtain rfl:=List.mem_singleton.1 hg
  exact ⟨h1,by show m≤_;omega,rfl⟩
theorem VO (β:Nat→Rat):(∀ ok:(nT true true).Ok β,isB false (aN Tryz.prog (SQ β) (HAr β {} (aV β) (nT true true) ok) [] 1 123 [.e (.s (.oi 2))] [.i 2 (.v 1)] 3)=true)∧(∀ ok:(nT true false).Ok β,isB false (aN Tryz.prog (SQ β) (HAr β {} (aV β) (nT true false) ok) [] 1 123 [.e (.s (.oi 2))] [.i 2 (.v 1)] 3)=true) ∧
  (∀ ok:(nT false true).Ok β,isB false (aN Tryz.prog (SQ β) (HAr β {} (aV β) (nT false true) ok) [] 1 123 [.e (.s (.oi 2))] [.i 2 (.v 1)] 3)=true):=⟨fun _=>by kernel_rfl,fun _=>by kernel_rfl,fun _=>by kernel_rfl⟩
theorem Yg (m:Int):(nT (decide (0 > m)) (decide (m > 64))).Ok (bet [0,(m:Rat)]):=by
 refine ⟨fun p h=>(by cases h),fun p h=>(by cases h),?_⟩
 simp only [nT,List.forall_mem_cons,List.not_mem_nil,false_imp_iff,implies_true,and_true]
 refine ⟨fun x y hx hy=>?_,fun x y hx hy=>?_⟩
 ·obtain rfl:x=0:=intCast_inj hx
  obtain rfl:y=m:=intCast_inj hy
  rfl
 ·obtain rfl:x=m:=intCast_inj hx
  obtain rfl:y=64:=intCast_inj hy
  rfl
theorem GK {β:Nat→Rat} {H:Tests (SQ β)} {cons:List (Con (SQ β))} {fuel:Nat} {f:FuncId} {args:List SV} {fs:List Fc} {b:Nat} {ρ:Env} {w:World} {y:Bool} (hc:∀ c∈cons,c.Ok Tryz.prog (SQ β) EV) (hr:isB y (aN Tryz.prog (SQ β) H cons fuel f args fs b)=true) (hE:EV w) (hf:∀ g∈fs,Fc.on β ρ g w):Calls Tryz.prog f (args.map (SV.den ρ)).toArray w (aZ w (.bool y)):=by
 obtain ⟨fs',heq⟩:=EX hr
 exact (dJ mixed hc heq (bg hE) hf).mono fun x W' ⟨ρ',_,hx,hb,_⟩=>⟨hx,hb⟩
theorem VN (h1:-9223372036854775808≤m) (h2:m≤9223372036854775807) (hm:m<0∨64<m) (hE:EV W):Calls Tryz.prog 123 #[.int .i64 m] W (aZ W (.bool false)):=by
 have hg:∀ g∈[Fc.i 2 (.v 1)],Fc.on (bet [0,(m:Rat)]) (ev [nu 0,nu 0,nu m]) g W:=fun g hg=>by
  obtain rfl:=List.mem_singleton.1 hg
  exact ⟨h1,h2,rfl⟩
 have ok:=Yg m
 have he:(List.map (SV.den (ev [nu 0,nu 0,nu m])) [.e (.s (.oi 2))]).toArray=#[.int .i64 m]:=rfl
 rw [← he]
 obtain ⟨r1,r2,r3⟩:=VO (bet [0,(m:Rat)])
 rcases hm with hm | hm
 ·rw [decide_eq_true (show 0 > m by omega),decide_eq_false (show ¬ m > 64 by omega)] at ok
  exact GK (fun c h=>absurd h List.not_mem_nil) (r2 ok) hE hg
 ·rw [decide_eq_false (show ¬ 0 > m by omega),decide_eq_true (show m > 64 by omega)] at ok
  exact GK (fun c h=>absurd h List.not_mem_nil) (r3 ok) hE hg
end
def yt (β:Nat→Rat) (x:Bool):Con (SQ β) where
 fn:=123
 app:=fun db _ args=>match args with
  | [.e (.s (.oi i))]=>match dU db i with
   | some (.v 1)=>some (.e (.s (.bl x)),[])
   | _=>none
  | _=>none
theorem Jv {β:Nat→Rat} {x:Bool} (h:∀ (m:Int) W,(m:Rat)=β 1→-9223372036854775808≤m→m≤9223372036854775807→EV W→Calls Tryz.prog 123 #[.int .i64 m] W (aZ W (.bool x))):(yt β x).Ok Tryz.prog (SQ β) EV:=by
 refine Con.ok0 rfl ?_
 intro db b args res new ha ρ W hf hE
 simp only [yt] at ha
 split at ha
 ·split at ha
  ·rename_i hi
   cases ha
   obtain ⟨i1,i2,i3⟩:=(show Fc.on β ρ (.i _ (.v 1)) W from hf _ (dM hi))
   exact nK (h _ W i3 i1 i2 hE) rfl
  ·cases ha
 ·cases ha
theorem NQ (β:Nat→Rat):ug 3 (aN Tryz.prog (SQ β) (HQ β {} (aV β)) [yt β false] 1 49 [.e (.a (aK 0)),.e (.s (.oi 2))] [.i 2 (.v 1)] 3)=true ∧
  ug 8 (aN Tryz.prog (SQ β) (HQ β {} (aV β)) [yt β true] 1 49 [.e (.a [.bl true,.ou 0,.os 0,.ou 1,.os 1]),.e (.s (.oi 2))] [.i 2 (.v 1)] 3)=true:=⟨by kernel_rfl,by kernel_rfl⟩
section
variable {a:Rat} {v:Value} {W:World} {m:Int}
theorem ZQ (h:IsQ W v a) (h1:-9223372036854775808≤m) (h2:m≤9223372036854775807) (hm:m<0∨64<m) (hE:EV W):Calls Tryz.prog 49 #[v,.int .i64 m] W (cO W 0 3):=by
 obtain ⟨c,d,rfl⟩:=ku h
 have he:(List.map (SV.den (ev [c,d,nu m])) [.e (.a (aK 0)),.e (.s (.oi 2))]).toArray=#[qv c d,.int .i64 m]:=rfl
 rw [← he]
 exact GL (β:=bet [0,(m:Rat)]) (fun c h=>by
  obtain rfl:=List.mem_singleton.1 h
  exact Jv fun m' W hm' i1 i2 hE=>by
   obtain rfl:m' = m:=intCast_inj hm'
   exact VN i1 i2 hm hE) (NQ _).1 hE fun g hg=>by
  obtain rfl:=List.mem_singleton.1 hg
  exact ⟨h1,h2,rfl⟩
theorem ZP (h:IsQ W v a) (h1:0≤m) (h2:m≤64) (hn:a.num<0) (hE:EV W):Calls Tryz.prog 49 #[v,.int .i64 m] W (cO W 0 8):=by
 obtain ⟨t,x,p,l,q,y,p',s,u,rfl,-,-,e⟩:=h.shape
 have e':=e.out
 rw [decide_eq_true hn] at e'
 subst e'
 have he:(List.map (SV.den (ev [⟨true,x,p,l,q,.empty,0,default⟩,⟨true,y,p',s,u,.empty,0,default⟩,nu m])) [.e (.a [.bl true,.ou 0,.os 0,.ou 1,.os 1]),.e (.s (.oi 2))]).toArray=#[.agg #[.bool true,.int .u64 x,.slice p l q,.int .u64 y,.slice p' s u],.int .i64 m]:=rfl
 rw [← he]
 exact GL (β:=bet [0,(m:Rat)]) (fun c h=>by
  obtain rfl:=List.mem_singleton.1 h
  exact Jv fun m' W hm' i1 i2 hE=>by
   obtain rfl:m' = m:=intCast_inj hm'
   obtain ⟨g,rfl⟩:∃ g:Nat,m' = (g:Int):=⟨m'.toNat,by omega⟩
   exact KY g (by omega) W) (NQ _).2 hE fun g hg=>by
  obtain rfl:=List.mem_singleton.1 hg
  exact ⟨by show _≤m;omega,by show m≤_;omega,rfl⟩
def dh (g:Nat):Rat:=(((2 ^ g:Nat):Int):Rat)
def qY (a:Rat) (g:Nat):Nat:=(flo (a*dh g*dh g)).toNat
def Bc (a:Rat) (g:Nat):Rat:=(((isq (qY a g):Nat):Int):Rat) / dh g
theorem wX {g:Nat} (hg:g≤64):Fits 2 (dh g):=by
 have h1:2 ^ g≤2 ^ 64:=Nat.pow_le_pow_right (by decide) hg
 have h2:2 ^ 64<B64 ^ 2:=by decide
 unfold dh
 exact ⟨by rw [Rat.num_intCast,Int.natAbs_natCast];exact Nat.lt_of_le_of_lt h1 h2,by rw [Rat.den_intCast];decide⟩
theorem GH (g:Nat) (h0:¬ a.num<0):flo (a*dh g*dh g)=(qY a g:Int):=by
 unfold qY
 have ha:0≤a:=by rw [← Rat.num_nonneg];omega
 have hp:(0:Rat)≤dh g:=by unfold dh;exact_mod_cast Nat.zero_le _
 have h1:=Rat.num_nonneg.2 (Rat.mul_nonneg (Rat.mul_nonneg ha hp) hp)
 have:0≤flo (a*dh g*dh g):=Int.ediv_nonneg h1 (by omega)
 omega
theorem ZU {g:Nat} (hg:g≤64) (h0:¬ a.num<0) (hf:Fits 4 a) (h:IsQ W v a) (hE:EV W):Calls Tryz.prog 49 #[v,.int .i64 (g:Int)] W (cO W (Bc a g) 0):=by
 have hP:=wX hg
 refine (Iz a (qY a g) g hg (dh g) rfl _ rfl (GH g h0) (decide_eq_false h0) v 8 W h (by decide) (hf.mono (by decide)) (hP.mono (by decide)) ((hf.mul hP).mono (by decide)) (((hf.mul hP).mul hP).mono (by decide)) hE).mono ?_
 rintro e W' ⟨S,h1,h2,h3⟩
 rw [Lm h1 h2] at h3
 exact h3
theorem ZO {g:Nat} (hg:g≤64) (h0:¬ a.num<0) (hf:Fits 4 a):qY a g<B64 ^ 8:=by
 have hP:=wX hg
 have h1:=(((hf.mul hP).mul hP).mono (show 8≤8 by decide)).1
 have h2:=GH g h0
 have h3:(flo (a*dh g*dh g)).natAbs≤(a*dh g*dh g).num.natAbs:=Int.natAbs_ediv_le_natAbs _ _
 omega
theorem NP {g:Nat} (hg:g≤64) (h0:¬ a.num<0) (hf:Fits 4 a):Fits 11 (Bc a g):=by
 have h1:=Ll (ZO hg h0 hf)
 exact (Fits.over (a:=8) (b:=2) ⟨by rw [Rat.num_intCast];exact h1,by rw [Rat.den_intCast];decide⟩ (wX hg)).mono (by decide)
end
end Rx
end Go.Proofs.YthalajpklaodkaaGreatDoor
