/- What the proof rests on, part 33. -/
import Derived.Test.YthalajpklaodkaaGreatDoorP32
import Derived.Test.YthalajpklaodkaaGreatDoorP28
import Derived.Test.YthalajpklaodkaaGreatDoorP22
namespace Go.Proofs.YthalajpklaodkaaGreatDoor
set_option maxRecDepth 100000
set_option maxHeartbeats 80000000
namespace Nm
theorem AY {a:Rat} {p q:Int} (hq:1≤q) (h:a*(q:Rat)=(p:Rat)):(a.den:Int)≤q:=by
 have hn:=rO a
 have h1:((a.num*q:Int):Rat)=((p*(a.den:Int):Int):Rat):=by
  rw [Rat.intCast_mul,Rat.intCast_mul,← hn,← h];grind
 have h2:a.num*q=p*(a.den:Int):=by exact_mod_cast h1
 have h3:a.num.natAbs*q.natAbs=p.natAbs*a.den:=by
  have:=congrArg Int.natAbs h2
  rw [Int.natAbs_mul,Int.natAbs_mul,Int.natAbs_natCast] at this
  exact this
 have h4:a.den∣q.natAbs:=a.reduced.symm.dvd_of_dvd_mul_left ⟨p.natAbs,by rw [h3,Nat.mul_comm]⟩
 have:=Nat.le_of_dvd (by omega) h4
 omega
theorem JM {a:Rat}:∀ i,(∀ j,j≤i→CI a j)→(i:Int)≤(cz a i).q+(cz a i).lq
 | 0,_=>by show (0:Int)≤0+1;decide
 | i+1,h=>by
  have hi:=JM i fun j hj=>h j (by omega)
  have hc:=h i (by omega)
  show ((i+1:Nat):Int)≤(cz a i).lq+fl (cfr a i)*(cz a i).q+(cz a i).q
  rcases hc.qn with ⟨rfl,h1,h2⟩ | ⟨h1,h2,h3⟩
  ·rw [h1,h2];simp
  ·have:=Int.mul_le_mul_of_nonneg_right (wV h3) (show 0≤(cz a i).q by omega)
   have:=hc.q0
   omega
structure qo (a:Rat) (m:Int) (N:Nat):Prop where
 ci:∀ i,i≤N→CI a i
 on:∀ i,i<N→cfr a i≠flQ (cfr a i)
 le:∀ i,i<N→(cz a (i+1)).q≤m
theorem XH {a:Rat} {m:Int} {N:Nat} (hd:m<(a.den:Int)) (h:qo a m N) (hq:(cz a (N+1)).q≤m):qo a m (N+1):=by
 have hc:=h.ci N (Nat.le_refl _)
 have hx:cfr a N≠flQ (cfr a N):=fun hx=>by
  have he:=FX hc
  rw [qR] at hx
  rw [show cfr a N - (fl (cfr a N):Rat)=0 by grind,Rat.zero_mul] at he
  have he0:a*((cz a (N+1)).q:Rat)=((cz a (N+1)).p:Rat):=by
   unfold er at he;grind
  have h1:1≤(cz a (N+1)).q:=by
   show 1≤(cz a N).lq+fl (cfr a N)*(cz a N).q
   rcases hc.qn with ⟨-,h1,h2⟩ | ⟨h1,h2,h3⟩
   ·rw [h1,h2];omega
   ·have:=Int.mul_le_mul_of_nonneg_right (wV h3) (show 0≤(cz a N).q by omega)
    have:=hc.q0
    omega
  have:=AY h1 he0
  omega
 refine ⟨fun i hi=>?_,fun i hi=>?_,fun i hi=>?_⟩
 ·rcases Nat.lt_or_ge N i with h1 | h1
  ·obtain rfl:i=N+1:=by omega
   exact MP hc hx
  ·exact h.ci i h1
 ·rcases Nat.lt_or_ge i N with h1 | h1
  ·exact h.on i h1
  ·obtain rfl:i=N:=by omega
   exact hx
 ·rcases Nat.lt_or_ge i N with h1 | h1
  ·exact h.le i h1
  ·obtain rfl:i=N:=by omega
   exact hq
theorem XG {a:Rat} {m:Int} (hd:m<(a.den:Int)) (h1:1≤m):∃ N,qo a m N∧m<(cz a (N+1)).q:=by
 have key:∀ n N:Nat,2*m+1 - (N:Int)≤n→qo a m N→∃ N,qo a m N∧m<(cz a (N+1)).q:=by
  intro n
  induction n with
  | zero =>
   intro N hn h
   exfalso
   have hs:=JM N h.ci
   cases N with
   | zero=>omega
   | succ M =>
    have h2:=h.le M (by omega)
    rcases (h.ci (M+1) (Nat.le_refl _)).qn with ⟨h3,-⟩ | ⟨h3,h4,-⟩
    ·cases h3
    ·omega
  | succ n ih =>
   intro N hn h
   by_cases hq:(cz a (N+1)).q≤m
   ·exact ih (N+1) (by omega) (XH hd h hq)
   ·exact ⟨N,h,by omega⟩
 exact key (2*m+1).toNat 0 (by omega) ⟨fun i hi=>(Nat.le_zero.1 hi) ▸ MQ a,fun i hi=>absurd hi (Nat.not_lt_zero i),fun i hi=>absurd hi (Nat.not_lt_zero i)⟩
theorem Pq {k:Nat} {x:Rat} (h:Fits k x):Fits k (x - flQ x):=by
 have hd:=wJ x
 have hn:=rO x
 have h1:x - flQ x=((x.num % (x.den:Int):Int):Rat) / ((x.den:Int):Rat):=by
  have h2:((x.num % (x.den:Int):Int):Rat)=(x.num:Rat) - ((x.den:Int):Rat)*(fl x:Rat):=by
   rw [← Rat.intCast_mul,← Rat.intCast_sub]
   exact congrArg _ (by unfold fl;have:=Int.emod_add_mul_ediv x.num (x.den:Int);omega)
  have h3:((x.num % (x.den:Int):Int):Rat) / ((x.den:Int):Rat)*((x.den:Int):Rat)=((x.num % (x.den:Int):Int):Rat):=Rat.div_mul_cancel (by grind)
  rw [qR]
  generalize ((x.num % (x.den:Int):Int):Rat) / ((x.den:Int):Rat)=y at *
  rw [h2,← hn] at h3
  have h4:(y - (x - (fl x:Rat)))*((x.den:Int):Rat)=0:=by grind
  have:=(Rat.mul_eq_zero.1 h4).resolve_right (by grind)
  grind
 have hm:(x.num % (x.den:Int)).natAbs<x.den:=by
  have h1:=Int.emod_lt_of_pos x.num (show (0:Int)<(x.den:Int) by have:=x.den_pos;omega)
  have h2:=Int.emod_nonneg x.num (show (x.den:Int)≠0 by have:=x.den_pos;omega)
  omega
 rw [h1]
 have:=Rx.F8 (z:=x.num % (x.den:Int)) (d:=(x.den:Int)) (k:=k) (k':=k) (by have:=x.den_pos;omega) (Nat.lt_trans hm h.2) (by rw [Int.natAbs_natCast];exact h.2)
 rwa [Nat.max_self] at this
theorem F6 {a:Rat} (hf:Fits 4 a):∀ i,(∀ j,j<i→cfr a j≠flQ (cfr a j))→Fits 4 (cfr a i)
 | 0,_=>hf
 | i+1,h=>(Pq (F6 hf i fun j hj=>h j (by omega))).inv (fun h0=>h i (by omega) (by grind))
end Nm
namespace Nm
theorem wU {k:Nat} {z:Int} (h:z.natAbs<B64 ^ k) (h1:1≤k):Fits k (z:Rat):=⟨by rw [Rat.num_intCast];exact h,by rw [Rat.den_intCast];exact Nat.one_lt_pow (by omega) (by decide)⟩
theorem tV {x y:Int} (h:x≤y):aH (x:Rat) (y:Rat)≤0:=by
 have h1:(x:Rat)≤(y:Rat):=jh.2 h
 by_cases h2:(x:Rat)=(y:Rat)
 ·rw [Rx.oz.2 h2];decide
 ·rw [Rx.tX.2 (Rat.lt_of_le_of_ne h1 h2)];decide
theorem Ah {x y:Int} (h:y<x):aH (x:Rat) (y:Rat)=1:=by
 exact Rx.lJ.2 (iV.2 h)
theorem Eu (a:Rat):a≤((a.num.natAbs:Int):Rat)∧-((a.num.natAbs:Int):Rat)≤a:=by
 have hn:=rO a
 have hd:((1:Int):Rat)≤((a.den:Int):Rat):=jh.2 (by have:=a.den_pos;omega)
 have h1:(a.num:Rat)≤((a.num.natAbs:Int):Rat):=jh.2 (by omega)
 have h2:((-a.num:Int):Rat)≤((a.num.natAbs:Int):Rat):=jh.2 (by omega)
 have h3:((0:Int):Rat)≤((a.num.natAbs:Int):Rat):=jh.2 (by omega)
 rw [Rat.intCast_neg] at h2
 rw [show ((1:Int):Rat)=1 from rfl] at hd
 rw [show ((0:Int):Rat)=0 from rfl] at h3
 constructor
 ·by_cases h:a≤((a.num.natAbs:Int):Rat)
  ·exact h
  ·have:=Rat.mul_nonneg (show 0≤a by grind) (show 0≤((a.den:Int):Rat) - 1 by grind)
   grind
 ·by_cases h:-((a.num.natAbs:Int):Rat)≤a
  ·exact h
  ·have:=Rat.mul_nonneg (show 0≤-a by grind) (show 0≤((a.den:Int):Rat) - 1 by grind)
   grind
theorem Ir {a:Rat} {p q:Int} (hq:0≤q) (hq2:q<9223372036854775808) (hf:Fits 4 a) (he:-1≤a*(q:Rat) - (p:Rat)∧a*(q:Rat) - (p:Rat)≤1):p.natAbs<B64 ^ 6:=by
 obtain ⟨h1,h2⟩:=Eu a
 have hq':((0:Int):Rat)≤(q:Rat):=jh.2 hq
 rw [show ((0:Int):Rat)=0 from rfl] at hq'
 have m1:=Rat.mul_nonneg (show 0≤((a.num.natAbs:Int):Rat) - a by grind) hq'
 have m2:=Rat.mul_nonneg (show 0≤((a.num.natAbs:Int):Rat)+a by grind) hq'
 have b1:(p:Rat)≤(((a.num.natAbs:Int)*q+1:Int):Rat):=by
  rw [Rat.intCast_add,Rat.intCast_mul,show ((1:Int):Rat)=1 from rfl];grind
 have b2:((-((a.num.natAbs:Int)*q+1):Int):Rat)≤(p:Rat):=by
  rw [Rat.intCast_neg,Rat.intCast_add,Rat.intCast_mul,show ((1:Int):Rat)=1 from rfl];grind
 have c1:=jh.1 b1
 have c2:=jh.1 b2
 obtain ⟨n,rfl⟩:∃ n:Nat,q=n:=⟨q.toNat,by omega⟩
 have hA:=hf.1
 have hB1:B64 ^ 1=18446744073709551616:=by decide
 have hm:a.num.natAbs*n<B64 ^ 4*B64 ^ 1:=Nat.mul_lt_mul'' hA (by omega)
 have hB:B64 ^ 4*B64 ^ 1+1<B64 ^ 6:=by decide
 have e1:(a.num.natAbs:Int)*(n:Int)=((a.num.natAbs*n:Nat):Int):=by simp
 rw [e1] at c1 c2
 omega
theorem rE {z:Int} (h0:0≤z) (h1:z<9223372036854775808):Fits 1 (z:Rat):=by
 have hB:B64 ^ 1=18446744073709551616:=by decide
 exact wU (by omega) (Nat.le_refl _)
section
variable {a:Rat} {m:Int} {N:Nat} (hf:Fits 4 a) (h1:1≤m) (h2:m<9223372036854775808) (hd:m<(a.den:Int)) (hu:qo a m N) (he:m<(cz a (N+1)).q)
include hu h1
theorem uO {i:Nat} (hi:i≤N):0≤(cz a i).q∧(cz a i).q≤m∧0≤(cz a i).lq∧(cz a i).lq≤m:=by
 have hc:=hu.ci i hi
 have h0:=hc.q0
 cases i with
 | zero=>exact ⟨by show (0:Int)≤0;omega,by show (0:Int)≤m;omega,h0,h1⟩
 | succ i =>
  have:=hu.le i (by omega)
  rcases hc.qn with ⟨h3,-⟩ | ⟨h3,h4,-⟩
  ·cases h3
  ·omega
include hf h2
theorem IG {i:Nat} (hi:i≤N):Fits 6 ((cz a i).p:Rat)∧Fits 6 ((cz a i).lp:Rat):=by
 obtain ⟨b1,b2,b3,b4⟩:=uO h1 hu hi
 refine ⟨wU (Ir b1 (by omega) hf (hu.ci i hi).eb) (by decide),?_⟩
 cases i with
 | zero=>exact wU (by show (0:Int).natAbs<_;decide) (by decide)
 | succ i =>
  obtain ⟨b1,b2,b3,b4⟩:=uO h1 hu (show i≤N by omega)
  exact wU (Ir b1 (by omega) hf (hu.ci i (by omega)).eb) (by decide)
include he
theorem step_ok {i:Nat} (hi:i≤N):Eo a m N 40 i:=by
 obtain ⟨c1,c2,c3,c4⟩:=uf a i
 obtain ⟨d1,d2,d3,d4⟩:=uf a (i+1)
 obtain ⟨b1,b2,b3,b4⟩:=uO h1 hu hi
 obtain ⟨f1,f2⟩:=IG hf h1 h2 hu hi
 have fx:=F6 hf i fun j hj=>hu.on j (by omega)
 have ft:=F7 fx
 have fq:Fits 1 ((cz a i).q:Rat):=rE b1 (by omega)
 have flq:Fits 1 ((cz a i).lq:Rat):=rE b3 (by omega)
 rw [← c1] at f1
 rw [← c3] at f2
 rw [← c2] at fq
 rw [← c4] at flq
 exact {
  r:=fx.mono (by decide)
  t:=ft.mono (by decide)
  p:=f1.mono (by decide)
  q:=fq.mono (by decide)
  lp:=f2.mono (by decide)
  lq:=flq.mono (by decide)
  tp:=(ft.mul f1).mono (by decide)
  tq:=(ft.mul fq).mono (by decide)
  np:=(f2.plus (ft.mul f1)).mono (by decide)
  nq:=(flq.plus (ft.mul fq)).mono (by decide)
  on:=fun hi h=>hu.on i hi (by have:=Rx.WC.1 h;grind)
  lim1:=fun hi=>by rw [d2];exact tV (hu.le i hi)
  lim2:=fun hi=>by subst hi;rw [d2];exact Ah he }
omit hf in
theorem last:∃ K:Int,(K:Rat)=flQ (((m:Rat) - (cv a N).lq) / (cv a N).q)∧1≤(cz a N).q∧0≤(cz a N).lq∧0≤K∧1≤(cz a N).lq+K*(cz a N).q∧(cz a N).lq+K*(cz a N).q≤m∧m<(cz a N).lq+K*(cz a N).q+(cz a N).q∧(K:Rat)<cfr a N:=by
 obtain ⟨c1,c2,c3,c4⟩:=uf a N
 have hc:=hu.ci N (Nat.le_refl _)
 obtain ⟨b1,b2,b3,b4⟩:=uO h1 hu (Nat.le_refl N)
 have hq1:1≤(cz a N).q∧(cz a N).lq≤(cz a N).q∧1<cfr a N:=by
  rcases hc.qn with ⟨rfl,h3,h4⟩ | h3
  ·exfalso
   have:(cz a (0+1)).q=1:=by
    show (1:Int)+fl (cfr a 0)*0=1
    omega
   omega
  ·exact h3
 rw [c2,c4]
 refine ⟨_,(qR _).symm,hq1.1,b3,?_⟩
 have hqp:(0:Rat)<((cz a N).q:Rat):=by
  have:((0:Int):Rat)<((cz a N).q:Rat):=iV.2 (by omega)
  exact this
 have hdm:((m:Rat) - ((cz a N).lq:Rat)) / ((cz a N).q:Rat)*((cz a N).q:Rat)=(m:Rat) - ((cz a N).lq:Rat):=Rat.div_mul_cancel (by grind)
 have g1:=uh (((m:Rat) - ((cz a N).lq:Rat)) / ((cz a N).q:Rat))
 have g2:=uG (((m:Rat) - ((cz a N).lq:Rat)) / ((cz a N).q:Rat))
 generalize fl (((m:Rat) - ((cz a N).lq:Rat)) / ((cz a N).q:Rat))=K at *
 generalize ((m:Rat) - ((cz a N).lq:Rat)) / ((cz a N).q:Rat)=y at *
 have e1:=Rat.mul_nonneg (show 0≤y - (K:Rat) by grind) (Rat.le_of_lt hqp)
 have e2:=Rat.mul_pos (show 0<(K:Rat)+1 - y by grind) hqp
 have k1:(((cz a N).lq+K*(cz a N).q:Int):Rat)≤(m:Rat):=by
  rw [Rat.intCast_add,Rat.intCast_mul];grind
 have k2:(m:Rat)<(((cz a N).lq+K*(cz a N).q+(cz a N).q:Int):Rat):=by
  rw [Rat.intCast_add,Rat.intCast_add,Rat.intCast_mul];grind
 have k1':=jh.1 k1
 have k2':=iV.1 k2
 have hK:0≤K:=by
  rcases Int.lt_or_le K 0 with h | h
  ·have:=Int.mul_le_mul_of_nonneg_right (show K+1≤0 by omega) (show 0≤(cz a N).q by omega)
   have e:(K+1)*(cz a N).q=K*(cz a N).q+(cz a N).q:=by grind
   omega
  ·exact h
 refine ⟨hK,?_,k1',k2',?_⟩
 ·rcases Int.lt_or_le 0 K with h | h
  ·have:=Int.mul_le_mul_of_nonneg_right (show 1≤K by omega) (show 0≤(cz a N).q by omega)
   omega
  ·obtain rfl:K=0:=by omega
   rcases Nat.eq_zero_or_pos N with rfl | hN
   ·have:(cz a 0).lq=1:=rfl
    omega
   ·obtain ⟨M,rfl⟩:∃ M,N=M+1:=⟨N - 1,by omega⟩
    have hM:=hu.ci M (by omega)
    have hl:(cz a (M+1)).lq=(cz a M).q:=rfl
    rcases hM.qn with ⟨rfl,h3,h4⟩ | ⟨h3,-⟩
    ·have:(cz a (0+1)).q=1:=by
      show (1:Int)+fl (cfr a 0)*0=1
      omega
     omega
    ·omega
 ·have hlt:K*(cz a N).q<fl (cfr a N)*(cz a N).q:=by
   have:(cz a (N+1)).q=(cz a N).lq+fl (cfr a N)*(cz a N).q:=rfl
   omega
  have h4:K<fl (cfr a N):=Int.lt_of_mul_lt_mul_right hlt (by omega)
  have h5:(K:Rat)<(fl (cfr a N):Rat):=iV.2 h4
  have:=uh (cfr a N)
  grind
end
end Nm
namespace Nm
theorem tri (x:Rat):x<0∨x=0∨0<x:=by
 by_cases h:x<0
 ·exact .inl h
 ·by_cases h':x=0
  ·exact .inr (.inl h')
  ·exact .inr (.inr (by grind))
theorem vN {r:Rat} (h:r<0):aF r = -r:=by
 unfold aF
 rw [if_pos ((Rx.Ii r).2.2 h)]
theorem qp {r:Rat} (h:0≤r):aF r=r:=by
 unfold aF
 rw [if_neg fun hn=>by have:=(Rx.Ii r).2.1 hn;grind]
def Lx (a r y:Rat):Prop:=aF (r - a)<aF (y - a)∨(aF (r - a)=aF (y - a)∧(r.den<y.den∨(r.den=y.den∧r≤y)))
def jG (a:Rat) (m:Int) (r:Rat):Prop:=(r.den:Int)≤m∧∀ y:Rat,(y.den:Int)≤m→Lx a r y
theorem SX {a r y:Rat} (h:Lx a r y) (k:Lx a y r):r=y:=by
 rcases h with h | ⟨h,h'⟩ <;> rcases k with k | ⟨k,k'⟩
 ·grind
 ·grind
 ·grind
 ·rcases h' with h' | ⟨h',h''⟩ <;> rcases k' with k' | ⟨k',k''⟩
  ·omega
  ·omega
  ·omega
  ·exact Rat.le_antisymm h'' k''
theorem Uo {a:Rat} {m:Int} {r s:Rat} (h:jG a m r) (k:jG a m s):r=s:=SX (h.2 s k.1) (k.2 r h.1)
theorem Ib {a:Rat} {m:Int} (h:(a.den:Int)≤m):jG a m a:=by
 refine ⟨h,fun y hy=>?_⟩
 unfold Lx
 rw [show a - a=0 by grind,qp (Rat.le_refl)]
 rcases tri (y - a) with h1 | h1 | h1
 ·rw [vN h1];left;grind
 ·obtain rfl:y=a:=by grind
  right;rw [h1,qp (Rat.le_refl)];exact ⟨rfl,.inr ⟨rfl,Rat.le_refl⟩⟩
 ·rw [qp (Rat.le_of_lt h1)];left;exact h1
def pick (a X Y:Rat):Rat:=
 if aF (X - a)<aF (Y - a) then X else if aF (Y - a)<aF (X - a) then Y else
 if X.den<Y.den then X else if Y.den<X.den then Y else if Y<X then Y else X
theorem IB (a X Y:Rat):(pick a X Y=X∨pick a X Y=Y)∧Lx a (pick a X Y) X∧Lx a (pick a X Y) Y:=by
 unfold pick Lx
 split
 ·rename_i h;exact ⟨.inl rfl,.inr ⟨rfl,.inr ⟨rfl,Rat.le_refl⟩⟩,.inl h⟩
 ·rename_i h1
  split
  ·rename_i h;exact ⟨.inr rfl,.inl h,.inr ⟨rfl,.inr ⟨rfl,Rat.le_refl⟩⟩⟩
  ·rename_i h2
   have he:aF (X - a)=aF (Y - a):=by grind
   split
   ·rename_i h;exact ⟨.inl rfl,.inr ⟨rfl,.inr ⟨rfl,Rat.le_refl⟩⟩,.inr ⟨he,.inl h⟩⟩
   ·rename_i h3
    split
    ·rename_i h;exact ⟨.inr rfl,.inr ⟨he.symm,.inl h⟩,.inr ⟨rfl,.inr ⟨rfl,Rat.le_refl⟩⟩⟩
    ·rename_i h4
     have hd:X.den=Y.den:=by omega
     split
     ·rename_i h;exact ⟨.inr rfl,.inr ⟨he.symm,.inr ⟨hd.symm,Rat.le_of_lt h⟩⟩,.inr ⟨rfl,.inr ⟨rfl,Rat.le_refl⟩⟩⟩
     ·rename_i h;exact ⟨.inl rfl,.inr ⟨rfl,.inr ⟨rfl,Rat.le_refl⟩⟩,.inr ⟨he,.inr ⟨hd,by grind⟩⟩⟩
theorem outside {pl ql pr qr u v m:Int} (hl:1≤ql) (hr:1≤qr) (hd:pr*ql - pl*qr=1) (hm:m<ql+qr) (hv:v≤m):u*ql≤pl*v∨pr*v≤u*qr:=by
 rcases Int.lt_or_le (pl*v) (u*ql) with h1 | h1
 ·rcases Int.lt_or_le (u*qr) (pr*v) with h2 | h2
  ·exfalso
   have e:v=ql*(pr*v - u*qr)+qr*(u*ql - pl*v):=by
    have:v=v*(pr*ql - pl*qr):=by rw [hd,Int.mul_one]
    grind
   have m1:=Int.mul_le_mul_of_nonneg_left (show 1≤pr*v - u*qr by omega) (show 0≤ql by omega)
   have m2:=Int.mul_le_mul_of_nonneg_left (show 1≤u*ql - pl*v by omega) (show 0≤qr by omega)
   omega
  ·exact .inr h2
 ·exact .inl h1
theorem wW {p q:Int} (hq:1≤q) {L y:Rat} (hL:L*(q:Rat)=(p:Rat)):(y.num*q≤p*(y.den:Int)→y≤L)∧(p*(y.den:Int)≤y.num*q→L≤y):=by
 have hn:=rO y
 have hd:=wJ y
 have hq':(0:Rat)<(q:Rat):=by
  have:((0:Int):Rat)<(q:Rat):=iV.2 (by omega)
  exact this
 have hpos:=Rat.mul_pos hd hq'
 constructor
 ·intro h
  have h1:=jh.2 h
  rw [Rat.intCast_mul,Rat.intCast_mul,← hn,← hL] at h1
  by_cases h2:y≤L
  ·exact h2
  ·have:=Rat.mul_pos (show 0<y - L by grind) hpos
   grind
 ·intro h
  have h1:=jh.2 h
  rw [Rat.intCast_mul,Rat.intCast_mul,← hn,← hL] at h1
  by_cases h2:L≤y
  ·exact h2
  ·have:=Rat.mul_pos (show 0<L - y by grind) hpos
   grind
theorem G5 {a L R r y:Rat} (h1:L<a) (h2:a<R) (hl:Lx a r L) (hr:Lx a r R) (hy:y≤L∨R≤y):Lx a r y:=by
 rcases hy with hy | hy
 ·rcases tri (y - L) with h | h | h
  ·left
   rw [vN (show y - a<0 by grind)]
   have:aF (r - a)≤aF (L - a):=by rcases hl with h | h <;> grind
   rw [vN (show L - a<0 by grind)] at this
   grind
  ·obtain rfl:y=L:=by grind
   exact hl
  ·grind
 ·rcases tri (y - R) with h | h | h
  ·grind
  ·obtain rfl:y=R:=by grind
   exact hr
  ·left
   rw [qp (show 0≤y - a by grind)]
   have:aF (r - a)≤aF (R - a):=by rcases hr with h | h <;> grind
   rw [qp (show 0≤R - a by grind)] at this
   grind
theorem Un {a X Y:Rat} {m p q sp sq:Int} (hq:1≤q) (hs:1≤sq) (hqm:q≤m) (hsm:sq≤m) (hm:m<q+sq) (hX:X*(q:Rat)=(p:Rat)) (hY:Y*(sq:Rat)=(sp:Rat))
  (hd:(p*sq - sp*q=1∧Y<a∧a<X)∨(p*sq - sp*q = -1∧X<a∧a<Y)):jG a m (pick a X Y):=by
 obtain ⟨hp,px,py⟩:=IB a X Y
 refine ⟨?_,fun y hy=>?_⟩
 ·rcases hp with h | h <;> rw [h]
  ·have:=AY hq hX;omega
  ·have:=AY hs hY;omega
 ·rcases hd with ⟨h1,h2,h3⟩ | ⟨h1,h2,h3⟩
  ·refine G5 h2 h3 py px ?_
   rcases outside (pl:=sp) (ql:=sq) (pr:=p) (qr:=q) (u:=y.num) (v:=y.den) hs hq h1 (show m<sq+q by omega) hy with h | h
   ·exact .inl ((wW hs hY).1 h)
   ·exact .inr ((wW hq hX).2 h)
  ·refine G5 h2 h3 px py ?_
   rcases outside (pl:=p) (ql:=q) (pr:=sp) (qr:=sq) (u:=y.num) (v:=y.den) hq hs (show sp*q - p*sq=1 by omega) hm hy with h | h
   ·exact .inl ((wW hq hX).1 h)
   ·exact .inr ((wW hs hY).2 h)
theorem Um {a:Rat} {m:Int} (hf:Fits 4 a) (h1:1≤m) (h2:m<9223372036854775808) (hd:m<(a.den:Int)):∃ (N:Nat) (K X Y:Rat),yZ a m N 40 K X Y∧jG a m (pick a X Y):=by
 obtain ⟨N,hu,he⟩:=XG hd h1
 obtain ⟨K,hK,q1,l0,k0,s1,s2,s3,kx⟩:=last h1 h2 hu he
 obtain ⟨c1,c2,c3,c4⟩:=uf a N
 have hc:=hu.ci N (Nat.le_refl _)
 obtain ⟨b1,b2,b3,b4⟩:=uO h1 hu (Nat.le_refl N)
 obtain ⟨f1,f2⟩:=IG hf h1 h2 hu (Nat.le_refl N)
 have fq:Fits 1 ((cz a N).q:Rat):=rE b1 (by omega)
 have flq:Fits 1 ((cz a N).lq:Rat):=rE b3 (by omega)
 have fm:Fits 1 (m:Rat):=rE (by omega) h2
 have q0:((cz a N).q:Rat)≠0:=fun h=>by
  have:=iV.2 (show (0:Int)<(cz a N).q by omega)
  rw [h] at this
  exact Rat.lt_irrefl this
 have s0:((cz a N).lq:Rat)+(K:Rat)*((cz a N).q:Rat)≠0:=fun h=>by
  have:=iV.2 (show (0:Int)<(cz a N).lq+K*(cz a N).q by omega)
  rw [Rat.intCast_add,Rat.intCast_mul,h] at this
  exact Rat.lt_irrefl this
 rw [← c1] at f1
 rw [← c3] at f2
 have fd1:Fits 3 ((m:Rat) - (cv a N).lq):=by rw [c4];exact (fm.minus flq).mono (by decide)
 have fd2:Fits 5 (((m:Rat) - (cv a N).lq) / (cv a N).q):=by rw [c2];exact (fd1.over fq).mono (by decide)
 have fK:Fits 5 (K:Rat):=by rw [hK];exact F7 fd2
 rw [← c2] at fq q0
 rw [← c4] at flq
 rw [← c2,← c4] at s0
 have fkp:=fK.mul f1
 have fkq:=fK.mul fq
 have fsp:=f2.plus fkp
 have fsq:=flq.plus fkq
 have fX:=f1.over fq
 have fY:=fsp.over fsq
 refine ⟨N,K,_,_,{
  m1:=h1
  m2:=h2
  hk:=by decide
  den:=Ah hd
  fd:=(Rx.wS hf).2.mono (by decide)
  fm:=fm.mono (by decide)
  fa:=hf.mono (by decide)
  step:=fun i hi=>step_ok hf h1 h2 hu he hi
  q0:=q0
  d1:=fd1.mono (by decide)
  d2:=fd2.mono (by decide)
  hK:=hK.symm
  fK:=fK.mono (by decide)
  kp:=fkp.mono (by decide)
  kq:=fkq.mono (by decide)
  sp:=fsp.mono (by decide)
  sq:=fsq.mono (by decide)
  s0:=s0
  hX:=rfl
  hY:=rfl
  fX:=fX.mono (by decide)
  fY:=fY.mono (by decide)
  fXa:=(fX.minus hf).mono (by decide)
  fYa:=(fY.minus hf).mono (by decide) },?_⟩
 have hX:(cv a N).p / (cv a N).q*(cv a N).q=(cv a N).p:=Rat.div_mul_cancel q0
 have hY:((cv a N).lp+(K:Rat)*(cv a N).p) / ((cv a N).lq+(K:Rat)*(cv a N).q)*((cv a N).lq+(K:Rat)*(cv a N).q)=(cv a N).lp+(K:Rat)*(cv a N).p:=Rat.div_mul_cancel s0
 generalize (cv a N).p / (cv a N).q=X at *
 generalize ((cv a N).lp+(K:Rat)*(cv a N).p) / ((cv a N).lq+(K:Rat)*(cv a N).q)=Y at *
 rw [c1,c2] at hX
 rw [c1,c2,c3,c4] at hY
 have hY':Y*(((cz a N).lq+K*(cz a N).q:Int):Rat)=(((cz a N).lp+K*(cz a N).p:Int):Rat):=by
  rw [Rat.intCast_add,Rat.intCast_mul,Rat.intCast_add,Rat.intCast_mul];exact hY
 have hqp:(0:Rat)<((cz a N).q:Rat):=by
  have:((0:Int):Rat)<((cz a N).q:Rat):=iV.2 (by omega)
  exact this
 have hsp:(0:Rat)<((cz a N).lq:Rat)+(K:Rat)*((cz a N).q:Rat):=by
  have:=iV.2 (show (0:Int)<(cz a N).lq+K*(cz a N).q by omega)
  rw [Rat.intCast_add,Rat.intCast_mul] at this
  exact this
 have e1:(a - X)*((cz a N).q:Rat)=er a N:=by unfold er;grind
 have e2:(a - Y)*(((cz a N).lq:Rat)+(K:Rat)*((cz a N).q:Rat)) = -((cfr a N - (K:Rat))*er a N):=by
  have h3:=hc.le
  unfold ler at h3
  have h4:er a N=a*((cz a N).q:Rat) - ((cz a N).p:Rat):=rfl
  grind
 refine Un q1 s1 b2 s2 (by omega) hX hY' ?_
 have hdt:(cz a N).p*((cz a N).lq+K*(cz a N).q) - ((cz a N).lp+K*(cz a N).p)*(cz a N).q=dt a N:=by unfold dt;grind
 rw [hdt]
 have lt_of:∀ {x y:Rat},0<x*y→0<y→0<x:=fun {x y} h1 h2=>by
  by_cases h:0<x
  ·exact h
  ·have:=Rat.mul_nonneg (show 0≤-x by grind) (Rat.le_of_lt h2)
   grind
 rcases hc.det with ⟨g1,g2⟩ | ⟨g1,g2⟩
 ·refine .inl ⟨g1,?_,?_⟩
  ·have:=Rat.mul_pos (show 0<cfr a N - (K:Rat) by grind) (show 0 < -er a N by grind)
   have:=lt_of (x:=a - Y) (by rw [e2];grind) hsp
   grind
  ·have:=lt_of (x:=X - a) (by grind) hqp
   grind
 ·refine .inr ⟨g1,?_,?_⟩
  ·have:=lt_of (x:=a - X) (by rw [e1];exact g2) hqp
   grind
  ·have:=Rat.mul_pos (show 0<cfr a N - (K:Rat) by grind) g2
   have:=lt_of (x:=Y - a) (by grind) hsp
   grind
end Nm
namespace Z4
open Go.RowKit Go.Sort Go.Lib
end Z4
namespace Rx
open Go.RowKit
inductive At
 | q
 | r
 | o
def At.n:At→Nat
 | .q=>5
 | _=>4
def XT:List Cell:=[.bl false,.nils,.bl false,.nils]
def At.cells:At→Nat→List Cell
 | .q,s=>aJ s
 | .r,s=>bV s
 | .o,_=>XT
def At.fact:At→Nat→RE→Nat→List Fc
 | .q,s,e,k=>[.q s e k]
 | .r,s,e,k=>[.r s e k]
 | .o,_,_,_=>[]
def zU:List Cell→Option (RE×Nat)
 | [.bl false,.nils,.bl false,.nils]=>some (.c 0,0)
 | _=>none
def At.parse (db:List Fc):At→List Cell→Option (RE×Nat)
 | .q,cs=>bZ db cs
 | .r,cs=>jK db cs
 | .o,cs=>zU cs
section
variable {β β':Nat→Rat} {ρ:Env} {W:World} {db:List Fc}
theorem At.name {a:At} {cs:List Cell} {e:RE} {k:Nat} (h:a.parse db cs=some (e,k)) (hf:∀ f∈db,(SQ β).on ρ f W):∃ c d:Nv,∀ (ρ':Env) s,ρ' s=c→ρ' (s+1)=d →
  (a.cells s).map (Cell.den ρ')=cs.map (Cell.den ρ)∧∀ (β':Nat→Rat) e' k',e'.ev β' = e.ev β→k≤k'→∀ f∈a.fact s e' k',(SQ β').on ρ' f W:=by
 cases a with
 | q =>
  obtain ⟨h1,c,d,h2⟩:=dJ h hf
  refine ⟨c,d,fun ρ' s hc hd=>?_⟩
  have h3:(aJ s).map (Cell.den ρ')=cs.map (Cell.den ρ):=by
   have:=congrArg Array.toList (Value.agg.inj h2)
   simp only at this
   rw [this]
   simp [aJ,Cell.den,hc,hd]
  refine ⟨h3,fun β' e' k' he hk f hm=>?_⟩
  simp only [At.fact,List.mem_singleton] at hm
  subst hm
  show IsQ W (.agg ((aJ s).map (Cell.den ρ')).toArray) (e'.ev β')∧Fits k' (e'.ev β')
  rw [h3,he]
  exact ⟨h1.1,h1.2.mono hk⟩
 | r =>
  obtain ⟨h1,h1'⟩:=LU h hf
  obtain ⟨c,d,h2⟩:=Dx h1
  refine ⟨c,d,fun ρ' s hc hd=>?_⟩
  have h3:(bV s).map (Cell.den ρ')=cs.map (Cell.den ρ):=by
   have:=congrArg Array.toList (Value.agg.inj h2)
   simp only at this
   rw [this]
   simp [bV,Cell.den,hc,hd]
  refine ⟨h3,fun β' e' k' he hk f hm=>?_⟩
  simp only [At.fact,List.mem_singleton] at hm
  subst hm
  show Z4.IsR W (.agg ((bV s).map (Cell.den ρ')).toArray) (e'.ev β')∧Fits k' (e'.ev β')
  rw [h3,he]
  exact ⟨h1,h1'.mono hk⟩
 | o =>
  refine ⟨default,default,fun ρ' s _ _=>⟨?_,fun β' e' k' _ _ f hm=>by cases hm⟩⟩
  simp only [At.parse] at h
  unfold zU at h
  split at h
  ·rfl
  ·cases h
def gW (db:List Fc):List At→List Cell→Option (List (RE×Nat))
 | [],[]=>some []
 | [],_ :: _=>none
 | a :: r,cs=>match a.parse db (cs.take a.n),gW db r (cs.drop a.n) with
  | some x,some l=>some (x :: l)
  | _,_=>none
def lI:List At→Nat→List Cell
 | [],_=>[]
 | a :: r,s=>a.cells s ++ lI r (s+2)
def gu:List At→Nat→List (RE×Nat)→List Fc
 | a :: r,s,x :: l=>a.fact s x.1 x.2 ++ gu r (s+2) l
 | _,_,_=>[]
def rel (β' β:Nat→Rat):List (RE×Nat)→List (RE×Nat)→Prop
 | [],[]=>True
 | x :: l,y :: m=>(x.1.ev β' = y.1.ev β∧y.2≤x.2)∧rel β' β l m
 | _,_=>False
theorem IZ {β' β:Nat→Rat}:∀ {a b:List (RE×Nat)} {l:List (RE×Nat)},rel β' β l (a ++ b)→rel β' β (l.take a.length) a∧rel β' β (l.drop a.length) b
 | [],b,l,h=>by simpa [rel] using h
 | x :: a,b,[],h=>by simp [rel] at h
 | x :: a,b,y :: l,h=>by
  obtain ⟨h1,h2⟩:(y.1.ev β' = x.1.ev β∧x.2≤y.2)∧rel β' β l (a ++ b):=h
  obtain ⟨h3,h4⟩:=IZ h2
  exact ⟨⟨h1,h3⟩,h4⟩
theorem CX:∀ {t:List At} {cs:List Cell} {xs:List (RE×Nat)},gW db t cs=some xs→xs.length=t.length
 | [],[],xs,h=>by simp [gW] at h;subst h;rfl
 | [],_ :: _,xs,h=>by simp [gW] at h
 | a :: r,cs,xs,h=>by
  simp only [gW] at h
  split at h
  ·rename_i x l h1 h2
   cases h
   simp [CX h2]
  ·cases h
theorem Cc (hf:∀ f∈db,(SQ β).on ρ f W):∀ {t:List At} {cs:List Cell} {xs:List (RE×Nat)},gW db t cs=some xs→∃ L:List Nv,L.length=2*t.length∧∀ (ρ':Env) s,(∀ i,i<2*t.length→ρ' (s+i)=L[i]?.getD default) →
  (lI t s).map (Cell.den ρ')=cs.map (Cell.den ρ)∧∀ (β':Nat→Rat) xs',rel β' β xs' xs→∀ f∈gu t s xs',(SQ β').on ρ' f W
 | [],[],xs,h=>⟨[],rfl,fun ρ' s _=>⟨rfl,fun β' xs' _ f hm=>by simp [gu] at hm⟩⟩
 | [],_ :: _,xs,h=>by simp [gW] at h
 | a :: r,cs,xs,h=>by
  simp only [gW] at h
  split at h
  ·rename_i x l h1 h2
   cases h
   obtain ⟨c,d,h3⟩:=At.name (e:=x.1) (k:=x.2) h1 hf
   obtain ⟨L,h4,h5⟩:=Cc hf h2
   refine ⟨c :: d :: L,by simp [h4];omega,fun ρ' s hρ=>?_⟩
   have c0:=hρ 0 (by simp <;> omega)
   have d0:=hρ 1 (by simp <;> omega)
   obtain ⟨g1,g2⟩:=h3 ρ' s (by simpa using c0) (by simpa using d0)
   obtain ⟨g3,g4⟩:=h5 ρ' (s+2) (fun i hi=>by
    have:=hρ (2+i) (by simp <;> omega)
    rw [← Nat.add_assoc,show 2+i=i+1+1 by omega] at this
    simpa using this)
   refine ⟨?_,fun β' xs' hr f hm=>?_⟩
   ·simp only [lI,List.map_append,g1,g3]
    rw [← List.map_append,List.take_append_drop]
   ·cases xs' with
    | nil=>simp [rel] at hr
    | cons y l' =>
     obtain ⟨⟨r1,r2⟩,r3⟩:=hr
     simp only [gu,List.mem_append] at hm
     rcases hm with hm | hm
     ·exact g2 β' _ _ r1 r2 f hm
     ·exact g4 β' l' r3 f hm
  ·cases h
def jw (db:List Fc):List (List At)→List SV→Option (List (RE×Nat))
 | [],[]=>some []
 | t :: r,.e (.a cs) :: l=>match gW db t cs,jw db r l with
  | some x,some y=>some (x ++ y)
  | _,_=>none
 | _,_=>none
def qA:List (List At)→Nat→List SV
 | [],_=>[]
 | t :: r,s=>.e (.a (lI t s)) :: qA r (s+2*t.length)
theorem FY:∀ {t r:List At} {s:Nat} {xs:List (RE×Nat)} {f:Fc},f∈gu (t ++ r) s xs→f∈gu t s (xs.take t.length)∨f∈gu r (s+2*t.length) (xs.drop t.length)
 | [],r,s,xs,f,h=>.inr (by simpa using h)
 | a :: t,r,s,[],f,h=>by simp [gu] at h
 | a :: t,r,s,x :: xs,f,h=>by
  simp only [List.cons_append,gu,List.mem_append] at h
  simp only [List.length_cons,List.take_succ_cons,List.drop_succ_cons,gu,List.mem_append]
  rcases h with h | h
  ·exact .inl (.inl h)
  ·rcases FY h with h | h
   ·exact .inl (.inr h)
   ·exact .inr (by rwa [show s+2*(t.length+1)=s+2+2*t.length by omega])
theorem Iy:∀ {ts:List (List At)} {args:List SV} {xs:List (RE×Nat)},jw db ts args=some xs→xs.length=ts.flatten.length
 | [],[],xs,h=>by simp [jw] at h;subst h;rfl
 | [],_ :: _,xs,h=>by simp [jw] at h
 | t :: r,[],xs,h=>by simp [jw] at h
 | t :: r,x :: l,xs,h=>by
  unfold jw at h
  split at h
  ·rename_i heq _;cases heq
  ·rename_i heq1 heq2
   cases heq1;cases heq2
   split at h
   ·rename_i x y g1 g2
    cases h
    simp [CX g1,Iy g2]
   ·cases h
  ·cases h
theorem H9 (hf:∀ f∈db,(SQ β).on ρ f W):∀ {ts:List (List At)} {args:List SV} {xs:List (RE×Nat)},jw db ts args=some xs→∃ L:List Nv,L.length=2*ts.flatten.length∧∀ (ρ':Env) s,(∀ i,i<2*ts.flatten.length→ρ' (s+i)=L[i]?.getD default) →
  (qA ts s).map (SV.den ρ')=args.map (SV.den ρ)∧∀ (β':Nat→Rat) xs',rel β' β xs' xs→∀ f∈gu ts.flatten s xs',(SQ β').on ρ' f W
 | [],[],xs,h=>⟨[],rfl,fun ρ' s _=>⟨rfl,fun β' xs' _ f hm=>by simp [gu] at hm⟩⟩
 | [],_ :: _,xs,h=>by simp [jw] at h
 | t :: r,[],xs,h=>by simp [jw] at h
 | t :: r,x :: l,xs,h=>by
  unfold jw at h
  split at h
  ·rename_i heq _;cases heq
  ·rename_i _ _ cs _ heq1 heq2
   cases heq1;cases heq2
   split at h
   ·rename_i x y h1 h2
    cases h
    obtain ⟨L,h3,h4⟩:=Cc hf h1
    obtain ⟨L',h5,h6⟩:=H9 hf h2
    refine ⟨L ++ L',by simp [h3,h5,Nat.mul_add],fun ρ' s hρ=>?_⟩
    obtain ⟨g1,g2⟩:=h4 ρ' s (fun i hi=>by
     have:=hρ i (by simp <;> omega)
     rwa [List.getElem?_append_left (by omega)] at this)
    obtain ⟨g3,g4⟩:=h6 ρ' (s+2*t.length) (fun i hi=>by
     have:=hρ (2*t.length+i) (by simp;simp at hi;omega)
     rw [List.getElem?_append_right (by omega),h3,Nat.add_sub_cancel_left,← Nat.add_assoc] at this
     exact this)
    refine ⟨?_,fun β' xs' hr f hm=>?_⟩
    ·simp only [qA,List.map_cons,g3]
     congr 1
     simp only [SV.den,El.den,g1]
    ·obtain ⟨r1,r2⟩:=IZ hr
     rw [CX h1] at r1 r2
     rcases FY (t:=t) (r:=r.flatten) (by simpa using hm) with hm | hm
     ·exact g2 β' _ r1 f hm
     ·exact g4 β' _ r2 f hm
   ·cases h
  ·cases h
end
def RE.sub' (es:List RE):RE→RE
 | .v n=>es.getD n (.c 0)
 | .c n=>.c n
 | .add a b=>.add (a.sub' es) (b.sub' es)
 | .sub a b=>.sub (a.sub' es) (b.sub' es)
 | .mul a b=>.mul (a.sub' es) (b.sub' es)
 | .div a b=>.div (a.sub' es) (b.sub' es)
 | .neg a=>.neg (a.sub' es)
 | .abs a=>.abs (a.sub' es)
 | .flo a=>.flo (a.sub' es)
 | .num a=>.num (a.sub' es)
 | .den a=>.den (a.sub' es)
 | .rt a=>.rt (a.sub' es)
def put (β:Nat→Rat) (es:List RE):Nat→Rat:=fun n=>(es.getD n (.c 0)).ev β
theorem kE {β:Nat→Rat} {es:List RE} (e:RE):(e.sub' es).ev β=e.ev (put β es):=by
 induction e with
 | v n=>rfl
 | c n=>rfl
 | add a b ih1 ih2=>show (a.sub' es).ev β+(b.sub' es).ev β=_;rw [ih1,ih2];rfl
 | sub a b ih1 ih2=>show (a.sub' es).ev β - (b.sub' es).ev β=_;rw [ih1,ih2];rfl
 | mul a b ih1 ih2=>show (a.sub' es).ev β*(b.sub' es).ev β=_;rw [ih1,ih2];rfl
 | div a b ih1 ih2=>show (a.sub' es).ev β / (b.sub' es).ev β=_;rw [ih1,ih2];rfl
 | neg a ih=>show -(a.sub' es).ev β=_;rw [ih];rfl
 | abs a ih=>show (if ((a.sub' es).ev β).num<0 then -(a.sub' es).ev β else (a.sub' es).ev β)=_;rw [ih];rfl
 | flo a ih=>show ((((a.sub' es).ev β).num / (((a.sub' es).ev β).den:Int):Int):Rat)=_;rw [ih];rfl
 | num a ih=>show (((a.sub' es).ev β).num:Rat)=_;rw [ih];rfl
 | den a ih=>show (((((a.sub' es).ev β).den:Nat):Int):Rat)=_;rw [ih];rfl
 | rt a ih=>show (((isq ((a.sub' es).ev β).num.natAbs:Nat):Int):Rat)=_;rw [ih];rfl
def RE.plain:RE→RE
 | .sub a b=>.add a.plain (.neg b.plain)
 | .add a b=>.add a.plain b.plain
 | .mul a b=>.mul a.plain b.plain
 | .div a b=>.div a.plain b.plain
 | .neg a=>.neg a.plain
 | e=>e
theorem IC {β:Nat→Rat} (e:RE):e.plain.ev β=e.ev β:=by
 induction e with
 | add a b ih1 ih2=>show a.plain.ev β+b.plain.ev β=_;rw [ih1,ih2];rfl
 | sub a b ih1 ih2=>show a.plain.ev β + -b.plain.ev β=a.ev β - b.ev β;rw [ih1,ih2,Rat.sub_eq_add_neg]
 | mul a b ih1 ih2=>show a.plain.ev β*b.plain.ev β=_;rw [ih1,ih2];rfl
 | div a b ih1 ih2=>show a.plain.ev β / b.plain.ev β=_;rw [ih1,ih2];rfl
 | neg a ih=>show -a.plain.ev β=_;rw [ih];rfl
 | _=>rfl
def alike (k:Nat):List RE→List (RE×Nat)→Bool
 | [],[]=>true
 | o :: l,y :: m=>(o.plain.beq y.1.plain && decide (y.2≤k)) && alike k l m
 | _,_=>false
theorem EH {β:Nat→Rat} {es:List RE} {k:Nat}:∀ {os:List RE} {ys:List (RE×Nat)},alike k os ys=true→rel β (put β es) (os.map fun o=>(o.sub' es,k)) ys
 | [],[],_=>trivial
 | [],_ :: _,h=>by simp [alike] at h
 | _ :: _,[],h=>by simp [alike] at h
 | o :: os,y :: ys,h=>by
  simp only [alike,Bool.and_eq_true,decide_eq_true_eq] at h
  refine ⟨⟨?_,h.1.2⟩,EH h.2⟩
  rw [kE,← IC o,RE.beq_eq h.1.1,IC]
inductive Kc
 | i (n:Int)
 | z
def Kc.el:Kc→El
 | .i n=>.s (.it .i64 n)
 | .z=>.s .nils
def Kc.is:Kc→El→Bool
 | .i n,.s (.it .i64 m)=>decide (n=m)
 | .z,.s .nils=>true
 | _,_=>false
theorem Kc.is_eq {a:Kc} {x:El} (h:a.is x=true):x=a.el:=by
 unfold Kc.is at h
 split at h
 ·rw [of_decide_eq_true h];rfl
 ·rfl
 ·cases h
def kcs:List Kc→List El→Bool
 | [],[]=>true
 | a :: l,x :: r=>a.is x && kcs l r
 | _,_=>false
theorem xA:∀ {l:List Kc} {r:List El},kcs l r=true→r=l.map Kc.el
 | [],[],_=>rfl
 | a :: l,x :: r,h=>by
  simp only [kcs,Bool.and_eq_true] at h
  rw [Kc.is_eq h.1,xA h.2];rfl
 | [],_ :: _,h=>by simp [kcs] at h
 | _ :: _,[],h=>by simp [kcs] at h
def CU (l:List Kc):Option (SV×List Fc)→Bool
 | some (.e x,_)=>kcs l [x]
 | some (.t r,_)=>decide (2≤l.length) && kcs l r
 | _=>false
theorem UQ {l:List Kc} {o:Option (SV×List Fc)} (h:CU l o=true):∃ fs,o=some (mW (l.map Kc.el),fs):=by
 unfold CU at h
 split at h
 ·rename_i x fs
  rw [← xA h];exact ⟨fs,rfl⟩
 ·rename_i r fs
  simp only [Bool.and_eq_true,decide_eq_true_eq] at h
  rw [← xA h.2]
  have hl:=congrArg List.length (xA h.2)
  rw [List.length_map] at hl
  match r,hl with
  | [],hl=>simp at hl;omega
  | [_],hl=>simp at hl;omega
  | _ :: _ :: _,_=>exact ⟨fs,rfl⟩
 ·cases h
theorem Sl (l:List Kc) (ρ ρ':Env):(mW (l.map Kc.el)).den ρ=(mW (l.map Kc.el)).den ρ':=by
 have h:∀ l:List Kc,(l.map Kc.el).map (El.den ρ)=(l.map Kc.el).map (El.den ρ'):=fun l=>by
  rw [List.map_map,List.map_map]
  exact List.map_congr_left fun a _=>by cases a <;> rfl
 match l with
 | []=>rfl
 | [a]=>cases a <;> rfl
 | a :: b :: r =>
  show SV.den ρ (.t ((a :: b :: r).map Kc.el))=SV.den ρ' (.t ((a :: b :: r).map Kc.el))
  simp only [SV.den]
  rw [h]
inductive Rs
 | at (t:List At) (os:List RE)
 | atb (t:List At) (os:List RE) (x:Bool)
 | bl (x:Bool)
 | ati (t:List At) (os:List RE) (n:Int)
 | ks (l:List Kc)
def Rs.sv (b:Nat):Rs→SV
 | .at t _=>.e (.a (lI t b))
 | .atb t _ x=>.t [.a (lI t b),.s (.bl x)]
 | .bl x=>.e (.s (.bl x))
 | .ati t _ n=>.t [.a (lI t b),.s (.it .i64 n)]
 | .ks l=>mW (l.map Kc.el)
def Rs.fs (ko b:Nat) (es:List RE):Rs→List Fc
 | .at t os | .atb t os _ | .ati t os _=>gu t b (os.map fun o=>(o.sub' es,ko))
 | .bl _ | .ks _=>[]
def Rs.small:Rs→Bool
 | .at t _ | .atb t _ _ | .ati t _ _=>decide (2*t.length≤M)
 | .bl _ | .ks _=>true
def outA (ko:Nat) (t:List At) (os:List RE):Option (SV×List Fc)→Bool
 | some (.e (.a cs),fs)=>match gW fs t cs with
  | some ys=>alike ko os ys
  | none=>false
 | _=>false
def CQ (ko:Nat) (t:List At) (os:List RE) (x:Bool):Option (SV×List Fc)→Bool
 | some (.t [.a cs,.s (.bl y)],fs)=>match gW fs t cs with
  | some ys=>x == y && alike ko os ys
  | none=>false
 | _=>false
def CS (ko:Nat) (t:List At) (os:List RE) (n:Int):Option (SV×List Fc)→Bool
 | some (.t [.a cs,.s (.it .i64 m)],fs)=>match gW fs t cs with
  | some ys=>decide (m=n) && alike ko os ys
  | none=>false
 | _=>false
theorem UO {ko:Nat} {t:List At} {os:List RE} {n:Int} {o:Option (SV×List Fc)} (h:CS ko t os n o=true):∃ cs fs ys,o=some (.t [.a cs,.s (.it .i64 n)],fs)∧gW fs t cs=some ys∧alike ko os ys=true:=by
 unfold CS at h
 split at h
 ·split at h
  ·rename_i cs m fs _ ys hp
   simp only [Bool.and_eq_true,decide_eq_true_eq] at h
   exact ⟨cs,fs,ys,by rw [h.1],hp,h.2⟩
  ·cases h
 ·cases h
def RQ (ko:Nat):Rs→Option (SV×List Fc)→Bool
 | .at t os,o=>outA ko t os o
 | .atb t os x,o=>CQ ko t os x o
 | .bl x,o=>isB x o
 | .ati t os n,o=>CS ko t os n o
 | .ks l,o=>CU l o
theorem UM {ko:Nat} {t:List At} {os:List RE} {o:Option (SV×List Fc)} (h:outA ko t os o=true):∃ cs fs ys,o=some (.e (.a cs),fs)∧gW fs t cs=some ys∧alike ko os ys=true:=by
 unfold outA at h
 split at h
 ·split at h
  ·rename_i cs fs _ ys hp;exact ⟨cs,fs,ys,rfl,hp,h⟩
  ·cases h
 ·cases h
theorem UN {ko:Nat} {t:List At} {os:List RE} {x:Bool} {o:Option (SV×List Fc)} (h:CQ ko t os x o=true):∃ cs fs ys,o=some (.t [.a cs,.s (.bl x)],fs)∧gW fs t cs=some ys∧alike ko os ys=true:=by
 unfold CQ at h
 split at h
 ·split at h
  ·rename_i cs y fs _ ys hp
   simp only [Bool.and_eq_true,beq_iff_eq] at h
   exact ⟨cs,fs,ys,by rw [h.1],hp,h.2⟩
  ·cases h
 ·cases h
def hintB (h H0:Hint) (es:List RE):Bool:=
 H0.eq.all (fun p=>eqB h (p.1.sub' es) (p.2.sub' es)) && H0.ne.all (fun p=>h.ne.any fun x=>x.1.beq (p.1.sub' es) && x.2.beq (p.2.sub' es)) && H0.nz.all (fun p=>nzB h (p.sub' es)) && H0.sg.all (fun p=>sgB h (p.1.sub' es) == some p.2) && H0.cm.all (fun p=>cmB h (p.1.sub' es) (p.2.1.sub' es) == some p.2.2)
theorem QK {β:Nat→Rat} {h H0:Hint} {es:List RE} (hh:hintB h H0 es=true) (ok:h.Ok β):H0.Ok (put β es):=by
 unfold hintB at hh
 simp only [Bool.and_eq_true,List.all_eq_true] at hh
 obtain ⟨⟨⟨⟨h1,h2⟩,h3⟩,h4⟩,h5⟩:=hh
 refine ⟨fun p hp=>?_,fun p hp=>?_,fun p hp=>?_,fun p hp=>?_,fun p hp=>?_⟩
 ·rw [← kE,← kE];exact oH ok (h1 p hp)
 ·obtain ⟨x,hx,h6⟩:=List.any_eq_true.1 (h2 p hp)
  simp only [Bool.and_eq_true] at h6
  rw [← kE,← kE,← RE.beq_eq h6.1,← RE.beq_eq h6.2]
  exact ok.2.1 x hx
 ·rw [← kE];exact uI ok (h3 p hp)
 ·rw [← kE];exact Jw ok (by simpa using h4 p hp)
 ·rw [← kE,← kE];exact oh ok (by simpa using h5 p hp)
def vars (k:Nat):Nat→Nat→List (RE×Nat)
 | _,0=>[]
 | i,n+1=>(.v i,k) :: vars k (i+1) n
theorem J5 {β:Nat→Rat} {es:List RE} {k:Nat}:∀ {xs:List (RE×Nat)} {i:Nat},(∀ j x,xs[j]? = some x→(es.getD (i+j) (.c 0))=x.1∧x.2≤k)→rel (put β es) β (vars k i xs.length) xs
 | [],i,_=>trivial
 | x :: xs,i,h=>by
  have h0:=h 0 x rfl
  refine ⟨⟨?_,h0.2⟩,J5 fun j y hy=>?_⟩
  ·show (es.getD i (.c 0)).ev β=_
   rw [← h0.1];rfl
  ·have:=h (j+1) y (by simpa using hy)
   rwa [show i+1+j=i+(j+1) by omega]
def aZ (β:Nat→Rat) (h:Hint) (f:FuncId) (ins:List (List At)) (kin:Nat) (H0:Hint) (out:Rs) (ko:Nat):Con (SQ β) where
 fn:=f
 app:=fun db b args=>match jw db ins args with
  | some xs=>if xs.all (fun x=>decide (x.2≤kin)) && hintB h H0 (xs.map (·.1)) then some (out.sv b,out.fs ko b (xs.map (·.1))) else none
  | none=>none
theorem zS {ko:Nat} {β γ:Nat→Rat} {es:List RE} {ρ ρ':Env} {W':World} {fs':List Fc} {t:List At} {cs:List Cell} {ys:List (RE×Nat)} {os:List RE} {b:Nat} (hg:γ=put β es) (hp:gW fs' t cs=some ys) (ha:alike ko os ys=true) (hs:2*t.length≤M) (hfs:∀ g∈fs',(SQ γ).on ρ' g W') :
  ∃ ρ'':Env,(∀ n,n<b∨b+M≤n→ρ'' n=ρ n)∧(lI t b).map (Cell.den ρ'')=cs.map (Cell.den ρ')∧∀ g∈gu t b (os.map fun o=>(o.sub' es,ko)),(SQ β).on ρ'' g W':=by
 subst hg
 obtain ⟨L,hL,hn⟩:=Cc hfs hp
 obtain ⟨h1,h2⟩:=hn (aQ ρ b L) b (fun i hi=>by
  unfold aQ
  rw [if_pos (by omega),Nat.add_sub_cancel_left,List.getElem?_eq_getElem (by omega)];rfl)
 exact ⟨aQ ρ b L,jB (by omega),h1,h2 β _ (EH ha)⟩
theorem Ny {β:Nat→Rat} {h:Hint} {f:FuncId} {ins:List (List At)} {kin:Nat} {H0:Hint} {out:Rs} {ko:Nat} (ok:h.Ok β) (hs:out.small=true)
  (run:∀ γ:Nat→Rat,H0.Ok γ→∃ (H1:Hint) (ok1:H1.Ok γ) (fuel:Nat) (cons:List (Con (SQ γ))),(∀ c∈cons,c.Ok Tryz.prog (SQ γ) EV)∧RQ ko out (bG Tryz.prog (SQ γ) (HQ γ H1 ok1) cons fuel f (qA ins 0) (gu ins.flatten 0 (vars kin 0 ins.flatten.length)) (2*ins.flatten.length))=true) :
  (aZ β h f ins kin H0 out ko).Ok Tryz.prog (SQ β) EV:=by
 refine Con.ok0 rfl ?_
 intro db b args res new ha ρ W hf hE
 simp only [aZ] at ha
 split at ha
 ·rename_i xs hx
  split at ha
  ·rename_i hh
   simp only [Bool.and_eq_true,List.all_eq_true,decide_eq_true_eq] at hh
   cases ha
   obtain ⟨es,hes⟩:∃ es,xs.map (·.1)=es:=⟨_,rfl⟩
   rw [hes] at hh ⊢
   obtain ⟨H1,ok1,fuel,cons,hc,hr⟩:=run (put β es) (QK hh.2 ok)
   obtain ⟨L,hL,hn⟩:=H9 hf hx
   obtain ⟨h1,h2⟩:=hn (fun i=>L[i]?.getD default) 0 (fun i hi=>by simp)
   have hlen:=Iy hx
   have hfacts:=h2 (put β es) (vars kin 0 ins.flatten.length) (by
    rw [← hlen]
    refine J5 fun j x hj=>⟨?_,hh.1 x (List.mem_of_getElem? hj)⟩
    rw [← hes,Nat.zero_add,List.getD_eq_getElem?_getD,List.getElem?_map,hj];rfl)
   rw [← h1]
   cases out with
   | «at» t os =>
    have hs':2*t.length≤M:=by simpa [Rs.small] using hs
    obtain ⟨cs,fs',ys,hrun,hp,hr⟩:=UM hr
    refine (iI mixed hc hrun (je hE) hfacts).mono fun x W' ⟨ρ',_,hx',hb,hfs⟩=>?_
    obtain ⟨ρ'',a1,a2,a3⟩:=zS (ρ:=ρ) (b:=b) rfl hp hr hs' hfs
    exact ⟨ρ'',a1,by rw [hx'];simp only [Rs.sv,SV.den,El.den,a2],hb,a3⟩
   | atb t os y =>
    have hs':2*t.length≤M:=by simpa [Rs.small] using hs
    obtain ⟨cs,fs',ys,hrun,hp,hr⟩:=UN hr
    refine (iI mixed hc hrun (je hE) hfacts).mono fun x W' ⟨ρ',_,hx',hb,hfs⟩=>?_
    obtain ⟨ρ'',a1,a2,a3⟩:=zS (ρ:=ρ) (b:=b) rfl hp hr hs' hfs
    exact ⟨ρ'',a1,by rw [hx'];simp only [Rs.sv,SV.den,El.den,List.map_cons,List.map_nil,a2];rfl,hb,a3⟩
   | bl y =>
    obtain ⟨fs',hrun⟩:=BH hr
    refine (iI mixed hc hrun (je hE) hfacts).mono fun x W' ⟨ρ',_,hx',hb,hfs⟩=>⟨ρ,fun _ _=>rfl,?_,hb,fun g hg=>by cases hg⟩
    rw [hx'];rfl
   | ati t os y =>
    have hs':2*t.length≤M:=by simpa [Rs.small] using hs
    obtain ⟨cs,fs',ys,hrun,hp,hr⟩:=UO hr
    refine (iI mixed hc hrun (je hE) hfacts).mono fun x W' ⟨ρ',_,hx',hb,hfs⟩=>?_
    obtain ⟨ρ'',a1,a2,a3⟩:=zS (ρ:=ρ) (b:=b) rfl hp hr hs' hfs
    exact ⟨ρ'',a1,by rw [hx'];simp only [Rs.sv,SV.den,El.den,List.map_cons,List.map_nil,a2];rfl,hb,a3⟩
   | ks l =>
    obtain ⟨fs',hrun⟩:=UQ hr
    exact (iI mixed hc hrun (je hE) hfacts).mono fun x W' ⟨ρ',_,hx',hb,hfs⟩=>⟨ρ,fun _ _=>rfl,by rw [hx'];exact congrArg _ (Sl l _ _),hb,fun g hg=>by cases hg⟩
  ·cases ha
 ·cases ha
abbrev Q3:List At:=[.q,.q,.q]
end Rx
namespace Z4
open Go.RowKit Go.Sort Go.Lib
end Z4
namespace Rx
open Go.RowKit
section
variable (β:Nat→Rat) (h:Hint)
def Fe (f:FuncId) (op:RE→RE) (side:RE→Bool):Con (SQ β) where
 fn:=f
 app:=fun db b args=>match args with
  | [.e (.a x)]=>match jK db x with
   | some (e,k)=>if decide (k≤K2) && side e then some (.e (.a (bV b)),[.r b (op e) k]) else none
   | none=>none
  | _=>none
def AL (f:FuncId) (op:RE→RE→RE) (sz:Nat→Nat→Nat) (side:RE→RE→Bool):Con (SQ β) where
 fn:=f
 app:=fun db b args=>match args with
  | [.e (.a x),.e (.a y)]=>match jK db x,jK db y with
   | some (e,k),some (e',k')=>if decide (k≤K2) && decide (k'≤K2) && side e e' then some (.e (.a (bV b)),[.r b (op e e') (sz k k')]) else none
   | _,_=>none
  | _=>none
def NP:Con (SQ β) where
 fn:=31
 app:=fun db _ args=>match args with
  | [.e (.a x),.e (.a y)]=>match jK db x,jK db y with
   | some (e,k),some (e',k')=>if decide (k≤K2) && decide (k'≤K2) then (match cmB h e e' with
     | some n=>some (.e (.s (.it .i64 n)),[])
     | none=>none) else none
   | _,_=>none
  | _=>none
def NR:Con (SQ β) where
 fn:=16
 app:=fun db _ args=>match args with
  | [.e (.a x)]=>match jK db x with
   | some (e,k)=>if k≤K2 then (match sgB h e with
     | some n=>some (.e (.s (.it .i64 n)),[])
     | none=>none) else none
   | none=>none
  | _=>none
def NQ:Con (SQ β) where
 fn:=19
 app:=fun _ b args=>match args with
  | [.e (.s (.it .i64 1))]=>some (.e (.a (bV b)),[.r b (.c 1) 1])
  | [.e (.s (.it .i64 2))]=>some (.e (.a (bV b)),[.r b (.c 2) 1])
  | _=>none
def wz:Con (SQ β) where
 fn:=90
 app:=fun db b args=>match args with
  | [.e (.a x)]=>match bZ db x with
   | some (e,k)=>if k≤K0 then some (.e (.s (.ot b)),[.x b e]) else none
   | none=>none
  | _=>none
def NS:Con (SQ β) where
 fn:=91
 app:=fun db b args=>match args with
  | [.e (.a x)]=>match jK db x with
   | some (e,k)=>if k≤K0 then some (.e (.s (.ot b)),[.x b e]) else none
   | none=>match zU x with
    | some _=>some (.e (.s (.ot b)),[.x b (.c 0)])
    | none=>none
  | _=>none
def NW:List (Con (SQ β)):=[AL β 21 .add (fun a b=>a+b+1) (fun _ _=>true),AL β 25 .mul (fun a b=>a+b) (fun _ _=>true),AL β 17 .div (fun a b=>a+b+1) (fun _ e=>nzB h e),
 Fe β 27 .neg (fun _=>true),Fe β 29 .abs (fun _=>true),NP β h,NR β h,NQ β,wz β,NS β]
def c0:List (Con (SQ β)):=NW β h ++ cq β h
end
section
variable {β:Nat→Rat} {h:Hint} {f:FuncId} {vals:Array Value} {W:World} {ρ:Env} {b:Nat}
theorem EJ {e:RE} {k:Nat} (hc:Calls Tryz.prog f vals W (Z4.nS W (e.ev β))) (hk:Fits k (e.ev β)):Calls Tryz.prog f vals W (Ans β ρ b W (.e (.a (bV b))) [.r b e k]):=by
 refine hc.mono fun _ W' ⟨v,he,hv,hb⟩=>?_
 obtain ⟨c,d,rfl⟩:=Dx hv
 have h1:(bV b).map (Cell.den (aQ ρ b [c,d]))=[.bool c.b,.slice c.p c.l c.c,.bool false,.slice d.p d.l d.c]:=by simp [bV,Cell.den,aQ]
 refine ⟨aQ ρ b [c,d],jB (by simp [M]),?_,hb,fun g hg=>?_⟩
 ·rw [he];simp only [SV.den,El.den,h1]
 ·rw [List.mem_singleton] at hg
  subst hg
  exact ⟨by rw [h1];exact hv,hk⟩
theorem LM {e:RE} {l:List UInt8} (hc:Calls Tryz.prog f vals W (iT W l)) (hl:l=jT (e.ev β)):Calls Tryz.prog f vals W (Ans β ρ b W (.e (.s (.ot b))) [.x b e]):=by
 refine hc.mono fun _ W' ⟨he,hb⟩=>?_
 refine ⟨aQ ρ b [⟨false,0,none,0,0,⟨l.toArray⟩,0,default⟩],jB (by simp [M]),?_,hb,fun g hg=>?_⟩
 ·rw [he];simp [SV.den,El.den,Cell.den,aQ]
 ·rw [List.mem_singleton] at hg
  subst hg
  show (aQ ρ b _ b).t=_
  rw [← hl]
  simp [aQ]
theorem NV:(wz β).Ok Tryz.prog (SQ β) EV:=by
 refine Con.ok0 rfl ?_
 intro db b args res new ha ρ W hf hE
 simp only [wz] at ha
 split at ha
 ·split at ha
  ·rename_i e k hx
   split at ha
   ·rename_i hk
    cases ha
    obtain ⟨⟨h1,h2⟩,-⟩:=dJ hx hf
    exact LM (Ep _ _ k W h1 hk h2 hE.ten) rfl
   ·cases ha
  ·cases ha
 ·cases ha
end
end Rx
end Go.Proofs.YthalajpklaodkaaGreatDoor
