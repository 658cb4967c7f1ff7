/- What the proof rests on, part 18. -/
import Derived.Test.YtmijlcldmefggaaGreatDoorZ17
import Derived.Test.YtmijlcldmefggaaGreatDoorZ11
import Derived.Sort.Row
import Derived.Sort.Walk0
import Derived.Deep.Draws
import Derived.CellFam
import Derived.Deep.OwnRows
import Derived.Laws.IdiomCopy
import Derived.Lib.RowBridge
import Derived.Laws.AppendOwnNone
import Derived.Test.YtmijlcldmefggaaGreatDoorZ02
import Derived.Lib.ItoaMem
namespace Go.Proofs.YtmijlcldmefggaaGreatDoor
set_option maxRecDepth 100000
set_option maxHeartbeats 80000000
section
open Go.RowKit Go.Sort
namespace Rx
def eI (t:Bool) (i:Nat) (n:Int):En:=⟨44,[.c [.b t,.m i]],.i n⟩
def eD (a b:Int):En:=⟨64,[.i a,.i b],.i (cmpZ a b)⟩
section
variable {T:World→Prop} {β:Nat→Nat} {r:Rat}
theorem eI_ok {t:Bool} {i:Nat} {n:Int} (h:sgn t (β i)=n):(eI t i n).Ok T β r:=en_sgn h
theorem eD_ok {a b:Int}:(eD a b).Ok T β r:=en_cmp fun W=>Comparei_calls a b W
def cmpL:List (Bool×Int):=[(true,-1),(false,0),(false,1)]
theorem sgn_mem (t:Bool) (n:Nat):(t,sgn t n)∈cmpL:=by
 unfold sgn cmpL
 cases t
 ·by_cases h:n=0 <;> simp [h]
 ·simp
def cmpT (t1 t2:Bool) (c o:Int):List En:=[eI t1 0 c,eI t2 2 c,eU t1 0 1 4,eU t2 2 3 5,eT 0 5 6,eT 2 4 7,eC 6 7 o]
theorem cmp_run (β:Nat→Nat) (r:Rat):(∀ p∈cmpL,∀ q∈cmpL,p.2≠q.2→isIM (cmpZ p.2 q.2) (runF Tryz.prog (SM β r) (HM β r) ([eI p.1 0 p.2,eI q.1 2 q.2,eD p.2 q.2].map (conE β r [])) 1 25 [nC p.1 0 1,nC q.1 2 3] f4 4)=true) ∧
  (∀ p∈cmpL,∀ o∈[(-1:Int),0,1],isIM (if p.1 then -o else o) (runF Tryz.prog (SM β r) (HM β r) ((cmpT p.1 p.1 p.2 o).map (conE β r [])) 1 25 [nC p.1 0 1,nC p.1 2 3] f4 4)=true):=by
 unfold cmpL
 simp only [List.forall_mem_cons,List.not_mem_nil,false_imp_iff,implies_true,and_true]
 exact ⟨⟨⟨fun h=>absurd rfl h,fun _=>by kernel_rfl,fun _=>by kernel_rfl⟩,⟨fun _=>by kernel_rfl,fun h=>absurd rfl h,fun _=>by kernel_rfl⟩,fun _=>by kernel_rfl,fun _=>by kernel_rfl,fun h=>absurd rfl h⟩,⟨by kernel_rfl,by kernel_rfl,by kernel_rfl⟩,⟨by kernel_rfl,by kernel_rfl,by kernel_rfl⟩,by kernel_rfl,by kernel_rfl,by kernel_rfl⟩
theorem cmpN_mem (a b:Nat):cmpN a b∈[(-1:Int),0,1]:=by
 unfold cmpN
 split
 ·simp
 ·split <;> simp
end
theorem cmp_same (t:Bool) (x1 y1 x2 y2:Int) (p1 r1 p2 r2:Option Addr) (l1 q1 s1 v1 l2 q2 s2 v2 n1 m1 n2 m2 k:Nat) (w:World)
  (i1:IsMag w (.int .u64 x1) (.slice p1 l1 q1) n1) (j1:IsMag w (.int .u64 y1) (.slice r1 s1 v1) m1) (i2:IsMag w (.int .u64 x2) (.slice p2 l2 q2) n2) (j2:IsMag w (.int .u64 y2) (.slice r2 s2 v2) m2) (h1:sgn t n1=sgn t n2) (hk:k≤68719476736) (k1:n1<B64 ^ k) (k2:undN m1<B64 ^ k) (k3:n2<B64 ^ k) (k4:undN m2<B64 ^ k) :
  Calls Tryz.prog 25 #[.agg #[.bool t,.int .u64 x1,.slice p1 l1 q1,.int .u64 y1,.slice r1 s1 v1],.agg #[.bool t,.int .u64 x2,.slice p2 l2 q2,.int .u64 y2,.slice r2 s2 v2]] w (RetI w (.int .i64 (if t then -cmpN (n1*undN m2) (n2*undN m1) else cmpN (n1*undN m2) (n2*undN m1)))):=by
 refine two_mags (β:=bt [n1,m1,n2,m2,undN m1,undN m2,n1*undN m2,n2*undN m1]) (r:=0) i1 j1 i2 j2 fun _ hg=>run_im (T:=fun _=>True) no_ls (fun e he=>?_) ((cmp_run _ _).2 _ (sgn_mem t n1) _ (cmpN_mem (n1*undN m2) (n2*undN m1))) (fun _ _=>trivial) hg
 simp only [cmpT,List.mem_cons,List.not_mem_nil,or_false] at he
 rcases he with rfl | rfl | rfl | rfl | rfl | rfl | rfl
 ·exact eI_ok rfl
 ·exact eI_ok h1.symm
 ·exact eU_ok rfl
 ·exact eU_ok rfl
 ·exact eT_ok (K:=k) rfl (by omega) k1 k4
 ·exact eT_ok (K:=k) rfl (by omega) k3 k2
 ·exact eC_ok (K:=k+k) rfl (by omega) (mul_lt_pow k1 k4)
end Rx
theorem cmp_same_false (t1 t2:Bool) (x1 y1 x2 y2:Int) (p1 r1 p2 r2:Option Addr) (l1 q1 s1 v1 l2 q2 s2 v2 n1 m1 n2 m2 k:Nat) (w:World)
  (i1:IsMag w (.int .u64 x1) (.slice p1 l1 q1) n1) (j1:IsMag w (.int .u64 y1) (.slice r1 s1 v1) m1) (i2:IsMag w (.int .u64 x2) (.slice p2 l2 q2) n2) (j2:IsMag w (.int .u64 y2) (.slice r2 s2 v2) m2) (h1:sgn t1 n1=sgn t2 n2) (ht:t1=false) (hk:k≤68719476736) (k1:n1<B64 ^ k) (k2:undN m1<B64 ^ k) (k3:n2<B64 ^ k) (k4:undN m2<B64 ^ k) :
  Calls Tryz.prog 25 #[.agg #[.bool t1,.int .u64 x1,.slice p1 l1 q1,.int .u64 y1,.slice r1 s1 v1],.agg #[.bool t2,.int .u64 x2,.slice p2 l2 q2,.int .u64 y2,.slice r2 s2 v2]] w (RetI w (.int .i64 (cmpN (n1*undN m2) (n2*undN m1)))):=by
 subst ht
 cases t2
 ·exact Rx.cmp_same false x1 y1 x2 y2 p1 r1 p2 r2 l1 q1 s1 v1 l2 q2 s2 v2 n1 m1 n2 m2 k w i1 j1 i2 j2 h1 hk k1 k2 k3 k4
 ·exfalso;by_cases h0:n1=0 <;> simp [sgn,h0] at h1
theorem cmp_same_true (t1 t2:Bool) (x1 y1 x2 y2:Int) (p1 r1 p2 r2:Option Addr) (l1 q1 s1 v1 l2 q2 s2 v2 n1 m1 n2 m2 k:Nat) (w:World)
  (i1:IsMag w (.int .u64 x1) (.slice p1 l1 q1) n1) (j1:IsMag w (.int .u64 y1) (.slice r1 s1 v1) m1) (i2:IsMag w (.int .u64 x2) (.slice p2 l2 q2) n2) (j2:IsMag w (.int .u64 y2) (.slice r2 s2 v2) m2) (h1:sgn t1 n1=sgn t2 n2) (ht:t1=true) (hk:k≤68719476736) (k1:n1<B64 ^ k) (k2:undN m1<B64 ^ k) (k3:n2<B64 ^ k) (k4:undN m2<B64 ^ k) :
  Calls Tryz.prog 25 #[.agg #[.bool t1,.int .u64 x1,.slice p1 l1 q1,.int .u64 y1,.slice r1 s1 v1],.agg #[.bool t2,.int .u64 x2,.slice p2 l2 q2,.int .u64 y2,.slice r2 s2 v2]] w (RetI w (.int .i64 (-cmpN (n1*undN m2) (n2*undN m1)))):=by
 subst ht
 cases t2
 ·exfalso;by_cases h0:n2=0 <;> simp [sgn,h0] at h1
 ·exact Rx.cmp_same true x1 y1 x2 y2 p1 r1 p2 r2 l1 q1 s1 v1 l2 q2 s2 v2 n1 m1 n2 m2 k w i1 j1 i2 j2 h1 hk k1 k2 k3 k4
theorem cmp_diff (t1 t2:Bool) (x1 y1 x2 y2:Int) (p1 r1 p2 r2:Option Addr) (l1 q1 s1 v1 l2 q2 s2 v2 n1 m1 n2 m2:Nat) (w:World)
  (i1:IsMag w (.int .u64 x1) (.slice p1 l1 q1) n1) (j1:IsMag w (.int .u64 y1) (.slice r1 s1 v1) m1) (i2:IsMag w (.int .u64 x2) (.slice p2 l2 q2) n2) (j2:IsMag w (.int .u64 y2) (.slice r2 s2 v2) m2) (h1:sgn t1 n1≠sgn t2 n2) :
  Calls Tryz.prog 25 #[.agg #[.bool t1,.int .u64 x1,.slice p1 l1 q1,.int .u64 y1,.slice r1 s1 v1],.agg #[.bool t2,.int .u64 x2,.slice p2 l2 q2,.int .u64 y2,.slice r2 s2 v2]] w (RetI w (.int .i64 (cmpZ (sgn t1 n1) (sgn t2 n2)))):=by
 have hr:=(Rx.cmp_run (Rx.bt [n1,m1,n2,m2]) 0).1 (t1,sgn t1 n1) (Rx.sgn_mem t1 n1) (t2,sgn t2 n2) (Rx.sgn_mem t2 n2) h1
 dsimp only at hr
 refine Rx.two_mags (β:=Rx.bt [n1,m1,n2,m2]) (r:=0) i1 j1 i2 j2 fun _ hg=>Rx.run_im (T:=fun _=>True) Rx.no_ls (fun e he=>?_) hr (fun _ _=>trivial) hg
 simp only [List.mem_cons,List.not_mem_nil,or_false] at he
 rcases he with rfl | rfl | rfl
 ·exact Rx.eI_ok rfl
 ·exact Rx.eI_ok rfl
 ·exact Rx.eD_ok
def sgnI (a:Int):Int:=if a<0 then -1 else if a=0 then 0 else 1
def cmpQ (r s:Rat):Int:=if r<s then -1 else if r=s then 0 else 1
theorem cmpQ_eq (r s:Rat):cmpQ r s=cmpZ (r.num*s.den) (s.num*r.den):=by
 unfold cmpQ cmpZ
 have h1:(r<s)↔(r.num*s.den<s.num*r.den):=Rat.lt_iff r s
 have h2:(r=s)↔(r.num*s.den=s.num*r.den):=Rat.eq_iff_mul_eq_mul
 simp only [h1,h2]
theorem cmpZ_neg (a b:Int):cmpZ (-a) (-b) = - cmpZ a b:=by
 unfold cmpZ
 rcases Int.lt_trichotomy a b with h | h | h
 ·rw [if_pos h,if_neg (by omega),if_neg (by omega)];rfl
 ·rw [if_neg (by omega),if_pos (by omega),if_neg (by omega),if_pos h];rfl
 ·rw [if_pos (by omega),if_neg (by omega),if_neg (by omega)]
theorem cmp_signs (a b:Int) (p q:Nat) (hp:p≠0) (hq:q≠0) (h:sgnI a≠sgnI b):cmpZ (a*q) (b*p)=cmpZ (sgnI a) (sgnI b):=by
 have hp':(0:Int)<p:=by omega
 have hq':(0:Int)<q:=by omega
 have ha:(a<0→a*q<0)∧(a=0→a*q=0)∧(0<a→0<a*q):=⟨fun h=>Int.mul_neg_of_neg_of_pos h hq',fun h=>by rw [h,Int.zero_mul],fun h=>Int.mul_pos h hq'⟩
 have hb:(b<0→b*p<0)∧(b=0→b*p=0)∧(0<b→0<b*p):=⟨fun h=>Int.mul_neg_of_neg_of_pos h hp',fun h=>by rw [h,Int.zero_mul],fun h=>Int.mul_pos h hp'⟩
 generalize a*q=A at *
 generalize b*p=B at *
 unfold sgnI cmpZ at *
 rcases Int.lt_trichotomy a 0 with h1 | h1 | h1 <;> rcases Int.lt_trichotomy b 0 with h2 | h2 | h2 <;> split at h <;> grind
theorem sgn_of (a:Int):sgn (decide (a<0)) a.natAbs=sgnI a:=by
 unfold sgn sgnI
 by_cases h:a<0
 ·rw [decide_eq_true h,if_pos rfl,if_pos h]
 ·rw [decide_eq_false h,if_neg (by simp),if_neg h]
  by_cases h0:a=0
  ·rw [if_pos h0,if_pos (by omega)]
  ·rw [if_neg h0,if_neg (by omega)]
theorem sgnI_eq {a b:Int} (h:sgnI a=sgnI b):(a<0↔b<0):=by
 unfold sgnI at h
 constructor <;> intro h1 <;> split at h <;> grind
theorem Cmp_calls (r s:Rat) (v1 v2:Value) (k:Nat) (w:World) (h1:IsQ w v1 r) (h2:IsQ w v2 s) (hk:k≤68719476736) (f1:Fits k r) (f2:Fits k s) :
  Calls Tryz.prog 25 #[v1,v2] w (RetI w (.int .i64 (cmpQ r s))):=by
 obtain ⟨t1,x1,p1,l1,q1,y1,r1,s1,u1,rfl,i1,j1,e1⟩:=h1.shape
 obtain ⟨t2,x2,p2,l2,q2,y2,r2,s2,u2,rfl,i2,j2,e2⟩:=h2.shape
 have e1':=e1.out
 have e2':=e2.out
 have g1:sgn t1 r.num.natAbs=sgnI r.num:=by rw [e1',sgn_of]
 have g2:sgn t2 s.num.natAbs=sgnI s.num:=by rw [e2',sgn_of]
 rw [cmpQ_eq]
 by_cases hs:sgnI r.num=sgnI s.num
 ·have hn:=sgnI_eq hs
  have fd1:undN (denOf r)<B64 ^ k:=by rw [und_den];exact f1.2
  have fd2:undN (denOf s)<B64 ^ k:=by rw [und_den];exact f2.2
  by_cases h0:r.num<0
  ·have:=cmp_same_true t1 t2 x1 y1 x2 y2 p1 r1 p2 r2 l1 q1 s1 u1 l2 q2 s2 u2 _ _ _ _ k w i1 j1 i2 j2 (by rw [g1,g2,hs]) (by rw [e1'];exact decide_eq_true h0) hk f1.1 fd1 f2.1 fd2
   rw [und_den,und_den,← cmpZ_nat,Int.natCast_mul,Int.natCast_mul,Int.ofNat_natAbs_of_nonpos (by omega),Int.ofNat_natAbs_of_nonpos (by have:=hn.1 h0;omega),Int.neg_mul,Int.neg_mul,cmpZ_neg,Int.neg_neg] at this
   exact this
  ·have:=cmp_same_false t1 t2 x1 y1 x2 y2 p1 r1 p2 r2 l1 q1 s1 u1 l2 q2 s2 u2 _ _ _ _ k w i1 j1 i2 j2 (by rw [g1,g2,hs]) (by rw [e1'];exact decide_eq_false h0) hk f1.1 fd1 f2.1 fd2
   rw [und_den,und_den,← cmpZ_nat,Int.natCast_mul,Int.natCast_mul,Int.natAbs_of_nonneg (by omega),Int.natAbs_of_nonneg (by have:¬ s.num<0:=fun h=>h0 (hn.2 h);omega)] at this
   exact this
 ·have:=cmp_diff t1 t2 x1 y1 x2 y2 p1 r1 p2 r2 l1 q1 s1 u1 l2 q2 s2 u2 _ _ _ _ w i1 j1 i2 j2 (by rw [g1,g2];exact hs)
  rw [g1,g2,← cmp_signs _ _ r.den s.den r.den_nz s.den_nz hs] at this
  exact this
end
namespace Z4
theorem val_take_all {xs:List Nat}:val (xs.take xs.length)=val xs:=by rw [List.take_of_length_le (Nat.le_refl _)]
theorem val_take_getD (xs:List Nat) (k:Nat):val (xs.take (k+1))=val (xs.take k)+B4 ^ k*xs[k]?.getD 0:=by
 by_cases h:k<xs.length
 ·rw [val_take_succ xs k h,List.getElem?_eq_getElem h];rfl
 ·rw [List.take_of_length_le (by omega),List.take_of_length_le (by omega),List.getElem?_eq_none (by omega)];simp
theorem val_set:∀ (xs:List Nat) (p d:Nat),p<xs.length→val (xs.set p d)+B4 ^ p*xs[p]?.getD 0=val xs+B4 ^ p*d
 | [],p,d,h=>by simp at h
 | x :: xs,0,d,_=>by simp [val_cons];omega
 | x :: xs,p+1,d,h=>by
  have ih:=val_set xs p d (by simpa using h)
  simp only [List.set_cons_succ,val_cons,List.getElem?_cons_succ,Nat.pow_succ]
  generalize val (xs.set p d)=S at *
  generalize B4 ^ p=P at *
  generalize xs[p]?.getD 0=e at *
  generalize val xs=V at *
  generalize B4=B at *
  have:=congrArg (B * ·) ih
  grind
theorem Dig.set {xs:List Nat} (h:Dig xs) (p d:Nat) (hd:d<B4):Dig (xs.set p d):=fun e he=>by
 rcases List.mem_or_eq_of_mem_set he with h1 | h1
 ·exact h e h1
 ·omega
theorem Dig.snoc {xs:List Nat} (h:Dig xs) {d:Nat} (hd:d<B4):Dig (xs ++ [d]):=h.append fun e he=>by simp at he;omega
theorem Dig.cons {xs:List Nat} (h:Dig xs) {d:Nat} (hd:d<B4):Dig (d :: xs):=fun e he=>by
 rcases List.mem_cons.1 he with h1 | h1
 ·omega
 ·exact h e h1
structure MinusI (xs ys ds:List Nat) (k c:Nat):Prop where
 len:ds.length=k
 dig:Dig ds
 le:c≤1
 hk:k≤xs.length
 eq:val (xs.take k)+c*B4 ^ k=val ds+val (ys.take k)
theorem MinusI.start (xs ys:List Nat):MinusI xs ys [] 0 0:=⟨rfl,Dig.nil,by omega,by omega,by simp [val]⟩
theorem MinusI.step {xs ys ds:List Nat} {k c x y d c':Nat} (h:MinusI xs ys ds k c) (hlt:k<xs.length) (hx:xs[k]?.getD 0=x) (hy:ys[k]?.getD 0=y) (hd:d<B4) (hc:c'≤1) (e:x+c' * B4=d+y+c) :
  MinusI xs ys (ds ++ [d]) (k+1) c':=by
 refine ⟨by simp [h.len],h.dig.snoc hd,hc,hlt,?_⟩
 have h1:=h.eq
 rw [val_take_getD xs,val_take_getD ys,val_snoc,h.len,Nat.pow_succ,hx,hy]
 generalize B4 ^ k=P at *
 generalize val (xs.take k)=X at *
 generalize val (ys.take k)=Y at *
 generalize val ds=D at *
 generalize B4=B at *
 have:=congrArg (P * ·) e
 grind
theorem MinusI.done {xs ys ds:List Nat} {c:Nat} (h:MinusI xs ys ds xs.length c) (hl:ys.length≤xs.length) (hv:val ys≤val xs):val ds=val xs - val ys:=by
 have h1:=h.eq
 rw [val_take_all,List.take_of_length_le hl] at h1
 have h2:=val_lt h.dig
 rw [h.len] at h2
 have h3:=h.le
 rcases Nat.eq_zero_or_pos c with h0 | h0
 ·subst h0;omega
 ·obtain rfl:c=1:=by omega
  omega
structure ProdI (xs ys pk:List Nat) (i:Nat):Prop where
 len:pk.length=xs.length+ys.length
 dig:Dig pk
 zero:∀ j:Nat,i+ys.length≤j→pk[j]?.getD 0=0
 eq:val pk=val (xs.take i)*val ys
theorem ProdI.start (xs ys:List Nat):ProdI xs ys (List.replicate (xs.length+ys.length) 0) 0:=
 ⟨by simp,fun d hd=>by rw [List.eq_of_mem_replicate hd];exact B4_pos,fun j _=>by rw [List.getElem?_replicate];split <;> rfl,by rw [val_zeros];simp [val]⟩
structure ProdK (xs ys pk:List Nat) (i k c:Nat):Prop where
 len:pk.length=xs.length+ys.length
 dig:Dig pk
 zero:∀ j:Nat,i+ys.length≤j→i+k≤j→pk[j]?.getD 0=0
 lt:c<B4
 le:k≤ys.length∨k=ys.length+1∧c=0
 eq:val pk+c*B4 ^ (i+k)=val (xs.take i)*val ys+B4 ^ i*xs[i]?.getD 0*val (ys.take k)
theorem ProdK.step {xs ys pk:List Nat} {i k c o x y d c':Nat} (h:ProdK xs ys pk i k c) (hi:i<xs.length) (hgo:k<ys.length∨0<c) (ho:pk[i+k]?.getD 0=o) (hx:xs[i]?.getD 0=x) (hy:ys[k]?.getD 0=y) (hyl:y<B4) (hxl:x<B4)
  (hd:d<B4) (e:o+c+x*y=d+c' * B4):i+k<pk.length∧ProdK xs ys (pk.set (i+k) d) i (k+1) c':=by
 have hk:k≤ys.length:=by
  rcases h.le with h1 | h1
  ·exact h1
  ·omega
 have hlt:i+k<pk.length:=by rw [h.len];omega
 have hol:o<B4:=ho ▸ h.dig.getD (i+k)
 have hcl:=h.lt
 refine ⟨hlt,by rw [List.length_set];exact h.len,h.dig.set _ _ hd,fun j h1 h2=>?_,?_,?_,?_⟩
 ·rw [List.getElem?_set_ne (by omega)]
  exact h.zero j h1 (by omega)
 ·have h1:x*y≤(B4 - 1)*(B4 - 1):=Nat.mul_le_mul (by omega) (by omega)
  unfold B4 at *
  omega
 ·rcases Nat.lt_or_ge k ys.length with h1 | h1
  ·exact .inl h1
  ·obtain rfl:k=ys.length:=by omega
   have o0:=h.zero (i+ys.length) (Nat.le_refl _) (Nat.le_refl _)
   rw [ho] at o0
   have y0:y=0:=by rw [← hy,List.getElem?_eq_none (Nat.le_refl _)];rfl
   subst o0 y0
   refine .inr ⟨rfl,?_⟩
   unfold B4 at *
   omega
 ·have h1:=val_set pk (i+k) d hlt
  have h2:=h.eq
  rw [ho] at h1
  rw [val_take_getD ys,hy,hx,show i+(k+1)=i+k+1 by omega,Nat.pow_succ]
  rw [hx] at h2
  have h3:B4 ^ (i+k)=B4 ^ i*B4 ^ k:=Nat.pow_add _ _ _
  rw [h3] at h1 h2 ⊢
  generalize val (pk.set (i+k) d)=S at *
  generalize val pk=V at *
  generalize val (xs.take i)*val ys=X at *
  generalize val (ys.take k)=Y at *
  generalize B4 ^ i=P at *
  generalize B4 ^ k=Q at *
  generalize B4=B at *
  have:=congrArg (P*Q * ·) e
  grind
theorem ProdK.done {xs ys pk:List Nat} {i k:Nat} (h:ProdK xs ys pk i k 0) (hk:ys.length≤k):ProdI xs ys pk (i+1):=by
 refine ⟨h.len,h.dig,fun j hj=>h.zero j (by omega) (by rcases h.le with h1 | h1 <;> omega),?_⟩
 have h1:=h.eq
 rw [List.take_of_length_le hk] at h1
 rw [val_take_getD xs]
 generalize val pk=V at *
 generalize val (xs.take i)=X at *
 generalize val ys=Y at *
 generalize B4 ^ i=P at *
 generalize xs[i]?.getD 0=x at *
 grind
structure OverI (xs qs rs:List Nat) (m i:Nat):Prop where
 len:qs.length=xs.length
 dig:Dig qs
 zero:∀ j:Nat,j<i→qs[j]?.getD 0=0
 hi:i≤xs.length
 digR:Dig rs
 trim:Trimmed rs
 lt:val rs<m
 eq:val (xs.drop i)=val (qs.drop i)*m+val rs
theorem OverI.start (xs:List Nat) {m:Nat} (hm:0<m):OverI xs (List.replicate xs.length 0) [] m xs.length:=
 ⟨by simp,fun d hd=>by rw [List.eq_of_mem_replicate hd];exact B4_pos,fun j _=>by rw [List.getElem?_replicate];split <;> rfl,Nat.le_refl _,Dig.nil,fun h=>absurd rfl h,hm,by
  rw [List.drop_of_length_le (Nat.le_refl _),List.drop_of_length_le (by simp)];simp [val]⟩
theorem drop_set_lt (xs:List Nat) (p d:Nat) (h:p<xs.length):(xs.set p d).drop p=d :: xs.drop (p+1):=by
 apply List.ext_getElem?
 intro j
 cases j with
 | zero=>simp [h]
 | succ j=>simp [List.getElem?_drop,List.getElem?_set_ne (show p≠p+(j+1) by omega)];congr 1;omega
theorem OverI.step {xs qs rs ss:List Nat} {m i x k:Nat} (h:OverI xs qs rs m (i+1)) (hx:xs[i]?.getD 0=x) (hd:Dig ss) (ht:Trimmed ss) (hs:val ss<m) (hk:k<B4) (e:x+B4*val rs=k*m+val ss) :
  OverI xs (qs.set i k) ss m i:=by
 have hi:=h.hi
 have hl:=h.len
 refine ⟨by rw [List.length_set];exact hl,h.dig.set _ _ hk,fun j hj=>by rw [List.getElem?_set_ne (by omega)];exact h.zero j (by omega),by omega,hd,ht,hs,?_⟩
 have h1:=h.eq
 rw [val_drop xs i (by omega),hx,h1,drop_set_lt qs i k (by omega),val_cons]
 generalize val (qs.drop (i+1))=Q at *
 generalize val rs=R at *
 generalize val ss=S at *
 generalize B4=B at *
 grind
theorem digit_lt {x R m k:Nat} (hx:x<B4) (hR:R<m) (h:k*m≤x+B4*R):k<B4:=by
 rcases Nat.lt_or_ge k B4 with h1 | h1
 ·exact h1
 ·have h2:B4*m≤k*m:=Nat.mul_le_mul_right _ h1
  have h3:B4*(R+1)≤B4*m:=Nat.mul_le_mul_left _ hR
  rw [Nat.mul_add] at h3
  omega
structure IntI (n:Nat) (ds:List Nat) (m:Nat):Prop where
 dig:Dig ds
 trim:m=0→Trimmed ds
 eq:val ds+B4 ^ ds.length*m=n
 few:m*10000 ^ ds.length≤n
theorem IntI.start (n:Nat):IntI n [] n:=⟨Dig.nil,fun _ h=>absurd rfl h,by simp [val],by simp⟩
theorem IntI.step {n m:Nat} {ds:List Nat} (h:IntI n ds m) (hm:m≠0):IntI n (ds ++ [m % 10000]) (m / 10000):=by
 have hd:m % 10000<B4:=Nat.mod_lt _ (by decide)
 have hdm:=Nat.div_add_mod m 10000
 refine ⟨h.dig.snoc hd,fun h0 hne=>?_,?_,?_⟩
 ·rw [show (ds ++ [m % 10000]).getLast hne=m % 10000 by simp]
  omega
 ·rw [val_snoc,List.length_append,List.length_singleton,Nat.pow_succ]
  have h1:=h.eq
  rw [← B4_eq] at hdm ⊢
  generalize B4 ^ ds.length=P at *
  generalize B4=B at *
  generalize m / B=a at *
  generalize m % B=b at *
  have:=congrArg (P * ·) hdm
  grind
 ·rw [List.length_append,List.length_singleton,Nat.pow_succ]
  have h1:=h.few
  have h2:m / 10000*10000≤m:=Nat.div_mul_le_self _ _
  have h3:m / 10000*10000*10000 ^ ds.length≤m*10000 ^ ds.length:=Nat.mul_le_mul_right _ h2
  have h4:m / 10000*(10000 ^ ds.length*10000)=m / 10000*10000*10000 ^ ds.length:=by grind
  omega
end Z4
namespace Z4
open Go.RowKit Go.Sort
abbrev E4 (d:Nat):Value:=.int .i64 (d:Int)
def HoldsL (w:World) (b o:Nat) (xs:List Nat):Prop:=∀ j,j<xs.length→w.cell? ⟨b,o+j,none⟩=some (E4 (xs[j]?.getD 0))∧w.frozen? ⟨b,o+j,none⟩=false
def putL (w:World) (q b o:Nat) (xs:List Nat):World:=putRow E4 (Sort.ahead w q) b o xs.toArray
theorem bang_getD (xs:List Nat) (j:Nat):xs.toArray[j]! = xs[j]?.getD 0:=by
 by_cases h:j<xs.length
 ·rw [getElem!_pos _ j (by simpa using h)];simp [h]
 ·rw [getElem!_neg _ j (by simpa using h),List.getElem?_eq_none (by omega)];rfl
theorem holdsL_iff {w:World} {b o:Nat} {xs:List Nat}:HoldsL w b o xs↔Holds E4 w b o xs.toArray:=by
 unfold HoldsL Holds
 simp only [List.size_toArray,bang_getD]
theorem HoldsL.below {B:Nat} {w w':World} {b o:Nat} {xs:List Nat} (h:HoldsL w b o xs) (hb:Below B w w') (hB:b<B):HoldsL w' b o xs:=
 fun j hj=>⟨(hb.cell (p:=⟨b,o+j,none⟩) hB).trans (h j hj).1,(hb.frozen (p:=⟨b,o+j,none⟩) hB).trans (h j hj).2⟩
theorem HoldsL.drop {w:World} {b o:Nat} {xs:List Nat} (h:HoldsL w b o xs) (k:Nat):HoldsL w b (o+k) (xs.drop k):=fun j hj=>by
 have:=h (k+j) (by simp at hj;omega)
 rw [Nat.add_assoc,List.getElem?_drop]
 exact this
theorem HoldsL.take {w:World} {b o:Nat} {xs:List Nat} (h:HoldsL w b o xs) (k:Nat):HoldsL w b o (xs.take k):=fun j hj=>by
 have hj':j<k∧j<xs.length:=by simp at hj;omega
 have:=h j hj'.2
 rw [List.getElem?_take_of_lt hj'.1]
 exact this
theorem putL_self (w:World) (b o:Nat) (xs:List Nat) (h:HoldsL w b o xs):putL w 0 b o xs=w:=by
 unfold putL
 rw [ahead_zero]
 exact putRow_self E4 w b o xs.toArray (holdsL_iff.1 h)
theorem holdsL_putL (w:World) (q b o:Nat) (xs ys:List Nat) (h:HoldsL w b o xs) (hl:ys.length=xs.length):HoldsL (putL w q b o ys) b o ys:=
 holdsL_iff.2 (holds_putRow E4 (Sort.ahead w q) b o xs.toArray ys.toArray (holds_ahead _ _ _ _ _ _ (holdsL_iff.1 h)) (by simpa using hl))
theorem putL_set (w:World) (q b o:Nat) (xs:List Nat) (i x:Nat) (hi:i<xs.length):(putL w q b o xs).setCell ⟨b,o+i,none⟩ (.int .i64 (x:Int))=putL w q b o (xs.set i x):=by
 unfold putL
 rw [show (Value.int .i64 (x:Int))=E4 x from rfl,putRow_set E4 _ b o xs.toArray i x (by simpa using hi),List.setIfInBounds_toArray]
theorem putL_drewN (w:World) (m q b o:Nat) (xs:List Nat):(putL w m b o xs).drewN q=putL w (m+q) b o xs:=by
 show Sort.ahead (putRow E4 (Sort.ahead w m) b o xs.toArray) q=_
 rw [putRow_ahead E4 w m,ahead_ahead,← putRow_ahead]
 rfl
theorem putL_drew (w:World) (m b o:Nat) (xs:List Nat):(putL w m b o xs).drew=putL w (m+1) b o xs:=putL_drewN w m 1 b o xs
theorem putL_putL (w:World) (m q b o:Nat) (xs ys:List Nat) (h:ys.length=xs.length):putL (putL w m b o xs) q b o ys=putL w (m+q) b o ys:=by
 unfold putL
 rw [← putRow_ahead,putRow_putRow E4 _ b o xs.toArray ys.toArray (by simpa using h),ahead_ahead]
theorem cell_putL_other (w:World) (q b o:Nat) (xs:List Nat) (a:Addr) (h:a.block≠b∨a.off<o∨o+xs.length≤a.off):(putL w q b o xs).cell? a=w.cell? a:=by
 unfold putL
 rw [cell?_putRow_other E4 _ b o xs.toArray a (by simpa using h),cell?_ahead]
theorem frozen_putL (w:World) (q b o:Nat) (xs:List Nat) (a:Addr):(putL w q b o xs).frozen? a=w.frozen? a:=by
 unfold putL
 rw [frozen?_putRow,frozen?_ahead]
@[simp] theorem size_putL (w:World) (q b o:Nat) (xs:List Nat):(putL w q b o xs).heap.size=w.heap.size:=by
 unfold putL
 rw [size_putRow]
 rfl
theorem Ints.putL {w:World} {q b o bb bo:Nat} {xs ys:List Nat} (h:Ints w bb bo ys) (hne:bb≠b∨bo+ys.length≤o∨o+xs.length≤bo):Ints (putL w q b o xs) bb bo ys:=fun j hj=>by
 rw [cell_putL_other _ _ _ _ _ _ (by simp only;omega)]
 exact h j hj
theorem HoldsL.putL {w:World} {q b o bb bo:Nat} {xs ys:List Nat} (h:HoldsL w bb bo ys) (hne:bb≠b∨bo+ys.length≤o∨o+xs.length≤bo):HoldsL (putL w q b o xs) bb bo ys:=fun j hj=>by
 rw [cell_putL_other _ _ _ _ _ _ (by simp only;omega),frozen_putL]
 exact h j hj
theorem heap_putL (w:World) (q b o:Nat) (xs:List Nat) (k:Nat) (h:k≠b):(putL w q b o xs).heap[k]? = w.heap[k]?:=by
 unfold Go.Proofs.YtmijlcldmefggaaGreatDoor.Z4.putL putRow mapBlock Sort.ahead
 simp only [Array.getElem?_modify]
 rw [if_neg (by omega)]
theorem below_putL {B:Nat} (w:World) (q b o:Nat) (xs:List Nat) (h:B≤b):Below B w (putL w q b o xs):=
 ⟨rfl,rfl,rfl,by simp,fun k hk=>heap_putL _ _ _ _ _ _ (by omega)⟩
theorem infoI:(Tryz.prog.info? 3).map (fun i=>(i.zero,i.size,i.bytes))=some (some (.int .i64 0),1,8):=by kernel_rfl
def allocZ (w:World) (n:Nat):World:=w.alloc (.cells (madeCells #[.int .i64 0] n) 3)
theorem size_allocZ (w:World) (n:Nat):(allocZ w n).heap.size=w.heap.size+1:=by unfold allocZ;simp
theorem makeN_run (n:Nat) (hn:n≤2199023255552) (w:World) :
  (Instr.makeSlice 33 (.int .i64 (n:Int)) (.int .i64 (n:Int))).run Tryz.prog w=.ok (.slice (some ⟨w.heap.size,0,none⟩) n n) (allocZ w n):=
 run_make_row' 33 3 _ 8 Tryz.underlying33 infoI rfl .i64 .i64 n (by omega) (by omega) w
theorem holdsL_allocZ (w:World) (n:Nat):HoldsL (allocZ w n) w.heap.size 0 (List.replicate n 0):=fun j hj=>by
 have hj':j<n:=by simpa using hj
 unfold allocZ
 rw [World.cell?_alloc_at _ _ _ _ rfl,World.frozen?_alloc_at _ _ _ _ rfl]
 refine ⟨?_,rfl⟩
 simp only [madeCells,Nat.zero_add,Array.getElem?_map,List.getElem?_replicate,hj',if_true]
 rw [Array.getElem?_eq_getElem (by simpa using hj')]
 simp [Nat.mod_one]
theorem below_allocZ (w:World) (n:Nat):Below w.heap.size w (allocZ w n):=(Below.refl _ _).alloc (Nat.le_refl _) _
theorem addr_add (b o k:Nat):(⟨b,o,none⟩:Addr).add k=⟨b,o+k,none⟩:=by unfold Addr.add;split <;> simp_all
end Z4
namespace Z4
open Go.RowKit Go.Sort
abbrev enc (d:Nat):Value:=.int .i64 (d:Int)
end Z4
namespace Z4
open Go.RowKit Go.Sort
theorem own_succ {W:World} {base:Nat} {e:TypeId} {v:Value} {k:Nat} {xs:List Value} (h:W.ownsRow base e 1 v (k+1) xs):∃ g cap,v=.slice (some ⟨g,0,none⟩) (k+1) cap:=by
 rcases h.2 with ⟨_,h0⟩ | ⟨g,cap,cur,rfl,_⟩
 ·omega
 ·exact ⟨g,cap,rfl⟩
theorem own_shape {W:World} {base:Nat} {e:TypeId} {v:Value} {k:Nat} {xs:List Value} (h:W.ownsRow base e 1 v k xs):∃ p cap,v=.slice p k cap:=by
 rcases h.2 with ⟨rfl,rfl⟩ | ⟨g,cap,cur,rfl,_⟩ <;> exact ⟨_,_,rfl⟩
structure ZB (w W:World) (t:Bool) (v:Value):Prop where
 c0:W.cell? ⟨w.heap.size+1,0,none⟩=some (.bool t)
 c1:W.cell? ⟨w.heap.size+1,1,none⟩=some v
 f0:W.frozen? ⟨w.heap.size+1,0,none⟩=false
 f1:W.frozen? ⟨w.heap.size+1,1,none⟩=false
 r0:W.cell? ⟨w.heap.size,0,none⟩=some (.bool false)
 r1:W.cell? ⟨w.heap.size,1,none⟩=some (.slice none 0 0)
 g0:W.frozen? ⟨w.heap.size,0,none⟩=false
 g1:W.frozen? ⟨w.heap.size,1,none⟩=false
 sz:w.heap.size+2≤W.heap.size
 bel:Below w.heap.size w W
theorem ZB.start (w:World) (t:Bool) (T:TypeId):ZB w ((w.alloc (.cells #[.bool false,.slice none 0 0] T)).alloc (.cells #[.bool t,.slice none 0 0] T)) t (.slice none 0 0):=by
 have hb:=((Below.refl w.heap.size w).alloc (Nat.le_refl _) (.cells #[.bool false,.slice none 0 0] T)).alloc (by simp) (.cells #[.bool t,.slice none 0 0] T)
 refine ⟨?_,?_,?_,?_,?_,?_,?_,?_,by simp,hb⟩ <;> go_simp
theorem ZB.next {w W W1:World} {t:Bool} {v:Value} (h:ZB w W t v) (hb:Below (w.heap.size+2) W W1):ZB w W1 t v where
 c0:=(hb.cell (p:=⟨w.heap.size+1,0,none⟩) (by simp)).trans h.c0
 c1:=(hb.cell (p:=⟨w.heap.size+1,1,none⟩) (by simp)).trans h.c1
 f0:=(hb.frozen (p:=⟨w.heap.size+1,0,none⟩) (by simp)).trans h.f0
 f1:=(hb.frozen (p:=⟨w.heap.size+1,1,none⟩) (by simp)).trans h.f1
 r0:=(hb.cell (p:=⟨w.heap.size,0,none⟩) (by simp)).trans h.r0
 r1:=(hb.cell (p:=⟨w.heap.size,1,none⟩) (by simp)).trans h.r1
 g0:=(hb.frozen (p:=⟨w.heap.size,0,none⟩) (by simp)).trans h.g0
 g1:=(hb.frozen (p:=⟨w.heap.size,1,none⟩) (by simp)).trans h.g1
 sz:=Nat.le_trans h.sz hb.size
 bel:=h.bel.trans (hb.mono (by omega))
theorem ZB.store {w W:World} {t:Bool} {v:Value} (h:ZB w W t v) (u:Value):ZB w (W.setCell ⟨w.heap.size+1,1,none⟩ u) t u where
 c0:=by rw [World.cell?_setCell_other _ _ _ _ (by simp)];exact h.c0
 c1:=World.cell?_setCell_same _ _ _ h.c1
 f0:=by rw [World.frozen?_setCell];exact h.f0
 f1:=by rw [World.frozen?_setCell];exact h.f1
 r0:=by rw [World.cell?_setCell_other _ _ _ _ (by simp)];exact h.r0
 r1:=by rw [World.cell?_setCell_other _ _ _ _ (by simp)];exact h.r1
 g0:=by rw [World.frozen?_setCell];exact h.g0
 g1:=by rw [World.frozen?_setCell];exact h.g1
 sz:=by simpa using h.sz
 bel:=h.bel.setCell (by simp) _
end Z4
namespace Z4
open Go.RowKit Go.Sort
end Z4
namespace Z4
open Go.RowKit Go.Sort
theorem HoldsL.set {w:World} {b:Nat} {xs:List Nat} (h:HoldsL w b 0 xs) (i x:Nat) (hi:i<xs.length):HoldsL (w.setCell ⟨b,i,none⟩ (.int .i64 (x:Int))) b 0 (xs.set i x):=fun j hj=>by
 rw [List.length_set] at hj
 rw [World.frozen?_setCell]
 refine ⟨?_,(h j hj).2⟩
 rw [Nat.zero_add]
 by_cases e:i=j
 ·subst e
  have hc:=(h i hi).1
  rw [Nat.zero_add] at hc
  rw [World.cell?_setCell_same _ _ _ hc,List.getElem?_set_self hi]
  rfl
 ·rw [World.cell?_setCell_other _ _ _ _ (fun h=>e (congrArg Addr.off h)),List.getElem?_set_ne e]
  have hc:=(h j hj).1
  rwa [Nat.zero_add] at hc
theorem bdrewN {B:Nat} {a w:World} (h:Below B a w) (n:Nat):Below B a (w.drewN n):=⟨h.os,h.tape,h.output,h.size,h.block⟩
end Z4
section
open Go.RowKit Go.Sort
structure Bk where
 pos:Nat
 ty:TypeId
 vs:List Value
namespace Z4
def IsZ (W:World) (v:Value) (z:Int):Prop:=∃ (p:Option Addr) (l k:Nat) (xs:List Nat),v=.agg #[.bool (decide (z<0)),.slice p l k]∧IsL 0 W (.slice p l k) xs∧Dig xs∧Trimmed xs∧val xs=z.natAbs
theorem IsZ.below {W W':World} {v:Value} {z:Int} (h:IsZ W v z) (hb:Below W.heap.size W W'):IsZ W' v z:=by
 obtain ⟨p,l,k,xs,h1,h2,h3⟩:=h
 exact ⟨p,l,k,xs,h1,h2.below hb,h3⟩
theorem IsZ.setBox {W:World} {v:Value} {z:Int} {b i:Nat} {T:TypeId} {vs:List Value} {u:Value} (h:IsZ W v z) (hb:Bx W b T vs) (ok:okVs vs=true):IsZ (W.setCell ⟨b,i,none⟩ u) v z:=by
 obtain ⟨p,l,k,xs,h1,h2,h3⟩:=h
 exact ⟨p,l,k,xs,h1,h2.setBox hb ok,h3⟩
end Z4
inductive Fc
 | q (v:Value) (r:Rat)
 | m (c d:Value) (n:Nat)
 | l (B:Nat) (v:Value) (xs:List Nat)
 | z (v:Value) (n:Int)
def Fc.on:Fc→World→Prop
 | .q v r,W=>IsQ W v r
 | .m c d n,W=>IsMag W c d n
 | .l B v xs,W=>Z4.IsL B W v xs
 | .z v n,W=>Z4.IsZ W v n
theorem Fc.below {f:Fc} {W W':World} (h:f.on W) (hb:Below W.heap.size W W'):f.on W':=by
 cases f
 ·exact IsQ.below h hb
 ·exact IsMag.below h hb
 ·exact Z4.IsL.below h hb
 ·exact Z4.IsZ.below h hb
theorem Fc.setBox {f:Fc} {W:World} {b i:Nat} {T:TypeId} {vs:List Value} {u:Value} (h:f.on W) (hb:Bx W b T vs) (ok:okVs vs=true):f.on (W.setCell ⟨b,i,none⟩ u):=by
 cases f
 ·exact IsQ.setBox h hb ok
 ·exact IsMag.setBox h hb ok
 ·exact Z4.IsL.setBox h hb ok
 ·exact Z4.IsZ.setBox h hb ok
def Boxes (w W:World):List Bk→Prop
 | []=>True
 | b :: r=>(w.heap.size≤b.pos∧Bx W b.pos b.ty b.vs∧∀ c∈r,b.pos≠c.pos)∧Boxes w W r
def Facts (W:World):List Fc→Prop
 | []=>True
 | f :: r=>f.on W∧Facts W r
theorem Boxes.below {w W W':World} (hb:Below W.heap.size W W'):∀ {bs:List Bk},Boxes w W bs→Boxes w W' bs
 | [],_=>trivial
 | _ :: _,h=>⟨⟨h.1.1,h.1.2.1.below hb,h.1.2.2⟩,h.2.below hb⟩
theorem Facts.below {W W':World} (hb:Below W.heap.size W W'):∀ {fs:List Fc},Facts W fs→Facts W' fs
 | [],_=>trivial
 | _ :: _,h=>⟨Fc.below h.1 hb,h.2.below hb⟩
theorem Boxes.far {w W:World} {a:Addr} (u:Value):∀ {bs:List Bk},(∀ c∈bs,a.block≠c.pos)→Boxes w W bs→Boxes w (W.setCell a u) bs
 | [],_,_=>trivial
 | _ :: _,hn,h=>⟨⟨h.1.1,h.1.2.1.far (Ne.symm (hn _ (by simp))) u,h.1.2.2⟩,h.2.far u fun c hc=>hn c (by simp [hc])⟩
theorem Facts.setBox {W:World} {b i:Nat} {T:TypeId} {vs:List Value} {u:Value} (hb:Bx W b T vs) (ok:okVs vs=true):∀ {fs:List Fc},Facts W fs→Facts (W.setCell ⟨b,i,none⟩ u) fs
 | [],_=>trivial
 | _ :: _,h=>⟨Fc.setBox h.1 hb ok,h.2.setBox hb ok⟩
theorem Boxes.get {w W:World}:∀ {bs:List Bk} {k:Nat} {b:Bk},Boxes w W bs→bs[k]? = some b→w.heap.size≤b.pos∧Bx W b.pos b.ty b.vs
 | [],_,_,_,h=>by simp at h
 | _ :: _,0,_,h,e=>by simp at e;subst e;exact ⟨h.1.1,h.1.2.1⟩
 | _ :: _,k+1,_,h,e=>h.2.get (by simpa using e)
def setBk:List Bk→Nat→Nat→Value→List Bk
 | [],_,_,_=>[]
 | b :: r,0,i,u=>⟨b.pos,b.ty,b.vs.set i u⟩ :: r
 | b :: r,k+1,i,u=>b :: setBk r k i u
theorem setBk_pos:∀ {bs:List Bk} {k i:Nat} {u:Value} {c:Bk},c∈setBk bs k i u→∃ c'∈bs,c'.pos=c.pos
 | [],_,_,_,_,h=>by simp [setBk] at h
 | b :: r,0,i,u,c,h=>by
  simp only [setBk,List.mem_cons] at h
  rcases h with rfl | h
  ·exact ⟨b,by simp,rfl⟩
  ·exact ⟨c,by simp [h],rfl⟩
 | b :: r,k+1,i,u,c,h=>by
  simp only [setBk,List.mem_cons] at h
  rcases h with rfl | h
  ·exact ⟨c,by simp,rfl⟩
  ·obtain ⟨c',h1,h2⟩:=setBk_pos h
   exact ⟨c',by simp [h1],h2⟩
theorem Boxes.set {w W:World} (i:Nat) (u:Value):∀ {bs:List Bk} {k:Nat} {b:Bk},Boxes w W bs→bs[k]? = some b→Boxes w (W.setCell ⟨b.pos,i,none⟩ u) (setBk bs k i u)
 | [],_,_,_,h=>by simp at h
 | c :: r,0,b,h,e=>by
  simp at e
  subst e
  exact ⟨⟨h.1.1,h.1.2.1.set i u,h.1.2.2⟩,h.2.far u fun d hd=>h.1.2.2 d hd⟩
 | c :: r,k+1,b,h,e=>by
  have e':r[k]? = some b:=by simpa using e
  have hb:b∈r:=List.mem_of_getElem? e'
  refine ⟨⟨h.1.1,h.1.2.1.far (h.1.2.2 b hb) u,fun d hd=>?_⟩,h.2.set i u e'⟩
  obtain ⟨d',h1,h2⟩:=setBk_pos hd
  rw [← h2]
  exact h.1.2.2 d' h1
structure St (w:World) (bs:List Bk) (fs:List Fc) (W:World):Prop where
 bel:Below w.heap.size w W
 box:Boxes w W bs
 fct:Facts W fs
theorem St.start (w:World):St w [] [] w:=⟨Below.refl _ _,trivial,trivial⟩
theorem St.call {w W W':World} {bs:List Bk} {fs:List Fc} (h:St w bs fs W) (hb:Below W.heap.size W W'):St w bs fs W':=
 ⟨h.bel.trans (hb.mono h.bel.size),h.box.below hb,h.fct.below hb⟩
theorem St.drew {w W:World} {bs:List Bk} {fs:List Fc} (h:St w bs fs W):St w bs fs W.drew:=h.call (Below.refl _ _).drew
theorem St.fact {w W:World} {bs:List Bk} {fs:List Fc} (h:St w bs fs W) (f:Fc) (hf:f.on W):St w bs (f :: fs) W:=⟨h.bel,h.box,hf,h.fct⟩
theorem St.alloc {w W:World} {bs:List Bk} {fs:List Fc} (h:St w bs fs W) (T:TypeId) (vs:List Value):St w (⟨W.heap.size,T,vs⟩ :: bs) fs (W.alloc (.cells vs.toArray T)):=by
 have hb:=(Below.refl W.heap.size W).alloc (Nat.le_refl _) (.cells vs.toArray T)
 refine ⟨h.bel.trans (hb.mono h.bel.size),⟨⟨h.bel.size,Bx.new W T vs,fun c hc=>?_⟩,h.box.below hb⟩,h.fct.below hb⟩
 obtain ⟨k,hk⟩:=List.getElem?_of_mem hc
 have:=(h.box.get hk).2.lt
 show W.heap.size≠c.pos
 omega
theorem St.alloc' {w W:World} {bs:List Bk} {fs:List Fc} (h:St w bs fs W) (n:Nat) (hn:W.heap.size=n) (T:TypeId) (vs:List Value):St w (⟨n,T,vs⟩ :: bs) fs (W.alloc (.cells vs.toArray T)):=by
 subst hn
 exact h.alloc T vs
theorem St.store {w W:World} {bs:List Bk} {fs:List Fc} (h:St w bs fs W) (k i:Nat) (u:Value) {b:Bk} (hk:bs[k]? = some b) (ok:okVs b.vs=true):St w (setBk bs k i u) fs (W.setCell ⟨b.pos,i,none⟩ u):=by
 obtain ⟨h1,h2⟩:=h.box.get hk
 exact ⟨h.bel.setCell h1 u,h.box.set i u hk,h.fct.setBox h2 ok⟩
theorem St.bx {w W:World} {bs:List Bk} {fs:List Fc} (h:St w bs fs W) (k:Nat) {b:Bk} (hk:bs[k]? = some b):Bx W b.pos b.ty b.vs:=(h.box.get hk).2
theorem Facts.get {W:World}:∀ {fs:List Fc} {k:Nat} {f:Fc},Facts W fs→fs[k]? = some f→f.on W
 | [],_,_,_,h=>by simp at h
 | _ :: _,0,_,h,e=>by simp at e;subst e;exact h.1
 | _ :: _,k+1,_,h,e=>h.2.get (by simpa using e)
theorem St.get {w W:World} {bs:List Bk} {fs:List Fc} (h:St w bs fs W) (k:Nat) {f:Fc} (hk:fs[k]? = some f):f.on W:=h.fct.get hk
theorem St.add {w W:World} {bs:List Bk} {fs:List Fc} (h:St w bs fs W) {L:Nat} {T:TypeId} {vs:List Value} (h1:w.heap.size≤L) (h2:Bx W L T vs) (h3:∀ c∈bs,L≠c.pos):St w (⟨L,T,vs⟩ :: bs) fs W:=
 ⟨h.bel,⟨⟨h1,h2,h3⟩,h.box⟩,h.fct⟩
theorem Boxes.old {w W:World} {N:Nat} (hN:W.heap.size≤N):∀ {bs:List Bk},Boxes w W bs→∀ c∈bs,N≠c.pos
 | [],_,c,hc=>by simp at hc
 | b :: r,h,c,hc=>by
  rcases List.mem_cons.1 hc with rfl | h1
  ·have:=h.1.2.1.lt;omega
  ·exact h.2.old hN c h1
theorem St.old {w W:World} {bs:List Bk} {fs:List Fc} (h:St w bs fs W) {N:Nat} (hN:W.heap.size≤N):∀ c∈bs,N≠c.pos:=h.box.old hN
def NewV (B:Nat) (T:TypeId) (vs:List Value) (v:Value) (W:World):Prop:=∃ L,v=.pointer (some ⟨L,0,none⟩)∧B≤L∧L<W.heap.size∧Bx W L T vs
theorem newV_below {B:Nat} {T:TypeId} {vs:List Value}:∀ v W W',Below W.heap.size W W'→NewV B T vs v W→NewV B T vs v W':=
 fun _ _ _ hb ⟨L,e,h1,h2,h3⟩=>⟨L,e,h1,Nat.lt_of_lt_of_le h2 hb.size,h3.below hb⟩
theorem Bx.f1 {W:World} {b:Nat} {T:TypeId} {v0:Value} (h:Bx W b T [v0]):W.cell? ⟨b,0,none⟩=some v0∧W.frozen? ⟨b,0,none⟩=false:=⟨h.cell 0,h.frozen 0⟩
theorem Bx.f2 {W:World} {b:Nat} {T:TypeId} {v0 v1:Value} (h:Bx W b T [v0,v1]) :
  (W.cell? ⟨b,0,none⟩=some v0∧W.cell? ⟨b,1,none⟩=some v1)∧W.frozen? ⟨b,0,none⟩=false∧W.frozen? ⟨b,1,none⟩=false:=⟨⟨h.cell 0,h.cell 1⟩,h.frozen 0,h.frozen 1⟩
theorem Bx.f3 {W:World} {b:Nat} {T:TypeId} {v0 v1 v2:Value} (h:Bx W b T [v0,v1,v2]) :
  (W.cell? ⟨b,0,none⟩=some v0∧W.cell? ⟨b,1,none⟩=some v1∧W.cell? ⟨b,2,none⟩=some v2)∧W.frozen? ⟨b,0,none⟩=false∧W.frozen? ⟨b,1,none⟩=false∧W.frozen? ⟨b,2,none⟩=false:=⟨⟨h.cell 0,h.cell 1,h.cell 2⟩,h.frozen 0,h.frozen 1,h.frozen 2⟩
theorem Bx.f4 {W:World} {b:Nat} {T:TypeId} {v0 v1 v2 v3:Value} (h:Bx W b T [v0,v1,v2,v3]) :
  (W.cell? ⟨b,0,none⟩=some v0∧W.cell? ⟨b,1,none⟩=some v1∧W.cell? ⟨b,2,none⟩=some v2∧W.cell? ⟨b,3,none⟩=some v3)∧W.frozen? ⟨b,0,none⟩=false∧W.frozen? ⟨b,1,none⟩=false∧W.frozen? ⟨b,2,none⟩=false∧W.frozen? ⟨b,3,none⟩=false:=
 ⟨⟨h.cell 0,h.cell 1,h.cell 2,h.cell 3⟩,h.frozen 0,h.frozen 1,h.frozen 2,h.frozen 3⟩
theorem Bx.f5 {W:World} {b:Nat} {T:TypeId} {v0 v1 v2 v3 v4:Value} (h:Bx W b T [v0,v1,v2,v3,v4]) :
  (W.cell? ⟨b,0,none⟩=some v0∧W.cell? ⟨b,1,none⟩=some v1∧W.cell? ⟨b,2,none⟩=some v2∧W.cell? ⟨b,3,none⟩=some v3∧W.cell? ⟨b,4,none⟩=some v4) ∧
  W.frozen? ⟨b,0,none⟩=false∧W.frozen? ⟨b,1,none⟩=false∧W.frozen? ⟨b,2,none⟩=false∧W.frozen? ⟨b,3,none⟩=false∧W.frozen? ⟨b,4,none⟩=false:=
 ⟨⟨h.cell 0,h.cell 1,h.cell 2,h.cell 3,h.cell 4⟩,h.frozen 0,h.frozen 1,h.frozen 2,h.frozen 3,h.frozen 4⟩
theorem St.f1 {w W:World} {bs:List Bk} {fs:List Fc} (h:St w bs fs W) (k b:Nat) (T:TypeId) (v0:Value) (hk:bs[k]? = some ⟨b,T,[v0]⟩):W.cell? ⟨b,0,none⟩=some v0∧W.frozen? ⟨b,0,none⟩=false:=(h.bx k hk).f1
theorem St.f2 {w W:World} {bs:List Bk} {fs:List Fc} (h:St w bs fs W) (k b:Nat) (T:TypeId) (v0 v1:Value) (hk:bs[k]? = some ⟨b,T,[v0,v1]⟩) :
  (W.cell? ⟨b,0,none⟩=some v0∧W.cell? ⟨b,1,none⟩=some v1)∧W.frozen? ⟨b,0,none⟩=false∧W.frozen? ⟨b,1,none⟩=false:=(h.bx k hk).f2
theorem St.f3 {w W:World} {bs:List Bk} {fs:List Fc} (h:St w bs fs W) (k b:Nat) (T:TypeId) (v0 v1 v2:Value) (hk:bs[k]? = some ⟨b,T,[v0,v1,v2]⟩) :
  (W.cell? ⟨b,0,none⟩=some v0∧W.cell? ⟨b,1,none⟩=some v1∧W.cell? ⟨b,2,none⟩=some v2)∧W.frozen? ⟨b,0,none⟩=false∧W.frozen? ⟨b,1,none⟩=false∧W.frozen? ⟨b,2,none⟩=false:=(h.bx k hk).f3
theorem St.f4 {w W:World} {bs:List Bk} {fs:List Fc} (h:St w bs fs W) (k b:Nat) (T:TypeId) (v0 v1 v2 v3:Value) (hk:bs[k]? = some ⟨b,T,[v0,v1,v2,v3]⟩) :
  (W.cell? ⟨b,0,none⟩=some v0∧W.cell? ⟨b,1,none⟩=some v1∧W.cell? ⟨b,2,none⟩=some v2∧W.cell? ⟨b,3,none⟩=some v3)∧W.frozen? ⟨b,0,none⟩=false∧W.frozen? ⟨b,1,none⟩=false∧W.frozen? ⟨b,2,none⟩=false∧W.frozen? ⟨b,3,none⟩=false:=(h.bx k hk).f4
theorem St.f5 {w W:World} {bs:List Bk} {fs:List Fc} (h:St w bs fs W) (k b:Nat) (T:TypeId) (v0 v1 v2 v3 v4:Value) (hk:bs[k]? = some ⟨b,T,[v0,v1,v2,v3,v4]⟩) :
  (W.cell? ⟨b,0,none⟩=some v0∧W.cell? ⟨b,1,none⟩=some v1∧W.cell? ⟨b,2,none⟩=some v2∧W.cell? ⟨b,3,none⟩=some v3∧W.cell? ⟨b,4,none⟩=some v4)∧W.frozen? ⟨b,0,none⟩=false∧W.frozen? ⟨b,1,none⟩=false∧W.frozen? ⟨b,2,none⟩=false∧W.frozen? ⟨b,3,none⟩=false∧W.frozen? ⟨b,4,none⟩=false:=(h.bx k hk).f5
theorem St.ne {w W:World} {bs:List Bk} {fs:List Fc} (h:St w bs fs W) (k b:Nat) (T:TypeId) (vs:List Value) (hk:bs[k]? = some ⟨b,T,vs⟩):b<W.heap.size∧¬ W.heap.size=b∧¬ b=W.heap.size:=by
 have:b<W.heap.size:=(h.bx k hk).lt
 omega
theorem St.q5 {w W:World} {bs:List Bk} {fs:List Fc} (h:St w bs fs W) (k j b:Nat) (T:TypeId) (t:Bool) (x:Int) (p:Option Addr) (l q:Nat) (y:Int) (p':Option Addr) (l' q':Nat) (r:Rat)
  (hk:bs[k]? = some ⟨b,T,[.bool t,.int .u64 x,.slice p l q,.int .u64 y,.slice p' l' q']⟩) (hj:fs[j]? = some (.q (.agg #[.bool t,.int .u64 x,.slice p l q,.int .u64 y,.slice p' l' q']) r)) :
  (W.cell? ⟨b,0,none⟩=some (.bool t)∧W.cell? ⟨b,1,none⟩=some (.int .u64 x)∧W.cell? ⟨b,2,none⟩=some (.slice p l q)∧W.cell? ⟨b,3,none⟩=some (.int .u64 y)∧W.cell? ⟨b,4,none⟩=some (.slice p' l' q'))∧IsQ W (.agg #[.bool t,.int .u64 x,.slice p l q,.int .u64 y,.slice p' l' q']) r:=
 ⟨(h.bx k hk).f5.1,h.get j hj⟩
abbrev oQ (r:Rat):List Value→World→Prop:=one fun v W=>IsQ W v r
abbrev oE (x:Value):List Value→World→Prop:=one fun v _=>v=x
theorem bQ {r:Rat}:∀ vs W W',Below W.heap.size W W'→oQ r vs W→oQ r vs W':=one_below isQ_below
theorem bE {x:Value}:∀ vs W W',Below W.heap.size W W'→oE x vs W→oE x vs W':=one_below is_below
theorem nameW {w W:World} {bs:List Bk} {fs:List Fc} (_:Hid (St w bs fs W)):∃ W',W=W':=⟨W,rfl⟩
theorem St.as {w W:World} {bs:List Bk} {fs:List Fc} (h:St w bs fs W) (bs':List Bk) (e:bs=bs'):St w bs' fs W:=e ▸ h
theorem St.fq {w W:World} {bs:List Bk} {fs:List Fc} (h:St w bs fs W) {v:Value} {r:Rat} (hf:IsQ W v r):St w bs (.q v r :: fs) W:=h.fact (.q v r) hf
theorem St.gq {w W:World} {bs:List Bk} {fs:List Fc} (h:St w bs fs W) (k:Nat) {v:Value} {r:Rat} (hk:fs[k]? = some (.q v r)):IsQ W v r:=h.get k hk
theorem size_setCell (W:World) (a:Addr) (u:Value):(W.setCell a u).heap.size=W.heap.size:=by simp
theorem IsQ.open {W:World} {v:Value} {r:Rat} (h:IsQ W v r):∃ (t:Bool) (x:Int) (p:Option Addr) (l k:Nat) (x':Int) (p':Option Addr) (l' k':Nat),v=.agg #[.bool t,.int .u64 x,.slice p l k,.int .u64 x',.slice p' l' k']:=by
 obtain ⟨t,x,p,l,k,x',p',l',k',e,-⟩:=h.shape
 exact ⟨t,x,p,l,k,x',p',l',k',e⟩
end
section
open Go.RowKit Go.Sort
def Tab10 (w:World):Prop:=4<w.heap.size∧Lib.TabIs Tryz.prog w "internal/strconv.uint64pow10" .u64 Lib.pow10Tab
theorem Tab10.below {B:Nat} {w w':World} (h:Tab10 w) (hb:Below B w w') (hB:w.heap.size≤B):Tab10 w':=by
 refine ⟨Nat.lt_of_lt_of_le h.1 hb.size,?_⟩
 have h2:=h.2
 unfold Lib.TabIs World.var? at *
 have hg:Tryz.prog.globalNamed "internal/strconv.uint64pow10" = some 4:=by kernel_rfl
 rw [hg] at h2 ⊢
 simp only [Option.bind_some] at h2 ⊢
 rw [hb.block _ (Nat.lt_of_lt_of_le h.1 hB)]
 exact h2
abbrev E8 (b:UInt8):Value:=.int .u8 (b.toNat:Int)
theorem holds_zero24 (w:World) (T:TypeId) (nd:Nat) (hs:nd≤20):Holds E8 (w.alloc (.cells Lib.zeros24 T)) w.heap.size 0 (Array.replicate nd (0:UInt8)):=fun j hj=>by
 have hj':j<nd:=by simpa using hj
 refine ⟨?_,World.frozen?_alloc_new _ _ _ _⟩
 rw [World.cell?_alloc_new,Lib.zeros24_at _ (by omega),getElem!_pos _ j hj]
 simp
theorem heap_putRow8 (w:World) (b o:Nat) (xs:Array UInt8) (k:Nat) (h:k≠b):(putRow E8 w b o xs).heap[k]? = w.heap[k]?:=by
 unfold putRow mapBlock
 simp only [Array.getElem?_modify]
 rw [if_neg (by omega)]
theorem below_putRow8 {B:Nat} (w:World) (b o:Nat) (xs:Array UInt8) (h:B≤b):Below B w (putRow E8 w b o xs):=
 ⟨rfl,rfl,rfl,by rw [size_putRow];exact Nat.le_refl _,fun k hk=>heap_putRow8 _ _ _ _ _ (by omega)⟩
def RetT (w:World) (l:List UInt8) (e:Ending) (w':World):Prop:=e=.returned (.string ⟨l.toArray⟩)∧Below w.heap.size w w'
theorem fmt_small (u:Nat) (hu:u<100) (w:World):Calls Tryz.prog 200 #[.int .u64 (u:Int),.int .i64 10] w (RetT w (Lib.decDigits u)):=by
 go_enter Tryz.func200,Tryz.ntmps200
 go_wp2_with fail
 refine (Tryz.internal_strconv_small u hu _).mono ?_
 rintro e w' ⟨rfl,rfl⟩
 go_wp2
 go_ret
 exact ⟨rfl,Below.refl _ _⟩
theorem fmt_big (u:Nat) (hu:100≤u) (hu64:u<18446744073709551616) (w:World) (hT:Tab10 w):Calls Tryz.prog 200 #[.int .u64 (u:Int),.int .i64 10] w (RetT w (Lib.decDigits u)):=by
 have hnd20:Lib.nDigits u≤20:=by have:=Lib.numDigits_eq u (by omega) hu64;split at this <;> omega
 have hal:Tryz.prog.arrayLen 343=24:=by kernel_rfl
 have hH0:=holds_zero24 w 343 (Lib.nDigits u) hnd20
 have hfmt:=Tryz.internal_strconv_formatBase10 w.heap.size 0 24 u (Array.replicate (Lib.nDigits u) 0) (w.alloc (.cells Lib.zeros24 343)) hH0 (by rw [Array.size_replicate];exact Lib.lt_pow_nDigits u) hu64 (by rw [Array.size_replicate];omega)
 rw [Array.size_replicate] at hfmt
 have hb0:=(Below.refl w.heap.size w).alloc (Nat.le_refl _) (.cells Lib.zeros24 343)
 have hnum:=Tryz.internal_strconv_numDigits u (by omega) hu64 (w.alloc (.cells Lib.zeros24 343)) (hT.below hb0 (Nat.le_refl _)).2
 have hsl1:∀ W,(Instr.sliceAt 343 (.pointer (some ⟨w.heap.size,0,none⟩)) none (some (.int .i64 (Lib.nDigits u:Int))) none).run Tryz.prog W=.ok (.slice (some ⟨w.heap.size,0,none⟩) (Lib.nDigits u) 24) W:=fun W=>by
  rw [run_sliceAt_array_h W 343 ⟨w.heap.size,0,none⟩ (by kernel_rfl) .i64 (Lib.nDigits u:Int) (by omega) (by rw [hal];omega)]
  go_simp
 have HH0:=hid hH0
 have HF:=hid hfmt
 have HN:=hid hnum
 have HB0:=hid hb0
 have HU:=hid hu64
 clear hH0 hal hfmt hnum hb0 hu64 hT
 go_enter Tryz.func200,Tryz.ntmps200
 go_wp2_with fail
 refine HN.out.mono ?_
 rintro e w' ⟨rfl,rfl⟩
 go_wp2_with fail
 refine HF.out.mono ?_
 rintro e w' ⟨rfl,k,v',dk,rfl,hF⟩
 have hcv:(convert 84 9 (.slice (some ⟨w.heap.size,0,none⟩) (Lib.nDigits u) 24)).run Tryz.prog ((putRow E8 (w.alloc (.cells Lib.zeros24 343)) w.heap.size 0 dk).drewN k)=.ok (.string ⟨(Lib.decDigits u).toArray⟩) ((putRow E8 (w.alloc (.cells Lib.zeros24 343)) w.heap.size 0 dk).drewN k):=by
  have h:=run_convert_bytes_back (P:=Tryz.prog) ((putRow E8 (w.alloc (.cells Lib.zeros24 343)) w.heap.size 0 dk).drewN k) 84 9 5 ⟨w.heap.size,0,none⟩ 24 (Lib.decDigits u) Tryz.underlying84 Tryz.underlying5 Tryz.underlying9 (fun j hj=>by
   rw [Lib.row_is_numeral hF j hj,Lib.add_plain,World.cell?_drewN]
   exact cell?_putRow E8 _ w.heap.size 0 _ dk HH0.out (by rw [hF.size,Array.size_replicate]) j (by rw [hF.size];rw [Lib.decDigits_length] at hj;exact hj))
  rw [Lib.decDigits_length] at h
  exact h
 have HBB:Hid (Below w.heap.size w ((putRow E8 (w.alloc (.cells Lib.zeros24 343)) w.heap.size 0 dk).drewN k)):=Z4.bdrewN (HB0.out.trans (below_putRow8 _ _ _ _ (Nat.le_refl _))) k
 clear hF
 go_wp2
 go_ret
 exact ⟨rfl,HBB.out⟩
theorem fmt_calls (u:Nat) (hu64:u<B64) (w:World) (hT:Tab10 w):Calls Tryz.prog 141 #[.int .u64 (u:Int),.int .i64 10] w (RetT w (Lib.decDigits u)):=by
 have H:=hid (show Calls Tryz.prog 200 #[.int .u64 (u:Int),.int .i64 10] w (RetT w (Lib.decDigits u)) by
  rcases Nat.lt_or_ge u 100 with h | h
  ·exact fmt_small u h w
  ·exact fmt_big u h hu64 w hT)
 clear hu64 hT
 go_enter Tryz.func141,Tryz.ntmps141
 go_wp2_with fail
 refine H.out.mono ?_
 rintro e w' ⟨rfl,hb⟩
 have HB:=hid hb
 clear hb
 go_wp2
 go_ret
 exact ⟨rfl,HB.out⟩
end
end Go.Proofs.YtmijlcldmefggaaGreatDoor
