/- What the proof rests on, part 17. -/
import Derived.Test.YtmijlcldmefggaaGreatDoorZ16
namespace Go.Proofs.YtmijlcldmefggaaGreatDoor
set_option maxRecDepth 100000
set_option maxHeartbeats 80000000
section
theorem coprime_sum {a b:Nat} {x y z:Int} (h:z=x*b+y*a) (hx:Nat.Coprime x.natAbs a) (hb:Nat.Coprime b a):Nat.Coprime z.natAbs a:=by
 have h1:Nat.Coprime (x.natAbs*b) a:=Nat.Coprime.mul_left hx hb
 have h2:(x*b).natAbs=x.natAbs*b:=by rw [Int.natAbs_mul,Int.natAbs_natCast]
 have h3:Int.gcd z a=Int.gcd (x*b) a:=by rw [h,Int.gcd_add_mul_right_left]
 have h4:Int.gcd z a=Nat.gcd z.natAbs a:=rfl
 have h5:Int.gcd (x*b) a=Nat.gcd (x*b).natAbs a:=rfl
 unfold Nat.Coprime at *
 rw [← h4,h3,h5,h2]
 exact h1
theorem add_parts (b t1 t2:Bool) (n n1 d1 n2 d2:Nat) (h1:Nat.Coprime n1 d1) (h2:Nat.Coprime n2 d2) (e1:d1≠0) (e2:d2≠0)
  (hz:zs b n=zs t1 (n1*(d2 / Nat.gcd d1 d2))+zs t2 (n2*(d1 / Nat.gcd d1 d2))) :
  Nat.gcd d1 d2≠0∧Nat.gcd n (Nat.gcd d1 d2)≠0∧Nat.Coprime (n / Nat.gcd n (Nat.gcd d1 d2)) (d1 / Nat.gcd d1 d2*(d2 / Nat.gcd n (Nat.gcd d1 d2)))∧d1 / Nat.gcd d1 d2*(d2 / Nat.gcd n (Nat.gcd d1 d2))≠0 ∧
  mkRat (zs b (n / Nat.gcd n (Nat.gcd d1 d2))) (d1 / Nat.gcd d1 d2*(d2 / Nat.gcd n (Nat.gcd d1 d2)))=mkRat (zs t1 n1) d1+mkRat (zs t2 n2) d2:=by
 obtain ⟨c0,c1,c2⟩:=gcd_parts d1 d2 e2
 have ca:=Nat.gcd_dvd_left d1 d2
 have cb:=Nat.gcd_dvd_right d1 d2
 generalize Nat.gcd d1 d2=c at *
 obtain ⟨a,rfl⟩:=ca
 obtain ⟨b',rfl⟩:=cb
 rw [Nat.mul_div_cancel_left _ (by omega)] at *
 rw [Nat.mul_div_cancel_left _ (by omega)] at *
 obtain ⟨g0,g1,g2⟩:=gcd_parts n c c0
 have ga:=Nat.gcd_dvd_left n c
 have gb:=Nat.gcd_dvd_right n c
 generalize Nat.gcd n c=g at *
 obtain ⟨m,rfl⟩:=ga
 obtain ⟨c',rfl⟩:=gb
 rw [Nat.mul_div_cancel_left _ (by omega)] at *
 rw [Nat.mul_div_cancel_left _ (by omega)] at *
 have hdv:g*c' * b' / g=c' * b':=by rw [Nat.mul_assoc,Nat.mul_div_cancel_left _ (by omega)]
 rw [hdv]
 have hb0:b'≠0:=c2
 have ha0:a≠0:=fun e=>e1 (by rw [e,Nat.mul_zero])
 have k1:Nat.Coprime n1 a:=coprime_parts h1 (Nat.dvd_refl _) (Nat.dvd_mul_left _ _)
 have k2:Nat.Coprime n2 b':=coprime_parts h2 (Nat.dvd_refl _) (Nat.dvd_mul_left _ _)
 rw [zs_mul_nat t1,zs_mul_nat t2] at hz
 have z1:=coprime_sum (a:=a) (b:=b') (x:=zs t1 n1) (y:=zs t2 n2) hz (by rw [zs_natAbs];exact k1) (Nat.Coprime.symm c1)
 have z2:=coprime_sum (z:=zs b (g*m)) (a:=b') (b:=a) (x:=zs t2 n2) (y:=zs t1 n1) (by rw [hz,Int.add_comm]) (by rw [zs_natAbs];exact k2) c1
 rw [zs_natAbs] at z1 z2
 have m1:Nat.Coprime m a:=coprime_parts z1 (Nat.dvd_mul_left _ _) (Nat.dvd_refl _)
 have m2:Nat.Coprime m b':=coprime_parts z2 (Nat.dvd_mul_left _ _) (Nat.dvd_refl _)
 have hd:a*(c' * b')≠0:=Nat.mul_ne_zero ha0 (Nat.mul_ne_zero g2 hb0)
 refine ⟨c0,g0,Nat.Coprime.mul_right m1 (Nat.Coprime.mul_right g1 m2),hd,?_⟩
 rw [Rat.mkRat_add_mkRat _ _ e1 e2,Rat.mkRat_eq_iff hd (Nat.mul_ne_zero e1 e2)]
 rw [Nat.mul_comm g m,zs_mul_nat] at hz
 generalize zs b m=z at *
 generalize zs t1 n1=x at *
 generalize zs t2 n2=y at *
 clear z1 z2 m1 m2 k1 k2 h1 h2 c1 g1
 have:z*(g:Int)=x*(b':Int)+y*(a:Int):=hz
 push_cast
 generalize (a:Int)=A at *
 generalize (b':Int)=Bb at *
 generalize (c':Int)=C at *
 generalize (g:Int)=G at *
 grind
end
section
open Go.RowKit Go.Sort
theorem lt_pow_two {a b k:Nat} (ha:a<B64 ^ k) (hb:b<B64 ^ k):a+b<B64 ^ (k+1):=by
 rw [Nat.pow_succ]
 have:2≤B64:=by decide
 have:=Nat.mul_le_mul_left (B64 ^ k) this
 omega
namespace Rx
def eW (t:Bool) (i j:Nat) (x:Bool):En:=⟨53,[nN t i j],.b x⟩
def eA (t t' s:Bool) (i j k:Nat):En:=⟨54,[.c [.b t,.m i],.c [.b t',.m j]],.c [.b s,.m k]⟩
def eH (t:Bool) (i:Nat):En:=⟨52,[.c [.b t,.m i]],.c [.q]⟩
def eQ (n:Int):En:=⟨7,[.c [.q]],.i n⟩
section
variable {β:Nat→Nat} {r:Rat}
theorem eW_ok {T:World→Prop} {t x:Bool} {i j:Nat} (h:(β j == 0)=x):(eW t i j x).Ok T β r:=en_isWhole h
theorem eH_ok {T:World→Prop} {t:Bool} {i:Nat} (h0:t=true→β i≠0) (hr:((zs t (β i):Int):Rat)=r):(eH t i).Ok T β r:=en_whole h0 hr
theorem eA_ok {T:World→Prop} {t t' s:Bool} {i j k K:Nat} (h1:sumB t (β i) t' (β j)=s) (h2:sumN t (β i) t' (β j)=β k) (hK:K≤137438953472) (k1:β i<B64 ^ K) (k2:β j<B64 ^ K):(eA t t' s i j k).Ok T β r:=by
 intro W vs hv hT
 match vs,hv with
 | [v,v'],⟨⟨us,hu,ha⟩,⟨us',hu',ha'⟩,_⟩ =>
  obtain ⟨c,d,rfl,g1⟩:=isA_sig ha
  obtain ⟨e,g,rfl,g2⟩:=isA_sig ha'
  subst hu hu'
  have:=adds_calls t t' c d e g (β i) (β j) K W g1 g2 hK k1 k2
  rw [h1,h2] at this
  exact this.mono fun x W' ⟨a,p,l,q,hx,hm,hb⟩=>⟨[.bool s,.int .u64 a,.slice p l q],hx,⟨rfl,hm,trivial⟩,hb⟩
theorem eQ_ok {T:World→Prop} {n:Int} (h:sgn (decide (r.num<0)) r.num.natAbs=n):(eQ n).Ok T β r:=by
 intro W vs hv hT
 match vs,hv with
 | [v],⟨⟨us,hu,ha⟩,_⟩ =>
  match us,ha with
  | [a,b,c,d,e],⟨hq,_⟩ =>
   subst hu
   obtain ⟨t,x,p,l,q,y,p',s',u,hv,i,-,ht⟩:=IsQ.shape hq
   have:=Sign_calls t (.int .u64 x) (.slice p l q) (.int .u64 y) (.slice p' s' u) _ W i
   rw [ht.out,h,← ht.out] at this
   show Calls Tryz.prog _ #[.agg #[a,b,c,d,e]] W _
   rw [hv]
   exact this
theorem add_run0 (β:Nat→Nat) (r:Rat) (t1 t2:Bool) :
  isW false (runF Tryz.prog (SM β r) (HM β r) ([eS t1 0 1 0].map (conE β r [])) 1 15 [nC t1 0 1,.e (.a (numC 2))] [.m 0 0,.m 1 1,.w 2] 4)=true ∧
  isW false (runF Tryz.prog (SM β r) (HM β r) ([eQ (sg t1),eS t2 2 3 0].map (conE β r [])) 1 15 [.e (.a (numC 0)),nC t2 2 3] [.w 0,.m 2 2,.m 3 3] 4)=true:=by
 cases t1 <;> cases t2 <;> exact ⟨by kernel_rfl,by kernel_rfl⟩
def addWb (t1 t2 s:Bool):List En:=[eS t1 0 1 (sg t1),eS t2 2 3 (sg t2),eW t1 0 1 true,eW t2 2 3 true,eA t1 t2 s 0 2 4,eH s 4]
theorem add_run1 (β:Nat→Nat) (r:Rat) (t1 t2 s:Bool):isW false (runF Tryz.prog (SM β r) (HM β r) ((addWb t1 t2 s).map (conE β r [])) 1 15 [nC t1 0 1,nC t2 2 3] f4 4)=true:=by
 cases t1 <;> cases t2 <;> cases s <;> kernel_rfl
def addTb (t1 t2 s x1 x2:Bool):List En:=[eS t1 0 1 (sg t1),eS t2 2 3 (sg t2),eW t1 0 1 x1,eW t2 2 3 x2,eU t1 0 1 4,eU t2 2 3 5,eG 4 5 6,eO 4 6 7,eO 5 6 8,eT 0 8 9,eT 2 7 10,eA t1 t2 s 9 10 11,eG 11 6 12,eO 11 12 13,eO 5 12 14,eT 7 14 15,eL s 13 15]
theorem add_run2 (β:Nat→Nat) (r:Rat) (t1 t2 s x1 x2:Bool) (hx:(x1 && x2)=false):isW false (runF Tryz.prog (SM β r) (HM β r) ((addTb t1 t2 s x1 x2).map (conE β r [])) 1 15 [nC t1 0 1,nC t2 2 3] f4 4)=true:=by
 cases x1 <;> cases x2 <;> first | (cases hx;done) | (cases t1 <;> cases t2 <;> cases s <;> kernel_rfl)
end
end Rx
theorem add_zero1 (t1 t2:Bool) (x1 y1 x2 y2:Int) (p1 r1 p2 r2:Option Addr) (l1 q1 s1 v1 l2 q2 s2 v2 n1 m1 n2 m2:Nat) (w:World)
  (i1:IsMag w (.int .u64 x1) (.slice p1 l1 q1) n1) (j1:IsMag w (.int .u64 y1) (.slice r1 s1 v1) m1) (i2:IsMag w (.int .u64 x2) (.slice p2 l2 q2) n2) (j2:IsMag w (.int .u64 y2) (.slice r2 s2 v2) m2) (hT:Tab w) (r:Rat) (hr:n2=r.num.natAbs) (hd:m2=denOf r) (ht:Hid (t2=decide (r.num<0))) (h1:sgn t1 n1=0) :
  Calls Tryz.prog 15 #[.agg #[.bool t1,.int .u64 x1,.slice p1 l1 q1,.int .u64 y1,.slice r1 s1 v1],.agg #[.bool t2,.int .u64 x2,.slice p2 l2 q2,.int .u64 y2,.slice r2 s2 v2]] w (RetQ w r):=by
 have hq:IsQ w (.agg #[.bool t2,.int .u64 x2,.slice p2 l2 q2,.int .u64 y2,.slice r2 s2 v2]) r:=⟨_,_,_,_,by rw [ht.out],by rw [← hr];exact i2,by rw [← hd];exact j2⟩
 exact Rx.run_w (β:=Rx.bt [n1,m1]) (ρ:=Rx.em [⟨false,x1,p1,l1,q1,.empty,0,default⟩,⟨false,y1,r1,s1,v1,.empty,0,default⟩,⟨t2,x2,p2,l2,q2,.empty,0,default⟩,⟨false,y2,r2,s2,v2,.empty,0,default⟩]) (args:=[Rx.nC t1 0 1,.e (.a (Rx.numC 2))]) (fs:=[.m 0 0,.m 1 1,.w 2]) Rx.no_ls (fun e he=>by
  obtain rfl:=List.mem_singleton.1 he
  exact Rx.eS_ok h1) (Rx.add_run0 _ _ t1 t1).1 (fun h=>by cases h) (Rx.tab_below hT) fun g hg=>by
  simp only [List.mem_cons,List.not_mem_nil,or_false] at hg
  rcases hg with rfl | rfl | rfl
  ·exact i1
  ·exact j1
  ·exact hq
theorem add_zero2 (t1 t2:Bool) (x1 y1 x2 y2:Int) (p1 r1 p2 r2:Option Addr) (l1 q1 s1 v1 l2 q2 s2 v2 n1 m1 n2 m2:Nat) (w:World)
  (i1:IsMag w (.int .u64 x1) (.slice p1 l1 q1) n1) (j1:IsMag w (.int .u64 y1) (.slice r1 s1 v1) m1) (i2:IsMag w (.int .u64 x2) (.slice p2 l2 q2) n2) (j2:IsMag w (.int .u64 y2) (.slice r2 s2 v2) m2) (hT:Tab w) (r:Rat) (hr:n1=r.num.natAbs) (hd:m1=denOf r) (ht:Hid (t1=decide (r.num<0))) (h1:sgn t1 n1≠0) (h2:sgn t2 n2=0) :
  Calls Tryz.prog 15 #[.agg #[.bool t1,.int .u64 x1,.slice p1 l1 q1,.int .u64 y1,.slice r1 s1 v1],.agg #[.bool t2,.int .u64 x2,.slice p2 l2 q2,.int .u64 y2,.slice r2 s2 v2]] w (RetQ w r):=by
 have hq:IsQ w (.agg #[.bool t1,.int .u64 x1,.slice p1 l1 q1,.int .u64 y1,.slice r1 s1 v1]) r:=⟨_,_,_,_,by rw [ht.out],by rw [← hr];exact i1,by rw [← hd];exact j1⟩
 exact Rx.run_w (β:=Rx.bt [0,0,n2,m2]) (ρ:=Rx.em [⟨t1,x1,p1,l1,q1,.empty,0,default⟩,⟨false,y1,r1,s1,v1,.empty,0,default⟩,⟨false,x2,p2,l2,q2,.empty,0,default⟩,⟨false,y2,r2,s2,v2,.empty,0,default⟩]) (args:=[.e (.a (Rx.numC 0)),Rx.nC t2 2 3]) (fs:=[.w 0,.m 2 2,.m 3 3]) Rx.no_ls (fun e he=>by
  simp only [List.mem_cons,List.not_mem_nil,or_false] at he
  rcases he with rfl | rfl
  ·exact Rx.eQ_ok (by rw [← ht.out,← hr];exact Rx.sgn_sg h1)
  ·exact Rx.eS_ok h2) (Rx.add_run0 _ _ t1 t2).2 (fun h=>by cases h) (Rx.tab_below hT) fun g hg=>by
  simp only [List.mem_cons,List.not_mem_nil,or_false] at hg
  rcases hg with rfl | rfl | rfl
  ·exact hq
  ·exact i2
  ·exact j2
theorem add_whole (t1 t2:Bool) (x1 y1 x2 y2:Int) (p1 r1 p2 r2:Option Addr) (l1 q1 s1 v1 l2 q2 s2 v2 n1 m1 n2 m2 k:Nat) (w:World)
  (i1:IsMag w (.int .u64 x1) (.slice p1 l1 q1) n1) (j1:IsMag w (.int .u64 y1) (.slice r1 s1 v1) m1) (i2:IsMag w (.int .u64 x2) (.slice p2 l2 q2) n2) (j2:IsMag w (.int .u64 y2) (.slice r2 s2 v2) m2) (hT:Tab w) (h1:sgn t1 n1≠0) (h2:sgn t2 n2≠0) (w1':m1=0) (w2':m2=0) (hk:k≤137438953472) (k1:n1<B64 ^ k) (k2:n2<B64 ^ k) (g1:t1=true→n1≠0) (g2:t2=true→n2≠0) :
  Calls Tryz.prog 15 #[.agg #[.bool t1,.int .u64 x1,.slice p1 l1 q1,.int .u64 y1,.slice r1 s1 v1],.agg #[.bool t2,.int .u64 x2,.slice p2 l2 q2,.int .u64 y2,.slice r2 s2 v2]] w (RetQ w ((zs t1 n1+zs t2 n2:Int):Rat)):=by
 obtain ⟨ss1,ss2,ss3⟩:=sum_spec t1 t2 n1 n2
 refine Rx.two_mags (β:=Rx.bt [n1,m1,n2,m2,sumN t1 n1 t2 n2]) i1 j1 i2 j2 fun _ hg=>Rx.run_w Rx.no_ls (fun e he=>?_) (Rx.add_run1 _ _ t1 t2 (sumB t1 n1 t2 n2)) (fun h=>by cases h) (Rx.tab_below hT) hg
 simp only [Rx.addWb,List.mem_cons,List.not_mem_nil,or_false] at he
 rcases he with rfl | rfl | rfl | rfl | rfl | rfl
 ·exact Rx.eS_ok (Rx.sgn_sg h1)
 ·exact Rx.eS_ok (Rx.sgn_sg h2)
 ·exact Rx.eW_ok (by show (m1 == 0)=true;rw [w1'];rfl)
 ·exact Rx.eW_ok (by show (m2 == 0)=true;rw [w2'];rfl)
 ·exact Rx.eA_ok (K:=k) rfl rfl hk k1 k2
 ·exact Rx.eH_ok (ss3 g1 g2) (by show ((zs (sumB t1 n1 t2 n2) (sumN t1 n1 t2 n2):Int):Rat)=_;rw [ss1])
end
section
open Go.RowKit Go.Sort
theorem add_main (t1 t2:Bool) (x1 y1 x2 y2:Int) (p1 r1 p2 r2:Option Addr) (l1 q1 s1 v1 l2 q2 s2 v2 n1 m1 n2 m2 k:Nat) (w:World)
  (i1:IsMag w (.int .u64 x1) (.slice p1 l1 q1) n1) (j1:IsMag w (.int .u64 y1) (.slice r1 s1 v1) m1) (i2:IsMag w (.int .u64 x2) (.slice p2 l2 q2) n2) (j2:IsMag w (.int .u64 y2) (.slice r2 s2 v2) m2) (hT:Tab w) (h1:sgn t1 n1≠0) (h2:sgn t2 n2≠0) (wmm:m1=0→m2≠0) (o1:Nat.Coprime n1 (undN m1)) (o2:Nat.Coprime n2 (undN m2)) (hk:k≤17179869184) (k1:n1<B64 ^ k) (k2:undN m1<B64 ^ k) (k3:n2<B64 ^ k) (k4:undN m2<B64 ^ k) (e1:undN m1≠0) (e2:undN m2≠0) :
  Calls Tryz.prog 15 #[.agg #[.bool t1,.int .u64 x1,.slice p1 l1 q1,.int .u64 y1,.slice r1 s1 v1],.agg #[.bool t2,.int .u64 x2,.slice p2 l2 q2,.int .u64 y2,.slice r2 s2 v2]] w (RetQ w (mkRat (zs t1 n1) (undN m1)+mkRat (zs t2 n2) (undN m2))):=by
 have ss:=sum_spec t1 t2 (n1*(undN m2 / Nat.gcd (undN m1) (undN m2))) (n2*(undN m1 / Nat.gcd (undN m1) (undN m2)))
 obtain ⟨P1,P2,P3,P4,P5⟩:=add_parts _ t1 t2 _ n1 (undN m1) n2 (undN m2) o1 o2 e1 e2 ss.1
 have lt:∀ {a b K:Nat},a<B64 ^ K→a / b<B64 ^ K:=fun h=>Nat.lt_of_le_of_lt (Nat.div_le_self _ _) h
 have kp1:=mul_lt_pow k1 (lt (b:=Nat.gcd (undN m1) (undN m2)) k4)
 have kp2:=mul_lt_pow k3 (lt (b:=Nat.gcd (undN m1) (undN m2)) k2)
 have kN:=Nat.lt_of_le_of_lt ss.2.1 (lt_pow_two kp1 kp2)
 have kc:Nat.gcd (undN m1) (undN m2)<B64 ^ (k+k+1):=Nat.lt_of_lt_of_le (Nat.lt_of_le_of_lt (Nat.le_of_dvd (Nat.pos_of_ne_zero e1) (Nat.gcd_dvd_left _ _)) k2) (Nat.pow_le_pow_right (by decide) (by omega))
 generalize hsB:sumB t1 (n1*(undN m2 / Nat.gcd (undN m1) (undN m2))) t2 (n2*(undN m1 / Nat.gcd (undN m1) (undN m2)))=sB at *
 generalize hsN:sumN t1 (n1*(undN m2 / Nat.gcd (undN m1) (undN m2))) t2 (n2*(undN m1 / Nat.gcd (undN m1) (undN m2)))=sN at *
 generalize hc:Nat.gcd (undN m1) (undN m2)=c at *
 generalize hg:Nat.gcd sN c=g at *
 refine Rx.two_mags (β:=Rx.bt [n1,m1,n2,m2,undN m1,undN m2,c,undN m1 / c,undN m2 / c,n1*(undN m2 / c),n2*(undN m1 / c),sN,g,sN / g,undN m2 / g,undN m1 / c*(undN m2 / g)]) i1 j1 i2 j2 fun _ hg'=>Rx.run_w Rx.no_ls (fun e he=>?_) (Rx.add_run2 _ _ t1 t2 sB (m1 == 0) (m2 == 0) (by
  by_cases h:m1=0
  ·rw [show (m2 == 0)=false from beq_eq_false_iff_ne.2 (wmm h),Bool.and_false]
  ·rw [show (m1 == 0)=false from beq_eq_false_iff_ne.2 h,Bool.false_and])) (fun h=>by cases h) (Rx.tab_below hT) hg'
 simp only [Rx.addTb,List.mem_cons,List.not_mem_nil,or_false] at he
 rcases he with rfl | rfl | rfl | rfl | rfl | rfl | rfl | rfl | rfl | rfl | rfl | rfl | rfl | rfl | rfl | rfl | rfl
 ·exact Rx.eS_ok (Rx.sgn_sg h1)
 ·exact Rx.eS_ok (Rx.sgn_sg h2)
 ·exact Rx.eW_ok rfl
 ·exact Rx.eW_ok rfl
 ·exact Rx.eU_ok rfl
 ·exact Rx.eU_ok rfl
 ·exact Rx.eG_ok (K:=k) hc (by omega) k2 k4
 ·exact Rx.eO_ok (K:=k) rfl P1 (by omega) k2
 ·exact Rx.eO_ok (K:=k) rfl P1 (by omega) k4
 ·exact Rx.eT_ok (K:=k) rfl (by omega) k1 (lt k4)
 ·exact Rx.eT_ok (K:=k) rfl (by omega) k3 (lt k2)
 ·exact Rx.eA_ok (K:=k+k) hsB hsN (by omega) kp1 kp2
 ·exact Rx.eG_ok (K:=k+k+1) hg (by omega) kN kc
 ·exact Rx.eO_ok (K:=k+k+1) rfl P2 (by omega) kN
 ·exact Rx.eO_ok (K:=k) rfl P2 (by omega) k4
 ·exact Rx.eT_ok (K:=k) rfl (by omega) (lt k2) (lt k4)
 ·exact Rx.eL_ok P3 P4 P5
theorem den_one (r:Rat) (h:denOf r=0):r=(r.num:Rat):=by
 have h1:r.den=1:=by
  unfold denOf at h
  by_cases h2:r.den=1
  ·exact h2
  ·rw [if_neg h2] at h
   exact absurd h r.den_nz
 exact Rat.ext rfl h1
theorem Add_calls (r s:Rat) (v1 v2:Value) (k:Nat) (w:World) (h1:IsQ w v1 r) (h2:IsQ w v2 s) (hk:k≤17179869184) (f1:Fits k r) (f2:Fits k s) (hT:Tab w) :
  Calls Tryz.prog 15 #[v1,v2] w (RetQ w (r+s)):=by
 obtain ⟨t1,x1,p1,l1,q1,y1,r1,s1,u1,rfl,i1,j1,e1⟩:=h1.shape
 obtain ⟨t2,x2,p2,l2,q2,y2,r2,s2,u2,rfl,i2,j2,e2⟩:=h2.shape
 have e1':=e1.out
 have e2':=e2.out
 by_cases z1:r=0
 ·have:=add_zero1 t1 t2 x1 y1 x2 y2 p1 r1 p2 r2 l1 q1 s1 u1 l2 q2 s2 u2 _ _ _ _ w i1 j1 i2 j2 hT s rfl rfl e2 (by rw [e1'];exact (sgn_num r).2 z1)
  rw [z1,Rat.zero_add]
  exact this
 have n1:sgn t1 r.num.natAbs≠0:=by rw [e1'];exact fun h=>z1 ((sgn_num r).1 h)
 by_cases z2:s=0
 ·have:=add_zero2 t1 t2 x1 y1 x2 y2 p1 r1 p2 r2 l1 q1 s1 u1 l2 q2 s2 u2 _ _ _ _ w i1 j1 i2 j2 hT r rfl rfl e1 n1 (by rw [e2'];exact (sgn_num s).2 z2)
  rw [z2,Rat.add_zero]
  exact this
 have n2:sgn t2 s.num.natAbs≠0:=by rw [e2'];exact fun h=>z2 ((sgn_num s).1 h)
 by_cases d1:denOf r=0
 ·by_cases d2:denOf s=0
  ·have:=add_whole t1 t2 x1 y1 x2 y2 p1 r1 p2 r2 l1 q1 s1 u1 l2 q2 s2 u2 _ _ _ _ k w i1 j1 i2 j2 hT n1 n2 d1 d2 (by omega) f1.1 f2.1 (by rw [e1'];intro h;have:=of_decide_eq_true h;omega) (by rw [e2'];intro h;have:=of_decide_eq_true h;omega)
   rw [e1',e2',zs_of,zs_of,Rat.intCast_add,← den_one r d1,← den_one s d2] at this
   rw [e1',e2']
   exact this
  ·have:=add_main t1 t2 x1 y1 x2 y2 p1 r1 p2 r2 l1 q1 s1 u1 l2 q2 s2 u2 _ _ _ _ k w i1 j1 i2 j2 hT n1 n2 (fun _=>d2) (by rw [und_den];exact r.reduced) (by rw [und_den];exact s.reduced) hk f1.1 (by rw [und_den];exact f1.2) f2.1 (by rw [und_den];exact f2.2) (by rw [und_den];exact r.den_nz) (by rw [und_den];exact s.den_nz)
   rw [e1',e2',rat_parts,rat_parts] at this
   rw [e1',e2']
   exact this
 ·have:=add_main t1 t2 x1 y1 x2 y2 p1 r1 p2 r2 l1 q1 s1 u1 l2 q2 s2 u2 _ _ _ _ k w i1 j1 i2 j2 hT n1 n2 (fun h=>absurd h d1) (by rw [und_den];exact r.reduced) (by rw [und_den];exact s.reduced) hk f1.1 (by rw [und_den];exact f1.2) f2.1 (by rw [und_den];exact f2.2) (by rw [und_den];exact r.den_nz) (by rw [und_den];exact s.den_nz)
  rw [e1',e2',rat_parts,rat_parts] at this
  rw [e1',e2']
  exact this
end
section
open Go.RowKit Go.Sort
attribute [local go_sem] takes takesUpon_value takesUpon_skip takesUpon_enter
theorem QSlot.setCell {W:World} {b:Nat} (h:QSlot W b) (a:Addr) (v:Value) (ha:a.block≠b):QSlot (W.setCell a v) b:=by
 obtain ⟨⟨t,h0⟩,⟨x,h1⟩,⟨p,l,c,h2⟩,⟨y,h3⟩,⟨p',l',c',h4⟩,f0,f1,f2,f3,f4⟩:=h
 refine ⟨⟨t,?_⟩,⟨x,?_⟩,⟨p,l,c,?_⟩,⟨y,?_⟩,⟨p',l',c',?_⟩,?_,?_,?_,?_,?_⟩
 all_goals first | (simp only [World.frozen?_setCell];assumption) | (rw [World.cell?_setCell_far _ _ _ _ ha];assumption)
structure Q1St (w W:World) (t:Bool) (c d e f:Value) (n m:Nat):Prop where
 b1:C5 W w.heap.size (.bool t) c d e f
 fr:W.frozen? ⟨w.heap.size,0,none⟩=false
 rs:QSlot W (w.heap.size+1)
 i1:IsMag W c d n
 j1:IsMag W e f m
 bel:Below w.heap.size w W
 sz:w.heap.size+2≤W.heap.size
theorem Q1St.next {w W W':World} {t:Bool} {c d e f:Value} {n m:Nat} (h:Q1St w W t c d e f n m) (hb:Below W.heap.size W W'):Q1St w W' t c d e f n m where
 b1:=C5.below h.b1 hb (by have:=h.sz;omega)
 fr:=(hb.frozen (p:=⟨w.heap.size,0,none⟩) (by have:=h.sz;simp only;omega)).trans h.fr
 rs:=h.rs.below hb (by have:=h.sz;omega)
 i1:=h.i1.below hb
 j1:=h.j1.below hb
 bel:=h.bel.trans (hb.mono h.bel.size)
 sz:=Nat.le_trans h.sz hb.size
theorem Q1St.start {w:World} (t:Bool) (c d e f:Value) (n m:Nat) (T1 T2:TypeId) (i1:IsMag w c d n) (j1:IsMag w e f m) :
  Q1St w ((w.alloc (.cells #[.bool t,c,d,e,f] T1)).alloc (.cells #[.bool false,.int .u64 0,.slice none 0 0,.int .u64 0,.slice none 0 0] T2)) t c d e f n m:=by
 have hb:=((Below.refl w.heap.size w).alloc (Nat.le_refl _) (.cells #[.bool t,c,d,e,f] T1)).alloc (by simp) (.cells #[.bool false,.int .u64 0,.slice none 0 0,.int .u64 0,.slice none 0 0] T2)
 refine ⟨⟨?_,?_,?_,?_,?_⟩,?_,⟨⟨false,?_⟩,⟨0,?_⟩,⟨none,0,0,?_⟩,⟨0,?_⟩,⟨none,0,0,?_⟩,?_,?_,?_,?_,?_⟩,i1.below hb,j1.below hb,hb,by simp⟩ <;> go_simp
def RetQE (w:World) (r:Rat) (c:Int) (e:Ending) (w':World):Prop:=∃ v,e=.returned (.tuple #[v,.int .i64 c])∧IsQ w' v r∧Below w.heap.size w w'
theorem denOf_neg (r:Rat):denOf (-r)=denOf r:=by unfold denOf;rw [Rat.neg_den]
theorem num_neg_abs (r:Rat):(-r).num.natAbs=r.num.natAbs:=by rw [Rat.neg_num,Int.natAbs_neg]
theorem neg_true (x y:Int) (p r:Option Addr) (l q s v n m:Nat) (w:World) (i1:IsMag w (.int .u64 x) (.slice p l q) n) (j1:IsMag w (.int .u64 y) (.slice r s v) m):Calls Tryz.prog 21 #[.agg #[.bool true,.int .u64 x,.slice p l q,.int .u64 y,.slice r s v]] w (fun e w'=>e=.returned (.agg #[.bool false,.int .u64 x,.slice p l q,.int .u64 y,.slice r s v])∧IsMag w' (.int .u64 x) (.slice p l q) n∧IsMag w' (.int .u64 y) (.slice r s v) m∧Below w.heap.size w w'):=by
 have hb:=((Below.refl w.heap.size w).alloc (Nat.le_refl _) (.cells #[.bool false,.int .u64 x,.slice p l q,.int .u64 y,.slice r s v] 32)).alloc (by simp) (.cells #[.bool false,.int .u64 x,.slice p l q,.int .u64 y,.slice r s v] 32)
 have HB:=hid (And.intro (i1.below hb) (And.intro (j1.below hb) hb))
 clear hb i1 j1
 go_enter Tryz.func21,Tryz.ntmps21
 go_wp2_with fail
 exact bodyPost_ret (v:=.agg #[.bool false,.int .u64 x,.slice p l q,.int .u64 y,.slice r s v]) (by simp [results,Tryz.results21,go_sem]) rfl ⟨rfl,HB.out⟩
theorem neg_false (x y:Int) (p r:Option Addr) (l q s v n m:Nat) (w:World) (i1:IsMag w (.int .u64 x) (.slice p l q) n) (j1:IsMag w (.int .u64 y) (.slice r s v) m):Calls Tryz.prog 21 #[.agg #[.bool false,.int .u64 x,.slice p l q,.int .u64 y,.slice r s v]] w (fun e w'=>e=.returned (.agg #[.bool !(n == 0),.int .u64 x,.slice p l q,.int .u64 y,.slice r s v])∧IsMag w' (.int .u64 x) (.slice p l q) n∧IsMag w' (.int .u64 y) (.slice r s v) m∧Below w.heap.size w w'):=by
 have hz:=hid (fun (W:World) (h:IsMag W (.int .u64 x) (.slice p l q) n)=>isZero_calls _ _ n W h)
 obtain ⟨z,hzz⟩:∃ z,(n == 0)=z:=⟨_,rfl⟩
 rw [hzz] at hz ⊢
 clear hzz
 have h0:=Q1St.start false (.int .u64 x) (.slice p l q) (.int .u64 y) (.slice r s v) n m 32 32 i1 j1
 have H0:=hid h0
 clear h0
 have I1:=hid i1
 have J1:=hid j1
 clear i1 j1
 go_enter Tryz.func21,Tryz.ntmps21
 go_wp2_with fail
 obtain ⟨W0,hW0⟩:∃ W0,(w.alloc (.cells #[.bool false,.int .u64 x,.slice p l q,.int .u64 y,.slice r s v] 32)).alloc (.cells #[.bool false,.int .u64 0,.slice none 0 0,.int .u64 0,.slice none 0 0] 32)=W0:=⟨_,rfl⟩
 rw [hW0] at H0 ⊢
 clear hW0
 have hI:=H0.out.i1
 obtain ⟨d0,d1,d2,d3,d4⟩:=H0.out.b1
 go_wp2_with fail
 refine (hz.out _ hI).mono ?_
 rintro e W1 ⟨rfl,hB1⟩
 have hQ:=H0.out.next hB1
 clear H0 hB1 hz hI d0 d1 d2 d3 d4
 have hb2:Below w.heap.size w (W1.setCell ⟨w.heap.size,0,none⟩ (.bool !z)):=hQ.bel.setCell (by simp) _
 have rs2:=hQ.rs.setCell ⟨w.heap.size,0,none⟩ (.bool !z) (by simp)
 obtain ⟨g0,ga,gb,gc,gd,⟨c0,c1,c2,c3,c4⟩,f0,f1,f2,f3,f4⟩:=hQ.rs.facts
 obtain ⟨⟨z0,z1,z2,z3,z4⟩,hH⟩:=rs2.done (v0:=.bool !z) hb2 (by omega) (I1.out.below hb2) (J1.out.below hb2)
 obtain ⟨d0,d1,d2,d3,d4⟩:=hQ.b1
 have fr:=hQ.fr
 clear hb2 rs2 hQ I1 J1
 go_wp2_with fail
 exact bodyPost_ret (v:=.agg #[.bool !z,.int .u64 x,.slice p l q,.int .u64 y,.slice r s v]) (by simp [results,Tryz.results21,go_sem,z0,z1,z2,z3,z4]) rfl ⟨rfl,hH.out.1,hH.out.2.1,hH.out.2.2⟩
theorem abs_any (t:Bool) (x y:Int) (p r:Option Addr) (l q s v n m:Nat) (w:World) (i1:IsMag w (.int .u64 x) (.slice p l q) n) (j1:IsMag w (.int .u64 y) (.slice r s v) m):Calls Tryz.prog 23 #[.agg #[.bool t,.int .u64 x,.slice p l q,.int .u64 y,.slice r s v]] w (fun e w'=>e=.returned (.agg #[.bool false,.int .u64 x,.slice p l q,.int .u64 y,.slice r s v])∧IsMag w' (.int .u64 x) (.slice p l q) n∧IsMag w' (.int .u64 y) (.slice r s v) m∧Below w.heap.size w w'):=by
 have hb:=((Below.refl w.heap.size w).alloc (Nat.le_refl _) (.cells #[.bool false,.int .u64 x,.slice p l q,.int .u64 y,.slice r s v] 32)).alloc (by simp) (.cells #[.bool false,.int .u64 x,.slice p l q,.int .u64 y,.slice r s v] 32)
 have HB:=hid (And.intro (i1.below hb) (And.intro (j1.below hb) hb))
 clear hb i1 j1
 go_enter Tryz.func23,Tryz.ntmps23
 go_wp2_with fail
 exact bodyPost_ret (v:=.agg #[.bool false,.int .u64 x,.slice p l q,.int .u64 y,.slice r s v]) (by simp [results,Tryz.results23,go_sem]) rfl ⟨rfl,HB.out⟩
theorem Neg_calls (r:Rat) (v:Value) (w:World) (h:IsQ w v r):Calls Tryz.prog 21 #[v] w (RetQ w (-r)):=by
 obtain ⟨t,x,p,l,q,y,p',s,u,rfl,i,j,e⟩:=h.shape
 have e':=e.out
 cases t
 ·refine (neg_false x y p p' l q s u _ _ w i j).mono ?_
  rintro e w' ⟨rfl,hi,hj,hb⟩
  refine ⟨_,rfl,⟨_,_,_,_,?_,by rw [num_neg_abs];exact hi,by rw [denOf_neg];exact hj⟩,hb⟩
  have:¬ r.num<0:=by simpa using e'
  congr 4
  rw [Rat.neg_num]
  by_cases h0:r.num.natAbs=0
  ·simp only [h0,beq_self_eq_true,Bool.not_true]
   exact (decide_eq_false (by omega)).symm
  ·have:(r.num.natAbs == 0)=false:=by rw [beq_eq_false_iff_ne];exact h0
   rw [this]
   exact (decide_eq_true (by omega)).symm
 ·refine (neg_true x y p p' l q s u _ _ w i j).mono ?_
  rintro e w' ⟨rfl,hi,hj,hb⟩
  refine ⟨_,rfl,⟨_,_,_,_,?_,by rw [num_neg_abs];exact hi,by rw [denOf_neg];exact hj⟩,hb⟩
  have:r.num<0:=of_decide_eq_true e'.symm
  congr 4
  rw [Rat.neg_num]
  exact (decide_eq_false (by omega)).symm
theorem Abs_calls (r:Rat) (v:Value) (w:World) (h:IsQ w v r):Calls Tryz.prog 23 #[v] w (RetQ w (if r.num<0 then -r else r)):=by
 obtain ⟨t,x,p,l,q,y,p',s,u,rfl,i,j,-⟩:=h.shape
 refine (abs_any t x y p p' l q s u _ _ w i j).mono ?_
 rintro e w' ⟨rfl,hi,hj,hb⟩
 by_cases h0:r.num<0
 ·have h1:=h0
  rw [if_pos h1]
  refine ⟨_,rfl,⟨_,_,_,_,?_,by rw [num_neg_abs];exact hi,by rw [denOf_neg];exact hj⟩,hb⟩
  congr 4
  rw [Rat.neg_num]
  exact (decide_eq_false (by omega)).symm
 ·rw [if_neg h0]
  refine ⟨_,rfl,⟨_,_,_,_,?_,hi,hj⟩,hb⟩
  congr 4
  exact (decide_eq_false h0).symm
theorem Fits.neg {k:Nat} {r:Rat} (h:Fits k r):Fits k (-r):=by
 unfold Fits at *
 rw [num_neg_abs,Rat.neg_den]
 exact h
theorem Sub_calls (r s:Rat) (v1 v2:Value) (k:Nat) (w:World) (h1:IsQ w v1 r) (h2:IsQ w v2 s) (hk:k≤17179869184) (f1:Fits k r) (f2:Fits k s) (hT:Tab w) :
  Calls Tryz.prog 17 #[v1,v2] w (RetQ w (r - s)):=by
 obtain ⟨R,hR⟩:∃ R,r - s=R:=⟨_,rfl⟩
 have HF0:=fun (W:World) (v:Value) (h:IsQ W v s)=>Neg_calls s v W h
 have HG0:=fun (W:World) (u v:Value) (h:IsQ W u r) (h':IsQ W v (-s)) (hT:Tab W)=>Add_calls r (-s) u v k W h h' hk f1 f2.neg hT
 rw [← Rat.sub_eq_add_neg,hR] at HG0
 rw [hR]
 have HQ0:=And.intro h1 h2
 obtain ⟨t1,x1,p1,l1,q1,y1,r1,s1,v1,rfl,i1,j1,-⟩:=h1.shape
 obtain ⟨t2,x2,p2,l2,q2,y2,r2,s2,v2,rfl,i2,j2,-⟩:=h2.shape
 have HQ:=hid HQ0
 have HF:=hid (fun (W:World) (h:IsQ W (.agg #[.bool t2,.int .u64 x2,.slice p2 l2 q2,.int .u64 y2,.slice r2 s2 v2]) s)=>HF0 W _ h)
 have HG:=hid (fun (W:World) (v:Value) (h:IsQ W (.agg #[.bool t1,.int .u64 x1,.slice p1 l1 q1,.int .u64 y1,.slice r1 s1 v1]) r) (h':IsQ W v (-s)) (hT:Tab W)=>HG0 W _ v h h' hT)
 obtain ⟨n1,hn1⟩:∃ n,r.num.natAbs=n:=⟨_,rfl⟩
 obtain ⟨m1,hm1⟩:∃ n,denOf r=n:=⟨_,rfl⟩
 obtain ⟨n2,hn2⟩:∃ n,s.num.natAbs=n:=⟨_,rfl⟩
 obtain ⟨m2,hm2⟩:∃ n,denOf s=n:=⟨_,rfl⟩
 rw [hn1] at i1
 rw [hm1] at j1
 rw [hn2] at i2
 rw [hm2] at j2
 clear HF0 HG0 HQ0 h1 h2 f1 f2 hR hn1 hm1 hn2 hm2
 have h0:=Q2St.start t1 t2 (.int .u64 x1) (.slice p1 l1 q1) (.int .u64 y1) (.slice r1 s1 v1) (.int .u64 x2) (.slice p2 l2 q2) (.int .u64 y2) (.slice r2 s2 v2) n1 m1 n2 m2 32 32 32 i1 j1 i2 j2 hT
 have H0:=hid h0
 clear h0 i1 j1 i2 j2 hT
 go_enter Tryz.func17,Tryz.ntmps17
 go_wp2_with fail
 obtain ⟨W0,hW0⟩:∃ W0,((w.alloc (.cells #[.bool t1,.int .u64 x1,.slice p1 l1 q1,.int .u64 y1,.slice r1 s1 v1] 32)).alloc (.cells #[.bool t2,.int .u64 x2,.slice p2 l2 q2,.int .u64 y2,.slice r2 s2 v2] 32)).alloc (.cells #[.bool false,.int .u64 0,.slice none 0 0,.int .u64 0,.slice none 0 0] 32)=W0:=⟨_,rfl⟩
 rw [hW0] at H0 ⊢
 clear hW0
 have H0':Q2St w W0 t1 (.int .u64 x1) (.slice p1 l1 q1) (.int .u64 y1) (.slice r1 s1 v1) t2 (.int .u64 x2) (.slice p2 l2 q2) (.int .u64 y2) (.slice r2 s2 v2) n1 m1 n2 m2:=H0.out
 have hsz:=H0'.sz
 refine wp_region_inv 4 [⟨[],[0]⟩,⟨[],[1]⟩,⟨[1],[2]⟩,⟨[0,2],[3]⟩]
  [one fun v _=>v=.agg #[.bool t1,.int .u64 x1,.slice p1 l1 q1,.int .u64 y1,.slice r1 s1 v1],one fun v _=>v=.agg #[.bool t2,.int .u64 x2,.slice p2 l2 q2,.int .u64 y2,.slice r2 s2 v2],one fun v W=>IsQ W v (-s),one fun v W=>IsQ W v R]
  (fun _ W=>Below W0.heap.size W0 W) (by kernel_rfl) (by kernel_rfl) ?hT ?hZ ?hO ?hE
 case hZ=>exact (Below.refl _ _).drew
 case hT =>
  simp only [List.forall_mem_cons,List.not_mem_nil,false_imp_iff,implies_true,and_true]
  exact ⟨one_below is_below,one_below is_below,one_below isQ_below,one_below isQ_below⟩
 case hO =>
  intro u
  simp only [List.take_succ_cons,List.take_zero,putAll]
  repeat' (first | with_reducible exact debts_nil | with_reducible refine debts_cons ?_ ?_)
  ·intro W hS hF K hK
   have c0:=cB hS H0'.b1.1 (by omega)
   have c1:=cB hS H0'.b1.2.1 (by omega)
   have c2:=cB hS H0'.b1.2.2.1 (by omega)
   have c3:=cB hS H0'.b1.2.2.2.1 (by omega)
   have c4:=cB hS H0'.b1.2.2.2.2 (by omega)
   clear hF
   go_simp
   exact hK _ _ (.refl _ _) hS rfl
  ·intro W hS hF K hK
   have d0:=cB hS H0'.b2.1 (by omega)
   have d1:=cB hS H0'.b2.2.1 (by omega)
   have d2:=cB hS H0'.b2.2.2.1 (by omega)
   have d3:=cB hS H0'.b2.2.2.2.1 (by omega)
   have d4:=cB hS H0'.b2.2.2.2.2 (by omega)
   clear hF
   go_simp
   exact hK _ _ (.refl _ _) hS rfl
  ·intro W hS hF K hK
   have h1:u 1=.agg #[.bool t2,.int .u64 x2,.slice p2 l2 q2,.int .u64 y2,.slice r2 s2 v2]:=hF.1
   clear hF
   go_simp
   refine (HF.out _ (HQ.out.2.below (H0'.next hS).bel)).mono ?_
   rintro e wC ⟨v,rfl,hv,hBC⟩
   exact ⟨_,rfl,hK _ _ hBC (hS.trans (hBC.mono hS.size)) hv⟩
  ·intro W hS hF K hK
   have h0:u 0=.agg #[.bool t1,.int .u64 x1,.slice p1 l1 q1,.int .u64 y1,.slice r1 s1 v1]:=hF.1
   have hq2:IsQ W (u 2) (-s):=hF.2.1
   clear hF
   go_simp
   refine (HG.out _ _ (HQ.out.1.below (H0'.next hS).bel) hq2 ((H0'.next hS).tab)).mono ?_
   rintro e wC ⟨v,rfl,hv,hBC⟩
   exact ⟨_,rfl,hK _ _ hBC (hS.trans (hBC.mono hS.size)) hv⟩
 case hE =>
  intro u W hS hF
  have hv:IsQ W (u 3) R:=hF.2.2.2.1
  clear hF
  obtain ⟨t0,vx,vp,vl,vq,tx,tp,tl,tq,h13,hv1,hv2,ht⟩:=hv.shape
  have h4:=H0'.next hS
  obtain ⟨r0,ra,rb,rc,rd,⟨c0,c1,c2,c3,c4⟩,f0,f1,f2,f3,f4⟩:=h4.rs.facts
  obtain ⟨⟨z0,z1,z2,z3,z4⟩,hH⟩:=h4.rs.doneQ h4.bel (by omega) hv1 hv2 ht
  clear h4 hv hv1 hv2 ht hS H0' H0 HQ HF HG
  simp only [List.take_succ_cons,List.take_zero,putAll,List.drop_succ_cons,List.drop_zero]
  go_wp2_with fail
  exact bodyPost_ret (v:=.agg #[.bool t0,.int .u64 vx,.slice vp vl vq,.int .u64 tx,.slice tp tl tq]) (by simp [results,Tryz.results17,go_sem,z0,z1,z2,z3,z4]) rfl ⟨_,rfl,hH.out.1,hH.out.2⟩
theorem inv_rat (r:Rat) (h:r≠0):mkRat (zs (decide (r.num<0)) r.den) r.num.natAbs=r⁻¹:=by
 have h0:r.num≠0:=fun e=>h (Rat.num_eq_zero.1 e)
 have e1:∀ (a:Int) (b:Nat),mkRat a b=Rat.divInt a (b:Int):=fun a b=>by first | rfl | (symm;exact Rat.divInt_ofNat a b) | simp
 unfold zs
 rw [Rat.inv_def,e1,Rat.divInt_eq_divInt_iff (by omega) h0]
 by_cases h1:r.num<0
 ·rw [decide_eq_true h1,if_pos rfl,Int.ofNat_natAbs_of_nonpos (by omega),Int.neg_mul,Int.mul_neg]
 ·rw [decide_eq_false h1,if_neg (by simp),Int.natAbs_of_nonneg (by omega)]
namespace Rx
section
variable {β:Nat→Nat} {R:Rat} {t:Bool} {x y:Int} {p r:Option Addr} {l q s v:Nat} {w:World}
theorem one_mag {f:FuncId} {Q:Ending→World→Prop} (i1:IsMag w (.int .u64 x) (.slice p l q) (β 0)) (j1:IsMag w (.int .u64 y) (.slice r s v) (β 1))
  (go:∀ ρ:Env,(∀ g∈[Fm.m 0 0,.m 1 1],Fm.on β R ρ g w)→Calls Tryz.prog f ([nC t 0 1].map (SV.den ρ)).toArray w Q):Calls Tryz.prog f #[.agg #[.bool t,.int .u64 x,.slice p l q,.int .u64 y,.slice r s v]] w Q:=by
 refine go (em [⟨false,x,p,l,q,.empty,0,default⟩,⟨false,y,r,s,v,.empty,0,default⟩]) fun g hg=>?_
 simp only [List.mem_cons,List.not_mem_nil,or_false] at hg
 rcases hg with rfl | rfl
 ·exact i1
 ·exact j1
theorem inv_run (β:Nat→Nat) (r:Rat) (t:Bool):isW false (runF Tryz.prog (SM β r) (HM β r) ([eU t 0 1 2,eL t 2 0].map (conE β r [])) 1 96 [nC t 0 1] [.m 0 0,.m 1 1] 2)=true:=by cases t <;> kernel_rfl
end
end Rx
theorem inv_main (t:Bool) (x y:Int) (p r:Option Addr) (l q s v n m:Nat) (w:World) (i1:IsMag w (.int .u64 x) (.slice p l q) n) (j1:IsMag w (.int .u64 y) (.slice r s v) m) (R:Rat) (hc:Nat.Coprime (undN m) n) (hn:n≠0) (hR:mkRat (zs t (undN m)) n=R) :
  Calls Tryz.prog 96 #[.agg #[.bool t,.int .u64 x,.slice p l q,.int .u64 y,.slice r s v]] w (RetQ w R):=
 Rx.one_mag (β:=Rx.bt [n,m,undN m]) i1 j1 fun _ hg=>Rx.run_w (T:=fun _=>True) Rx.no_ls (fun e he=>by
  simp only [List.mem_cons,List.not_mem_nil,or_false] at he
  rcases he with rfl | rfl
  ·exact Rx.eU_ok rfl
  ·exact Rx.eL_ok hc hn hR) (Rx.inv_run _ _ _) (fun h=>by cases h) (fun _ _=>trivial) hg
theorem Inv_calls (r:Rat) (v:Value) (w:World) (h:IsQ w v r) (h0:r≠0):Calls Tryz.prog 96 #[v] w (RetQ w r⁻¹):=by
 obtain ⟨t,x,p,l,q,y,p',s,u,rfl,i,j,e⟩:=h.shape
 have e':=e.out
 exact inv_main t x y p p' l q s u _ _ w i j _ (by rw [und_den];exact r.reduced.symm) (fun e=>h0 (Rat.num_eq_zero.1 (by omega))) (by rw [und_den,e'];exact inv_rat r h0)
theorem inv_parts (r:Rat) (h:r≠0):r⁻¹.num.natAbs=r.den∧r⁻¹.den=r.num.natAbs:=by
 have h0:r.num≠0:=fun e=>h (Rat.num_eq_zero.1 e)
 rcases Int.lt_or_gt_of_ne h0 with h1 | h1
 ·have e:r⁻¹=⟨-(r.den:Int),r.num.natAbs,by omega,by rw [Int.natAbs_neg];exact r.reduced.symm⟩:=by
   show Rat.inv r=_
   rw [Rat.inv]
   simp [h1]
  rw [e]
  exact ⟨by simp,rfl⟩
 ·have e:r⁻¹=⟨(r.den:Int),r.num.natAbs,by omega,by exact r.reduced.symm⟩:=by
   show Rat.inv r=_
   rw [Rat.inv]
   have:¬ r.num<0:=by omega
   simp [this,h1]
  rw [e]
  exact ⟨by simp,rfl⟩
theorem Fits.inv {k:Nat} {r:Rat} (h:Fits k r) (h0:r≠0):Fits k r⁻¹:=by
 unfold Fits at *
 rw [(inv_parts r h0).1,(inv_parts r h0).2]
 exact ⟨h.2,h.1⟩
theorem Over_calls (r s:Rat) (v1 v2:Value) (k:Nat) (w:World) (h1:IsQ w v1 r) (h2:IsQ w v2 s) (hk:k≤17179869184) (s0:s≠0) (f1:Fits k r) (f2:Fits k s) (hT:Tab w) :
  Calls Tryz.prog 48 #[v1,v2] w (RetQ w (r / s)):=by
 obtain ⟨R,hR⟩:∃ R,r / s=R:=⟨_,rfl⟩
 have HF0:=fun (W:World) (v:Value) (h:IsQ W v s)=>Inv_calls s v W h s0
 have HG0:=fun (W:World) (u v:Value) (h:IsQ W u r) (h':IsQ W v (s⁻¹)) (hT:Tab W)=>Mul_calls r s⁻¹ u v k W h h' (by omega) f1 (f2.inv s0) hT
 rw [← Rat.div_def,hR] at HG0
 rw [hR]
 have HQ0:=And.intro h1 h2
 obtain ⟨t1,x1,p1,l1,q1,y1,r1,s1,v1,rfl,i1,j1,-⟩:=h1.shape
 obtain ⟨t2,x2,p2,l2,q2,y2,r2,s2,v2,rfl,i2,j2,-⟩:=h2.shape
 have HQ:=hid HQ0
 have HF:=hid (fun (W:World) (h:IsQ W (.agg #[.bool t2,.int .u64 x2,.slice p2 l2 q2,.int .u64 y2,.slice r2 s2 v2]) s)=>HF0 W _ h)
 have HG:=hid (fun (W:World) (v:Value) (h:IsQ W (.agg #[.bool t1,.int .u64 x1,.slice p1 l1 q1,.int .u64 y1,.slice r1 s1 v1]) r) (h':IsQ W v (s⁻¹)) (hT:Tab W)=>HG0 W _ v h h' hT)
 obtain ⟨n1,hn1⟩:∃ n,r.num.natAbs=n:=⟨_,rfl⟩
 obtain ⟨m1,hm1⟩:∃ n,denOf r=n:=⟨_,rfl⟩
 obtain ⟨n2,hn2⟩:∃ n,s.num.natAbs=n:=⟨_,rfl⟩
 obtain ⟨m2,hm2⟩:∃ n,denOf s=n:=⟨_,rfl⟩
 rw [hn1] at i1
 rw [hm1] at j1
 rw [hn2] at i2
 rw [hm2] at j2
 clear HF0 HG0 HQ0 h1 h2 f1 f2 hR s0 hn1 hm1 hn2 hm2
 have h0:=Q2St.start t1 t2 (.int .u64 x1) (.slice p1 l1 q1) (.int .u64 y1) (.slice r1 s1 v1) (.int .u64 x2) (.slice p2 l2 q2) (.int .u64 y2) (.slice r2 s2 v2) n1 m1 n2 m2 32 32 32 i1 j1 i2 j2 hT
 have H0:=hid h0
 clear h0 i1 j1 i2 j2 hT
 go_enter Tryz.func48,Tryz.ntmps48
 go_wp2_with fail
 obtain ⟨W0,hW0⟩:∃ W0,((w.alloc (.cells #[.bool t1,.int .u64 x1,.slice p1 l1 q1,.int .u64 y1,.slice r1 s1 v1] 32)).alloc (.cells #[.bool t2,.int .u64 x2,.slice p2 l2 q2,.int .u64 y2,.slice r2 s2 v2] 32)).alloc (.cells #[.bool false,.int .u64 0,.slice none 0 0,.int .u64 0,.slice none 0 0] 32)=W0:=⟨_,rfl⟩
 rw [hW0] at H0 ⊢
 clear hW0
 have H0':Q2St w W0 t1 (.int .u64 x1) (.slice p1 l1 q1) (.int .u64 y1) (.slice r1 s1 v1) t2 (.int .u64 x2) (.slice p2 l2 q2) (.int .u64 y2) (.slice r2 s2 v2) n1 m1 n2 m2:=H0.out
 have hsz:=H0'.sz
 refine wp_region_inv 4 [⟨[],[0]⟩,⟨[],[1]⟩,⟨[1],[2]⟩,⟨[0,2],[3]⟩]
  [one fun v _=>v=.agg #[.bool t1,.int .u64 x1,.slice p1 l1 q1,.int .u64 y1,.slice r1 s1 v1],one fun v _=>v=.agg #[.bool t2,.int .u64 x2,.slice p2 l2 q2,.int .u64 y2,.slice r2 s2 v2],one fun v W=>IsQ W v (s⁻¹),one fun v W=>IsQ W v R]
  (fun _ W=>Below W0.heap.size W0 W) (by kernel_rfl) (by kernel_rfl) ?hT ?hZ ?hO ?hE
 case hZ=>exact (Below.refl _ _).drew
 case hT =>
  simp only [List.forall_mem_cons,List.not_mem_nil,false_imp_iff,implies_true,and_true]
  exact ⟨one_below is_below,one_below is_below,one_below isQ_below,one_below isQ_below⟩
 case hO =>
  intro u
  simp only [List.take_succ_cons,List.take_zero,putAll]
  repeat' (first | with_reducible exact debts_nil | with_reducible refine debts_cons ?_ ?_)
  ·intro W hS hF K hK
   have c0:=cB hS H0'.b1.1 (by omega)
   have c1:=cB hS H0'.b1.2.1 (by omega)
   have c2:=cB hS H0'.b1.2.2.1 (by omega)
   have c3:=cB hS H0'.b1.2.2.2.1 (by omega)
   have c4:=cB hS H0'.b1.2.2.2.2 (by omega)
   clear hF
   go_simp
   exact hK _ _ (.refl _ _) hS rfl
  ·intro W hS hF K hK
   have d0:=cB hS H0'.b2.1 (by omega)
   have d1:=cB hS H0'.b2.2.1 (by omega)
   have d2:=cB hS H0'.b2.2.2.1 (by omega)
   have d3:=cB hS H0'.b2.2.2.2.1 (by omega)
   have d4:=cB hS H0'.b2.2.2.2.2 (by omega)
   clear hF
   go_simp
   exact hK _ _ (.refl _ _) hS rfl
  ·intro W hS hF K hK
   have h1:u 1=.agg #[.bool t2,.int .u64 x2,.slice p2 l2 q2,.int .u64 y2,.slice r2 s2 v2]:=hF.1
   clear hF
   go_simp
   refine (HF.out _ (HQ.out.2.below (H0'.next hS).bel)).mono ?_
   rintro e wC ⟨v,rfl,hv,hBC⟩
   exact ⟨_,rfl,hK _ _ hBC (hS.trans (hBC.mono hS.size)) hv⟩
  ·intro W hS hF K hK
   have h0:u 0=.agg #[.bool t1,.int .u64 x1,.slice p1 l1 q1,.int .u64 y1,.slice r1 s1 v1]:=hF.1
   have hq2:IsQ W (u 2) (s⁻¹):=hF.2.1
   clear hF
   go_simp
   refine (HG.out _ _ (HQ.out.1.below (H0'.next hS).bel) hq2 ((H0'.next hS).tab)).mono ?_
   rintro e wC ⟨v,rfl,hv,hBC⟩
   exact ⟨_,rfl,hK _ _ hBC (hS.trans (hBC.mono hS.size)) hv⟩
 case hE =>
  intro u W hS hF
  have hv:IsQ W (u 3) R:=hF.2.2.2.1
  clear hF
  obtain ⟨t0,vx,vp,vl,vq,tx,tp,tl,tq,h13,hv1,hv2,ht⟩:=hv.shape
  have h4:=H0'.next hS
  obtain ⟨r0,ra,rb,rc,rd,⟨c0,c1,c2,c3,c4⟩,f0,f1,f2,f3,f4⟩:=h4.rs.facts
  obtain ⟨⟨z0,z1,z2,z3,z4⟩,hH⟩:=h4.rs.doneQ h4.bel (by omega) hv1 hv2 ht
  clear h4 hv hv1 hv2 ht hS H0' H0 HQ HF HG
  simp only [List.take_succ_cons,List.take_zero,putAll,List.drop_succ_cons,List.drop_zero]
  go_wp2_with fail
  exact bodyPost_ret (v:=.agg #[.bool t0,.int .u64 vx,.slice vp vl vq,.int .u64 tx,.slice tp tl tq]) (by simp [results,Tryz.results48,go_sem,z0,z1,z2,z3,z4]) rfl ⟨_,rfl,hH.out.1,hH.out.2⟩
theorem div_zero (t1 t2:Bool) (x1 y1 x2 y2:Int) (p1 r1 p2 r2:Option Addr) (l1 q1 s1 v1 l2 q2 s2 v2 n1 m1 n2 m2:Nat) (w:World)
  (i1:IsMag w (.int .u64 x1) (.slice p1 l1 q1) n1) (j1:IsMag w (.int .u64 y1) (.slice r1 s1 v1) m1) (i2:IsMag w (.int .u64 x2) (.slice p2 l2 q2) n2) (j2:IsMag w (.int .u64 y2) (.slice r2 s2 v2) m2) (hT:Tab w) (h1:sgn t2 n2=0) :
  Calls Tryz.prog 10 #[.agg #[.bool t1,.int .u64 x1,.slice p1 l1 q1,.int .u64 y1,.slice r1 s1 v1],.agg #[.bool t2,.int .u64 x2,.slice p2 l2 q2,.int .u64 y2,.slice r2 s2 v2]] w (RetQE w 0 9):=by
 have hs2:=hid (fun (W:World) (h:IsMag W (.int .u64 x2) (.slice p2 l2 q2) n2)=>Sign_calls t2 _ _ (.int .u64 y2) (.slice r2 s2 v2) n2 W h)
 rw [h1] at hs2
 clear h1
 have h0:=Q2St.start t1 t2 (.int .u64 x1) (.slice p1 l1 q1) (.int .u64 y1) (.slice r1 s1 v1) (.int .u64 x2) (.slice p2 l2 q2) (.int .u64 y2) (.slice r2 s2 v2) n1 m1 n2 m2 32 32 32 i1 j1 i2 j2 hT
 have H0:=hid h0
 clear h0 i1 j1 i2 j2 hT
 go_enter Tryz.func10,Tryz.ntmps10
 go_wp2_with fail
 obtain ⟨W0,hW0⟩:∃ W0,((w.alloc (.cells #[.bool t1,.int .u64 x1,.slice p1 l1 q1,.int .u64 y1,.slice r1 s1 v1] 32)).alloc (.cells #[.bool t2,.int .u64 x2,.slice p2 l2 q2,.int .u64 y2,.slice r2 s2 v2] 32)).alloc (.cells #[.bool false,.int .u64 0,.slice none 0 0,.int .u64 0,.slice none 0 0] 32)=W0:=⟨_,rfl⟩
 rw [hW0] at H0 ⊢
 clear hW0
 obtain ⟨d0,d1,d2,d3,d4⟩:=H0.out.b2
 go_wp2_with fail
 refine (hs2.out _ H0.out.i2).mono ?_
 rintro e w1 ⟨rfl,hB1⟩
 have h1:=H0.out.next hB1
 obtain ⟨g0,ga,gb,gc,gd,⟨c0,c1,c2,c3,c4⟩,f0,f1,f2,f3,f4⟩:=h1.rs.facts
 obtain ⟨⟨z0,z1,z2,z3,z4⟩,hH⟩:=h1.rs.done (v0:=.bool false) h1.bel (by omega) (isMag_nil w1) (isMag_nil w1)
 clear h1 hB1 H0 hs2 d0 d1 d2 d3 d4
 go_wp2_with fail
 exact bodyPost_ret (v:=.tuple #[.agg #[.bool false,.int .u64 0,.slice none 0 0,.int .u64 0,.slice none 0 0],.int .i64 9]) (by simp [results,Tryz.results10,go_sem,z0,z1,z2,z3,z4]) rfl ⟨_,rfl,isQ_zero _,hH.out.2.2⟩
theorem div_main (t1 t2:Bool) (x1 y1 x2 y2:Int) (p1 r1 p2 r2:Option Addr) (l1 q1 s1 v1 l2 q2 s2 v2 n1 m1 n2 m2:Nat) (w:World)
  (i1:IsMag w (.int .u64 x1) (.slice p1 l1 q1) n1) (j1:IsMag w (.int .u64 y1) (.slice r1 s1 v1) m1) (i2:IsMag w (.int .u64 x2) (.slice p2 l2 q2) n2) (j2:IsMag w (.int .u64 y2) (.slice r2 s2 v2) m2) (hT:Tab w) (h1:sgn t2 n2≠0) (R:Rat) (HO0:∀ W,Below w.heap.size w W→Calls Tryz.prog 48 #[.agg #[.bool t1,.int .u64 x1,.slice p1 l1 q1,.int .u64 y1,.slice r1 s1 v1],.agg #[.bool t2,.int .u64 x2,.slice p2 l2 q2,.int .u64 y2,.slice r2 s2 v2]] W (RetQ W R)) :
  Calls Tryz.prog 10 #[.agg #[.bool t1,.int .u64 x1,.slice p1 l1 q1,.int .u64 y1,.slice r1 s1 v1],.agg #[.bool t2,.int .u64 x2,.slice p2 l2 q2,.int .u64 y2,.slice r2 s2 v2]] w (RetQE w R 0):=by
 have hs2:=hid (fun (W:World) (h:IsMag W (.int .u64 x2) (.slice p2 l2 q2) n2)=>Sign_calls t2 _ _ (.int .u64 y2) (.slice r2 s2 v2) n2 W h)
 obtain ⟨sb,hsb⟩:∃ s,sgn t2 n2=s:=⟨_,rfl⟩
 rw [hsb] at hs2 h1
 have tb:(sb == 0)=false:=by rw [beq_eq_false_iff_ne];exact h1
 have HO:=hid HO0
 clear h1 hsb HO0
 have h0:=Q2St.start t1 t2 (.int .u64 x1) (.slice p1 l1 q1) (.int .u64 y1) (.slice r1 s1 v1) (.int .u64 x2) (.slice p2 l2 q2) (.int .u64 y2) (.slice r2 s2 v2) n1 m1 n2 m2 32 32 32 i1 j1 i2 j2 hT
 have H0:=hid h0
 clear h0 i1 j1 i2 j2 hT
 go_enter Tryz.func10,Tryz.ntmps10
 go_wp2_with fail
 obtain ⟨W0,hW0⟩:∃ W0,((w.alloc (.cells #[.bool t1,.int .u64 x1,.slice p1 l1 q1,.int .u64 y1,.slice r1 s1 v1] 32)).alloc (.cells #[.bool t2,.int .u64 x2,.slice p2 l2 q2,.int .u64 y2,.slice r2 s2 v2] 32)).alloc (.cells #[.bool false,.int .u64 0,.slice none 0 0,.int .u64 0,.slice none 0 0] 32)=W0:=⟨_,rfl⟩
 rw [hW0] at H0 ⊢
 clear hW0
 obtain ⟨d0,d1,d2,d3,d4⟩:=H0.out.b2
 go_wp2_with fail
 refine (hs2.out _ H0.out.i2).mono ?_
 rintro e w1 ⟨rfl,hB1⟩
 have H1:=hid (H0.out.next hB1)
 clear hB1 H0 hs2 d0 d1 d2 d3 d4
 obtain ⟨d0,d1,d2,d3,d4⟩:=H1.out.b2
 obtain ⟨b0,b1,b2,b3,b4⟩:=H1.out.b1
 go_wp2_with fail
 refine (HO.out _ H1.out.bel).mono ?_
 rintro e w2 ⟨v,rfl,hv,hB2⟩
 obtain ⟨t0,vx,vp,vl,vq,tx,tp,tl,tq,rfl,hv1,hv2,ht⟩:=hv.shape
 have h4:=H1.out.next hB2
 obtain ⟨g0,ga,gb,gc,gd,⟨c0,c1,c2,c3,c4⟩,f0,f1,f2,f3,f4⟩:=h4.rs.facts
 obtain ⟨⟨z0,z1,z2,z3,z4⟩,hH⟩:=h4.rs.doneQ h4.bel (by omega) hv1 hv2 ht
 clear h4 hv hv1 hv2 ht H1 HO d0 d1 d2 d3 d4 b0 b1 b2 b3 b4 hB2
 go_wp2_with fail
 exact bodyPost_ret (v:=.tuple #[.agg #[.bool t0,.int .u64 vx,.slice vp vl vq,.int .u64 tx,.slice tp tl tq],.int .i64 0]) (by simp [results,Tryz.results10,go_sem,z0,z1,z2,z3,z4]) rfl ⟨_,rfl,hH.out.1,hH.out.2⟩
theorem Div_calls (r s:Rat) (v1 v2:Value) (k:Nat) (w:World) (h1:IsQ w v1 r) (h2:IsQ w v2 s) (hk:k≤17179869184) (f1:Fits k r) (f2:Fits k s) (hT:Tab w) :
  Calls Tryz.prog 10 #[v1,v2] w (RetQE w (r / s) (if s=0 then 9 else 0)):=by
 have HO:s≠0→∀ W,Below w.heap.size w W→Calls Tryz.prog 48 #[v1,v2] W (RetQ W (r / s)):=fun s0 W hb=>Over_calls r s v1 v2 k W (h1.below hb) (h2.below hb) hk s0 f1 f2 (hT.below hb (Nat.le_refl _))
 obtain ⟨t1,x1,p1,l1,q1,y1,r1,s1,u1,rfl,i1,j1,e1⟩:=h1.shape
 obtain ⟨t2,x2,p2,l2,q2,y2,r2,s2,u2,rfl,i2,j2,e2⟩:=h2.shape
 have e2':=e2.out
 by_cases z2:s=0
 ·have:=div_zero t1 t2 x1 y1 x2 y2 p1 r1 p2 r2 l1 q1 s1 u1 l2 q2 s2 u2 _ _ _ _ w i1 j1 i2 j2 hT (by rw [e2'];exact (sgn_num s).2 z2)
  rw [if_pos z2,z2,Rat.div_def,Rat.inv_zero,Rat.mul_zero]
  exact this
 ·rw [if_neg z2]
  exact div_main t1 t2 x1 y1 x2 y2 p1 r1 p2 r2 l1 q1 s1 u1 l2 q2 s2 u2 _ _ _ _ w i1 j1 i2 j2 hT (by rw [e2'];exact fun h=>z2 ((sgn_num s).1 h)) _ (HO z2)
end
section
open Go.RowKit Go.Sort
attribute [local go_sem] takes takesUpon_value takesUpon_skip takesUpon_enter
theorem den_any (t:Bool) (x y:Int) (p r:Option Addr) (l q s v n m:Nat) (w:World) (i1:IsMag w (.int .u64 x) (.slice p l q) n) (j1:IsMag w (.int .u64 y) (.slice r s v) m):Calls Tryz.prog 121 #[.agg #[.bool t,.int .u64 x,.slice p l q,.int .u64 y,.slice r s v]] w fun e w'=>∃ c d,e=.returned (.agg #[.bool false,c,d,.int .u64 0,.slice none 0 0])∧IsMag w' c d (undN m)∧Below w.heap.size w w':=by
 have HU:=hid (fun (W:World) (h:IsMag W (.int .u64 y) (.slice r s v) m)=>under_calls (.bool t) (.int .u64 x) (.slice p l q) _ _ m W h)
 have h0:=Q1St.start t (.int .u64 x) (.slice p l q) (.int .u64 y) (.slice r s v) n m 32 32 i1 j1
 have H0:=hid h0
 clear h0
 have I1:=hid i1
 have J1:=hid j1
 clear i1 j1
 go_enter Tryz.func121,Tryz.ntmps121
 go_wp2_with fail
 obtain ⟨W0,hW0⟩:∃ W0,(w.alloc (.cells #[.bool t,.int .u64 x,.slice p l q,.int .u64 y,.slice r s v] 32)).alloc (.cells #[.bool false,.int .u64 0,.slice none 0 0,.int .u64 0,.slice none 0 0] 32)=W0:=⟨_,rfl⟩
 rw [hW0] at H0 ⊢
 clear hW0
 obtain ⟨d0,d1,d2,d3,d4⟩:=H0.out.b1
 go_wp2_with fail
 refine (HU.out _ H0.out.j1).mono ?_
 rintro e w1 ⟨c,d,rfl,hm,hB1⟩
 obtain ⟨x',p',l',q',rfl,rfl⟩:=hm.shape
 have H1:=hid (H0.out.next hB1)
 have HM:=hid hm
 clear H0 hB1 d0 d1 d2 d3 d4 hm HU
 go_wp2_with fail
 refine (whole_calls _ _ _ _ _ _).mono ?_
 rintro e w2 ⟨rfl,hB2⟩
 have hQ:=H1.out.next hB2
 obtain ⟨g0,ga,gb,gc,gd,⟨c0,c1,c2,c3,c4⟩,f0,f1,f2,f3,f4⟩:=hQ.rs.facts
 obtain ⟨⟨z0,z1,z2,z3,z4⟩,hH⟩:=hQ.rs.done (v0:=.bool false) hQ.bel (by omega) (HM.out.below hB2) (isMag_nil _)
 clear hQ H1 hB2 I1 J1 HM
 go_wp2_with fail
 exact bodyPost_ret (v:=.agg #[.bool false,.int .u64 x',.slice p' l' q',.int .u64 0,.slice none 0 0]) (by simp [results,Tryz.results121,go_sem,z0,z1,z2,z3,z4]) rfl ⟨_,_,rfl,hH.out.1,hH.out.2.2⟩
theorem Den_calls (r:Rat) (v:Value) (w:World) (h:IsQ w v r):Calls Tryz.prog 121 #[v] w (RetQ w (((r.den:Nat):Int):Rat)):=by
 obtain ⟨t,x,p,l,q,y,p',s,u,rfl,i,j,-⟩:=h.shape
 refine (den_any t x y p p' l q s u _ _ w i j).mono ?_
 rintro e w' ⟨c,d,rfl,hi,hb⟩
 rw [und_den] at hi
 have h0:decide (((r.den:Nat):Int)<0)=false:=decide_eq_false (by omega)
 have:=isQ_int ((r.den:Nat):Int) (w:=w') (c:=c) (d:=d) (by rw [Int.natAbs_natCast];exact hi)
 rw [h0] at this
 exact ⟨_,rfl,this,hb⟩
end
end Go.Proofs.YtmijlcldmefggaaGreatDoor
