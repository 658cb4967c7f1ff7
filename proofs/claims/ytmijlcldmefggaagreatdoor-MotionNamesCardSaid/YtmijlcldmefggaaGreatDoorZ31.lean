/- What the proof rests on, part 31. -/
import Derived.Test.YtmijlcldmefggaaGreatDoorZ30
import Derived.Test.YtmijlcldmefggaaGreatDoorZ06
import Derived.Test.YtmijlcldmefggaaGreatDoorZ19
import Derived.Test.YtmijlcldmefggaaGreatDoorZ17
import Derived.LoopNIn
namespace Go.Proofs.YtmijlcldmefggaaGreatDoor
set_option maxRecDepth 100000
set_option maxHeartbeats 80000000
section
open Go.RowKit Go.Sort
namespace Rx
def eV (i j k m:Nat):En:=⟨106,[.c [.m i],.c [.m j]],.p [.m k] [.m m]⟩
def eZ (i:Nat) (x:Bool):En:=⟨61,[.c [.m i]],.b x⟩
section
variable {T:World→Prop} {β:Nat→Nat} {r:Rat}
theorem eV_ok {i j k m K:Nat} (h1:β i / β j=β k) (h2:β i % β j=β m) (h0:β j≠0) (hK:K≤137438953472) (hl:β i<B64 ^ K):(eV i j k m).Ok T β r:=by
 intro W vs hv hT
 match vs,hv with
 | [v,v'],⟨⟨us,hu,ha⟩,⟨us',hu',ha'⟩,_⟩ =>
  obtain ⟨c,d,rfl,g1⟩:=isA_one ha
  obtain ⟨e,g,rfl,g2⟩:=isA_one ha'
  subst hu hu'
  have:=mdiv_calls (β i) (β j) K c d e g W g1 g2 (Nat.pos_of_ne_zero h0) hK hl
  rw [h1,h2] at this
  exact this.mono fun x W' ⟨a,b,c,d,hx,hm,hm',hb⟩=>⟨[a,b],[c,d],hx,⟨hm,trivial⟩,⟨hm',trivial⟩,hb⟩
theorem eZ_ok {i:Nat} {x:Bool} (h:(β i == 0)=x):(eZ i x).Ok T β r:=by
 intro W vs hv hT
 match vs,hv with
 | [v],⟨⟨us,hu,ha⟩,_⟩ =>
  obtain ⟨c,d,rfl,g1⟩:=isA_one ha
  subst hu
  have:=isZero_calls c d (β i) W g1
  rw [h] at this
  exact this
def floT (t x:Bool):List En:=[eU t 0 1 2,eV 0 2 3 4,eZ 4 x,eP 3 6 5,eH t (if t && !x then 5 else 3)]
theorem floor_run (β:Nat→Nat) (r:Rat) (t x:Bool):isW false (runF Tryz.prog (SM β r) (HM β r) ((floT t x).map (conE β r [(6,1)])) 1 123 [nC t 0 1] [.m 0 0,.m 1 1] 2)=true:=by cases t <;> cases x <;> kernel_rfl
end
end Rx
theorem floor_any (t1:Bool) (x1 y1:Int) (p1 r1:Option Addr) (l1 q1 s1 u1 n m k:Nat) (w:World) (i1:IsMag w (.int .u64 x1) (.slice p1 l1 q1) n) (j1:IsMag w (.int .u64 y1) (.slice r1 s1 u1) m) (hk:k≤17179869184) (kn:n<B64 ^ k) (F:Int) (hn0:t1=true→n≠0) (hF0:zs t1 (if t1 && !(n % undN m == 0) then n / undN m+1 else n / undN m)=F) :
  Calls Tryz.prog 123 #[.agg #[.bool t1,.int .u64 x1,.slice p1 l1 q1,.int .u64 y1,.slice r1 s1 u1]] w (RetQ w (F:Rat)):=by
 have hM0:undN m≠0:=by unfold undN;split <;> omega
 have kq:n / undN m<B64 ^ (k+1):=Nat.lt_of_le_of_lt (Nat.div_le_self _ _) (Nat.lt_of_lt_of_le kn (Nat.pow_le_pow_right (by decide) (by omega)))
 have hAR:n / undN m=0→n % undN m=0→n=0:=fun ha hr=>by rw [← Nat.div_add_mod n (undN m),hr,ha];simp
 refine Rx.one_mag (β:=Rx.bt [n,m,undN m,n / undN m,n % undN m,n / undN m+1,1]) i1 j1 fun _ hg=>Rx.run_w (T:=fun _=>True) (fun p hp=>by obtain rfl:=List.mem_singleton.1 hp;exact ⟨rfl,by decide⟩) (fun e he=>?_) (Rx.floor_run _ _ t1 (n % undN m == 0)) (fun h=>by cases h) (fun _ _=>trivial) hg
 simp only [Rx.floT,List.mem_cons,List.not_mem_nil,or_false] at he
 rcases he with rfl | rfl | rfl | rfl | rfl
 ·exact Rx.eU_ok rfl
 ·exact Rx.eV_ok (K:=k) rfl rfl hM0 (by omega) kn
 ·exact Rx.eZ_ok rfl
 ·exact Rx.eP_ok (K:=k+1) rfl (by omega) kq (Nat.one_lt_pow (by omega) (by decide))
 ·cases hx:(t1 && !(n % undN m == 0))
  ·rw [hx] at hF0
   refine Rx.eH_ok (fun h h0=>?_) (by rw [← hF0];rfl)
   rw [h,Bool.true_and,Bool.not_eq_false',beq_iff_eq] at hx
   exact hn0 h (hAR h0 hx)
  ·rw [hx] at hF0
   exact Rx.eH_ok (fun _=>Nat.succ_ne_zero _) (by rw [← hF0];rfl)
theorem floor_rat (r:Rat):zs (decide (r.num<0)) (if decide (r.num<0) && !(r.num.natAbs % r.den == 0) then r.num.natAbs / r.den+1 else r.num.natAbs / r.den)=r.num / (r.den:Int):=by
 have hd:0<r.den:=r.den_pos
 obtain ⟨d,hde⟩:∃ d,r.den=d:=⟨_,rfl⟩
 obtain ⟨z,hz⟩:∃ z,r.num=z:=⟨_,rfl⟩
 rw [hde,hz]
 rw [hde] at hd
 rcases Int.lt_or_le z 0 with h | h
 ·obtain ⟨n,rfl⟩:∃ n:Nat,z = -(n:Int):=⟨z.natAbs,by omega⟩
  rw [decide_eq_true h,Int.natAbs_neg,Int.natAbs_natCast]
  have hq:=Nat.div_add_mod n d
  have hr:=Nat.mod_lt n hd
  by_cases h0:n % d=0
  ·simp only [h0,zs,Bool.true_and,beq_self_eq_true,Bool.not_true,if_true,Bool.false_eq_true,if_false]
   have:(-(n:Int))=(d:Int)*(-((n / d:Nat):Int)):=by rw [h0,Nat.add_zero] at hq;rw [Int.mul_neg,← Int.natCast_mul,hq]
   rw [this,Int.mul_ediv_cancel_left _ (by omega)]
  ·have hb:(!(n % d == 0))=true:=by simpa using h0
   simp only [hb,zs,Bool.true_and,if_true]
   symm
   refine Int.ediv_eq_iff_of_pos (by omega) |>.2 ⟨?_,?_⟩
   ·have h1:(((n / d+1:Nat)):Int)*(d:Int)=((n / d*d+d:Nat):Int):=by rw [← Int.natCast_mul,Nat.add_mul,Nat.one_mul]
    have h2:d*(n / d)=n / d*d:=Nat.mul_comm _ _
    grind
   ·have h2:d*(n / d)=n / d*d:=Nat.mul_comm _ _
    have h1:(((n / d+1:Nat)):Int)*(d:Int)=((n / d*d+d:Nat):Int):=by rw [← Int.natCast_mul,Nat.add_mul,Nat.one_mul]
    grind
 ·obtain ⟨n,rfl⟩:∃ n:Nat,z=(n:Int):=⟨z.natAbs,by omega⟩
  rw [decide_eq_false (by omega)]
  simp [zs]
theorem Floor_calls (r:Rat) (v:Value) (k:Nat) (w:World) (h:IsQ w v r) (hk:k≤17179869183) (f:Fits k r):Calls Tryz.prog 123 #[v] w (RetQ w ((r.num / (r.den:Int):Int):Rat)):=by
 obtain ⟨t,x,p,l,q,y,p',s,u,rfl,i,j,e⟩:=h.shape
 have e':=e.out
 subst e'
 refine floor_any _ _ _ _ _ _ _ _ _ _ _ k w i j (by omega) f.1 _ (fun h=>?_) ?_
 ·have:=of_decide_eq_true h
  omega
 ·rw [und_den]
  exact floor_rat r
end
section
open Go.RowKit Go.Sort
attribute [local go_sem] takes takesUpon_value takesUpon_skip takesUpon_enter
def SameB (W:World):List Bk→List Bk→Prop
 | [],[]=>True
 | b :: r,c :: s=>(b.pos=c.pos∧Bx W c.pos c.ty c.vs)∧SameB W r s
 | _,_=>False
theorem Boxes.same {w W W':World}:∀ {bs bs':List Bk},Boxes w W bs→SameB W' bs bs'→Boxes w W' bs'∧(∀ c'∈bs',∃ c∈bs,c.pos=c'.pos)
 | [],[],_,_=>⟨trivial,fun c' h=>by cases h⟩
 | [],_ :: _,_,h=>h.elim
 | _ :: _,[],_,h=>h.elim
 | b :: r,c :: s,h,k=>by
  obtain ⟨i1,i2⟩:=h.2.same k.2
  refine ⟨⟨⟨k.1.1 ▸ h.1.1,k.1.2,fun d hd=>?_⟩,i1⟩,fun d hd=>?_⟩
  ·obtain ⟨d',h1,h2⟩:=i2 d hd
   rw [← h2,← k.1.1]
   exact h.1.2.2 d' h1
  ·rcases List.mem_cons.1 hd with rfl | hd
   ·exact ⟨b,by simp,k.1.1⟩
   ·obtain ⟨d',h1,h2⟩:=i2 d hd
    exact ⟨d',by simp [h1],h2⟩
theorem St.same {w W W':World} {bs bs':List Bk} {fs fs':List Fc} (h:St w bs fs W) (hb:Below w.heap.size w W') (hs:SameB W' bs bs') (hf:Facts W' fs'):St w bs' fs' W':=
 ⟨hb,(h.box.same hs).1,hf⟩
theorem St.lo {w W:World} {bs:List Bk} {fs:List Fc} (h:St w bs fs W) (k b:Nat) (T:TypeId) (vs:List Value) (hk:bs[k]? = some ⟨b,T,vs⟩):w.heap.size≤b:=(h.box.get hk).1
theorem Boxes.del {w W:World}:∀ {bs:List Bk} (k:Nat),Boxes w W bs→Boxes w W (bs.eraseIdx k)∧(∀ c∈bs.eraseIdx k,c∈bs)
 | [],_,_=>⟨trivial,fun _ h=>h⟩
 | b :: r,0,h=>⟨h.2,fun c hc=>by simp at hc;simp [hc]⟩
 | b :: r,k+1,h=>by
  obtain ⟨i1,i2⟩:=h.2.del k
  exact ⟨⟨⟨h.1.1,h.1.2.1,fun c hc=>h.1.2.2 c (i2 c hc)⟩,i1⟩,fun c hc=>by
   rcases List.mem_cons.1 hc with rfl | hc
   ·simp
   ·simp [i2 c hc]⟩
theorem St.del {w W:World} {bs:List Bk} {fs:List Fc} (h:St w bs fs W) (k:Nat):St w (bs.eraseIdx k) fs W:=⟨h.bel,(h.box.del k).1,h.fct⟩
theorem Boxes.del_ne {w W:World}:∀ {bs:List Bk} {k:Nat} {b:Bk},Boxes w W bs→bs[k]? = some b→∀ c∈bs.eraseIdx k,b.pos≠c.pos
 | [],_,_,_,h=>by simp at h
 | a :: r,0,b,h,e=>fun c hc=>by simp at e hc;subst e;exact h.1.2.2 c hc
 | a :: r,k+1,b,h,e=>fun c hc=>by
  have e':r[k]? = some b:=by simpa using e
  rcases List.mem_cons.1 hc with rfl | hc
  ·exact fun e2=>h.1.2.2 b (List.mem_of_getElem? e') e2.symm
  ·exact h.2.del_ne e' c hc
theorem St.del_ne {w W:World} {bs:List Bk} {fs:List Fc} (h:St w bs fs W) (k:Nat) {b:Bk} (hk:bs[k]? = some b):∀ c∈bs.eraseIdx k,b.pos≠c.pos:=h.box.del_ne hk
def flQ (r:Rat):Rat:=((r.num / (r.den:Int):Int):Rat)
theorem floor_q (r:Rat) (v:Value) (k:Nat) (w:World) (h:IsQ w v r) (hk:k≤17179869183) (f:Fits k r):Calls Tryz.prog 123 #[v] w (RetQ w (flQ r)):=Floor_calls r v k w h hk f
def cfr (a:Rat):Nat→Rat
 | 0=>a
 | i+1=>(cfr a i - flQ (cfr a i))⁻¹
structure Cv where
 p:Rat
 q:Rat
 lp:Rat
 lq:Rat
def cv (a:Rat):Nat→Cv
 | 0=>⟨1,0,0,1⟩
 | i+1=>⟨(cv a i).lp+flQ (cfr a i)*(cv a i).p,(cv a i).lq+flQ (cfr a i)*(cv a i).q,(cv a i).p,(cv a i).q⟩
def absQ (r:Rat):Rat:=if r.num<0 then -r else r
def sgQ (r:Rat):Int:=sgn (decide (r.num<0)) r.num.natAbs
theorem Sign_q (r:Rat) (v:Value) (w:World) (h:IsQ w v r):Calls Tryz.prog 7 #[v] w (RetI w (.int .i64 (sgQ r))):=by
 obtain ⟨t,x,p,l,q,y,p',s,u,rfl,i,j,e⟩:=h.shape
 have e':=e.out
 subst e'
 exact Sign_calls _ _ _ _ _ _ w i
theorem sgQ_zero:sgQ 0=0:=by decide
theorem absQ_num (r:Rat):(absQ r).num.natAbs=r.num.natAbs∧(absQ r).den=r.den:=by
 unfold absQ
 split
 ·exact ⟨by rw [Rat.neg_num,Int.natAbs_neg],Rat.neg_den r⟩
 ·exact ⟨rfl,rfl⟩
theorem Fits.abs {k:Nat} {r:Rat} (h:Fits k r):Fits k (absQ r):=by
 obtain ⟨h1,h2⟩:=absQ_num r
 exact ⟨by rw [h1];exact h.1,by rw [h2];exact h.2⟩
theorem steps_calls (v:Value) (w:World) (t:Bool) (x:Int) (p:Option Addr) (l q:Nat) (y:Int) (r:Option Addr) (s u:Nat) (hv:v=.agg #[.bool t,.int .u64 x,.slice p l q,.int .u64 y,.slice r s u]):Calls Tryz.prog 122 #[v] w fun e w' =>
  e=.returned (.func (.func 168) #[] #[.pointer (some ⟨w.heap.size,0,none⟩)])∧w' = w.alloc (.cells #[.bool t,.int .u64 x,.slice p l q,.int .u64 y,.slice r s u] 32):=by
 subst hv
 go_enter Tryz.func122,Tryz.ntmps122
 go_wp2
 go_ret
 exact ⟨rfl,rfl⟩
theorem nearer_lt (A X Y:Rat) (va vx vy:Value) (k:Nat) (w:World) (h0:IsQ w va A) (h1:IsQ w vx X) (h2:IsQ w vy Y) (hk:k≤17179869183) (f0:Fits k A) (f1:Fits k X) (f2:Fits k Y) (f3:Fits k (X - A)) (f4:Fits k (Y - A)) (hlt:cmpQ (absQ (X - A)) (absQ (Y - A)) = -1) (hT:Tab w) :
  Calls Tryz.prog 124 #[va,vx,vy] w (RetQ w X):=by
 have HT:=hid hT
 have HX:=hid (fun (W:World) (v1 v2:Value) (i:IsQ W v1 X) (j:IsQ W v2 A) (hT:Tab W)=>Sub_calls X A v1 v2 k W i j (by omega) f1 f0 hT)
 have HY:=hid (fun (W:World) (v1 v2:Value) (i:IsQ W v1 Y) (j:IsQ W v2 A) (hT:Tab W)=>Sub_calls Y A v1 v2 k W i j (by omega) f2 f0 hT)
 have HC:=hid (fun (W:World) (v1 v2:Value) (i:IsQ W v1 (absQ (X - A))) (j:IsQ W v2 (absQ (Y - A)))=>hlt ▸ Cmp_calls _ _ v1 v2 k W i j (by omega) f3.abs f4.abs)
 have HAX:=hid (fun (W:World) (v:Value) (i:IsQ W v (X - A))=>Abs_calls (X - A) v W i)
 have HAY:=hid (fun (W:World) (v:Value) (i:IsQ W v (Y - A))=>Abs_calls (Y - A) v W i)
 obtain ⟨t1,x1,p1,l1,q1,y1,r1,s1,u1,rfl⟩:=h0.open
 obtain ⟨t2,x2,p2,l2,q2,y2,r2,s2,u2,rfl⟩:=h1.open
 obtain ⟨t3,x3,p3,l3,q3,y3,r3,s3,u3,rfl⟩:=h2.open
 have H:=hid (And.intro h0 (And.intro h1 h2))
 clear h0 h1 h2 f0 f1 f2 f3 f4 hlt hT
 go_enter Tryz.func124,Tryz.ntmps124
 go_wp2_with fail
 have hS0:=hid (((((St.start w).alloc' (w.heap.size) (by simp) 32 (c5 t1 x1 p1 l1 q1 y1 r1 s1 u1)).alloc' (w.heap.size+1) (by simp) 32 (c5 t2 x2 p2 l2 q2 y2 r2 s2 u2)).alloc' (w.heap.size+1+1) (by simp) 32 (c5 t3 x3 p3 l3 q3 y3 r3 s3 u3)).alloc' (w.heap.size+1+1+1) (by simp) 32 z5)
 obtain ⟨W0,hW0⟩:=nameW hS0
 rw [hW0] at hS0 ⊢
 clear hW0
 have g1:=H.out.1.below hS0.out.bel
 have g2:=H.out.2.1.below hS0.out.bel
 have g3:=H.out.2.2.below hS0.out.bel
 clear H
 have hS1:=hid (hS0.out.fq g1)
 clear hS0 g1
 have hS2:=hid (hS1.out.fq g2)
 clear hS1 g2
 have hS3:=hid (hS2.out.fq g3)
 clear hS2 g3
 have LM0:=hid (fun (W:World) (h:Below W0.heap.size W0 W)=>(hS3.out.call h).q5 2 1 (w.heap.size+1) 32 t2 x2 p2 l2 q2 y2 r2 s2 u2 X rfl rfl)
 have LM1:=hid (fun (W:World) (h:Below W0.heap.size W0 W)=>(hS3.out.call h).q5 3 2 w.heap.size 32 t1 x1 p1 l1 q1 y1 r1 s1 u1 A rfl rfl)
 have LM2:=hid (fun (W:World) (h:Below W0.heap.size W0 W)=>HT.out.below (hS3.out.call h).bel (Nat.le_refl _))
 have LM3:=hid (fun (W:World) (h:Below W0.heap.size W0 W)=>(hS3.out.call h).q5 1 0 (w.heap.size+1+1) 32 t3 x3 p3 l3 q3 y3 r3 s3 u3 Y rfl rfl)
 refine wp_region_inv 9 [⟨[],[0]⟩,⟨[],[1]⟩,⟨[0,1],[2]⟩,⟨[2],[3]⟩,⟨[],[4]⟩,⟨[],[5]⟩,⟨[4,5],[6]⟩,⟨[6],[7]⟩,⟨[3,7],[8]⟩]
  [oQ X,oQ A,oQ (X - A),oQ (absQ (X - A)),oQ Y,oQ A,oQ (Y - A),oQ (absQ (Y - A)),oE (.int .i64 (-1))]
  (fun _ W=>Below W0.heap.size W0 W) (by kernel_rfl) (by kernel_rfl) ?hTW1 ?hZW1 ?hOW1 ?hEW1
 case hZW1=>exact (Below.refl _ _).drew
 case hTW1 =>
  simp only [List.forall_mem_cons,List.not_mem_nil,false_imp_iff,implies_true,and_true]
  exact ⟨bQ,bQ,bQ,bQ,bQ,bQ,bQ,bQ,bE⟩
 case hOW1 =>
  intro u
  simp only [List.take_succ_cons,List.take_zero,putAll]
  repeat' (first | with_reducible exact debts_nil | with_reducible refine debts_cons ?_ ?_)
  ·intro W hS hF K hK
   have hc:=LM0.out W hS
   go_simp
   exact hK _ _ (.refl _ _) hS hc.2
  ·intro W hS hF K hK
   have hc:=LM1.out W hS
   go_simp
   exact hK _ _ (.refl _ _) hS hc.2
  ·intro W hS hF K hK
   have hq0:IsQ W (u 0) X:=hF.1
   have hq1:IsQ W (u 1) A:=hF.2.1
   clear hF
   go_simp
   refine (HX.out _ _ _ hq0 hq1 (LM2.out W hS)).mono ?_
   rintro e wA ⟨v,rfl,hv,hBA⟩
   exact ⟨_,rfl,hK _ _ hBA (hS.trans (hBA.mono hS.size)) hv⟩
  ·intro W hS hF K hK
   have hq2:IsQ W (u 2) (X - A):=hF.1
   clear hF
   go_simp
   refine (HAX.out _ _ hq2).mono ?_
   rintro e wA ⟨v,rfl,hv,hBA⟩
   exact ⟨_,rfl,hK _ _ hBA (hS.trans (hBA.mono hS.size)) hv⟩
  ·intro W hS hF K hK
   have hc:=LM3.out W hS
   go_simp
   exact hK _ _ (.refl _ _) hS hc.2
  ·intro W hS hF K hK
   have hc:=LM1.out W hS
   go_simp
   exact hK _ _ (.refl _ _) hS hc.2
  ·intro W hS hF K hK
   have hq4:IsQ W (u 4) Y:=hF.1
   have hq5:IsQ W (u 5) A:=hF.2.1
   clear hF
   go_simp
   refine (HY.out _ _ _ hq4 hq5 (LM2.out W hS)).mono ?_
   rintro e wA ⟨v,rfl,hv,hBA⟩
   exact ⟨_,rfl,hK _ _ hBA (hS.trans (hBA.mono hS.size)) hv⟩
  ·intro W hS hF K hK
   have hq6:IsQ W (u 6) (Y - A):=hF.1
   clear hF
   go_simp
   refine (HAY.out _ _ hq6).mono ?_
   rintro e wA ⟨v,rfl,hv,hBA⟩
   exact ⟨_,rfl,hK _ _ hBA (hS.trans (hBA.mono hS.size)) hv⟩
  ·intro W hS hF K hK
   have hq3:IsQ W (u 3) (absQ (X - A)):=hF.1
   have hq7:IsQ W (u 7) (absQ (Y - A)):=hF.2.1
   clear hF
   go_simp
   refine (HC.out _ _ _ hq3 hq7).mono ?_
   rintro e wA ⟨rfl,hBA⟩
   exact ⟨_,rfl,hK _ _ hBA (hS.trans (hBA.mono hS.size)) rfl⟩
 case hEW1 =>
  intro u W1 hS hF
  have hS4:=hid (hS3.out.call hS)
  have h8:u 8=.int .i64 (-1):=hF.2.2.2.2.2.2.2.2.1
  clear hF hS
  obtain ⟨⟨cX0,cX1,cX2,cX3,cX4⟩,fX0,fX1,fX2,fX3,fX4⟩:=hS4.out.f5 2 (w.heap.size+1) 32 (.bool t2) (.int .u64 x2) (.slice p2 l2 q2) (.int .u64 y2) (.slice r2 s2 u2) rfl
  obtain ⟨⟨cR0,cR1,cR2,cR3,cR4⟩,fR0,fR1,fR2,fR3,fR4⟩:=hS4.out.f5 0 (w.heap.size+1+1+1) 32 (.bool false) (.int .u64 0) (.slice none 0 0) (.int .u64 0) (.slice none 0 0) rfl
  simp only [List.take_succ_cons,List.take_zero,putAll,List.drop_succ_cons,List.drop_zero]
  have hS5:=hid (((((((hS4.out).store (b:=⟨w.heap.size+1+1+1,32,z5⟩) 0 0 (.bool t2) rfl rfl).store (b:=⟨w.heap.size+1+1+1,32,[.bool t2,.int .u64 0,.slice none 0 0,.int .u64 0,.slice none 0 0]⟩) 0 1 (.int .u64 x2) rfl rfl).store (b:=⟨w.heap.size+1+1+1,32,[.bool t2,.int .u64 x2,.slice none 0 0,.int .u64 0,.slice none 0 0]⟩) 0 2 (.slice p2 l2 q2) rfl rfl).store (b:=⟨w.heap.size+1+1+1,32,[.bool t2,.int .u64 x2,.slice p2 l2 q2,.int .u64 0,.slice none 0 0]⟩) 0 3 (.int .u64 y2) rfl rfl).store (b:=⟨w.heap.size+1+1+1,32,[.bool t2,.int .u64 x2,.slice p2 l2 q2,.int .u64 y2,.slice none 0 0]⟩) 0 4 (.slice r2 s2 u2) rfl rfl).as [⟨w.heap.size+1+1+1,32,(c5 t2 x2 p2 l2 q2 y2 r2 s2 u2)⟩,⟨w.heap.size+1+1,32,(c5 t3 x3 p3 l3 q3 y3 r3 s3 u3)⟩,⟨w.heap.size+1,32,(c5 t2 x2 p2 l2 q2 y2 r2 s2 u2)⟩,⟨w.heap.size,32,(c5 t1 x1 p1 l1 q1 y1 r1 s1 u1)⟩] rfl)
  go_wp2_with fail
  clear cX0 cX1 cX2 cX3 cX4 fX0 fX1 fX2 fX3 fX4 cR0 cR1 cR2 cR3 cR4 fR0 fR1 fR2 fR3 fR4
  obtain ⟨⟨zR0,zR1,zR2,zR3,zR4⟩,-⟩:=hS5.out.f5 0 (w.heap.size+1+1+1) 32 (.bool t2) (.int .u64 x2) (.slice p2 l2 q2) (.int .u64 y2) (.slice r2 s2 u2) rfl
  exact bodyPost_ret (v:=.agg #[.bool t2,.int .u64 x2,.slice p2 l2 q2,.int .u64 y2,.slice r2 s2 u2]) (by simp [results,Tryz.results124,go_sem,zR0,zR1,zR2,zR3,zR4]) rfl ⟨_,rfl,(hS5.out.gq 1 rfl),hS5.out.bel⟩
end
section
open Go.RowKit Go.Sort
attribute [local go_sem] takes takesUpon_value takesUpon_skip takesUpon_enter
def BQ (W:World) (b:Nat) (r:Rat):Prop:=∃ (t:Bool) (x:Int) (p:Option Addr) (l q:Nat) (y:Int) (p':Option Addr) (l' q':Nat),
 Bx W b 32 (c5 t x p l q y p' l' q')∧IsQ W (.agg #[.bool t,.int .u64 x,.slice p l q,.int .u64 y,.slice p' l' q']) r
theorem BQ.off {S:Nat→Prop} {W W':World} {b:Nat} {r:Rat} (h:BQ W b r) (ho:Off S W W') (hb:¬ S b):BQ W' b r:=by
 obtain ⟨t,x,p,l,q,y,p',l',q',h1,h2⟩:=h
 exact ⟨t,x,p,l,q,y,p',l',q',ho.heap h1 hb,ho.fct (.q _ r) h2⟩
theorem Off.set5 {S:Nat→Prop} {W:World} {b:Nat} {t1:Bool} {x1:Int} {p1:Option Addr} {l1 q1:Nat} {y1:Int} {r1:Option Addr} {s1 u1:Nat} (h:Bx W b 32 (c5 t1 x1 p1 l1 q1 y1 r1 s1 u1)) (hS:S b) (t2:Bool) (x2:Int) (p2:Option Addr) (l2 q2:Nat) (y2:Int) (r2:Option Addr) (s2 u2:Nat) :
  Off S W (((((W.setCell ⟨b,0,none⟩ (.bool t2)).setCell ⟨b,1,none⟩ (.int .u64 x2)).setCell ⟨b,2,none⟩ (.slice p2 l2 q2)).setCell ⟨b,3,none⟩ (.int .u64 y2)).setCell ⟨b,4,none⟩ (.slice r2 s2 u2))∧Bx (((((W.setCell ⟨b,0,none⟩ (.bool t2)).setCell ⟨b,1,none⟩ (.int .u64 x2)).setCell ⟨b,2,none⟩ (.slice p2 l2 q2)).setCell ⟨b,3,none⟩ (.int .u64 y2)).setCell ⟨b,4,none⟩ (.slice r2 s2 u2)) b 32 (c5 t2 x2 p2 l2 q2 y2 r2 s2 u2):=
 ⟨((((Off.setCell h rfl hS).trans (Off.setCell (h.set 0 (.bool t2)) rfl hS)).trans (Off.setCell ((h.set 0 (.bool t2)).set 1 (.int .u64 x2)) rfl hS)).trans (Off.setCell (((h.set 0 (.bool t2)).set 1 (.int .u64 x2)).set 2 (.slice p2 l2 q2)) rfl hS)).trans
  (Off.setCell ((((h.set 0 (.bool t2)).set 1 (.int .u64 x2)).set 2 (.slice p2 l2 q2)).set 3 (.int .u64 y2)) rfl hS),
 ((((h.set 0 (.bool t2)).set 1 (.int .u64 x2)).set 2 (.slice p2 l2 q2)).set 3 (.int .u64 y2)).set 4 (.slice r2 s2 u2)⟩
def HoldsV (b:Nat) (T:TypeId) (v:Value) (W:World):Prop:=∃ (t:Bool) (x:Int) (p:Option Addr) (l q:Nat) (y:Int) (p':Option Addr) (l' q':Nat),
 v=.agg #[.bool t,.int .u64 x,.slice p l q,.int .u64 y,.slice p' l' q']∧Bx W b T (c5 t x p l q y p' l' q')
theorem holdsV_below {b:Nat} {T:TypeId}:∀ v W W',Below W.heap.size W W'→HoldsV b T v W→HoldsV b T v W':=
 fun _ _ _ hb ⟨t,x,p,l,q,y,p',l',q',e,h⟩=>⟨t,x,p,l,q,y,p',l',q',e,h.below hb⟩
theorem IsQ.elim {G:Prop} {W:World} {v:Value} {r:Rat} (h:IsQ W v r) (k:∀ (t:Bool) (x:Int) (p:Option Addr) (l q:Nat) (y:Int) (p':Option Addr) (l' q':Nat),v=.agg #[.bool t,.int .u64 x,.slice p l q,.int .u64 y,.slice p' l' q']→G):G:=by
 obtain ⟨t,x,p,l,q,y,p',l',q',e⟩:=h.open
 exact k _ _ _ _ _ _ _ _ _ e
theorem more_false {dn:Nat→Bool} {i k:Nat} (h:Dn.more dn i k=false):dn k=false:=by
 unfold Dn.more at h
 simp only [Bool.or_eq_false_iff] at h
 exact h.1
theorem Tab.off {S:Nat→Prop} {W W':World} (h:Tab W) (ho:Off S W W') (hS:¬ S 0):Tab W':=
 ⟨Nat.lt_of_lt_of_le h.1 ho.size,fun j hj=>(World.cell?_of_block (w:=W) (a:=⟨0,j,none⟩) (ho.block _ h.1 hS)).trans (h.2 j hj)⟩
theorem wpIn_loop_ghost {F:Fence} {n:Nat} {P:Program} {c:Code} {Q:Exit→Act→World→Prop} {a:Act} {w:World} (Inv:Nat→Act→World→Prop) (N:Nat) (h0:Inv 0 a w)
  (step:∀ i a w,i≤N→Inv i a w→c.wpIn F n P (Exit.then (fun a' w'=>i<N∧Inv (i+1) a' w') Q) a w):(Code.loop c).wpIn F n P Q a w:=by
 have key:∀ (m i:Nat) (a:Act) (w:World),i+m=N+1→i≤N→Inv i a w→Code.roundsIn F n P c Q m a w:=by
  intro m
  induction m with
  | zero=>intro i a w h1 h2 _;omega
  | succ m ih =>
   intro i a w h1 h2 h3
   refine wpIn_mono (step i a w h2 h3) ?_
   intro e a' w' h
   cases e <;> first | exact ih (i+1) a' w' (by omega) (by have:=h.1;omega) h.2 | exact h
 exact wpIn_loop_rounds (N+1) (key (N+1) 0 a w (by omega) (by omega) h0)
theorem steps_iter (a:Rat) (N k Ba B0:Nat) (W0:World) (hk:k≤1000) (hf:∀ i,i≤N→Fits k (cfr a i)∧Fits k (flQ (cfr a i))) (hc:∀ i,i<N→sgQ (cfr a i - flQ (cfr a i))≠0) (hT:Tab W0) (hb:BQ W0 Ba a) (hg:0<B0) (hB:B0≤Ba) :
  Iter Tryz.prog 168 #[.pointer (some ⟨Ba,0,none⟩)] Ba N (fun i v W=>IsQ W v (flQ (cfr a i))) B0 W0:=by
 intro l S J Jx W1 hO hSB hSl hJ hJx hY hJ0
 have hT1:Tab W1:=hT.off hO (fun h=>h)
 have hb1:BQ W1 Ba a:=hb.off hO (fun h=>h)
 have hBa1:Ba<W1.heap.size:=by obtain ⟨_,_,_,_,_,_,_,_,_,h,_⟩:=hb1;exact h.lt
 clear hT hb hO
 refine callsIn_of_wp Tryz.func168 rfl trivial ?_
 simp only [Tryz.ntmps168,List.size_toArray,List.length_cons,List.length_nil,Nat.reduceAdd,Nat.reduceSub,Array.replicate_succ,Array.replicate_zero,List.push_toArray,List.append_toArray,List.nil_append,List.cons_append]
 refine wpIn_block (wpIn_loop_ghost (fun i b W=>(∃ e2 e3 e4 e5 e6 e7 e8 e9 e10 e11 e12 e13 e14 e15 e16 e17 e18 e19 e20:Value,b = { tmps:=#[.func (.yield l) #[] #[],.pointer (some ⟨Ba,0,none⟩),e2,e3,e4,e5,e6,e7,e8,e9,e10,e11,e12,e13,e14,e15,e16,e17,e18,e19,e20],defers:=[] })∧J i W∧BQ W Ba (cfr a i)∧Tab W∧W1.heap.size≤W.heap.size) N ?_ ?_)
 ·exact ⟨⟨_,_,_,_,_,_,_,_,_,_,_,_,_,_,_,_,_,_,_,rfl⟩,hJ0,hb1,hT1,Nat.le_refl _⟩
 rintro i b W hi ⟨⟨e2,e3,e4,e5,e6,e7,e8,e9,e10,e11,e12,e13,e14,e15,e16,e17,e18,e19,e20,rfl⟩,hJi,hBi,hTi,hsz⟩
 have HF:=hid (hf i hi)
 obtain ⟨t1,x1,p1,l1,q1,y1,r1,s1,u1,hx,hq⟩:=hBi
 have hlt:=hx.lt
 have HJ:=hid (And.intro hJ (And.intro hJx (And.intro hY hJi)))
 have HC:=hid (hc i)
 have HT:=hid hTi
 clear hJ hJx hY hJi hc hTi hf hb1 hT1 hJ0
 obtain ⟨R,hR⟩:∃ R,cfr a i=R:=⟨_,rfl⟩
 have HR:=hid hR
 rw [hR] at HF HC hq
 clear hR
 have HFl:=hid (fun (W:World) (v:Value) (h:IsQ W v R)=>floor_q R v k W h (by omega) HF.out.1)
 have HSb:=hid (fun (W:World) (v1 v2:Value) (i:IsQ W v1 R) (j:IsQ W v2 (flQ R)) (hT:Tab W)=>Sub_calls R (flQ R) v1 v2 k W i j (by omega) HF.out.1 HF.out.2 hT)
 refine wpIn_block ?_
 refine wpIn_seq (wpIn_wide.2 ?_)
 have cx:=hx.f5.1
 obtain ⟨c0,c1,c2,c3,c4⟩:=cx
 go_wp2_with fail
 refine (HFl.out _ _ hq).mono ?_
 rintro e wa ⟨v2,rfl,hv2,hBa⟩
 obtain ⟨t2,x2,p2,l2,q2,y2,r2,s2,u2,rfl⟩:=hv2.open
 clear c0 c1 c2 c3 c4 HFl
 go_wp2_with fail
 obtain ⟨wb,hwb⟩:∃ wb,wa.alloc (.cells #[.bool t2,.int .u64 x2,.slice p2 l2 q2,.int .u64 y2,.slice r2 s2 u2] 32)=wb:=⟨_,rfl⟩
 have hBb:Below W.heap.size W wb:=by rw [← hwb];exact hBa.alloc hBa.size _
 have hxb:Bx wb Ba 32 (c5 t1 x1 p1 l1 q1 y1 r1 s1 u1):=hx.below hBb
 have hyb:Bx wb wa.heap.size 32 (c5 t2 x2 p2 l2 q2 y2 r2 s2 u2):=by rw [← hwb];exact Bx.new wa _ _
 have hqb:IsQ wb (.agg #[.bool t1,.int .u64 x1,.slice p1 l1 q1,.int .u64 y1,.slice r1 s1 u1]) R:=hq.below hBb
 have hvb:IsQ wb (.agg #[.bool t2,.int .u64 x2,.slice p2 l2 q2,.int .u64 y2,.slice r2 s2 u2]) (flQ R):=by rw [← hwb];exact hv2.below ((Below.refl _ _).alloc (Nat.le_refl _) _)
 have hza:=hBa.size
 rw [hwb]
 clear hwb hv2 hBa hx
 obtain ⟨bt,hbt⟩:∃ bt,wa.heap.size=bt:=⟨_,rfl⟩
 rw [hbt] at hyb hza ⊢
 clear hbt
 refine wpIn_seq (wpIn_wide.2 ?_)
 obtain ⟨c0,c1,c2,c3,c4⟩:=hxb.f5.1
 obtain ⟨d0,d1,d2,d3,d4⟩:=hyb.f5.1
 go_wp2_with fail
 refine (HSb.out _ _ _ hqb hvb (HT.out.below hBb (Nat.le_refl _))).mono ?_
 rintro e wc ⟨v3,rfl,hv3,hBc⟩
 obtain ⟨t3,x3,p3,l3,q3,y3,r3,s3,u3,rfl⟩:=hv3.open
 clear c0 c1 c2 c3 c4 d0 d1 d2 d3 d4 HSb
 go_wp2_with fail
 obtain ⟨wd,hwd⟩:∃ wd,wc.alloc (.cells #[.bool t3,.int .u64 x3,.slice p3 l3 q3,.int .u64 y3,.slice r3 s3 u3] 32)=wd:=⟨_,rfl⟩
 have hBbd:Below wb.heap.size wb wd:=by rw [← hwd];exact hBc.alloc hBc.size _
 have hBd:Below W.heap.size W wd:=hBb.trans (hBbd.mono hBb.size)
 have hxd:Bx wd Ba 32 (c5 t1 x1 p1 l1 q1 y1 r1 s1 u1):=hxb.below hBbd
 have hyd:Bx wd bt 32 (c5 t2 x2 p2 l2 q2 y2 r2 s2 u2):=hyb.below hBbd
 have hzd:Bx wd wc.heap.size 32 (c5 t3 x3 p3 l3 q3 y3 r3 s3 u3):=by rw [← hwd];exact Bx.new wc _ _
 have hvd:IsQ wd (.agg #[.bool t2,.int .u64 x2,.slice p2 l2 q2,.int .u64 y2,.slice r2 s2 u2]) (flQ R):=hvb.below hBbd
 have hrd:IsQ wd (.agg #[.bool t3,.int .u64 x3,.slice p3 l3 q3,.int .u64 y3,.slice r3 s3 u3]) (R - flQ R):=by rw [← hwd];exact hv3.below ((Below.refl _ _).alloc (Nat.le_refl _) _)
 have hzc:W.heap.size≤wc.heap.size:=Nat.le_trans hBb.size hBc.size
 rw [hwd]
 clear hwd hv3 hBc hBb hxb hyb hqb hvb
 obtain ⟨br,hbr⟩:∃ br,wc.heap.size=br:=⟨_,rfl⟩
 rw [hbr] at hzd hzc ⊢
 clear hbr
 have hJd:=HJ.out.1 i W wd (Off.of_below hBd) HJ.out.2.2.2
 obtain ⟨fn,tmps,assign,body,hy,hRd⟩:=HJ.out.2.2.1 i wd _ hi hJd (show IsQ wd (.agg #[.bool t2,.int .u64 x2,.slice p2 l2 q2,.int .u64 y2,.slice r2 s2 u2]) (flQ (cfr a i)) by rw [HR.out];exact hvd)
 refine wpIn_seq (wpIn_seq ?_)
 obtain ⟨d0,d1,d2,d3,d4⟩:=hyd.f5.1
 gi_wp2
 refine hRd.mono ?_
 clear hRd hy d0 d1 d2 d3 d4
 rintro e we ⟨hoff,(⟨hin,rfl,hJe⟩ | ⟨hin,rfl,hJxe⟩)⟩
 ·have hbrS:¬ S br:=fun h=>by have:=hSl _ h;omega
  have hxe:Bx we Ba 32 (c5 t1 x1 p1 l1 q1 y1 r1 s1 u1):=hoff.heap hxd hSB
  have hze:Bx we br 32 (c5 t3 x3 p3 l3 q3 y3 r3 s3 u3):=hoff.heap hzd hbrS
  have hre:IsQ we (.agg #[.bool t3,.int .u64 x3,.slice p3 l3 q3,.int .u64 y3,.slice r3 s3 u3]) (R - flQ R):=hoff.fct (.q _ _) hrd
  have hTe:Tab we:=(HT.out.below hBd (Nat.le_refl _)).off hoff (fun h=>by have:=hSl _ h;omega)
  have hze':W1.heap.size≤we.heap.size:=Nat.le_trans hsz (Nat.le_trans hBd.size hoff.size)
  clear hoff hxd hyd hzd hvd hrd hJd hBd HT
  obtain ⟨sg,hsg⟩:∃ sg,sgQ (R - flQ R)=sg:=⟨_,rfl⟩
  have hsg0:(sg == 0)=false:=by rw [beq_eq_false_iff_ne,← hsg];exact HC.out hin
  have HSg:=hid (fun (W:World) (v:Value) (h:IsQ W v (R - flQ R))=>hsg ▸ Sign_q (R - flQ R) v W h)
  clear hsg
  have hr0:R - flQ R≠0:=fun h=>HC.out hin (by rw [h];exact sgQ_zero)
  have HIv:=hid (fun (W:World) (v:Value) (h:IsQ W v (R - flQ R))=>Inv_calls (R - flQ R) v W h hr0)
  clear hr0
  obtain ⟨d0,d1,d2,d3,d4⟩:=hze.f5.1
  gi_wp2_with fail
  refine ⟨trivial,(callsIn_wide.2 (HSg.out _ _ hre)).mono ?_⟩
  rintro e wf ⟨rfl,hBf⟩
  have hxf:=hxe.below hBf
  have hzf:=hze.below hBf
  have hrf:=hre.below hBf
  have hTf:=hid (hTe.below hBf (Nat.le_refl _))
  have hJf:=hid (HJ.out.1 (i+1) we wf (Off.of_below hBf) hJe)
  have hzf':=Nat.le_trans hze' hBf.size
  clear hxe hze hre hTe hJe hBf hze' HSg d0 d1 d2 d3 d4
  obtain ⟨d0,d1,d2,d3,d4⟩:=hzf.f5.1
  gi_wp2_with fail
  refine ⟨trivial,(callsIn_wide.2 (HIv.out _ _ hrf)).mono ?_⟩
  rintro e wg ⟨v4,rfl,hv4,hBg⟩
  obtain ⟨t4,x4,p4,l4,q4,y4,r4,s4,u4,rfl⟩:=hv4.open
  have hxg:=hxf.below hBg
  have hTg:=hTf.out.below hBg (Nat.le_refl _)
  have hJg:=HJ.out.1 (i+1) wf wg (Off.of_below hBg) hJf.out
  have hzg:=Nat.le_trans hzf' hBg.size
  have hres:=Off.set5 (S:=fun k=>k=Ba∨W1.heap.size≤k) hxg (.inl rfl) t4 x4 p4 l4 q4 y4 r4 s4 u4
  have hfin:=hid (show J (i+1) _∧BQ _ Ba (cfr a (i+1))∧Tab _∧W1.heap.size≤_ from
   ⟨HJ.out.1 (i+1) wg _ hres.1 hJg,⟨_,_,_,_,_,_,_,_,_,hres.2,(show IsQ _ _ ((cfr a i - flQ (cfr a i))⁻¹) by rw [HR.out];exact hres.1.fct (.q _ _) hv4)⟩,hTg.off hres.1 (fun h=>by have h':0=Ba∨W1.heap.size≤0:=h;omega),Nat.le_trans hzg hres.1.size⟩)
  clear hres hJg hTg hzg hv4 hBg hxf hzf hrf hTf hJf hzf' d0 d1 d2 d3 d4 HIv
  obtain ⟨⟨c0,c1,c2,c3,c4⟩,f0,f1,f2,f3,f4⟩:=hxg.f5
  gi_wp2_with fail
  exact ⟨hin,⟨_,_,_,_,_,_,_,_,_,_,_,_,_,_,_,_,_,_,_,rfl⟩,hfin.out⟩
 ·gi_wp2_with fail
  refine ⟨trivial,?_⟩
  gi_wp2_with fail
  refine bodyPost_ret (results_none rfl _ _ _) rfl ?_
  exact ⟨⟨_,rfl⟩,hJxe⟩
end
end Go.Proofs.YtmijlcldmefggaaGreatDoor
