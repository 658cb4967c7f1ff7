/- What the proof rests on, part 33. -/
import Derived.Test.YtmijlcldmefggaaGreatDoorZ32
import Derived.Test.YtmijlcldmefggaaGreatDoorZ20
import Derived.Test.YtmijlcldmefggaaGreatDoorZ31
import Derived.Test.YtmijlcldmefggaaGreatDoorZ07
import Derived.Test.YtmijlcldmefggaaGreatDoorZ06
import Derived.Test.YtmijlcldmefggaaGreatDoorZ08
import Derived.Test.YtmijlcldmefggaaGreatDoorZ29
import Derived.Test.YtmijlcldmefggaaGreatDoorZ19
import Derived.Test.YtmijlcldmefggaaGreatDoorZ10
import Derived.Test.YtmijlcldmefggaaGreatDoorZ05
namespace Go.Proofs.YtmijlcldmefggaaGreatDoor
set_option maxRecDepth 100000
set_option maxHeartbeats 80000000
section
instance fitsDec (k:Nat) (r:Rat):Decidable (Fits k r):=inferInstanceAs (Decidable (_∧_))
theorem near_hyp:NearHyp (mkRat 355 113) 7 2 1 0 (mkRat 22 7) 3 where
 m1:=by decide
 m2:=by decide
 hk:=by decide
 den:=by decide +kernel
 fd:=by decide +kernel
 fm:=by decide +kernel
 fa:=by decide +kernel
 step:=fun i hi=>by
  rcases (show i=0∨i=1∨i=2 by omega) with rfl | rfl | rfl
  ·exact ⟨by decide +kernel,by decide +kernel,by decide +kernel,by decide +kernel,by decide +kernel,by decide +kernel,by decide +kernel,by decide +kernel,by decide +kernel,by decide +kernel,by decide +kernel,by decide +kernel,by decide +kernel⟩
  ·exact ⟨by decide +kernel,by decide +kernel,by decide +kernel,by decide +kernel,by decide +kernel,by decide +kernel,by decide +kernel,by decide +kernel,by decide +kernel,by decide +kernel,by decide +kernel,by decide +kernel,by decide +kernel⟩
  ·exact ⟨by decide +kernel,by decide +kernel,by decide +kernel,by decide +kernel,by decide +kernel,by decide +kernel,by decide +kernel,by decide +kernel,by decide +kernel,by decide +kernel,by decide +kernel,by decide +kernel,by decide +kernel⟩
 q0:=by decide +kernel
 d1:=by decide +kernel
 d2:=by decide +kernel
 hK:=by decide +kernel
 fK:=by decide +kernel
 kp:=by decide +kernel
 kq:=by decide +kernel
 sp:=by decide +kernel
 sq:=by decide +kernel
 s0:=by decide +kernel
 hX:=by decide +kernel
 hY:=by decide +kernel
 fX:=by decide +kernel
 fY:=by decide +kernel
 fXa:=by decide +kernel
 fYa:=by decide +kernel
theorem near7 (v:Value) (w:World) (h:IsQ w v (mkRat 355 113)) (hE:Env w):Calls Tryz.prog 68 #[v,.int .i64 7] w (RetQE w (mkRat 22 7) 0):=near_walk (mkRat 355 113) 7 2 1 0 (mkRat 22 7) 3 v w h hE.tz near_hyp _ fun W va vx vy hB h0 h1 h2=>nearer_lt _ _ _ va vx vy 1 W h0 h1 h2 (by decide) near_hyp.fa near_hyp.fX near_hyp.fY near_hyp.fXa near_hyp.fYa (by decide +kernel) (hE.tz.below hB (Nat.le_refl _))
end
section
open Go.RowKit Go.Sort
attribute [local go_sem] takes takesUpon_value takesUpon_skip takesUpon_enter
def RetRt (w:World) (n:Nat) (e:Ending) (w':World):Prop:=∃ s,s*s≤n∧n<(s+1)*(s+1)∧RetM w s e w'
theorem root_zero (x1:Int) (p1:Option Addr) (l1 q1:Nat) (w:World) (i1:IsMag w (.int .u64 x1) (.slice p1 l1 q1) 0) :
  Calls Tryz.prog 170 #[.agg #[.int .u64 x1,.slice p1 l1 q1]] w (RetRt w 0):=by
 have HZ:=hid (fun (W:World) (h:IsMag W (.int .u64 x1) (.slice p1 l1 q1) 0)=>isZero_calls _ _ 0 W h)
 have HI:=hid i1
 clear i1
 go_enter Tryz.func170,Tryz.ntmps170
 go_wp2_with fail
 have hS0:=hid (((St.start w).alloc' (w.heap.size) (by simp) 28 [.int .u64 x1,.slice p1 l1 q1]).alloc' (w.heap.size+1) (by simp) 28 [.int .u64 0,.slice none 0 0])
 obtain ⟨W0,hW0⟩:=nameW hS0
 rw [hW0] at hS0 ⊢
 clear hW0
 have hi1:=HI.out.below hS0.out.bel
 have hS1:=hid (hS0.out.fact (.m (.int .u64 x1) (.slice p1 l1 q1) (0)) hi1)
 clear hS0 hi1
 refine (HZ.out _ (hS1.out.get (f:=.m (.int .u64 x1) (.slice p1 l1 q1) (0)) 0 rfl)).mono ?_
 rintro e w1 ⟨rfl,hB⟩
 have hS2:=hid (hS1.out.call hB)
 clear hB
 clear hS1
 obtain ⟨⟨cA0,cA1⟩,fA0,fA1⟩:=hS2.out.f2 1 w.heap.size 28 (.int .u64 x1) (.slice p1 l1 q1) rfl
 obtain ⟨⟨cR0,cR1⟩,fR0,fR1⟩:=hS2.out.f2 0 (w.heap.size+1) 28 (.int .u64 0) (.slice none 0 0) rfl
 have hS3:=hid ((((hS2.out).store (b:=⟨w.heap.size+1,28,[.int .u64 0,.slice none 0 0]⟩) 0 0 (.int .u64 x1) rfl rfl).store (b:=⟨w.heap.size+1,28,[.int .u64 x1,.slice none 0 0]⟩) 0 1 (.slice p1 l1 q1) rfl rfl).as [⟨w.heap.size+1,28,[.int .u64 x1,.slice p1 l1 q1]⟩,⟨w.heap.size,28,[.int .u64 x1,.slice p1 l1 q1]⟩] rfl)
 go_wp2_with fail
 clear cA0 cA1 fA0 fA1 cR0 cR1 fR0 fR1
 obtain ⟨⟨zR0,zR1⟩,-⟩:=hS3.out.f2 0 (w.heap.size+1) 28 (.int .u64 x1) (.slice p1 l1 q1) rfl
 exact bodyPost_ret (v:=.agg #[.int .u64 x1,.slice p1 l1 q1]) (by simp [results,Tryz.results170,go_sem,zR0,zR1]) rfl ⟨0,by decide,by decide,_,_,rfl,(hS3.out.get (f:=.m (.int .u64 x1) (.slice p1 l1 q1) (0)) 0 rfl),hS3.out.bel⟩
theorem root_pos (n k:Nat) (x1:Int) (p1:Option Addr) (l1 q1:Nat) (w:World) (i1:IsMag w (.int .u64 x1) (.slice p1 l1 q1) n) (hk:k≤8589934592) (hn:n<B64 ^ k) (h0:0<n) :
  Calls Tryz.prog 170 #[.agg #[.int .u64 x1,.slice p1 l1 q1]] w (RetRt w n):=by
 have hz:(n == 0)=false:=by simp;omega
 have HZ:=hid (fun (W:World) (h:IsMag W (.int .u64 x1) (.slice p1 l1 q1) n)=>hz ▸ isZero_calls _ _ n W h)
 have HB:=hid (fun (W:World) (h:IsMag W (.int .u64 x1) (.slice p1 l1 q1) n)=>bits_calls _ _ n k W h (by omega) hn)
 have HO:=hid (fun (b:Nat) (c d:Value) (W:World) (h:IsMag W (.int .u64 x1) (.slice p1 l1 q1) n) (j:IsMag W c d b) (hb:0<b)=>mover_calls n b k _ _ c d W h j hb (by omega) hn)
 have HN:=hid (And.intro hn h0)
 have HI:=hid i1
 clear i1 hz h0 hn
 go_enter Tryz.func170,Tryz.ntmps170
 go_wp2_with fail
 have hS0:=hid (((St.start w).alloc' (w.heap.size) (by simp) 28 [.int .u64 x1,.slice p1 l1 q1]).alloc' (w.heap.size+1) (by simp) 28 [.int .u64 0,.slice none 0 0])
 obtain ⟨W0,hW0⟩:=nameW hS0
 rw [hW0] at hS0 ⊢
 clear hW0
 have hi1:=HI.out.below hS0.out.bel
 have hS1:=hid (hS0.out.fact (.m (.int .u64 x1) (.slice p1 l1 q1) (n)) hi1)
 clear hS0 hi1
 refine (HZ.out _ (hS1.out.get (f:=.m (.int .u64 x1) (.slice p1 l1 q1) (n)) 0 rfl)).mono ?_
 rintro e w1 ⟨rfl,hB⟩
 have hS2:=hid (hS1.out.call hB)
 clear hB
 clear hS1
 obtain ⟨ne1l,ne1,ne1'⟩:=hS2.out.ne 1 w.heap.size 28 [.int .u64 x1,.slice p1 l1 q1] rfl
 obtain ⟨ne2l,ne2,ne2'⟩:=hS2.out.ne 0 (w.heap.size+1) 28 [.int .u64 0,.slice none 0 0] rfl
 obtain ⟨⟨cA0,cA1⟩,fA0,fA1⟩:=hS2.out.f2 1 w.heap.size 28 (.int .u64 x1) (.slice p1 l1 q1) rfl
 go_wp2_with fail
 clear cA0 cA1 fA0 fA1
 have hS3:=hid ((hS2.out).alloc' (w1.heap.size) (by simp) 28 [.int .u64 2,.slice none 0 0])
 obtain ⟨W1,hW1⟩:=nameW hS3
 rw [hW1] at hS3 ⊢
 clear hW1
 refine (HB.out _ (hS3.out.get (f:=.m (.int .u64 x1) (.slice p1 l1 q1) (n)) 0 rfl)).mono ?_
 rintro e w2 ⟨v,rfl,hv,hB⟩
 have hS4:=hid (hS3.out.call hB)
 clear hB
 clear hS3
 have hv1:=hv.2 HN.out.2
 have hvb:v≤64*k:=by
  have h1:2 ^ (v - 1)<2 ^ (64*k):=Nat.lt_of_le_of_lt hv1.2.1 (by have:=HN.out.1;rwa [show B64=2 ^ 64 from by decide,← Nat.pow_mul] at this)
  have:=(Nat.pow_lt_pow_iff_right (by decide:1<2)).1 h1
  omega
 have HV:=hid (And.intro hv1 hvb)
 have hvs:v≤549755813888:=by omega
 clear hv hv1 hvb
 go_wp2_with fail
 rw [show ((v:Int)+1) / 2=(((v+1) / 2:Nat):Int) from by omega]
 refine (mshift_calls 1 ((v+1) / 2) 1 _ _ _ (isMag_lit _ 1 (by decide)) (by omega) (by omega) (by decide)).mono ?_
 rintro e w3 ⟨c2,d2,rfl,hm2,hB⟩
 have hS5:=hid (hS4.out.call hB)
 clear hB
 clear hS4
 obtain ⟨x2,p2,l2,q2,rfl,rfl⟩:=hm2.shape
 rw [Nat.one_mul] at hm2
 obtain ⟨X0,hX0⟩:∃ X0,2 ^ ((v+1) / 2)=X0:=⟨_,rfl⟩
 rw [hX0] at hm2
 have HX:=hid (show 1≤X0∧X0<B64 ^ (k+1)∧n<(X0+1)*(X0+1) by
  have h1:=HV.out.1.2.2
  have h2:2 ^ v≤X0*X0:=by rw [← hX0,← Nat.pow_add];exact Nat.pow_le_pow_right (by decide) (by omega)
  have h3:1≤X0:=by rw [← hX0];exact Nat.one_le_two_pow
  refine ⟨h3,?_,?_⟩
  ·rw [← hX0,show B64=2 ^ 64 from by decide,← Nat.pow_mul];exact Nat.pow_lt_pow_right (by decide) (by have:=HV.out.2;omega)
  ·have h4:(X0+1)*(X0+1)=X0*X0+X0+X0+1:=by grind
   omega)
 clear hX0 HV hvs
 have hS6:=hid (hS5.out.fact (.m (.int .u64 x2) (.slice p2 l2 q2) (X0)) hm2)
 clear hS5 hm2
 obtain ⟨ne3l,ne3,ne3'⟩:=hS6.out.ne 2 w.heap.size 28 [.int .u64 x1,.slice p1 l1 q1] rfl
 obtain ⟨ne4l,ne4,ne4'⟩:=hS6.out.ne 1 (w.heap.size+1) 28 [.int .u64 0,.slice none 0 0] rfl
 obtain ⟨ne5l,ne5,ne5'⟩:=hS6.out.ne 0 w1.heap.size 28 [.int .u64 2,.slice none 0 0] rfl
 obtain ⟨⟨cA0,cA1⟩,fA0,fA1⟩:=hS6.out.f2 2 w.heap.size 28 (.int .u64 x1) (.slice p1 l1 q1) rfl
 obtain ⟨⟨ctwo0,ctwo1⟩,ftwo0,ftwo1⟩:=hS6.out.f2 0 w1.heap.size 28 (.int .u64 2) (.slice none 0 0) rfl
 go_wp2_with fail
 clear cA0 cA1 fA0 fA1 ctwo0 ctwo1 ftwo0 ftwo1
 have hL:=hid ((hS6.out).alloc' (w3.heap.size) (by simp) 28 [.int .u64 x2,.slice p2 l2 q2])
 go_loopg [5] X0 (fun X _ wr=>∃ (x3:Int) (p3:Option Addr) (l3 q3:Nat),1≤X∧X<B64 ^ (k+1)∧n<(X+1)*(X+1)∧St w [⟨w3.heap.size,28,[.int .u64 x3,.slice p3 l3 q3]⟩,⟨w1.heap.size,28,[.int .u64 2,.slice none 0 0]⟩,⟨w.heap.size+1,28,[.int .u64 0,.slice none 0 0]⟩,⟨w.heap.size,28,[.int .u64 x1,.slice p1 l1 q1]⟩] [.m (.int .u64 x3) (.slice p3 l3 q3) (X),.m (.int .u64 x1) (.slice p1 l1 q1) (n)] wr)
 case atStart=>exact ⟨x2,p2,l2,q2,HX.out.1,HX.out.2.1,HX.out.2.2,⟨hL.out.bel,hL.out.box,(hL.out.get (f:=.m (.int .u64 x2) (.slice p2 l2 q2) (X0)) 0 rfl),(hL.out.get (f:=.m (.int .u64 x1) (.slice p1 l1 q1) (n)) 1 rfl),trivial⟩⟩
 case round =>
  clear hL
  obtain ⟨x3,p3,l3,q3,h1,h2,h3,hSt⟩:=hrel
  have HS:=hid hSt
  have HX3:=hid (And.intro h1 (And.intro h2 h3))
  have hy1:n / gk<B64 ^ (k+1):=Nat.lt_of_le_of_lt (Nat.div_le_self _ _) (Nat.lt_of_lt_of_le HN.out.1 (Nat.pow_le_pow_right (by decide) (by omega)))
  have hy2:n / gk+gk<B64 ^ (k+2):=by
   rw [Nat.pow_succ B64 (k+1)]
   have:B64 ^ (k+1)*2≤B64 ^ (k+1)*B64:=Nat.mul_le_mul_left _ (by decide)
   omega
  have HY:=hid (And.intro h1 (And.intro h2 (And.intro hy1 hy2)))
  obtain ⟨Y,hY⟩:∃ Y,(n / gk+gk) / 2=Y:=⟨_,rfl⟩
  have HYe:=hid hY
  have HQ:=hid (fun (c d:Value) (W:World) (j:IsMag W c d (n / gk+gk))=>hY ▸ mover_calls (n / gk+gk) 2 (k+2) c d (.int .u64 2) (.slice none 0 0) W j (isMag_lit _ 2 (by decide)) (by decide) (by omega) hy2)
  clear hSt h1 h2 h3 hy1 hy2 hY HX
  go_wp2_with fail
  have LM0:=hid (fun (W:World) (h:Below wr.heap.size wr W)=>((HS.out.call h).f2 3 w.heap.size 28 (.int .u64 x1) (.slice p1 l1 q1) rfl).1)
  have LM1:=hid (fun (W:World) (h:Below wr.heap.size wr W)=>((HS.out.call h).f2 0 w3.heap.size 28 (.int .u64 x3) (.slice p3 l3 q3) rfl).1)
  have LM2:=hid (fun (W:World) (h:Below wr.heap.size wr W)=>((HS.out.call h).f2 1 w1.heap.size 28 (.int .u64 2) (.slice none 0 0) rfl).1)
  refine wp_region_inv 8 [⟨[],[0]⟩,⟨[],[1]⟩,⟨[0,1],[2]⟩,⟨[],[3]⟩,⟨[2,3],[4]⟩,⟨[],[5]⟩,⟨[4,5],[6]⟩,⟨[],[7]⟩]
   [oE (.agg #[.int .u64 x1,.slice p1 l1 q1]),oE (.agg #[.int .u64 x3,.slice p3 l3 q3]),one (MagV (n / gk)),oE (.agg #[.int .u64 x3,.slice p3 l3 q3]),one (MagV (n / gk+gk)),oE (.agg #[.int .u64 2,.slice none 0 0]),one (MagV (Y)),one (NewV wr.heap.size 28 [.int .u64 0,.slice none 0 0])]
   (fun _ W=>Below wr.heap.size wr W) (by kernel_rfl) (by kernel_rfl) ?hTWr ?hZWr ?hOWr ?hEWr
  case hZWr=>exact (Below.refl _ _).drew
  case hTWr =>
   simp only [List.forall_mem_cons,List.not_mem_nil,false_imp_iff,implies_true,and_true]
   exact ⟨bE,bE,one_below magV_below,bE,one_below magV_below,bE,one_below magV_below,one_below newV_below⟩
  case hOWr =>
   intro u
   simp only [List.take_succ_cons,List.take_zero,putAll]
   repeat' (first | with_reducible exact debts_nil | with_reducible refine debts_cons ?_ ?_)
   ·intro W hS hF K hK
    have hcA:=LM0.out W hS
    go_simp
    exact hK _ _ (.refl _ _) hS rfl
   ·intro W hS hF K hK
    have hcx:=LM1.out W hS
    go_simp
    exact hK _ _ (.refl _ _) hS rfl
   ·intro W hS hF K hK
    have h0:u 0=.agg #[.int .u64 x1,.slice p1 l1 q1]:=hF.1
    have h1:u 1=.agg #[.int .u64 x3,.slice p3 l3 q3]:=hF.2.1
    have sH:=hid (HS.out.call hS)
    clear hF
    go_simp
    refine (HO.out gk _ _ _ (sH.out.get (f:=.m (.int .u64 x1) (.slice p1 l1 q1) (n)) 1 rfl) (sH.out.get (f:=.m (.int .u64 x3) (.slice p3 l3 q3) (gk)) 0 rfl) HY.out.1).mono ?_
    rintro e wA ⟨c,d,rfl,hm,hBA⟩
    obtain ⟨xx,pp,ll,qq,rfl,rfl⟩:=hm.shape
    exact ⟨_,rfl,hK _ _ hBA (hS.trans (hBA.mono hS.size)) ⟨_,_,_,_,rfl,hm⟩⟩
   ·intro W hS hF K hK
    have hcx:=LM1.out W hS
    go_simp
    exact hK _ _ (.refl _ _) hS rfl
   ·intro W hS hF K hK
    obtain ⟨x2,p2,l2,q2,h2,m2⟩:MagV (n / gk) (u 2) W:=hF.1
    have h3:u 3=.agg #[.int .u64 x3,.slice p3 l3 q3]:=hF.2.1
    have sH:=hid (HS.out.call hS)
    clear hF
    go_simp
    refine (mplus_calls (n / gk) gk (k+1) _ _ _ _ _ m2 (sH.out.get (f:=.m (.int .u64 x3) (.slice p3 l3 q3) (gk)) 0 rfl) (by omega) HY.out.2.2.1 HY.out.2.1).mono ?_
    rintro e wA ⟨c,d,rfl,hm,hBA⟩
    obtain ⟨xx,pp,ll,qq,rfl,rfl⟩:=hm.shape
    exact ⟨_,rfl,hK _ _ hBA (hS.trans (hBA.mono hS.size)) ⟨_,_,_,_,rfl,hm⟩⟩
   ·intro W hS hF K hK
    have hctwo:=LM2.out W hS
    go_simp
    exact hK _ _ (.refl _ _) hS rfl
   ·intro W hS hF K hK
    obtain ⟨x4,p4,l4,q4,h4,m4⟩:MagV (n / gk+gk) (u 4) W:=hF.1
    have h5:u 5=.agg #[.int .u64 2,.slice none 0 0]:=hF.2.1
    clear hF
    go_simp
    refine (HQ.out _ _ _ m4).mono ?_
    rintro e wA ⟨c,d,rfl,hm,hBA⟩
    obtain ⟨xx,pp,ll,qq,rfl,rfl⟩:=hm.shape
    exact ⟨_,rfl,hK _ _ hBA (hS.trans (hBA.mono hS.size)) ⟨_,_,_,_,rfl,hm⟩⟩
   ·intro W hS hF K hK
    go_simp
    refine hK _ _ ((Below.refl _ _).alloc (Nat.le_refl _) _) (hS.alloc hS.size _) ?_
    exact (show (NewV wr.heap.size 28 [.int .u64 0,.slice none 0 0]) _ _ from ⟨_,rfl,hS.size,by simp,Bx.new W 28 [.int .u64 0,.slice none 0 0]⟩)
  case hEWr =>
   intro u Wr hS hF
   have hS7:=hid (HS.out.call hS)
   obtain ⟨L7,e7,hl7,hm7,hb7⟩:NewV wr.heap.size 28 [.int .u64 0,.slice none 0 0] (u 7) Wr:=hF.2.2.2.2.2.2.2.1
   have hS8:=hid (hS7.out.add (Nat.le_trans HS.out.bel.size hl7) hb7 (HS.out.old hl7))
   clear hb7
   have hv0:MagV Y (u 6) Wr:=hF.2.2.2.2.2.2.1
   clear hF hS
   obtain ⟨x6,p6,l6,q6,e6,m6⟩:=hv0
   have n7x:¬ L7=w3.heap.size:=by have:=(HS.out.bx (b:=⟨w3.heap.size,28,[.int .u64 x3,.slice p3 l3 q3]⟩) 0 rfl).lt;simp only at this;omega
   have n7x':¬ w3.heap.size=L7:=fun h=>n7x h.symm
   have n7two:¬ L7=w1.heap.size:=by have:=(HS.out.bx (b:=⟨w1.heap.size,28,[.int .u64 2,.slice none 0 0]⟩) 1 rfl).lt;simp only at this;omega
   have n7two':¬ w1.heap.size=L7:=fun h=>n7two h.symm
   have n7R:¬ L7=w.heap.size+1:=by have:=(HS.out.bx (b:=⟨w.heap.size+1,28,[.int .u64 0,.slice none 0 0]⟩) 2 rfl).lt;simp only at this;omega
   have n7R':¬ w.heap.size+1=L7:=fun h=>n7R h.symm
   have n7A:¬ L7=w.heap.size:=by have:=(HS.out.bx (b:=⟨w.heap.size,28,[.int .u64 x1,.slice p1 l1 q1]⟩) 3 rfl).lt;simp only at this;omega
   have n7A':¬ w.heap.size=L7:=fun h=>n7A h.symm
   have hS9:=hid (hS8.out.fact (.m (.int .u64 x6) (.slice p6 l6 q6) (Y)) m6)
   clear hS8 m6
   obtain ⟨⟨cx0,cx1⟩,fx0,fx1⟩:=hS9.out.f2 1 w3.heap.size 28 (.int .u64 x3) (.slice p3 l3 q3) rfl
   obtain ⟨⟨cyy0,cyy1⟩,fyy0,fyy1⟩:=hS9.out.f2 0 L7 28 (.int .u64 0) (.slice none 0 0) rfl
   simp only [List.take_succ_cons,List.take_zero,putAll,List.drop_succ_cons,List.drop_zero]
   go_wp2_with fail
   clear cx0 cx1 fx0 fx1 cyy0 cyy1 fyy0 fyy1
   have hS10:=hid ((((hS9.out).store (b:=⟨L7,28,[.int .u64 0,.slice none 0 0]⟩) 0 0 (.int .u64 x6) rfl rfl).store (b:=⟨L7,28,[.int .u64 x6,.slice none 0 0]⟩) 0 1 (.slice p6 l6 q6) rfl rfl).as [⟨L7,28,[.int .u64 x6,.slice p6 l6 q6]⟩,⟨w3.heap.size,28,[.int .u64 x3,.slice p3 l3 q3]⟩,⟨w1.heap.size,28,[.int .u64 2,.slice none 0 0]⟩,⟨w.heap.size+1,28,[.int .u64 0,.slice none 0 0]⟩,⟨w.heap.size,28,[.int .u64 x1,.slice p1 l1 q1]⟩] rfl)
   obtain ⟨Wy,hWy⟩:=nameW hS10
   rw [hWy] at hS10 ⊢
   clear hWy
   refine (mcmp_calls Y gk (k+2) _ _ _ _ _ (hS10.out.get (f:=.m (.int .u64 x6) (.slice p6 l6 q6) (Y)) 0 rfl) (hS10.out.get (f:=.m (.int .u64 x3) (.slice p3 l3 q3) (gk)) 1 rfl) (by omega) (HYe.out ▸ Nat.lt_of_le_of_lt (Nat.div_le_self _ _) HY.out.2.2.2)).mono ?_
   rintro e w8 ⟨rfl,hB⟩
   have hS11:=hid (hS10.out.call hB)
   clear hB
   clear hS10
   obtain ⟨C,hC⟩:∃ C,cmpN Y gk=C:=⟨_,rfl⟩
   rw [hC]
   have HC:=hid hC
   by_cases hge:gk≤Y
   ·have hc0:0≤C:=by
     rw [← hC]
     rcases Nat.lt_or_eq_of_le hge with h | h
     ·rw [cmpN_gt h];decide
     ·rw [h,cmpN_eq];decide
    clear hC
    obtain ⟨⟨cx0,cx1⟩,fx0,fx1⟩:=hS11.out.f2 1 w3.heap.size 28 (.int .u64 x3) (.slice p3 l3 q3) rfl
    obtain ⟨⟨cR0,cR1⟩,fR0,fR1⟩:=hS11.out.f2 3 (w.heap.size+1) 28 (.int .u64 0) (.slice none 0 0) rfl
    have hS12:=hid ((((hS11.out).store (b:=⟨w.heap.size+1,28,[.int .u64 0,.slice none 0 0]⟩) 3 0 (.int .u64 x3) rfl rfl).store (b:=⟨w.heap.size+1,28,[.int .u64 x3,.slice none 0 0]⟩) 3 1 (.slice p3 l3 q3) rfl rfl).as [⟨L7,28,[.int .u64 x6,.slice p6 l6 q6]⟩,⟨w3.heap.size,28,[.int .u64 x3,.slice p3 l3 q3]⟩,⟨w1.heap.size,28,[.int .u64 2,.slice none 0 0]⟩,⟨w.heap.size+1,28,[.int .u64 x3,.slice p3 l3 q3]⟩,⟨w.heap.size,28,[.int .u64 x1,.slice p1 l1 q1]⟩] rfl)
    go_wp2_with fail
    clear cx0 cx1 fx0 fx1 cR0 cR1 fR0 fR1
    obtain ⟨⟨zR0,zR1⟩,-⟩:=hS12.out.f2 3 (w.heap.size+1) 28 (.int .u64 x3) (.slice p3 l3 q3) rfl
    exact bodyPost_ret (v:=.agg #[.int .u64 x3,.slice p3 l3 q3]) (by simp [results,Tryz.results170,go_sem,zR0,zR1]) rfl ⟨gk,newton_stop n gk HX3.out.1 (by rw [HYe.out];exact hge),HX3.out.2.2,_,_,rfl,(hS12.out.get (f:=.m (.int .u64 x3) (.slice p3 l3 q3) (gk)) 1 rfl),hS12.out.bel⟩
   ·have hlt:Y<gk:=by omega
    have hc0:¬ 0≤C:=by rw [← hC,cmpN_lt hlt];decide
    clear hC hge
    obtain ⟨⟨cx0,cx1⟩,fx0,fx1⟩:=hS11.out.f2 1 w3.heap.size 28 (.int .u64 x3) (.slice p3 l3 q3) rfl
    obtain ⟨⟨cyy0,cyy1⟩,fyy0,fyy1⟩:=hS11.out.f2 0 L7 28 (.int .u64 x6) (.slice p6 l6 q6) rfl
    go_wp2_with fail
    clear cx0 cx1 fx0 fx1 cyy0 cyy1 fyy0 fyy1
    have hJ:=hid ((((hS11.out).store (b:=⟨w3.heap.size,28,[.int .u64 x3,.slice p3 l3 q3]⟩) 1 0 (.int .u64 x6) rfl rfl).store (b:=⟨w3.heap.size,28,[.int .u64 x6,.slice p3 l3 q3]⟩) 1 1 (.slice p6 l6 q6) rfl rfl).as [⟨L7,28,[.int .u64 x6,.slice p6 l6 q6]⟩,⟨w3.heap.size,28,[.int .u64 x6,.slice p6 l6 q6]⟩,⟨w1.heap.size,28,[.int .u64 2,.slice none 0 0]⟩,⟨w.heap.size+1,28,[.int .u64 0,.slice none 0 0]⟩,⟨w.heap.size,28,[.int .u64 x1,.slice p1 l1 q1]⟩] rfl)
    go_roundg Y
    case rel =>
     have g1:=newton_pos n gk HN.out.2 HX3.out.1 (by rw [HYe.out];exact hlt)
     have g2:=newton_ge n gk HX3.out.1
     rw [HYe.out] at g1 g2
     exact ⟨x6,p6,l6,q6,g1,Nat.lt_trans hlt HX3.out.2.1,g2,⟨hJ.out.bel,hJ.out.box.2,(hJ.out.get (f:=.m (.int .u64 x6) (.slice p6 l6 q6) (Y)) 0 rfl),(hJ.out.get (f:=.m (.int .u64 x1) (.slice p1 l1 q1) (n)) 2 rfl),trivial⟩⟩
    case measure=>exact hlt
theorem root_calls (c d:Value) (n k:Nat) (w:World) (h:IsMag w c d n) (hk:k≤8589934592) (hn:n<B64 ^ k):Calls Tryz.prog 170 #[.agg #[c,d]] w (RetRt w n):=by
 obtain ⟨x,p,l,q,rfl,rfl⟩:=h.shape
 rcases Nat.eq_zero_or_pos n with h0 | h0
 ·subst h0
  exact root_zero x p l q w h
 ·exact root_pos n k x p l q w h hk hn h0
end
namespace Rx.Ry
open Go.RowKit
theorem mixedP:(Tryz.prog).follows .mixedOrders=true:=by kernel_rfl
structure Fm where
 s:Nat
 n:Nat
def onM (ρ:Env) (f:Fm) (W:World):Prop:=IsMag W (.int .u64 (ρ f.s).u) (.slice (ρ f.s).p (ρ f.s).l (ρ f.s).c) f.n
def SM:Sys where
 F:=Fm
 nm:=fun f=>[f.s]
 on:=onM
 okC:=fun cs=>okK (cs.map kdC)
 cg:=fun {ρ ρ' f W} h hf=>by
  unfold onM at hf ⊢
  rw [← h f.s (by simp)]
  exact hf
 bl:=fun hb hf=>IsMag.below hf hb
 st:=fun {ρ f W b T cs i u} hok _ hb hf=>mag_chg hf (by simp) fun b' _=>by
  by_cases e:b' = b
  ·exact .inr (.inl ⟨T,_,by rw [e];exact hb,by rw [okK_den];exact hok⟩)
  ·exact .inl (Below.heap_setCell W ⟨b,i,none⟩ u b' e)
def XM:Xt SM where
 okK:=okK
 okP:=fun p=>okK (p ++ p)
 key:=fun f=>f.s
 rep:=fun c h=>okK_rep h c
 chg:=fun {_ _ _ _} hf hs hc=>mag_chg hf hs hc
def HM:Tests SM where
 eq:=fun _ c d=>match c,d with
  | .st a,.st b=>some (a.data.toList == b.data.toList)
  | _,_=>none
 ok:=fun {fs c d x} h ρ W _=>by
  split at h
  ·rename_i a b
   cases h
   exact .inl ⟨a,b,rfl,rfl,by rw [ByteArray.toList_eq,ByteArray.toList_eq]⟩
  ·cases h
def Big:Nat:=B64 ^ 200
def findM:List Fm→Nat→Option Nat
 | [],_=>none
 | f :: r,s=>bif Nat.beq f.s s then some f.n else findM r s
def asM (db:List Fm):List Cell→Option Nat
 | [.it .u64 (.ofNat n),.nils]=>bif Nat.blt n B64 then some n else none
 | [.ou s,.os s']=>bif Nat.beq s s' then findM db s else none
 | _=>none
def mC (b n:Nat):List Cell:=bif Nat.blt n B64 then [.it .u64 (.ofNat n),.nils] else [.ou b,.os b]
def fC (b n:Nat):List Fm:=bif Nat.blt n B64 then [] else [⟨b,n⟩]
theorem findM_mem:∀ {db:List Fm} {s n:Nat},findM db s=some n→⟨s,n⟩∈db
 | [],s,n,h=>by simp [findM] at h
 | f :: r,s,n,h=>by
  simp only [findM] at h
  cases hb:Nat.beq f.s s with
  | true =>
   rw [hb,cond_true] at h
   cases h
   obtain rfl:=Nat.eq_of_beq_eq_true hb
   exact List.mem_cons_self
  | false=>rw [hb] at h;exact List.mem_cons_of_mem _ (findM_mem h)
theorem blt_iff {a b:Nat}:Nat.blt a b=true↔a<b:=⟨Nat.le_of_ble_eq_true,Nat.ble_eq_true_of_le⟩
theorem asM_ok {db:List Fm} {cs:List Cell} {n:Nat} {ρ:Env} {W:World} (h:asM db cs=some n) (hf:∀ f∈db,onM ρ f W):∃ c d,cs.map (Cell.den ρ)=[c,d]∧IsMag W c d n:=by
 unfold asM at h
 split at h
 ·rename_i m
  cases hb:Nat.blt m B64 with
  | false=>rw [hb] at h;cases h
  | true =>
   rw [hb] at h
   cases h
   exact ⟨_,_,rfl,.inl ⟨blt_iff.1 hb,rfl,rfl⟩⟩
 ·rename_i s s'
  cases hb:Nat.beq s s' with
  | false=>rw [hb] at h;cases h
  | true =>
   rw [hb,cond_true] at h
   obtain rfl:=Nat.eq_of_beq_eq_true hb
   exact ⟨_,_,rfl,hf _ (findM_mem h)⟩
 ·cases h
abbrev EV:World→Prop:=fun W=>Go.Proofs.YtmijlcldmefggaaGreatDoor.Env W
section
variable {f:FuncId} {vals:Array Value} {W:World} {ρ:Env} {b:Nat}
def Ans (ρ:Env) (b:Nat) (W:World) (res:SV) (new:List Fm) (e:Ending) (W':World):Prop:=
 ∃ ρ':Env,(∀ n,n<b∨b+M≤n→ρ' n=ρ n)∧e=.returned (res.den ρ')∧Below W.heap.size W W'∧∀ g∈new,onM ρ' g W'
def setN (ρ:Env) (b:Nat) (L:List Nv):Env:=fun n=>if b≤n then L[n - b]?.getD (ρ n) else ρ n
theorem setN_out {b:Nat} {L:List Nv} (hL:L.length≤M):∀ n,n<b∨b+M≤n→setN ρ b L n=ρ n:=fun n hn=>by
 unfold setN
 split
 ·rw [List.getElem?_eq_none (by simp only [M] at *;omega)];rfl
 ·rfl
theorem mC_den {W':World} {c d:Value} {n:Nat} (h:IsMag W' c d n):∃ nv:Nv,∀ (ρ:Env) (b:Nat),ρ b=nv→(mC b n).map (Cell.den ρ)=[c,d]∧∀ g∈fC b n,onM ρ g W':=by
 cases hb:Nat.blt n B64 with
 | true =>
  obtain ⟨rfl,rfl⟩:=isMag_word h (blt_iff.1 hb)
  refine ⟨default,fun ρ b _=>⟨?_,fun g hg=>?_⟩⟩
  ·unfold mC;rw [hb];rfl
  ·unfold fC at hg;rw [hb] at hg;cases hg
 | false =>
  obtain ⟨x,p,l,k,rfl,rfl⟩:=h.shape
  refine ⟨⟨false,x,p,l,k,.empty,0,default⟩,fun ρ b e=>⟨?_,fun g hg=>?_⟩⟩
  ·unfold mC;rw [hb];simp only [cond_false,List.map_cons,List.map_nil,Cell.den,e]
  ·unfold fC at hg
   rw [hb,cond_false,List.mem_singleton] at hg
   subst hg
   unfold onM
   rw [e]
   exact h
theorem ans_m {n:Nat} (hc:Calls Tryz.prog f vals W (RetM W n)):Calls Tryz.prog f vals W (Ans ρ b W (.e (.a (mC b n))) (fC b n)):=by
 refine hc.mono fun e W' ⟨c,d,he,hm,hb⟩=>?_
 obtain ⟨nv,hnv⟩:=mC_den hm
 obtain ⟨h1,h2⟩:=hnv (setN ρ b [nv]) b (by simp [setN])
 refine ⟨_,setN_out (L:=[nv]) (by simp [M]),?_,hb,h2⟩
 rw [he]
 simp only [SV.den,El.den,h1]
theorem ans_m2 {n m:Nat} (hc:Calls Tryz.prog f vals W (RetM2 W n m)):Calls Tryz.prog f vals W (Ans ρ b W (.t [.a (mC b n),.a (mC (b+1) m)]) (fC b n ++ fC (b+1) m)):=by
 refine hc.mono fun e W' ⟨c,d,c',d',he,hm,hm',hb⟩=>?_
 obtain ⟨nv,hnv⟩:=mC_den hm
 obtain ⟨nv',hnv'⟩:=mC_den hm'
 obtain ⟨h1,h2⟩:=hnv (setN ρ b [nv,nv']) b (by simp [setN])
 obtain ⟨h3,h4⟩:=hnv' (setN ρ b [nv,nv']) (b+1) (by simp [setN])
 refine ⟨_,setN_out (L:=[nv,nv']) (by simp [M]),?_,hb,fun g hg=>?_⟩
 ·rw [he]
  simp only [SV.den,El.den,List.map_cons,List.map_nil,h1,h3]
 ·rcases List.mem_append.1 hg with hg | hg
  ·exact h2 g hg
  ·exact h4 g hg
theorem ans_v {v:Value} {res:SV} (hc:Calls Tryz.prog f vals W fun e W'=>e=.returned v∧Below W.heap.size W W') (hv:∀ ρ,res.den ρ=v):Calls Tryz.prog f vals W (Ans ρ b W res []):=
 hc.mono fun e W' ⟨he,hb⟩=>⟨ρ,fun _ _=>rfl,by rw [he,hv],hb,fun g hg=>by cases hg⟩
end
def con1 (fn:FuncId) (op:Nat→Nat→Option (SV×List Fm)):Con SM where
 fn:=fn
 app:=fun db b args=>match args with
  | [.e (.a x)]=>match asM db x with
   | some m=>bif Nat.blt m Big then op b m else none
   | none=>none
  | _=>none
def con2 (fn:FuncId) (op:Nat→Nat→Nat→Option (SV×List Fm)):Con SM where
 fn:=fn
 app:=fun db b args=>match args with
  | [.e (.a x),.e (.a y)]=>match asM db x,asM db y with
   | some m,some n=>bif Nat.blt m Big && Nat.blt n Big then op b m n else none
   | _,_=>none
  | _=>none
theorem guard_some {α:Type} {g:Bool} {x:Option α} {y:α} (h:(bif g then x else none)=some y):g=true∧x=some y:=by
 cases g with
 | true=>exact ⟨rfl,h⟩
 | false=>cases h
theorem con1_ok {fn:FuncId} {op:Nat→Nat→Option (SV×List Fm)} (h:∀ b m res new,op b m=some (res,new)→m<Big→∀ c d ρ W,IsMag W c d m→EV W→Calls Tryz.prog fn #[.agg #[c,d]] W (Ans ρ b W res new)):(con1 fn op).Ok Tryz.prog SM EV:=by
 refine Con.ok0 rfl ?_
 intro db b args res new ha ρ W hf hE
 simp only [con1] at ha
 split at ha
 ·rename_i x
  split at ha
  ·rename_i m hx
   obtain ⟨hb,ha⟩:=guard_some (α:=SV×List Fm) ha
   obtain ⟨c,d,h1,h2⟩:=asM_ok hx hf
   have:=h b m res new ha (blt_iff.1 hb) c d ρ W h2 hE
   show Calls Tryz.prog fn #[.agg (x.map (Cell.den ρ)).toArray] W _
   rw [h1]
   exact this
  ·cases ha
 ·cases ha
theorem con2_ok {fn:FuncId} {op:Nat→Nat→Nat→Option (SV×List Fm)} (h:∀ b m n res new,op b m n=some (res,new)→m<Big→n<Big→∀ c d c' d' ρ W,IsMag W c d m→IsMag W c' d' n→EV W→Calls Tryz.prog fn #[.agg #[c,d],.agg #[c',d']] W (Ans ρ b W res new)):(con2 fn op).Ok Tryz.prog SM EV:=by
 refine Con.ok0 rfl ?_
 intro db b args res new ha ρ W hf hE
 simp only [con2] at ha
 split at ha
 ·rename_i x y
  split at ha
  ·rename_i m n hx hy
   obtain ⟨hb,ha⟩:=guard_some (α:=SV×List Fm) ha
   simp only [Bool.and_eq_true] at hb
   obtain ⟨c,d,h1,h2⟩:=asM_ok hx hf
   obtain ⟨c',d',h3,h4⟩:=asM_ok hy hf
   have:=h b m n res new ha (blt_iff.1 hb.1) (blt_iff.1 hb.2) c d c' d' ρ W h2 h4 hE
   show Calls Tryz.prog fn #[.agg (x.map (Cell.den ρ)).toArray,.agg (y.map (Cell.den ρ)).toArray] W _
   rw [h1,h3]
   exact this
  ·cases ha
 ·cases ha
def mR (b n:Nat):Option (SV×List Fm):=some (.e (.a (mC b n)),fC b n)
def bR (x:Bool):Option (SV×List Fm):=some (.e (.s (.bl x)),[])
def iR (x:Int):Option (SV×List Fm):=some (.e (.s (.it .i64 x)),[])
def kPlus:Con SM:=con2 99 fun b m n=>mR b (m+n)
def kMinus:Con SM:=con2 100 fun b m n=>bif Nat.ble n m then mR b (m - n) else none
def kTimes:Con SM:=con2 58 fun b m n=>mR b (m*n)
def kOver:Con SM:=con2 57 fun b m n=>bif Nat.blt 0 n then mR b (m / n) else none
def kGcd:Con SM:=con2 56 fun b m n=>mR b (Nat.gcd m n)
def kCmp:Con SM:=con2 65 fun _ m n=>iR (bif Nat.blt m n then -1 else bif Nat.beq m n then 0 else 1)
def kDiv:Con SM:=con2 106 fun b m n=>bif Nat.blt 0 n then some (.t [.a (mC b (m / n)),.a (mC (b+1) (m % n))],fC b (m / n) ++ fC (b+1) (m % n)) else none
def kZero:Con SM:=con1 61 fun _ m=>bR (Nat.beq m 0)
def kOne:Con SM:=con1 101 fun _ m=>bR (Nat.beq m 1)
def kOdd:Con SM:=con1 270 fun _ m=>bR (Nat.beq (m % 2) 1)
def lenN (n:Nat):Nat:=bif Nat.beq n 0 then 0 else Nat.log2 n+1
def kBits:Con SM:=con1 224 fun _ m=>iR (.ofNat (lenN m))
def newton (n:Nat):Nat→Nat→Nat
 | 0,x=>x
 | f+1,x=>bif Nat.ble x ((n / x+x) / 2) then x else newton n f ((n / x+x) / 2)
def kRoot:Con SM:=con1 170 fun b m =>
 bif Nat.ble (newton m 300 (2 ^ (Nat.log2 m / 2+1))*newton m 300 (2 ^ (Nat.log2 m / 2+1))) m && Nat.blt m ((newton m 300 (2 ^ (Nat.log2 m / 2+1))+1)*(newton m 300 (2 ^ (Nat.log2 m / 2+1))+1)) then mR b (newton m 300 (2 ^ (Nat.log2 m / 2+1))) else none
def decF:Nat→Nat→List UInt8
 | 0,n=>[UInt8.ofNat (48+n)]
 | f+1,n=>bif Nat.blt n 10 then [UInt8.ofNat (48+n)] else decF f (n / 10) ++ [UInt8.ofNat (48+n % 10)]
theorem decF_eq:∀ {f n:Nat},n<10 ^ (f+1)→decF f n=Lib.decDigits n
 | 0,n,h=>by
  rw [Lib.decDigits,dif_pos (by simpa using h)]
  rfl
 | f+1,n,h=>by
  rw [Lib.decDigits]
  simp only [decF]
  cases hb:Nat.blt n 10 with
  | true=>rw [dif_pos (blt_iff.1 hb)];rfl
  | false =>
   have h2:¬ n<10:=fun h3=>by rw [blt_iff.2 h3] at hb;cases hb
   have h4:n / 10<10 ^ (f+1):=by rw [Nat.pow_succ] at h;omega
   rw [dif_neg h2,cond_false,decF_eq h4]
def kText:Con SM:=con1 87 fun _ m=>bif Nat.blt m (10 ^ 201) then some (.e (.s (.st ⟨(decF 200 m).toArray⟩)),[]) else none
def kShift:Con SM where
 fn:=169
 app:=fun db b args=>match args with
  | [.e (.a x),.e (.s (.it .i64 (.ofNat k)))]=>match asM db x with
   | some m=>bif Nat.blt m Big && Nat.blt k 100000 then mR b (m*2 ^ k) else none
   | none=>none
  | _=>none
def kCutP:Con SM where
 fn:=115
 app:=fun _ _ args=>match args with
  | [.e (.s (.st l)),.e (.s (.st p))]=>if p.data.toList=[45] then some (.t [.s (.st ⟨(Lib.trimPrefix l.data.toList [45]).toArray⟩),.s (.bl (Lib.hasPrefix l.data.toList [45]))],[]) else none
  | _=>none
def kCut:Con SM where
 fn:=116
 app:=fun _ _ args=>match args with
  | [.e (.s (.st l)),.e (.s (.st p))]=>match p.data.toList with
   | [c]=>bif Nat.ble l.data.toList.length 1000000 then some (.t [.s (.st ⟨(Lib.cut l.data.toList [c]).1.toArray⟩),.s (.st ⟨(Lib.cut l.data.toList [c]).2.1.toArray⟩),.s (.bl (Lib.cut l.data.toList [c]).2.2)],[]) else none
   | _=>none
  | _=>none
def kInteger:Con SM where
 fn:=117
 app:=fun _ _ args=>match args with
  | [.e (.s (.st l))]=>bif Nat.ble l.data.toList.length 1000000 then bR (intB l.data.toList) else none
  | _=>none
def kDigits:Con SM where
 fn:=118
 app:=fun _ _ args=>match args with
  | [.e (.s (.st l))]=>bif Nat.ble l.data.toList.length 1000000 then bR (l.data.toList != [] && l.data.toList.all digB) else none
  | _=>none
def kMagOf:Con SM where
 fn:=119
 app:=fun _ b args=>match args with
  | [.e (.s (.st l))]=>bif Nat.ble l.data.toList.length 1000000 && l.data.toList.all digB then mR b (dv l.data.toList) else none
  | _=>none
def kTen:Con SM where
 fn:=120
 app:=fun _ b args=>match args with
  | [.e (.s (.it .i64 (.ofNat n)))]=>bif Nat.blt (10 ^ n) Big then mR b (10 ^ n) else none
  | _=>none
def kNear:Con SM where
 fn:=68
 app:=fun _ _ args=>match args with
  | [.e (.a [.bl false,.it .u64 355,.nils,.it .u64 113,.nils]),.e (.s (.it .i64 7))]=>some (.t [.a [.bl false,.it .u64 22,.nils,.it .u64 7,.nils],.s (.it .i64 0)],[])
  | _=>none
def km:List (Con SM):=[kPlus,kMinus,kTimes,kOver,kGcd,kCmp,kDiv,kZero,kOne,kOdd,kBits,kRoot,kText,kShift,kCutP,kCut,kInteger,kDigits,kMagOf,kTen,kNear]
end Rx.Ry
namespace Rx.Ry
open Go.RowKit
theorem mR_some {b n:Nat} {res:SV} {new:List Fm} (h:mR b n=some (res,new)):.e (.a (mC b n))=res∧fC b n=new:=by
 simpa only [mR,Option.some.injEq,Prod.mk.injEq] using h
theorem bR_some {x:Bool} {res:SV} {new:List Fm} (h:bR x=some (res,new)):.e (.s (.bl x))=res∧[]=new:=by
 simpa only [bR,Option.some.injEq,Prod.mk.injEq] using h
theorem iR_some {x:Int} {res:SV} {new:List Fm} (h:iR x=some (res,new)):.e (.s (.it .i64 x))=res∧[]=new:=by
 simpa only [iR,Option.some.injEq,Prod.mk.injEq] using h
theorem kPlus_ok:kPlus.Ok Tryz.prog SM EV:=con2_ok fun b m n res new h hm hn c d c' d' ρ W h1 h2 _=>by
 obtain ⟨rfl,rfl⟩:=mR_some h
 exact ans_m (mplus_calls m n 200 c d c' d' W h1 h2 (by omega) hm hn)
theorem kMinus_ok:kMinus.Ok Tryz.prog SM EV:=con2_ok fun b m n res new h hm hn c d c' d' ρ W h1 h2 _=>by
 obtain ⟨hg,h⟩:=guard_some h
 obtain ⟨rfl,rfl⟩:=mR_some h
 exact ans_m (mminus_calls m n 200 c d c' d' W h1 h2 (Nat.le_of_ble_eq_true hg) (by omega) hm)
theorem kTimes_ok:kTimes.Ok Tryz.prog SM EV:=con2_ok fun b m n res new h hm hn c d c' d' ρ W h1 h2 _=>by
 obtain ⟨rfl,rfl⟩:=mR_some h
 exact ans_m (mtimes_calls m n 200 c d c' d' W h1 h2 (by omega) hm hn)
theorem kOver_ok:kOver.Ok Tryz.prog SM EV:=con2_ok fun b m n res new h hm hn c d c' d' ρ W h1 h2 _=>by
 obtain ⟨hg,h⟩:=guard_some h
 obtain ⟨rfl,rfl⟩:=mR_some h
 exact ans_m (mover_calls m n 200 c d c' d' W h1 h2 (blt_iff.1 hg) (by omega) hm)
theorem kGcd_ok:kGcd.Ok Tryz.prog SM EV:=con2_ok fun b m n res new h hm hn c d c' d' ρ W h1 h2 hE=>by
 obtain ⟨rfl,rfl⟩:=mR_some h
 exact ans_m (mgcd_calls m n 200 c d c' d' W h1 h2 (by omega) hm hn hE.tz)
theorem cmpB (m n:Nat):(bif Nat.blt m n then (-1:Int) else bif Nat.beq m n then 0 else 1)=cmpN m n:=by
 unfold cmpN
 cases h:Nat.blt m n with
 | true=>rw [if_pos (blt_iff.1 h)];rfl
 | false =>
  have h1:¬ m<n:=fun h2=>by rw [blt_iff.2 h2] at h;cases h
  rw [if_neg h1,cond_false]
  cases h3:Nat.beq m n with
  | true=>rw [if_pos (Nat.eq_of_beq_eq_true h3)];rfl
  | false=>rw [if_neg (Nat.ne_of_beq_eq_false h3)];rfl
theorem kCmp_ok:kCmp.Ok Tryz.prog SM EV:=con2_ok fun b m n res new h hm hn c d c' d' ρ W h1 h2 _=>by
 obtain ⟨rfl,rfl⟩:=iR_some h
 exact ans_v (mcmp_calls m n 200 c d c' d' W h1 h2 (by omega) hm) fun _=>by rw [cmpB];rfl
theorem kDiv_ok:kDiv.Ok Tryz.prog SM EV:=con2_ok fun b m n res new h hm hn c d c' d' ρ W h1 h2 _=>by
 obtain ⟨hg,h⟩:=guard_some h
 simp only [Option.some.injEq,Prod.mk.injEq] at h
 obtain ⟨rfl,rfl⟩:=h
 exact ans_m2 (mdiv_calls m n 200 c d c' d' W h1 h2 (blt_iff.1 hg) (by omega) hm)
theorem beqB (m n:Nat):Nat.beq m n=(m == n):=by rw [Bool.eq_iff_iff];simp
theorem kZero_ok:kZero.Ok Tryz.prog SM EV:=con1_ok fun b m res new h hm c d ρ W h1 _=>by
 obtain ⟨rfl,rfl⟩:=bR_some h
 exact ans_v (isZero_calls c d m W h1) fun _=>by rw [beqB];rfl
theorem kOne_ok:kOne.Ok Tryz.prog SM EV:=con1_ok fun b m res new h hm c d ρ W h1 _=>by
 obtain ⟨rfl,rfl⟩:=bR_some h
 exact ans_v (isOne_calls c d m W h1) fun _=>by rw [beqB];rfl
theorem kOdd_ok:kOdd.Ok Tryz.prog SM EV:=con1_ok fun b m res new h hm c d ρ W h1 _=>by
 obtain ⟨rfl,rfl⟩:=bR_some h
 exact ans_v (isOdd_calls c d m 200 W h1 (by omega) hm) fun _=>by rw [beqB];rfl
theorem lenN_bits {n v:Nat} (h:IsBits n v):v=lenN n:=by
 unfold lenN
 cases h0:Nat.beq n 0 with
 | true=>exact h.1 (Nat.eq_of_beq_eq_true h0)
 | false =>
  have hn:=Nat.ne_of_beq_eq_false h0
  obtain ⟨h1,h2,h3⟩:=h.2 (Nat.pos_of_ne_zero hn)
  have h4:=(Nat.le_log2 hn).2 h2
  have h5:=(Nat.log2_lt hn).2 h3
  rw [cond_false]
  omega
theorem kBits_ok:kBits.Ok Tryz.prog SM EV:=con1_ok fun b m res new h hm c d ρ W h1 _=>by
 obtain ⟨rfl,rfl⟩:=iR_some h
 refine ans_v ((bits_calls c d m 200 W h1 (by omega) hm).mono fun e W' ⟨v,he,hv,hb⟩=>⟨?_,hb⟩) fun _=>rfl
 rw [he,lenN_bits hv]
 rfl
theorem kRoot_ok:kRoot.Ok Tryz.prog SM EV:=con1_ok fun b m res new h hm c d ρ W h1 _=>by
 generalize newton m 300 (2 ^ (Nat.log2 m / 2+1))=r at h
 obtain ⟨hg,h⟩:=guard_some h
 obtain ⟨rfl,rfl⟩:=mR_some h
 simp only [Bool.and_eq_true] at hg
 refine ans_m ((root_calls c d m 200 W h1 (by omega) hm).mono fun e W' ⟨s,h2,h3,h4⟩=>?_)
 rw [root_unique m r s (Nat.le_of_ble_eq_true hg.1) (blt_iff.1 hg.2) h2 h3]
 exact h4
theorem kText_ok:kText.Ok Tryz.prog SM EV:=con1_ok fun b m res new h hm c d ρ W h1 hE=>by
 obtain ⟨hg,h⟩:=guard_some h
 simp only [Option.some.injEq,Prod.mk.injEq] at h
 obtain ⟨rfl,rfl⟩:=h
 rw [decF_eq (blt_iff.1 hg)]
 exact ans_v (mtext_calls c d m 200 W h1 (by omega) hm hE.ten) fun _=>rfl
theorem kShift_ok:kShift.Ok Tryz.prog SM EV:=by
 refine Con.ok0 rfl ?_
 intro db b args res new ha ρ W hf _
 simp only [kShift] at ha
 split at ha
 ·rename_i x k
  split at ha
  ·rename_i m hx
   obtain ⟨hg,h⟩:=guard_some ha
   obtain ⟨rfl,rfl⟩:=mR_some h
   simp only [Bool.and_eq_true] at hg
   obtain ⟨c,d,h1,h2⟩:=asM_ok hx hf
   have h3:=blt_iff.1 hg.2
   have:=ans_m (ρ:=ρ) (b:=b) (mshift_calls m k 200 c d W h2 (by decide) (Nat.le_of_lt (Nat.lt_of_lt_of_le h3 (by decide))) (blt_iff.1 hg.1))
   show Calls Tryz.prog _ #[.agg (x.map (Cell.den ρ)).toArray,.int .i64 (k:Int)] W _
   rw [h1]
   exact this
  ·cases ha
 ·cases ha
theorem lit (l:ByteArray):(⟨l.data.toList.toArray⟩:ByteArray)=l:=by simp
theorem kCutP_ok:kCutP.Ok Tryz.prog SM EV:=by
 refine Con.ok0 rfl ?_
 intro db b args res new ha ρ W hf _
 simp only [kCutP] at ha
 split at ha
 ·rename_i l p
  split at ha
  ·rename_i hp
   simp only [Option.some.injEq,Prod.mk.injEq] at ha
   obtain ⟨rfl,rfl⟩:=ha
   have e:p=⟨#[45]⟩:=by rw [← lit p,hp]
   have:=ans_v (ρ:=ρ) (b:=b) (res:=.t [.s (.st ⟨(Lib.trimPrefix l.data.toList [45]).toArray⟩),.s (.bl (Lib.hasPrefix l.data.toList [45]))]) (cutp_calls l.data.toList W) fun _=>rfl
   rw [lit l] at this
   show Calls Tryz.prog _ #[.string l,.string p] W _
   rw [e]
   exact this
  ·cases ha
 ·cases ha
theorem kCut_ok:kCut.Ok Tryz.prog SM EV:=by
 refine Con.ok0 rfl ?_
 intro db b args res new ha ρ W hf hE
 simp only [kCut] at ha
 split at ha
 ·rename_i l p
  split at ha
  ·rename_i c hp
   obtain ⟨hg,h⟩:=guard_some ha
   simp only [Option.some.injEq,Prod.mk.injEq] at h
   obtain ⟨rfl,rfl⟩:=h
   have e:p=⟨#[c]⟩:=by rw [← lit p,hp]
   have:=ans_v (ρ:=ρ) (b:=b) (res:=.t [.s (.st ⟨(Lib.cut l.data.toList [c]).1.toArray⟩),.s (.st ⟨(Lib.cut l.data.toList [c]).2.1.toArray⟩),.s (.bl (Lib.cut l.data.toList [c]).2.2)]) (cut_calls l.data.toList c W (Nat.le_of_ble_eq_true hg) hE.max) fun _=>rfl
   rw [lit l] at this
   show Calls Tryz.prog _ #[.string l,.string p] W _
   rw [e]
   exact this
  ·cases ha
 ·cases ha
theorem kInteger_ok:kInteger.Ok Tryz.prog SM EV:=by
 refine Con.ok0 rfl ?_
 intro db b args res new ha ρ W hf _
 simp only [kInteger] at ha
 split at ha
 ·rename_i l
  obtain ⟨hg,h⟩:=guard_some ha
  obtain ⟨rfl,rfl⟩:=bR_some h
  have hl:=Nat.le_of_ble_eq_true hg
  have:=ans_v (ρ:=ρ) (b:=b) (res:=.e (.s (.bl (intB l.data.toList)))) ((isInteger_calls l.data.toList W (by omega)).mono fun e W' ⟨h1,h2⟩=>⟨h1,h2 ▸ Below.refl _ _⟩) fun _=>rfl
  rw [lit l] at this
  exact this
 ·cases ha
theorem kDigits_ok:kDigits.Ok Tryz.prog SM EV:=by
 refine Con.ok0 rfl ?_
 intro db b args res new ha ρ W hf _
 simp only [kDigits] at ha
 split at ha
 ·rename_i l
  obtain ⟨hg,h⟩:=guard_some ha
  obtain ⟨rfl,rfl⟩:=bR_some h
  have hl:=Nat.le_of_ble_eq_true hg
  have:=ans_v (ρ:=ρ) (b:=b) (res:=.e (.s (.bl (l.data.toList != [] && l.data.toList.all digB)))) ((isDigits_calls l.data.toList W (by omega)).mono fun e W' ⟨h1,h2⟩=>⟨h1,h2 ▸ Below.refl _ _⟩) fun _=>rfl
  rw [lit l] at this
  exact this
 ·cases ha
theorem kMagOf_ok:kMagOf.Ok Tryz.prog SM EV:=by
 refine Con.ok0 rfl ?_
 intro db b args res new ha ρ W hf _
 simp only [kMagOf] at ha
 split at ha
 ·rename_i l
  obtain ⟨hg,h⟩:=guard_some ha
  obtain ⟨rfl,rfl⟩:=mR_some h
  simp only [Bool.and_eq_true] at hg
  have:=ans_m (ρ:=ρ) (b:=b) (magOf_calls l.data.toList W hg.2 (Nat.le_of_ble_eq_true hg.1))
  rw [lit l] at this
  exact this
 ·cases ha
theorem kTen_ok:kTen.Ok Tryz.prog SM EV:=by
 refine Con.ok0 rfl ?_
 intro db b args res new ha ρ W hf _
 simp only [kTen] at ha
 split at ha
 ·rename_i n
  obtain ⟨hg,h⟩:=guard_some ha
  obtain ⟨rfl,rfl⟩:=mR_some h
  exact ans_m (ρ:=ρ) (b:=b) (pow10_calls n 200 W (blt_iff.1 hg) (by decide))
 ·cases ha
theorem near_num:(mkRat 22 7).num=22∧denOf (mkRat 22 7)=7∧(mkRat 355 113).num=355∧denOf (mkRat 355 113)=113:=by
 refine ⟨?_,?_,?_,?_⟩ <;> rfl
theorem kNear_ok:kNear.Ok Tryz.prog SM EV:=by
 refine Con.ok0 rfl ?_
 intro db b args res new ha ρ W hf hE
 simp only [kNear] at ha
 split at ha
 ·simp only [Option.some.injEq,Prod.mk.injEq] at ha
  obtain ⟨rfl,rfl⟩:=ha
  obtain ⟨n1,n2,n3,n4⟩:=near_num
  refine ans_v (v:=.tuple #[.agg #[.bool false,.int .u64 22,.slice none 0 0,.int .u64 7,.slice none 0 0],.int .i64 0]) ((near7 _ W ⟨.int .u64 355,.slice none 0 0,.int .u64 113,.slice none 0 0,?_,?_,?_⟩ hE).mono ?_) fun _=>rfl
  ·rw [n3];rfl
  ·rw [n3];exact .inl ⟨by decide,rfl,rfl⟩
  ·rw [n4];exact .inl ⟨by decide,rfl,rfl⟩
  ·rintro e W' ⟨v,rfl,⟨c,d,c',d',rfl,h1,h2⟩,hb⟩
   rw [n1] at h1
   rw [n2] at h2
   obtain ⟨rfl,rfl⟩:=isMag_word h1 (by decide)
   obtain ⟨rfl,rfl⟩:=isMag_word h2 (by decide)
   refine ⟨?_,hb⟩
   rw [n1]
   rfl
 ·cases ha
theorem km_ok:∀ c∈km,c.Ok Tryz.prog SM EV:=by
 unfold km
 intro c hc
 simp only [List.mem_cons,List.not_mem_nil,or_false] at hc
 rcases hc with rfl | rfl | rfl | rfl | rfl | rfl | rfl | rfl | rfl | rfl | rfl | rfl | rfl | rfl | rfl | rfl | rfl | rfl | rfl | rfl | rfl
 ·exact kPlus_ok
 ·exact kMinus_ok
 ·exact kTimes_ok
 ·exact kOver_ok
 ·exact kGcd_ok
 ·exact kCmp_ok
 ·exact kDiv_ok
 ·exact kZero_ok
 ·exact kOne_ok
 ·exact kOdd_ok
 ·exact kBits_ok
 ·exact kRoot_ok
 ·exact kText_ok
 ·exact kShift_ok
 ·exact kCutP_ok
 ·exact kCut_ok
 ·exact kInteger_ok
 ·exact kDigits_ok
 ·exact kMagOf_ok
 ·exact kTen_ok
 ·exact kNear_ok
end Rx.Ry
end Go.Proofs.YtmijlcldmefggaaGreatDoor
