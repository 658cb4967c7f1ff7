/- What the proof rests on, part 29: The root of a magnitude. Roots of numbers. Root. -/
import Derived.Test.YtnmlkobogofadaaGreatDoorP26
import Derived.Test.YtnmlkobogofadaaGreatDoorP07
import Derived.Test.YtnmlkobogofadaaGreatDoorP06
import Derived.Test.YtnmlkobogofadaaGreatDoorP08
import Derived.Test.YtnmlkobogofadaaGreatDoorP22
namespace Go.Proofs.YtnmlkobogofadaaGreatDoor
set_option maxRecDepth 100000
set_option maxHeartbeats 80000000
open Go.RowKit Go.Sort
attribute [local go_sem] takes takesUpon_value takesUpon_skip takesUpon_enter
def RetRt (w:World) (n:Nat) (e:Ending) (w':World):Prop:=∃ s,s*s≤n∧n<(s+1)*(s+1)∧RetM w s e w'
theorem root_zero (x1:Int) (p1:Option Addr) (l1 q1:Nat) (w:World) (i1:IsMag w (.int .u64 x1) (.slice p1 l1 q1) 0) :
  Calls Tryz.prog 192 #[.agg #[.int .u64 x1,.slice p1 l1 q1]] w (RetRt w 0):=by
 have HZ:=hid (fun (W:World) (h:IsMag W (.int .u64 x1) (.slice p1 l1 q1) 0)=>isZero_calls _ _ 0 W h)
 have HI:=hid i1
 clear i1
 go_enter Tryz.func192,Tryz.ntmps192
 go_wp2_with fail
 have hS0:=hid (((St.start w).alloc' (w.heap.size) (by simp) 27 [.int .u64 x1,.slice p1 l1 q1]).alloc' (w.heap.size+1) (by simp) 27 [.int .u64 0,.slice none 0 0])
 obtain ⟨W0,hW0⟩:=nameW hS0
 rw [hW0] at hS0 ⊢
 clear hW0
 have hi1:=HI.out.below hS0.out.bel
 have hS1:=hid (hS0.out.fact (.m (.int .u64 x1) (.slice p1 l1 q1) (0)) hi1)
 clear hS0 hi1
 refine (HZ.out _ (hS1.out.get (f:=.m (.int .u64 x1) (.slice p1 l1 q1) (0)) 0 rfl)).mono ?_
 rintro e w1 ⟨rfl,hB⟩
 have hS2:=hid (hS1.out.call hB)
 clear hB
 clear hS1
 obtain ⟨⟨cA0,cA1⟩,fA0,fA1⟩:=hS2.out.f2 1 w.heap.size 27 (.int .u64 x1) (.slice p1 l1 q1) rfl
 obtain ⟨⟨cR0,cR1⟩,fR0,fR1⟩:=hS2.out.f2 0 (w.heap.size+1) 27 (.int .u64 0) (.slice none 0 0) rfl
 have hS3:=hid ((((hS2.out).store (b:=⟨w.heap.size+1,27,[.int .u64 0,.slice none 0 0]⟩) 0 0 (.int .u64 x1) rfl rfl).store (b:=⟨w.heap.size+1,27,[.int .u64 x1,.slice none 0 0]⟩) 0 1 (.slice p1 l1 q1) rfl rfl).as [⟨w.heap.size+1,27,[.int .u64 x1,.slice p1 l1 q1]⟩,⟨w.heap.size,27,[.int .u64 x1,.slice p1 l1 q1]⟩] rfl)
 go_wp2_with fail
 clear cA0 cA1 fA0 fA1 cR0 cR1 fR0 fR1
 obtain ⟨⟨zR0,zR1⟩,-⟩:=hS3.out.f2 0 (w.heap.size+1) 27 (.int .u64 x1) (.slice p1 l1 q1) rfl
 exact bodyPost_ret (v:=.agg #[.int .u64 x1,.slice p1 l1 q1]) (by simp [results,Tryz.results192,go_sem,zR0,zR1]) rfl ⟨0,by decide,by decide,_,_,rfl,(hS3.out.get (f:=.m (.int .u64 x1) (.slice p1 l1 q1) (0)) 0 rfl),hS3.out.bel⟩
theorem root_pos (n k:Nat) (x1:Int) (p1:Option Addr) (l1 q1:Nat) (w:World) (i1:IsMag w (.int .u64 x1) (.slice p1 l1 q1) n) (hk:k≤8589934592) (hn:n<B64 ^ k) (h0:0<n) :
  Calls Tryz.prog 192 #[.agg #[.int .u64 x1,.slice p1 l1 q1]] w (RetRt w n):=by
 have hz:(n == 0)=false:=by simp;omega
 have HZ:=hid (fun (W:World) (h:IsMag W (.int .u64 x1) (.slice p1 l1 q1) n)=>hz ▸ isZero_calls _ _ n W h)
 have HB:=hid (fun (W:World) (h:IsMag W (.int .u64 x1) (.slice p1 l1 q1) n)=>bits_calls _ _ n k W h (by omega) hn)
 have HO:=hid (fun (b:Nat) (c d:Value) (W:World) (h:IsMag W (.int .u64 x1) (.slice p1 l1 q1) n) (j:IsMag W c d b) (hb:0<b)=>mover_calls n b k _ _ c d W h j hb (by omega) hn)
 have HN:=hid (And.intro hn h0)
 have HI:=hid i1
 clear i1 hz h0 hn
 go_enter Tryz.func192,Tryz.ntmps192
 go_wp2_with fail
 have hS0:=hid (((St.start w).alloc' (w.heap.size) (by simp) 27 [.int .u64 x1,.slice p1 l1 q1]).alloc' (w.heap.size+1) (by simp) 27 [.int .u64 0,.slice none 0 0])
 obtain ⟨W0,hW0⟩:=nameW hS0
 rw [hW0] at hS0 ⊢
 clear hW0
 have hi1:=HI.out.below hS0.out.bel
 have hS1:=hid (hS0.out.fact (.m (.int .u64 x1) (.slice p1 l1 q1) (n)) hi1)
 clear hS0 hi1
 refine (HZ.out _ (hS1.out.get (f:=.m (.int .u64 x1) (.slice p1 l1 q1) (n)) 0 rfl)).mono ?_
 rintro e w1 ⟨rfl,hB⟩
 have hS2:=hid (hS1.out.call hB)
 clear hB
 clear hS1
 obtain ⟨ne1l,ne1,ne1'⟩:=hS2.out.ne 1 w.heap.size 27 [.int .u64 x1,.slice p1 l1 q1] rfl
 obtain ⟨ne2l,ne2,ne2'⟩:=hS2.out.ne 0 (w.heap.size+1) 27 [.int .u64 0,.slice none 0 0] rfl
 obtain ⟨⟨cA0,cA1⟩,fA0,fA1⟩:=hS2.out.f2 1 w.heap.size 27 (.int .u64 x1) (.slice p1 l1 q1) rfl
 go_wp2_with fail
 clear cA0 cA1 fA0 fA1
 have hS3:=hid ((hS2.out).alloc' (w1.heap.size) (by simp) 27 [.int .u64 2,.slice none 0 0])
 obtain ⟨W1,hW1⟩:=nameW hS3
 rw [hW1] at hS3 ⊢
 clear hW1
 refine (HB.out _ (hS3.out.get (f:=.m (.int .u64 x1) (.slice p1 l1 q1) (n)) 0 rfl)).mono ?_
 rintro e w2 ⟨v,rfl,hv,hB⟩
 have hS4:=hid (hS3.out.call hB)
 clear hB
 clear hS3
 have hv1:=hv.2 HN.out.2
 have hvb:v≤64*k:=by
  have h1:2 ^ (v - 1)<2 ^ (64*k):=Nat.lt_of_le_of_lt hv1.2.1 (by have:=HN.out.1;rwa [show B64=2 ^ 64 from by decide,← Nat.pow_mul] at this)
  have:=(Nat.pow_lt_pow_iff_right (by decide:1<2)).1 h1
  omega
 have HV:=hid (And.intro hv1 hvb)
 have hvs:v≤549755813888:=by omega
 clear hv hv1 hvb
 go_wp2_with fail
 rw [show ((v:Int)+1) / 2=(((v+1) / 2:Nat):Int) from by omega]
 refine (mshift_calls 1 ((v+1) / 2) 1 _ _ _ (isMag_lit _ 1 (by decide)) (by omega) (by omega) (by decide)).mono ?_
 rintro e w3 ⟨c2,d2,rfl,hm2,hB⟩
 have hS5:=hid (hS4.out.call hB)
 clear hB
 clear hS4
 obtain ⟨x2,p2,l2,q2,rfl,rfl⟩:=hm2.shape
 rw [Nat.one_mul] at hm2
 obtain ⟨X0,hX0⟩:∃ X0,2 ^ ((v+1) / 2)=X0:=⟨_,rfl⟩
 rw [hX0] at hm2
 have HX:=hid (show 1≤X0∧X0<B64 ^ (k+1)∧n<(X0+1)*(X0+1) by
  have h1:=HV.out.1.2.2
  have h2:2 ^ v≤X0*X0:=by rw [← hX0,← Nat.pow_add];exact Nat.pow_le_pow_right (by decide) (by omega)
  have h3:1≤X0:=by rw [← hX0];exact Nat.one_le_two_pow
  refine ⟨h3,?_,?_⟩
  ·rw [← hX0,show B64=2 ^ 64 from by decide,← Nat.pow_mul];exact Nat.pow_lt_pow_right (by decide) (by have:=HV.out.2;omega)
  ·have h4:(X0+1)*(X0+1)=X0*X0+X0+X0+1:=by grind
   omega)
 clear hX0 HV hvs
 have hS6:=hid (hS5.out.fact (.m (.int .u64 x2) (.slice p2 l2 q2) (X0)) hm2)
 clear hS5 hm2
 obtain ⟨ne3l,ne3,ne3'⟩:=hS6.out.ne 2 w.heap.size 27 [.int .u64 x1,.slice p1 l1 q1] rfl
 obtain ⟨ne4l,ne4,ne4'⟩:=hS6.out.ne 1 (w.heap.size+1) 27 [.int .u64 0,.slice none 0 0] rfl
 obtain ⟨ne5l,ne5,ne5'⟩:=hS6.out.ne 0 w1.heap.size 27 [.int .u64 2,.slice none 0 0] rfl
 obtain ⟨⟨cA0,cA1⟩,fA0,fA1⟩:=hS6.out.f2 2 w.heap.size 27 (.int .u64 x1) (.slice p1 l1 q1) rfl
 obtain ⟨⟨ctwo0,ctwo1⟩,ftwo0,ftwo1⟩:=hS6.out.f2 0 w1.heap.size 27 (.int .u64 2) (.slice none 0 0) rfl
 go_wp2_with fail
 clear cA0 cA1 fA0 fA1 ctwo0 ctwo1 ftwo0 ftwo1
 have hL:=hid ((hS6.out).alloc' (w3.heap.size) (by simp) 27 [.int .u64 x2,.slice p2 l2 q2])
 go_loopg [5] X0 (fun X _ wr=>∃ (x3:Int) (p3:Option Addr) (l3 q3:Nat),1≤X∧X<B64 ^ (k+1)∧n<(X+1)*(X+1)∧St w [⟨w3.heap.size,27,[.int .u64 x3,.slice p3 l3 q3]⟩,⟨w1.heap.size,27,[.int .u64 2,.slice none 0 0]⟩,⟨w.heap.size+1,27,[.int .u64 0,.slice none 0 0]⟩,⟨w.heap.size,27,[.int .u64 x1,.slice p1 l1 q1]⟩] [.m (.int .u64 x3) (.slice p3 l3 q3) (X),.m (.int .u64 x1) (.slice p1 l1 q1) (n)] wr)
 case atStart=>exact ⟨x2,p2,l2,q2,HX.out.1,HX.out.2.1,HX.out.2.2,⟨hL.out.bel,hL.out.box,(hL.out.get (f:=.m (.int .u64 x2) (.slice p2 l2 q2) (X0)) 0 rfl),(hL.out.get (f:=.m (.int .u64 x1) (.slice p1 l1 q1) (n)) 1 rfl),trivial⟩⟩
 case round =>
  clear hL
  obtain ⟨x3,p3,l3,q3,h1,h2,h3,hSt⟩:=hrel
  have HS:=hid hSt
  have HX3:=hid (And.intro h1 (And.intro h2 h3))
  have hy1:n / gk<B64 ^ (k+1):=Nat.lt_of_le_of_lt (Nat.div_le_self _ _) (Nat.lt_of_lt_of_le HN.out.1 (Nat.pow_le_pow_right (by decide) (by omega)))
  have hy2:n / gk+gk<B64 ^ (k+2):=by
   rw [Nat.pow_succ B64 (k+1)]
   have:B64 ^ (k+1)*2≤B64 ^ (k+1)*B64:=Nat.mul_le_mul_left _ (by decide)
   omega
  have HY:=hid (And.intro h1 (And.intro h2 (And.intro hy1 hy2)))
  obtain ⟨Y,hY⟩:∃ Y,(n / gk+gk) / 2=Y:=⟨_,rfl⟩
  have HYe:=hid hY
  have HQ:=hid (fun (c d:Value) (W:World) (j:IsMag W c d (n / gk+gk))=>hY ▸ mover_calls (n / gk+gk) 2 (k+2) c d (.int .u64 2) (.slice none 0 0) W j (isMag_lit _ 2 (by decide)) (by decide) (by omega) hy2)
  clear hSt h1 h2 h3 hy1 hy2 hY HX
  go_wp2_with fail
  have LM0:=hid (fun (W:World) (h:Below wr.heap.size wr W)=>((HS.out.call h).f2 3 w.heap.size 27 (.int .u64 x1) (.slice p1 l1 q1) rfl).1)
  have LM1:=hid (fun (W:World) (h:Below wr.heap.size wr W)=>((HS.out.call h).f2 0 w3.heap.size 27 (.int .u64 x3) (.slice p3 l3 q3) rfl).1)
  have LM2:=hid (fun (W:World) (h:Below wr.heap.size wr W)=>((HS.out.call h).f2 1 w1.heap.size 27 (.int .u64 2) (.slice none 0 0) rfl).1)
  refine wp_region_inv 8 [⟨[],[0]⟩,⟨[],[1]⟩,⟨[0,1],[2]⟩,⟨[],[3]⟩,⟨[2,3],[4]⟩,⟨[],[5]⟩,⟨[4,5],[6]⟩,⟨[],[7]⟩]
   [oE (.agg #[.int .u64 x1,.slice p1 l1 q1]),oE (.agg #[.int .u64 x3,.slice p3 l3 q3]),one (MagV (n / gk)),oE (.agg #[.int .u64 x3,.slice p3 l3 q3]),one (MagV (n / gk+gk)),oE (.agg #[.int .u64 2,.slice none 0 0]),one (MagV (Y)),one (NewV wr.heap.size 27 [.int .u64 0,.slice none 0 0])]
   (fun _ W=>Below wr.heap.size wr W) (by kernel_rfl) (by kernel_rfl) ?hTWr ?hZWr ?hOWr ?hEWr
  case hZWr=>exact (Below.refl _ _).drew
  case hTWr =>
   simp only [List.forall_mem_cons,List.not_mem_nil,false_imp_iff,implies_true,and_true]
   exact ⟨bE,bE,one_below magV_below,bE,one_below magV_below,bE,one_below magV_below,one_below newV_below⟩
  case hOWr =>
   intro u
   simp only [List.take_succ_cons,List.take_zero,putAll]
   repeat' (first | with_reducible exact debts_nil | with_reducible refine debts_cons ?_ ?_)
   ·intro W hS hF K hK
    have hcA:=LM0.out W hS
    go_simp
    exact hK _ _ (.refl _ _) hS rfl
   ·intro W hS hF K hK
    have hcx:=LM1.out W hS
    go_simp
    exact hK _ _ (.refl _ _) hS rfl
   ·intro W hS hF K hK
    have h0:u 0=.agg #[.int .u64 x1,.slice p1 l1 q1]:=hF.1
    have h1:u 1=.agg #[.int .u64 x3,.slice p3 l3 q3]:=hF.2.1
    have sH:=hid (HS.out.call hS)
    clear hF
    go_simp
    refine (HO.out gk _ _ _ (sH.out.get (f:=.m (.int .u64 x1) (.slice p1 l1 q1) (n)) 1 rfl) (sH.out.get (f:=.m (.int .u64 x3) (.slice p3 l3 q3) (gk)) 0 rfl) HY.out.1).mono ?_
    rintro e wA ⟨c,d,rfl,hm,hBA⟩
    obtain ⟨xx,pp,ll,qq,rfl,rfl⟩:=hm.shape
    exact ⟨_,rfl,hK _ _ hBA (hS.trans (hBA.mono hS.size)) ⟨_,_,_,_,rfl,hm⟩⟩
   ·intro W hS hF K hK
    have hcx:=LM1.out W hS
    go_simp
    exact hK _ _ (.refl _ _) hS rfl
   ·intro W hS hF K hK
    obtain ⟨x2,p2,l2,q2,h2,m2⟩:MagV (n / gk) (u 2) W:=hF.1
    have h3:u 3=.agg #[.int .u64 x3,.slice p3 l3 q3]:=hF.2.1
    have sH:=hid (HS.out.call hS)
    clear hF
    go_simp
    refine (mplus_calls (n / gk) gk (k+1) _ _ _ _ _ m2 (sH.out.get (f:=.m (.int .u64 x3) (.slice p3 l3 q3) (gk)) 0 rfl) (by omega) HY.out.2.2.1 HY.out.2.1).mono ?_
    rintro e wA ⟨c,d,rfl,hm,hBA⟩
    obtain ⟨xx,pp,ll,qq,rfl,rfl⟩:=hm.shape
    exact ⟨_,rfl,hK _ _ hBA (hS.trans (hBA.mono hS.size)) ⟨_,_,_,_,rfl,hm⟩⟩
   ·intro W hS hF K hK
    have hctwo:=LM2.out W hS
    go_simp
    exact hK _ _ (.refl _ _) hS rfl
   ·intro W hS hF K hK
    obtain ⟨x4,p4,l4,q4,h4,m4⟩:MagV (n / gk+gk) (u 4) W:=hF.1
    have h5:u 5=.agg #[.int .u64 2,.slice none 0 0]:=hF.2.1
    clear hF
    go_simp
    refine (HQ.out _ _ _ m4).mono ?_
    rintro e wA ⟨c,d,rfl,hm,hBA⟩
    obtain ⟨xx,pp,ll,qq,rfl,rfl⟩:=hm.shape
    exact ⟨_,rfl,hK _ _ hBA (hS.trans (hBA.mono hS.size)) ⟨_,_,_,_,rfl,hm⟩⟩
   ·intro W hS hF K hK
    go_simp
    refine hK _ _ ((Below.refl _ _).alloc (Nat.le_refl _) _) (hS.alloc hS.size _) ?_
    exact (show (NewV wr.heap.size 27 [.int .u64 0,.slice none 0 0]) _ _ from ⟨_,rfl,hS.size,by simp,Bx.new W 27 [.int .u64 0,.slice none 0 0]⟩)
  case hEWr =>
   intro u Wr hS hF
   have hS7:=hid (HS.out.call hS)
   obtain ⟨L7,e7,hl7,hm7,hb7⟩:NewV wr.heap.size 27 [.int .u64 0,.slice none 0 0] (u 7) Wr:=hF.2.2.2.2.2.2.2.1
   have hS8:=hid (hS7.out.add (Nat.le_trans HS.out.bel.size hl7) hb7 (HS.out.old hl7))
   clear hb7
   have hv0:MagV Y (u 6) Wr:=hF.2.2.2.2.2.2.1
   clear hF hS
   obtain ⟨x6,p6,l6,q6,e6,m6⟩:=hv0
   have n7x:¬ L7=w3.heap.size:=by have:=(HS.out.bx (b:=⟨w3.heap.size,27,[.int .u64 x3,.slice p3 l3 q3]⟩) 0 rfl).lt;simp only at this;omega
   have n7x':¬ w3.heap.size=L7:=fun h=>n7x h.symm
   have n7two:¬ L7=w1.heap.size:=by have:=(HS.out.bx (b:=⟨w1.heap.size,27,[.int .u64 2,.slice none 0 0]⟩) 1 rfl).lt;simp only at this;omega
   have n7two':¬ w1.heap.size=L7:=fun h=>n7two h.symm
   have n7R:¬ L7=w.heap.size+1:=by have:=(HS.out.bx (b:=⟨w.heap.size+1,27,[.int .u64 0,.slice none 0 0]⟩) 2 rfl).lt;simp only at this;omega
   have n7R':¬ w.heap.size+1=L7:=fun h=>n7R h.symm
   have n7A:¬ L7=w.heap.size:=by have:=(HS.out.bx (b:=⟨w.heap.size,27,[.int .u64 x1,.slice p1 l1 q1]⟩) 3 rfl).lt;simp only at this;omega
   have n7A':¬ w.heap.size=L7:=fun h=>n7A h.symm
   have hS9:=hid (hS8.out.fact (.m (.int .u64 x6) (.slice p6 l6 q6) (Y)) m6)
   clear hS8 m6
   obtain ⟨⟨cx0,cx1⟩,fx0,fx1⟩:=hS9.out.f2 1 w3.heap.size 27 (.int .u64 x3) (.slice p3 l3 q3) rfl
   obtain ⟨⟨cyy0,cyy1⟩,fyy0,fyy1⟩:=hS9.out.f2 0 L7 27 (.int .u64 0) (.slice none 0 0) rfl
   simp only [List.take_succ_cons,List.take_zero,putAll,List.drop_succ_cons,List.drop_zero]
   go_wp2_with fail
   clear cx0 cx1 fx0 fx1 cyy0 cyy1 fyy0 fyy1
   have hS10:=hid ((((hS9.out).store (b:=⟨L7,27,[.int .u64 0,.slice none 0 0]⟩) 0 0 (.int .u64 x6) rfl rfl).store (b:=⟨L7,27,[.int .u64 x6,.slice none 0 0]⟩) 0 1 (.slice p6 l6 q6) rfl rfl).as [⟨L7,27,[.int .u64 x6,.slice p6 l6 q6]⟩,⟨w3.heap.size,27,[.int .u64 x3,.slice p3 l3 q3]⟩,⟨w1.heap.size,27,[.int .u64 2,.slice none 0 0]⟩,⟨w.heap.size+1,27,[.int .u64 0,.slice none 0 0]⟩,⟨w.heap.size,27,[.int .u64 x1,.slice p1 l1 q1]⟩] rfl)
   obtain ⟨Wy,hWy⟩:=nameW hS10
   rw [hWy] at hS10 ⊢
   clear hWy
   refine (mcmp_calls Y gk (k+2) _ _ _ _ _ (hS10.out.get (f:=.m (.int .u64 x6) (.slice p6 l6 q6) (Y)) 0 rfl) (hS10.out.get (f:=.m (.int .u64 x3) (.slice p3 l3 q3) (gk)) 1 rfl) (by omega) (HYe.out ▸ Nat.lt_of_le_of_lt (Nat.div_le_self _ _) HY.out.2.2.2)).mono ?_
   rintro e w8 ⟨rfl,hB⟩
   have hS11:=hid (hS10.out.call hB)
   clear hB
   clear hS10
   obtain ⟨C,hC⟩:∃ C,cmpN Y gk=C:=⟨_,rfl⟩
   rw [hC]
   have HC:=hid hC
   by_cases hge:gk≤Y
   ·have hc0:0≤C:=by
     rw [← hC]
     rcases Nat.lt_or_eq_of_le hge with h | h
     ·rw [cmpN_gt h];decide
     ·rw [h,cmpN_eq];decide
    clear hC
    obtain ⟨⟨cx0,cx1⟩,fx0,fx1⟩:=hS11.out.f2 1 w3.heap.size 27 (.int .u64 x3) (.slice p3 l3 q3) rfl
    obtain ⟨⟨cR0,cR1⟩,fR0,fR1⟩:=hS11.out.f2 3 (w.heap.size+1) 27 (.int .u64 0) (.slice none 0 0) rfl
    have hS12:=hid ((((hS11.out).store (b:=⟨w.heap.size+1,27,[.int .u64 0,.slice none 0 0]⟩) 3 0 (.int .u64 x3) rfl rfl).store (b:=⟨w.heap.size+1,27,[.int .u64 x3,.slice none 0 0]⟩) 3 1 (.slice p3 l3 q3) rfl rfl).as [⟨L7,27,[.int .u64 x6,.slice p6 l6 q6]⟩,⟨w3.heap.size,27,[.int .u64 x3,.slice p3 l3 q3]⟩,⟨w1.heap.size,27,[.int .u64 2,.slice none 0 0]⟩,⟨w.heap.size+1,27,[.int .u64 x3,.slice p3 l3 q3]⟩,⟨w.heap.size,27,[.int .u64 x1,.slice p1 l1 q1]⟩] rfl)
    go_wp2_with fail
    clear cx0 cx1 fx0 fx1 cR0 cR1 fR0 fR1
    obtain ⟨⟨zR0,zR1⟩,-⟩:=hS12.out.f2 3 (w.heap.size+1) 27 (.int .u64 x3) (.slice p3 l3 q3) rfl
    exact bodyPost_ret (v:=.agg #[.int .u64 x3,.slice p3 l3 q3]) (by simp [results,Tryz.results192,go_sem,zR0,zR1]) rfl ⟨gk,newton_stop n gk HX3.out.1 (by rw [HYe.out];exact hge),HX3.out.2.2,_,_,rfl,(hS12.out.get (f:=.m (.int .u64 x3) (.slice p3 l3 q3) (gk)) 1 rfl),hS12.out.bel⟩
   ·have hlt:Y<gk:=by omega
    have hc0:¬ 0≤C:=by rw [← hC,cmpN_lt hlt];decide
    clear hC hge
    obtain ⟨⟨cx0,cx1⟩,fx0,fx1⟩:=hS11.out.f2 1 w3.heap.size 27 (.int .u64 x3) (.slice p3 l3 q3) rfl
    obtain ⟨⟨cyy0,cyy1⟩,fyy0,fyy1⟩:=hS11.out.f2 0 L7 27 (.int .u64 x6) (.slice p6 l6 q6) rfl
    go_wp2_with fail
    clear cx0 cx1 fx0 fx1 cyy0 cyy1 fyy0 fyy1
    have hJ:=hid ((((hS11.out).store (b:=⟨w3.heap.size,27,[.int .u64 x3,.slice p3 l3 q3]⟩) 1 0 (.int .u64 x6) rfl rfl).store (b:=⟨w3.heap.size,27,[.int .u64 x6,.slice p3 l3 q3]⟩) 1 1 (.slice p6 l6 q6) rfl rfl).as [⟨L7,27,[.int .u64 x6,.slice p6 l6 q6]⟩,⟨w3.heap.size,27,[.int .u64 x6,.slice p6 l6 q6]⟩,⟨w1.heap.size,27,[.int .u64 2,.slice none 0 0]⟩,⟨w.heap.size+1,27,[.int .u64 0,.slice none 0 0]⟩,⟨w.heap.size,27,[.int .u64 x1,.slice p1 l1 q1]⟩] rfl)
    go_roundg Y
    case rel =>
     have g1:=newton_pos n gk HN.out.2 HX3.out.1 (by rw [HYe.out];exact hlt)
     have g2:=newton_ge n gk HX3.out.1
     rw [HYe.out] at g1 g2
     exact ⟨x6,p6,l6,q6,g1,Nat.lt_trans hlt HX3.out.2.1,g2,⟨hJ.out.bel,hJ.out.box.2,(hJ.out.get (f:=.m (.int .u64 x6) (.slice p6 l6 q6) (Y)) 0 rfl),(hJ.out.get (f:=.m (.int .u64 x1) (.slice p1 l1 q1) (n)) 2 rfl),trivial⟩⟩
    case measure=>exact hlt
theorem root_calls (c d:Value) (n k:Nat) (w:World) (h:IsMag w c d n) (hk:k≤8589934592) (hn:n<B64 ^ k):Calls Tryz.prog 192 #[.agg #[c,d]] w (RetRt w n):=by
 obtain ⟨x,p,l,q,rfl,rfl⟩:=h.shape
 rcases Nat.eq_zero_or_pos n with h0 | h0
 ·subst h0
  exact root_zero x p l q w h
 ·exact root_pos n k x p l q w h hk hn h0
end Go.Proofs.YtnmlkobogofadaaGreatDoor
namespace Go.Proofs.YtnmlkobogofadaaGreatDoor
set_option maxRecDepth 100000
set_option maxHeartbeats 80000000
open Go.RowKit Go.Sort
attribute [local go_sem] takes takesUpon_value takesUpon_skip takesUpon_enter
theorem pow2_calls (k:Nat) (hk:k≤8796093022208) (w:World):Calls Tryz.prog 147 #[.int .i64 (k:Int)] w (RetQ w (((2 ^ k:Nat):Int):Rat)):=by
 have HM:=hid (fun (W:World)=>mshift_calls 1 k 1 _ _ W (isMag_lit _ 1 (by decide)) (by omega) hk (by decide))
 obtain ⟨X,hX⟩:∃ X,2 ^ k=X:=⟨_,rfl⟩
 rw [Nat.one_mul,hX] at HM
 rw [hX]
 clear hX
 go_enter Tryz.func147,Tryz.ntmps147
 go_wp2_with fail
 have hS0:=hid ((St.start w).alloc' (w.heap.size) (by simp) 31 z5)
 obtain ⟨W0,hW0⟩:=nameW hS0
 rw [hW0] at hS0 ⊢
 clear hW0
 refine (HM.out _).mono ?_
 rintro e w1 ⟨c1,d1,rfl,hm1,hB⟩
 have hS1:=hid (hS0.out.call hB)
 clear hB
 clear hS0
 obtain ⟨x1,p1,l1,q1,rfl,rfl⟩:=hm1.shape
 have hS2:=hid (hS1.out.fact (.m (.int .u64 x1) (.slice p1 l1 q1) (X)) hm1)
 clear hS1 hm1
 go_wp2_with fail
 refine (whole_calls _ _ _ _ _ _).mono ?_
 rintro e w2 ⟨rfl,hB⟩
 have hS3:=hid (hS2.out.call hB)
 clear hB
 clear hS2
 obtain ⟨⟨cR0,cR1,cR2,cR3,cR4⟩,fR0,fR1,fR2,fR3,fR4⟩:=hS3.out.f5 0 w.heap.size 31 (.bool false) (.int .u64 0) (.slice none 0 0) (.int .u64 0) (.slice none 0 0) rfl
 have hS4:=hid (((((((hS3.out).store (b:=⟨w.heap.size,31,z5⟩) 0 0 (.bool false) rfl rfl).store (b:=⟨w.heap.size,31,z5⟩) 0 1 (.int .u64 x1) rfl rfl).store (b:=⟨w.heap.size,31,[.bool false,.int .u64 x1,.slice none 0 0,.int .u64 0,.slice none 0 0]⟩) 0 2 (.slice p1 l1 q1) rfl rfl).store (b:=⟨w.heap.size,31,[.bool false,.int .u64 x1,.slice p1 l1 q1,.int .u64 0,.slice none 0 0]⟩) 0 3 (.int .u64 0) rfl rfl).store (b:=⟨w.heap.size,31,[.bool false,.int .u64 x1,.slice p1 l1 q1,.int .u64 0,.slice none 0 0]⟩) 0 4 (.slice none 0 0) rfl rfl).as [⟨w.heap.size,31,[.bool false,.int .u64 x1,.slice p1 l1 q1,.int .u64 0,.slice none 0 0]⟩] rfl)
 go_wp2_with fail
 clear cR0 cR1 cR2 cR3 cR4 fR0 fR1 fR2 fR3 fR4
 obtain ⟨⟨zR0,zR1,zR2,zR3,zR4⟩,-⟩:=hS4.out.f5 0 w.heap.size 31 (.bool false) (.int .u64 x1) (.slice p1 l1 q1) (.int .u64 0) (.slice none 0 0) rfl
 have hq:=isQ_int ((X:Nat):Int) (w:=(((((w2.setCell ⟨w.heap.size,0,none⟩ (.bool false)).setCell ⟨w.heap.size,1,none⟩ (.int .u64 x1)).setCell ⟨w.heap.size,2,none⟩ (.slice p1 l1 q1)).setCell ⟨w.heap.size,3,none⟩ (.int .u64 0)).setCell ⟨w.heap.size,4,none⟩ (.slice none 0 0))) (c:=.int .u64 x1) (d:=.slice p1 l1 q1) (by rw [Int.natAbs_natCast];exact (hS4.out.get (f:=.m (.int .u64 x1) (.slice p1 l1 q1) (X)) 0 rfl))
 rw [show decide (((X:Nat):Int)<0)=false from decide_eq_false (by omega)] at hq
 exact bodyPost_ret (v:=.agg #[.bool false,.int .u64 x1,.slice p1 l1 q1,.int .u64 0,.slice none 0 0]) (by simp [results,Tryz.results147,go_sem,zR0,zR1,zR2,zR3,zR4]) rfl ⟨_,rfl,hq,hS4.out.bel⟩
theorem isGrade_calls (k:Nat) (hk:k≤64) (w:World):Calls Tryz.prog 146 #[.int .i64 (k:Int)] w (RetI w (.bool true)):=by
 go_enter Tryz.func146,Tryz.ntmps146
 go_wp2
 go_ret
 have h:(k:Int)≤64:=by omega
 refine ⟨?_,Below.refl _ _⟩
 show Ending.returned (.bool (decide ((k:Int)≤64)))=_
 rw [decide_eq_true h]
theorem fieldQ0_run (t:Bool) (x:Int) (p:Option Addr) (l q:Nat) (y:Int) (r:Option Addr) (s u:Nat) (W:World):(Instr.field 31 (.agg #[.bool t,.int .u64 x,.slice p l q,.int .u64 y,.slice r s u]) 0).run Tryz.prog W=.ok (.agg #[.bool t,.int .u64 x,.slice p l q]) W:=by
 kernel_rfl
theorem fieldS1_run (t:Bool) (x:Int) (p:Option Addr) (l q:Nat) (W:World):(Instr.field 29 (.agg #[.bool t,.int .u64 x,.slice p l q]) 1).run Tryz.prog W=.ok (.agg #[.int .u64 x,.slice p l q]) W:=by
 kernel_rfl
theorem froot_calls (r:Rat) (F:Nat) (hF:r.num / (r.den:Int)=(F:Int)) (v:Value) (k:Nat) (w:World) (h:IsQ w v r) (hk:k≤8589934592) (f:Fits k r):Calls Tryz.prog 148 #[v] w (fun e w'=>∃ s:Nat,s*s≤F∧F<(s+1)*(s+1)∧RetQ w (((s:Nat):Int):Rat) e w'):=by
 have HL:=hid (fun (W:World) (v:Value) (h:IsQ W v r)=>Floor_calls r v k W h (by omega) f)
 rw [hF] at HL
 have hFk:F<B64 ^ k:=by
  have h1:=f.1
  have h2:(F:Int)≤(r.num.natAbs:Int):=by
   rw [← hF]
   refine Int.le_trans (Int.ediv_le_ediv (by have:=r.den_pos;omega) (Int.le_natAbs)) ?_
   exact Int.ediv_le_self _ (by omega)
  omega
 have HR:=hid (fun (W:World) (c d:Value) (h:IsMag W c d F)=>root_calls c d F k W h hk hFk)
 obtain ⟨t1,x1,p1,l1,q1,y1,r1,s1,u1,rfl⟩:=h.open
 have HI:=hid h
 have hq0:=fieldQ0_run
 have hs1:=fieldS1_run
 clear h hF hFk f
 go_enter Tryz.func148,Tryz.ntmps148
 go_wp2_with fail
 have hS0:=hid (((St.start w).alloc' (w.heap.size) (by simp) 31 (c5 t1 x1 p1 l1 q1 y1 r1 s1 u1)).alloc' (w.heap.size+1) (by simp) 31 z5)
 obtain ⟨W0,hW0⟩:=nameW hS0
 rw [hW0] at hS0 ⊢
 clear hW0
 have hi1:=HI.out.below hS0.out.bel
 have hS1:=hid (hS0.out.fq hi1)
 clear hS0 hi1
 refine (HL.out _ _ (hS1.out.gq 0 rfl)).mono ?_
 rintro e w1 ⟨v2,rfl,hv2,hB⟩
 have hS2:=hid (hS1.out.call hB)
 clear hB
 clear hS1
 obtain ⟨t2,x2,p2,l2,q2,y2,r2,s2,u2,rfl,hm2,-,-⟩:=hv2.shape
 rw [show ((F:Int):Rat).num=(F:Int) from rfl,Int.natAbs_natCast] at hm2
 clear hv2
 have hS3:=hid (hS2.out.fact (.m (.int .u64 x2) (.slice p2 l2 q2) (F)) hm2)
 clear hS2 hm2
 go_wp2_with fail
 refine (HR.out _ _ _ (hS3.out.get (f:=.m (.int .u64 x2) (.slice p2 l2 q2) (F)) 0 rfl)).mono ?_
 rintro e w2 ⟨S,hs1',hs2',c3,d3,rfl,hm3,hB⟩
 have hS4:=hid (hS3.out.call hB)
 clear hB
 clear hS3
 obtain ⟨x3,p3,l3,q3,rfl,rfl⟩:=hm3.shape
 have HS:=hid (And.intro hs1' hs2')
 clear hs1' hs2'
 have hS5:=hid (hS4.out.fact (.m (.int .u64 x3) (.slice p3 l3 q3) (S)) hm3)
 clear hS4 hm3
 go_wp2_with fail
 refine (whole_calls _ _ _ _ _ _).mono ?_
 rintro e w3 ⟨rfl,hB⟩
 have hS6:=hid (hS5.out.call hB)
 clear hB
 clear hS5
 obtain ⟨⟨cR0,cR1,cR2,cR3,cR4⟩,fR0,fR1,fR2,fR3,fR4⟩:=hS6.out.f5 0 (w.heap.size+1) 31 (.bool false) (.int .u64 0) (.slice none 0 0) (.int .u64 0) (.slice none 0 0) rfl
 have hS7:=hid (((((((hS6.out).store (b:=⟨w.heap.size+1,31,z5⟩) 0 0 (.bool false) rfl rfl).store (b:=⟨w.heap.size+1,31,z5⟩) 0 1 (.int .u64 x3) rfl rfl).store (b:=⟨w.heap.size+1,31,[.bool false,.int .u64 x3,.slice none 0 0,.int .u64 0,.slice none 0 0]⟩) 0 2 (.slice p3 l3 q3) rfl rfl).store (b:=⟨w.heap.size+1,31,[.bool false,.int .u64 x3,.slice p3 l3 q3,.int .u64 0,.slice none 0 0]⟩) 0 3 (.int .u64 0) rfl rfl).store (b:=⟨w.heap.size+1,31,[.bool false,.int .u64 x3,.slice p3 l3 q3,.int .u64 0,.slice none 0 0]⟩) 0 4 (.slice none 0 0) rfl rfl).as [⟨w.heap.size+1,31,[.bool false,.int .u64 x3,.slice p3 l3 q3,.int .u64 0,.slice none 0 0]⟩,⟨w.heap.size,31,(c5 t1 x1 p1 l1 q1 y1 r1 s1 u1)⟩] rfl)
 go_wp2_with fail
 clear cR0 cR1 cR2 cR3 cR4 fR0 fR1 fR2 fR3 fR4
 obtain ⟨⟨zR0,zR1,zR2,zR3,zR4⟩,-⟩:=hS7.out.f5 0 (w.heap.size+1) 31 (.bool false) (.int .u64 x3) (.slice p3 l3 q3) (.int .u64 0) (.slice none 0 0) rfl
 have hq:=isQ_int ((S:Nat):Int) (w:=(((((w3.setCell ⟨w.heap.size+1,0,none⟩ (.bool false)).setCell ⟨w.heap.size+1,1,none⟩ (.int .u64 x3)).setCell ⟨w.heap.size+1,2,none⟩ (.slice p3 l3 q3)).setCell ⟨w.heap.size+1,3,none⟩ (.int .u64 0)).setCell ⟨w.heap.size+1,4,none⟩ (.slice none 0 0))) (c:=.int .u64 x3) (d:=.slice p3 l3 q3) (by rw [Int.natAbs_natCast];exact (hS7.out.get (f:=.m (.int .u64 x3) (.slice p3 l3 q3) (S)) 0 rfl))
 rw [show decide (((S:Nat):Int)<0)=false from decide_eq_false (by omega)] at hq
 exact bodyPost_ret (v:=.agg #[.bool false,.int .u64 x3,.slice p3 l3 q3,.int .u64 0,.slice none 0 0]) (by simp [results,Tryz.results148,go_sem,zR0,zR1,zR2,zR3,zR4]) rfl ⟨S,HS.out.1,HS.out.2,_,rfl,hq,hS7.out.bel⟩
end Go.Proofs.YtnmlkobogofadaaGreatDoor
namespace Go.Proofs.YtnmlkobogofadaaGreatDoor
set_option maxRecDepth 100000
set_option maxHeartbeats 80000000
open Go.RowKit Go.Sort
attribute [local go_sem] takes takesUpon_value takesUpon_skip takesUpon_enter
def RtV (F:Nat) (P:Rat) (v:Value) (W:World):Prop:=∃ S:Nat,S*S≤F∧F<(S+1)*(S+1)∧IsQ W v ((((S:Nat):Int):Rat) / P)
theorem rtV_below {F:Nat} {P:Rat}:∀ v W W',Below W.heap.size W W'→RtV F P v W→RtV F P v W':=fun _ _ _ hb ⟨S,h1,h2,h3⟩=>⟨S,h1,h2,h3.below hb⟩
theorem RtV.elim {G:Prop} {F:Nat} {P:Rat} {v:Value} {W:World} (h:RtV F P v W) (k:∀ S:Nat,S*S≤F→F<(S+1)*(S+1)→IsQ W v ((((S:Nat):Int):Rat) / P)→G):G:=by
 obtain ⟨S,h1,h2,h3⟩:=h
 exact k S h1 h2 h3
theorem div_one' (x:Rat):x / 1=x:=by grind
theorem Root_calls (r:Rat) (F g:Nat) (hg:g≤64) (P:Rat) (hP:(((2 ^ g:Nat):Int):Rat)=P) (R2:Rat) (hR2:r*P*P=R2) (hF:R2.num / (R2.den:Int)=(F:Int)) (hr:decide (r.num<0)=false) (v:Value) (k:Nat) (w:World) (h:IsQ w v r) (hk:k≤8589934592) (f0:Fits k r) (f1:Fits k P) (f2:Fits k (r*P)) (f3:Fits k R2) (hE:Env w) :
  Calls Tryz.prog 56 #[v,.int .i64 (g:Int)] w (fun e w'=>∃ S:Nat,S*S≤F∧F<(S+1)*(S+1)∧RetQE w ((((S:Nat):Int):Rat) / P) 0 e w'):=by
 have hP0:P≠0:=by
  rw [← hP]
  intro h
  have h1:((2 ^ g:Nat):Int)=0:=Rat.intCast_eq_zero_iff.1 h
  have h2:0<2 ^ g:=Nat.two_pow_pos g
  omega
 have HG:=hid (fun (W:World)=>isGrade_calls g hg W)
 have HP:=hid (fun (W:World)=>hP ▸ pow2_calls g (by omega) W)
 obtain ⟨R1,hR1⟩:∃ R1,r*P=R1:=⟨_,rfl⟩
 rw [hR1] at f2 hR2
 have HM1:=hid (fun (W:World) (v1 v2:Value) (i:IsQ W v1 r) (j:IsQ W v2 P) (hT:Tab W)=>hR1 ▸ Mul_calls r P v1 v2 k W i j (by omega) f0 f1 hT)
 have HM2:=hid (fun (W:World) (v1 v2:Value) (i:IsQ W v1 R1) (j:IsQ W v2 P) (hT:Tab W)=>hR2 ▸ Mul_calls R1 P v1 v2 k W i j (by omega) f2 f1 hT)
 have HR:=hid (fun (W:World) (v:Value) (h:IsQ W v R2)=>froot_calls R2 F hF v k W h hk f3)
 have hFk:F<B64 ^ k:=by
  have h1:=f3.1
  have h2:(F:Int)≤(R2.num.natAbs:Int):=by
   rw [← hF]
   refine Int.le_trans (Int.ediv_le_ediv (by have:=R2.den_pos;omega) (Int.le_natAbs)) ?_
   exact Int.ediv_le_self _ (by omega)
  omega
 have HO:=hid (fun (S:Nat) (hS:S*S≤F) (W:World) (v1 v2:Value) (i:IsQ W v1 ((S:Int):Rat)) (j:IsQ W v2 P) (hT:Tab W)=>Over_calls ((S:Int):Rat) P v1 v2 k W i j (by omega) hP0 (by
  have h1:S≤S*S:=Nat.le_mul_self S
  have h2:1<B64 ^ k:=Nat.lt_of_le_of_lt (Nat.one_le_iff_ne_zero.2 (by have:=P.den_pos;omega)) f1.2
  exact ⟨by show (S:Int).natAbs<_;omega,h2⟩) f1 hT)
 have HE:=hid hE
 have hk1:=hid (And.intro hF hFk)
 obtain ⟨t1,x1,p1,l1,q1,y1,r1,s1,u1,rfl⟩:=h.open
 have hneg:t1=false:=by
  have:=(IsQ.shape h)
  obtain ⟨t,x,p,l,q,y,p',s,u,e,-,-,e'⟩:=this
  have h1:=e'.out
  cases e
  rw [h1,hr]
 subst hneg
 have HI:=hid h
 clear h hP hR2 hF hr f0 f1 f2 f3 hE hP0 hR1 hFk
 go_enter Tryz.func56,Tryz.ntmps56
 go_wp2_with fail
 have hS0:=hid (((St.start w).alloc' (w.heap.size) (by simp) 31 (c5 false x1 p1 l1 q1 y1 r1 s1 u1)).alloc' (w.heap.size+1) (by simp) 31 z5)
 obtain ⟨W0,hW0⟩:=nameW hS0
 rw [hW0] at hS0 ⊢
 clear hW0
 have hi1:=HI.out.below hS0.out.bel
 have hS1:=hid (hS0.out.fq hi1)
 clear hS0 hi1
 refine (HG.out _).mono ?_
 rintro e w1 ⟨rfl,hB⟩
 have hS2:=hid (hS1.out.call hB)
 clear hB
 clear hS1
 obtain ⟨⟨cA0,cA1,cA2,cA3,cA4⟩,fA0,fA1,fA2,fA3,fA4⟩:=hS2.out.f5 1 w.heap.size 31 (.bool false) (.int .u64 x1) (.slice p1 l1 q1) (.int .u64 y1) (.slice r1 s1 u1) rfl
 go_wp2_with fail
 clear cA0 cA1 cA2 cA3 cA4 fA0 fA1 fA2 fA3 fA4
 refine (HP.out _).mono ?_
 rintro e w2 ⟨v2,rfl,hv2,hB⟩
 have hS3:=hid (hS2.out.call hB)
 clear hB
 clear hS2
 obtain ⟨t2,x2,p2,l2,q2,y2,r2,s2,u2,rfl⟩:=hv2.open
 have hS4:=hid (hS3.out.fq hv2)
 clear hS3 hv2
 obtain ⟨ne1l,ne1,ne1'⟩:=hS4.out.ne 1 w.heap.size 31 (c5 false x1 p1 l1 q1 y1 r1 s1 u1) rfl
 obtain ⟨ne2l,ne2,ne2'⟩:=hS4.out.ne 0 (w.heap.size+1) 31 z5 rfl
 obtain ⟨⟨cA0,cA1,cA2,cA3,cA4⟩,fA0,fA1,fA2,fA3,fA4⟩:=hS4.out.f5 1 w.heap.size 31 (.bool false) (.int .u64 x1) (.slice p1 l1 q1) (.int .u64 y1) (.slice r1 s1 u1) rfl
 go_wp2_with fail
 clear cA0 cA1 cA2 cA3 cA4 fA0 fA1 fA2 fA3 fA4
 have hS5:=hid ((hS4.out).alloc' (w2.heap.size) (by simp) 31 (c5 t2 x2 p2 l2 q2 y2 r2 s2 u2))
 obtain ⟨W3,hW3⟩:=nameW hS5
 rw [hW3] at hS5 ⊢
 clear hW3
 have LM0:=hid (fun (W:World) (h:Below W3.heap.size W3 W)=>((hS5.out.call h).f5 2 w.heap.size 31 (.bool false) (.int .u64 x1) (.slice p1 l1 q1) (.int .u64 y1) (.slice r1 s1 u1) rfl).1)
 have LM1:=hid (fun (W:World) (h:Below W3.heap.size W3 W)=>((hS5.out.call h).f5 0 w2.heap.size 31 (.bool t2) (.int .u64 x2) (.slice p2 l2 q2) (.int .u64 y2) (.slice r2 s2 u2) rfl).1)
 have LM2:=hid (fun (W:World) (h:Below W3.heap.size W3 W)=>HE.out.below (hS5.out.call h).bel (Nat.le_refl _))
 refine wp_region_inv 8 [⟨[],[0]⟩,⟨[],[1]⟩,⟨[0,1],[2]⟩,⟨[],[3]⟩,⟨[2,3],[4]⟩,⟨[4],[5]⟩,⟨[],[6]⟩,⟨[5,6],[7]⟩]
  [oE (.agg #[.bool false,.int .u64 x1,.slice p1 l1 q1,.int .u64 y1,.slice r1 s1 u1]),oE (.agg #[.bool t2,.int .u64 x2,.slice p2 l2 q2,.int .u64 y2,.slice r2 s2 u2]),oQ (R1),oE (.agg #[.bool t2,.int .u64 x2,.slice p2 l2 q2,.int .u64 y2,.slice r2 s2 u2]),oQ (R2),one (RtV F 1),oE (.agg #[.bool t2,.int .u64 x2,.slice p2 l2 q2,.int .u64 y2,.slice r2 s2 u2]),one (RtV F P)]
  (fun _ W=>Below W3.heap.size W3 W) (by kernel_rfl) (by kernel_rfl) ?hTW4 ?hZW4 ?hOW4 ?hEW4
 case hZW4=>exact (Below.refl _ _).drew
 case hTW4 =>
  simp only [List.forall_mem_cons,List.not_mem_nil,false_imp_iff,implies_true,and_true]
  exact ⟨bE,bE,bQ,bE,bQ,one_below rtV_below,bE,one_below rtV_below⟩
 case hOW4 =>
  intro u
  simp only [List.take_succ_cons,List.take_zero,putAll]
  repeat' (first | with_reducible exact debts_nil | with_reducible refine debts_cons ?_ ?_)
  ·intro W hS hF K hK
   have hcA:=LM0.out W hS
   go_simp
   exact hK _ _ (.refl _ _) hS rfl
  ·intro W hS hF K hK
   have hcP:=LM1.out W hS
   go_simp
   exact hK _ _ (.refl _ _) hS rfl
  ·intro W hS hF K hK
   have h0:u 0=.agg #[.bool false,.int .u64 x1,.slice p1 l1 q1,.int .u64 y1,.slice r1 s1 u1]:=hF.1
   have h1:u 1=.agg #[.bool t2,.int .u64 x2,.slice p2 l2 q2,.int .u64 y2,.slice r2 s2 u2]:=hF.2.1
   have sH:=hid (hS5.out.call hS)
   clear hF
   go_simp
   refine (HM1.out _ _ _ (sH.out.get (f:=.q (.agg #[.bool false,.int .u64 x1,.slice p1 l1 q1,.int .u64 y1,.slice r1 s1 u1]) (r)) 1 rfl) (sH.out.get (f:=.q (.agg #[.bool t2,.int .u64 x2,.slice p2 l2 q2,.int .u64 y2,.slice r2 s2 u2]) (P)) 0 rfl) (LM2.out W hS).tz).mono ?_
   rintro e wA ⟨v,rfl,hv,hBA⟩
   exact ⟨_,rfl,hK _ _ hBA (hS.trans (hBA.mono hS.size)) hv⟩
  ·intro W hS hF K hK
   have hcP:=LM1.out W hS
   go_simp
   exact hK _ _ (.refl _ _) hS rfl
  ·intro W hS hF K hK
   have hq2:IsQ W (u 2) (R1):=hF.1
   have h3:u 3=.agg #[.bool t2,.int .u64 x2,.slice p2 l2 q2,.int .u64 y2,.slice r2 s2 u2]:=hF.2.1
   have sH:=hid (hS5.out.call hS)
   clear hF
   go_simp
   refine (HM2.out _ _ _ hq2 (sH.out.get (f:=.q (.agg #[.bool t2,.int .u64 x2,.slice p2 l2 q2,.int .u64 y2,.slice r2 s2 u2]) (P)) 0 rfl) (LM2.out W hS).tz).mono ?_
   rintro e wA ⟨v,rfl,hv,hBA⟩
   exact ⟨_,rfl,hK _ _ hBA (hS.trans (hBA.mono hS.size)) hv⟩
  ·intro W hS hF K hK
   have hq4:IsQ W (u 4) (R2):=hF.1
   clear hF
   go_simp
   refine (HR.out _ _ hq4).mono ?_
   rintro e wA ⟨S,hs1,hs2,v,rfl,hv,hBA⟩
   exact ⟨_,rfl,hK _ _ hBA (hS.trans (hBA.mono hS.size)) ⟨S,hs1,hs2,by rw [div_one'];exact hv⟩⟩
  ·intro W hS hF K hK
   have hcP:=LM1.out W hS
   go_simp
   exact hK _ _ (.refl _ _) hS rfl
  ·intro W hS hF K hK
   have hk5:RtV F 1 (u 5) W:=hF.1;with_reducible refine RtV.elim hk5 ?_;intro S5 hs5 ht5 hq5;rw [div_one'] at hq5
   have h6:u 6=.agg #[.bool t2,.int .u64 x2,.slice p2 l2 q2,.int .u64 y2,.slice r2 s2 u2]:=hF.2.1
   have sH:=hid (hS5.out.call hS)
   clear hF
   go_simp
   refine (HO.out S5 hs5 _ _ _ hq5 (sH.out.get (f:=.q (.agg #[.bool t2,.int .u64 x2,.slice p2 l2 q2,.int .u64 y2,.slice r2 s2 u2]) (P)) 0 rfl) (LM2.out W hS).tz).mono ?_
   rintro e wA ⟨v,rfl,hv,hBA⟩
   exact ⟨_,rfl,hK _ _ hBA (hS.trans (hBA.mono hS.size)) ⟨S5,hs5,ht5,hv⟩⟩
 case hEW4 =>
  intro u W4 hS hF
  have hS6:=hid (hS5.out.call hS)
  have hk7:RtV F P (u 7) W4:=hF.2.2.2.2.2.2.2.1
  clear hF hS
  obtain ⟨S,hs,ht,hv0⟩:=hk7
  obtain ⟨t9,x9,p9,l9,q9,y9,r9,s9,u9,e9⟩:=hv0.open
  have hv9:IsQ W4 (.agg #[.bool t9,.int .u64 x9,.slice p9 l9 q9,.int .u64 y9,.slice r9 s9 u9]) ((((S:Nat):Int):Rat) / P):=e9 ▸ hv0
  have HS:=hid (And.intro hs ht)
  clear hv0 hs ht
  have hS7:=hid (hS6.out.fq hv9)
  clear hS6 hv9
  obtain ⟨⟨cR0,cR1,cR2,cR3,cR4⟩,fR0,fR1,fR2,fR3,fR4⟩:=hS7.out.f5 1 (w.heap.size+1) 31 (.bool false) (.int .u64 0) (.slice none 0 0) (.int .u64 0) (.slice none 0 0) rfl
  simp only [List.take_succ_cons,List.take_zero,putAll,List.drop_succ_cons,List.drop_zero]
  have hS8:=hid (((((((hS7.out).store (b:=⟨w.heap.size+1,31,z5⟩) 1 0 (.bool t9) rfl rfl).store (b:=⟨w.heap.size+1,31,[.bool t9,.int .u64 0,.slice none 0 0,.int .u64 0,.slice none 0 0]⟩) 1 1 (.int .u64 x9) rfl rfl).store (b:=⟨w.heap.size+1,31,[.bool t9,.int .u64 x9,.slice none 0 0,.int .u64 0,.slice none 0 0]⟩) 1 2 (.slice p9 l9 q9) rfl rfl).store (b:=⟨w.heap.size+1,31,[.bool t9,.int .u64 x9,.slice p9 l9 q9,.int .u64 0,.slice none 0 0]⟩) 1 3 (.int .u64 y9) rfl rfl).store (b:=⟨w.heap.size+1,31,[.bool t9,.int .u64 x9,.slice p9 l9 q9,.int .u64 y9,.slice none 0 0]⟩) 1 4 (.slice r9 s9 u9) rfl rfl).as [⟨w2.heap.size,31,(c5 t2 x2 p2 l2 q2 y2 r2 s2 u2)⟩,⟨w.heap.size+1,31,(c5 t9 x9 p9 l9 q9 y9 r9 s9 u9)⟩,⟨w.heap.size,31,(c5 false x1 p1 l1 q1 y1 r1 s1 u1)⟩] rfl)
  go_wp2_with fail
  clear cR0 cR1 cR2 cR3 cR4 fR0 fR1 fR2 fR3 fR4
  obtain ⟨⟨zR0,zR1,zR2,zR3,zR4⟩,-⟩:=hS8.out.f5 1 (w.heap.size+1) 31 (.bool t9) (.int .u64 x9) (.slice p9 l9 q9) (.int .u64 y9) (.slice r9 s9 u9) rfl
  exact bodyPost_ret (v:=.tuple #[.agg #[.bool t9,.int .u64 x9,.slice p9 l9 q9,.int .u64 y9,.slice r9 s9 u9],.int .i64 0]) (by simp [results,Tryz.results56,go_sem,zR0,zR1,zR2,zR3,zR4]) rfl ⟨S,HS.out.1,HS.out.2,_,rfl,(hS8.out.gq 0 rfl),hS8.out.bel⟩
end Go.Proofs.YtnmlkobogofadaaGreatDoor
