/- What the proof rests on, part 33. -/
import Derived.Test.YthalajpklaodkaaGreatDoorQ23
import Derived.Test.YthalajpklaodkaaGreatDoorQ06
import Derived.Test.YthalajpklaodkaaGreatDoorQ05
import Derived.Test.YthalajpklaodkaaGreatDoorQ08
import Derived.Test.YthalajpklaodkaaGreatDoorQ22
namespace Go.Proofs.YthalajpklaodkaaGreatDoor
set_option maxRecDepth 100000
set_option maxHeartbeats 80000000
section
open Go.RowKit Go.Sort
attribute [local go_sem] takes gK gJ gI
def Ce (w:World) (n:Nat) (e:Ending) (w':World):Prop:=∃ s,s*s≤n∧n<(s+1)*(s+1)∧aW w s e w'
theorem ZV (x1:Int) (p1:Option Addr) (l1 q1:Nat) (w:World) (i1:ah w (.int .u64 x1) (.slice p1 l1 q1) 0) :
  Calls Tryz.prog 169 #[.agg #[.int .u64 x1,.slice p1 l1 q1]] w (Ce w 0):=by
 have HZ:=hid (fun (W:World) (h:ah W (.int .u64 x1) (.slice p1 l1 q1) 0)=>dO _ _ 0 W h)
 have HI:=hid i1
 clear i1
 go_enter Tryz.func169,Tryz.ntmps169
 go_wp2_with fail
 have hS0:=hid (((St.start w).alloc' (w.heap.size) (by simp) 28 [.int .u64 x1,.slice p1 l1 q1]).alloc' (w.heap.size+1) (by simp) 28 [.int .u64 0,.slice none 0 0])
 obtain ⟨W0,hW0⟩:=bI hS0
 rw [hW0] at hS0 ⊢
 clear hW0
 have hi1:=HI.out.below hS0.out.bel
 have hS1:=hid (hS0.out.fact (.m (.int .u64 x1) (.slice p1 l1 q1) (0)) hi1)
 clear hS0 hi1
 refine (HZ.out _ (hS1.out.get (f:=.m (.int .u64 x1) (.slice p1 l1 q1) (0)) 0 rfl)).mono ?_
 rintro e w1 ⟨rfl,hB⟩
 have hS2:=hid (hS1.out.call hB)
 clear hB
 clear hS1
 obtain ⟨⟨cA0,cA1⟩,fA0,fA1⟩:=hS2.out.f2 1 w.heap.size 28 (.int .u64 x1) (.slice p1 l1 q1) rfl
 obtain ⟨⟨cR0,cR1⟩,fR0,fR1⟩:=hS2.out.f2 0 (w.heap.size+1) 28 (.int .u64 0) (.slice none 0 0) rfl
 have hS3:=hid ((((hS2.out).store (b:=⟨w.heap.size+1,28,[.int .u64 0,.slice none 0 0]⟩) 0 0 (.int .u64 x1) rfl rfl).store (b:=⟨w.heap.size+1,28,[.int .u64 x1,.slice none 0 0]⟩) 0 1 (.slice p1 l1 q1) rfl rfl).as [⟨w.heap.size+1,28,[.int .u64 x1,.slice p1 l1 q1]⟩,⟨w.heap.size,28,[.int .u64 x1,.slice p1 l1 q1]⟩] rfl)
 go_wp2_with fail
 clear cA0 cA1 fA0 fA1 cR0 cR1 fR0 fR1
 obtain ⟨⟨zR0,zR1⟩,-⟩:=hS3.out.f2 0 (w.heap.size+1) 28 (.int .u64 x1) (.slice p1 l1 q1) rfl
 exact bodyPost_ret (v:=.agg #[.int .u64 x1,.slice p1 l1 q1]) (by simp [results,Tryz.results169,go_sem,zR0,zR1]) rfl ⟨0,by decide,by decide,_,_,rfl,(hS3.out.get (f:=.m (.int .u64 x1) (.slice p1 l1 q1) (0)) 0 rfl),hS3.out.bel⟩
theorem ZT (n k:Nat) (x1:Int) (p1:Option Addr) (l1 q1:Nat) (w:World) (i1:ah w (.int .u64 x1) (.slice p1 l1 q1) n) (hk:k≤8589934592) (hn:n<B64 ^ k) (h0:0<n) :
  Calls Tryz.prog 169 #[.agg #[.int .u64 x1,.slice p1 l1 q1]] w (Ce w n):=by
 have hz:(n == 0)=false:=by simp;omega
 have HZ:=hid (fun (W:World) (h:ah W (.int .u64 x1) (.slice p1 l1 q1) n)=>hz ▸ dO _ _ n W h)
 have HB:=hid (fun (W:World) (h:ah W (.int .u64 x1) (.slice p1 l1 q1) n)=>QT _ _ n k W h (by omega) hn)
 have HO:=hid (fun (b:Nat) (c d:Value) (W:World) (h:ah W (.int .u64 x1) (.slice p1 l1 q1) n) (j:ah W c d b) (hb:0<b)=>wG n b k _ _ c d W h j hb (by omega) hn)
 have HN:=hid (And.intro hn h0)
 have HI:=hid i1
 clear i1 hz h0 hn
 go_enter Tryz.func169,Tryz.ntmps169
 go_wp2_with fail
 have hS0:=hid (((St.start w).alloc' (w.heap.size) (by simp) 28 [.int .u64 x1,.slice p1 l1 q1]).alloc' (w.heap.size+1) (by simp) 28 [.int .u64 0,.slice none 0 0])
 obtain ⟨W0,hW0⟩:=bI hS0
 rw [hW0] at hS0 ⊢
 clear hW0
 have hi1:=HI.out.below hS0.out.bel
 have hS1:=hid (hS0.out.fact (.m (.int .u64 x1) (.slice p1 l1 q1) (n)) hi1)
 clear hS0 hi1
 refine (HZ.out _ (hS1.out.get (f:=.m (.int .u64 x1) (.slice p1 l1 q1) (n)) 0 rfl)).mono ?_
 rintro e w1 ⟨rfl,hB⟩
 have hS2:=hid (hS1.out.call hB)
 clear hB
 clear hS1
 obtain ⟨ne1l,ne1,ne1'⟩:=hS2.out.ne 1 w.heap.size 28 [.int .u64 x1,.slice p1 l1 q1] rfl
 obtain ⟨ne2l,ne2,ne2'⟩:=hS2.out.ne 0 (w.heap.size+1) 28 [.int .u64 0,.slice none 0 0] rfl
 obtain ⟨⟨cA0,cA1⟩,fA0,fA1⟩:=hS2.out.f2 1 w.heap.size 28 (.int .u64 x1) (.slice p1 l1 q1) rfl
 go_wp2_with fail
 clear cA0 cA1 fA0 fA1
 have hS3:=hid ((hS2.out).alloc' (w1.heap.size) (by simp) 28 [.int .u64 2,.slice none 0 0])
 obtain ⟨W1,hW1⟩:=bI hS3
 rw [hW1] at hS3 ⊢
 clear hW1
 refine (HB.out _ (hS3.out.get (f:=.m (.int .u64 x1) (.slice p1 l1 q1) (n)) 0 rfl)).mono ?_
 rintro e w2 ⟨v,rfl,hv,hB⟩
 have hS4:=hid (hS3.out.call hB)
 clear hB
 clear hS3
 have hv1:=hv.2 HN.out.2
 have hvb:v≤64*k:=by
  have h1:2 ^ (v - 1)<2 ^ (64*k):=Nat.lt_of_le_of_lt hv1.2.1 (by have:=HN.out.1;rwa [show B64=2 ^ 64 from by decide,← Nat.pow_mul] at this)
  have:=(Nat.pow_lt_pow_iff_right (by decide:1<2)).1 h1
  omega
 have HV:=hid (And.intro hv1 hvb)
 have hvs:v≤549755813888:=by omega
 clear hv hv1 hvb
 go_wp2_with fail
 rw [show ((v:Int)+1) / 2=(((v+1) / 2:Nat):Int) from by omega]
 refine (Md 1 ((v+1) / 2) 1 _ _ _ (qG _ 1 (by decide)) (by omega) (by omega) (by decide)).mono ?_
 rintro e w3 ⟨c2,d2,rfl,hm2,hB⟩
 have hS5:=hid (hS4.out.call hB)
 clear hB
 clear hS4
 obtain ⟨x2,p2,l2,q2,rfl,rfl⟩:=hm2.shape
 rw [Nat.one_mul] at hm2
 obtain ⟨X0,hX0⟩:∃ X0,2 ^ ((v+1) / 2)=X0:=⟨_,rfl⟩
 rw [hX0] at hm2
 have HX:=hid (show 1≤X0∧X0<B64 ^ (k+1)∧n<(X0+1)*(X0+1) by
  have h1:=HV.out.1.2.2
  have h2:2 ^ v≤X0*X0:=by rw [← hX0,← Nat.pow_add];exact Nat.pow_le_pow_right (by decide) (by omega)
  have h3:1≤X0:=by rw [← hX0];exact Nat.one_le_two_pow
  refine ⟨h3,?_,?_⟩
  ·rw [← hX0,show B64=2 ^ 64 from by decide,← Nat.pow_mul];exact Nat.pow_lt_pow_right (by decide) (by have:=HV.out.2;omega)
  ·have h4:(X0+1)*(X0+1)=X0*X0+X0+X0+1:=by grind
   omega)
 clear hX0 HV hvs
 have hS6:=hid (hS5.out.fact (.m (.int .u64 x2) (.slice p2 l2 q2) (X0)) hm2)
 clear hS5 hm2
 obtain ⟨ne3l,ne3,ne3'⟩:=hS6.out.ne 2 w.heap.size 28 [.int .u64 x1,.slice p1 l1 q1] rfl
 obtain ⟨ne4l,ne4,ne4'⟩:=hS6.out.ne 1 (w.heap.size+1) 28 [.int .u64 0,.slice none 0 0] rfl
 obtain ⟨ne5l,ne5,ne5'⟩:=hS6.out.ne 0 w1.heap.size 28 [.int .u64 2,.slice none 0 0] rfl
 obtain ⟨⟨cA0,cA1⟩,fA0,fA1⟩:=hS6.out.f2 2 w.heap.size 28 (.int .u64 x1) (.slice p1 l1 q1) rfl
 obtain ⟨⟨ctwo0,ctwo1⟩,ftwo0,ftwo1⟩:=hS6.out.f2 0 w1.heap.size 28 (.int .u64 2) (.slice none 0 0) rfl
 go_wp2_with fail
 clear cA0 cA1 fA0 fA1 ctwo0 ctwo1 ftwo0 ftwo1
 have hL:=hid ((hS6.out).alloc' (w3.heap.size) (by simp) 28 [.int .u64 x2,.slice p2 l2 q2])
 go_loopg [5] X0 (fun X _ wr=>∃ (x3:Int) (p3:Option Addr) (l3 q3:Nat),1≤X∧X<B64 ^ (k+1)∧n<(X+1)*(X+1)∧St w [⟨w3.heap.size,28,[.int .u64 x3,.slice p3 l3 q3]⟩,⟨w1.heap.size,28,[.int .u64 2,.slice none 0 0]⟩,⟨w.heap.size+1,28,[.int .u64 0,.slice none 0 0]⟩,⟨w.heap.size,28,[.int .u64 x1,.slice p1 l1 q1]⟩] [.m (.int .u64 x3) (.slice p3 l3 q3) (X),.m (.int .u64 x1) (.slice p1 l1 q1) (n)] wr)
 case atStart=>exact ⟨x2,p2,l2,q2,HX.out.1,HX.out.2.1,HX.out.2.2,⟨hL.out.bel,hL.out.box,(hL.out.get (f:=.m (.int .u64 x2) (.slice p2 l2 q2) (X0)) 0 rfl),(hL.out.get (f:=.m (.int .u64 x1) (.slice p1 l1 q1) (n)) 1 rfl),trivial⟩⟩
 case round =>
  clear hL
  obtain ⟨x3,p3,l3,q3,h1,h2,h3,hSt⟩:=hrel
  have HS:=hid hSt
  have HX3:=hid (And.intro h1 (And.intro h2 h3))
  have hy1:n / gk<B64 ^ (k+1):=Nat.lt_of_le_of_lt (Nat.div_le_self _ _) (Nat.lt_of_lt_of_le HN.out.1 (Nat.pow_le_pow_right (by decide) (by omega)))
  have hy2:n / gk+gk<B64 ^ (k+2):=by
   rw [Nat.pow_succ B64 (k+1)]
   have:B64 ^ (k+1)*2≤B64 ^ (k+1)*B64:=Nat.mul_le_mul_left _ (by decide)
   omega
  have HY:=hid (And.intro h1 (And.intro h2 (And.intro hy1 hy2)))
  obtain ⟨Y,hY⟩:∃ Y,(n / gk+gk) / 2=Y:=⟨_,rfl⟩
  have HYe:=hid hY
  have HQ:=hid (fun (c d:Value) (W:World) (j:ah W c d (n / gk+gk))=>hY ▸ wG (n / gk+gk) 2 (k+2) c d (.int .u64 2) (.slice none 0 0) W j (qG _ 2 (by decide)) (by decide) (by omega) hy2)
  clear hSt h1 h2 h3 hy1 hy2 hY HX
  go_wp2_with fail
  have LM0:=hid (fun (W:World) (h:Below wr.heap.size wr W)=>((HS.out.call h).f2 3 w.heap.size 28 (.int .u64 x1) (.slice p1 l1 q1) rfl).1)
  have LM1:=hid (fun (W:World) (h:Below wr.heap.size wr W)=>((HS.out.call h).f2 0 w3.heap.size 28 (.int .u64 x3) (.slice p3 l3 q3) rfl).1)
  have LM2:=hid (fun (W:World) (h:Below wr.heap.size wr W)=>((HS.out.call h).f2 1 w1.heap.size 28 (.int .u64 2) (.slice none 0 0) rfl).1)
  refine jk 8 [⟨[],[0]⟩,⟨[],[1]⟩,⟨[0,1],[2]⟩,⟨[],[3]⟩,⟨[2,3],[4]⟩,⟨[],[5]⟩,⟨[4,5],[6]⟩,⟨[],[7]⟩]
   [oE (.agg #[.int .u64 x1,.slice p1 l1 q1]),oE (.agg #[.int .u64 x3,.slice p3 l3 q3]),one (dV (n / gk)),oE (.agg #[.int .u64 x3,.slice p3 l3 q3]),one (dV (n / gk+gk)),oE (.agg #[.int .u64 2,.slice none 0 0]),one (dV (Y)),one (iZ wr.heap.size 28 [.int .u64 0,.slice none 0 0])]
   (fun _ W=>Below wr.heap.size wr W) (by kernel_rfl) (by kernel_rfl) ?hTWr ?hZWr ?hOWr ?hEWr
  case hZWr=>exact (Below.refl _ _).drew
  case hTWr =>
   simp only [List.forall_mem_cons,List.not_mem_nil,false_imp_iff,implies_true,and_true]
   exact ⟨bE,bE,aP oU,bE,aP oU,bE,aP oU,aP Au⟩
  case hOWr =>
   intro u
   simp only [List.take_succ_cons,List.take_zero,aI]
   repeat' (first | with_reducible exact gY | with_reducible refine gX ?_ ?_)
   ·intro W hS hF K hK
    have hcA:=LM0.out W hS
    go_simp
    exact hK _ _ (.refl _ _) hS rfl
   ·intro W hS hF K hK
    have hcx:=LM1.out W hS
    go_simp
    exact hK _ _ (.refl _ _) hS rfl
   ·intro W hS hF K hK
    have h0:u 0=.agg #[.int .u64 x1,.slice p1 l1 q1]:=hF.1
    have h1:u 1=.agg #[.int .u64 x3,.slice p3 l3 q3]:=hF.2.1
    have sH:=hid (HS.out.call hS)
    clear hF
    go_simp
    refine (HO.out gk _ _ _ (sH.out.get (f:=.m (.int .u64 x1) (.slice p1 l1 q1) (n)) 1 rfl) (sH.out.get (f:=.m (.int .u64 x3) (.slice p3 l3 q3) (gk)) 0 rfl) HY.out.1).mono ?_
    rintro e wA ⟨c,d,rfl,hm,hBA⟩
    obtain ⟨xx,pp,ll,qq,rfl,rfl⟩:=hm.shape
    exact ⟨_,rfl,hK _ _ hBA (hS.trans (hBA.mono hS.size)) ⟨_,_,_,_,rfl,hm⟩⟩
   ·intro W hS hF K hK
    have hcx:=LM1.out W hS
    go_simp
    exact hK _ _ (.refl _ _) hS rfl
   ·intro W hS hF K hK
    obtain ⟨x2,p2,l2,q2,h2,m2⟩:dV (n / gk) (u 2) W:=hF.1
    have h3:u 3=.agg #[.int .u64 x3,.slice p3 l3 q3]:=hF.2.1
    have sH:=hid (HS.out.call hS)
    clear hF
    go_simp
    refine (FH (n / gk) gk (k+1) _ _ _ _ _ m2 (sH.out.get (f:=.m (.int .u64 x3) (.slice p3 l3 q3) (gk)) 0 rfl) (by omega) HY.out.2.2.1 HY.out.2.1).mono ?_
    rintro e wA ⟨c,d,rfl,hm,hBA⟩
    obtain ⟨xx,pp,ll,qq,rfl,rfl⟩:=hm.shape
    exact ⟨_,rfl,hK _ _ hBA (hS.trans (hBA.mono hS.size)) ⟨_,_,_,_,rfl,hm⟩⟩
   ·intro W hS hF K hK
    have hctwo:=LM2.out W hS
    go_simp
    exact hK _ _ (.refl _ _) hS rfl
   ·intro W hS hF K hK
    obtain ⟨x4,p4,l4,q4,h4,m4⟩:dV (n / gk+gk) (u 4) W:=hF.1
    have h5:u 5=.agg #[.int .u64 2,.slice none 0 0]:=hF.2.1
    clear hF
    go_simp
    refine (HQ.out _ _ _ m4).mono ?_
    rintro e wA ⟨c,d,rfl,hm,hBA⟩
    obtain ⟨xx,pp,ll,qq,rfl,rfl⟩:=hm.shape
    exact ⟨_,rfl,hK _ _ hBA (hS.trans (hBA.mono hS.size)) ⟨_,_,_,_,rfl,hm⟩⟩
   ·intro W hS hF K hK
    go_simp
    refine hK _ _ ((Below.refl _ _).alloc (Nat.le_refl _) _) (hS.alloc hS.size _) ?_
    exact (show (iZ wr.heap.size 28 [.int .u64 0,.slice none 0 0]) _ _ from ⟨_,rfl,hS.size,by simp,Bx.new W 28 [.int .u64 0,.slice none 0 0]⟩)
  case hEWr =>
   intro u Wr hS hF
   have hS7:=hid (HS.out.call hS)
   obtain ⟨L7,e7,hl7,hm7,hb7⟩:iZ wr.heap.size 28 [.int .u64 0,.slice none 0 0] (u 7) Wr:=hF.2.2.2.2.2.2.2.1
   have hS8:=hid (hS7.out.add (Nat.le_trans HS.out.bel.size hl7) hb7 (HS.out.old hl7))
   clear hb7
   have hv0:dV Y (u 6) Wr:=hF.2.2.2.2.2.2.1
   clear hF hS
   obtain ⟨x6,p6,l6,q6,e6,m6⟩:=hv0
   have n7x:¬ L7=w3.heap.size:=by have:=(HS.out.bx (b:=⟨w3.heap.size,28,[.int .u64 x3,.slice p3 l3 q3]⟩) 0 rfl).lt;simp only at this;omega
   have n7x':¬ w3.heap.size=L7:=fun h=>n7x h.symm
   have n7two:¬ L7=w1.heap.size:=by have:=(HS.out.bx (b:=⟨w1.heap.size,28,[.int .u64 2,.slice none 0 0]⟩) 1 rfl).lt;simp only at this;omega
   have n7two':¬ w1.heap.size=L7:=fun h=>n7two h.symm
   have n7R:¬ L7=w.heap.size+1:=by have:=(HS.out.bx (b:=⟨w.heap.size+1,28,[.int .u64 0,.slice none 0 0]⟩) 2 rfl).lt;simp only at this;omega
   have n7R':¬ w.heap.size+1=L7:=fun h=>n7R h.symm
   have n7A:¬ L7=w.heap.size:=by have:=(HS.out.bx (b:=⟨w.heap.size,28,[.int .u64 x1,.slice p1 l1 q1]⟩) 3 rfl).lt;simp only at this;omega
   have n7A':¬ w.heap.size=L7:=fun h=>n7A h.symm
   have hS9:=hid (hS8.out.fact (.m (.int .u64 x6) (.slice p6 l6 q6) (Y)) m6)
   clear hS8 m6
   obtain ⟨⟨cx0,cx1⟩,fx0,fx1⟩:=hS9.out.f2 1 w3.heap.size 28 (.int .u64 x3) (.slice p3 l3 q3) rfl
   obtain ⟨⟨cyy0,cyy1⟩,fyy0,fyy1⟩:=hS9.out.f2 0 L7 28 (.int .u64 0) (.slice none 0 0) rfl
   simp only [List.take_succ_cons,List.take_zero,aI,List.drop_succ_cons,List.drop_zero]
   go_wp2_with fail
   clear cx0 cx1 fx0 fx1 cyy0 cyy1 fyy0 fyy1
   have hS10:=hid ((((hS9.out).store (b:=⟨L7,28,[.int .u64 0,.slice none 0 0]⟩) 0 0 (.int .u64 x6) rfl rfl).store (b:=⟨L7,28,[.int .u64 x6,.slice none 0 0]⟩) 0 1 (.slice p6 l6 q6) rfl rfl).as [⟨L7,28,[.int .u64 x6,.slice p6 l6 q6]⟩,⟨w3.heap.size,28,[.int .u64 x3,.slice p3 l3 q3]⟩,⟨w1.heap.size,28,[.int .u64 2,.slice none 0 0]⟩,⟨w.heap.size+1,28,[.int .u64 0,.slice none 0 0]⟩,⟨w.heap.size,28,[.int .u64 x1,.slice p1 l1 q1]⟩] rfl)
   obtain ⟨Wy,hWy⟩:=bI hS10
   rw [hWy] at hS10 ⊢
   clear hWy
   refine (LQ Y gk (k+2) _ _ _ _ _ (hS10.out.get (f:=.m (.int .u64 x6) (.slice p6 l6 q6) (Y)) 0 rfl) (hS10.out.get (f:=.m (.int .u64 x3) (.slice p3 l3 q3) (gk)) 1 rfl) (by omega) (HYe.out ▸ Nat.lt_of_le_of_lt (Nat.div_le_self _ _) HY.out.2.2.2)).mono ?_
   rintro e w8 ⟨rfl,hB⟩
   have hS11:=hid (hS10.out.call hB)
   clear hB
   clear hS10
   obtain ⟨C,hC⟩:∃ C,aC Y gk=C:=⟨_,rfl⟩
   rw [hC]
   have HC:=hid hC
   by_cases hge:gk≤Y
   ·have hc0:0≤C:=by
     rw [← hC]
     rcases Nat.lt_or_eq_of_le hge with h | h
     ·rw [iU h];decide
     ·rw [h,jq];decide
    clear hC
    obtain ⟨⟨cx0,cx1⟩,fx0,fx1⟩:=hS11.out.f2 1 w3.heap.size 28 (.int .u64 x3) (.slice p3 l3 q3) rfl
    obtain ⟨⟨cR0,cR1⟩,fR0,fR1⟩:=hS11.out.f2 3 (w.heap.size+1) 28 (.int .u64 0) (.slice none 0 0) rfl
    have hS12:=hid ((((hS11.out).store (b:=⟨w.heap.size+1,28,[.int .u64 0,.slice none 0 0]⟩) 3 0 (.int .u64 x3) rfl rfl).store (b:=⟨w.heap.size+1,28,[.int .u64 x3,.slice none 0 0]⟩) 3 1 (.slice p3 l3 q3) rfl rfl).as [⟨L7,28,[.int .u64 x6,.slice p6 l6 q6]⟩,⟨w3.heap.size,28,[.int .u64 x3,.slice p3 l3 q3]⟩,⟨w1.heap.size,28,[.int .u64 2,.slice none 0 0]⟩,⟨w.heap.size+1,28,[.int .u64 x3,.slice p3 l3 q3]⟩,⟨w.heap.size,28,[.int .u64 x1,.slice p1 l1 q1]⟩] rfl)
    go_wp2_with fail
    clear cx0 cx1 fx0 fx1 cR0 cR1 fR0 fR1
    obtain ⟨⟨zR0,zR1⟩,-⟩:=hS12.out.f2 3 (w.heap.size+1) 28 (.int .u64 x3) (.slice p3 l3 q3) rfl
    exact bodyPost_ret (v:=.agg #[.int .u64 x3,.slice p3 l3 q3]) (by simp [results,Tryz.results169,go_sem,zR0,zR1]) rfl ⟨gk,YC n gk HX3.out.1 (by rw [HYe.out];exact hge),HX3.out.2.2,_,_,rfl,(hS12.out.get (f:=.m (.int .u64 x3) (.slice p3 l3 q3) (gk)) 1 rfl),hS12.out.bel⟩
   ·have hlt:Y<gk:=by omega
    have hc0:¬ 0≤C:=by rw [← hC,gW hlt];decide
    clear hC hge
    obtain ⟨⟨cx0,cx1⟩,fx0,fx1⟩:=hS11.out.f2 1 w3.heap.size 28 (.int .u64 x3) (.slice p3 l3 q3) rfl
    obtain ⟨⟨cyy0,cyy1⟩,fyy0,fyy1⟩:=hS11.out.f2 0 L7 28 (.int .u64 x6) (.slice p6 l6 q6) rfl
    go_wp2_with fail
    clear cx0 cx1 fx0 fx1 cyy0 cyy1 fyy0 fyy1
    have hJ:=hid ((((hS11.out).store (b:=⟨w3.heap.size,28,[.int .u64 x3,.slice p3 l3 q3]⟩) 1 0 (.int .u64 x6) rfl rfl).store (b:=⟨w3.heap.size,28,[.int .u64 x6,.slice p3 l3 q3]⟩) 1 1 (.slice p6 l6 q6) rfl rfl).as [⟨L7,28,[.int .u64 x6,.slice p6 l6 q6]⟩,⟨w3.heap.size,28,[.int .u64 x6,.slice p6 l6 q6]⟩,⟨w1.heap.size,28,[.int .u64 2,.slice none 0 0]⟩,⟨w.heap.size+1,28,[.int .u64 0,.slice none 0 0]⟩,⟨w.heap.size,28,[.int .u64 x1,.slice p1 l1 q1]⟩] rfl)
    go_roundg Y
    case rel =>
     have g1:=YB n gk HN.out.2 HX3.out.1 (by rw [HYe.out];exact hlt)
     have g2:=YA n gk HX3.out.1
     rw [HYe.out] at g1 g2
     exact ⟨x6,p6,l6,q6,g1,Nat.lt_trans hlt HX3.out.2.1,g2,⟨hJ.out.bel,hJ.out.box.2,(hJ.out.get (f:=.m (.int .u64 x6) (.slice p6 l6 q6) (Y)) 0 rfl),(hJ.out.get (f:=.m (.int .u64 x1) (.slice p1 l1 q1) (n)) 2 rfl),trivial⟩⟩
    case measure=>exact hlt
theorem ZR (c d:Value) (n k:Nat) (w:World) (h:ah w c d n) (hk:k≤8589934592) (hn:n<B64 ^ k):Calls Tryz.prog 169 #[.agg #[c,d]] w (Ce w n):=by
 obtain ⟨x,p,l,q,rfl,rfl⟩:=h.shape
 rcases Nat.eq_zero_or_pos n with h0 | h0
 ·subst h0
  exact ZV x p l q w h
 ·exact ZT n k x p l q w h hk hn h0
end
section
open Go.RowKit Go.Sort
attribute [local go_sem] takes gK gJ gI
theorem Ze (k:Nat) (hk:k≤8796093022208) (w:World):Calls Tryz.prog 124 #[.int .i64 (k:Int)] w (aY w (((2 ^ k:Nat):Int):Rat)):=by
 have HM:=hid (fun (W:World)=>Md 1 k 1 _ _ W (qG _ 1 (by decide)) (by omega) hk (by decide))
 obtain ⟨X,hX⟩:∃ X,2 ^ k=X:=⟨_,rfl⟩
 rw [Nat.one_mul,hX] at HM
 rw [hX]
 clear hX
 go_enter Tryz.func124,Tryz.ntmps124
 go_wp2_with fail
 have hS0:=hid ((St.start w).alloc' (w.heap.size) (by simp) 32 z5)
 obtain ⟨W0,hW0⟩:=bI hS0
 rw [hW0] at hS0 ⊢
 clear hW0
 refine (HM.out _).mono ?_
 rintro e w1 ⟨c1,d1,rfl,hm1,hB⟩
 have hS1:=hid (hS0.out.call hB)
 clear hB
 clear hS0
 obtain ⟨x1,p1,l1,q1,rfl,rfl⟩:=hm1.shape
 have hS2:=hid (hS1.out.fact (.m (.int .u64 x1) (.slice p1 l1 q1) (X)) hm1)
 clear hS1 hm1
 go_wp2_with fail
 refine (uT _ _ _ _ _ _).mono ?_
 rintro e w2 ⟨rfl,hB⟩
 have hS3:=hid (hS2.out.call hB)
 clear hB
 clear hS2
 obtain ⟨⟨cR0,cR1,cR2,cR3,cR4⟩,fR0,fR1,fR2,fR3,fR4⟩:=hS3.out.f5 0 w.heap.size 32 (.bool false) (.int .u64 0) (.slice none 0 0) (.int .u64 0) (.slice none 0 0) rfl
 have hS4:=hid (((((((hS3.out).store (b:=⟨w.heap.size,32,z5⟩) 0 0 (.bool false) rfl rfl).store (b:=⟨w.heap.size,32,z5⟩) 0 1 (.int .u64 x1) rfl rfl).store (b:=⟨w.heap.size,32,[.bool false,.int .u64 x1,.slice none 0 0,.int .u64 0,.slice none 0 0]⟩) 0 2 (.slice p1 l1 q1) rfl rfl).store (b:=⟨w.heap.size,32,[.bool false,.int .u64 x1,.slice p1 l1 q1,.int .u64 0,.slice none 0 0]⟩) 0 3 (.int .u64 0) rfl rfl).store (b:=⟨w.heap.size,32,[.bool false,.int .u64 x1,.slice p1 l1 q1,.int .u64 0,.slice none 0 0]⟩) 0 4 (.slice none 0 0) rfl rfl).as [⟨w.heap.size,32,[.bool false,.int .u64 x1,.slice p1 l1 q1,.int .u64 0,.slice none 0 0]⟩] rfl)
 go_wp2_with fail
 clear cR0 cR1 cR2 cR3 cR4 fR0 fR1 fR2 fR3 fR4
 obtain ⟨⟨zR0,zR1,zR2,zR3,zR4⟩,-⟩:=hS4.out.f5 0 w.heap.size 32 (.bool false) (.int .u64 x1) (.slice p1 l1 q1) (.int .u64 0) (.slice none 0 0) rfl
 have hq:=uj ((X:Nat):Int) (w:=(((((w2.setCell ⟨w.heap.size,0,none⟩ (.bool false)).setCell ⟨w.heap.size,1,none⟩ (.int .u64 x1)).setCell ⟨w.heap.size,2,none⟩ (.slice p1 l1 q1)).setCell ⟨w.heap.size,3,none⟩ (.int .u64 0)).setCell ⟨w.heap.size,4,none⟩ (.slice none 0 0))) (c:=.int .u64 x1) (d:=.slice p1 l1 q1) (by rw [Int.natAbs_natCast];exact (hS4.out.get (f:=.m (.int .u64 x1) (.slice p1 l1 q1) (X)) 0 rfl))
 rw [show decide (((X:Nat):Int)<0)=false from decide_eq_false (by omega)] at hq
 exact bodyPost_ret (v:=.agg #[.bool false,.int .u64 x1,.slice p1 l1 q1,.int .u64 0,.slice none 0 0]) (by simp [results,Tryz.results124,go_sem,zR0,zR1,zR2,zR3,zR4]) rfl ⟨_,rfl,hq,hS4.out.bel⟩
theorem KY (k:Nat) (hk:k≤64) (w:World):Calls Tryz.prog 123 #[.int .i64 (k:Int)] w (aZ w (.bool true)):=by
 go_enter Tryz.func123,Tryz.ntmps123
 go_wp2
 go_ret
 have h:(k:Int)≤64:=by omega
 refine ⟨?_,Below.refl _ _⟩
 show Ending.returned (.bool (decide ((k:Int)≤64)))=_
 rw [decide_eq_true h]
theorem UK (t:Bool) (x:Int) (p:Option Addr) (l q:Nat) (y:Int) (r:Option Addr) (s u:Nat) (W:World):(Instr.field 32 (.agg #[.bool t,.int .u64 x,.slice p l q,.int .u64 y,.slice r s u]) 0).run Tryz.prog W=.ok (.agg #[.bool t,.int .u64 x,.slice p l q]) W:=by
 kernel_rfl
theorem UL (t:Bool) (x:Int) (p:Option Addr) (l q:Nat) (W:World):(Instr.field 30 (.agg #[.bool t,.int .u64 x,.slice p l q]) 1).run Tryz.prog W=.ok (.agg #[.int .u64 x,.slice p l q]) W:=by
 kernel_rfl
theorem Va (r:Rat) (F:Nat) (hF:r.num / (r.den:Int)=(F:Int)) (v:Value) (k:Nat) (w:World) (h:IsQ w v r) (hk:k≤8589934592) (f:Fits k r):Calls Tryz.prog 125 #[v] w (fun e w'=>∃ s:Nat,s*s≤F∧F<(s+1)*(s+1)∧aY w (((s:Nat):Int):Rat) e w'):=by
 have HL:=hid (fun (W:World) (v:Value) (h:IsQ W v r)=>Ih r v k W h (by omega) f)
 rw [hF] at HL
 have hFk:F<B64 ^ k:=by
  have h1:=f.1
  have h2:(F:Int)≤(r.num.natAbs:Int):=by
   rw [← hF]
   refine Int.le_trans (Int.ediv_le_ediv (by have:=r.den_pos;omega) (Int.le_natAbs)) ?_
   exact Int.ediv_le_self _ (by omega)
  omega
 have HR:=hid (fun (W:World) (c d:Value) (h:ah W c d F)=>ZR c d F k W h hk hFk)
 obtain ⟨t1,x1,p1,l1,q1,y1,r1,s1,u1,rfl⟩:=h.open
 have HI:=hid h
 have hq0:=UK
 have hs1:=UL
 clear h hF hFk f
 go_enter Tryz.func125,Tryz.ntmps125
 go_wp2_with fail
 have hS0:=hid (((St.start w).alloc' (w.heap.size) (by simp) 32 (c5 t1 x1 p1 l1 q1 y1 r1 s1 u1)).alloc' (w.heap.size+1) (by simp) 32 z5)
 obtain ⟨W0,hW0⟩:=bI hS0
 rw [hW0] at hS0 ⊢
 clear hW0
 have hi1:=HI.out.below hS0.out.bel
 have hS1:=hid (hS0.out.fq hi1)
 clear hS0 hi1
 refine (HL.out _ _ (hS1.out.gq 0 rfl)).mono ?_
 rintro e w1 ⟨v2,rfl,hv2,hB⟩
 have hS2:=hid (hS1.out.call hB)
 clear hB
 clear hS1
 obtain ⟨t2,x2,p2,l2,q2,y2,r2,s2,u2,rfl,hm2,-,-⟩:=hv2.shape
 rw [show ((F:Int):Rat).num=(F:Int) from rfl,Int.natAbs_natCast] at hm2
 clear hv2
 have hS3:=hid (hS2.out.fact (.m (.int .u64 x2) (.slice p2 l2 q2) (F)) hm2)
 clear hS2 hm2
 go_wp2_with fail
 refine (HR.out _ _ _ (hS3.out.get (f:=.m (.int .u64 x2) (.slice p2 l2 q2) (F)) 0 rfl)).mono ?_
 rintro e w2 ⟨S,hs1',hs2',c3,d3,rfl,hm3,hB⟩
 have hS4:=hid (hS3.out.call hB)
 clear hB
 clear hS3
 obtain ⟨x3,p3,l3,q3,rfl,rfl⟩:=hm3.shape
 have HS:=hid (And.intro hs1' hs2')
 clear hs1' hs2'
 have hS5:=hid (hS4.out.fact (.m (.int .u64 x3) (.slice p3 l3 q3) (S)) hm3)
 clear hS4 hm3
 go_wp2_with fail
 refine (uT _ _ _ _ _ _).mono ?_
 rintro e w3 ⟨rfl,hB⟩
 have hS6:=hid (hS5.out.call hB)
 clear hB
 clear hS5
 obtain ⟨⟨cR0,cR1,cR2,cR3,cR4⟩,fR0,fR1,fR2,fR3,fR4⟩:=hS6.out.f5 0 (w.heap.size+1) 32 (.bool false) (.int .u64 0) (.slice none 0 0) (.int .u64 0) (.slice none 0 0) rfl
 have hS7:=hid (((((((hS6.out).store (b:=⟨w.heap.size+1,32,z5⟩) 0 0 (.bool false) rfl rfl).store (b:=⟨w.heap.size+1,32,z5⟩) 0 1 (.int .u64 x3) rfl rfl).store (b:=⟨w.heap.size+1,32,[.bool false,.int .u64 x3,.slice none 0 0,.int .u64 0,.slice none 0 0]⟩) 0 2 (.slice p3 l3 q3) rfl rfl).store (b:=⟨w.heap.size+1,32,[.bool false,.int .u64 x3,.slice p3 l3 q3,.int .u64 0,.slice none 0 0]⟩) 0 3 (.int .u64 0) rfl rfl).store (b:=⟨w.heap.size+1,32,[.bool false,.int .u64 x3,.slice p3 l3 q3,.int .u64 0,.slice none 0 0]⟩) 0 4 (.slice none 0 0) rfl rfl).as [⟨w.heap.size+1,32,[.bool false,.int .u64 x3,.slice p3 l3 q3,.int .u64 0,.slice none 0 0]⟩,⟨w.heap.size,32,(c5 t1 x1 p1 l1 q1 y1 r1 s1 u1)⟩] rfl)
 go_wp2_with fail
 clear cR0 cR1 cR2 cR3 cR4 fR0 fR1 fR2 fR3 fR4
 obtain ⟨⟨zR0,zR1,zR2,zR3,zR4⟩,-⟩:=hS7.out.f5 0 (w.heap.size+1) 32 (.bool false) (.int .u64 x3) (.slice p3 l3 q3) (.int .u64 0) (.slice none 0 0) rfl
 have hq:=uj ((S:Nat):Int) (w:=(((((w3.setCell ⟨w.heap.size+1,0,none⟩ (.bool false)).setCell ⟨w.heap.size+1,1,none⟩ (.int .u64 x3)).setCell ⟨w.heap.size+1,2,none⟩ (.slice p3 l3 q3)).setCell ⟨w.heap.size+1,3,none⟩ (.int .u64 0)).setCell ⟨w.heap.size+1,4,none⟩ (.slice none 0 0))) (c:=.int .u64 x3) (d:=.slice p3 l3 q3) (by rw [Int.natAbs_natCast];exact (hS7.out.get (f:=.m (.int .u64 x3) (.slice p3 l3 q3) (S)) 0 rfl))
 rw [show decide (((S:Nat):Int)<0)=false from decide_eq_false (by omega)] at hq
 exact bodyPost_ret (v:=.agg #[.bool false,.int .u64 x3,.slice p3 l3 q3,.int .u64 0,.slice none 0 0]) (by simp [results,Tryz.results125,go_sem,zR0,zR1,zR2,zR3,zR4]) rfl ⟨S,HS.out.1,HS.out.2,_,rfl,hq,hS7.out.bel⟩
end
section
open Go.RowKit Go.Sort
attribute [local go_sem] takes gK gJ gI
def RtV (F:Nat) (P:Rat) (v:Value) (W:World):Prop:=∃ S:Nat,S*S≤F∧F<(S+1)*(S+1)∧IsQ W v ((((S:Nat):Int):Rat) / P)
theorem NZ {F:Nat} {P:Rat}:∀ v W W',Below W.heap.size W W'→RtV F P v W→RtV F P v W':=fun _ _ _ hb ⟨S,h1,h2,h3⟩=>⟨S,h1,h2,h3.below hb⟩
theorem RtV.elim {G:Prop} {F:Nat} {P:Rat} {v:Value} {W:World} (h:RtV F P v W) (k:∀ S:Nat,S*S≤F→F<(S+1)*(S+1)→IsQ W v ((((S:Nat):Int):Rat) / P)→G):G:=by
 obtain ⟨S,h1,h2,h3⟩:=h
 exact k S h1 h2 h3
theorem JR (x:Rat):x / 1=x:=by grind
theorem Iz (r:Rat) (F g:Nat) (hg:g≤64) (P:Rat) (hP:(((2 ^ g:Nat):Int):Rat)=P) (R2:Rat) (hR2:r*P*P=R2) (hF:R2.num / (R2.den:Int)=(F:Int)) (hr:decide (r.num<0)=false) (v:Value) (k:Nat) (w:World) (h:IsQ w v r) (hk:k≤8589934592) (f0:Fits k r) (f1:Fits k P) (f2:Fits k (r*P)) (f3:Fits k R2) (hE:Env w) :
  Calls Tryz.prog 49 #[v,.int .i64 (g:Int)] w (fun e w'=>∃ S:Nat,S*S≤F∧F<(S+1)*(S+1)∧cO w ((((S:Nat):Int):Rat) / P) 0 e w'):=by
 have hP0:P≠0:=by
  rw [← hP]
  intro h
  have h1:((2 ^ g:Nat):Int)=0:=Rat.intCast_eq_zero_iff.1 h
  have h2:0<2 ^ g:=Nat.two_pow_pos g
  omega
 have HG:=hid (fun (W:World)=>KY g hg W)
 have HP:=hid (fun (W:World)=>hP ▸ Ze g (by omega) W)
 obtain ⟨R1,hR1⟩:∃ R1,r*P=R1:=⟨_,rfl⟩
 rw [hR1] at f2 hR2
 have HM1:=hid (fun (W:World) (v1 v2:Value) (i:IsQ W v1 r) (j:IsQ W v2 P) (hT:Tab W)=>hR1 ▸ ni r P v1 v2 k W i j (by omega) f0 f1 hT)
 have HM2:=hid (fun (W:World) (v1 v2:Value) (i:IsQ W v1 R1) (j:IsQ W v2 P) (hT:Tab W)=>hR2 ▸ ni R1 P v1 v2 k W i j (by omega) f2 f1 hT)
 have HR:=hid (fun (W:World) (v:Value) (h:IsQ W v R2)=>Va R2 F hF v k W h hk f3)
 have hFk:F<B64 ^ k:=by
  have h1:=f3.1
  have h2:(F:Int)≤(R2.num.natAbs:Int):=by
   rw [← hF]
   refine Int.le_trans (Int.ediv_le_ediv (by have:=R2.den_pos;omega) (Int.le_natAbs)) ?_
   exact Int.ediv_le_self _ (by omega)
  omega
 have HO:=hid (fun (S:Nat) (hS:S*S≤F) (W:World) (v1 v2:Value) (i:IsQ W v1 ((S:Int):Rat)) (j:IsQ W v2 P) (hT:Tab W)=>rQ ((S:Int):Rat) P v1 v2 k W i j (by omega) hP0 (by
  have h1:S≤S*S:=Nat.le_mul_self S
  have h2:1<B64 ^ k:=Nat.lt_of_le_of_lt (Nat.one_le_iff_ne_zero.2 (by have:=P.den_pos;omega)) f1.2
  exact ⟨by show (S:Int).natAbs<_;omega,h2⟩) f1 hT)
 have HE:=hid hE
 have hk1:=hid (And.intro hF hFk)
 obtain ⟨t1,x1,p1,l1,q1,y1,r1,s1,u1,rfl⟩:=h.open
 have hneg:t1=false:=by
  have:=(IsQ.shape h)
  obtain ⟨t,x,p,l,q,y,p',s,u,e,-,-,e'⟩:=this
  have h1:=e'.out
  cases e
  rw [h1,hr]
 subst hneg
 have HI:=hid h
 clear h hP hR2 hF hr f0 f1 f2 f3 hE hP0 hR1 hFk
 go_enter Tryz.func49,Tryz.ntmps49
 go_wp2_with fail
 have hS0:=hid (((St.start w).alloc' (w.heap.size) (by simp) 32 (c5 false x1 p1 l1 q1 y1 r1 s1 u1)).alloc' (w.heap.size+1) (by simp) 32 z5)
 obtain ⟨W0,hW0⟩:=bI hS0
 rw [hW0] at hS0 ⊢
 clear hW0
 have hi1:=HI.out.below hS0.out.bel
 have hS1:=hid (hS0.out.fq hi1)
 clear hS0 hi1
 refine (HG.out _).mono ?_
 rintro e w1 ⟨rfl,hB⟩
 have hS2:=hid (hS1.out.call hB)
 clear hB
 clear hS1
 obtain ⟨⟨cA0,cA1,cA2,cA3,cA4⟩,fA0,fA1,fA2,fA3,fA4⟩:=hS2.out.f5 1 w.heap.size 32 (.bool false) (.int .u64 x1) (.slice p1 l1 q1) (.int .u64 y1) (.slice r1 s1 u1) rfl
 go_wp2_with fail
 clear cA0 cA1 cA2 cA3 cA4 fA0 fA1 fA2 fA3 fA4
 refine (HP.out _).mono ?_
 rintro e w2 ⟨v2,rfl,hv2,hB⟩
 have hS3:=hid (hS2.out.call hB)
 clear hB
 clear hS2
 obtain ⟨t2,x2,p2,l2,q2,y2,r2,s2,u2,rfl⟩:=hv2.open
 have hS4:=hid (hS3.out.fq hv2)
 clear hS3 hv2
 obtain ⟨ne1l,ne1,ne1'⟩:=hS4.out.ne 1 w.heap.size 32 (c5 false x1 p1 l1 q1 y1 r1 s1 u1) rfl
 obtain ⟨ne2l,ne2,ne2'⟩:=hS4.out.ne 0 (w.heap.size+1) 32 z5 rfl
 obtain ⟨⟨cA0,cA1,cA2,cA3,cA4⟩,fA0,fA1,fA2,fA3,fA4⟩:=hS4.out.f5 1 w.heap.size 32 (.bool false) (.int .u64 x1) (.slice p1 l1 q1) (.int .u64 y1) (.slice r1 s1 u1) rfl
 go_wp2_with fail
 clear cA0 cA1 cA2 cA3 cA4 fA0 fA1 fA2 fA3 fA4
 have hS5:=hid ((hS4.out).alloc' (w2.heap.size) (by simp) 32 (c5 t2 x2 p2 l2 q2 y2 r2 s2 u2))
 obtain ⟨W3,hW3⟩:=bI hS5
 rw [hW3] at hS5 ⊢
 clear hW3
 have LM0:=hid (fun (W:World) (h:Below W3.heap.size W3 W)=>((hS5.out.call h).f5 2 w.heap.size 32 (.bool false) (.int .u64 x1) (.slice p1 l1 q1) (.int .u64 y1) (.slice r1 s1 u1) rfl).1)
 have LM1:=hid (fun (W:World) (h:Below W3.heap.size W3 W)=>((hS5.out.call h).f5 0 w2.heap.size 32 (.bool t2) (.int .u64 x2) (.slice p2 l2 q2) (.int .u64 y2) (.slice r2 s2 u2) rfl).1)
 have LM2:=hid (fun (W:World) (h:Below W3.heap.size W3 W)=>HE.out.below (hS5.out.call h).bel (Nat.le_refl _))
 refine jk 8 [⟨[],[0]⟩,⟨[],[1]⟩,⟨[0,1],[2]⟩,⟨[],[3]⟩,⟨[2,3],[4]⟩,⟨[4],[5]⟩,⟨[],[6]⟩,⟨[5,6],[7]⟩]
  [oE (.agg #[.bool false,.int .u64 x1,.slice p1 l1 q1,.int .u64 y1,.slice r1 s1 u1]),oE (.agg #[.bool t2,.int .u64 x2,.slice p2 l2 q2,.int .u64 y2,.slice r2 s2 u2]),oQ (R1),oE (.agg #[.bool t2,.int .u64 x2,.slice p2 l2 q2,.int .u64 y2,.slice r2 s2 u2]),oQ (R2),one (RtV F 1),oE (.agg #[.bool t2,.int .u64 x2,.slice p2 l2 q2,.int .u64 y2,.slice r2 s2 u2]),one (RtV F P)]
  (fun _ W=>Below W3.heap.size W3 W) (by kernel_rfl) (by kernel_rfl) ?hTW4 ?hZW4 ?hOW4 ?hEW4
 case hZW4=>exact (Below.refl _ _).drew
 case hTW4 =>
  simp only [List.forall_mem_cons,List.not_mem_nil,false_imp_iff,implies_true,and_true]
  exact ⟨bE,bE,bQ,bE,bQ,aP NZ,bE,aP NZ⟩
 case hOW4 =>
  intro u
  simp only [List.take_succ_cons,List.take_zero,aI]
  repeat' (first | with_reducible exact gY | with_reducible refine gX ?_ ?_)
  ·intro W hS hF K hK
   have hcA:=LM0.out W hS
   go_simp
   exact hK _ _ (.refl _ _) hS rfl
  ·intro W hS hF K hK
   have hcP:=LM1.out W hS
   go_simp
   exact hK _ _ (.refl _ _) hS rfl
  ·intro W hS hF K hK
   have h0:u 0=.agg #[.bool false,.int .u64 x1,.slice p1 l1 q1,.int .u64 y1,.slice r1 s1 u1]:=hF.1
   have h1:u 1=.agg #[.bool t2,.int .u64 x2,.slice p2 l2 q2,.int .u64 y2,.slice r2 s2 u2]:=hF.2.1
   have sH:=hid (hS5.out.call hS)
   clear hF
   go_simp
   refine (HM1.out _ _ _ (sH.out.get (f:=.q (.agg #[.bool false,.int .u64 x1,.slice p1 l1 q1,.int .u64 y1,.slice r1 s1 u1]) (r)) 1 rfl) (sH.out.get (f:=.q (.agg #[.bool t2,.int .u64 x2,.slice p2 l2 q2,.int .u64 y2,.slice r2 s2 u2]) (P)) 0 rfl) (LM2.out W hS).tz).mono ?_
   rintro e wA ⟨v,rfl,hv,hBA⟩
   exact ⟨_,rfl,hK _ _ hBA (hS.trans (hBA.mono hS.size)) hv⟩
  ·intro W hS hF K hK
   have hcP:=LM1.out W hS
   go_simp
   exact hK _ _ (.refl _ _) hS rfl
  ·intro W hS hF K hK
   have hq2:IsQ W (u 2) (R1):=hF.1
   have h3:u 3=.agg #[.bool t2,.int .u64 x2,.slice p2 l2 q2,.int .u64 y2,.slice r2 s2 u2]:=hF.2.1
   have sH:=hid (hS5.out.call hS)
   clear hF
   go_simp
   refine (HM2.out _ _ _ hq2 (sH.out.get (f:=.q (.agg #[.bool t2,.int .u64 x2,.slice p2 l2 q2,.int .u64 y2,.slice r2 s2 u2]) (P)) 0 rfl) (LM2.out W hS).tz).mono ?_
   rintro e wA ⟨v,rfl,hv,hBA⟩
   exact ⟨_,rfl,hK _ _ hBA (hS.trans (hBA.mono hS.size)) hv⟩
  ·intro W hS hF K hK
   have hq4:IsQ W (u 4) (R2):=hF.1
   clear hF
   go_simp
   refine (HR.out _ _ hq4).mono ?_
   rintro e wA ⟨S,hs1,hs2,v,rfl,hv,hBA⟩
   exact ⟨_,rfl,hK _ _ hBA (hS.trans (hBA.mono hS.size)) ⟨S,hs1,hs2,by rw [JR];exact hv⟩⟩
  ·intro W hS hF K hK
   have hcP:=LM1.out W hS
   go_simp
   exact hK _ _ (.refl _ _) hS rfl
  ·intro W hS hF K hK
   have hk5:RtV F 1 (u 5) W:=hF.1;with_reducible refine RtV.elim hk5 ?_;intro S5 hs5 ht5 hq5;rw [JR] at hq5
   have h6:u 6=.agg #[.bool t2,.int .u64 x2,.slice p2 l2 q2,.int .u64 y2,.slice r2 s2 u2]:=hF.2.1
   have sH:=hid (hS5.out.call hS)
   clear hF
   go_simp
   refine (HO.out S5 hs5 _ _ _ hq5 (sH.out.get (f:=.q (.agg #[.bool t2,.int .u64 x2,.slice p2 l2 q2,.int .u64 y2,.slice r2 s2 u2]) (P)) 0 rfl) (LM2.out W hS).tz).mono ?_
   rintro e wA ⟨v,rfl,hv,hBA⟩
   exact ⟨_,rfl,hK _ _ hBA (hS.trans (hBA.mono hS.size)) ⟨S5,hs5,ht5,hv⟩⟩
 case hEW4 =>
  intro u W4 hS hF
  have hS6:=hid (hS5.out.call hS)
  have hk7:RtV F P (u 7) W4:=hF.2.2.2.2.2.2.2.1
  clear hF hS
  obtain ⟨S,hs,ht,hv0⟩:=hk7
  obtain ⟨t9,x9,p9,l9,q9,y9,r9,s9,u9,e9⟩:=hv0.open
  have hv9:IsQ W4 (.agg #[.bool t9,.int .u64 x9,.slice p9 l9 q9,.int .u64 y9,.slice r9 s9 u9]) ((((S:Nat):Int):Rat) / P):=e9 ▸ hv0
  have HS:=hid (And.intro hs ht)
  clear hv0 hs ht
  have hS7:=hid (hS6.out.fq hv9)
  clear hS6 hv9
  obtain ⟨⟨cR0,cR1,cR2,cR3,cR4⟩,fR0,fR1,fR2,fR3,fR4⟩:=hS7.out.f5 1 (w.heap.size+1) 32 (.bool false) (.int .u64 0) (.slice none 0 0) (.int .u64 0) (.slice none 0 0) rfl
  simp only [List.take_succ_cons,List.take_zero,aI,List.drop_succ_cons,List.drop_zero]
  have hS8:=hid (((((((hS7.out).store (b:=⟨w.heap.size+1,32,z5⟩) 1 0 (.bool t9) rfl rfl).store (b:=⟨w.heap.size+1,32,[.bool t9,.int .u64 0,.slice none 0 0,.int .u64 0,.slice none 0 0]⟩) 1 1 (.int .u64 x9) rfl rfl).store (b:=⟨w.heap.size+1,32,[.bool t9,.int .u64 x9,.slice none 0 0,.int .u64 0,.slice none 0 0]⟩) 1 2 (.slice p9 l9 q9) rfl rfl).store (b:=⟨w.heap.size+1,32,[.bool t9,.int .u64 x9,.slice p9 l9 q9,.int .u64 0,.slice none 0 0]⟩) 1 3 (.int .u64 y9) rfl rfl).store (b:=⟨w.heap.size+1,32,[.bool t9,.int .u64 x9,.slice p9 l9 q9,.int .u64 y9,.slice none 0 0]⟩) 1 4 (.slice r9 s9 u9) rfl rfl).as [⟨w2.heap.size,32,(c5 t2 x2 p2 l2 q2 y2 r2 s2 u2)⟩,⟨w.heap.size+1,32,(c5 t9 x9 p9 l9 q9 y9 r9 s9 u9)⟩,⟨w.heap.size,32,(c5 false x1 p1 l1 q1 y1 r1 s1 u1)⟩] rfl)
  go_wp2_with fail
  clear cR0 cR1 cR2 cR3 cR4 fR0 fR1 fR2 fR3 fR4
  obtain ⟨⟨zR0,zR1,zR2,zR3,zR4⟩,-⟩:=hS8.out.f5 1 (w.heap.size+1) 32 (.bool t9) (.int .u64 x9) (.slice p9 l9 q9) (.int .u64 y9) (.slice r9 s9 u9) rfl
  exact bodyPost_ret (v:=.tuple #[.agg #[.bool t9,.int .u64 x9,.slice p9 l9 q9,.int .u64 y9,.slice r9 s9 u9],.int .i64 0]) (by simp [results,Tryz.results49,go_sem,zR0,zR1,zR2,zR3,zR4]) rfl ⟨S,HS.out.1,HS.out.2,_,rfl,(hS8.out.gq 0 rfl),hS8.out.bel⟩
end
section
open Go.RowKit Go.Sort
attribute [local go_sem] takes gK gJ gI
theorem Gi (l s top bottom:List UInt8) (w:World) (hl:l.length≤1000) (hs:Lib.trimPrefix l [45]=s) (hneg:Lib.hasPrefix l [45]=false) (hc:Lib.cut s [47]=(top,bottom,true)) (h1:oP top=true) (h2:oP bottom=true) (h0:dv bottom≠0) (hsl:s.length≤1000) (htl:top.length≤1000) (hbl:bottom.length≤1000) (hE:Env w) :
  Calls Tryz.prog 112 #[.string ⟨l.toArray⟩] w (cO w (mkRat (zs false (dv top)) (dv bottom)) 0):=by
 have HC:=hid (fun (W:World)=>JH l W)
 have HU:=hid (fun (W:World) (hM:nD W)=>Ew s 47 W (by omega) hM)
 rw [hs,hneg] at HC
 rw [hc] at HU
 have HI1:=hid (fun (W:World)=>EZ top W (by omega))
 have HI2:=hid (fun (W:World)=>EZ bottom W (by omega))
 rw [h1] at HI1
 rw [h2] at HI2
 have a1:top.all bU=true:=by simp only [oP,Bool.and_eq_true] at h1;exact h1.1.2
 have a2:bottom.all bU=true:=by simp only [oP,Bool.and_eq_true] at h2;exact h2.1.2
 have HM1:=hid (fun (W:World)=>Ad top W a1 (by omega))
 have HM2:=hid (fun (W:World)=>Ad bottom W a2 (by omega))
 obtain ⟨K,hK⟩:∃ K,K=1020:=⟨_,rfl⟩
 have b1:dv top<B64 ^ K:=Nat.lt_trans (sS top a1) (pJ (by omega))
 have b2:dv bottom<B64 ^ K:=Nat.lt_trans (sS bottom a2) (pJ (by omega))
 obtain ⟨n,hn⟩:∃ n,dv top=n:=⟨_,rfl⟩
 obtain ⟨m,hm⟩:∃ m,dv bottom=m:=⟨_,rfl⟩
 rw [hn] at HM1 b1 ⊢
 rw [hm] at HM2 b2 h0 ⊢
 have HR:=hid (fun (c d e f:Value) (W:World) (i1:ah W c d n) (i2:ah W e f m) (hT:Tab W)=>AX false c d e f n m K W i1 i2 h0 (by omega) b1 b2 hT)
 have z1:(m == 0)=false:=by simpa using h0
 have HE:=hid hE
 obtain ⟨z,hz⟩:∃ z,(n == 0)=z:=⟨_,rfl⟩
 have HZ:=hid (fun (W:World) (c d:Value) (h:ah W c d n)=>hz ▸ dO c d n W h)
 have HZ2:=hid (fun (W:World) (c d:Value) (h:ah W c d m)=>z1 ▸ dO c d m W h)
 obtain ⟨R,hR⟩:∃ R,mkRat (zs false n) m=R:=⟨_,rfl⟩
 rw [hR] at HR ⊢
 clear hR hs hneg hc h1 h2 h0 hsl htl hbl hE a1 a2 hK b1 b2 hn hm hz z1
 go_enter Tryz.func112,Tryz.ntmps112
 go_wp2_with fail
 have hS0:=hid ((St.start w).alloc' (w.heap.size) (by simp) 32 z5)
 obtain ⟨W0,hW0⟩:=bI hS0
 rw [hW0] at hS0 ⊢
 clear hW0
 refine (HC.out _).mono ?_
 rintro e w1 ⟨rfl,hB⟩
 have hS1:=hid (hS0.out.call hB)
 clear hB
 clear hS0
 go_wp2_with fail
 refine (HU.out _ (HE.out.below hS1.out.bel (Nat.le_refl _)).max).mono ?_
 rintro e w2 ⟨rfl,hB⟩
 have hS2:=hid (hS1.out.call hB)
 clear hB
 clear hS1
 go_wp2_with fail
 refine (HI1.out _).mono ?_
 rintro e w9 ⟨rfl,rfl⟩
 go_wp2_with fail
 refine (HI2.out _).mono ?_
 rintro e w9 ⟨rfl,rfl⟩
 go_wp2_with fail
 refine (HM1.out _).mono ?_
 rintro e w3 ⟨c1,d1,rfl,hm1,hB⟩
 have hS3:=hid (hS2.out.call hB)
 clear hB
 clear hS2
 obtain ⟨x1,p1,l1,q1,rfl,rfl⟩:=hm1.shape
 have hS4:=hid (hS3.out.fact (.m (.int .u64 x1) (.slice p1 l1 q1) (n)) hm1)
 clear hS3 hm1
 obtain ⟨ne1l,ne1,ne1'⟩:=hS4.out.ne 0 w.heap.size 32 z5 rfl
 go_wp2_with fail
 have hS5:=hid (((hS4.out).alloc' (w3.heap.size) (by simp) 28 [.int .u64 x1,.slice p1 l1 q1]).alloc' (w3.heap.size+1) (by simp) 28 [.int .u64 1,.slice none 0 0])
 obtain ⟨W3,hW3⟩:=bI hS5
 rw [hW3] at hS5 ⊢
 clear hW3
 refine (HM2.out _).mono ?_
 rintro e w4 ⟨c2,d2,rfl,hm2,hB⟩
 have hS6:=hid (hS5.out.call hB)
 clear hB
 clear hS5
 obtain ⟨x2,p2,l2,q2,rfl,rfl⟩:=hm2.shape
 have hS7:=hid (hS6.out.fact (.m (.int .u64 x2) (.slice p2 l2 q2) (m)) hm2)
 clear hS6 hm2
 obtain ⟨⟨cs0,cs1⟩,fs0,fs1⟩:=hS7.out.f2 1 w3.heap.size 28 (.int .u64 x1) (.slice p1 l1 q1) rfl
 obtain ⟨⟨cu0,cu1⟩,fu0,fu1⟩:=hS7.out.f2 0 (w3.heap.size+1) 28 (.int .u64 1) (.slice none 0 0) rfl
 go_wp2_with fail
 clear cs0 cs1 fs0 fs1 cu0 cu1 fu0 fu1
 have hS8:=hid ((((hS7.out).store (b:=⟨w3.heap.size+1,28,[.int .u64 1,.slice none 0 0]⟩) 0 0 (.int .u64 x2) rfl rfl).store (b:=⟨w3.heap.size+1,28,[.int .u64 x2,.slice none 0 0]⟩) 0 1 (.slice p2 l2 q2) rfl rfl).as [⟨w3.heap.size+1,28,[.int .u64 x2,.slice p2 l2 q2]⟩,⟨w3.heap.size,28,[.int .u64 x1,.slice p1 l1 q1]⟩,⟨w.heap.size,32,z5⟩] rfl)
 obtain ⟨W4,hW4⟩:=bI hS8
 rw [hW4] at hS8 ⊢
 clear hW4
 refine (HZ2.out _ _ _ (hS8.out.get (f:=.m (.int .u64 x2) (.slice p2 l2 q2) (m)) 0 rfl)).mono ?_
 rintro e w5 ⟨rfl,hB⟩
 have hS9:=hid (hS8.out.call hB)
 clear hB
 clear hS8
 obtain ⟨⟨cs0,cs1⟩,fs0,fs1⟩:=hS9.out.f2 1 w3.heap.size 28 (.int .u64 x1) (.slice p1 l1 q1) rfl
 obtain ⟨⟨cu0,cu1⟩,fu0,fu1⟩:=hS9.out.f2 0 (w3.heap.size+1) 28 (.int .u64 x2) (.slice p2 l2 q2) rfl
 go_wp2_with fail
 clear cs0 cs1 fs0 fs1 cu0 cu1 fu0 fu1
 have LM0:=hid (fun (W:World) (h:Below w5.heap.size w5 W)=>((hS9.out.call h).f2 1 w3.heap.size 28 (.int .u64 x1) (.slice p1 l1 q1) rfl).1)
 have LM1:=hid (fun (W:World) (h:Below w5.heap.size w5 W)=>((hS9.out.call h).f2 0 (w3.heap.size+1) 28 (.int .u64 x2) (.slice p2 l2 q2) rfl).1)
 have LM2:=hid (fun (W:World) (h:Below w5.heap.size w5 W)=>HE.out.below (hS9.out.call h).bel (Nat.le_refl _))
 refine jk 10 [⟨[],[0]⟩,⟨[0],[1]⟩,⟨[1],[2]⟩,⟨[1],[3]⟩,⟨[1],[4]⟩,⟨[1],[5]⟩,⟨[],[6]⟩,⟨[5,6],[7]⟩,⟨[],[8]⟩,⟨[7,8],[9]⟩]
  [oE (.bool false),oE (.bool false),oE undef,oE undef,oE undef,oE (.bool false),oE (.agg #[.int .u64 x1,.slice p1 l1 q1]),oE (.agg #[.bool false,.int .u64 x1,.slice p1 l1 q1]),oE (.agg #[.int .u64 x2,.slice p2 l2 q2]),oQ (R)]
  (fun _ W=>Below w5.heap.size w5 W) (by kernel_rfl) (by kernel_rfl) ?hTW6 ?hZW6 ?hOW6 ?hEW6
 case hZW6=>exact (Below.refl _ _).drew
 case hTW6 =>
  simp only [List.forall_mem_cons,List.not_mem_nil,false_imp_iff,implies_true,and_true]
  exact ⟨bE,bE,bE,bE,bE,bE,bE,bE,bE,bQ⟩
 case hOW6 =>
  intro u
  simp only [List.take_succ_cons,List.take_zero,aI]
  repeat' (first | with_reducible exact gY | with_reducible refine gX ?_ ?_)
  ·intro W hS hF K hK
   go_simp
   exact hK _ _ (.refl _ _) hS rfl
  ·intro W hS hF K hK
   have h0:u 0=.bool false:=hF.1
   clear hF
   go_simp
   exact hK _ _ (.refl _ _) hS rfl
  ·intro W hS hF K hK
   have h1:u 1=.bool false:=hF.1
   clear hF
   go_simp
   exact hK _ _ (.refl _ _) hS rfl
  ·intro W hS hF K hK
   have h1:u 1=.bool false:=hF.1
   clear hF
   go_simp
   exact hK _ _ (.refl _ _) hS rfl
  ·intro W hS hF K hK
   have h1:u 1=.bool false:=hF.1
   clear hF
   go_simp
   exact hK _ _ (.refl _ _) hS rfl
  ·intro W hS hF K hK
   have h1:u 1=.bool false:=hF.1
   clear hF
   go_simp
   exact hK _ _ (.refl _ _) hS rfl
  ·intro W hS hF K hK
   have hcs:=LM0.out W hS
   go_simp
   exact hK _ _ (.refl _ _) hS rfl
  ·intro W hS hF K hK
   have h5:u 5=.bool false:=hF.1
   have h6:u 6=.agg #[.int .u64 x1,.slice p1 l1 q1]:=hF.2.1
   clear hF
   go_simp
   exact hK _ _ (.refl _ _) hS rfl
  ·intro W hS hF K hK
   have hcu:=LM1.out W hS
   go_simp
   exact hK _ _ (.refl _ _) hS rfl
  ·intro W hS hF K hK
   have h7:u 7=.agg #[.bool false,.int .u64 x1,.slice p1 l1 q1]:=hF.1
   have h8:u 8=.agg #[.int .u64 x2,.slice p2 l2 q2]:=hF.2.1
   have sH:=hid (hS9.out.call hS)
   clear hF
   go_simp
   refine (HR.out _ _ _ _ _ (sH.out.get (f:=.m (.int .u64 x1) (.slice p1 l1 q1) (n)) 1 rfl) (sH.out.get (f:=.m (.int .u64 x2) (.slice p2 l2 q2) (m)) 0 rfl) (LM2.out W hS).tz).mono ?_
   rintro e wA ⟨v,rfl,hv,hBA⟩
   exact ⟨_,rfl,hK _ _ hBA (hS.trans (hBA.mono hS.size)) hv⟩
 case hEW6 =>
  intro u W6 hS hF
  have hS10:=hid (hS9.out.call hS)
  have hv0:IsQ W6 (u 9) R:=hF.2.2.2.2.2.2.2.2.2.1
  clear hF hS
  obtain ⟨t9,x9,p9,l9,q9,y9,r9,s9,u9,e9⟩:=hv0.open
  have hv9:IsQ W6 (.agg #[.bool t9,.int .u64 x9,.slice p9 l9 q9,.int .u64 y9,.slice r9 s9 u9]) R:=e9 ▸ hv0
  clear hv0
  have hS11:=hid (hS10.out.fq hv9)
  clear hS10 hv9
  obtain ⟨⟨cR0,cR1,cR2,cR3,cR4⟩,fR0,fR1,fR2,fR3,fR4⟩:=hS11.out.f5 2 w.heap.size 32 (.bool false) (.int .u64 0) (.slice none 0 0) (.int .u64 0) (.slice none 0 0) rfl
  simp only [List.take_succ_cons,List.take_zero,aI,List.drop_succ_cons,List.drop_zero]
  have hS12:=hid (((((((hS11.out).store (b:=⟨w.heap.size,32,z5⟩) 2 0 (.bool t9) rfl rfl).store (b:=⟨w.heap.size,32,[.bool t9,.int .u64 0,.slice none 0 0,.int .u64 0,.slice none 0 0]⟩) 2 1 (.int .u64 x9) rfl rfl).store (b:=⟨w.heap.size,32,[.bool t9,.int .u64 x9,.slice none 0 0,.int .u64 0,.slice none 0 0]⟩) 2 2 (.slice p9 l9 q9) rfl rfl).store (b:=⟨w.heap.size,32,[.bool t9,.int .u64 x9,.slice p9 l9 q9,.int .u64 0,.slice none 0 0]⟩) 2 3 (.int .u64 y9) rfl rfl).store (b:=⟨w.heap.size,32,[.bool t9,.int .u64 x9,.slice p9 l9 q9,.int .u64 y9,.slice none 0 0]⟩) 2 4 (.slice r9 s9 u9) rfl rfl).as [⟨w3.heap.size+1,28,[.int .u64 x2,.slice p2 l2 q2]⟩,⟨w3.heap.size,28,[.int .u64 x1,.slice p1 l1 q1]⟩,⟨w.heap.size,32,(c5 t9 x9 p9 l9 q9 y9 r9 s9 u9)⟩] rfl)
  go_wp2_with fail
  clear cR0 cR1 cR2 cR3 cR4 fR0 fR1 fR2 fR3 fR4
  obtain ⟨⟨zR0,zR1,zR2,zR3,zR4⟩,-⟩:=hS12.out.f5 2 w.heap.size 32 (.bool t9) (.int .u64 x9) (.slice p9 l9 q9) (.int .u64 y9) (.slice r9 s9 u9) rfl
  exact bodyPost_ret (v:=.tuple #[.agg #[.bool t9,.int .u64 x9,.slice p9 l9 q9,.int .u64 y9,.slice r9 s9 u9],.int .i64 0]) (by simp [results,Tryz.results112,go_sem,zR0,zR1,zR2,zR3,zR4]) rfl ⟨_,rfl,(hS12.out.gq 0 rfl),hS12.out.bel⟩
end
end Go.Proofs.YthalajpklaodkaaGreatDoor
