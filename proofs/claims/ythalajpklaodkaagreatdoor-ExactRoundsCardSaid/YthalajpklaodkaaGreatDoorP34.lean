/- What the proof rests on, part 34. -/
import Derived.Test.YthalajpklaodkaaGreatDoorP33
import Derived.Test.YthalajpklaodkaaGreatDoorP32
import Derived.Test.YthalajpklaodkaaGreatDoorP06
namespace Go.Proofs.YthalajpklaodkaaGreatDoor
set_option maxRecDepth 100000
set_option maxHeartbeats 80000000
namespace Rx
open Go.RowKit
abbrev K3:Nat:=1024
abbrev y0:RE:=.v 0
abbrev y1:RE:=.v 1
abbrev y2:RE:=.v 2
abbrev y3:RE:=.v 3
abbrev Q2:List At:=[.q,.q]
abbrev R2:List At:=[.r,.r]
def rP (x:RE):RE:=.add (.c 1) x
def sqs (x y:RE):RE:=.add (.mul x x) (.mul y y)
def tR (e:RE):RE:=.div (.mul (.c 2) e) (.add (.c 1) (.mul e e))
def Qm (β:Nat→Rat) (h:Hint):Con (SQ β):=aZ β h 23 [[.r],[.r]] 16384 {} (.at [.r] [.sub y0 y1]) 32769
def Qr (β:Nat→Rat) (h:Hint):Con (SQ β):=aZ β h 13 [[.q],[.r]] K1 { eq:=[(y0,y1)] } (.bl true) K1
def Qs (β:Nat→Rat) (h:Hint):Con (SQ β):=aZ β h 13 [[.q],[.o]] K1 { eq:=[(y0,.c 0)] } (.bl true) K1
def c1 (β:Nat→Rat) (h:Hint):List (Con (SQ β)):=Qm β h :: Qr β h :: Qs β h :: c0 β h
def Qu (β:Nat→Rat) (h:Hint):Con (SQ β):=aZ β h 53 [Q2,R2] K1 { eq:=[(y0,y2),(y1,y3)] } (.bl true) K1
def Qw (β:Nat→Rat) (h:Hint):Con (SQ β):=aZ β h 68 [Q2,R2] K1 { eq:=[(y0,y2),(y1,y3)] } (.bl true) K1
def PZ (β:Nat→Rat) (h:Hint):Con (SQ β):=aZ β h 54 [Q2,Q2] K3 {} (.at Q2 [.add y0 y2,.add y1 y3]) K1
def Qy (β:Nat→Rat) (h:Hint):Con (SQ β):=aZ β h 56 [Q2,Q2] K3 {} (.at Q2 [.sub y0 y2,.sub y1 y3]) K1
def Qx (β:Nat→Rat) (h:Hint):Con (SQ β):=aZ β h 58 [Q2,[.q]] K3 {} (.at Q2 [.mul y0 y2,.mul y1 y2]) K1
def Qb (β:Nat→Rat) (h:Hint):Con (SQ β):=aZ β h 55 [R2,R2] K3 {} (.at R2 [.add y0 y2,.add y1 y3]) K1
def Qc (β:Nat→Rat) (h:Hint):Con (SQ β):=aZ β h 57 [R2,R2] K3 {} (.at R2 [.sub y0 y2,.sub y1 y3]) K1
def Ql (β:Nat→Rat) (h:Hint):Con (SQ β):=aZ β h 59 [R2,[.r]] K3 {} (.at R2 [.mul y0 y2,.mul y1 y2]) K1
def Qi (β:Nat→Rat) (h:Hint):Con (SQ β):=aZ β h 61 [R2,R2] K3 {} (.at [.r] [.add (.mul y0 y2) (.mul y1 y3)]) K1
def Qh (β:Nat→Rat) (h:Hint):Con (SQ β):=aZ β h 63 [R2,R2] K3 {} (.at [.r] [.sub (.mul y0 y3) (.mul y1 y2)]) K1
def Qd (β:Nat→Rat) (h:Hint):Con (SQ β):=aZ β h 65 [R2,R2] K3 {} (.at R2 [.sub (.mul y2 y0) (.mul y3 y1),.add (.mul y3 y0) (.mul y2 y1)]) K1
def Qn (β:Nat→Rat) (h:Hint):Con (SQ β):=aZ β h 72 [R2,R2] K3 {} (.at R2 [.sub (.mul y0 y2) (.mul y1 y3),.add (.mul y1 y2) (.mul y0 y3)]) K1
def Qg (β:Nat→Rat) (h:Hint):Con (SQ β):=aZ β h 74 [R2] K3 {} (.at R2 [y0,.neg y1]) K1
def Qo (β:Nat→Rat) (h:Hint):Con (SQ β):=aZ β h 70 [[.r]] K3 {} (.at R2 [tC y0,tR y0]) K1
def P8 (β:Nat→Rat) (h:Hint):Con (SQ β):=aZ β h 60 [Q2,Q2] K3 {} (.at [.q] [.add (.mul y0 y2) (.mul y1 y3)]) K1
def P7 (β:Nat→Rat) (h:Hint):Con (SQ β):=aZ β h 62 [Q2,Q2] K3 {} (.at [.q] [.sub (.mul y0 y3) (.mul y1 y2)]) K1
def Qe (β:Nat→Rat) (h:Hint):Con (SQ β):=aZ β h 64 [Q2,Q2] K3 {} (.at Q2 [.sub (.mul y2 y0) (.mul y3 y1),.add (.mul y3 y0) (.mul y2 y1)]) K1
def Qz (β:Nat→Rat) (h:Hint):Con (SQ β):=aZ β h 71 [Q2,Q2] K3 {} (.at Q2 [.sub (.mul y0 y2) (.mul y1 y3),.add (.mul y1 y2) (.mul y0 y3)]) K1
def P6 (β:Nat→Rat) (h:Hint):Con (SQ β):=aZ β h 73 [Q2] K3 {} (.at Q2 [y0,.neg y1]) K1
def P9 (β:Nat→Rat) (h:Hint):Con (SQ β):=aZ β h 66 [[.q,.q]] K3 { nz:=[rP y0] } (.atb [.q] [.div y1 (rP y0)] true) K1
def QA (β:Nat→Rat) (h:Hint):Con (SQ β):=aZ β h 75 [Q2] K3 { eq:=[(sqs y0 y1,.c 1)] } (.bl true) K1
def Qj (β:Nat→Rat) (h:Hint):Con (SQ β):=aZ β h 67 [[.r,.r]] K3 { nz:=[rP y0] } (.atb [.r] [.div y1 (rP y0)] true) K1
def Qa (β:Nat→Rat) (h:Hint):Con (SQ β):=aZ β h 66 [Q2] K3 { sg:=[(rP y0,0)] } (.atb [.q] [.c 0] false) K1
def Qk (β:Nat→Rat) (h:Hint):Con (SQ β):=aZ β h 67 [R2] K3 { sg:=[(rP y0,0)] } (.atb [.o] [.c 0] false) K1
def Qp (β:Nat→Rat) (h:Hint):Con (SQ β):=aZ β h 76 [R2] K3 { eq:=[(sqs y0 y1,.c 1)] } (.bl true) K1
def QB (β:Nat→Rat) (h:Hint):Con (SQ β):=aZ β h 75 [Q2] K3 { ne:=[(sqs y0 y1,.c 1)] } (.bl false) K1
def Qq (β:Nat→Rat) (h:Hint):Con (SQ β):=aZ β h 76 [R2] K3 { ne:=[(sqs y0 y1,.c 1)] } (.bl false) K1
def c2 (β:Nat→Rat) (h:Hint):List (Con (SQ β)):=P8 β h :: P7 β h :: Qe β h :: Qz β h :: P6 β h :: P9 β h :: QA β h :: Qu β h :: Qw β h :: PZ β h :: Qy β h :: Qx β h :: Qb β h :: Qc β h :: Ql β h :: Qi β h :: Qh β h :: Qd β h :: Qn β h :: Qg β h :: Qo β h :: Qj β h :: Qa β h :: Qk β h :: Qp β h :: QB β h :: Qq β h :: c1 β h
def c3 (β:Nat→Rat) (h:Hint):List (Con (SQ β)):=Nl β :: tZ β :: (c2 β h ++ cl1 β)
end Rx
namespace Nm
open Go.RowKit Rx
abbrev dX:RE:=.abs (.sub y1 y0)
abbrev dY:RE:=.abs (.sub y2 y0)
def pkV (o o2 o3:Int):Int:=if o=0 then (if o2=0 then o3 else o2) else o
def pkE (o o2 o3:Int):RE:=if 0<pkV o o2 o3 then y2 else y1
def pkH (o o2 o3:Int):Hint:={ cm:=[(dX,dY,o),(.den y1,.den y2,o2),(y1,y2,o3)] }
def cNr (β:Nat→Rat) (h:Hint):List (Con (SQ β)):=oC β 40 .den id :: cq β h
theorem MI {β:Nat→Rat} {h:Hint} (ok:h.Ok β):∀ c∈cNr β h,c.Ok Tryz.prog (SQ β) EV:=by
 unfold cNr
 simp only [List.forall_mem_cons]
 exact ⟨tY fun e k v W _ h1 h2 _=>⟨vC _ v W h1,(wS h2).2⟩,qH ok⟩
theorem Ut (β:Nat→Rat):(i3.all fun o=>i3.all fun o2=>i3.all fun o3=>isQ (pkE o o2 o3) (bG Tryz.prog (SQ β) (HQ β {} (kH β)) (cNr β (pkH o o2 o3)) 1 122 (qA [[.q],[.q],[.q]] 0) (gu Q3 0 (vars K1 0 3)) 6))=true:=by kernel_rfl
theorem MZ {X Y:Rat}:aH (((X.den:Nat):Int):Rat) (((Y.den:Nat):Int):Rat)=if X.den<Y.den then -1 else if X.den=Y.den then 0 else 1:=by
 by_cases h:X.den<Y.den
 ·rw [if_pos h];exact tX.2 (iV.2 (by omega))
 ·rw [if_neg h]
  by_cases h':X.den=Y.den
  ·rw [if_pos h'];exact oz.2 (by rw [h'])
  ·rw [if_neg h'];exact lJ.2 (iV.2 (by omega))
theorem U1 (A X Y:Rat):(pkE (aH (aF (X - A)) (aF (Y - A))) (aH (((X.den:Nat):Int):Rat) (((Y.den:Nat):Int):Rat)) (aH X Y)).ev (bet [A,X,Y])=pick A X Y:=by
 unfold pick pkE pkV
 rcases tri (aF (X - A) - aF (Y - A)) with h | h | h
 ·rw [tX.2 (show aF (X - A)<aF (Y - A) by grind),if_pos (show aF (X - A)<aF (Y - A) by grind)];rfl
 ·rw [oz.2 (show aF (X - A)=aF (Y - A) by grind),if_neg (show ¬ aF (X - A)<aF (Y - A) by grind),if_neg (show ¬ aF (Y - A)<aF (X - A) by grind),if_pos rfl,MZ]
  by_cases h1:X.den<Y.den
  ·rw [if_pos h1,if_pos h1];rfl
  ·rw [if_neg h1,if_neg h1]
   by_cases h2:X.den=Y.den
   ·rw [if_pos h2,if_pos rfl,if_neg (show ¬ Y.den<X.den by omega)]
    rcases tri (X - Y) with h3 | h3 | h3
    ·rw [tX.2 (show X<Y by grind),if_neg (show ¬ Y<X by grind)];rfl
    ·rw [oz.2 (show X=Y by grind),if_neg (show ¬ Y<X by grind)];rfl
    ·rw [lJ.2 (show Y<X by grind),if_pos (show Y<X by grind)];rfl
   ·rw [if_neg h2,if_pos (show Y.den<X.den by omega)];rfl
 ·rw [lJ.2 (show aF (Y - A)<aF (X - A) by grind),if_neg (show ¬ aF (X - A)<aF (Y - A) by grind),if_pos (show aF (Y - A)<aF (X - A) by grind)];rfl
theorem Us {A X Y:Rat} {va vx vy:Value} {w:World} (h0:IsQ w va A) (h1:IsQ w vx X) (h2:IsQ w vy Y) (f0:Fits K1 A) (f1:Fits K1 X) (f2:Fits K1 Y) (hE:EV w):Calls Tryz.prog 122 #[va,vx,vy] w (aV w (pick A X Y)):=by
 obtain ⟨c0,d0,rfl⟩:=kS h0
 obtain ⟨c1,d1,rfl⟩:=kS h1
 obtain ⟨c2,d2,rfl⟩:=kS h2
 rw [← U1]
 have hr:=List.all_eq_true.1 (List.all_eq_true.1 (List.all_eq_true.1 (Ut (bet [A,X,Y])) (aH (aF (X - A)) (aF (Y - A))) (mem3 (tK _ _))) (aH (((X.den:Nat):Int):Rat) (((Y.den:Nat):Int):Rat)) (mem3 (tK _ _))) (aH X Y) (mem3 (tK _ _))
 have ok:Hint.Ok (bet [A,X,Y]) (pkH (aH (aF (X - A)) (aF (Y - A))) (aH (((X.den:Nat):Int):Rat) (((Y.den:Nat):Int):Rat)) (aH X Y)):=by
  refine ⟨fun p h=>(by cases h),fun p h=>(by cases h),fun p h=>(by cases h),fun p h=>(by cases h),?_⟩
  simp only [pkH,List.forall_mem_cons,List.not_mem_nil,false_imp_iff,implies_true,and_true]
  exact ⟨rfl,rfl,rfl⟩
 have hg:∀ g∈gu Q3 0 (vars K1 0 3),(SQ (bet [A,X,Y])).on (ev [c0,d0,c1,d1,c2,d2]) g w:=by
  show ∀ g∈[Rx.Fc.q 0 y0 K1,.q 2 y1 K1,.q 4 y2 K1],Rx.Fc.on (bet [A,X,Y]) (ev [c0,d0,c1,d1,c2,d2]) g w
  simp only [List.forall_mem_cons,List.not_mem_nil,false_imp_iff,implies_true,and_true]
  exact ⟨⟨h0,f0⟩,⟨h1,f1⟩,⟨h2,f2⟩⟩
 have he:(List.map (SV.den (ev [c0,d0,c1,d1,c2,d2])) (qA [[.q],[.q],[.q]] 0)).toArray=#[qv c0 d0,qv c1 d1,qv c2 d2]:=rfl
 rw [← he]
 generalize aH (aF (X - A)) (aF (Y - A))=o at *
 generalize aH (((X.den:Nat):Int):Rat) (((Y.den:Nat):Int):Rat)=o2 at *
 generalize aH X Y=o3 at *
 have hc:=MI ok
 exact su hc hr hE hg
end Nm
namespace Nm
open Go.RowKit Go.Sort
attribute [local go_sem] takes fP fO fM
theorem Ul (a:Rat) (m c:Int) (v:Value) (w:World) (h:IsQ w v a) (hT:Tab w) (m1:1≤m) (m2:m<9223372036854775808) (hf:Fits 4 a) (hc:aH (((a.den:Nat):Int):Rat) (m:Rat)=c) (hc0:c = -1∨c=0) :
  Calls Tryz.prog 48 #[v,.int .i64 m] w (dG w a 0):=by
 obtain ⟨t1,x1,p1,l1,q1,y1,r1,s1,u1,rfl⟩:=h.open
 have H0:=hid h
 have HT:=hid hT
 have HM:=hid (fun (W:World)=>sQ m (by omega) (by omega) W)
 have HD:=hid (fun (W:World) (v1 v2:Value) (i:IsQ W v1 (((a.den:Nat):Int):Rat)) (j:IsQ W v2 (m:Rat))=>hc ▸ qh _ _ v1 v2 40 W i j (by omega) ((Rx.wS hf).2.mono (by decide)) ((rE (by omega) m2).mono (by decide)))
 clear h hT hf hc
 go_enter Tryz.func48,Tryz.ntmps48
 go_wp2_with fail
 have hS0:=hid (((St.start w).alloc' (w.heap.size) (by simp) 32 (c5 t1 x1 p1 l1 q1 y1 r1 s1 u1)).alloc' (w.heap.size+1) (by simp) 32 z5)
 obtain ⟨W0,hW0⟩:=aN hS0
 rw [hW0] at hS0 ⊢
 clear hW0
 have h1:=H0.out.below hS0.out.bel
 clear H0
 have hS1:=hid (hS0.out.fq h1)
 clear hS0 h1
 refine (HM.out _).mono ?_
 rintro e w1 ⟨v2,rfl,hv2,hB⟩
 have hS2:=hid (hS1.out.call hB)
 clear hB
 clear hS1
 obtain ⟨t2,x2,p2,l2,q2,y2,r2,s2,u2,rfl⟩:=hv2.open
 have hS3:=hid (hS2.out.fq hv2)
 clear hS2 hv2
 obtain ⟨ne1l,ne1,ne1'⟩:=hS3.out.ne 1 w.heap.size 32 (c5 t1 x1 p1 l1 q1 y1 r1 s1 u1) rfl
 obtain ⟨ne2l,ne2,ne2'⟩:=hS3.out.ne 0 (w.heap.size+1) 32 z5 rfl
 go_wp2_with fail
 have hS4:=hid ((hS3.out).alloc' (w1.heap.size) (by simp) 32 (c5 t2 x2 p2 l2 q2 y2 r2 s2 u2))
 obtain ⟨W1,hW1⟩:=aN hS4
 rw [hW1] at hS4 ⊢
 clear hW1
 have LM0:=hid (fun (W:World) (h:Below W1.heap.size W1 W)=>(hS4.out.call h).q5 2 1 w.heap.size 32 t1 x1 p1 l1 q1 y1 r1 s1 u1 a rfl rfl)
 have LM1:=hid (fun (W:World) (h:Below W1.heap.size W1 W)=>(hS4.out.call h).q5 0 0 w1.heap.size 32 t2 x2 p2 l2 q2 y2 r2 s2 u2 (m:Rat) rfl rfl)
 refine gU 5 [⟨[],[0]⟩,⟨[0],[1]⟩,⟨[],[2]⟩,⟨[1,2],[3]⟩,⟨[3],[4]⟩]
  [oQ a,oQ ((((a.den:Nat):Int):Rat)),oQ (m:Rat),oE (.int .i64 c),oE (.bool true)]
  (fun _ W=>Below W1.heap.size W1 W) (by kernel_rfl) (by kernel_rfl) ?hTW2 ?hZW2 ?hOW2 ?hEW2
 case hZW2=>exact (Below.refl _ _).drew
 case hTW2 =>
  simp only [List.forall_mem_cons,List.not_mem_nil,false_imp_iff,implies_true,and_true]
  exact ⟨bQ,bQ,bQ,bE,bE⟩
 case hOW2 =>
  intro u
  simp only [List.take_succ_cons,List.take_zero,aG]
  repeat' (first | with_reducible exact dQ | with_reducible refine dP ?_ ?_)
  ·intro W hS hF K hK
   have hc:=LM0.out W hS
   go_simp
   exact hK _ _ (.refl _ _) hS hc.2
  ·intro W hS hF K hK
   have hq0:IsQ W (u 0) a:=hF.1
   clear hF
   go_simp
   refine (vC a _ _ hq0).mono ?_
   rintro e wA ⟨v,rfl,hv,hBA⟩
   exact ⟨_,rfl,hK _ _ hBA (hS.trans (hBA.mono hS.size)) hv⟩
  ·intro W hS hF K hK
   have hc:=LM1.out W hS
   go_simp
   exact hK _ _ (.refl _ _) hS hc.2
  ·intro W hS hF K hK
   have hq1:IsQ W (u 1) ((((a.den:Nat):Int):Rat)):=hF.1
   have hq2:IsQ W (u 2) (m:Rat):=hF.2.1
   clear hF
   go_simp
   refine (HD.out _ _ _ hq1 hq2).mono ?_
   rintro e wA ⟨rfl,hBA⟩
   exact ⟨_,rfl,hK _ _ hBA (hS.trans (hBA.mono hS.size)) rfl⟩
  ·intro W hS hF K hK
   have h3:u 3=.int .i64 c:=hF.1
   clear hF
   rcases hc0 with rfl | rfl
   ·go_simp
    exact hK _ _ (.refl _ _) hS rfl
   go_simp
   exact hK _ _ (.refl _ _) hS rfl
 case hEW2 =>
  intro u W2 hS hF
  have hS5:=hid (hS4.out.call hS)
  have h4:u 4=.bool true:=hF.2.2.2.2.1
  clear hF hS HD
  simp only [List.take_succ_cons,List.take_zero,aG,List.drop_succ_cons,List.drop_zero,Nat.reduceAdd,h4]
  clear h4
  obtain ⟨⟨cA0,cA1,cA2,cA3,cA4⟩,fA0,fA1,fA2,fA3,fA4⟩:=hS5.out.f5 2 w.heap.size 32 (.bool t1) (.int .u64 x1) (.slice p1 l1 q1) (.int .u64 y1) (.slice r1 s1 u1) rfl
  obtain ⟨⟨cR0,cR1,cR2,cR3,cR4⟩,fR0,fR1,fR2,fR3,fR4⟩:=hS5.out.f5 1 (w.heap.size+1) 32 (.bool false) (.int .u64 0) (.slice none 0 0) (.int .u64 0) (.slice none 0 0) rfl
  have hS6:=hid ((((((hS5.out).store (b:=⟨w.heap.size+1,32,z5⟩) 1 0 (.bool t1) rfl rfl).store (b:=⟨w.heap.size+1,32,[.bool t1,.int .u64 0,.slice none 0 0,.int .u64 0,.slice none 0 0]⟩) 1 1 (.int .u64 x1) rfl rfl).store (b:=⟨w.heap.size+1,32,[.bool t1,.int .u64 x1,.slice none 0 0,.int .u64 0,.slice none 0 0]⟩) 1 2 (.slice p1 l1 q1) rfl rfl).store (b:=⟨w.heap.size+1,32,[.bool t1,.int .u64 x1,.slice p1 l1 q1,.int .u64 0,.slice none 0 0]⟩) 1 3 (.int .u64 y1) rfl rfl).store (b:=⟨w.heap.size+1,32,[.bool t1,.int .u64 x1,.slice p1 l1 q1,.int .u64 y1,.slice none 0 0]⟩) 1 4 (.slice r1 s1 u1) rfl rfl)
  go_wp2_with fail
  clear cA0 cA1 cA2 cA3 cA4 fA0 fA1 fA2 fA3 fA4 cR0 cR1 cR2 cR3 cR4 fR0 fR1 fR2 fR3 fR4
  obtain ⟨⟨zR0,zR1,zR2,zR3,zR4⟩,-⟩:=hS6.out.f5 1 (w.heap.size+1) 32 (.bool t1) (.int .u64 x1) (.slice p1 l1 q1) (.int .u64 y1) (.slice r1 s1 u1) rfl
  exact bodyPost_ret (v:=.tuple #[.agg #[.bool t1,.int .u64 x1,.slice p1 l1 q1,.int .u64 y1,.slice r1 s1 u1],.int .i64 0]) (by simp [results,Tryz.results48,go_sem,zR0,zR1,zR2,zR3,zR4]) rfl ⟨_,rfl,hS6.out.gq 1 rfl,hS6.out.bel⟩
end Nm
namespace Nm
open Go.RowKit Rx
open Classical in
noncomputable def jo (a:Rat) (m:Int):Rat:=if h:∃ r,jG a m r then Classical.choose h else 0
theorem Ce {a:Rat} {m:Int} {r:Rat} (h:jG a m r):jo a m=r:=by
 have h0:∃ r,jG a m r:=⟨r,h⟩
 unfold jo
 rw [dif_pos h0]
 exact Uo (Classical.choose_spec h0) h
theorem Ia {a:Rat} {m:Int} (hf:Fits 4 a) (h1:1≤m) (h2:m<9223372036854775808):jG a m (jo a m)∧Fits 40 (jo a m)∧∀ v w,IsQ w v a→EV w→Calls Tryz.prog 48 #[v,.int .i64 m] w (dG w (jo a m) 0):=by
 by_cases hd:m<(a.den:Int)
 ·obtain ⟨N,K,X,Y,hH,hp⟩:=Um hf h1 h2 hd
  rw [Ce hp]
  refine ⟨hp,?_,fun v w h hE=>?_⟩
  ·rcases (IB a X Y).1 with h | h <;> rw [h]
   ·exact hH.fX
   ·exact hH.fY
  ·exact Ic a m N 40 K X Y v w h hE.tz hH _ fun W va vx vy hB i0 i1 i2=>Us i0 i1 i2 (hf.mono (show 4≤1048576 by omega)) (hH.fX.mono (show 40≤1048576 by omega)) (hH.fY.mono (show 40≤1048576 by omega)) (je hE _ hB)
 ·have hs:=Ib (a:=a) (m:=m) (by omega)
  rw [Ce hs]
  refine ⟨hs,hf.mono (by decide),fun v w h hE=>Ul a m _ v w h hE.tz h1 h2 hf rfl ?_⟩
  have:=tV (x:=(a.den:Int)) (y:=m) (by omega)
  rcases tK (((a.den:Nat):Int):Rat) (m:Rat) with h | h | h
  ·exact .inl h
  ·exact .inr h
  ·exfalso
   have h':aH (((a.den:Nat):Int):Rat) (m:Rat)≤0:=this
   omega
end Nm
namespace Rx
open Go.RowKit
def wu (β:Nat→Rat) (f:FuncId) (L:List (RE×RE)) (sz:Nat→Nat):Con (SQ β) where
 fn:=f
 app:=fun db b args=>match args with
  | [.e (.a x)]=>match bZ db x with
   | some (e,k)=>if k≤1024 then (L.find? fun p=>p.1.beq e).map fun p=>(.e (.a (aJ b)),[.q b p.2 (sz k)]) else none
   | none=>none
  | _=>none
theorem Fg {β:Nat→Rat} {f:FuncId} {L:List (RE×RE)} {sz:Nat→Nat} (h:∀ p∈L,∀ k v W,k≤1024→IsQ W v (p.1.ev β)→Fits k (p.1.ev β)→EV W→Calls Tryz.prog f #[v] W (aV W (p.2.ev β))∧Fits (sz k) (p.2.ev β)):(wu β f L sz).Ok Tryz.prog (SQ β) EV:=by
 refine Con.ok0 rfl ?_
 intro db b args res new ha ρ W hf hE
 simp only [wu] at ha
 split at ha
 ·split at ha
  ·rename_i e k hx
   split at ha
   ·rename_i hk
    obtain ⟨p,hp,ha'⟩:=Option.map_eq_some_iff.1 ha
    cases ha'
    obtain ⟨⟨h1,h2⟩,-⟩:=dJ hx hf
    have hs:=List.find?_some hp
    rw [← RE.beq_eq hs] at h1 h2
    obtain ⟨g1,g2⟩:=h p (List.mem_of_find?_eq_some hp) k _ W hk h1 h2 hE
    exact nY g1 g2
   ·cases ha
  ·cases ha
 ·cases ha
def AA (β:Nat→Rat) (e0:RE) (L:List (RE×RE)):Con (SQ β) where
 fn:=48
 app:=fun db b args=>match args with
  | [.e (.a x),.e (.s (.oi i))]=>match bZ db x,gy db i with
   | some (e,k),some em=>if decide (k≤4) && e0.beq e then (L.find? fun p=>p.1.beq em).map fun p=>(.t [.a (aJ b),.s (.it .i64 0)],[.q b p.2 40]) else none
   | _,_=>none
  | _=>none
theorem NH {β:Nat→Rat} {e0:RE} {L:List (RE×RE)} (h:∀ p∈L,∀ m:Int,(m:Rat)=p.1.ev β→1≤m∧p.2.ev β=Nm.jo (e0.ev β) m):(AA β e0 L).Ok Tryz.prog (SQ β) EV:=by
 refine Con.ok0 rfl ?_
 intro db b args res new ha ρ W hf hE
 simp only [AA] at ha
 split at ha
 ·rename_i x i
  split at ha
  ·rename_i e k em hx hi
   split at ha
   ·rename_i hk
    simp only [Bool.and_eq_true,decide_eq_true_eq] at hk
    obtain ⟨p,hp,ha'⟩:=Option.map_eq_some_iff.1 ha
    cases ha'
    obtain ⟨⟨h1,h2⟩,-⟩:=dJ hx hf
    obtain ⟨i1,i2,i3⟩:=(show Fc.on β ρ (.i i em) W from hf _ (fU hi))
    have hs:=List.find?_some hp
    rw [← RE.beq_eq hs] at i3
    obtain ⟨m1,m2⟩:=h p (List.mem_of_find?_eq_some hp) _ i3
    rw [RE.beq_eq hk.2] at m2
    obtain ⟨-,g2,g3⟩:=Nm.Ia (h2.mono hk.1) m1 (by omega)
    have hc:=g3 _ W h1 hE
    rw [← m2] at hc g2
    exact lH hc g2
   ·cases ha
  ·cases ha
 ·cases ha
def Au (β:Nat→Rat) (i:Nat):Con (SQ β) where
 fn:=81
 app:=fun _ b args=>match args with
  | [.e (.s (.st s))]=>if s.data.toList=[49,47,50] then some (.e (.a (aJ b)),[.q b (.v i) 1]) else none
  | _=>none
theorem Nz {β:Nat→Rat} {i:Nat} (h:β i=mkRat 1 2):(Au β i).Ok Tryz.prog (SQ β) EV:=by
 refine Con.ok0 rfl ?_
 intro db b args res new ha ρ W hf hE
 simp only [Au] at ha
 split at ha
 ·rename_i s
  split at ha
  ·rename_i hs
   cases ha
   obtain ⟨⟨l⟩⟩:=s
   simp only at hs
   subst hs
   exact nY (e:=.v i) (Ig [49,47,50] (β i) 0 W (hid fun W' hb=>by rw [h];exact p12 W' (Env.below hE hb (Nat.le_refl _)))) (by show Fits 1 (β i);rw [h];exact jl rfl rfl)
  ·cases ha
 ·cases ha
end Rx
namespace Nm
theorem PI (r:Rat):flo r=fl r:=rfl
theorem tN {x y:Rat}:(y<x→aH x y=1)∧(x≤y→aH x y = -1∨aH x y=0):=by
 refine ⟨fun h=>Rx.lJ.2 h,fun h=>?_⟩
 by_cases h1:x=y
 ·exact .inr (Rx.oz.2 h1)
 ·exact .inl (Rx.tX.2 (Rat.lt_of_le_of_ne h h1))
theorem Gg (a:Rat):(aH (flo a:Rat) a = -1∨aH (flo a:Rat) a=0)∧aH ((flo a:Rat)+1) a=1:=
 ⟨tN.2 (uh a),tN.1 (uG a)⟩
theorem Jb (a:Rat):aF (a - (rnd a:Rat))≤mkRat 1 2:=by
 have hh:mkRat 1 2+mkRat 1 2=1:=by decide +kernel
 have h1:=uh a
 have h2:=uG a
 rw [← PI] at h1 h2
 unfold rnd
 split
 ·rename_i h
  have h3:1≤a - (flo a:Rat)+(a - (flo a:Rat)):=by
   rcases h with h | ⟨h,-⟩
   ·exact Rat.le_of_lt (Rx.lJ.1 h)
   ·rw [Rx.oz.1 h];exact Rat.le_refl
  rw [Rat.intCast_add,show ((1:Int):Rat)=1 from rfl,vN (show a - ((flo a:Rat)+1)<0 by grind)]
  grind
 ·rename_i h
  have h3:a - (flo a:Rat)+(a - (flo a:Rat))≤1:=by
   by_cases h4:a - (flo a:Rat)+(a - (flo a:Rat))≤1
   ·exact h4
   ·exact absurd (.inl (Rx.lJ.2 (by grind))) h
  rw [qp (show 0≤a - (flo a:Rat) by grind)]
  grind
theorem Ci {a b y:Rat} {m:Int} (h:jG a m b) (hy:(y.den:Int)≤m):aH (aF (y - a)) (aF (b - a))=0∨aH (aF (y - a)) (aF (b - a))=1:=by
 rcases h.2 y hy with h1 | ⟨h1,-⟩
 ·exact .inr (Rx.lJ.2 h1)
 ·exact .inl (Rx.oz.2 h1.symm)
end Nm
namespace Rx
open Go.RowKit
def rnU (d:Int):Int:=IntKind.u64.wrap d
def jA (m d:Int):Int:=(rnU d).tmod m
def rnD (m d:Int):Int:=1+jA m d
def rnN (n:Int):Int:=n.tmod 8
def rnC (n m d:Int):Rat:=(n:Rat) / (rnD m d:Rat)
def rnG (a:Rat) (n m d:Int):Rat:=((flo a:Rat)*(rnD m d:Rat)+(rnN n:Rat)) / (rnD m d:Rat)
def cI (x y:Rat):Rat:=((aH x y:Int):Rat)
noncomputable def rnB (a:Rat) (m n d:Int):Nat→Rat:=bet [a,(m:Rat),(n:Rat),(d:Rat),(rnd a:Rat),(rnD m d:Rat),(rnN n:Rat),Nm.jo a m,(rnU d:Rat),(jA m d:Rat),
 cI (flo a:Rat) a,cI ((flo a:Rat)+1) a,cI (aF (a - (rnd a:Rat))) (mkRat 1 2),0,cI ((((Nm.jo a m).den:Nat):Int):Rat) (m:Rat),
 cI ((((rnC n m d).den:Nat):Int):Rat) (m:Rat),cI (aF (rnC n m d - a)) (aF (Nm.jo a m - a)),cI ((((rnG a n m d).den:Nat):Int):Rat) (m:Rat),cI (aF (rnG a n m d - a)) (aF (Nm.jo a m - a)),
 cI ((((flo a:Rat).den:Nat):Int):Rat) (m:Rat),cI (aF ((flo a:Rat) - a)) (aF (Nm.jo a m - a)),mkRat 1 2]
def yu:Ari:={ gt:=[(.v 10,.c 0,false),(.v 11,.c 0,true),(.v 12,.c 0,false),(.c 1,.v 1,true)] }
def rnT (c g:Bool):Ari where
 cv:=[(.u64,.v 3,.v 8),(.u64,.v 1,.v 1),(.i64,.v 9,.v 9)]
 ar:=[(.rem,.u64,.v 8,.v 1,.v 9),(.add,.i64,.c 1,.v 9,.v 5),(.rem,.i64,.v 2,.c 8,.v 6)]
 gt:=(.v 10,.c 0,false) :: (.v 11,.c 0,true) :: (.v 12,.c 0,false) :: (.c 1,.v 1,false) :: (.v 14,.c 0,false) :: (.v 15,.c 0,!c) :: (.v 17,.c 0,!g) :: (.v 19,.c 0,false) :: (.c 0,.v 20,false) ::
  ((if c then [(.c 0,.v 16,false)] else []) ++ if g then [(.c 0,.v 18,false)] else [])
section
variable {a:Rat} {m n d:Int}
theorem iy {x y p q:Int} {b:Bool} (hx:(x:Rat)=(p:Rat)) (hy:(y:Rat)=(q:Rat)) (h:decide (p > q)=b):decide (x > y)=b:=by
 obtain rfl:=intCast_inj hx
 obtain rfl:=intCast_inj hy
 exact h
theorem VA (hm:m<1):yu.Ok (rnB a m n d):=by
 obtain ⟨f1,f2⟩:=Nm.Gg a
 have f3:=(Nm.tN (x:=aF (a - (rnd a:Rat))) (y:=mkRat 1 2)).2 (Nm.Jb a)
 refine ⟨fun p hp=>(by cases hp),fun p hp=>(by cases hp),?_⟩
 simp only [yu,List.forall_mem_cons,List.not_mem_nil,false_imp_iff,implies_true,and_true]
 exact ⟨fun x y hx hy=>iy hx hy (decide_eq_false (by omega)),fun x y hx hy=>iy hx hy (decide_eq_true (by omega)),fun x y hx hy=>iy hx hy (decide_eq_false (by omega)),fun x y hx hy=>iy hx hy (decide_eq_true (by omega))⟩
theorem Dq:0≤rnU d∧rnU d≤18446744073709551615:=by
 unfold rnU
 rw [IntKind.wrap_u64]
 omega
theorem Vs (hm:1≤m):0≤jA m d∧jA m d<m:=by
 obtain ⟨h1,h2⟩:=Dq (d:=d)
 unfold jA
 exact ⟨Int.tmod_nonneg m h1,Int.tmod_lt_of_pos _ (by omega)⟩
theorem Vy:-8<rnN n∧rnN n<8:=by
 unfold rnN
 rcases Int.lt_or_le n 0 with h | h
 ·have h1:n.tmod 8 = -((-n) % 8):=by
   rw [← Int.tmod_eq_emod_of_nonneg (show 0≤-n by omega),Int.neg_tmod,Int.neg_neg]
  omega
 ·rw [Int.tmod_eq_emod_of_nonneg h]
  omega
theorem VB {c g:Bool} (hf:Fits 4 a) (hm:1≤m) (hm2:m≤9223372036854775807) (hc:decide (((rnC n m d).den:Int)≤m)=c) (hg:decide (((rnG a n m d).den:Int)≤m)=g):(rnT c g).Ok (rnB a m n d):=by
 obtain ⟨f1,f2⟩:=Nm.Gg a
 have f3:=(Nm.tN (x:=aF (a - (rnd a:Rat))) (y:=mkRat 1 2)).2 (Nm.Jb a)
 obtain ⟨n1,n2,-⟩:=Nm.Ia (a:=a) hf hm (by omega)
 obtain ⟨u1,u2⟩:=Dq (d:=d)
 obtain ⟨r1,r2⟩:=Vs (d:=d) hm
 obtain ⟨k1,k2⟩:=Vy (n:=n)
 have e1:=Nm.tV n1.1
 have e2:aH ((((flo a:Rat).den:Nat):Int):Rat) (m:Rat)≤0:=Nm.tV (by rw [Rat.den_intCast];omega)
 have e3:=Nm.Ci n1 (y:=(flo a:Rat)) (by rw [Rat.den_intCast];omega)
 have dn:∀ (q:Rat) (b:Bool),decide ((q.den:Int)≤m)=b→decide (aH ((((q.den:Nat):Int):Rat)) (m:Rat) > 0) = !b:=fun q b hb=>by
  rw [← hb,← decide_not]
  refine decide_eq_decide.2 ⟨fun h h'=>?_,fun h=>?_⟩
  ·have:=Nm.tV h';omega
  ·rw [Nm.Ah (by omega)];decide
 refine ⟨?_,?_,?_⟩
 ·simp only [rnT,List.forall_mem_cons,List.not_mem_nil,false_imp_iff,implies_true,and_true]
  refine ⟨fun x hx=>?_,fun x hx=>?_,fun x hx=>?_⟩
  ·obtain rfl:x=d:=intCast_inj hx
   refine ⟨?_,rfl⟩
   have e:IntKind.u64.wrap x=rnU x:=rfl
   simp only [inK,e,Bool.and_eq_true,decide_eq_true_eq]
   exact ⟨u1,u2⟩
  ·obtain rfl:x=m:=intCast_inj hx
   have e:IntKind.u64.wrap x=x:=by rw [IntKind.wrap_u64];omega
   simp only [inK,e,Bool.and_eq_true,decide_eq_true_eq]
   exact ⟨⟨by omega,by omega⟩,rfl⟩
  ·obtain rfl:x=jA m d:=intCast_inj hx
   have e:IntKind.i64.wrap (jA m d)=jA m d:=by rw [IntKind.wrap_i64];omega
   simp only [inK,e,Bool.and_eq_true,decide_eq_true_eq]
   exact ⟨⟨by omega,by omega⟩,rfl⟩
 ·simp only [rnT,List.forall_mem_cons,List.not_mem_nil,false_imp_iff,implies_true,and_true]
  refine ⟨fun x y hx hy=>?_,fun x y hx hy=>?_,fun x y hx hy=>?_⟩
  ·obtain rfl:x=rnU d:=intCast_inj hx
   obtain rfl:y=m:=intCast_inj hy
   refine ⟨jA y d,by simp only [arI];rw [if_neg (by omega)];rfl,?_,rfl⟩
   simp only [inK,Bool.and_eq_true,decide_eq_true_eq]
   omega
  ·obtain rfl:x=1:=intCast_inj hx
   obtain rfl:y=jA m d:=intCast_inj hy
   refine ⟨rnD m d,?_,?_,rfl⟩
   ·simp only [arI];rw [IntKind.wrap_i64];unfold rnD;exact congrArg some (by omega)
   ·unfold rnD
    simp only [inK,Bool.and_eq_true,decide_eq_true_eq]
    omega
  ·obtain rfl:x=n:=intCast_inj hx
   obtain rfl:y=8:=intCast_inj hy
   refine ⟨rnN x,rfl,?_,rfl⟩
   simp only [inK,Bool.and_eq_true,decide_eq_true_eq]
   omega
 ·have hcc:∀ p∈(if c then [((RE.c 0,RE.v 16,false):RE×RE×Bool)] else []),∀ x y:Int,(x:Rat)=p.1.ev (rnB a m n d)→(y:Rat)=p.2.1.ev (rnB a m n d)→decide (x > y)=p.2.2:=by
   cases c
   ·exact fun p hp=>by cases hp
   ·intro p hp x y hx hy
    obtain rfl:=List.mem_singleton.1 hp
    have:=Nm.Ci n1 (y:=rnC n m d) (of_decide_eq_true hc)
    exact iy hx hy (decide_eq_false (by omega))
  have hgg:∀ p∈(if g then [((RE.c 0,RE.v 18,false):RE×RE×Bool)] else []),∀ x y:Int,(x:Rat)=p.1.ev (rnB a m n d)→(y:Rat)=p.2.1.ev (rnB a m n d)→decide (x > y)=p.2.2:=by
   cases g
   ·exact fun p hp=>by cases hp
   ·intro p hp x y hx hy
    obtain rfl:=List.mem_singleton.1 hp
    have:=Nm.Ci n1 (y:=rnG a n m d) (of_decide_eq_true hg)
    exact iy hx hy (decide_eq_false (by omega))
  simp only [rnT,List.forall_mem_cons]
  refine ⟨fun x y hx hy=>iy hx hy (decide_eq_false (by omega)),fun x y hx hy=>iy hx hy (decide_eq_true (by omega)),fun x y hx hy=>iy hx hy (decide_eq_false (by omega)),fun x y hx hy=>iy hx hy (decide_eq_false (by omega)),fun x y hx hy=>iy hx hy (decide_eq_false (by omega)),fun x y hx hy=>iy hx hy (dn _ _ hc),fun x y hx hy=>iy hx hy (dn _ _ hg),fun x y hx hy=>iy hx hy (decide_eq_false (by omega)),fun x y hx hy=>iy hx hy (decide_eq_false (by omega)),fun p hp=>?_⟩
  rcases List.mem_append.1 hp with hp | hp
  ·exact hcc p hp
  ·exact hgg p hp
end
end Rx
namespace Z4
open Go.RowKit Go.Sort Go.Lib
theorem Vw (n:Int) (h1:-9223372036854775808≤n) (h2:n≤9223372036854775807) (w:World):Calls Tryz.prog 19 #[.int .i64 n] w (nS w (n:Rat)):=by
 have HN:=hid (fun (W:World)=>nG n h1 h2 W)
 have HD:=hid (fun (W:World)=>nG 1 (by decide) (by decide) W)
 clear h1 h2
 go_enter Tryz.func19,Tryz.ntmps19
 go_wp2_with fail
 have hS0:=hid ((St.start w).alloc' (w.heap.size) (by simp) 37 [.bool false,.slice none 0 0,.bool false,.slice none 0 0])
 obtain ⟨W0,hW0⟩:=aN hS0
 rw [hW0] at hS0 ⊢
 clear hW0
 refine (HN.out _).mono ?_
 rintro e w1 hret
 obtain ⟨v1,rfl,hz1,hB⟩:=hret.z
 clear hret
 obtain ⟨t1,p1,l1,k1,rfl⟩:=hz1.open
 have hS1:=hid (hS0.out.call hB)
 clear hB
 clear hS0
 have hS2:=hid (hS1.out.fact (.z (.agg #[.bool t1,.slice p1 l1 k1]) n) hz1)
 clear hS1 hz1
 go_wp2_with fail
 refine (HD.out _).mono ?_
 rintro e w2 hret
 obtain ⟨v2,rfl,hz2,hB⟩:=hret.z
 clear hret
 obtain ⟨t2,p2,l2,k2,rfl⟩:=hz2.open
 obtain rfl:t2=false:=by
  obtain ⟨_,e,-⟩:=hz2.parts
  rw [e];rfl
 have hS3:=hid (hS2.out.call hB)
 clear hB
 clear hS2
 have hS4:=hid (hS3.out.fact (.z (.agg #[.bool false,.slice p2 l2 k2]) 1) hz2)
 clear hS3 hz2
 obtain ⟨⟨cR0,cR1,cR2,cR3⟩,fR0,fR1,fR2,fR3⟩:=hS4.out.f4 0 w.heap.size 37 (.bool false) (.slice none 0 0) (.bool false) (.slice none 0 0) rfl
 have hS8:=hid ((((((hS4.out).store (b:=⟨w.heap.size,37,[.bool false,.slice none 0 0,.bool false,.slice none 0 0]⟩) 0 0 (.bool t1) rfl rfl).store (b:=⟨w.heap.size,37,[.bool t1,.slice none 0 0,.bool false,.slice none 0 0]⟩) 0 1 (.slice p1 l1 k1) rfl rfl).store (b:=⟨w.heap.size,37,[.bool t1,.slice p1 l1 k1,.bool false,.slice none 0 0]⟩) 0 2 (.bool false) rfl rfl).store (b:=⟨w.heap.size,37,[.bool t1,.slice p1 l1 k1,.bool false,.slice none 0 0]⟩) 0 3 (.slice p2 l2 k2) rfl rfl).as [⟨w.heap.size,37,[.bool t1,.slice p1 l1 k1,.bool false,.slice p2 l2 k2]⟩] rfl)
 go_wp2_with fail
 clear cR0 cR1 cR2 cR3 fR0 fR1 fR2 fR3
 obtain ⟨⟨zR0,zR1,zR2,zR3⟩,-⟩:=hS8.out.f4 0 w.heap.size 37 (.bool t1) (.slice p1 l1 k1) (.bool false) (.slice p2 l2 k2) rfl
 exact bodyPost_ret (v:=.agg #[.bool t1,.slice p1 l1 k1,.bool false,.slice p2 l2 k2]) (by simp [results,Tryz.results19,go_sem,zR0,zR1,zR2,zR3]) rfl ⟨_,rfl,.mk2 (by rw [Rat.num_intCast];exact hS8.out.get (f:=.z (.agg #[.bool t1,.slice p1 l1 k1]) n) 1 rfl) (by rw [Rat.den_intCast];exact hS8.out.get (f:=.z (.agg #[.bool false,.slice p2 l2 k2]) 1) 0 rfl),hS8.out.bel⟩
end Z4
namespace Rx
open Go.RowKit
section
variable (β:Nat→Rat) (h:Hint)
def iiB (db:List Fc):List SV→Option (RE×RE)
 | [.e (.s (.oi a)),.e (.s (.oi b))]=>match gy db a,gy db b with
  | some e,some e'=>if nzB h e' then some (e,e') else none
  | _,_=>none
 | _=>none
def iOf:Con (SQ β) where
 fn:=11
 app:=fun db b args=>match iiB h db args with
  | some (e,e')=>some (.t [.a (aJ b),.s (.it .i64 0)],[.q b (.div e e') 2])
  | none=>none
def BD:Con (SQ β) where
 fn:=14
 app:=fun db b args=>match iiB h db args with
  | some (e,e')=>some (.e (.a (bV b)),[.r b (.div e e') 2])
  | none=>none
def Bz:Con (SQ β) where
 fn:=11
 app:=fun db b args=>match args with
  | [.e (.s (.oi a)),.e (.s (.it .i64 0))]=>match gy db a with
   | some _=>some (.t [.a (aJ b),.s (.it .i64 9)],[.q b (.c 0) 1])
   | none=>none
  | _=>none
def Bv:Con (SQ β) where
 fn:=18
 app:=fun db b args=>match args with
  | [.e (.s (.oi a))]=>match gy db a with
   | some e=>some (.e (.a (aJ b)),[.q b e 1])
   | none=>none
  | _=>none
def BA:Con (SQ β) where
 fn:=19
 app:=fun db b args=>match args with
  | [.e (.s (.oi a))]=>match gy db a with
   | some e=>some (.e (.a (bV b)),[.r b e 1])
   | none=>none
  | _=>none
def ci:List (Con (SQ β)):=[iOf β h,BD β h,Bz β,Bv β,BA β]
end
section
variable {β:Nat→Rat} {h:Hint} {ρ:Env} {W:World} {db:List Fc}
theorem Gt (ok:h.Ok β) {args:List SV} {e e':RE} (hh:iiB h db args=some (e,e')) (hf:∀ f∈db,(SQ β).on ρ f W):∃ n d:Int,(args.map (SV.den ρ)).toArray=#[.int .i64 n,.int .i64 d]∧(-9223372036854775808≤n∧n≤9223372036854775807)∧(-9223372036854775808≤d∧d≤9223372036854775807)∧d≠0∧(n:Rat) / (d:Rat)=(RE.div e e').ev β∧Fits 2 ((RE.div e e').ev β):=by
 unfold iiB at hh
 split at hh
 ·rename_i a b
  split at hh
  ·rename_i x y hx hy
   split at hh
   ·rename_i hn
    cases hh
    obtain ⟨h1,h2,h3⟩:=(show Fc.on β ρ (.i a e) W from hf _ (fU hx))
    obtain ⟨g1,g2,g3⟩:=(show Fc.on β ρ (.i b e') W from hf _ (fU hy))
    have hne:(ρ b).u≠0:=fun h0=>uI ok hn (by rw [← g3,h0];rfl)
    refine ⟨(ρ a).u,(ρ b).u,rfl,⟨h1,h2⟩,⟨g1,g2⟩,hne,by rw [h3,g3];rfl,?_⟩
    have:=F8 (k:=1) (k':=1) hne (show (ρ a).u.natAbs<B64 ^ 1 by rw [Nat.pow_one];unfold B64;omega) (show (ρ b).u.natAbs<B64 ^ 1 by rw [Nat.pow_one];unfold B64;omega)
    rw [h3,g3] at this
    exact this.mono (by decide)
   ·cases hh
  ·cases hh
 ·cases hh
theorem QT (ok:h.Ok β):(iOf β h).Ok Tryz.prog (SQ β) EV:=by
 refine Con.ok0 rfl ?_
 intro db b args res new ha ρ W hf hE
 simp only [iOf] at ha
 split at ha
 ·rename_i e e' hx
  cases ha
  obtain ⟨n,d,h1,h2,h3,h4,h5,h6⟩:=Gt ok hx hf
  rw [h1]
  have hc:=zf n d h2.1 (by omega) h3.1 (by omega) h4 W hE.tz
  rw [h5] at hc
  exact lH hc h6
 ·cases ha
theorem QV (ok:h.Ok β):(BD β h).Ok Tryz.prog (SQ β) EV:=by
 refine Con.ok0 rfl ?_
 intro db b args res new ha ρ W hf hE
 simp only [BD] at ha
 split at ha
 ·rename_i e e' hx
  cases ha
  obtain ⟨n,d,h1,h2,h3,h4,h5,h6⟩:=Gt ok hx hf
  rw [h1]
  have hc:=Z4.Dt n d h2.1 h2.2 h3.1 h3.2 h4 W
  rw [h5] at hc
  exact EJ hc h6
 ·cases ha
theorem UF (β:Nat→Rat):(match bG Tryz.prog (SQ β) (HQ β {} (kH β)) (cq β {}) 1 11 [.e (.s (.oi 0)),.e (.s (.it .i64 0))] [] 1 with
 | some (.t [.a [.bl false,.it .u64 0,.nils,.it .u64 0,.nils],.s (.it .i64 9)],_)=>true
 | _=>false)=true:=by kernel_rfl
theorem UE {n:Int} (hE:EV W):Calls Tryz.prog 11 #[.int .i64 n,.int .i64 0] W (dG W 0 9):=by
 have hr:=UF (bet [])
 split at hr
 ·rename_i fs heq
  exact (iI mixed (qH (kH _)) heq (je hE) (ρ:=ev [nu n]) (w:=W) (fun g hg=>by cases hg)).mono fun x W' ⟨ρ',_,hx,hb,_⟩=>⟨_,hx,oP _,hb⟩
 ·cases hr
theorem QS:(Bz β).Ok Tryz.prog (SQ β) EV:=by
 refine Con.ok0 rfl ?_
 intro db b args res new ha ρ W hf hE
 simp only [Bz] at ha
 split at ha
 ·split at ha
  ·cases ha
   exact lH (e:=.c 0) (UE hE) (fits_int (n:=0) (by decide) (by decide))
  ·cases ha
 ·cases ha
theorem QO:(Bv β).Ok Tryz.prog (SQ β) EV:=by
 refine Con.ok0 rfl ?_
 intro db b args res new ha ρ W hf hE
 simp only [Bv] at ha
 split at ha
 ·rename_i a
  split at ha
  ·rename_i e hx
   cases ha
   obtain ⟨h1,h2,h3⟩:=(show Fc.on β ρ (.i a e) W from hf _ (fU hx))
   have hc:=sQ (ρ a).u h1 (by omega) W
   have hk:=fits_int h1 h2
   rw [h3] at hc hk
   exact nY hc hk
  ·cases ha
 ·cases ha
theorem QU:(BA β).Ok Tryz.prog (SQ β) EV:=by
 refine Con.ok0 rfl ?_
 intro db b args res new ha ρ W hf hE
 simp only [BA] at ha
 split at ha
 ·rename_i a
  split at ha
  ·rename_i e hx
   cases ha
   obtain ⟨h1,h2,h3⟩:=(show Fc.on β ρ (.i a e) W from hf _ (fU hx))
   have hc:=Z4.Vw (ρ a).u h1 h2 W
   have hk:=fits_int h1 h2
   rw [h3] at hc hk
   exact EJ hc hk
  ·cases ha
 ·cases ha
theorem MO (ok:h.Ok β):∀ c∈ci β h,c.Ok Tryz.prog (SQ β) EV:=by
 unfold ci
 simp only [List.forall_mem_cons,List.not_mem_nil,false_imp_iff,implies_true,and_true]
 exact ⟨QT ok,QV ok,QS,QO,QU⟩
end
end Rx
section
open Go.RowKit Go.Sort
theorem XK (xs:List Nat) (h:1≤xs.length):val xs % 2=xs[0]?.getD 0 % 2:=by
 match xs,h with
 | x :: r,_ =>
  rw [fC]
  show (x+B64*val r) % 2=x % 2
  unfold B64
  omega
theorem RP (x:Nat) (hx:x<B64) (w:World):Calls Tryz.prog 119 #[.agg #[.int .u64 (x:Int),.slice none 0 0]] w (aT w (.bool (x % 2 == 1))):=by
 have hn:=gJ
 have ho:=and_one x hx
 have h2:(((x % 2:Nat):Int) == 1)=(x % 2 == 1):=by rw [Bool.eq_iff_iff,beq_iff_eq,beq_iff_eq];omega
 obtain ⟨z,hz⟩:∃ z,x % 2=z:=⟨_,rfl⟩
 obtain ⟨t,ht⟩:∃ t,(x % 2 == 1)=t:=⟨_,rfl⟩
 rw [ht] at h2 ⊢
 rw [hz] at ho h2
 clear hz ht hx
 go_enter Tryz.func119,Tryz.ntmps119
 go_wp2
 go_ret
 exact ⟨by rw [← h2];rfl,(Below.refl _ _).alloc (Nat.le_refl _) _⟩
theorem RN (b o l k x:Nat) (w:World) (hb:b<w.heap.size) (hl:2≤l) (hs:l≤1099511627776) (cx:w.cell? ⟨b,o,none⟩=some (.int .u64 (x:Int))) (hx:x<B64):Calls Tryz.prog 119 #[.agg #[.int .u64 0,.slice (some ⟨b,o,none⟩) l k]] w (aT w (.bool (x % 2 == 1))):=by
 have hn:=gJ
 have ho:=and_one x hx
 have h2:(((x % 2:Nat):Int) == 1)=(x % 2 == 1):=by rw [Bool.eq_iff_iff,beq_iff_eq,beq_iff_eq];omega
 obtain ⟨z,hz⟩:∃ z,x % 2=z:=⟨_,rfl⟩
 obtain ⟨t,ht⟩:∃ t,(x % 2 == 1)=t:=⟨_,rfl⟩
 have hne:¬ w.heap.size=b:=by omega
 rw [ht] at h2 ⊢
 rw [hz] at ho h2
 clear hz ht hx
 go_enter Tryz.func119,Tryz.ntmps119
 go_wp2
 go_ret
 exact ⟨by rw [← h2];rfl,(Below.refl _ _).alloc (Nat.le_refl _) _⟩
theorem RJ (c d:Value) (n k:Nat) (w:World) (h:ah w c d n) (hk:k≤1099511627776) (hn:n<B64 ^ k):Calls Tryz.prog 119 #[.agg #[c,d]] w (aT w (.bool (n % 2 == 1))):=by
 rcases h with ⟨h0,rfl,rfl⟩ | ⟨b,o,m,xs,rfl,rfl,h3,h4,h5,h6,h7,h8,h9⟩
 ·exact RP n h0 w
 ·have:=h9 0 (by omega)
  rw [Nat.add_zero] at this
  rw [← h8,XK xs (by omega)]
  exact RN b o xs.length m _ w h3 h4 (Nat.le_trans (aX h7 (by rw [h8];exact hn)) hk) this (h6.getD 0)
end
namespace Rx
open Go.RowKit
def oI:List Fd→Nat→Option Nat
 | [],_=>none
 | .n b s :: r,n=>if b=n then some s else oI r n
 | _ :: r,n=>oI r n
theorem oJ {n s:Nat}:∀ {db:List Fd},oI db n=some s→.n n s∈db
 | [],h=>by simp [oI] at h
 | f :: r,h=>by
  cases f with
  | n b s' =>
   simp only [oI] at h
   split at h
   ·rename_i hs;cases h;subst hs;simp
   ·exact List.mem_cons_of_mem _ (oJ h)
  | l _ _ _=>exact List.mem_cons_of_mem _ (oJ h)
  | z _ _ _=>exact List.mem_cons_of_mem _ (oJ h)
  | r _ _ _=>exact List.mem_cons_of_mem _ (oJ h)
  | i _ _=>exact List.mem_cons_of_mem _ (oJ h)
def worth (db:List Fd) (s:Nat):Option RE:=match jR db s with
 | some (e,_)=>some e
 | none=>match qP db s with
  | some (e,_)=>some e
  | none=>none
def xC (h:Hint) (db:List Fd) (a:Nat):Option Bool:=match oI db a with
 | some s=>match worth db s with
  | some e=>if nzB h e then some false else if eqB h e (.c 0) then some true else none
  | none=>none
 | none=>none
section
variable {β:Nat→Rat} {ρ:Env} {W:World} {db:List Fd} {h:Hint}
theorem XM {s:Nat} {e:RE} (hw:worth db s=some e) (hf:∀ f∈db,(SR β).on ρ f W):(ρ s).l=0↔e.ev β=0:=by
 have key:∀ xs,Z4.IsL 0 W (.slice (ρ s).p (ρ s).l (ρ s).c) xs→Z4.Dig xs→Z4.aB xs→((ρ s).l=0↔Z4.val xs=0):=fun xs h1 h2 h3=>by
  rw [← h1.len];exact Z4.sK h2 h3
 unfold worth at hw
 split at hw
 ·rename_i e' k hx
  cases hw
  obtain ⟨xs,h1,h2,h3,h4,-⟩:=hf _ (lX hx)
  rw [key xs h1 h2 h3,← h4]
  exact ⟨fun h=>by rw [h];rfl,fun h=>by exact_mod_cast h⟩
 ·split at hw
  ·rename_i e' k hx
   cases hw
   obtain ⟨z,⟨p,l,c,xs,he,h1,h2,h3,h4⟩,h5,-⟩:=hf _ (qQ hx)
   have he':=congrArg Array.toList (Value.agg.inj he)
   simp only [zC,List.map_cons,List.map_nil,Cell.den,List.cons.injEq,Value.slice.injEq,and_true] at he'
   obtain ⟨-,rfl,rfl,rfl⟩:=he'
   rw [key xs h1 h2 h3,← h5,h4]
   constructor
   ·intro h;rw [show z=0 by omega];rfl
   ·intro h
    have:z=0:=by exact_mod_cast h
    rw [this];rfl
  ·cases hw
theorem GU (ok:h.Ok β) {a:Nat} {x:Bool} (hh:xC h db a=some x) (hf:∀ f∈db,(SR β).on ρ f W):0≤(ρ a).u∧((ρ a).u == 0)=x:=by
 unfold xC at hh
 split at hh
 ·rename_i s hs
  split at hh
  ·rename_i e hw
   have h1:(ρ a).u=((ρ s).l:Int):=hf _ (oJ hs)
   have h2:=XM hw hf
   refine ⟨by omega,?_⟩
   split at hh
   ·rename_i hn
    cases hh
    have:=uI ok hn
    rw [beq_eq_false_iff_ne]
    intro h0
    exact this (h2.1 (by omega))
   ·split at hh
    ·rename_i hn
     cases hh
     have:=h2.2 ((oH ok hn).trans rfl)
     rw [beq_iff_eq]
     omega
    ·cases hh
  ·cases hh
 ·cases hh
end
def CJ (h:Hint) (db:List Fd) (a:Nat):Option Bool:=match oI db a with
 | some s=>match jR db s with
  | some (e,_)=>if pI e then (match cmB h e (.c 10000) with
    | some (-1)=>some true
    | some 0 | some 1=>some false
    | _=>none) else none
  | none=>none
 | none=>none
def lV:List Fd→Nat→Option RE
 | [],_=>none
 | .i s e :: r,n=>if s=n then some e else lV r n
 | _ :: r,n=>lV r n
theorem lW {n:Nat} {e:RE}:∀ {db:List Fd},lV db n=some e→.i n e∈db
 | [],h=>by simp [lV] at h
 | f :: r,h=>by
  cases f with
  | i b e' =>
   simp only [lV] at h
   split at h
   ·rename_i hs;cases h;subst hs;simp
   ·exact List.mem_cons_of_mem _ (lW h)
  | l _ _ _=>exact List.mem_cons_of_mem _ (lW h)
  | z _ _ _=>exact List.mem_cons_of_mem _ (lW h)
  | r _ _ _=>exact List.mem_cons_of_mem _ (lW h)
  | n _ _=>exact List.mem_cons_of_mem _ (lW h)
def BG (h:Hint) (db:List Fd) (a:Nat) (m:Int):Option Bool:=match lV db a with
 | some e=>if eqB h e (.c m) then some true else if h.ne.any (fun p=>p.1.beq e && p.2.beq (.c m)) then some false else none
 | none=>if m=0 then xC h db a else if m=1 then CJ h db a else none
section
variable {β:Nat→Rat} {ρ:Env} {W:World} {db:List Fd} {h:Hint}
theorem UJ (ok:h.Ok β) {a:Nat} {x:Bool} (hh:CJ h db a=some x) (hf:∀ f∈db,(SR β).on ρ f W):((ρ a).u == 1)=x:=by
 unfold CJ at hh
 split at hh
 ·rename_i s hs
  split at hh
  ·rename_i e k hx
   split at hh
   ·rename_i hp
    have h1:(ρ a).u=((ρ s).l:Int):=hf _ (oJ hs)
    obtain ⟨xs,g1,g2,g3,g4,-⟩:=(show IsG W (.slice (ρ s).p (ρ s).l (ρ s).c) (e.ev β) k from hf _ (lX hx))
    have hl:=g1.len
    have hpos:0<Z4.val xs:=by
     have:=xZ (β:=β) hp
     rw [← g4] at this
     rcases Nat.eq_zero_or_pos (Z4.val xs) with h0 | h0
     ·rw [h0] at this;exact absurd this (by decide)
     ·exact h0
    have hl1:1≤xs.length:=by
     rcases Nat.eq_zero_or_pos xs.length with h0 | h0
     ·have:=(Z4.sK g2 g3).1 h0;omega
     ·exact h0
    have hcm:∀ c,cmB h e (.c 10000)=some c→aC (Z4.val xs) 10000=c:=fun c hc=>by
     have:=oh ok hc
     rw [← g4,show (RE.c 10000).ev β=((10000:Nat):Rat) from rfl,Ai] at this
     exact this
    have hge:2≤xs.length→10000≤Z4.val xs:=fun h2=>by
     have h3:=Z4.jD g3 (by intro e;subst e;simp at hl1)
     have h4:Z4.B4 ^ 1≤Z4.B4 ^ (xs.length - 1):=Nat.pow_le_pow_right (by decide) (by omega)
     have h5:Z4.B4 ^ 1=10000:=by decide
     omega
    have hlt:xs.length≤1→Z4.val xs<10000:=fun h2=>by
     have h3:=Z4.aW g2
     have h4:Z4.B4 ^ xs.length=10000:=by rw [show xs.length=1 by omega];decide
     omega
    split at hh
    ·rename_i hc
     cases hh
     have:=hcm _ hc
     unfold aC at this
     rw [beq_iff_eq]
     split at this
     ·rcases Nat.lt_or_ge xs.length 2 with h6 | h6
      ·omega
      ·have:=hge h6;omega
     ·split at this <;> omega
    ·rename_i hc
     cases hh
     have:=hcm _ hc
     unfold aC at this
     rw [beq_eq_false_iff_ne]
     intro h7
     have:=hlt (by omega)
     rw [if_pos this] at *
     omega
    ·rename_i hc
     cases hh
     have:=hcm _ hc
     unfold aC at this
     rw [beq_eq_false_iff_ne]
     intro h7
     have:=hlt (by omega)
     rw [if_pos this] at *
     omega
    ·cases hh
   ·cases hh
  ·cases hh
 ·cases hh
theorem Rk (ok:h.Ok β) {a:Nat} {m:Int} {x:Bool} (hh:BG h db a m=some x) (hf:∀ f∈db,(SR β).on ρ f W):((ρ a).u == m)=x:=by
 unfold BG at hh
 split at hh
 ·rename_i e hx
  have h1:(((ρ a).u:Int):Rat)=e.ev β:=hf _ (lW hx)
  split at hh
  ·rename_i he
   cases hh
   rw [oH ok he] at h1
   rw [beq_iff_eq]
   have h2:(((ρ a).u:Int):Rat)=((m:Int):Rat):=h1
   exact_mod_cast h2
  ·split at hh
   ·rename_i hn
    cases hh
    obtain ⟨p,hp,h2⟩:=List.any_eq_true.1 hn
    simp only [Bool.and_eq_true] at h2
    have:=ok.2.1 p hp
    rw [RE.beq_eq h2.1,RE.beq_eq h2.2,← h1] at this
    rw [beq_eq_false_iff_ne]
    intro h0
    exact this (by rw [h0];rfl)
   ·cases hh
 ·split at hh
  ·rename_i hm;subst hm;exact (GU ok hh hf).2
  ·split at hh
   ·rename_i hm;subst hm;exact UJ ok hh hf
   ·cases hh
end
def Ey (h:Hint) (db:List Fd) (a a' b:Nat):Option (List Fd):=match lV db a,lV db a' with
 | some e,some e'=>if cmB h (.add e e') (.c 4611686018427387904)=some (-1) && cmB h (.c (-1)) (.add e e')=some (-1) then some [.i b (.add e e')] else none
 | _,_=>none
theorem vY {a b:Rat} (h:aH a b = -1):a<b:=by
 unfold aH at h
 split at h
 ·assumption
 ·split at h <;> cases h
def HL (β:Nat→Rat) (h:Hint) (ok:h.Ok β):Tests (SR β) where
 eq:=fun db c d=>match c,d with
  | .oi a,.it .i64 m=>BG h db a m
  | _,_=>none
 ok:=fun {fs c d x} hh ρ W hf=>by
  split at hh
  ·rename_i a m
   exact .inr ⟨.i64,(ρ a).u,m,rfl,rfl,Rk ok hh hf⟩
  ·cases hh
 add:=Ey h
 addOk:=fun {db a a' b new} hh ρ W hf=>by
  unfold Ey at hh
  split at hh
  ·rename_i e e' h1 h2
   split at hh
   ·rename_i hc
    simp only [Bool.and_eq_true,decide_eq_true_eq] at hc
    cases hh
    have g1:(((ρ a).u:Int):Rat)=e.ev β:=hf _ (lW h1)
    have g2:(((ρ a').u:Int):Rat)=e'.ev β:=hf _ (lW h2)
    have hs:(((ρ a).u+(ρ a').u:Int):Rat)=(RE.add e e').ev β:=by rw [Rat.intCast_add,g1,g2];rfl
    have k1:=vY (oh ok hc.1)
    have k2:=vY (oh ok hc.2)
    rw [← hs] at k1 k2
    have l1:(ρ a).u+(ρ a').u<4611686018427387904:=Rat.intCast_lt_intCast.1 (show (((ρ a).u+(ρ a').u:Int):Rat)<((4611686018427387904:Int):Rat) from k1)
    have l2:-1<(ρ a).u+(ρ a').u:=Rat.intCast_lt_intCast.1 (show ((-1:Int):Rat)<(((ρ a).u+(ρ a').u:Int):Rat) from k2)
    refine ⟨by rw [IntKind.wrap_i64];omega,fun ρ' _ hu f hm=>?_⟩
    obtain rfl:=List.mem_singleton.1 hm
    show (((ρ' b).u:Int):Rat)=_
    rw [hu,hs]
   ·cases hh
  ·cases hh
 gt:=fun db c d=>match c,d with
  | .oi a,.it .i64 0=>(xC h db a).map (!·)
  | _,_=>none
 gok:=fun {fs c d x} hh ρ W hf=>by
  split at hh
  ·rename_i a
   obtain ⟨y,hy,rfl⟩:=Option.map_eq_some_iff.1 hh
   obtain ⟨h1,h2⟩:=GU ok hy hf
   refine ⟨.i64,(ρ a).u,0,rfl,rfl,?_⟩
   rw [← h2]
   by_cases h0:(ρ a).u=0
   ·rw [h0];rfl
   ·rw [decide_eq_true (by omega),beq_eq_false_iff_ne.2 h0];rfl
  ·cases hh
section
variable (β:Nat→Rat) (h:Hint)
def NJ:Con (SR β) where
 fn:=139
 app:=fun db b args=>match args with
  | [.e (.s x),.e (.s y)]=>match asG db x,asG db y with
   | some (e,k),some (e',k')=>if decide (k≤K1) && decide (k'≤K1) && nzB h e' then some (.t [.s (.os b),.s (.os (b+1))],[.l b (.flo (.div e e')) k,.l (b+1) (rem e e') k]) else none
   | _,_=>none
  | _=>none
def cf:List (Con (SR β)):=NJ β h :: cz β h
end
section
variable {β:Nat→Rat} {h:Hint} {f:FuncId} {vals:Array Value} {W:World} {ρ:Env} {b:Nat}
end
section
variable {a b:Int} {v1 v2:Value} {w:World}
end
end Rx
namespace Rx
open Go.RowKit
section
variable (β:Nat→Rat) (h:Hint)
end
section
variable {β:Nat→Rat} {h:Hint} {f:FuncId} {vals:Array Value} {W:World} {ρ:Env} {b:Nat}
theorem Vd (a:Int) (m:Nat) (hm:0<m):(a / (m:Int)).natAbs≤a.natAbs:=by
 have h1:=Int.mul_ediv_add_emod a m
 have h2:=Int.emod_nonneg a (show (m:Int)≠0 by omega)
 have h3:=Int.emod_lt_of_pos a (show (0:Int)<m by omega)
 rcases Int.lt_or_le a 0 with ha | ha
 ·have:a≤a / (m:Int):=by
   rw [Int.le_ediv_iff_mul_le (by omega)]
   have:a*(m:Int)≤a*1:=Int.mul_le_mul_of_nonpos_left (by omega) (by omega)
   omega
  have:a / (m:Int)<0:=Int.ediv_neg_of_neg_of_pos ha (by omega)
  omega
 ·have h4:a / (m:Int)≤a:=Int.ediv_le_self _ ha
  have:0≤a / (m:Int):=Int.ediv_nonneg ha (by omega)
  omega
end
end Rx
end Go.Proofs.YthalajpklaodkaaGreatDoor
