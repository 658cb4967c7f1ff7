/- What the proof rests on, part 32. -/
import Derived.Test.YtmijlcldmefggaaGreatDoorZ31
namespace Go.Proofs.YtmijlcldmefggaaGreatDoor
set_option maxRecDepth 100000
set_option maxHeartbeats 80000000
section
open Go.RowKit Go.Sort
attribute [local go_sem] takes takesUpon_value takesUpon_skip takesUpon_enter
structure StepOK (a:Rat) (m:Int) (N k i:Nat):Prop where
 r:Fits k (cfr a i)
 t:Fits k (flQ (cfr a i))
 p:Fits k (cv a i).p
 q:Fits k (cv a i).q
 lp:Fits k (cv a i).lp
 lq:Fits k (cv a i).lq
 tp:Fits k (flQ (cfr a i)*(cv a i).p)
 tq:Fits k (flQ (cfr a i)*(cv a i).q)
 np:Fits k (cv a (i+1)).p
 nq:Fits k (cv a (i+1)).q
 on:i<N→sgQ (cfr a i - flQ (cfr a i))≠0
 lim1:i<N→cmpQ (cv a (i+1)).q (m:Rat)≤0
 lim2:i=N→cmpQ (cv a (i+1)).q (m:Rat)=1
structure NearHyp (a:Rat) (m:Int) (N k:Nat) (K X Y:Rat):Prop where
 m1:1≤m
 m2:m<9223372036854775808
 hk:k≤1000
 den:cmpQ (((a.den:Nat):Int):Rat) (m:Rat)=1
 fd:Fits k (((a.den:Nat):Int):Rat)
 fm:Fits k (m:Rat)
 fa:Fits k a
 step:∀ i,i≤N→StepOK a m N k i
 q0:(cv a N).q≠0
 d1:Fits k ((m:Rat) - (cv a N).lq)
 d2:Fits k (((m:Rat) - (cv a N).lq) / (cv a N).q)
 hK:flQ (((m:Rat) - (cv a N).lq) / (cv a N).q)=K
 fK:Fits k K
 kp:Fits k (K*(cv a N).p)
 kq:Fits k (K*(cv a N).q)
 sp:Fits k ((cv a N).lp+K*(cv a N).p)
 sq:Fits k ((cv a N).lq+K*(cv a N).q)
 s0:(cv a N).lq+K*(cv a N).q≠0
 hX:(cv a N).p / (cv a N).q=X
 hY:((cv a N).lp+K*(cv a N).p) / ((cv a N).lq+K*(cv a N).q)=Y
 fX:Fits k X
 fY:Fits k Y
 fXa:Fits k (X - a)
 fYa:Fits k (Y - a)
theorem near_walk (a:Rat) (m:Int) (N k:Nat) (Z X Y:Rat) (v:Value) (w:World) (h:IsQ w v a) (hT:Tab w) (hH:NearHyp a m N k Z X Y) (R:Rat)
  (hN:∀ (W:World) (va vx vy:Value),Below w.heap.size w W→IsQ W va a→IsQ W vx X→IsQ W vy Y→Calls Tryz.prog 124 #[va,vx,vy] W (RetQ W R)) :
  Calls Tryz.prog 68 #[v,.int .i64 m] w (RetQE w R 0):=by
 obtain ⟨t1,x1,p1,l1,q1,y1,r1,s1,u1,rfl⟩:=h.open
 have H0:=hid h
 have HH:=hid hH
 have HT:=hid hT
 have HR:=hid hN
 have m1:=hH.m1
 have m2:=hH.m2
 have HI:=hid (fun (W:World)=>(show ((1:Int):Rat)=1 from rfl) ▸ Int_calls 1 (by omega) (by omega) W)
 have HM:=hid (fun (W:World)=>Int_calls m (by omega) (by omega) W)
 have HD:=hid (fun (W:World) (v1 v2:Value) (i:IsQ W v1 (((a.den:Nat):Int):Rat)) (j:IsQ W v2 (m:Rat))=>hH.den ▸ Cmp_calls _ _ v1 v2 k W i j (by have:=hH.hk;omega) hH.fd hH.fm)
 clear h hT hH hN
 refine callsIn_wide.1 (callsIn_of_wp_marks (F:=Fence.wide) (n:=2) Tryz.func68 rfl trivial ?_ rfl)
 simp only [Tryz.ntmps68,List.size_toArray,List.length_cons,List.length_nil,Nat.reduceAdd,Nat.reduceSub,Array.replicate_succ,Array.replicate_zero,List.push_toArray,List.append_toArray,List.nil_append,List.cons_append]
 refine wpIn_wide.2 ?_
 go_wp2_with fail
 have hS0:=hid (((St.start w).alloc' (w.heap.size) (by simp) 32 (c5 t1 x1 p1 l1 q1 y1 r1 s1 u1)).alloc' (w.heap.size+1) (by simp) 32 z5)
 obtain ⟨W0,hW0⟩:=nameW hS0
 rw [hW0] at hS0 ⊢
 clear hW0
 have h1:=H0.out.below hS0.out.bel
 clear H0
 have hS1:=hid (hS0.out.fq h1)
 clear hS0 h1
 refine (HM.out _).mono ?_
 rintro e w1 ⟨v2,rfl,hv2,hB⟩
 have hS2:=hid (hS1.out.call hB)
 clear hB
 clear hS1
 obtain ⟨t2,x2,p2,l2,q2,y2,r2,s2,u2,rfl⟩:=hv2.open
 have hS3:=hid (hS2.out.fq hv2)
 clear hS2 hv2
 obtain ⟨ne1l,ne1,ne1'⟩:=hS3.out.ne 1 w.heap.size 32 (c5 t1 x1 p1 l1 q1 y1 r1 s1 u1) rfl
 obtain ⟨ne2l,ne2,ne2'⟩:=hS3.out.ne 0 (w.heap.size+1) 32 z5 rfl
 go_wp2_with fail
 have hS4:=hid ((hS3.out).alloc' (w1.heap.size) (by simp) 32 (c5 t2 x2 p2 l2 q2 y2 r2 s2 u2))
 obtain ⟨W1,hW1⟩:=nameW hS4
 rw [hW1] at hS4 ⊢
 clear hW1
 have LM0:=hid (fun (W:World) (h:Below W1.heap.size W1 W)=>(hS4.out.call h).q5 2 1 w.heap.size 32 t1 x1 p1 l1 q1 y1 r1 s1 u1 a rfl rfl)
 have LM1:=hid (fun (W:World) (h:Below W1.heap.size W1 W)=>(hS4.out.call h).q5 0 0 w1.heap.size 32 t2 x2 p2 l2 q2 y2 r2 s2 u2 (m:Rat) rfl rfl)
 refine wp_region_inv 5 [⟨[],[0]⟩,⟨[0],[1]⟩,⟨[],[2]⟩,⟨[1,2],[3]⟩,⟨[3],[4]⟩]
  [oQ a,oQ ((((a.den:Nat):Int):Rat)),oQ (m:Rat),oE (.int .i64 1),oE (.bool false)]
  (fun _ W=>Below W1.heap.size W1 W) (by kernel_rfl) (by kernel_rfl) ?hTW2 ?hZW2 ?hOW2 ?hEW2
 case hZW2=>exact (Below.refl _ _).drew
 case hTW2 =>
  simp only [List.forall_mem_cons,List.not_mem_nil,false_imp_iff,implies_true,and_true]
  exact ⟨bQ,bQ,bQ,bE,bE⟩
 case hOW2 =>
  intro u
  simp only [List.take_succ_cons,List.take_zero,putAll]
  repeat' (first | with_reducible exact debts_nil | with_reducible refine debts_cons ?_ ?_)
  ·intro W hS hF K hK
   have hc:=LM0.out W hS
   go_simp
   exact hK _ _ (.refl _ _) hS hc.2
  ·intro W hS hF K hK
   have hq0:IsQ W (u 0) a:=hF.1
   clear hF
   go_simp
   refine (Den_calls a _ _ hq0).mono ?_
   rintro e wA ⟨v,rfl,hv,hBA⟩
   exact ⟨_,rfl,hK _ _ hBA (hS.trans (hBA.mono hS.size)) hv⟩
  ·intro W hS hF K hK
   have hc:=LM1.out W hS
   go_simp
   exact hK _ _ (.refl _ _) hS hc.2
  ·intro W hS hF K hK
   have hq1:IsQ W (u 1) ((((a.den:Nat):Int):Rat)):=hF.1
   have hq2:IsQ W (u 2) (m:Rat):=hF.2.1
   clear hF
   go_simp
   refine (HD.out _ _ _ hq1 hq2).mono ?_
   rintro e wA ⟨rfl,hBA⟩
   exact ⟨_,rfl,hK _ _ hBA (hS.trans (hBA.mono hS.size)) rfl⟩
  ·intro W hS hF K hK
   have h3:u 3=.int .i64 1:=hF.1
   clear hF
   go_simp
   exact hK _ _ (.refl _ _) hS rfl
 case hEW2 =>
  intro u W2 hS hF
  have hS5:=hid (hS4.out.call hS)
  have h4:u 4=.bool false:=hF.2.2.2.2.1
  clear hF hS HD
  simp only [List.take_succ_cons,List.take_zero,putAll,List.drop_succ_cons,List.drop_zero,Nat.reduceAdd,h4]
  clear h4
  go_wp2_with fail
  refine (HI.out _).mono ?_
  rintro e w3 ⟨v3,rfl,hv3,hB⟩
  have hS6:=hid (hS5.out.call hB)
  clear hB
  clear hS5
  obtain ⟨t3,x3,p3,l3,q3,y3,r3,s3,u3,rfl⟩:=hv3.open
  have hS7:=hid (hS6.out.fq hv3)
  clear hS6 hv3
  obtain ⟨ne3l,ne3,ne3'⟩:=hS7.out.ne 2 w.heap.size 32 (c5 t1 x1 p1 l1 q1 y1 r1 s1 u1) rfl
  obtain ⟨ne4l,ne4,ne4'⟩:=hS7.out.ne 1 (w.heap.size+1) 32 z5 rfl
  obtain ⟨ne5l,ne5,ne5'⟩:=hS7.out.ne 0 w1.heap.size 32 (c5 t2 x2 p2 l2 q2 y2 r2 s2 u2) rfl
  go_wp2_with fail
  refine (HI.out _).mono ?_
  rintro e w4 ⟨v4,rfl,hv4,hB⟩
  have hS8:=hid (hS7.out.call hB)
  clear hB
  clear hS7
  obtain ⟨t4,x4,p4,l4,q4,y4,r4,s4,u4,rfl⟩:=hv4.open
  have hS9:=hid (hS8.out.fq hv4)
  clear hS8 hv4
  obtain ⟨ne6l,ne6,ne6'⟩:=hS9.out.ne 2 w.heap.size 32 (c5 t1 x1 p1 l1 q1 y1 r1 s1 u1) rfl
  obtain ⟨ne7l,ne7,ne7'⟩:=hS9.out.ne 1 (w.heap.size+1) 32 z5 rfl
  obtain ⟨ne8l,ne8,ne8'⟩:=hS9.out.ne 0 w1.heap.size 32 (c5 t2 x2 p2 l2 q2 y2 r2 s2 u2) rfl
  have hA0:=hid (((((hS9.out).alloc' (w4.heap.size) (by simp) 32 (c5 t3 x3 p3 l3 q3 y3 r3 s3 u3)).alloc' (w4.heap.size+1) (by simp) 32 z5).alloc' (w4.heap.size+1+1) (by simp) 32 z5).alloc' (w4.heap.size+1+1+1) (by simp) 32 (c5 t4 x4 p4 l4 q4 y4 r4 s4 u4))
  obtain ⟨⟨cA0,cA1,cA2,cA3,cA4⟩,fA0,fA1,fA2,fA3,fA4⟩:=hA0.out.f5 6 w.heap.size 32 (.bool t1) (.int .u64 x1) (.slice p1 l1 q1) (.int .u64 y1) (.slice r1 s1 u1) rfl
  go_wp2_with fail
  clear cA0 cA1 cA2 cA3 cA4 fA0 fA1 fA2 fA3 fA4
  obtain ⟨W3,hW3⟩:∃ W3,((((w4.alloc (.cells #[.bool t3,.int .u64 x3,.slice p3 l3 q3,.int .u64 y3,.slice r3 s3 u3] 32)).alloc (.cells #[.bool false,.int .u64 0,.slice none 0 0,.int .u64 0,.slice none 0 0] 32)).alloc (.cells #[.bool false,.int .u64 0,.slice none 0 0,.int .u64 0,.slice none 0 0] 32)).alloc (.cells #[.bool t4,.int .u64 x4,.slice p4 l4 q4,.int .u64 y4,.slice r4 s4 u4] 32))=W3:=⟨_,rfl⟩
  rw [hW3] at hA0 ⊢
  clear hW3
  refine (steps_calls _ _ _ _ _ _ _ _ _ _ _ rfl).mono ?_
  rintro e w5 ⟨rfl,rfl⟩
  go_wp2_with fail
  have zA:=(hA0.out.ne 6 w.heap.size 32 (c5 t1 x1 p1 l1 q1 y1 r1 s1 u1) rfl).1
  have yA:w.heap.size≤w.heap.size:=hA0.out.lo 6 w.heap.size 32 (c5 t1 x1 p1 l1 q1 y1 r1 s1 u1) rfl
  have zR:=(hA0.out.ne 5 (w.heap.size+1) 32 z5 rfl).1
  have yR:w.heap.size≤w.heap.size+1:=hA0.out.lo 5 (w.heap.size+1) 32 z5 rfl
  have zL:=(hA0.out.ne 4 w1.heap.size 32 (c5 t2 x2 p2 l2 q2 y2 r2 s2 u2) rfl).1
  have yL:w.heap.size≤w1.heap.size:=hA0.out.lo 4 w1.heap.size 32 (c5 t2 x2 p2 l2 q2 y2 r2 s2 u2) rfl
  have zP:=(hA0.out.ne 3 w4.heap.size 32 (c5 t3 x3 p3 l3 q3 y3 r3 s3 u3) rfl).1
  have yP:w.heap.size≤w4.heap.size:=hA0.out.lo 3 w4.heap.size 32 (c5 t3 x3 p3 l3 q3 y3 r3 s3 u3) rfl
  have zQ:=(hA0.out.ne 2 (w4.heap.size+1) 32 z5 rfl).1
  have yQ:w.heap.size≤w4.heap.size+1:=hA0.out.lo 2 (w4.heap.size+1) 32 z5 rfl
  have zLP:=(hA0.out.ne 1 (w4.heap.size+1+1) 32 z5 rfl).1
  have yLP:w.heap.size≤w4.heap.size+1+1:=hA0.out.lo 1 (w4.heap.size+1+1) 32 z5 rfl
  have zLQ:=(hA0.out.ne 0 (w4.heap.size+1+1+1) 32 (c5 t4 x4 p4 l4 q4 y4 r4 s4 u4) rfl).1
  have yLQ:w.heap.size≤w4.heap.size+1+1+1:=hA0.out.lo 0 (w4.heap.size+1+1+1) 32 (c5 t4 x4 p4 l4 q4 y4 r4 s4 u4) rfl
  have yB:=hA0.out.bel.size
  have hS10:=hid ((hA0.out).alloc' (W3.heap.size) (by simp) 32 (c5 t1 x1 p1 l1 q1 y1 r1 s1 u1))
  obtain ⟨W4,hW4⟩:=nameW hS10
  rw [hW4] at hS10 ⊢
  clear hW4
  have zB:=(hS10.out.ne 0 W3.heap.size 32 (c5 t1 x1 p1 l1 q1 y1 r1 s1 u1) rfl).1
  have yW:=hS10.out.bel.size
  obtain ⟨bB,hbB⟩:∃ b,W3.heap.size=b:=⟨_,rfl⟩
  rw [hbB] at hS10 zB yB zA zR zL zP zQ zLP zLQ ⊢
  clear hbB
  have HX:=hid (And.intro (And.intro zA (And.intro zR (And.intro zL (And.intro zP (And.intro zQ (And.intro zLP zLQ)))))) (And.intro (And.intro yA (And.intro yR (And.intro yL (And.intro yP (And.intro yQ (And.intro yLP yLQ)))))) (And.intro zB (And.intro yB yW))))
  clear zA zR zL zP zQ zLP zLQ yA yR yL yP yQ yLP yLQ zB yB yW
  have HI0:∃ I:Nat→World→Prop,I=fun i W=>∃ (t11:Bool) (x11:Int) (p11:Option Addr) (l11 q11:Nat) (y11:Int) (r11:Option Addr) (s11 u11:Nat) (t12:Bool) (x12:Int) (p12:Option Addr) (l12 q12:Nat) (y12:Int) (r12:Option Addr) (s12 u12:Nat) (t13:Bool) (x13:Int) (p13:Option Addr) (l13 q13:Nat) (y13:Int) (r13:Option Addr) (s13 u13:Nat) (t14:Bool) (x14:Int) (p14:Option Addr) (l14 q14:Nat) (y14:Int) (r14:Option Addr) (s14 u14:Nat),St w [⟨w4.heap.size+1+1+1,32,(c5 t14 x14 p14 l14 q14 y14 r14 s14 u14)⟩,⟨w4.heap.size+1+1,32,(c5 t13 x13 p13 l13 q13 y13 r13 s13 u13)⟩,⟨w4.heap.size+1,32,(c5 t12 x12 p12 l12 q12 y12 r12 s12 u12)⟩,⟨w4.heap.size,32,(c5 t11 x11 p11 l11 q11 y11 r11 s11 u11)⟩,⟨w1.heap.size,32,(c5 t2 x2 p2 l2 q2 y2 r2 s2 u2)⟩,⟨w.heap.size+1,32,z5⟩,⟨w.heap.size,32,(c5 t1 x1 p1 l1 q1 y1 r1 s1 u1)⟩] [.q (.agg #[.bool t14,.int .u64 x14,.slice p14 l14 q14,.int .u64 y14,.slice r14 s14 u14]) ((cv a i).lq),.q (.agg #[.bool t13,.int .u64 x13,.slice p13 l13 q13,.int .u64 y13,.slice r13 s13 u13]) ((cv a i).lp),.q (.agg #[.bool t12,.int .u64 x12,.slice p12 l12 q12,.int .u64 y12,.slice r12 s12 u12]) ((cv a i).q),.q (.agg #[.bool t11,.int .u64 x11,.slice p11 l11 q11,.int .u64 y11,.slice r11 s11 u11]) ((cv a i).p),.q (.agg #[.bool t2,.int .u64 x2,.slice p2 l2 q2,.int .u64 y2,.slice r2 s2 u2]) (m:Rat),.q (.agg #[.bool t1,.int .u64 x1,.slice p1 l1 q1,.int .u64 y1,.slice r1 s1 u1]) a] W:=⟨_,rfl⟩
  obtain ⟨I,hI⟩:=HI0
  have HIe:=hid hI
  clear hI
  have hst:∀ i W W',Off (fun k=>k=bB∨W4.heap.size≤k) W W'→I i W→I i W':=by
   have hI:=HIe.out
   clear HIe
   subst hI
   rintro i W W' ho ⟨t11,x11,p11,l11,q11,y11,r11,s11,u11,t12,x12,p12,l12,q12,y12,r12,s12,u12,t13,x13,p13,l13,q13,y13,r13,s13,u13,t14,x14,p14,l14,q14,y14,r14,s14,u14,h⟩
   refine ⟨_,_,_,_,_,_,_,_,_,_,_,_,_,_,_,_,_,_,_,_,_,_,_,_,_,_,_,_,_,_,_,_,_,_,_,_,h.off ho ?_ ?_⟩
   ·obtain ⟨⟨zA,zR,zL,zP,zQ,zLP,zLQ⟩,⟨yA,yR,yL,yP,yQ,yLP,yLQ⟩,zB,yB,yW⟩:=HX.out
    simp only [List.forall_mem_cons,List.not_mem_nil,false_imp_iff,implies_true,and_true]
    omega
   ·obtain ⟨⟨zA,zR,zL,zP,zQ,zLP,zLQ⟩,⟨yA,yR,yL,yP,yQ,yLP,yLQ⟩,zB,yB,yW⟩:=HX.out
    intro k h
    rcases h with h | h <;> omega
  refine wpIn_wide.1 (wp_iter (P:=Tryz.prog) (gf:=168) (lb:=#[.pointer (some ⟨bB,0,none⟩)]) rfl (enters_of Tryz.func168 (by kernel_rfl) rfl)
   (steps_iter a N k bB w.heap.size W4 HH.out.hk (fun i hi=>⟨(HH.out.step i hi).r,(HH.out.step i hi).t⟩) (fun i hi=>(HH.out.step i (by omega)).on hi) (HT.out.below hS10.out.bel (Nat.le_refl _)) ⟨_,_,_,_,_,_,_,_,_,hS10.out.bx (b:=⟨bB,32,(c5 t1 x1 p1 l1 q1 y1 r1 s1 u1)⟩) 0 rfl,hS10.out.get (f:=.q (.agg #[.bool t1,.int .u64 x1,.slice p1 l1 q1,.int .u64 y1,.slice r1 s1 u1]) a) 3 rfl⟩ HT.out.1 HX.out.2.2.2.1) rfl
   (fun k=>k=w4.heap.size∨k=w4.heap.size+1∨k=w4.heap.size+1+1∨k=w4.heap.size+1+1+1) (fun h=>by obtain ⟨⟨zA,zR,zL,zP,zQ,zLP,zLQ⟩,⟨yA,yR,yL,yP,yQ,yLP,yLQ⟩,zB,yB,yW⟩:=HX.out;rcases h with h | h | h | h <;> omega) HX.out.2.2.1 HX.out.2.2.2.2 (fun k h=>by obtain ⟨⟨zA,zR,zL,zP,zQ,zLP,zLQ⟩,⟨yA,yR,yL,yP,yQ,yLP,yLQ⟩,zB,yB,yW⟩:=HX.out;rcases h with h | h | h | h <;> omega) I (fun c W=>c=.exit 0∧I N W) hst (fun c W W' ho h=>⟨h.1,hst N W W' ho h.2⟩) ?hI3 ?hI4 ?hI5)
  case hI3 =>
   rw [HIe.out]
   exact ⟨t3,x3,p3,l3,q3,y3,r3,s3,u3,false,0,none,0,0,0,none,0,0,false,0,none,0,0,0,none,0,0,t4,x4,p4,l4,q4,y4,r4,s4,u4,(hS10.out.del 0).bel,(hS10.out.del 0).box,hS10.out.get (f:=.q (.agg #[.bool t4,.int .u64 x4,.slice p4 l4 q4,.int .u64 y4,.slice r4 s4 u4]) 1) 0 rfl,isQ_zero _,isQ_zero _,hS10.out.get (f:=.q (.agg #[.bool t3,.int .u64 x3,.slice p3 l3 q3,.int .u64 y3,.slice r3 s3 u3]) 1) 1 rfl,hS10.out.get (f:=.q (.agg #[.bool t2,.int .u64 x2,.slice p2 l2 q2,.int .u64 y2,.slice r2 s2 u2]) (m:Rat)) 2 rfl,hS10.out.get (f:=.q (.agg #[.bool t1,.int .u64 x1,.slice p1 l1 q1,.int .u64 y1,.slice r1 s1 u1]) a) 3 rfl,trivial⟩
  case hI4 =>
   rintro l i v Wr hl hlW hi hIi hv K hK
   rw [HIe.out] at hIi
   obtain ⟨t11,x11,p11,l11,q11,y11,r11,s11,u11,t12,x12,p12,l12,q12,y12,r12,s12,u12,t13,x13,p13,l13,q13,y13,r13,s13,u13,t14,x14,p14,l14,q14,y14,r14,s14,u14,hS99⟩:=hIi
   have HS:=hid hS99
   clear hS99
   have HN:=hid (HH.out.step i hi)
   obtain ⟨t5,x5,p5,l5,q5,y5,r5,s5,u5,rfl⟩:=hv.open
   have HV:=hid hv
   clear hv
   refine round_list (by kernel_rfl) (fun ⟨_,_,h⟩=>h) ?_
   go_wp2_with fail
   refine hK _ _ (Off.of_below ((Below.refl _ _).alloc (Nat.le_refl _) _)) ?_
   clear hK
   intro Wx ho2
   have hSx:=(((HS.out.alloc' Wr.heap.size rfl 32 (c5 t5 x5 p5 l5 q5 y5 r5 s5 u5)).fact (.q (.agg #[.bool t5,.int .u64 x5,.slice p5 l5 q5,.int .u64 y5,.slice r5 s5 u5]) (flQ (cfr a i))) (HV.out.below ((Below.refl _ _).alloc (Nat.le_refl _) _))).off ho2 (by
    obtain ⟨⟨zA,zR,zL,zP,zQ,zLP,zLQ⟩,⟨yA,yR,yL,yP,yQ,yLP,yLQ⟩,zB,yB,yW⟩:=HX.out
    simp only [List.forall_mem_cons,List.not_mem_nil,false_imp_iff,implies_true,and_true]
    omega)
    (fun k hk=>by obtain ⟨⟨zA,zR,zL,zP,zQ,zLP,zLQ⟩,⟨yA,yR,yL,yP,yQ,yLP,yLQ⟩,zB,yB,yW⟩:=HX.out;have hk':k=l:=hk;omega))
   have hzx:Wr.heap.size<Wx.heap.size:=Nat.lt_of_lt_of_le (by simp) ho2.size
   clear ho2 HV HS
   obtain ⟨bT,hbT⟩:∃ bT,Wr.heap.size=bT:=⟨_,rfl⟩
   rw [hbT] at hSx hlW hzx ⊢
   clear hbT
   have HSx:=hid hSx
   clear hSx
   refine wpIn_block (wpIn_seq ?_)
   have LM0:=hid (fun (W:World) (h:Below Wx.heap.size Wx W)=>(HSx.out.call h).q5 1 1 (w4.heap.size+1+1+1) 32 t14 x14 p14 l14 q14 y14 r14 s14 u14 ((cv a i).lq) rfl rfl)
   have LM1:=hid (fun (W:World) (h:Below Wx.heap.size Wx W)=>(HSx.out.call h).q5 0 0 bT 32 t5 x5 p5 l5 q5 y5 r5 s5 u5 (flQ (cfr a i)) rfl rfl)
   have LM2:=hid (fun (W:World) (h:Below Wx.heap.size Wx W)=>(HSx.out.call h).q5 3 3 (w4.heap.size+1) 32 t12 x12 p12 l12 q12 y12 r12 s12 u12 ((cv a i).q) rfl rfl)
   have LM3:=hid (fun (W:World) (h:Below Wx.heap.size Wx W)=>HT.out.below (HSx.out.call h).bel (Nat.le_refl _))
   refine round_draw (by kernel_rfl) (by kernel_rfl) (fun ⟨_,_,h⟩=>h) (inv_all 6 [⟨[],[0]⟩,⟨[],[1]⟩,⟨[],[2]⟩,⟨[1,2],[3]⟩,⟨[0,3],[4]⟩,⟨[],[5]⟩]
    [oQ ((cv a i).lq),oQ (flQ (cfr a i)),oQ ((cv a i).q),oQ ((flQ (cfr a i))*(cv a i).q),oQ ((cv a (i+1)).q),one (NewV Wx.heap.size 32 z5)]
    (fun _ W=>Below Wx.heap.size Wx W) (by kernel_rfl) ?hTWy ?hZWy ?hOWy ?hEWy)
   case hZWy=>exact (Below.refl _ _).drew
   case hTWy =>
    simp only [List.forall_mem_cons,List.not_mem_nil,false_imp_iff,implies_true,and_true]
    exact ⟨bQ,bQ,bQ,bQ,bQ,one_below newV_below⟩
   case hOWy =>
    intro ra
    simp only [List.take_succ_cons,List.take_zero,putAll]
    repeat' (first | with_reducible exact debts_nil | with_reducible refine debts_cons ?_ ?_)
    ·intro W hS hF K hK
     have hc:=LM0.out W hS
     go_simp
     exact hK _ _ (.refl _ _) hS hc.2
    ·intro W hS hF K hK
     have hc:=LM1.out W hS
     go_simp
     exact hK _ _ (.refl _ _) hS hc.2
    ·intro W hS hF K hK
     have hc:=LM2.out W hS
     go_simp
     exact hK _ _ (.refl _ _) hS hc.2
    ·intro W hS hF K hK
     have hq1:IsQ W (ra 1) (flQ (cfr a i)):=hF.1
     have hq2:IsQ W (ra 2) ((cv a i).q):=hF.2.1
     clear hF
     go_simp
     refine (Mul_calls (flQ (cfr a i)) (cv a i).q _ _ k _ hq1 hq2 (by have:=HH.out.hk;omega) HN.out.t HN.out.q (LM3.out W hS)).mono ?_
     rintro e wA ⟨v,rfl,hv,hBA⟩
     exact ⟨_,rfl,hK _ _ hBA (hS.trans (hBA.mono hS.size)) hv⟩
    ·intro W hS hF K hK
     have hq0:IsQ W (ra 0) ((cv a i).lq):=hF.1
     have hq3:IsQ W (ra 3) ((flQ (cfr a i))*(cv a i).q):=hF.2.1
     clear hF
     go_simp
     refine (Add_calls (cv a i).lq ((flQ (cfr a i))*(cv a i).q) _ _ k _ hq0 hq3 (by have:=HH.out.hk;omega) HN.out.lq HN.out.tq (LM3.out W hS)).mono ?_
     rintro e wA ⟨v,rfl,hv,hBA⟩
     exact ⟨_,rfl,hK _ _ hBA (hS.trans (hBA.mono hS.size)) hv⟩
    ·intro W hS hF K hK
     go_simp
     refine hK _ _ ((Below.refl _ _).alloc (Nat.le_refl _) _) (hS.alloc hS.size _) ?_
     exact (show (NewV Wx.heap.size 32 z5) _ _ from ⟨_,rfl,hS.size,by simp,Bx.new W 32 z5⟩)
   case hEWy =>
    intro ra Wy hS hF
    have hS200:=hid (HSx.out.call hS)
    obtain ⟨L5,e5,hl5,hm5,hb5⟩:NewV Wx.heap.size 32 z5 (ra 5) Wy:=hF.2.2.2.2.2.1
    have HS300:=hid (hS200.out.add (Nat.le_trans HSx.out.bel.size hl5) hb5 (HSx.out.old hl5))
    clear hb5
    have hv0:IsQ Wy (ra 4) (cv a (i+1)).q:=hF.2.2.2.2.1
    have HOx:=hid (Off.of_below (S:=(fun k=>k=w4.heap.size∨k=w4.heap.size+1∨k=w4.heap.size+1+1∨k=w4.heap.size+1+1+1)) hS)
    clear hF hS
    obtain ⟨t31,x31,p31,l31,q31,y31,r31,s31,u31,e9⟩:=hv0.open
    have hv9:IsQ Wy (.agg #[.bool t31,.int .u64 x31,.slice p31 l31 q31,.int .u64 y31,.slice r31 s31 u31]) (cv a (i+1)).q:=e9 ▸ hv0
    clear hv0
    have hS201:=hid (HS300.out.fq hv9)
    clear HS300 hv9
    obtain ⟨⟨cN0,cN1,cN2,cN3,cN4⟩,fN0,fN1,fN2,fN3,fN4⟩:=hS201.out.f5 0 L5 32 (.bool false) (.int .u64 0) (.slice none 0 0) (.int .u64 0) (.slice none 0 0) rfl
    simp only [List.take_succ_cons,List.take_zero,putAll,List.drop_succ_cons,List.drop_zero]
    have HO2:=hid ((HOx.out.mono (fun k _ h=>by rcases h with h | h | h | h <;> simp [h])).trans (Off.set5 (S:=(fun k=>k=w4.heap.size∨k=w4.heap.size+1∨k=w4.heap.size+1+1∨k=w4.heap.size+1+1+1∨Wx.heap.size≤k)) (hS201.out.bx (b:=⟨L5,32,z5⟩) 0 rfl) (.inr (.inr (.inr (.inr hl5)))) t31 x31 p31 l31 q31 y31 r31 s31 u31).1)
    clear HOx
    go_wp2_with fail
    clear cN0 cN1 cN2 cN3 cN4 fN0 fN1 fN2 fN3 fN4
    have HS301:=hid (((((((hS201.out).store (b:=⟨L5,32,z5⟩) 0 0 (.bool t31) rfl rfl).store (b:=⟨L5,32,[.bool t31,.int .u64 0,.slice none 0 0,.int .u64 0,.slice none 0 0]⟩) 0 1 (.int .u64 x31) rfl rfl).store (b:=⟨L5,32,[.bool t31,.int .u64 x31,.slice none 0 0,.int .u64 0,.slice none 0 0]⟩) 0 2 (.slice p31 l31 q31) rfl rfl).store (b:=⟨L5,32,[.bool t31,.int .u64 x31,.slice p31 l31 q31,.int .u64 0,.slice none 0 0]⟩) 0 3 (.int .u64 y31) rfl rfl).store (b:=⟨L5,32,[.bool t31,.int .u64 x31,.slice p31 l31 q31,.int .u64 y31,.slice none 0 0]⟩) 0 4 (.slice r31 s31 u31) rfl rfl).as [⟨L5,32,(c5 t31 x31 p31 l31 q31 y31 r31 s31 u31)⟩,⟨bT,32,(c5 t5 x5 p5 l5 q5 y5 r5 s5 u5)⟩,⟨w4.heap.size+1+1+1,32,(c5 t14 x14 p14 l14 q14 y14 r14 s14 u14)⟩,⟨w4.heap.size+1+1,32,(c5 t13 x13 p13 l13 q13 y13 r13 s13 u13)⟩,⟨w4.heap.size+1,32,(c5 t12 x12 p12 l12 q12 y12 r12 s12 u12)⟩,⟨w4.heap.size,32,(c5 t11 x11 p11 l11 q11 y11 r11 s11 u11)⟩,⟨w1.heap.size,32,(c5 t2 x2 p2 l2 q2 y2 r2 s2 u2)⟩,⟨w.heap.size+1,32,z5⟩,⟨w.heap.size,32,(c5 t1 x1 p1 l1 q1 y1 r1 s1 u1)⟩] rfl)
    obtain ⟨Wz,hWz⟩:∃ Wz,(((((Wy.setCell ⟨L5,0,none⟩ (.bool t31)).setCell ⟨L5,1,none⟩ (.int .u64 x31)).setCell ⟨L5,2,none⟩ (.slice p31 l31 q31)).setCell ⟨L5,3,none⟩ (.int .u64 y31)).setCell ⟨L5,4,none⟩ (.slice r31 s31 u31))=Wz:=⟨_,rfl⟩
    rw [hWz] at HS301 HO2 ⊢
    clear hWz
    refine wpIn_seq (wpIn_seq ?_)
    have HCq:=hid (fun (W:World) (v1 v2:Value) (h1:IsQ W v1 (cv a (i+1)).q) (h2:IsQ W v2 (m:Rat))=>Cmp_calls _ _ v1 v2 k W h1 h2 (by have:=HH.out.hk;omega) HN.out.nq HH.out.fm)
    by_cases hiN:i<N
    ·obtain ⟨cc,hcc⟩:∃ c,cmpQ (cv a (i+1)).q (m:Rat)=c:=⟨_,rfl⟩
     have hc0:cc≤0:=hcc ▸ HN.out.lim1 hiN
     rw [hcc] at HCq
     clear hcc
     refine round_list (by kernel_rfl) (fun ⟨_,_,h⟩=>h) ?_
     obtain ⟨⟨cN0,cN1,cN2,cN3,cN4⟩,fN0,fN1,fN2,fN3,fN4⟩:=HS301.out.f5 0 L5 32 (.bool t31) (.int .u64 x31) (.slice p31 l31 q31) (.int .u64 y31) (.slice r31 s31 u31) rfl
     obtain ⟨⟨cL0,cL1,cL2,cL3,cL4⟩,fL0,fL1,fL2,fL3,fL4⟩:=HS301.out.f5 6 w1.heap.size 32 (.bool t2) (.int .u64 x2) (.slice p2 l2 q2) (.int .u64 y2) (.slice r2 s2 u2) rfl
     go_wp2_with fail
     refine (HCq.out _ _ _ (HS301.out.gq 0 rfl) (HS301.out.gq 6 rfl)).mono ?_
     rintro e wa ⟨rfl,hB⟩
     have HO3:=hid (HO2.out.trans (Off.of_below hB))
     clear HO2
     have hS202:=hid (HS301.out.call hB)
     clear hB
     clear HS301
     clear cN0 cN1 cN2 cN3 cN4 fN0 fN1 fN2 fN3 fN4 cL0 cL1 cL2 cL3 cL4 fL0 fL1 fL2 fL3 fL4
     go_wp2_with fail
     gi_wp2_with fail
     clear HCq
     have HSd:=@hid (St w [⟨L5,32,(c5 t31 x31 p31 l31 q31 y31 r31 s31 u31)⟩,⟨bT,32,(c5 t5 x5 p5 l5 q5 y5 r5 s5 u5)⟩,⟨w4.heap.size+1+1+1,32,(c5 t14 x14 p14 l14 q14 y14 r14 s14 u14)⟩,⟨w4.heap.size+1+1,32,(c5 t13 x13 p13 l13 q13 y13 r13 s13 u13)⟩,⟨w4.heap.size+1,32,(c5 t12 x12 p12 l12 q12 y12 r12 s12 u12)⟩,⟨w1.heap.size,32,(c5 t2 x2 p2 l2 q2 y2 r2 s2 u2)⟩,⟨w.heap.size+1,32,z5⟩,⟨w.heap.size,32,(c5 t1 x1 p1 l1 q1 y1 r1 s1 u1)⟩] [.q (.agg #[.bool t31,.int .u64 x31,.slice p31 l31 q31,.int .u64 y31,.slice r31 s31 u31]) ((cv a (i+1)).q),.q (.agg #[.bool t5,.int .u64 x5,.slice p5 l5 q5,.int .u64 y5,.slice r5 s5 u5]) (flQ (cfr a i)),.q (.agg #[.bool t14,.int .u64 x14,.slice p14 l14 q14,.int .u64 y14,.slice r14 s14 u14]) ((cv a i).lq),.q (.agg #[.bool t13,.int .u64 x13,.slice p13 l13 q13,.int .u64 y13,.slice r13 s13 u13]) ((cv a i).lp),.q (.agg #[.bool t12,.int .u64 x12,.slice p12 l12 q12,.int .u64 y12,.slice r12 s12 u12]) ((cv a i).q),.q (.agg #[.bool t11,.int .u64 x11,.slice p11 l11 q11,.int .u64 y11,.slice r11 s11 u11]) ((cv a i).p),.q (.agg #[.bool t2,.int .u64 x2,.slice p2 l2 q2,.int .u64 y2,.slice r2 s2 u2]) (m:Rat),.q (.agg #[.bool t1,.int .u64 x1,.slice p1 l1 q1,.int .u64 y1,.slice r1 s1 u1]) a] wa) (hS202.out.del 5)
     have HNe:=@hid (∀ b∈([⟨L5,32,(c5 t31 x31 p31 l31 q31 y31 r31 s31 u31)⟩,⟨bT,32,(c5 t5 x5 p5 l5 q5 y5 r5 s5 u5)⟩,⟨w4.heap.size+1+1+1,32,(c5 t14 x14 p14 l14 q14 y14 r14 s14 u14)⟩,⟨w4.heap.size+1+1,32,(c5 t13 x13 p13 l13 q13 y13 r13 s13 u13)⟩,⟨w4.heap.size+1,32,(c5 t12 x12 p12 l12 q12 y12 r12 s12 u12)⟩,⟨w1.heap.size,32,(c5 t2 x2 p2 l2 q2 y2 r2 s2 u2)⟩,⟨w.heap.size+1,32,z5⟩,⟨w.heap.size,32,(c5 t1 x1 p1 l1 q1 y1 r1 s1 u1)⟩]:List Bk),¬ b.pos=w4.heap.size) (fun b hb e=>hS202.out.del_ne 5 (b:=⟨w4.heap.size,32,(c5 t11 x11 p11 l11 q11 y11 r11 s11 u11)⟩) rfl b hb e.symm)
     have HLo:=@hid (∀ k,k=w4.heap.size→w.heap.size≤k) (fun k hk=>hk ▸ hS202.out.lo 5 w4.heap.size 32 (c5 t11 x11 p11 l11 q11 y11 r11 s11 u11) rfl)
     refine round_draw (by kernel_rfl) (by kernel_rfl) (fun ⟨_,_,h⟩=>h) (Dn.done_all 9 [⟨[],[0]⟩,⟨[],[1]⟩,⟨[],[2]⟩,⟨[1,2],[3]⟩,⟨[0,3],[4]⟩,⟨[],[5]⟩,⟨[],[6]⟩,⟨[],[7]⟩,⟨[4],[4]⟩]
      [one fun v W=>IsQ W v ((cv a i).lp),one fun v W=>IsQ W v (flQ (cfr a i)),one fun v W=>IsQ W v ((cv a i).p),one fun v W=>IsQ W v ((flQ (cfr a i))*(cv a i).p),one fun v W=>IsQ W v ((cv a (i+1)).p),one fun v W=>IsQ W v ((cv a (i+1)).q),one fun v W=>IsQ W v ((cv a i).p),one fun v W=>IsQ W v ((cv a i).q),one (HoldsV w4.heap.size 32)]
      (fun dn _ W=>Off (fun k=>k=w4.heap.size) wa W∧(dn 8=false→Below wa.heap.size wa W)) (by kernel_rfl) ?hTD ?hZD ?hOD ?hED)
     case hZD=>exact ⟨Off.of_below (Below.refl _ _).drew,fun _=>(Below.refl _ _).drew⟩
     case hTD =>
      simp only [List.forall_mem_cons,List.not_mem_nil,false_imp_iff,implies_true,and_true]
      exact ⟨one_below isQ_below,one_below isQ_below,one_below isQ_below,one_below isQ_below,one_below isQ_below,one_below isQ_below,one_below isQ_below,one_below isQ_below,one_below holdsV_below⟩
     case hOD =>
      intro u
      simp only [List.take_succ_cons,List.take_zero,putAll]
      repeat' (first | with_reducible exact Dn.debts_nil | with_reducible refine Dn.debts_cons ?_ ?_)
      ·intro dn W hdn hw hS hF K hK
       have hc:=((HSd.out.off hS.1 HNe.out HLo.out).q5 3 3 (w4.heap.size+1+1) 32 t13 x13 p13 l13 q13 y13 r13 s13 u13 ((cv a i).lp) rfl rfl)
       have c0:=hc.1.1;have c1:=hc.1.2.1;have c2:=hc.1.2.2.1;have c3:=hc.1.2.2.2.1;have c4:=hc.1.2.2.2.2;have hf:=hc.2
       clear hc hF
       go_simp
       exact hK _ _ (.inl (Below.refl _ _)) ⟨hS.1,fun h=>hS.2 (more_false h)⟩ hf
      ·intro dn W hdn hw hS hF K hK
       have hc:=((HSd.out.off hS.1 HNe.out HLo.out).q5 1 1 bT 32 t5 x5 p5 l5 q5 y5 r5 s5 u5 (flQ (cfr a i)) rfl rfl)
       have c0:=hc.1.1;have c1:=hc.1.2.1;have c2:=hc.1.2.2.1;have c3:=hc.1.2.2.2.1;have c4:=hc.1.2.2.2.2;have hf:=hc.2
       clear hc hF
       go_simp
       exact hK _ _ (.inl (Below.refl _ _)) ⟨hS.1,fun h=>hS.2 (more_false h)⟩ hf
      ·intro dn W hdn hw hS hF K hK
       have hc:=((hS202.out.call (hS.2 (hw 8 _ rfl (by kernel_rfl)))).q5 5 5 w4.heap.size 32 t11 x11 p11 l11 q11 y11 r11 s11 u11 ((cv a i).p) rfl rfl)
       have c0:=hc.1.1;have c1:=hc.1.2.1;have c2:=hc.1.2.2.1;have c3:=hc.1.2.2.2.1;have c4:=hc.1.2.2.2.2;have hf:=hc.2
       clear hc hF
       go_simp
       exact hK _ _ (.inl (Below.refl _ _)) ⟨hS.1,fun h=>hS.2 (more_false h)⟩ hf
      ·intro dn W hdn hw hS hF K hK
       have hq1:IsQ W (u 1) (flQ (cfr a i)):=hF.1
       have hq2:IsQ W (u 2) ((cv a i).p):=hF.2.1
       have hTb:=HT.out.below (HSd.out.off hS.1 HNe.out HLo.out).bel (Nat.le_refl _)
       clear hF
       go_simp
       refine (Mul_calls (flQ (cfr a i)) (cv a i).p _ _ k _ hq1 hq2 (by have:=HH.out.hk;omega) HN.out.t HN.out.p hTb).mono ?_
       rintro e wA ⟨v,rfl,hv,hBA⟩
       exact ⟨_,rfl,hK _ _ (.inl hBA) ⟨hS.1.trans (Off.of_below hBA),fun h=>(hS.2 (more_false h)).trans (hBA.mono hS.1.size)⟩ hv⟩
      ·intro dn W hdn hw hS hF K hK
       have hq0:IsQ W (u 0) ((cv a i).lp):=hF.1
       have hq3:IsQ W (u 3) ((flQ (cfr a i))*(cv a i).p):=hF.2.1
       have hTb:=HT.out.below (HSd.out.off hS.1 HNe.out HLo.out).bel (Nat.le_refl _)
       clear hF
       go_simp
       refine (Add_calls (cv a i).lp ((flQ (cfr a i))*(cv a i).p) _ _ k _ hq0 hq3 (by have:=HH.out.hk;omega) HN.out.lp HN.out.tp hTb).mono ?_
       rintro e wA ⟨v,rfl,hv,hBA⟩
       exact ⟨_,rfl,hK _ _ (.inl hBA) ⟨hS.1.trans (Off.of_below hBA),fun h=>(hS.2 (more_false h)).trans (hBA.mono hS.1.size)⟩ hv⟩
      ·intro dn W hdn hw hS hF K hK
       have hc:=((HSd.out.off hS.1 HNe.out HLo.out).q5 0 0 L5 32 t31 x31 p31 l31 q31 y31 r31 s31 u31 ((cv a (i+1)).q) rfl rfl)
       have c0:=hc.1.1;have c1:=hc.1.2.1;have c2:=hc.1.2.2.1;have c3:=hc.1.2.2.2.1;have c4:=hc.1.2.2.2.2;have hf:=hc.2
       clear hc hF
       go_simp
       exact hK _ _ (.inl (Below.refl _ _)) ⟨hS.1,fun h=>hS.2 (more_false h)⟩ hf
      ·intro dn W hdn hw hS hF K hK
       have hc:=((hS202.out.call (hS.2 (hw 8 _ rfl (by kernel_rfl)))).q5 5 5 w4.heap.size 32 t11 x11 p11 l11 q11 y11 r11 s11 u11 ((cv a i).p) rfl rfl)
       have c0:=hc.1.1;have c1:=hc.1.2.1;have c2:=hc.1.2.2.1;have c3:=hc.1.2.2.2.1;have c4:=hc.1.2.2.2.2;have hf:=hc.2
       clear hc hF
       go_simp
       exact hK _ _ (.inl (Below.refl _ _)) ⟨hS.1,fun h=>hS.2 (more_false h)⟩ hf
      ·intro dn W hdn hw hS hF K hK
       have hc:=((HSd.out.off hS.1 HNe.out HLo.out).q5 4 4 (w4.heap.size+1) 32 t12 x12 p12 l12 q12 y12 r12 s12 u12 ((cv a i).q) rfl rfl)
       have c0:=hc.1.1;have c1:=hc.1.2.1;have c2:=hc.1.2.2.1;have c3:=hc.1.2.2.2.1;have c4:=hc.1.2.2.2.2;have hf:=hc.2
       clear hc hF
       go_simp
       exact hK _ _ (.inl (Below.refl _ _)) ⟨hS.1,fun h=>hS.2 (more_false h)⟩ hf
      ·intro dn W hdn hw hS hF K hK
       have hq4:IsQ W (u 4) (cv a (i+1)).p:=hF.1
       with_reducible refine IsQ.elim hq4 ?_
       intro t32 x32 p32 l32 q32 y32 r32 s32 u32 h4
       have hb:=(hS202.out.call (hS.2 hdn)).bx (b:=⟨w4.heap.size,32,(c5 t11 x11 p11 l11 q11 y11 r11 s11 u11)⟩) 5 rfl
       have hc:=hb.f5
       have c0:=hc.1.1;have c1:=hc.1.2.1;have c2:=hc.1.2.2.1;have c3:=hc.1.2.2.2.1;have c4:=hc.1.2.2.2.2
       have f0:=hc.2.1;have f1:=hc.2.2.1;have f2:=hc.2.2.2.1;have f3:=hc.2.2.2.2.1;have f4:=hc.2.2.2.2.2
       have ho:=Off.set5 (S:=fun k=>k=w4.heap.size) hb rfl t32 x32 p32 l32 q32 y32 r32 s32 u32
       have HH9:=hid (And.intro hb ho)
       clear hc hF hb ho hq4
       go_simp
       refine hK _ _ (kept_of ⟨.inr (one_keep fun _ h=>HH9.out.2.1.fct (.q _ _) h),.inr (one_keep fun _ h=>HH9.out.2.1.fct (.q _ _) h),.inr (one_keep fun _ h=>HH9.out.2.1.fct (.q _ _) h),.inr (one_keep fun _ h=>HH9.out.2.1.fct (.q _ _) h),.inr (one_keep fun _ h=>HH9.out.2.1.fct (.q _ _) h),.inr (one_keep fun _ h=>HH9.out.2.1.fct (.q _ _) h),.inr (one_keep fun _ h=>HH9.out.2.1.fct (.q _ _) h),.inr (one_keep fun _ h=>HH9.out.2.1.fct (.q _ _) h),.inl rfl,trivial⟩) ⟨hS.1.trans HH9.out.2.1,fun h=>absurd h (by simp [Dn.more])⟩ ?_
       exact (show HoldsV w4.heap.size 32 (u 4) _ from ⟨_,_,_,_,_,_,_,_,_,h4,HH9.out.2.2⟩)
     case hED =>
      intro dn u Wb hdn hS hF
      have hu8:HoldsV w4.heap.size 32 (u 4) Wb:=hF.2.2.2.2.2.2.2.2.1
      have hu5:IsQ Wb (u 5) (cv a (i+1)).q:=hF.2.2.2.2.2.1
      have hu6:IsQ Wb (u 6) (cv a i).p:=hF.2.2.2.2.2.2.1
      have hu7:IsQ Wb (u 7) (cv a i).q:=hF.2.2.2.2.2.2.2.1
      have hu4:IsQ Wb (u 4) (cv a (i+1)).p:=hF.2.2.2.2.1
      clear hF
      obtain ⟨t32,x32,p32,l32,q32,y32,r32,s32,u32,e32,hbP⟩:=hu8
      rw [e32] at hu4
      obtain ⟨t33,x33,p33,l33,q33,y33,r33,s33,u33,e33⟩:=hu5.open
      rw [e33] at hu5
      obtain ⟨t34,x34,p34,l34,q34,y34,r34,s34,u34,e34⟩:=hu6.open
      rw [e34] at hu6
      obtain ⟨t35,x35,p35,l35,q35,y35,r35,s35,u35,e35⟩:=hu7.open
      rw [e35] at hu7
      have HO4:=hid (HO3.out.trans (hS.1.mono (fun k _ h=>.inl h)))
      have hSt:=HSd.out.off hS.1 HNe.out HLo.out
      have HS400:=@hid (St w (⟨w4.heap.size,32,(c5 t32 x32 p32 l32 q32 y32 r32 s32 u32)⟩ :: [⟨L5,32,(c5 t31 x31 p31 l31 q31 y31 r31 s31 u31)⟩,⟨bT,32,(c5 t5 x5 p5 l5 q5 y5 r5 s5 u5)⟩,⟨w4.heap.size+1+1+1,32,(c5 t14 x14 p14 l14 q14 y14 r14 s14 u14)⟩,⟨w4.heap.size+1+1,32,(c5 t13 x13 p13 l13 q13 y13 r13 s13 u13)⟩,⟨w4.heap.size+1,32,(c5 t12 x12 p12 l12 q12 y12 r12 s12 u12)⟩,⟨w1.heap.size,32,(c5 t2 x2 p2 l2 q2 y2 r2 s2 u2)⟩,⟨w.heap.size+1,32,z5⟩,⟨w.heap.size,32,(c5 t1 x1 p1 l1 q1 y1 r1 s1 u1)⟩]) [.q (.agg #[.bool t31,.int .u64 x31,.slice p31 l31 q31,.int .u64 y31,.slice r31 s31 u31]) ((cv a (i+1)).q),.q (.agg #[.bool t5,.int .u64 x5,.slice p5 l5 q5,.int .u64 y5,.slice r5 s5 u5]) (flQ (cfr a i)),.q (.agg #[.bool t14,.int .u64 x14,.slice p14 l14 q14,.int .u64 y14,.slice r14 s14 u14]) ((cv a i).lq),.q (.agg #[.bool t13,.int .u64 x13,.slice p13 l13 q13,.int .u64 y13,.slice r13 s13 u13]) ((cv a i).lp),.q (.agg #[.bool t12,.int .u64 x12,.slice p12 l12 q12,.int .u64 y12,.slice r12 s12 u12]) ((cv a i).q),.q (.agg #[.bool t11,.int .u64 x11,.slice p11 l11 q11,.int .u64 y11,.slice r11 s11 u11]) ((cv a i).p),.q (.agg #[.bool t2,.int .u64 x2,.slice p2 l2 q2,.int .u64 y2,.slice r2 s2 u2]) (m:Rat),.q (.agg #[.bool t1,.int .u64 x1,.slice p1 l1 q1,.int .u64 y1,.slice r1 s1 u1]) a] Wb) (hSt.add (HLo.out _ rfl) hbP (fun c hc e=>HNe.out c hc e.symm))
      clear hSt hbP hS HO3
      have hS203:=hid (HS400.out.fq hu4)
      clear HS400 hu4
      have hS204:=hid (hS203.out.fq hu5)
      clear hS203 hu5
      have hS205:=hid (hS204.out.fq hu6)
      clear hS204 hu6
      have hS206:=hid (hS205.out.fq hu7)
      clear hS205 hu7
      obtain ⟨⟨cQ0,cQ1,cQ2,cQ3,cQ4⟩,fQ0,fQ1,fQ2,fQ3,fQ4⟩:=hS206.out.f5 5 (w4.heap.size+1) 32 (.bool t12) (.int .u64 x12) (.slice p12 l12 q12) (.int .u64 y12) (.slice r12 s12 u12) rfl
      obtain ⟨⟨cLP0,cLP1,cLP2,cLP3,cLP4⟩,fLP0,fLP1,fLP2,fLP3,fLP4⟩:=hS206.out.f5 4 (w4.heap.size+1+1) 32 (.bool t13) (.int .u64 x13) (.slice p13 l13 q13) (.int .u64 y13) (.slice r13 s13 u13) rfl
      obtain ⟨⟨cLQ0,cLQ1,cLQ2,cLQ3,cLQ4⟩,fLQ0,fLQ1,fLQ2,fLQ3,fLQ4⟩:=hS206.out.f5 3 (w4.heap.size+1+1+1) 32 (.bool t14) (.int .u64 x14) (.slice p14 l14 q14) (.int .u64 y14) (.slice r14 s14 u14) rfl
      simp only [List.take_succ_cons,List.take_zero,putAll,List.drop_succ_cons,List.drop_zero,Nat.reduceAdd,e33,e34,e35]
      clear e32 e33 e34 e35
      go_wp2_with fail
      clear cQ0 cQ1 cQ2 cQ3 cQ4 fQ0 fQ1 fQ2 fQ3 fQ4 cLP0 cLP1 cLP2 cLP3 cLP4 fLP0 fLP1 fLP2 fLP3 fLP4 cLQ0 cLQ1 cLQ2 cLQ3 cLQ4 fLQ0 fLQ1 fLQ2 fLQ3 fLQ4
      have ho1:=Off.set5 (S:=fun k=>k=w4.heap.size+1) (hS206.out.bx (b:=⟨w4.heap.size+1,32,(c5 t12 x12 p12 l12 q12 y12 r12 s12 u12)⟩) 5 rfl) rfl t33 x33 p33 l33 q33 y33 r33 s33 u33
      have b2:=ho1.1.heap (hS206.out.bx (b:=⟨w4.heap.size+1+1,32,(c5 t13 x13 p13 l13 q13 y13 r13 s13 u13)⟩) 4 rfl) (by show ¬ w4.heap.size+1+1=w4.heap.size+1;omega)
      have ho2:=Off.set5 (S:=fun k=>k=w4.heap.size+1+1) b2 rfl t34 x34 p34 l34 q34 y34 r34 s34 u34
      have b3:=ho2.1.heap (ho1.1.heap (hS206.out.bx (b:=⟨w4.heap.size+1+1+1,32,(c5 t14 x14 p14 l14 q14 y14 r14 s14 u14)⟩) 3 rfl) (by show ¬ w4.heap.size+1+1+1=w4.heap.size+1;omega)) (by show ¬ w4.heap.size+1+1+1=w4.heap.size+1+1;omega)
      have ho3:=Off.set5 (S:=fun k=>k=w4.heap.size+1+1+1) b3 rfl t35 x35 p35 l35 q35 y35 r35 s35 u35
      have HO5:=hid (HO4.out.trans ((ho1.1.mono (S':=(fun k=>k=w4.heap.size∨k=w4.heap.size+1∨k=w4.heap.size+1+1∨k=w4.heap.size+1+1+1∨Wx.heap.size≤k)) (fun k _ h=>.inr (.inl h))).trans ((ho2.1.mono (fun k _ h=>.inr (.inr (.inl h)))).trans (ho3.1.mono (fun k _ h=>.inr (.inr (.inr (.inl h))))))))
      clear ho1 ho2 ho3 b2 b3 HO4
      have HS401:=hid (((((((((((((((((hS206.out).store (b:=⟨w4.heap.size+1,32,(c5 t12 x12 p12 l12 q12 y12 r12 s12 u12)⟩) 5 0 (.bool t33) rfl rfl).store (b:=⟨w4.heap.size+1,32,(c5 t33 x12 p12 l12 q12 y12 r12 s12 u12)⟩) 5 1 (.int .u64 x33) rfl rfl).store (b:=⟨w4.heap.size+1,32,(c5 t33 x33 p12 l12 q12 y12 r12 s12 u12)⟩) 5 2 (.slice p33 l33 q33) rfl rfl).store (b:=⟨w4.heap.size+1,32,(c5 t33 x33 p33 l33 q33 y12 r12 s12 u12)⟩) 5 3 (.int .u64 y33) rfl rfl).store (b:=⟨w4.heap.size+1,32,(c5 t33 x33 p33 l33 q33 y33 r12 s12 u12)⟩) 5 4 (.slice r33 s33 u33) rfl rfl).store (b:=⟨w4.heap.size+1+1,32,(c5 t13 x13 p13 l13 q13 y13 r13 s13 u13)⟩) 4 0 (.bool t34) rfl rfl).store (b:=⟨w4.heap.size+1+1,32,(c5 t34 x13 p13 l13 q13 y13 r13 s13 u13)⟩) 4 1 (.int .u64 x34) rfl rfl).store (b:=⟨w4.heap.size+1+1,32,(c5 t34 x34 p13 l13 q13 y13 r13 s13 u13)⟩) 4 2 (.slice p34 l34 q34) rfl rfl).store (b:=⟨w4.heap.size+1+1,32,(c5 t34 x34 p34 l34 q34 y13 r13 s13 u13)⟩) 4 3 (.int .u64 y34) rfl rfl).store (b:=⟨w4.heap.size+1+1,32,(c5 t34 x34 p34 l34 q34 y34 r13 s13 u13)⟩) 4 4 (.slice r34 s34 u34) rfl rfl).store (b:=⟨w4.heap.size+1+1+1,32,(c5 t14 x14 p14 l14 q14 y14 r14 s14 u14)⟩) 3 0 (.bool t35) rfl rfl).store (b:=⟨w4.heap.size+1+1+1,32,(c5 t35 x14 p14 l14 q14 y14 r14 s14 u14)⟩) 3 1 (.int .u64 x35) rfl rfl).store (b:=⟨w4.heap.size+1+1+1,32,(c5 t35 x35 p14 l14 q14 y14 r14 s14 u14)⟩) 3 2 (.slice p35 l35 q35) rfl rfl).store (b:=⟨w4.heap.size+1+1+1,32,(c5 t35 x35 p35 l35 q35 y14 r14 s14 u14)⟩) 3 3 (.int .u64 y35) rfl rfl).store (b:=⟨w4.heap.size+1+1+1,32,(c5 t35 x35 p35 l35 q35 y35 r14 s14 u14)⟩) 3 4 (.slice r35 s35 u35) rfl rfl).as [⟨w4.heap.size,32,(c5 t32 x32 p32 l32 q32 y32 r32 s32 u32)⟩,⟨L5,32,(c5 t31 x31 p31 l31 q31 y31 r31 s31 u31)⟩,⟨bT,32,(c5 t5 x5 p5 l5 q5 y5 r5 s5 u5)⟩,⟨w4.heap.size+1+1+1,32,(c5 t35 x35 p35 l35 q35 y35 r35 s35 u35)⟩,⟨w4.heap.size+1+1,32,(c5 t34 x34 p34 l34 q34 y34 r34 s34 u34)⟩,⟨w4.heap.size+1,32,(c5 t33 x33 p33 l33 q33 y33 r33 s33 u33)⟩,⟨w1.heap.size,32,(c5 t2 x2 p2 l2 q2 y2 r2 s2 u2)⟩,⟨w.heap.size+1,32,z5⟩,⟨w.heap.size,32,(c5 t1 x1 p1 l1 q1 y1 r1 s1 u1)⟩] rfl)
      obtain ⟨We,hWe⟩:∃ We,(((((((((((((((Wb.setCell ⟨w4.heap.size+1,0,none⟩ (.bool t33)).setCell ⟨w4.heap.size+1,1,none⟩ (.int .u64 x33)).setCell ⟨w4.heap.size+1,2,none⟩ (.slice p33 l33 q33)).setCell ⟨w4.heap.size+1,3,none⟩ (.int .u64 y33)).setCell ⟨w4.heap.size+1,4,none⟩ (.slice r33 s33 u33)).setCell ⟨w4.heap.size+1+1,0,none⟩ (.bool t34)).setCell ⟨w4.heap.size+1+1,1,none⟩ (.int .u64 x34)).setCell ⟨w4.heap.size+1+1,2,none⟩ (.slice p34 l34 q34)).setCell ⟨w4.heap.size+1+1,3,none⟩ (.int .u64 y34)).setCell ⟨w4.heap.size+1+1,4,none⟩ (.slice r34 s34 u34)).setCell ⟨w4.heap.size+1+1+1,0,none⟩ (.bool t35)).setCell ⟨w4.heap.size+1+1+1,1,none⟩ (.int .u64 x35)).setCell ⟨w4.heap.size+1+1+1,2,none⟩ (.slice p35 l35 q35)).setCell ⟨w4.heap.size+1+1+1,3,none⟩ (.int .u64 y35)).setCell ⟨w4.heap.size+1+1+1,4,none⟩ (.slice r35 s35 u35))=We:=⟨_,rfl⟩
      rw [hWe] at HS401 HO5 ⊢
      clear hWe
      refine ⟨hiN,HO5.out.mono (fun k hk h=>?_),?_⟩
      ·rcases h with h | h | h | h | h
       ·exact .inl h
       ·exact .inr (.inl h)
       ·exact .inr (.inr (.inl h))
       ·exact .inr (.inr (.inr h))
       ·omega
      rw [HIe.out]
      exact ⟨t32,x32,p32,l32,q32,y32,r32,s32,u32,t33,x33,p33,l33,q33,y33,r33,s33,u33,t34,x34,p34,l34,q34,y34,r34,s34,u34,t35,x35,p35,l35,q35,y35,r35,s35,u35,(HSx.out.del 0).same HS401.out.bel ⟨⟨rfl,(HS401.out.bx (b:=⟨w4.heap.size+1+1+1,32,(c5 t35 x35 p35 l35 q35 y35 r35 s35 u35)⟩) 3 rfl)⟩,⟨rfl,(HS401.out.bx (b:=⟨w4.heap.size+1+1,32,(c5 t34 x34 p34 l34 q34 y34 r34 s34 u34)⟩) 4 rfl)⟩,⟨rfl,(HS401.out.bx (b:=⟨w4.heap.size+1,32,(c5 t33 x33 p33 l33 q33 y33 r33 s33 u33)⟩) 5 rfl)⟩,⟨rfl,(HS401.out.bx (b:=⟨w4.heap.size,32,(c5 t32 x32 p32 l32 q32 y32 r32 s32 u32)⟩) 0 rfl)⟩,⟨rfl,(HS401.out.bx (b:=⟨w1.heap.size,32,(c5 t2 x2 p2 l2 q2 y2 r2 s2 u2)⟩) 6 rfl)⟩,⟨rfl,(HS401.out.bx (b:=⟨w.heap.size+1,32,z5⟩) 7 rfl)⟩,⟨rfl,(HS401.out.bx (b:=⟨w.heap.size,32,(c5 t1 x1 p1 l1 q1 y1 r1 s1 u1)⟩) 8 rfl)⟩,trivial⟩ ⟨(HS401.out.gq 0 rfl),(HS401.out.gq 1 rfl),(HS401.out.gq 2 rfl),(HS401.out.gq 3 rfl),(HS401.out.gq 10 rfl),(HS401.out.gq 11 rfl),trivial⟩⟩
    ·rw [HN.out.lim2 (by omega)] at HCq
     refine round_list (by kernel_rfl) (fun ⟨_,_,h⟩=>h) ?_
     obtain ⟨⟨cN0,cN1,cN2,cN3,cN4⟩,fN0,fN1,fN2,fN3,fN4⟩:=HS301.out.f5 0 L5 32 (.bool t31) (.int .u64 x31) (.slice p31 l31 q31) (.int .u64 y31) (.slice r31 s31 u31) rfl
     obtain ⟨⟨cL0,cL1,cL2,cL3,cL4⟩,fL0,fL1,fL2,fL3,fL4⟩:=HS301.out.f5 6 w1.heap.size 32 (.bool t2) (.int .u64 x2) (.slice p2 l2 q2) (.int .u64 y2) (.slice r2 s2 u2) rfl
     go_wp2_with fail
     refine (HCq.out _ _ _ (HS301.out.gq 0 rfl) (HS301.out.gq 6 rfl)).mono ?_
     rintro e wa ⟨rfl,hB⟩
     have HO3:=hid (HO2.out.trans (Off.of_below hB))
     clear HO2
     have hS202:=hid (HS301.out.call hB)
     clear hB
     clear HS301
     clear cN0 cN1 cN2 cN3 cN4 fN0 fN1 fN2 fN3 fN4 cL0 cL1 cL2 cL3 cL4 fL0 fL1 fL2 fL3 fL4
     go_wp2_with fail
     gi_wp2_with fail
     have hiN':i=N:=by omega
     subst hiN'
     refine ⟨rfl,HO3.out.mono (fun k hk h=>?_),rfl,?_⟩
     ·rcases h with h | h | h | h | h
      ·exact .inl h
      ·exact .inr (.inl h)
      ·exact .inr (.inr (.inl h))
      ·exact .inr (.inr (.inr h))
      ·omega
     rw [HIe.out]
     exact ⟨_,_,_,_,_,_,_,_,_,_,_,_,_,_,_,_,_,_,_,_,_,_,_,_,_,_,_,_,_,_,_,_,_,_,_,_,(hS202.out.del 0).del 0 |>.bel,((hS202.out.del 0).del 0).box,(hS202.out.gq 2 rfl),(hS202.out.gq 3 rfl),(hS202.out.gq 4 rfl),(hS202.out.gq 5 rfl),(hS202.out.gq 6 rfl),(hS202.out.gq 7 rfl),trivial⟩
  case hI5 =>
   rintro D c Ws hD ⟨rfl,hIN⟩ hKD
   rw [HIe.out] at hIN
   clear HIe hst
   obtain ⟨t11,x11,p11,l11,q11,y11,r11,s11,u11,t12,x12,p12,l12,q12,y12,r12,s12,u12,t13,x13,p13,l13,q13,y13,r13,s13,u13,t14,x14,p14,l14,q14,y14,r14,s14,u14,hS99⟩:=hIN
   have HS:=hid hS99
   clear hS99
   refine wpIn_exit ?_
   have HN:=hid (HH.out.step N (Nat.le_refl _))
   have hDl:D<Ws.heap.size:=(Array.getElem?_eq_some_iff.1 hKD).1
   have HKD:=hid hKD
   clear hKD
   go_wp2_with fail
   have LM0:=hid (fun (W:World) (h:Below Ws.heap.size Ws W)=>(HS.out.call h).q5 4 4 w1.heap.size 32 t2 x2 p2 l2 q2 y2 r2 s2 u2 (m:Rat) rfl rfl)
   have LM1:=hid (fun (W:World) (h:Below Ws.heap.size Ws W)=>(HS.out.call h).q5 0 0 (w4.heap.size+1+1+1) 32 t14 x14 p14 l14 q14 y14 r14 s14 u14 ((cv a N).lq) rfl rfl)
   have LM2:=hid (fun (W:World) (h:Below Ws.heap.size Ws W)=>HT.out.below (HS.out.call h).bel (Nat.le_refl _))
   have LM3:=hid (fun (W:World) (h:Below Ws.heap.size Ws W)=>(HS.out.call h).q5 2 2 (w4.heap.size+1) 32 t12 x12 p12 l12 q12 y12 r12 s12 u12 ((cv a N).q) rfl rfl)
   refine wp_region_inv 7 [⟨[],[0]⟩,⟨[],[1]⟩,⟨[0,1],[2]⟩,⟨[],[3]⟩,⟨[2,3],[4]⟩,⟨[4],[5]⟩,⟨[],[6]⟩]
    [oQ (m:Rat),oQ ((cv a N).lq),oQ ((m:Rat) - (cv a N).lq),oQ ((cv a N).q),oQ (((m:Rat) - (cv a N).lq) / (cv a N).q),oQ (Z),one (NewV Ws.heap.size 32 z5)]
    (fun _ W=>Below Ws.heap.size Ws W) (by kernel_rfl) (by kernel_rfl) ?hTW5 ?hZW5 ?hOW5 ?hEW5
   case hZW5=>exact (Below.refl _ _).drew
   case hTW5 =>
    simp only [List.forall_mem_cons,List.not_mem_nil,false_imp_iff,implies_true,and_true]
    exact ⟨bQ,bQ,bQ,bQ,bQ,bQ,one_below newV_below⟩
   case hOW5 =>
    intro u'
    simp only [List.take_succ_cons,List.take_zero,putAll]
    repeat' (first | with_reducible exact debts_nil | with_reducible refine debts_cons ?_ ?_)
    ·intro W hS hF K hK
     have hc:=LM0.out W hS
     go_simp
     exact hK _ _ (.refl _ _) hS hc.2
    ·intro W hS hF K hK
     have hc:=LM1.out W hS
     go_simp
     exact hK _ _ (.refl _ _) hS hc.2
    ·intro W hS hF K hK
     have hq0:IsQ W (u' 0) (m:Rat):=hF.1
     have hq1:IsQ W (u' 1) ((cv a N).lq):=hF.2.1
     clear hF
     go_simp
     refine (Sub_calls (m:Rat) (cv a N).lq _ _ k _ hq0 hq1 (by have:=HH.out.hk;omega) HH.out.fm HN.out.lq (LM2.out W hS)).mono ?_
     rintro e wA ⟨v,rfl,hv,hBA⟩
     exact ⟨_,rfl,hK _ _ hBA (hS.trans (hBA.mono hS.size)) hv⟩
    ·intro W hS hF K hK
     have hc:=LM3.out W hS
     go_simp
     exact hK _ _ (.refl _ _) hS hc.2
    ·intro W hS hF K hK
     have hq2:IsQ W (u' 2) ((m:Rat) - (cv a N).lq):=hF.1
     have hq3:IsQ W (u' 3) ((cv a N).q):=hF.2.1
     clear hF
     go_simp
     refine (Over_calls ((m:Rat) - (cv a N).lq) (cv a N).q _ _ k _ hq2 hq3 (by have:=HH.out.hk;omega) HH.out.q0 HH.out.d1 HN.out.q (LM2.out W hS)).mono ?_
     rintro e wA ⟨v,rfl,hv,hBA⟩
     exact ⟨_,rfl,hK _ _ hBA (hS.trans (hBA.mono hS.size)) hv⟩
    ·intro W hS hF K hK
     have hq4:IsQ W (u' 4) (((m:Rat) - (cv a N).lq) / (cv a N).q):=hF.1
     clear hF
     go_simp
     refine (HH.out.hK ▸ floor_q (((m:Rat) - (cv a N).lq) / (cv a N).q) _ k _ hq4 (by have:=HH.out.hk;omega) HH.out.d2).mono ?_
     rintro e wA ⟨v,rfl,hv,hBA⟩
     exact ⟨_,rfl,hK _ _ hBA (hS.trans (hBA.mono hS.size)) hv⟩
    ·intro W hS hF K hK
     go_simp
     refine hK _ _ ((Below.refl _ _).alloc (Nat.le_refl _) _) (hS.alloc hS.size _) ?_
     exact (show (NewV Ws.heap.size 32 z5) _ _ from ⟨_,rfl,hS.size,by simp,Bx.new W 32 z5⟩)
   case hEW5 =>
    intro u' W5 hS hF
    have hS100:=hid (HS.out.call hS)
    obtain ⟨L6,e6,hl6,hm6,hb6⟩:NewV Ws.heap.size 32 z5 (u' 6) W5:=hF.2.2.2.2.2.2.1
    have hS101:=hid (hS100.out.add (Nat.le_trans HS.out.bel.size hl6) hb6 (HS.out.old hl6))
    clear hb6
    have hv0:IsQ W5 (u' 5) Z:=hF.2.2.2.2.2.1
    have HD5:=hid ((hS.block D hDl).trans HKD.out)
    have sz5:=hS.size
    clear hF hS
    obtain ⟨t21,x21,p21,l21,q21,y21,r21,s21,u21,e9⟩:=hv0.open
    have hv9:IsQ W5 (.agg #[.bool t21,.int .u64 x21,.slice p21 l21 q21,.int .u64 y21,.slice r21 s21 u21]) Z:=e9 ▸ hv0
    clear hv0
    have hS102:=hid (hS101.out.fq hv9)
    clear hS101 hv9
    obtain ⟨⟨cK0,cK1,cK2,cK3,cK4⟩,fK0,fK1,fK2,fK3,fK4⟩:=hS102.out.f5 0 L6 32 (.bool false) (.int .u64 0) (.slice none 0 0) (.int .u64 0) (.slice none 0 0) rfl
    simp only [List.take_succ_cons,List.take_zero,putAll,List.drop_succ_cons,List.drop_zero]
    have HD6:=hid ((Off.set5 (S:=fun k=>k=L6) (hS102.out.bx (b:=⟨L6,32,z5⟩) 0 rfl) rfl t21 x21 p21 l21 q21 y21 r21 s21 u21).1.heap HD5.out (by omega))
    go_wp2_with fail
    clear cK0 cK1 cK2 cK3 cK4 fK0 fK1 fK2 fK3 fK4
    have hS103:=hid (((((((hS102.out).store (b:=⟨L6,32,z5⟩) 0 0 (.bool t21) rfl rfl).store (b:=⟨L6,32,[.bool t21,.int .u64 0,.slice none 0 0,.int .u64 0,.slice none 0 0]⟩) 0 1 (.int .u64 x21) rfl rfl).store (b:=⟨L6,32,[.bool t21,.int .u64 x21,.slice none 0 0,.int .u64 0,.slice none 0 0]⟩) 0 2 (.slice p21 l21 q21) rfl rfl).store (b:=⟨L6,32,[.bool t21,.int .u64 x21,.slice p21 l21 q21,.int .u64 0,.slice none 0 0]⟩) 0 3 (.int .u64 y21) rfl rfl).store (b:=⟨L6,32,[.bool t21,.int .u64 x21,.slice p21 l21 q21,.int .u64 y21,.slice none 0 0]⟩) 0 4 (.slice r21 s21 u21) rfl rfl).as [⟨L6,32,(c5 t21 x21 p21 l21 q21 y21 r21 s21 u21)⟩,⟨w4.heap.size+1+1+1,32,(c5 t14 x14 p14 l14 q14 y14 r14 s14 u14)⟩,⟨w4.heap.size+1+1,32,(c5 t13 x13 p13 l13 q13 y13 r13 s13 u13)⟩,⟨w4.heap.size+1,32,(c5 t12 x12 p12 l12 q12 y12 r12 s12 u12)⟩,⟨w4.heap.size,32,(c5 t11 x11 p11 l11 q11 y11 r11 s11 u11)⟩,⟨w1.heap.size,32,(c5 t2 x2 p2 l2 q2 y2 r2 s2 u2)⟩,⟨w.heap.size+1,32,z5⟩,⟨w.heap.size,32,(c5 t1 x1 p1 l1 q1 y1 r1 s1 u1)⟩] rfl)
    have zW6:Ws.heap.size≤((((((W5.setCell ⟨L6,0,none⟩ (.bool t21)).setCell ⟨L6,1,none⟩ (.int .u64 x21)).setCell ⟨L6,2,none⟩ (.slice p21 l21 q21)).setCell ⟨L6,3,none⟩ (.int .u64 y21)).setCell ⟨L6,4,none⟩ (.slice r21 s21 u21))).heap.size:=by simp only [World.size_setCell];omega
    obtain ⟨W6,hW6⟩:∃ W6,(((((W5.setCell ⟨L6,0,none⟩ (.bool t21)).setCell ⟨L6,1,none⟩ (.int .u64 x21)).setCell ⟨L6,2,none⟩ (.slice p21 l21 q21)).setCell ⟨L6,3,none⟩ (.int .u64 y21)).setCell ⟨L6,4,none⟩ (.slice r21 s21 u21))=W6:=⟨_,rfl⟩
    rw [hW6] at hS103 HD6 zW6 ⊢
    clear hW6
    have LM0:=hid (fun (W:World) (h:Below W6.heap.size W6 W)=>(hS103.out.call h).q5 2 2 (w4.heap.size+1+1) 32 t13 x13 p13 l13 q13 y13 r13 s13 u13 ((cv a N).lp) rfl rfl)
    have LM1:=hid (fun (W:World) (h:Below W6.heap.size W6 W)=>(hS103.out.call h).q5 0 0 L6 32 t21 x21 p21 l21 q21 y21 r21 s21 u21 Z rfl rfl)
    have LM2:=hid (fun (W:World) (h:Below W6.heap.size W6 W)=>(hS103.out.call h).q5 4 4 w4.heap.size 32 t11 x11 p11 l11 q11 y11 r11 s11 u11 ((cv a N).p) rfl rfl)
    have LM3:=hid (fun (W:World) (h:Below W6.heap.size W6 W)=>HT.out.below (hS103.out.call h).bel (Nat.le_refl _))
    have LM4:=hid (fun (W:World) (h:Below W6.heap.size W6 W)=>(hS103.out.call h).q5 1 1 (w4.heap.size+1+1+1) 32 t14 x14 p14 l14 q14 y14 r14 s14 u14 ((cv a N).lq) rfl rfl)
    have LM5:=hid (fun (W:World) (h:Below W6.heap.size W6 W)=>(hS103.out.call h).q5 3 3 (w4.heap.size+1) 32 t12 x12 p12 l12 q12 y12 r12 s12 u12 ((cv a N).q) rfl rfl)
    refine wp_region_inv 12 [⟨[],[0]⟩,⟨[],[1]⟩,⟨[],[2]⟩,⟨[1,2],[3]⟩,⟨[0,3],[4]⟩,⟨[],[5]⟩,⟨[],[6]⟩,⟨[],[7]⟩,⟨[6,7],[8]⟩,⟨[5,8],[9]⟩,⟨[4,9],[10]⟩,⟨[],[11]⟩]
     [oQ ((cv a N).lp),oQ Z,oQ ((cv a N).p),oQ (Z*(cv a N).p),oQ ((cv a N).lp+Z*(cv a N).p),oQ ((cv a N).lq),oQ Z,oQ ((cv a N).q),oQ (Z*(cv a N).q),oQ ((cv a N).lq+Z*(cv a N).q),oQ (Y),one (NewV W6.heap.size 32 z5)]
     (fun _ W=>Below W6.heap.size W6 W) (by kernel_rfl) (by kernel_rfl) ?hTW7 ?hZW7 ?hOW7 ?hEW7
    case hZW7=>exact (Below.refl _ _).drew
    case hTW7 =>
     simp only [List.forall_mem_cons,List.not_mem_nil,false_imp_iff,implies_true,and_true]
     exact ⟨bQ,bQ,bQ,bQ,bQ,bQ,bQ,bQ,bQ,bQ,bQ,one_below newV_below⟩
    case hOW7 =>
     intro ub
     simp only [List.take_succ_cons,List.take_zero,putAll]
     repeat' (first | with_reducible exact debts_nil | with_reducible refine debts_cons ?_ ?_)
     ·intro W hS hF K hK
      have hc:=LM0.out W hS
      go_simp
      exact hK _ _ (.refl _ _) hS hc.2
     ·intro W hS hF K hK
      have hc:=LM1.out W hS
      go_simp
      exact hK _ _ (.refl _ _) hS hc.2
     ·intro W hS hF K hK
      have hc:=LM2.out W hS
      go_simp
      exact hK _ _ (.refl _ _) hS hc.2
     ·intro W hS hF K hK
      have hq1:IsQ W (ub 1) Z:=hF.1
      have hq2:IsQ W (ub 2) ((cv a N).p):=hF.2.1
      clear hF
      go_simp
      refine (Mul_calls Z (cv a N).p _ _ k _ hq1 hq2 (by have:=HH.out.hk;omega) HH.out.fK HN.out.p (LM3.out W hS)).mono ?_
      rintro e wA ⟨v,rfl,hv,hBA⟩
      exact ⟨_,rfl,hK _ _ hBA (hS.trans (hBA.mono hS.size)) hv⟩
     ·intro W hS hF K hK
      have hq0:IsQ W (ub 0) ((cv a N).lp):=hF.1
      have hq3:IsQ W (ub 3) (Z*(cv a N).p):=hF.2.1
      clear hF
      go_simp
      refine (Add_calls (cv a N).lp (Z*(cv a N).p) _ _ k _ hq0 hq3 (by have:=HH.out.hk;omega) HN.out.lp HH.out.kp (LM3.out W hS)).mono ?_
      rintro e wA ⟨v,rfl,hv,hBA⟩
      exact ⟨_,rfl,hK _ _ hBA (hS.trans (hBA.mono hS.size)) hv⟩
     ·intro W hS hF K hK
      have hc:=LM4.out W hS
      go_simp
      exact hK _ _ (.refl _ _) hS hc.2
     ·intro W hS hF K hK
      have hc:=LM1.out W hS
      go_simp
      exact hK _ _ (.refl _ _) hS hc.2
     ·intro W hS hF K hK
      have hc:=LM5.out W hS
      go_simp
      exact hK _ _ (.refl _ _) hS hc.2
     ·intro W hS hF K hK
      have hq6:IsQ W (ub 6) Z:=hF.1
      have hq7:IsQ W (ub 7) ((cv a N).q):=hF.2.1
      clear hF
      go_simp
      refine (Mul_calls Z (cv a N).q _ _ k _ hq6 hq7 (by have:=HH.out.hk;omega) HH.out.fK HN.out.q (LM3.out W hS)).mono ?_
      rintro e wA ⟨v,rfl,hv,hBA⟩
      exact ⟨_,rfl,hK _ _ hBA (hS.trans (hBA.mono hS.size)) hv⟩
     ·intro W hS hF K hK
      have hq5:IsQ W (ub 5) ((cv a N).lq):=hF.1
      have hq8:IsQ W (ub 8) (Z*(cv a N).q):=hF.2.1
      clear hF
      go_simp
      refine (Add_calls (cv a N).lq (Z*(cv a N).q) _ _ k _ hq5 hq8 (by have:=HH.out.hk;omega) HN.out.lq HH.out.kq (LM3.out W hS)).mono ?_
      rintro e wA ⟨v,rfl,hv,hBA⟩
      exact ⟨_,rfl,hK _ _ hBA (hS.trans (hBA.mono hS.size)) hv⟩
     ·intro W hS hF K hK
      have hq4:IsQ W (ub 4) ((cv a N).lp+Z*(cv a N).p):=hF.1
      have hq9:IsQ W (ub 9) ((cv a N).lq+Z*(cv a N).q):=hF.2.1
      clear hF
      go_simp
      refine (HH.out.hY ▸ Over_calls ((cv a N).lp+Z*(cv a N).p) ((cv a N).lq+Z*(cv a N).q) _ _ k _ hq4 hq9 (by have:=HH.out.hk;omega) HH.out.s0 HH.out.sp HH.out.sq (LM3.out W hS)).mono ?_
      rintro e wA ⟨v,rfl,hv,hBA⟩
      exact ⟨_,rfl,hK _ _ hBA (hS.trans (hBA.mono hS.size)) hv⟩
     ·intro W hS hF K hK
      go_simp
      refine hK _ _ ((Below.refl _ _).alloc (Nat.le_refl _) _) (hS.alloc hS.size _) ?_
      exact (show (NewV W6.heap.size 32 z5) _ _ from ⟨_,rfl,hS.size,by simp,Bx.new W 32 z5⟩)
    case hEW7 =>
     intro ub W7 hS hF
     have hS104:=hid (hS103.out.call hS)
     obtain ⟨L22,e22,hl22,hm22,hb22⟩:NewV W6.heap.size 32 z5 (ub 11) W7:=hF.2.2.2.2.2.2.2.2.2.2.2.1
     have hS105:=hid (hS104.out.add (Nat.le_trans hS103.out.bel.size hl22) hb22 (hS103.out.old hl22))
     clear hb22
     have sz7:=Nat.le_trans zW6 hS.size
     have HD7:=hid ((hS.block D (Nat.lt_of_lt_of_le hDl zW6)).trans HD6.out)
     have hv0:IsQ W7 (ub 10) Y:=hF.2.2.2.2.2.2.2.2.2.2.1
     clear hF hS
     obtain ⟨t22,x22,p22,l22,q22,y22,r22,s22,u22,e9⟩:=hv0.open
     have hv9:IsQ W7 (.agg #[.bool t22,.int .u64 x22,.slice p22 l22 q22,.int .u64 y22,.slice r22 s22 u22]) Y:=e9 ▸ hv0
     clear hv0
     have hS106:=hid (hS105.out.fq hv9)
     clear hS105 hv9
     obtain ⟨⟨cY0,cY1,cY2,cY3,cY4⟩,fY0,fY1,fY2,fY3,fY4⟩:=hS106.out.f5 0 L22 32 (.bool false) (.int .u64 0) (.slice none 0 0) (.int .u64 0) (.slice none 0 0) rfl
     simp only [List.take_succ_cons,List.take_zero,putAll,List.drop_succ_cons,List.drop_zero]
     have HD8:=hid ((Off.set5 (S:=fun k=>k=L22) (hS106.out.bx (b:=⟨L22,32,z5⟩) 0 rfl) rfl t22 x22 p22 l22 q22 y22 r22 s22 u22).1.heap HD7.out (by omega))
     go_wp2_with fail
     clear cY0 cY1 cY2 cY3 cY4 fY0 fY1 fY2 fY3 fY4
     have hS107:=hid (((((((hS106.out).store (b:=⟨L22,32,z5⟩) 0 0 (.bool t22) rfl rfl).store (b:=⟨L22,32,[.bool t22,.int .u64 0,.slice none 0 0,.int .u64 0,.slice none 0 0]⟩) 0 1 (.int .u64 x22) rfl rfl).store (b:=⟨L22,32,[.bool t22,.int .u64 x22,.slice none 0 0,.int .u64 0,.slice none 0 0]⟩) 0 2 (.slice p22 l22 q22) rfl rfl).store (b:=⟨L22,32,[.bool t22,.int .u64 x22,.slice p22 l22 q22,.int .u64 0,.slice none 0 0]⟩) 0 3 (.int .u64 y22) rfl rfl).store (b:=⟨L22,32,[.bool t22,.int .u64 x22,.slice p22 l22 q22,.int .u64 y22,.slice none 0 0]⟩) 0 4 (.slice r22 s22 u22) rfl rfl).as [⟨L22,32,(c5 t22 x22 p22 l22 q22 y22 r22 s22 u22)⟩,⟨L6,32,(c5 t21 x21 p21 l21 q21 y21 r21 s21 u21)⟩,⟨w4.heap.size+1+1+1,32,(c5 t14 x14 p14 l14 q14 y14 r14 s14 u14)⟩,⟨w4.heap.size+1+1,32,(c5 t13 x13 p13 l13 q13 y13 r13 s13 u13)⟩,⟨w4.heap.size+1,32,(c5 t12 x12 p12 l12 q12 y12 r12 s12 u12)⟩,⟨w4.heap.size,32,(c5 t11 x11 p11 l11 q11 y11 r11 s11 u11)⟩,⟨w1.heap.size,32,(c5 t2 x2 p2 l2 q2 y2 r2 s2 u2)⟩,⟨w.heap.size+1,32,z5⟩,⟨w.heap.size,32,(c5 t1 x1 p1 l1 q1 y1 r1 s1 u1)⟩] rfl)
     have zW8:Ws.heap.size≤((((((W7.setCell ⟨L22,0,none⟩ (.bool t22)).setCell ⟨L22,1,none⟩ (.int .u64 x22)).setCell ⟨L22,2,none⟩ (.slice p22 l22 q22)).setCell ⟨L22,3,none⟩ (.int .u64 y22)).setCell ⟨L22,4,none⟩ (.slice r22 s22 u22))).heap.size:=by simp only [World.size_setCell];omega
     obtain ⟨W8,hW8⟩:∃ W8,(((((W7.setCell ⟨L22,0,none⟩ (.bool t22)).setCell ⟨L22,1,none⟩ (.int .u64 x22)).setCell ⟨L22,2,none⟩ (.slice p22 l22 q22)).setCell ⟨L22,3,none⟩ (.int .u64 y22)).setCell ⟨L22,4,none⟩ (.slice r22 s22 u22))=W8:=⟨_,rfl⟩
     rw [hW8] at hS107 HD8 zW8 ⊢
     clear hW8
     have LM0:=hid (fun (W:World) (h:Below W8.heap.size W8 W)=>(hS107.out.call h).q5 8 7 w.heap.size 32 t1 x1 p1 l1 q1 y1 r1 s1 u1 a rfl rfl)
     have LM1:=hid (fun (W:World) (h:Below W8.heap.size W8 W)=>(hS107.out.call h).q5 5 5 w4.heap.size 32 t11 x11 p11 l11 q11 y11 r11 s11 u11 ((cv a N).p) rfl rfl)
     have LM2:=hid (fun (W:World) (h:Below W8.heap.size W8 W)=>(hS107.out.call h).q5 4 4 (w4.heap.size+1) 32 t12 x12 p12 l12 q12 y12 r12 s12 u12 ((cv a N).q) rfl rfl)
     have LM3:=hid (fun (W:World) (h:Below W8.heap.size W8 W)=>HT.out.below (hS107.out.call h).bel (Nat.le_refl _))
     have LM4:=hid (fun (W:World) (h:Below W8.heap.size W8 W)=>(hS107.out.call h).q5 0 0 L22 32 t22 x22 p22 l22 q22 y22 r22 s22 u22 Y rfl rfl)
     refine wp_region_inv 6 [⟨[],[0]⟩,⟨[],[1]⟩,⟨[],[2]⟩,⟨[1,2],[3]⟩,⟨[],[4]⟩,⟨[0,3,4],[5]⟩]
      [oQ a,oQ ((cv a N).p),oQ ((cv a N).q),oQ (X),oQ Y,oQ (R)]
      (fun _ W=>Below W8.heap.size W8 W) (by kernel_rfl) (by kernel_rfl) ?hTW9 ?hZW9 ?hOW9 ?hEW9
     case hZW9=>exact (Below.refl _ _).drew
     case hTW9 =>
      simp only [List.forall_mem_cons,List.not_mem_nil,false_imp_iff,implies_true,and_true]
      exact ⟨bQ,bQ,bQ,bQ,bQ,bQ⟩
     case hOW9 =>
      intro uc
      simp only [List.take_succ_cons,List.take_zero,putAll]
      repeat' (first | with_reducible exact debts_nil | with_reducible refine debts_cons ?_ ?_)
      ·intro W hS hF K hK
       have hc:=LM0.out W hS
       go_simp
       exact hK _ _ (.refl _ _) hS hc.2
      ·intro W hS hF K hK
       have hc:=LM1.out W hS
       go_simp
       exact hK _ _ (.refl _ _) hS hc.2
      ·intro W hS hF K hK
       have hc:=LM2.out W hS
       go_simp
       exact hK _ _ (.refl _ _) hS hc.2
      ·intro W hS hF K hK
       have hq1:IsQ W (uc 1) ((cv a N).p):=hF.1
       have hq2:IsQ W (uc 2) ((cv a N).q):=hF.2.1
       clear hF
       go_simp
       refine (HH.out.hX ▸ Over_calls (cv a N).p (cv a N).q _ _ k _ hq1 hq2 (by have:=HH.out.hk;omega) HH.out.q0 HN.out.p HN.out.q (LM3.out W hS)).mono ?_
       rintro e wA ⟨v,rfl,hv,hBA⟩
       exact ⟨_,rfl,hK _ _ hBA (hS.trans (hBA.mono hS.size)) hv⟩
      ·intro W hS hF K hK
       have hc:=LM4.out W hS
       go_simp
       exact hK _ _ (.refl _ _) hS hc.2
      ·intro W hS hF K hK
       have hq0:IsQ W (uc 0) a:=hF.1
       have hq3:IsQ W (uc 3) (X):=hF.2.1
       have hq4:IsQ W (uc 4) Y:=hF.2.2.1
       clear hF
       go_simp
       refine (HR.out W _ _ _ (hS107.out.call hS).bel hq0 hq3 hq4).mono ?_
       rintro e wA ⟨v,rfl,hv,hBA⟩
       exact ⟨_,rfl,hK _ _ hBA (hS.trans (hBA.mono hS.size)) hv⟩
     case hEW9 =>
      intro uc W9 hS hF
      have hS108:=hid (hS107.out.call hS)
      have sz9:=Nat.le_trans zW8 hS.size
      have HD9:=hid ((hS.block D (Nat.lt_of_lt_of_le hDl zW8)).trans HD8.out)
      have hv0:IsQ W9 (uc 5) R:=hF.2.2.2.2.2.1
      clear hF hS
      obtain ⟨t23,x23,p23,l23,q23,y23,r23,s23,u23,e9⟩:=hv0.open
      have hv9:IsQ W9 (.agg #[.bool t23,.int .u64 x23,.slice p23 l23 q23,.int .u64 y23,.slice r23 s23 u23]) R:=e9 ▸ hv0
      clear hv0
      have hS109:=hid (hS108.out.fq hv9)
      clear hS108 hv9
      have HX':=HX.out
      obtain ⟨⟨zA,zR,zL,zP,zQ,zLP,zLQ⟩,⟨yA,yR,yL,yP,yQ,yLP,yLQ⟩,zB,yB,yW⟩:=HX'
      have hDR:¬ D=w.heap.size+1:=by omega
      have hDR':w.heap.size+1≠D:=by omega
      have hDw:w.heap.size≤D:=by omega
      clear zA zR zL zP zQ zLP zLQ yA yR yL yP yQ yLP yLQ zB yB yW
      obtain ⟨⟨cR0,cR1,cR2,cR3,cR4⟩,fR0,fR1,fR2,fR3,fR4⟩:=hS109.out.f5 7 (w.heap.size+1) 32 (.bool false) (.int .u64 0) (.slice none 0 0) (.int .u64 0) (.slice none 0 0) rfl
      simp only [List.take_succ_cons,List.take_zero,putAll,List.drop_succ_cons,List.drop_zero]
      have HDe:=hid ((Off.set5 (S:=fun k=>k=(w.heap.size+1)) (hS109.out.bx (b:=⟨w.heap.size+1,32,z5⟩) 7 rfl) rfl t23 x23 p23 l23 q23 y23 r23 s23 u23).1.heap HD9.out hDR)
      go_wp2_with fail
      clear cR0 cR1 cR2 cR3 cR4 fR0 fR1 fR2 fR3 fR4
      have hS110:=hid (((((((hS109.out).store (b:=⟨w.heap.size+1,32,z5⟩) 7 0 (.bool t23) rfl rfl).store (b:=⟨w.heap.size+1,32,[.bool t23,.int .u64 0,.slice none 0 0,.int .u64 0,.slice none 0 0]⟩) 7 1 (.int .u64 x23) rfl rfl).store (b:=⟨w.heap.size+1,32,[.bool t23,.int .u64 x23,.slice none 0 0,.int .u64 0,.slice none 0 0]⟩) 7 2 (.slice p23 l23 q23) rfl rfl).store (b:=⟨w.heap.size+1,32,[.bool t23,.int .u64 x23,.slice p23 l23 q23,.int .u64 0,.slice none 0 0]⟩) 7 3 (.int .u64 y23) rfl rfl).store (b:=⟨w.heap.size+1,32,[.bool t23,.int .u64 x23,.slice p23 l23 q23,.int .u64 y23,.slice none 0 0]⟩) 7 4 (.slice r23 s23 u23) rfl rfl).as [⟨L22,32,(c5 t22 x22 p22 l22 q22 y22 r22 s22 u22)⟩,⟨L6,32,(c5 t21 x21 p21 l21 q21 y21 r21 s21 u21)⟩,⟨w4.heap.size+1+1+1,32,(c5 t14 x14 p14 l14 q14 y14 r14 s14 u14)⟩,⟨w4.heap.size+1+1,32,(c5 t13 x13 p13 l13 q13 y13 r13 s13 u13)⟩,⟨w4.heap.size+1,32,(c5 t12 x12 p12 l12 q12 y12 r12 s12 u12)⟩,⟨w4.heap.size,32,(c5 t11 x11 p11 l11 q11 y11 r11 s11 u11)⟩,⟨w1.heap.size,32,(c5 t2 x2 p2 l2 q2 y2 r2 s2 u2)⟩,⟨w.heap.size+1,32,(c5 t23 x23 p23 l23 q23 y23 r23 s23 u23)⟩,⟨w.heap.size,32,(c5 t1 x1 p1 l1 q1 y1 r1 s1 u1)⟩] rfl)
      have zWe:Ws.heap.size≤((((((W9.setCell ⟨w.heap.size+1,0,none⟩ (.bool t23)).setCell ⟨w.heap.size+1,1,none⟩ (.int .u64 x23)).setCell ⟨w.heap.size+1,2,none⟩ (.slice p23 l23 q23)).setCell ⟨w.heap.size+1,3,none⟩ (.int .u64 y23)).setCell ⟨w.heap.size+1,4,none⟩ (.slice r23 s23 u23))).heap.size:=by simp only [World.size_setCell];omega
      obtain ⟨We,hWe⟩:∃ We,(((((W9.setCell ⟨w.heap.size+1,0,none⟩ (.bool t23)).setCell ⟨w.heap.size+1,1,none⟩ (.int .u64 x23)).setCell ⟨w.heap.size+1,2,none⟩ (.slice p23 l23 q23)).setCell ⟨w.heap.size+1,3,none⟩ (.int .u64 y23)).setCell ⟨w.heap.size+1,4,none⟩ (.slice r23 s23 u23))=We:=⟨_,rfl⟩
      rw [hWe] at hS110 HDe zWe ⊢
      clear hWe
      have hz:=(hS110.out.f5 7 (w.heap.size+1) 32 (.bool t23) (.int .u64 x23) (.slice p23 l23 q23) (.int .u64 y23) (.slice r23 s23 u23) rfl).1
      have z0:(We.putObj D (.deferred none)).cell? ⟨w.heap.size+1,0,none⟩=some (.bool t23):=(World.cell?_of_block (w:=We) (World.putObj_heap_other hDR')).trans hz.1
      have z1:(We.putObj D (.deferred none)).cell? ⟨w.heap.size+1,1,none⟩=some (.int .u64 x23):=(World.cell?_of_block (w:=We) (World.putObj_heap_other hDR')).trans hz.2.1
      have z2:(We.putObj D (.deferred none)).cell? ⟨w.heap.size+1,2,none⟩=some (.slice p23 l23 q23):=(World.cell?_of_block (w:=We) (World.putObj_heap_other hDR')).trans hz.2.2.1
      have z3:(We.putObj D (.deferred none)).cell? ⟨w.heap.size+1,3,none⟩=some (.int .u64 y23):=(World.cell?_of_block (w:=We) (World.putObj_heap_other hDR')).trans hz.2.2.2.1
      have z4:(We.putObj D (.deferred none)).cell? ⟨w.heap.size+1,4,none⟩=some (.slice r23 s23 u23):=(World.cell?_of_block (w:=We) (World.putObj_heap_other hDR')).trans hz.2.2.2.2
      clear hz
      refine ⟨by simp,.inl ⟨_,_,rfl,run_takeDeferred HDe.out,?_⟩⟩
      have hb:=hS110.out.bel
      exact ⟨.tuple #[.agg #[.bool t23,.int .u64 x23,.slice p23 l23 q23,.int .u64 y23,.slice r23 s23 u23],.int .i64 0],by simp [results,Tryz.results68,go_sem,z0,z1,z2,z3,z4],⟨_,rfl,(Off.putObj (S:=fun k=>k=D) _ HDe.out rfl rfl).fct (.q _ R) ((hS110.out.gq 0 rfl)),⟨hb.os,hb.tape,hb.output,by simp;exact hb.size,fun k hk=>(World.putObj_heap_other (by omega)).trans (hb.block k hk)⟩⟩⟩
end
end Go.Proofs.YtmijlcldmefggaaGreatDoor
