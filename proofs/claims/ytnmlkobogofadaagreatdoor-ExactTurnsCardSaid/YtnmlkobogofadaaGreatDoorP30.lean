/- What the proof rests on, part 30: Rotations from half tangents. The number of a text. The number of a text: decimal fractions. -/
import Derived.Test.YtnmlkobogofadaaGreatDoorP26
import Derived.Test.YtnmlkobogofadaaGreatDoorP22
namespace Go.Proofs.YtnmlkobogofadaaGreatDoor
set_option maxRecDepth 100000
set_option maxHeartbeats 80000000
open Go.RowKit Go.Sort
attribute [local go_sem] takes takesUpon_value takesUpon_skip takesUpon_enter
theorem Bx.f10 {W:World} {b:Nat} {T:TypeId} {v0 v1 v2 v3 v4 v5 v6 v7 v8 v9:Value} (h:Bx W b T [v0,v1,v2,v3,v4,v5,v6,v7,v8,v9]) :
  (W.cell? ⟨b,0,none⟩=some v0∧W.cell? ⟨b,1,none⟩=some v1∧W.cell? ⟨b,2,none⟩=some v2∧W.cell? ⟨b,3,none⟩=some v3∧W.cell? ⟨b,4,none⟩=some v4∧W.cell? ⟨b,5,none⟩=some v5∧W.cell? ⟨b,6,none⟩=some v6∧W.cell? ⟨b,7,none⟩=some v7∧W.cell? ⟨b,8,none⟩=some v8∧W.cell? ⟨b,9,none⟩=some v9)∧W.frozen? ⟨b,0,none⟩=false∧W.frozen? ⟨b,1,none⟩=false∧W.frozen? ⟨b,2,none⟩=false∧W.frozen? ⟨b,3,none⟩=false∧W.frozen? ⟨b,4,none⟩=false∧W.frozen? ⟨b,5,none⟩=false∧W.frozen? ⟨b,6,none⟩=false∧W.frozen? ⟨b,7,none⟩=false∧W.frozen? ⟨b,8,none⟩=false∧W.frozen? ⟨b,9,none⟩=false:=
 ⟨⟨h.cell 0,h.cell 1,h.cell 2,h.cell 3,h.cell 4,h.cell 5,h.cell 6,h.cell 7,h.cell 8,h.cell 9⟩,h.frozen 0,h.frozen 1,h.frozen 2,h.frozen 3,h.frozen 4,h.frozen 5,h.frozen 6,h.frozen 7,h.frozen 8,h.frozen 9⟩
theorem St.f10 {w W:World} {bs:List Bk} {fs:List Fc} (h:St w bs fs W) (k b:Nat) (T:TypeId) (v0 v1 v2 v3 v4 v5 v6 v7 v8 v9:Value) (hk:bs[k]? = some ⟨b,T,[v0,v1,v2,v3,v4,v5,v6,v7,v8,v9]⟩) :
  (W.cell? ⟨b,0,none⟩=some v0∧W.cell? ⟨b,1,none⟩=some v1∧W.cell? ⟨b,2,none⟩=some v2∧W.cell? ⟨b,3,none⟩=some v3∧W.cell? ⟨b,4,none⟩=some v4∧W.cell? ⟨b,5,none⟩=some v5∧W.cell? ⟨b,6,none⟩=some v6∧W.cell? ⟨b,7,none⟩=some v7∧W.cell? ⟨b,8,none⟩=some v8∧W.cell? ⟨b,9,none⟩=some v9)∧W.frozen? ⟨b,0,none⟩=false∧W.frozen? ⟨b,1,none⟩=false∧W.frozen? ⟨b,2,none⟩=false∧W.frozen? ⟨b,3,none⟩=false∧W.frozen? ⟨b,4,none⟩=false∧W.frozen? ⟨b,5,none⟩=false∧W.frozen? ⟨b,6,none⟩=false∧W.frozen? ⟨b,7,none⟩=false∧W.frozen? ⟨b,8,none⟩=false∧W.frozen? ⟨b,9,none⟩=false:=(h.bx k hk).f10
def RotV (c s:Rat) (v:Value) (W:World):Prop:=∃ (t6:Bool) (x6:Int) (p6:Option Addr) (l6 q6:Nat) (y6:Int) (r6:Option Addr) (s6 u6:Nat) (t7:Bool) (x7:Int) (p7:Option Addr) (l7 q7:Nat) (y7:Int) (r7:Option Addr) (s7 u7:Nat),v=.agg #[.bool t6,.int .u64 x6,.slice p6 l6 q6,.int .u64 y6,.slice r6 s6 u6,.bool t7,.int .u64 x7,.slice p7 l7 q7,.int .u64 y7,.slice r7 s7 u7]∧IsQ W (.agg #[.bool t6,.int .u64 x6,.slice p6 l6 q6,.int .u64 y6,.slice r6 s6 u6]) c∧IsQ W (.agg #[.bool t7,.int .u64 x7,.slice p7 l7 q7,.int .u64 y7,.slice r7 s7 u7]) s
theorem rotV_below {c s:Rat}:∀ v W W',Below W.heap.size W W'→RotV c s v W→RotV c s v W':=
 fun _ _ _ hb ⟨t6,x6,p6,l6,q6,y6,r6,s6,u6,t7,x7,p7,l7,q7,y7,r7,s7,u7,e,h1,h2⟩=>⟨t6,x6,p6,l6,q6,y6,r6,s6,u6,t7,x7,p7,l7,q7,y7,r7,s7,u7,e,h1.below hb,h2.below hb⟩
def RetRot (w:World) (c s:Rat) (e:Ending) (w':World):Prop:=∃ v,e=.returned v∧RotV c s v w'∧Below w.heap.size w w'
theorem Turn_calls (r:Rat) (v:Value) (k:Nat) (w:World) (h:IsQ w v r) (hk:k≤17179869184) (f0:Fits k r) (f1:Fits k 1) (f2:Fits k (r*r)) (f3:Fits k (1+r*r)) (f4:Fits k (1 - r*r)) (f5:Fits k (r+r)) (hne:1+r*r≠0) (hT:Tab w) :
  Calls Tryz.prog 83 #[v] w (RetRot w ((1 - r*r) / (1+r*r)) ((r+r) / (1+r*r))):=by
 obtain ⟨Q,hQ⟩:∃ Q,r*r=Q:=⟨_,rfl⟩
 rw [hQ] at f2 f3 f4 hne ⊢
 have HM:=hid (fun (W:World) (v1:Value) (i:IsQ W v1 r) (hT:Tab W)=>hQ ▸ Mul_calls r r v1 v1 k W i i (by omega) f0 f0 hT)
 have HI:=hid (fun (W:World)=>(show ((1:Int):Rat)=1 from rfl) ▸ Int_calls 1 (by omega) (by omega) W)
 obtain ⟨U,hU⟩:∃ U,1+Q=U:=⟨_,rfl⟩
 obtain ⟨D,hD⟩:∃ D,1 - Q=D:=⟨_,rfl⟩
 obtain ⟨E,hE⟩:∃ E,r+r=E:=⟨_,rfl⟩
 rw [hU] at f3 hne ⊢
 rw [hD] at f4 ⊢
 rw [hE] at f5 ⊢
 have HA:=hid (fun (W:World) (v1 v2:Value) (i:IsQ W v1 1) (j:IsQ W v2 Q) (hT:Tab W)=>hU ▸ Add_calls 1 Q v1 v2 k W i j hk f1 f2 hT)
 have HS:=hid (fun (W:World) (v1 v2:Value) (i:IsQ W v1 1) (j:IsQ W v2 Q) (hT:Tab W)=>hD ▸ Sub_calls 1 Q v1 v2 k W i j hk f1 f2 hT)
 have HB:=hid (fun (W:World) (v1:Value) (i:IsQ W v1 r) (hT:Tab W)=>hE ▸ Add_calls r r v1 v1 k W i i hk f0 f0 hT)
 have HO:=hid (fun (W:World) (v1 v2:Value) (i:IsQ W v1 D) (j:IsQ W v2 U) (hT:Tab W)=>Over_calls D U v1 v2 k W i j hk hne f4 f3 hT)
 have HP:=hid (fun (W:World) (v1 v2:Value) (i:IsQ W v1 E) (j:IsQ W v2 U) (hT:Tab W)=>Over_calls E U v1 v2 k W i j hk hne f5 f3 hT)
 obtain ⟨X,hX⟩:∃ X,D / U=X:=⟨_,rfl⟩
 obtain ⟨Y,hY⟩:∃ Y,E / U=Y:=⟨_,rfl⟩
 rw [hX] at HO ⊢
 rw [hY] at HP ⊢
 have HT:=hid hT
 obtain ⟨t1,x1,p1,l1,q1,y1,r1,s1,u1,rfl⟩:=h.open
 have H0:=hid h
 clear h hQ hU hD hE hX hY f0 f1 f2 f3 f4 f5 hne hT
 go_enter Tryz.func83,Tryz.ntmps83
 go_wp2_with fail
 have hS0:=hid (((St.start w).alloc' (w.heap.size) (by simp) 31 (c5 t1 x1 p1 l1 q1 y1 r1 s1 u1)).alloc' (w.heap.size+1) (by simp) 89 [.bool false,.int .u64 0,.slice none 0 0,.int .u64 0,.slice none 0 0,.bool false,.int .u64 0,.slice none 0 0,.int .u64 0,.slice none 0 0])
 obtain ⟨W0,hW0⟩:=nameW hS0
 rw [hW0] at hS0 ⊢
 clear hW0
 have h1:=H0.out.below hS0.out.bel
 clear H0
 have hS1:=hid (hS0.out.fq h1)
 clear hS0 h1
 refine (HM.out _ _ (hS1.out.gq 0 rfl) (HT.out.below hS1.out.bel (Nat.le_refl _))).mono ?_
 rintro e w1 ⟨v2,rfl,hv2,hB⟩
 have hS2:=hid (hS1.out.call hB)
 clear hB
 clear hS1
 obtain ⟨t2,x2,p2,l2,q2,y2,r2,s2,u2,rfl⟩:=hv2.open
 have hS3:=hid (hS2.out.fq hv2)
 clear hS2 hv2
 obtain ⟨ne1l,ne1,ne1'⟩:=hS3.out.ne 1 w.heap.size 31 (c5 t1 x1 p1 l1 q1 y1 r1 s1 u1) rfl
 obtain ⟨ne2l,ne2,ne2'⟩:=hS3.out.ne 0 (w.heap.size+1) 89 [.bool false,.int .u64 0,.slice none 0 0,.int .u64 0,.slice none 0 0,.bool false,.int .u64 0,.slice none 0 0,.int .u64 0,.slice none 0 0] rfl
 obtain ⟨⟨cA0,cA1,cA2,cA3,cA4⟩,fA0,fA1,fA2,fA3,fA4⟩:=hS3.out.f5 1 w.heap.size 31 (.bool t1) (.int .u64 x1) (.slice p1 l1 q1) (.int .u64 y1) (.slice r1 s1 u1) rfl
 go_wp2_with fail
 have hA1:=hid ((hS3.out).alloc' (w1.heap.size) (by simp) 31 (c5 t2 x2 p2 l2 q2 y2 r2 s2 u2))
 clear cA0 cA1 cA2 cA3 cA4 fA0 fA1 fA2 fA3 fA4
 obtain ⟨Wb,hWb⟩:∃ Wb,(w1.alloc (.cells #[.bool t2,.int .u64 x2,.slice p2 l2 q2,.int .u64 y2,.slice r2 s2 u2] 31))=Wb:=⟨_,rfl⟩
 rw [hWb] at hA1 ⊢
 clear hWb
 have LM0:=hid (fun (W:World) (h:Below Wb.heap.size Wb W)=>((hA1.out.call h).f5 0 w1.heap.size 31 (.bool t2) (.int .u64 x2) (.slice p2 l2 q2) (.int .u64 y2) (.slice r2 s2 u2) rfl).1)
 have LM1:=hid (fun (W:World) (h:Below Wb.heap.size Wb W)=>HT.out.below (hA1.out.call h).bel (Nat.le_refl _))
 refine wp_region_inv 4 [⟨[],[0]⟩,⟨[],[1]⟩,⟨[0,1],[2]⟩,⟨[],[3]⟩]
  [oQ (1),oE (.agg #[.bool t2,.int .u64 x2,.slice p2 l2 q2,.int .u64 y2,.slice r2 s2 u2]),oQ (U),one (NewV Wb.heap.size 31 z5)]
  (fun _ W=>Below Wb.heap.size Wb W) (by kernel_rfl) (by kernel_rfl) ?hTW2 ?hZW2 ?hOW2 ?hEW2
 case hZW2=>exact (Below.refl _ _).drew
 case hTW2 =>
  simp only [List.forall_mem_cons,List.not_mem_nil,false_imp_iff,implies_true,and_true]
  exact ⟨bQ,bE,bQ,one_below newV_below⟩
 case hOW2 =>
  intro u
  simp only [List.take_succ_cons,List.take_zero,putAll]
  repeat' (first | with_reducible exact debts_nil | with_reducible refine debts_cons ?_ ?_)
  ·intro W hS hF K hK
   go_simp
   refine (HI.out _).mono ?_
   rintro e wA ⟨v,rfl,hv,hBA⟩
   exact ⟨_,rfl,hK _ _ hBA (hS.trans (hBA.mono hS.size)) hv⟩
  ·intro W hS hF K hK
   have hcsq:=LM0.out W hS
   go_simp
   exact hK _ _ (.refl _ _) hS rfl
  ·intro W hS hF K hK
   have hq0:IsQ W (u 0) (1):=hF.1
   have h1:u 1=.agg #[.bool t2,.int .u64 x2,.slice p2 l2 q2,.int .u64 y2,.slice r2 s2 u2]:=hF.2.1
   have sH:=hid (hA1.out.call hS)
   clear hF
   go_simp
   refine (HA.out _ _ _ hq0 (sH.out.get (f:=.q (.agg #[.bool t2,.int .u64 x2,.slice p2 l2 q2,.int .u64 y2,.slice r2 s2 u2]) (Q)) 0 rfl) (LM1.out W hS)).mono ?_
   rintro e wA ⟨v,rfl,hv,hBA⟩
   exact ⟨_,rfl,hK _ _ hBA (hS.trans (hBA.mono hS.size)) hv⟩
  ·intro W hS hF K hK
   go_simp
   refine hK _ _ ((Below.refl _ _).alloc (Nat.le_refl _) _) (hS.alloc hS.size _) ?_
   exact (show (NewV Wb.heap.size 31 z5) _ _ from ⟨_,rfl,hS.size,by simp,Bx.new W 31 z5⟩)
 case hEW2 =>
  intro u W2 hS hF
  have hS4:=hid (hA1.out.call hS)
  obtain ⟨L3,e3,hl3,hm3,hb3⟩:NewV Wb.heap.size 31 z5 (u 3) W2:=hF.2.2.2.1
  have hS5:=hid (hS4.out.add (Nat.le_trans hA1.out.bel.size hl3) hb3 (hA1.out.old hl3))
  clear hb3
  have hv0:IsQ W2 (u 2) U:=hF.2.2.1
  clear hF hS
  obtain ⟨t3,x3,p3,l3,q3,y3,r3,s3,u3,e9⟩:=hv0.open
  have hv9:IsQ W2 (.agg #[.bool t3,.int .u64 x3,.slice p3 l3 q3,.int .u64 y3,.slice r3 s3 u3]) U:=e9 ▸ hv0
  clear hv0
  have hS6:=hid (hS5.out.fq hv9)
  clear hS5 hv9
  obtain ⟨⟨cun0,cun1,cun2,cun3,cun4⟩,fun0,fun1,fun2,fun3,fun4⟩:=hS6.out.f5 0 L3 31 (.bool false) (.int .u64 0) (.slice none 0 0) (.int .u64 0) (.slice none 0 0) rfl
  simp only [List.take_succ_cons,List.take_zero,putAll,List.drop_succ_cons,List.drop_zero]
  go_wp2_with fail
  clear cun0 cun1 cun2 cun3 cun4 fun0 fun1 fun2 fun3 fun4
  have hS7:=hid (((((((hS6.out).store (b:=⟨L3,31,z5⟩) 0 0 (.bool t3) rfl rfl).store (b:=⟨L3,31,[.bool t3,.int .u64 0,.slice none 0 0,.int .u64 0,.slice none 0 0]⟩) 0 1 (.int .u64 x3) rfl rfl).store (b:=⟨L3,31,[.bool t3,.int .u64 x3,.slice none 0 0,.int .u64 0,.slice none 0 0]⟩) 0 2 (.slice p3 l3 q3) rfl rfl).store (b:=⟨L3,31,[.bool t3,.int .u64 x3,.slice p3 l3 q3,.int .u64 0,.slice none 0 0]⟩) 0 3 (.int .u64 y3) rfl rfl).store (b:=⟨L3,31,[.bool t3,.int .u64 x3,.slice p3 l3 q3,.int .u64 y3,.slice none 0 0]⟩) 0 4 (.slice r3 s3 u3) rfl rfl).as [⟨L3,31,(c5 t3 x3 p3 l3 q3 y3 r3 s3 u3)⟩,⟨w1.heap.size,31,(c5 t2 x2 p2 l2 q2 y2 r2 s2 u2)⟩,⟨w.heap.size+1,89,[.bool false,.int .u64 0,.slice none 0 0,.int .u64 0,.slice none 0 0,.bool false,.int .u64 0,.slice none 0 0,.int .u64 0,.slice none 0 0]⟩,⟨w.heap.size,31,(c5 t1 x1 p1 l1 q1 y1 r1 s1 u1)⟩] rfl)
  obtain ⟨W3,hW3⟩:=nameW hS7
  rw [hW3] at hS7 ⊢
  clear hW3
  have LM0:=hid (fun (W:World) (h:Below W3.heap.size W3 W)=>((hS7.out.call h).f5 1 w1.heap.size 31 (.bool t2) (.int .u64 x2) (.slice p2 l2 q2) (.int .u64 y2) (.slice r2 s2 u2) rfl).1)
  have LM1:=hid (fun (W:World) (h:Below W3.heap.size W3 W)=>HT.out.below (hS7.out.call h).bel (Nat.le_refl _))
  have LM2:=hid (fun (W:World) (h:Below W3.heap.size W3 W)=>((hS7.out.call h).f5 0 L3 31 (.bool t3) (.int .u64 x3) (.slice p3 l3 q3) (.int .u64 y3) (.slice r3 s3 u3) rfl).1)
  have LM3:=hid (fun (W:World) (h:Below W3.heap.size W3 W)=>((hS7.out.call h).f5 3 w.heap.size 31 (.bool t1) (.int .u64 x1) (.slice p1 l1 q1) (.int .u64 y1) (.slice r1 s1 u1) rfl).1)
  refine wp_region_inv 11 [⟨[],[0]⟩,⟨[],[1]⟩,⟨[0,1],[2]⟩,⟨[],[3]⟩,⟨[2,3],[4]⟩,⟨[],[5]⟩,⟨[],[6]⟩,⟨[5,6],[7]⟩,⟨[],[8]⟩,⟨[7,8],[9]⟩,⟨[4,9],[10]⟩]
   [oQ (1),oE (.agg #[.bool t2,.int .u64 x2,.slice p2 l2 q2,.int .u64 y2,.slice r2 s2 u2]),oQ (D),oE (.agg #[.bool t3,.int .u64 x3,.slice p3 l3 q3,.int .u64 y3,.slice r3 s3 u3]),oQ (X),oE (.agg #[.bool t1,.int .u64 x1,.slice p1 l1 q1,.int .u64 y1,.slice r1 s1 u1]),oE (.agg #[.bool t1,.int .u64 x1,.slice p1 l1 q1,.int .u64 y1,.slice r1 s1 u1]),oQ (E),oE (.agg #[.bool t3,.int .u64 x3,.slice p3 l3 q3,.int .u64 y3,.slice r3 s3 u3]),oQ (Y),one (RotV X Y)]
   (fun _ W=>Below W3.heap.size W3 W) (by kernel_rfl) (by kernel_rfl) ?hTW4 ?hZW4 ?hOW4 ?hEW4
  case hZW4=>exact (Below.refl _ _).drew
  case hTW4 =>
   simp only [List.forall_mem_cons,List.not_mem_nil,false_imp_iff,implies_true,and_true]
   exact ⟨bQ,bE,bQ,bE,bQ,bE,bE,bQ,bE,bQ,one_below rotV_below⟩
  case hOW4 =>
   intro u
   simp only [List.take_succ_cons,List.take_zero,putAll]
   repeat' (first | with_reducible exact debts_nil | with_reducible refine debts_cons ?_ ?_)
   ·intro W hS hF K hK
    go_simp
    refine (HI.out _).mono ?_
    rintro e wA ⟨v,rfl,hv,hBA⟩
    exact ⟨_,rfl,hK _ _ hBA (hS.trans (hBA.mono hS.size)) hv⟩
   ·intro W hS hF K hK
    have hcsq:=LM0.out W hS
    go_simp
    exact hK _ _ (.refl _ _) hS rfl
   ·intro W hS hF K hK
    have hq0:IsQ W (u 0) (1):=hF.1
    have h1:u 1=.agg #[.bool t2,.int .u64 x2,.slice p2 l2 q2,.int .u64 y2,.slice r2 s2 u2]:=hF.2.1
    have sH:=hid (hS7.out.call hS)
    clear hF
    go_simp
    refine (HS.out _ _ _ hq0 (sH.out.get (f:=.q (.agg #[.bool t2,.int .u64 x2,.slice p2 l2 q2,.int .u64 y2,.slice r2 s2 u2]) (Q)) 1 rfl) (LM1.out W hS)).mono ?_
    rintro e wA ⟨v,rfl,hv,hBA⟩
    exact ⟨_,rfl,hK _ _ hBA (hS.trans (hBA.mono hS.size)) hv⟩
   ·intro W hS hF K hK
    have hcun:=LM2.out W hS
    go_simp
    exact hK _ _ (.refl _ _) hS rfl
   ·intro W hS hF K hK
    have hq2:IsQ W (u 2) (D):=hF.1
    have h3:u 3=.agg #[.bool t3,.int .u64 x3,.slice p3 l3 q3,.int .u64 y3,.slice r3 s3 u3]:=hF.2.1
    have sH:=hid (hS7.out.call hS)
    clear hF
    go_simp
    refine (HO.out _ _ _ hq2 (sH.out.get (f:=.q (.agg #[.bool t3,.int .u64 x3,.slice p3 l3 q3,.int .u64 y3,.slice r3 s3 u3]) (U)) 0 rfl) (LM1.out W hS)).mono ?_
    rintro e wA ⟨v,rfl,hv,hBA⟩
    exact ⟨_,rfl,hK _ _ hBA (hS.trans (hBA.mono hS.size)) hv⟩
   ·intro W hS hF K hK
    have hcA:=LM3.out W hS
    go_simp
    exact hK _ _ (.refl _ _) hS rfl
   ·intro W hS hF K hK
    have hcA:=LM3.out W hS
    go_simp
    exact hK _ _ (.refl _ _) hS rfl
   ·intro W hS hF K hK
    have h5:u 5=.agg #[.bool t1,.int .u64 x1,.slice p1 l1 q1,.int .u64 y1,.slice r1 s1 u1]:=hF.1
    have h6:u 6=.agg #[.bool t1,.int .u64 x1,.slice p1 l1 q1,.int .u64 y1,.slice r1 s1 u1]:=hF.2.1
    have sH:=hid (hS7.out.call hS)
    clear hF
    go_simp
    refine (HB.out _ _ (sH.out.get (f:=.q (.agg #[.bool t1,.int .u64 x1,.slice p1 l1 q1,.int .u64 y1,.slice r1 s1 u1]) (r)) 2 rfl) (LM1.out W hS)).mono ?_
    rintro e wA ⟨v,rfl,hv,hBA⟩
    exact ⟨_,rfl,hK _ _ hBA (hS.trans (hBA.mono hS.size)) hv⟩
   ·intro W hS hF K hK
    have hcun:=LM2.out W hS
    go_simp
    exact hK _ _ (.refl _ _) hS rfl
   ·intro W hS hF K hK
    have hq7:IsQ W (u 7) (E):=hF.1
    have h8:u 8=.agg #[.bool t3,.int .u64 x3,.slice p3 l3 q3,.int .u64 y3,.slice r3 s3 u3]:=hF.2.1
    have sH:=hid (hS7.out.call hS)
    clear hF
    go_simp
    refine (HP.out _ _ _ hq7 (sH.out.get (f:=.q (.agg #[.bool t3,.int .u64 x3,.slice p3 l3 q3,.int .u64 y3,.slice r3 s3 u3]) (U)) 0 rfl) (LM1.out W hS)).mono ?_
    rintro e wA ⟨v,rfl,hv,hBA⟩
    exact ⟨_,rfl,hK _ _ hBA (hS.trans (hBA.mono hS.size)) hv⟩
   ·intro W hS hF K hK
    obtain ⟨t6,x6,p6,l6,q6,y6,r6,s6,u6,e4⟩:=(hF.1:IsQ W (u 4) (X)).open;have hq4:IsQ W (.agg #[.bool t6,.int .u64 x6,.slice p6 l6 q6,.int .u64 y6,.slice r6 s6 u6]) (X):=e4 ▸ (hF.1:IsQ W (u 4) (X))
    obtain ⟨t7,x7,p7,l7,q7,y7,r7,s7,u7,e9⟩:=(hF.2.1:IsQ W (u 9) (Y)).open;have hq9:IsQ W (.agg #[.bool t7,.int .u64 x7,.slice p7 l7 q7,.int .u64 y7,.slice r7 s7 u7]) (Y):=e9 ▸ (hF.2.1:IsQ W (u 9) (Y))
    clear hF
    go_simp
    refine hK _ _ (.refl _ _) hS ?_
    exact (show (RotV X Y) _ W from ⟨_,_,_,_,_,_,_,_,_,_,_,_,_,_,_,_,_,_,rfl,hq4,hq9⟩)
  case hEW4 =>
   intro u W4 hS hF
   have hS8:=hid (hS7.out.call hS)
   have hv0:RotV X Y (u 10) W4:=hF.2.2.2.2.2.2.2.2.2.2.1
   clear hF hS
   obtain ⟨t6,x6,p6,l6,q6,y6,r6,s6,u6,t7,x7,p7,l7,q7,y7,r7,s7,u7,e10,ha,hb⟩:=hv0
   have hS9:=hid (hS8.out.fq ha)
   clear hS8 ha
   have hS10:=hid (hS9.out.fq hb)
   clear hS9 hb
   obtain ⟨⟨cR0,cR1,cR2,cR3,cR4,cR5,cR6,cR7,cR8,cR9⟩,fR0,fR1,fR2,fR3,fR4,fR5,fR6,fR7,fR8,fR9⟩:=hS10.out.f10 2 (w.heap.size+1) 89 (.bool false) (.int .u64 0) (.slice none 0 0) (.int .u64 0) (.slice none 0 0) (.bool false) (.int .u64 0) (.slice none 0 0) (.int .u64 0) (.slice none 0 0) rfl
   simp only [List.take_succ_cons,List.take_zero,putAll,List.drop_succ_cons,List.drop_zero]
   have hS11:=hid ((((((((((((hS10.out).store (b:=⟨w.heap.size+1,89,[.bool false,.int .u64 0,.slice none 0 0,.int .u64 0,.slice none 0 0,.bool false,.int .u64 0,.slice none 0 0,.int .u64 0,.slice none 0 0]⟩) 2 0 (.bool t6) rfl rfl).store (b:=⟨w.heap.size+1,89,[.bool t6,.int .u64 0,.slice none 0 0,.int .u64 0,.slice none 0 0,.bool false,.int .u64 0,.slice none 0 0,.int .u64 0,.slice none 0 0]⟩) 2 1 (.int .u64 x6) rfl rfl).store (b:=⟨w.heap.size+1,89,[.bool t6,.int .u64 x6,.slice none 0 0,.int .u64 0,.slice none 0 0,.bool false,.int .u64 0,.slice none 0 0,.int .u64 0,.slice none 0 0]⟩) 2 2 (.slice p6 l6 q6) rfl rfl).store (b:=⟨w.heap.size+1,89,[.bool t6,.int .u64 x6,.slice p6 l6 q6,.int .u64 0,.slice none 0 0,.bool false,.int .u64 0,.slice none 0 0,.int .u64 0,.slice none 0 0]⟩) 2 3 (.int .u64 y6) rfl rfl).store (b:=⟨w.heap.size+1,89,[.bool t6,.int .u64 x6,.slice p6 l6 q6,.int .u64 y6,.slice none 0 0,.bool false,.int .u64 0,.slice none 0 0,.int .u64 0,.slice none 0 0]⟩) 2 4 (.slice r6 s6 u6) rfl rfl).store (b:=⟨w.heap.size+1,89,[.bool t6,.int .u64 x6,.slice p6 l6 q6,.int .u64 y6,.slice r6 s6 u6,.bool false,.int .u64 0,.slice none 0 0,.int .u64 0,.slice none 0 0]⟩) 2 5 (.bool t7) rfl rfl).store (b:=⟨w.heap.size+1,89,[.bool t6,.int .u64 x6,.slice p6 l6 q6,.int .u64 y6,.slice r6 s6 u6,.bool t7,.int .u64 0,.slice none 0 0,.int .u64 0,.slice none 0 0]⟩) 2 6 (.int .u64 x7) rfl rfl).store (b:=⟨w.heap.size+1,89,[.bool t6,.int .u64 x6,.slice p6 l6 q6,.int .u64 y6,.slice r6 s6 u6,.bool t7,.int .u64 x7,.slice none 0 0,.int .u64 0,.slice none 0 0]⟩) 2 7 (.slice p7 l7 q7) rfl rfl).store (b:=⟨w.heap.size+1,89,[.bool t6,.int .u64 x6,.slice p6 l6 q6,.int .u64 y6,.slice r6 s6 u6,.bool t7,.int .u64 x7,.slice p7 l7 q7,.int .u64 0,.slice none 0 0]⟩) 2 8 (.int .u64 y7) rfl rfl).store (b:=⟨w.heap.size+1,89,[.bool t6,.int .u64 x6,.slice p6 l6 q6,.int .u64 y6,.slice r6 s6 u6,.bool t7,.int .u64 x7,.slice p7 l7 q7,.int .u64 y7,.slice none 0 0]⟩) 2 9 (.slice r7 s7 u7) rfl rfl).as [⟨L3,31,(c5 t3 x3 p3 l3 q3 y3 r3 s3 u3)⟩,⟨w1.heap.size,31,(c5 t2 x2 p2 l2 q2 y2 r2 s2 u2)⟩,⟨w.heap.size+1,89,[.bool t6,.int .u64 x6,.slice p6 l6 q6,.int .u64 y6,.slice r6 s6 u6,.bool t7,.int .u64 x7,.slice p7 l7 q7,.int .u64 y7,.slice r7 s7 u7]⟩,⟨w.heap.size,31,(c5 t1 x1 p1 l1 q1 y1 r1 s1 u1)⟩] rfl)
   go_wp2_with fail
   clear cR0 cR1 cR2 cR3 cR4 cR5 cR6 cR7 cR8 cR9 fR0 fR1 fR2 fR3 fR4 fR5 fR6 fR7 fR8 fR9
   obtain ⟨⟨zR0,zR1,zR2,zR3,zR4,zR5,zR6,zR7,zR8,zR9⟩,-⟩:=hS11.out.f10 2 (w.heap.size+1) 89 (.bool t6) (.int .u64 x6) (.slice p6 l6 q6) (.int .u64 y6) (.slice r6 s6 u6) (.bool t7) (.int .u64 x7) (.slice p7 l7 q7) (.int .u64 y7) (.slice r7 s7 u7) rfl
   exact bodyPost_ret (v:=.agg #[.bool t6,.int .u64 x6,.slice p6 l6 q6,.int .u64 y6,.slice r6 s6 u6,.bool t7,.int .u64 x7,.slice p7 l7 q7,.int .u64 y7,.slice r7 s7 u7]) (by simp [results,Tryz.results83,go_sem,zR0,zR1,zR2,zR3,zR4,zR5,zR6,zR7,zR8,zR9]) rfl ⟨_,rfl,⟨_,_,_,_,_,_,_,_,_,_,_,_,_,_,_,_,_,_,rfl,(hS11.out.gq 1 rfl),(hS11.out.gq 0 rfl)⟩,hS11.out.bel⟩
end Go.Proofs.YtnmlkobogofadaaGreatDoor
namespace Go.Proofs.YtnmlkobogofadaaGreatDoor
set_option maxRecDepth 100000
set_option maxHeartbeats 80000000
open Go.RowKit Go.Sort
attribute [local go_sem] takes takesUpon_value takesUpon_skip takesUpon_enter
theorem parse_frac_false (l s top bottom:List UInt8) (w:World) (hl:l.length≤1000) (hs:Lib.trimPrefix l [45]=s) (hneg:Lib.hasPrefix l [45]=false) (hc:Lib.cut s [47]=(top,bottom,true)) (h1:intB top=true) (h2:intB bottom=true) (h0:dv bottom≠0) (hsl:s.length≤1000) (htl:top.length≤1000) (hbl:bottom.length≤1000) (hE:Env w) :
  Calls Tryz.prog 16 #[.string ⟨l.toArray⟩] w (RetQE w (mkRat (zs false (dv top)) (dv bottom)) 0):=by
 have HC:=hid (fun (W:World)=>cutp_calls l W)
 have HU:=hid (fun (W:World) (hM:TabM W)=>cut_calls s 47 W (by omega) hM)
 rw [hs,hneg] at HC
 rw [hc] at HU
 have HI1:=hid (fun (W:World)=>isInteger_calls top W (by omega))
 have HI2:=hid (fun (W:World)=>isInteger_calls bottom W (by omega))
 rw [h1] at HI1
 rw [h2] at HI2
 have a1:top.all digB=true:=by simp only [intB,Bool.and_eq_true] at h1;exact h1.1.2
 have a2:bottom.all digB=true:=by simp only [intB,Bool.and_eq_true] at h2;exact h2.1.2
 have HM1:=hid (fun (W:World)=>magOf_calls top W a1 (by omega))
 have HM2:=hid (fun (W:World)=>magOf_calls bottom W a2 (by omega))
 obtain ⟨K,hK⟩:∃ K,K=1020:=⟨_,rfl⟩
 have b1:dv top<B64 ^ K:=Nat.lt_trans (dv_lt top a1) (ten_lt (by omega))
 have b2:dv bottom<B64 ^ K:=Nat.lt_trans (dv_lt bottom a2) (ten_lt (by omega))
 obtain ⟨n,hn⟩:∃ n,dv top=n:=⟨_,rfl⟩
 obtain ⟨m,hm⟩:∃ m,dv bottom=m:=⟨_,rfl⟩
 rw [hn] at HM1 b1 ⊢
 rw [hm] at HM2 b2 h0 ⊢
 have HR:=hid (fun (c d e f:Value) (W:World) (i1:IsMag W c d n) (i2:IsMag W e f m) (hT:Tab W)=>reduced_calls false c d e f n m K W i1 i2 h0 (by omega) b1 b2 hT)
 have z1:(m == 0)=false:=by simpa using h0
 have HE:=hid hE
 obtain ⟨z,hz⟩:∃ z,(n == 0)=z:=⟨_,rfl⟩
 have HZ:=hid (fun (W:World) (c d:Value) (h:IsMag W c d n)=>hz ▸ isZero_calls c d n W h)
 have HZ2:=hid (fun (W:World) (c d:Value) (h:IsMag W c d m)=>z1 ▸ isZero_calls c d m W h)
 obtain ⟨R,hR⟩:∃ R,mkRat (zs false n) m=R:=⟨_,rfl⟩
 rw [hR] at HR ⊢
 clear hR hs hneg hc h1 h2 h0 hsl htl hbl hE a1 a2 hK b1 b2 hn hm hz z1
 go_enter Tryz.func16,Tryz.ntmps16
 go_wp2_with fail
 have hS0:=hid ((St.start w).alloc' (w.heap.size) (by simp) 31 z5)
 obtain ⟨W0,hW0⟩:=nameW hS0
 rw [hW0] at hS0 ⊢
 clear hW0
 refine (HC.out _).mono ?_
 rintro e w1 ⟨rfl,hB⟩
 have hS1:=hid (hS0.out.call hB)
 clear hB
 clear hS0
 go_wp2_with fail
 refine (HU.out _ (HE.out.below hS1.out.bel (Nat.le_refl _)).max).mono ?_
 rintro e w2 ⟨rfl,hB⟩
 have hS2:=hid (hS1.out.call hB)
 clear hB
 clear hS1
 go_wp2_with fail
 refine (HI1.out _).mono ?_
 rintro e w9 ⟨rfl,rfl⟩
 go_wp2_with fail
 refine (HI2.out _).mono ?_
 rintro e w9 ⟨rfl,rfl⟩
 go_wp2_with fail
 refine (HM1.out _).mono ?_
 rintro e w3 ⟨c1,d1,rfl,hm1,hB⟩
 have hS3:=hid (hS2.out.call hB)
 clear hB
 clear hS2
 obtain ⟨x1,p1,l1,q1,rfl,rfl⟩:=hm1.shape
 have hS4:=hid (hS3.out.fact (.m (.int .u64 x1) (.slice p1 l1 q1) (n)) hm1)
 clear hS3 hm1
 obtain ⟨ne1l,ne1,ne1'⟩:=hS4.out.ne 0 w.heap.size 31 z5 rfl
 go_wp2_with fail
 have hS5:=hid (((hS4.out).alloc' (w3.heap.size) (by simp) 27 [.int .u64 x1,.slice p1 l1 q1]).alloc' (w3.heap.size+1) (by simp) 27 [.int .u64 1,.slice none 0 0])
 obtain ⟨W3,hW3⟩:=nameW hS5
 rw [hW3] at hS5 ⊢
 clear hW3
 refine (HM2.out _).mono ?_
 rintro e w4 ⟨c2,d2,rfl,hm2,hB⟩
 have hS6:=hid (hS5.out.call hB)
 clear hB
 clear hS5
 obtain ⟨x2,p2,l2,q2,rfl,rfl⟩:=hm2.shape
 have hS7:=hid (hS6.out.fact (.m (.int .u64 x2) (.slice p2 l2 q2) (m)) hm2)
 clear hS6 hm2
 obtain ⟨⟨cs0,cs1⟩,fs0,fs1⟩:=hS7.out.f2 1 w3.heap.size 27 (.int .u64 x1) (.slice p1 l1 q1) rfl
 obtain ⟨⟨cu0,cu1⟩,fu0,fu1⟩:=hS7.out.f2 0 (w3.heap.size+1) 27 (.int .u64 1) (.slice none 0 0) rfl
 go_wp2_with fail
 clear cs0 cs1 fs0 fs1 cu0 cu1 fu0 fu1
 have hS8:=hid ((((hS7.out).store (b:=⟨w3.heap.size+1,27,[.int .u64 1,.slice none 0 0]⟩) 0 0 (.int .u64 x2) rfl rfl).store (b:=⟨w3.heap.size+1,27,[.int .u64 x2,.slice none 0 0]⟩) 0 1 (.slice p2 l2 q2) rfl rfl).as [⟨w3.heap.size+1,27,[.int .u64 x2,.slice p2 l2 q2]⟩,⟨w3.heap.size,27,[.int .u64 x1,.slice p1 l1 q1]⟩,⟨w.heap.size,31,z5⟩] rfl)
 obtain ⟨W4,hW4⟩:=nameW hS8
 rw [hW4] at hS8 ⊢
 clear hW4
 refine (HZ2.out _ _ _ (hS8.out.get (f:=.m (.int .u64 x2) (.slice p2 l2 q2) (m)) 0 rfl)).mono ?_
 rintro e w5 ⟨rfl,hB⟩
 have hS9:=hid (hS8.out.call hB)
 clear hB
 clear hS8
 obtain ⟨⟨cs0,cs1⟩,fs0,fs1⟩:=hS9.out.f2 1 w3.heap.size 27 (.int .u64 x1) (.slice p1 l1 q1) rfl
 obtain ⟨⟨cu0,cu1⟩,fu0,fu1⟩:=hS9.out.f2 0 (w3.heap.size+1) 27 (.int .u64 x2) (.slice p2 l2 q2) rfl
 go_wp2_with fail
 clear cs0 cs1 fs0 fs1 cu0 cu1 fu0 fu1
 have LM0:=hid (fun (W:World) (h:Below w5.heap.size w5 W)=>((hS9.out.call h).f2 1 w3.heap.size 27 (.int .u64 x1) (.slice p1 l1 q1) rfl).1)
 have LM1:=hid (fun (W:World) (h:Below w5.heap.size w5 W)=>((hS9.out.call h).f2 0 (w3.heap.size+1) 27 (.int .u64 x2) (.slice p2 l2 q2) rfl).1)
 have LM2:=hid (fun (W:World) (h:Below w5.heap.size w5 W)=>HE.out.below (hS9.out.call h).bel (Nat.le_refl _))
 refine wp_region_inv 10 [⟨[],[0]⟩,⟨[0],[1]⟩,⟨[1],[2]⟩,⟨[1],[3]⟩,⟨[1],[4]⟩,⟨[1],[5]⟩,⟨[],[6]⟩,⟨[5,6],[7]⟩,⟨[],[8]⟩,⟨[7,8],[9]⟩]
  [oE (.bool false),oE (.bool false),oE undef,oE undef,oE undef,oE (.bool false),oE (.agg #[.int .u64 x1,.slice p1 l1 q1]),oE (.agg #[.bool false,.int .u64 x1,.slice p1 l1 q1]),oE (.agg #[.int .u64 x2,.slice p2 l2 q2]),oQ (R)]
  (fun _ W=>Below w5.heap.size w5 W) (by kernel_rfl) (by kernel_rfl) ?hTW6 ?hZW6 ?hOW6 ?hEW6
 case hZW6=>exact (Below.refl _ _).drew
 case hTW6 =>
  simp only [List.forall_mem_cons,List.not_mem_nil,false_imp_iff,implies_true,and_true]
  exact ⟨bE,bE,bE,bE,bE,bE,bE,bE,bE,bQ⟩
 case hOW6 =>
  intro u
  simp only [List.take_succ_cons,List.take_zero,putAll]
  repeat' (first | with_reducible exact debts_nil | with_reducible refine debts_cons ?_ ?_)
  ·intro W hS hF K hK
   go_simp
   exact hK _ _ (.refl _ _) hS rfl
  ·intro W hS hF K hK
   have h0:u 0=.bool false:=hF.1
   clear hF
   go_simp
   exact hK _ _ (.refl _ _) hS rfl
  ·intro W hS hF K hK
   have h1:u 1=.bool false:=hF.1
   clear hF
   go_simp
   exact hK _ _ (.refl _ _) hS rfl
  ·intro W hS hF K hK
   have h1:u 1=.bool false:=hF.1
   clear hF
   go_simp
   exact hK _ _ (.refl _ _) hS rfl
  ·intro W hS hF K hK
   have h1:u 1=.bool false:=hF.1
   clear hF
   go_simp
   exact hK _ _ (.refl _ _) hS rfl
  ·intro W hS hF K hK
   have h1:u 1=.bool false:=hF.1
   clear hF
   go_simp
   exact hK _ _ (.refl _ _) hS rfl
  ·intro W hS hF K hK
   have hcs:=LM0.out W hS
   go_simp
   exact hK _ _ (.refl _ _) hS rfl
  ·intro W hS hF K hK
   have h5:u 5=.bool false:=hF.1
   have h6:u 6=.agg #[.int .u64 x1,.slice p1 l1 q1]:=hF.2.1
   clear hF
   go_simp
   exact hK _ _ (.refl _ _) hS rfl
  ·intro W hS hF K hK
   have hcu:=LM1.out W hS
   go_simp
   exact hK _ _ (.refl _ _) hS rfl
  ·intro W hS hF K hK
   have h7:u 7=.agg #[.bool false,.int .u64 x1,.slice p1 l1 q1]:=hF.1
   have h8:u 8=.agg #[.int .u64 x2,.slice p2 l2 q2]:=hF.2.1
   have sH:=hid (hS9.out.call hS)
   clear hF
   go_simp
   refine (HR.out _ _ _ _ _ (sH.out.get (f:=.m (.int .u64 x1) (.slice p1 l1 q1) (n)) 1 rfl) (sH.out.get (f:=.m (.int .u64 x2) (.slice p2 l2 q2) (m)) 0 rfl) (LM2.out W hS).tz).mono ?_
   rintro e wA ⟨v,rfl,hv,hBA⟩
   exact ⟨_,rfl,hK _ _ hBA (hS.trans (hBA.mono hS.size)) hv⟩
 case hEW6 =>
  intro u W6 hS hF
  have hS10:=hid (hS9.out.call hS)
  have hv0:IsQ W6 (u 9) R:=hF.2.2.2.2.2.2.2.2.2.1
  clear hF hS
  obtain ⟨t9,x9,p9,l9,q9,y9,r9,s9,u9,e9⟩:=hv0.open
  have hv9:IsQ W6 (.agg #[.bool t9,.int .u64 x9,.slice p9 l9 q9,.int .u64 y9,.slice r9 s9 u9]) R:=e9 ▸ hv0
  clear hv0
  have hS11:=hid (hS10.out.fq hv9)
  clear hS10 hv9
  obtain ⟨⟨cR0,cR1,cR2,cR3,cR4⟩,fR0,fR1,fR2,fR3,fR4⟩:=hS11.out.f5 2 w.heap.size 31 (.bool false) (.int .u64 0) (.slice none 0 0) (.int .u64 0) (.slice none 0 0) rfl
  simp only [List.take_succ_cons,List.take_zero,putAll,List.drop_succ_cons,List.drop_zero]
  have hS12:=hid (((((((hS11.out).store (b:=⟨w.heap.size,31,z5⟩) 2 0 (.bool t9) rfl rfl).store (b:=⟨w.heap.size,31,[.bool t9,.int .u64 0,.slice none 0 0,.int .u64 0,.slice none 0 0]⟩) 2 1 (.int .u64 x9) rfl rfl).store (b:=⟨w.heap.size,31,[.bool t9,.int .u64 x9,.slice none 0 0,.int .u64 0,.slice none 0 0]⟩) 2 2 (.slice p9 l9 q9) rfl rfl).store (b:=⟨w.heap.size,31,[.bool t9,.int .u64 x9,.slice p9 l9 q9,.int .u64 0,.slice none 0 0]⟩) 2 3 (.int .u64 y9) rfl rfl).store (b:=⟨w.heap.size,31,[.bool t9,.int .u64 x9,.slice p9 l9 q9,.int .u64 y9,.slice none 0 0]⟩) 2 4 (.slice r9 s9 u9) rfl rfl).as [⟨w3.heap.size+1,27,[.int .u64 x2,.slice p2 l2 q2]⟩,⟨w3.heap.size,27,[.int .u64 x1,.slice p1 l1 q1]⟩,⟨w.heap.size,31,(c5 t9 x9 p9 l9 q9 y9 r9 s9 u9)⟩] rfl)
  go_wp2_with fail
  clear cR0 cR1 cR2 cR3 cR4 fR0 fR1 fR2 fR3 fR4
  obtain ⟨⟨zR0,zR1,zR2,zR3,zR4⟩,-⟩:=hS12.out.f5 2 w.heap.size 31 (.bool t9) (.int .u64 x9) (.slice p9 l9 q9) (.int .u64 y9) (.slice r9 s9 u9) rfl
  exact bodyPost_ret (v:=.tuple #[.agg #[.bool t9,.int .u64 x9,.slice p9 l9 q9,.int .u64 y9,.slice r9 s9 u9],.int .i64 0]) (by simp [results,Tryz.results16,go_sem,zR0,zR1,zR2,zR3,zR4]) rfl ⟨_,rfl,(hS12.out.gq 0 rfl),hS12.out.bel⟩
end Go.Proofs.YtnmlkobogofadaaGreatDoor
namespace Go.Proofs.YtnmlkobogofadaaGreatDoor
set_option maxRecDepth 100000
set_option maxHeartbeats 80000000
open Go.RowKit Go.Sort
attribute [local go_sem] takes takesUpon_value takesUpon_skip takesUpon_enter
theorem parse_dec_true (l s top bottom:List UInt8) (w:World) (hl:l.length≤1000) (hs:Lib.trimPrefix l [45]=s) (hneg:Lib.hasPrefix l [45]=true) (hc:Lib.cut s [47]=(s,[],false)) (hc2:Lib.cut s [46]=(top,bottom,true)) (h1:intB top=true) (h2:(bottom != [] && bottom.all digB)=true) (hsl:s.length≤1000) (htl:top.length≤1000) (hbl:bottom.length≤1000) (hE:Env w) :
  Calls Tryz.prog 16 #[.string ⟨l.toArray⟩] w (RetQE w (mkRat (zs (!(dv (top ++ bottom) == 0)) (dv (top ++ bottom))) (10 ^ bottom.length)) 0):=by
 have HC:=hid (fun (W:World)=>cutp_calls l W)
 have HU:=hid (fun (W:World) (hM:TabM W)=>cut_calls s 47 W (by omega) hM)
 have HV:=hid (fun (W:World) (hM:TabM W)=>cut_calls s 46 W (by omega) hM)
 rw [hs,hneg] at HC
 rw [hc] at HU
 rw [hc2] at HV
 have HI1:=hid (fun (W:World)=>isInteger_calls top W (by omega))
 rw [h1] at HI1
 have HI2:=hid (fun (W:World)=>isDigits_calls bottom W (by omega))
 rw [h2] at HI2
 have a1:top.all digB=true:=by simp only [intB,Bool.and_eq_true] at h1;exact h1.1.2
 have a2:bottom.all digB=true:=by simp only [Bool.and_eq_true] at h2;exact h2.2
 have a3:(top ++ bottom).all digB=true:=by rw [List.all_append,a1,a2];rfl
 have HM1:=hid (fun (W:World)=>magOf_calls top W a1 (by omega))
 have happ:(⟨top.toArray⟩:ByteArray) ++ ⟨bottom.toArray⟩=⟨(top ++ bottom).toArray⟩:=by apply ByteArray.ext;simp
 have HM2:=hid (fun (W:World)=>magOf_calls (top ++ bottom) W a3 (by rw [List.length_append];omega))
 rw [← happ] at HM2
 obtain ⟨K,hK⟩:∃ K,K=3020:=⟨_,rfl⟩
 have b1:dv (top ++ bottom)<B64 ^ K:=Nat.lt_trans (dv_lt _ a3) (ten_lt (by rw [List.length_append];omega))
 have b2:10 ^ bottom.length<B64 ^ K:=ten_lt (by omega)
 have b3:10 ^ bottom.length≠0:=Nat.pos_iff_ne_zero.1 (Nat.pow_pos (by decide))
 have HP:=hid (fun (W:World)=>pow10_calls bottom.length K W b2 (by omega))
 obtain ⟨n,hn⟩:∃ n,dv (top ++ bottom)=n:=⟨_,rfl⟩
 obtain ⟨m,hm⟩:∃ m,10 ^ bottom.length=m:=⟨_,rfl⟩
 obtain ⟨n0,hn0⟩:∃ n0,dv top=n0:=⟨_,rfl⟩
 rw [hn0] at HM1
 rw [hn] at HM2 b1 ⊢
 rw [hm] at HP b2 b3 ⊢
 have HR:=hid (fun (c d e f:Value) (W:World) (i1:IsMag W c d n) (i2:IsMag W e f m) (hT:Tab W)=>reduced_calls (!(n == 0)) c d e f n m K W i1 i2 b3 (by omega) b1 b2 hT)
 have z1:(m == 0)=false:=by simpa using b3
 have HE:=hid hE
 obtain ⟨z,hz⟩:∃ z,(n == 0)=z:=⟨_,rfl⟩
 have HZ:=hid (fun (W:World) (c d:Value) (h:IsMag W c d n)=>hz ▸ isZero_calls c d n W h)
 have HZ2:=hid (fun (W:World) (c d:Value) (h:IsMag W c d m)=>z1 ▸ isZero_calls c d m W h)
 rw [hz] at HR ⊢
 obtain ⟨R,hR⟩:∃ R,mkRat (zs (!z) n) m=R:=⟨_,rfl⟩
 rw [hR] at HR ⊢
 clear happ hR hs hneg hc hc2 h1 h2 hsl hE a1 a2 a3 hK b1 b2 b3 hn hm hn0 hz z1
 go_enter Tryz.func16,Tryz.ntmps16
 go_wp2_with fail
 have hS0:=hid ((St.start w).alloc' (w.heap.size) (by simp) 31 z5)
 obtain ⟨W0,hW0⟩:=nameW hS0
 rw [hW0] at hS0 ⊢
 clear hW0
 refine (HC.out _).mono ?_
 rintro e w1 ⟨rfl,hB⟩
 have hS1:=hid (hS0.out.call hB)
 clear hB
 clear hS0
 go_wp2_with fail
 refine (HU.out _ (HE.out.below hS1.out.bel (Nat.le_refl _)).max).mono ?_
 rintro e w2 ⟨rfl,hB⟩
 have hS2:=hid (hS1.out.call hB)
 clear hB
 clear hS1
 go_wp2_with fail
 refine (HV.out _ (HE.out.below hS2.out.bel (Nat.le_refl _)).max).mono ?_
 rintro e w2b ⟨rfl,hB⟩
 have hS3:=hid (hS2.out.call hB)
 clear hB
 clear hS2
 go_wp2_with fail
 refine (HI1.out _).mono ?_
 rintro e w9 ⟨rfl,rfl⟩
 go_wp2_with fail
 refine (HI2.out _).mono ?_
 rintro e w9 ⟨rfl,rfl⟩
 go_wp2_with fail
 refine (HM1.out _).mono ?_
 rintro e w3 ⟨c1,d1,rfl,hm1,hB⟩
 have hS4:=hid (hS3.out.call hB)
 clear hB
 clear hS3
 obtain ⟨x1,p1,l1,q1,rfl,rfl⟩:=hm1.shape
 have hS5:=hid (hS4.out.fact (.m (.int .u64 x1) (.slice p1 l1 q1) (n0)) hm1)
 clear hS4 hm1
 obtain ⟨ne1l,ne1,ne1'⟩:=hS5.out.ne 0 w.heap.size 31 z5 rfl
 go_wp2_with fail
 have hS6:=hid (((hS5.out).alloc' (w3.heap.size) (by simp) 27 [.int .u64 x1,.slice p1 l1 q1]).alloc' (w3.heap.size+1) (by simp) 27 [.int .u64 1,.slice none 0 0])
 obtain ⟨W3,hW3⟩:=nameW hS6
 rw [hW3] at hS6 ⊢
 clear hW3
 obtain ⟨⟨cs0,cs1⟩,fs0,fs1⟩:=hS6.out.f2 1 w3.heap.size 27 (.int .u64 x1) (.slice p1 l1 q1) rfl
 obtain ⟨⟨cu0,cu1⟩,fu0,fu1⟩:=hS6.out.f2 0 (w3.heap.size+1) 27 (.int .u64 1) (.slice none 0 0) rfl
 go_wp2_with fail
 clear cs0 cs1 fs0 fs1 cu0 cu1 fu0 fu1
 refine (HM2.out _).mono ?_
 rintro e w4 ⟨c2,d2,rfl,hm2,hB⟩
 have hS7:=hid (hS6.out.call hB)
 clear hB
 clear hS6
 obtain ⟨x2,p2,l2,q2,rfl,rfl⟩:=hm2.shape
 have hS8:=hid (hS7.out.fact (.m (.int .u64 x2) (.slice p2 l2 q2) (n)) hm2)
 clear hS7 hm2
 go_wp2_with fail
 refine (HP.out _).mono ?_
 rintro e w5 ⟨c3,d3,rfl,hm3,hB⟩
 have hS9:=hid (hS8.out.call hB)
 clear hB
 clear hS8
 obtain ⟨x3,p3,l3,q3,rfl,rfl⟩:=hm3.shape
 have hS10:=hid (hS9.out.fact (.m (.int .u64 x3) (.slice p3 l3 q3) (m)) hm3)
 clear hS9 hm3
 obtain ⟨⟨cs0,cs1⟩,fs0,fs1⟩:=hS10.out.f2 1 w3.heap.size 27 (.int .u64 x1) (.slice p1 l1 q1) rfl
 obtain ⟨⟨cu0,cu1⟩,fu0,fu1⟩:=hS10.out.f2 0 (w3.heap.size+1) 27 (.int .u64 1) (.slice none 0 0) rfl
 go_wp2_with fail
 clear cs0 cs1 fs0 fs1 cu0 cu1 fu0 fu1
 have hS11:=hid ((((((hS10.out).store (b:=⟨w3.heap.size,27,[.int .u64 x1,.slice p1 l1 q1]⟩) 1 0 (.int .u64 x2) rfl rfl).store (b:=⟨w3.heap.size,27,[.int .u64 x2,.slice p1 l1 q1]⟩) 1 1 (.slice p2 l2 q2) rfl rfl).store (b:=⟨w3.heap.size+1,27,[.int .u64 1,.slice none 0 0]⟩) 0 0 (.int .u64 x3) rfl rfl).store (b:=⟨w3.heap.size+1,27,[.int .u64 x3,.slice none 0 0]⟩) 0 1 (.slice p3 l3 q3) rfl rfl).as [⟨w3.heap.size+1,27,[.int .u64 x3,.slice p3 l3 q3]⟩,⟨w3.heap.size,27,[.int .u64 x2,.slice p2 l2 q2]⟩,⟨w.heap.size,31,z5⟩] rfl)
 obtain ⟨W5,hW5⟩:=nameW hS11
 rw [hW5] at hS11 ⊢
 clear hW5
 refine (HZ2.out _ _ _ (hS11.out.get (f:=.m (.int .u64 x3) (.slice p3 l3 q3) (m)) 0 rfl)).mono ?_
 rintro e w6 ⟨rfl,hB⟩
 have hS12:=hid (hS11.out.call hB)
 clear hB
 clear hS11
 obtain ⟨⟨cs0,cs1⟩,fs0,fs1⟩:=hS12.out.f2 1 w3.heap.size 27 (.int .u64 x2) (.slice p2 l2 q2) rfl
 obtain ⟨⟨cu0,cu1⟩,fu0,fu1⟩:=hS12.out.f2 0 (w3.heap.size+1) 27 (.int .u64 x3) (.slice p3 l3 q3) rfl
 go_wp2_with fail
 clear cs0 cs1 fs0 fs1 cu0 cu1 fu0 fu1
 have LM0:=hid (fun (W:World) (h:Below w6.heap.size w6 W)=>((hS12.out.call h).f2 1 w3.heap.size 27 (.int .u64 x2) (.slice p2 l2 q2) rfl).1)
 have LM1:=hid (fun (W:World) (h:Below w6.heap.size w6 W)=>((hS12.out.call h).f2 0 (w3.heap.size+1) 27 (.int .u64 x3) (.slice p3 l3 q3) rfl).1)
 have LM2:=hid (fun (W:World) (h:Below w6.heap.size w6 W)=>HE.out.below (hS12.out.call h).bel (Nat.le_refl _))
 refine wp_region_inv 10 [⟨[],[0]⟩,⟨[0],[1]⟩,⟨[1],[2]⟩,⟨[2,1],[3]⟩,⟨[3,1],[4]⟩,⟨[1,4],[5]⟩,⟨[],[6]⟩,⟨[5,6],[7]⟩,⟨[],[8]⟩,⟨[7,8],[9]⟩]
  [oE (.bool true),oE (.bool true),oE (.agg #[.int .u64 x2,.slice p2 l2 q2]),oE (.bool z),oE (.bool (!z)),oE (.bool (!z)),oE (.agg #[.int .u64 x2,.slice p2 l2 q2]),oE (.agg #[.bool (!z),.int .u64 x2,.slice p2 l2 q2]),oE (.agg #[.int .u64 x3,.slice p3 l3 q3]),oQ (R)]
  (fun _ W=>Below w6.heap.size w6 W) (by kernel_rfl) (by kernel_rfl) ?hTW6 ?hZW6 ?hOW6 ?hEW6
 case hZW6=>exact (Below.refl _ _).drew
 case hTW6 =>
  simp only [List.forall_mem_cons,List.not_mem_nil,false_imp_iff,implies_true,and_true]
  exact ⟨bE,bE,bE,bE,bE,bE,bE,bE,bE,bQ⟩
 case hOW6 =>
  intro u
  simp only [List.take_succ_cons,List.take_zero,putAll]
  repeat' (first | with_reducible exact debts_nil | with_reducible refine debts_cons ?_ ?_)
  ·intro W hS hF K hK
   go_simp
   exact hK _ _ (.refl _ _) hS rfl
  ·intro W hS hF K hK
   have h0:u 0=.bool true:=hF.1
   clear hF
   go_simp
   exact hK _ _ (.refl _ _) hS rfl
  ·intro W hS hF K hK
   have h1:u 1=.bool true:=hF.1
   have hcs:=LM0.out W hS
   clear hF
   go_simp
   exact hK _ _ (.refl _ _) hS rfl
  ·intro W hS hF K hK
   have h2:u 2=.agg #[.int .u64 x2,.slice p2 l2 q2]:=hF.1
   have h1:u 1=.bool true:=hF.2.1
   have sH:=hid (hS12.out.call hS)
   clear hF
   go_simp
   refine (HZ.out _ _ _ (sH.out.get (f:=.m (.int .u64 x2) (.slice p2 l2 q2) (n)) 1 rfl)).mono ?_
   rintro e wA ⟨rfl,hBA⟩
   exact ⟨_,rfl,hK _ _ hBA (hS.trans (hBA.mono hS.size)) rfl⟩
  ·intro W hS hF K hK
   have h3:u 3=.bool z:=hF.1
   have h1:u 1=.bool true:=hF.2.1
   clear hF
   go_simp
   exact hK _ _ (.refl _ _) hS rfl
  ·intro W hS hF K hK
   have h1:u 1=.bool true:=hF.1
   have h4:u 4=.bool (!z):=hF.2.1
   clear hF
   go_simp
   exact hK _ _ (.refl _ _) hS rfl
  ·intro W hS hF K hK
   have hcs:=LM0.out W hS
   go_simp
   exact hK _ _ (.refl _ _) hS rfl
  ·intro W hS hF K hK
   have h5:u 5=.bool (!z):=hF.1
   have h6:u 6=.agg #[.int .u64 x2,.slice p2 l2 q2]:=hF.2.1
   clear hF
   go_simp
   exact hK _ _ (.refl _ _) hS rfl
  ·intro W hS hF K hK
   have hcu:=LM1.out W hS
   go_simp
   exact hK _ _ (.refl _ _) hS rfl
  ·intro W hS hF K hK
   have h7:u 7=.agg #[.bool (!z),.int .u64 x2,.slice p2 l2 q2]:=hF.1
   have h8:u 8=.agg #[.int .u64 x3,.slice p3 l3 q3]:=hF.2.1
   have sH:=hid (hS12.out.call hS)
   clear hF
   go_simp
   refine (HR.out _ _ _ _ _ (sH.out.get (f:=.m (.int .u64 x2) (.slice p2 l2 q2) (n)) 1 rfl) (sH.out.get (f:=.m (.int .u64 x3) (.slice p3 l3 q3) (m)) 0 rfl) (LM2.out W hS).tz).mono ?_
   rintro e wA ⟨v,rfl,hv,hBA⟩
   exact ⟨_,rfl,hK _ _ hBA (hS.trans (hBA.mono hS.size)) hv⟩
 case hEW6 =>
  intro u W6 hS hF
  have hS13:=hid (hS12.out.call hS)
  have hv0:IsQ W6 (u 9) R:=hF.2.2.2.2.2.2.2.2.2.1
  clear hF hS
  obtain ⟨t9,x9,p9,l9,q9,y9,r9,s9,u9,e9⟩:=hv0.open
  have hv9:IsQ W6 (.agg #[.bool t9,.int .u64 x9,.slice p9 l9 q9,.int .u64 y9,.slice r9 s9 u9]) R:=e9 ▸ hv0
  clear hv0
  have hS14:=hid (hS13.out.fq hv9)
  clear hS13 hv9
  obtain ⟨⟨cR0,cR1,cR2,cR3,cR4⟩,fR0,fR1,fR2,fR3,fR4⟩:=hS14.out.f5 2 w.heap.size 31 (.bool false) (.int .u64 0) (.slice none 0 0) (.int .u64 0) (.slice none 0 0) rfl
  simp only [List.take_succ_cons,List.take_zero,putAll,List.drop_succ_cons,List.drop_zero]
  have hS15:=hid (((((((hS14.out).store (b:=⟨w.heap.size,31,z5⟩) 2 0 (.bool t9) rfl rfl).store (b:=⟨w.heap.size,31,[.bool t9,.int .u64 0,.slice none 0 0,.int .u64 0,.slice none 0 0]⟩) 2 1 (.int .u64 x9) rfl rfl).store (b:=⟨w.heap.size,31,[.bool t9,.int .u64 x9,.slice none 0 0,.int .u64 0,.slice none 0 0]⟩) 2 2 (.slice p9 l9 q9) rfl rfl).store (b:=⟨w.heap.size,31,[.bool t9,.int .u64 x9,.slice p9 l9 q9,.int .u64 0,.slice none 0 0]⟩) 2 3 (.int .u64 y9) rfl rfl).store (b:=⟨w.heap.size,31,[.bool t9,.int .u64 x9,.slice p9 l9 q9,.int .u64 y9,.slice none 0 0]⟩) 2 4 (.slice r9 s9 u9) rfl rfl).as [⟨w3.heap.size+1,27,[.int .u64 x3,.slice p3 l3 q3]⟩,⟨w3.heap.size,27,[.int .u64 x2,.slice p2 l2 q2]⟩,⟨w.heap.size,31,(c5 t9 x9 p9 l9 q9 y9 r9 s9 u9)⟩] rfl)
  go_wp2_with fail
  clear cR0 cR1 cR2 cR3 cR4 fR0 fR1 fR2 fR3 fR4
  obtain ⟨⟨zR0,zR1,zR2,zR3,zR4⟩,-⟩:=hS15.out.f5 2 w.heap.size 31 (.bool t9) (.int .u64 x9) (.slice p9 l9 q9) (.int .u64 y9) (.slice r9 s9 u9) rfl
  exact bodyPost_ret (v:=.tuple #[.agg #[.bool t9,.int .u64 x9,.slice p9 l9 q9,.int .u64 y9,.slice r9 s9 u9],.int .i64 0]) (by simp [results,Tryz.results16,go_sem,zR0,zR1,zR2,zR3,zR4]) rfl ⟨_,rfl,(hS15.out.gq 0 rfl),hS15.out.bel⟩
end Go.Proofs.YtnmlkobogofadaaGreatDoor
