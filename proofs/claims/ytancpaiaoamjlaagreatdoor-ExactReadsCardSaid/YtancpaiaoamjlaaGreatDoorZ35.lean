/- What the proof rests on, part 35. -/
import Derived.Test.YtancpaiaoamjlaaGreatDoorZ34
import Derived.Test.YtancpaiaoamjlaaGreatDoorZ22
import Derived.Test.YtancpaiaoamjlaaGreatDoorZ23
import Derived.Test.YtancpaiaoamjlaaGreatDoorZ26
namespace Go.Proofs.YtancpaiaoamjlaaGreatDoor
set_option maxRecDepth 100000
set_option maxHeartbeats 80000000
section
open Go.RowKit Go.Sort
attribute [local go_sem] takes gU gQ gK
def RtV (F:Nat) (P:Rat) (v:Value) (W:World):Prop:=∃ S:Nat,S*S≤F∧F<(S+1)*(S+1)∧IsQ W v ((((S:Nat):Int):Rat) / P)
theorem MX {F:Nat} {P:Rat}:∀ v W W',Below W.heap.size W W'→RtV F P v W→RtV F P v W':=fun _ _ _ hb ⟨S,h1,h2,h3⟩=>⟨S,h1,h2,h3.below hb⟩
theorem RtV.elim {G:Prop} {F:Nat} {P:Rat} {v:Value} {W:World} (h:RtV F P v W) (k:∀ S:Nat,S*S≤F→F<(S+1)*(S+1)→IsQ W v ((((S:Nat):Int):Rat) / P)→G):G:=by
 obtain ⟨S,h1,h2,h3⟩:=h
 exact k S h1 h2 h3
theorem Jq (x:Rat):x / 1=x:=by grind
theorem OY (r:Rat) (F g:Nat) (hg:g≤64) (P:Rat) (hP:(((2 ^ g:Nat):Int):Rat)=P) (R2:Rat) (hR2:r*P*P=R2) (hF:R2.num / (R2.den:Int)=(F:Int)) (hr:decide (r.num<0)=false) (v:Value) (k:Nat) (w:World) (h:IsQ w v r) (hk:k≤8589934592) (f0:Fits k r) (f1:Fits k P) (f2:Fits k (r*P)) (f3:Fits k R2) (hE:Env w) :
  Calls Tryz.prog 57 #[v,.int .i64 (g:Int)] w (fun e w'=>∃ S:Nat,S*S≤F∧F<(S+1)*(S+1)∧dS w ((((S:Nat):Int):Rat) / P) 0 e w'):=by
 have hP0:P≠0:=by
  rw [← hP]
  intro h
  have h1:((2 ^ g:Nat):Int)=0:=Rat.intCast_eq_zero_iff.1 h
  have h2:0<2 ^ g:=Nat.two_pow_pos g
  omega
 have HG:=hid (fun (W:World)=>U0 g hg W)
 have HP:=hid (fun (W:World)=>hP ▸ XD g (by omega) W)
 obtain ⟨R1,hR1⟩:∃ R1,r*P=R1:=⟨_,rfl⟩
 rw [hR1] at f2 hR2
 have HM1:=hid (fun (W:World) (v1 v2:Value) (i:IsQ W v1 r) (j:IsQ W v2 P) (hT:Tab W)=>hR1 ▸ nK r P v1 v2 k W i j (by omega) f0 f1 hT)
 have HM2:=hid (fun (W:World) (v1 v2:Value) (i:IsQ W v1 R1) (j:IsQ W v2 P) (hT:Tab W)=>hR2 ▸ nK R1 P v1 v2 k W i j (by omega) f2 f1 hT)
 have HR:=hid (fun (W:World) (v:Value) (h:IsQ W v R2)=>Un R2 F hF v k W h hk f3)
 have hFk:F<B64 ^ k:=by
  have h1:=f3.1
  have h2:(F:Int)≤(R2.num.natAbs:Int):=by
   rw [← hF]
   refine Int.le_trans (Int.ediv_le_ediv (by have:=R2.den_pos;omega) (Int.le_natAbs)) ?_
   exact Int.ediv_le_self _ (by omega)
  omega
 have HO:=hid (fun (S:Nat) (hS:S*S≤F) (W:World) (v1 v2:Value) (i:IsQ W v1 ((S:Int):Rat)) (j:IsQ W v2 P) (hT:Tab W)=>rX ((S:Int):Rat) P v1 v2 k W i j (by omega) hP0 (by
  have h1:S≤S*S:=Nat.le_mul_self S
  have h2:1<B64 ^ k:=Nat.lt_of_le_of_lt (Nat.one_le_iff_ne_zero.2 (by have:=P.den_pos;omega)) f1.2
  exact ⟨by show (S:Int).natAbs<_;omega,h2⟩) f1 hT)
 have HE:=hid hE
 have hk1:=hid (And.intro hF hFk)
 obtain ⟨t1,x1,p1,l1,q1,y1,r1,s1,u1,rfl⟩:=h.open
 have hneg:t1=false:=by
  have:=(IsQ.shape h)
  obtain ⟨t,x,p,l,q,y,p',s,u,e,-,-,e'⟩:=this
  have h1:=e'.out
  cases e
  rw [h1,hr]
 subst hneg
 have HI:=hid h
 clear h hP hR2 hF hr f0 f1 f2 f3 hE hP0 hR1 hFk
 go_enter Tryz.func57,Tryz.ntmps57
 go_wp2_with fail
 have hS0:=hid (((St.start w).alloc' (w.heap.size) (by simp) 32 (c5 false x1 p1 l1 q1 y1 r1 s1 u1)).alloc' (w.heap.size+1) (by simp) 32 z5)
 obtain ⟨W0,hW0⟩:=cu hS0
 rw [hW0] at hS0 ⊢
 clear hW0
 have hi1:=HI.out.below hS0.out.bel
 have hS1:=hid (hS0.out.fq hi1)
 clear hS0 hi1
 refine (HG.out _).mono ?_
 rintro e w1 ⟨rfl,hB⟩
 have hS2:=hid (hS1.out.call hB)
 clear hB
 clear hS1
 obtain ⟨⟨cA0,cA1,cA2,cA3,cA4⟩,fA0,fA1,fA2,fA3,fA4⟩:=hS2.out.f5 1 w.heap.size 32 (.bool false) (.int .u64 x1) (.slice p1 l1 q1) (.int .u64 y1) (.slice r1 s1 u1) rfl
 go_wp2_with fail
 clear cA0 cA1 cA2 cA3 cA4 fA0 fA1 fA2 fA3 fA4
 refine (HP.out _).mono ?_
 rintro e w2 ⟨v2,rfl,hv2,hB⟩
 have hS3:=hid (hS2.out.call hB)
 clear hB
 clear hS2
 obtain ⟨t2,x2,p2,l2,q2,y2,r2,s2,u2,rfl⟩:=hv2.open
 have hS4:=hid (hS3.out.fq hv2)
 clear hS3 hv2
 obtain ⟨ne1l,ne1,ne1'⟩:=hS4.out.ne 1 w.heap.size 32 (c5 false x1 p1 l1 q1 y1 r1 s1 u1) rfl
 obtain ⟨ne2l,ne2,ne2'⟩:=hS4.out.ne 0 (w.heap.size+1) 32 z5 rfl
 obtain ⟨⟨cA0,cA1,cA2,cA3,cA4⟩,fA0,fA1,fA2,fA3,fA4⟩:=hS4.out.f5 1 w.heap.size 32 (.bool false) (.int .u64 x1) (.slice p1 l1 q1) (.int .u64 y1) (.slice r1 s1 u1) rfl
 go_wp2_with fail
 clear cA0 cA1 cA2 cA3 cA4 fA0 fA1 fA2 fA3 fA4
 have hS5:=hid ((hS4.out).alloc' (w2.heap.size) (by simp) 32 (c5 t2 x2 p2 l2 q2 y2 r2 s2 u2))
 obtain ⟨W3,hW3⟩:=cu hS5
 rw [hW3] at hS5 ⊢
 clear hW3
 have LM0:=hid (fun (W:World) (h:Below W3.heap.size W3 W)=>((hS5.out.call h).f5 2 w.heap.size 32 (.bool false) (.int .u64 x1) (.slice p1 l1 q1) (.int .u64 y1) (.slice r1 s1 u1) rfl).1)
 have LM1:=hid (fun (W:World) (h:Below W3.heap.size W3 W)=>((hS5.out.call h).f5 0 w2.heap.size 32 (.bool t2) (.int .u64 x2) (.slice p2 l2 q2) (.int .u64 y2) (.slice r2 s2 u2) rfl).1)
 have LM2:=hid (fun (W:World) (h:Below W3.heap.size W3 W)=>HE.out.below (hS5.out.call h).bel (Nat.le_refl _))
 refine jA 8 [⟨[],[0]⟩,⟨[],[1]⟩,⟨[0,1],[2]⟩,⟨[],[3]⟩,⟨[2,3],[4]⟩,⟨[4],[5]⟩,⟨[],[6]⟩,⟨[5,6],[7]⟩]
  [oE (.agg #[.bool false,.int .u64 x1,.slice p1 l1 q1,.int .u64 y1,.slice r1 s1 u1]),oE (.agg #[.bool t2,.int .u64 x2,.slice p2 l2 q2,.int .u64 y2,.slice r2 s2 u2]),oQ (R1),oE (.agg #[.bool t2,.int .u64 x2,.slice p2 l2 q2,.int .u64 y2,.slice r2 s2 u2]),oQ (R2),one (RtV F 1),oE (.agg #[.bool t2,.int .u64 x2,.slice p2 l2 q2,.int .u64 y2,.slice r2 s2 u2]),one (RtV F P)]
  (fun _ W=>Below W3.heap.size W3 W) (by kernel_rfl) (by kernel_rfl) ?hTW4 ?hZW4 ?hOW4 ?hEW4
 case hZW4=>exact (Below.refl _ _).drew
 case hTW4 =>
  simp only [List.forall_mem_cons,List.not_mem_nil,false_imp_iff,implies_true,and_true]
  exact ⟨bE,bE,bQ,bE,bQ,aS MX,bE,aS MX⟩
 case hOW4 =>
  intro u
  simp only [List.take_succ_cons,List.take_zero,aJ]
  repeat' (first | with_reducible exact gZ | with_reducible refine gY ?_ ?_)
  ·intro W hS hF K hK
   have hcA:=LM0.out W hS
   go_simp
   exact hK _ _ (.refl _ _) hS rfl
  ·intro W hS hF K hK
   have hcP:=LM1.out W hS
   go_simp
   exact hK _ _ (.refl _ _) hS rfl
  ·intro W hS hF K hK
   have h0:u 0=.agg #[.bool false,.int .u64 x1,.slice p1 l1 q1,.int .u64 y1,.slice r1 s1 u1]:=hF.1
   have h1:u 1=.agg #[.bool t2,.int .u64 x2,.slice p2 l2 q2,.int .u64 y2,.slice r2 s2 u2]:=hF.2.1
   have sH:=hid (hS5.out.call hS)
   clear hF
   go_simp
   refine (HM1.out _ _ _ (sH.out.get (f:=.q (.agg #[.bool false,.int .u64 x1,.slice p1 l1 q1,.int .u64 y1,.slice r1 s1 u1]) (r)) 1 rfl) (sH.out.get (f:=.q (.agg #[.bool t2,.int .u64 x2,.slice p2 l2 q2,.int .u64 y2,.slice r2 s2 u2]) (P)) 0 rfl) (LM2.out W hS).tz).mono ?_
   rintro e wA ⟨v,rfl,hv,hBA⟩
   exact ⟨_,rfl,hK _ _ hBA (hS.trans (hBA.mono hS.size)) hv⟩
  ·intro W hS hF K hK
   have hcP:=LM1.out W hS
   go_simp
   exact hK _ _ (.refl _ _) hS rfl
  ·intro W hS hF K hK
   have hq2:IsQ W (u 2) (R1):=hF.1
   have h3:u 3=.agg #[.bool t2,.int .u64 x2,.slice p2 l2 q2,.int .u64 y2,.slice r2 s2 u2]:=hF.2.1
   have sH:=hid (hS5.out.call hS)
   clear hF
   go_simp
   refine (HM2.out _ _ _ hq2 (sH.out.get (f:=.q (.agg #[.bool t2,.int .u64 x2,.slice p2 l2 q2,.int .u64 y2,.slice r2 s2 u2]) (P)) 0 rfl) (LM2.out W hS).tz).mono ?_
   rintro e wA ⟨v,rfl,hv,hBA⟩
   exact ⟨_,rfl,hK _ _ hBA (hS.trans (hBA.mono hS.size)) hv⟩
  ·intro W hS hF K hK
   have hq4:IsQ W (u 4) (R2):=hF.1
   clear hF
   go_simp
   refine (HR.out _ _ hq4).mono ?_
   rintro e wA ⟨S,hs1,hs2,v,rfl,hv,hBA⟩
   exact ⟨_,rfl,hK _ _ hBA (hS.trans (hBA.mono hS.size)) ⟨S,hs1,hs2,by rw [Jq];exact hv⟩⟩
  ·intro W hS hF K hK
   have hcP:=LM1.out W hS
   go_simp
   exact hK _ _ (.refl _ _) hS rfl
  ·intro W hS hF K hK
   have hk5:RtV F 1 (u 5) W:=hF.1;with_reducible refine RtV.elim hk5 ?_;intro S5 hs5 ht5 hq5;rw [Jq] at hq5
   have h6:u 6=.agg #[.bool t2,.int .u64 x2,.slice p2 l2 q2,.int .u64 y2,.slice r2 s2 u2]:=hF.2.1
   have sH:=hid (hS5.out.call hS)
   clear hF
   go_simp
   refine (HO.out S5 hs5 _ _ _ hq5 (sH.out.get (f:=.q (.agg #[.bool t2,.int .u64 x2,.slice p2 l2 q2,.int .u64 y2,.slice r2 s2 u2]) (P)) 0 rfl) (LM2.out W hS).tz).mono ?_
   rintro e wA ⟨v,rfl,hv,hBA⟩
   exact ⟨_,rfl,hK _ _ hBA (hS.trans (hBA.mono hS.size)) ⟨S5,hs5,ht5,hv⟩⟩
 case hEW4 =>
  intro u W4 hS hF
  have hS6:=hid (hS5.out.call hS)
  have hk7:RtV F P (u 7) W4:=hF.2.2.2.2.2.2.2.1
  clear hF hS
  obtain ⟨S,hs,ht,hv0⟩:=hk7
  obtain ⟨t9,x9,p9,l9,q9,y9,r9,s9,u9,e9⟩:=hv0.open
  have hv9:IsQ W4 (.agg #[.bool t9,.int .u64 x9,.slice p9 l9 q9,.int .u64 y9,.slice r9 s9 u9]) ((((S:Nat):Int):Rat) / P):=e9 ▸ hv0
  have HS:=hid (And.intro hs ht)
  clear hv0 hs ht
  have hS7:=hid (hS6.out.fq hv9)
  clear hS6 hv9
  obtain ⟨⟨cR0,cR1,cR2,cR3,cR4⟩,fR0,fR1,fR2,fR3,fR4⟩:=hS7.out.f5 1 (w.heap.size+1) 32 (.bool false) (.int .u64 0) (.slice none 0 0) (.int .u64 0) (.slice none 0 0) rfl
  simp only [List.take_succ_cons,List.take_zero,aJ,List.drop_succ_cons,List.drop_zero]
  have hS8:=hid (((((((hS7.out).store (b:=⟨w.heap.size+1,32,z5⟩) 1 0 (.bool t9) rfl rfl).store (b:=⟨w.heap.size+1,32,[.bool t9,.int .u64 0,.slice none 0 0,.int .u64 0,.slice none 0 0]⟩) 1 1 (.int .u64 x9) rfl rfl).store (b:=⟨w.heap.size+1,32,[.bool t9,.int .u64 x9,.slice none 0 0,.int .u64 0,.slice none 0 0]⟩) 1 2 (.slice p9 l9 q9) rfl rfl).store (b:=⟨w.heap.size+1,32,[.bool t9,.int .u64 x9,.slice p9 l9 q9,.int .u64 0,.slice none 0 0]⟩) 1 3 (.int .u64 y9) rfl rfl).store (b:=⟨w.heap.size+1,32,[.bool t9,.int .u64 x9,.slice p9 l9 q9,.int .u64 y9,.slice none 0 0]⟩) 1 4 (.slice r9 s9 u9) rfl rfl).as [⟨w2.heap.size,32,(c5 t2 x2 p2 l2 q2 y2 r2 s2 u2)⟩,⟨w.heap.size+1,32,(c5 t9 x9 p9 l9 q9 y9 r9 s9 u9)⟩,⟨w.heap.size,32,(c5 false x1 p1 l1 q1 y1 r1 s1 u1)⟩] rfl)
  go_wp2_with fail
  clear cR0 cR1 cR2 cR3 cR4 fR0 fR1 fR2 fR3 fR4
  obtain ⟨⟨zR0,zR1,zR2,zR3,zR4⟩,-⟩:=hS8.out.f5 1 (w.heap.size+1) 32 (.bool t9) (.int .u64 x9) (.slice p9 l9 q9) (.int .u64 y9) (.slice r9 s9 u9) rfl
  exact bodyPost_ret (v:=.tuple #[.agg #[.bool t9,.int .u64 x9,.slice p9 l9 q9,.int .u64 y9,.slice r9 s9 u9],.int .i64 0]) (by simp [results,Tryz.results57,go_sem,zR0,zR1,zR2,zR3,zR4]) rfl ⟨S,HS.out.1,HS.out.2,_,rfl,(hS8.out.gq 0 rfl),hS8.out.bel⟩
end
section
open Go.RowKit Go.Sort
attribute [local go_sem] takes gU gQ gK
theorem FM (l s top bottom:List UInt8) (w:World) (hl:l.length≤1000) (hs:Lib.trimPrefix l [45]=s) (hneg:Lib.hasPrefix l [45]=false) (hc:Lib.cut s [47]=(top,bottom,true)) (h1:bY top=true) (h2:bY bottom=true) (h0:dv bottom≠0) (hsl:s.length≤1000) (htl:top.length≤1000) (hbl:bottom.length≤1000) (hE:Env w) :
  Calls Tryz.prog 28 #[.string ⟨l.toArray⟩] w (dS w (mkRat (zs false (dv top)) (dv bottom)) 0):=by
 have HC:=hid (fun (W:World)=>D8 l W)
 have HU:=hid (fun (W:World) (hM:nM W)=>yE s 47 W (by omega) hM)
 rw [hs,hneg] at HC
 rw [hc] at HU
 have HI1:=hid (fun (W:World)=>vW top W (by omega))
 have HI2:=hid (fun (W:World)=>vW bottom W (by omega))
 rw [h1] at HI1
 rw [h2] at HI2
 have a1:top.all aN=true:=by simp only [bY,Bool.and_eq_true] at h1;exact h1.1.2
 have a2:bottom.all aN=true:=by simp only [bY,Bool.and_eq_true] at h2;exact h2.1.2
 have HM1:=hid (fun (W:World)=>wH top W a1 (by omega))
 have HM2:=hid (fun (W:World)=>wH bottom W a2 (by omega))
 obtain ⟨K,hK⟩:∃ K,K=1020:=⟨_,rfl⟩
 have b1:dv top<B64 ^ K:=Nat.lt_trans (ku top a1) (iJ (by omega))
 have b2:dv bottom<B64 ^ K:=Nat.lt_trans (ku bottom a2) (iJ (by omega))
 obtain ⟨n,hn⟩:∃ n,dv top=n:=⟨_,rfl⟩
 obtain ⟨m,hm⟩:∃ m,dv bottom=m:=⟨_,rfl⟩
 rw [hn] at HM1 b1 ⊢
 rw [hm] at HM2 b2 h0 ⊢
 have HR:=hid (fun (c d e f:Value) (W:World) (i1:ah W c d n) (i2:ah W e f m) (hT:Tab W)=>F9 false c d e f n m K W i1 i2 h0 (by omega) b1 b2 hT)
 have z1:(m == 0)=false:=by simpa using h0
 have HE:=hid hE
 obtain ⟨z,hz⟩:∃ z,(n == 0)=z:=⟨_,rfl⟩
 have HZ:=hid (fun (W:World) (c d:Value) (h:ah W c d n)=>hz ▸ dJ c d n W h)
 have HZ2:=hid (fun (W:World) (c d:Value) (h:ah W c d m)=>z1 ▸ dJ c d m W h)
 obtain ⟨R,hR⟩:∃ R,mkRat (zs false n) m=R:=⟨_,rfl⟩
 rw [hR] at HR ⊢
 clear hR hs hneg hc h1 h2 h0 hsl htl hbl hE a1 a2 hK b1 b2 hn hm hz z1
 go_enter Tryz.func28,Tryz.ntmps28
 go_wp2_with fail
 have hS0:=hid ((St.start w).alloc' (w.heap.size) (by simp) 32 z5)
 obtain ⟨W0,hW0⟩:=cu hS0
 rw [hW0] at hS0 ⊢
 clear hW0
 refine (HC.out _).mono ?_
 rintro e w1 ⟨rfl,hB⟩
 have hS1:=hid (hS0.out.call hB)
 clear hB
 clear hS0
 go_wp2_with fail
 refine (HU.out _ (HE.out.below hS1.out.bel (Nat.le_refl _)).max).mono ?_
 rintro e w2 ⟨rfl,hB⟩
 have hS2:=hid (hS1.out.call hB)
 clear hB
 clear hS1
 go_wp2_with fail
 refine (HI1.out _).mono ?_
 rintro e w9 ⟨rfl,rfl⟩
 go_wp2_with fail
 refine (HI2.out _).mono ?_
 rintro e w9 ⟨rfl,rfl⟩
 go_wp2_with fail
 refine (HM1.out _).mono ?_
 rintro e w3 ⟨c1,d1,rfl,hm1,hB⟩
 have hS3:=hid (hS2.out.call hB)
 clear hB
 clear hS2
 obtain ⟨x1,p1,l1,q1,rfl,rfl⟩:=hm1.shape
 have hS4:=hid (hS3.out.fact (.m (.int .u64 x1) (.slice p1 l1 q1) (n)) hm1)
 clear hS3 hm1
 obtain ⟨ne1l,ne1,ne1'⟩:=hS4.out.ne 0 w.heap.size 32 z5 rfl
 go_wp2_with fail
 have hS5:=hid (((hS4.out).alloc' (w3.heap.size) (by simp) 28 [.int .u64 x1,.slice p1 l1 q1]).alloc' (w3.heap.size+1) (by simp) 28 [.int .u64 1,.slice none 0 0])
 obtain ⟨W3,hW3⟩:=cu hS5
 rw [hW3] at hS5 ⊢
 clear hW3
 refine (HM2.out _).mono ?_
 rintro e w4 ⟨c2,d2,rfl,hm2,hB⟩
 have hS6:=hid (hS5.out.call hB)
 clear hB
 clear hS5
 obtain ⟨x2,p2,l2,q2,rfl,rfl⟩:=hm2.shape
 have hS7:=hid (hS6.out.fact (.m (.int .u64 x2) (.slice p2 l2 q2) (m)) hm2)
 clear hS6 hm2
 obtain ⟨⟨cs0,cs1⟩,fs0,fs1⟩:=hS7.out.f2 1 w3.heap.size 28 (.int .u64 x1) (.slice p1 l1 q1) rfl
 obtain ⟨⟨cu0,cu1⟩,fu0,fu1⟩:=hS7.out.f2 0 (w3.heap.size+1) 28 (.int .u64 1) (.slice none 0 0) rfl
 go_wp2_with fail
 clear cs0 cs1 fs0 fs1 cu0 cu1 fu0 fu1
 have hS8:=hid ((((hS7.out).store (b:=⟨w3.heap.size+1,28,[.int .u64 1,.slice none 0 0]⟩) 0 0 (.int .u64 x2) rfl rfl).store (b:=⟨w3.heap.size+1,28,[.int .u64 x2,.slice none 0 0]⟩) 0 1 (.slice p2 l2 q2) rfl rfl).as [⟨w3.heap.size+1,28,[.int .u64 x2,.slice p2 l2 q2]⟩,⟨w3.heap.size,28,[.int .u64 x1,.slice p1 l1 q1]⟩,⟨w.heap.size,32,z5⟩] rfl)
 obtain ⟨W4,hW4⟩:=cu hS8
 rw [hW4] at hS8 ⊢
 clear hW4
 refine (HZ2.out _ _ _ (hS8.out.get (f:=.m (.int .u64 x2) (.slice p2 l2 q2) (m)) 0 rfl)).mono ?_
 rintro e w5 ⟨rfl,hB⟩
 have hS9:=hid (hS8.out.call hB)
 clear hB
 clear hS8
 obtain ⟨⟨cs0,cs1⟩,fs0,fs1⟩:=hS9.out.f2 1 w3.heap.size 28 (.int .u64 x1) (.slice p1 l1 q1) rfl
 obtain ⟨⟨cu0,cu1⟩,fu0,fu1⟩:=hS9.out.f2 0 (w3.heap.size+1) 28 (.int .u64 x2) (.slice p2 l2 q2) rfl
 go_wp2_with fail
 clear cs0 cs1 fs0 fs1 cu0 cu1 fu0 fu1
 have LM0:=hid (fun (W:World) (h:Below w5.heap.size w5 W)=>((hS9.out.call h).f2 1 w3.heap.size 28 (.int .u64 x1) (.slice p1 l1 q1) rfl).1)
 have LM1:=hid (fun (W:World) (h:Below w5.heap.size w5 W)=>((hS9.out.call h).f2 0 (w3.heap.size+1) 28 (.int .u64 x2) (.slice p2 l2 q2) rfl).1)
 have LM2:=hid (fun (W:World) (h:Below w5.heap.size w5 W)=>HE.out.below (hS9.out.call h).bel (Nat.le_refl _))
 refine jA 10 [⟨[],[0]⟩,⟨[0],[1]⟩,⟨[1],[2]⟩,⟨[1],[3]⟩,⟨[1],[4]⟩,⟨[1],[5]⟩,⟨[],[6]⟩,⟨[5,6],[7]⟩,⟨[],[8]⟩,⟨[7,8],[9]⟩]
  [oE (.bool false),oE (.bool false),oE undef,oE undef,oE undef,oE (.bool false),oE (.agg #[.int .u64 x1,.slice p1 l1 q1]),oE (.agg #[.bool false,.int .u64 x1,.slice p1 l1 q1]),oE (.agg #[.int .u64 x2,.slice p2 l2 q2]),oQ (R)]
  (fun _ W=>Below w5.heap.size w5 W) (by kernel_rfl) (by kernel_rfl) ?hTW6 ?hZW6 ?hOW6 ?hEW6
 case hZW6=>exact (Below.refl _ _).drew
 case hTW6 =>
  simp only [List.forall_mem_cons,List.not_mem_nil,false_imp_iff,implies_true,and_true]
  exact ⟨bE,bE,bE,bE,bE,bE,bE,bE,bE,bQ⟩
 case hOW6 =>
  intro u
  simp only [List.take_succ_cons,List.take_zero,aJ]
  repeat' (first | with_reducible exact gZ | with_reducible refine gY ?_ ?_)
  ·intro W hS hF K hK
   go_simp
   exact hK _ _ (.refl _ _) hS rfl
  ·intro W hS hF K hK
   have h0:u 0=.bool false:=hF.1
   clear hF
   go_simp
   exact hK _ _ (.refl _ _) hS rfl
  ·intro W hS hF K hK
   have h1:u 1=.bool false:=hF.1
   clear hF
   go_simp
   exact hK _ _ (.refl _ _) hS rfl
  ·intro W hS hF K hK
   have h1:u 1=.bool false:=hF.1
   clear hF
   go_simp
   exact hK _ _ (.refl _ _) hS rfl
  ·intro W hS hF K hK
   have h1:u 1=.bool false:=hF.1
   clear hF
   go_simp
   exact hK _ _ (.refl _ _) hS rfl
  ·intro W hS hF K hK
   have h1:u 1=.bool false:=hF.1
   clear hF
   go_simp
   exact hK _ _ (.refl _ _) hS rfl
  ·intro W hS hF K hK
   have hcs:=LM0.out W hS
   go_simp
   exact hK _ _ (.refl _ _) hS rfl
  ·intro W hS hF K hK
   have h5:u 5=.bool false:=hF.1
   have h6:u 6=.agg #[.int .u64 x1,.slice p1 l1 q1]:=hF.2.1
   clear hF
   go_simp
   exact hK _ _ (.refl _ _) hS rfl
  ·intro W hS hF K hK
   have hcu:=LM1.out W hS
   go_simp
   exact hK _ _ (.refl _ _) hS rfl
  ·intro W hS hF K hK
   have h7:u 7=.agg #[.bool false,.int .u64 x1,.slice p1 l1 q1]:=hF.1
   have h8:u 8=.agg #[.int .u64 x2,.slice p2 l2 q2]:=hF.2.1
   have sH:=hid (hS9.out.call hS)
   clear hF
   go_simp
   refine (HR.out _ _ _ _ _ (sH.out.get (f:=.m (.int .u64 x1) (.slice p1 l1 q1) (n)) 1 rfl) (sH.out.get (f:=.m (.int .u64 x2) (.slice p2 l2 q2) (m)) 0 rfl) (LM2.out W hS).tz).mono ?_
   rintro e wA ⟨v,rfl,hv,hBA⟩
   exact ⟨_,rfl,hK _ _ hBA (hS.trans (hBA.mono hS.size)) hv⟩
 case hEW6 =>
  intro u W6 hS hF
  have hS10:=hid (hS9.out.call hS)
  have hv0:IsQ W6 (u 9) R:=hF.2.2.2.2.2.2.2.2.2.1
  clear hF hS
  obtain ⟨t9,x9,p9,l9,q9,y9,r9,s9,u9,e9⟩:=hv0.open
  have hv9:IsQ W6 (.agg #[.bool t9,.int .u64 x9,.slice p9 l9 q9,.int .u64 y9,.slice r9 s9 u9]) R:=e9 ▸ hv0
  clear hv0
  have hS11:=hid (hS10.out.fq hv9)
  clear hS10 hv9
  obtain ⟨⟨cR0,cR1,cR2,cR3,cR4⟩,fR0,fR1,fR2,fR3,fR4⟩:=hS11.out.f5 2 w.heap.size 32 (.bool false) (.int .u64 0) (.slice none 0 0) (.int .u64 0) (.slice none 0 0) rfl
  simp only [List.take_succ_cons,List.take_zero,aJ,List.drop_succ_cons,List.drop_zero]
  have hS12:=hid (((((((hS11.out).store (b:=⟨w.heap.size,32,z5⟩) 2 0 (.bool t9) rfl rfl).store (b:=⟨w.heap.size,32,[.bool t9,.int .u64 0,.slice none 0 0,.int .u64 0,.slice none 0 0]⟩) 2 1 (.int .u64 x9) rfl rfl).store (b:=⟨w.heap.size,32,[.bool t9,.int .u64 x9,.slice none 0 0,.int .u64 0,.slice none 0 0]⟩) 2 2 (.slice p9 l9 q9) rfl rfl).store (b:=⟨w.heap.size,32,[.bool t9,.int .u64 x9,.slice p9 l9 q9,.int .u64 0,.slice none 0 0]⟩) 2 3 (.int .u64 y9) rfl rfl).store (b:=⟨w.heap.size,32,[.bool t9,.int .u64 x9,.slice p9 l9 q9,.int .u64 y9,.slice none 0 0]⟩) 2 4 (.slice r9 s9 u9) rfl rfl).as [⟨w3.heap.size+1,28,[.int .u64 x2,.slice p2 l2 q2]⟩,⟨w3.heap.size,28,[.int .u64 x1,.slice p1 l1 q1]⟩,⟨w.heap.size,32,(c5 t9 x9 p9 l9 q9 y9 r9 s9 u9)⟩] rfl)
  go_wp2_with fail
  clear cR0 cR1 cR2 cR3 cR4 fR0 fR1 fR2 fR3 fR4
  obtain ⟨⟨zR0,zR1,zR2,zR3,zR4⟩,-⟩:=hS12.out.f5 2 w.heap.size 32 (.bool t9) (.int .u64 x9) (.slice p9 l9 q9) (.int .u64 y9) (.slice r9 s9 u9) rfl
  exact bodyPost_ret (v:=.tuple #[.agg #[.bool t9,.int .u64 x9,.slice p9 l9 q9,.int .u64 y9,.slice r9 s9 u9],.int .i64 0]) (by simp [results,Tryz.results28,go_sem,zR0,zR1,zR2,zR3,zR4]) rfl ⟨_,rfl,(hS12.out.gq 0 rfl),hS12.out.bel⟩
end
section
open Go.RowKit Go.Sort
attribute [local go_sem] takes gU gQ gK
theorem Xw (l s top bottom:List UInt8) (w:World) (hl:l.length≤1000) (hs:Lib.trimPrefix l [45]=s) (hneg:Lib.hasPrefix l [45]=true) (hc:Lib.cut s [47]=(s,[],false)) (hc2:Lib.cut s [46]=(top,bottom,true)) (h1:bY top=true) (h2:(bottom != [] && bottom.all aN)=true) (hsl:s.length≤1000) (htl:top.length≤1000) (hbl:bottom.length≤1000) (hE:Env w) :
  Calls Tryz.prog 28 #[.string ⟨l.toArray⟩] w (dS w (mkRat (zs (!(dv (top ++ bottom) == 0)) (dv (top ++ bottom))) (10 ^ bottom.length)) 0):=by
 have HC:=hid (fun (W:World)=>D8 l W)
 have HU:=hid (fun (W:World) (hM:nM W)=>yE s 47 W (by omega) hM)
 have HV:=hid (fun (W:World) (hM:nM W)=>yE s 46 W (by omega) hM)
 rw [hs,hneg] at HC
 rw [hc] at HU
 rw [hc2] at HV
 have HI1:=hid (fun (W:World)=>vW top W (by omega))
 rw [h1] at HI1
 have HI2:=hid (fun (W:World)=>EH bottom W (by omega))
 rw [h2] at HI2
 have a1:top.all aN=true:=by simp only [bY,Bool.and_eq_true] at h1;exact h1.1.2
 have a2:bottom.all aN=true:=by simp only [Bool.and_eq_true] at h2;exact h2.2
 have a3:(top ++ bottom).all aN=true:=by rw [List.all_append,a1,a2];rfl
 have HM1:=hid (fun (W:World)=>wH top W a1 (by omega))
 have happ:(⟨top.toArray⟩:ByteArray) ++ ⟨bottom.toArray⟩=⟨(top ++ bottom).toArray⟩:=by apply ByteArray.ext;simp
 have HM2:=hid (fun (W:World)=>wH (top ++ bottom) W a3 (by rw [List.length_append];omega))
 rw [← happ] at HM2
 obtain ⟨K,hK⟩:∃ K,K=3020:=⟨_,rfl⟩
 have b1:dv (top ++ bottom)<B64 ^ K:=Nat.lt_trans (ku _ a3) (iJ (by rw [List.length_append];omega))
 have b2:10 ^ bottom.length<B64 ^ K:=iJ (by omega)
 have b3:10 ^ bottom.length≠0:=Nat.pos_iff_ne_zero.1 (Nat.pow_pos (by decide))
 have HP:=hid (fun (W:World)=>FV bottom.length K W b2 (by omega))
 obtain ⟨n,hn⟩:∃ n,dv (top ++ bottom)=n:=⟨_,rfl⟩
 obtain ⟨m,hm⟩:∃ m,10 ^ bottom.length=m:=⟨_,rfl⟩
 obtain ⟨n0,hn0⟩:∃ n0,dv top=n0:=⟨_,rfl⟩
 rw [hn0] at HM1
 rw [hn] at HM2 b1 ⊢
 rw [hm] at HP b2 b3 ⊢
 have HR:=hid (fun (c d e f:Value) (W:World) (i1:ah W c d n) (i2:ah W e f m) (hT:Tab W)=>F9 (!(n == 0)) c d e f n m K W i1 i2 b3 (by omega) b1 b2 hT)
 have z1:(m == 0)=false:=by simpa using b3
 have HE:=hid hE
 obtain ⟨z,hz⟩:∃ z,(n == 0)=z:=⟨_,rfl⟩
 have HZ:=hid (fun (W:World) (c d:Value) (h:ah W c d n)=>hz ▸ dJ c d n W h)
 have HZ2:=hid (fun (W:World) (c d:Value) (h:ah W c d m)=>z1 ▸ dJ c d m W h)
 rw [hz] at HR ⊢
 obtain ⟨R,hR⟩:∃ R,mkRat (zs (!z) n) m=R:=⟨_,rfl⟩
 rw [hR] at HR ⊢
 clear happ hR hs hneg hc hc2 h1 h2 hsl hE a1 a2 a3 hK b1 b2 b3 hn hm hn0 hz z1
 go_enter Tryz.func28,Tryz.ntmps28
 go_wp2_with fail
 have hS0:=hid ((St.start w).alloc' (w.heap.size) (by simp) 32 z5)
 obtain ⟨W0,hW0⟩:=cu hS0
 rw [hW0] at hS0 ⊢
 clear hW0
 refine (HC.out _).mono ?_
 rintro e w1 ⟨rfl,hB⟩
 have hS1:=hid (hS0.out.call hB)
 clear hB
 clear hS0
 go_wp2_with fail
 refine (HU.out _ (HE.out.below hS1.out.bel (Nat.le_refl _)).max).mono ?_
 rintro e w2 ⟨rfl,hB⟩
 have hS2:=hid (hS1.out.call hB)
 clear hB
 clear hS1
 go_wp2_with fail
 refine (HV.out _ (HE.out.below hS2.out.bel (Nat.le_refl _)).max).mono ?_
 rintro e w2b ⟨rfl,hB⟩
 have hS3:=hid (hS2.out.call hB)
 clear hB
 clear hS2
 go_wp2_with fail
 refine (HI1.out _).mono ?_
 rintro e w9 ⟨rfl,rfl⟩
 go_wp2_with fail
 refine (HI2.out _).mono ?_
 rintro e w9 ⟨rfl,rfl⟩
 go_wp2_with fail
 refine (HM1.out _).mono ?_
 rintro e w3 ⟨c1,d1,rfl,hm1,hB⟩
 have hS4:=hid (hS3.out.call hB)
 clear hB
 clear hS3
 obtain ⟨x1,p1,l1,q1,rfl,rfl⟩:=hm1.shape
 have hS5:=hid (hS4.out.fact (.m (.int .u64 x1) (.slice p1 l1 q1) (n0)) hm1)
 clear hS4 hm1
 obtain ⟨ne1l,ne1,ne1'⟩:=hS5.out.ne 0 w.heap.size 32 z5 rfl
 go_wp2_with fail
 have hS6:=hid (((hS5.out).alloc' (w3.heap.size) (by simp) 28 [.int .u64 x1,.slice p1 l1 q1]).alloc' (w3.heap.size+1) (by simp) 28 [.int .u64 1,.slice none 0 0])
 obtain ⟨W3,hW3⟩:=cu hS6
 rw [hW3] at hS6 ⊢
 clear hW3
 obtain ⟨⟨cs0,cs1⟩,fs0,fs1⟩:=hS6.out.f2 1 w3.heap.size 28 (.int .u64 x1) (.slice p1 l1 q1) rfl
 obtain ⟨⟨cu0,cu1⟩,fu0,fu1⟩:=hS6.out.f2 0 (w3.heap.size+1) 28 (.int .u64 1) (.slice none 0 0) rfl
 go_wp2_with fail
 clear cs0 cs1 fs0 fs1 cu0 cu1 fu0 fu1
 refine (HM2.out _).mono ?_
 rintro e w4 ⟨c2,d2,rfl,hm2,hB⟩
 have hS7:=hid (hS6.out.call hB)
 clear hB
 clear hS6
 obtain ⟨x2,p2,l2,q2,rfl,rfl⟩:=hm2.shape
 have hS8:=hid (hS7.out.fact (.m (.int .u64 x2) (.slice p2 l2 q2) (n)) hm2)
 clear hS7 hm2
 go_wp2_with fail
 refine (HP.out _).mono ?_
 rintro e w5 ⟨c3,d3,rfl,hm3,hB⟩
 have hS9:=hid (hS8.out.call hB)
 clear hB
 clear hS8
 obtain ⟨x3,p3,l3,q3,rfl,rfl⟩:=hm3.shape
 have hS10:=hid (hS9.out.fact (.m (.int .u64 x3) (.slice p3 l3 q3) (m)) hm3)
 clear hS9 hm3
 obtain ⟨⟨cs0,cs1⟩,fs0,fs1⟩:=hS10.out.f2 1 w3.heap.size 28 (.int .u64 x1) (.slice p1 l1 q1) rfl
 obtain ⟨⟨cu0,cu1⟩,fu0,fu1⟩:=hS10.out.f2 0 (w3.heap.size+1) 28 (.int .u64 1) (.slice none 0 0) rfl
 go_wp2_with fail
 clear cs0 cs1 fs0 fs1 cu0 cu1 fu0 fu1
 have hS11:=hid ((((((hS10.out).store (b:=⟨w3.heap.size,28,[.int .u64 x1,.slice p1 l1 q1]⟩) 1 0 (.int .u64 x2) rfl rfl).store (b:=⟨w3.heap.size,28,[.int .u64 x2,.slice p1 l1 q1]⟩) 1 1 (.slice p2 l2 q2) rfl rfl).store (b:=⟨w3.heap.size+1,28,[.int .u64 1,.slice none 0 0]⟩) 0 0 (.int .u64 x3) rfl rfl).store (b:=⟨w3.heap.size+1,28,[.int .u64 x3,.slice none 0 0]⟩) 0 1 (.slice p3 l3 q3) rfl rfl).as [⟨w3.heap.size+1,28,[.int .u64 x3,.slice p3 l3 q3]⟩,⟨w3.heap.size,28,[.int .u64 x2,.slice p2 l2 q2]⟩,⟨w.heap.size,32,z5⟩] rfl)
 obtain ⟨W5,hW5⟩:=cu hS11
 rw [hW5] at hS11 ⊢
 clear hW5
 refine (HZ2.out _ _ _ (hS11.out.get (f:=.m (.int .u64 x3) (.slice p3 l3 q3) (m)) 0 rfl)).mono ?_
 rintro e w6 ⟨rfl,hB⟩
 have hS12:=hid (hS11.out.call hB)
 clear hB
 clear hS11
 obtain ⟨⟨cs0,cs1⟩,fs0,fs1⟩:=hS12.out.f2 1 w3.heap.size 28 (.int .u64 x2) (.slice p2 l2 q2) rfl
 obtain ⟨⟨cu0,cu1⟩,fu0,fu1⟩:=hS12.out.f2 0 (w3.heap.size+1) 28 (.int .u64 x3) (.slice p3 l3 q3) rfl
 go_wp2_with fail
 clear cs0 cs1 fs0 fs1 cu0 cu1 fu0 fu1
 have LM0:=hid (fun (W:World) (h:Below w6.heap.size w6 W)=>((hS12.out.call h).f2 1 w3.heap.size 28 (.int .u64 x2) (.slice p2 l2 q2) rfl).1)
 have LM1:=hid (fun (W:World) (h:Below w6.heap.size w6 W)=>((hS12.out.call h).f2 0 (w3.heap.size+1) 28 (.int .u64 x3) (.slice p3 l3 q3) rfl).1)
 have LM2:=hid (fun (W:World) (h:Below w6.heap.size w6 W)=>HE.out.below (hS12.out.call h).bel (Nat.le_refl _))
 refine jA 10 [⟨[],[0]⟩,⟨[0],[1]⟩,⟨[1],[2]⟩,⟨[2,1],[3]⟩,⟨[3,1],[4]⟩,⟨[1,4],[5]⟩,⟨[],[6]⟩,⟨[5,6],[7]⟩,⟨[],[8]⟩,⟨[7,8],[9]⟩]
  [oE (.bool true),oE (.bool true),oE (.agg #[.int .u64 x2,.slice p2 l2 q2]),oE (.bool z),oE (.bool (!z)),oE (.bool (!z)),oE (.agg #[.int .u64 x2,.slice p2 l2 q2]),oE (.agg #[.bool (!z),.int .u64 x2,.slice p2 l2 q2]),oE (.agg #[.int .u64 x3,.slice p3 l3 q3]),oQ (R)]
  (fun _ W=>Below w6.heap.size w6 W) (by kernel_rfl) (by kernel_rfl) ?hTW6 ?hZW6 ?hOW6 ?hEW6
 case hZW6=>exact (Below.refl _ _).drew
 case hTW6 =>
  simp only [List.forall_mem_cons,List.not_mem_nil,false_imp_iff,implies_true,and_true]
  exact ⟨bE,bE,bE,bE,bE,bE,bE,bE,bE,bQ⟩
 case hOW6 =>
  intro u
  simp only [List.take_succ_cons,List.take_zero,aJ]
  repeat' (first | with_reducible exact gZ | with_reducible refine gY ?_ ?_)
  ·intro W hS hF K hK
   go_simp
   exact hK _ _ (.refl _ _) hS rfl
  ·intro W hS hF K hK
   have h0:u 0=.bool true:=hF.1
   clear hF
   go_simp
   exact hK _ _ (.refl _ _) hS rfl
  ·intro W hS hF K hK
   have h1:u 1=.bool true:=hF.1
   have hcs:=LM0.out W hS
   clear hF
   go_simp
   exact hK _ _ (.refl _ _) hS rfl
  ·intro W hS hF K hK
   have h2:u 2=.agg #[.int .u64 x2,.slice p2 l2 q2]:=hF.1
   have h1:u 1=.bool true:=hF.2.1
   have sH:=hid (hS12.out.call hS)
   clear hF
   go_simp
   refine (HZ.out _ _ _ (sH.out.get (f:=.m (.int .u64 x2) (.slice p2 l2 q2) (n)) 1 rfl)).mono ?_
   rintro e wA ⟨rfl,hBA⟩
   exact ⟨_,rfl,hK _ _ hBA (hS.trans (hBA.mono hS.size)) rfl⟩
  ·intro W hS hF K hK
   have h3:u 3=.bool z:=hF.1
   have h1:u 1=.bool true:=hF.2.1
   clear hF
   go_simp
   exact hK _ _ (.refl _ _) hS rfl
  ·intro W hS hF K hK
   have h1:u 1=.bool true:=hF.1
   have h4:u 4=.bool (!z):=hF.2.1
   clear hF
   go_simp
   exact hK _ _ (.refl _ _) hS rfl
  ·intro W hS hF K hK
   have hcs:=LM0.out W hS
   go_simp
   exact hK _ _ (.refl _ _) hS rfl
  ·intro W hS hF K hK
   have h5:u 5=.bool (!z):=hF.1
   have h6:u 6=.agg #[.int .u64 x2,.slice p2 l2 q2]:=hF.2.1
   clear hF
   go_simp
   exact hK _ _ (.refl _ _) hS rfl
  ·intro W hS hF K hK
   have hcu:=LM1.out W hS
   go_simp
   exact hK _ _ (.refl _ _) hS rfl
  ·intro W hS hF K hK
   have h7:u 7=.agg #[.bool (!z),.int .u64 x2,.slice p2 l2 q2]:=hF.1
   have h8:u 8=.agg #[.int .u64 x3,.slice p3 l3 q3]:=hF.2.1
   have sH:=hid (hS12.out.call hS)
   clear hF
   go_simp
   refine (HR.out _ _ _ _ _ (sH.out.get (f:=.m (.int .u64 x2) (.slice p2 l2 q2) (n)) 1 rfl) (sH.out.get (f:=.m (.int .u64 x3) (.slice p3 l3 q3) (m)) 0 rfl) (LM2.out W hS).tz).mono ?_
   rintro e wA ⟨v,rfl,hv,hBA⟩
   exact ⟨_,rfl,hK _ _ hBA (hS.trans (hBA.mono hS.size)) hv⟩
 case hEW6 =>
  intro u W6 hS hF
  have hS13:=hid (hS12.out.call hS)
  have hv0:IsQ W6 (u 9) R:=hF.2.2.2.2.2.2.2.2.2.1
  clear hF hS
  obtain ⟨t9,x9,p9,l9,q9,y9,r9,s9,u9,e9⟩:=hv0.open
  have hv9:IsQ W6 (.agg #[.bool t9,.int .u64 x9,.slice p9 l9 q9,.int .u64 y9,.slice r9 s9 u9]) R:=e9 ▸ hv0
  clear hv0
  have hS14:=hid (hS13.out.fq hv9)
  clear hS13 hv9
  obtain ⟨⟨cR0,cR1,cR2,cR3,cR4⟩,fR0,fR1,fR2,fR3,fR4⟩:=hS14.out.f5 2 w.heap.size 32 (.bool false) (.int .u64 0) (.slice none 0 0) (.int .u64 0) (.slice none 0 0) rfl
  simp only [List.take_succ_cons,List.take_zero,aJ,List.drop_succ_cons,List.drop_zero]
  have hS15:=hid (((((((hS14.out).store (b:=⟨w.heap.size,32,z5⟩) 2 0 (.bool t9) rfl rfl).store (b:=⟨w.heap.size,32,[.bool t9,.int .u64 0,.slice none 0 0,.int .u64 0,.slice none 0 0]⟩) 2 1 (.int .u64 x9) rfl rfl).store (b:=⟨w.heap.size,32,[.bool t9,.int .u64 x9,.slice none 0 0,.int .u64 0,.slice none 0 0]⟩) 2 2 (.slice p9 l9 q9) rfl rfl).store (b:=⟨w.heap.size,32,[.bool t9,.int .u64 x9,.slice p9 l9 q9,.int .u64 0,.slice none 0 0]⟩) 2 3 (.int .u64 y9) rfl rfl).store (b:=⟨w.heap.size,32,[.bool t9,.int .u64 x9,.slice p9 l9 q9,.int .u64 y9,.slice none 0 0]⟩) 2 4 (.slice r9 s9 u9) rfl rfl).as [⟨w3.heap.size+1,28,[.int .u64 x3,.slice p3 l3 q3]⟩,⟨w3.heap.size,28,[.int .u64 x2,.slice p2 l2 q2]⟩,⟨w.heap.size,32,(c5 t9 x9 p9 l9 q9 y9 r9 s9 u9)⟩] rfl)
  go_wp2_with fail
  clear cR0 cR1 cR2 cR3 cR4 fR0 fR1 fR2 fR3 fR4
  obtain ⟨⟨zR0,zR1,zR2,zR3,zR4⟩,-⟩:=hS15.out.f5 2 w.heap.size 32 (.bool t9) (.int .u64 x9) (.slice p9 l9 q9) (.int .u64 y9) (.slice r9 s9 u9) rfl
  exact bodyPost_ret (v:=.tuple #[.agg #[.bool t9,.int .u64 x9,.slice p9 l9 q9,.int .u64 y9,.slice r9 s9 u9],.int .i64 0]) (by simp [results,Tryz.results28,go_sem,zR0,zR1,zR2,zR3,zR4]) rfl ⟨_,rfl,(hS15.out.gq 0 rfl),hS15.out.bel⟩
end
section
open Go.RowKit Go.Sort
attribute [local go_sem] takes gU gQ gK
theorem Xf (l:List UInt8) (r:Rat) (c:Int) (w:World) (H:Hid (∀ W,Below w.heap.size w W→Calls Tryz.prog 28 #[.string ⟨l.toArray⟩] W (dS W r c))) :
  Calls Tryz.prog 55 #[.string ⟨l.toArray⟩] w (bC w r):=by
 go_enter Tryz.func55,Tryz.ntmps55
 go_wp2_with fail
 have hS0:=hid ((St.start w).alloc' (w.heap.size) (by simp) 32 z5)
 obtain ⟨W0,hW0⟩:=cu hS0
 rw [hW0] at hS0 ⊢
 clear hW0
 refine (H.out _ hS0.out.bel).mono ?_
 rintro e w1 ⟨v1,rfl,hv1,hB⟩
 have hS1:=hid (hS0.out.call hB)
 clear hB
 clear hS0
 obtain ⟨t1,x1,p1,l1,q1,y1,r1,s1,u1,rfl⟩:=hv1.open
 have hS2:=hid (hS1.out.fq hv1)
 clear hS1 hv1
 obtain ⟨ne1l,ne1,ne1'⟩:=hS2.out.ne 0 w.heap.size 32 z5 rfl
 obtain ⟨⟨cR0,cR1,cR2,cR3,cR4⟩,fR0,fR1,fR2,fR3,fR4⟩:=hS2.out.f5 0 w.heap.size 32 (.bool false) (.int .u64 0) (.slice none 0 0) (.int .u64 0) (.slice none 0 0) rfl
 have hS3:=hid ((((((((hS2.out).store (b:=⟨w.heap.size,32,z5⟩) 0 0 (.bool t1) rfl rfl).store (b:=⟨w.heap.size,32,[.bool t1,.int .u64 0,.slice none 0 0,.int .u64 0,.slice none 0 0]⟩) 0 1 (.int .u64 x1) rfl rfl).store (b:=⟨w.heap.size,32,[.bool t1,.int .u64 x1,.slice none 0 0,.int .u64 0,.slice none 0 0]⟩) 0 2 (.slice p1 l1 q1) rfl rfl).store (b:=⟨w.heap.size,32,[.bool t1,.int .u64 x1,.slice p1 l1 q1,.int .u64 0,.slice none 0 0]⟩) 0 3 (.int .u64 y1) rfl rfl).store (b:=⟨w.heap.size,32,[.bool t1,.int .u64 x1,.slice p1 l1 q1,.int .u64 y1,.slice none 0 0]⟩) 0 4 (.slice r1 s1 u1) rfl rfl).alloc' (w1.heap.size) (by simp) 32 (c5 t1 x1 p1 l1 q1 y1 r1 s1 u1)).as [⟨w1.heap.size,32,(c5 t1 x1 p1 l1 q1 y1 r1 s1 u1)⟩,⟨w.heap.size,32,(c5 t1 x1 p1 l1 q1 y1 r1 s1 u1)⟩] rfl)
 go_wp2_with fail
 clear cR0 cR1 cR2 cR3 cR4 fR0 fR1 fR2 fR3 fR4
 obtain ⟨⟨zR0,zR1,zR2,zR3,zR4⟩,-⟩:=hS3.out.f5 1 w.heap.size 32 (.bool t1) (.int .u64 x1) (.slice p1 l1 q1) (.int .u64 y1) (.slice r1 s1 u1) rfl
 exact bodyPost_ret (v:=.agg #[.bool t1,.int .u64 x1,.slice p1 l1 q1,.int .u64 y1,.slice r1 s1 u1]) (by simp [results,Tryz.results55,go_sem,zR0,zR1,zR2,zR3,zR4]) rfl ⟨_,rfl,(hS3.out.gq 0 rfl),hS3.out.bel⟩
theorem Vl (l:List UInt8) (r:Rat) (v:Value) (k:Nat) (w:World) (h:IsQ w v r) (hk:k≤1073741824) (f:Fits k r) (hE:Env w) :
  Calls Tryz.prog 59 #[v,.string ⟨l.toArray⟩] w (aX w (.bool (iR r == l))):=by
 have HX:=hid (fun (W:World) (v:Value) (h:IsQ W v r) (hT:dU W)=>H8 r v k W h hk f hT)
 obtain ⟨D,hD⟩:∃ D,iR r=D:=⟨_,rfl⟩
 rw [hD] at HX ⊢
 obtain ⟨t1,x1,p1,l1,q1,y1,r1,s1,u1,rfl⟩:=h.open
 have HI:=hid (And.intro h hE)
 clear h hE hD f
 go_enter Tryz.func59,Tryz.ntmps59
 go_wp2_with fail
 have hS0:=hid ((St.start w).alloc' (w.heap.size) (by simp) 32 (c5 t1 x1 p1 l1 q1 y1 r1 s1 u1))
 obtain ⟨W0,hW0⟩:=cu hS0
 rw [hW0] at hS0 ⊢
 clear hW0
 have hi1:=HI.out.1.below hS0.out.bel
 have hS1:=hid (hS0.out.fq hi1)
 clear hS0 hi1
 refine (HX.out _ _ (hS1.out.gq 0 rfl) (HI.out.2.below hS1.out.bel (Nat.le_refl _)).ten).mono ?_
 rintro e w1 ⟨rfl,hB⟩
 have hS2:=hid (hS1.out.call hB)
 clear hB
 clear hS1
 go_wp2
 go_ret
 exact ⟨rfl,hS2.out.bel⟩
end
section
open Go.RowKit Go.Sort
theorem lG {k:Nat} {r:Rat} (h:decide (r.num.natAbs<B64 ^ k)=true) (h2:decide (r.den<B64 ^ k)=true):Fits k r:=⟨of_decide_eq_true h,of_decide_eq_true h2⟩
theorem Xp (w:World) (hE:Env w):Calls Tryz.prog 28 #[.string ⟨#[45,49,46,50,53,48]⟩] w (dS w (mkRat (-5) 4) 0):=by
 have h:=Xw [45,49,46,50,53,48] [49,46,50,53,48] [49] [50,53,48] w (by decide) (by decide +kernel) (by decide +kernel) (by decide +kernel) (by decide +kernel) (by decide +kernel) (by decide +kernel) (by decide) (by decide) (by decide) hE
 rwa [show mkRat (zs (!(dv ([49] ++ [50,53,48]) == 0)) (dv ([49] ++ [50,53,48]))) (10 ^ ([50,53,48]:List UInt8).length)=mkRat (-5) 4 from by decide +kernel] at h
theorem p64 (w:World) (hE:Env w):Calls Tryz.prog 28 #[.string ⟨#[54,47,52]⟩] w (dS w (mkRat 3 2) 0):=by
 have h:=FM [54,47,52] [54,47,52] [54] [52] w (by decide) (by decide +kernel) (by decide +kernel) (by decide +kernel) (by decide +kernel) (by decide +kernel) (by decide +kernel) (by decide) (by decide) (by decide) hE
 rwa [show mkRat (zs false (dv [54])) (dv [52])=mkRat 3 2 from by decide +kernel] at h
theorem Xq (w:World) (hE:Env w):Calls Tryz.prog 28 #[.string ⟨#[51,53,53,47,49,49,51]⟩] w (dS w (mkRat 355 113) 0):=by
 have h:=FM [51,53,53,47,49,49,51] [51,53,53,47,49,49,51] [51,53,53] [49,49,51] w (by decide) (by decide +kernel) (by decide +kernel) (by decide +kernel) (by decide +kernel) (by decide +kernel) (by decide +kernel) (by decide) (by decide) (by decide) hE
 rwa [show mkRat (zs false (dv [51,53,53])) (dv [49,49,51])=mkRat 355 113 from by decide +kernel] at h
theorem p12 (w:World) (hE:Env w):Calls Tryz.prog 28 #[.string ⟨#[49,47,50]⟩] w (dS w (mkRat 1 2) 0):=by
 have h:=FM [49,47,50] [49,47,50] [49] [50] w (by decide) (by decide +kernel) (by decide +kernel) (by decide +kernel) (by decide +kernel) (by decide +kernel) (by decide +kernel) (by decide) (by decide) (by decide) hE
 rwa [show mkRat (zs false (dv [49])) (dv [50])=mkRat 1 2 from by decide +kernel] at h
theorem Yq (v:Value) (w:World) (h:IsQ w v ((2:Int):Rat)) (hE:Env w):Calls Tryz.prog 57 #[v,.int .i64 3] w (dS w (mkRat 11 8) 0):=by
 have:=OY ((2:Int):Rat) 128 3 (by decide) 8 (by decide +kernel) 128 (by decide +kernel) (by decide +kernel) (by decide +kernel) v 1 w h (by decide) (lG (by decide +kernel) (by decide +kernel)) (lG (by decide +kernel) (by decide +kernel)) (lG (by decide +kernel) (by decide +kernel)) (lG (by decide +kernel) (by decide +kernel)) hE
 refine this.mono ?_
 rintro e w' ⟨S,h1,h2,h3⟩
 have:S=11:=Yu 128 S 11 h1 h2 (by decide) (by decide)
 subst this
 rwa [show (((11:Nat):Int):Rat) / 8=mkRat 11 8 from by decide +kernel] at h3
end
namespace Rx
open Go.RowKit
def nJ (β:Nat→Rat):Prop:=β 0=mkRat (-5) 4∧β 1=mkRat 3 2∧β 2=mkRat 355 113∧β 3=mkRat 22 7∧β 4=mkRat 11 8∧β 5=mkRat 1 2
def xO (s:ByteArray):Option Nat:=
 if s.data.toList=[45,49,46,50,53,48] then some 0 else if s.data.toList=[54,47,52] then some 1 else
 if s.data.toList=[51,53,53,47,49,49,51] then some 2 else if s.data.toList=[49,47,50] then some 5 else none
def BU:List (RE×List UInt8):=[(.v 0,[45,53,47,52]),(.v 1,[51,47,50]),(.v 3,[50,50,47,55]),(.v 4,[49,49,47,56]),(tC (.v 5),[51,47,53]),(tS (.v 5),[52,47,53]),(.add (.v 0) (.v 1),[49,47,52]),(.mul (.v 0) (.v 1),[45,49,53,47,56])]
section
variable (β:Nat→Rat)
def BF:Con (SQ β) where
 fn:=28
 app:=fun _ b args=>match args with
  | [.e (.s (.st s))]=>match xO s with
   | some i=>some (.t [.a (aO b),.s (.it .i64 0)],[.q b (.v i) 1])
   | none=>none
  | _=>none
def BD:Con (SQ β) where
 fn:=55
 app:=fun _ b args=>match args with
  | [.e (.s (.st s))]=>match xO s with
   | some i=>some (.e (.a (aO b)),[.q b (.v i) 1])
   | none=>none
  | _=>none
def BA:Con (SQ β) where
 fn:=56
 app:=fun db b args=>match args with
  | [.e (.a x),.e (.s (.it .i64 7))]=>match fF db x with
   | some (.v 2,_)=>some (.t [.a (aO b),.s (.it .i64 0)],[.q b (.v 3) 1])
   | _=>none
  | _=>none
def aRoot:Con (SQ β) where
 fn:=57
 app:=fun db b args=>match args with
  | [.e (.a x),.e (.s (.it .i64 3))]=>match fF db x with
   | some (.c 2,_)=>some (.t [.a (aO b),.s (.it .i64 0)],[.q b (.v 4) 1])
   | _=>none
  | _=>none
def aIs:Con (SQ β) where
 fn:=59
 app:=fun db _ args=>match args with
  | [.e (.a x),.e (.s (.st s))]=>match fF db x with
   | some (e,k)=>if decide (k≤K0) && BU.any (fun p=>p.1.beq e && decide (p.2=s.data.toList)) then some (.e (.s (.bl true)),[]) else none
   | none=>none
  | _=>none
end
section
variable {β:Nat→Rat}
theorem Iu (h:nJ β) {s:ByteArray} {i:Nat} (ht:xO s=some i):Fits 1 (β i)∧∀ W,EV W→Calls Tryz.prog 28 #[.string s] W (dS W (β i) 0):=by
 obtain ⟨h0,h1,h2,-,-,h5⟩:=h
 obtain ⟨⟨l⟩⟩:=s
 unfold xO at ht
 simp only at ht
 split at ht
 ·rename_i hl
  cases ht;subst hl;rw [h0]
  exact ⟨lG (by decide +kernel) (by decide +kernel),fun W hE=>Xp W hE⟩
 split at ht
 ·rename_i hl
  cases ht;subst hl;rw [h1]
  exact ⟨lG (by decide +kernel) (by decide +kernel),fun W hE=>p64 W hE⟩
 split at ht
 ·rename_i hl
  cases ht;subst hl;rw [h2]
  exact ⟨lG (by decide +kernel) (by decide +kernel),fun W hE=>Xq W hE⟩
 split at ht
 ·rename_i hl
  cases ht;subst hl;rw [h5]
  exact ⟨lG (by decide +kernel) (by decide +kernel),fun W hE=>p12 W hE⟩
 ·cases ht
theorem P7 (h:nJ β):∀ p∈BU,iR (p.1.ev β)=p.2:=by
 obtain ⟨h0,h1,h2,h3,h4,h5⟩:=h
 have c1:((1:Int):Rat)=1:=rfl
 unfold BU
 simp only [List.forall_mem_cons,List.not_mem_nil,false_imp_iff,implies_true,and_true,RE.ev,tC,tS,h0,h1,h3,h4,h5,c1]
 exact ⟨by decide +kernel,by decide +kernel,by decide +kernel,by decide +kernel,by decide +kernel,by decide +kernel,by decide +kernel,by decide +kernel⟩
theorem O9 (h:nJ β):(BF β).Ok Tryz.prog (SQ β) EV:=by
 refine Con.ok0 rfl ?_
 intro db b args res new ha ρ W hf hE
 simp only [BF] at ha
 split at ha
 ·split at ha
  ·rename_i i ht
   cases ha
   obtain ⟨h1,h2⟩:=Iu h ht
   exact su (e:=.v i) (h2 W hE) h1
  ·cases ha
 ·cases ha
theorem O8 (h:nJ β):(BD β).Ok Tryz.prog (SQ β) EV:=by
 refine Con.ok0 rfl ?_
 intro db b args res new ha ρ W hf hE
 simp only [BD] at ha
 split at ha
 ·rename_i s
  split at ha
  ·rename_i i ht
   cases ha
   obtain ⟨h1,h2⟩:=Iu h ht
   obtain ⟨⟨l⟩⟩:=s
   exact vH (e:=.v i) (Xf l (β i) 0 W (hid fun W' hb=>h2 W' (Env.below hE hb (Nat.le_refl _)))) h1
  ·cases ha
 ·cases ha
theorem O7 (h:nJ β):(BA β).Ok Tryz.prog (SQ β) EV:=by
 refine Con.ok0 rfl ?_
 intro db b args res new ha ρ W hf hE
 simp only [BA] at ha
 split at ha
 ·split at ha
  ·rename_i hx
   cases ha
   obtain ⟨⟨h1,h2⟩,-⟩:=iC hx hf
   rw [show (RE.v 2).ev β=mkRat 355 113 from h.2.2.1] at h1
   have hv:(RE.v 3).ev β=mkRat 22 7:=h.2.2.2.1
   exact su (e:=.v 3) (by rw [hv];exact WT _ W h1 hE) (by rw [hv];exact lG (by decide +kernel) (by decide +kernel))
  ·cases ha
 ·cases ha
theorem Pg (h:nJ β):(aRoot β).Ok Tryz.prog (SQ β) EV:=by
 refine Con.ok0 rfl ?_
 intro db b args res new ha ρ W hf hE
 simp only [aRoot] at ha
 split at ha
 ·split at ha
  ·rename_i hx
   cases ha
   obtain ⟨⟨h1,h2⟩,-⟩:=iC hx hf
   have hv:(RE.v 4).ev β=mkRat 11 8:=h.2.2.2.2.1
   exact su (e:=.v 4) (by rw [hv];exact Yq _ W h1 hE) (by rw [hv];exact lG (by decide +kernel) (by decide +kernel))
  ·cases ha
 ·cases ha
theorem O6 (h:nJ β):(aIs β).Ok Tryz.prog (SQ β) EV:=by
 refine Con.ok0 rfl ?_
 intro db b args res new ha ρ W hf hE
 simp only [aIs] at ha
 split at ha
 ·rename_i x s
  split at ha
  ·rename_i e k hx
   split at ha
   ·rename_i hh
    simp only [Bool.and_eq_true,decide_eq_true_eq] at hh
    cases ha
    obtain ⟨⟨h1,h2⟩,-⟩:=iC hx hf
    obtain ⟨p,hp,hq⟩:=List.any_eq_true.1 hh.2
    simp only [Bool.and_eq_true,decide_eq_true_eq] at hq
    have ht:=P7 h p hp
    rw [RE.beq_eq hq.1,hq.2] at ht
    obtain ⟨⟨l⟩⟩:=s
    have hc:=Vl l _ _ k W h1 hh.1 h2 hE
    rw [show iR (e.ev β)=l from ht,beq_self_eq_true] at hc
    exact lW hc rfl
   ·cases ha
  ·cases ha
 ·cases ha
def aw (β:Nat→Rat):List (Con (SQ β)):=BF β :: BD β :: BA β :: aRoot β :: aIs β :: yj β :: cq β {}
theorem P9 (β:Nat→Rat):isB true (bg Tryz.prog (SQ β) (HQ β {} (bP β)) (aw β) 1 27 [] [] 0)=true:=by kernel_rfl
theorem P8 {W:World} (hE:EV W):Calls Tryz.prog 27 #[] W (aX W (.bool true)):=by
 obtain ⟨β,h⟩:∃ β,nJ β:=⟨bet [mkRat (-5) 4,mkRat 3 2,mkRat 355 113,mkRat 22 7,mkRat 11 8,mkRat 1 2],rfl,rfl,rfl,rfl,rfl,rfl⟩
 refine YL (β:=β) (ρ:=ev []) (args:=[]) (fs:=[]) (cons:=aw _) ?_ (P9 _) hE (fun g hg=>by cases hg)
 unfold aw
 simp only [List.forall_mem_cons]
 exact ⟨O9 h,O8 h,O7 h,Pg h,O6 h,Rk,DY (bP _)⟩
end
section
variable (β:Nat→Rat) (h:Hint)
def xZ:Con (SQ β) where
 fn:=27
 app:=fun _ _ args=>match args with
  | []=>some (.e (.s (.bl true)),[])
  | _=>none
def cl:List (Con (SQ β)):=xZ β :: (cq β h ++ cl1 β)
end
theorem CS {β:Nat→Rat}:(xZ β).Ok Tryz.prog (SQ β) EV:=by
 refine Con.ok0 rfl ?_
 intro db b args res new ha ρ W hf hE
 simp only [xZ] at ha
 split at ha
 ·cases ha
  exact lW (P8 hE) rfl
 ·cases ha
end Rx
end Go.Proofs.YtancpaiaoamjlaaGreatDoor
