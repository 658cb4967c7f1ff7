/- What the proof rests on, part 34. -/
import Derived.Test.YthalajpklaodkaaGreatDoorQ33
import Derived.Test.YthalajpklaodkaaGreatDoorQ26
import Derived.Test.YthalajpklaodkaaGreatDoorQ32
import Derived.Test.YthalajpklaodkaaGreatDoorQ30
import Derived.Test.YthalajpklaodkaaGreatDoorQ22
import Derived.Test.YthalajpklaodkaaGreatDoorQ29
import Derived.Test.YthalajpklaodkaaGreatDoorQ31
namespace Go.Proofs.YthalajpklaodkaaGreatDoor
set_option maxRecDepth 100000
set_option maxHeartbeats 80000000
section
open Go.RowKit Go.Sort
attribute [local go_sem] takes gK gJ gI
theorem Y8 (l s top bottom:List UInt8) (w:World) (hl:l.length≤1000) (hs:Lib.trimPrefix l [45]=s) (hneg:Lib.hasPrefix l [45]=true) (hc:Lib.cut s [47]=(s,[],false)) (hc2:Lib.cut s [46]=(top,bottom,true)) (h1:oP top=true) (h2:(bottom != [] && bottom.all bU)=true) (hsl:s.length≤1000) (htl:top.length≤1000) (hbl:bottom.length≤1000) (hE:Env w) :
  Calls Tryz.prog 112 #[.string ⟨l.toArray⟩] w (cO w (mkRat (zs (!(dv (top ++ bottom) == 0)) (dv (top ++ bottom))) (10 ^ bottom.length)) 0):=by
 have HC:=hid (fun (W:World)=>JH l W)
 have HU:=hid (fun (W:World) (hM:nD W)=>Ew s 47 W (by omega) hM)
 have HV:=hid (fun (W:World) (hM:nD W)=>Ew s 46 W (by omega) hM)
 rw [hs,hneg] at HC
 rw [hc] at HU
 rw [hc2] at HV
 have HI1:=hid (fun (W:World)=>EZ top W (by omega))
 rw [h1] at HI1
 have HI2:=hid (fun (W:World)=>KX bottom W (by omega))
 rw [h2] at HI2
 have a1:top.all bU=true:=by simp only [oP,Bool.and_eq_true] at h1;exact h1.1.2
 have a2:bottom.all bU=true:=by simp only [Bool.and_eq_true] at h2;exact h2.2
 have a3:(top ++ bottom).all bU=true:=by rw [List.all_append,a1,a2];rfl
 have HM1:=hid (fun (W:World)=>Ad top W a1 (by omega))
 have happ:(⟨top.toArray⟩:ByteArray) ++ ⟨bottom.toArray⟩=⟨(top ++ bottom).toArray⟩:=by apply ByteArray.ext;simp
 have HM2:=hid (fun (W:World)=>Ad (top ++ bottom) W a3 (by rw [List.length_append];omega))
 rw [← happ] at HM2
 obtain ⟨K,hK⟩:∃ K,K=3020:=⟨_,rfl⟩
 have b1:dv (top ++ bottom)<B64 ^ K:=Nat.lt_trans (sS _ a3) (pJ (by rw [List.length_append];omega))
 have b2:10 ^ bottom.length<B64 ^ K:=pJ (by omega)
 have b3:10 ^ bottom.length≠0:=Nat.pos_iff_ne_zero.1 (Nat.pow_pos (by decide))
 have HP:=hid (fun (W:World)=>Nl bottom.length K W b2 (by omega))
 obtain ⟨n,hn⟩:∃ n,dv (top ++ bottom)=n:=⟨_,rfl⟩
 obtain ⟨m,hm⟩:∃ m,10 ^ bottom.length=m:=⟨_,rfl⟩
 obtain ⟨n0,hn0⟩:∃ n0,dv top=n0:=⟨_,rfl⟩
 rw [hn0] at HM1
 rw [hn] at HM2 b1 ⊢
 rw [hm] at HP b2 b3 ⊢
 have HR:=hid (fun (c d e f:Value) (W:World) (i1:ah W c d n) (i2:ah W e f m) (hT:Tab W)=>AX (!(n == 0)) c d e f n m K W i1 i2 b3 (by omega) b1 b2 hT)
 have z1:(m == 0)=false:=by simpa using b3
 have HE:=hid hE
 obtain ⟨z,hz⟩:∃ z,(n == 0)=z:=⟨_,rfl⟩
 have HZ:=hid (fun (W:World) (c d:Value) (h:ah W c d n)=>hz ▸ dO c d n W h)
 have HZ2:=hid (fun (W:World) (c d:Value) (h:ah W c d m)=>z1 ▸ dO c d m W h)
 rw [hz] at HR ⊢
 obtain ⟨R,hR⟩:∃ R,mkRat (zs (!z) n) m=R:=⟨_,rfl⟩
 rw [hR] at HR ⊢
 clear happ hR hs hneg hc hc2 h1 h2 hsl hE a1 a2 a3 hK b1 b2 b3 hn hm hn0 hz z1
 go_enter Tryz.func112,Tryz.ntmps112
 go_wp2_with fail
 have hS0:=hid ((St.start w).alloc' (w.heap.size) (by simp) 32 z5)
 obtain ⟨W0,hW0⟩:=bI hS0
 rw [hW0] at hS0 ⊢
 clear hW0
 refine (HC.out _).mono ?_
 rintro e w1 ⟨rfl,hB⟩
 have hS1:=hid (hS0.out.call hB)
 clear hB
 clear hS0
 go_wp2_with fail
 refine (HU.out _ (HE.out.below hS1.out.bel (Nat.le_refl _)).max).mono ?_
 rintro e w2 ⟨rfl,hB⟩
 have hS2:=hid (hS1.out.call hB)
 clear hB
 clear hS1
 go_wp2_with fail
 refine (HV.out _ (HE.out.below hS2.out.bel (Nat.le_refl _)).max).mono ?_
 rintro e w2b ⟨rfl,hB⟩
 have hS3:=hid (hS2.out.call hB)
 clear hB
 clear hS2
 go_wp2_with fail
 refine (HI1.out _).mono ?_
 rintro e w9 ⟨rfl,rfl⟩
 go_wp2_with fail
 refine (HI2.out _).mono ?_
 rintro e w9 ⟨rfl,rfl⟩
 go_wp2_with fail
 refine (HM1.out _).mono ?_
 rintro e w3 ⟨c1,d1,rfl,hm1,hB⟩
 have hS4:=hid (hS3.out.call hB)
 clear hB
 clear hS3
 obtain ⟨x1,p1,l1,q1,rfl,rfl⟩:=hm1.shape
 have hS5:=hid (hS4.out.fact (.m (.int .u64 x1) (.slice p1 l1 q1) (n0)) hm1)
 clear hS4 hm1
 obtain ⟨ne1l,ne1,ne1'⟩:=hS5.out.ne 0 w.heap.size 32 z5 rfl
 go_wp2_with fail
 have hS6:=hid (((hS5.out).alloc' (w3.heap.size) (by simp) 28 [.int .u64 x1,.slice p1 l1 q1]).alloc' (w3.heap.size+1) (by simp) 28 [.int .u64 1,.slice none 0 0])
 obtain ⟨W3,hW3⟩:=bI hS6
 rw [hW3] at hS6 ⊢
 clear hW3
 obtain ⟨⟨cs0,cs1⟩,fs0,fs1⟩:=hS6.out.f2 1 w3.heap.size 28 (.int .u64 x1) (.slice p1 l1 q1) rfl
 obtain ⟨⟨cu0,cu1⟩,fu0,fu1⟩:=hS6.out.f2 0 (w3.heap.size+1) 28 (.int .u64 1) (.slice none 0 0) rfl
 go_wp2_with fail
 clear cs0 cs1 fs0 fs1 cu0 cu1 fu0 fu1
 refine (HM2.out _).mono ?_
 rintro e w4 ⟨c2,d2,rfl,hm2,hB⟩
 have hS7:=hid (hS6.out.call hB)
 clear hB
 clear hS6
 obtain ⟨x2,p2,l2,q2,rfl,rfl⟩:=hm2.shape
 have hS8:=hid (hS7.out.fact (.m (.int .u64 x2) (.slice p2 l2 q2) (n)) hm2)
 clear hS7 hm2
 go_wp2_with fail
 refine (HP.out _).mono ?_
 rintro e w5 ⟨c3,d3,rfl,hm3,hB⟩
 have hS9:=hid (hS8.out.call hB)
 clear hB
 clear hS8
 obtain ⟨x3,p3,l3,q3,rfl,rfl⟩:=hm3.shape
 have hS10:=hid (hS9.out.fact (.m (.int .u64 x3) (.slice p3 l3 q3) (m)) hm3)
 clear hS9 hm3
 obtain ⟨⟨cs0,cs1⟩,fs0,fs1⟩:=hS10.out.f2 1 w3.heap.size 28 (.int .u64 x1) (.slice p1 l1 q1) rfl
 obtain ⟨⟨cu0,cu1⟩,fu0,fu1⟩:=hS10.out.f2 0 (w3.heap.size+1) 28 (.int .u64 1) (.slice none 0 0) rfl
 go_wp2_with fail
 clear cs0 cs1 fs0 fs1 cu0 cu1 fu0 fu1
 have hS11:=hid ((((((hS10.out).store (b:=⟨w3.heap.size,28,[.int .u64 x1,.slice p1 l1 q1]⟩) 1 0 (.int .u64 x2) rfl rfl).store (b:=⟨w3.heap.size,28,[.int .u64 x2,.slice p1 l1 q1]⟩) 1 1 (.slice p2 l2 q2) rfl rfl).store (b:=⟨w3.heap.size+1,28,[.int .u64 1,.slice none 0 0]⟩) 0 0 (.int .u64 x3) rfl rfl).store (b:=⟨w3.heap.size+1,28,[.int .u64 x3,.slice none 0 0]⟩) 0 1 (.slice p3 l3 q3) rfl rfl).as [⟨w3.heap.size+1,28,[.int .u64 x3,.slice p3 l3 q3]⟩,⟨w3.heap.size,28,[.int .u64 x2,.slice p2 l2 q2]⟩,⟨w.heap.size,32,z5⟩] rfl)
 obtain ⟨W5,hW5⟩:=bI hS11
 rw [hW5] at hS11 ⊢
 clear hW5
 refine (HZ2.out _ _ _ (hS11.out.get (f:=.m (.int .u64 x3) (.slice p3 l3 q3) (m)) 0 rfl)).mono ?_
 rintro e w6 ⟨rfl,hB⟩
 have hS12:=hid (hS11.out.call hB)
 clear hB
 clear hS11
 obtain ⟨⟨cs0,cs1⟩,fs0,fs1⟩:=hS12.out.f2 1 w3.heap.size 28 (.int .u64 x2) (.slice p2 l2 q2) rfl
 obtain ⟨⟨cu0,cu1⟩,fu0,fu1⟩:=hS12.out.f2 0 (w3.heap.size+1) 28 (.int .u64 x3) (.slice p3 l3 q3) rfl
 go_wp2_with fail
 clear cs0 cs1 fs0 fs1 cu0 cu1 fu0 fu1
 have LM0:=hid (fun (W:World) (h:Below w6.heap.size w6 W)=>((hS12.out.call h).f2 1 w3.heap.size 28 (.int .u64 x2) (.slice p2 l2 q2) rfl).1)
 have LM1:=hid (fun (W:World) (h:Below w6.heap.size w6 W)=>((hS12.out.call h).f2 0 (w3.heap.size+1) 28 (.int .u64 x3) (.slice p3 l3 q3) rfl).1)
 have LM2:=hid (fun (W:World) (h:Below w6.heap.size w6 W)=>HE.out.below (hS12.out.call h).bel (Nat.le_refl _))
 refine jk 10 [⟨[],[0]⟩,⟨[0],[1]⟩,⟨[1],[2]⟩,⟨[2,1],[3]⟩,⟨[3,1],[4]⟩,⟨[1,4],[5]⟩,⟨[],[6]⟩,⟨[5,6],[7]⟩,⟨[],[8]⟩,⟨[7,8],[9]⟩]
  [oE (.bool true),oE (.bool true),oE (.agg #[.int .u64 x2,.slice p2 l2 q2]),oE (.bool z),oE (.bool (!z)),oE (.bool (!z)),oE (.agg #[.int .u64 x2,.slice p2 l2 q2]),oE (.agg #[.bool (!z),.int .u64 x2,.slice p2 l2 q2]),oE (.agg #[.int .u64 x3,.slice p3 l3 q3]),oQ (R)]
  (fun _ W=>Below w6.heap.size w6 W) (by kernel_rfl) (by kernel_rfl) ?hTW6 ?hZW6 ?hOW6 ?hEW6
 case hZW6=>exact (Below.refl _ _).drew
 case hTW6 =>
  simp only [List.forall_mem_cons,List.not_mem_nil,false_imp_iff,implies_true,and_true]
  exact ⟨bE,bE,bE,bE,bE,bE,bE,bE,bE,bQ⟩
 case hOW6 =>
  intro u
  simp only [List.take_succ_cons,List.take_zero,aI]
  repeat' (first | with_reducible exact gY | with_reducible refine gX ?_ ?_)
  ·intro W hS hF K hK
   go_simp
   exact hK _ _ (.refl _ _) hS rfl
  ·intro W hS hF K hK
   have h0:u 0=.bool true:=hF.1
   clear hF
   go_simp
   exact hK _ _ (.refl _ _) hS rfl
  ·intro W hS hF K hK
   have h1:u 1=.bool true:=hF.1
   have hcs:=LM0.out W hS
   clear hF
   go_simp
   exact hK _ _ (.refl _ _) hS rfl
  ·intro W hS hF K hK
   have h2:u 2=.agg #[.int .u64 x2,.slice p2 l2 q2]:=hF.1
   have h1:u 1=.bool true:=hF.2.1
   have sH:=hid (hS12.out.call hS)
   clear hF
   go_simp
   refine (HZ.out _ _ _ (sH.out.get (f:=.m (.int .u64 x2) (.slice p2 l2 q2) (n)) 1 rfl)).mono ?_
   rintro e wA ⟨rfl,hBA⟩
   exact ⟨_,rfl,hK _ _ hBA (hS.trans (hBA.mono hS.size)) rfl⟩
  ·intro W hS hF K hK
   have h3:u 3=.bool z:=hF.1
   have h1:u 1=.bool true:=hF.2.1
   clear hF
   go_simp
   exact hK _ _ (.refl _ _) hS rfl
  ·intro W hS hF K hK
   have h1:u 1=.bool true:=hF.1
   have h4:u 4=.bool (!z):=hF.2.1
   clear hF
   go_simp
   exact hK _ _ (.refl _ _) hS rfl
  ·intro W hS hF K hK
   have hcs:=LM0.out W hS
   go_simp
   exact hK _ _ (.refl _ _) hS rfl
  ·intro W hS hF K hK
   have h5:u 5=.bool (!z):=hF.1
   have h6:u 6=.agg #[.int .u64 x2,.slice p2 l2 q2]:=hF.2.1
   clear hF
   go_simp
   exact hK _ _ (.refl _ _) hS rfl
  ·intro W hS hF K hK
   have hcu:=LM1.out W hS
   go_simp
   exact hK _ _ (.refl _ _) hS rfl
  ·intro W hS hF K hK
   have h7:u 7=.agg #[.bool (!z),.int .u64 x2,.slice p2 l2 q2]:=hF.1
   have h8:u 8=.agg #[.int .u64 x3,.slice p3 l3 q3]:=hF.2.1
   have sH:=hid (hS12.out.call hS)
   clear hF
   go_simp
   refine (HR.out _ _ _ _ _ (sH.out.get (f:=.m (.int .u64 x2) (.slice p2 l2 q2) (n)) 1 rfl) (sH.out.get (f:=.m (.int .u64 x3) (.slice p3 l3 q3) (m)) 0 rfl) (LM2.out W hS).tz).mono ?_
   rintro e wA ⟨v,rfl,hv,hBA⟩
   exact ⟨_,rfl,hK _ _ hBA (hS.trans (hBA.mono hS.size)) hv⟩
 case hEW6 =>
  intro u W6 hS hF
  have hS13:=hid (hS12.out.call hS)
  have hv0:IsQ W6 (u 9) R:=hF.2.2.2.2.2.2.2.2.2.1
  clear hF hS
  obtain ⟨t9,x9,p9,l9,q9,y9,r9,s9,u9,e9⟩:=hv0.open
  have hv9:IsQ W6 (.agg #[.bool t9,.int .u64 x9,.slice p9 l9 q9,.int .u64 y9,.slice r9 s9 u9]) R:=e9 ▸ hv0
  clear hv0
  have hS14:=hid (hS13.out.fq hv9)
  clear hS13 hv9
  obtain ⟨⟨cR0,cR1,cR2,cR3,cR4⟩,fR0,fR1,fR2,fR3,fR4⟩:=hS14.out.f5 2 w.heap.size 32 (.bool false) (.int .u64 0) (.slice none 0 0) (.int .u64 0) (.slice none 0 0) rfl
  simp only [List.take_succ_cons,List.take_zero,aI,List.drop_succ_cons,List.drop_zero]
  have hS15:=hid (((((((hS14.out).store (b:=⟨w.heap.size,32,z5⟩) 2 0 (.bool t9) rfl rfl).store (b:=⟨w.heap.size,32,[.bool t9,.int .u64 0,.slice none 0 0,.int .u64 0,.slice none 0 0]⟩) 2 1 (.int .u64 x9) rfl rfl).store (b:=⟨w.heap.size,32,[.bool t9,.int .u64 x9,.slice none 0 0,.int .u64 0,.slice none 0 0]⟩) 2 2 (.slice p9 l9 q9) rfl rfl).store (b:=⟨w.heap.size,32,[.bool t9,.int .u64 x9,.slice p9 l9 q9,.int .u64 0,.slice none 0 0]⟩) 2 3 (.int .u64 y9) rfl rfl).store (b:=⟨w.heap.size,32,[.bool t9,.int .u64 x9,.slice p9 l9 q9,.int .u64 y9,.slice none 0 0]⟩) 2 4 (.slice r9 s9 u9) rfl rfl).as [⟨w3.heap.size+1,28,[.int .u64 x3,.slice p3 l3 q3]⟩,⟨w3.heap.size,28,[.int .u64 x2,.slice p2 l2 q2]⟩,⟨w.heap.size,32,(c5 t9 x9 p9 l9 q9 y9 r9 s9 u9)⟩] rfl)
  go_wp2_with fail
  clear cR0 cR1 cR2 cR3 cR4 fR0 fR1 fR2 fR3 fR4
  obtain ⟨⟨zR0,zR1,zR2,zR3,zR4⟩,-⟩:=hS15.out.f5 2 w.heap.size 32 (.bool t9) (.int .u64 x9) (.slice p9 l9 q9) (.int .u64 y9) (.slice r9 s9 u9) rfl
  exact bodyPost_ret (v:=.tuple #[.agg #[.bool t9,.int .u64 x9,.slice p9 l9 q9,.int .u64 y9,.slice r9 s9 u9],.int .i64 0]) (by simp [results,Tryz.results112,go_sem,zR0,zR1,zR2,zR3,zR4]) rfl ⟨_,rfl,(hS15.out.gq 0 rfl),hS15.out.bel⟩
end
section
open Go.RowKit Go.Sort
attribute [local go_sem] takes gK gJ gI
theorem YS (l:List UInt8) (r:Rat) (c:Int) (w:World) (H:Hid (∀ W,Below w.heap.size w W→Calls Tryz.prog 112 #[.string ⟨l.toArray⟩] W (cO W r c))) :
  Calls Tryz.prog 81 #[.string ⟨l.toArray⟩] w (aY w r):=by
 go_enter Tryz.func81,Tryz.ntmps81
 go_wp2_with fail
 have hS0:=hid ((St.start w).alloc' (w.heap.size) (by simp) 32 z5)
 obtain ⟨W0,hW0⟩:=bI hS0
 rw [hW0] at hS0 ⊢
 clear hW0
 refine (H.out _ hS0.out.bel).mono ?_
 rintro e w1 ⟨v1,rfl,hv1,hB⟩
 have hS1:=hid (hS0.out.call hB)
 clear hB
 clear hS0
 obtain ⟨t1,x1,p1,l1,q1,y1,r1,s1,u1,rfl⟩:=hv1.open
 have hS2:=hid (hS1.out.fq hv1)
 clear hS1 hv1
 obtain ⟨ne1l,ne1,ne1'⟩:=hS2.out.ne 0 w.heap.size 32 z5 rfl
 obtain ⟨⟨cR0,cR1,cR2,cR3,cR4⟩,fR0,fR1,fR2,fR3,fR4⟩:=hS2.out.f5 0 w.heap.size 32 (.bool false) (.int .u64 0) (.slice none 0 0) (.int .u64 0) (.slice none 0 0) rfl
 have hS3:=hid ((((((((hS2.out).store (b:=⟨w.heap.size,32,z5⟩) 0 0 (.bool t1) rfl rfl).store (b:=⟨w.heap.size,32,[.bool t1,.int .u64 0,.slice none 0 0,.int .u64 0,.slice none 0 0]⟩) 0 1 (.int .u64 x1) rfl rfl).store (b:=⟨w.heap.size,32,[.bool t1,.int .u64 x1,.slice none 0 0,.int .u64 0,.slice none 0 0]⟩) 0 2 (.slice p1 l1 q1) rfl rfl).store (b:=⟨w.heap.size,32,[.bool t1,.int .u64 x1,.slice p1 l1 q1,.int .u64 0,.slice none 0 0]⟩) 0 3 (.int .u64 y1) rfl rfl).store (b:=⟨w.heap.size,32,[.bool t1,.int .u64 x1,.slice p1 l1 q1,.int .u64 y1,.slice none 0 0]⟩) 0 4 (.slice r1 s1 u1) rfl rfl).alloc' (w1.heap.size) (by simp) 32 (c5 t1 x1 p1 l1 q1 y1 r1 s1 u1)).as [⟨w1.heap.size,32,(c5 t1 x1 p1 l1 q1 y1 r1 s1 u1)⟩,⟨w.heap.size,32,(c5 t1 x1 p1 l1 q1 y1 r1 s1 u1)⟩] rfl)
 go_wp2_with fail
 clear cR0 cR1 cR2 cR3 cR4 fR0 fR1 fR2 fR3 fR4
 obtain ⟨⟨zR0,zR1,zR2,zR3,zR4⟩,-⟩:=hS3.out.f5 1 w.heap.size 32 (.bool t1) (.int .u64 x1) (.slice p1 l1 q1) (.int .u64 y1) (.slice r1 s1 u1) rfl
 exact bodyPost_ret (v:=.agg #[.bool t1,.int .u64 x1,.slice p1 l1 q1,.int .u64 y1,.slice r1 s1 u1]) (by simp [results,Tryz.results81,go_sem,zR0,zR1,zR2,zR3,zR4]) rfl ⟨_,rfl,(hS3.out.gq 0 rfl),hS3.out.bel⟩
theorem Xe (l:List UInt8) (r:Rat) (v:Value) (k:Nat) (w:World) (h:IsQ w v r) (hk:k≤1073741824) (f:Fits k r) (hE:Env w) :
  Calls Tryz.prog 113 #[v,.string ⟨l.toArray⟩] w (aZ w (.bool (iO r == l))):=by
 have HX:=hid (fun (W:World) (v:Value) (h:IsQ W v r) (hT:dR W)=>IG r v k W h hk f hT)
 obtain ⟨D,hD⟩:∃ D,iO r=D:=⟨_,rfl⟩
 rw [hD] at HX ⊢
 obtain ⟨t1,x1,p1,l1,q1,y1,r1,s1,u1,rfl⟩:=h.open
 have HI:=hid (And.intro h hE)
 clear h hE hD f
 go_enter Tryz.func113,Tryz.ntmps113
 go_wp2_with fail
 have hS0:=hid ((St.start w).alloc' (w.heap.size) (by simp) 32 (c5 t1 x1 p1 l1 q1 y1 r1 s1 u1))
 obtain ⟨W0,hW0⟩:=bI hS0
 rw [hW0] at hS0 ⊢
 clear hW0
 have hi1:=HI.out.1.below hS0.out.bel
 have hS1:=hid (hS0.out.fq hi1)
 clear hS0 hi1
 refine (HX.out _ _ (hS1.out.gq 0 rfl) (HI.out.2.below hS1.out.bel (Nat.le_refl _)).ten).mono ?_
 rintro e w1 ⟨rfl,hB⟩
 have hS2:=hid (hS1.out.call hB)
 clear hB
 clear hS1
 go_wp2
 go_ret
 exact ⟨rfl,hS2.out.bel⟩
end
section
open Go.RowKit Go.Sort
theorem kV {k:Nat} {r:Rat} (h:decide (r.num.natAbs<B64 ^ k)=true) (h2:decide (r.den<B64 ^ k)=true):Fits k r:=⟨of_decide_eq_true h,of_decide_eq_true h2⟩
theorem Y6 (w:World) (hE:Env w):Calls Tryz.prog 112 #[.string ⟨#[45,49,46,50,53,48]⟩] w (cO w (mkRat (-5) 4) 0):=by
 have h:=Y8 [45,49,46,50,53,48] [49,46,50,53,48] [49] [50,53,48] w (by decide) (by decide +kernel) (by decide +kernel) (by decide +kernel) (by decide +kernel) (by decide +kernel) (by decide +kernel) (by decide) (by decide) (by decide) hE
 rwa [show mkRat (zs (!(dv ([49] ++ [50,53,48]) == 0)) (dv ([49] ++ [50,53,48]))) (10 ^ ([50,53,48]:List UInt8).length)=mkRat (-5) 4 from by decide +kernel] at h
theorem p64 (w:World) (hE:Env w):Calls Tryz.prog 112 #[.string ⟨#[54,47,52]⟩] w (cO w (mkRat 3 2) 0):=by
 have h:=Gi [54,47,52] [54,47,52] [54] [52] w (by decide) (by decide +kernel) (by decide +kernel) (by decide +kernel) (by decide +kernel) (by decide +kernel) (by decide +kernel) (by decide) (by decide) (by decide) hE
 rwa [show mkRat (zs false (dv [54])) (dv [52])=mkRat 3 2 from by decide +kernel] at h
theorem Y7 (w:World) (hE:Env w):Calls Tryz.prog 112 #[.string ⟨#[51,53,53,47,49,49,51]⟩] w (cO w (mkRat 355 113) 0):=by
 have h:=Gi [51,53,53,47,49,49,51] [51,53,53,47,49,49,51] [51,53,53] [49,49,51] w (by decide) (by decide +kernel) (by decide +kernel) (by decide +kernel) (by decide +kernel) (by decide +kernel) (by decide +kernel) (by decide) (by decide) (by decide) hE
 rwa [show mkRat (zs false (dv [51,53,53])) (dv [49,49,51])=mkRat 355 113 from by decide +kernel] at h
theorem p12 (w:World) (hE:Env w):Calls Tryz.prog 112 #[.string ⟨#[49,47,50]⟩] w (cO w (mkRat 1 2) 0):=by
 have h:=Gi [49,47,50] [49,47,50] [49] [50] w (by decide) (by decide +kernel) (by decide +kernel) (by decide +kernel) (by decide +kernel) (by decide +kernel) (by decide +kernel) (by decide) (by decide) (by decide) hE
 rwa [show mkRat (zs false (dv [49])) (dv [50])=mkRat 1 2 from by decide +kernel] at h
theorem ZN (v:Value) (w:World) (h:IsQ w v ((2:Int):Rat)) (hE:Env w):Calls Tryz.prog 49 #[v,.int .i64 3] w (cO w (mkRat 11 8) 0):=by
 have:=Iz ((2:Int):Rat) 128 3 (by decide) 8 (by decide +kernel) 128 (by decide +kernel) (by decide +kernel) (by decide +kernel) v 1 w h (by decide) (kV (by decide +kernel) (by decide +kernel)) (kV (by decide +kernel) (by decide +kernel)) (kV (by decide +kernel) (by decide +kernel)) (kV (by decide +kernel) (by decide +kernel)) hE
 refine this.mono ?_
 rintro e w' ⟨S,h1,h2,h3⟩
 have:S=11:=NR 128 S 11 h1 h2 (by decide) (by decide)
 subst this
 rwa [show (((11:Nat):Int):Rat) / 8=mkRat 11 8 from by decide +kernel] at h3
end
namespace Rx
open Go.RowKit
def ng (β:Nat→Rat):Prop:=β 0=mkRat (-5) 4∧β 1=mkRat 3 2∧β 2=mkRat 355 113∧β 3=mkRat 22 7∧β 4=mkRat 11 8∧β 5=mkRat 1 2
def xU (s:ByteArray):Option Nat:=
 if s.data.toList=[45,49,46,50,53,48] then some 0 else if s.data.toList=[54,47,52] then some 1 else
 if s.data.toList=[51,53,53,47,49,49,51] then some 2 else if s.data.toList=[49,47,50] then some 5 else none
def Dc:List (RE×List UInt8):=[(.v 0,[45,53,47,52]),(.v 1,[51,47,50]),(.v 3,[50,50,47,55]),(.v 4,[49,49,47,56]),(tC (.v 5),[51,47,53]),(tS (.v 5),[52,47,53]),(.add (.v 0) (.v 1),[49,47,52]),(.mul (.v 0) (.v 1),[45,49,53,47,56])]
section
variable (β:Nat→Rat)
def CP:Con (SQ β) where
 fn:=112
 app:=fun _ b args=>match args with
  | [.e (.s (.st s))]=>match xU s with
   | some i=>some (.t [.a (aK b),.s (.it .i64 0)],[.q b (.v i) 1])
   | none=>none
  | _=>none
def CO:Con (SQ β) where
 fn:=81
 app:=fun _ b args=>match args with
  | [.e (.s (.st s))]=>match xU s with
   | some i=>some (.e (.a (aK b)),[.q b (.v i) 1])
   | none=>none
  | _=>none
def CJ:Con (SQ β) where
 fn:=48
 app:=fun db b args=>match args with
  | [.e (.a x),.e (.s (.it .i64 7))]=>match dD db x with
   | some (.v 2,_)=>some (.t [.a (aK b),.s (.it .i64 0)],[.q b (.v 3) 1])
   | _=>none
  | _=>none
def aRoot:Con (SQ β) where
 fn:=49
 app:=fun db b args=>match args with
  | [.e (.a x),.e (.s (.it .i64 3))]=>match dD db x with
   | some (.c 2,_)=>some (.t [.a (aK b),.s (.it .i64 0)],[.q b (.v 4) 1])
   | _=>none
  | _=>none
def aIs:Con (SQ β) where
 fn:=113
 app:=fun db _ args=>match args with
  | [.e (.a x),.e (.s (.st s))]=>match dD db x with
   | some (e,k)=>if decide (k≤K0) && Dc.any (fun p=>p.1.beq e && decide (p.2=s.data.toList)) then some (.e (.s (.bl true)),[]) else none
   | none=>none
  | _=>none
end
section
variable {β:Nat→Rat}
theorem I8 (h:ng β) {s:ByteArray} {i:Nat} (ht:xU s=some i):Fits 1 (β i)∧∀ W,EV W→Calls Tryz.prog 112 #[.string s] W (cO W (β i) 0):=by
 obtain ⟨h0,h1,h2,-,-,h5⟩:=h
 obtain ⟨⟨l⟩⟩:=s
 unfold xU at ht
 simp only at ht
 split at ht
 ·rename_i hl
  cases ht;subst hl;rw [h0]
  exact ⟨kV (by decide +kernel) (by decide +kernel),fun W hE=>Y6 W hE⟩
 split at ht
 ·rename_i hl
  cases ht;subst hl;rw [h1]
  exact ⟨kV (by decide +kernel) (by decide +kernel),fun W hE=>p64 W hE⟩
 split at ht
 ·rename_i hl
  cases ht;subst hl;rw [h2]
  exact ⟨kV (by decide +kernel) (by decide +kernel),fun W hE=>Y7 W hE⟩
 split at ht
 ·rename_i hl
  cases ht;subst hl;rw [h5]
  exact ⟨kV (by decide +kernel) (by decide +kernel),fun W hE=>p12 W hE⟩
 ·cases ht
theorem QJ (h:ng β):∀ p∈Dc,iO (p.1.ev β)=p.2:=by
 obtain ⟨h0,h1,h2,h3,h4,h5⟩:=h
 have c1:((1:Int):Rat)=1:=rfl
 unfold Dc
 simp only [List.forall_mem_cons,List.not_mem_nil,false_imp_iff,implies_true,and_true,RE.ev,tC,tS,h0,h1,h3,h4,h5,c1]
 exact ⟨by decide +kernel,by decide +kernel,by decide +kernel,by decide +kernel,by decide +kernel,by decide +kernel,by decide +kernel,by decide +kernel⟩
theorem Qd (h:ng β):(CP β).Ok Tryz.prog (SQ β) EV:=by
 refine Con.ok0 rfl ?_
 intro db b args res new ha ρ W hf hE
 simp only [CP] at ha
 split at ha
 ·split at ha
  ·rename_i i ht
   cases ha
   obtain ⟨h1,h2⟩:=I8 h ht
   exact qj (e:=.v i) (h2 W hE) h1
  ·cases ha
 ·cases ha
theorem Qc (h:ng β):(CO β).Ok Tryz.prog (SQ β) EV:=by
 refine Con.ok0 rfl ?_
 intro db b args res new ha ρ W hf hE
 simp only [CO] at ha
 split at ha
 ·rename_i s
  split at ha
  ·rename_i i ht
   cases ha
   obtain ⟨h1,h2⟩:=I8 h ht
   obtain ⟨⟨l⟩⟩:=s
   exact vF (e:=.v i) (YS l (β i) 0 W (hid fun W' hb=>h2 W' (Env.below hE hb (Nat.le_refl _)))) h1
  ·cases ha
 ·cases ha
theorem Qb (h:ng β):(CJ β).Ok Tryz.prog (SQ β) EV:=by
 refine Con.ok0 rfl ?_
 intro db b args res new ha ρ W hf hE
 simp only [CJ] at ha
 split at ha
 ·split at ha
  ·rename_i hx
   cases ha
   obtain ⟨⟨h1,h2⟩,-⟩:=eY hx hf
   rw [show (RE.v 2).ev β=mkRat 355 113 from h.2.2.1] at h1
   have hv:(RE.v 3).ev β=mkRat 22 7:=h.2.2.2.1
   exact qj (e:=.v 3) (by rw [hv];exact Ym _ W h1 hE) (by rw [hv];exact kV (by decide +kernel) (by decide +kernel))
  ·cases ha
 ·cases ha
theorem Qe (h:ng β):(aRoot β).Ok Tryz.prog (SQ β) EV:=by
 refine Con.ok0 rfl ?_
 intro db b args res new ha ρ W hf hE
 simp only [aRoot] at ha
 split at ha
 ·split at ha
  ·rename_i hx
   cases ha
   obtain ⟨⟨h1,h2⟩,-⟩:=eY hx hf
   have hv:(RE.v 4).ev β=mkRat 11 8:=h.2.2.2.2.1
   exact qj (e:=.v 4) (by rw [hv];exact ZN _ W h1 hE) (by rw [hv];exact kV (by decide +kernel) (by decide +kernel))
  ·cases ha
 ·cases ha
theorem Qa (h:ng β):(aIs β).Ok Tryz.prog (SQ β) EV:=by
 refine Con.ok0 rfl ?_
 intro db b args res new ha ρ W hf hE
 simp only [aIs] at ha
 split at ha
 ·rename_i x s
  split at ha
  ·rename_i e k hx
   split at ha
   ·rename_i hh
    simp only [Bool.and_eq_true,decide_eq_true_eq] at hh
    cases ha
    obtain ⟨⟨h1,h2⟩,-⟩:=eY hx hf
    obtain ⟨p,hp,hq⟩:=List.any_eq_true.1 hh.2
    simp only [Bool.and_eq_true,decide_eq_true_eq] at hq
    have ht:=QJ h p hp
    rw [RE.beq_eq hq.1,hq.2] at ht
    obtain ⟨⟨l⟩⟩:=s
    have hc:=Xe l _ _ k W h1 hh.1 h2 hE
    rw [show iO (e.ev β)=l from ht,beq_self_eq_true] at hc
    exact nK hc rfl
   ·cases ha
  ·cases ha
 ·cases ha
def aw (β:Nat→Rat):List (Con (SQ β)):=CP β :: CO β :: CJ β :: aRoot β :: aIs β :: yF β :: cq β {}
theorem QL (β:Nat→Rat):isB true (aN Tryz.prog (SQ β) (HQ β {} (aV β)) (aw β) 1 32 [] [] 0)=true:=by kernel_rfl
theorem QK {W:World} (hE:EV W):Calls Tryz.prog 32 #[] W (aZ W (.bool true)):=by
 obtain ⟨β,h⟩:∃ β,ng β:=⟨bet [mkRat (-5) 4,mkRat 3 2,mkRat 355 113,mkRat 22 7,mkRat 11 8,mkRat 1 2],rfl,rfl,rfl,rfl,rfl,rfl⟩
 refine aa7 (β:=β) (ρ:=ev []) (args:=[]) (fs:=[]) (cons:=aw _) ?_ (QL _) hE (fun g hg=>by cases hg)
 unfold aw
 simp only [List.forall_mem_cons]
 exact ⟨Qd h,Qc h,Qb h,Qe h,Qa h,JC,yK (aV _)⟩
end
section
variable (β:Nat→Rat) (h:Hint)
def yj:Con (SQ β) where
 fn:=32
 app:=fun _ _ args=>match args with
  | []=>some (.e (.s (.bl true)),[])
  | _=>none
def cl:List (Con (SQ β)):=yj β :: (cq β h ++ cl1 β)
end
theorem RF {β:Nat→Rat}:(yj β).Ok Tryz.prog (SQ β) EV:=by
 refine Con.ok0 rfl ?_
 intro db b args res new ha ρ W hf hE
 simp only [yj] at ha
 split at ha
 ·cases ha
  exact nK (QK hE) rfl
 ·cases ha
end Rx
namespace Rx
open Go.RowKit
abbrev hv (n d b:Int):List Value:=[.int .i64 n,.int .i64 d,.int .u8 b]
def OZ (a b c d:RE):RE:=.sub (.mul c a) (.mul d b)
def ab1 (a b c d:RE):RE:=.sub (.mul a c) (.mul b d)
abbrev C1:RE:=tC (.v 0)
abbrev S1:RE:=tS (.v 0)
abbrev C2:RE:=tC (.v 1)
abbrev S2:RE:=tS (.v 1)
abbrev wC:RE:=ab1 C1 S1 C2 S2
abbrev ax:RE:=OZ (.v 2) (.v 3) C1 S1
abbrev bx:RE:=OZ (.v 4) (.v 5) C1 S1
end Rx
section
open Go.ChangeShapes Go.WideShapes Go.ChangeAt Go.RowKit Go.Joins
section
variable {H:Type} {enc:TypeId×Value→H}
theorem NumIn.is {n d:Int} {b:Nat} (h:NumIn n d b):Rx.IsN n d (b:Int) (numOf n d b):=⟨b,rfl,h.b1,h.n1,h.n2,h.d1,h.d2,rfl⟩
end
end
namespace Rx
open Go.RowKit
def asS (db:List Fd):List Cell→Option (Bool×RE)
 | [.bl t,c]=>match asG db c with
  | some (e,_)=>some (t,e)
  | none=>none
 | _=>none
def Fp (t:Bool) (e e':RE):Option (SV×List Fd)→Bool
 | some (.t [.a x,.a y],fs)=>match asS fs x,asS fs y with
  | some (t1,e1),some (false,e2)=>t1 == t && e1.beq e && e2.beq e'
  | _,_=>false
 | _=>false
theorem WY {t:Bool} {e e':RE} {o:Option (SV×List Fd)} (h:Fp t e e' o=true):∃ x y fs,o=some (.t [.a x,.a y],fs)∧asS fs x=some (t,e)∧asS fs y=some (false,e'):=by
 unfold Fp at h
 split at h
 ·split at h
  ·rename_i x y fs _ _ t1 e1 e2 h1 h2
   simp only [Bool.and_eq_true,beq_iff_eq] at h
   exact ⟨x,y,fs,rfl,by rw [h1,h.1.1,RE.beq_eq h.1.2],by rw [h2,RE.beq_eq h.2]⟩
  ·cases h
 ·cases h
def Cj (w:World) (z z':Int) (e:Ending) (w':World):Prop:=∃ v v',e=.returned (.tuple #[v,v'])∧Z4.IsZ w' v z∧Z4.IsZ w' v' z'∧Below w.heap.size w w'
section
variable {a b:Int} {v1 v2:Value} {w:World}
theorem I7 {β:Nat→Rat} {ρ:Env} {W:World} {db:List Fd} {x:List Cell} {t:Bool} {e:RE} {z:Int} (h:asS db x=some (t,e)) (hf:∀ f∈db,(SR β).on ρ f W) (hz:∀ n:Nat,((n:Nat):Rat)=e.ev β→n=z.natAbs∧t=decide (z<0)):Z4.IsZ W (.agg (x.map (Cell.den ρ)).toArray) z:=by
 unfold asS at h
 split at h
 ·rename_i t' c
  split at h
  ·rename_i e' k hc
   cases h
   obtain ⟨xs,g1,g2,g3,g4,-⟩:=jT hc hf
   obtain ⟨h1,h2⟩:=hz _ g4
   obtain ⟨p,l,k,hp⟩:=g1.mk
   rw [hp] at g1
   exact ⟨p,l,k,xs,by rw [← h2];simp only [List.map_cons,List.map_nil,hp];rfl,g1,g2,g3,h1⟩
  ·cases h
 ·cases h
theorem GR {β:Nat→Rat} {h:Hint} (ok:h.Ok β) {fuel:Nat} {f:FuncId} {args:List SV} {fs:List Fd} {n0:Nat} {ρ:Env} {t:Bool} {e e':RE} {z z':Int} (hr:Fp t e e' (aN Tryz.prog (SR β) (HL β h ok) (cf β h) fuel f args fs n0)=true) (hE:EV w) (hf:∀ g∈fs,Fd.on β ρ g w)
  (hz:∀ n:Nat,((n:Nat):Rat)=e.ev β→n=z.natAbs∧t=decide (z<0)) (hz':∀ n:Nat,((n:Nat):Rat)=e'.ev β→n=z'.natAbs∧false=decide (z' < 0)):Calls Tryz.prog f (args.map (SV.den ρ)).toArray w (Cj w z z'):=by
 obtain ⟨x,y,fs',heq,hx,hy⟩:=WY hr
 refine (dJ mixed (Q5 ok) heq (bg hE) hf).mono fun _ W' ⟨ρ',_,he,hb,hfs⟩=>?_
 exact ⟨_,_,he,I7 hx hfs hz,I7 hy hfs hz',hb⟩
abbrev xq:RE:=.flo (.div x0 x1)
abbrev xr:RE:=rem x0 x1
theorem abC (h1:Z4.IsZ w v1 a) (h2:Z4.IsZ w v2 b) (ka:a.natAbs<B64 ^ K1) (kb:b.natAbs<B64 ^ K1) (hb:0<b) (hE:EV w):Calls Tryz.prog 118 #[v1,v2] w (Cj w (a / b) (a % b)):=by
 refine Hr h1 h2 ka kb fun ρ hg=>?_
 obtain ⟨β,hβ⟩:∃ β,β=bet [((a.natAbs:Nat):Rat),((b.natAbs:Nat):Rat)]:=⟨_,rfl⟩
 have e0:((a.natAbs:Nat):Rat)=RE.ev β x0:=by rw [hβ];rfl
 have e1:((b.natAbs:Nat):Rat)=RE.ev β x1:=by rw [hβ];rfl
 rw [← hβ] at hg
 clear hβ
 obtain ⟨n,hn⟩:∃ n,a.natAbs=n:=⟨_,rfl⟩
 obtain ⟨m,hm⟩:∃ m,b.natAbs=m:=⟨_,rfl⟩
 rw [hn] at e0
 rw [hm] at e1
 have hm0:0<m:=by omega
 have hq:=wP hm0 e0 e1
 have hr:=AY hm0 e0 e1
 have inj:∀ {x y:Nat},((x:Nat):Rat)=((y:Nat):Rat)→x=y:=fun h=>by exact_mod_cast h
 have hne:∀ {x:Nat},x≠0→((x:Nat):Rat)≠0:=fun h h0=>h (by exact_mod_cast h0)
 have hd:=Nat.div_add_mod n m
 have hlt:=Nat.mod_lt n hm0
 obtain ⟨q,hqe⟩:∃ q,n / m=q:=⟨_,rfl⟩
 obtain ⟨r,hre⟩:∃ r,n % m=r:=⟨_,rfl⟩
 rw [hqe] at hq hd
 rw [hre] at hr hd hlt
 have hdi:((n:Nat):Int)=(m:Int)*(q:Int)+(r:Int):=by exact_mod_cast hd.symm
 have nz1:RE.ev β x1≠0:=by rw [← e1];exact hne (by omega)
 have hbm:b=(m:Int):=by omega
 rw [decide_eq_false (show ¬ b<0 by omega),hbm]
 rcases Int.lt_or_le a 0 with ha | ha
 ·have han:a = -(n:Int):=by omega
  rw [decide_eq_true ha]
  by_cases h0:r=0
  ·have hp:0<q:=by
    rcases Nat.eq_zero_or_pos q with h | h
    ·rw [h,h0] at hd;omega
    ·exact h
   have ok:Hint.Ok β { nz:=[x1,xq],eq:=[(xr,.c 0)] }:=jv (fun p h=>by cases h) (fun p hp'=>by
    simp only [List.mem_cons,List.not_mem_nil,or_false] at hp'
    rcases hp' with rfl | rfl
    ·exact nz1
    ·rw [← hq];exact hne (by omega)) (fun p hp'=>by rw [List.mem_singleton] at hp';subst hp';rw [← hr,h0];rfl)
   have e:a / (m:Int) = -(q:Int)∧a % (m:Int)=0:=by
    have h3:a=(m:Int) * -(q:Int):=by rw [han,hdi,h0];grind
    rw [h3]
    exact ⟨Int.mul_ediv_cancel_left _ (by omega),Int.mul_emod_right _ _⟩
   rw [e.1,e.2]
   refine GR (t:=true) (e:=xq) (e':=.c 0) ok (fuel:=1) (n0:=2) (by kernel_rfl) hE hg (fun x hx=>?_) fun x hx=>?_
   ·have:=inj (hx.trans hq.symm)
    exact ⟨by omega,(decide_eq_true (by omega)).symm⟩
   ·have:x=0:=inj (hx.trans rfl)
    exact ⟨by omega,rfl⟩
  ·have ok:Hint.Ok β { cm:=[(x1,xr,1)],nz:=[x1,xr,.add xq (.c 1)] }:=jv (fun p hp=>by
    rw [List.mem_singleton] at hp;subst hp
    show aF (RE.ev β x1) (RE.ev β xr)=1
    rw [← e1,← hr,qo];unfold aC;rw [if_neg (by omega),if_neg (by omega)]) (fun p hp'=>by
    simp only [List.mem_cons,List.not_mem_nil,or_false] at hp'
    rcases hp' with rfl | rfl | rfl
    ·exact nz1
    ·rw [← hr];exact hne h0
    ·show RE.ev β xq+((1:Int):Rat)≠0
     rw [← hq,show ((1:Int):Rat)=((1:Nat):Rat) from rfl,← Rat.natCast_add];exact hne (by omega)) (fun p h=>by cases h)
   have e:a / (m:Int) = -((q+1:Nat):Int)∧a % (m:Int)=((m - r:Nat):Int):=by
    have h5:((m - r:Nat):Int)=(m:Int) - (r:Int):=by omega
    have h6:((q+1:Nat):Int)=(q:Int)+1:=by omega
    have h3:a=((m - r:Nat):Int)+(m:Int) * -((q+1:Nat):Int):=by
     rw [han,hdi,h5,h6]
     grind
    rw [h3,Int.add_mul_ediv_left _ _ (by omega),Int.add_mul_emod_self_left]
    rw [Int.ediv_eq_zero_of_lt (by omega) (by omega),Int.emod_eq_of_lt (by omega) (by omega)]
    exact ⟨by omega,rfl⟩
   rw [e.1,e.2]
   refine GR (t:=true) (e:=.add xq (.c 1)) (e':=.sub x1 xr) ok (fuel:=1) (n0:=2) (by kernel_rfl) hE hg (fun x hx=>?_) fun x hx=>?_
   ·have:x=q+1:=inj (by rw [hx,Rat.natCast_add,hq];rfl)
    exact ⟨by omega,(decide_eq_true (by omega)).symm⟩
   ·have:x=m - r:=by
     have h5:((x:Nat):Rat)=((m:Nat):Rat) - ((r:Nat):Rat):=by rw [hx,hr,e1];rfl
     have:=qP h5
     omega
    exact ⟨by omega,(decide_eq_false (by omega)).symm⟩
 ·have han:a=(n:Int):=by omega
  rw [decide_eq_false (show ¬ a<0 by omega)]
  have ok:Hint.Ok β { nz:=[x1] }:=jv (fun p h=>by cases h) (fun p hp=>by rw [List.mem_singleton] at hp;subst hp;exact nz1) (fun p h=>by cases h)
  rw [han,← Int.natCast_ediv,← Int.natCast_emod,hqe,hre]
  refine GR (t:=false) (e:=xq) (e':=xr) ok (fuel:=1) (n0:=2) (by kernel_rfl) hE hg (fun x hx=>?_) fun x hx=>?_
  ·have:=inj (hx.trans hq.symm)
   exact ⟨by omega,(decide_eq_false (by omega)).symm⟩
  ·have:=inj (hx.trans hr.symm)
   exact ⟨by omega,(decide_eq_false (by omega)).symm⟩
end
end Rx
namespace Rx
open Go.RowKit
section
variable (β:Nat→Rat) (h:Hint)
def yI:Con (SR β) where
 fn:=118
 app:=fun db b args=>match args with
  | [.e (.a x),.e (.a y)]=>match asY db x,asY db y with
   | some (e,k),some (e',k')=>if decide (k≤K1) && decide (k'≤K1) && jB e' then some (.t [.a (zC b),.a (zC (b+1))],[.z b (.flo (.div e e')) k,.z (b+1) (rem e e') k']) else none
   | _,_=>none
  | _=>none
end
def zV (e:RE):Option (SV×List Fd)→Bool
 | some (.e (.a cs),fs)=>match asY fs cs with
  | some (e',_)=>e'.beq e
  | none=>false
 | _=>false
theorem Lj {e:RE} {o:Option (SV×List Fd)} (h:zV e o=true):∃ cs fs k,o=some (.e (.a cs),fs)∧asY fs cs=some (e,k):=by
 unfold zV at h
 split at h
 ·split at h
  ·rename_i cs fs _ e' k ha;exact ⟨cs,fs,k,rfl,by rw [ha,RE.beq_eq h]⟩
  ·cases h
 ·cases h
section
variable {β:Nat→Rat} {h:Hint} {f:FuncId} {vals:Array Value} {W:World} {ρ:Env} {b:Nat}
theorem Oi {ok:h.Ok β} {cons:List (Con (SR β))} {fuel:Nat} {args:List SV} {fs:List Fd} {n0:Nat} {e:RE} {z:Int} (hc:∀ c∈cons,c.Ok Tryz.prog (SR β) EV) (hr:zV e (aN Tryz.prog (SR β) (HL β h ok) cons fuel f args fs n0)=true) (he:e.ev β=(z:Rat)) (hE:EV W) (hf:∀ g∈fs,Fd.on β ρ g W):Calls Tryz.prog f (args.map (SV.den ρ)).toArray W (Z4.dA W z):=by
 obtain ⟨cs,fs',k,heq,ha⟩:=Lj hr
 refine (dJ mixed hc heq (bg hE) hf).mono fun x W' ⟨ρ',_,hx,hb,hfs⟩=>?_
 exact ⟨_,hx,mg (jl ha hfs) he,hb⟩
theorem QC {z z':Int} {e e':RE} {k k':Nat} (hc:Calls Tryz.prog f vals W (Cj W z z')) (hz:(z:Rat)=e.ev β) (hz':(z':Rat)=e'.ev β) (hk:z.natAbs<B64 ^ k) (hk':z'.natAbs<B64 ^ k'):Calls Tryz.prog f vals W (Anr β ρ b W (.t [.a (zC b),.a (zC (b+1))]) [.z b e k,.z (b+1) e' k']):=by
 refine hc.mono fun _ W' ⟨v,v',he,hv,hv',hb⟩=>?_
 obtain ⟨p,l,c,xs,rfl,hx⟩:=hv
 obtain ⟨p',l',c',xs',rfl,hx'⟩:=hv'
 have h1:(zC b).map (Cell.den (aG ρ b [⟨decide (z<0),0,p,l,c,.empty,0,default⟩,⟨decide (z' < 0),0,p',l',c',.empty,0,default⟩]))=[.bool (decide (z<0)),.slice p l c]:=by simp [zC,Cell.den,aG]
 have h2:(zC (b+1)).map (Cell.den (aG ρ b [⟨decide (z<0),0,p,l,c,.empty,0,default⟩,⟨decide (z' < 0),0,p',l',c',.empty,0,default⟩]))=[.bool (decide (z' < 0)),.slice p' l' c']:=by simp [zC,Cell.den,aG]
 refine ⟨_,iE (b:=b) (L:=[⟨decide (z<0),0,p,l,c,.empty,0,default⟩,⟨decide (z' < 0),0,p',l',c',.empty,0,default⟩]) (by simp [M]),?_,hb,fun g hg=>?_⟩
 ·rw [he];simp only [SV.den,El.den,List.map_cons,List.map_nil,h1,h2]
 ·simp only [List.mem_cons,List.not_mem_nil,or_false] at hg
  rcases hg with rfl | rfl
  ·exact ⟨z,by rw [h1];exact ⟨p,l,c,xs,rfl,hx⟩,hz,hk⟩
  ·exact ⟨z',by rw [h2];exact ⟨p',l',c',xs',rfl,hx'⟩,hz',hk'⟩
theorem Ny (a:Int) (m:Nat) (hm:0<m):(a / (m:Int)).natAbs≤a.natAbs:=by
 have h1:=Int.mul_ediv_add_emod a m
 have h2:=Int.emod_nonneg a (show (m:Int)≠0 by omega)
 have h3:=Int.emod_lt_of_pos a (show (0:Int)<m by omega)
 rcases Int.lt_or_le a 0 with ha | ha
 ·have:a≤a / (m:Int):=by
   rw [Int.le_ediv_iff_mul_le (by omega)]
   have:a*(m:Int)≤a*1:=Int.mul_le_mul_of_nonpos_left (by omega) (by omega)
   omega
  have:a / (m:Int)<0:=Int.ediv_neg_of_neg_of_pos ha (by omega)
  omega
 ·have h4:a / (m:Int)≤a:=Int.ediv_le_self _ ha
  have:0≤a / (m:Int):=Int.ediv_nonneg ha (by omega)
  omega
theorem JF:(yI β).Ok Tryz.prog (SR β) EV:=by
 have pk:∀ {k:Nat},k≤K1→B64 ^ k≤B64 ^ K1:=fun h=>Nat.pow_le_pow_right (show 0<B64 by decide) h
 refine Con.ok0 rfl ?_
 intro db b args res new ha ρ W hf hE
 simp only [yI] at ha
 split at ha
 ·split at ha
  ·rename_i x y _ _ e k e' k' hx hy
   split at ha
   ·rename_i hk
    simp only [Bool.and_eq_true,decide_eq_true_eq] at hk
    cases ha
    obtain ⟨z,h1,h2,h3⟩:=jl hx hf
    obtain ⟨z',g1,g2,g3⟩:=jl hy hf
    have hp:0<z':=by
     have:=wJ (β:=β) hk.2
     rw [← g2] at this
     exact_mod_cast this
    obtain ⟨m,rfl⟩:∃ m:Nat,z' = (m:Int):=⟨z'.toNat,by omega⟩
    have hq:((z / (m:Int):Int):Rat)=(RE.flo (.div e e')).ev β:=by
     show _=((flo (e.ev β / e'.ev β):Int):Rat)
     rw [← h2,← g2,zk _ _ (by omega)]
    refine QC (e:=.flo (.div e e')) (e':=rem e e') (abC h1 g1 (Nat.lt_of_lt_of_le h3 (pk hk.1.1)) (Nat.lt_of_lt_of_le g3 (pk hk.1.2)) hp hE) hq ?_ (Nat.lt_of_le_of_lt (Ny _ _ (by omega)) h3) ?_
    ·show _=e.ev β - e'.ev β*(RE.flo (.div e e')).ev β
     rw [← hq,← h2,← g2,← Rat.intCast_mul]
     have h5:=congrArg (fun x:Int=>(x:Rat)) (Int.mul_ediv_add_emod z m)
     simp only [Rat.intCast_add] at h5
     grind
    ·have h6:=Int.emod_nonneg z (show (m:Int)≠0 by omega)
     have h7:=Int.emod_lt_of_pos z (show (0:Int)<m by omega)
     omega
   ·cases ha
  ·cases ha
 ·cases ha
theorem abQ {x y:Int} {v v':Value} (h1:Z4.IsZ W v x) (h2:Z4.IsZ W v' y) (ka:x.natAbs<B64 ^ K2) (kb:y.natAbs<B64 ^ K2) (hE:EV W):Calls Tryz.prog 120 #[v,v'] W (Z4.dA W (x - y)):=by
 obtain ⟨p,l,c,xs,rfl,hx⟩:=h1
 obtain ⟨p',l',c',xs',rfl,hx'⟩:=h2
 exact Oi (W:=W) (β:=bet [(x:Rat),(y:Rat)]) (ok:=aV _) (ρ:=ev [⟨decide (x<0),0,p,l,c,.empty,0,default⟩,⟨decide (y<0),0,p',l',c',.empty,0,default⟩]) (args:=[.e (.a (zC 0)),.e (.a (zC 1))]) (fs:=[.z 0 (.v 0) K2,.z 1 (.v 1) K2]) (e:=.add (.v 0) (.neg (.v 1))) (fuel:=1) (n0:=2) (jr (aV _)) (by kernel_rfl)
  (by show (x:Rat) + -(y:Rat)=_;rw [Rat.intCast_sub,Rat.sub_eq_add_neg]) hE fun g hg=>by
  simp only [List.mem_cons,List.not_mem_nil,or_false] at hg
  rcases hg with rfl | rfl
  ·exact ⟨x,⟨p,l,c,xs,rfl,hx⟩,rfl,ka⟩
  ·exact ⟨y,⟨p',l',c',xs',rfl,hx'⟩,rfl,kb⟩
end
def Eh (β:Nat→Rat):Con (SR β) where
 fn:=120
 app:=fun db b args=>match args with
  | [.e (.a x),.e (.a y)]=>match asY db x,asY db y with
   | some (e,k),some (e',k')=>if decide (k≤K2) && decide (k'≤K2) then some (.e (.a (zC b)),[.z b (.sub e e') (max k k' + 1)]) else none
   | _,_=>none
  | _=>none
theorem SG {β:Nat→Rat}:(Eh β).Ok Tryz.prog (SR β) EV:=by
 have pk:∀ {k k':Nat},k≤k'→B64 ^ k≤B64 ^ k':=fun h=>Nat.pow_le_pow_right (show 0<B64 by decide) h
 refine Con.ok0 rfl ?_
 intro db b args res new ha ρ W hf hE
 simp only [Eh] at ha
 split at ha
 ·split at ha
  ·rename_i x y _ _ e k e' k' hx hy
   split at ha
   ·rename_i hk
    simp only [Bool.and_eq_true,decide_eq_true_eq] at hk
    cases ha
    obtain ⟨z,h1,h2,h3⟩:=jl hx hf
    obtain ⟨z',g1,g2,g3⟩:=jl hy hf
    refine CW (e:=.sub e e') (abQ h1 g1 (Nat.lt_of_lt_of_le h3 (pk hk.1)) (Nat.lt_of_lt_of_le g3 (pk hk.2)) hE) (by rw [Rat.intCast_sub,h2,g2];rfl) ?_
    have a1:=pk (Nat.le_max_left k k')
    have a2:=pk (Nat.le_max_right k k')
    rw [Nat.pow_succ]
    have:B64 ^ max k k' * 2≤B64 ^ max k k' * B64:=Nat.mul_le_mul_left _ (by decide)
    omega
   ·cases ha
  ·cases ha
 ·cases ha
end Rx
namespace Rx
open Go.RowKit
end Rx
namespace Rx
open Go.RowKit
theorem Lm {n s:Nat} (h1:s*s≤n) (h2:n<(s+1)*(s+1)):s=isq n:=NR n s (isq n) h1 h2 (zW n).1 (zW n).2
section
variable {T:World→Prop} {β:Nat→Nat} {r:Rat}
end
theorem Ll {n K:Nat} (h:n<B64 ^ K):isq n<B64 ^ K:=Nat.lt_of_le_of_lt (by
 have h1:=(zW n).1
 rcases Nat.eq_zero_or_pos (isq n) with h0 | h0
 ·omega
 ·exact Nat.le_trans (Nat.le_mul_of_pos_right _ h0) h1) h
section
variable (β:Nat→Rat) (h:Hint)
def sq2 (e:RE):RE:=.mul (.rt e) (.rt e)
end
section
variable {β:Nat→Rat} {h:Hint} {f:FuncId} {vals:Array Value} {W:World} {ρ:Env} {b:Nat}
end
end Rx
end Go.Proofs.YthalajpklaodkaaGreatDoor
