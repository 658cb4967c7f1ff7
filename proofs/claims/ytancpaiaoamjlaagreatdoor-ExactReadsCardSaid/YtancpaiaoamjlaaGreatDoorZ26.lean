/- What the proof rests on, part 26. -/
import Derived.Test.YtancpaiaoamjlaaGreatDoorZ25
import Derived.Test.YtancpaiaoamjlaaGreatDoorZ22
import Derived.Test.YtancpaiaoamjlaaGreatDoorZ23
import Derived.Test.YtancpaiaoamjlaaGreatDoorZ21
import Derived.Test.YtancpaiaoamjlaaGreatDoorZ16
import Derived.Test.YtancpaiaoamjlaaGreatDoorZ17
namespace Go.Proofs.YtancpaiaoamjlaaGreatDoor
set_option maxRecDepth 100000
set_option maxHeartbeats 80000000
section
instance fitsDec (k:Nat) (r:Rat):Decidable (Fits k r):=inferInstanceAs (Decidable (_∧_))
theorem uw:Hr (mkRat 355 113) 7 2 1 0 (mkRat 22 7) 3 where
 m1:=by decide
 m2:=by decide
 hk:=by decide
 den:=by decide +kernel
 fd:=by decide +kernel
 fm:=by decide +kernel
 fa:=by decide +kernel
 step:=fun i hi=>by
  rcases (show i=0∨i=1∨i=2 by omega) with rfl | rfl | rfl
  ·exact ⟨by decide +kernel,by decide +kernel,by decide +kernel,by decide +kernel,by decide +kernel,by decide +kernel,by decide +kernel,by decide +kernel,by decide +kernel,by decide +kernel,by decide +kernel,by decide +kernel,by decide +kernel⟩
  ·exact ⟨by decide +kernel,by decide +kernel,by decide +kernel,by decide +kernel,by decide +kernel,by decide +kernel,by decide +kernel,by decide +kernel,by decide +kernel,by decide +kernel,by decide +kernel,by decide +kernel,by decide +kernel⟩
  ·exact ⟨by decide +kernel,by decide +kernel,by decide +kernel,by decide +kernel,by decide +kernel,by decide +kernel,by decide +kernel,by decide +kernel,by decide +kernel,by decide +kernel,by decide +kernel,by decide +kernel,by decide +kernel⟩
 q0:=by decide +kernel
 d1:=by decide +kernel
 d2:=by decide +kernel
 hK:=by decide +kernel
 fK:=by decide +kernel
 kp:=by decide +kernel
 kq:=by decide +kernel
 sp:=by decide +kernel
 sq:=by decide +kernel
 s0:=by decide +kernel
 hX:=by decide +kernel
 hY:=by decide +kernel
 fX:=by decide +kernel
 fY:=by decide +kernel
 fXa:=by decide +kernel
 fYa:=by decide +kernel
theorem WT (v:Value) (w:World) (h:IsQ w v (mkRat 355 113)) (hE:Env w):Calls Tryz.prog 56 #[v,.int .i64 7] w (dS w (mkRat 22 7) 0):=WU (mkRat 355 113) 7 2 1 0 (mkRat 22 7) 3 v w h hE.tz uw _ fun W va vx vy hB h0 h1 h2=>WV _ _ _ va vx vy 1 W h0 h1 h2 (by decide) uw.fa uw.fX uw.fY uw.fXa uw.fYa (by decide +kernel) (hE.tz.below hB (Nat.le_refl _))
end
section
open Go.RowKit Go.Sort
def H6 (c s:Rat) (v:Value) (W:World):Prop:=∃ (t6:Bool) (x6:Int) (p6:Option Addr) (l6 q6:Nat) (y6:Int) (r6:Option Addr) (s6 u6:Nat) (t7:Bool) (x7:Int) (p7:Option Addr) (l7 q7:Nat) (y7:Int) (r7:Option Addr) (s7 u7:Nat),v=.agg #[.bool t6,.int .u64 x6,.slice p6 l6 q6,.int .u64 y6,.slice r6 s6 u6,.bool t7,.int .u64 x7,.slice p7 l7 q7,.int .u64 y7,.slice r7 s7 u7]∧IsQ W (.agg #[.bool t6,.int .u64 x6,.slice p6 l6 q6,.int .u64 y6,.slice r6 s6 u6]) c∧IsQ W (.agg #[.bool t7,.int .u64 x7,.slice p7 l7 q7,.int .u64 y7,.slice r7 s7 u7]) s
def Bj (w:World) (c s:Rat) (e:Ending) (w':World):Prop:=∃ v,e=.returned v∧H6 c s v w'∧Below w.heap.size w w'
end
namespace Z4
open Go.RowKit Go.Sort
attribute [local go_sem] takes gU gQ gK
def iO (w:World) (z:Int) (e:Ending) (w':World):Prop:=∃ v,e=.returned v∧IsZ w' v z∧Below w.heap.size w w'
theorem IsL.len {B:Nat} {w:World} {p:Option Addr} {l k:Nat} {xs:List Nat} (h:IsL B w (.slice p l k) xs):xs.length=l:=by
 rcases h with ⟨h,rfl⟩ | ⟨b,o,k',h,-⟩ <;> injection h with h1 h2 h3
 ·simp [h2]
 ·exact h2.symm
theorem IsL.mk {w:World} {B:Nat} {v:Value} {xs:List Nat} (h:IsL B w v xs):∃ p l k,v=.slice p l k:=by
 rcases h with ⟨rfl,rfl⟩ | ⟨b,o,k',rfl,-⟩ <;> exact ⟨_,_,_,rfl⟩
theorem rU {xs:List Nat} (dx:Dig xs) (tx:aC xs):xs.length=0↔val xs=0:=by
 constructor
 ·intro h;rw [List.length_eq_zero_iff.1 h];rfl
 ·intro h
  rcases Nat.eq_zero_or_pos xs.length with h0 | h0
  ·exact h0
  ·have:=nH tx (by intro e;subst e;simp at h0)
   omega
theorem Bo.z {w:World} {n:Int} {e:Ending} {w':World} (h:Bo w n e w'):iO w n e w':=by
 obtain ⟨s,ds,rfl,h1,h2,h3,h4,h5⟩:=h
 obtain ⟨p,l,k,rfl⟩:=h1.mk
 exact ⟨_,rfl,⟨p,l,k,ds,rfl,h1.mono (Nat.zero_le _),h2,h3,h4⟩,h5⟩
theorem Zt (p:Option Addr) (l k:Nat) (w:World):Calls Tryz.prog 52 #[.bool false,.slice p l k] w (fun e w'=>e=.returned (.agg #[.bool false,.slice p l k])∧Below w.heap.size w w'):=by
 go_enter Tryz.func52,Tryz.ntmps52
 go_wp2
 exact bodyPost_ret (v:=.agg #[.bool false,.slice p l k]) (by simp [results,Tryz.results52,go_sem]) rfl ⟨rfl,(Below.refl _ _).alloc (Nat.le_refl _) _⟩
theorem Zu (p:Option Addr) (l k:Nat) (hl:0<l) (w:World):Calls Tryz.prog 52 #[.bool true,.slice p l k] w (fun e w'=>e=.returned (.agg #[.bool true,.slice p l k])∧Below w.heap.size w w'):=by
 go_enter Tryz.func52,Tryz.ntmps52
 go_wp2
 exact bodyPost_ret (v:=.agg #[.bool true,.slice p l k]) (by simp [results,Tryz.results52,go_sem]) rfl ⟨rfl,(Below.refl _ _).alloc (Nat.le_refl _) _⟩
theorem Zv (p:Option Addr) (l k:Nat) (hl:¬ 0<l) (w:World):Calls Tryz.prog 52 #[.bool true,.slice p l k] w (fun e w'=>e=.returned (.agg #[.bool false,.slice p l k])∧Below w.heap.size w w'):=by
 go_enter Tryz.func52,Tryz.ntmps52
 go_wp2
 exact bodyPost_ret (v:=.agg #[.bool false,.slice p l k]) (by simp [results,Tryz.results52,go_sem]) rfl ⟨rfl,(Below.refl _ _).alloc (Nat.le_refl _) _⟩
theorem NR (s:Bool) (p:Option Addr) (l k:Nat) (w:World):Calls Tryz.prog 52 #[.bool s,.slice p l k] w (fun e w'=>e=.returned (.agg #[.bool (s && decide (0<l)),.slice p l k])∧Below w.heap.size w w'):=by
 cases s
 ·exact Zt p l k w
 ·by_cases h:0<l
  ·rw [decide_eq_true h];exact Zu p l k h w
  ·rw [decide_eq_false h];exact Zv p l k h w
theorem Gu {B:Nat} (s:Bool) (v:Value) (xs:List Nat) (w:World) (h:IsL B w v xs) (dx:Dig xs) (tx:aC xs):Calls Tryz.prog 52 #[.bool s,v] w (iO w (if s then -((val xs:Nat):Int) else (val xs:Nat))):=by
 obtain ⟨p,l,k,rfl⟩:=h.mk
 refine (NR s p l k w).mono ?_
 rintro e w' ⟨rfl,hb⟩
 have hl:=h.len
 have h0:=rU dx tx
 refine ⟨_,rfl,⟨p,l,k,xs,?_,(h.mono (Nat.zero_le _)).below hb,dx,tx,?_⟩,hb⟩
 ·congr 4
  cases s
  ·simp only [Bool.false_and,Bool.false_eq_true,if_false];exact (decide_eq_false (by omega)).symm
  ·simp only [Bool.true_and,if_true];rw [decide_eq_decide];omega
 ·cases s <;> simp
theorem IsZ.open {W:World} {v:Value} {z:Int} (h:IsZ W v z):∃ t p l k,v=.agg #[.bool t,.slice p l k]:=by
 obtain ⟨p,l,k,xs,e,-⟩:=h
 exact ⟨_,p,l,k,e⟩
theorem GY (z:Int) (v:Value) (w:World) (h:IsZ w v z):Calls Tryz.prog 51 #[v] w (iO w (-z)):=by
 obtain ⟨p,l,k,xs,rfl,hL,dx,tx,hv⟩:=h
 have HS:=hid (fun (W:World) (h:IsL 0 W (.slice p l k) xs)=>Gu (!decide (z<0)) (.slice p l k) xs W h dx tx)
 rw [show (if (!decide (z<0))=true then -((val xs:Nat):Int) else ((val xs:Nat):Int)) = -z from by rw [hv];by_cases h0:z<0 <;> simp [h0] <;> omega] at HS
 obtain ⟨t,ht⟩:∃ t,decide (z<0)=t:=⟨_,rfl⟩
 rw [ht] at HS ⊢
 have HL:=hid hL
 clear hL dx tx hv ht
 go_enter Tryz.func51,Tryz.ntmps51
 go_wp2_with fail
 have hS0:=hid (((St.start w).alloc' (w.heap.size) (by simp) 35 [.bool t,.slice p l k]).alloc' (w.heap.size+1) (by simp) 35 [.bool false,.slice none 0 0])
 obtain ⟨W0,hW0⟩:=cu hS0
 rw [hW0] at hS0 ⊢
 clear hW0
 refine (HS.out _ (HL.out.below (hS0.out.bel))).mono ?_
 rintro e w1 ⟨v,rfl,hv,hB⟩
 have hS1:=hid (hS0.out.call hB)
 clear hB
 clear hS0
 obtain ⟨t1,p1,l1,k1,rfl⟩:=hv.open
 have hS2:=hid (hS1.out.fact (.z (.agg #[.bool t1,.slice p1 l1 k1]) (-z)) hv)
 clear hS1 hv
 obtain ⟨⟨cR0,cR1⟩,fR0,fR1⟩:=hS2.out.f2 0 (w.heap.size+1) 35 (.bool false) (.slice none 0 0) rfl
 have hS3:=hid ((((hS2.out).store (b:=⟨w.heap.size+1,35,[.bool false,.slice none 0 0]⟩) 0 0 (.bool t1) rfl rfl).store (b:=⟨w.heap.size+1,35,[.bool t1,.slice none 0 0]⟩) 0 1 (.slice p1 l1 k1) rfl rfl).as [⟨w.heap.size+1,35,[.bool t1,.slice p1 l1 k1]⟩,⟨w.heap.size,35,[.bool t,.slice p l k]⟩] rfl)
 go_wp2_with fail
 clear cR0 cR1 fR0 fR1
 obtain ⟨⟨zR0,zR1⟩,-⟩:=hS3.out.f2 0 (w.heap.size+1) 35 (.bool t1) (.slice p1 l1 k1) rfl
 exact bodyPost_ret (v:=.agg #[.bool t1,.slice p1 l1 k1]) (by simp [results,Tryz.results51,go_sem,zR0,zR1]) rfl ⟨_,rfl,(hS3.out.get (f:=.z (.agg #[.bool t1,.slice p1 l1 k1]) (-z)) 0 rfl),hS3.out.bel⟩
theorem OG (a b:Int) (v1 v2:Value) (w:World) (h1:IsZ w v1 a) (h2:IsZ w v2 b) (n:Nat) (hn:n≤549755813888) (ka:a.natAbs<B4 ^ n) (kb:b.natAbs<B4 ^ n):Calls Tryz.prog 39 #[v1,v2] w (iO w (a*b)):=by
 obtain ⟨p1,l1,k1,xs,rfl,L1,dx,tx,hv1⟩:=h1
 obtain ⟨p2,l2,k2,ys,rfl,L2,dy,ty,hv2⟩:=h2
 have hlx:xs.length≤549755813888:=Nat.le_trans (jw tx (by rw [hv1];exact ka)) hn
 have hly:ys.length≤549755813888:=Nat.le_trans (jw ty (by rw [hv2];exact kb)) hn
 have HT:=hid (fun (W:World) (h:IsL 0 W (.slice p1 l1 k1) xs) (h':IsL 0 W (.slice p2 l2 k2) ys)=>AA (.slice p1 l1 k1) (.slice p2 l2 k2) xs ys W h h' dx dy hlx hly)
 have hz:∀ (m:Nat),m=val xs*val ys→(if (decide (a<0) != decide (b<0))=true then -(m:Int) else (m:Int))=a*b:=by
  rintro m rfl
  rw [hv1,hv2,Int.natCast_mul]
  rcases Int.lt_or_le a 0 with ha | ha <;> rcases Int.lt_or_le b 0 with hb | hb
  ·rw [decide_eq_true ha,decide_eq_true hb];simp only [bne_self_eq_false,Bool.false_eq_true,if_false];rw [show ((a.natAbs:Nat):Int) = -a by omega,show ((b.natAbs:Nat):Int) = -b by omega];grind
  ·rw [decide_eq_true ha,decide_eq_false (by omega)];simp only [Bool.bne_false,if_true];rw [show ((a.natAbs:Nat):Int) = -a by omega,show ((b.natAbs:Nat):Int)=b by omega];grind
  ·rw [decide_eq_false (by omega),decide_eq_true hb];simp only [Bool.false_bne,if_true];rw [show ((a.natAbs:Nat):Int)=a by omega,show ((b.natAbs:Nat):Int) = -b by omega];grind
  ·rw [decide_eq_false (by omega),decide_eq_false (by omega)];simp only [bne_self_eq_false,Bool.false_eq_true,if_false];rw [show ((a.natAbs:Nat):Int)=a by omega,show ((b.natAbs:Nat):Int)=b by omega]
 have HS:=hid (fun (W:World) (v:Value) (ds:List Nat) (h:IsL 0 W v ds) (d:Dig ds) (t:aC ds) (e:val ds=val xs*val ys)=>(hz _ e) ▸ Gu (decide (a<0) != decide (b<0)) v ds W h d t)
 obtain ⟨Z,hZ⟩:∃ Z,a*b=Z:=⟨_,rfl⟩
 rw [hZ] at HS ⊢
 obtain ⟨M,hM⟩:∃ M,val xs*val ys=M:=⟨_,rfl⟩
 rw [hM] at HT HS
 obtain ⟨t1,ht1⟩:∃ t,decide (a<0)=t:=⟨_,rfl⟩
 obtain ⟨t2,ht2⟩:∃ t,decide (b<0)=t:=⟨_,rfl⟩
 rw [ht1,ht2] at HS
 rw [ht1,ht2]
 have HL:=hid (And.intro L1 L2)
 clear L1 L2 dx tx dy ty hv1 hv2 hlx hly hz hZ hM ht1 ht2 ka kb hn
 go_enter Tryz.func39,Tryz.ntmps39
 go_wp2_with fail
 have hS0:=hid ((((St.start w).alloc' (w.heap.size) (by simp) 35 [.bool t1,.slice p1 l1 k1]).alloc' (w.heap.size+1) (by simp) 35 [.bool t2,.slice p2 l2 k2]).alloc' (w.heap.size+1+1) (by simp) 35 [.bool false,.slice none 0 0])
 obtain ⟨W0,hW0⟩:=cu hS0
 rw [hW0] at hS0 ⊢
 clear hW0
 have LM0:=hid (fun (W:World) (h:Below W0.heap.size W0 W)=>((hS0.out.call h).f2 2 w.heap.size 35 (.bool t1) (.slice p1 l1 k1) rfl).1)
 have LM1:=hid (fun (W:World) (h:Below W0.heap.size W0 W)=>((hS0.out.call h).f2 1 (w.heap.size+1) 35 (.bool t2) (.slice p2 l2 k2) rfl).1)
 refine jA 11 [⟨[],[0]⟩,⟨[0],[1]⟩,⟨[],[2]⟩,⟨[2],[3]⟩,⟨[1,3],[4]⟩,⟨[],[5]⟩,⟨[5],[6]⟩,⟨[],[7]⟩,⟨[7],[8]⟩,⟨[6,8],[9]⟩,⟨[4,9],[10]⟩]
  [oE (.pointer (some ⟨w.heap.size,0,none⟩)),oE (.bool t1),oE (.pointer (some ⟨w.heap.size+1,0,none⟩)),oE (.bool t2),oE (.bool (t1 != t2)),oE (.pointer (some ⟨w.heap.size,1,none⟩)),oE (.slice p1 l1 k1),oE (.pointer (some ⟨w.heap.size+1,1,none⟩)),oE (.slice p2 l2 k2),one (fun v W=>∃ ds,IsL 0 W v ds∧Dig ds∧aC ds∧val ds=M),one fun v W=>IsZ W v Z]
  (fun _ W=>Below W0.heap.size W0 W) (by kernel_rfl) (by kernel_rfl) ?hTW1 ?hZW1 ?hOW1 ?hEW1
 case hZW1=>exact (Below.refl _ _).drew
 case hTW1 =>
  simp only [List.forall_mem_cons,List.not_mem_nil,false_imp_iff,implies_true,and_true]
  exact ⟨bE,bE,bE,bE,bE,bE,bE,bE,bE,aS (fun v W W' hb h=>by obtain ⟨ds,h1,h2⟩:=h;exact ⟨ds,h1.below hb,h2⟩),aS Vg⟩
 case hOW1 =>
  intro u
  simp only [List.take_succ_cons,List.take_zero,aJ]
  repeat' (first | with_reducible exact gZ | with_reducible refine gY ?_ ?_)
  ·intro W hS hF K hK
   go_simp
   exact hK _ _ (.refl _ _) hS rfl
  ·intro W hS hF K hK
   have h0:u 0=.pointer (some ⟨w.heap.size,0,none⟩):=hF.1
   have hcA:=LM0.out W hS
   clear hF
   go_simp
   exact hK _ _ (.refl _ _) hS rfl
  ·intro W hS hF K hK
   go_simp
   exact hK _ _ (.refl _ _) hS rfl
  ·intro W hS hF K hK
   have h2:u 2=.pointer (some ⟨w.heap.size+1,0,none⟩):=hF.1
   have hcB:=LM1.out W hS
   clear hF
   go_simp
   exact hK _ _ (.refl _ _) hS rfl
  ·intro W hS hF K hK
   have h1:u 1=.bool t1:=hF.1
   have h3:u 3=.bool t2:=hF.2.1
   clear hF
   go_simp
   exact hK _ _ (.refl _ _) hS rfl
  ·intro W hS hF K hK
   go_simp
   exact hK _ _ (.refl _ _) hS rfl
  ·intro W hS hF K hK
   have h5:u 5=.pointer (some ⟨w.heap.size,1,none⟩):=hF.1
   have hcA:=LM0.out W hS
   clear hF
   go_simp
   exact hK _ _ (.refl _ _) hS rfl
  ·intro W hS hF K hK
   go_simp
   exact hK _ _ (.refl _ _) hS rfl
  ·intro W hS hF K hK
   have h7:u 7=.pointer (some ⟨w.heap.size+1,1,none⟩):=hF.1
   have hcB:=LM1.out W hS
   clear hF
   go_simp
   exact hK _ _ (.refl _ _) hS rfl
  ·intro W hS hF K hK
   have h6:u 6=.slice p1 l1 k1:=hF.1
   have h8:u 8=.slice p2 l2 k2:=hF.2.1
   have sH:=hid (hS0.out.call hS)
   clear hF
   go_simp
   refine (HT.out _ (HL.out.1.below sH.out.bel) (HL.out.2.below sH.out.bel)).mono ?_
   rintro e wA ⟨v,ds,rfl,h1,h2,h3,h4,hBA⟩
   exact ⟨_,rfl,hK _ _ hBA (hS.trans (hBA.mono hS.size)) ⟨ds,h1.mono (Nat.zero_le _),h2,h3,h4⟩⟩
  ·intro W hS hF K hK
   have h4:u 4=.bool (t1 != t2):=hF.1
   obtain ⟨ds9,hL9,hd9,ht9,hv9⟩:∃ ds,IsL 0 W (u 9) ds∧Dig ds∧aC ds∧val ds=M:=hF.2.1
   clear hF
   go_simp
   refine (HS.out _ _ _ hL9 hd9 ht9 hv9).mono ?_
   rintro e wA ⟨v,rfl,hv,hBA⟩
   exact ⟨_,rfl,hK _ _ hBA (hS.trans (hBA.mono hS.size)) hv⟩
 case hEW1 =>
  intro u W1 hS hF
  have hS1:=hid (hS0.out.call hS)
  have hz:IsZ W1 (u 10) Z:=hF.2.2.2.2.2.2.2.2.2.2.1
  clear hF hS
  obtain ⟨t3,p3,l3,k3,e3⟩:=hz.open
  have hz':IsZ W1 (.agg #[.bool t3,.slice p3 l3 k3]) Z:=e3 ▸ hz
  clear hz
  have hS2:=hid (hS1.out.fact (.z (.agg #[.bool t3,.slice p3 l3 k3]) Z) hz')
  clear hS1 hz'
  obtain ⟨⟨cR0,cR1⟩,fR0,fR1⟩:=hS2.out.f2 0 (w.heap.size+1+1) 35 (.bool false) (.slice none 0 0) rfl
  simp only [List.take_succ_cons,List.take_zero,aJ,List.drop_succ_cons,List.drop_zero]
  have hS3:=hid ((((hS2.out).store (b:=⟨w.heap.size+1+1,35,[.bool false,.slice none 0 0]⟩) 0 0 (.bool t3) rfl rfl).store (b:=⟨w.heap.size+1+1,35,[.bool t3,.slice none 0 0]⟩) 0 1 (.slice p3 l3 k3) rfl rfl).as [⟨w.heap.size+1+1,35,[.bool t3,.slice p3 l3 k3]⟩,⟨w.heap.size+1,35,[.bool t2,.slice p2 l2 k2]⟩,⟨w.heap.size,35,[.bool t1,.slice p1 l1 k1]⟩] rfl)
  go_wp2_with fail
  clear cR0 cR1 fR0 fR1
  obtain ⟨⟨zR0,zR1⟩,-⟩:=hS3.out.f2 0 (w.heap.size+1+1) 35 (.bool t3) (.slice p3 l3 k3) rfl
  exact bodyPost_ret (v:=.agg #[.bool t3,.slice p3 l3 k3]) (by simp [results,Tryz.results39,go_sem,zR0,zR1]) rfl ⟨_,rfl,(hS3.out.get (f:=.z (.agg #[.bool t3,.slice p3 l3 k3]) Z) 0 rfl),hS3.out.bel⟩
theorem Zx (t:Bool) (p:Option Addr) (l k:Nat) (hl:4<l) (w:World):Calls Tryz.prog 103 #[.agg #[.bool t,.slice p l k]] w (fun e w'=>e=.returned (.tuple #[.int .i64 0,.bool false])∧Below w.heap.size w w'):=by
 go_enter Tryz.func103,Tryz.ntmps103
 go_wp2
 go_ret2
 exact ⟨rfl,(Below.refl _ _).alloc (Nat.le_refl _) _⟩
theorem Zy (t:Bool) (p:Option Addr) (k:Nat) (w:World):Calls Tryz.prog 103 #[.agg #[.bool t,.slice p 0 k]] w (fun e w'=>e=.returned (.tuple #[.int .i64 0,.bool true])∧Below w.heap.size w w'):=by
 go_enter Tryz.func103,Tryz.ntmps103
 go_wp2
 refine wp_loop_rounds 1 ?_
 rw [rounds_succ]
 go_wp2
 go_ret2
 exact ⟨rfl,(Below.refl _ _).alloc (Nat.le_refl _) _⟩
theorem Zz (t:Bool) (b o k:Nat) (xs:List Nat) (hl:xs.length≤4) (w:World) (hb:b<w.heap.size) (hx:Ints w b o xs) (dx:Dig xs):Calls Tryz.prog 103 #[.agg #[.bool t,.slice (some ⟨b,o,none⟩) xs.length k]] w (fun e w'=>e=.returned (.tuple #[.int .i64 ((val xs:Nat):Int),.bool true])∧Below w.heap.size w w'):=by
 have hB:=(Below.refl w.heap.size w).alloc (Nat.le_refl _) (.cells #[.bool t,.slice (some ⟨b,o,none⟩) xs.length k] 35)
 have HX:=hid (hx.below hB hb)
 have HB:=hid hB
 have c1:(w.alloc (.cells #[.bool t,.slice (some ⟨b,o,none⟩) xs.length k] 35)).cell? ⟨w.heap.size,1,none⟩=some (.slice (some ⟨b,o,none⟩) xs.length k):=by go_simp
 clear hB hx
 go_enter Tryz.func103,Tryz.ntmps103
 go_wp2
 obtain ⟨W0,hW0⟩:∃ W0,w.alloc (.cells #[.bool t,.slice (some ⟨b,o,none⟩) xs.length k] 35)=W0:=⟨_,rfl⟩
 rw [hW0] at HX HB c1 ⊢
 clear hW0
 go_loop [4,5] (fun nv iv=>∃ m:Nat,nv=.int .i64 ((val (xs.drop m):Nat):Int)∧iv=.int .i64 ((m:Int) - 1)∧m≤xs.length) (fun _ iv=>(intOf iv+1).toNat)
 case atStart=>exact ⟨xs.length,by rw [List.drop_of_length_le (Nat.le_refl _)];rfl,rfl,Nat.le_refl _⟩
 case round =>
  obtain ⟨m,rfl,rfl,hm2⟩:=hrel
  rcases Nat.lt_or_ge 0 m with hlt | hge
  ·obtain ⟨j,rfl⟩:∃ j,m=j+1:=⟨m - 1,by omega⟩
   obtain ⟨x,hxj⟩:∃ x,xs[j]?.getD 0=x:=⟨_,rfl⟩
   have cx:W0.cell? ⟨b,o+j,none⟩=some (.int .i64 (x:Int)):=by rw [HX.out j (by omega),hxj]
   have hx1:x<10000:=hxj ▸ dx.getD j
   have hv:val (xs.drop j)=x+10000*val (xs.drop (j+1)):=by rw [fD xs j (by omega),hxj,jf]
   have hv2:val (xs.drop j)<10000000000000000:=rM (dx.drop j) (by rw [List.length_drop];omega)
   obtain ⟨V,hV⟩:∃ V,val (xs.drop (j+1))=V:=⟨_,rfl⟩
   rw [hV] at hv ⊢
   have HV:=hid hv
   have b1:V*10000+x<10000000000000000:=by omega
   clear hv hV hxj hv2
   go_wp2
   go_round
   case rel=>exact ⟨j,by rw [HV.out];go_num,by go_num,by omega⟩
   case measure=>simp [intOf]
  ·obtain rfl:m=0:=by omega
   rw [show (((0:Nat):Int) - 1) = -1 from rfl]
   go_wp2
   go_ret2
   exact ⟨by first | rfl | (rw [List.drop_zero]) | simp,HB.out⟩
theorem NV {B:Nat} (t:Bool) (v:Value) (xs:List Nat) (w:World) (h:IsL B w v xs) (dx:Dig xs):Calls Tryz.prog 103 #[.agg #[.bool t,v]] w
  (fun e w'=>e=.returned (.tuple #[.int .i64 (if xs.length≤4 then ((val xs:Nat):Int) else 0),.bool (decide (xs.length≤4))])∧Below w.heap.size w w'):=by
 by_cases h4:xs.length≤4
 ·rw [if_pos h4,decide_eq_true h4]
  rcases h with ⟨rfl,rfl⟩ | ⟨b,o,k,rfl,-,h2,h3,h5⟩
  ·exact Zy t none 0 w
  ·exact Zz t b o k xs h4 w h2 h5 dx
 ·rw [if_neg h4,decide_eq_false h4]
  obtain ⟨p,l,k,rfl⟩:=h.mk
  exact Zx t p l k (by have:=h.len;omega) w
end Z4
namespace Z4
open Go.RowKit Go.Sort
attribute [local go_sem] takes gU gQ gK
theorem Xn (p p2:Option Addr) (k k2 l:Nat) (w:World):Calls Tryz.prog 72 #[.slice p 0 k,.slice p2 l k2] w (xw w 0 0):=by
 have hmk:∀ W,(Instr.makeSlice 33 (.int .i64 0) (.int .i64 0)).run Tryz.prog W=.ok (.slice (some ⟨W.heap.size,0,none⟩) 0 0) (aI W 0):=fun W=>ig 0 (by omega) W
 have HZ:=hid (dP w 0)
 go_enter Tryz.func72,Tryz.ntmps72
 go_wp2
 refine wp_loop_rounds 1 ?_
 rw [rounds_succ]
 clear hmk
 have HL:=hid (show IsL w.heap.size (aI w 0) (.slice (some ⟨w.heap.size,0,none⟩) 0 0) [] from .inr ⟨w.heap.size,0,0,rfl,Nat.le_refl _,by rw [dG];omega,by simp,fun j hj=>by simp at hj⟩)
 go_wp2_with fail
 refine (nG _ [] _ HL.out (by simp)).mono ?_
 rintro e w' ⟨v',m,rfl,ht,hv',rfl⟩
 have HT:=hid (And.intro ht hv')
 clear ht hv'
 go_wp2
 go_ret2
 exact ⟨_,_,_,[],rfl,HT.out.2,Dig.nil.take m,HT.out.1.trimmed,by rw [HT.out.1.val];rfl,IsL.nil _ _,Dig.nil,fun h=>absurd rfl h,rfl,bG w 0⟩
theorem zZ {B B2:Nat} (v v2:Value) (xs ys:List Nat) (w:World) (h:IsL B w v xs) (h2:IsL B2 w v2 ys) (dx:Dig xs) (dy:Dig ys) (ty:aC ys) (hm:0<val ys) (hsx:xs.length≤34359738368) (hsy:ys.length≤34359738368) :
  Calls Tryz.prog 72 #[v,v2] w (xw w (val xs / val ys) (val xs % val ys)):=by
 by_cases h0:xs.length=0
 ·obtain rfl:xs=[]:=List.length_eq_zero_iff.1 h0
  obtain ⟨p,b,o,k,rfl,-,-,-,-⟩:=h.shape
  obtain ⟨p2,b2,o2,k2,rfl,-,-,-,-⟩:=h2.shape
  rw [show val [] / val ys=0 from Nat.zero_div _,show val [] % val ys=0 from Nat.zero_mod _]
  exact Xn p p2 k k2 ys.length w
 ·obtain ⟨p,b,o,k,rfl,hp,hb,hk,hx⟩:=h.shape
  obtain ⟨p2,b2,o2,k2,rfl,hp2,hb2,hk2,hy⟩:=h2.shape
  have h1:ys.length≠0:=fun e=>by rw [List.length_eq_zero_iff.1 e] at hm;simp [val] at hm
  rw [hp h0,hp2 h1]
  exact Xm b o k b2 o2 k2 xs ys w (hb h0) hx (hb2 h1) hk2 hy dx dy ty hm hsx hsy
theorem Au {B:Nat} (t:Bool) (v:Value) (xs:List Nat) (w:World) (h:IsL B w v xs) (dx:Dig xs) (h4:xs.length≤4):Calls Tryz.prog 103 #[.agg #[.bool t,v]] w
  (fun e w'=>e=.returned (.tuple #[.int .i64 ((val xs:Nat):Int),.bool true])∧Below w.heap.size w w'):=by
 have:=NV t v xs w h dx
 rwa [if_pos h4,decide_eq_true h4] at this
theorem Ar {B:Nat} (t:Bool) (v:Value) (xs:List Nat) (w:World) (h:IsL B w v xs) (dx:Dig xs) (h4:¬ xs.length≤4):Calls Tryz.prog 103 #[.agg #[.bool t,v]] w
  (fun e w'=>e=.returned (.tuple #[.int .i64 0,.bool false])∧Below w.heap.size w w'):=by
 have:=NV t v xs w h dx
 rwa [if_neg h4,decide_eq_false h4] at this
structure EuR (W:World) (G N g:Nat) (xv yv:Value) (xs ys:List Nat):Prop where
 lx:IsL 0 W xv xs
 ly:IsL 0 W yv ys
 dx:Dig xs
 dy:Dig ys
 tx:aC xs
 ty:aC ys
 vy:val ys=g
 gcd:Nat.gcd (val xs) (val ys)=G
 sx:val xs<B4 ^ N
 sy:val ys<B4 ^ N
theorem aag (a b:Int) (v1 v2:Value) (w:World) (h1:IsZ w v1 a) (h2:IsZ w v2 b) (N:Nat) (hN:N≤34359738368) (ka:a.natAbs<B4 ^ N) (kb:b.natAbs<B4 ^ N):Calls Tryz.prog 71 #[v1,v2] w (iO w ((Nat.gcd a.natAbs b.natAbs:Nat):Int)):=by
 obtain ⟨p1,l1,k1,xs,rfl,L1,dx,tx,hv1⟩:=h1
 obtain ⟨p2,l2,k2,ys,rfl,L2,dy,ty,hv2⟩:=h2
 obtain ⟨t1,ht1⟩:∃ t,decide (a<0)=t:=⟨_,rfl⟩
 obtain ⟨t2,ht2⟩:∃ t,decide (b<0)=t:=⟨_,rfl⟩
 obtain ⟨G,hG⟩:∃ G,Nat.gcd a.natAbs b.natAbs=G:=⟨_,rfl⟩
 have HE:=hid (fun (W:World) (hb:Below w.heap.size w W)=>EuR.mk (G:=G) (N:=N) (L1.below hb) (L2.below hb) dx dy tx ty hv2 (by rw [hv1,hv2,hG]) (by rw [hv1];exact ka) (by rw [hv2];exact kb))
 rw [ht1,ht2,hG]
 clear L1 L2 dx tx dy ty hv1 hv2 ht1 ht2 hG ka kb
 go_enter Tryz.func71,Tryz.ntmps71
 go_wp2_with fail
 have hS0:=hid ((((St.start w).alloc' (w.heap.size) (by simp) 35 [.bool t1,.slice p1 l1 k1]).alloc' (w.heap.size+1) (by simp) 35 [.bool t2,.slice p2 l2 k2]).alloc' (w.heap.size+1+1) (by simp) 35 [.bool false,.slice none 0 0])
 obtain ⟨W0,hW0⟩:=cu hS0
 rw [hW0] at hS0 ⊢
 clear hW0
 obtain ⟨⟨cA0,cA1⟩,fA0,fA1⟩:=hS0.out.f2 2 w.heap.size 35 (.bool t1) (.slice p1 l1 k1) rfl
 obtain ⟨⟨cB0,cB1⟩,fB0,fB1⟩:=hS0.out.f2 1 (w.heap.size+1) 35 (.bool t2) (.slice p2 l2 k2) rfl
 go_quiet (fail)
 go_wp2_with fail
 clear cA0 cA1 fA0 fA1 cB0 cB1 fB0 fB1
 go_loopg [5,6] (b.natAbs) (fun g xv yv wr=>∃ xs ys,EuR wr G N g xv yv xs ys∧St w [⟨w.heap.size+1+1,35,[.bool false,.slice none 0 0]⟩,⟨w.heap.size+1,35,[.bool t2,.slice p2 l2 k2]⟩,⟨w.heap.size,35,[.bool t1,.slice p1 l1 k1]⟩] [] wr)
 case atStart=>exact ⟨xs,ys,HE.out _ (by first | exact hS0.out.bel | exact fG hS0.out.bel _ | exact hS0.out.drew.bel),by first | exact hS0.out | exact hS0.out.drew | exact hS0.out.call (fG (Below.refl _ _) _)⟩
 case round =>
  clear HE hS0
  obtain ⟨xs,ys,hE,hSt⟩:=hrel
  have HSt:=hid hSt
  have HEu:=hid hE
  obtain ⟨px,bx,ox,kx,rfl,-,-,-,-⟩:=hE.lx.shape
  obtain ⟨py,by_,oy,ky,rfl,-,-,-,-⟩:=hE.ly.shape
  have hlx:xs.length≤34359738368:=Nat.le_trans (jw hE.tx hE.sx) hN
  have hly:ys.length≤34359738368:=Nat.le_trans (jw hE.ty hE.sy) hN
  clear hSt hE
  by_cases hy0:ys.length=0
  ·have t1':¬ (0<ys.length):=by omega
   have bR:Bx wr (w.heap.size+1+1) 35 [.bool false,.slice none 0 0]:=HSt.out.bx (b:=⟨w.heap.size+1+1,35,[.bool false,.slice none 0 0]⟩) 0 rfl
   obtain ⟨⟨cR0,cR1⟩,fR0,fR1⟩:=bR.f2
   have hF:=(HSt.out.fact (.l 0 (.slice px xs.length kx) xs) HEu.out.lx)
   have HFS:=hid ((hF.store (b:=⟨w.heap.size+1+1,35,[.bool false,.slice none 0 0]⟩) 0 0 (.bool false) rfl rfl).store (b:=⟨w.heap.size+1+1,35,[.bool false,.slice none 0 0]⟩) 0 1 (.slice px xs.length kx) rfl rfl)
   have HY0:=hid hy0
   clear bR hF hy0
   go_wp2
   clear cR0 cR1 fR0 fR1
   have bR:=HFS.out.bx (b:=⟨w.heap.size+1+1,35,[.bool false,.slice px xs.length kx]⟩) 0 rfl
   obtain ⟨⟨z0,z1⟩,-⟩:=bR.f2
   refine bodyPost_ret (v:=.agg #[.bool false,.slice px xs.length kx]) (by simp [results,Tryz.results71,go_sem,z0,z1]) rfl ⟨_,rfl,⟨px,xs.length,kx,xs,?_,HFS.out.get (f:=.l 0 (.slice px xs.length kx) xs) 0 rfl,HEu.out.dx,HEu.out.tx,?_⟩,HFS.out.bel⟩
   ·rw [decide_eq_false (by omega)]
   ·have h1:=HEu.out.gcd
    rw [List.length_eq_zero_iff.1 HY0.out] at h1
    rw [show val []=0 from rfl,Nat.gcd_zero_right] at h1
    rw [h1];simp
  ·have hm:0<val ys:=nH HEu.out.ty (by intro e;subst e;simp at hy0)
   have HM:=hid hm
   clear hm
   by_cases h4:xs.length≤4
   ·by_cases h5:ys.length≤4
    ·go_wp2_with fail
     refine (Au false _ xs _ HEu.out.lx HEu.out.dx h4).mono ?_
     rintro e w1 ⟨rfl,hB1⟩
     have HB1:=hid hB1
     clear hB1
     go_wp2_with fail
     refine (Au false _ ys _ (HEu.out.ly.below HB1.out) HEu.out.dy h5).mono ?_
     rintro e w2 ⟨rfl,hB2⟩
     have hB12:=HB1.out.trans (hB2.mono HB1.out.size)
     have HSt2:=hid (HSt.out.call hB12)
     have HB12:=hid hB12
     clear HB1 hB2 HSt hB12
     have hX:=rM HEu.out.dx h4
     have hY:=rM HEu.out.dy h5
     have HGC:=hid HEu.out.gcd
     obtain ⟨X,hXe⟩:∃ X,val xs=X:=⟨_,rfl⟩
     obtain ⟨Y,hYe⟩:∃ Y,val ys=Y:=⟨_,rfl⟩
     rw [hXe] at hX HGC ⊢
     rw [hYe] at hY HGC ⊢
     clear hXe hYe HEu h4 h5 HM hlx hly hy0
     go_wp2
     go_loopw [7,9] (fun nv mv w3=>∃ n m q:Nat,nv=.int .i64 (n:Int)∧mv=.int .i64 (m:Int)∧n<10000000000000000∧m<10000000000000000∧Nat.gcd n m=G∧w3=w2.drewN q) (fun _ mv _=>(intOf mv).toNat)
     case atStart=>exact ⟨X,Y,0,rfl,rfl,hX,hY,HGC.out,rfl⟩
     case round =>
      clear hX hY HGC
      obtain ⟨n,m,q,rfl,rfl,hn,hm,hg,hw3⟩:=hrel
      rename World=>w3
      have HW3:=hid hw3
      have HG:=hid hg
      clear hw3 hg
      by_cases hm0:m=0
      ·subst hm0
       have hst:=HSt2.out.call (fG (Below.refl _ _) q)
       rw [← HW3.out] at hst
       have HST:=hid hst
       have hgn:Hid (n=G):=by have:=HG.out;rwa [Nat.gcd_zero_right] at this
       clear hst HSt2
       go_wp2_with fail
       refine (rV (n:Int) (by omega) (by omega) _).mono ?_
       rintro e w4 hret
       obtain ⟨v4,rfl,hz4,hB4⟩:=hret.z
       obtain ⟨t4,p4,l4,k4,rfl⟩:=hz4.open
       have hs4:=(HST.out.call hB4).fact (.z (.agg #[.bool t4,.slice p4 l4 k4]) (n:Int)) hz4
       have bR:Bx w4 (w.heap.size+1+1) 35 [.bool false,.slice none 0 0]:=hs4.bx (b:=⟨w.heap.size+1+1,35,[.bool false,.slice none 0 0]⟩) 0 rfl
       obtain ⟨⟨cR0,cR1⟩,fR0,fR1⟩:=bR.f2
       have HFS:=hid ((hs4.store (b:=⟨w.heap.size+1+1,35,[.bool false,.slice none 0 0]⟩) 0 0 (.bool t4) rfl rfl).store (b:=⟨w.heap.size+1+1,35,[.bool t4,.slice none 0 0]⟩) 0 1 (.slice p4 l4 k4) rfl rfl)
       clear bR hs4 hz4 hB4 hret HST
       go_wp2_with fail
       clear cR0 cR1 fR0 fR1
       have bR:=HFS.out.bx (b:=⟨w.heap.size+1+1,35,[.bool t4,.slice p4 l4 k4]⟩) 0 rfl
       obtain ⟨⟨z0,z1⟩,-⟩:=bR.f2
       exact bodyPost_ret (v:=.agg #[.bool t4,.slice p4 l4 k4]) (by simp [results,Tryz.results71,go_sem,z0,z1]) rfl ⟨_,rfl,by rw [← hgn.out];exact HFS.out.get (f:=.z (.agg #[.bool t4,.slice p4 l4 k4]) (n:Int)) 0 rfl,HFS.out.bel⟩
      ·obtain ⟨r,hr⟩:∃ r,n % m=r:=⟨_,rfl⟩
       have er:(n:Int) % (m:Int)=(r:Int):=by rw [← hr];omega
       have hrm:r<m:=by rw [← hr];exact Nat.mod_lt _ (by omega)
       have tm:((m:Int) == 0)=false:=by rw [beq_eq_false_iff_ne];omega
       have tm2:((m:Int) != 0)=true:=by rw [bne_iff_ne];omega
       have hgr:Hid (Nat.gcd m r=G):=by show _=_;rw [← HG.out,← hr,Nat.gcd_comm n m,Nat.gcd_rec m n,Nat.gcd_comm]
       clear hr
       go_wp2
       go_quiet (fail)
       go_wp2
       go_roundw
       case rel=>exact ⟨m,r,_,rfl,by rw [er],hm,by omega,hgr.out,by rw [HW3.out];simp only [World.drewN_drewN];rfl⟩
       case measure=>simp [intOf];omega
    ·go_wp2_with fail
     refine (Au false _ xs _ HEu.out.lx HEu.out.dx h4).mono ?_
     rintro e w1 ⟨rfl,hB1⟩
     have HB1:=hid hB1
     clear hB1
     go_wp2_with fail
     refine (Ar false _ ys _ (HEu.out.ly.below HB1.out) HEu.out.dy h5).mono ?_
     rintro e w2 ⟨rfl,hB2⟩
     have hB12:=HB1.out.trans (hB2.mono HB1.out.size)
     have HSt2:=hid (HSt.out.call hB12)
     have HB12:=hid hB12
     clear HB1 hB2 HSt hB12
     go_wp2_with fail
     refine (zZ _ _ xs ys _ (HEu.out.lx.below HB12.out) (HEu.out.ly.below HB12.out) HEu.out.dx HEu.out.dy HEu.out.ty HM.out hlx hly).mono ?_
     rintro e w3 ⟨qv,qs,rv,rs,rfl,hq1,hq2,hq3,hq4,hr1,hr2,hr3,hr4,hB3⟩
     have HN:=hid (EuR.mk (G:=G) (N:=N) (g:=val ys % 1+val rs) (HEu.out.ly.below (HB12.out.trans (hB3.mono HB12.out.size))) (hr1.mono (Nat.zero_le _)) HEu.out.dy hr2 HEu.out.ty hr3 (by omega) (by rw [hr4,← HEu.out.gcd,Nat.gcd_comm (val xs),Nat.gcd_rec (val ys) (val xs),Nat.gcd_comm]) HEu.out.sy (by have:=HEu.out.sy;have:=Nat.mod_lt (val xs) HM.out;omega))
     have HL:=hid (show val rs<gk by have h1:=HEu.out.vy;have h2:=Nat.mod_lt (val xs) HM.out;omega)
     have HSt3:=hid (HSt2.out.call hB3)
     obtain ⟨pq,bq,oq,kq,rfl,-,-,-,-⟩:=hq1.shape
     obtain ⟨pr,br,orr,kr,rfl,-,-,-,-⟩:=hr1.shape
     clear hq1 hq2 hq3 hq4 hr1 hr2 hr3 hr4 hB3 HSt2 HB12 HEu HM
     go_wp2
     go_roundg (val rs)
     case rel=>exact ⟨ys,rs,by have:=HN.out;rwa [Nat.mod_one,Nat.zero_add] at this,HSt3.out⟩
     case measure=>exact HL.out
   ·by_cases h5:ys.length≤4
    ·go_wp2_with fail
     refine (Ar false _ xs _ HEu.out.lx HEu.out.dx h4).mono ?_
     rintro e w1 ⟨rfl,hB1⟩
     have HB1:=hid hB1
     clear hB1
     go_wp2_with fail
     refine (Au false _ ys _ (HEu.out.ly.below HB1.out) HEu.out.dy h5).mono ?_
     rintro e w2 ⟨rfl,hB2⟩
     have hB12:=HB1.out.trans (hB2.mono HB1.out.size)
     have HSt2:=hid (HSt.out.call hB12)
     have HB12:=hid hB12
     clear HB1 hB2 HSt hB12
     go_wp2_with fail
     refine (zZ _ _ xs ys _ (HEu.out.lx.below HB12.out) (HEu.out.ly.below HB12.out) HEu.out.dx HEu.out.dy HEu.out.ty HM.out hlx hly).mono ?_
     rintro e w3 ⟨qv,qs,rv,rs,rfl,hq1,hq2,hq3,hq4,hr1,hr2,hr3,hr4,hB3⟩
     have HN:=hid (EuR.mk (G:=G) (N:=N) (g:=val ys % 1+val rs) (HEu.out.ly.below (HB12.out.trans (hB3.mono HB12.out.size))) (hr1.mono (Nat.zero_le _)) HEu.out.dy hr2 HEu.out.ty hr3 (by omega) (by rw [hr4,← HEu.out.gcd,Nat.gcd_comm (val xs),Nat.gcd_rec (val ys) (val xs),Nat.gcd_comm]) HEu.out.sy (by have:=HEu.out.sy;have:=Nat.mod_lt (val xs) HM.out;omega))
     have HL:=hid (show val rs<gk by have h1:=HEu.out.vy;have h2:=Nat.mod_lt (val xs) HM.out;omega)
     have HSt3:=hid (HSt2.out.call hB3)
     obtain ⟨pq,bq,oq,kq,rfl,-,-,-,-⟩:=hq1.shape
     obtain ⟨pr,br,orr,kr,rfl,-,-,-,-⟩:=hr1.shape
     clear hq1 hq2 hq3 hq4 hr1 hr2 hr3 hr4 hB3 HSt2 HB12 HEu HM
     go_wp2
     go_roundg (val rs)
     case rel=>exact ⟨ys,rs,by have:=HN.out;rwa [Nat.mod_one,Nat.zero_add] at this,HSt3.out⟩
     case measure=>exact HL.out
    ·go_wp2_with fail
     refine (Ar false _ xs _ HEu.out.lx HEu.out.dx h4).mono ?_
     rintro e w1 ⟨rfl,hB1⟩
     have HB1:=hid hB1
     clear hB1
     go_wp2_with fail
     refine (Ar false _ ys _ (HEu.out.ly.below HB1.out) HEu.out.dy h5).mono ?_
     rintro e w2 ⟨rfl,hB2⟩
     have hB12:=HB1.out.trans (hB2.mono HB1.out.size)
     have HSt2:=hid (HSt.out.call hB12)
     have HB12:=hid hB12
     clear HB1 hB2 HSt hB12
     go_wp2_with fail
     refine (zZ _ _ xs ys _ (HEu.out.lx.below HB12.out) (HEu.out.ly.below HB12.out) HEu.out.dx HEu.out.dy HEu.out.ty HM.out hlx hly).mono ?_
     rintro e w3 ⟨qv,qs,rv,rs,rfl,hq1,hq2,hq3,hq4,hr1,hr2,hr3,hr4,hB3⟩
     have HN:=hid (EuR.mk (G:=G) (N:=N) (g:=val ys % 1+val rs) (HEu.out.ly.below (HB12.out.trans (hB3.mono HB12.out.size))) (hr1.mono (Nat.zero_le _)) HEu.out.dy hr2 HEu.out.ty hr3 (by omega) (by rw [hr4,← HEu.out.gcd,Nat.gcd_comm (val xs),Nat.gcd_rec (val ys) (val xs),Nat.gcd_comm]) HEu.out.sy (by have:=HEu.out.sy;have:=Nat.mod_lt (val xs) HM.out;omega))
     have HL:=hid (show val rs<gk by have h1:=HEu.out.vy;have h2:=Nat.mod_lt (val xs) HM.out;omega)
     have HSt3:=hid (HSt2.out.call hB3)
     obtain ⟨pq,bq,oq,kq,rfl,-,-,-,-⟩:=hq1.shape
     obtain ⟨pr,br,orr,kr,rfl,-,-,-,-⟩:=hr1.shape
     clear hq1 hq2 hq3 hq4 hr1 hr2 hr3 hr4 hB3 HSt2 HB12 HEu HM
     go_wp2
     go_roundg (val rs)
     case rel=>exact ⟨ys,rs,by have:=HN.out;rwa [Nat.mod_one,Nat.zero_add] at this,HSt3.out⟩
     case measure=>exact HL.out
end Z4
namespace Z4
open Go.RowKit Go.Sort
attribute [local go_sem] takes gU gQ gK
def IsR (W:World) (v:Value) (r:Rat):Prop:=∃ (t:Bool) (p:Option Addr) (l k:Nat) (p':Option Addr) (l' k':Nat),v=.agg #[.bool t,.slice p l k,.bool false,.slice p' l' k']∧IsZ W (.agg #[.bool t,.slice p l k]) r.num∧IsZ W (.agg #[.bool false,.slice p' l' k']) (r.den:Int)
theorem IsR.below {W W':World} {v:Value} {r:Rat} (h:IsR W v r) (hb:Below W.heap.size W W'):IsR W' v r:=by
 obtain ⟨t,p,l,k,p',l',k',e,h1,h2⟩:=h
 exact ⟨t,p,l,k,p',l',k',e,h1.below hb,h2.below hb⟩
def jB (w:World) (r:Rat) (e:Ending) (w':World):Prop:=∃ v,e=.returned v∧IsR w' v r∧Below w.heap.size w w'
theorem wP (z:Int) (m g:Nat) (hm:m≠0) (hg:Nat.gcd z.natAbs m=g):(mkRat z m).num.natAbs=z.natAbs / g∧decide ((mkRat z m).num<0)=decide (z<0)∧(mkRat z m).den=m / g:=by
 subst hg
 obtain ⟨g0,g1,g2⟩:=tV z.natAbs m hm
 have e:=KW (decide (z<0)) z.natAbs m (Nat.gcd z.natAbs m) hm g0 (Nat.gcd_dvd_left _ _) (Nat.gcd_dvd_right _ _)
 rw [AX] at e
 obtain ⟨k1,k2⟩:=KX (z:=zs (decide (z<0)) (z.natAbs / Nat.gcd z.natAbs m)) g2 (by rw [pI];exact g1)
 rw [← e]
 refine ⟨by rw [k1,pI],?_,k2⟩
 rw [k1]
 by_cases h0:z.natAbs / Nat.gcd z.natAbs m=0
 ·have hz:z.natAbs=0:=by
   have h1:=Nat.div_mul_cancel (Nat.gcd_dvd_left z.natAbs m)
   rw [h0,Nat.zero_mul] at h1
   exact h1.symm
  have:z=0:=by omega
  subst this
  simp [zs]
 ·rw [OJ h0]
theorem IsZ.to {W:World} {t:Bool} {p:Option Addr} {l k:Nat} {z z':Int} (h:IsZ W (.agg #[.bool t,.slice p l k]) z) (e:z=z'):IsZ W (.agg #[.bool t,.slice p l k]) z':=e ▸ h
theorem IsZ.parts {W:World} {t:Bool} {p:Option Addr} {l k:Nat} {z:Int} (h:IsZ W (.agg #[.bool t,.slice p l k]) z):∃ xs,t=decide (z<0)∧IsL 0 W (.slice p l k) xs∧Dig xs∧aC xs∧val xs=z.natAbs:=by
 obtain ⟨p',l',k',xs,e,h1,h2,h3,h4⟩:=h
 injection e with e
 have e0:Value.bool t=Value.bool (decide (z<0)):=by have:=congrArg (fun a:Array Value=>a[0]!) e;simpa using this
 have e1:Value.slice p l k=Value.slice p' l' k':=by have:=congrArg (fun a:Array Value=>a[1]!) e;simpa using this
 injection e0 with e0
 rw [← e1] at h1
 exact ⟨xs,e0,h1,h2,h3,h4⟩
theorem Ji (r:Rat) (v:Value) (w:World) (h:IsR w v r):Calls Tryz.prog 40 #[v] w (iO w (r.den:Int)):=by
 obtain ⟨t,p,l,k,p',l',k',rfl,-,h2⟩:=h
 obtain ⟨ys,-,hL,dy,ty,hv⟩:=h2.parts
 have hl:=hL.len
 have hne:¬ (l' = 0):=fun e=>by
  have:=(rU dy ty).1 (by omega)
  rw [hv] at this
  have:=r.den_pos
  omega
 have t1:((l':Int) == 0)=false:=by rw [beq_eq_false_iff_ne];omega
 have H2:=hid h2
 clear hL dy ty hv hl h2
 go_enter Tryz.func40,Tryz.ntmps40
 go_wp2
 have hE:=hid (((St.start w).alloc' (w.heap.size) (by simp) 37 [.bool t,.slice p l k,.bool false,.slice p' l' k']).alloc' (w.heap.size+1) (by simp) 35 [.bool false,.slice p' l' k'])
 exact bodyPost_ret (v:=.agg #[.bool false,.slice p' l' k']) (by simp [results,Tryz.results40,go_sem]) rfl ⟨_,rfl,H2.out.below hE.out.bel,hE.out.bel⟩
end Z4
namespace Z4
open Go.RowKit Go.Sort
attribute [local go_sem] takes gU gQ gK
theorem IsR.open {W:World} {v:Value} {r:Rat} (h:IsR W v r):∃ (t:Bool) (p:Option Addr) (l k:Nat) (p':Option Addr) (l' k':Nat),v=.agg #[.bool t,.slice p l k,.bool false,.slice p' l' k']:=by
 obtain ⟨t,p,l,k,p',l',k',e,-⟩:=h
 exact ⟨t,p,l,k,p',l',k',e⟩
theorem IsR.setBox {W:World} {v:Value} {r:Rat} {b i:Nat} {T:TypeId} {vs:List Value} {u:Value} (h:IsR W v r) (hb:Bx W b T vs) (ok:fQ vs=true):IsR (W.setCell ⟨b,i,none⟩ u) v r:=by
 obtain ⟨t,p,l,k,p',l',k',e,h1,h2⟩:=h
 exact ⟨t,p,l,k,p',l',k',e,h1.setBox hb ok,h2.setBox hb ok⟩
theorem IsR.num {W:World} {t b:Bool} {p p':Option Addr} {l k l' k':Nat} {r:Rat} (h:IsR W (.agg #[.bool t,.slice p l k,.bool b,.slice p' l' k']) r):IsZ W (.agg #[.bool t,.slice p l k]) r.num:=by
 obtain ⟨t2,p2,l2,k2,p3,l3,k3,e,h1,h2⟩:=h
 injection e with e
 have e0:Value.bool t=Value.bool t2:=by have:=congrArg (fun a:Array Value=>a[0]!) e;simpa using this
 have e1:Value.slice p l k=Value.slice p2 l2 k2:=by have:=congrArg (fun a:Array Value=>a[1]!) e;simpa using this
 rw [e0,e1]
 exact h1
theorem IsR.d {W:World} {t b:Bool} {p p':Option Addr} {l k l' k':Nat} {r:Rat} (h:IsR W (.agg #[.bool t,.slice p l k,.bool b,.slice p' l' k']) r):IsZ W (.agg #[.bool b,.slice p' l' k']) (r.den:Int):=by
 obtain ⟨t2,p2,l2,k2,p3,l3,k3,e,h1,h2⟩:=h
 injection e with e
 have e0:Value.bool b=Value.bool false:=by have:=congrArg (fun a:Array Value=>a[2]!) e;simpa using this
 have e1:Value.slice p' l' k' = Value.slice p3 l3 k3:=by have:=congrArg (fun a:Array Value=>a[3]!) e;simpa using this
 rw [e0,e1]
 exact h2
theorem IsR.mk2 {W:World} {t:Bool} {p p':Option Addr} {l k l' k':Nat} {r:Rat} (h1:IsZ W (.agg #[.bool t,.slice p l k]) r.num) (h2:IsZ W (.agg #[.bool false,.slice p' l' k']) (r.den:Int)):IsR W (.agg #[.bool t,.slice p l k,.bool false,.slice p' l' k']) r:=⟨_,_,_,_,_,_,_,rfl,h1,h2⟩
end Z4
section
open Go.RowKit Go.Sort
attribute [local go_sem] takes gU gQ gK
theorem WB (r s:Rat):mkRat (r.num*s.num) (r.den*s.den)=r*s:=by
 rw [← Rat.mkRat_mul_mkRat,Rat.mkRat_self,Rat.mkRat_self]
theorem Wv (r s:Rat):(r*s).num.natAbs≤r.num.natAbs*s.num.natAbs∧(r*s).den≤r.den*s.den:=by
 have h0:r.den*s.den≠0:=Nat.mul_ne_zero r.den_nz s.den_nz
 obtain ⟨h1,-,h3⟩:=Z4.wP (r.num*s.num) (r.den*s.den) _ h0 rfl
 rw [WB] at h1 h3
 exact ⟨by rw [h1,Int.natAbs_mul];exact Nat.div_le_self _ _,by rw [h3];exact Nat.div_le_self _ _⟩
theorem Fits.mul {a b:Nat} {r s:Rat} (h:Fits a r) (k:Fits b s):Fits (a+b) (r*s):=by
 obtain ⟨h1,h2⟩:=Wv r s
 refine ⟨Nat.lt_of_le_of_lt h1 ?_,Nat.lt_of_le_of_lt h2 ?_⟩ <;> rw [Nat.pow_add]
 ·exact Nat.mul_lt_mul'' h.1 k.1
 ·exact Nat.mul_lt_mul'' h.2 k.2
theorem Fits.mono {a b:Nat} {r:Rat} (h:Fits a r) (hab:a≤b):Fits b r:=
 ⟨Nat.lt_of_lt_of_le h.1 (Nat.pow_le_pow_right aT hab),Nat.lt_of_lt_of_le h.2 (Nat.pow_le_pow_right aT hab)⟩
def rp (r:Rat):Nat→Rat
 | 0=>r
 | j+1=>rp r j*r
theorem vM {x:Nat} (h:x<B64 ^ 4):x<Z4.B4 ^ 20:=Nat.lt_of_lt_of_le h (by decide)
def numOf (n d:Int) (pw:Nat):Rat:=rp ((n:Rat) / (((if d=0 then 1 else d):Int):Rat)) (pw % 4)
end
end Go.Proofs.YtancpaiaoamjlaaGreatDoor
