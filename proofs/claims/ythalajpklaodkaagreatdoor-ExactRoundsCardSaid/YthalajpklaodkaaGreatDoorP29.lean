/- What the proof rests on, part 29. -/
import Derived.Test.YthalajpklaodkaaGreatDoorP28
import Derived.Test.YthalajpklaodkaaGreatDoorP23
import Derived.Test.YthalajpklaodkaaGreatDoorP17
import Derived.Test.YthalajpklaodkaaGreatDoorP15
import Derived.Test.YthalajpklaodkaaGreatDoorP26
import Derived.Test.YthalajpklaodkaaGreatDoorP22
namespace Go.Proofs.YthalajpklaodkaaGreatDoor
set_option maxRecDepth 100000
set_option maxHeartbeats 80000000
section
open Go.RowKit Go.Sort
attribute [local go_sem] takes fP fO fM
theorem TW (r s:Rat):mkRat (r.num*s.num) (r.den*s.den)=r*s:=by
 rw [← Rat.mkRat_mul_mkRat,Rat.mkRat_self,Rat.mkRat_self]
theorem TU (r s:Rat):(r*s).num.natAbs≤r.num.natAbs*s.num.natAbs∧(r*s).den≤r.den*s.den:=by
 have h0:r.den*s.den≠0:=Nat.mul_ne_zero r.den_nz s.den_nz
 obtain ⟨h1,-,h3⟩:=Z4.rW (r.num*s.num) (r.den*s.den) _ h0 rfl
 rw [TW] at h1 h3
 exact ⟨by rw [h1,Int.natAbs_mul];exact Nat.div_le_self _ _,by rw [h3];exact Nat.div_le_self _ _⟩
theorem Fits.mul {a b:Nat} {r s:Rat} (h:Fits a r) (k:Fits b s):Fits (a+b) (r*s):=by
 obtain ⟨h1,h2⟩:=TU r s
 refine ⟨Nat.lt_of_le_of_lt h1 ?_,Nat.lt_of_le_of_lt h2 ?_⟩ <;> rw [Nat.pow_add]
 ·exact Nat.mul_lt_mul'' h.1 k.1
 ·exact Nat.mul_lt_mul'' h.2 k.2
theorem Fits.mono {a b:Nat} {r:Rat} (h:Fits a r) (hab:a≤b):Fits b r:=
 ⟨Nat.lt_of_lt_of_le h.1 (Nat.pow_le_pow_right aP hab),Nat.lt_of_lt_of_le h.2 (Nat.pow_le_pow_right aP hab)⟩
def rp (r:Rat):Nat→Rat
 | 0=>r
 | j+1=>rp r j*r
theorem yw {r:Rat} (h:Fits 1 r):∀ j:Nat,Fits (j+1) (rp r j)
 | 0=>h
 | j+1=>(yw h j).mul h
theorem Bl (n d:Int) (h1:-9223372036854775808≤n) (h2:n≤9223372036854775807) (h3:-9223372036854775808≤d) (h4:d≤9223372036854775807) (hd:d≠0):Fits 1 ((n:Rat) / (d:Rat)):=by
 have key:∀ (z:Int) (m:Nat),m≠0→z.natAbs<B64→m<B64→Fits 1 (mkRat z m):=fun z m hm a b=>by
  obtain ⟨e1,-,e3⟩:=Z4.rW z m _ hm rfl
  unfold Fits
  rw [Nat.pow_one,e1,e3]
  exact ⟨Nat.lt_of_le_of_lt (Nat.div_le_self _ _) a,Nat.lt_of_le_of_lt (Nat.div_le_self _ _) b⟩
 rcases Int.lt_or_le d 0 with h0 | h0
 ·obtain ⟨m,rfl⟩:∃ m:Nat,d = -(m:Int):=⟨d.natAbs,by omega⟩
  rw [show (n:Rat) / ((-(m:Int):Int):Rat)=mkRat (-n) m by rw [← Rat.divInt_eq_div,← Rat.divInt_ofNat,Rat.divInt_eq_divInt_iff (by omega) (by omega)];grind]
  exact key _ _ (by omega) (by unfold B64;omega) (by unfold B64;omega)
 ·obtain ⟨m,rfl⟩:∃ m:Nat,d=(m:Int):=⟨d.natAbs,by omega⟩
  rw [show (n:Rat) / (((m:Int):Int):Rat)=mkRat n m by rw [← Rat.divInt_eq_div,← Rat.divInt_ofNat]]
  exact key _ _ (by omega) (by unfold B64;omega) (by unfold B64;omega)
theorem kC {x:Nat} (h:x<B64 ^ 4):x<Z4.B4 ^ 20:=Nat.lt_of_lt_of_le h (by decide)
def vG (w:World) (r:Rat) (e:Ending) (w':World):Prop:=∃ v v',e=.returned (.tuple #[v,v'])∧IsQ w' v r∧Z4.IsR w' v' r∧Below w.heap.size w w'
theorem MC (n d:Int) (pw:Nat) (hp:pw<256) (h1:-9223372036854775808≤n) (h2:n≤9223372036854775807) (h3:-9223372036854775808≤d) (h4:d≤9223372036854775807) (hd:d≠0) (w:World) (hT:Tab w) :
  Calls Tryz.prog 10 #[.agg #[.int .i64 n,.int .i64 d,.int .u8 (pw:Int)]] w (vG w (rp ((n:Rat) / ((d:Int):Rat)) (pw % 4))):=by
 have HO:=hid (fun (W:World) (hT:Tab W)=>zf n d h1 (by omega) h3 (by omega) hd W hT)
 have HP:=hid (fun (W:World)=>Z4.Dt n d h1 h2 h3 h4 hd W)
 have HFit:=hid (Bl n d h1 h2 h3 h4 hd)
 obtain ⟨R,hR⟩:∃ R,(n:Rat) / (d:Rat)=R:=⟨_,rfl⟩
 rw [hR] at HO HP HFit ⊢
 have td:(d == 0)=false:=by rw [beq_eq_false_iff_ne];exact hd
 obtain ⟨m,hm⟩:∃ m,pw % 4=m:=⟨_,rfl⟩
 rw [hm]
 have hm4:m<4:=by omega
 have em:(pw:Int) % 4=(m:Int):=by omega
 have HT:=hid hT
 clear hT h1 h2 h3 h4 hd hR hm
 go_enter Tryz.func10,Tryz.ntmps10
 go_wp2_with fail
 have hS0:=hid ((((St.start w).alloc' (w.heap.size) (by simp) 23 [.int .i64 n,.int .i64 d,.int .u8 (pw:Int)]).alloc' (w.heap.size+1) (by simp) 32 z5).alloc' (w.heap.size+1+1) (by simp) 37 [.bool false,.slice none 0 0,.bool false,.slice none 0 0])
 obtain ⟨W0,hW0⟩:=aN hS0
 rw [hW0] at hS0 ⊢
 clear hW0
 refine (HO.out _ (HT.out.below hS0.out.bel (Nat.le_refl _))).mono ?_
 rintro e w1 ⟨v1,rfl,hv1,hB⟩
 have hS1:=hid (hS0.out.call hB)
 clear hB
 clear hS0
 obtain ⟨t1,x1,p1,l1,q1,y1,r1,s1,u1,rfl⟩:=hv1.open
 have hS2:=hid (hS1.out.fq hv1)
 clear hS1 hv1
 obtain ⟨ne1l,ne1,ne1'⟩:=hS2.out.ne 2 w.heap.size 23 [.int .i64 n,.int .i64 d,.int .u8 (pw:Int)] rfl
 obtain ⟨ne2l,ne2,ne2'⟩:=hS2.out.ne 1 (w.heap.size+1) 32 z5 rfl
 obtain ⟨ne3l,ne3,ne3'⟩:=hS2.out.ne 0 (w.heap.size+1+1) 37 [.bool false,.slice none 0 0,.bool false,.slice none 0 0] rfl
 obtain ⟨⟨cA0,cA1,cA2⟩,fA0,fA1,fA2⟩:=hS2.out.f3 2 w.heap.size 23 (.int .i64 n) (.int .i64 d) (.int .u8 (pw:Int)) rfl
 go_wp2_with fail
 clear cA0 cA1 cA2 fA0 fA1 fA2
 have hA1:=hid ((hS2.out).alloc' (w1.heap.size) (by simp) 32 (c5 t1 x1 p1 l1 q1 y1 r1 s1 u1))
 refine (HP.out _).mono ?_
 rintro e w2 ⟨v2,rfl,hv2,hB⟩
 have hS3:=hid (hA1.out.call hB)
 clear hB
 clear hA1
 obtain ⟨t2,p2,l2,k2,r2,s2,u2,rfl⟩:=hv2.open
 have hn2:=hv2.num
 have hd2:=hv2.d
 clear hv2
 have hS4:=hid (hS3.out.fact (.z (.agg #[.bool t2,.slice p2 l2 k2]) R.num) hn2)
 clear hS3 hn2
 have hS5:=hid (hS4.out.fact (.z (.agg #[.bool false,.slice r2 s2 u2]) (R.den:Int)) hd2)
 clear hS4 hd2
 obtain ⟨ne4l,ne4,ne4'⟩:=hS5.out.ne 3 w.heap.size 23 [.int .i64 n,.int .i64 d,.int .u8 (pw:Int)] rfl
 obtain ⟨ne5l,ne5,ne5'⟩:=hS5.out.ne 2 (w.heap.size+1) 32 z5 rfl
 obtain ⟨ne6l,ne6,ne6'⟩:=hS5.out.ne 1 (w.heap.size+1+1) 37 [.bool false,.slice none 0 0,.bool false,.slice none 0 0] rfl
 obtain ⟨ne7l,ne7,ne7'⟩:=hS5.out.ne 0 w1.heap.size 32 (c5 t1 x1 p1 l1 q1 y1 r1 s1 u1) rfl
 go_wp2_with fail
 have hS6:=hid ((hS5.out).alloc' (w2.heap.size) (by simp) 37 [.bool t2,.slice p2 l2 k2,.bool false,.slice r2 s2 u2])
 obtain ⟨W2,hW2⟩:=aN hS6
 rw [hW2] at hS6 ⊢
 clear hW2
 obtain ⟨ne8l,ne8,ne8'⟩:=hS6.out.ne 4 w.heap.size 23 [.int .i64 n,.int .i64 d,.int .u8 (pw:Int)] rfl
 obtain ⟨ne9l,ne9,ne9'⟩:=hS6.out.ne 3 (w.heap.size+1) 32 z5 rfl
 obtain ⟨ne10l,ne10,ne10'⟩:=hS6.out.ne 2 (w.heap.size+1+1) 37 [.bool false,.slice none 0 0,.bool false,.slice none 0 0] rfl
 obtain ⟨ne11l,ne11,ne11'⟩:=hS6.out.ne 1 w1.heap.size 32 (c5 t1 x1 p1 l1 q1 y1 r1 s1 u1) rfl
 obtain ⟨ne12l,ne12,ne12'⟩:=hS6.out.ne 0 w2.heap.size 37 [.bool t2,.slice p2 l2 k2,.bool false,.slice r2 s2 u2] rfl
 obtain ⟨⟨ca0,ca1,ca2,ca3,ca4⟩,fa0,fa1,fa2,fa3,fa4⟩:=hS6.out.f5 1 w1.heap.size 32 (.bool t1) (.int .u64 x1) (.slice p1 l1 q1) (.int .u64 y1) (.slice r1 s1 u1) rfl
 obtain ⟨⟨cb0,cb1,cb2,cb3⟩,fb0,fb1,fb2,fb3⟩:=hS6.out.f4 0 w2.heap.size 37 (.bool t2) (.slice p2 l2 k2) (.bool false) (.slice r2 s2 u2) rfl
 go_region
 clear ca0 ca1 ca2 ca3 ca4 fa0 fa1 fa2 fa3 fa4 cb0 cb1 cb2 cb3 fb0 fb1 fb2 fb3
 have hS7:=hid ((((hS6.out).alloc' (W2.heap.size) (by simp) 32 (c5 t1 x1 p1 l1 q1 y1 r1 s1 u1)).alloc' (W2.heap.size+1) (by simp) 37 [.bool t2,.slice p2 l2 k2,.bool false,.slice r2 s2 u2]).drew)
 obtain ⟨W3,hW3⟩:=aN hS7
 rw [hW3] at hS7 ⊢
 clear hW3
 obtain ⟨Lq,hLa⟩:∃ L,W2.heap.size=L:=⟨_,rfl⟩
 rw [hLa] at hS7 ⊢
 obtain ⟨Lr,hLb⟩:∃ L,Lq+1=L:=⟨_,rfl⟩
 rw [hLb] at hS7 ⊢
 clear hLa hLb
 clear ne8l ne8 ne8' ne9l ne9 ne9' ne10l ne10 ne10' ne11l ne11 ne11' ne12l ne12 ne12'
 rotate_left
 clear ca0 ca1 ca2 ca3 ca4 fa0 fa1 fa2 fa3 fa4 cb0 cb1 cb2 cb3 fb0 fb1 fb2 fb3
 have hS7:=hid ((((hS6.out).alloc' (W2.heap.size) (by simp) 37 [.bool t2,.slice p2 l2 k2,.bool false,.slice r2 s2 u2]).alloc' (W2.heap.size+1) (by simp) 32 (c5 t1 x1 p1 l1 q1 y1 r1 s1 u1)).drew)
 obtain ⟨W3,hW3⟩:=aN hS7
 rw [hW3] at hS7 ⊢
 clear hW3
 obtain ⟨Lr,hLa⟩:∃ L,W2.heap.size=L:=⟨_,rfl⟩
 rw [hLa] at hS7 ⊢
 obtain ⟨Lq,hLb⟩:∃ L,Lr+1=L:=⟨_,rfl⟩
 rw [hLb] at hS7 ⊢
 clear hLa hLb
 clear ne8l ne8 ne8' ne9l ne9 ne9' ne10l ne10 ne10' ne11l ne11 ne11' ne12l ne12 ne12'
 replace hS7:=hid hS7.out.swap
 all_goals
  obtain ⟨m01,n01⟩:=hS7.out.apart 0 1 rfl rfl (by decide)
  simp only at m01 n01
  obtain ⟨m02,n02⟩:=hS7.out.apart 0 2 rfl rfl (by decide)
  simp only at m02 n02
  obtain ⟨m03,n03⟩:=hS7.out.apart 0 3 rfl rfl (by decide)
  simp only at m03 n03
  obtain ⟨m04,n04⟩:=hS7.out.apart 0 4 rfl rfl (by decide)
  simp only at m04 n04
  obtain ⟨m05,n05⟩:=hS7.out.apart 0 5 rfl rfl (by decide)
  simp only at m05 n05
  obtain ⟨m06,n06⟩:=hS7.out.apart 0 6 rfl rfl (by decide)
  simp only at m06 n06
  obtain ⟨m12,n12⟩:=hS7.out.apart 1 2 rfl rfl (by decide)
  simp only at m12 n12
  obtain ⟨m13,n13⟩:=hS7.out.apart 1 3 rfl rfl (by decide)
  simp only at m13 n13
  obtain ⟨m14,n14⟩:=hS7.out.apart 1 4 rfl rfl (by decide)
  simp only at m14 n14
  obtain ⟨m15,n15⟩:=hS7.out.apart 1 5 rfl rfl (by decide)
  simp only at m15 n15
  obtain ⟨m16,n16⟩:=hS7.out.apart 1 6 rfl rfl (by decide)
  simp only at m16 n16
  go_wp2_with fail
  go_loopw [9] (fun iv wr=>∃ (j:Nat) (t3:Bool) (x3:Int) (p3:Option Addr) (l3 q3:Nat) (y3:Int) (r3:Option Addr) (s3 u3:Nat) (t4:Bool) (p4:Option Addr) (l4 k4:Nat) (r4:Option Addr) (s4 u4:Nat),iv=.int .u8 (j:Int)∧j≤m∧St w [⟨Lr,37,[.bool t4,.slice p4 l4 k4,.bool false,.slice r4 s4 u4]⟩,⟨Lq,32,(c5 t3 x3 p3 l3 q3 y3 r3 s3 u3)⟩,⟨w2.heap.size,37,[.bool t2,.slice p2 l2 k2,.bool false,.slice r2 s2 u2]⟩,⟨w1.heap.size,32,(c5 t1 x1 p1 l1 q1 y1 r1 s1 u1)⟩,⟨w.heap.size+1+1,37,[.bool false,.slice none 0 0,.bool false,.slice none 0 0]⟩,⟨w.heap.size+1,32,z5⟩,⟨w.heap.size,23,[.int .i64 n,.int .i64 d,.int .u8 (pw:Int)]⟩] [.z (.agg #[.bool false,.slice r4 s4 u4]) ((rp R j).den:Int),.z (.agg #[.bool t4,.slice p4 l4 k4]) (rp R j).num,.q (.agg #[.bool t3,.int .u64 x3,.slice p3 l3 q3,.int .u64 y3,.slice r3 s3 u3]) (rp R j),.z (.agg #[.bool false,.slice r2 s2 u2]) (R.den:Int),.z (.agg #[.bool t2,.slice p2 l2 k2]) R.num,.q (.agg #[.bool t1,.int .u64 x1,.slice p1 l1 q1,.int .u64 y1,.slice r1 s1 u1]) R] wr) (fun iv _=>m - (intOf iv).toNat)
  case atStart =>
   have h1:=hS7.out.get (f:=.q (.agg #[.bool t1,.int .u64 x1,.slice p1 l1 q1,.int .u64 y1,.slice r1 s1 u1]) R) 2 rfl
   have h2:=hS7.out.get (f:=.z (.agg #[.bool t2,.slice p2 l2 k2]) R.num) 1 rfl
   have h3:=hS7.out.get (f:=.z (.agg #[.bool false,.slice r2 s2 u2]) (R.den:Int)) 0 rfl
   exact ⟨0,t1,x1,p1,l1,q1,y1,r1,s1,u1,t2,p2,l2,k2,r2,s2,u2,rfl,Nat.zero_le _,((hS7.out.fact (.q (.agg #[.bool t1,.int .u64 x1,.slice p1 l1 q1,.int .u64 y1,.slice r1 s1 u1]) (rp R 0)) h1).fact (.z (.agg #[.bool t2,.slice p2 l2 k2]) (rp R 0).num) h2).fact (.z (.agg #[.bool false,.slice r2 s2 u2]) ((rp R 0).den:Int)) h3⟩
  case round =>
   clear hS7
   obtain ⟨j,t3,x3,p3,l3,q3,y3,r3,s3,u3,t4,p4,l4,k4,r4,s4,u4,rfl,hj,hSt⟩:=hrel
   have HS:=hid hSt
   clear hSt
   by_cases hlt:j<m
   ·have hFj:=hid (yw HFit.out j)
    have hcj:(j:Int)<(m:Int):=by omega
    have hj4:j<4:=by omega
    obtain ⟨⟨cA0,cA1,cA2⟩,fA0,fA1,fA2⟩:=HS.out.f3 6 w.heap.size 23 (.int .i64 n) (.int .i64 d) (.int .u8 (pw:Int)) rfl
    obtain ⟨⟨cq0,cq1,cq2,cq3,cq4⟩,fq0,fq1,fq2,fq3,fq4⟩:=HS.out.f5 1 Lq 32 (.bool t3) (.int .u64 x3) (.slice p3 l3 q3) (.int .u64 y3) (.slice r3 s3 u3) rfl
    obtain ⟨⟨ca0,ca1,ca2,ca3,ca4⟩,fa0,fa1,fa2,fa3,fa4⟩:=HS.out.f5 3 w1.heap.size 32 (.bool t1) (.int .u64 x1) (.slice p1 l1 q1) (.int .u64 y1) (.slice r1 s1 u1) rfl
    go_wp2_with fail
    clear cA0 cA1 cA2 fA0 fA1 fA2 cq0 cq1 cq2 cq3 cq4 fq0 fq1 fq2 fq3 fq4 ca0 ca1 ca2 ca3 ca4 fa0 fa1 fa2 fa3 fa4
    refine (jH (rp R j) R _ _ 4 _ (HS.out.gq 2 rfl) (HS.out.gq 5 rfl) (by omega) (hFj.out.mono (by omega)) (HFit.out.mono (by omega)) (HT.out.below HS.out.bel (Nat.le_refl _))).mono ?_
    rintro e w5 ⟨v5,rfl,hv5,hB⟩
    have hS8:=hid (HS.out.call hB)
    clear hB
    clear HS
    obtain ⟨t5,x5,p5,l5,q5,y5,r5,s5,u5,rfl⟩:=hv5.open
    have hS9:=hid (hS8.out.fq hv5)
    clear hS8 hv5
    obtain ⟨⟨cq0,cq1,cq2,cq3,cq4⟩,fq0,fq1,fq2,fq3,fq4⟩:=hS9.out.f5 1 Lq 32 (.bool t3) (.int .u64 x3) (.slice p3 l3 q3) (.int .u64 y3) (.slice r3 s3 u3) rfl
    obtain ⟨⟨cr0,cr1,cr2,cr3⟩,fr0,fr1,fr2,fr3⟩:=hS9.out.f4 0 Lr 37 (.bool t4) (.slice p4 l4 k4) (.bool false) (.slice r4 s4 u4) rfl
    obtain ⟨⟨cb0,cb1,cb2,cb3⟩,fb0,fb1,fb2,fb3⟩:=hS9.out.f4 2 w2.heap.size 37 (.bool t2) (.slice p2 l2 k2) (.bool false) (.slice r2 s2 u2) rfl
    go_wp2_with fail
    clear cq0 cq1 cq2 cq3 cq4 fq0 fq1 fq2 fq3 fq4 cr0 cr1 cr2 cr3 fr0 fr1 fr2 fr3 cb0 cb1 cb2 cb3 fb0 fb1 fb2 fb3
    have hJ:=hid (((((((hS9.out).store (b:=⟨Lq,32,(c5 t3 x3 p3 l3 q3 y3 r3 s3 u3)⟩) 1 0 (.bool t5) rfl rfl).store (b:=⟨Lq,32,(c5 t5 x3 p3 l3 q3 y3 r3 s3 u3)⟩) 1 1 (.int .u64 x5) rfl rfl).store (b:=⟨Lq,32,(c5 t5 x5 p3 l3 q3 y3 r3 s3 u3)⟩) 1 2 (.slice p5 l5 q5) rfl rfl).store (b:=⟨Lq,32,(c5 t5 x5 p5 l5 q5 y3 r3 s3 u3)⟩) 1 3 (.int .u64 y5) rfl rfl).store (b:=⟨Lq,32,(c5 t5 x5 p5 l5 q5 y5 r3 s3 u3)⟩) 1 4 (.slice r5 s5 u5) rfl rfl).as [⟨Lr,37,[.bool t4,.slice p4 l4 k4,.bool false,.slice r4 s4 u4]⟩,⟨Lq,32,(c5 t5 x5 p5 l5 q5 y5 r5 s5 u5)⟩,⟨w2.heap.size,37,[.bool t2,.slice p2 l2 k2,.bool false,.slice r2 s2 u2]⟩,⟨w1.heap.size,32,(c5 t1 x1 p1 l1 q1 y1 r1 s1 u1)⟩,⟨w.heap.size+1+1,37,[.bool false,.slice none 0 0,.bool false,.slice none 0 0]⟩,⟨w.heap.size+1,32,z5⟩,⟨w.heap.size,23,[.int .i64 n,.int .i64 d,.int .u8 (pw:Int)]⟩] rfl)
    refine (Z4.I7 (rp R j) R _ _ _ (.mk2 (hJ.out.get (f:=.z (.agg #[.bool t4,.slice p4 l4 k4]) (rp R j).num) 2 rfl) (hJ.out.get (f:=.z (.agg #[.bool false,.slice r4 s4 u4]) ((rp R j).den:Int)) 1 rfl)) (.mk2 (hJ.out.get (f:=.z (.agg #[.bool t2,.slice p2 l2 k2]) R.num) 5 rfl) (hJ.out.get (f:=.z (.agg #[.bool false,.slice r2 s2 u2]) (R.den:Int)) 4 rfl)) 20 (by omega) (kC (hFj.out.mono (by omega)).1) (kC (HFit.out.mono (by omega)).1) (kC (hFj.out.mono (by omega)).2) (kC (HFit.out.mono (by omega)).2)).mono ?_
    rintro e w6 ⟨v6,rfl,hv6,hB⟩
    have hS10:=hid (hJ.out.call hB)
    clear hB
    clear hJ
    obtain ⟨t6,p6,l6,k6,r6,s6,u6,rfl⟩:=hv6.open
    have hn6:=hv6.num
    have hd6:=hv6.d
    clear hv6
    have hS11:=hid (hS10.out.fact (.z (.agg #[.bool t6,.slice p6 l6 k6]) (rp R (j+1)).num) hn6)
    clear hS10 hn6
    have hS12:=hid (hS11.out.fact (.z (.agg #[.bool false,.slice r6 s6 u6]) ((rp R (j+1)).den:Int)) hd6)
    clear hS11 hd6
    obtain ⟨⟨cr0,cr1,cr2,cr3⟩,fr0,fr1,fr2,fr3⟩:=hS12.out.f4 0 Lr 37 (.bool t4) (.slice p4 l4 k4) (.bool false) (.slice r4 s4 u4) rfl
    go_wp2_with fail
    clear cr0 cr1 cr2 cr3 fr0 fr1 fr2 fr3
    have hK:=hid ((((((hS12.out).store (b:=⟨Lr,37,[.bool t4,.slice p4 l4 k4,.bool false,.slice r4 s4 u4]⟩) 0 0 (.bool t6) rfl rfl).store (b:=⟨Lr,37,[.bool t6,.slice p4 l4 k4,.bool false,.slice r4 s4 u4]⟩) 0 1 (.slice p6 l6 k6) rfl rfl).store (b:=⟨Lr,37,[.bool t6,.slice p6 l6 k6,.bool false,.slice r4 s4 u4]⟩) 0 2 (.bool false) rfl rfl).store (b:=⟨Lr,37,[.bool t6,.slice p6 l6 k6,.bool false,.slice r4 s4 u4]⟩) 0 3 (.slice r6 s6 u6) rfl rfl).as [⟨Lr,37,[.bool t6,.slice p6 l6 k6,.bool false,.slice r6 s6 u6]⟩,⟨Lq,32,(c5 t5 x5 p5 l5 q5 y5 r5 s5 u5)⟩,⟨w2.heap.size,37,[.bool t2,.slice p2 l2 k2,.bool false,.slice r2 s2 u2]⟩,⟨w1.heap.size,32,(c5 t1 x1 p1 l1 q1 y1 r1 s1 u1)⟩,⟨w.heap.size+1+1,37,[.bool false,.slice none 0 0,.bool false,.slice none 0 0]⟩,⟨w.heap.size+1,32,z5⟩,⟨w.heap.size,23,[.int .i64 n,.int .i64 d,.int .u8 (pw:Int)]⟩] rfl)
    go_roundw
    case rel=>exact ⟨j+1,t5,x5,p5,l5,q5,y5,r5,s5,u5,t6,p6,l6,k6,r6,s6,u6,by go_num,by omega,⟨hK.out.bel,hK.out.box,(hK.out.get (f:=.z (.agg #[.bool false,.slice r6 s6 u6]) ((rp R (j+1)).den:Int)) 0 rfl),(hK.out.get (f:=.z (.agg #[.bool t6,.slice p6 l6 k6]) (rp R (j+1)).num) 1 rfl),(hK.out.gq 2 rfl),(hK.out.get (f:=.z (.agg #[.bool false,.slice r2 s2 u2]) (R.den:Int)) 6 rfl),(hK.out.get (f:=.z (.agg #[.bool t2,.slice p2 l2 k2]) R.num) 7 rfl),(hK.out.gq 8 rfl),trivial⟩⟩
    case measure=>simp [intOf];omega
   ·obtain rfl:j=m:=by omega
    have hcj:¬ ((j:Int)<(j:Int)):=by omega
    clear hj
    obtain ⟨⟨cA0,cA1,cA2⟩,fA0,fA1,fA2⟩:=HS.out.f3 6 w.heap.size 23 (.int .i64 n) (.int .i64 d) (.int .u8 (pw:Int)) rfl
    go_wp2_with fail
    clear cA0 cA1 cA2 fA0 fA1 fA2
    obtain ⟨⟨cq0,cq1,cq2,cq3,cq4⟩,fq0,fq1,fq2,fq3,fq4⟩:=HS.out.f5 1 Lq 32 (.bool t3) (.int .u64 x3) (.slice p3 l3 q3) (.int .u64 y3) (.slice r3 s3 u3) rfl
    obtain ⟨⟨cr0,cr1,cr2,cr3⟩,fr0,fr1,fr2,fr3⟩:=HS.out.f4 0 Lr 37 (.bool t4) (.slice p4 l4 k4) (.bool false) (.slice r4 s4 u4) rfl
    obtain ⟨⟨cR10,cR11,cR12,cR13,cR14⟩,fR10,fR11,fR12,fR13,fR14⟩:=HS.out.f5 5 (w.heap.size+1) 32 (.bool false) (.int .u64 0) (.slice none 0 0) (.int .u64 0) (.slice none 0 0) rfl
    obtain ⟨⟨cR20,cR21,cR22,cR23⟩,fR20,fR21,fR22,fR23⟩:=HS.out.f4 4 (w.heap.size+1+1) 37 (.bool false) (.slice none 0 0) (.bool false) (.slice none 0 0) rfl
    go_region
    have hS8:=hid ((((((((((((HS.out).store (b:=⟨w.heap.size+1,32,z5⟩) 5 0 (.bool t3) rfl rfl).store (b:=⟨w.heap.size+1,32,[.bool t3,.int .u64 0,.slice none 0 0,.int .u64 0,.slice none 0 0]⟩) 5 1 (.int .u64 x3) rfl rfl).store (b:=⟨w.heap.size+1,32,[.bool t3,.int .u64 x3,.slice none 0 0,.int .u64 0,.slice none 0 0]⟩) 5 2 (.slice p3 l3 q3) rfl rfl).store (b:=⟨w.heap.size+1,32,[.bool t3,.int .u64 x3,.slice p3 l3 q3,.int .u64 0,.slice none 0 0]⟩) 5 3 (.int .u64 y3) rfl rfl).store (b:=⟨w.heap.size+1,32,[.bool t3,.int .u64 x3,.slice p3 l3 q3,.int .u64 y3,.slice none 0 0]⟩) 5 4 (.slice r3 s3 u3) rfl rfl).store (b:=⟨w.heap.size+1+1,37,[.bool false,.slice none 0 0,.bool false,.slice none 0 0]⟩) 4 0 (.bool t4) rfl rfl).store (b:=⟨w.heap.size+1+1,37,[.bool t4,.slice none 0 0,.bool false,.slice none 0 0]⟩) 4 1 (.slice p4 l4 k4) rfl rfl).store (b:=⟨w.heap.size+1+1,37,[.bool t4,.slice p4 l4 k4,.bool false,.slice none 0 0]⟩) 4 2 (.bool false) rfl rfl).store (b:=⟨w.heap.size+1+1,37,[.bool t4,.slice p4 l4 k4,.bool false,.slice none 0 0]⟩) 4 3 (.slice r4 s4 u4) rfl rfl).drew).as [⟨Lr,37,[.bool t4,.slice p4 l4 k4,.bool false,.slice r4 s4 u4]⟩,⟨Lq,32,(c5 t3 x3 p3 l3 q3 y3 r3 s3 u3)⟩,⟨w2.heap.size,37,[.bool t2,.slice p2 l2 k2,.bool false,.slice r2 s2 u2]⟩,⟨w1.heap.size,32,(c5 t1 x1 p1 l1 q1 y1 r1 s1 u1)⟩,⟨w.heap.size+1+1,37,[.bool t4,.slice p4 l4 k4,.bool false,.slice r4 s4 u4]⟩,⟨w.heap.size+1,32,(c5 t3 x3 p3 l3 q3 y3 r3 s3 u3)⟩,⟨w.heap.size,23,[.int .i64 n,.int .i64 d,.int .u8 (pw:Int)]⟩] rfl)
    go_wp2_with fail
    clear cq0 cq1 cq2 cq3 cq4 fq0 fq1 fq2 fq3 fq4 cr0 cr1 cr2 cr3 fr0 fr1 fr2 fr3 cR10 cR11 cR12 cR13 cR14 fR10 fR11 fR12 fR13 fR14 cR20 cR21 cR22 cR23 fR20 fR21 fR22 fR23
    obtain ⟨⟨zR10,zR11,zR12,zR13,zR14⟩,-⟩:=hS8.out.f5 5 (w.heap.size+1) 32 (.bool t3) (.int .u64 x3) (.slice p3 l3 q3) (.int .u64 y3) (.slice r3 s3 u3) rfl
    obtain ⟨⟨zR20,zR21,zR22,zR23⟩,-⟩:=hS8.out.f4 4 (w.heap.size+1+1) 37 (.bool t4) (.slice p4 l4 k4) (.bool false) (.slice r4 s4 u4) rfl
    exact bodyPost_ret (v:=.tuple #[.agg #[.bool t3,.int .u64 x3,.slice p3 l3 q3,.int .u64 y3,.slice r3 s3 u3],.agg #[.bool t4,.slice p4 l4 k4,.bool false,.slice r4 s4 u4]]) (by simp [results,Tryz.results10,go_sem,zR10,zR11,zR12,zR13,zR14,zR20,zR21,zR22,zR23]) rfl ⟨_,_,rfl,(hS8.out.gq 2 rfl),.mk2 (hS8.out.get (f:=.z (.agg #[.bool t4,.slice p4 l4 k4]) (rp R j).num) 1 rfl) (hS8.out.get (f:=.z (.agg #[.bool false,.slice r4 s4 u4]) ((rp R j).den:Int)) 0 rfl),hS8.out.bel⟩
theorem MF (n:Int) (pw:Nat) (hp:pw<256) (h1:-9223372036854775808≤n) (h2:n≤9223372036854775807) (w:World) (hT:Tab w) :
  Calls Tryz.prog 10 #[.agg #[.int .i64 n,.int .i64 0,.int .u8 (pw:Int)]] w (vG w (rp ((n:Rat) / ((1:Int):Rat)) (pw % 4))):=by
 obtain ⟨d,hd1⟩:∃ d:Int,1=d:=⟨_,rfl⟩
 have hd:d≠0:=by omega
 have h3:-9223372036854775808≤d:=by omega
 have h4:d≤9223372036854775807:=by omega
 have HO:=hid (fun (W:World) (hT:Tab W)=>zf n d h1 (by omega) h3 (by omega) hd W hT)
 have HP:=hid (fun (W:World)=>Z4.Dt n d h1 h2 h3 h4 hd W)
 have HFit:=hid (Bl n d h1 h2 h3 h4 hd)
 rw [hd1]
 obtain ⟨R,hR⟩:∃ R,(n:Rat) / (d:Rat)=R:=⟨_,rfl⟩
 rw [hR] at HO HP HFit ⊢
 subst hd1
 obtain ⟨m,hm⟩:∃ m,pw % 4=m:=⟨_,rfl⟩
 rw [hm]
 have hm4:m<4:=by omega
 have em:(pw:Int) % 4=(m:Int):=by omega
 have HT:=hid hT
 clear hT h1 h2 h3 h4 hd hR hm
 go_enter Tryz.func10,Tryz.ntmps10
 go_wp2_with fail
 have hS0:=hid ((((St.start w).alloc' (w.heap.size) (by simp) 23 [.int .i64 n,.int .i64 1,.int .u8 (pw:Int)]).alloc' (w.heap.size+1) (by simp) 32 z5).alloc' (w.heap.size+1+1) (by simp) 37 [.bool false,.slice none 0 0,.bool false,.slice none 0 0])
 obtain ⟨W0,hW0⟩:=aN hS0
 rw [hW0] at hS0 ⊢
 clear hW0
 refine (HO.out _ (HT.out.below hS0.out.bel (Nat.le_refl _))).mono ?_
 rintro e w1 ⟨v1,rfl,hv1,hB⟩
 have hS1:=hid (hS0.out.call hB)
 clear hB
 clear hS0
 obtain ⟨t1,x1,p1,l1,q1,y1,r1,s1,u1,rfl⟩:=hv1.open
 have hS2:=hid (hS1.out.fq hv1)
 clear hS1 hv1
 obtain ⟨ne1l,ne1,ne1'⟩:=hS2.out.ne 2 w.heap.size 23 [.int .i64 n,.int .i64 1,.int .u8 (pw:Int)] rfl
 obtain ⟨ne2l,ne2,ne2'⟩:=hS2.out.ne 1 (w.heap.size+1) 32 z5 rfl
 obtain ⟨ne3l,ne3,ne3'⟩:=hS2.out.ne 0 (w.heap.size+1+1) 37 [.bool false,.slice none 0 0,.bool false,.slice none 0 0] rfl
 obtain ⟨⟨cA0,cA1,cA2⟩,fA0,fA1,fA2⟩:=hS2.out.f3 2 w.heap.size 23 (.int .i64 n) (.int .i64 1) (.int .u8 (pw:Int)) rfl
 go_wp2_with fail
 clear cA0 cA1 cA2 fA0 fA1 fA2
 have hA1:=hid ((hS2.out).alloc' (w1.heap.size) (by simp) 32 (c5 t1 x1 p1 l1 q1 y1 r1 s1 u1))
 refine (HP.out _).mono ?_
 rintro e w2 ⟨v2,rfl,hv2,hB⟩
 have hS3:=hid (hA1.out.call hB)
 clear hB
 clear hA1
 obtain ⟨t2,p2,l2,k2,r2,s2,u2,rfl⟩:=hv2.open
 have hn2:=hv2.num
 have hd2:=hv2.d
 clear hv2
 have hS4:=hid (hS3.out.fact (.z (.agg #[.bool t2,.slice p2 l2 k2]) R.num) hn2)
 clear hS3 hn2
 have hS5:=hid (hS4.out.fact (.z (.agg #[.bool false,.slice r2 s2 u2]) (R.den:Int)) hd2)
 clear hS4 hd2
 obtain ⟨ne4l,ne4,ne4'⟩:=hS5.out.ne 3 w.heap.size 23 [.int .i64 n,.int .i64 1,.int .u8 (pw:Int)] rfl
 obtain ⟨ne5l,ne5,ne5'⟩:=hS5.out.ne 2 (w.heap.size+1) 32 z5 rfl
 obtain ⟨ne6l,ne6,ne6'⟩:=hS5.out.ne 1 (w.heap.size+1+1) 37 [.bool false,.slice none 0 0,.bool false,.slice none 0 0] rfl
 obtain ⟨ne7l,ne7,ne7'⟩:=hS5.out.ne 0 w1.heap.size 32 (c5 t1 x1 p1 l1 q1 y1 r1 s1 u1) rfl
 go_wp2_with fail
 have hS6:=hid ((hS5.out).alloc' (w2.heap.size) (by simp) 37 [.bool t2,.slice p2 l2 k2,.bool false,.slice r2 s2 u2])
 obtain ⟨W2,hW2⟩:=aN hS6
 rw [hW2] at hS6 ⊢
 clear hW2
 obtain ⟨ne8l,ne8,ne8'⟩:=hS6.out.ne 4 w.heap.size 23 [.int .i64 n,.int .i64 1,.int .u8 (pw:Int)] rfl
 obtain ⟨ne9l,ne9,ne9'⟩:=hS6.out.ne 3 (w.heap.size+1) 32 z5 rfl
 obtain ⟨ne10l,ne10,ne10'⟩:=hS6.out.ne 2 (w.heap.size+1+1) 37 [.bool false,.slice none 0 0,.bool false,.slice none 0 0] rfl
 obtain ⟨ne11l,ne11,ne11'⟩:=hS6.out.ne 1 w1.heap.size 32 (c5 t1 x1 p1 l1 q1 y1 r1 s1 u1) rfl
 obtain ⟨ne12l,ne12,ne12'⟩:=hS6.out.ne 0 w2.heap.size 37 [.bool t2,.slice p2 l2 k2,.bool false,.slice r2 s2 u2] rfl
 obtain ⟨⟨ca0,ca1,ca2,ca3,ca4⟩,fa0,fa1,fa2,fa3,fa4⟩:=hS6.out.f5 1 w1.heap.size 32 (.bool t1) (.int .u64 x1) (.slice p1 l1 q1) (.int .u64 y1) (.slice r1 s1 u1) rfl
 obtain ⟨⟨cb0,cb1,cb2,cb3⟩,fb0,fb1,fb2,fb3⟩:=hS6.out.f4 0 w2.heap.size 37 (.bool t2) (.slice p2 l2 k2) (.bool false) (.slice r2 s2 u2) rfl
 go_region
 clear ca0 ca1 ca2 ca3 ca4 fa0 fa1 fa2 fa3 fa4 cb0 cb1 cb2 cb3 fb0 fb1 fb2 fb3
 have hS7:=hid ((((hS6.out).alloc' (W2.heap.size) (by simp) 32 (c5 t1 x1 p1 l1 q1 y1 r1 s1 u1)).alloc' (W2.heap.size+1) (by simp) 37 [.bool t2,.slice p2 l2 k2,.bool false,.slice r2 s2 u2]).drew)
 obtain ⟨W3,hW3⟩:=aN hS7
 rw [hW3] at hS7 ⊢
 clear hW3
 obtain ⟨Lq,hLa⟩:∃ L,W2.heap.size=L:=⟨_,rfl⟩
 rw [hLa] at hS7 ⊢
 obtain ⟨Lr,hLb⟩:∃ L,Lq+1=L:=⟨_,rfl⟩
 rw [hLb] at hS7 ⊢
 clear hLa hLb
 clear ne8l ne8 ne8' ne9l ne9 ne9' ne10l ne10 ne10' ne11l ne11 ne11' ne12l ne12 ne12'
 rotate_left
 clear ca0 ca1 ca2 ca3 ca4 fa0 fa1 fa2 fa3 fa4 cb0 cb1 cb2 cb3 fb0 fb1 fb2 fb3
 have hS7:=hid ((((hS6.out).alloc' (W2.heap.size) (by simp) 37 [.bool t2,.slice p2 l2 k2,.bool false,.slice r2 s2 u2]).alloc' (W2.heap.size+1) (by simp) 32 (c5 t1 x1 p1 l1 q1 y1 r1 s1 u1)).drew)
 obtain ⟨W3,hW3⟩:=aN hS7
 rw [hW3] at hS7 ⊢
 clear hW3
 obtain ⟨Lr,hLa⟩:∃ L,W2.heap.size=L:=⟨_,rfl⟩
 rw [hLa] at hS7 ⊢
 obtain ⟨Lq,hLb⟩:∃ L,Lr+1=L:=⟨_,rfl⟩
 rw [hLb] at hS7 ⊢
 clear hLa hLb
 clear ne8l ne8 ne8' ne9l ne9 ne9' ne10l ne10 ne10' ne11l ne11 ne11' ne12l ne12 ne12'
 replace hS7:=hid hS7.out.swap
 all_goals
  obtain ⟨m01,n01⟩:=hS7.out.apart 0 1 rfl rfl (by decide)
  simp only at m01 n01
  obtain ⟨m02,n02⟩:=hS7.out.apart 0 2 rfl rfl (by decide)
  simp only at m02 n02
  obtain ⟨m03,n03⟩:=hS7.out.apart 0 3 rfl rfl (by decide)
  simp only at m03 n03
  obtain ⟨m04,n04⟩:=hS7.out.apart 0 4 rfl rfl (by decide)
  simp only at m04 n04
  obtain ⟨m05,n05⟩:=hS7.out.apart 0 5 rfl rfl (by decide)
  simp only at m05 n05
  obtain ⟨m06,n06⟩:=hS7.out.apart 0 6 rfl rfl (by decide)
  simp only at m06 n06
  obtain ⟨m12,n12⟩:=hS7.out.apart 1 2 rfl rfl (by decide)
  simp only at m12 n12
  obtain ⟨m13,n13⟩:=hS7.out.apart 1 3 rfl rfl (by decide)
  simp only at m13 n13
  obtain ⟨m14,n14⟩:=hS7.out.apart 1 4 rfl rfl (by decide)
  simp only at m14 n14
  obtain ⟨m15,n15⟩:=hS7.out.apart 1 5 rfl rfl (by decide)
  simp only at m15 n15
  obtain ⟨m16,n16⟩:=hS7.out.apart 1 6 rfl rfl (by decide)
  simp only at m16 n16
  go_wp2_with fail
  go_loopw [9] (fun iv wr=>∃ (j:Nat) (t3:Bool) (x3:Int) (p3:Option Addr) (l3 q3:Nat) (y3:Int) (r3:Option Addr) (s3 u3:Nat) (t4:Bool) (p4:Option Addr) (l4 k4:Nat) (r4:Option Addr) (s4 u4:Nat),iv=.int .u8 (j:Int)∧j≤m∧St w [⟨Lr,37,[.bool t4,.slice p4 l4 k4,.bool false,.slice r4 s4 u4]⟩,⟨Lq,32,(c5 t3 x3 p3 l3 q3 y3 r3 s3 u3)⟩,⟨w2.heap.size,37,[.bool t2,.slice p2 l2 k2,.bool false,.slice r2 s2 u2]⟩,⟨w1.heap.size,32,(c5 t1 x1 p1 l1 q1 y1 r1 s1 u1)⟩,⟨w.heap.size+1+1,37,[.bool false,.slice none 0 0,.bool false,.slice none 0 0]⟩,⟨w.heap.size+1,32,z5⟩,⟨w.heap.size,23,[.int .i64 n,.int .i64 1,.int .u8 (pw:Int)]⟩] [.z (.agg #[.bool false,.slice r4 s4 u4]) ((rp R j).den:Int),.z (.agg #[.bool t4,.slice p4 l4 k4]) (rp R j).num,.q (.agg #[.bool t3,.int .u64 x3,.slice p3 l3 q3,.int .u64 y3,.slice r3 s3 u3]) (rp R j),.z (.agg #[.bool false,.slice r2 s2 u2]) (R.den:Int),.z (.agg #[.bool t2,.slice p2 l2 k2]) R.num,.q (.agg #[.bool t1,.int .u64 x1,.slice p1 l1 q1,.int .u64 y1,.slice r1 s1 u1]) R] wr) (fun iv _=>m - (intOf iv).toNat)
  case atStart =>
   have h1:=hS7.out.get (f:=.q (.agg #[.bool t1,.int .u64 x1,.slice p1 l1 q1,.int .u64 y1,.slice r1 s1 u1]) R) 2 rfl
   have h2:=hS7.out.get (f:=.z (.agg #[.bool t2,.slice p2 l2 k2]) R.num) 1 rfl
   have h3:=hS7.out.get (f:=.z (.agg #[.bool false,.slice r2 s2 u2]) (R.den:Int)) 0 rfl
   exact ⟨0,t1,x1,p1,l1,q1,y1,r1,s1,u1,t2,p2,l2,k2,r2,s2,u2,rfl,Nat.zero_le _,((hS7.out.fact (.q (.agg #[.bool t1,.int .u64 x1,.slice p1 l1 q1,.int .u64 y1,.slice r1 s1 u1]) (rp R 0)) h1).fact (.z (.agg #[.bool t2,.slice p2 l2 k2]) (rp R 0).num) h2).fact (.z (.agg #[.bool false,.slice r2 s2 u2]) ((rp R 0).den:Int)) h3⟩
  case round =>
   clear hS7
   obtain ⟨j,t3,x3,p3,l3,q3,y3,r3,s3,u3,t4,p4,l4,k4,r4,s4,u4,rfl,hj,hSt⟩:=hrel
   have HS:=hid hSt
   clear hSt
   by_cases hlt:j<m
   ·have hFj:=hid (yw HFit.out j)
    have hcj:(j:Int)<(m:Int):=by omega
    have hj4:j<4:=by omega
    obtain ⟨⟨cA0,cA1,cA2⟩,fA0,fA1,fA2⟩:=HS.out.f3 6 w.heap.size 23 (.int .i64 n) (.int .i64 1) (.int .u8 (pw:Int)) rfl
    obtain ⟨⟨cq0,cq1,cq2,cq3,cq4⟩,fq0,fq1,fq2,fq3,fq4⟩:=HS.out.f5 1 Lq 32 (.bool t3) (.int .u64 x3) (.slice p3 l3 q3) (.int .u64 y3) (.slice r3 s3 u3) rfl
    obtain ⟨⟨ca0,ca1,ca2,ca3,ca4⟩,fa0,fa1,fa2,fa3,fa4⟩:=HS.out.f5 3 w1.heap.size 32 (.bool t1) (.int .u64 x1) (.slice p1 l1 q1) (.int .u64 y1) (.slice r1 s1 u1) rfl
    go_wp2_with fail
    clear cA0 cA1 cA2 fA0 fA1 fA2 cq0 cq1 cq2 cq3 cq4 fq0 fq1 fq2 fq3 fq4 ca0 ca1 ca2 ca3 ca4 fa0 fa1 fa2 fa3 fa4
    refine (jH (rp R j) R _ _ 4 _ (HS.out.gq 2 rfl) (HS.out.gq 5 rfl) (by omega) (hFj.out.mono (by omega)) (HFit.out.mono (by omega)) (HT.out.below HS.out.bel (Nat.le_refl _))).mono ?_
    rintro e w5 ⟨v5,rfl,hv5,hB⟩
    have hS8:=hid (HS.out.call hB)
    clear hB
    clear HS
    obtain ⟨t5,x5,p5,l5,q5,y5,r5,s5,u5,rfl⟩:=hv5.open
    have hS9:=hid (hS8.out.fq hv5)
    clear hS8 hv5
    obtain ⟨⟨cq0,cq1,cq2,cq3,cq4⟩,fq0,fq1,fq2,fq3,fq4⟩:=hS9.out.f5 1 Lq 32 (.bool t3) (.int .u64 x3) (.slice p3 l3 q3) (.int .u64 y3) (.slice r3 s3 u3) rfl
    obtain ⟨⟨cr0,cr1,cr2,cr3⟩,fr0,fr1,fr2,fr3⟩:=hS9.out.f4 0 Lr 37 (.bool t4) (.slice p4 l4 k4) (.bool false) (.slice r4 s4 u4) rfl
    obtain ⟨⟨cb0,cb1,cb2,cb3⟩,fb0,fb1,fb2,fb3⟩:=hS9.out.f4 2 w2.heap.size 37 (.bool t2) (.slice p2 l2 k2) (.bool false) (.slice r2 s2 u2) rfl
    go_wp2_with fail
    clear cq0 cq1 cq2 cq3 cq4 fq0 fq1 fq2 fq3 fq4 cr0 cr1 cr2 cr3 fr0 fr1 fr2 fr3 cb0 cb1 cb2 cb3 fb0 fb1 fb2 fb3
    have hJ:=hid (((((((hS9.out).store (b:=⟨Lq,32,(c5 t3 x3 p3 l3 q3 y3 r3 s3 u3)⟩) 1 0 (.bool t5) rfl rfl).store (b:=⟨Lq,32,(c5 t5 x3 p3 l3 q3 y3 r3 s3 u3)⟩) 1 1 (.int .u64 x5) rfl rfl).store (b:=⟨Lq,32,(c5 t5 x5 p3 l3 q3 y3 r3 s3 u3)⟩) 1 2 (.slice p5 l5 q5) rfl rfl).store (b:=⟨Lq,32,(c5 t5 x5 p5 l5 q5 y3 r3 s3 u3)⟩) 1 3 (.int .u64 y5) rfl rfl).store (b:=⟨Lq,32,(c5 t5 x5 p5 l5 q5 y5 r3 s3 u3)⟩) 1 4 (.slice r5 s5 u5) rfl rfl).as [⟨Lr,37,[.bool t4,.slice p4 l4 k4,.bool false,.slice r4 s4 u4]⟩,⟨Lq,32,(c5 t5 x5 p5 l5 q5 y5 r5 s5 u5)⟩,⟨w2.heap.size,37,[.bool t2,.slice p2 l2 k2,.bool false,.slice r2 s2 u2]⟩,⟨w1.heap.size,32,(c5 t1 x1 p1 l1 q1 y1 r1 s1 u1)⟩,⟨w.heap.size+1+1,37,[.bool false,.slice none 0 0,.bool false,.slice none 0 0]⟩,⟨w.heap.size+1,32,z5⟩,⟨w.heap.size,23,[.int .i64 n,.int .i64 1,.int .u8 (pw:Int)]⟩] rfl)
    refine (Z4.I7 (rp R j) R _ _ _ (.mk2 (hJ.out.get (f:=.z (.agg #[.bool t4,.slice p4 l4 k4]) (rp R j).num) 2 rfl) (hJ.out.get (f:=.z (.agg #[.bool false,.slice r4 s4 u4]) ((rp R j).den:Int)) 1 rfl)) (.mk2 (hJ.out.get (f:=.z (.agg #[.bool t2,.slice p2 l2 k2]) R.num) 5 rfl) (hJ.out.get (f:=.z (.agg #[.bool false,.slice r2 s2 u2]) (R.den:Int)) 4 rfl)) 20 (by omega) (kC (hFj.out.mono (by omega)).1) (kC (HFit.out.mono (by omega)).1) (kC (hFj.out.mono (by omega)).2) (kC (HFit.out.mono (by omega)).2)).mono ?_
    rintro e w6 ⟨v6,rfl,hv6,hB⟩
    have hS10:=hid (hJ.out.call hB)
    clear hB
    clear hJ
    obtain ⟨t6,p6,l6,k6,r6,s6,u6,rfl⟩:=hv6.open
    have hn6:=hv6.num
    have hd6:=hv6.d
    clear hv6
    have hS11:=hid (hS10.out.fact (.z (.agg #[.bool t6,.slice p6 l6 k6]) (rp R (j+1)).num) hn6)
    clear hS10 hn6
    have hS12:=hid (hS11.out.fact (.z (.agg #[.bool false,.slice r6 s6 u6]) ((rp R (j+1)).den:Int)) hd6)
    clear hS11 hd6
    obtain ⟨⟨cr0,cr1,cr2,cr3⟩,fr0,fr1,fr2,fr3⟩:=hS12.out.f4 0 Lr 37 (.bool t4) (.slice p4 l4 k4) (.bool false) (.slice r4 s4 u4) rfl
    go_wp2_with fail
    clear cr0 cr1 cr2 cr3 fr0 fr1 fr2 fr3
    have hK:=hid ((((((hS12.out).store (b:=⟨Lr,37,[.bool t4,.slice p4 l4 k4,.bool false,.slice r4 s4 u4]⟩) 0 0 (.bool t6) rfl rfl).store (b:=⟨Lr,37,[.bool t6,.slice p4 l4 k4,.bool false,.slice r4 s4 u4]⟩) 0 1 (.slice p6 l6 k6) rfl rfl).store (b:=⟨Lr,37,[.bool t6,.slice p6 l6 k6,.bool false,.slice r4 s4 u4]⟩) 0 2 (.bool false) rfl rfl).store (b:=⟨Lr,37,[.bool t6,.slice p6 l6 k6,.bool false,.slice r4 s4 u4]⟩) 0 3 (.slice r6 s6 u6) rfl rfl).as [⟨Lr,37,[.bool t6,.slice p6 l6 k6,.bool false,.slice r6 s6 u6]⟩,⟨Lq,32,(c5 t5 x5 p5 l5 q5 y5 r5 s5 u5)⟩,⟨w2.heap.size,37,[.bool t2,.slice p2 l2 k2,.bool false,.slice r2 s2 u2]⟩,⟨w1.heap.size,32,(c5 t1 x1 p1 l1 q1 y1 r1 s1 u1)⟩,⟨w.heap.size+1+1,37,[.bool false,.slice none 0 0,.bool false,.slice none 0 0]⟩,⟨w.heap.size+1,32,z5⟩,⟨w.heap.size,23,[.int .i64 n,.int .i64 1,.int .u8 (pw:Int)]⟩] rfl)
    go_roundw
    case rel=>exact ⟨j+1,t5,x5,p5,l5,q5,y5,r5,s5,u5,t6,p6,l6,k6,r6,s6,u6,by go_num,by omega,⟨hK.out.bel,hK.out.box,(hK.out.get (f:=.z (.agg #[.bool false,.slice r6 s6 u6]) ((rp R (j+1)).den:Int)) 0 rfl),(hK.out.get (f:=.z (.agg #[.bool t6,.slice p6 l6 k6]) (rp R (j+1)).num) 1 rfl),(hK.out.gq 2 rfl),(hK.out.get (f:=.z (.agg #[.bool false,.slice r2 s2 u2]) (R.den:Int)) 6 rfl),(hK.out.get (f:=.z (.agg #[.bool t2,.slice p2 l2 k2]) R.num) 7 rfl),(hK.out.gq 8 rfl),trivial⟩⟩
    case measure=>simp [intOf];omega
   ·obtain rfl:j=m:=by omega
    have hcj:¬ ((j:Int)<(j:Int)):=by omega
    clear hj
    obtain ⟨⟨cA0,cA1,cA2⟩,fA0,fA1,fA2⟩:=HS.out.f3 6 w.heap.size 23 (.int .i64 n) (.int .i64 1) (.int .u8 (pw:Int)) rfl
    go_wp2_with fail
    clear cA0 cA1 cA2 fA0 fA1 fA2
    obtain ⟨⟨cq0,cq1,cq2,cq3,cq4⟩,fq0,fq1,fq2,fq3,fq4⟩:=HS.out.f5 1 Lq 32 (.bool t3) (.int .u64 x3) (.slice p3 l3 q3) (.int .u64 y3) (.slice r3 s3 u3) rfl
    obtain ⟨⟨cr0,cr1,cr2,cr3⟩,fr0,fr1,fr2,fr3⟩:=HS.out.f4 0 Lr 37 (.bool t4) (.slice p4 l4 k4) (.bool false) (.slice r4 s4 u4) rfl
    obtain ⟨⟨cR10,cR11,cR12,cR13,cR14⟩,fR10,fR11,fR12,fR13,fR14⟩:=HS.out.f5 5 (w.heap.size+1) 32 (.bool false) (.int .u64 0) (.slice none 0 0) (.int .u64 0) (.slice none 0 0) rfl
    obtain ⟨⟨cR20,cR21,cR22,cR23⟩,fR20,fR21,fR22,fR23⟩:=HS.out.f4 4 (w.heap.size+1+1) 37 (.bool false) (.slice none 0 0) (.bool false) (.slice none 0 0) rfl
    go_region
    have hS8:=hid ((((((((((((HS.out).store (b:=⟨w.heap.size+1,32,z5⟩) 5 0 (.bool t3) rfl rfl).store (b:=⟨w.heap.size+1,32,[.bool t3,.int .u64 0,.slice none 0 0,.int .u64 0,.slice none 0 0]⟩) 5 1 (.int .u64 x3) rfl rfl).store (b:=⟨w.heap.size+1,32,[.bool t3,.int .u64 x3,.slice none 0 0,.int .u64 0,.slice none 0 0]⟩) 5 2 (.slice p3 l3 q3) rfl rfl).store (b:=⟨w.heap.size+1,32,[.bool t3,.int .u64 x3,.slice p3 l3 q3,.int .u64 0,.slice none 0 0]⟩) 5 3 (.int .u64 y3) rfl rfl).store (b:=⟨w.heap.size+1,32,[.bool t3,.int .u64 x3,.slice p3 l3 q3,.int .u64 y3,.slice none 0 0]⟩) 5 4 (.slice r3 s3 u3) rfl rfl).store (b:=⟨w.heap.size+1+1,37,[.bool false,.slice none 0 0,.bool false,.slice none 0 0]⟩) 4 0 (.bool t4) rfl rfl).store (b:=⟨w.heap.size+1+1,37,[.bool t4,.slice none 0 0,.bool false,.slice none 0 0]⟩) 4 1 (.slice p4 l4 k4) rfl rfl).store (b:=⟨w.heap.size+1+1,37,[.bool t4,.slice p4 l4 k4,.bool false,.slice none 0 0]⟩) 4 2 (.bool false) rfl rfl).store (b:=⟨w.heap.size+1+1,37,[.bool t4,.slice p4 l4 k4,.bool false,.slice none 0 0]⟩) 4 3 (.slice r4 s4 u4) rfl rfl).drew).as [⟨Lr,37,[.bool t4,.slice p4 l4 k4,.bool false,.slice r4 s4 u4]⟩,⟨Lq,32,(c5 t3 x3 p3 l3 q3 y3 r3 s3 u3)⟩,⟨w2.heap.size,37,[.bool t2,.slice p2 l2 k2,.bool false,.slice r2 s2 u2]⟩,⟨w1.heap.size,32,(c5 t1 x1 p1 l1 q1 y1 r1 s1 u1)⟩,⟨w.heap.size+1+1,37,[.bool t4,.slice p4 l4 k4,.bool false,.slice r4 s4 u4]⟩,⟨w.heap.size+1,32,(c5 t3 x3 p3 l3 q3 y3 r3 s3 u3)⟩,⟨w.heap.size,23,[.int .i64 n,.int .i64 1,.int .u8 (pw:Int)]⟩] rfl)
    go_wp2_with fail
    clear cq0 cq1 cq2 cq3 cq4 fq0 fq1 fq2 fq3 fq4 cr0 cr1 cr2 cr3 fr0 fr1 fr2 fr3 cR10 cR11 cR12 cR13 cR14 fR10 fR11 fR12 fR13 fR14 cR20 cR21 cR22 cR23 fR20 fR21 fR22 fR23
    obtain ⟨⟨zR10,zR11,zR12,zR13,zR14⟩,-⟩:=hS8.out.f5 5 (w.heap.size+1) 32 (.bool t3) (.int .u64 x3) (.slice p3 l3 q3) (.int .u64 y3) (.slice r3 s3 u3) rfl
    obtain ⟨⟨zR20,zR21,zR22,zR23⟩,-⟩:=hS8.out.f4 4 (w.heap.size+1+1) 37 (.bool t4) (.slice p4 l4 k4) (.bool false) (.slice r4 s4 u4) rfl
    exact bodyPost_ret (v:=.tuple #[.agg #[.bool t3,.int .u64 x3,.slice p3 l3 q3,.int .u64 y3,.slice r3 s3 u3],.agg #[.bool t4,.slice p4 l4 k4,.bool false,.slice r4 s4 u4]]) (by simp [results,Tryz.results10,go_sem,zR10,zR11,zR12,zR13,zR14,zR20,zR21,zR22,zR23]) rfl ⟨_,_,rfl,(hS8.out.gq 2 rfl),.mk2 (hS8.out.get (f:=.z (.agg #[.bool t4,.slice p4 l4 k4]) (rp R j).num) 1 rfl) (hS8.out.get (f:=.z (.agg #[.bool false,.slice r4 s4 u4]) ((rp R j).den:Int)) 0 rfl),hS8.out.bel⟩
def numOf (n d:Int) (pw:Nat):Rat:=rp ((n:Rat) / (((if d=0 then 1 else d):Int):Rat)) (pw % 4)
theorem KC (n d:Int) (pw:Nat) (hp:pw<256) (h1:-9223372036854775808≤n) (h2:n≤9223372036854775807) (h3:-9223372036854775808≤d) (h4:d≤9223372036854775807) (w:World) (hT:Tab w) :
  Calls Tryz.prog 10 #[.agg #[.int .i64 n,.int .i64 d,.int .u8 (pw:Int)]] w (vG w (numOf n d pw)):=by
 unfold numOf
 by_cases hd:d=0
 ·subst hd
  rw [if_pos rfl]
  exact MF n pw hp h1 h2 w hT
 ·rw [if_neg hd]
  exact MC n d pw hp h1 h2 h3 h4 hd w hT
theorem Ie (n d:Int) (pw:Nat) (h1:-9223372036854775808≤n) (h2:n≤9223372036854775807) (h3:-9223372036854775808≤d) (h4:d≤9223372036854775807):Fits 4 (numOf n d pw):=by
 unfold numOf
 refine (yw (Bl n _ h1 h2 ?_ ?_ ?_) _).mono (by omega) <;> split <;> omega
end
namespace Rx
open Go.RowKit
def isq:Nat→Nat
 | 0=>0
 | n+1=>if (isq n+1)*(isq n+1)≤n+1 then isq n+1 else isq n
inductive RE
 | v (n:Nat)
 | c (n:Int)
 | add (a b:RE)
 | sub (a b:RE)
 | mul (a b:RE)
 | div (a b:RE)
 | neg (a:RE)
 | abs (a:RE)
 | flo (a:RE)
 | num (a:RE)
 | den (a:RE)
 | rt (a:RE)
def RE.ev (β:Nat→Rat):RE→Rat
 | .v n=>β n
 | .c n=>(n:Rat)
 | .add a b=>a.ev β+b.ev β
 | .sub a b=>a.ev β - b.ev β
 | .mul a b=>a.ev β*b.ev β
 | .div a b=>a.ev β / b.ev β
 | .neg a=>-a.ev β
 | .abs a=>if (a.ev β).num<0 then -a.ev β else a.ev β
 | .flo a=>(((a.ev β).num / ((a.ev β).den:Int):Int):Rat)
 | .num a=>((a.ev β).num:Rat)
 | .den a=>((((a.ev β).den:Nat):Int):Rat)
 | .rt a=>(((isq (a.ev β).num.natAbs:Nat):Int):Rat)
def RE.beq:RE→RE→Bool
 | .v n,.v m=>n == m
 | .c n,.c m=>n == m
 | .add a b,.add x y | .sub a b,.sub x y | .mul a b,.mul x y | .div a b,.div x y=>a.beq x && b.beq y
 | .neg a,.neg b | .abs a,.abs b | .flo a,.flo b | .num a,.num b | .den a,.den b | .rt a,.rt b=>a.beq b
 | _,_=>false
theorem RE.beq_eq {a:RE}:∀ {b:RE},a.beq b=true→a=b:=by
 induction a with
 | v n=>intro b h;cases b <;> simp [RE.beq] at h;subst h;rfl
 | c n=>intro b h;cases b <;> simp [RE.beq] at h;subst h;rfl
 | add x y ih1 ih2=>intro b h;cases b <;> simp [RE.beq] at h;rw [ih1 h.1,ih2 h.2]
 | sub x y ih1 ih2=>intro b h;cases b <;> simp [RE.beq] at h;rw [ih1 h.1,ih2 h.2]
 | mul x y ih1 ih2=>intro b h;cases b <;> simp [RE.beq] at h;rw [ih1 h.1,ih2 h.2]
 | div x y ih1 ih2=>intro b h;cases b <;> simp [RE.beq] at h;rw [ih1 h.1,ih2 h.2]
 | neg x ih=>intro b h;cases b <;> simp [RE.beq] at h;rw [ih h]
 | abs x ih=>intro b h;cases b <;> simp [RE.beq] at h;rw [ih h]
 | flo x ih=>intro b h;cases b <;> simp [RE.beq] at h;rw [ih h]
 | num x ih=>intro b h;cases b <;> simp [RE.beq] at h;rw [ih h]
 | den x ih=>intro b h;cases b <;> simp [RE.beq] at h;rw [ih h]
 | rt x ih=>intro b h;cases b <;> simp [RE.beq] at h;rw [ih h]
inductive Fc
 | q (s:Nat) (e:RE) (k:Nat)
 | r (s:Nat) (e:RE) (k:Nat)
 | x (s:Nat) (e:RE)
 | n (s:Nat) (e:RE)
 | i (s:Nat) (e:RE)
 | z (s:Nat) (e:RE) (k:Nat)
 | w (s:Nat) (e:RE)
def Fc.nm:Fc→List Nat
 | .q s _ _ | .r s _ _=>[s,s+1]
 | .x s _=>[s]
 | .n s _=>[s,s+1,s+2]
 | .i s _=>[s]
 | .z s _ _=>[s]
 | .w s _=>[s]
def IsN (n d:Int) (b:Int) (r:Rat):Prop:=∃ pw:Nat,b=pw∧pw<256∧-9223372036854775808≤n∧n≤9223372036854775807∧-9223372036854775808≤d∧d≤9223372036854775807∧numOf n d pw=r
def Fc.on (β:Nat→Rat) (ρ:Env):Fc→World→Prop
 | .q s e k,W=>IsQ W (.agg ((aJ s).map (Cell.den ρ)).toArray) (e.ev β)∧Fits k (e.ev β)
 | .r s e k,W=>Z4.IsR W (.agg ((bV s).map (Cell.den ρ)).toArray) (e.ev β)∧Fits k (e.ev β)
 | .x s e,_=>(ρ s).t=⟨(jT (e.ev β)).toArray⟩
 | .n s e,_=>IsN (ρ s).u (ρ (s+1)).u (ρ (s+2)).u (e.ev β)
 | .i s e,_=>-9223372036854775808≤(ρ s).u∧(ρ s).u≤9223372036854775807∧(((ρ s).u:Int):Rat)=e.ev β
 | .z s e k,W=>∃ z:Int,Z4.IsZ W (.agg ((zC s).map (Cell.den ρ)).toArray) z∧(z:Rat)=e.ev β∧z.natAbs<B64 ^ k
 | .w s e,_=>0≤(ρ s).u∧(ρ s).u≤18446744073709551615∧(((ρ s).u:Int):Rat)=e.ev β
def SQ (β:Nat→Rat):Sys where
 F:=Fc
 nm:=Fc.nm
 on:=Fc.on β
 okC:=okC
 cg:=fun {ρ ρ' f W} h hf=>by
  cases f with
  | q s e k =>
   simp only [Fc.nm,List.mem_cons,List.not_mem_nil,or_false] at h
   simp only [Fc.on] at hf ⊢
   rwa [jL (ρ:=ρ') (ρ':=ρ) (l:=aJ s) fun n hn=>(h n (by simpa [aJ,Cell.nm] using hn)).symm]
  | r s e k =>
   simp only [Fc.nm,List.mem_cons,List.not_mem_nil,or_false] at h
   simp only [Fc.on] at hf ⊢
   rwa [jL (ρ:=ρ') (ρ':=ρ) (l:=bV s) fun n hn=>(h n (by simpa [bV,Cell.nm] using hn)).symm]
  | x s e=>simp only [Fc.on] at hf ⊢;rw [← h s (by simp [Fc.nm])];exact hf
  | n s e=>simp only [Fc.on] at hf ⊢;rw [← h s (by simp [Fc.nm]),← h (s+1) (by simp [Fc.nm]),← h (s+2) (by simp [Fc.nm])];exact hf
  | i s e=>simp only [Fc.on] at hf ⊢;rw [← h s (by simp [Fc.nm])];exact hf
  | w s e=>simp only [Fc.on] at hf ⊢;rw [← h s (by simp [Fc.nm])];exact hf
  | z s e k =>
   simp only [Fc.nm,List.mem_cons,List.not_mem_nil,or_false] at h
   simp only [Fc.on] at hf ⊢
   rwa [jL (ρ:=ρ') (ρ':=ρ) (l:=zC s) fun n hn=>(h n (by simpa [zC,Cell.nm] using hn)).symm]
 bl:=fun {ρ f W W'} hb hf=>by
  cases f with
  | q s e k=>exact ⟨hf.1.below hb,hf.2⟩
  | r s e k=>exact ⟨Z4.IsR.below hf.1 hb,hf.2⟩
  | x s e=>exact hf
  | n s e=>exact hf
  | i s e=>exact hf
  | w s e=>exact hf
  | z s e k=>obtain ⟨z,h1,h2⟩:=hf;exact ⟨z,h1.below hb,h2⟩
 st:=fun {ρ f W b T cs i u} hok _ hb hf=>by
  have hv:=xX ρ hok
  have hb':Go.Proofs.YthalajpklaodkaaGreatDoor.Bx W b T (cs.map (Cell.den ρ)):=hb
  cases f with
  | q s e k=>exact ⟨hf.1.setBox hb' hv,hf.2⟩
  | r s e k=>exact ⟨Z4.IsR.setBox hf.1 hb' hv,hf.2⟩
  | x s e=>exact hf
  | n s e=>exact hf
  | i s e=>exact hf
  | w s e=>exact hf
  | z s e k=>obtain ⟨z,h1,h2⟩:=hf;exact ⟨z,h1.setBox hb' hv,h2⟩
structure Hint where
 eq:List (RE×RE):=[]
 ne:List (RE×RE):=[]
 nz:List RE:=[]
 sg:List (RE×Int):=[]
 cm:List (RE×RE×Int):=[]
def Hint.Ok (β:Nat→Rat) (h:Hint):Prop:=
 (∀ p∈h.eq,p.1.ev β=p.2.ev β)∧(∀ p∈h.ne,p.1.ev β≠p.2.ev β)∧(∀ p∈h.nz,p.ev β≠0)∧(∀ p∈h.sg,sgQ (p.1.ev β)=p.2)∧(∀ p∈h.cm,aH (p.1.ev β) (p.2.1.ev β)=p.2.2)
def eqB (h:Hint) (a b:RE):Bool:=a.beq b || h.eq.any fun p=>p.1.beq a && p.2.beq b
theorem oH {β:Nat→Rat} {h:Hint} (ok:h.Ok β) {a b:RE} (hh:eqB h a b=true):a.ev β=b.ev β:=by
 unfold eqB at hh
 rw [Bool.or_eq_true] at hh
 rcases hh with hh | hh
 ·rw [RE.beq_eq hh]
 ·obtain ⟨p,hp,h1⟩:=List.any_eq_true.1 hh
  simp only [Bool.and_eq_true] at h1
  have:=ok.1 p hp
  rwa [RE.beq_eq h1.1,RE.beq_eq h1.2] at this
def mG:List Fc→Nat→Option RE
 | [],_=>none
 | .x s e :: r,n=>if s=n then some e else mG r n
 | _ :: r,n=>mG r n
theorem Bj {β:Nat→Rat} {ρ:Env} {W:World} {n:Nat} {e:RE}:∀ {db:List Fc},mG db n=some e→(∀ f∈db,Fc.on β ρ f W)→(ρ n).t=⟨(jT (e.ev β)).toArray⟩
 | [],h,_=>by simp [mG] at h
 | f :: r,h,hf=>by
  have ih:mG r n=some e→(ρ n).t=⟨(jT (e.ev β)).toArray⟩:=fun h=>Bj h fun f hf'=>hf f (by simp [hf'])
  cases f with
  | x s e' =>
   simp only [mG] at h
   split at h
   ·rename_i hs
    cases h
    subst hs
    exact hf (.x s e) (by simp)
   ·exact ih h
  | q _ _ _=>exact ih h
  | r _ _ _=>exact ih h
  | n _ _=>exact ih h
  | i _ _=>exact ih h
  | w _ _=>exact ih h
  | z _ _ _=>exact ih h
def gy:List Fc→Nat→Option RE
 | [],_=>none
 | .i s e :: r,n=>if s=n then some e else gy r n
 | _ :: r,n=>gy r n
theorem fU {n:Nat} {e:RE}:∀ {db:List Fc},gy db n=some e→.i n e∈db
 | [],h=>by simp [gy] at h
 | f :: r,h=>by
  cases f with
  | i s e' =>
   simp only [gy] at h
   split at h
   ·rename_i hs;cases h;subst hs;simp
   ·exact List.mem_cons_of_mem _ (fU h)
  | q _ _ _=>exact List.mem_cons_of_mem _ (fU h)
  | r _ _ _=>exact List.mem_cons_of_mem _ (fU h)
  | x _ _=>exact List.mem_cons_of_mem _ (fU h)
  | n _ _=>exact List.mem_cons_of_mem _ (fU h)
  | z _ _ _=>exact List.mem_cons_of_mem _ (fU h)
  | w _ _=>exact List.mem_cons_of_mem _ (fU h)
def HQ (β:Nat→Rat) (h:Hint) (ok:h.Ok β):Tests (SQ β) where
 eq:=fun db c d=>match c,d with
  | .ot a,.ot b=>match mG db a,mG db b with
   | some e,some e'=>if eqB h e e' then some true else none
   | _,_=>none
  | .oi a,.it .i64 0=>match gy db a with
   | some e=>if h.nz.any fun p=>p.beq e then some false else none
   | none=>none
  | .oi a,.oi b=>match gy db a,gy db b with
   | some e,some e'=>if eqB h e e' then some true else none
   | _,_=>none
  | _,_=>none
 ok:=fun {fs c d x} hh ρ W hf=>by
  split at hh
  ·rename_i a b
   split at hh
   ·rename_i e e' h1 h2
    split at hh
    ·rename_i he
     cases hh
     refine .inl ⟨_,_,rfl,rfl,?_⟩
     rw [Bj h1 hf,Bj h2 hf,oH ok he]
     simp
    ·cases hh
   ·cases hh
  ·rename_i a
   split at hh
   ·rename_i e h1
    split at hh
    ·rename_i he
     cases hh
     refine .inr ⟨.i64,(ρ a).u,0,rfl,rfl,?_⟩
     obtain ⟨p,hp,hb⟩:=List.any_eq_true.1 he
     obtain ⟨-,-,h2⟩:=(show Fc.on β ρ (.i a e) W from hf _ (fU h1))
     rw [beq_eq_false_iff_ne]
     intro h0
     rw [h0] at h2
     exact ok.2.2.1 p hp (by rw [RE.beq_eq hb,← h2];rfl)
    ·cases hh
   ·cases hh
  ·rename_i a b
   split at hh
   ·rename_i e e' h1 h2
    split at hh
    ·rename_i he
     cases hh
     refine .inr ⟨.i64,(ρ a).u,(ρ b).u,rfl,rfl,?_⟩
     obtain ⟨-,-,g1⟩:=(show Fc.on β ρ (.i a e) W from hf _ (fU h1))
     obtain ⟨-,-,g2⟩:=(show Fc.on β ρ (.i b e') W from hf _ (fU h2))
     rw [beq_iff_eq]
     have:=g1.trans ((oH ok he).trans g2.symm)
     exact_mod_cast this
    ·cases hh
   ·cases hh
  ·cases hh
end Rx
end Go.Proofs.YthalajpklaodkaaGreatDoor
