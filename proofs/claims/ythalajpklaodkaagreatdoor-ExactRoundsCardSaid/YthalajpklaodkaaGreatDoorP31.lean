/- What the proof rests on, part 31. -/
import Derived.Test.YthalajpklaodkaaGreatDoorP30
import Derived.Test.YthalajpklaodkaaGreatDoorP23
import Derived.Test.YthalajpklaodkaaGreatDoorP22
import Derived.Test.YthalajpklaodkaaGreatDoorP26
import Derived.Test.YthalajpklaodkaaGreatDoorP29
namespace Go.Proofs.YthalajpklaodkaaGreatDoor
set_option maxRecDepth 100000
set_option maxHeartbeats 80000000
section
open Go.RowKit Go.Sort
attribute [local go_sem] takes fP fO fM
theorem U4 (k:Nat) (hk:k≤8796093022208) (w:World):Calls Tryz.prog 124 #[.int .i64 (k:Int)] w (aV w (((2 ^ k:Nat):Int):Rat)):=by
 have HM:=hid (fun (W:World)=>Hu 1 k 1 _ _ W (oO _ 1 (by decide)) (by omega) hk (by decide))
 obtain ⟨X,hX⟩:∃ X,2 ^ k=X:=⟨_,rfl⟩
 rw [Nat.one_mul,hX] at HM
 rw [hX]
 clear hX
 go_enter Tryz.func124,Tryz.ntmps124
 go_wp2_with fail
 have hS0:=hid ((St.start w).alloc' (w.heap.size) (by simp) 32 z5)
 obtain ⟨W0,hW0⟩:=aN hS0
 rw [hW0] at hS0 ⊢
 clear hW0
 refine (HM.out _).mono ?_
 rintro e w1 ⟨c1,d1,rfl,hm1,hB⟩
 have hS1:=hid (hS0.out.call hB)
 clear hB
 clear hS0
 obtain ⟨x1,p1,l1,q1,rfl,rfl⟩:=hm1.shape
 have hS2:=hid (hS1.out.fact (.m (.int .u64 x1) (.slice p1 l1 q1) (X)) hm1)
 clear hS1 hm1
 go_wp2_with fail
 refine (sJ _ _ _ _ _ _).mono ?_
 rintro e w2 ⟨rfl,hB⟩
 have hS3:=hid (hS2.out.call hB)
 clear hB
 clear hS2
 obtain ⟨⟨cR0,cR1,cR2,cR3,cR4⟩,fR0,fR1,fR2,fR3,fR4⟩:=hS3.out.f5 0 w.heap.size 32 (.bool false) (.int .u64 0) (.slice none 0 0) (.int .u64 0) (.slice none 0 0) rfl
 have hS4:=hid (((((((hS3.out).store (b:=⟨w.heap.size,32,z5⟩) 0 0 (.bool false) rfl rfl).store (b:=⟨w.heap.size,32,z5⟩) 0 1 (.int .u64 x1) rfl rfl).store (b:=⟨w.heap.size,32,[.bool false,.int .u64 x1,.slice none 0 0,.int .u64 0,.slice none 0 0]⟩) 0 2 (.slice p1 l1 q1) rfl rfl).store (b:=⟨w.heap.size,32,[.bool false,.int .u64 x1,.slice p1 l1 q1,.int .u64 0,.slice none 0 0]⟩) 0 3 (.int .u64 0) rfl rfl).store (b:=⟨w.heap.size,32,[.bool false,.int .u64 x1,.slice p1 l1 q1,.int .u64 0,.slice none 0 0]⟩) 0 4 (.slice none 0 0) rfl rfl).as [⟨w.heap.size,32,[.bool false,.int .u64 x1,.slice p1 l1 q1,.int .u64 0,.slice none 0 0]⟩] rfl)
 go_wp2_with fail
 clear cR0 cR1 cR2 cR3 cR4 fR0 fR1 fR2 fR3 fR4
 obtain ⟨⟨zR0,zR1,zR2,zR3,zR4⟩,-⟩:=hS4.out.f5 0 w.heap.size 32 (.bool false) (.int .u64 x1) (.slice p1 l1 q1) (.int .u64 0) (.slice none 0 0) rfl
 have hq:=ru ((X:Nat):Int) (w:=(((((w2.setCell ⟨w.heap.size,0,none⟩ (.bool false)).setCell ⟨w.heap.size,1,none⟩ (.int .u64 x1)).setCell ⟨w.heap.size,2,none⟩ (.slice p1 l1 q1)).setCell ⟨w.heap.size,3,none⟩ (.int .u64 0)).setCell ⟨w.heap.size,4,none⟩ (.slice none 0 0))) (c:=.int .u64 x1) (d:=.slice p1 l1 q1) (by rw [Int.natAbs_natCast];exact (hS4.out.get (f:=.m (.int .u64 x1) (.slice p1 l1 q1) (X)) 0 rfl))
 rw [show decide (((X:Nat):Int)<0)=false from decide_eq_false (by omega)] at hq
 exact bodyPost_ret (v:=.agg #[.bool false,.int .u64 x1,.slice p1 l1 q1,.int .u64 0,.slice none 0 0]) (by simp [results,Tryz.results124,go_sem,zR0,zR1,zR2,zR3,zR4]) rfl ⟨_,rfl,hq,hS4.out.bel⟩
theorem RD (k:Nat) (hk:k≤64) (w:World):Calls Tryz.prog 123 #[.int .i64 (k:Int)] w (aT w (.bool true)):=by
 go_enter Tryz.func123,Tryz.ntmps123
 go_wp2
 go_ret
 have h:(k:Int)≤64:=by omega
 refine ⟨?_,Below.refl _ _⟩
 show Ending.returned (.bool (decide ((k:Int)≤64)))=_
 rw [decide_eq_true h]
theorem Pm (t:Bool) (x:Int) (p:Option Addr) (l q:Nat) (y:Int) (r:Option Addr) (s u:Nat) (W:World):(Instr.field 32 (.agg #[.bool t,.int .u64 x,.slice p l q,.int .u64 y,.slice r s u]) 0).run Tryz.prog W=.ok (.agg #[.bool t,.int .u64 x,.slice p l q]) W:=by
 kernel_rfl
theorem Pn (t:Bool) (x:Int) (p:Option Addr) (l q:Nat) (W:World):(Instr.field 30 (.agg #[.bool t,.int .u64 x,.slice p l q]) 1).run Tryz.prog W=.ok (.agg #[.int .u64 x,.slice p l q]) W:=by
 kernel_rfl
theorem PY (r:Rat) (F:Nat) (hF:r.num / (r.den:Int)=(F:Int)) (v:Value) (k:Nat) (w:World) (h:IsQ w v r) (hk:k≤8589934592) (f:Fits k r):Calls Tryz.prog 125 #[v] w (fun e w'=>∃ s:Nat,s*s≤F∧F<(s+1)*(s+1)∧aV w (((s:Nat):Int):Rat) e w'):=by
 have HL:=hid (fun (W:World) (v:Value) (h:IsQ W v r)=>yX r v k W h (by omega) f)
 rw [hF] at HL
 have hFk:F<B64 ^ k:=by
  have h1:=f.1
  have h2:(F:Int)≤(r.num.natAbs:Int):=by
   rw [← hF]
   refine Int.le_trans (Int.ediv_le_ediv (by have:=r.den_pos;omega) (Int.le_natAbs)) ?_
   exact Int.ediv_le_self _ (by omega)
  omega
 have HR:=hid (fun (W:World) (c d:Value) (h:ah W c d F)=>VG c d F k W h hk hFk)
 obtain ⟨t1,x1,p1,l1,q1,y1,r1,s1,u1,rfl⟩:=h.open
 have HI:=hid h
 have hq0:=Pm
 have hs1:=Pn
 clear h hF hFk f
 go_enter Tryz.func125,Tryz.ntmps125
 go_wp2_with fail
 have hS0:=hid (((St.start w).alloc' (w.heap.size) (by simp) 32 (c5 t1 x1 p1 l1 q1 y1 r1 s1 u1)).alloc' (w.heap.size+1) (by simp) 32 z5)
 obtain ⟨W0,hW0⟩:=aN hS0
 rw [hW0] at hS0 ⊢
 clear hW0
 have hi1:=HI.out.below hS0.out.bel
 have hS1:=hid (hS0.out.fq hi1)
 clear hS0 hi1
 refine (HL.out _ _ (hS1.out.gq 0 rfl)).mono ?_
 rintro e w1 ⟨v2,rfl,hv2,hB⟩
 have hS2:=hid (hS1.out.call hB)
 clear hB
 clear hS1
 obtain ⟨t2,x2,p2,l2,q2,y2,r2,s2,u2,rfl,hm2,-,-⟩:=hv2.shape
 rw [show ((F:Int):Rat).num=(F:Int) from rfl,Int.natAbs_natCast] at hm2
 clear hv2
 have hS3:=hid (hS2.out.fact (.m (.int .u64 x2) (.slice p2 l2 q2) (F)) hm2)
 clear hS2 hm2
 go_wp2_with fail
 refine (HR.out _ _ _ (hS3.out.get (f:=.m (.int .u64 x2) (.slice p2 l2 q2) (F)) 0 rfl)).mono ?_
 rintro e w2 ⟨S,hs1',hs2',c3,d3,rfl,hm3,hB⟩
 have hS4:=hid (hS3.out.call hB)
 clear hB
 clear hS3
 obtain ⟨x3,p3,l3,q3,rfl,rfl⟩:=hm3.shape
 have HS:=hid (And.intro hs1' hs2')
 clear hs1' hs2'
 have hS5:=hid (hS4.out.fact (.m (.int .u64 x3) (.slice p3 l3 q3) (S)) hm3)
 clear hS4 hm3
 go_wp2_with fail
 refine (sJ _ _ _ _ _ _).mono ?_
 rintro e w3 ⟨rfl,hB⟩
 have hS6:=hid (hS5.out.call hB)
 clear hB
 clear hS5
 obtain ⟨⟨cR0,cR1,cR2,cR3,cR4⟩,fR0,fR1,fR2,fR3,fR4⟩:=hS6.out.f5 0 (w.heap.size+1) 32 (.bool false) (.int .u64 0) (.slice none 0 0) (.int .u64 0) (.slice none 0 0) rfl
 have hS7:=hid (((((((hS6.out).store (b:=⟨w.heap.size+1,32,z5⟩) 0 0 (.bool false) rfl rfl).store (b:=⟨w.heap.size+1,32,z5⟩) 0 1 (.int .u64 x3) rfl rfl).store (b:=⟨w.heap.size+1,32,[.bool false,.int .u64 x3,.slice none 0 0,.int .u64 0,.slice none 0 0]⟩) 0 2 (.slice p3 l3 q3) rfl rfl).store (b:=⟨w.heap.size+1,32,[.bool false,.int .u64 x3,.slice p3 l3 q3,.int .u64 0,.slice none 0 0]⟩) 0 3 (.int .u64 0) rfl rfl).store (b:=⟨w.heap.size+1,32,[.bool false,.int .u64 x3,.slice p3 l3 q3,.int .u64 0,.slice none 0 0]⟩) 0 4 (.slice none 0 0) rfl rfl).as [⟨w.heap.size+1,32,[.bool false,.int .u64 x3,.slice p3 l3 q3,.int .u64 0,.slice none 0 0]⟩,⟨w.heap.size,32,(c5 t1 x1 p1 l1 q1 y1 r1 s1 u1)⟩] rfl)
 go_wp2_with fail
 clear cR0 cR1 cR2 cR3 cR4 fR0 fR1 fR2 fR3 fR4
 obtain ⟨⟨zR0,zR1,zR2,zR3,zR4⟩,-⟩:=hS7.out.f5 0 (w.heap.size+1) 32 (.bool false) (.int .u64 x3) (.slice p3 l3 q3) (.int .u64 0) (.slice none 0 0) rfl
 have hq:=ru ((S:Nat):Int) (w:=(((((w3.setCell ⟨w.heap.size+1,0,none⟩ (.bool false)).setCell ⟨w.heap.size+1,1,none⟩ (.int .u64 x3)).setCell ⟨w.heap.size+1,2,none⟩ (.slice p3 l3 q3)).setCell ⟨w.heap.size+1,3,none⟩ (.int .u64 0)).setCell ⟨w.heap.size+1,4,none⟩ (.slice none 0 0))) (c:=.int .u64 x3) (d:=.slice p3 l3 q3) (by rw [Int.natAbs_natCast];exact (hS7.out.get (f:=.m (.int .u64 x3) (.slice p3 l3 q3) (S)) 0 rfl))
 rw [show decide (((S:Nat):Int)<0)=false from decide_eq_false (by omega)] at hq
 exact bodyPost_ret (v:=.agg #[.bool false,.int .u64 x3,.slice p3 l3 q3,.int .u64 0,.slice none 0 0]) (by simp [results,Tryz.results125,go_sem,zR0,zR1,zR2,zR3,zR4]) rfl ⟨S,HS.out.1,HS.out.2,_,rfl,hq,hS7.out.bel⟩
end
section
open Go.RowKit Go.Sort
attribute [local go_sem] takes fP fO fM
def RtV (F:Nat) (P:Rat) (v:Value) (W:World):Prop:=∃ S:Nat,S*S≤F∧F<(S+1)*(S+1)∧IsQ W v ((((S:Nat):Int):Rat) / P)
theorem Jf {F:Nat} {P:Rat}:∀ v W W',Below W.heap.size W W'→RtV F P v W→RtV F P v W':=fun _ _ _ hb ⟨S,h1,h2,h3⟩=>⟨S,h1,h2,h3.below hb⟩
theorem RtV.elim {G:Prop} {F:Nat} {P:Rat} {v:Value} {W:World} (h:RtV F P v W) (k:∀ S:Nat,S*S≤F→F<(S+1)*(S+1)→IsQ W v ((((S:Nat):Int):Rat) / P)→G):G:=by
 obtain ⟨S,h1,h2,h3⟩:=h
 exact k S h1 h2 h3
theorem FI (x:Rat):x / 1=x:=by grind
theorem KL (r:Rat) (F g:Nat) (hg:g≤64) (P:Rat) (hP:(((2 ^ g:Nat):Int):Rat)=P) (R2:Rat) (hR2:r*P*P=R2) (hF:R2.num / (R2.den:Int)=(F:Int)) (hr:decide (r.num<0)=false) (v:Value) (k:Nat) (w:World) (h:IsQ w v r) (hk:k≤8589934592) (f0:Fits k r) (f1:Fits k P) (f2:Fits k (r*P)) (f3:Fits k R2) (hE:Env w) :
  Calls Tryz.prog 49 #[v,.int .i64 (g:Int)] w (fun e w'=>∃ S:Nat,S*S≤F∧F<(S+1)*(S+1)∧dG w ((((S:Nat):Int):Rat) / P) 0 e w'):=by
 have hP0:P≠0:=by
  rw [← hP]
  intro h
  have h1:((2 ^ g:Nat):Int)=0:=Rat.intCast_eq_zero_iff.1 h
  have h2:0<2 ^ g:=Nat.two_pow_pos g
  omega
 have HG:=hid (fun (W:World)=>RD g hg W)
 have HP:=hid (fun (W:World)=>hP ▸ U4 g (by omega) W)
 obtain ⟨R1,hR1⟩:∃ R1,r*P=R1:=⟨_,rfl⟩
 rw [hR1] at f2 hR2
 have HM1:=hid (fun (W:World) (v1 v2:Value) (i:IsQ W v1 r) (j:IsQ W v2 P) (hT:Tab W)=>hR1 ▸ jH r P v1 v2 k W i j (by omega) f0 f1 hT)
 have HM2:=hid (fun (W:World) (v1 v2:Value) (i:IsQ W v1 R1) (j:IsQ W v2 P) (hT:Tab W)=>hR2 ▸ jH R1 P v1 v2 k W i j (by omega) f2 f1 hT)
 have HR:=hid (fun (W:World) (v:Value) (h:IsQ W v R2)=>PY R2 F hF v k W h hk f3)
 have hFk:F<B64 ^ k:=by
  have h1:=f3.1
  have h2:(F:Int)≤(R2.num.natAbs:Int):=by
   rw [← hF]
   refine Int.le_trans (Int.ediv_le_ediv (by have:=R2.den_pos;omega) (Int.le_natAbs)) ?_
   exact Int.ediv_le_self _ (by omega)
  omega
 have HO:=hid (fun (S:Nat) (hS:S*S≤F) (W:World) (v1 v2:Value) (i:IsQ W v1 ((S:Int):Rat)) (j:IsQ W v2 P) (hT:Tab W)=>qj ((S:Int):Rat) P v1 v2 k W i j (by omega) hP0 (by
  have h1:S≤S*S:=Nat.le_mul_self S
  have h2:1<B64 ^ k:=Nat.lt_of_le_of_lt (Nat.one_le_iff_ne_zero.2 (by have:=P.den_pos;omega)) f1.2
  exact ⟨by show (S:Int).natAbs<_;omega,h2⟩) f1 hT)
 have HE:=hid hE
 have hk1:=hid (And.intro hF hFk)
 obtain ⟨t1,x1,p1,l1,q1,y1,r1,s1,u1,rfl⟩:=h.open
 have hneg:t1=false:=by
  have:=(IsQ.shape h)
  obtain ⟨t,x,p,l,q,y,p',s,u,e,-,-,e'⟩:=this
  have h1:=e'.out
  cases e
  rw [h1,hr]
 subst hneg
 have HI:=hid h
 clear h hP hR2 hF hr f0 f1 f2 f3 hE hP0 hR1 hFk
 go_enter Tryz.func49,Tryz.ntmps49
 go_wp2_with fail
 have hS0:=hid (((St.start w).alloc' (w.heap.size) (by simp) 32 (c5 false x1 p1 l1 q1 y1 r1 s1 u1)).alloc' (w.heap.size+1) (by simp) 32 z5)
 obtain ⟨W0,hW0⟩:=aN hS0
 rw [hW0] at hS0 ⊢
 clear hW0
 have hi1:=HI.out.below hS0.out.bel
 have hS1:=hid (hS0.out.fq hi1)
 clear hS0 hi1
 refine (HG.out _).mono ?_
 rintro e w1 ⟨rfl,hB⟩
 have hS2:=hid (hS1.out.call hB)
 clear hB
 clear hS1
 obtain ⟨⟨cA0,cA1,cA2,cA3,cA4⟩,fA0,fA1,fA2,fA3,fA4⟩:=hS2.out.f5 1 w.heap.size 32 (.bool false) (.int .u64 x1) (.slice p1 l1 q1) (.int .u64 y1) (.slice r1 s1 u1) rfl
 go_wp2_with fail
 clear cA0 cA1 cA2 cA3 cA4 fA0 fA1 fA2 fA3 fA4
 refine (HP.out _).mono ?_
 rintro e w2 ⟨v2,rfl,hv2,hB⟩
 have hS3:=hid (hS2.out.call hB)
 clear hB
 clear hS2
 obtain ⟨t2,x2,p2,l2,q2,y2,r2,s2,u2,rfl⟩:=hv2.open
 have hS4:=hid (hS3.out.fq hv2)
 clear hS3 hv2
 obtain ⟨ne1l,ne1,ne1'⟩:=hS4.out.ne 1 w.heap.size 32 (c5 false x1 p1 l1 q1 y1 r1 s1 u1) rfl
 obtain ⟨ne2l,ne2,ne2'⟩:=hS4.out.ne 0 (w.heap.size+1) 32 z5 rfl
 obtain ⟨⟨cA0,cA1,cA2,cA3,cA4⟩,fA0,fA1,fA2,fA3,fA4⟩:=hS4.out.f5 1 w.heap.size 32 (.bool false) (.int .u64 x1) (.slice p1 l1 q1) (.int .u64 y1) (.slice r1 s1 u1) rfl
 go_wp2_with fail
 clear cA0 cA1 cA2 cA3 cA4 fA0 fA1 fA2 fA3 fA4
 have hS5:=hid ((hS4.out).alloc' (w2.heap.size) (by simp) 32 (c5 t2 x2 p2 l2 q2 y2 r2 s2 u2))
 obtain ⟨W3,hW3⟩:=aN hS5
 rw [hW3] at hS5 ⊢
 clear hW3
 have LM0:=hid (fun (W:World) (h:Below W3.heap.size W3 W)=>((hS5.out.call h).f5 2 w.heap.size 32 (.bool false) (.int .u64 x1) (.slice p1 l1 q1) (.int .u64 y1) (.slice r1 s1 u1) rfl).1)
 have LM1:=hid (fun (W:World) (h:Below W3.heap.size W3 W)=>((hS5.out.call h).f5 0 w2.heap.size 32 (.bool t2) (.int .u64 x2) (.slice p2 l2 q2) (.int .u64 y2) (.slice r2 s2 u2) rfl).1)
 have LM2:=hid (fun (W:World) (h:Below W3.heap.size W3 W)=>HE.out.below (hS5.out.call h).bel (Nat.le_refl _))
 refine gU 8 [⟨[],[0]⟩,⟨[],[1]⟩,⟨[0,1],[2]⟩,⟨[],[3]⟩,⟨[2,3],[4]⟩,⟨[4],[5]⟩,⟨[],[6]⟩,⟨[5,6],[7]⟩]
  [oE (.agg #[.bool false,.int .u64 x1,.slice p1 l1 q1,.int .u64 y1,.slice r1 s1 u1]),oE (.agg #[.bool t2,.int .u64 x2,.slice p2 l2 q2,.int .u64 y2,.slice r2 s2 u2]),oQ (R1),oE (.agg #[.bool t2,.int .u64 x2,.slice p2 l2 q2,.int .u64 y2,.slice r2 s2 u2]),oQ (R2),one (RtV F 1),oE (.agg #[.bool t2,.int .u64 x2,.slice p2 l2 q2,.int .u64 y2,.slice r2 s2 u2]),one (RtV F P)]
  (fun _ W=>Below W3.heap.size W3 W) (by kernel_rfl) (by kernel_rfl) ?hTW4 ?hZW4 ?hOW4 ?hEW4
 case hZW4=>exact (Below.refl _ _).drew
 case hTW4 =>
  simp only [List.forall_mem_cons,List.not_mem_nil,false_imp_iff,implies_true,and_true]
  exact ⟨bE,bE,bQ,bE,bQ,aK Jf,bE,aK Jf⟩
 case hOW4 =>
  intro u
  simp only [List.take_succ_cons,List.take_zero,aG]
  repeat' (first | with_reducible exact dQ | with_reducible refine dP ?_ ?_)
  ·intro W hS hF K hK
   have hcA:=LM0.out W hS
   go_simp
   exact hK _ _ (.refl _ _) hS rfl
  ·intro W hS hF K hK
   have hcP:=LM1.out W hS
   go_simp
   exact hK _ _ (.refl _ _) hS rfl
  ·intro W hS hF K hK
   have h0:u 0=.agg #[.bool false,.int .u64 x1,.slice p1 l1 q1,.int .u64 y1,.slice r1 s1 u1]:=hF.1
   have h1:u 1=.agg #[.bool t2,.int .u64 x2,.slice p2 l2 q2,.int .u64 y2,.slice r2 s2 u2]:=hF.2.1
   have sH:=hid (hS5.out.call hS)
   clear hF
   go_simp
   refine (HM1.out _ _ _ (sH.out.get (f:=.q (.agg #[.bool false,.int .u64 x1,.slice p1 l1 q1,.int .u64 y1,.slice r1 s1 u1]) (r)) 1 rfl) (sH.out.get (f:=.q (.agg #[.bool t2,.int .u64 x2,.slice p2 l2 q2,.int .u64 y2,.slice r2 s2 u2]) (P)) 0 rfl) (LM2.out W hS).tz).mono ?_
   rintro e wA ⟨v,rfl,hv,hBA⟩
   exact ⟨_,rfl,hK _ _ hBA (hS.trans (hBA.mono hS.size)) hv⟩
  ·intro W hS hF K hK
   have hcP:=LM1.out W hS
   go_simp
   exact hK _ _ (.refl _ _) hS rfl
  ·intro W hS hF K hK
   have hq2:IsQ W (u 2) (R1):=hF.1
   have h3:u 3=.agg #[.bool t2,.int .u64 x2,.slice p2 l2 q2,.int .u64 y2,.slice r2 s2 u2]:=hF.2.1
   have sH:=hid (hS5.out.call hS)
   clear hF
   go_simp
   refine (HM2.out _ _ _ hq2 (sH.out.get (f:=.q (.agg #[.bool t2,.int .u64 x2,.slice p2 l2 q2,.int .u64 y2,.slice r2 s2 u2]) (P)) 0 rfl) (LM2.out W hS).tz).mono ?_
   rintro e wA ⟨v,rfl,hv,hBA⟩
   exact ⟨_,rfl,hK _ _ hBA (hS.trans (hBA.mono hS.size)) hv⟩
  ·intro W hS hF K hK
   have hq4:IsQ W (u 4) (R2):=hF.1
   clear hF
   go_simp
   refine (HR.out _ _ hq4).mono ?_
   rintro e wA ⟨S,hs1,hs2,v,rfl,hv,hBA⟩
   exact ⟨_,rfl,hK _ _ hBA (hS.trans (hBA.mono hS.size)) ⟨S,hs1,hs2,by rw [FI];exact hv⟩⟩
  ·intro W hS hF K hK
   have hcP:=LM1.out W hS
   go_simp
   exact hK _ _ (.refl _ _) hS rfl
  ·intro W hS hF K hK
   have hk5:RtV F 1 (u 5) W:=hF.1;with_reducible refine RtV.elim hk5 ?_;intro S5 hs5 ht5 hq5;rw [FI] at hq5
   have h6:u 6=.agg #[.bool t2,.int .u64 x2,.slice p2 l2 q2,.int .u64 y2,.slice r2 s2 u2]:=hF.2.1
   have sH:=hid (hS5.out.call hS)
   clear hF
   go_simp
   refine (HO.out S5 hs5 _ _ _ hq5 (sH.out.get (f:=.q (.agg #[.bool t2,.int .u64 x2,.slice p2 l2 q2,.int .u64 y2,.slice r2 s2 u2]) (P)) 0 rfl) (LM2.out W hS).tz).mono ?_
   rintro e wA ⟨v,rfl,hv,hBA⟩
   exact ⟨_,rfl,hK _ _ hBA (hS.trans (hBA.mono hS.size)) ⟨S5,hs5,ht5,hv⟩⟩
 case hEW4 =>
  intro u W4 hS hF
  have hS6:=hid (hS5.out.call hS)
  have hk7:RtV F P (u 7) W4:=hF.2.2.2.2.2.2.2.1
  clear hF hS
  obtain ⟨S,hs,ht,hv0⟩:=hk7
  obtain ⟨t9,x9,p9,l9,q9,y9,r9,s9,u9,e9⟩:=hv0.open
  have hv9:IsQ W4 (.agg #[.bool t9,.int .u64 x9,.slice p9 l9 q9,.int .u64 y9,.slice r9 s9 u9]) ((((S:Nat):Int):Rat) / P):=e9 ▸ hv0
  have HS:=hid (And.intro hs ht)
  clear hv0 hs ht
  have hS7:=hid (hS6.out.fq hv9)
  clear hS6 hv9
  obtain ⟨⟨cR0,cR1,cR2,cR3,cR4⟩,fR0,fR1,fR2,fR3,fR4⟩:=hS7.out.f5 1 (w.heap.size+1) 32 (.bool false) (.int .u64 0) (.slice none 0 0) (.int .u64 0) (.slice none 0 0) rfl
  simp only [List.take_succ_cons,List.take_zero,aG,List.drop_succ_cons,List.drop_zero]
  have hS8:=hid (((((((hS7.out).store (b:=⟨w.heap.size+1,32,z5⟩) 1 0 (.bool t9) rfl rfl).store (b:=⟨w.heap.size+1,32,[.bool t9,.int .u64 0,.slice none 0 0,.int .u64 0,.slice none 0 0]⟩) 1 1 (.int .u64 x9) rfl rfl).store (b:=⟨w.heap.size+1,32,[.bool t9,.int .u64 x9,.slice none 0 0,.int .u64 0,.slice none 0 0]⟩) 1 2 (.slice p9 l9 q9) rfl rfl).store (b:=⟨w.heap.size+1,32,[.bool t9,.int .u64 x9,.slice p9 l9 q9,.int .u64 0,.slice none 0 0]⟩) 1 3 (.int .u64 y9) rfl rfl).store (b:=⟨w.heap.size+1,32,[.bool t9,.int .u64 x9,.slice p9 l9 q9,.int .u64 y9,.slice none 0 0]⟩) 1 4 (.slice r9 s9 u9) rfl rfl).as [⟨w2.heap.size,32,(c5 t2 x2 p2 l2 q2 y2 r2 s2 u2)⟩,⟨w.heap.size+1,32,(c5 t9 x9 p9 l9 q9 y9 r9 s9 u9)⟩,⟨w.heap.size,32,(c5 false x1 p1 l1 q1 y1 r1 s1 u1)⟩] rfl)
  go_wp2_with fail
  clear cR0 cR1 cR2 cR3 cR4 fR0 fR1 fR2 fR3 fR4
  obtain ⟨⟨zR0,zR1,zR2,zR3,zR4⟩,-⟩:=hS8.out.f5 1 (w.heap.size+1) 32 (.bool t9) (.int .u64 x9) (.slice p9 l9 q9) (.int .u64 y9) (.slice r9 s9 u9) rfl
  exact bodyPost_ret (v:=.tuple #[.agg #[.bool t9,.int .u64 x9,.slice p9 l9 q9,.int .u64 y9,.slice r9 s9 u9],.int .i64 0]) (by simp [results,Tryz.results49,go_sem,zR0,zR1,zR2,zR3,zR4]) rfl ⟨S,HS.out.1,HS.out.2,_,rfl,(hS8.out.gq 0 rfl),hS8.out.bel⟩
end
section
open Go.RowKit Go.Sort
attribute [local go_sem] takes fP fO fM
theorem CY (l s top bottom:List UInt8) (w:World) (hl:l.length≤1000) (hs:Lib.trimPrefix l [45]=s) (hneg:Lib.hasPrefix l [45]=false) (hc:Lib.cut s [47]=(top,bottom,true)) (h1:mO top=true) (h2:mO bottom=true) (h0:dv bottom≠0) (hsl:s.length≤1000) (htl:top.length≤1000) (hbl:bottom.length≤1000) (hE:Env w) :
  Calls Tryz.prog 112 #[.string ⟨l.toArray⟩] w (dG w (mkRat (zs false (dv top)) (dv bottom)) 0):=by
 have HC:=hid (fun (W:World)=>Fp l W)
 have HU:=hid (fun (W:World) (hM:lu W)=>AU s 47 W (by omega) hM)
 rw [hs,hneg] at HC
 rw [hc] at HU
 have HI1:=hid (fun (W:World)=>BI top W (by omega))
 have HI2:=hid (fun (W:World)=>BI bottom W (by omega))
 rw [h1] at HI1
 rw [h2] at HI2
 have a1:top.all bJ=true:=by simp only [mO,Bool.and_eq_true] at h1;exact h1.1.2
 have a2:bottom.all bJ=true:=by simp only [mO,Bool.and_eq_true] at h2;exact h2.1.2
 have HM1:=hid (fun (W:World)=>xE top W a1 (by omega))
 have HM2:=hid (fun (W:World)=>xE bottom W a2 (by omega))
 obtain ⟨K,hK⟩:∃ K,K=1020:=⟨_,rfl⟩
 have b1:dv top<B64 ^ K:=Nat.lt_trans (qI top a1) (ni (by omega))
 have b2:dv bottom<B64 ^ K:=Nat.lt_trans (qI bottom a2) (ni (by omega))
 obtain ⟨n,hn⟩:∃ n,dv top=n:=⟨_,rfl⟩
 obtain ⟨m,hm⟩:∃ m,dv bottom=m:=⟨_,rfl⟩
 rw [hn] at HM1 b1 ⊢
 rw [hm] at HM2 b2 h0 ⊢
 have HR:=hid (fun (c d e f:Value) (W:World) (i1:ah W c d n) (i2:ah W e f m) (hT:Tab W)=>yh false c d e f n m K W i1 i2 h0 (by omega) b1 b2 hT)
 have z1:(m == 0)=false:=by simpa using h0
 have HE:=hid hE
 obtain ⟨z,hz⟩:∃ z,(n == 0)=z:=⟨_,rfl⟩
 have HZ:=hid (fun (W:World) (c d:Value) (h:ah W c d n)=>hz ▸ dD c d n W h)
 have HZ2:=hid (fun (W:World) (c d:Value) (h:ah W c d m)=>z1 ▸ dD c d m W h)
 obtain ⟨R,hR⟩:∃ R,mkRat (zs false n) m=R:=⟨_,rfl⟩
 rw [hR] at HR ⊢
 clear hR hs hneg hc h1 h2 h0 hsl htl hbl hE a1 a2 hK b1 b2 hn hm hz z1
 go_enter Tryz.func112,Tryz.ntmps112
 go_wp2_with fail
 have hS0:=hid ((St.start w).alloc' (w.heap.size) (by simp) 32 z5)
 obtain ⟨W0,hW0⟩:=aN hS0
 rw [hW0] at hS0 ⊢
 clear hW0
 refine (HC.out _).mono ?_
 rintro e w1 ⟨rfl,hB⟩
 have hS1:=hid (hS0.out.call hB)
 clear hB
 clear hS0
 go_wp2_with fail
 refine (HU.out _ (HE.out.below hS1.out.bel (Nat.le_refl _)).max).mono ?_
 rintro e w2 ⟨rfl,hB⟩
 have hS2:=hid (hS1.out.call hB)
 clear hB
 clear hS1
 go_wp2_with fail
 refine (HI1.out _).mono ?_
 rintro e w9 ⟨rfl,rfl⟩
 go_wp2_with fail
 refine (HI2.out _).mono ?_
 rintro e w9 ⟨rfl,rfl⟩
 go_wp2_with fail
 refine (HM1.out _).mono ?_
 rintro e w3 ⟨c1,d1,rfl,hm1,hB⟩
 have hS3:=hid (hS2.out.call hB)
 clear hB
 clear hS2
 obtain ⟨x1,p1,l1,q1,rfl,rfl⟩:=hm1.shape
 have hS4:=hid (hS3.out.fact (.m (.int .u64 x1) (.slice p1 l1 q1) (n)) hm1)
 clear hS3 hm1
 obtain ⟨ne1l,ne1,ne1'⟩:=hS4.out.ne 0 w.heap.size 32 z5 rfl
 go_wp2_with fail
 have hS5:=hid (((hS4.out).alloc' (w3.heap.size) (by simp) 28 [.int .u64 x1,.slice p1 l1 q1]).alloc' (w3.heap.size+1) (by simp) 28 [.int .u64 1,.slice none 0 0])
 obtain ⟨W3,hW3⟩:=aN hS5
 rw [hW3] at hS5 ⊢
 clear hW3
 refine (HM2.out _).mono ?_
 rintro e w4 ⟨c2,d2,rfl,hm2,hB⟩
 have hS6:=hid (hS5.out.call hB)
 clear hB
 clear hS5
 obtain ⟨x2,p2,l2,q2,rfl,rfl⟩:=hm2.shape
 have hS7:=hid (hS6.out.fact (.m (.int .u64 x2) (.slice p2 l2 q2) (m)) hm2)
 clear hS6 hm2
 obtain ⟨⟨cs0,cs1⟩,fs0,fs1⟩:=hS7.out.f2 1 w3.heap.size 28 (.int .u64 x1) (.slice p1 l1 q1) rfl
 obtain ⟨⟨cu0,cu1⟩,fu0,fu1⟩:=hS7.out.f2 0 (w3.heap.size+1) 28 (.int .u64 1) (.slice none 0 0) rfl
 go_wp2_with fail
 clear cs0 cs1 fs0 fs1 cu0 cu1 fu0 fu1
 have hS8:=hid ((((hS7.out).store (b:=⟨w3.heap.size+1,28,[.int .u64 1,.slice none 0 0]⟩) 0 0 (.int .u64 x2) rfl rfl).store (b:=⟨w3.heap.size+1,28,[.int .u64 x2,.slice none 0 0]⟩) 0 1 (.slice p2 l2 q2) rfl rfl).as [⟨w3.heap.size+1,28,[.int .u64 x2,.slice p2 l2 q2]⟩,⟨w3.heap.size,28,[.int .u64 x1,.slice p1 l1 q1]⟩,⟨w.heap.size,32,z5⟩] rfl)
 obtain ⟨W4,hW4⟩:=aN hS8
 rw [hW4] at hS8 ⊢
 clear hW4
 refine (HZ2.out _ _ _ (hS8.out.get (f:=.m (.int .u64 x2) (.slice p2 l2 q2) (m)) 0 rfl)).mono ?_
 rintro e w5 ⟨rfl,hB⟩
 have hS9:=hid (hS8.out.call hB)
 clear hB
 clear hS8
 obtain ⟨⟨cs0,cs1⟩,fs0,fs1⟩:=hS9.out.f2 1 w3.heap.size 28 (.int .u64 x1) (.slice p1 l1 q1) rfl
 obtain ⟨⟨cu0,cu1⟩,fu0,fu1⟩:=hS9.out.f2 0 (w3.heap.size+1) 28 (.int .u64 x2) (.slice p2 l2 q2) rfl
 go_wp2_with fail
 clear cs0 cs1 fs0 fs1 cu0 cu1 fu0 fu1
 have LM0:=hid (fun (W:World) (h:Below w5.heap.size w5 W)=>((hS9.out.call h).f2 1 w3.heap.size 28 (.int .u64 x1) (.slice p1 l1 q1) rfl).1)
 have LM1:=hid (fun (W:World) (h:Below w5.heap.size w5 W)=>((hS9.out.call h).f2 0 (w3.heap.size+1) 28 (.int .u64 x2) (.slice p2 l2 q2) rfl).1)
 have LM2:=hid (fun (W:World) (h:Below w5.heap.size w5 W)=>HE.out.below (hS9.out.call h).bel (Nat.le_refl _))
 refine gU 10 [⟨[],[0]⟩,⟨[0],[1]⟩,⟨[1],[2]⟩,⟨[1],[3]⟩,⟨[1],[4]⟩,⟨[1],[5]⟩,⟨[],[6]⟩,⟨[5,6],[7]⟩,⟨[],[8]⟩,⟨[7,8],[9]⟩]
  [oE (.bool false),oE (.bool false),oE undef,oE undef,oE undef,oE (.bool false),oE (.agg #[.int .u64 x1,.slice p1 l1 q1]),oE (.agg #[.bool false,.int .u64 x1,.slice p1 l1 q1]),oE (.agg #[.int .u64 x2,.slice p2 l2 q2]),oQ (R)]
  (fun _ W=>Below w5.heap.size w5 W) (by kernel_rfl) (by kernel_rfl) ?hTW6 ?hZW6 ?hOW6 ?hEW6
 case hZW6=>exact (Below.refl _ _).drew
 case hTW6 =>
  simp only [List.forall_mem_cons,List.not_mem_nil,false_imp_iff,implies_true,and_true]
  exact ⟨bE,bE,bE,bE,bE,bE,bE,bE,bE,bQ⟩
 case hOW6 =>
  intro u
  simp only [List.take_succ_cons,List.take_zero,aG]
  repeat' (first | with_reducible exact dQ | with_reducible refine dP ?_ ?_)
  ·intro W hS hF K hK
   go_simp
   exact hK _ _ (.refl _ _) hS rfl
  ·intro W hS hF K hK
   have h0:u 0=.bool false:=hF.1
   clear hF
   go_simp
   exact hK _ _ (.refl _ _) hS rfl
  ·intro W hS hF K hK
   have h1:u 1=.bool false:=hF.1
   clear hF
   go_simp
   exact hK _ _ (.refl _ _) hS rfl
  ·intro W hS hF K hK
   have h1:u 1=.bool false:=hF.1
   clear hF
   go_simp
   exact hK _ _ (.refl _ _) hS rfl
  ·intro W hS hF K hK
   have h1:u 1=.bool false:=hF.1
   clear hF
   go_simp
   exact hK _ _ (.refl _ _) hS rfl
  ·intro W hS hF K hK
   have h1:u 1=.bool false:=hF.1
   clear hF
   go_simp
   exact hK _ _ (.refl _ _) hS rfl
  ·intro W hS hF K hK
   have hcs:=LM0.out W hS
   go_simp
   exact hK _ _ (.refl _ _) hS rfl
  ·intro W hS hF K hK
   have h5:u 5=.bool false:=hF.1
   have h6:u 6=.agg #[.int .u64 x1,.slice p1 l1 q1]:=hF.2.1
   clear hF
   go_simp
   exact hK _ _ (.refl _ _) hS rfl
  ·intro W hS hF K hK
   have hcu:=LM1.out W hS
   go_simp
   exact hK _ _ (.refl _ _) hS rfl
  ·intro W hS hF K hK
   have h7:u 7=.agg #[.bool false,.int .u64 x1,.slice p1 l1 q1]:=hF.1
   have h8:u 8=.agg #[.int .u64 x2,.slice p2 l2 q2]:=hF.2.1
   have sH:=hid (hS9.out.call hS)
   clear hF
   go_simp
   refine (HR.out _ _ _ _ _ (sH.out.get (f:=.m (.int .u64 x1) (.slice p1 l1 q1) (n)) 1 rfl) (sH.out.get (f:=.m (.int .u64 x2) (.slice p2 l2 q2) (m)) 0 rfl) (LM2.out W hS).tz).mono ?_
   rintro e wA ⟨v,rfl,hv,hBA⟩
   exact ⟨_,rfl,hK _ _ hBA (hS.trans (hBA.mono hS.size)) hv⟩
 case hEW6 =>
  intro u W6 hS hF
  have hS10:=hid (hS9.out.call hS)
  have hv0:IsQ W6 (u 9) R:=hF.2.2.2.2.2.2.2.2.2.1
  clear hF hS
  obtain ⟨t9,x9,p9,l9,q9,y9,r9,s9,u9,e9⟩:=hv0.open
  have hv9:IsQ W6 (.agg #[.bool t9,.int .u64 x9,.slice p9 l9 q9,.int .u64 y9,.slice r9 s9 u9]) R:=e9 ▸ hv0
  clear hv0
  have hS11:=hid (hS10.out.fq hv9)
  clear hS10 hv9
  obtain ⟨⟨cR0,cR1,cR2,cR3,cR4⟩,fR0,fR1,fR2,fR3,fR4⟩:=hS11.out.f5 2 w.heap.size 32 (.bool false) (.int .u64 0) (.slice none 0 0) (.int .u64 0) (.slice none 0 0) rfl
  simp only [List.take_succ_cons,List.take_zero,aG,List.drop_succ_cons,List.drop_zero]
  have hS12:=hid (((((((hS11.out).store (b:=⟨w.heap.size,32,z5⟩) 2 0 (.bool t9) rfl rfl).store (b:=⟨w.heap.size,32,[.bool t9,.int .u64 0,.slice none 0 0,.int .u64 0,.slice none 0 0]⟩) 2 1 (.int .u64 x9) rfl rfl).store (b:=⟨w.heap.size,32,[.bool t9,.int .u64 x9,.slice none 0 0,.int .u64 0,.slice none 0 0]⟩) 2 2 (.slice p9 l9 q9) rfl rfl).store (b:=⟨w.heap.size,32,[.bool t9,.int .u64 x9,.slice p9 l9 q9,.int .u64 0,.slice none 0 0]⟩) 2 3 (.int .u64 y9) rfl rfl).store (b:=⟨w.heap.size,32,[.bool t9,.int .u64 x9,.slice p9 l9 q9,.int .u64 y9,.slice none 0 0]⟩) 2 4 (.slice r9 s9 u9) rfl rfl).as [⟨w3.heap.size+1,28,[.int .u64 x2,.slice p2 l2 q2]⟩,⟨w3.heap.size,28,[.int .u64 x1,.slice p1 l1 q1]⟩,⟨w.heap.size,32,(c5 t9 x9 p9 l9 q9 y9 r9 s9 u9)⟩] rfl)
  go_wp2_with fail
  clear cR0 cR1 cR2 cR3 cR4 fR0 fR1 fR2 fR3 fR4
  obtain ⟨⟨zR0,zR1,zR2,zR3,zR4⟩,-⟩:=hS12.out.f5 2 w.heap.size 32 (.bool t9) (.int .u64 x9) (.slice p9 l9 q9) (.int .u64 y9) (.slice r9 s9 u9) rfl
  exact bodyPost_ret (v:=.tuple #[.agg #[.bool t9,.int .u64 x9,.slice p9 l9 q9,.int .u64 y9,.slice r9 s9 u9],.int .i64 0]) (by simp [results,Tryz.results112,go_sem,zR0,zR1,zR2,zR3,zR4]) rfl ⟨_,rfl,(hS12.out.gq 0 rfl),hS12.out.bel⟩
end
section
open Go.RowKit Go.Sort
attribute [local go_sem] takes fP fO fM
theorem U0 (l s top bottom:List UInt8) (w:World) (hl:l.length≤1000) (hs:Lib.trimPrefix l [45]=s) (hneg:Lib.hasPrefix l [45]=true) (hc:Lib.cut s [47]=(s,[],false)) (hc2:Lib.cut s [46]=(top,bottom,true)) (h1:mO top=true) (h2:(bottom != [] && bottom.all bJ)=true) (hsl:s.length≤1000) (htl:top.length≤1000) (hbl:bottom.length≤1000) (hE:Env w) :
  Calls Tryz.prog 112 #[.string ⟨l.toArray⟩] w (dG w (mkRat (zs (!(dv (top ++ bottom) == 0)) (dv (top ++ bottom))) (10 ^ bottom.length)) 0):=by
 have HC:=hid (fun (W:World)=>Fp l W)
 have HU:=hid (fun (W:World) (hM:lu W)=>AU s 47 W (by omega) hM)
 have HV:=hid (fun (W:World) (hM:lu W)=>AU s 46 W (by omega) hM)
 rw [hs,hneg] at HC
 rw [hc] at HU
 rw [hc2] at HV
 have HI1:=hid (fun (W:World)=>BI top W (by omega))
 rw [h1] at HI1
 have HI2:=hid (fun (W:World)=>Gx bottom W (by omega))
 rw [h2] at HI2
 have a1:top.all bJ=true:=by simp only [mO,Bool.and_eq_true] at h1;exact h1.1.2
 have a2:bottom.all bJ=true:=by simp only [Bool.and_eq_true] at h2;exact h2.2
 have a3:(top ++ bottom).all bJ=true:=by rw [List.all_append,a1,a2];rfl
 have HM1:=hid (fun (W:World)=>xE top W a1 (by omega))
 have happ:(⟨top.toArray⟩:ByteArray) ++ ⟨bottom.toArray⟩=⟨(top ++ bottom).toArray⟩:=by apply ByteArray.ext;simp
 have HM2:=hid (fun (W:World)=>xE (top ++ bottom) W a3 (by rw [List.length_append];omega))
 rw [← happ] at HM2
 obtain ⟨K,hK⟩:∃ K,K=3020:=⟨_,rfl⟩
 have b1:dv (top ++ bottom)<B64 ^ K:=Nat.lt_trans (qI _ a3) (ni (by rw [List.length_append];omega))
 have b2:10 ^ bottom.length<B64 ^ K:=ni (by omega)
 have b3:10 ^ bottom.length≠0:=Nat.pos_iff_ne_zero.1 (Nat.pow_pos (by decide))
 have HP:=hid (fun (W:World)=>IE bottom.length K W b2 (by omega))
 obtain ⟨n,hn⟩:∃ n,dv (top ++ bottom)=n:=⟨_,rfl⟩
 obtain ⟨m,hm⟩:∃ m,10 ^ bottom.length=m:=⟨_,rfl⟩
 obtain ⟨n0,hn0⟩:∃ n0,dv top=n0:=⟨_,rfl⟩
 rw [hn0] at HM1
 rw [hn] at HM2 b1 ⊢
 rw [hm] at HP b2 b3 ⊢
 have HR:=hid (fun (c d e f:Value) (W:World) (i1:ah W c d n) (i2:ah W e f m) (hT:Tab W)=>yh (!(n == 0)) c d e f n m K W i1 i2 b3 (by omega) b1 b2 hT)
 have z1:(m == 0)=false:=by simpa using b3
 have HE:=hid hE
 obtain ⟨z,hz⟩:∃ z,(n == 0)=z:=⟨_,rfl⟩
 have HZ:=hid (fun (W:World) (c d:Value) (h:ah W c d n)=>hz ▸ dD c d n W h)
 have HZ2:=hid (fun (W:World) (c d:Value) (h:ah W c d m)=>z1 ▸ dD c d m W h)
 rw [hz] at HR ⊢
 obtain ⟨R,hR⟩:∃ R,mkRat (zs (!z) n) m=R:=⟨_,rfl⟩
 rw [hR] at HR ⊢
 clear happ hR hs hneg hc hc2 h1 h2 hsl hE a1 a2 a3 hK b1 b2 b3 hn hm hn0 hz z1
 go_enter Tryz.func112,Tryz.ntmps112
 go_wp2_with fail
 have hS0:=hid ((St.start w).alloc' (w.heap.size) (by simp) 32 z5)
 obtain ⟨W0,hW0⟩:=aN hS0
 rw [hW0] at hS0 ⊢
 clear hW0
 refine (HC.out _).mono ?_
 rintro e w1 ⟨rfl,hB⟩
 have hS1:=hid (hS0.out.call hB)
 clear hB
 clear hS0
 go_wp2_with fail
 refine (HU.out _ (HE.out.below hS1.out.bel (Nat.le_refl _)).max).mono ?_
 rintro e w2 ⟨rfl,hB⟩
 have hS2:=hid (hS1.out.call hB)
 clear hB
 clear hS1
 go_wp2_with fail
 refine (HV.out _ (HE.out.below hS2.out.bel (Nat.le_refl _)).max).mono ?_
 rintro e w2b ⟨rfl,hB⟩
 have hS3:=hid (hS2.out.call hB)
 clear hB
 clear hS2
 go_wp2_with fail
 refine (HI1.out _).mono ?_
 rintro e w9 ⟨rfl,rfl⟩
 go_wp2_with fail
 refine (HI2.out _).mono ?_
 rintro e w9 ⟨rfl,rfl⟩
 go_wp2_with fail
 refine (HM1.out _).mono ?_
 rintro e w3 ⟨c1,d1,rfl,hm1,hB⟩
 have hS4:=hid (hS3.out.call hB)
 clear hB
 clear hS3
 obtain ⟨x1,p1,l1,q1,rfl,rfl⟩:=hm1.shape
 have hS5:=hid (hS4.out.fact (.m (.int .u64 x1) (.slice p1 l1 q1) (n0)) hm1)
 clear hS4 hm1
 obtain ⟨ne1l,ne1,ne1'⟩:=hS5.out.ne 0 w.heap.size 32 z5 rfl
 go_wp2_with fail
 have hS6:=hid (((hS5.out).alloc' (w3.heap.size) (by simp) 28 [.int .u64 x1,.slice p1 l1 q1]).alloc' (w3.heap.size+1) (by simp) 28 [.int .u64 1,.slice none 0 0])
 obtain ⟨W3,hW3⟩:=aN hS6
 rw [hW3] at hS6 ⊢
 clear hW3
 obtain ⟨⟨cs0,cs1⟩,fs0,fs1⟩:=hS6.out.f2 1 w3.heap.size 28 (.int .u64 x1) (.slice p1 l1 q1) rfl
 obtain ⟨⟨cu0,cu1⟩,fu0,fu1⟩:=hS6.out.f2 0 (w3.heap.size+1) 28 (.int .u64 1) (.slice none 0 0) rfl
 go_wp2_with fail
 clear cs0 cs1 fs0 fs1 cu0 cu1 fu0 fu1
 refine (HM2.out _).mono ?_
 rintro e w4 ⟨c2,d2,rfl,hm2,hB⟩
 have hS7:=hid (hS6.out.call hB)
 clear hB
 clear hS6
 obtain ⟨x2,p2,l2,q2,rfl,rfl⟩:=hm2.shape
 have hS8:=hid (hS7.out.fact (.m (.int .u64 x2) (.slice p2 l2 q2) (n)) hm2)
 clear hS7 hm2
 go_wp2_with fail
 refine (HP.out _).mono ?_
 rintro e w5 ⟨c3,d3,rfl,hm3,hB⟩
 have hS9:=hid (hS8.out.call hB)
 clear hB
 clear hS8
 obtain ⟨x3,p3,l3,q3,rfl,rfl⟩:=hm3.shape
 have hS10:=hid (hS9.out.fact (.m (.int .u64 x3) (.slice p3 l3 q3) (m)) hm3)
 clear hS9 hm3
 obtain ⟨⟨cs0,cs1⟩,fs0,fs1⟩:=hS10.out.f2 1 w3.heap.size 28 (.int .u64 x1) (.slice p1 l1 q1) rfl
 obtain ⟨⟨cu0,cu1⟩,fu0,fu1⟩:=hS10.out.f2 0 (w3.heap.size+1) 28 (.int .u64 1) (.slice none 0 0) rfl
 go_wp2_with fail
 clear cs0 cs1 fs0 fs1 cu0 cu1 fu0 fu1
 have hS11:=hid ((((((hS10.out).store (b:=⟨w3.heap.size,28,[.int .u64 x1,.slice p1 l1 q1]⟩) 1 0 (.int .u64 x2) rfl rfl).store (b:=⟨w3.heap.size,28,[.int .u64 x2,.slice p1 l1 q1]⟩) 1 1 (.slice p2 l2 q2) rfl rfl).store (b:=⟨w3.heap.size+1,28,[.int .u64 1,.slice none 0 0]⟩) 0 0 (.int .u64 x3) rfl rfl).store (b:=⟨w3.heap.size+1,28,[.int .u64 x3,.slice none 0 0]⟩) 0 1 (.slice p3 l3 q3) rfl rfl).as [⟨w3.heap.size+1,28,[.int .u64 x3,.slice p3 l3 q3]⟩,⟨w3.heap.size,28,[.int .u64 x2,.slice p2 l2 q2]⟩,⟨w.heap.size,32,z5⟩] rfl)
 obtain ⟨W5,hW5⟩:=aN hS11
 rw [hW5] at hS11 ⊢
 clear hW5
 refine (HZ2.out _ _ _ (hS11.out.get (f:=.m (.int .u64 x3) (.slice p3 l3 q3) (m)) 0 rfl)).mono ?_
 rintro e w6 ⟨rfl,hB⟩
 have hS12:=hid (hS11.out.call hB)
 clear hB
 clear hS11
 obtain ⟨⟨cs0,cs1⟩,fs0,fs1⟩:=hS12.out.f2 1 w3.heap.size 28 (.int .u64 x2) (.slice p2 l2 q2) rfl
 obtain ⟨⟨cu0,cu1⟩,fu0,fu1⟩:=hS12.out.f2 0 (w3.heap.size+1) 28 (.int .u64 x3) (.slice p3 l3 q3) rfl
 go_wp2_with fail
 clear cs0 cs1 fs0 fs1 cu0 cu1 fu0 fu1
 have LM0:=hid (fun (W:World) (h:Below w6.heap.size w6 W)=>((hS12.out.call h).f2 1 w3.heap.size 28 (.int .u64 x2) (.slice p2 l2 q2) rfl).1)
 have LM1:=hid (fun (W:World) (h:Below w6.heap.size w6 W)=>((hS12.out.call h).f2 0 (w3.heap.size+1) 28 (.int .u64 x3) (.slice p3 l3 q3) rfl).1)
 have LM2:=hid (fun (W:World) (h:Below w6.heap.size w6 W)=>HE.out.below (hS12.out.call h).bel (Nat.le_refl _))
 refine gU 10 [⟨[],[0]⟩,⟨[0],[1]⟩,⟨[1],[2]⟩,⟨[2,1],[3]⟩,⟨[3,1],[4]⟩,⟨[1,4],[5]⟩,⟨[],[6]⟩,⟨[5,6],[7]⟩,⟨[],[8]⟩,⟨[7,8],[9]⟩]
  [oE (.bool true),oE (.bool true),oE (.agg #[.int .u64 x2,.slice p2 l2 q2]),oE (.bool z),oE (.bool (!z)),oE (.bool (!z)),oE (.agg #[.int .u64 x2,.slice p2 l2 q2]),oE (.agg #[.bool (!z),.int .u64 x2,.slice p2 l2 q2]),oE (.agg #[.int .u64 x3,.slice p3 l3 q3]),oQ (R)]
  (fun _ W=>Below w6.heap.size w6 W) (by kernel_rfl) (by kernel_rfl) ?hTW6 ?hZW6 ?hOW6 ?hEW6
 case hZW6=>exact (Below.refl _ _).drew
 case hTW6 =>
  simp only [List.forall_mem_cons,List.not_mem_nil,false_imp_iff,implies_true,and_true]
  exact ⟨bE,bE,bE,bE,bE,bE,bE,bE,bE,bQ⟩
 case hOW6 =>
  intro u
  simp only [List.take_succ_cons,List.take_zero,aG]
  repeat' (first | with_reducible exact dQ | with_reducible refine dP ?_ ?_)
  ·intro W hS hF K hK
   go_simp
   exact hK _ _ (.refl _ _) hS rfl
  ·intro W hS hF K hK
   have h0:u 0=.bool true:=hF.1
   clear hF
   go_simp
   exact hK _ _ (.refl _ _) hS rfl
  ·intro W hS hF K hK
   have h1:u 1=.bool true:=hF.1
   have hcs:=LM0.out W hS
   clear hF
   go_simp
   exact hK _ _ (.refl _ _) hS rfl
  ·intro W hS hF K hK
   have h2:u 2=.agg #[.int .u64 x2,.slice p2 l2 q2]:=hF.1
   have h1:u 1=.bool true:=hF.2.1
   have sH:=hid (hS12.out.call hS)
   clear hF
   go_simp
   refine (HZ.out _ _ _ (sH.out.get (f:=.m (.int .u64 x2) (.slice p2 l2 q2) (n)) 1 rfl)).mono ?_
   rintro e wA ⟨rfl,hBA⟩
   exact ⟨_,rfl,hK _ _ hBA (hS.trans (hBA.mono hS.size)) rfl⟩
  ·intro W hS hF K hK
   have h3:u 3=.bool z:=hF.1
   have h1:u 1=.bool true:=hF.2.1
   clear hF
   go_simp
   exact hK _ _ (.refl _ _) hS rfl
  ·intro W hS hF K hK
   have h1:u 1=.bool true:=hF.1
   have h4:u 4=.bool (!z):=hF.2.1
   clear hF
   go_simp
   exact hK _ _ (.refl _ _) hS rfl
  ·intro W hS hF K hK
   have hcs:=LM0.out W hS
   go_simp
   exact hK _ _ (.refl _ _) hS rfl
  ·intro W hS hF K hK
   have h5:u 5=.bool (!z):=hF.1
   have h6:u 6=.agg #[.int .u64 x2,.slice p2 l2 q2]:=hF.2.1
   clear hF
   go_simp
   exact hK _ _ (.refl _ _) hS rfl
  ·intro W hS hF K hK
   have hcu:=LM1.out W hS
   go_simp
   exact hK _ _ (.refl _ _) hS rfl
  ·intro W hS hF K hK
   have h7:u 7=.agg #[.bool (!z),.int .u64 x2,.slice p2 l2 q2]:=hF.1
   have h8:u 8=.agg #[.int .u64 x3,.slice p3 l3 q3]:=hF.2.1
   have sH:=hid (hS12.out.call hS)
   clear hF
   go_simp
   refine (HR.out _ _ _ _ _ (sH.out.get (f:=.m (.int .u64 x2) (.slice p2 l2 q2) (n)) 1 rfl) (sH.out.get (f:=.m (.int .u64 x3) (.slice p3 l3 q3) (m)) 0 rfl) (LM2.out W hS).tz).mono ?_
   rintro e wA ⟨v,rfl,hv,hBA⟩
   exact ⟨_,rfl,hK _ _ hBA (hS.trans (hBA.mono hS.size)) hv⟩
 case hEW6 =>
  intro u W6 hS hF
  have hS13:=hid (hS12.out.call hS)
  have hv0:IsQ W6 (u 9) R:=hF.2.2.2.2.2.2.2.2.2.1
  clear hF hS
  obtain ⟨t9,x9,p9,l9,q9,y9,r9,s9,u9,e9⟩:=hv0.open
  have hv9:IsQ W6 (.agg #[.bool t9,.int .u64 x9,.slice p9 l9 q9,.int .u64 y9,.slice r9 s9 u9]) R:=e9 ▸ hv0
  clear hv0
  have hS14:=hid (hS13.out.fq hv9)
  clear hS13 hv9
  obtain ⟨⟨cR0,cR1,cR2,cR3,cR4⟩,fR0,fR1,fR2,fR3,fR4⟩:=hS14.out.f5 2 w.heap.size 32 (.bool false) (.int .u64 0) (.slice none 0 0) (.int .u64 0) (.slice none 0 0) rfl
  simp only [List.take_succ_cons,List.take_zero,aG,List.drop_succ_cons,List.drop_zero]
  have hS15:=hid (((((((hS14.out).store (b:=⟨w.heap.size,32,z5⟩) 2 0 (.bool t9) rfl rfl).store (b:=⟨w.heap.size,32,[.bool t9,.int .u64 0,.slice none 0 0,.int .u64 0,.slice none 0 0]⟩) 2 1 (.int .u64 x9) rfl rfl).store (b:=⟨w.heap.size,32,[.bool t9,.int .u64 x9,.slice none 0 0,.int .u64 0,.slice none 0 0]⟩) 2 2 (.slice p9 l9 q9) rfl rfl).store (b:=⟨w.heap.size,32,[.bool t9,.int .u64 x9,.slice p9 l9 q9,.int .u64 0,.slice none 0 0]⟩) 2 3 (.int .u64 y9) rfl rfl).store (b:=⟨w.heap.size,32,[.bool t9,.int .u64 x9,.slice p9 l9 q9,.int .u64 y9,.slice none 0 0]⟩) 2 4 (.slice r9 s9 u9) rfl rfl).as [⟨w3.heap.size+1,28,[.int .u64 x3,.slice p3 l3 q3]⟩,⟨w3.heap.size,28,[.int .u64 x2,.slice p2 l2 q2]⟩,⟨w.heap.size,32,(c5 t9 x9 p9 l9 q9 y9 r9 s9 u9)⟩] rfl)
  go_wp2_with fail
  clear cR0 cR1 cR2 cR3 cR4 fR0 fR1 fR2 fR3 fR4
  obtain ⟨⟨zR0,zR1,zR2,zR3,zR4⟩,-⟩:=hS15.out.f5 2 w.heap.size 32 (.bool t9) (.int .u64 x9) (.slice p9 l9 q9) (.int .u64 y9) (.slice r9 s9 u9) rfl
  exact bodyPost_ret (v:=.tuple #[.agg #[.bool t9,.int .u64 x9,.slice p9 l9 q9,.int .u64 y9,.slice r9 s9 u9],.int .i64 0]) (by simp [results,Tryz.results112,go_sem,zR0,zR1,zR2,zR3,zR4]) rfl ⟨_,rfl,(hS15.out.gq 0 rfl),hS15.out.bel⟩
end
section
open Go.RowKit Go.Sort
attribute [local go_sem] takes fP fO fM
theorem Ig (l:List UInt8) (r:Rat) (c:Int) (w:World) (H:Hid (∀ W,Below w.heap.size w W→Calls Tryz.prog 112 #[.string ⟨l.toArray⟩] W (dG W r c))) :
  Calls Tryz.prog 81 #[.string ⟨l.toArray⟩] w (aV w r):=by
 go_enter Tryz.func81,Tryz.ntmps81
 go_wp2_with fail
 have hS0:=hid ((St.start w).alloc' (w.heap.size) (by simp) 32 z5)
 obtain ⟨W0,hW0⟩:=aN hS0
 rw [hW0] at hS0 ⊢
 clear hW0
 refine (H.out _ hS0.out.bel).mono ?_
 rintro e w1 ⟨v1,rfl,hv1,hB⟩
 have hS1:=hid (hS0.out.call hB)
 clear hB
 clear hS0
 obtain ⟨t1,x1,p1,l1,q1,y1,r1,s1,u1,rfl⟩:=hv1.open
 have hS2:=hid (hS1.out.fq hv1)
 clear hS1 hv1
 obtain ⟨ne1l,ne1,ne1'⟩:=hS2.out.ne 0 w.heap.size 32 z5 rfl
 obtain ⟨⟨cR0,cR1,cR2,cR3,cR4⟩,fR0,fR1,fR2,fR3,fR4⟩:=hS2.out.f5 0 w.heap.size 32 (.bool false) (.int .u64 0) (.slice none 0 0) (.int .u64 0) (.slice none 0 0) rfl
 have hS3:=hid ((((((((hS2.out).store (b:=⟨w.heap.size,32,z5⟩) 0 0 (.bool t1) rfl rfl).store (b:=⟨w.heap.size,32,[.bool t1,.int .u64 0,.slice none 0 0,.int .u64 0,.slice none 0 0]⟩) 0 1 (.int .u64 x1) rfl rfl).store (b:=⟨w.heap.size,32,[.bool t1,.int .u64 x1,.slice none 0 0,.int .u64 0,.slice none 0 0]⟩) 0 2 (.slice p1 l1 q1) rfl rfl).store (b:=⟨w.heap.size,32,[.bool t1,.int .u64 x1,.slice p1 l1 q1,.int .u64 0,.slice none 0 0]⟩) 0 3 (.int .u64 y1) rfl rfl).store (b:=⟨w.heap.size,32,[.bool t1,.int .u64 x1,.slice p1 l1 q1,.int .u64 y1,.slice none 0 0]⟩) 0 4 (.slice r1 s1 u1) rfl rfl).alloc' (w1.heap.size) (by simp) 32 (c5 t1 x1 p1 l1 q1 y1 r1 s1 u1)).as [⟨w1.heap.size,32,(c5 t1 x1 p1 l1 q1 y1 r1 s1 u1)⟩,⟨w.heap.size,32,(c5 t1 x1 p1 l1 q1 y1 r1 s1 u1)⟩] rfl)
 go_wp2_with fail
 clear cR0 cR1 cR2 cR3 cR4 fR0 fR1 fR2 fR3 fR4
 obtain ⟨⟨zR0,zR1,zR2,zR3,zR4⟩,-⟩:=hS3.out.f5 1 w.heap.size 32 (.bool t1) (.int .u64 x1) (.slice p1 l1 q1) (.int .u64 y1) (.slice r1 s1 u1) rfl
 exact bodyPost_ret (v:=.agg #[.bool t1,.int .u64 x1,.slice p1 l1 q1,.int .u64 y1,.slice r1 s1 u1]) (by simp [results,Tryz.results81,go_sem,zR0,zR1,zR2,zR3,zR4]) rfl ⟨_,rfl,(hS3.out.gq 0 rfl),hS3.out.bel⟩
theorem Sj (l:List UInt8) (r:Rat) (v:Value) (k:Nat) (w:World) (h:IsQ w v r) (hk:k≤1073741824) (f:Fits k r) (hE:Env w) :
  Calls Tryz.prog 113 #[v,.string ⟨l.toArray⟩] w (aT w (.bool (jT r == l))):=by
 have HX:=hid (fun (W:World) (v:Value) (h:IsQ W v r) (hT:dH W)=>Ep r v k W h hk f hT)
 obtain ⟨D,hD⟩:∃ D,jT r=D:=⟨_,rfl⟩
 rw [hD] at HX ⊢
 obtain ⟨t1,x1,p1,l1,q1,y1,r1,s1,u1,rfl⟩:=h.open
 have HI:=hid (And.intro h hE)
 clear h hE hD f
 go_enter Tryz.func113,Tryz.ntmps113
 go_wp2_with fail
 have hS0:=hid ((St.start w).alloc' (w.heap.size) (by simp) 32 (c5 t1 x1 p1 l1 q1 y1 r1 s1 u1))
 obtain ⟨W0,hW0⟩:=aN hS0
 rw [hW0] at hS0 ⊢
 clear hW0
 have hi1:=HI.out.1.below hS0.out.bel
 have hS1:=hid (hS0.out.fq hi1)
 clear hS0 hi1
 refine (HX.out _ _ (hS1.out.gq 0 rfl) (HI.out.2.below hS1.out.bel (Nat.le_refl _)).ten).mono ?_
 rintro e w1 ⟨rfl,hB⟩
 have hS2:=hid (hS1.out.call hB)
 clear hB
 clear hS1
 go_wp2
 go_ret
 exact ⟨rfl,hS2.out.bel⟩
end
section
open Go.RowKit Go.Sort
theorem jl {k:Nat} {r:Rat} (h:decide (r.num.natAbs<B64 ^ k)=true) (h2:decide (r.den<B64 ^ k)=true):Fits k r:=⟨of_decide_eq_true h,of_decide_eq_true h2⟩
theorem UY (w:World) (hE:Env w):Calls Tryz.prog 112 #[.string ⟨#[45,49,46,50,53,48]⟩] w (dG w (mkRat (-5) 4) 0):=by
 have h:=U0 [45,49,46,50,53,48] [49,46,50,53,48] [49] [50,53,48] w (by decide) (by decide +kernel) (by decide +kernel) (by decide +kernel) (by decide +kernel) (by decide +kernel) (by decide +kernel) (by decide) (by decide) (by decide) hE
 rwa [show mkRat (zs (!(dv ([49] ++ [50,53,48]) == 0)) (dv ([49] ++ [50,53,48]))) (10 ^ ([50,53,48]:List UInt8).length)=mkRat (-5) 4 from by decide +kernel] at h
theorem p64 (w:World) (hE:Env w):Calls Tryz.prog 112 #[.string ⟨#[54,47,52]⟩] w (dG w (mkRat 3 2) 0):=by
 have h:=CY [54,47,52] [54,47,52] [54] [52] w (by decide) (by decide +kernel) (by decide +kernel) (by decide +kernel) (by decide +kernel) (by decide +kernel) (by decide +kernel) (by decide) (by decide) (by decide) hE
 rwa [show mkRat (zs false (dv [54])) (dv [52])=mkRat 3 2 from by decide +kernel] at h
theorem UZ (w:World) (hE:Env w):Calls Tryz.prog 112 #[.string ⟨#[51,53,53,47,49,49,51]⟩] w (dG w (mkRat 355 113) 0):=by
 have h:=CY [51,53,53,47,49,49,51] [51,53,53,47,49,49,51] [51,53,53] [49,49,51] w (by decide) (by decide +kernel) (by decide +kernel) (by decide +kernel) (by decide +kernel) (by decide +kernel) (by decide +kernel) (by decide) (by decide) (by decide) hE
 rwa [show mkRat (zs false (dv [51,53,53])) (dv [49,49,51])=mkRat 355 113 from by decide +kernel] at h
theorem p12 (w:World) (hE:Env w):Calls Tryz.prog 112 #[.string ⟨#[49,47,50]⟩] w (dG w (mkRat 1 2) 0):=by
 have h:=CY [49,47,50] [49,47,50] [49] [50] w (by decide) (by decide +kernel) (by decide +kernel) (by decide +kernel) (by decide +kernel) (by decide +kernel) (by decide +kernel) (by decide) (by decide) (by decide) hE
 rwa [show mkRat (zs false (dv [49])) (dv [50])=mkRat 1 2 from by decide +kernel] at h
theorem VF (v:Value) (w:World) (h:IsQ w v ((2:Int):Rat)) (hE:Env w):Calls Tryz.prog 49 #[v,.int .i64 3] w (dG w (mkRat 11 8) 0):=by
 have:=KL ((2:Int):Rat) 128 3 (by decide) 8 (by decide +kernel) 128 (by decide +kernel) (by decide +kernel) (by decide +kernel) v 1 w h (by decide) (jl (by decide +kernel) (by decide +kernel)) (jl (by decide +kernel) (by decide +kernel)) (jl (by decide +kernel) (by decide +kernel)) (jl (by decide +kernel) (by decide +kernel)) hE
 refine this.mono ?_
 rintro e w' ⟨S,h1,h2,h3⟩
 have:S=11:=VI 128 S 11 h1 h2 (by decide) (by decide)
 subst this
 rwa [show (((11:Nat):Int):Rat) / 8=mkRat 11 8 from by decide +kernel] at h3
end
end Go.Proofs.YthalajpklaodkaaGreatDoor
