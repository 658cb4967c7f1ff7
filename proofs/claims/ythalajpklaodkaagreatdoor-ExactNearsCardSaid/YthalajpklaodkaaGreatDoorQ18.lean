/- What the proof rests on, part 18. -/
import Derived.Test.YthalajpklaodkaaGreatDoorQ17
namespace Go.Proofs.YthalajpklaodkaaGreatDoor
set_option maxRecDepth 100000
set_option maxHeartbeats 80000000
section
open Go.RowKit Go.Sort
attribute [local go_sem] takes gK gJ gI
theorem fV.setCell {W:World} {b:Nat} (h:fV W b) (a:Addr) (v:Value) (ha:a.block≠b):fV (W.setCell a v) b:=by
 obtain ⟨⟨t,h0⟩,⟨x,h1⟩,⟨p,l,c,h2⟩,⟨y,h3⟩,⟨p',l',c',h4⟩,f0,f1,f2,f3,f4⟩:=h
 refine ⟨⟨t,?_⟩,⟨x,?_⟩,⟨p,l,c,?_⟩,⟨y,?_⟩,⟨p',l',c',?_⟩,?_,?_,?_,?_,?_⟩
 all_goals first | (simp only [World.frozen?_setCell];assumption) | (rw [World.cell?_setCell_far _ _ _ _ ha];assumption)
structure pW (w W:World) (t:Bool) (c d e f:Value) (n m:Nat):Prop where
 b1:C5 W w.heap.size (.bool t) c d e f
 fr:W.frozen? ⟨w.heap.size,0,none⟩=false
 rs:fV W (w.heap.size+1)
 i1:ah W c d n
 j1:ah W e f m
 bel:Below w.heap.size w W
 sz:w.heap.size+2≤W.heap.size
theorem pW.next {w W W':World} {t:Bool} {c d e f:Value} {n m:Nat} (h:pW w W t c d e f n m) (hb:Below W.heap.size W W'):pW w W' t c d e f n m where
 b1:=C5.below h.b1 hb (by have:=h.sz;omega)
 fr:=(hb.frozen (p:=⟨w.heap.size,0,none⟩) (by have:=h.sz;simp only;omega)).trans h.fr
 rs:=h.rs.below hb (by have:=h.sz;omega)
 i1:=h.i1.below hb
 j1:=h.j1.below hb
 bel:=h.bel.trans (hb.mono h.bel.size)
 sz:=Nat.le_trans h.sz hb.size
theorem pW.start {w:World} (t:Bool) (c d e f:Value) (n m:Nat) (T1 T2:TypeId) (i1:ah w c d n) (j1:ah w e f m) :
  pW w ((w.alloc (.cells #[.bool t,c,d,e,f] T1)).alloc (.cells #[.bool false,.int .u64 0,.slice none 0 0,.int .u64 0,.slice none 0 0] T2)) t c d e f n m:=by
 have hb:=((Below.refl w.heap.size w).alloc (Nat.le_refl _) (.cells #[.bool t,c,d,e,f] T1)).alloc (by simp) (.cells #[.bool false,.int .u64 0,.slice none 0 0,.int .u64 0,.slice none 0 0] T2)
 refine ⟨⟨?_,?_,?_,?_,?_⟩,?_,⟨⟨false,?_⟩,⟨0,?_⟩,⟨none,0,0,?_⟩,⟨0,?_⟩,⟨none,0,0,?_⟩,?_,?_,?_,?_,?_⟩,i1.below hb,j1.below hb,hb,by simp⟩ <;> go_simp
def cO (w:World) (r:Rat) (c:Int) (e:Ending) (w':World):Prop:=∃ v,e=.returned (.tuple #[v,.int .i64 c])∧IsQ w' v r∧Below w.heap.size w w'
theorem Ez (r:Rat):bM (-r)=bM r:=by unfold bM;rw [Rat.neg_den]
theorem Aw (r:Rat):(-r).num.natAbs=r.num.natAbs:=by rw [Rat.neg_num,Int.natAbs_neg]
theorem Yz (x y:Int) (p r:Option Addr) (l q s v n m:Nat) (w:World) (i1:ah w (.int .u64 x) (.slice p l q) n) (j1:ah w (.int .u64 y) (.slice r s v) m):Calls Tryz.prog 26 #[.agg #[.bool true,.int .u64 x,.slice p l q,.int .u64 y,.slice r s v]] w (fun e w'=>e=.returned (.agg #[.bool false,.int .u64 x,.slice p l q,.int .u64 y,.slice r s v])∧ah w' (.int .u64 x) (.slice p l q) n∧ah w' (.int .u64 y) (.slice r s v) m∧Below w.heap.size w w'):=by
 have hb:=((Below.refl w.heap.size w).alloc (Nat.le_refl _) (.cells #[.bool false,.int .u64 x,.slice p l q,.int .u64 y,.slice r s v] 32)).alloc (by simp) (.cells #[.bool false,.int .u64 x,.slice p l q,.int .u64 y,.slice r s v] 32)
 have HB:=hid (And.intro (i1.below hb) (And.intro (j1.below hb) hb))
 clear hb i1 j1
 go_enter Tryz.func26,Tryz.ntmps26
 go_wp2_with fail
 exact bodyPost_ret (v:=.agg #[.bool false,.int .u64 x,.slice p l q,.int .u64 y,.slice r s v]) (by simp [results,Tryz.results26,go_sem]) rfl ⟨rfl,HB.out⟩
theorem Yy (x y:Int) (p r:Option Addr) (l q s v n m:Nat) (w:World) (i1:ah w (.int .u64 x) (.slice p l q) n) (j1:ah w (.int .u64 y) (.slice r s v) m):Calls Tryz.prog 26 #[.agg #[.bool false,.int .u64 x,.slice p l q,.int .u64 y,.slice r s v]] w (fun e w'=>e=.returned (.agg #[.bool !(n == 0),.int .u64 x,.slice p l q,.int .u64 y,.slice r s v])∧ah w' (.int .u64 x) (.slice p l q) n∧ah w' (.int .u64 y) (.slice r s v) m∧Below w.heap.size w w'):=by
 have hz:=hid (fun (W:World) (h:ah W (.int .u64 x) (.slice p l q) n)=>dO _ _ n W h)
 obtain ⟨z,hzz⟩:∃ z,(n == 0)=z:=⟨_,rfl⟩
 rw [hzz] at hz ⊢
 clear hzz
 have h0:=pW.start false (.int .u64 x) (.slice p l q) (.int .u64 y) (.slice r s v) n m 32 32 i1 j1
 have H0:=hid h0
 clear h0
 have I1:=hid i1
 have J1:=hid j1
 clear i1 j1
 go_enter Tryz.func26,Tryz.ntmps26
 go_wp2_with fail
 obtain ⟨W0,hW0⟩:∃ W0,(w.alloc (.cells #[.bool false,.int .u64 x,.slice p l q,.int .u64 y,.slice r s v] 32)).alloc (.cells #[.bool false,.int .u64 0,.slice none 0 0,.int .u64 0,.slice none 0 0] 32)=W0:=⟨_,rfl⟩
 rw [hW0] at H0 ⊢
 clear hW0
 have hI:=H0.out.i1
 obtain ⟨d0,d1,d2,d3,d4⟩:=H0.out.b1
 go_wp2_with fail
 refine (hz.out _ hI).mono ?_
 rintro e W1 ⟨rfl,hB1⟩
 have hQ:=H0.out.next hB1
 clear H0 hB1 hz hI d0 d1 d2 d3 d4
 have hb2:Below w.heap.size w (W1.setCell ⟨w.heap.size,0,none⟩ (.bool !z)):=hQ.bel.setCell (by simp) _
 have rs2:=hQ.rs.setCell ⟨w.heap.size,0,none⟩ (.bool !z) (by simp)
 obtain ⟨g0,ga,gb,gc,gd,⟨c0,c1,c2,c3,c4⟩,f0,f1,f2,f3,f4⟩:=hQ.rs.facts
 obtain ⟨⟨z0,z1,z2,z3,z4⟩,hH⟩:=rs2.done (v0:=.bool !z) hb2 (by omega) (I1.out.below hb2) (J1.out.below hb2)
 obtain ⟨d0,d1,d2,d3,d4⟩:=hQ.b1
 have fr:=hQ.fr
 clear hb2 rs2 hQ I1 J1
 go_wp2_with fail
 exact bodyPost_ret (v:=.agg #[.bool !z,.int .u64 x,.slice p l q,.int .u64 y,.slice r s v]) (by simp [results,Tryz.results26,go_sem,z0,z1,z2,z3,z4]) rfl ⟨rfl,hH.out.1,hH.out.2.1,hH.out.2.2⟩
theorem Qh (t:Bool) (x y:Int) (p r:Option Addr) (l q s v n m:Nat) (w:World) (i1:ah w (.int .u64 x) (.slice p l q) n) (j1:ah w (.int .u64 y) (.slice r s v) m):Calls Tryz.prog 28 #[.agg #[.bool t,.int .u64 x,.slice p l q,.int .u64 y,.slice r s v]] w (fun e w'=>e=.returned (.agg #[.bool false,.int .u64 x,.slice p l q,.int .u64 y,.slice r s v])∧ah w' (.int .u64 x) (.slice p l q) n∧ah w' (.int .u64 y) (.slice r s v) m∧Below w.heap.size w w'):=by
 have hb:=((Below.refl w.heap.size w).alloc (Nat.le_refl _) (.cells #[.bool false,.int .u64 x,.slice p l q,.int .u64 y,.slice r s v] 32)).alloc (by simp) (.cells #[.bool false,.int .u64 x,.slice p l q,.int .u64 y,.slice r s v] 32)
 have HB:=hid (And.intro (i1.below hb) (And.intro (j1.below hb) hb))
 clear hb i1 j1
 go_enter Tryz.func28,Tryz.ntmps28
 go_wp2_with fail
 exact bodyPost_ret (v:=.agg #[.bool false,.int .u64 x,.slice p l q,.int .u64 y,.slice r s v]) (by simp [results,Tryz.results28,go_sem]) rfl ⟨rfl,HB.out⟩
theorem Ip (r:Rat) (v:Value) (w:World) (h:IsQ w v r):Calls Tryz.prog 26 #[v] w (aY w (-r)):=by
 obtain ⟨t,x,p,l,q,y,p',s,u,rfl,i,j,e⟩:=h.shape
 have e':=e.out
 cases t
 ·refine (Yy x y p p' l q s u _ _ w i j).mono ?_
  rintro e w' ⟨rfl,hi,hj,hb⟩
  refine ⟨_,rfl,⟨_,_,_,_,?_,by rw [Aw];exact hi,by rw [Ez];exact hj⟩,hb⟩
  have:¬ r.num<0:=by simpa using e'
  congr 4
  rw [Rat.neg_num]
  by_cases h0:r.num.natAbs=0
  ·simp only [h0,beq_self_eq_true,Bool.not_true]
   exact (decide_eq_false (by omega)).symm
  ·have:(r.num.natAbs == 0)=false:=by rw [beq_eq_false_iff_ne];exact h0
   rw [this]
   exact (decide_eq_true (by omega)).symm
 ·refine (Yz x y p p' l q s u _ _ w i j).mono ?_
  rintro e w' ⟨rfl,hi,hj,hb⟩
  refine ⟨_,rfl,⟨_,_,_,_,?_,by rw [Aw];exact hi,by rw [Ez];exact hj⟩,hb⟩
  have:r.num<0:=of_decide_eq_true e'.symm
  congr 4
  rw [Rat.neg_num]
  exact (decide_eq_false (by omega)).symm
theorem BN (r:Rat) (v:Value) (w:World) (h:IsQ w v r):Calls Tryz.prog 28 #[v] w (aY w (if r.num<0 then -r else r)):=by
 obtain ⟨t,x,p,l,q,y,p',s,u,rfl,i,j,-⟩:=h.shape
 refine (Qh t x y p p' l q s u _ _ w i j).mono ?_
 rintro e w' ⟨rfl,hi,hj,hb⟩
 by_cases h0:r.num<0
 ·have h1:=h0
  rw [if_pos h1]
  refine ⟨_,rfl,⟨_,_,_,_,?_,by rw [Aw];exact hi,by rw [Ez];exact hj⟩,hb⟩
  congr 4
  rw [Rat.neg_num]
  exact (decide_eq_false (by omega)).symm
 ·rw [if_neg h0]
  refine ⟨_,rfl,⟨_,_,_,_,?_,hi,hj⟩,hb⟩
  congr 4
  exact (decide_eq_false h0).symm
theorem Fits.neg {k:Nat} {r:Rat} (h:Fits k r):Fits k (-r):=by
 unfold Fits at *
 rw [Aw,Rat.neg_den]
 exact h
theorem uZ (r s:Rat) (v1 v2:Value) (k:Nat) (w:World) (h1:IsQ w v1 r) (h2:IsQ w v2 s) (hk:k≤17179869184) (f1:Fits k r) (f2:Fits k s) (hT:Tab w) :
  Calls Tryz.prog 22 #[v1,v2] w (aY w (r - s)):=by
 obtain ⟨R,hR⟩:∃ R,r - s=R:=⟨_,rfl⟩
 have HF0:=fun (W:World) (v:Value) (h:IsQ W v s)=>Ip s v W h
 have HG0:=fun (W:World) (u v:Value) (h:IsQ W u r) (h':IsQ W v (-s)) (hT:Tab W)=>rP r (-s) u v k W h h' hk f1 f2.neg hT
 rw [← Rat.sub_eq_add_neg,hR] at HG0
 rw [hR]
 have HQ0:=And.intro h1 h2
 obtain ⟨t1,x1,p1,l1,q1,y1,r1,s1,v1,rfl,i1,j1,-⟩:=h1.shape
 obtain ⟨t2,x2,p2,l2,q2,y2,r2,s2,v2,rfl,i2,j2,-⟩:=h2.shape
 have HQ:=hid HQ0
 have HF:=hid (fun (W:World) (h:IsQ W (.agg #[.bool t2,.int .u64 x2,.slice p2 l2 q2,.int .u64 y2,.slice r2 s2 v2]) s)=>HF0 W _ h)
 have HG:=hid (fun (W:World) (v:Value) (h:IsQ W (.agg #[.bool t1,.int .u64 x1,.slice p1 l1 q1,.int .u64 y1,.slice r1 s1 v1]) r) (h':IsQ W v (-s)) (hT:Tab W)=>HG0 W _ v h h' hT)
 obtain ⟨n1,hn1⟩:∃ n,r.num.natAbs=n:=⟨_,rfl⟩
 obtain ⟨m1,hm1⟩:∃ n,bM r=n:=⟨_,rfl⟩
 obtain ⟨n2,hn2⟩:∃ n,s.num.natAbs=n:=⟨_,rfl⟩
 obtain ⟨m2,hm2⟩:∃ n,bM s=n:=⟨_,rfl⟩
 rw [hn1] at i1
 rw [hm1] at j1
 rw [hn2] at i2
 rw [hm2] at j2
 clear HF0 HG0 HQ0 h1 h2 f1 f2 hR hn1 hm1 hn2 hm2
 have h0:=iJ.start t1 t2 (.int .u64 x1) (.slice p1 l1 q1) (.int .u64 y1) (.slice r1 s1 v1) (.int .u64 x2) (.slice p2 l2 q2) (.int .u64 y2) (.slice r2 s2 v2) n1 m1 n2 m2 32 32 32 i1 j1 i2 j2 hT
 have H0:=hid h0
 clear h0 i1 j1 i2 j2 hT
 go_enter Tryz.func22,Tryz.ntmps22
 go_wp2_with fail
 obtain ⟨W0,hW0⟩:∃ W0,((w.alloc (.cells #[.bool t1,.int .u64 x1,.slice p1 l1 q1,.int .u64 y1,.slice r1 s1 v1] 32)).alloc (.cells #[.bool t2,.int .u64 x2,.slice p2 l2 q2,.int .u64 y2,.slice r2 s2 v2] 32)).alloc (.cells #[.bool false,.int .u64 0,.slice none 0 0,.int .u64 0,.slice none 0 0] 32)=W0:=⟨_,rfl⟩
 rw [hW0] at H0 ⊢
 clear hW0
 have H0':iJ w W0 t1 (.int .u64 x1) (.slice p1 l1 q1) (.int .u64 y1) (.slice r1 s1 v1) t2 (.int .u64 x2) (.slice p2 l2 q2) (.int .u64 y2) (.slice r2 s2 v2) n1 m1 n2 m2:=H0.out
 have hsz:=H0'.sz
 refine jk 4 [⟨[],[0]⟩,⟨[],[1]⟩,⟨[1],[2]⟩,⟨[0,2],[3]⟩]
  [one fun v _=>v=.agg #[.bool t1,.int .u64 x1,.slice p1 l1 q1,.int .u64 y1,.slice r1 s1 v1],one fun v _=>v=.agg #[.bool t2,.int .u64 x2,.slice p2 l2 q2,.int .u64 y2,.slice r2 s2 v2],one fun v W=>IsQ W v (-s),one fun v W=>IsQ W v R]
  (fun _ W=>Below W0.heap.size W0 W) (by kernel_rfl) (by kernel_rfl) ?hT ?hZ ?hO ?hE
 case hZ=>exact (Below.refl _ _).drew
 case hT =>
  simp only [List.forall_mem_cons,List.not_mem_nil,false_imp_iff,implies_true,and_true]
  exact ⟨aP jJ,aP jJ,aP jg,aP jg⟩
 case hO =>
  intro u
  simp only [List.take_succ_cons,List.take_zero,aI]
  repeat' (first | with_reducible exact gY | with_reducible refine gX ?_ ?_)
  ·intro W hS hF K hK
   have c0:=cB hS H0'.b1.1 (by omega)
   have c1:=cB hS H0'.b1.2.1 (by omega)
   have c2:=cB hS H0'.b1.2.2.1 (by omega)
   have c3:=cB hS H0'.b1.2.2.2.1 (by omega)
   have c4:=cB hS H0'.b1.2.2.2.2 (by omega)
   clear hF
   go_simp
   exact hK _ _ (.refl _ _) hS rfl
  ·intro W hS hF K hK
   have d0:=cB hS H0'.b2.1 (by omega)
   have d1:=cB hS H0'.b2.2.1 (by omega)
   have d2:=cB hS H0'.b2.2.2.1 (by omega)
   have d3:=cB hS H0'.b2.2.2.2.1 (by omega)
   have d4:=cB hS H0'.b2.2.2.2.2 (by omega)
   clear hF
   go_simp
   exact hK _ _ (.refl _ _) hS rfl
  ·intro W hS hF K hK
   have h1:u 1=.agg #[.bool t2,.int .u64 x2,.slice p2 l2 q2,.int .u64 y2,.slice r2 s2 v2]:=hF.1
   clear hF
   go_simp
   refine (HF.out _ (HQ.out.2.below (H0'.next hS).bel)).mono ?_
   rintro e wC ⟨v,rfl,hv,hBC⟩
   exact ⟨_,rfl,hK _ _ hBC (hS.trans (hBC.mono hS.size)) hv⟩
  ·intro W hS hF K hK
   have h0:u 0=.agg #[.bool t1,.int .u64 x1,.slice p1 l1 q1,.int .u64 y1,.slice r1 s1 v1]:=hF.1
   have hq2:IsQ W (u 2) (-s):=hF.2.1
   clear hF
   go_simp
   refine (HG.out _ _ (HQ.out.1.below (H0'.next hS).bel) hq2 ((H0'.next hS).tab)).mono ?_
   rintro e wC ⟨v,rfl,hv,hBC⟩
   exact ⟨_,rfl,hK _ _ hBC (hS.trans (hBC.mono hS.size)) hv⟩
 case hE =>
  intro u W hS hF
  have hv:IsQ W (u 3) R:=hF.2.2.2.1
  clear hF
  obtain ⟨t0,vx,vp,vl,vq,tx,tp,tl,tq,h13,hv1,hv2,ht⟩:=hv.shape
  have h4:=H0'.next hS
  obtain ⟨r0,ra,rb,rc,rd,⟨c0,c1,c2,c3,c4⟩,f0,f1,f2,f3,f4⟩:=h4.rs.facts
  obtain ⟨⟨z0,z1,z2,z3,z4⟩,hH⟩:=h4.rs.doneQ h4.bel (by omega) hv1 hv2 ht
  clear h4 hv hv1 hv2 ht hS H0' H0 HQ HF HG
  simp only [List.take_succ_cons,List.take_zero,aI,List.drop_succ_cons,List.drop_zero]
  go_wp2_with fail
  exact bodyPost_ret (v:=.agg #[.bool t0,.int .u64 vx,.slice vp vl vq,.int .u64 tx,.slice tp tl tq]) (by simp [results,Tryz.results22,go_sem,z0,z1,z2,z3,z4]) rfl ⟨_,rfl,hH.out.1,hH.out.2⟩
theorem WA (r:Rat) (h:r≠0):mkRat (zs (decide (r.num<0)) r.den) r.num.natAbs=r⁻¹:=by
 have h0:r.num≠0:=fun e=>h (Rat.num_eq_zero.1 e)
 have e1:∀ (a:Int) (b:Nat),mkRat a b=Rat.divInt a (b:Int):=fun a b=>by first | rfl | (symm;exact Rat.divInt_ofNat a b) | simp
 unfold zs
 rw [Rat.inv_def,e1,Rat.divInt_eq_divInt_iff (by omega) h0]
 by_cases h1:r.num<0
 ·rw [decide_eq_true h1,if_pos rfl,Int.ofNat_natAbs_of_nonpos (by omega),Int.neg_mul,Int.mul_neg]
 ·rw [decide_eq_false h1,if_neg (by simp),Int.natAbs_of_nonneg (by omega)]
namespace Rx
section
variable {β:Nat→Nat} {R:Rat} {t:Bool} {x y:Int} {p r:Option Addr} {l q s v:Nat} {w:World}
theorem MS {f:FuncId} {Q:Ending→World→Prop} (i1:ah w (.int .u64 x) (.slice p l q) (β 0)) (j1:ah w (.int .u64 y) (.slice r s v) (β 1))
  (go:∀ ρ:Env,(∀ g∈[Fm.m 0 0,.m 1 1],Fm.on β R ρ g w)→Calls Tryz.prog f ([nC t 0 1].map (SV.den ρ)).toArray w Q):Calls Tryz.prog f #[.agg #[.bool t,.int .u64 x,.slice p l q,.int .u64 y,.slice r s v]] w Q:=by
 refine go (em [⟨false,x,p,l,q,.empty,0,default⟩,⟨false,y,r,s,v,.empty,0,default⟩]) fun g hg=>?_
 simp only [List.mem_cons,List.not_mem_nil,or_false] at hg
 rcases hg with rfl | rfl
 ·exact i1
 ·exact j1
theorem WB (β:Nat→Nat) (r:Rat) (t:Bool):isW false (aN Tryz.prog (SM β r) (HM β r) ([eU t 0 1 2,eL t 2 0].map (dL β r [])) 1 129 [nC t 0 1] [.m 0 0,.m 1 1] 2)=true:=by cases t <;> kernel_rfl
end
end Rx
theorem Wv (t:Bool) (x y:Int) (p r:Option Addr) (l q s v n m:Nat) (w:World) (i1:ah w (.int .u64 x) (.slice p l q) n) (j1:ah w (.int .u64 y) (.slice r s v) m) (R:Rat) (hc:Nat.Coprime (ak m) n) (hn:n≠0) (hR:mkRat (zs t (ak m)) n=R) :
  Calls Tryz.prog 129 #[.agg #[.bool t,.int .u64 x,.slice p l q,.int .u64 y,.slice r s v]] w (aY w R):=
 Rx.MS (β:=Rx.bt [n,m,ak m]) i1 j1 fun _ hg=>Rx.mO (T:=fun _=>True) Rx.jy (fun e he=>by
  simp only [List.mem_cons,List.not_mem_nil,or_false] at he
  rcases he with rfl | rfl
  ·exact Rx.nX rfl
  ·exact Rx.EF hc hn hR) (Rx.WB _ _ _) (fun h=>by cases h) (fun _ _=>trivial) hg
theorem Il (r:Rat) (v:Value) (w:World) (h:IsQ w v r) (h0:r≠0):Calls Tryz.prog 129 #[v] w (aY w r⁻¹):=by
 obtain ⟨t,x,p,l,q,y,p',s,u,rfl,i,j,e⟩:=h.shape
 have e':=e.out
 exact Wv t x y p p' l q s u _ _ w i j _ (by rw [bW];exact r.reduced.symm) (fun e=>h0 (Rat.num_eq_zero.1 (by omega))) (by rw [bW,e'];exact WA r h0)
theorem KT (r:Rat) (h:r≠0):r⁻¹.num.natAbs=r.den∧r⁻¹.den=r.num.natAbs:=by
 have h0:r.num≠0:=fun e=>h (Rat.num_eq_zero.1 e)
 rcases Int.lt_or_gt_of_ne h0 with h1 | h1
 ·have e:r⁻¹=⟨-(r.den:Int),r.num.natAbs,by omega,by rw [Int.natAbs_neg];exact r.reduced.symm⟩:=by
   show Rat.inv r=_
   rw [Rat.inv]
   simp [h1]
  rw [e]
  exact ⟨by simp,rfl⟩
 ·have e:r⁻¹=⟨(r.den:Int),r.num.natAbs,by omega,by exact r.reduced.symm⟩:=by
   show Rat.inv r=_
   rw [Rat.inv]
   have:¬ r.num<0:=by omega
   simp [this,h1]
  rw [e]
  exact ⟨by simp,rfl⟩
theorem Fits.inv {k:Nat} {r:Rat} (h:Fits k r) (h0:r≠0):Fits k r⁻¹:=by
 unfold Fits at *
 rw [(KT r h0).1,(KT r h0).2]
 exact ⟨h.2,h.1⟩
theorem rQ (r s:Rat) (v1 v2:Value) (k:Nat) (w:World) (h1:IsQ w v1 r) (h2:IsQ w v2 s) (hk:k≤17179869184) (s0:s≠0) (f1:Fits k r) (f2:Fits k s) (hT:Tab w) :
  Calls Tryz.prog 94 #[v1,v2] w (aY w (r / s)):=by
 obtain ⟨R,hR⟩:∃ R,r / s=R:=⟨_,rfl⟩
 have HF0:=fun (W:World) (v:Value) (h:IsQ W v s)=>Il s v W h s0
 have HG0:=fun (W:World) (u v:Value) (h:IsQ W u r) (h':IsQ W v (s⁻¹)) (hT:Tab W)=>ni r s⁻¹ u v k W h h' (by omega) f1 (f2.inv s0) hT
 rw [← Rat.div_def,hR] at HG0
 rw [hR]
 have HQ0:=And.intro h1 h2
 obtain ⟨t1,x1,p1,l1,q1,y1,r1,s1,v1,rfl,i1,j1,-⟩:=h1.shape
 obtain ⟨t2,x2,p2,l2,q2,y2,r2,s2,v2,rfl,i2,j2,-⟩:=h2.shape
 have HQ:=hid HQ0
 have HF:=hid (fun (W:World) (h:IsQ W (.agg #[.bool t2,.int .u64 x2,.slice p2 l2 q2,.int .u64 y2,.slice r2 s2 v2]) s)=>HF0 W _ h)
 have HG:=hid (fun (W:World) (v:Value) (h:IsQ W (.agg #[.bool t1,.int .u64 x1,.slice p1 l1 q1,.int .u64 y1,.slice r1 s1 v1]) r) (h':IsQ W v (s⁻¹)) (hT:Tab W)=>HG0 W _ v h h' hT)
 obtain ⟨n1,hn1⟩:∃ n,r.num.natAbs=n:=⟨_,rfl⟩
 obtain ⟨m1,hm1⟩:∃ n,bM r=n:=⟨_,rfl⟩
 obtain ⟨n2,hn2⟩:∃ n,s.num.natAbs=n:=⟨_,rfl⟩
 obtain ⟨m2,hm2⟩:∃ n,bM s=n:=⟨_,rfl⟩
 rw [hn1] at i1
 rw [hm1] at j1
 rw [hn2] at i2
 rw [hm2] at j2
 clear HF0 HG0 HQ0 h1 h2 f1 f2 hR s0 hn1 hm1 hn2 hm2
 have h0:=iJ.start t1 t2 (.int .u64 x1) (.slice p1 l1 q1) (.int .u64 y1) (.slice r1 s1 v1) (.int .u64 x2) (.slice p2 l2 q2) (.int .u64 y2) (.slice r2 s2 v2) n1 m1 n2 m2 32 32 32 i1 j1 i2 j2 hT
 have H0:=hid h0
 clear h0 i1 j1 i2 j2 hT
 go_enter Tryz.func94,Tryz.ntmps94
 go_wp2_with fail
 obtain ⟨W0,hW0⟩:∃ W0,((w.alloc (.cells #[.bool t1,.int .u64 x1,.slice p1 l1 q1,.int .u64 y1,.slice r1 s1 v1] 32)).alloc (.cells #[.bool t2,.int .u64 x2,.slice p2 l2 q2,.int .u64 y2,.slice r2 s2 v2] 32)).alloc (.cells #[.bool false,.int .u64 0,.slice none 0 0,.int .u64 0,.slice none 0 0] 32)=W0:=⟨_,rfl⟩
 rw [hW0] at H0 ⊢
 clear hW0
 have H0':iJ w W0 t1 (.int .u64 x1) (.slice p1 l1 q1) (.int .u64 y1) (.slice r1 s1 v1) t2 (.int .u64 x2) (.slice p2 l2 q2) (.int .u64 y2) (.slice r2 s2 v2) n1 m1 n2 m2:=H0.out
 have hsz:=H0'.sz
 refine jk 4 [⟨[],[0]⟩,⟨[],[1]⟩,⟨[1],[2]⟩,⟨[0,2],[3]⟩]
  [one fun v _=>v=.agg #[.bool t1,.int .u64 x1,.slice p1 l1 q1,.int .u64 y1,.slice r1 s1 v1],one fun v _=>v=.agg #[.bool t2,.int .u64 x2,.slice p2 l2 q2,.int .u64 y2,.slice r2 s2 v2],one fun v W=>IsQ W v (s⁻¹),one fun v W=>IsQ W v R]
  (fun _ W=>Below W0.heap.size W0 W) (by kernel_rfl) (by kernel_rfl) ?hT ?hZ ?hO ?hE
 case hZ=>exact (Below.refl _ _).drew
 case hT =>
  simp only [List.forall_mem_cons,List.not_mem_nil,false_imp_iff,implies_true,and_true]
  exact ⟨aP jJ,aP jJ,aP jg,aP jg⟩
 case hO =>
  intro u
  simp only [List.take_succ_cons,List.take_zero,aI]
  repeat' (first | with_reducible exact gY | with_reducible refine gX ?_ ?_)
  ·intro W hS hF K hK
   have c0:=cB hS H0'.b1.1 (by omega)
   have c1:=cB hS H0'.b1.2.1 (by omega)
   have c2:=cB hS H0'.b1.2.2.1 (by omega)
   have c3:=cB hS H0'.b1.2.2.2.1 (by omega)
   have c4:=cB hS H0'.b1.2.2.2.2 (by omega)
   clear hF
   go_simp
   exact hK _ _ (.refl _ _) hS rfl
  ·intro W hS hF K hK
   have d0:=cB hS H0'.b2.1 (by omega)
   have d1:=cB hS H0'.b2.2.1 (by omega)
   have d2:=cB hS H0'.b2.2.2.1 (by omega)
   have d3:=cB hS H0'.b2.2.2.2.1 (by omega)
   have d4:=cB hS H0'.b2.2.2.2.2 (by omega)
   clear hF
   go_simp
   exact hK _ _ (.refl _ _) hS rfl
  ·intro W hS hF K hK
   have h1:u 1=.agg #[.bool t2,.int .u64 x2,.slice p2 l2 q2,.int .u64 y2,.slice r2 s2 v2]:=hF.1
   clear hF
   go_simp
   refine (HF.out _ (HQ.out.2.below (H0'.next hS).bel)).mono ?_
   rintro e wC ⟨v,rfl,hv,hBC⟩
   exact ⟨_,rfl,hK _ _ hBC (hS.trans (hBC.mono hS.size)) hv⟩
  ·intro W hS hF K hK
   have h0:u 0=.agg #[.bool t1,.int .u64 x1,.slice p1 l1 q1,.int .u64 y1,.slice r1 s1 v1]:=hF.1
   have hq2:IsQ W (u 2) (s⁻¹):=hF.2.1
   clear hF
   go_simp
   refine (HG.out _ _ (HQ.out.1.below (H0'.next hS).bel) hq2 ((H0'.next hS).tab)).mono ?_
   rintro e wC ⟨v,rfl,hv,hBC⟩
   exact ⟨_,rfl,hK _ _ hBC (hS.trans (hBC.mono hS.size)) hv⟩
 case hE =>
  intro u W hS hF
  have hv:IsQ W (u 3) R:=hF.2.2.2.1
  clear hF
  obtain ⟨t0,vx,vp,vl,vq,tx,tp,tl,tq,h13,hv1,hv2,ht⟩:=hv.shape
  have h4:=H0'.next hS
  obtain ⟨r0,ra,rb,rc,rd,⟨c0,c1,c2,c3,c4⟩,f0,f1,f2,f3,f4⟩:=h4.rs.facts
  obtain ⟨⟨z0,z1,z2,z3,z4⟩,hH⟩:=h4.rs.doneQ h4.bel (by omega) hv1 hv2 ht
  clear h4 hv hv1 hv2 ht hS H0' H0 HQ HF HG
  simp only [List.take_succ_cons,List.take_zero,aI,List.drop_succ_cons,List.drop_zero]
  go_wp2_with fail
  exact bodyPost_ret (v:=.agg #[.bool t0,.int .u64 vx,.slice vp vl vq,.int .u64 tx,.slice tp tl tq]) (by simp [results,Tryz.results94,go_sem,z0,z1,z2,z3,z4]) rfl ⟨_,rfl,hH.out.1,hH.out.2⟩
theorem div_zero (t1 t2:Bool) (x1 y1 x2 y2:Int) (p1 r1 p2 r2:Option Addr) (l1 q1 s1 v1 l2 q2 s2 v2 n1 m1 n2 m2:Nat) (w:World)
  (i1:ah w (.int .u64 x1) (.slice p1 l1 q1) n1) (j1:ah w (.int .u64 y1) (.slice r1 s1 v1) m1) (i2:ah w (.int .u64 x2) (.slice p2 l2 q2) n2) (j2:ah w (.int .u64 y2) (.slice r2 s2 v2) m2) (hT:Tab w) (h1:sgn t2 n2=0) :
  Calls Tryz.prog 15 #[.agg #[.bool t1,.int .u64 x1,.slice p1 l1 q1,.int .u64 y1,.slice r1 s1 v1],.agg #[.bool t2,.int .u64 x2,.slice p2 l2 q2,.int .u64 y2,.slice r2 s2 v2]] w (cO w 0 9):=by
 have hs2:=hid (fun (W:World) (h:ah W (.int .u64 x2) (.slice p2 l2 q2) n2)=>uX t2 _ _ (.int .u64 y2) (.slice r2 s2 v2) n2 W h)
 rw [h1] at hs2
 clear h1
 have h0:=iJ.start t1 t2 (.int .u64 x1) (.slice p1 l1 q1) (.int .u64 y1) (.slice r1 s1 v1) (.int .u64 x2) (.slice p2 l2 q2) (.int .u64 y2) (.slice r2 s2 v2) n1 m1 n2 m2 32 32 32 i1 j1 i2 j2 hT
 have H0:=hid h0
 clear h0 i1 j1 i2 j2 hT
 go_enter Tryz.func15,Tryz.ntmps15
 go_wp2_with fail
 obtain ⟨W0,hW0⟩:∃ W0,((w.alloc (.cells #[.bool t1,.int .u64 x1,.slice p1 l1 q1,.int .u64 y1,.slice r1 s1 v1] 32)).alloc (.cells #[.bool t2,.int .u64 x2,.slice p2 l2 q2,.int .u64 y2,.slice r2 s2 v2] 32)).alloc (.cells #[.bool false,.int .u64 0,.slice none 0 0,.int .u64 0,.slice none 0 0] 32)=W0:=⟨_,rfl⟩
 rw [hW0] at H0 ⊢
 clear hW0
 obtain ⟨d0,d1,d2,d3,d4⟩:=H0.out.b2
 go_wp2_with fail
 refine (hs2.out _ H0.out.i2).mono ?_
 rintro e w1 ⟨rfl,hB1⟩
 have h1:=H0.out.next hB1
 obtain ⟨g0,ga,gb,gc,gd,⟨c0,c1,c2,c3,c4⟩,f0,f1,f2,f3,f4⟩:=h1.rs.facts
 obtain ⟨⟨z0,z1,z2,z3,z4⟩,hH⟩:=h1.rs.done (v0:=.bool false) h1.bel (by omega) (lX w1) (lX w1)
 clear h1 hB1 H0 hs2 d0 d1 d2 d3 d4
 go_wp2_with fail
 exact bodyPost_ret (v:=.tuple #[.agg #[.bool false,.int .u64 0,.slice none 0 0,.int .u64 0,.slice none 0 0],.int .i64 9]) (by simp [results,Tryz.results15,go_sem,z0,z1,z2,z3,z4]) rfl ⟨_,rfl,qI _,hH.out.2.2⟩
theorem TP (t1 t2:Bool) (x1 y1 x2 y2:Int) (p1 r1 p2 r2:Option Addr) (l1 q1 s1 v1 l2 q2 s2 v2 n1 m1 n2 m2:Nat) (w:World)
  (i1:ah w (.int .u64 x1) (.slice p1 l1 q1) n1) (j1:ah w (.int .u64 y1) (.slice r1 s1 v1) m1) (i2:ah w (.int .u64 x2) (.slice p2 l2 q2) n2) (j2:ah w (.int .u64 y2) (.slice r2 s2 v2) m2) (hT:Tab w) (h1:sgn t2 n2≠0) (R:Rat) (HO0:∀ W,Below w.heap.size w W→Calls Tryz.prog 94 #[.agg #[.bool t1,.int .u64 x1,.slice p1 l1 q1,.int .u64 y1,.slice r1 s1 v1],.agg #[.bool t2,.int .u64 x2,.slice p2 l2 q2,.int .u64 y2,.slice r2 s2 v2]] W (aY W R)) :
  Calls Tryz.prog 15 #[.agg #[.bool t1,.int .u64 x1,.slice p1 l1 q1,.int .u64 y1,.slice r1 s1 v1],.agg #[.bool t2,.int .u64 x2,.slice p2 l2 q2,.int .u64 y2,.slice r2 s2 v2]] w (cO w R 0):=by
 have hs2:=hid (fun (W:World) (h:ah W (.int .u64 x2) (.slice p2 l2 q2) n2)=>uX t2 _ _ (.int .u64 y2) (.slice r2 s2 v2) n2 W h)
 obtain ⟨sb,hsb⟩:∃ s,sgn t2 n2=s:=⟨_,rfl⟩
 rw [hsb] at hs2 h1
 have tb:(sb == 0)=false:=by rw [beq_eq_false_iff_ne];exact h1
 have HO:=hid HO0
 clear h1 hsb HO0
 have h0:=iJ.start t1 t2 (.int .u64 x1) (.slice p1 l1 q1) (.int .u64 y1) (.slice r1 s1 v1) (.int .u64 x2) (.slice p2 l2 q2) (.int .u64 y2) (.slice r2 s2 v2) n1 m1 n2 m2 32 32 32 i1 j1 i2 j2 hT
 have H0:=hid h0
 clear h0 i1 j1 i2 j2 hT
 go_enter Tryz.func15,Tryz.ntmps15
 go_wp2_with fail
 obtain ⟨W0,hW0⟩:∃ W0,((w.alloc (.cells #[.bool t1,.int .u64 x1,.slice p1 l1 q1,.int .u64 y1,.slice r1 s1 v1] 32)).alloc (.cells #[.bool t2,.int .u64 x2,.slice p2 l2 q2,.int .u64 y2,.slice r2 s2 v2] 32)).alloc (.cells #[.bool false,.int .u64 0,.slice none 0 0,.int .u64 0,.slice none 0 0] 32)=W0:=⟨_,rfl⟩
 rw [hW0] at H0 ⊢
 clear hW0
 obtain ⟨d0,d1,d2,d3,d4⟩:=H0.out.b2
 go_wp2_with fail
 refine (hs2.out _ H0.out.i2).mono ?_
 rintro e w1 ⟨rfl,hB1⟩
 have H1:=hid (H0.out.next hB1)
 clear hB1 H0 hs2 d0 d1 d2 d3 d4
 obtain ⟨d0,d1,d2,d3,d4⟩:=H1.out.b2
 obtain ⟨b0,b1,b2,b3,b4⟩:=H1.out.b1
 go_wp2_with fail
 refine (HO.out _ H1.out.bel).mono ?_
 rintro e w2 ⟨v,rfl,hv,hB2⟩
 obtain ⟨t0,vx,vp,vl,vq,tx,tp,tl,tq,rfl,hv1,hv2,ht⟩:=hv.shape
 have h4:=H1.out.next hB2
 obtain ⟨g0,ga,gb,gc,gd,⟨c0,c1,c2,c3,c4⟩,f0,f1,f2,f3,f4⟩:=h4.rs.facts
 obtain ⟨⟨z0,z1,z2,z3,z4⟩,hH⟩:=h4.rs.doneQ h4.bel (by omega) hv1 hv2 ht
 clear h4 hv hv1 hv2 ht H1 HO d0 d1 d2 d3 d4 b0 b1 b2 b3 b4 hB2
 go_wp2_with fail
 exact bodyPost_ret (v:=.tuple #[.agg #[.bool t0,.int .u64 vx,.slice vp vl vq,.int .u64 tx,.slice tp tl tq],.int .i64 0]) (by simp [results,Tryz.results15,go_sem,z0,z1,z2,z3,z4]) rfl ⟨_,rfl,hH.out.1,hH.out.2⟩
theorem PV (r s:Rat) (v1 v2:Value) (k:Nat) (w:World) (h1:IsQ w v1 r) (h2:IsQ w v2 s) (hk:k≤17179869184) (f1:Fits k r) (f2:Fits k s) (hT:Tab w) :
  Calls Tryz.prog 15 #[v1,v2] w (cO w (r / s) (if s=0 then 9 else 0)):=by
 have HO:s≠0→∀ W,Below w.heap.size w W→Calls Tryz.prog 94 #[v1,v2] W (aY W (r / s)):=fun s0 W hb=>rQ r s v1 v2 k W (h1.below hb) (h2.below hb) hk s0 f1 f2 (hT.below hb (Nat.le_refl _))
 obtain ⟨t1,x1,p1,l1,q1,y1,r1,s1,u1,rfl,i1,j1,e1⟩:=h1.shape
 obtain ⟨t2,x2,p2,l2,q2,y2,r2,s2,u2,rfl,i2,j2,e2⟩:=h2.shape
 have e2':=e2.out
 by_cases z2:s=0
 ·have:=div_zero t1 t2 x1 y1 x2 y2 p1 r1 p2 r2 l1 q1 s1 u1 l2 q2 s2 u2 _ _ _ _ w i1 j1 i2 j2 hT (by rw [e2'];exact (kX s).2 z2)
  rw [if_pos z2,z2,Rat.div_def,Rat.inv_zero,Rat.mul_zero]
  exact this
 ·rw [if_neg z2]
  exact TP t1 t2 x1 y1 x2 y2 p1 r1 p2 r2 l1 q1 s1 u1 l2 q2 s2 u2 _ _ _ _ w i1 j1 i2 j2 hT (by rw [e2'];exact fun h=>z2 ((kX s).1 h)) _ (HO z2)
end
section
open Go.RowKit Go.Sort
attribute [local go_sem] takes gK gJ gI
theorem Tt (t:Bool) (x y:Int) (p r:Option Addr) (l q s v n m:Nat) (w:World) (i1:ah w (.int .u64 x) (.slice p l q) n) (j1:ah w (.int .u64 y) (.slice r s v) m):Calls Tryz.prog 40 #[.agg #[.bool t,.int .u64 x,.slice p l q,.int .u64 y,.slice r s v]] w fun e w'=>∃ c d,e=.returned (.agg #[.bool false,c,d,.int .u64 0,.slice none 0 0])∧ah w' c d (ak m)∧Below w.heap.size w w':=by
 have HU:=hid (fun (W:World) (h:ah W (.int .u64 y) (.slice r s v) m)=>O4 (.bool t) (.int .u64 x) (.slice p l q) _ _ m W h)
 have h0:=pW.start t (.int .u64 x) (.slice p l q) (.int .u64 y) (.slice r s v) n m 32 32 i1 j1
 have H0:=hid h0
 clear h0
 have I1:=hid i1
 have J1:=hid j1
 clear i1 j1
 go_enter Tryz.func40,Tryz.ntmps40
 go_wp2_with fail
 obtain ⟨W0,hW0⟩:∃ W0,(w.alloc (.cells #[.bool t,.int .u64 x,.slice p l q,.int .u64 y,.slice r s v] 32)).alloc (.cells #[.bool false,.int .u64 0,.slice none 0 0,.int .u64 0,.slice none 0 0] 32)=W0:=⟨_,rfl⟩
 rw [hW0] at H0 ⊢
 clear hW0
 obtain ⟨d0,d1,d2,d3,d4⟩:=H0.out.b1
 go_wp2_with fail
 refine (HU.out _ H0.out.j1).mono ?_
 rintro e w1 ⟨c,d,rfl,hm,hB1⟩
 obtain ⟨x',p',l',q',rfl,rfl⟩:=hm.shape
 have H1:=hid (H0.out.next hB1)
 have HM:=hid hm
 clear H0 hB1 d0 d1 d2 d3 d4 hm HU
 go_wp2_with fail
 refine (uT _ _ _ _ _ _).mono ?_
 rintro e w2 ⟨rfl,hB2⟩
 have hQ:=H1.out.next hB2
 obtain ⟨g0,ga,gb,gc,gd,⟨c0,c1,c2,c3,c4⟩,f0,f1,f2,f3,f4⟩:=hQ.rs.facts
 obtain ⟨⟨z0,z1,z2,z3,z4⟩,hH⟩:=hQ.rs.done (v0:=.bool false) hQ.bel (by omega) (HM.out.below hB2) (lX _)
 clear hQ H1 hB2 I1 J1 HM
 go_wp2_with fail
 exact bodyPost_ret (v:=.agg #[.bool false,.int .u64 x',.slice p' l' q',.int .u64 0,.slice none 0 0]) (by simp [results,Tryz.results40,go_sem,z0,z1,z2,z3,z4]) rfl ⟨_,_,rfl,hH.out.1,hH.out.2.2⟩
theorem Ig (r:Rat) (v:Value) (w:World) (h:IsQ w v r):Calls Tryz.prog 40 #[v] w (aY w (((r.den:Nat):Int):Rat)):=by
 obtain ⟨t,x,p,l,q,y,p',s,u,rfl,i,j,-⟩:=h.shape
 refine (Tt t x y p p' l q s u _ _ w i j).mono ?_
 rintro e w' ⟨c,d,rfl,hi,hb⟩
 rw [bW] at hi
 have h0:decide (((r.den:Nat):Int)<0)=false:=decide_eq_false (by omega)
 have:=uj ((r.den:Nat):Int) (w:=w') (c:=c) (d:=d) (by rw [Int.natAbs_natCast];exact hi)
 rw [h0] at this
 exact ⟨_,rfl,this,hb⟩
end
section
open Go.RowKit Go.Sort
namespace Rx
def eI (t:Bool) (i:Nat) (n:Int):En:=⟨89,[.c [.b t,.m i]],.i n⟩
def eD (a b:Int):En:=⟨110,[.i a,.i b],.i (fM a b)⟩
section
variable {T:World→Prop} {β:Nat→Nat} {r:Rat}
theorem yX {t:Bool} {i:Nat} {n:Int} (h:sgn t (β i)=n):(eI t i n).Ok T β r:=Un h
theorem Uf {a b:Int}:(eD a b).Ok T β r:=Uj fun W=>Ie a b W
def cmpL:List (Bool×Int):=[(true,-1),(false,0),(false,1)]
theorem GZ (t:Bool) (n:Nat):(t,sgn t n)∈cmpL:=by
 unfold sgn cmpL
 cases t
 ·by_cases h:n=0 <;> simp [h]
 ·simp
def Jl (t1 t2:Bool) (c o:Int):List En:=[eI t1 0 c,eI t2 2 c,eU t1 0 1 4,eU t2 2 3 5,eT 0 5 6,eT 2 4 7,eC 6 7 o]
theorem Js (β:Nat→Nat) (r:Rat):(∀ p∈cmpL,∀ q∈cmpL,p.2≠q.2→vV (fM p.2 q.2) (aN Tryz.prog (SM β r) (HM β r) ([eI p.1 0 p.2,eI q.1 2 q.2,eD p.2 q.2].map (dL β r [])) 1 30 [nC p.1 0 1,nC q.1 2 3] f4 4)=true) ∧
  (∀ p∈cmpL,∀ o∈[(-1:Int),0,1],vV (if p.1 then -o else o) (aN Tryz.prog (SM β r) (HM β r) ((Jl p.1 p.1 p.2 o).map (dL β r [])) 1 30 [nC p.1 0 1,nC p.1 2 3] f4 4)=true):=by
 unfold cmpL
 simp only [List.forall_mem_cons,List.not_mem_nil,false_imp_iff,implies_true,and_true]
 exact ⟨⟨⟨fun h=>absurd rfl h,fun _=>by kernel_rfl,fun _=>by kernel_rfl⟩,⟨fun _=>by kernel_rfl,fun h=>absurd rfl h,fun _=>by kernel_rfl⟩,fun _=>by kernel_rfl,fun _=>by kernel_rfl,fun h=>absurd rfl h⟩,⟨by kernel_rfl,by kernel_rfl,by kernel_rfl⟩,⟨by kernel_rfl,by kernel_rfl,by kernel_rfl⟩,by kernel_rfl,by kernel_rfl,by kernel_rfl⟩
theorem Rl (a b:Nat):aC a b∈[(-1:Int),0,1]:=by
 unfold aC
 split
 ·simp
 ·split <;> simp
end
theorem Jt (t:Bool) (x1 y1 x2 y2:Int) (p1 r1 p2 r2:Option Addr) (l1 q1 s1 v1 l2 q2 s2 v2 n1 m1 n2 m2 k:Nat) (w:World)
  (i1:ah w (.int .u64 x1) (.slice p1 l1 q1) n1) (j1:ah w (.int .u64 y1) (.slice r1 s1 v1) m1) (i2:ah w (.int .u64 x2) (.slice p2 l2 q2) n2) (j2:ah w (.int .u64 y2) (.slice r2 s2 v2) m2) (h1:sgn t n1=sgn t n2) (hk:k≤68719476736) (k1:n1<B64 ^ k) (k2:ak m1<B64 ^ k) (k3:n2<B64 ^ k) (k4:ak m2<B64 ^ k) :
  Calls Tryz.prog 30 #[.agg #[.bool t,.int .u64 x1,.slice p1 l1 q1,.int .u64 y1,.slice r1 s1 v1],.agg #[.bool t,.int .u64 x2,.slice p2 l2 q2,.int .u64 y2,.slice r2 s2 v2]] w (aZ w (.int .i64 (if t then -aC (n1*ak m2) (n2*ak m1) else aC (n1*ak m2) (n2*ak m1)))):=by
 refine rG (β:=bt [n1,m1,n2,m2,ak m1,ak m2,n1*ak m2,n2*ak m1]) (r:=0) i1 j1 i2 j2 fun _ hg=>Ob (T:=fun _=>True) jy (fun e he=>?_) ((Js _ _).2 _ (GZ t n1) _ (Rl (n1*ak m2) (n2*ak m1))) (fun _ _=>trivial) hg
 simp only [Jl,List.mem_cons,List.not_mem_nil,or_false] at he
 rcases he with rfl | rfl | rfl | rfl | rfl | rfl | rfl
 ·exact yX rfl
 ·exact yX h1.symm
 ·exact nX rfl
 ·exact nX rfl
 ·exact qw (K:=k) rfl (by omega) k1 k4
 ·exact qw (K:=k) rfl (by omega) k3 k2
 ·exact yU (K:=k+k) rfl (by omega) (uw k1 k4)
end Rx
theorem Rw (t1 t2:Bool) (x1 y1 x2 y2:Int) (p1 r1 p2 r2:Option Addr) (l1 q1 s1 v1 l2 q2 s2 v2 n1 m1 n2 m2 k:Nat) (w:World)
  (i1:ah w (.int .u64 x1) (.slice p1 l1 q1) n1) (j1:ah w (.int .u64 y1) (.slice r1 s1 v1) m1) (i2:ah w (.int .u64 x2) (.slice p2 l2 q2) n2) (j2:ah w (.int .u64 y2) (.slice r2 s2 v2) m2) (h1:sgn t1 n1=sgn t2 n2) (ht:t1=false) (hk:k≤68719476736) (k1:n1<B64 ^ k) (k2:ak m1<B64 ^ k) (k3:n2<B64 ^ k) (k4:ak m2<B64 ^ k) :
  Calls Tryz.prog 30 #[.agg #[.bool t1,.int .u64 x1,.slice p1 l1 q1,.int .u64 y1,.slice r1 s1 v1],.agg #[.bool t2,.int .u64 x2,.slice p2 l2 q2,.int .u64 y2,.slice r2 s2 v2]] w (aZ w (.int .i64 (aC (n1*ak m2) (n2*ak m1)))):=by
 subst ht
 cases t2
 ·exact Rx.Jt false x1 y1 x2 y2 p1 r1 p2 r2 l1 q1 s1 v1 l2 q2 s2 v2 n1 m1 n2 m2 k w i1 j1 i2 j2 h1 hk k1 k2 k3 k4
 ·exfalso;by_cases h0:n1=0 <;> simp [sgn,h0] at h1
theorem Ry (t1 t2:Bool) (x1 y1 x2 y2:Int) (p1 r1 p2 r2:Option Addr) (l1 q1 s1 v1 l2 q2 s2 v2 n1 m1 n2 m2 k:Nat) (w:World)
  (i1:ah w (.int .u64 x1) (.slice p1 l1 q1) n1) (j1:ah w (.int .u64 y1) (.slice r1 s1 v1) m1) (i2:ah w (.int .u64 x2) (.slice p2 l2 q2) n2) (j2:ah w (.int .u64 y2) (.slice r2 s2 v2) m2) (h1:sgn t1 n1=sgn t2 n2) (ht:t1=true) (hk:k≤68719476736) (k1:n1<B64 ^ k) (k2:ak m1<B64 ^ k) (k3:n2<B64 ^ k) (k4:ak m2<B64 ^ k) :
  Calls Tryz.prog 30 #[.agg #[.bool t1,.int .u64 x1,.slice p1 l1 q1,.int .u64 y1,.slice r1 s1 v1],.agg #[.bool t2,.int .u64 x2,.slice p2 l2 q2,.int .u64 y2,.slice r2 s2 v2]] w (aZ w (.int .i64 (-aC (n1*ak m2) (n2*ak m1)))):=by
 subst ht
 cases t2
 ·exfalso;by_cases h0:n2=0 <;> simp [sgn,h0] at h1
 ·exact Rx.Jt true x1 y1 x2 y2 p1 r1 p2 r2 l1 q1 s1 v1 l2 q2 s2 v2 n1 m1 n2 m2 k w i1 j1 i2 j2 h1 hk k1 k2 k3 k4
theorem Rq (t1 t2:Bool) (x1 y1 x2 y2:Int) (p1 r1 p2 r2:Option Addr) (l1 q1 s1 v1 l2 q2 s2 v2 n1 m1 n2 m2:Nat) (w:World)
  (i1:ah w (.int .u64 x1) (.slice p1 l1 q1) n1) (j1:ah w (.int .u64 y1) (.slice r1 s1 v1) m1) (i2:ah w (.int .u64 x2) (.slice p2 l2 q2) n2) (j2:ah w (.int .u64 y2) (.slice r2 s2 v2) m2) (h1:sgn t1 n1≠sgn t2 n2) :
  Calls Tryz.prog 30 #[.agg #[.bool t1,.int .u64 x1,.slice p1 l1 q1,.int .u64 y1,.slice r1 s1 v1],.agg #[.bool t2,.int .u64 x2,.slice p2 l2 q2,.int .u64 y2,.slice r2 s2 v2]] w (aZ w (.int .i64 (fM (sgn t1 n1) (sgn t2 n2)))):=by
 have hr:=(Rx.Js (Rx.bt [n1,m1,n2,m2]) 0).1 (t1,sgn t1 n1) (Rx.GZ t1 n1) (t2,sgn t2 n2) (Rx.GZ t2 n2) h1
 dsimp only at hr
 refine Rx.rG (β:=Rx.bt [n1,m1,n2,m2]) (r:=0) i1 j1 i2 j2 fun _ hg=>Rx.Ob (T:=fun _=>True) Rx.jy (fun e he=>?_) hr (fun _ _=>trivial) hg
 simp only [List.mem_cons,List.not_mem_nil,or_false] at he
 rcases he with rfl | rfl | rfl
 ·exact Rx.yX rfl
 ·exact Rx.yX rfl
 ·exact Rx.Uf
def ji (a:Int):Int:=if a<0 then -1 else if a=0 then 0 else 1
def aF (r s:Rat):Int:=if r<s then -1 else if r=s then 0 else 1
theorem Jk (r s:Rat):aF r s=fM (r.num*s.den) (s.num*r.den):=by
 unfold aF fM
 have h1:(r<s)↔(r.num*s.den<s.num*r.den):=Rat.lt_iff r s
 have h2:(r=s)↔(r.num*s.den=s.num*r.den):=Rat.eq_iff_mul_eq_mul
 simp only [h1,h2]
theorem Rn (a b:Int):fM (-a) (-b) = - fM a b:=by
 unfold fM
 rcases Int.lt_trichotomy a b with h | h | h
 ·rw [if_pos h,if_neg (by omega),if_neg (by omega)];rfl
 ·rw [if_neg (by omega),if_pos (by omega),if_neg (by omega),if_pos h];rfl
 ·rw [if_pos (by omega),if_neg (by omega),if_neg (by omega)]
theorem Rz (a b:Int) (p q:Nat) (hp:p≠0) (hq:q≠0) (h:ji a≠ji b):fM (a*q) (b*p)=fM (ji a) (ji b):=by
 have hp':(0:Int)<p:=by omega
 have hq':(0:Int)<q:=by omega
 have ha:(a<0→a*q<0)∧(a=0→a*q=0)∧(0<a→0<a*q):=⟨fun h=>Int.mul_neg_of_neg_of_pos h hq',fun h=>by rw [h,Int.zero_mul],fun h=>Int.mul_pos h hq'⟩
 have hb:(b<0→b*p<0)∧(b=0→b*p=0)∧(0<b→0<b*p):=⟨fun h=>Int.mul_neg_of_neg_of_pos h hp',fun h=>by rw [h,Int.zero_mul],fun h=>Int.mul_pos h hp'⟩
 generalize a*q=A at *
 generalize b*p=B at *
 unfold ji fM at *
 rcases Int.lt_trichotomy a 0 with h1 | h1 | h1 <;> rcases Int.lt_trichotomy b 0 with h2 | h2 | h2 <;> split at h <;> grind
theorem Ov (a:Int):sgn (decide (a<0)) a.natAbs=ji a:=by
 unfold sgn ji
 by_cases h:a<0
 ·rw [decide_eq_true h,if_pos rfl,if_pos h]
 ·rw [decide_eq_false h,if_neg (by simp),if_neg h]
  by_cases h0:a=0
  ·rw [if_pos h0,if_pos (by omega)]
  ·rw [if_neg h0,if_neg (by omega)]
theorem aau {a b:Int} (h:ji a=ji b):(a<0↔b<0):=by
 unfold ji at h
 constructor <;> intro h1 <;> split at h <;> grind
theorem xw (r s:Rat) (v1 v2:Value) (k:Nat) (w:World) (h1:IsQ w v1 r) (h2:IsQ w v2 s) (hk:k≤68719476736) (f1:Fits k r) (f2:Fits k s) :
  Calls Tryz.prog 30 #[v1,v2] w (aZ w (.int .i64 (aF r s))):=by
 obtain ⟨t1,x1,p1,l1,q1,y1,r1,s1,u1,rfl,i1,j1,e1⟩:=h1.shape
 obtain ⟨t2,x2,p2,l2,q2,y2,r2,s2,u2,rfl,i2,j2,e2⟩:=h2.shape
 have e1':=e1.out
 have e2':=e2.out
 have g1:sgn t1 r.num.natAbs=ji r.num:=by rw [e1',Ov]
 have g2:sgn t2 s.num.natAbs=ji s.num:=by rw [e2',Ov]
 rw [Jk]
 by_cases hs:ji r.num=ji s.num
 ·have hn:=aau hs
  have fd1:ak (bM r)<B64 ^ k:=by rw [bW];exact f1.2
  have fd2:ak (bM s)<B64 ^ k:=by rw [bW];exact f2.2
  by_cases h0:r.num<0
  ·have:=Ry t1 t2 x1 y1 x2 y2 p1 r1 p2 r2 l1 q1 s1 u1 l2 q2 s2 u2 _ _ _ _ k w i1 j1 i2 j2 (by rw [g1,g2,hs]) (by rw [e1'];exact decide_eq_true h0) hk f1.1 fd1 f2.1 fd2
   rw [bW,bW,← Dw,Int.natCast_mul,Int.natCast_mul,Int.ofNat_natAbs_of_nonpos (by omega),Int.ofNat_natAbs_of_nonpos (by have:=hn.1 h0;omega),Int.neg_mul,Int.neg_mul,Rn,Int.neg_neg] at this
   exact this
  ·have:=Rw t1 t2 x1 y1 x2 y2 p1 r1 p2 r2 l1 q1 s1 u1 l2 q2 s2 u2 _ _ _ _ k w i1 j1 i2 j2 (by rw [g1,g2,hs]) (by rw [e1'];exact decide_eq_false h0) hk f1.1 fd1 f2.1 fd2
   rw [bW,bW,← Dw,Int.natCast_mul,Int.natCast_mul,Int.natAbs_of_nonneg (by omega),Int.natAbs_of_nonneg (by have:¬ s.num<0:=fun h=>h0 (hn.2 h);omega)] at this
   exact this
 ·have:=Rq t1 t2 x1 y1 x2 y2 p1 r1 p2 r2 l1 q1 s1 u1 l2 q2 s2 u2 _ _ _ _ w i1 j1 i2 j2 (by rw [g1,g2];exact hs)
  rw [g1,g2,← Rz _ _ r.den s.den r.den_nz s.den_nz hs] at this
  exact this
end
end Go.Proofs.YthalajpklaodkaaGreatDoor
