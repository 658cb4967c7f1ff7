/- What the proof rests on, part 18. -/
import Derived.Test.YtancpaiaoamjlaaGreatDoorZ17
namespace Go.Proofs.YtancpaiaoamjlaaGreatDoor
set_option maxRecDepth 100000
set_option maxHeartbeats 80000000
section
open Go.RowKit Go.Sort
attribute [local go_sem] takes gU gQ gK
theorem fV.setCell {W:World} {b:Nat} (h:fV W b) (a:Addr) (v:Value) (ha:a.block≠b):fV (W.setCell a v) b:=by
 obtain ⟨⟨t,h0⟩,⟨x,h1⟩,⟨p,l,c,h2⟩,⟨y,h3⟩,⟨p',l',c',h4⟩,f0,f1,f2,f3,f4⟩:=h
 refine ⟨⟨t,?_⟩,⟨x,?_⟩,⟨p,l,c,?_⟩,⟨y,?_⟩,⟨p',l',c',?_⟩,?_,?_,?_,?_,?_⟩
 all_goals first | (simp only [World.frozen?_setCell];assumption) | (rw [World.cell?_setCell_far _ _ _ _ ha];assumption)
structure pV (w W:World) (t:Bool) (c d e f:Value) (n m:Nat):Prop where
 b1:C5 W w.heap.size (.bool t) c d e f
 fr:W.frozen? ⟨w.heap.size,0,none⟩=false
 rs:fV W (w.heap.size+1)
 i1:ah W c d n
 j1:ah W e f m
 bel:Below w.heap.size w W
 sz:w.heap.size+2≤W.heap.size
theorem pV.next {w W W':World} {t:Bool} {c d e f:Value} {n m:Nat} (h:pV w W t c d e f n m) (hb:Below W.heap.size W W'):pV w W' t c d e f n m where
 b1:=C5.below h.b1 hb (by have:=h.sz;omega)
 fr:=(hb.frozen (p:=⟨w.heap.size,0,none⟩) (by have:=h.sz;simp only;omega)).trans h.fr
 rs:=h.rs.below hb (by have:=h.sz;omega)
 i1:=h.i1.below hb
 j1:=h.j1.below hb
 bel:=h.bel.trans (hb.mono h.bel.size)
 sz:=Nat.le_trans h.sz hb.size
theorem pV.start {w:World} (t:Bool) (c d e f:Value) (n m:Nat) (T1 T2:TypeId) (i1:ah w c d n) (j1:ah w e f m) :
  pV w ((w.alloc (.cells #[.bool t,c,d,e,f] T1)).alloc (.cells #[.bool false,.int .u64 0,.slice none 0 0,.int .u64 0,.slice none 0 0] T2)) t c d e f n m:=by
 have hb:=((Below.refl w.heap.size w).alloc (Nat.le_refl _) (.cells #[.bool t,c,d,e,f] T1)).alloc (by simp) (.cells #[.bool false,.int .u64 0,.slice none 0 0,.int .u64 0,.slice none 0 0] T2)
 refine ⟨⟨?_,?_,?_,?_,?_⟩,?_,⟨⟨false,?_⟩,⟨0,?_⟩,⟨none,0,0,?_⟩,⟨0,?_⟩,⟨none,0,0,?_⟩,?_,?_,?_,?_,?_⟩,i1.below hb,j1.below hb,hb,by simp⟩ <;> go_simp
def dS (w:World) (r:Rat) (c:Int) (e:Ending) (w':World):Prop:=∃ v,e=.returned (.tuple #[v,.int .i64 c])∧IsQ w' v r∧Below w.heap.size w w'
theorem Eb (r:Rat):bM (-r)=bM r:=by unfold bM;rw [Rat.neg_den]
theorem zW (r:Rat):(-r).num.natAbs=r.num.natAbs:=by rw [Rat.neg_num,Int.natAbs_neg]
theorem WX (x y:Int) (p r:Option Addr) (l q s v n m:Nat) (w:World) (i1:ah w (.int .u64 x) (.slice p l q) n) (j1:ah w (.int .u64 y) (.slice r s v) m):Calls Tryz.prog 21 #[.agg #[.bool true,.int .u64 x,.slice p l q,.int .u64 y,.slice r s v]] w (fun e w'=>e=.returned (.agg #[.bool false,.int .u64 x,.slice p l q,.int .u64 y,.slice r s v])∧ah w' (.int .u64 x) (.slice p l q) n∧ah w' (.int .u64 y) (.slice r s v) m∧Below w.heap.size w w'):=by
 have hb:=((Below.refl w.heap.size w).alloc (Nat.le_refl _) (.cells #[.bool false,.int .u64 x,.slice p l q,.int .u64 y,.slice r s v] 32)).alloc (by simp) (.cells #[.bool false,.int .u64 x,.slice p l q,.int .u64 y,.slice r s v] 32)
 have HB:=hid (And.intro (i1.below hb) (And.intro (j1.below hb) hb))
 clear hb i1 j1
 go_enter Tryz.func21,Tryz.ntmps21
 go_wp2_with fail
 exact bodyPost_ret (v:=.agg #[.bool false,.int .u64 x,.slice p l q,.int .u64 y,.slice r s v]) (by simp [results,Tryz.results21,go_sem]) rfl ⟨rfl,HB.out⟩
theorem WW (x y:Int) (p r:Option Addr) (l q s v n m:Nat) (w:World) (i1:ah w (.int .u64 x) (.slice p l q) n) (j1:ah w (.int .u64 y) (.slice r s v) m):Calls Tryz.prog 21 #[.agg #[.bool false,.int .u64 x,.slice p l q,.int .u64 y,.slice r s v]] w (fun e w'=>e=.returned (.agg #[.bool !(n == 0),.int .u64 x,.slice p l q,.int .u64 y,.slice r s v])∧ah w' (.int .u64 x) (.slice p l q) n∧ah w' (.int .u64 y) (.slice r s v) m∧Below w.heap.size w w'):=by
 have hz:=hid (fun (W:World) (h:ah W (.int .u64 x) (.slice p l q) n)=>dJ _ _ n W h)
 obtain ⟨z,hzz⟩:∃ z,(n == 0)=z:=⟨_,rfl⟩
 rw [hzz] at hz ⊢
 clear hzz
 have h0:=pV.start false (.int .u64 x) (.slice p l q) (.int .u64 y) (.slice r s v) n m 32 32 i1 j1
 have H0:=hid h0
 clear h0
 have I1:=hid i1
 have J1:=hid j1
 clear i1 j1
 go_enter Tryz.func21,Tryz.ntmps21
 go_wp2_with fail
 obtain ⟨W0,hW0⟩:∃ W0,(w.alloc (.cells #[.bool false,.int .u64 x,.slice p l q,.int .u64 y,.slice r s v] 32)).alloc (.cells #[.bool false,.int .u64 0,.slice none 0 0,.int .u64 0,.slice none 0 0] 32)=W0:=⟨_,rfl⟩
 rw [hW0] at H0 ⊢
 clear hW0
 have hI:=H0.out.i1
 obtain ⟨d0,d1,d2,d3,d4⟩:=H0.out.b1
 go_wp2_with fail
 refine (hz.out _ hI).mono ?_
 rintro e W1 ⟨rfl,hB1⟩
 have hQ:=H0.out.next hB1
 clear H0 hB1 hz hI d0 d1 d2 d3 d4
 have hb2:Below w.heap.size w (W1.setCell ⟨w.heap.size,0,none⟩ (.bool !z)):=hQ.bel.setCell (by simp) _
 have rs2:=hQ.rs.setCell ⟨w.heap.size,0,none⟩ (.bool !z) (by simp)
 obtain ⟨g0,ga,gb,gc,gd,⟨c0,c1,c2,c3,c4⟩,f0,f1,f2,f3,f4⟩:=hQ.rs.facts
 obtain ⟨⟨z0,z1,z2,z3,z4⟩,hH⟩:=rs2.done (v0:=.bool !z) hb2 (by omega) (I1.out.below hb2) (J1.out.below hb2)
 obtain ⟨d0,d1,d2,d3,d4⟩:=hQ.b1
 have fr:=hQ.fr
 clear hb2 rs2 hQ I1 J1
 go_wp2_with fail
 exact bodyPost_ret (v:=.agg #[.bool !z,.int .u64 x,.slice p l q,.int .u64 y,.slice r s v]) (by simp [results,Tryz.results21,go_sem,z0,z1,z2,z3,z4]) rfl ⟨rfl,hH.out.1,hH.out.2.1,hH.out.2.2⟩
theorem Pj (t:Bool) (x y:Int) (p r:Option Addr) (l q s v n m:Nat) (w:World) (i1:ah w (.int .u64 x) (.slice p l q) n) (j1:ah w (.int .u64 y) (.slice r s v) m):Calls Tryz.prog 23 #[.agg #[.bool t,.int .u64 x,.slice p l q,.int .u64 y,.slice r s v]] w (fun e w'=>e=.returned (.agg #[.bool false,.int .u64 x,.slice p l q,.int .u64 y,.slice r s v])∧ah w' (.int .u64 x) (.slice p l q) n∧ah w' (.int .u64 y) (.slice r s v) m∧Below w.heap.size w w'):=by
 have hb:=((Below.refl w.heap.size w).alloc (Nat.le_refl _) (.cells #[.bool false,.int .u64 x,.slice p l q,.int .u64 y,.slice r s v] 32)).alloc (by simp) (.cells #[.bool false,.int .u64 x,.slice p l q,.int .u64 y,.slice r s v] 32)
 have HB:=hid (And.intro (i1.below hb) (And.intro (j1.below hb) hb))
 clear hb i1 j1
 go_enter Tryz.func23,Tryz.ntmps23
 go_wp2_with fail
 exact bodyPost_ret (v:=.agg #[.bool false,.int .u64 x,.slice p l q,.int .u64 y,.slice r s v]) (by simp [results,Tryz.results23,go_sem]) rfl ⟨rfl,HB.out⟩
theorem Ht (r:Rat) (v:Value) (w:World) (h:IsQ w v r):Calls Tryz.prog 21 #[v] w (bC w (-r)):=by
 obtain ⟨t,x,p,l,q,y,p',s,u,rfl,i,j,e⟩:=h.shape
 have e':=e.out
 cases t
 ·refine (WW x y p p' l q s u _ _ w i j).mono ?_
  rintro e w' ⟨rfl,hi,hj,hb⟩
  refine ⟨_,rfl,⟨_,_,_,_,?_,by rw [zW];exact hi,by rw [Eb];exact hj⟩,hb⟩
  have:¬ r.num<0:=by simpa using e'
  congr 4
  rw [Rat.neg_num]
  by_cases h0:r.num.natAbs=0
  ·simp only [h0,beq_self_eq_true,Bool.not_true]
   exact (decide_eq_false (by omega)).symm
  ·have:(r.num.natAbs == 0)=false:=by rw [beq_eq_false_iff_ne];exact h0
   rw [this]
   exact (decide_eq_true (by omega)).symm
 ·refine (WX x y p p' l q s u _ _ w i j).mono ?_
  rintro e w' ⟨rfl,hi,hj,hb⟩
  refine ⟨_,rfl,⟨_,_,_,_,?_,by rw [zW];exact hi,by rw [Eb];exact hj⟩,hb⟩
  have:r.num<0:=of_decide_eq_true e'.symm
  congr 4
  rw [Rat.neg_num]
  exact (decide_eq_false (by omega)).symm
theorem AY (r:Rat) (v:Value) (w:World) (h:IsQ w v r):Calls Tryz.prog 23 #[v] w (bC w (if r.num<0 then -r else r)):=by
 obtain ⟨t,x,p,l,q,y,p',s,u,rfl,i,j,-⟩:=h.shape
 refine (Pj t x y p p' l q s u _ _ w i j).mono ?_
 rintro e w' ⟨rfl,hi,hj,hb⟩
 by_cases h0:r.num<0
 ·have h1:=h0
  rw [if_pos h1]
  refine ⟨_,rfl,⟨_,_,_,_,?_,by rw [zW];exact hi,by rw [Eb];exact hj⟩,hb⟩
  congr 4
  rw [Rat.neg_num]
  exact (decide_eq_false (by omega)).symm
 ·rw [if_neg h0]
  refine ⟨_,rfl,⟨_,_,_,_,?_,hi,hj⟩,hb⟩
  congr 4
  exact (decide_eq_false h0).symm
theorem Fits.neg {k:Nat} {r:Rat} (h:Fits k r):Fits k (-r):=by
 unfold Fits at *
 rw [zW,Rat.neg_den]
 exact h
theorem vC (r s:Rat) (v1 v2:Value) (k:Nat) (w:World) (h1:IsQ w v1 r) (h2:IsQ w v2 s) (hk:k≤17179869184) (f1:Fits k r) (f2:Fits k s) (hT:Tab w) :
  Calls Tryz.prog 17 #[v1,v2] w (bC w (r - s)):=by
 obtain ⟨R,hR⟩:∃ R,r - s=R:=⟨_,rfl⟩
 have HF0:=fun (W:World) (v:Value) (h:IsQ W v s)=>Ht s v W h
 have HG0:=fun (W:World) (u v:Value) (h:IsQ W u r) (h':IsQ W v (-s)) (hT:Tab W)=>rW r (-s) u v k W h h' hk f1 f2.neg hT
 rw [← Rat.sub_eq_add_neg,hR] at HG0
 rw [hR]
 have HQ0:=And.intro h1 h2
 obtain ⟨t1,x1,p1,l1,q1,y1,r1,s1,v1,rfl,i1,j1,-⟩:=h1.shape
 obtain ⟨t2,x2,p2,l2,q2,y2,r2,s2,v2,rfl,i2,j2,-⟩:=h2.shape
 have HQ:=hid HQ0
 have HF:=hid (fun (W:World) (h:IsQ W (.agg #[.bool t2,.int .u64 x2,.slice p2 l2 q2,.int .u64 y2,.slice r2 s2 v2]) s)=>HF0 W _ h)
 have HG:=hid (fun (W:World) (v:Value) (h:IsQ W (.agg #[.bool t1,.int .u64 x1,.slice p1 l1 q1,.int .u64 y1,.slice r1 s1 v1]) r) (h':IsQ W v (-s)) (hT:Tab W)=>HG0 W _ v h h' hT)
 obtain ⟨n1,hn1⟩:∃ n,r.num.natAbs=n:=⟨_,rfl⟩
 obtain ⟨m1,hm1⟩:∃ n,bM r=n:=⟨_,rfl⟩
 obtain ⟨n2,hn2⟩:∃ n,s.num.natAbs=n:=⟨_,rfl⟩
 obtain ⟨m2,hm2⟩:∃ n,bM s=n:=⟨_,rfl⟩
 rw [hn1] at i1
 rw [hm1] at j1
 rw [hn2] at i2
 rw [hm2] at j2
 clear HF0 HG0 HQ0 h1 h2 f1 f2 hR hn1 hm1 hn2 hm2
 have h0:=iM.start t1 t2 (.int .u64 x1) (.slice p1 l1 q1) (.int .u64 y1) (.slice r1 s1 v1) (.int .u64 x2) (.slice p2 l2 q2) (.int .u64 y2) (.slice r2 s2 v2) n1 m1 n2 m2 32 32 32 i1 j1 i2 j2 hT
 have H0:=hid h0
 clear h0 i1 j1 i2 j2 hT
 go_enter Tryz.func17,Tryz.ntmps17
 go_wp2_with fail
 obtain ⟨W0,hW0⟩:∃ W0,((w.alloc (.cells #[.bool t1,.int .u64 x1,.slice p1 l1 q1,.int .u64 y1,.slice r1 s1 v1] 32)).alloc (.cells #[.bool t2,.int .u64 x2,.slice p2 l2 q2,.int .u64 y2,.slice r2 s2 v2] 32)).alloc (.cells #[.bool false,.int .u64 0,.slice none 0 0,.int .u64 0,.slice none 0 0] 32)=W0:=⟨_,rfl⟩
 rw [hW0] at H0 ⊢
 clear hW0
 have H0':iM w W0 t1 (.int .u64 x1) (.slice p1 l1 q1) (.int .u64 y1) (.slice r1 s1 v1) t2 (.int .u64 x2) (.slice p2 l2 q2) (.int .u64 y2) (.slice r2 s2 v2) n1 m1 n2 m2:=H0.out
 have hsz:=H0'.sz
 refine jA 4 [⟨[],[0]⟩,⟨[],[1]⟩,⟨[1],[2]⟩,⟨[0,2],[3]⟩]
  [one fun v _=>v=.agg #[.bool t1,.int .u64 x1,.slice p1 l1 q1,.int .u64 y1,.slice r1 s1 v1],one fun v _=>v=.agg #[.bool t2,.int .u64 x2,.slice p2 l2 q2,.int .u64 y2,.slice r2 s2 v2],one fun v W=>IsQ W v (-s),one fun v W=>IsQ W v R]
  (fun _ W=>Below W0.heap.size W0 W) (by kernel_rfl) (by kernel_rfl) ?hT ?hZ ?hO ?hE
 case hZ=>exact (Below.refl _ _).drew
 case hT =>
  simp only [List.forall_mem_cons,List.not_mem_nil,false_imp_iff,implies_true,and_true]
  exact ⟨aS jP,aS jP,aS jv,aS jv⟩
 case hO =>
  intro u
  simp only [List.take_succ_cons,List.take_zero,aJ]
  repeat' (first | with_reducible exact gZ | with_reducible refine gY ?_ ?_)
  ·intro W hS hF K hK
   have c0:=cB hS H0'.b1.1 (by omega)
   have c1:=cB hS H0'.b1.2.1 (by omega)
   have c2:=cB hS H0'.b1.2.2.1 (by omega)
   have c3:=cB hS H0'.b1.2.2.2.1 (by omega)
   have c4:=cB hS H0'.b1.2.2.2.2 (by omega)
   clear hF
   go_simp
   exact hK _ _ (.refl _ _) hS rfl
  ·intro W hS hF K hK
   have d0:=cB hS H0'.b2.1 (by omega)
   have d1:=cB hS H0'.b2.2.1 (by omega)
   have d2:=cB hS H0'.b2.2.2.1 (by omega)
   have d3:=cB hS H0'.b2.2.2.2.1 (by omega)
   have d4:=cB hS H0'.b2.2.2.2.2 (by omega)
   clear hF
   go_simp
   exact hK _ _ (.refl _ _) hS rfl
  ·intro W hS hF K hK
   have h1:u 1=.agg #[.bool t2,.int .u64 x2,.slice p2 l2 q2,.int .u64 y2,.slice r2 s2 v2]:=hF.1
   clear hF
   go_simp
   refine (HF.out _ (HQ.out.2.below (H0'.next hS).bel)).mono ?_
   rintro e wC ⟨v,rfl,hv,hBC⟩
   exact ⟨_,rfl,hK _ _ hBC (hS.trans (hBC.mono hS.size)) hv⟩
  ·intro W hS hF K hK
   have h0:u 0=.agg #[.bool t1,.int .u64 x1,.slice p1 l1 q1,.int .u64 y1,.slice r1 s1 v1]:=hF.1
   have hq2:IsQ W (u 2) (-s):=hF.2.1
   clear hF
   go_simp
   refine (HG.out _ _ (HQ.out.1.below (H0'.next hS).bel) hq2 ((H0'.next hS).tab)).mono ?_
   rintro e wC ⟨v,rfl,hv,hBC⟩
   exact ⟨_,rfl,hK _ _ hBC (hS.trans (hBC.mono hS.size)) hv⟩
 case hE =>
  intro u W hS hF
  have hv:IsQ W (u 3) R:=hF.2.2.2.1
  clear hF
  obtain ⟨t0,vx,vp,vl,vq,tx,tp,tl,tq,h13,hv1,hv2,ht⟩:=hv.shape
  have h4:=H0'.next hS
  obtain ⟨r0,ra,rb,rc,rd,⟨c0,c1,c2,c3,c4⟩,f0,f1,f2,f3,f4⟩:=h4.rs.facts
  obtain ⟨⟨z0,z1,z2,z3,z4⟩,hH⟩:=h4.rs.doneQ h4.bel (by omega) hv1 hv2 ht
  clear h4 hv hv1 hv2 ht hS H0' H0 HQ HF HG
  simp only [List.take_succ_cons,List.take_zero,aJ,List.drop_succ_cons,List.drop_zero]
  go_wp2_with fail
  exact bodyPost_ret (v:=.agg #[.bool t0,.int .u64 vx,.slice vp vl vq,.int .u64 tx,.slice tp tl tq]) (by simp [results,Tryz.results17,go_sem,z0,z1,z2,z3,z4]) rfl ⟨_,rfl,hH.out.1,hH.out.2⟩
theorem UU (r:Rat) (h:r≠0):mkRat (zs (decide (r.num<0)) r.den) r.num.natAbs=r⁻¹:=by
 have h0:r.num≠0:=fun e=>h (Rat.num_eq_zero.1 e)
 have e1:∀ (a:Int) (b:Nat),mkRat a b=Rat.divInt a (b:Int):=fun a b=>by first | rfl | (symm;exact Rat.divInt_ofNat a b) | simp
 unfold zs
 rw [Rat.inv_def,e1,Rat.divInt_eq_divInt_iff (by omega) h0]
 by_cases h1:r.num<0
 ·rw [decide_eq_true h1,if_pos rfl,Int.ofNat_natAbs_of_nonpos (by omega),Int.neg_mul,Int.mul_neg]
 ·rw [decide_eq_false h1,if_neg (by simp),Int.natAbs_of_nonneg (by omega)]
namespace Rx
section
variable {β:Nat→Nat} {R:Rat} {t:Bool} {x y:Int} {p r:Option Addr} {l q s v:Nat} {w:World}
theorem LC {f:FuncId} {Q:Ending→World→Prop} (i1:ah w (.int .u64 x) (.slice p l q) (β 0)) (j1:ah w (.int .u64 y) (.slice r s v) (β 1))
  (go:∀ ρ:Env,(∀ g∈[Fm.m 0 0,.m 1 1],Fm.on β R ρ g w)→Calls Tryz.prog f ([nC t 0 1].map (SV.den ρ)).toArray w Q):Calls Tryz.prog f #[.agg #[.bool t,.int .u64 x,.slice p l q,.int .u64 y,.slice r s v]] w Q:=by
 refine go (em [⟨false,x,p,l,q,.empty,0,default⟩,⟨false,y,r,s,v,.empty,0,default⟩]) fun g hg=>?_
 simp only [List.mem_cons,List.not_mem_nil,or_false] at hg
 rcases hg with rfl | rfl
 ·exact i1
 ·exact j1
theorem UW (β:Nat→Nat) (r:Rat) (t:Bool):isW false (bg Tryz.prog (SM β r) (HM β r) ([eU t 0 1 2,eL t 2 0].map (dO β r [])) 1 73 [nC t 0 1] [.m 0 0,.m 1 1] 2)=true:=by cases t <;> kernel_rfl
end
end Rx
theorem UR (t:Bool) (x y:Int) (p r:Option Addr) (l q s v n m:Nat) (w:World) (i1:ah w (.int .u64 x) (.slice p l q) n) (j1:ah w (.int .u64 y) (.slice r s v) m) (R:Rat) (hc:Nat.Coprime (au m) n) (hn:n≠0) (hR:mkRat (zs t (au m)) n=R) :
  Calls Tryz.prog 73 #[.agg #[.bool t,.int .u64 x,.slice p l q,.int .u64 y,.slice r s v]] w (bC w R):=
 Rx.LC (β:=Rx.bt [n,m,au m]) i1 j1 fun _ hg=>Rx.ng (T:=fun _=>True) Rx.jG (fun e he=>by
  simp only [List.mem_cons,List.not_mem_nil,or_false] at he
  rcases he with rfl | rfl
  ·exact Rx.nZ rfl
  ·exact Rx.Ei hc hn hR) (Rx.UW _ _ _) (fun h=>by cases h) (fun _ _=>trivial) hg
theorem Ho (r:Rat) (v:Value) (w:World) (h:IsQ w v r) (h0:r≠0):Calls Tryz.prog 73 #[v] w (bC w r⁻¹):=by
 obtain ⟨t,x,p,l,q,y,p',s,u,rfl,i,j,e⟩:=h.shape
 have e':=e.out
 exact UR t x y p p' l q s u _ _ w i j _ (by rw [bV];exact r.reduced.symm) (fun e=>h0 (Rat.num_eq_zero.1 (by omega))) (by rw [bV,e'];exact UU r h0)
theorem J6 (r:Rat) (h:r≠0):r⁻¹.num.natAbs=r.den∧r⁻¹.den=r.num.natAbs:=by
 have h0:r.num≠0:=fun e=>h (Rat.num_eq_zero.1 e)
 rcases Int.lt_or_gt_of_ne h0 with h1 | h1
 ·have e:r⁻¹=⟨-(r.den:Int),r.num.natAbs,by omega,by rw [Int.natAbs_neg];exact r.reduced.symm⟩:=by
   show Rat.inv r=_
   rw [Rat.inv]
   simp [h1]
  rw [e]
  exact ⟨by simp,rfl⟩
 ·have e:r⁻¹=⟨(r.den:Int),r.num.natAbs,by omega,by exact r.reduced.symm⟩:=by
   show Rat.inv r=_
   rw [Rat.inv]
   have:¬ r.num<0:=by omega
   simp [this,h1]
  rw [e]
  exact ⟨by simp,rfl⟩
theorem Fits.inv {k:Nat} {r:Rat} (h:Fits k r) (h0:r≠0):Fits k r⁻¹:=by
 unfold Fits at *
 rw [(J6 r h0).1,(J6 r h0).2]
 exact ⟨h.2,h.1⟩
theorem rX (r s:Rat) (v1 v2:Value) (k:Nat) (w:World) (h1:IsQ w v1 r) (h2:IsQ w v2 s) (hk:k≤17179869184) (s0:s≠0) (f1:Fits k r) (f2:Fits k s) (hT:Tab w) :
  Calls Tryz.prog 37 #[v1,v2] w (bC w (r / s)):=by
 obtain ⟨R,hR⟩:∃ R,r / s=R:=⟨_,rfl⟩
 have HF0:=fun (W:World) (v:Value) (h:IsQ W v s)=>Ho s v W h s0
 have HG0:=fun (W:World) (u v:Value) (h:IsQ W u r) (h':IsQ W v (s⁻¹)) (hT:Tab W)=>nK r s⁻¹ u v k W h h' (by omega) f1 (f2.inv s0) hT
 rw [← Rat.div_def,hR] at HG0
 rw [hR]
 have HQ0:=And.intro h1 h2
 obtain ⟨t1,x1,p1,l1,q1,y1,r1,s1,v1,rfl,i1,j1,-⟩:=h1.shape
 obtain ⟨t2,x2,p2,l2,q2,y2,r2,s2,v2,rfl,i2,j2,-⟩:=h2.shape
 have HQ:=hid HQ0
 have HF:=hid (fun (W:World) (h:IsQ W (.agg #[.bool t2,.int .u64 x2,.slice p2 l2 q2,.int .u64 y2,.slice r2 s2 v2]) s)=>HF0 W _ h)
 have HG:=hid (fun (W:World) (v:Value) (h:IsQ W (.agg #[.bool t1,.int .u64 x1,.slice p1 l1 q1,.int .u64 y1,.slice r1 s1 v1]) r) (h':IsQ W v (s⁻¹)) (hT:Tab W)=>HG0 W _ v h h' hT)
 obtain ⟨n1,hn1⟩:∃ n,r.num.natAbs=n:=⟨_,rfl⟩
 obtain ⟨m1,hm1⟩:∃ n,bM r=n:=⟨_,rfl⟩
 obtain ⟨n2,hn2⟩:∃ n,s.num.natAbs=n:=⟨_,rfl⟩
 obtain ⟨m2,hm2⟩:∃ n,bM s=n:=⟨_,rfl⟩
 rw [hn1] at i1
 rw [hm1] at j1
 rw [hn2] at i2
 rw [hm2] at j2
 clear HF0 HG0 HQ0 h1 h2 f1 f2 hR s0 hn1 hm1 hn2 hm2
 have h0:=iM.start t1 t2 (.int .u64 x1) (.slice p1 l1 q1) (.int .u64 y1) (.slice r1 s1 v1) (.int .u64 x2) (.slice p2 l2 q2) (.int .u64 y2) (.slice r2 s2 v2) n1 m1 n2 m2 32 32 32 i1 j1 i2 j2 hT
 have H0:=hid h0
 clear h0 i1 j1 i2 j2 hT
 go_enter Tryz.func37,Tryz.ntmps37
 go_wp2_with fail
 obtain ⟨W0,hW0⟩:∃ W0,((w.alloc (.cells #[.bool t1,.int .u64 x1,.slice p1 l1 q1,.int .u64 y1,.slice r1 s1 v1] 32)).alloc (.cells #[.bool t2,.int .u64 x2,.slice p2 l2 q2,.int .u64 y2,.slice r2 s2 v2] 32)).alloc (.cells #[.bool false,.int .u64 0,.slice none 0 0,.int .u64 0,.slice none 0 0] 32)=W0:=⟨_,rfl⟩
 rw [hW0] at H0 ⊢
 clear hW0
 have H0':iM w W0 t1 (.int .u64 x1) (.slice p1 l1 q1) (.int .u64 y1) (.slice r1 s1 v1) t2 (.int .u64 x2) (.slice p2 l2 q2) (.int .u64 y2) (.slice r2 s2 v2) n1 m1 n2 m2:=H0.out
 have hsz:=H0'.sz
 refine jA 4 [⟨[],[0]⟩,⟨[],[1]⟩,⟨[1],[2]⟩,⟨[0,2],[3]⟩]
  [one fun v _=>v=.agg #[.bool t1,.int .u64 x1,.slice p1 l1 q1,.int .u64 y1,.slice r1 s1 v1],one fun v _=>v=.agg #[.bool t2,.int .u64 x2,.slice p2 l2 q2,.int .u64 y2,.slice r2 s2 v2],one fun v W=>IsQ W v (s⁻¹),one fun v W=>IsQ W v R]
  (fun _ W=>Below W0.heap.size W0 W) (by kernel_rfl) (by kernel_rfl) ?hT ?hZ ?hO ?hE
 case hZ=>exact (Below.refl _ _).drew
 case hT =>
  simp only [List.forall_mem_cons,List.not_mem_nil,false_imp_iff,implies_true,and_true]
  exact ⟨aS jP,aS jP,aS jv,aS jv⟩
 case hO =>
  intro u
  simp only [List.take_succ_cons,List.take_zero,aJ]
  repeat' (first | with_reducible exact gZ | with_reducible refine gY ?_ ?_)
  ·intro W hS hF K hK
   have c0:=cB hS H0'.b1.1 (by omega)
   have c1:=cB hS H0'.b1.2.1 (by omega)
   have c2:=cB hS H0'.b1.2.2.1 (by omega)
   have c3:=cB hS H0'.b1.2.2.2.1 (by omega)
   have c4:=cB hS H0'.b1.2.2.2.2 (by omega)
   clear hF
   go_simp
   exact hK _ _ (.refl _ _) hS rfl
  ·intro W hS hF K hK
   have d0:=cB hS H0'.b2.1 (by omega)
   have d1:=cB hS H0'.b2.2.1 (by omega)
   have d2:=cB hS H0'.b2.2.2.1 (by omega)
   have d3:=cB hS H0'.b2.2.2.2.1 (by omega)
   have d4:=cB hS H0'.b2.2.2.2.2 (by omega)
   clear hF
   go_simp
   exact hK _ _ (.refl _ _) hS rfl
  ·intro W hS hF K hK
   have h1:u 1=.agg #[.bool t2,.int .u64 x2,.slice p2 l2 q2,.int .u64 y2,.slice r2 s2 v2]:=hF.1
   clear hF
   go_simp
   refine (HF.out _ (HQ.out.2.below (H0'.next hS).bel)).mono ?_
   rintro e wC ⟨v,rfl,hv,hBC⟩
   exact ⟨_,rfl,hK _ _ hBC (hS.trans (hBC.mono hS.size)) hv⟩
  ·intro W hS hF K hK
   have h0:u 0=.agg #[.bool t1,.int .u64 x1,.slice p1 l1 q1,.int .u64 y1,.slice r1 s1 v1]:=hF.1
   have hq2:IsQ W (u 2) (s⁻¹):=hF.2.1
   clear hF
   go_simp
   refine (HG.out _ _ (HQ.out.1.below (H0'.next hS).bel) hq2 ((H0'.next hS).tab)).mono ?_
   rintro e wC ⟨v,rfl,hv,hBC⟩
   exact ⟨_,rfl,hK _ _ hBC (hS.trans (hBC.mono hS.size)) hv⟩
 case hE =>
  intro u W hS hF
  have hv:IsQ W (u 3) R:=hF.2.2.2.1
  clear hF
  obtain ⟨t0,vx,vp,vl,vq,tx,tp,tl,tq,h13,hv1,hv2,ht⟩:=hv.shape
  have h4:=H0'.next hS
  obtain ⟨r0,ra,rb,rc,rd,⟨c0,c1,c2,c3,c4⟩,f0,f1,f2,f3,f4⟩:=h4.rs.facts
  obtain ⟨⟨z0,z1,z2,z3,z4⟩,hH⟩:=h4.rs.doneQ h4.bel (by omega) hv1 hv2 ht
  clear h4 hv hv1 hv2 ht hS H0' H0 HQ HF HG
  simp only [List.take_succ_cons,List.take_zero,aJ,List.drop_succ_cons,List.drop_zero]
  go_wp2_with fail
  exact bodyPost_ret (v:=.agg #[.bool t0,.int .u64 vx,.slice vp vl vq,.int .u64 tx,.slice tp tl tq]) (by simp [results,Tryz.results37,go_sem,z0,z1,z2,z3,z4]) rfl ⟨_,rfl,hH.out.1,hH.out.2⟩
theorem div_zero (t1 t2:Bool) (x1 y1 x2 y2:Int) (p1 r1 p2 r2:Option Addr) (l1 q1 s1 v1 l2 q2 s2 v2 n1 m1 n2 m2:Nat) (w:World)
  (i1:ah w (.int .u64 x1) (.slice p1 l1 q1) n1) (j1:ah w (.int .u64 y1) (.slice r1 s1 v1) m1) (i2:ah w (.int .u64 x2) (.slice p2 l2 q2) n2) (j2:ah w (.int .u64 y2) (.slice r2 s2 v2) m2) (hT:Tab w) (h1:sgn t2 n2=0) :
  Calls Tryz.prog 10 #[.agg #[.bool t1,.int .u64 x1,.slice p1 l1 q1,.int .u64 y1,.slice r1 s1 v1],.agg #[.bool t2,.int .u64 x2,.slice p2 l2 q2,.int .u64 y2,.slice r2 s2 v2]] w (dS w 0 9):=by
 have hs2:=hid (fun (W:World) (h:ah W (.int .u64 x2) (.slice p2 l2 q2) n2)=>vk t2 _ _ (.int .u64 y2) (.slice r2 s2 v2) n2 W h)
 rw [h1] at hs2
 clear h1
 have h0:=iM.start t1 t2 (.int .u64 x1) (.slice p1 l1 q1) (.int .u64 y1) (.slice r1 s1 v1) (.int .u64 x2) (.slice p2 l2 q2) (.int .u64 y2) (.slice r2 s2 v2) n1 m1 n2 m2 32 32 32 i1 j1 i2 j2 hT
 have H0:=hid h0
 clear h0 i1 j1 i2 j2 hT
 go_enter Tryz.func10,Tryz.ntmps10
 go_wp2_with fail
 obtain ⟨W0,hW0⟩:∃ W0,((w.alloc (.cells #[.bool t1,.int .u64 x1,.slice p1 l1 q1,.int .u64 y1,.slice r1 s1 v1] 32)).alloc (.cells #[.bool t2,.int .u64 x2,.slice p2 l2 q2,.int .u64 y2,.slice r2 s2 v2] 32)).alloc (.cells #[.bool false,.int .u64 0,.slice none 0 0,.int .u64 0,.slice none 0 0] 32)=W0:=⟨_,rfl⟩
 rw [hW0] at H0 ⊢
 clear hW0
 obtain ⟨d0,d1,d2,d3,d4⟩:=H0.out.b2
 go_wp2_with fail
 refine (hs2.out _ H0.out.i2).mono ?_
 rintro e w1 ⟨rfl,hB1⟩
 have h1:=H0.out.next hB1
 obtain ⟨g0,ga,gb,gc,gd,⟨c0,c1,c2,c3,c4⟩,f0,f1,f2,f3,f4⟩:=h1.rs.facts
 obtain ⟨⟨z0,z1,z2,z3,z4⟩,hH⟩:=h1.rs.done (v0:=.bool false) h1.bel (by omega) (mQ w1) (mQ w1)
 clear h1 hB1 H0 hs2 d0 d1 d2 d3 d4
 go_wp2_with fail
 exact bodyPost_ret (v:=.tuple #[.agg #[.bool false,.int .u64 0,.slice none 0 0,.int .u64 0,.slice none 0 0],.int .i64 9]) (by simp [results,Tryz.results10,go_sem,z0,z1,z2,z3,z4]) rfl ⟨_,rfl,ug _,hH.out.2.2⟩
theorem SK (t1 t2:Bool) (x1 y1 x2 y2:Int) (p1 r1 p2 r2:Option Addr) (l1 q1 s1 v1 l2 q2 s2 v2 n1 m1 n2 m2:Nat) (w:World)
  (i1:ah w (.int .u64 x1) (.slice p1 l1 q1) n1) (j1:ah w (.int .u64 y1) (.slice r1 s1 v1) m1) (i2:ah w (.int .u64 x2) (.slice p2 l2 q2) n2) (j2:ah w (.int .u64 y2) (.slice r2 s2 v2) m2) (hT:Tab w) (h1:sgn t2 n2≠0) (R:Rat) (HO0:∀ W,Below w.heap.size w W→Calls Tryz.prog 37 #[.agg #[.bool t1,.int .u64 x1,.slice p1 l1 q1,.int .u64 y1,.slice r1 s1 v1],.agg #[.bool t2,.int .u64 x2,.slice p2 l2 q2,.int .u64 y2,.slice r2 s2 v2]] W (bC W R)) :
  Calls Tryz.prog 10 #[.agg #[.bool t1,.int .u64 x1,.slice p1 l1 q1,.int .u64 y1,.slice r1 s1 v1],.agg #[.bool t2,.int .u64 x2,.slice p2 l2 q2,.int .u64 y2,.slice r2 s2 v2]] w (dS w R 0):=by
 have hs2:=hid (fun (W:World) (h:ah W (.int .u64 x2) (.slice p2 l2 q2) n2)=>vk t2 _ _ (.int .u64 y2) (.slice r2 s2 v2) n2 W h)
 obtain ⟨sb,hsb⟩:∃ s,sgn t2 n2=s:=⟨_,rfl⟩
 rw [hsb] at hs2 h1
 have tb:(sb == 0)=false:=by rw [beq_eq_false_iff_ne];exact h1
 have HO:=hid HO0
 clear h1 hsb HO0
 have h0:=iM.start t1 t2 (.int .u64 x1) (.slice p1 l1 q1) (.int .u64 y1) (.slice r1 s1 v1) (.int .u64 x2) (.slice p2 l2 q2) (.int .u64 y2) (.slice r2 s2 v2) n1 m1 n2 m2 32 32 32 i1 j1 i2 j2 hT
 have H0:=hid h0
 clear h0 i1 j1 i2 j2 hT
 go_enter Tryz.func10,Tryz.ntmps10
 go_wp2_with fail
 obtain ⟨W0,hW0⟩:∃ W0,((w.alloc (.cells #[.bool t1,.int .u64 x1,.slice p1 l1 q1,.int .u64 y1,.slice r1 s1 v1] 32)).alloc (.cells #[.bool t2,.int .u64 x2,.slice p2 l2 q2,.int .u64 y2,.slice r2 s2 v2] 32)).alloc (.cells #[.bool false,.int .u64 0,.slice none 0 0,.int .u64 0,.slice none 0 0] 32)=W0:=⟨_,rfl⟩
 rw [hW0] at H0 ⊢
 clear hW0
 obtain ⟨d0,d1,d2,d3,d4⟩:=H0.out.b2
 go_wp2_with fail
 refine (hs2.out _ H0.out.i2).mono ?_
 rintro e w1 ⟨rfl,hB1⟩
 have H1:=hid (H0.out.next hB1)
 clear hB1 H0 hs2 d0 d1 d2 d3 d4
 obtain ⟨d0,d1,d2,d3,d4⟩:=H1.out.b2
 obtain ⟨b0,b1,b2,b3,b4⟩:=H1.out.b1
 go_wp2_with fail
 refine (HO.out _ H1.out.bel).mono ?_
 rintro e w2 ⟨v,rfl,hv,hB2⟩
 obtain ⟨t0,vx,vp,vl,vq,tx,tp,tl,tq,rfl,hv1,hv2,ht⟩:=hv.shape
 have h4:=H1.out.next hB2
 obtain ⟨g0,ga,gb,gc,gd,⟨c0,c1,c2,c3,c4⟩,f0,f1,f2,f3,f4⟩:=h4.rs.facts
 obtain ⟨⟨z0,z1,z2,z3,z4⟩,hH⟩:=h4.rs.doneQ h4.bel (by omega) hv1 hv2 ht
 clear h4 hv hv1 hv2 ht H1 HO d0 d1 d2 d3 d4 b0 b1 b2 b3 b4 hB2
 go_wp2_with fail
 exact bodyPost_ret (v:=.tuple #[.agg #[.bool t0,.int .u64 vx,.slice vp vl vq,.int .u64 tx,.slice tp tl tq],.int .i64 0]) (by simp [results,Tryz.results10,go_sem,z0,z1,z2,z3,z4]) rfl ⟨_,rfl,hH.out.1,hH.out.2⟩
theorem OT (r s:Rat) (v1 v2:Value) (k:Nat) (w:World) (h1:IsQ w v1 r) (h2:IsQ w v2 s) (hk:k≤17179869184) (f1:Fits k r) (f2:Fits k s) (hT:Tab w) :
  Calls Tryz.prog 10 #[v1,v2] w (dS w (r / s) (if s=0 then 9 else 0)):=by
 have HO:s≠0→∀ W,Below w.heap.size w W→Calls Tryz.prog 37 #[v1,v2] W (bC W (r / s)):=fun s0 W hb=>rX r s v1 v2 k W (h1.below hb) (h2.below hb) hk s0 f1 f2 (hT.below hb (Nat.le_refl _))
 obtain ⟨t1,x1,p1,l1,q1,y1,r1,s1,u1,rfl,i1,j1,e1⟩:=h1.shape
 obtain ⟨t2,x2,p2,l2,q2,y2,r2,s2,u2,rfl,i2,j2,e2⟩:=h2.shape
 have e2':=e2.out
 by_cases z2:s=0
 ·have:=div_zero t1 t2 x1 y1 x2 y2 p1 r1 p2 r2 l1 q1 s1 u1 l2 q2 s2 u2 _ _ _ _ w i1 j1 i2 j2 hT (by rw [e2'];exact (lI s).2 z2)
  rw [if_pos z2,z2,Rat.div_def,Rat.inv_zero,Rat.mul_zero]
  exact this
 ·rw [if_neg z2]
  exact SK t1 t2 x1 y1 x2 y2 p1 r1 p2 r2 l1 q1 s1 u1 l2 q2 s2 u2 _ _ _ _ w i1 j1 i2 j2 hT (by rw [e2'];exact fun h=>z2 ((lI s).1 h)) _ (HO z2)
end
section
open Go.RowKit Go.Sort
attribute [local go_sem] takes gU gQ gK
theorem RQ (t:Bool) (x y:Int) (p r:Option Addr) (l q s v n m:Nat) (w:World) (i1:ah w (.int .u64 x) (.slice p l q) n) (j1:ah w (.int .u64 y) (.slice r s v) m):Calls Tryz.prog 92 #[.agg #[.bool t,.int .u64 x,.slice p l q,.int .u64 y,.slice r s v]] w fun e w'=>∃ c d,e=.returned (.agg #[.bool false,c,d,.int .u64 0,.slice none 0 0])∧ah w' c d (au m)∧Below w.heap.size w w':=by
 have HU:=hid (fun (W:World) (h:ah W (.int .u64 y) (.slice r s v) m)=>Oj (.bool t) (.int .u64 x) (.slice p l q) _ _ m W h)
 have h0:=pV.start t (.int .u64 x) (.slice p l q) (.int .u64 y) (.slice r s v) n m 32 32 i1 j1
 have H0:=hid h0
 clear h0
 have I1:=hid i1
 have J1:=hid j1
 clear i1 j1
 go_enter Tryz.func92,Tryz.ntmps92
 go_wp2_with fail
 obtain ⟨W0,hW0⟩:∃ W0,(w.alloc (.cells #[.bool t,.int .u64 x,.slice p l q,.int .u64 y,.slice r s v] 32)).alloc (.cells #[.bool false,.int .u64 0,.slice none 0 0,.int .u64 0,.slice none 0 0] 32)=W0:=⟨_,rfl⟩
 rw [hW0] at H0 ⊢
 clear hW0
 obtain ⟨d0,d1,d2,d3,d4⟩:=H0.out.b1
 go_wp2_with fail
 refine (HU.out _ H0.out.j1).mono ?_
 rintro e w1 ⟨c,d,rfl,hm,hB1⟩
 obtain ⟨x',p',l',q',rfl,rfl⟩:=hm.shape
 have H1:=hid (H0.out.next hB1)
 have HM:=hid hm
 clear H0 hB1 d0 d1 d2 d3 d4 hm HU
 go_wp2_with fail
 refine (uX _ _ _ _ _ _).mono ?_
 rintro e w2 ⟨rfl,hB2⟩
 have hQ:=H1.out.next hB2
 obtain ⟨g0,ga,gb,gc,gd,⟨c0,c1,c2,c3,c4⟩,f0,f1,f2,f3,f4⟩:=hQ.rs.facts
 obtain ⟨⟨z0,z1,z2,z3,z4⟩,hH⟩:=hQ.rs.done (v0:=.bool false) hQ.bel (by omega) (HM.out.below hB2) (mQ _)
 clear hQ H1 hB2 I1 J1 HM
 go_wp2_with fail
 exact bodyPost_ret (v:=.agg #[.bool false,.int .u64 x',.slice p' l' q',.int .u64 0,.slice none 0 0]) (by simp [results,Tryz.results92,go_sem,z0,z1,z2,z3,z4]) rfl ⟨_,_,rfl,hH.out.1,hH.out.2.2⟩
theorem OM (r:Rat) (v:Value) (w:World) (h:IsQ w v r):Calls Tryz.prog 92 #[v] w (bC w (((r.den:Nat):Int):Rat)):=by
 obtain ⟨t,x,p,l,q,y,p',s,u,rfl,i,j,-⟩:=h.shape
 refine (RQ t x y p p' l q s u _ _ w i j).mono ?_
 rintro e w' ⟨c,d,rfl,hi,hb⟩
 rw [bV] at hi
 have h0:decide (((r.den:Nat):Int)<0)=false:=decide_eq_false (by omega)
 have:=qG ((r.den:Nat):Int) (w:=w') (c:=c) (d:=d) (by rw [Int.natAbs_natCast];exact hi)
 rw [h0] at this
 exact ⟨_,rfl,this,hb⟩
end
section
open Go.RowKit Go.Sort
namespace Rx
def eI (t:Bool) (i:Nat) (n:Int):En:=⟨32,[.c [.b t,.m i]],.i n⟩
def eD (a b:Int):En:=⟨53,[.i a,.i b],.i (fH a b)⟩
section
variable {T:World→Prop} {β:Nat→Nat} {r:Rat}
theorem yK {t:Bool} {i:Nat} {n:Int} (h:sgn t (β i)=n):(eI t i n).Ok T β r:=TD h
theorem Tj {a b:Int}:(eD a b).Ok T β r:=Tv fun W=>G9 a b W
def cmpL:List (Bool×Int):=[(true,-1),(false,0),(false,1)]
theorem Gp (t:Bool) (n:Nat):(t,sgn t n)∈cmpL:=by
 unfold sgn cmpL
 cases t
 ·by_cases h:n=0 <;> simp [h]
 ·simp
def IK (t1 t2:Bool) (c o:Int):List En:=[eI t1 0 c,eI t2 2 c,eU t1 0 1 4,eU t2 2 3 5,eT 0 5 6,eT 2 4 7,eC 6 7 o]
theorem IV (β:Nat→Nat) (r:Rat):(∀ p∈cmpL,∀ q∈cmpL,p.2≠q.2→vV (fH p.2 q.2) (bg Tryz.prog (SM β r) (HM β r) ([eI p.1 0 p.2,eI q.1 2 q.2,eD p.2 q.2].map (dO β r [])) 1 25 [nC p.1 0 1,nC q.1 2 3] f4 4)=true) ∧
  (∀ p∈cmpL,∀ o∈[(-1:Int),0,1],vV (if p.1 then -o else o) (bg Tryz.prog (SM β r) (HM β r) ((IK p.1 p.1 p.2 o).map (dO β r [])) 1 25 [nC p.1 0 1,nC p.1 2 3] f4 4)=true):=by
 unfold cmpL
 simp only [List.forall_mem_cons,List.not_mem_nil,false_imp_iff,implies_true,and_true]
 exact ⟨⟨⟨fun h=>absurd rfl h,fun _=>by kernel_rfl,fun _=>by kernel_rfl⟩,⟨fun _=>by kernel_rfl,fun h=>absurd rfl h,fun _=>by kernel_rfl⟩,fun _=>by kernel_rfl,fun _=>by kernel_rfl,fun h=>absurd rfl h⟩,⟨by kernel_rfl,by kernel_rfl,by kernel_rfl⟩,⟨by kernel_rfl,by kernel_rfl,by kernel_rfl⟩,by kernel_rfl,by kernel_rfl,by kernel_rfl⟩
theorem Qv (a b:Nat):aG a b∈[(-1:Int),0,1]:=by
 unfold aG
 split
 ·simp
 ·split <;> simp
end
theorem IW (t:Bool) (x1 y1 x2 y2:Int) (p1 r1 p2 r2:Option Addr) (l1 q1 s1 v1 l2 q2 s2 v2 n1 m1 n2 m2 k:Nat) (w:World)
  (i1:ah w (.int .u64 x1) (.slice p1 l1 q1) n1) (j1:ah w (.int .u64 y1) (.slice r1 s1 v1) m1) (i2:ah w (.int .u64 x2) (.slice p2 l2 q2) n2) (j2:ah w (.int .u64 y2) (.slice r2 s2 v2) m2) (h1:sgn t n1=sgn t n2) (hk:k≤68719476736) (k1:n1<B64 ^ k) (k2:au m1<B64 ^ k) (k3:n2<B64 ^ k) (k4:au m2<B64 ^ k) :
  Calls Tryz.prog 25 #[.agg #[.bool t,.int .u64 x1,.slice p1 l1 q1,.int .u64 y1,.slice r1 s1 v1],.agg #[.bool t,.int .u64 x2,.slice p2 l2 q2,.int .u64 y2,.slice r2 s2 v2]] w (aX w (.int .i64 (if t then -aG (n1*au m2) (n2*au m1) else aG (n1*au m2) (n2*au m1)))):=by
 refine rJ (β:=bt [n1,m1,n2,m2,au m1,au m2,n1*au m2,n2*au m1]) (r:=0) i1 j1 i2 j2 fun _ hg=>Nj (T:=fun _=>True) jG (fun e he=>?_) ((IV _ _).2 _ (Gp t n1) _ (Qv (n1*au m2) (n2*au m1))) (fun _ _=>trivial) hg
 simp only [IK,List.mem_cons,List.not_mem_nil,or_false] at he
 rcases he with rfl | rfl | rfl | rfl | rfl | rfl | rfl
 ·exact yK rfl
 ·exact yK h1.symm
 ·exact nZ rfl
 ·exact nZ rfl
 ·exact qo (K:=k) rfl (by omega) k1 k4
 ·exact qo (K:=k) rfl (by omega) k3 k2
 ·exact yI (K:=k+k) rfl (by omega) (um k1 k4)
end Rx
theorem Qz (t1 t2:Bool) (x1 y1 x2 y2:Int) (p1 r1 p2 r2:Option Addr) (l1 q1 s1 v1 l2 q2 s2 v2 n1 m1 n2 m2 k:Nat) (w:World)
  (i1:ah w (.int .u64 x1) (.slice p1 l1 q1) n1) (j1:ah w (.int .u64 y1) (.slice r1 s1 v1) m1) (i2:ah w (.int .u64 x2) (.slice p2 l2 q2) n2) (j2:ah w (.int .u64 y2) (.slice r2 s2 v2) m2) (h1:sgn t1 n1=sgn t2 n2) (ht:t1=false) (hk:k≤68719476736) (k1:n1<B64 ^ k) (k2:au m1<B64 ^ k) (k3:n2<B64 ^ k) (k4:au m2<B64 ^ k) :
  Calls Tryz.prog 25 #[.agg #[.bool t1,.int .u64 x1,.slice p1 l1 q1,.int .u64 y1,.slice r1 s1 v1],.agg #[.bool t2,.int .u64 x2,.slice p2 l2 q2,.int .u64 y2,.slice r2 s2 v2]] w (aX w (.int .i64 (aG (n1*au m2) (n2*au m1)))):=by
 subst ht
 cases t2
 ·exact Rx.IW false x1 y1 x2 y2 p1 r1 p2 r2 l1 q1 s1 v1 l2 q2 s2 v2 n1 m1 n2 m2 k w i1 j1 i2 j2 h1 hk k1 k2 k3 k4
 ·exfalso;by_cases h0:n1=0 <;> simp [sgn,h0] at h1
theorem QA (t1 t2:Bool) (x1 y1 x2 y2:Int) (p1 r1 p2 r2:Option Addr) (l1 q1 s1 v1 l2 q2 s2 v2 n1 m1 n2 m2 k:Nat) (w:World)
  (i1:ah w (.int .u64 x1) (.slice p1 l1 q1) n1) (j1:ah w (.int .u64 y1) (.slice r1 s1 v1) m1) (i2:ah w (.int .u64 x2) (.slice p2 l2 q2) n2) (j2:ah w (.int .u64 y2) (.slice r2 s2 v2) m2) (h1:sgn t1 n1=sgn t2 n2) (ht:t1=true) (hk:k≤68719476736) (k1:n1<B64 ^ k) (k2:au m1<B64 ^ k) (k3:n2<B64 ^ k) (k4:au m2<B64 ^ k) :
  Calls Tryz.prog 25 #[.agg #[.bool t1,.int .u64 x1,.slice p1 l1 q1,.int .u64 y1,.slice r1 s1 v1],.agg #[.bool t2,.int .u64 x2,.slice p2 l2 q2,.int .u64 y2,.slice r2 s2 v2]] w (aX w (.int .i64 (-aG (n1*au m2) (n2*au m1)))):=by
 subst ht
 cases t2
 ·exfalso;by_cases h0:n2=0 <;> simp [sgn,h0] at h1
 ·exact Rx.IW true x1 y1 x2 y2 p1 r1 p2 r2 l1 q1 s1 v1 l2 q2 s2 v2 n1 m1 n2 m2 k w i1 j1 i2 j2 h1 hk k1 k2 k3 k4
theorem Qx (t1 t2:Bool) (x1 y1 x2 y2:Int) (p1 r1 p2 r2:Option Addr) (l1 q1 s1 v1 l2 q2 s2 v2 n1 m1 n2 m2:Nat) (w:World)
  (i1:ah w (.int .u64 x1) (.slice p1 l1 q1) n1) (j1:ah w (.int .u64 y1) (.slice r1 s1 v1) m1) (i2:ah w (.int .u64 x2) (.slice p2 l2 q2) n2) (j2:ah w (.int .u64 y2) (.slice r2 s2 v2) m2) (h1:sgn t1 n1≠sgn t2 n2) :
  Calls Tryz.prog 25 #[.agg #[.bool t1,.int .u64 x1,.slice p1 l1 q1,.int .u64 y1,.slice r1 s1 v1],.agg #[.bool t2,.int .u64 x2,.slice p2 l2 q2,.int .u64 y2,.slice r2 s2 v2]] w (aX w (.int .i64 (fH (sgn t1 n1) (sgn t2 n2)))):=by
 have hr:=(Rx.IV (Rx.bt [n1,m1,n2,m2]) 0).1 (t1,sgn t1 n1) (Rx.Gp t1 n1) (t2,sgn t2 n2) (Rx.Gp t2 n2) h1
 dsimp only at hr
 refine Rx.rJ (β:=Rx.bt [n1,m1,n2,m2]) (r:=0) i1 j1 i2 j2 fun _ hg=>Rx.Nj (T:=fun _=>True) Rx.jG (fun e he=>?_) hr (fun _ _=>trivial) hg
 simp only [List.mem_cons,List.not_mem_nil,or_false] at he
 rcases he with rfl | rfl | rfl
 ·exact Rx.yK rfl
 ·exact Rx.yK rfl
 ·exact Rx.Tj
def jy (a:Int):Int:=if a<0 then -1 else if a=0 then 0 else 1
def bn (r s:Rat):Int:=if r<s then -1 else if r=s then 0 else 1
theorem IJ (r s:Rat):bn r s=fH (r.num*s.den) (s.num*r.den):=by
 unfold bn fH
 have h1:(r<s)↔(r.num*s.den<s.num*r.den):=Rat.lt_iff r s
 have h2:(r=s)↔(r.num*s.den=s.num*r.den):=Rat.eq_iff_mul_eq_mul
 simp only [h1,h2]
theorem Qw (a b:Int):fH (-a) (-b) = - fH a b:=by
 unfold fH
 rcases Int.lt_trichotomy a b with h | h | h
 ·rw [if_pos h,if_neg (by omega),if_neg (by omega)];rfl
 ·rw [if_neg (by omega),if_pos (by omega),if_neg (by omega),if_pos h];rfl
 ·rw [if_pos (by omega),if_neg (by omega),if_neg (by omega)]
theorem QB (a b:Int) (p q:Nat) (hp:p≠0) (hq:q≠0) (h:jy a≠jy b):fH (a*q) (b*p)=fH (jy a) (jy b):=by
 have hp':(0:Int)<p:=by omega
 have hq':(0:Int)<q:=by omega
 have ha:(a<0→a*q<0)∧(a=0→a*q=0)∧(0<a→0<a*q):=⟨fun h=>Int.mul_neg_of_neg_of_pos h hq',fun h=>by rw [h,Int.zero_mul],fun h=>Int.mul_pos h hq'⟩
 have hb:(b<0→b*p<0)∧(b=0→b*p=0)∧(0<b→0<b*p):=⟨fun h=>Int.mul_neg_of_neg_of_pos h hp',fun h=>by rw [h,Int.zero_mul],fun h=>Int.mul_pos h hp'⟩
 generalize a*q=A at *
 generalize b*p=B at *
 unfold jy fH at *
 rcases Int.lt_trichotomy a 0 with h1 | h1 | h1 <;> rcases Int.lt_trichotomy b 0 with h2 | h2 | h2 <;> split at h <;> grind
theorem NJ (a:Int):sgn (decide (a<0)) a.natAbs=jy a:=by
 unfold sgn jy
 by_cases h:a<0
 ·rw [decide_eq_true h,if_pos rfl,if_pos h]
 ·rw [decide_eq_false h,if_neg (by simp),if_neg h]
  by_cases h0:a=0
  ·rw [if_pos h0,if_pos (by omega)]
  ·rw [if_neg h0,if_neg (by omega)]
theorem Zc {a b:Int} (h:jy a=jy b):(a<0↔b<0):=by
 unfold jy at h
 constructor <;> intro h1 <;> split at h <;> grind
theorem xg (r s:Rat) (v1 v2:Value) (k:Nat) (w:World) (h1:IsQ w v1 r) (h2:IsQ w v2 s) (hk:k≤68719476736) (f1:Fits k r) (f2:Fits k s) :
  Calls Tryz.prog 25 #[v1,v2] w (aX w (.int .i64 (bn r s))):=by
 obtain ⟨t1,x1,p1,l1,q1,y1,r1,s1,u1,rfl,i1,j1,e1⟩:=h1.shape
 obtain ⟨t2,x2,p2,l2,q2,y2,r2,s2,u2,rfl,i2,j2,e2⟩:=h2.shape
 have e1':=e1.out
 have e2':=e2.out
 have g1:sgn t1 r.num.natAbs=jy r.num:=by rw [e1',NJ]
 have g2:sgn t2 s.num.natAbs=jy s.num:=by rw [e2',NJ]
 rw [IJ]
 by_cases hs:jy r.num=jy s.num
 ·have hn:=Zc hs
  have fd1:au (bM r)<B64 ^ k:=by rw [bV];exact f1.2
  have fd2:au (bM s)<B64 ^ k:=by rw [bV];exact f2.2
  by_cases h0:r.num<0
  ·have:=QA t1 t2 x1 y1 x2 y2 p1 r1 p2 r2 l1 q1 s1 u1 l2 q2 s2 u2 _ _ _ _ k w i1 j1 i2 j2 (by rw [g1,g2,hs]) (by rw [e1'];exact decide_eq_true h0) hk f1.1 fd1 f2.1 fd2
   rw [bV,bV,← CO,Int.natCast_mul,Int.natCast_mul,Int.ofNat_natAbs_of_nonpos (by omega),Int.ofNat_natAbs_of_nonpos (by have:=hn.1 h0;omega),Int.neg_mul,Int.neg_mul,Qw,Int.neg_neg] at this
   exact this
  ·have:=Qz t1 t2 x1 y1 x2 y2 p1 r1 p2 r2 l1 q1 s1 u1 l2 q2 s2 u2 _ _ _ _ k w i1 j1 i2 j2 (by rw [g1,g2,hs]) (by rw [e1'];exact decide_eq_false h0) hk f1.1 fd1 f2.1 fd2
   rw [bV,bV,← CO,Int.natCast_mul,Int.natCast_mul,Int.natAbs_of_nonneg (by omega),Int.natAbs_of_nonneg (by have:¬ s.num<0:=fun h=>h0 (hn.2 h);omega)] at this
   exact this
 ·have:=Qx t1 t2 x1 y1 x2 y2 p1 r1 p2 r2 l1 q1 s1 u1 l2 q2 s2 u2 _ _ _ _ w i1 j1 i2 j2 (by rw [g1,g2];exact hs)
  rw [g1,g2,← QB _ _ r.den s.den r.den_nz s.den_nz hs] at this
  exact this
end
end Go.Proofs.YtancpaiaoamjlaaGreatDoor
