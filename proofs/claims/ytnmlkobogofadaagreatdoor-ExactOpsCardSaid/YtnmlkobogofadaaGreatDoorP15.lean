/- What the proof rests on, part 15. -/
import Derived.Test.YtnmlkobogofadaaGreatDoorP14
namespace Go.Proofs.YtnmlkobogofadaaGreatDoor
set_option maxRecDepth 100000
set_option maxHeartbeats 80000000
section
open Go.RowKit Go.Sort
attribute [local go_sem] takes dF dG dD
theorem fF.setCell {W:World} {b:Nat} (h:fF W b) (a:Addr) (v:Value) (ha:a.block≠b):fF (W.setCell a v) b:=by
 obtain ⟨⟨t,h0⟩,⟨x,h1⟩,⟨p,l,c,h2⟩,⟨y,h3⟩,⟨p',l',c',h4⟩,f0,f1,f2,f3,f4⟩:=h
 refine ⟨⟨t,?_⟩,⟨x,?_⟩,⟨p,l,c,?_⟩,⟨y,?_⟩,⟨p',l',c',?_⟩,?_,?_,?_,?_,?_⟩
 all_goals first | (simp only [World.frozen?_setCell];assumption) | (rw [World.cell?_setCell_far _ _ _ _ ha];assumption)
structure kE (w W:World) (t:Bool) (c d e f:Value) (n m:Nat):Prop where
 b1:C5 W w.heap.size (.bool t) c d e f
 fr:W.frozen? ⟨w.heap.size,0,none⟩=false
 rs:fF W (w.heap.size+1)
 i1:ah W c d n
 j1:ah W e f m
 bel:Below w.heap.size w W
 sz:w.heap.size+2≤W.heap.size
theorem kE.next {w W W':World} {t:Bool} {c d e f:Value} {n m:Nat} (h:kE w W t c d e f n m) (hb:Below W.heap.size W W'):kE w W' t c d e f n m where
 b1:=C5.below h.b1 hb (by have:=h.sz;omega)
 fr:=(hb.frozen (p:=⟨w.heap.size,0,none⟩) (by have:=h.sz;simp only;omega)).trans h.fr
 rs:=h.rs.below hb (by have:=h.sz;omega)
 i1:=h.i1.below hb
 j1:=h.j1.below hb
 bel:=h.bel.trans (hb.mono h.bel.size)
 sz:=Nat.le_trans h.sz hb.size
theorem kE.start {w:World} (t:Bool) (c d e f:Value) (n m:Nat) (T1 T2:TypeId) (i1:ah w c d n) (j1:ah w e f m) :
  kE w ((w.alloc (.cells #[.bool t,c,d,e,f] T1)).alloc (.cells #[.bool false,.int .u64 0,.slice none 0 0,.int .u64 0,.slice none 0 0] T2)) t c d e f n m:=by
 have hb:=((Below.refl w.heap.size w).alloc (Nat.le_refl _) (.cells #[.bool t,c,d,e,f] T1)).alloc (by simp) (.cells #[.bool false,.int .u64 0,.slice none 0 0,.int .u64 0,.slice none 0 0] T2)
 refine ⟨⟨?_,?_,?_,?_,?_⟩,?_,⟨⟨false,?_⟩,⟨0,?_⟩,⟨none,0,0,?_⟩,⟨0,?_⟩,⟨none,0,0,?_⟩,?_,?_,?_,?_,?_⟩,i1.below hb,j1.below hb,hb,by simp⟩ <;> go_simp
def eU (w:World) (r:Rat) (c:Int) (e:Ending) (w':World):Prop:=∃ v,e=.returned (.tuple #[v,.int .i64 c])∧IsQ w' v r∧Below w.heap.size w w'
theorem Aw (r:Rat):bK (-r)=bK r:=by unfold bK;rw [Rat.neg_den]
theorem uZ (r:Rat):(-r).num.natAbs=r.num.natAbs:=by rw [Rat.neg_num,Int.natAbs_neg]
theorem UH (x y:Int) (p r:Option Addr) (l q s v n m:Nat) (w:World) (i1:ah w (.int .u64 x) (.slice p l q) n) (j1:ah w (.int .u64 y) (.slice r s v) m):Calls Tryz.prog 34 #[.agg #[.bool true,.int .u64 x,.slice p l q,.int .u64 y,.slice r s v]] w (fun e w'=>e=.returned (.agg #[.bool false,.int .u64 x,.slice p l q,.int .u64 y,.slice r s v])∧ah w' (.int .u64 x) (.slice p l q) n∧ah w' (.int .u64 y) (.slice r s v) m∧Below w.heap.size w w'):=by
 have hb:=((Below.refl w.heap.size w).alloc (Nat.le_refl _) (.cells #[.bool false,.int .u64 x,.slice p l q,.int .u64 y,.slice r s v] 31)).alloc (by simp) (.cells #[.bool false,.int .u64 x,.slice p l q,.int .u64 y,.slice r s v] 31)
 have HB:=hid (And.intro (i1.below hb) (And.intro (j1.below hb) hb))
 clear hb i1 j1
 go_enter Tryz.func34,Tryz.ntmps34
 go_wp2_with fail
 exact bodyPost_ret (v:=.agg #[.bool false,.int .u64 x,.slice p l q,.int .u64 y,.slice r s v]) (by simp [results,Tryz.results34,go_sem]) rfl ⟨rfl,HB.out⟩
theorem Tt (x y:Int) (p r:Option Addr) (l q s v n m:Nat) (w:World) (i1:ah w (.int .u64 x) (.slice p l q) n) (j1:ah w (.int .u64 y) (.slice r s v) m):Calls Tryz.prog 34 #[.agg #[.bool false,.int .u64 x,.slice p l q,.int .u64 y,.slice r s v]] w (fun e w'=>e=.returned (.agg #[.bool !(n == 0),.int .u64 x,.slice p l q,.int .u64 y,.slice r s v])∧ah w' (.int .u64 x) (.slice p l q) n∧ah w' (.int .u64 y) (.slice r s v) m∧Below w.heap.size w w'):=by
 have hz:=hid (fun (W:World) (h:ah W (.int .u64 x) (.slice p l q) n)=>dL _ _ n W h)
 obtain ⟨z,hzz⟩:∃ z,(n == 0)=z:=⟨_,rfl⟩
 rw [hzz] at hz ⊢
 clear hzz
 have h0:=kE.start false (.int .u64 x) (.slice p l q) (.int .u64 y) (.slice r s v) n m 31 31 i1 j1
 have H0:=hid h0
 clear h0
 have I1:=hid i1
 have J1:=hid j1
 clear i1 j1
 go_enter Tryz.func34,Tryz.ntmps34
 go_wp2_with fail
 obtain ⟨W0,hW0⟩:∃ W0,(w.alloc (.cells #[.bool false,.int .u64 x,.slice p l q,.int .u64 y,.slice r s v] 31)).alloc (.cells #[.bool false,.int .u64 0,.slice none 0 0,.int .u64 0,.slice none 0 0] 31)=W0:=⟨_,rfl⟩
 rw [hW0] at H0 ⊢
 clear hW0
 have hI:=H0.out.i1
 obtain ⟨d0,d1,d2,d3,d4⟩:=H0.out.b1
 go_wp2_with fail
 refine (hz.out _ hI).mono ?_
 rintro e W1 ⟨rfl,hB1⟩
 have hQ:=H0.out.next hB1
 clear H0 hB1 hz hI d0 d1 d2 d3 d4
 have hb2:Below w.heap.size w (W1.setCell ⟨w.heap.size,0,none⟩ (.bool !z)):=hQ.bel.setCell (by simp) _
 have rs2:=hQ.rs.setCell ⟨w.heap.size,0,none⟩ (.bool !z) (by simp)
 obtain ⟨g0,ga,gb,gc,gd,⟨c0,c1,c2,c3,c4⟩,f0,f1,f2,f3,f4⟩:=hQ.rs.facts
 obtain ⟨⟨z0,z1,z2,z3,z4⟩,hH⟩:=rs2.done (v0:=.bool !z) hb2 (by omega) (I1.out.below hb2) (J1.out.below hb2)
 obtain ⟨d0,d1,d2,d3,d4⟩:=hQ.b1
 have fr:=hQ.fr
 clear hb2 rs2 hQ I1 J1
 go_wp2_with fail
 exact bodyPost_ret (v:=.agg #[.bool !z,.int .u64 x,.slice p l q,.int .u64 y,.slice r s v]) (by simp [results,Tryz.results34,go_sem,z0,z1,z2,z3,z4]) rfl ⟨rfl,hH.out.1,hH.out.2.1,hH.out.2.2⟩
theorem Un (t:Bool) (x y:Int) (p r:Option Addr) (l q s v n m:Nat) (w:World) (i1:ah w (.int .u64 x) (.slice p l q) n) (j1:ah w (.int .u64 y) (.slice r s v) m):Calls Tryz.prog 36 #[.agg #[.bool t,.int .u64 x,.slice p l q,.int .u64 y,.slice r s v]] w (fun e w'=>e=.returned (.agg #[.bool false,.int .u64 x,.slice p l q,.int .u64 y,.slice r s v])∧ah w' (.int .u64 x) (.slice p l q) n∧ah w' (.int .u64 y) (.slice r s v) m∧Below w.heap.size w w'):=by
 have hb:=((Below.refl w.heap.size w).alloc (Nat.le_refl _) (.cells #[.bool false,.int .u64 x,.slice p l q,.int .u64 y,.slice r s v] 31)).alloc (by simp) (.cells #[.bool false,.int .u64 x,.slice p l q,.int .u64 y,.slice r s v] 31)
 have HB:=hid (And.intro (i1.below hb) (And.intro (j1.below hb) hb))
 clear hb i1 j1
 go_enter Tryz.func36,Tryz.ntmps36
 go_wp2_with fail
 exact bodyPost_ret (v:=.agg #[.bool false,.int .u64 x,.slice p l q,.int .u64 y,.slice r s v]) (by simp [results,Tryz.results36,go_sem]) rfl ⟨rfl,HB.out⟩
theorem FK (r:Rat) (v:Value) (w:World) (h:IsQ w v r):Calls Tryz.prog 34 #[v] w (bM w (-r)):=by
 obtain ⟨t,x,p,l,q,y,p',s,u,rfl,i,j,e⟩:=h.shape
 have e':=e.out
 cases t
 ·refine (Tt x y p p' l q s u _ _ w i j).mono ?_
  rintro e w' ⟨rfl,hi,hj,hb⟩
  refine ⟨_,rfl,⟨_,_,_,_,?_,by rw [uZ];exact hi,by rw [Aw];exact hj⟩,hb⟩
  have:¬ r.num<0:=by simpa using e'
  congr 4
  rw [Rat.neg_num]
  by_cases h0:r.num.natAbs=0
  ·simp only [h0,beq_self_eq_true,Bool.not_true]
   exact (decide_eq_false (by omega)).symm
  ·have:(r.num.natAbs == 0)=false:=by rw [beq_eq_false_iff_ne];exact h0
   rw [this]
   exact (decide_eq_true (by omega)).symm
 ·refine (UH x y p p' l q s u _ _ w i j).mono ?_
  rintro e w' ⟨rfl,hi,hj,hb⟩
  refine ⟨_,rfl,⟨_,_,_,_,?_,by rw [uZ];exact hi,by rw [Aw];exact hj⟩,hb⟩
  have:r.num<0:=of_decide_eq_true e'.symm
  congr 4
  rw [Rat.neg_num]
  exact (decide_eq_false (by omega)).symm
theorem xC (r:Rat) (v:Value) (w:World) (h:IsQ w v r):Calls Tryz.prog 36 #[v] w (bM w (if r.num<0 then -r else r)):=by
 obtain ⟨t,x,p,l,q,y,p',s,u,rfl,i,j,-⟩:=h.shape
 refine (Un t x y p p' l q s u _ _ w i j).mono ?_
 rintro e w' ⟨rfl,hi,hj,hb⟩
 by_cases h0:r.num<0
 ·have h1:=h0
  rw [if_pos h1]
  refine ⟨_,rfl,⟨_,_,_,_,?_,by rw [uZ];exact hi,by rw [Aw];exact hj⟩,hb⟩
  congr 4
  rw [Rat.neg_num]
  exact (decide_eq_false (by omega)).symm
 ·rw [if_neg h0]
  refine ⟨_,rfl,⟨_,_,_,_,?_,hi,hj⟩,hb⟩
  congr 4
  exact (decide_eq_false h0).symm
theorem Fits.neg {k:Nat} {r:Rat} (h:Fits k r):Fits k (-r):=by
 unfold Fits at *
 rw [uZ,Rat.neg_den]
 exact h
theorem rV (r s:Rat) (v1 v2:Value) (k:Nat) (w:World) (h1:IsQ w v1 r) (h2:IsQ w v2 s) (hk:k≤17179869184) (f1:Fits k r) (f2:Fits k s) (hT:Tab w) :
  Calls Tryz.prog 30 #[v1,v2] w (bM w (r - s)):=by
 obtain ⟨R,hR⟩:∃ R,r - s=R:=⟨_,rfl⟩
 have HF0:=fun (W:World) (v:Value) (h:IsQ W v s)=>FK s v W h
 have HG0:=fun (W:World) (u v:Value) (h:IsQ W u r) (h':IsQ W v (-s)) (hT:Tab W)=>qI r (-s) u v k W h h' hk f1 f2.neg hT
 rw [← Rat.sub_eq_add_neg,hR] at HG0
 rw [hR]
 have HQ0:=And.intro h1 h2
 obtain ⟨t1,x1,p1,l1,q1,y1,r1,s1,v1,rfl,i1,j1,-⟩:=h1.shape
 obtain ⟨t2,x2,p2,l2,q2,y2,r2,s2,v2,rfl,i2,j2,-⟩:=h2.shape
 have HQ:=hid HQ0
 have HF:=hid (fun (W:World) (h:IsQ W (.agg #[.bool t2,.int .u64 x2,.slice p2 l2 q2,.int .u64 y2,.slice r2 s2 v2]) s)=>HF0 W _ h)
 have HG:=hid (fun (W:World) (v:Value) (h:IsQ W (.agg #[.bool t1,.int .u64 x1,.slice p1 l1 q1,.int .u64 y1,.slice r1 s1 v1]) r) (h':IsQ W v (-s)) (hT:Tab W)=>HG0 W _ v h h' hT)
 obtain ⟨n1,hn1⟩:∃ n,r.num.natAbs=n:=⟨_,rfl⟩
 obtain ⟨m1,hm1⟩:∃ n,bK r=n:=⟨_,rfl⟩
 obtain ⟨n2,hn2⟩:∃ n,s.num.natAbs=n:=⟨_,rfl⟩
 obtain ⟨m2,hm2⟩:∃ n,bK s=n:=⟨_,rfl⟩
 rw [hn1] at i1
 rw [hm1] at j1
 rw [hn2] at i2
 rw [hm2] at j2
 clear HF0 HG0 HQ0 h1 h2 f1 f2 hR hn1 hm1 hn2 hm2
 have h0:=bn.start t1 t2 (.int .u64 x1) (.slice p1 l1 q1) (.int .u64 y1) (.slice r1 s1 v1) (.int .u64 x2) (.slice p2 l2 q2) (.int .u64 y2) (.slice r2 s2 v2) n1 m1 n2 m2 31 31 31 i1 j1 i2 j2 hT
 have H0:=hid h0
 clear h0 i1 j1 i2 j2 hT
 go_enter Tryz.func30,Tryz.ntmps30
 go_wp2_with fail
 obtain ⟨W0,hW0⟩:∃ W0,((w.alloc (.cells #[.bool t1,.int .u64 x1,.slice p1 l1 q1,.int .u64 y1,.slice r1 s1 v1] 31)).alloc (.cells #[.bool t2,.int .u64 x2,.slice p2 l2 q2,.int .u64 y2,.slice r2 s2 v2] 31)).alloc (.cells #[.bool false,.int .u64 0,.slice none 0 0,.int .u64 0,.slice none 0 0] 31)=W0:=⟨_,rfl⟩
 rw [hW0] at H0 ⊢
 clear hW0
 have H0':bn w W0 t1 (.int .u64 x1) (.slice p1 l1 q1) (.int .u64 y1) (.slice r1 s1 v1) t2 (.int .u64 x2) (.slice p2 l2 q2) (.int .u64 y2) (.slice r2 s2 v2) n1 m1 n2 m2:=H0.out
 have hsz:=H0'.sz
 refine bC 4 [⟨[],[0]⟩,⟨[],[1]⟩,⟨[1],[2]⟩,⟨[0,2],[3]⟩]
  [one fun v _=>v=.agg #[.bool t1,.int .u64 x1,.slice p1 l1 q1,.int .u64 y1,.slice r1 s1 v1],one fun v _=>v=.agg #[.bool t2,.int .u64 x2,.slice p2 l2 q2,.int .u64 y2,.slice r2 s2 v2],one fun v W=>IsQ W v (-s),one fun v W=>IsQ W v R]
  (fun _ W=>Below W0.heap.size W0 W) (by kernel_rfl) (by kernel_rfl) ?hT ?hZ ?hO ?hE
 case hZ=>exact (Below.refl _ _).drew
 case hT =>
  simp only [List.forall_mem_cons,List.not_mem_nil,false_imp_iff,implies_true,and_true]
  exact ⟨aj aA,aj aA,aj fQ,aj fQ⟩
 case hO =>
  intro u
  simp only [List.take_succ_cons,List.take_zero,aC]
  repeat' (first | with_reducible exact aV | with_reducible refine aX ?_ ?_)
  ·intro W hS hF K hK
   have c0:=cB hS H0'.b1.1 (by omega)
   have c1:=cB hS H0'.b1.2.1 (by omega)
   have c2:=cB hS H0'.b1.2.2.1 (by omega)
   have c3:=cB hS H0'.b1.2.2.2.1 (by omega)
   have c4:=cB hS H0'.b1.2.2.2.2 (by omega)
   clear hF
   go_simp
   exact hK _ _ (.refl _ _) hS rfl
  ·intro W hS hF K hK
   have d0:=cB hS H0'.b2.1 (by omega)
   have d1:=cB hS H0'.b2.2.1 (by omega)
   have d2:=cB hS H0'.b2.2.2.1 (by omega)
   have d3:=cB hS H0'.b2.2.2.2.1 (by omega)
   have d4:=cB hS H0'.b2.2.2.2.2 (by omega)
   clear hF
   go_simp
   exact hK _ _ (.refl _ _) hS rfl
  ·intro W hS hF K hK
   have h1:u 1=.agg #[.bool t2,.int .u64 x2,.slice p2 l2 q2,.int .u64 y2,.slice r2 s2 v2]:=hF.1
   clear hF
   go_simp
   refine (HF.out _ (HQ.out.2.below (H0'.next hS).bel)).mono ?_
   rintro e wC ⟨v,rfl,hv,hBC⟩
   exact ⟨_,rfl,hK _ _ hBC (hS.trans (hBC.mono hS.size)) hv⟩
  ·intro W hS hF K hK
   have h0:u 0=.agg #[.bool t1,.int .u64 x1,.slice p1 l1 q1,.int .u64 y1,.slice r1 s1 v1]:=hF.1
   have hq2:IsQ W (u 2) (-s):=hF.2.1
   clear hF
   go_simp
   refine (HG.out _ _ (HQ.out.1.below (H0'.next hS).bel) hq2 ((H0'.next hS).tab)).mono ?_
   rintro e wC ⟨v,rfl,hv,hBC⟩
   exact ⟨_,rfl,hK _ _ hBC (hS.trans (hBC.mono hS.size)) hv⟩
 case hE =>
  intro u W hS hF
  have hv:IsQ W (u 3) R:=hF.2.2.2.1
  clear hF
  obtain ⟨t0,vx,vp,vl,vq,tx,tp,tl,tq,h13,hv1,hv2,ht⟩:=hv.shape
  have h4:=H0'.next hS
  obtain ⟨r0,ra,rb,rc,rd,⟨c0,c1,c2,c3,c4⟩,f0,f1,f2,f3,f4⟩:=h4.rs.facts
  obtain ⟨⟨z0,z1,z2,z3,z4⟩,hH⟩:=h4.rs.doneQ h4.bel (by omega) hv1 hv2 ht
  clear h4 hv hv1 hv2 ht hS H0' H0 HQ HF HG
  simp only [List.take_succ_cons,List.take_zero,aC,List.drop_succ_cons,List.drop_zero]
  go_wp2_with fail
  exact bodyPost_ret (v:=.agg #[.bool t0,.int .u64 vx,.slice vp vl vq,.int .u64 tx,.slice tp tl tq]) (by simp [results,Tryz.results30,go_sem,z0,z1,z2,z3,z4]) rfl ⟨_,rfl,hH.out.1,hH.out.2⟩
theorem UG (r:Rat) (h:r≠0):mkRat (zs (decide (r.num<0)) r.den) r.num.natAbs=r⁻¹:=by
 have h0:r.num≠0:=fun e=>h (Rat.num_eq_zero.1 e)
 have e1:∀ (a:Int) (b:Nat),mkRat a b=Rat.divInt a (b:Int):=fun a b=>by first | rfl | (symm;exact Rat.divInt_ofNat a b) | simp
 unfold zs
 rw [Rat.inv_def,e1,Rat.divInt_eq_divInt_iff (by omega) h0]
 by_cases h1:r.num<0
 ·rw [decide_eq_true h1,if_pos rfl,Int.ofNat_natAbs_of_nonpos (by omega),Int.neg_mul,Int.mul_neg]
 ·rw [decide_eq_false h1,if_neg (by simp),Int.natAbs_of_nonneg (by omega)]
theorem UJ (t:Bool) (x y:Int) (p r:Option Addr) (l q s v n m:Nat) (w:World) (i1:ah w (.int .u64 x) (.slice p l q) n) (j1:ah w (.int .u64 y) (.slice r s v) m) (R:Rat) (hc:Nat.Coprime (ak m) n) (hn:n≠0) (hR:mkRat (zs t (ak m)) n=R) :
  Calls Tryz.prog 159 #[.agg #[.bool t,.int .u64 x,.slice p l q,.int .u64 y,.slice r s v]] w (bM w R):=by
 have HLow:=hid (fun (W:World) (c d:Value) (h1:ah W c d (ak m)) (h2:ah W (.int .u64 x) (.slice p l q) n)=>vM t c d _ _ _ _ W h1 h2 hc hn)
 rw [hR] at HLow
 clear hc hn hR
 have h0:=kE.start t (.int .u64 x) (.slice p l q) (.int .u64 y) (.slice r s v) n m 31 31 i1 j1
 have H0:=hid h0
 clear h0
 have I1:=hid i1
 have J1:=hid j1
 clear i1 j1
 go_enter Tryz.func159,Tryz.ntmps159
 go_wp2_with fail
 obtain ⟨W0,hW0⟩:∃ W0,(w.alloc (.cells #[.bool t,.int .u64 x,.slice p l q,.int .u64 y,.slice r s v] 31)).alloc (.cells #[.bool false,.int .u64 0,.slice none 0 0,.int .u64 0,.slice none 0 0] 31)=W0:=⟨_,rfl⟩
 rw [hW0] at H0 ⊢
 clear hW0
 have H0':kE w W0 t (.int .u64 x) (.slice p l q) (.int .u64 y) (.slice r s v) n m:=H0.out
 have hsz:=H0'.sz
 refine bC 10 [⟨[],[0]⟩,⟨[0],[1]⟩,⟨[1],[2]⟩,⟨[],[3]⟩,⟨[3],[4]⟩,⟨[2,4],[5]⟩,⟨[],[6]⟩,⟨[6],[7]⟩,⟨[7],[8]⟩,⟨[5,8],[9]⟩]
  [one fun zz _=>zz=.pointer (some ⟨w.heap.size,0,none⟩),one fun zz _=>zz=.pointer (some ⟨w.heap.size,0,none⟩),one fun zz _=>zz=.bool t,one fun zz _=>zz=.agg #[.bool t,.int .u64 x,.slice p l q,.int .u64 y,.slice r s v],one (aB (ak m)),one (dO t (ak m)),one fun zz _=>zz=.pointer (some ⟨w.heap.size,0,none⟩),one fun zz _=>zz=.pointer (some ⟨w.heap.size,1,none⟩),one fun zz _=>zz=.agg #[.int .u64 x,.slice p l q],one fun v W=>IsQ W v R]
  (fun _ W=>Below W0.heap.size W0 W) (by kernel_rfl) (by kernel_rfl) ?hT ?hZ ?hO ?hE
 case hZ=>exact (Below.refl _ _).drew
 case hT =>
  simp only [List.forall_mem_cons,List.not_mem_nil,false_imp_iff,implies_true,and_true]
  exact ⟨aj aA,aj aA,aj aA,aj aA,aj aN,aj jX,aj aA,aj aA,aj aA,aj fQ⟩
 case hO =>
  intro u
  simp only [List.take_succ_cons,List.take_zero,aC]
  repeat' (first | with_reducible exact aV | with_reducible refine aX ?_ ?_)
  ·intro W hS hF K hK
   clear hF
   go_simp
   exact hK _ _ (.refl _ _) hS rfl
  ·intro W hS hF K hK
   have h0:u 0=.pointer (some ⟨w.heap.size,0,none⟩):=hF.1
   clear hF
   go_simp
   exact hK _ _ (.refl _ _) hS rfl
  ·intro W hS hF K hK
   have h1:u 1=.pointer (some ⟨w.heap.size,0,none⟩):=hF.1
   have c0:=cB hS H0'.b1.1 (by omega)
   clear hF
   go_simp
   exact hK _ _ (.refl _ _) hS rfl
  ·intro W hS hF K hK
   have c0:=cB hS H0'.b1.1 (by omega)
   have c1:=cB hS H0'.b1.2.1 (by omega)
   have c2:=cB hS H0'.b1.2.2.1 (by omega)
   have c3:=cB hS H0'.b1.2.2.2.1 (by omega)
   have c4:=cB hS H0'.b1.2.2.2.2 (by omega)
   clear hF
   go_simp
   exact hK _ _ (.refl _ _) hS rfl
  ·intro W hS hF K hK
   have h3:u 3=.agg #[.bool t,.int .u64 x,.slice p l q,.int .u64 y,.slice r s v]:=hF.1
   clear hF
   go_simp
   refine (gY _ _ _ _ _ m _ (H0'.j1.below hS)).mono ?_
   rintro e wA ⟨c,d,rfl,hm,hBA⟩
   obtain ⟨xx,pp,ll,qq,rfl,rfl⟩:=hm.shape
   exact ⟨_,rfl,hK _ _ hBA (hS.trans (hBA.mono hS.size)) ⟨_,_,_,_,rfl,hm⟩⟩
  ·intro W hS hF K hK
   have h2:u 2=.bool t:=hF.1
   obtain ⟨x4,p4,l4,q4,h4,m4⟩:aB (ak m) (u 4) W:=hF.2.1
   clear hF
   go_simp
   exact hK _ _ (.refl _ _) hS ⟨_,_,_,_,rfl,m4⟩
  ·intro W hS hF K hK
   clear hF
   go_simp
   exact hK _ _ (.refl _ _) hS rfl
  ·intro W hS hF K hK
   have h6:u 6=.pointer (some ⟨w.heap.size,0,none⟩):=hF.1
   clear hF
   go_simp
   exact hK _ _ (.refl _ _) hS rfl
  ·intro W hS hF K hK
   have h7:u 7=.pointer (some ⟨w.heap.size,1,none⟩):=hF.1
   have c1:=cB hS H0'.b1.2.1 (by omega)
   have c2:=cB hS H0'.b1.2.2.1 (by omega)
   clear hF
   go_simp
   exact hK _ _ (.refl _ _) hS rfl
  ·intro W hS hF K hK
   obtain ⟨x5,p5,l5,q5,h5,m5⟩:dO t (ak m) (u 5) W:=hF.1
   have h8:u 8=.agg #[.int .u64 x,.slice p l q]:=hF.2.1
   clear hF
   go_simp
   refine (HLow.out _ _ _ m5 (H0'.i1.below hS)).mono ?_
   rintro e wC ⟨v,rfl,hv,hBC⟩
   exact ⟨_,rfl,hK _ _ hBC (hS.trans (hBC.mono hS.size)) hv⟩
 case hE =>
  intro u W hS hF
  have hv:IsQ W (u 9) R:=hF.2.2.2.2.2.2.2.2.2.1
  clear hF
  obtain ⟨t0,vx,vp,vl,vq,tx,tp,tl,tq,h13,hv1,hv2,ht⟩:=hv.shape
  have h4:=H0'.next hS
  obtain ⟨r0,ra,rb,rc,rd,⟨c0,c1,c2,c3,c4⟩,f0,f1,f2,f3,f4⟩:=h4.rs.facts
  obtain ⟨⟨z0,z1,z2,z3,z4⟩,hH⟩:=h4.rs.doneQ h4.bel (by omega) hv1 hv2 ht
  clear h4 hv hv1 hv2 ht hS H0' H0 HLow I1 J1
  simp only [List.take_succ_cons,List.take_zero,aC,List.drop_succ_cons,List.drop_zero]
  go_wp2_with fail
  exact bodyPost_ret (v:=.agg #[.bool t0,.int .u64 vx,.slice vp vl vq,.int .u64 tx,.slice tp tl tq]) (by simp [results,Tryz.results159,go_sem,z0,z1,z2,z3,z4]) rfl ⟨_,rfl,hH.out.1,hH.out.2⟩
theorem Dp (r:Rat) (v:Value) (w:World) (h:IsQ w v r) (h0:r≠0):Calls Tryz.prog 159 #[v] w (bM w r⁻¹):=by
 obtain ⟨t,x,p,l,q,y,p',s,u,rfl,i,j,e⟩:=h.shape
 have e':=e.out
 exact UJ t x y p p' l q s u _ _ w i j _ (by rw [bZ];exact r.reduced.symm) (fun e=>h0 (Rat.num_eq_zero.1 (by omega))) (by rw [bZ,e'];exact UG r h0)
theorem Ie (r:Rat) (h:r≠0):r⁻¹.num.natAbs=r.den∧r⁻¹.den=r.num.natAbs:=by
 have h0:r.num≠0:=fun e=>h (Rat.num_eq_zero.1 e)
 rcases Int.lt_or_gt_of_ne h0 with h1 | h1
 ·have e:r⁻¹=⟨-(r.den:Int),r.num.natAbs,by omega,by rw [Int.natAbs_neg];exact r.reduced.symm⟩:=by
   show Rat.inv r=_
   rw [Rat.inv]
   simp [h1]
  rw [e]
  exact ⟨by simp,rfl⟩
 ·have e:r⁻¹=⟨(r.den:Int),r.num.natAbs,by omega,by exact r.reduced.symm⟩:=by
   show Rat.inv r=_
   rw [Rat.inv]
   have:¬ r.num<0:=by omega
   simp [this,h1]
  rw [e]
  exact ⟨by simp,rfl⟩
theorem Fits.inv {k:Nat} {r:Rat} (h:Fits k r) (h0:r≠0):Fits k r⁻¹:=by
 unfold Fits at *
 rw [(Ie r h0).1,(Ie r h0).2]
 exact ⟨h.2,h.1⟩
theorem pG (r s:Rat) (v1 v2:Value) (k:Nat) (w:World) (h1:IsQ w v1 r) (h2:IsQ w v2 s) (hk:k≤17179869184) (s0:s≠0) (f1:Fits k r) (f2:Fits k s) (hT:Tab w) :
  Calls Tryz.prog 123 #[v1,v2] w (bM w (r / s)):=by
 obtain ⟨R,hR⟩:∃ R,r / s=R:=⟨_,rfl⟩
 have HF0:=fun (W:World) (v:Value) (h:IsQ W v s)=>Dp s v W h s0
 have HG0:=fun (W:World) (u v:Value) (h:IsQ W u r) (h':IsQ W v (s⁻¹)) (hT:Tab W)=>jH r s⁻¹ u v k W h h' (by omega) f1 (f2.inv s0) hT
 rw [← Rat.div_def,hR] at HG0
 rw [hR]
 have HQ0:=And.intro h1 h2
 obtain ⟨t1,x1,p1,l1,q1,y1,r1,s1,v1,rfl,i1,j1,-⟩:=h1.shape
 obtain ⟨t2,x2,p2,l2,q2,y2,r2,s2,v2,rfl,i2,j2,-⟩:=h2.shape
 have HQ:=hid HQ0
 have HF:=hid (fun (W:World) (h:IsQ W (.agg #[.bool t2,.int .u64 x2,.slice p2 l2 q2,.int .u64 y2,.slice r2 s2 v2]) s)=>HF0 W _ h)
 have HG:=hid (fun (W:World) (v:Value) (h:IsQ W (.agg #[.bool t1,.int .u64 x1,.slice p1 l1 q1,.int .u64 y1,.slice r1 s1 v1]) r) (h':IsQ W v (s⁻¹)) (hT:Tab W)=>HG0 W _ v h h' hT)
 obtain ⟨n1,hn1⟩:∃ n,r.num.natAbs=n:=⟨_,rfl⟩
 obtain ⟨m1,hm1⟩:∃ n,bK r=n:=⟨_,rfl⟩
 obtain ⟨n2,hn2⟩:∃ n,s.num.natAbs=n:=⟨_,rfl⟩
 obtain ⟨m2,hm2⟩:∃ n,bK s=n:=⟨_,rfl⟩
 rw [hn1] at i1
 rw [hm1] at j1
 rw [hn2] at i2
 rw [hm2] at j2
 clear HF0 HG0 HQ0 h1 h2 f1 f2 hR s0 hn1 hm1 hn2 hm2
 have h0:=bn.start t1 t2 (.int .u64 x1) (.slice p1 l1 q1) (.int .u64 y1) (.slice r1 s1 v1) (.int .u64 x2) (.slice p2 l2 q2) (.int .u64 y2) (.slice r2 s2 v2) n1 m1 n2 m2 31 31 31 i1 j1 i2 j2 hT
 have H0:=hid h0
 clear h0 i1 j1 i2 j2 hT
 go_enter Tryz.func123,Tryz.ntmps123
 go_wp2_with fail
 obtain ⟨W0,hW0⟩:∃ W0,((w.alloc (.cells #[.bool t1,.int .u64 x1,.slice p1 l1 q1,.int .u64 y1,.slice r1 s1 v1] 31)).alloc (.cells #[.bool t2,.int .u64 x2,.slice p2 l2 q2,.int .u64 y2,.slice r2 s2 v2] 31)).alloc (.cells #[.bool false,.int .u64 0,.slice none 0 0,.int .u64 0,.slice none 0 0] 31)=W0:=⟨_,rfl⟩
 rw [hW0] at H0 ⊢
 clear hW0
 have H0':bn w W0 t1 (.int .u64 x1) (.slice p1 l1 q1) (.int .u64 y1) (.slice r1 s1 v1) t2 (.int .u64 x2) (.slice p2 l2 q2) (.int .u64 y2) (.slice r2 s2 v2) n1 m1 n2 m2:=H0.out
 have hsz:=H0'.sz
 refine bC 4 [⟨[],[0]⟩,⟨[],[1]⟩,⟨[1],[2]⟩,⟨[0,2],[3]⟩]
  [one fun v _=>v=.agg #[.bool t1,.int .u64 x1,.slice p1 l1 q1,.int .u64 y1,.slice r1 s1 v1],one fun v _=>v=.agg #[.bool t2,.int .u64 x2,.slice p2 l2 q2,.int .u64 y2,.slice r2 s2 v2],one fun v W=>IsQ W v (s⁻¹),one fun v W=>IsQ W v R]
  (fun _ W=>Below W0.heap.size W0 W) (by kernel_rfl) (by kernel_rfl) ?hT ?hZ ?hO ?hE
 case hZ=>exact (Below.refl _ _).drew
 case hT =>
  simp only [List.forall_mem_cons,List.not_mem_nil,false_imp_iff,implies_true,and_true]
  exact ⟨aj aA,aj aA,aj fQ,aj fQ⟩
 case hO =>
  intro u
  simp only [List.take_succ_cons,List.take_zero,aC]
  repeat' (first | with_reducible exact aV | with_reducible refine aX ?_ ?_)
  ·intro W hS hF K hK
   have c0:=cB hS H0'.b1.1 (by omega)
   have c1:=cB hS H0'.b1.2.1 (by omega)
   have c2:=cB hS H0'.b1.2.2.1 (by omega)
   have c3:=cB hS H0'.b1.2.2.2.1 (by omega)
   have c4:=cB hS H0'.b1.2.2.2.2 (by omega)
   clear hF
   go_simp
   exact hK _ _ (.refl _ _) hS rfl
  ·intro W hS hF K hK
   have d0:=cB hS H0'.b2.1 (by omega)
   have d1:=cB hS H0'.b2.2.1 (by omega)
   have d2:=cB hS H0'.b2.2.2.1 (by omega)
   have d3:=cB hS H0'.b2.2.2.2.1 (by omega)
   have d4:=cB hS H0'.b2.2.2.2.2 (by omega)
   clear hF
   go_simp
   exact hK _ _ (.refl _ _) hS rfl
  ·intro W hS hF K hK
   have h1:u 1=.agg #[.bool t2,.int .u64 x2,.slice p2 l2 q2,.int .u64 y2,.slice r2 s2 v2]:=hF.1
   clear hF
   go_simp
   refine (HF.out _ (HQ.out.2.below (H0'.next hS).bel)).mono ?_
   rintro e wC ⟨v,rfl,hv,hBC⟩
   exact ⟨_,rfl,hK _ _ hBC (hS.trans (hBC.mono hS.size)) hv⟩
  ·intro W hS hF K hK
   have h0:u 0=.agg #[.bool t1,.int .u64 x1,.slice p1 l1 q1,.int .u64 y1,.slice r1 s1 v1]:=hF.1
   have hq2:IsQ W (u 2) (s⁻¹):=hF.2.1
   clear hF
   go_simp
   refine (HG.out _ _ (HQ.out.1.below (H0'.next hS).bel) hq2 ((H0'.next hS).tab)).mono ?_
   rintro e wC ⟨v,rfl,hv,hBC⟩
   exact ⟨_,rfl,hK _ _ hBC (hS.trans (hBC.mono hS.size)) hv⟩
 case hE =>
  intro u W hS hF
  have hv:IsQ W (u 3) R:=hF.2.2.2.1
  clear hF
  obtain ⟨t0,vx,vp,vl,vq,tx,tp,tl,tq,h13,hv1,hv2,ht⟩:=hv.shape
  have h4:=H0'.next hS
  obtain ⟨r0,ra,rb,rc,rd,⟨c0,c1,c2,c3,c4⟩,f0,f1,f2,f3,f4⟩:=h4.rs.facts
  obtain ⟨⟨z0,z1,z2,z3,z4⟩,hH⟩:=h4.rs.doneQ h4.bel (by omega) hv1 hv2 ht
  clear h4 hv hv1 hv2 ht hS H0' H0 HQ HF HG
  simp only [List.take_succ_cons,List.take_zero,aC,List.drop_succ_cons,List.drop_zero]
  go_wp2_with fail
  exact bodyPost_ret (v:=.agg #[.bool t0,.int .u64 vx,.slice vp vl vq,.int .u64 tx,.slice tp tl tq]) (by simp [results,Tryz.results123,go_sem,z0,z1,z2,z3,z4]) rfl ⟨_,rfl,hH.out.1,hH.out.2⟩
theorem div_zero (t1 t2:Bool) (x1 y1 x2 y2:Int) (p1 r1 p2 r2:Option Addr) (l1 q1 s1 v1 l2 q2 s2 v2 n1 m1 n2 m2:Nat) (w:World)
  (i1:ah w (.int .u64 x1) (.slice p1 l1 q1) n1) (j1:ah w (.int .u64 y1) (.slice r1 s1 v1) m1) (i2:ah w (.int .u64 x2) (.slice p2 l2 q2) n2) (j2:ah w (.int .u64 y2) (.slice r2 s2 v2) m2) (hT:Tab w) (h1:sgn t2 n2=0) :
  Calls Tryz.prog 23 #[.agg #[.bool t1,.int .u64 x1,.slice p1 l1 q1,.int .u64 y1,.slice r1 s1 v1],.agg #[.bool t2,.int .u64 x2,.slice p2 l2 q2,.int .u64 y2,.slice r2 s2 v2]] w (eU w 0 9):=by
 have hs2:=hid (fun (W:World) (h:ah W (.int .u64 x2) (.slice p2 l2 q2) n2)=>iq t2 _ _ (.int .u64 y2) (.slice r2 s2 v2) n2 W h)
 rw [h1] at hs2
 clear h1
 have h0:=bn.start t1 t2 (.int .u64 x1) (.slice p1 l1 q1) (.int .u64 y1) (.slice r1 s1 v1) (.int .u64 x2) (.slice p2 l2 q2) (.int .u64 y2) (.slice r2 s2 v2) n1 m1 n2 m2 31 31 31 i1 j1 i2 j2 hT
 have H0:=hid h0
 clear h0 i1 j1 i2 j2 hT
 go_enter Tryz.func23,Tryz.ntmps23
 go_wp2_with fail
 obtain ⟨W0,hW0⟩:∃ W0,((w.alloc (.cells #[.bool t1,.int .u64 x1,.slice p1 l1 q1,.int .u64 y1,.slice r1 s1 v1] 31)).alloc (.cells #[.bool t2,.int .u64 x2,.slice p2 l2 q2,.int .u64 y2,.slice r2 s2 v2] 31)).alloc (.cells #[.bool false,.int .u64 0,.slice none 0 0,.int .u64 0,.slice none 0 0] 31)=W0:=⟨_,rfl⟩
 rw [hW0] at H0 ⊢
 clear hW0
 obtain ⟨d0,d1,d2,d3,d4⟩:=H0.out.b2
 go_wp2_with fail
 refine (hs2.out _ H0.out.i2).mono ?_
 rintro e w1 ⟨rfl,hB1⟩
 have h1:=H0.out.next hB1
 obtain ⟨g0,ga,gb,gc,gd,⟨c0,c1,c2,c3,c4⟩,f0,f1,f2,f3,f4⟩:=h1.rs.facts
 obtain ⟨⟨z0,z1,z2,z3,z4⟩,hH⟩:=h1.rs.done (v0:=.bool false) h1.bel (by omega) (gZ w1) (gZ w1)
 clear h1 hB1 H0 hs2 d0 d1 d2 d3 d4
 go_wp2_with fail
 exact bodyPost_ret (v:=.tuple #[.agg #[.bool false,.int .u64 0,.slice none 0 0,.int .u64 0,.slice none 0 0],.int .i64 9]) (by simp [results,Tryz.results23,go_sem,z0,z1,z2,z3,z4]) rfl ⟨_,rfl,nX _,hH.out.2.2⟩
theorem Oz (t1 t2:Bool) (x1 y1 x2 y2:Int) (p1 r1 p2 r2:Option Addr) (l1 q1 s1 v1 l2 q2 s2 v2 n1 m1 n2 m2:Nat) (w:World)
  (i1:ah w (.int .u64 x1) (.slice p1 l1 q1) n1) (j1:ah w (.int .u64 y1) (.slice r1 s1 v1) m1) (i2:ah w (.int .u64 x2) (.slice p2 l2 q2) n2) (j2:ah w (.int .u64 y2) (.slice r2 s2 v2) m2) (hT:Tab w) (h1:sgn t2 n2≠0) (R:Rat) (HO0:∀ W,Below w.heap.size w W→Calls Tryz.prog 123 #[.agg #[.bool t1,.int .u64 x1,.slice p1 l1 q1,.int .u64 y1,.slice r1 s1 v1],.agg #[.bool t2,.int .u64 x2,.slice p2 l2 q2,.int .u64 y2,.slice r2 s2 v2]] W (bM W R)) :
  Calls Tryz.prog 23 #[.agg #[.bool t1,.int .u64 x1,.slice p1 l1 q1,.int .u64 y1,.slice r1 s1 v1],.agg #[.bool t2,.int .u64 x2,.slice p2 l2 q2,.int .u64 y2,.slice r2 s2 v2]] w (eU w R 0):=by
 have hs2:=hid (fun (W:World) (h:ah W (.int .u64 x2) (.slice p2 l2 q2) n2)=>iq t2 _ _ (.int .u64 y2) (.slice r2 s2 v2) n2 W h)
 obtain ⟨sb,hsb⟩:∃ s,sgn t2 n2=s:=⟨_,rfl⟩
 rw [hsb] at hs2 h1
 have tb:(sb == 0)=false:=by rw [beq_eq_false_iff_ne];exact h1
 have HO:=hid HO0
 clear h1 hsb HO0
 have h0:=bn.start t1 t2 (.int .u64 x1) (.slice p1 l1 q1) (.int .u64 y1) (.slice r1 s1 v1) (.int .u64 x2) (.slice p2 l2 q2) (.int .u64 y2) (.slice r2 s2 v2) n1 m1 n2 m2 31 31 31 i1 j1 i2 j2 hT
 have H0:=hid h0
 clear h0 i1 j1 i2 j2 hT
 go_enter Tryz.func23,Tryz.ntmps23
 go_wp2_with fail
 obtain ⟨W0,hW0⟩:∃ W0,((w.alloc (.cells #[.bool t1,.int .u64 x1,.slice p1 l1 q1,.int .u64 y1,.slice r1 s1 v1] 31)).alloc (.cells #[.bool t2,.int .u64 x2,.slice p2 l2 q2,.int .u64 y2,.slice r2 s2 v2] 31)).alloc (.cells #[.bool false,.int .u64 0,.slice none 0 0,.int .u64 0,.slice none 0 0] 31)=W0:=⟨_,rfl⟩
 rw [hW0] at H0 ⊢
 clear hW0
 obtain ⟨d0,d1,d2,d3,d4⟩:=H0.out.b2
 go_wp2_with fail
 refine (hs2.out _ H0.out.i2).mono ?_
 rintro e w1 ⟨rfl,hB1⟩
 have H1:=hid (H0.out.next hB1)
 clear hB1 H0 hs2 d0 d1 d2 d3 d4
 obtain ⟨d0,d1,d2,d3,d4⟩:=H1.out.b2
 obtain ⟨b0,b1,b2,b3,b4⟩:=H1.out.b1
 go_wp2_with fail
 refine (HO.out _ H1.out.bel).mono ?_
 rintro e w2 ⟨v,rfl,hv,hB2⟩
 obtain ⟨t0,vx,vp,vl,vq,tx,tp,tl,tq,rfl,hv1,hv2,ht⟩:=hv.shape
 have h4:=H1.out.next hB2
 obtain ⟨g0,ga,gb,gc,gd,⟨c0,c1,c2,c3,c4⟩,f0,f1,f2,f3,f4⟩:=h4.rs.facts
 obtain ⟨⟨z0,z1,z2,z3,z4⟩,hH⟩:=h4.rs.doneQ h4.bel (by omega) hv1 hv2 ht
 clear h4 hv hv1 hv2 ht H1 HO d0 d1 d2 d3 d4 b0 b1 b2 b3 b4 hB2
 go_wp2_with fail
 exact bodyPost_ret (v:=.tuple #[.agg #[.bool t0,.int .u64 vx,.slice vp vl vq,.int .u64 tx,.slice tp tl tq],.int .i64 0]) (by simp [results,Tryz.results23,go_sem,z0,z1,z2,z3,z4]) rfl ⟨_,rfl,hH.out.1,hH.out.2⟩
theorem Kq (r s:Rat) (v1 v2:Value) (k:Nat) (w:World) (h1:IsQ w v1 r) (h2:IsQ w v2 s) (hk:k≤17179869184) (f1:Fits k r) (f2:Fits k s) (hT:Tab w) :
  Calls Tryz.prog 23 #[v1,v2] w (eU w (r / s) (if s=0 then 9 else 0)):=by
 have HO:s≠0→∀ W,Below w.heap.size w W→Calls Tryz.prog 123 #[v1,v2] W (bM W (r / s)):=fun s0 W hb=>pG r s v1 v2 k W (h1.below hb) (h2.below hb) hk s0 f1 f2 (hT.below hb (Nat.le_refl _))
 obtain ⟨t1,x1,p1,l1,q1,y1,r1,s1,u1,rfl,i1,j1,e1⟩:=h1.shape
 obtain ⟨t2,x2,p2,l2,q2,y2,r2,s2,u2,rfl,i2,j2,e2⟩:=h2.shape
 have e2':=e2.out
 by_cases z2:s=0
 ·have:=div_zero t1 t2 x1 y1 x2 y2 p1 r1 p2 r2 l1 q1 s1 u1 l2 q2 s2 u2 _ _ _ _ w i1 j1 i2 j2 hT (by rw [e2'];exact (jL s).2 z2)
  rw [if_pos z2,z2,Rat.div_def,Rat.inv_zero,Rat.mul_zero]
  exact this
 ·rw [if_neg z2]
  exact Oz t1 t2 x1 y1 x2 y2 p1 r1 p2 r2 l1 q1 s1 u1 l2 q2 s2 u2 _ _ _ _ w i1 j1 i2 j2 hT (by rw [e2'];exact fun h=>z2 ((jL s).1 h)) _ (HO z2)
end
section
open Go.RowKit Go.Sort
attribute [local go_sem] takes dF dG dD
theorem MZ (t:Bool) (x y:Int) (p r:Option Addr) (l q s v n m:Nat) (w:World) (i1:ah w (.int .u64 x) (.slice p l q) n) (j1:ah w (.int .u64 y) (.slice r s v) m):Calls Tryz.prog 47 #[.agg #[.bool t,.int .u64 x,.slice p l q,.int .u64 y,.slice r s v]] w fun e w'=>∃ c d,e=.returned (.agg #[.bool false,c,d,.int .u64 0,.slice none 0 0])∧ah w' c d (ak m)∧Below w.heap.size w w':=by
 have HU:=hid (fun (W:World) (h:ah W (.int .u64 y) (.slice r s v) m)=>gY (.bool t) (.int .u64 x) (.slice p l q) _ _ m W h)
 have h0:=kE.start t (.int .u64 x) (.slice p l q) (.int .u64 y) (.slice r s v) n m 31 31 i1 j1
 have H0:=hid h0
 clear h0
 have I1:=hid i1
 have J1:=hid j1
 clear i1 j1
 go_enter Tryz.func47,Tryz.ntmps47
 go_wp2_with fail
 obtain ⟨W0,hW0⟩:∃ W0,(w.alloc (.cells #[.bool t,.int .u64 x,.slice p l q,.int .u64 y,.slice r s v] 31)).alloc (.cells #[.bool false,.int .u64 0,.slice none 0 0,.int .u64 0,.slice none 0 0] 31)=W0:=⟨_,rfl⟩
 rw [hW0] at H0 ⊢
 clear hW0
 obtain ⟨d0,d1,d2,d3,d4⟩:=H0.out.b1
 go_wp2_with fail
 refine (HU.out _ H0.out.j1).mono ?_
 rintro e w1 ⟨c,d,rfl,hm,hB1⟩
 obtain ⟨x',p',l',q',rfl,rfl⟩:=hm.shape
 have H1:=hid (H0.out.next hB1)
 have HM:=hid hm
 clear H0 hB1 d0 d1 d2 d3 d4 hm HU
 go_wp2_with fail
 refine (kT _ _ _ _ _ _).mono ?_
 rintro e w2 ⟨rfl,hB2⟩
 have hQ:=H1.out.next hB2
 obtain ⟨g0,ga,gb,gc,gd,⟨c0,c1,c2,c3,c4⟩,f0,f1,f2,f3,f4⟩:=hQ.rs.facts
 obtain ⟨⟨z0,z1,z2,z3,z4⟩,hH⟩:=hQ.rs.done (v0:=.bool false) hQ.bel (by omega) (HM.out.below hB2) (gZ _)
 clear hQ H1 hB2 I1 J1 HM
 go_wp2_with fail
 exact bodyPost_ret (v:=.agg #[.bool false,.int .u64 x',.slice p' l' q',.int .u64 0,.slice none 0 0]) (by simp [results,Tryz.results47,go_sem,z0,z1,z2,z3,z4]) rfl ⟨_,_,rfl,hH.out.1,hH.out.2.2⟩
theorem Ns (r:Rat) (v:Value) (w:World) (h:IsQ w v r):Calls Tryz.prog 47 #[v] w (bM w (((r.den:Nat):Int):Rat)):=by
 obtain ⟨t,x,p,l,q,y,p',s,u,rfl,i,j,-⟩:=h.shape
 refine (MZ t x y p p' l q s u _ _ w i j).mono ?_
 rintro e w' ⟨c,d,rfl,hi,hb⟩
 rw [bZ] at hi
 have h0:decide (((r.den:Nat):Int)<0)=false:=decide_eq_false (by omega)
 have:=kD ((r.den:Nat):Int) (w:=w') (c:=c) (d:=d) (by rw [Int.natAbs_natCast];exact hi)
 rw [h0] at this
 exact ⟨_,rfl,this,hb⟩
end
end Go.Proofs.YtnmlkobogofadaaGreatDoor
