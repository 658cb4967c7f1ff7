/- What the proof rests on, part 14. -/
import Derived.Test.YtnmlkobogofadaaGreatDoorP13
namespace Go.Proofs.YtnmlkobogofadaaGreatDoor
set_option maxRecDepth 100000
set_option maxHeartbeats 80000000
section
open Go.RowKit Go.Sort
attribute [local go_sem] takes dF dG dD
theorem jW.far {w W:World} {L L' n:Nat} {b:Bool} {c d u v:Value} (h:jW w W L b c d n) (hs:Slot W L') (hne:L≠L'):jW w (Go.Proofs.YtnmlkobogofadaaGreatDoor.set2 W L' u v) L b c d n:=
 ⟨⟨by rw [qE _ hne];exact h.cs.1,by rw [qE _ hne];exact h.cs.2.1,by rw [qE _ hne];exact h.cs.2.2⟩,hs.mag h.im,h.lo,by simpa using h.hi⟩
theorem Ig (t1 t2:Bool) (x1 y1 x2 y2:Int) (p1 r1 p2 r2:Option Addr) (l1 q1 s1 v1 l2 q2 s2 v2 n1 m1 n2 m2 k:Nat) (w:World)
  (i1:ah w (.int .u64 x1) (.slice p1 l1 q1) n1) (j1:ah w (.int .u64 y1) (.slice r1 s1 v1) m1) (i2:ah w (.int .u64 x2) (.slice p2 l2 q2) n2) (j2:ah w (.int .u64 y2) (.slice r2 s2 v2) m2) (hT:Tab w) (h1:sgn t1 n1≠0) (h2:sgn t2 n2≠0) (wmm:m1=0→m2≠0) (o1:Nat.Coprime n1 (ak m1)) (o2:Nat.Coprime n2 (ak m2)) (hk:k≤17179869184) (k1:n1<B64 ^ k) (k2:ak m1<B64 ^ k) (k3:n2<B64 ^ k) (k4:ak m2<B64 ^ k) (e1:ak m1≠0) (e2:ak m2≠0) :
  Calls Tryz.prog 28 #[.agg #[.bool t1,.int .u64 x1,.slice p1 l1 q1,.int .u64 y1,.slice r1 s1 v1],.agg #[.bool t2,.int .u64 x2,.slice p2 l2 q2,.int .u64 y2,.slice r2 s2 v2]] w (bM w (mkRat (zs t1 n1) (ak m1)+mkRat (zs t2 n2) (ak m2))):=by
 have hs1:=hid (fun (W:World) (h:ah W (.int .u64 x1) (.slice p1 l1 q1) n1)=>iq t1 _ _ (.int .u64 y1) (.slice r1 s1 v1) n1 W h)
 have hs2:=hid (fun (W:World) (h:ah W (.int .u64 x2) (.slice p2 l2 q2) n2)=>iq t2 _ _ (.int .u64 y2) (.slice r2 s2 v2) n2 W h)
 have hw1:=hid (fun (W:World) (h:ah W (.int .u64 y1) (.slice r1 s1 v1) m1)=>nO (.bool t1) (.int .u64 x1) (.slice p1 l1 q1) _ _ m1 W h)
 have hw2:=hid (fun (W:World) (h:ah W (.int .u64 y2) (.slice r2 s2 v2) m2)=>nO (.bool t2) (.int .u64 x2) (.slice p2 l2 q2) _ _ m2 W h)
 obtain ⟨sa,hsa⟩:∃ s,sgn t1 n1=s:=⟨_,rfl⟩
 rw [hsa] at hs1 h1
 have ta:(sa == 0)=false:=by rw [beq_eq_false_iff_ne];exact h1
 obtain ⟨sb,hsb⟩:∃ s,sgn t2 n2=s:=⟨_,rfl⟩
 rw [hsb] at hs2 h2
 have tb:(sb == 0)=false:=by rw [beq_eq_false_iff_ne];exact h2
 clear h1 h2 hsa hsb
 have HK:=hid (And.intro k1 (And.intro k2 (And.intro k3 k4)))
 have HGc:=hid (fun (W:World) (c d e f:Value) (h:ah W c d (ak m1)) (h':ah W e f (ak m2)) (hT:Tab W)=>rG (ak m1) (ak m2) k _ _ _ _ W h h' (by omega) k2 k4 hT)
 have ss:=Eb t1 t2 (n1*(ak m2 / Nat.gcd (ak m1) (ak m2))) (n2*(ak m1 / Nat.gcd (ak m1) (ak m2)))
 have HP:=NC _ t1 t2 _ n1 (ak m1) n2 (ak m2) o1 o2 e1 e2 ss.1
 obtain ⟨cm,hcm⟩:∃ c,Nat.gcd (ak m1) (ak m2)=c:=⟨_,rfl⟩
 rw [hcm] at HGc ss HP
 have kl:=hid (Nat.lt_of_le_of_lt (Nat.div_le_self (ak m1) cm) k2)
 have kr:=hid (Nat.lt_of_le_of_lt (Nat.div_le_self (ak m2) cm) k4)
 have kp1:=nV k1 kr.out
 have kp2:=nV k3 kl.out
 have HAd:=hid (fun (W:World) (c d e f:Value) (h1:ah W c d (n1*(ak m2 / cm))) (h2:ah W e f (n2*(ak m1 / cm)))=>DK t1 t2 c d e f (n1*(ak m2 / cm)) (n2*(ak m1 / cm)) (k+k) W h1 h2 (by omega) kp1 kp2)
 have ss2:=ss.2.1
 obtain ⟨sB,hsB⟩:∃ s,nH t1 (n1*(ak m2 / cm)) t2 (n2*(ak m1 / cm))=s:=⟨_,rfl⟩
 obtain ⟨sN,hsN⟩:∃ s,lV t1 (n1*(ak m2 / cm)) t2 (n2*(ak m1 / cm))=s:=⟨_,rfl⟩
 rw [hsB,hsN] at HAd HP
 rw [hsN] at ss2
 have kN:=hid (Nat.lt_of_le_of_lt ss2 (Ru kp1 kp2))
 have kc:cm<B64 ^ (k+k+1):=by
  rw [← hcm]
  have:B64 ^ k≤B64 ^ (k+k+1):=Nat.pow_le_pow_right (by decide) (by omega)
  exact Nat.lt_of_lt_of_le (Nat.lt_of_le_of_lt (Nat.le_of_dvd (Nat.pos_of_ne_zero e1) (Nat.gcd_dvd_left _ _)) k2) this
 have HGg:=hid (fun (W:World) (c d e f:Value) (h:ah W c d sN) (h':ah W e f cm) (hT:Tab W)=>rG sN cm (k+k+1) _ _ _ _ W h h' (by omega) kN.out kc hT)
 obtain ⟨g,hg⟩:∃ g,Nat.gcd sN cm=g:=⟨_,rfl⟩
 rw [hg] at HGg HP
 obtain ⟨R,hR⟩:∃ R,mkRat (zs t1 n1) (ak m1)+mkRat (zs t2 n2) (ak m2)=R:=⟨_,rfl⟩
 rw [hR] at HP ⊢
 replace HP:=hid HP
 have kg:=hid (Nat.lt_of_le_of_lt (Nat.div_le_self (ak m2) g) k4)
 have hc0:=hid (Nat.pos_of_ne_zero HP.out.1)
 have hg0:=hid (Nat.pos_of_ne_zero HP.out.2.1)
 have hk2:k≤137438953472:=by omega
 have hk2':k+k+1≤137438953472:=by omega
 have hk3:k≤68719476736:=by omega
 have HLow:=hid (fun (W:World) (c d e f:Value) (h1:ah W c d (sN / g)) (h2:ah W e f (ak m1 / cm*(ak m2 / g)))=>vM sB c d e f _ _ W h1 h2 HP.out.2.2.1 HP.out.2.2.2.1)
 rw [HP.out.2.2.2.2] at HLow
 clear hcm hsB hsN hg hR ss ss2 kp1 kp2 kc o1 o2 k1 k2 k3 k4 e1 e2 HP
 have h0:=bn.start t1 t2 (.int .u64 x1) (.slice p1 l1 q1) (.int .u64 y1) (.slice r1 s1 v1) (.int .u64 x2) (.slice p2 l2 q2) (.int .u64 y2) (.slice r2 s2 v2) n1 m1 n2 m2 31 31 31 i1 j1 i2 j2 hT
 have H0:=hid h0
 clear h0 i1 j1 i2 j2 hT
 go_enter Tryz.func28,Tryz.ntmps28
 go_wp2_with fail
 obtain ⟨W0,hW0⟩:∃ W0,((w.alloc (.cells #[.bool t1,.int .u64 x1,.slice p1 l1 q1,.int .u64 y1,.slice r1 s1 v1] 31)).alloc (.cells #[.bool t2,.int .u64 x2,.slice p2 l2 q2,.int .u64 y2,.slice r2 s2 v2] 31)).alloc (.cells #[.bool false,.int .u64 0,.slice none 0 0,.int .u64 0,.slice none 0 0] 31)=W0:=⟨_,rfl⟩
 rw [hW0] at H0 ⊢
 clear hW0
 refine (hs1.out _ H0.out.i1).mono ?_
 rintro e w1 ⟨rfl,hB1⟩
 have H1:=hid (H0.out.next hB1)
 clear hB1 H0 hs1
 obtain ⟨d0,d1,d2,d3,d4⟩:=H1.out.b2
 go_wp2_with fail
 refine (hs2.out _ H1.out.i2).mono ?_
 rintro e w2 ⟨rfl,hB2⟩
 replace H1:=hid (H1.out.next hB2)
 clear hB2 hs2 d0 d1 d2 d3 d4
 obtain ⟨d0,d1,d2,d3,d4⟩:=H1.out.b1
 go_wp2_with fail
 refine (hw1.out _ H1.out.j1).mono ?_
 rintro e w3 ⟨rfl,hB3⟩
 replace H1:=hid (H1.out.next hB3)
 clear hB3 hw1 d0 d1 d2 d3 d4
 by_cases wn:m1=0
 have tc:(m1 == 0)=true:=by rw [beq_iff_eq];exact wn
 have td:(m2 == 0)=false:=by rw [beq_eq_false_iff_ne];exact wmm wn
 clear wn wmm
 obtain ⟨d0,d1,d2,d3,d4⟩:=H1.out.b2
 go_wp2_with fail
 refine (hw2.out _ H1.out.j2).mono ?_
 rintro e W1 ⟨rfl,hB4⟩
 replace H1:=hid (H1.out.next hB4)
 clear hB4 hw2 d0 d1 d2 d3 d4
 go_wp2_with fail
 rotate_left
 have tc:(m1 == 0)=false:=by rw [beq_eq_false_iff_ne];exact wn
 clear wn wmm hw2
 obtain ⟨W1,rfl⟩:∃ W1,W1=w3:=⟨_,rfl⟩
 go_wp2_with fail
 all_goals
  have H1':bn w W1 t1 (.int .u64 x1) (.slice p1 l1 q1) (.int .u64 y1) (.slice r1 s1 v1) t2 (.int .u64 x2) (.slice p2 l2 q2) (.int .u64 y2) (.slice r2 s2 v2) n1 m1 n2 m2:=H1.out
  have hsz:=H1'.sz
  refine bC 6 [⟨[],[0]⟩,⟨[0],[1]⟩,⟨[],[2]⟩,⟨[2],[3]⟩,⟨[1,3],[4]⟩,⟨[],[5]⟩]
   [one fun v _=>v=.agg #[.bool t1,.int .u64 x1,.slice p1 l1 q1,.int .u64 y1,.slice r1 s1 v1],one (aB (ak m1)),one fun v _=>v=.agg #[.bool t2,.int .u64 x2,.slice p2 l2 q2,.int .u64 y2,.slice r2 s2 v2],one (aB (ak m2)),one (aB (cm)),one (iD W1.heap.size)]
   (fun _ W=>Below W1.heap.size W1 W) (by kernel_rfl) (by kernel_rfl) ?hT ?hZ ?hO ?hE
  case hZ=>exact (Below.refl _ _).drew
  case hT =>
   simp only [List.forall_mem_cons,List.not_mem_nil,false_imp_iff,implies_true,and_true]
   exact ⟨aj aA,aj aN,aj aA,aj aN,aj aN,aj qh⟩
  case hO =>
   intro u
   simp only [List.take_succ_cons,List.take_zero,aC]
   repeat' (first | with_reducible exact aV | with_reducible refine aX ?_ ?_)
   ·intro W hS hF K hK
    have c0:=cB hS H1'.b1.1 (by omega)
    have c1:=cB hS H1'.b1.2.1 (by omega)
    have c2:=cB hS H1'.b1.2.2.1 (by omega)
    have c3:=cB hS H1'.b1.2.2.2.1 (by omega)
    have c4:=cB hS H1'.b1.2.2.2.2 (by omega)
    clear hF
    go_simp
    exact hK _ _ (.refl _ _) hS rfl
   ·intro W hS hF K hK
    have h0:u 0=.agg #[.bool t1,.int .u64 x1,.slice p1 l1 q1,.int .u64 y1,.slice r1 s1 v1]:=hF.1
    clear hF
    go_simp
    refine (gY _ _ _ _ _ m1 _ (H1'.j1.below hS)).mono ?_
    rintro e wA ⟨c,d,rfl,hm,hBA⟩
    obtain ⟨xx,pp,ll,qq,rfl,rfl⟩:=hm.shape
    exact ⟨_,rfl,hK _ _ hBA (hS.trans (hBA.mono hS.size)) ⟨_,_,_,_,rfl,hm⟩⟩
   ·intro W hS hF K hK
    have d0:=cB hS H1'.b2.1 (by omega)
    have d1:=cB hS H1'.b2.2.1 (by omega)
    have d2:=cB hS H1'.b2.2.2.1 (by omega)
    have d3:=cB hS H1'.b2.2.2.2.1 (by omega)
    have d4:=cB hS H1'.b2.2.2.2.2 (by omega)
    clear hF
    go_simp
    exact hK _ _ (.refl _ _) hS rfl
   ·intro W hS hF K hK
    have h2:u 2=.agg #[.bool t2,.int .u64 x2,.slice p2 l2 q2,.int .u64 y2,.slice r2 s2 v2]:=hF.1
    clear hF
    go_simp
    refine (gY _ _ _ _ _ m2 _ (H1'.j2.below hS)).mono ?_
    rintro e wA ⟨c,d,rfl,hm,hBA⟩
    obtain ⟨xx,pp,ll,qq,rfl,rfl⟩:=hm.shape
    exact ⟨_,rfl,hK _ _ hBA (hS.trans (hBA.mono hS.size)) ⟨_,_,_,_,rfl,hm⟩⟩
   ·intro W hS hF K hK
    obtain ⟨x1,p1,l1,q1,h1,im1⟩:aB (ak m1) (u 1) W:=hF.1
    obtain ⟨x3,p3,l3,q3,h3,im3⟩:aB (ak m2) (u 3) W:=hF.2.1
    clear hF
    go_simp
    refine (HGc.out _ _ _ _ _ im1 im3 (H1.out.tab.below hS (Nat.le_refl _))).mono ?_
    rintro e wA ⟨c,d,rfl,hm,hBA⟩
    obtain ⟨xx,pp,ll,qq,rfl,rfl⟩:=hm.shape
    exact ⟨_,rfl,hK _ _ hBA (hS.trans (hBA.mono hS.size)) ⟨_,_,_,_,rfl,hm⟩⟩
   ·intro W hS hF K hK
    clear hF
    go_simp
    exact hK _ _ ((Below.refl _ _).alloc (Nat.le_refl _) _) (hS.alloc hS.size _) ⟨_,rfl,hS.size,by simp,oW _ _⟩
  case hE =>
   intro u W hS hF
   obtain ⟨cx,cp,cl,cq,h4,m4⟩:aB cm (u 4) W:=hF.2.2.2.2.1
   obtain ⟨L5,h5,b5,l5,s5⟩:iD W1.heap.size (u 5) W:=hF.2.2.2.2.2.1
   have hB:=hid (And.intro ((H1'.next hS).set2 (u:=.int .u64 cx) (v:=.slice cp cl cq) (by omega) s5) (Loc.own (w:=w) s5 m4 (by omega) l5))
   obtain ⟨⟨ya,ka⟩,⟨ua,ub,uc,kb⟩,kd,ke⟩:=s5
   clear hF hS m4 H1 H1' HGc
   simp only [List.take_succ_cons,List.take_zero,aC,List.drop_succ_cons,List.drop_zero]
   go_wp2_with fail
   obtain ⟨W2,hW2⟩:∃ W2,(W.setCell ⟨L5,0,none⟩ (.int .u64 cx)).setCell ⟨L5,1,none⟩ (.slice cp cl cq)=W2:=⟨_,rfl⟩
   rw [hW2]
   have HB2:Hid (bn w W2 t1 (.int .u64 x1) (.slice p1 l1 q1) (.int .u64 y1) (.slice r1 s1 v1) t2 (.int .u64 x2) (.slice p2 l2 q2) (.int .u64 y2) (.slice r2 s2 v2) n1 m1 n2 m2∧Loc w W2 L5 (.int .u64 cx) (.slice cp cl cq) cm):=by rw [← hW2];exact hB
   clear hW2 hB ka kb kd ke l5 b5 h4 h5
   have H2:=HB2.out
   have hsz2:=H2.1.sz
   have hL5:=H2.2.hi
   have SS:∀ {W W':World} {u:Nat→Value},Below W.heap.size W W'→(Below W2.heap.size W2 W∧(∀ L L',u 8=.pointer (some ⟨L,0,none⟩)→u 9=.pointer (some ⟨L',0,none⟩)→L≠L')∧(∀ L,u 8=.pointer (some ⟨L,0,none⟩)→L<W.heap.size)∧(∀ L,u 9=.pointer (some ⟨L,0,none⟩)→L<W.heap.size))→(Below W2.heap.size W2 W'∧(∀ L L',u 8=.pointer (some ⟨L,0,none⟩)→u 9=.pointer (some ⟨L',0,none⟩)→L≠L')∧(∀ L,u 8=.pointer (some ⟨L,0,none⟩)→L<W'.heap.size)∧(∀ L,u 9=.pointer (some ⟨L,0,none⟩)→L<W'.heap.size)):=fun hb ⟨h1,h2,h3,h4⟩=>⟨h1.trans (hb.mono h1.size),h2,fun L e=>Nat.lt_of_lt_of_le (h3 L e) hb.size,fun L e=>Nat.lt_of_lt_of_le (h4 L e) hb.size⟩
   refine bC 10 [⟨[],[0]⟩,⟨[0],[1]⟩,⟨[],[2]⟩,⟨[1,2],[3]⟩,⟨[],[4]⟩,⟨[4],[5]⟩,⟨[],[6]⟩,⟨[5,6],[7]⟩,⟨[],[8]⟩,⟨[],[9]⟩]
    [one fun v _=>v=.agg #[.bool t1,.int .u64 x1,.slice p1 l1 q1,.int .u64 y1,.slice r1 s1 v1],one (aB (ak m1)),one fun v _=>v=.agg #[.int .u64 cx,.slice cp cl cq],one (aB (ak m1 / cm)),one fun v _=>v=.agg #[.bool t2,.int .u64 x2,.slice p2 l2 q2,.int .u64 y2,.slice r2 s2 v2],one (aB (ak m2)),one fun v _=>v=.agg #[.int .u64 cx,.slice cp cl cq],one (aB (ak m2 / cm)),one (iD W2.heap.size),one (iD W2.heap.size)]
    (fun u W=>Below W2.heap.size W2 W∧(∀ L L',u 8=.pointer (some ⟨L,0,none⟩)→u 9=.pointer (some ⟨L',0,none⟩)→L≠L')∧(∀ L,u 8=.pointer (some ⟨L,0,none⟩)→L<W.heap.size)∧(∀ L,u 9=.pointer (some ⟨L,0,none⟩)→L<W.heap.size)) (by kernel_rfl) (by kernel_rfl) ?hT ?hZ ?hO ?hE
   case hZ=>exact ⟨(Below.refl _ _).drew,fun L L' e=>(by cases e),fun L e=>(by cases e),fun L e=>(by cases e)⟩
   case hT =>
    simp only [List.forall_mem_cons,List.not_mem_nil,false_imp_iff,implies_true,and_true]
    exact ⟨aj aA,aj aN,aj aA,aj aN,aj aA,aj aN,aj aA,aj aN,aj qh,aj qh⟩
   case hO =>
    intro u
    simp only [List.take_succ_cons,List.take_zero,aC]
    repeat' (first | with_reducible exact aV | with_reducible refine aX ?_ ?_)
    ·intro W hS hF K hK
     have c0:=cB hS.1 H2.1.b1.1 (by omega)
     have c1:=cB hS.1 H2.1.b1.2.1 (by omega)
     have c2:=cB hS.1 H2.1.b1.2.2.1 (by omega)
     have c3:=cB hS.1 H2.1.b1.2.2.2.1 (by omega)
     have c4:=cB hS.1 H2.1.b1.2.2.2.2 (by omega)
     clear hF
     go_simp
     exact hK _ _ (.refl _ _) hS rfl
    ·intro W hS hF K hK
     have h0:u 0=.agg #[.bool t1,.int .u64 x1,.slice p1 l1 q1,.int .u64 y1,.slice r1 s1 v1]:=hF.1
     clear hF
     go_simp
     refine (gY _ _ _ _ _ m1 _ (H2.1.j1.below hS.1)).mono ?_
     rintro e wA ⟨c,d,rfl,hm,hBA⟩
     obtain ⟨xx,pp,ll,qq,rfl,rfl⟩:=hm.shape
     exact ⟨_,rfl,hK _ _ hBA (SS hBA hS) ⟨_,_,_,_,rfl,hm⟩⟩
    ·intro W hS hF K hK
     have c0:=cB hS.1 H2.2.cs.1 (by omega)
     have c1:=cB hS.1 H2.2.cs.2 (by omega)
     clear hF
     go_simp
     exact hK _ _ (.refl _ _) hS rfl
    ·intro W hS hF K hK
     obtain ⟨x1,p1,l1,q1,h1,im1⟩:aB (ak m1) (u 1) W:=hF.1
     have h2:u 2=.agg #[.int .u64 cx,.slice cp cl cq]:=hF.2.1
     clear hF
     go_simp
     refine (jd (ak m1) cm (k) _ _ _ _ _ im1 (H2.2.im.below hS.1) hc0.out hk2 HK.out.2.1).mono ?_
     rintro e wA ⟨c,d,rfl,hm,hBA⟩
     obtain ⟨xx,pp,ll,qq,rfl,rfl⟩:=hm.shape
     exact ⟨_,rfl,hK _ _ hBA (SS hBA hS) ⟨_,_,_,_,rfl,hm⟩⟩
    ·intro W hS hF K hK
     have d0:=cB hS.1 H2.1.b2.1 (by omega)
     have d1:=cB hS.1 H2.1.b2.2.1 (by omega)
     have d2:=cB hS.1 H2.1.b2.2.2.1 (by omega)
     have d3:=cB hS.1 H2.1.b2.2.2.2.1 (by omega)
     have d4:=cB hS.1 H2.1.b2.2.2.2.2 (by omega)
     clear hF
     go_simp
     exact hK _ _ (.refl _ _) hS rfl
    ·intro W hS hF K hK
     have h4:u 4=.agg #[.bool t2,.int .u64 x2,.slice p2 l2 q2,.int .u64 y2,.slice r2 s2 v2]:=hF.1
     clear hF
     go_simp
     refine (gY _ _ _ _ _ m2 _ (H2.1.j2.below hS.1)).mono ?_
     rintro e wA ⟨c,d,rfl,hm,hBA⟩
     obtain ⟨xx,pp,ll,qq,rfl,rfl⟩:=hm.shape
     exact ⟨_,rfl,hK _ _ hBA (SS hBA hS) ⟨_,_,_,_,rfl,hm⟩⟩
    ·intro W hS hF K hK
     have c0:=cB hS.1 H2.2.cs.1 (by omega)
     have c1:=cB hS.1 H2.2.cs.2 (by omega)
     clear hF
     go_simp
     exact hK _ _ (.refl _ _) hS rfl
    ·intro W hS hF K hK
     obtain ⟨x5,p5,l5,q5,h5,im5⟩:aB (ak m2) (u 5) W:=hF.1
     have h6:u 6=.agg #[.int .u64 cx,.slice cp cl cq]:=hF.2.1
     clear hF
     go_simp
     refine (jd (ak m2) cm (k) _ _ _ _ _ im5 (H2.2.im.below hS.1) hc0.out hk2 HK.out.2.2.2).mono ?_
     rintro e wA ⟨c,d,rfl,hm,hBA⟩
     obtain ⟨xx,pp,ll,qq,rfl,rfl⟩:=hm.shape
     exact ⟨_,rfl,hK _ _ hBA (SS hBA hS) ⟨_,_,_,_,rfl,hm⟩⟩
    ·intro W hS hF K hK
     clear hF
     go_simp
     exact hK _ _ ((Below.refl _ _).alloc (Nat.le_refl _) _) ⟨hS.1.alloc hS.1.size _,fun L L' e1 e2=>by cases e1;have:=hS.2.2.2 L' e2;omega,fun L e1=>by cases e1;simp,fun L e1=>by have:=hS.2.2.2 L e1;simp;omega⟩ ⟨_,rfl,hS.1.size,by simp,oW _ _⟩
    ·intro W hS hF K hK
     clear hF
     go_simp
     exact hK _ _ ((Below.refl _ _).alloc (Nat.le_refl _) _) ⟨hS.1.alloc hS.1.size _,fun L L' e1 e2=>by cases e2;have:=hS.2.2.1 L e1;omega,fun L e1=>by have:=hS.2.2.1 L e1;simp;omega,fun L e1=>by cases e1;simp⟩ ⟨_,rfl,hS.1.size,by simp,oW _ _⟩
   case hE =>
    intro u W hS hF
    obtain ⟨lx,lp,ll,lq,h3,m3⟩:aB (ak m1 / cm) (u 3) W:=hF.2.2.2.1
    obtain ⟨rx,rp,rl,rq,h7,m7⟩:aB (ak m2 / cm) (u 7) W:=hF.2.2.2.2.2.2.2.1
    obtain ⟨L6,h8,b8,l8,s8⟩:iD W2.heap.size (u 8) W:=hF.2.2.2.2.2.2.2.2.1
    obtain ⟨L7,h9,b9,l9,s9⟩:iD W2.heap.size (u 9) W:=hF.2.2.2.2.2.2.2.2.2.1
    have hne:=hS.2.1 L6 L7 h8 h9
    have s9':Slot (set2 W L6 (.int .u64 lx) (.slice lp ll lq)) L7:=s9.set L6 _ _ _ _
    have hQ2:=((H2.1.next hS.1).set2 (u:=.int .u64 lx) (v:=.slice lp ll lq) (by omega) s8).set2 (u:=.int .u64 rx) (v:=.slice rp rl rq) (by omega) s9'
    have hLc:=((H2.2.next hS.1).far (u:=.int .u64 lx) (v:=.slice lp ll lq) s8 (by omega)).far (u:=.int .u64 rx) (v:=.slice rp rl rq) s9' (by omega)
    have hLl:=(Loc.own (w:=w) s8 m3 (by omega) l8).far (u:=.int .u64 rx) (v:=.slice rp rl rq) s9' hne
    have hLr:=Loc.own (w:=w) s9' (s8.mag (u:=.int .u64 lx) (v:=.slice lp ll lq) m7) (by omega) (by simpa using l9)
    have hB:=hid (And.intro hQ2 (And.intro hLc (And.intro hLl hLr)))
    obtain ⟨⟨ya,ka⟩,⟨ua,ub,uc,kb⟩,kd,ke⟩:=s8
    obtain ⟨⟨yb,kf⟩,⟨va,vb,vc,kh⟩,ki,kj⟩:=s9
    have hne':¬ L7=L6:=fun e=>hne e.symm
    clear hF hS s9' hQ2 hLc hLl hLr m3 m7 SS H2 hL5 hsz2
    simp only [List.take_succ_cons,List.take_zero,aC,List.drop_succ_cons,List.drop_zero]
    go_wp2_with fail
    obtain ⟨W3,hW3⟩:∃ W3,(((W.setCell ⟨L6,0,none⟩ (.int .u64 lx)).setCell ⟨L6,1,none⟩ (.slice lp ll lq)).setCell ⟨L7,0,none⟩ (.int .u64 rx)).setCell ⟨L7,1,none⟩ (.slice rp rl rq)=W3:=⟨_,rfl⟩
    rw [hW3]
    have HB3:Hid (bn w W3 t1 (.int .u64 x1) (.slice p1 l1 q1) (.int .u64 y1) (.slice r1 s1 v1) t2 (.int .u64 x2) (.slice p2 l2 q2) (.int .u64 y2) (.slice r2 s2 v2) n1 m1 n2 m2∧Loc w W3 L5 (.int .u64 cx) (.slice cp cl cq) cm∧Loc w W3 L6 (.int .u64 lx) (.slice lp ll lq) (ak m1 / cm)∧Loc w W3 L7 (.int .u64 rx) (.slice rp rl rq) (ak m2 / cm)):=by rw [← hW3];exact hB
    clear hW3 hB ka kb kd ke kf kh ki kj l8 l9 b8 b9 h3 h7 h8 h9 hne hne'
    have H3:=HB3.out
    have hsz3:=H3.1.sz
    have hL5:=H3.2.1.hi
    have hL6:=H3.2.2.1.hi
    have hL7:=H3.2.2.2.hi
    refine bC 20 [⟨[],[0]⟩,⟨[0],[1]⟩,⟨[1],[2]⟩,⟨[],[3]⟩,⟨[3],[4]⟩,⟨[4],[5]⟩,⟨[],[6]⟩,⟨[5,6],[7]⟩,⟨[2,7],[8]⟩,⟨[],[9]⟩,⟨[9],[10]⟩,⟨[10],[11]⟩,⟨[],[12]⟩,⟨[12],[13]⟩,⟨[13],[14]⟩,⟨[],[15]⟩,⟨[14,15],[16]⟩,⟨[11,16],[17]⟩,⟨[8,17],[18]⟩,⟨[],[19]⟩]
     [one fun v _=>v=.pointer (some ⟨w.heap.size,0,none⟩),one fun v _=>v=.pointer (some ⟨w.heap.size,0,none⟩),one fun v _=>v=.bool t1,one fun v _=>v=.pointer (some ⟨w.heap.size,0,none⟩),one fun v _=>v=.pointer (some ⟨w.heap.size,1,none⟩),one fun v _=>v=.agg #[.int .u64 x1,.slice p1 l1 q1],one fun v _=>v=.agg #[.int .u64 rx,.slice rp rl rq],one (aB (n1*(ak m2 / cm))),one (dO t1 (n1*(ak m2 / cm))),one fun v _=>v=.pointer (some ⟨w.heap.size+1,0,none⟩),one fun v _=>v=.pointer (some ⟨w.heap.size+1,0,none⟩),one fun v _=>v=.bool t2,one fun v _=>v=.pointer (some ⟨w.heap.size+1,0,none⟩),one fun v _=>v=.pointer (some ⟨w.heap.size+1,1,none⟩),one fun v _=>v=.agg #[.int .u64 x2,.slice p2 l2 q2],one fun v _=>v=.agg #[.int .u64 lx,.slice lp ll lq],one (aB (n2*(ak m1 / cm))),one (dO t2 (n2*(ak m1 / cm))),one (dO sB sN),one (vV W3.heap.size)]
     (fun _ W=>Below W3.heap.size W3 W) (by kernel_rfl) (by kernel_rfl) ?hT ?hZ ?hO ?hE
    case hZ=>exact (Below.refl _ _).drew
    case hT =>
     simp only [List.forall_mem_cons,List.not_mem_nil,false_imp_iff,implies_true,and_true]
     exact ⟨aj aA,aj aA,aj aA,aj aA,aj aA,aj aA,aj aA,aj aN,aj jX,aj aA,aj aA,aj aA,aj aA,aj aA,aj aA,aj aA,aj aN,aj jX,aj jX,aj Tn⟩
    case hO =>
     intro u
     simp only [List.take_succ_cons,List.take_zero,aC]
     repeat' (first | with_reducible exact aV | with_reducible refine aX ?_ ?_)
     ·intro W hS hF K hK
      clear hF
      go_simp
      exact hK _ _ (.refl _ _) hS rfl
     ·intro W hS hF K hK
      have h0:u 0=.pointer (some ⟨w.heap.size,0,none⟩):=hF.1
      clear hF
      go_simp
      exact hK _ _ (.refl _ _) hS rfl
     ·intro W hS hF K hK
      have h1:u 1=.pointer (some ⟨w.heap.size,0,none⟩):=hF.1
      have c0:=cB hS H3.1.b1.1 (by omega)
      clear hF
      go_simp
      exact hK _ _ (.refl _ _) hS rfl
     ·intro W hS hF K hK
      clear hF
      go_simp
      exact hK _ _ (.refl _ _) hS rfl
     ·intro W hS hF K hK
      have h3:u 3=.pointer (some ⟨w.heap.size,0,none⟩):=hF.1
      clear hF
      go_simp
      exact hK _ _ (.refl _ _) hS rfl
     ·intro W hS hF K hK
      have h4:u 4=.pointer (some ⟨w.heap.size,1,none⟩):=hF.1
      have c1:=cB hS H3.1.b1.2.1 (by omega)
      have c2:=cB hS H3.1.b1.2.2.1 (by omega)
      clear hF
      go_simp
      exact hK _ _ (.refl _ _) hS rfl
     ·intro W hS hF K hK
      have c0:=cB hS H3.2.2.2.cs.1 (by omega)
      have c1:=cB hS H3.2.2.2.cs.2 (by omega)
      clear hF
      go_simp
      exact hK _ _ (.refl _ _) hS rfl
     ·intro W hS hF K hK
      have h5:u 5=.agg #[.int .u64 x1,.slice p1 l1 q1]:=hF.1
      have h6:u 6=.agg #[.int .u64 rx,.slice rp rl rq]:=hF.2.1
      clear hF
      go_simp
      refine (jr (n1) (ak m2 / cm) (k) _ _ _ _ _ (H3.1.i1.below hS) (H3.2.2.2.im.below hS) hk3 HK.out.1 kr.out).mono ?_
      rintro e wA ⟨c,d,rfl,hm,hBA⟩
      obtain ⟨xx,pp,ll,qq,rfl,rfl⟩:=hm.shape
      exact ⟨_,rfl,hK _ _ hBA (hS.trans (hBA.mono hS.size)) ⟨_,_,_,_,rfl,hm⟩⟩
     ·intro W hS hF K hK
      have h2:u 2=.bool t1:=hF.1
      obtain ⟨x7,p7,l7,q7,h7,im7⟩:aB (n1*(ak m2 / cm)) (u 7) W:=hF.2.1
      clear hF
      go_simp
      exact hK _ _ (.refl _ _) hS ⟨_,_,_,_,rfl,im7⟩
     ·intro W hS hF K hK
      clear hF
      go_simp
      exact hK _ _ (.refl _ _) hS rfl
     ·intro W hS hF K hK
      have h9:u 9=.pointer (some ⟨w.heap.size+1,0,none⟩):=hF.1
      clear hF
      go_simp
      exact hK _ _ (.refl _ _) hS rfl
     ·intro W hS hF K hK
      have h10:u 10=.pointer (some ⟨w.heap.size+1,0,none⟩):=hF.1
      have d0:=cB hS H3.1.b2.1 (by omega)
      clear hF
      go_simp
      exact hK _ _ (.refl _ _) hS rfl
     ·intro W hS hF K hK
      clear hF
      go_simp
      exact hK _ _ (.refl _ _) hS rfl
     ·intro W hS hF K hK
      have h12:u 12=.pointer (some ⟨w.heap.size+1,0,none⟩):=hF.1
      clear hF
      go_simp
      exact hK _ _ (.refl _ _) hS rfl
     ·intro W hS hF K hK
      have h13:u 13=.pointer (some ⟨w.heap.size+1,1,none⟩):=hF.1
      have d1:=cB hS H3.1.b2.2.1 (by omega)
      have d2:=cB hS H3.1.b2.2.2.1 (by omega)
      clear hF
      go_simp
      exact hK _ _ (.refl _ _) hS rfl
     ·intro W hS hF K hK
      have c0:=cB hS H3.2.2.1.cs.1 (by omega)
      have c1:=cB hS H3.2.2.1.cs.2 (by omega)
      clear hF
      go_simp
      exact hK _ _ (.refl _ _) hS rfl
     ·intro W hS hF K hK
      have h14:u 14=.agg #[.int .u64 x2,.slice p2 l2 q2]:=hF.1
      have h15:u 15=.agg #[.int .u64 lx,.slice lp ll lq]:=hF.2.1
      clear hF
      go_simp
      refine (jr (n2) (ak m1 / cm) (k) _ _ _ _ _ (H3.1.i2.below hS) (H3.2.2.1.im.below hS) hk3 HK.out.2.2.1 kl.out).mono ?_
      rintro e wA ⟨c,d,rfl,hm,hBA⟩
      obtain ⟨xx,pp,ll,qq,rfl,rfl⟩:=hm.shape
      exact ⟨_,rfl,hK _ _ hBA (hS.trans (hBA.mono hS.size)) ⟨_,_,_,_,rfl,hm⟩⟩
     ·intro W hS hF K hK
      have h11:u 11=.bool t2:=hF.1
      obtain ⟨x16,p16,l16,q16,h16,im16⟩:aB (n2*(ak m1 / cm)) (u 16) W:=hF.2.1
      clear hF
      go_simp
      exact hK _ _ (.refl _ _) hS ⟨_,_,_,_,rfl,im16⟩
     ·intro W hS hF K hK
      obtain ⟨x8,p8,l8,q8,h8,im8⟩:dO t1 (n1*(ak m2 / cm)) (u 8) W:=hF.1
      obtain ⟨x17,p17,l17,q17,h17,im17⟩:dO t2 (n2*(ak m1 / cm)) (u 17) W:=hF.2.1
      clear hF
      go_simp
      refine (HAd.out _ _ _ _ _ im8 im17).mono ?_
      rintro e wA ⟨xx,pp,ll,qq,rfl,hm,hBA⟩
      exact ⟨_,rfl,hK _ _ hBA (hS.trans (hBA.mono hS.size)) ⟨_,_,_,_,rfl,hm⟩⟩
     ·intro W hS hF K hK
      clear hF
      go_simp
      exact hK _ _ ((Below.refl _ _).alloc (Nat.le_refl _) _) (hS.alloc hS.size _) ⟨_,rfl,hS.size,by simp,P5 _ _⟩
    case hE =>
     intro u W hS hF
     obtain ⟨sx,sp,sl,sq,h18,m18⟩:dO sB sN (u 18) W:=hF.2.2.2.2.2.2.2.2.2.2.2.2.2.2.2.2.2.2.1
     obtain ⟨L8,h19,b19,l19,s19⟩:vV W3.heap.size (u 19) W:=hF.2.2.2.2.2.2.2.2.2.2.2.2.2.2.2.2.2.2.2.1
     have hB:=hid (And.intro ((H3.1.next hS).jD (u:=.bool sB) (v:=.int .u64 sx) (x0:=.slice sp sl sq) (by omega) s19) (And.intro ((H3.2.1.next hS).far3 (u:=.bool sB) (v:=.int .u64 sx) (x:=.slice sp sl sq) s19 (by omega)) (And.intro ((H3.2.2.1.next hS).far3 (u:=.bool sB) (v:=.int .u64 sx) (x:=.slice sp sl sq) s19 (by omega)) (And.intro ((H3.2.2.2.next hS).far3 (u:=.bool sB) (v:=.int .u64 sx) (x:=.slice sp sl sq) s19 (by omega)) (jW.own (w:=w) (b:=sB) s19 m18 (by omega) l19)))))
     obtain ⟨⟨ya,ka⟩,⟨yb,kb⟩,⟨ua,ub,uc,kd⟩,ke,kf,kh⟩:=s19
     have q0:=(H3.2.1.next hS).cs.1
     have q1:=(H3.2.1.next hS).cs.2
     have hn:¬ L8=L5:=by omega
     have hn':¬ L5=L8:=by omega
     have hlo:=H3.1.sz
     clear hF hS m18 H3 hL5 hL6 hL7 HAd
     simp only [List.take_succ_cons,List.take_zero,aC,List.drop_succ_cons,List.drop_zero]
     go_wp2_with fail
     refine (HGg.out _ _ _ _ _ hB.out.2.2.2.2.im hB.out.2.1.im hB.out.1.tab).mono ?_
     rintro e w7 ⟨c,d,rfl,hm,hBA⟩
     obtain ⟨gx,gp,gl,gq,rfl,rfl⟩:=hm.shape
     have hA:=(Below.refl w7.heap.size w7).alloc (Nat.le_refl _) (.cells #[.int .u64 gx,.slice gp gl gq] 27)
     have hB':=hB.out
     have z7:=(hB'.1.next hBA).sz
     have hL9:C2 (w7.alloc (.cells #[.int .u64 gx,.slice gp gl gq] 27)) w7.heap.size (.int .u64 gx) (.slice gp gl gq):=⟨by go_simp,by go_simp⟩
     have hC:=hid (And.intro ((hB'.1.next hBA).next hA) (And.intro ((hB'.2.1.next hBA).next hA) (And.intro ((hB'.2.2.1.next hBA).next hA) (And.intro ((hB'.2.2.2.1.next hBA).next hA) (And.intro ((hB'.2.2.2.2.next hBA).next hA) (Loc.mk (w:=w) hL9 (hm.below hA) z7 (by simp)))))))
     clear hL9
     clear hB hB' hBA hA hm ka kb kd ke kf kh q0 q1 hn hn' l19 b19 h18 h19 z7 hsz3 HGg
     go_wp2_with fail
     obtain ⟨W5,hW5⟩:∃ W5,w7.alloc (.cells #[.int .u64 gx,.slice gp gl gq] 27)=W5:=⟨_,rfl⟩
     rw [hW5]
     obtain ⟨L9,hL9⟩:∃ L9,w7.heap.size=L9:=⟨_,rfl⟩
     rw [hL9] at hC ⊢
     have HB5:Hid (bn w W5 t1 (.int .u64 x1) (.slice p1 l1 q1) (.int .u64 y1) (.slice r1 s1 v1) t2 (.int .u64 x2) (.slice p2 l2 q2) (.int .u64 y2) (.slice r2 s2 v2) n1 m1 n2 m2∧Loc w W5 L5 (.int .u64 cx) (.slice cp cl cq) cm∧Loc w W5 L6 (.int .u64 lx) (.slice lp ll lq) (ak m1 / cm)∧Loc w W5 L7 (.int .u64 rx) (.slice rp rl rq) (ak m2 / cm)∧jW w W5 L8 sB (.int .u64 sx) (.slice sp sl sq) sN∧Loc w W5 L9 (.int .u64 gx) (.slice gp gl gq) g):=by rw [← hW5];exact hC
     clear hW5 hC hL9
     have H5:=HB5.out
     have hsz5:=H5.1.sz
     have hL5:=H5.2.1.hi
     have hL6:=H5.2.2.1.hi
     have hL7:=H5.2.2.2.1.hi
     have hL8:=H5.2.2.2.2.1.hi
     have hL9:=H5.2.2.2.2.2.hi
     refine bC 14 [⟨[],[0]⟩,⟨[0],[1]⟩,⟨[],[2]⟩,⟨[2],[3]⟩,⟨[],[4]⟩,⟨[3,4],[5]⟩,⟨[1,5],[6]⟩,⟨[],[7]⟩,⟨[],[8]⟩,⟨[8],[9]⟩,⟨[],[10]⟩,⟨[9,10],[11]⟩,⟨[7,11],[12]⟩,⟨[6,12],[13]⟩]
      [one fun v _=>v=.pointer (some ⟨L8,0,none⟩),one fun v _=>v=.bool sB,one fun v _=>v=.pointer (some ⟨L8,1,none⟩),one fun v _=>v=.agg #[.int .u64 sx,.slice sp sl sq],one fun v _=>v=.agg #[.int .u64 gx,.slice gp gl gq],one (aB (sN / g)),one (dO sB (sN / g)),one fun v _=>v=.agg #[.int .u64 lx,.slice lp ll lq],one fun v _=>v=.agg #[.bool t2,.int .u64 x2,.slice p2 l2 q2,.int .u64 y2,.slice r2 s2 v2],one (aB (ak m2)),one fun v _=>v=.agg #[.int .u64 gx,.slice gp gl gq],one (aB (ak m2 / g)),one (aB (ak m1 / cm*(ak m2 / g))),one fun v W=>IsQ W v R]
      (fun _ W=>Below W5.heap.size W5 W) (by kernel_rfl) (by kernel_rfl) ?hT ?hZ ?hO ?hE
     case hZ=>exact (Below.refl _ _).drew
     case hT =>
      simp only [List.forall_mem_cons,List.not_mem_nil,false_imp_iff,implies_true,and_true]
      exact ⟨aj aA,aj aA,aj aA,aj aA,aj aA,aj aN,aj jX,aj aA,aj aA,aj aN,aj aA,aj aN,aj aN,aj fQ⟩
     case hO =>
      intro u
      simp only [List.take_succ_cons,List.take_zero,aC]
      repeat' (first | with_reducible exact aV | with_reducible refine aX ?_ ?_)
      ·intro W hS hF K hK
       clear hF
       go_simp
       exact hK _ _ (.refl _ _) hS rfl
      ·intro W hS hF K hK
       have h0:u 0=.pointer (some ⟨L8,0,none⟩):=hF.1
       have c0:=cB hS H5.2.2.2.2.1.cs.1 (by omega)
       clear hF
       go_simp
       exact hK _ _ (.refl _ _) hS rfl
      ·intro W hS hF K hK
       clear hF
       go_simp
       exact hK _ _ (.refl _ _) hS rfl
      ·intro W hS hF K hK
       have h2:u 2=.pointer (some ⟨L8,1,none⟩):=hF.1
       have c1:=cB hS H5.2.2.2.2.1.cs.2.1 (by omega)
       have c2:=cB hS H5.2.2.2.2.1.cs.2.2 (by omega)
       clear hF
       go_simp
       exact hK _ _ (.refl _ _) hS rfl
      ·intro W hS hF K hK
       have c0:=cB hS H5.2.2.2.2.2.cs.1 (by omega)
       have c1:=cB hS H5.2.2.2.2.2.cs.2 (by omega)
       clear hF
       go_simp
       exact hK _ _ (.refl _ _) hS rfl
      ·intro W hS hF K hK
       have h3:u 3=.agg #[.int .u64 sx,.slice sp sl sq]:=hF.1
       have h4:u 4=.agg #[.int .u64 gx,.slice gp gl gq]:=hF.2.1
       clear hF
       go_simp
       refine (jd (sN) g (k+k+1) _ _ _ _ _ (H5.2.2.2.2.1.im.below hS) (H5.2.2.2.2.2.im.below hS) hg0.out hk2' kN.out).mono ?_
       rintro e wA ⟨c,d,rfl,hm,hBA⟩
       obtain ⟨xx,pp,ll,qq,rfl,rfl⟩:=hm.shape
       exact ⟨_,rfl,hK _ _ hBA (hS.trans (hBA.mono hS.size)) ⟨_,_,_,_,rfl,hm⟩⟩
      ·intro W hS hF K hK
       have h1:u 1=.bool sB:=hF.1
       obtain ⟨x5,p5,l5,q5,h5,im5⟩:aB (sN / g) (u 5) W:=hF.2.1
       clear hF
       go_simp
       exact hK _ _ (.refl _ _) hS ⟨_,_,_,_,rfl,im5⟩
      ·intro W hS hF K hK
       have c0:=cB hS H5.2.2.1.cs.1 (by omega)
       have c1:=cB hS H5.2.2.1.cs.2 (by omega)
       clear hF
       go_simp
       exact hK _ _ (.refl _ _) hS rfl
      ·intro W hS hF K hK
       have d0:=cB hS H5.1.b2.1 (by omega)
       have d1:=cB hS H5.1.b2.2.1 (by omega)
       have d2:=cB hS H5.1.b2.2.2.1 (by omega)
       have d3:=cB hS H5.1.b2.2.2.2.1 (by omega)
       have d4:=cB hS H5.1.b2.2.2.2.2 (by omega)
       clear hF
       go_simp
       exact hK _ _ (.refl _ _) hS rfl
      ·intro W hS hF K hK
       have h8:u 8=.agg #[.bool t2,.int .u64 x2,.slice p2 l2 q2,.int .u64 y2,.slice r2 s2 v2]:=hF.1
       clear hF
       go_simp
       refine (gY _ _ _ _ _ m2 _ (H5.1.j2.below hS)).mono ?_
       rintro e wA ⟨c,d,rfl,hm,hBA⟩
       obtain ⟨xx,pp,ll,qq,rfl,rfl⟩:=hm.shape
       exact ⟨_,rfl,hK _ _ hBA (hS.trans (hBA.mono hS.size)) ⟨_,_,_,_,rfl,hm⟩⟩
      ·intro W hS hF K hK
       have c0:=cB hS H5.2.2.2.2.2.cs.1 (by omega)
       have c1:=cB hS H5.2.2.2.2.2.cs.2 (by omega)
       clear hF
       go_simp
       exact hK _ _ (.refl _ _) hS rfl
      ·intro W hS hF K hK
       obtain ⟨x9,p9,l9,q9,h9,im9⟩:aB (ak m2) (u 9) W:=hF.1
       have h10:u 10=.agg #[.int .u64 gx,.slice gp gl gq]:=hF.2.1
       clear hF
       go_simp
       refine (jd (ak m2) g (k) _ _ _ _ _ im9 (H5.2.2.2.2.2.im.below hS) hg0.out hk2 HK.out.2.2.2).mono ?_
       rintro e wA ⟨c,d,rfl,hm,hBA⟩
       obtain ⟨xx,pp,ll,qq,rfl,rfl⟩:=hm.shape
       exact ⟨_,rfl,hK _ _ hBA (hS.trans (hBA.mono hS.size)) ⟨_,_,_,_,rfl,hm⟩⟩
      ·intro W hS hF K hK
       have h7:u 7=.agg #[.int .u64 lx,.slice lp ll lq]:=hF.1
       obtain ⟨x11,p11,l11,q11,h11,im11⟩:aB (ak m2 / g) (u 11) W:=hF.2.1
       clear hF
       go_simp
       refine (jr (ak m1 / cm) (ak m2 / g) (k) _ _ _ _ _ (H5.2.2.1.im.below hS) im11 hk3 kl.out kg.out).mono ?_
       rintro e wA ⟨c,d,rfl,hm,hBA⟩
       obtain ⟨xx,pp,ll,qq,rfl,rfl⟩:=hm.shape
       exact ⟨_,rfl,hK _ _ hBA (hS.trans (hBA.mono hS.size)) ⟨_,_,_,_,rfl,hm⟩⟩
      ·intro W hS hF K hK
       obtain ⟨x6,p6,l6,q6,h6,im6⟩:dO sB (sN / g) (u 6) W:=hF.1
       obtain ⟨x12,p12,l12,q12,h12,im12⟩:aB (ak m1 / cm*(ak m2 / g)) (u 12) W:=hF.2.1
       clear hF
       go_simp
       refine (HLow.out _ _ _ _ _ im6 im12).mono ?_
       rintro e wC ⟨v,rfl,hv,hBC⟩
       exact ⟨_,rfl,hK _ _ hBC (hS.trans (hBC.mono hS.size)) hv⟩
     case hE =>
      intro u W hS hF
      have hv:IsQ W (u 13) R:=hF.2.2.2.2.2.2.2.2.2.2.2.2.2.1
      clear hF
      obtain ⟨t0,vx,vp,vl,vq,tx,tp,tl,tq,h13,hv1,hv2,ht⟩:=hv.shape
      have h4:=H5.1.next hS
      obtain ⟨r0,ra,rb,rc,rd,⟨c0,c1,c2,c3,c4⟩,f0,f1,f2,f3,f4⟩:=h4.rs.facts
      obtain ⟨⟨z0,z1,z2,z3,z4⟩,hH⟩:=h4.rs.doneQ h4.bel (by omega) hv1 hv2 ht
      clear h4 hv hv1 hv2 ht hS H5
      simp only [List.take_succ_cons,List.take_zero,aC,List.drop_succ_cons,List.drop_zero]
      go_wp2_with fail
      exact bodyPost_ret (v:=.agg #[.bool t0,.int .u64 vx,.slice vp vl vq,.int .u64 tx,.slice tp tl tq]) (by simp [results,Tryz.results28,go_sem,z0,z1,z2,z3,z4]) rfl ⟨_,rfl,hH.out.1,hH.out.2⟩
theorem IQ (r:Rat) (h:bK r=0):r=(r.num:Rat):=by
 have h1:r.den=1:=by
  unfold bK at h
  by_cases h2:r.den=1
  ·exact h2
  ·rw [if_neg h2] at h
   exact absurd h r.den_nz
 exact Rat.ext rfl h1
theorem qI (r s:Rat) (v1 v2:Value) (k:Nat) (w:World) (h1:IsQ w v1 r) (h2:IsQ w v2 s) (hk:k≤17179869184) (f1:Fits k r) (f2:Fits k s) (hT:Tab w) :
  Calls Tryz.prog 28 #[v1,v2] w (bM w (r+s)):=by
 obtain ⟨t1,x1,p1,l1,q1,y1,r1,s1,u1,rfl,i1,j1,e1⟩:=h1.shape
 obtain ⟨t2,x2,p2,l2,q2,y2,r2,s2,u2,rfl,i2,j2,e2⟩:=h2.shape
 have e1':=e1.out
 have e2':=e2.out
 by_cases z1:r=0
 ·have:=Lj t1 t2 x1 y1 x2 y2 p1 r1 p2 r2 l1 q1 s1 u1 l2 q2 s2 u2 _ _ _ _ w i1 j1 i2 j2 hT s rfl rfl e2 (by rw [e1'];exact (jL r).2 z1)
  rw [z1,Rat.zero_add]
  exact this
 have n1:sgn t1 r.num.natAbs≠0:=by rw [e1'];exact fun h=>z1 ((jL r).1 h)
 by_cases z2:s=0
 ·have:=Ui t1 t2 x1 y1 x2 y2 p1 r1 p2 r2 l1 q1 s1 u1 l2 q2 s2 u2 _ _ _ _ w i1 j1 i2 j2 hT r rfl rfl e1 n1 (by rw [e2'];exact (jL s).2 z2)
  rw [z2,Rat.add_zero]
  exact this
 have n2:sgn t2 s.num.natAbs≠0:=by rw [e2'];exact fun h=>z2 ((jL s).1 h)
 by_cases d1:bK r=0
 ·by_cases d2:bK s=0
  ·have:=UN t1 t2 x1 y1 x2 y2 p1 r1 p2 r2 l1 q1 s1 u1 l2 q2 s2 u2 _ _ _ _ k w i1 j1 i2 j2 hT n1 n2 d1 d2 (by omega) f1.1 f2.1 (by rw [e1'];intro h;have:=of_decide_eq_true h;omega) (by rw [e2'];intro h;have:=of_decide_eq_true h;omega)
   rw [e1',e2',vF,vF,Rat.intCast_add,← IQ r d1,← IQ s d2] at this
   rw [e1',e2']
   exact this
  ·have:=Ig t1 t2 x1 y1 x2 y2 p1 r1 p2 r2 l1 q1 s1 u1 l2 q2 s2 u2 _ _ _ _ k w i1 j1 i2 j2 hT n1 n2 (fun _=>d2) (by rw [bZ];exact r.reduced) (by rw [bZ];exact s.reduced) hk f1.1 (by rw [bZ];exact f1.2) f2.1 (by rw [bZ];exact f2.2) (by rw [bZ];exact r.den_nz) (by rw [bZ];exact s.den_nz)
   rw [e1',e2',qw,qw] at this
   rw [e1',e2']
   exact this
 ·have:=Ig t1 t2 x1 y1 x2 y2 p1 r1 p2 r2 l1 q1 s1 u1 l2 q2 s2 u2 _ _ _ _ k w i1 j1 i2 j2 hT n1 n2 (fun h=>absurd h d1) (by rw [bZ];exact r.reduced) (by rw [bZ];exact s.reduced) hk f1.1 (by rw [bZ];exact f1.2) f2.1 (by rw [bZ];exact f2.2) (by rw [bZ];exact r.den_nz) (by rw [bZ];exact s.den_nz)
  rw [e1',e2',qw,qw] at this
  rw [e1',e2']
  exact this
end
end Go.Proofs.YtnmlkobogofadaaGreatDoor
