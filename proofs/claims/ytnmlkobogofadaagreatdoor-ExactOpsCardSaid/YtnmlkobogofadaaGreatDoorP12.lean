/- What the proof rests on, part 12. -/
import Derived.Test.YtnmlkobogofadaaGreatDoorP11
import Derived.Test.YtnmlkobogofadaaGreatDoorP05
namespace Go.Proofs.YtnmlkobogofadaaGreatDoor
set_option maxRecDepth 100000
set_option maxHeartbeats 80000000
section
open Go.RowKit Go.Sort
attribute [local go_sem] takes dF dG dD
theorem NK (t1 t2:Bool) (x1 y1 x2 y2:Int) (p1 r1 p2 r2:Option Addr) (l1 q1 s1 v1 l2 q2 s2 v2 n1 m1 n2 m2:Nat) (w:World)
  (i1:ah w (.int .u64 x1) (.slice p1 l1 q1) n1) (j1:ah w (.int .u64 y1) (.slice r1 s1 v1) m1) (i2:ah w (.int .u64 x2) (.slice p2 l2 q2) n2) (j2:ah w (.int .u64 y2) (.slice r2 s2 v2) m2) (hT:Tab w) (h1:sgn t1 n1=0) :
  Calls Tryz.prog 32 #[.agg #[.bool t1,.int .u64 x1,.slice p1 l1 q1,.int .u64 y1,.slice r1 s1 v1],.agg #[.bool t2,.int .u64 x2,.slice p2 l2 q2,.int .u64 y2,.slice r2 s2 v2]] w (bM w 0):=by
 have hsg:=hid (fun (W:World) (h:ah W (.int .u64 x1) (.slice p1 l1 q1) n1)=>iq t1 _ _ (.int .u64 y1) (.slice r1 s1 v1) n1 W h)
 rw [h1] at hsg
 clear h1
 have h0:=bn.start t1 t2 (.int .u64 x1) (.slice p1 l1 q1) (.int .u64 y1) (.slice r1 s1 v1) (.int .u64 x2) (.slice p2 l2 q2) (.int .u64 y2) (.slice r2 s2 v2) n1 m1 n2 m2 31 31 31 i1 j1 i2 j2 hT
 have H0:=hid h0
 clear h0 i1 j1 i2 j2 hT
 go_enter Tryz.func32,Tryz.ntmps32
 go_wp2_with fail
 obtain ⟨W0,hW0⟩:∃ W0,((w.alloc (.cells #[.bool t1,.int .u64 x1,.slice p1 l1 q1,.int .u64 y1,.slice r1 s1 v1] 31)).alloc (.cells #[.bool t2,.int .u64 x2,.slice p2 l2 q2,.int .u64 y2,.slice r2 s2 v2] 31)).alloc (.cells #[.bool false,.int .u64 0,.slice none 0 0,.int .u64 0,.slice none 0 0] 31)=W0:=⟨_,rfl⟩
 rw [hW0] at H0 ⊢
 clear hW0
 refine (hsg.out _ H0.out.i1).mono ?_
 rintro e w1 ⟨rfl,hB1⟩
 have h1:=H0.out.next hB1
 obtain ⟨r0,ra,rb,rc,rd,⟨c0,c1,c2,c3,c4⟩,f0,f1,f2,f3,f4⟩:=h1.rs.facts
 obtain ⟨⟨z0,z1,z2,z3,z4⟩,hH⟩:=h1.rs.done (v0:=.bool false) h1.bel (by omega) (gZ w1) (gZ w1)
 clear h1 hB1 H0 hsg
 go_wp2_with fail
 exact bodyPost_ret (v:=.agg #[.bool false,.int .u64 0,.slice none 0 0,.int .u64 0,.slice none 0 0]) (by simp [results,Tryz.results32,go_sem,z0,z1,z2,z3,z4]) rfl ⟨_,rfl,nX _,hH.out.2.2⟩
theorem Oo (t1 t2:Bool) (x1 y1 x2 y2:Int) (p1 r1 p2 r2:Option Addr) (l1 q1 s1 v1 l2 q2 s2 v2 n1 m1 n2 m2:Nat) (w:World)
  (i1:ah w (.int .u64 x1) (.slice p1 l1 q1) n1) (j1:ah w (.int .u64 y1) (.slice r1 s1 v1) m1) (i2:ah w (.int .u64 x2) (.slice p2 l2 q2) n2) (j2:ah w (.int .u64 y2) (.slice r2 s2 v2) m2) (hT:Tab w) (h1:sgn t1 n1≠0) (h2:sgn t2 n2=0) :
  Calls Tryz.prog 32 #[.agg #[.bool t1,.int .u64 x1,.slice p1 l1 q1,.int .u64 y1,.slice r1 s1 v1],.agg #[.bool t2,.int .u64 x2,.slice p2 l2 q2,.int .u64 y2,.slice r2 s2 v2]] w (bM w 0):=by
 have hsg:=hid (fun (W:World) (h:ah W (.int .u64 x1) (.slice p1 l1 q1) n1)=>iq t1 _ _ (.int .u64 y1) (.slice r1 s1 v1) n1 W h)
 have hsh:=hid (fun (W:World) (h:ah W (.int .u64 x2) (.slice p2 l2 q2) n2)=>iq t2 _ _ (.int .u64 y2) (.slice r2 s2 v2) n2 W h)
 rw [h2] at hsh
 obtain ⟨sg,hs⟩:∃ s,sgn t1 n1=s:=⟨_,rfl⟩
 rw [hs] at hsg h1
 have t:(sg == 0)=false:=by rw [beq_eq_false_iff_ne];exact h1
 clear h1 h2 hs
 have h0:=bn.start t1 t2 (.int .u64 x1) (.slice p1 l1 q1) (.int .u64 y1) (.slice r1 s1 v1) (.int .u64 x2) (.slice p2 l2 q2) (.int .u64 y2) (.slice r2 s2 v2) n1 m1 n2 m2 31 31 31 i1 j1 i2 j2 hT
 have H0:=hid h0
 clear h0 i1 j1 i2 j2 hT
 go_enter Tryz.func32,Tryz.ntmps32
 go_wp2_with fail
 obtain ⟨W0,hW0⟩:∃ W0,((w.alloc (.cells #[.bool t1,.int .u64 x1,.slice p1 l1 q1,.int .u64 y1,.slice r1 s1 v1] 31)).alloc (.cells #[.bool t2,.int .u64 x2,.slice p2 l2 q2,.int .u64 y2,.slice r2 s2 v2] 31)).alloc (.cells #[.bool false,.int .u64 0,.slice none 0 0,.int .u64 0,.slice none 0 0] 31)=W0:=⟨_,rfl⟩
 rw [hW0] at H0 ⊢
 clear hW0
 refine (hsg.out _ H0.out.i1).mono ?_
 rintro e w1 ⟨rfl,hB1⟩
 have H1:=hid (H0.out.next hB1)
 clear hB1 H0 hsg
 obtain ⟨d0,d1,d2,d3,d4⟩:=H1.out.b2
 go_wp2_with fail
 refine (hsh.out _ H1.out.i2).mono ?_
 rintro e w2 ⟨rfl,hB2⟩
 have h1:=H1.out.next hB2
 obtain ⟨r0,ra,rb,rc,rd,⟨c0,c1,c2,c3,c4⟩,f0,f1,f2,f3,f4⟩:=h1.rs.facts
 obtain ⟨⟨z0,z1,z2,z3,z4⟩,hH⟩:=h1.rs.done (v0:=.bool false) h1.bel (by omega) (gZ w2) (gZ w2)
 clear h1 hB2 H1 hsh d0 d1 d2 d3 d4
 go_wp2_with fail
 exact bodyPost_ret (v:=.agg #[.bool false,.int .u64 0,.slice none 0 0,.int .u64 0,.slice none 0 0]) (by simp [results,Tryz.results32,go_sem,z0,z1,z2,z3,z4]) rfl ⟨_,rfl,nX _,hH.out.2.2⟩
theorem Ot (t1 t2:Bool) (x1 y1 x2 y2:Int) (p1 r1 p2 r2:Option Addr) (l1 q1 s1 v1 l2 q2 s2 v2 n1 m1 n2 m2 k:Nat) (w:World)
  (i1:ah w (.int .u64 x1) (.slice p1 l1 q1) n1) (j1:ah w (.int .u64 y1) (.slice r1 s1 v1) m1) (i2:ah w (.int .u64 x2) (.slice p2 l2 q2) n2) (j2:ah w (.int .u64 y2) (.slice r2 s2 v2) m2) (hT:Tab w) (h1:sgn t1 n1≠0) (h2:sgn t2 n2≠0) (o1:Nat.Coprime n1 (ak m1)) (o2:Nat.Coprime n2 (ak m2)) (hk:k≤34359738368) (k1:n1<B64 ^ k) (k2:ak m1<B64 ^ k) (k3:n2<B64 ^ k) (k4:ak m2<B64 ^ k) (e1:ak m1≠0) (e2:ak m2≠0) :
  Calls Tryz.prog 32 #[.agg #[.bool t1,.int .u64 x1,.slice p1 l1 q1,.int .u64 y1,.slice r1 s1 v1],.agg #[.bool t2,.int .u64 x2,.slice p2 l2 q2,.int .u64 y2,.slice r2 s2 v2]] w (bM w (mkRat (zs t1 n1) (ak m1)*mkRat (zs t2 n2) (ak m2))):=by
 have hsg:=hid (fun (W:World) (h:ah W (.int .u64 x1) (.slice p1 l1 q1) n1)=>iq t1 _ _ (.int .u64 y1) (.slice r1 s1 v1) n1 W h)
 have hsh:=hid (fun (W:World) (h:ah W (.int .u64 x2) (.slice p2 l2 q2) n2)=>iq t2 _ _ (.int .u64 y2) (.slice r2 s2 v2) n2 W h)
 obtain ⟨sg,hs⟩:∃ s,sgn t1 n1=s:=⟨_,rfl⟩
 rw [hs] at hsg h1
 have ta:(sg == 0)=false:=by rw [beq_eq_false_iff_ne];exact h1
 obtain ⟨sh,hs'⟩:∃ s,sgn t2 n2=s:=⟨_,rfl⟩
 rw [hs'] at hsh h2
 have tb:(sh == 0)=false:=by rw [beq_eq_false_iff_ne];exact h2
 clear h1 h2 hs hs'
 have HP:=hid (UU t1 t2 n1 (ak m1) n2 (ak m2) o1 o2 e1 e2)
 have HK:=hid (And.intro k1 (And.intro k2 (And.intro k3 k4)))
 have HGa:=hid (fun (W:World) (c d:Value) (h:ah W (.int .u64 x1) (.slice p1 l1 q1) n1) (h':ah W c d (ak m2)) (hT:Tab W)=>rG n1 (ak m2) k _ _ _ _ W h h' (by omega) k1 k4 hT)
 have HGb:=hid (fun (W:World) (c d:Value) (h:ah W (.int .u64 x2) (.slice p2 l2 q2) n2) (h':ah W c d (ak m1)) (hT:Tab W)=>rG n2 (ak m1) k _ _ _ _ W h h' (by omega) k3 k2 hT)
 obtain ⟨g,hg⟩:∃ g,Nat.gcd n1 (ak m2)=g:=⟨_,rfl⟩
 obtain ⟨h,hh⟩:∃ h,Nat.gcd n2 (ak m1)=h:=⟨_,rfl⟩
 rw [hg] at HGa HP
 rw [hh] at HGb HP
 obtain ⟨R,hR⟩:∃ R,mkRat (zs t1 n1) (ak m1)*mkRat (zs t2 n2) (ak m2)=R:=⟨_,rfl⟩
 rw [hR] at HP ⊢
 clear hg hh hR o1 o2 k1 k2 k3 k4 e1 e2
 have h0:=bn.start t1 t2 (.int .u64 x1) (.slice p1 l1 q1) (.int .u64 y1) (.slice r1 s1 v1) (.int .u64 x2) (.slice p2 l2 q2) (.int .u64 y2) (.slice r2 s2 v2) n1 m1 n2 m2 31 31 31 i1 j1 i2 j2 hT
 have H0:=hid h0
 clear h0 i1 j1 i2 j2 hT
 go_enter Tryz.func32,Tryz.ntmps32
 go_wp2_with fail
 obtain ⟨W0,hW0⟩:∃ W0,((w.alloc (.cells #[.bool t1,.int .u64 x1,.slice p1 l1 q1,.int .u64 y1,.slice r1 s1 v1] 31)).alloc (.cells #[.bool t2,.int .u64 x2,.slice p2 l2 q2,.int .u64 y2,.slice r2 s2 v2] 31)).alloc (.cells #[.bool false,.int .u64 0,.slice none 0 0,.int .u64 0,.slice none 0 0] 31)=W0:=⟨_,rfl⟩
 rw [hW0] at H0 ⊢
 clear hW0
 refine (hsg.out _ H0.out.i1).mono ?_
 rintro e w1 ⟨rfl,hB1⟩
 have H1:=hid (H0.out.next hB1)
 clear hB1 H0 hsg
 obtain ⟨d0,d1,d2,d3,d4⟩:=H1.out.b2
 go_wp2_with fail
 refine (hsh.out _ H1.out.i2).mono ?_
 rintro e W1 ⟨rfl,hB2⟩
 replace H1:=hid (H1.out.next hB2)
 clear hB2 hsh d0 d1 d2 d3 d4
 go_wp2_with fail
 have H1':bn w W1 t1 (.int .u64 x1) (.slice p1 l1 q1) (.int .u64 y1) (.slice r1 s1 v1) t2 (.int .u64 x2) (.slice p2 l2 q2) (.int .u64 y2) (.slice r2 s2 v2) n1 m1 n2 m2:=H1.out
 have hsz:=H1'.sz
 have SS:∀ {W W':World} {u:Nat→Value},Below W.heap.size W W'→Below W1.heap.size W1 W∧(∀ L L',u 12=.pointer (some ⟨L,0,none⟩)→u 13=.pointer (some ⟨L',0,none⟩)→L≠L')∧(∀ L,u 12=.pointer (some ⟨L,0,none⟩)→L<W.heap.size)∧(∀ L,u 13=.pointer (some ⟨L,0,none⟩)→L<W.heap.size)→(Below W1.heap.size W1 W'∧(∀ L L',u 12=.pointer (some ⟨L,0,none⟩)→u 13=.pointer (some ⟨L',0,none⟩)→L≠L')∧(∀ L,u 12=.pointer (some ⟨L,0,none⟩)→L<W'.heap.size)∧(∀ L,u 13=.pointer (some ⟨L,0,none⟩)→L<W'.heap.size)):=fun hb ⟨h1,h2,h3,h4⟩=>⟨h1.trans (hb.mono h1.size),h2,fun L e=>Nat.lt_of_lt_of_le (h3 L e) hb.size,fun L e=>Nat.lt_of_lt_of_le (h4 L e) hb.size⟩
 refine bC 14 [⟨[],[0]⟩,⟨[0],[1]⟩,⟨[1],[2]⟩,⟨[],[3]⟩,⟨[3],[4]⟩,⟨[2,4],[5]⟩,⟨[],[6]⟩,⟨[6],[7]⟩,⟨[7],[8]⟩,⟨[],[9]⟩,⟨[9],[10]⟩,⟨[8,10],[11]⟩,⟨[],[12]⟩,⟨[],[13]⟩]
  [one fun v _=>v=.pointer (some ⟨w.heap.size,0,none⟩),one fun v _=>v=.pointer (some ⟨w.heap.size,1,none⟩),one fun v _=>v=.agg #[.int .u64 x1,.slice p1 l1 q1],one fun v _=>v=.agg #[.bool t2,.int .u64 x2,.slice p2 l2 q2,.int .u64 y2,.slice r2 s2 v2],one (aB (ak m2)),one (aB g),one fun v _=>v=.pointer (some ⟨w.heap.size+1,0,none⟩),one fun v _=>v=.pointer (some ⟨w.heap.size+1,1,none⟩),one fun v _=>v=.agg #[.int .u64 x2,.slice p2 l2 q2],one fun v _=>v=.agg #[.bool t1,.int .u64 x1,.slice p1 l1 q1,.int .u64 y1,.slice r1 s1 v1],one (aB (ak m1)),one (aB h),one (iD W1.heap.size),one (iD W1.heap.size)]
  (fun u W=>Below W1.heap.size W1 W∧(∀ L L',u 12=.pointer (some ⟨L,0,none⟩)→u 13=.pointer (some ⟨L',0,none⟩)→L≠L')∧(∀ L,u 12=.pointer (some ⟨L,0,none⟩)→L<W.heap.size)∧(∀ L,u 13=.pointer (some ⟨L,0,none⟩)→L<W.heap.size)) (by kernel_rfl) (by kernel_rfl) ?hT ?hZ ?hO ?hE
 case hZ=>exact ⟨(Below.refl _ _).drew,fun L L' e=>(by cases e),fun L e=>(by cases e),fun L e=>(by cases e)⟩
 case hT =>
  simp only [List.forall_mem_cons,List.not_mem_nil,false_imp_iff,implies_true,and_true]
  exact ⟨aj aA,aj aA,aj aA,aj aA,aj aN,aj aN,aj aA,aj aA,aj aA,aj aA,aj aN,aj aN,aj qh,aj qh⟩
 case hO =>
  intro u
  simp only [List.take_succ_cons,List.take_zero,aC]
  repeat' (first | with_reducible exact aV | with_reducible refine aX ?_ ?_)
  ·intro W hS hF K hK
   clear hF
   go_simp
   exact hK _ _ (.refl _ _) hS rfl
  ·intro W hS hF K hK
   have h0:u 0=.pointer (some ⟨w.heap.size,0,none⟩):=hF.1
   clear hF
   go_simp
   exact hK _ _ (.refl _ _) hS rfl
  ·intro W hS hF K hK
   have h1:u 1=.pointer (some ⟨w.heap.size,1,none⟩):=hF.1
   have c1:=cB hS.1 H1'.b1.2.1 (by omega)
   have c2:=cB hS.1 H1'.b1.2.2.1 (by omega)
   clear hF
   go_simp
   exact hK _ _ (.refl _ _) hS rfl
  ·intro W hS hF K hK
   have d0:=cB hS.1 H1'.b2.1 (by omega)
   have d1:=cB hS.1 H1'.b2.2.1 (by omega)
   have d2:=cB hS.1 H1'.b2.2.2.1 (by omega)
   have d3:=cB hS.1 H1'.b2.2.2.2.1 (by omega)
   have d4:=cB hS.1 H1'.b2.2.2.2.2 (by omega)
   clear hF
   go_simp
   exact hK _ _ (.refl _ _) hS rfl
  ·intro W hS hF K hK
   have h3:u 3=.agg #[.bool t2,.int .u64 x2,.slice p2 l2 q2,.int .u64 y2,.slice r2 s2 v2]:=hF.1
   clear hF
   go_simp
   refine (gY _ _ _ _ _ m2 _ (H1.out.j2.below hS.1)).mono ?_
   rintro e wA ⟨c,d,rfl,hm,hBA⟩
   obtain ⟨xx,pp,ll,qq,rfl,rfl⟩:=hm.shape
   exact ⟨_,rfl,hK _ _ hBA (SS hBA hS) ⟨_,_,_,_,rfl,hm⟩⟩
  ·intro W hS hF K hK
   have h2:u 2=.agg #[.int .u64 x1,.slice p1 l1 q1]:=hF.1
   obtain ⟨x4,p4,l4,q4,h4,m4⟩:aB (ak m2) (u 4) W:=hF.2.1
   clear hF
   go_simp
   refine (HGa.out _ _ _ (H1.out.i1.below hS.1) m4 (H1.out.tab.below hS.1 (Nat.le_refl _))).mono ?_
   rintro e wA ⟨c,d,rfl,hm,hBA⟩
   obtain ⟨xx,pp,ll,qq,rfl,rfl⟩:=hm.shape
   exact ⟨_,rfl,hK _ _ hBA (SS hBA hS) ⟨_,_,_,_,rfl,hm⟩⟩
  ·intro W hS hF K hK
   clear hF
   go_simp
   exact hK _ _ (.refl _ _) hS rfl
  ·intro W hS hF K hK
   have h6:u 6=.pointer (some ⟨w.heap.size+1,0,none⟩):=hF.1
   clear hF
   go_simp
   exact hK _ _ (.refl _ _) hS rfl
  ·intro W hS hF K hK
   have h7:u 7=.pointer (some ⟨w.heap.size+1,1,none⟩):=hF.1
   have d1:=cB hS.1 H1'.b2.2.1 (by omega)
   have d2:=cB hS.1 H1'.b2.2.2.1 (by omega)
   clear hF
   go_simp
   exact hK _ _ (.refl _ _) hS rfl
  ·intro W hS hF K hK
   have c0:=cB hS.1 H1'.b1.1 (by omega)
   have c1:=cB hS.1 H1'.b1.2.1 (by omega)
   have c2:=cB hS.1 H1'.b1.2.2.1 (by omega)
   have c3:=cB hS.1 H1'.b1.2.2.2.1 (by omega)
   have c4:=cB hS.1 H1'.b1.2.2.2.2 (by omega)
   clear hF
   go_simp
   exact hK _ _ (.refl _ _) hS rfl
  ·intro W hS hF K hK
   have h9:u 9=.agg #[.bool t1,.int .u64 x1,.slice p1 l1 q1,.int .u64 y1,.slice r1 s1 v1]:=hF.1
   clear hF
   go_simp
   refine (gY _ _ _ _ _ m1 _ (H1.out.j1.below hS.1)).mono ?_
   rintro e wA ⟨c,d,rfl,hm,hBA⟩
   obtain ⟨xx,pp,ll,qq,rfl,rfl⟩:=hm.shape
   exact ⟨_,rfl,hK _ _ hBA (SS hBA hS) ⟨_,_,_,_,rfl,hm⟩⟩
  ·intro W hS hF K hK
   have h8:u 8=.agg #[.int .u64 x2,.slice p2 l2 q2]:=hF.1
   obtain ⟨x10,p10,l10,q10,h10,m10⟩:aB (ak m1) (u 10) W:=hF.2.1
   clear hF
   go_simp
   refine (HGb.out _ _ _ (H1.out.i2.below hS.1) m10 (H1.out.tab.below hS.1 (Nat.le_refl _))).mono ?_
   rintro e wA ⟨c,d,rfl,hm,hBA⟩
   obtain ⟨xx,pp,ll,qq,rfl,rfl⟩:=hm.shape
   exact ⟨_,rfl,hK _ _ hBA (SS hBA hS) ⟨_,_,_,_,rfl,hm⟩⟩
  ·intro W hS hF K hK
   clear hF
   go_simp
   exact hK _ _ ((Below.refl _ _).alloc (Nat.le_refl _) _) ⟨hS.1.alloc hS.1.size _,fun L L' e1 e2=>by cases e1;have:=hS.2.2.2 L' e2;omega,fun L e1=>by cases e1;simp,fun L e1=>by have:=hS.2.2.2 L e1;simp;omega⟩ ⟨_,rfl,hS.1.size,by simp,oW _ _⟩
  ·intro W hS hF K hK
   clear hF
   go_simp
   exact hK _ _ ((Below.refl _ _).alloc (Nat.le_refl _) _) ⟨hS.1.alloc hS.1.size _,fun L L' e1 e2=>by cases e2;have:=hS.2.2.1 L e1;omega,fun L e1=>by have:=hS.2.2.1 L e1;simp;omega,fun L e1=>by cases e1;simp⟩ ⟨_,rfl,hS.1.size,by simp,oW _ _⟩
 case hE =>
  intro u W hS hF
  obtain ⟨gx,gp,gl,gq,h5,m5⟩:aB g (u 5) W:=hF.2.2.2.2.2.1
  obtain ⟨hx,hp,hl,hq,h11,m11⟩:aB h (u 11) W:=hF.2.2.2.2.2.2.2.2.2.2.2.1
  obtain ⟨L,h12,b12,l12,s12⟩:iD W1.heap.size (u 12) W:=hF.2.2.2.2.2.2.2.2.2.2.2.2.1
  obtain ⟨L',h13,b13,l13,s13⟩:iD W1.heap.size (u 13) W:=hF.2.2.2.2.2.2.2.2.2.2.2.2.2.1
  have hne:=hS.2.1 L L' h12 h13
  have hQ:=H1'.next hS.1
  have s13':Slot (set2 W L (.int .u64 gx) (.slice gp gl gq)) L':=s13.set L _ _ _ _
  have hQ2:=(hQ.set2 (u:=.int .u64 gx) (v:=.slice gp gl gq) (by omega) s12).set2 (u:=.int .u64 hx) (v:=.slice hp hl hq) (by omega) s13'
  have hLg:=(Loc.own (w:=w) s12 m5 (by omega) l12).far (u:=.int .u64 hx) (v:=.slice hp hl hq) s13' hne
  have hLh:=Loc.own (w:=w) s13' (s12.mag (u:=.int .u64 gx) (v:=.slice gp gl gq) m11) (by omega) (by simpa using l13)
  have HA:=hid (And.intro hQ2 (And.intro hLg hLh))
  obtain ⟨⟨ya,ka⟩,⟨ua,ub,uc,kb⟩,kc,kd⟩:=s12
  obtain ⟨⟨yb,ke⟩,⟨va,vb,vc,kf⟩,kg,kh⟩:=s13
  have hne':¬ L' = L:=fun e=>hne e.symm
  clear hF hS hQ s13' hQ2 hLg hLh m5 m11 SS H1' H1 HGa HGb
  simp only [List.take_succ_cons,List.take_zero,aC,List.drop_succ_cons,List.drop_zero]
  go_wp2_with fail
  obtain ⟨W2,hW2⟩:∃ W2,(((W.setCell ⟨L,0,none⟩ (.int .u64 gx)).setCell ⟨L,1,none⟩ (.slice gp gl gq)).setCell ⟨L',0,none⟩ (.int .u64 hx)).setCell ⟨L',1,none⟩ (.slice hp hl hq)=W2:=⟨_,rfl⟩
  rw [hW2]
  have HA2:Hid (bn w W2 t1 (.int .u64 x1) (.slice p1 l1 q1) (.int .u64 y1) (.slice r1 s1 v1) t2 (.int .u64 x2) (.slice p2 l2 q2) (.int .u64 y2) (.slice r2 s2 v2) n1 m1 n2 m2∧Loc w W2 L (.int .u64 gx) (.slice gp gl gq) g∧Loc w W2 L' (.int .u64 hx) (.slice hp hl hq) h):=by rw [← hW2];exact HA
  clear hW2 HA ka kb kc kd ke kf kg kh l12 l13 b12 b13 h5 h11 h12 h13
  have H2:=HA2.out
  have hsz2:=H2.1.sz
  have hLs:=H2.2.1.hi
  have hLs':=H2.2.2.hi
  have hg0:=hid (Nat.pos_of_ne_zero HP.out.1)
  have hh0:=hid (Nat.pos_of_ne_zero HP.out.2.1)
  have hk2:k≤137438953472:=by omega
  have hk3:k≤68719476736:=by omega
  have hk4:k+k≤68719476736:=by omega
  have kn1:=hid (Nat.lt_of_le_of_lt (Nat.div_le_self n1 g) HK.out.1)
  have kn2:=hid (Nat.lt_of_le_of_lt (Nat.div_le_self n2 h) HK.out.2.2.1)
  have kd1:=hid (Nat.lt_of_le_of_lt (Nat.div_le_self (ak m1) h) HK.out.2.1)
  have kd2:=hid (Nat.lt_of_le_of_lt (Nat.div_le_self (ak m2) g) HK.out.2.2.2)
  refine bC 12 [⟨[],[0]⟩,⟨[0],[1]⟩,⟨[1],[2]⟩,⟨[],[3]⟩,⟨[2,3],[4]⟩,⟨[],[5]⟩,⟨[5],[6]⟩,⟨[6],[7]⟩,⟨[],[8]⟩,⟨[7,8],[9]⟩,⟨[4,9],[10]⟩,⟨[],[11]⟩]
   [one fun v _=>v=.pointer (some ⟨w.heap.size,0,none⟩),one fun v _=>v=.pointer (some ⟨w.heap.size,1,none⟩),one fun v _=>v=.agg #[.int .u64 x1,.slice p1 l1 q1],one fun v _=>v=.agg #[.int .u64 gx,.slice gp gl gq],one (aB (n1 / g)),one fun v _=>v=.pointer (some ⟨w.heap.size+1,0,none⟩),one fun v _=>v=.pointer (some ⟨w.heap.size+1,1,none⟩),one fun v _=>v=.agg #[.int .u64 x2,.slice p2 l2 q2],one fun v _=>v=.agg #[.int .u64 hx,.slice hp hl hq],one (aB (n2 / h)),one (aB (n1 / g*(n2 / h))),one (iD W2.heap.size)]
   (fun _ W=>Below W2.heap.size W2 W) (by kernel_rfl) (by kernel_rfl) ?hT ?hZ ?hO ?hE
  case hZ=>exact (Below.refl _ _).drew
  case hT =>
   simp only [List.forall_mem_cons,List.not_mem_nil,false_imp_iff,implies_true,and_true]
   exact ⟨aj aA,aj aA,aj aA,aj aA,aj aN,aj aA,aj aA,aj aA,aj aA,aj aN,aj aN,aj qh⟩
  case hO =>
   intro u
   simp only [List.take_succ_cons,List.take_zero,aC]
   repeat' (first | with_reducible exact aV | with_reducible refine aX ?_ ?_)
   ·intro W hS hF K hK
    clear hF
    go_simp
    exact hK _ _ (.refl _ _) hS rfl
   ·intro W hS hF K hK
    have h0:u 0=.pointer (some ⟨w.heap.size,0,none⟩):=hF.1
    clear hF
    go_simp
    exact hK _ _ (.refl _ _) hS rfl
   ·intro W hS hF K hK
    have h1:u 1=.pointer (some ⟨w.heap.size,1,none⟩):=hF.1
    have c1:=cB hS H2.1.b1.2.1 (by omega)
    have c2:=cB hS H2.1.b1.2.2.1 (by omega)
    clear hF
    go_simp
    exact hK _ _ (.refl _ _) hS rfl
   ·intro W hS hF K hK
    have c0:=cB hS H2.2.1.cs.1 (by omega)
    have c1:=cB hS H2.2.1.cs.2 (by omega)
    clear hF
    go_simp
    exact hK _ _ (.refl _ _) hS rfl
   ·intro W hS hF K hK
    have h2:u 2=.agg #[.int .u64 x1,.slice p1 l1 q1]:=hF.1
    have h3:u 3=.agg #[.int .u64 gx,.slice gp gl gq]:=hF.2.1
    clear hF
    go_simp
    refine (jd n1 g k _ _ _ _ _ (H2.1.i1.below hS) (H2.2.1.im.below hS) hg0.out hk2 HK.out.1).mono ?_
    rintro e wA ⟨c,d,rfl,hm,hBA⟩
    obtain ⟨xx,pp,ll,qq,rfl,rfl⟩:=hm.shape
    exact ⟨_,rfl,hK _ _ hBA (hS.trans (hBA.mono hS.size)) ⟨_,_,_,_,rfl,hm⟩⟩
   ·intro W hS hF K hK
    clear hF
    go_simp
    exact hK _ _ (.refl _ _) hS rfl
   ·intro W hS hF K hK
    have h5:u 5=.pointer (some ⟨w.heap.size+1,0,none⟩):=hF.1
    clear hF
    go_simp
    exact hK _ _ (.refl _ _) hS rfl
   ·intro W hS hF K hK
    have h6:u 6=.pointer (some ⟨w.heap.size+1,1,none⟩):=hF.1
    have c1:=cB hS H2.1.b2.2.1 (by omega)
    have c2:=cB hS H2.1.b2.2.2.1 (by omega)
    clear hF
    go_simp
    exact hK _ _ (.refl _ _) hS rfl
   ·intro W hS hF K hK
    have c0:=cB hS H2.2.2.cs.1 (by omega)
    have c1:=cB hS H2.2.2.cs.2 (by omega)
    clear hF
    go_simp
    exact hK _ _ (.refl _ _) hS rfl
   ·intro W hS hF K hK
    have h7:u 7=.agg #[.int .u64 x2,.slice p2 l2 q2]:=hF.1
    have h8:u 8=.agg #[.int .u64 hx,.slice hp hl hq]:=hF.2.1
    clear hF
    go_simp
    refine (jd n2 h k _ _ _ _ _ (H2.1.i2.below hS) (H2.2.2.im.below hS) hh0.out hk2 HK.out.2.2.1).mono ?_
    rintro e wA ⟨c,d,rfl,hm,hBA⟩
    obtain ⟨xx,pp,ll,qq,rfl,rfl⟩:=hm.shape
    exact ⟨_,rfl,hK _ _ hBA (hS.trans (hBA.mono hS.size)) ⟨_,_,_,_,rfl,hm⟩⟩
   ·intro W hS hF K hK
    obtain ⟨x4,p4,l4,q4,h4,m4⟩:aB (n1 / g) (u 4) W:=hF.1
    obtain ⟨x9,p9,l9,q9,h9,m9⟩:aB (n2 / h) (u 9) W:=hF.2.1
    clear hF
    go_simp
    refine (jr (n1 / g) (n2 / h) k _ _ _ _ _ m4 m9 hk3 kn1.out kn2.out).mono ?_
    rintro e wA ⟨c,d,rfl,hm,hBA⟩
    obtain ⟨xx,pp,ll,qq,rfl,rfl⟩:=hm.shape
    exact ⟨_,rfl,hK _ _ hBA (hS.trans (hBA.mono hS.size)) ⟨_,_,_,_,rfl,hm⟩⟩
   ·intro W hS hF K hK
    clear hF
    go_simp
    exact hK _ _ ((Below.refl _ _).alloc (Nat.le_refl _) _) (hS.alloc hS.size _) ⟨_,rfl,hS.size,by simp,oW _ _⟩
  case hE =>
   intro u W hS hF
   obtain ⟨zx,zp,zl,zq,h10,m10⟩:aB (n1 / g*(n2 / h)) (u 10) W:=hF.2.2.2.2.2.2.2.2.2.2.1
   obtain ⟨L2,h11,b11,l11,s11⟩:iD W2.heap.size (u 11) W:=hF.2.2.2.2.2.2.2.2.2.2.2.1
   have hB:=hid (And.intro ((H2.1.next hS).set2 (u:=.int .u64 zx) (v:=.slice zp zl zq) (by omega) s11) (And.intro ((H2.2.1.next hS).far (u:=.int .u64 zx) (v:=.slice zp zl zq) s11 (by omega)) (And.intro ((H2.2.2.next hS).far (u:=.int .u64 zx) (v:=.slice zp zl zq) s11 (by omega)) (Loc.own (w:=w) s11 m10 (by omega) l11))))
   obtain ⟨⟨ya,ka⟩,⟨ua,ub,uc,kb⟩,kc,kd⟩:=s11
   clear hF hS m10 H2 hLs hLs' hsz2
   simp only [List.take_succ_cons,List.take_zero,aC,List.drop_succ_cons,List.drop_zero]
   go_wp2_with fail
   obtain ⟨W3,hW3⟩:∃ W3,(W.setCell ⟨L2,0,none⟩ (.int .u64 zx)).setCell ⟨L2,1,none⟩ (.slice zp zl zq)=W3:=⟨_,rfl⟩
   rw [hW3]
   have HB3:Hid (bn w W3 t1 (.int .u64 x1) (.slice p1 l1 q1) (.int .u64 y1) (.slice r1 s1 v1) t2 (.int .u64 x2) (.slice p2 l2 q2) (.int .u64 y2) (.slice r2 s2 v2) n1 m1 n2 m2∧Loc w W3 L (.int .u64 gx) (.slice gp gl gq) g∧Loc w W3 L' (.int .u64 hx) (.slice hp hl hq) h∧Loc w W3 L2 (.int .u64 zx) (.slice zp zl zq) (n1 / g*(n2 / h))):=by rw [← hW3];exact hB
   clear hW3 hB ka kb kc kd l11 b11 h10 h11 HA2
   have H3:=HB3.out
   have hsz3:=H3.1.sz
   have hL1:=H3.2.1.hi
   have hL2:=H3.2.2.1.hi
   have hL3:=H3.2.2.2.hi
   have HLow:=hid (fun (W:World) (c d e f:Value) (h1:ah W c d (n1 / g*(n2 / h))) (h2:ah W e f (ak m1 / h*(ak m2 / g)))=>vM (t1 != t2) c d e f _ _ W h1 h2 HP.out.2.2.1 HP.out.2.2.2.1)
   rw [HP.out.2.2.2.2] at HLow
   refine bC 19 [⟨[],[0]⟩,⟨[0],[1]⟩,⟨[1],[2]⟩,⟨[],[3]⟩,⟨[3],[4]⟩,⟨[4],[5]⟩,⟨[2,5],[6]⟩,⟨[],[7]⟩,⟨[6,7],[8]⟩,⟨[],[9]⟩,⟨[9],[10]⟩,⟨[],[11]⟩,⟨[10,11],[12]⟩,⟨[],[13]⟩,⟨[13],[14]⟩,⟨[],[15]⟩,⟨[14,15],[16]⟩,⟨[12,16],[17]⟩,⟨[8,17],[18]⟩]
    [one fun v _=>v=.pointer (some ⟨w.heap.size,0,none⟩),one fun v _=>v=.pointer (some ⟨w.heap.size,0,none⟩),one fun v _=>v=.bool t1,one fun v _=>v=.pointer (some ⟨w.heap.size+1,0,none⟩),one fun v _=>v=.pointer (some ⟨w.heap.size+1,0,none⟩),one fun v _=>v=.bool t2,one fun v _=>v=.bool (t1 != t2),one fun v _=>v=.agg #[.int .u64 zx,.slice zp zl zq],one (dO (t1 != t2) (n1 / g*(n2 / h))),one fun v _=>v=.agg #[.bool t1,.int .u64 x1,.slice p1 l1 q1,.int .u64 y1,.slice r1 s1 v1],one (aB (ak m1)),one fun v _=>v=.agg #[.int .u64 hx,.slice hp hl hq],one (aB (ak m1 / h)),one fun v _=>v=.agg #[.bool t2,.int .u64 x2,.slice p2 l2 q2,.int .u64 y2,.slice r2 s2 v2],one (aB (ak m2)),one fun v _=>v=.agg #[.int .u64 gx,.slice gp gl gq],one (aB (ak m2 / g)),one (aB (ak m1 / h*(ak m2 / g))),one fun v W=>IsQ W v R]
    (fun _ W=>Below W3.heap.size W3 W) (by kernel_rfl) (by kernel_rfl) ?hT ?hZ ?hO ?hE
   case hZ=>exact (Below.refl _ _).drew
   case hT =>
    simp only [List.forall_mem_cons,List.not_mem_nil,false_imp_iff,implies_true,and_true]
    exact ⟨aj aA,aj aA,aj aA,aj aA,aj aA,aj aA,aj aA,aj aA,aj jX,aj aA,aj aN,aj aA,aj aN,aj aA,aj aN,aj aA,aj aN,aj aN,aj fQ⟩
   case hO =>
    intro u
    simp only [List.take_succ_cons,List.take_zero,aC]
    repeat' (first | with_reducible exact aV | with_reducible refine aX ?_ ?_)
    ·intro W hS hF K hK
     clear hF
     go_simp
     exact hK _ _ (.refl _ _) hS rfl
    ·intro W hS hF K hK
     have h0:u 0=.pointer (some ⟨w.heap.size,0,none⟩):=hF.1
     clear hF
     go_simp
     exact hK _ _ (.refl _ _) hS rfl
    ·intro W hS hF K hK
     have h1:u 1=.pointer (some ⟨w.heap.size,0,none⟩):=hF.1
     have c0:=cB hS H3.1.b1.1 (by omega)
     clear hF
     go_simp
     exact hK _ _ (.refl _ _) hS rfl
    ·intro W hS hF K hK
     clear hF
     go_simp
     exact hK _ _ (.refl _ _) hS rfl
    ·intro W hS hF K hK
     have h3:u 3=.pointer (some ⟨w.heap.size+1,0,none⟩):=hF.1
     clear hF
     go_simp
     exact hK _ _ (.refl _ _) hS rfl
    ·intro W hS hF K hK
     have h4:u 4=.pointer (some ⟨w.heap.size+1,0,none⟩):=hF.1
     have c0:=cB hS H3.1.b2.1 (by omega)
     clear hF
     go_simp
     exact hK _ _ (.refl _ _) hS rfl
    ·intro W hS hF K hK
     have h2:u 2=.bool t1:=hF.1
     have h5:u 5=.bool t2:=hF.2.1
     clear hF
     go_simp
     exact hK _ _ (.refl _ _) hS rfl
    ·intro W hS hF K hK
     have c0:=cB hS H3.2.2.2.cs.1 (by omega)
     have c1:=cB hS H3.2.2.2.cs.2 (by omega)
     clear hF
     go_simp
     exact hK _ _ (.refl _ _) hS rfl
    ·intro W hS hF K hK
     have h6:u 6=.bool (t1 != t2):=hF.1
     have h7:u 7=.agg #[.int .u64 zx,.slice zp zl zq]:=hF.2.1
     clear hF
     go_simp
     exact hK _ _ (.refl _ _) hS ⟨_,_,_,_,rfl,H3.2.2.2.im.below hS⟩
    ·intro W hS hF K hK
     have c0:=cB hS H3.1.b1.1 (by omega)
     have c1:=cB hS H3.1.b1.2.1 (by omega)
     have c2:=cB hS H3.1.b1.2.2.1 (by omega)
     have c3:=cB hS H3.1.b1.2.2.2.1 (by omega)
     have c4:=cB hS H3.1.b1.2.2.2.2 (by omega)
     clear hF
     go_simp
     exact hK _ _ (.refl _ _) hS rfl
    ·intro W hS hF K hK
     have h9:u 9=.agg #[.bool t1,.int .u64 x1,.slice p1 l1 q1,.int .u64 y1,.slice r1 s1 v1]:=hF.1
     clear hF
     go_simp
     refine (gY _ _ _ _ _ m1 _ (H3.1.j1.below hS)).mono ?_
     rintro e wA ⟨c,d,rfl,hm,hBA⟩
     obtain ⟨xx,pp,ll,qq,rfl,rfl⟩:=hm.shape
     exact ⟨_,rfl,hK _ _ hBA (hS.trans (hBA.mono hS.size)) ⟨_,_,_,_,rfl,hm⟩⟩
    ·intro W hS hF K hK
     have c0:=cB hS H3.2.2.1.cs.1 (by omega)
     have c1:=cB hS H3.2.2.1.cs.2 (by omega)
     clear hF
     go_simp
     exact hK _ _ (.refl _ _) hS rfl
    ·intro W hS hF K hK
     obtain ⟨x10,p10,l10,q10,h10,m10⟩:aB (ak m1) (u 10) W:=hF.1
     have h11:u 11=.agg #[.int .u64 hx,.slice hp hl hq]:=hF.2.1
     clear hF
     go_simp
     refine (jd (ak m1) h k _ _ _ _ _ m10 (H3.2.2.1.im.below hS) hh0.out hk2 HK.out.2.1).mono ?_
     rintro e wA ⟨c,d,rfl,hm,hBA⟩
     obtain ⟨xx,pp,ll,qq,rfl,rfl⟩:=hm.shape
     exact ⟨_,rfl,hK _ _ hBA (hS.trans (hBA.mono hS.size)) ⟨_,_,_,_,rfl,hm⟩⟩
    ·intro W hS hF K hK
     have c0:=cB hS H3.1.b2.1 (by omega)
     have c1:=cB hS H3.1.b2.2.1 (by omega)
     have c2:=cB hS H3.1.b2.2.2.1 (by omega)
     have c3:=cB hS H3.1.b2.2.2.2.1 (by omega)
     have c4:=cB hS H3.1.b2.2.2.2.2 (by omega)
     clear hF
     go_simp
     exact hK _ _ (.refl _ _) hS rfl
    ·intro W hS hF K hK
     have h13:u 13=.agg #[.bool t2,.int .u64 x2,.slice p2 l2 q2,.int .u64 y2,.slice r2 s2 v2]:=hF.1
     clear hF
     go_simp
     refine (gY _ _ _ _ _ m2 _ (H3.1.j2.below hS)).mono ?_
     rintro e wA ⟨c,d,rfl,hm,hBA⟩
     obtain ⟨xx,pp,ll,qq,rfl,rfl⟩:=hm.shape
     exact ⟨_,rfl,hK _ _ hBA (hS.trans (hBA.mono hS.size)) ⟨_,_,_,_,rfl,hm⟩⟩
    ·intro W hS hF K hK
     have c0:=cB hS H3.2.1.cs.1 (by omega)
     have c1:=cB hS H3.2.1.cs.2 (by omega)
     clear hF
     go_simp
     exact hK _ _ (.refl _ _) hS rfl
    ·intro W hS hF K hK
     obtain ⟨x14,p14,l14,q14,h14,m14⟩:aB (ak m2) (u 14) W:=hF.1
     have h15:u 15=.agg #[.int .u64 gx,.slice gp gl gq]:=hF.2.1
     clear hF
     go_simp
     refine (jd (ak m2) g k _ _ _ _ _ m14 (H3.2.1.im.below hS) hg0.out hk2 HK.out.2.2.2).mono ?_
     rintro e wA ⟨c,d,rfl,hm,hBA⟩
     obtain ⟨xx,pp,ll,qq,rfl,rfl⟩:=hm.shape
     exact ⟨_,rfl,hK _ _ hBA (hS.trans (hBA.mono hS.size)) ⟨_,_,_,_,rfl,hm⟩⟩
    ·intro W hS hF K hK
     obtain ⟨x12,p12,l12,q12,h12,m12⟩:aB (ak m1 / h) (u 12) W:=hF.1
     obtain ⟨x16,p16,l16,q16,h16,m16⟩:aB (ak m2 / g) (u 16) W:=hF.2.1
     clear hF
     go_simp
     refine (jr (ak m1 / h) (ak m2 / g) k _ _ _ _ _ m12 m16 hk3 kd1.out kd2.out).mono ?_
     rintro e wA ⟨c,d,rfl,hm,hBA⟩
     obtain ⟨xx,pp,ll,qq,rfl,rfl⟩:=hm.shape
     exact ⟨_,rfl,hK _ _ hBA (hS.trans (hBA.mono hS.size)) ⟨_,_,_,_,rfl,hm⟩⟩
    ·intro W hS hF K hK
     obtain ⟨x8,p8,l8,q8,h8,m8⟩:dO (t1 != t2) (n1 / g*(n2 / h)) (u 8) W:=hF.1
     obtain ⟨x17,p17,l17,q17,h17,m17⟩:aB (ak m1 / h*(ak m2 / g)) (u 17) W:=hF.2.1
     clear hF
     go_simp
     refine (HLow.out _ _ _ _ _ m8 m17).mono ?_
     rintro e wC ⟨v,rfl,hv,hBC⟩
     exact ⟨_,rfl,hK _ _ hBC (hS.trans (hBC.mono hS.size)) hv⟩
   case hE =>
    intro u W hS hF
    have hv:IsQ W (u 18) R:=hF.2.2.2.2.2.2.2.2.2.2.2.2.2.2.2.2.2.2.1
    clear hF
    obtain ⟨t0,sx,sp,sl,sq,tx,tp,tl,tq,h18,hv1,hv2,ht⟩:=hv.shape
    have h4:=H3.1.next hS
    obtain ⟨r0,ra,rb,rc,rd,⟨c0,c1,c2,c3,c4⟩,f0,f1,f2,f3,f4⟩:=h4.rs.facts
    obtain ⟨⟨z0,z1,z2,z3,z4⟩,hH⟩:=h4.rs.doneQ h4.bel (by omega) hv1 hv2 ht
    clear h4 hv hv1 hv2 ht hS H3
    simp only [List.take_succ_cons,List.take_zero,aC,List.drop_succ_cons,List.drop_zero]
    go_wp2_with fail
    exact bodyPost_ret (v:=.agg #[.bool t0,.int .u64 sx,.slice sp sl sq,.int .u64 tx,.slice tp tl tq]) (by simp [results,Tryz.results32,go_sem,z0,z1,z2,z3,z4]) rfl ⟨_,rfl,hH.out.1,hH.out.2⟩
theorem bZ (r:Rat):ak (bK r)=r.den:=by
 unfold ak bK
 by_cases h:r.den=1
 ·rw [if_pos h,if_pos rfl,h]
 ·rw [if_neg h,if_neg r.den_nz]
theorem qw (r:Rat):mkRat (zs (decide (r.num<0)) r.num.natAbs) (ak (bK r))=r:=by
 rw [vF,bZ,Rat.mkRat_self]
theorem jL (r:Rat):sgn (decide (r.num<0)) r.num.natAbs=0↔r=0:=by
 unfold sgn
 constructor
 ·intro h
  by_cases h1:r.num<0
  ·simp [h1] at h
  ·rw [if_neg (by simpa using h1)] at h
   have h2:r.num.natAbs=0:=by
    by_cases h3:r.num.natAbs=0
    ·exact h3
    ·simp [h3] at h
   exact Rat.num_eq_zero.1 (show r.num=0 by omega)
 ·intro h
  subst h
  rfl
theorem jH (r s:Rat) (v1 v2:Value) (k:Nat) (w:World) (h1:IsQ w v1 r) (h2:IsQ w v2 s) (hk:k≤34359738368) (f1:Fits k r) (f2:Fits k s) (hT:Tab w) :
  Calls Tryz.prog 32 #[v1,v2] w (bM w (r*s)):=by
 obtain ⟨t1,x1,p1,l1,q1,y1,r1,s1,u1,rfl,i1,j1,e1⟩:=h1.shape
 obtain ⟨t2,x2,p2,l2,q2,y2,r2,s2,u2,rfl,i2,j2,e2⟩:=h2.shape
 have e1':=e1.out
 have e2':=e2.out
 by_cases z1:r=0
 ·have:=NK t1 t2 x1 y1 x2 y2 p1 r1 p2 r2 l1 q1 s1 u1 l2 q2 s2 u2 _ _ _ _ w i1 j1 i2 j2 hT (by rw [e1'];exact (jL r).2 z1)
  rw [z1,Rat.zero_mul]
  exact this
 have n1:sgn t1 r.num.natAbs≠0:=by rw [e1'];exact fun h=>z1 ((jL r).1 h)
 by_cases z2:s=0
 ·have:=Oo t1 t2 x1 y1 x2 y2 p1 r1 p2 r2 l1 q1 s1 u1 l2 q2 s2 u2 _ _ _ _ w i1 j1 i2 j2 hT n1 (by rw [e2'];exact (jL s).2 z2)
  rw [z2,Rat.mul_zero]
  exact this
 have n2:sgn t2 s.num.natAbs≠0:=by rw [e2'];exact fun h=>z2 ((jL s).1 h)
 have:=Ot t1 t2 x1 y1 x2 y2 p1 r1 p2 r2 l1 q1 s1 u1 l2 q2 s2 u2 _ _ _ _ k w i1 j1 i2 j2 hT n1 n2 (by rw [bZ];exact r.reduced) (by rw [bZ];exact s.reduced) hk f1.1 (by rw [bZ];exact f1.2) f2.1 (by rw [bZ];exact f2.2) (by rw [bZ];exact r.den_nz) (by rw [bZ];exact s.den_nz)
 rw [e1',e2',qw,qw] at this
 rw [e1',e2']
 exact this
end
end Go.Proofs.YtnmlkobogofadaaGreatDoor
