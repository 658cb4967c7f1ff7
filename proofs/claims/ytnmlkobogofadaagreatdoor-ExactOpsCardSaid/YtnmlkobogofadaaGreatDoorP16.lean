/- What the proof rests on, part 16. -/
import Derived.Test.YtnmlkobogofadaaGreatDoorP15
import Derived.Test.YtnmlkobogofadaaGreatDoorP00
namespace Go.Proofs.YtnmlkobogofadaaGreatDoor
set_option maxRecDepth 100000
set_option maxHeartbeats 80000000
section
open Go.RowKit Go.Sort
attribute [local go_sem] takes dF dG dD
structure iQ (w W:World) (t1:Bool) (c1 d1 e1 f1:Value) (t2:Bool) (c2 d2 e2 f2:Value) (n1 m1 n2 m2:Nat):Prop where
 b1:C5 W w.heap.size (.bool t1) c1 d1 e1 f1
 b2:C5 W (w.heap.size+1) (.bool t2) c2 d2 e2 f2
 i1:ah W c1 d1 n1
 j1:ah W e1 f1 m1
 i2:ah W c2 d2 n2
 j2:ah W e2 f2 m2
 bel:Below w.heap.size w W
 sz:w.heap.size+2≤W.heap.size
theorem iQ.next {w W W':World} {t1 t2:Bool} {c1 d1 e1 f1 c2 d2 e2 f2:Value} {n1 m1 n2 m2:Nat} (h:iQ w W t1 c1 d1 e1 f1 t2 c2 d2 e2 f2 n1 m1 n2 m2) (hb:Below W.heap.size W W') :
  iQ w W' t1 c1 d1 e1 f1 t2 c2 d2 e2 f2 n1 m1 n2 m2 where
 b1:=C5.below h.b1 hb (by have:=h.sz;omega)
 b2:=C5.below h.b2 hb (by have:=h.sz;omega)
 i1:=h.i1.below hb
 j1:=h.j1.below hb
 i2:=h.i2.below hb
 j2:=h.j2.below hb
 bel:=h.bel.trans (hb.mono h.bel.size)
 sz:=Nat.le_trans h.sz hb.size
theorem iQ.start {w:World} (t1 t2:Bool) (c1 d1 e1 f1 c2 d2 e2 f2:Value) (n1 m1 n2 m2:Nat) (T1 T2:TypeId) (i1:ah w c1 d1 n1) (j1:ah w e1 f1 m1) (i2:ah w c2 d2 n2) (j2:ah w e2 f2 m2) :
  iQ w ((w.alloc (.cells #[.bool t1,c1,d1,e1,f1] T1)).alloc (.cells #[.bool t2,c2,d2,e2,f2] T2)) t1 c1 d1 e1 f1 t2 c2 d2 e2 f2 n1 m1 n2 m2:=by
 have hb:=((Below.refl w.heap.size w).alloc (Nat.le_refl _) (.cells #[.bool t1,c1,d1,e1,f1] T1)).alloc (by simp) (.cells #[.bool t2,c2,d2,e2,f2] T2)
 refine ⟨⟨?_,?_,?_,?_,?_⟩,⟨?_,?_,?_,?_,?_⟩,i1.below hb,j1.below hb,i2.below hb,j2.below hb,hb,by simp⟩ <;> go_simp
theorem PS (t1 t2:Bool) (x1 y1 x2 y2:Int) (p1 r1 p2 r2:Option Addr) (l1 q1 s1 v1 l2 q2 s2 v2 n1 m1 n2 m2 k:Nat) (w:World)
  (i1:ah w (.int .u64 x1) (.slice p1 l1 q1) n1) (j1:ah w (.int .u64 y1) (.slice r1 s1 v1) m1) (i2:ah w (.int .u64 x2) (.slice p2 l2 q2) n2) (j2:ah w (.int .u64 y2) (.slice r2 s2 v2) m2) (h1:sgn t1 n1=sgn t2 n2) (ht:t1=false) (hk:k≤68719476736) (k1:n1<B64 ^ k) (k2:ak m1<B64 ^ k) (k3:n2<B64 ^ k) (k4:ak m2<B64 ^ k) :
  Calls Tryz.prog 38 #[.agg #[.bool t1,.int .u64 x1,.slice p1 l1 q1,.int .u64 y1,.slice r1 s1 v1],.agg #[.bool t2,.int .u64 x2,.slice p2 l2 q2,.int .u64 y2,.slice r2 s2 v2]] w (dh w (.int .i64 (aI (n1*ak m2) (n2*ak m1)))):=by
 have hs1:=hid (fun (W:World) (h:ah W (.int .u64 x1) (.slice p1 l1 q1) n1)=>nS t1 _ _ n1 W h)
 have hs2:=hid (fun (W:World) (h:ah W (.int .u64 x2) (.slice p2 l2 q2) n2)=>nS t2 _ _ n2 W h)
 obtain ⟨sa,hsa⟩:∃ s,sgn t1 n1=s:=⟨_,rfl⟩
 obtain ⟨sb,hsb⟩:∃ s,sgn t2 n2=s:=⟨_,rfl⟩
 rw [hsa] at hs1 h1
 rw [hsb] at hs2 h1
 subst h1
 have HT:=hid ht
 clear ht
 have HK:=hid (And.intro k1 (And.intro k2 (And.intro k3 k4)))
 have hk3:=hk
 have HO:=hid (fun (W:World) (c d e f:Value) (h:ah W c d (n1*ak m2)) (h':ah W e f (n2*ak m1))=>qH _ _ (k+k) _ _ _ _ W h h' (by omega) (nV k1 k4))
 have hr:Hid (aI (n1*ak m2) (n2*ak m1) = -1∨aI (n1*ak m2) (n2*ak m1)=0∨aI (n1*ak m2) (n2*ak m1)=1):=by
  unfold aI Hid
  split
  ·exact .inl rfl
  ·split
   ·exact .inr (.inl rfl)
   ·exact .inr (.inr rfl)
 obtain ⟨o,ho⟩:∃ o,aI (n1*ak m2) (n2*ak m1)=o:=⟨_,rfl⟩
 rw [ho] at HO hr ⊢
 clear ho hk k1 k2 k3 k4 hsa hsb
 have h0:=iQ.start t1 t2 (.int .u64 x1) (.slice p1 l1 q1) (.int .u64 y1) (.slice r1 s1 v1) (.int .u64 x2) (.slice p2 l2 q2) (.int .u64 y2) (.slice r2 s2 v2) n1 m1 n2 m2 31 31 i1 j1 i2 j2
 have H0:=hid h0
 clear h0 i1 j1 i2 j2
 go_enter Tryz.func38,Tryz.ntmps38
 go_wp2_with fail
 obtain ⟨W0,hW0⟩:∃ W0,(w.alloc (.cells #[.bool t1,.int .u64 x1,.slice p1 l1 q1,.int .u64 y1,.slice r1 s1 v1] 31)).alloc (.cells #[.bool t2,.int .u64 x2,.slice p2 l2 q2,.int .u64 y2,.slice r2 s2 v2] 31)=W0:=⟨_,rfl⟩
 rw [hW0] at H0 ⊢
 clear hW0
 have H0':iQ w W0 t1 (.int .u64 x1) (.slice p1 l1 q1) (.int .u64 y1) (.slice r1 s1 v1) t2 (.int .u64 x2) (.slice p2 l2 q2) (.int .u64 y2) (.slice r2 s2 v2) n1 m1 n2 m2:=H0.out
 have hsz:=H0'.sz
 refine bC 6 [⟨[],[0]⟩,⟨[0],[1]⟩,⟨[1],[2]⟩,⟨[],[3]⟩,⟨[3],[4]⟩,⟨[4],[5]⟩]
  [one fun v _=>v=.pointer (some ⟨w.heap.size,0,none⟩),one fun v _=>v=.agg #[.bool t1,.int .u64 x1,.slice p1 l1 q1],one fun v _=>v=.int .i64 sa,one fun v _=>v=.pointer (some ⟨w.heap.size+1,0,none⟩),one fun v _=>v=.agg #[.bool t2,.int .u64 x2,.slice p2 l2 q2],one fun v _=>v=.int .i64 sa]
  (fun _ W=>Below W0.heap.size W0 W) (by kernel_rfl) (by kernel_rfl) ?hT ?hZ ?hO ?hE
 case hZ=>exact (Below.refl _ _).drew
 case hT =>
  simp only [List.forall_mem_cons,List.not_mem_nil,false_imp_iff,implies_true,and_true]
  exact ⟨aj aA,aj aA,aj aA,aj aA,aj aA,aj aA⟩
 case hO =>
  intro u
  simp only [List.take_succ_cons,List.take_zero,aC]
  repeat' (first | with_reducible exact aV | with_reducible refine aX ?_ ?_)
  ·intro W hS hF K hK
   clear hF
   go_simp
   exact hK _ _ (.refl _ _) hS rfl
  ·intro W hS hF K hK
   have h0:u 0=.pointer (some ⟨w.heap.size,0,none⟩):=hF.1
   have c0:=cB hS H0'.b1.1 (by omega)
   have c1:=cB hS H0'.b1.2.1 (by omega)
   have c2:=cB hS H0'.b1.2.2.1 (by omega)
   clear hF
   go_simp
   exact hK _ _ (.refl _ _) hS rfl
  ·intro W hS hF K hK
   have h1:u 1=.agg #[.bool t1,.int .u64 x1,.slice p1 l1 q1]:=hF.1
   clear hF
   go_simp
   refine (hs1.out _ (H0'.i1.below hS)).mono ?_
   rintro e wA ⟨rfl,hBA⟩
   exact ⟨_,rfl,hK _ _ hBA (hS.trans (hBA.mono hS.size)) rfl⟩
  ·intro W hS hF K hK
   clear hF
   go_simp
   exact hK _ _ (.refl _ _) hS rfl
  ·intro W hS hF K hK
   have h3:u 3=.pointer (some ⟨w.heap.size+1,0,none⟩):=hF.1
   have d0:=cB hS H0'.b2.1 (by omega)
   have d1:=cB hS H0'.b2.2.1 (by omega)
   have d2:=cB hS H0'.b2.2.2.1 (by omega)
   clear hF
   go_simp
   exact hK _ _ (.refl _ _) hS rfl
  ·intro W hS hF K hK
   have h4:u 4=.agg #[.bool t2,.int .u64 x2,.slice p2 l2 q2]:=hF.1
   clear hF
   go_simp
   refine (hs2.out _ (H0'.i2.below hS)).mono ?_
   rintro e wA ⟨rfl,hBA⟩
   exact ⟨_,rfl,hK _ _ hBA (hS.trans (hBA.mono hS.size)) rfl⟩
 case hE =>
  intro u Wa hS hF
  have e2:u 2=.int .i64 sa:=hF.2.2.1
  have e5:u 5=.int .i64 sa:=hF.2.2.2.2.2.1
  have H1:=hid (H0'.next hS)
  clear hF hS H0 H0' hs1 hs2 hsz
  simp only [List.take_succ_cons,List.take_zero,aC,List.drop_succ_cons,List.drop_zero]
  rw [e2,e5]
  go_wp2_with fail
  have H1':iQ w Wa t1 (.int .u64 x1) (.slice p1 l1 q1) (.int .u64 y1) (.slice r1 s1 v1) t2 (.int .u64 x2) (.slice p2 l2 q2) (.int .u64 y2) (.slice r2 s2 v2) n1 m1 n2 m2:=H1.out
  have hsz:=H1'.sz
  refine bC 13 [⟨[],[0]⟩,⟨[0],[1]⟩,⟨[1],[2]⟩,⟨[],[3]⟩,⟨[3],[4]⟩,⟨[2,4],[5]⟩,⟨[],[6]⟩,⟨[6],[7]⟩,⟨[7],[8]⟩,⟨[],[9]⟩,⟨[9],[10]⟩,⟨[8,10],[11]⟩,⟨[5,11],[12]⟩]
   [one fun v _=>v=.pointer (some ⟨w.heap.size,0,none⟩),one fun v _=>v=.pointer (some ⟨w.heap.size,1,none⟩),one fun v _=>v=.agg #[.int .u64 x1,.slice p1 l1 q1],one fun v _=>v=.agg #[.bool t2,.int .u64 x2,.slice p2 l2 q2,.int .u64 y2,.slice r2 s2 v2],one (aB (ak m2)),one (aB (n1*(ak m2))),one fun v _=>v=.pointer (some ⟨w.heap.size+1,0,none⟩),one fun v _=>v=.pointer (some ⟨w.heap.size+1,1,none⟩),one fun v _=>v=.agg #[.int .u64 x2,.slice p2 l2 q2],one fun v _=>v=.agg #[.bool t1,.int .u64 x1,.slice p1 l1 q1,.int .u64 y1,.slice r1 s1 v1],one (aB (ak m1)),one (aB (n2*(ak m1))),one fun v _=>v=.int .i64 o]
   (fun _ W=>Below Wa.heap.size Wa W) (by kernel_rfl) (by kernel_rfl) ?hT ?hZ ?hO ?hE
  case hZ=>exact (Below.refl _ _).drew
  case hT =>
   simp only [List.forall_mem_cons,List.not_mem_nil,false_imp_iff,implies_true,and_true]
   exact ⟨aj aA,aj aA,aj aA,aj aA,aj aN,aj aN,aj aA,aj aA,aj aA,aj aA,aj aN,aj aN,aj aA⟩
  case hO =>
   intro u
   simp only [List.take_succ_cons,List.take_zero,aC]
   repeat' (first | with_reducible exact aV | with_reducible refine aX ?_ ?_)
   ·intro W hS hF K hK
    clear hF
    go_simp
    exact hK _ _ (.refl _ _) hS rfl
   ·intro W hS hF K hK
    have h0:u 0=.pointer (some ⟨w.heap.size,0,none⟩):=hF.1
    clear hF
    go_simp
    exact hK _ _ (.refl _ _) hS rfl
   ·intro W hS hF K hK
    have h1:u 1=.pointer (some ⟨w.heap.size,1,none⟩):=hF.1
    have c1:=cB hS H1'.b1.2.1 (by omega)
    have c2:=cB hS H1'.b1.2.2.1 (by omega)
    clear hF
    go_simp
    exact hK _ _ (.refl _ _) hS rfl
   ·intro W hS hF K hK
    have d0:=cB hS H1'.b2.1 (by omega)
    have d1:=cB hS H1'.b2.2.1 (by omega)
    have d2:=cB hS H1'.b2.2.2.1 (by omega)
    have d3:=cB hS H1'.b2.2.2.2.1 (by omega)
    have d4:=cB hS H1'.b2.2.2.2.2 (by omega)
    clear hF
    go_simp
    exact hK _ _ (.refl _ _) hS rfl
   ·intro W hS hF K hK
    have h3:u 3=.agg #[.bool t2,.int .u64 x2,.slice p2 l2 q2,.int .u64 y2,.slice r2 s2 v2]:=hF.1
    clear hF
    go_simp
    refine (gY _ _ _ _ _ m2 _ (H1'.j2.below hS)).mono ?_
    rintro e wA ⟨c,d,rfl,hm,hBA⟩
    obtain ⟨xx,pp,ll,qq,rfl,rfl⟩:=hm.shape
    exact ⟨_,rfl,hK _ _ hBA (hS.trans (hBA.mono hS.size)) ⟨_,_,_,_,rfl,hm⟩⟩
   ·intro W hS hF K hK
    have h2:u 2=.agg #[.int .u64 x1,.slice p1 l1 q1]:=hF.1
    obtain ⟨x4,p4,l4,q4,h4,im4⟩:aB (ak m2) (u 4) W:=hF.2.1
    clear hF
    go_simp
    refine (jr n1 (ak m2) k _ _ _ _ _ (H1'.i1.below hS) im4 hk3 HK.out.1 HK.out.2.2.2).mono ?_
    rintro e wA ⟨c,d,rfl,hm,hBA⟩
    obtain ⟨xx,pp,ll,qq,rfl,rfl⟩:=hm.shape
    exact ⟨_,rfl,hK _ _ hBA (hS.trans (hBA.mono hS.size)) ⟨_,_,_,_,rfl,hm⟩⟩
   ·intro W hS hF K hK
    clear hF
    go_simp
    exact hK _ _ (.refl _ _) hS rfl
   ·intro W hS hF K hK
    have h6:u 6=.pointer (some ⟨w.heap.size+1,0,none⟩):=hF.1
    clear hF
    go_simp
    exact hK _ _ (.refl _ _) hS rfl
   ·intro W hS hF K hK
    have h7:u 7=.pointer (some ⟨w.heap.size+1,1,none⟩):=hF.1
    have d1:=cB hS H1'.b2.2.1 (by omega)
    have d2:=cB hS H1'.b2.2.2.1 (by omega)
    clear hF
    go_simp
    exact hK _ _ (.refl _ _) hS rfl
   ·intro W hS hF K hK
    have c0:=cB hS H1'.b1.1 (by omega)
    have c1:=cB hS H1'.b1.2.1 (by omega)
    have c2:=cB hS H1'.b1.2.2.1 (by omega)
    have c3:=cB hS H1'.b1.2.2.2.1 (by omega)
    have c4:=cB hS H1'.b1.2.2.2.2 (by omega)
    clear hF
    go_simp
    exact hK _ _ (.refl _ _) hS rfl
   ·intro W hS hF K hK
    have h9:u 9=.agg #[.bool t1,.int .u64 x1,.slice p1 l1 q1,.int .u64 y1,.slice r1 s1 v1]:=hF.1
    clear hF
    go_simp
    refine (gY _ _ _ _ _ m1 _ (H1'.j1.below hS)).mono ?_
    rintro e wA ⟨c,d,rfl,hm,hBA⟩
    obtain ⟨xx,pp,ll,qq,rfl,rfl⟩:=hm.shape
    exact ⟨_,rfl,hK _ _ hBA (hS.trans (hBA.mono hS.size)) ⟨_,_,_,_,rfl,hm⟩⟩
   ·intro W hS hF K hK
    have h8:u 8=.agg #[.int .u64 x2,.slice p2 l2 q2]:=hF.1
    obtain ⟨x10,p10,l10,q10,h10,im10⟩:aB (ak m1) (u 10) W:=hF.2.1
    clear hF
    go_simp
    refine (jr n2 (ak m1) k _ _ _ _ _ (H1'.i2.below hS) im10 hk3 HK.out.2.2.1 HK.out.2.1).mono ?_
    rintro e wA ⟨c,d,rfl,hm,hBA⟩
    obtain ⟨xx,pp,ll,qq,rfl,rfl⟩:=hm.shape
    exact ⟨_,rfl,hK _ _ hBA (hS.trans (hBA.mono hS.size)) ⟨_,_,_,_,rfl,hm⟩⟩
   ·intro W hS hF K hK
    obtain ⟨x5,p5,l5,q5,h5,im5⟩:aB (n1*(ak m2)) (u 5) W:=hF.1
    obtain ⟨x11,p11,l11,q11,h11,im11⟩:aB (n2*(ak m1)) (u 11) W:=hF.2.1
    clear hF
    go_simp
    refine (HO.out _ _ _ _ _ im5 im11).mono ?_
    rintro e wA ⟨rfl,hBA⟩
    exact ⟨_,rfl,hK _ _ hBA (hS.trans (hBA.mono hS.size)) rfl⟩
  case hE =>
   intro u' W2 hS hF
   have e12:u' 12=.int .i64 o:=hF.2.2.2.2.2.2.2.2.2.2.2.2.1
   have H2:=hid (H1'.next hS)
   obtain ⟨c0,c1,c2,c3,c4⟩:=H2.out.b1
   have hbel:=hid H2.out.bel
   clear hF hS H1 H1' hsz HO HK H2
   have ht:=HT.out
   subst ht
   clear HT
   simp only [List.take_succ_cons,List.take_zero,aC,List.drop_succ_cons,List.drop_zero]
   rw [e12]
   go_wp2_with fail
   go_ret
   exact ⟨rfl,hbel.out⟩
theorem Rh (t1 t2:Bool) (x1 y1 x2 y2:Int) (p1 r1 p2 r2:Option Addr) (l1 q1 s1 v1 l2 q2 s2 v2 n1 m1 n2 m2 k:Nat) (w:World)
  (i1:ah w (.int .u64 x1) (.slice p1 l1 q1) n1) (j1:ah w (.int .u64 y1) (.slice r1 s1 v1) m1) (i2:ah w (.int .u64 x2) (.slice p2 l2 q2) n2) (j2:ah w (.int .u64 y2) (.slice r2 s2 v2) m2) (h1:sgn t1 n1=sgn t2 n2) (ht:t1=true) (hk:k≤68719476736) (k1:n1<B64 ^ k) (k2:ak m1<B64 ^ k) (k3:n2<B64 ^ k) (k4:ak m2<B64 ^ k) :
  Calls Tryz.prog 38 #[.agg #[.bool t1,.int .u64 x1,.slice p1 l1 q1,.int .u64 y1,.slice r1 s1 v1],.agg #[.bool t2,.int .u64 x2,.slice p2 l2 q2,.int .u64 y2,.slice r2 s2 v2]] w (dh w (.int .i64 (-aI (n1*ak m2) (n2*ak m1)))):=by
 have hs1:=hid (fun (W:World) (h:ah W (.int .u64 x1) (.slice p1 l1 q1) n1)=>nS t1 _ _ n1 W h)
 have hs2:=hid (fun (W:World) (h:ah W (.int .u64 x2) (.slice p2 l2 q2) n2)=>nS t2 _ _ n2 W h)
 obtain ⟨sa,hsa⟩:∃ s,sgn t1 n1=s:=⟨_,rfl⟩
 obtain ⟨sb,hsb⟩:∃ s,sgn t2 n2=s:=⟨_,rfl⟩
 rw [hsa] at hs1 h1
 rw [hsb] at hs2 h1
 subst h1
 have HT:=hid ht
 clear ht
 have HK:=hid (And.intro k1 (And.intro k2 (And.intro k3 k4)))
 have hk3:=hk
 have HO:=hid (fun (W:World) (c d e f:Value) (h:ah W c d (n1*ak m2)) (h':ah W e f (n2*ak m1))=>qH _ _ (k+k) _ _ _ _ W h h' (by omega) (nV k1 k4))
 have hr:Hid (aI (n1*ak m2) (n2*ak m1) = -1∨aI (n1*ak m2) (n2*ak m1)=0∨aI (n1*ak m2) (n2*ak m1)=1):=by
  unfold aI Hid
  split
  ·exact .inl rfl
  ·split
   ·exact .inr (.inl rfl)
   ·exact .inr (.inr rfl)
 obtain ⟨o,ho⟩:∃ o,aI (n1*ak m2) (n2*ak m1)=o:=⟨_,rfl⟩
 rw [ho] at HO hr ⊢
 clear ho hk k1 k2 k3 k4 hsa hsb
 have h0:=iQ.start t1 t2 (.int .u64 x1) (.slice p1 l1 q1) (.int .u64 y1) (.slice r1 s1 v1) (.int .u64 x2) (.slice p2 l2 q2) (.int .u64 y2) (.slice r2 s2 v2) n1 m1 n2 m2 31 31 i1 j1 i2 j2
 have H0:=hid h0
 clear h0 i1 j1 i2 j2
 go_enter Tryz.func38,Tryz.ntmps38
 go_wp2_with fail
 obtain ⟨W0,hW0⟩:∃ W0,(w.alloc (.cells #[.bool t1,.int .u64 x1,.slice p1 l1 q1,.int .u64 y1,.slice r1 s1 v1] 31)).alloc (.cells #[.bool t2,.int .u64 x2,.slice p2 l2 q2,.int .u64 y2,.slice r2 s2 v2] 31)=W0:=⟨_,rfl⟩
 rw [hW0] at H0 ⊢
 clear hW0
 have H0':iQ w W0 t1 (.int .u64 x1) (.slice p1 l1 q1) (.int .u64 y1) (.slice r1 s1 v1) t2 (.int .u64 x2) (.slice p2 l2 q2) (.int .u64 y2) (.slice r2 s2 v2) n1 m1 n2 m2:=H0.out
 have hsz:=H0'.sz
 refine bC 6 [⟨[],[0]⟩,⟨[0],[1]⟩,⟨[1],[2]⟩,⟨[],[3]⟩,⟨[3],[4]⟩,⟨[4],[5]⟩]
  [one fun v _=>v=.pointer (some ⟨w.heap.size,0,none⟩),one fun v _=>v=.agg #[.bool t1,.int .u64 x1,.slice p1 l1 q1],one fun v _=>v=.int .i64 sa,one fun v _=>v=.pointer (some ⟨w.heap.size+1,0,none⟩),one fun v _=>v=.agg #[.bool t2,.int .u64 x2,.slice p2 l2 q2],one fun v _=>v=.int .i64 sa]
  (fun _ W=>Below W0.heap.size W0 W) (by kernel_rfl) (by kernel_rfl) ?hT ?hZ ?hO ?hE
 case hZ=>exact (Below.refl _ _).drew
 case hT =>
  simp only [List.forall_mem_cons,List.not_mem_nil,false_imp_iff,implies_true,and_true]
  exact ⟨aj aA,aj aA,aj aA,aj aA,aj aA,aj aA⟩
 case hO =>
  intro u
  simp only [List.take_succ_cons,List.take_zero,aC]
  repeat' (first | with_reducible exact aV | with_reducible refine aX ?_ ?_)
  ·intro W hS hF K hK
   clear hF
   go_simp
   exact hK _ _ (.refl _ _) hS rfl
  ·intro W hS hF K hK
   have h0:u 0=.pointer (some ⟨w.heap.size,0,none⟩):=hF.1
   have c0:=cB hS H0'.b1.1 (by omega)
   have c1:=cB hS H0'.b1.2.1 (by omega)
   have c2:=cB hS H0'.b1.2.2.1 (by omega)
   clear hF
   go_simp
   exact hK _ _ (.refl _ _) hS rfl
  ·intro W hS hF K hK
   have h1:u 1=.agg #[.bool t1,.int .u64 x1,.slice p1 l1 q1]:=hF.1
   clear hF
   go_simp
   refine (hs1.out _ (H0'.i1.below hS)).mono ?_
   rintro e wA ⟨rfl,hBA⟩
   exact ⟨_,rfl,hK _ _ hBA (hS.trans (hBA.mono hS.size)) rfl⟩
  ·intro W hS hF K hK
   clear hF
   go_simp
   exact hK _ _ (.refl _ _) hS rfl
  ·intro W hS hF K hK
   have h3:u 3=.pointer (some ⟨w.heap.size+1,0,none⟩):=hF.1
   have d0:=cB hS H0'.b2.1 (by omega)
   have d1:=cB hS H0'.b2.2.1 (by omega)
   have d2:=cB hS H0'.b2.2.2.1 (by omega)
   clear hF
   go_simp
   exact hK _ _ (.refl _ _) hS rfl
  ·intro W hS hF K hK
   have h4:u 4=.agg #[.bool t2,.int .u64 x2,.slice p2 l2 q2]:=hF.1
   clear hF
   go_simp
   refine (hs2.out _ (H0'.i2.below hS)).mono ?_
   rintro e wA ⟨rfl,hBA⟩
   exact ⟨_,rfl,hK _ _ hBA (hS.trans (hBA.mono hS.size)) rfl⟩
 case hE =>
  intro u Wa hS hF
  have e2:u 2=.int .i64 sa:=hF.2.2.1
  have e5:u 5=.int .i64 sa:=hF.2.2.2.2.2.1
  have H1:=hid (H0'.next hS)
  clear hF hS H0 H0' hs1 hs2 hsz
  simp only [List.take_succ_cons,List.take_zero,aC,List.drop_succ_cons,List.drop_zero]
  rw [e2,e5]
  go_wp2_with fail
  have H1':iQ w Wa t1 (.int .u64 x1) (.slice p1 l1 q1) (.int .u64 y1) (.slice r1 s1 v1) t2 (.int .u64 x2) (.slice p2 l2 q2) (.int .u64 y2) (.slice r2 s2 v2) n1 m1 n2 m2:=H1.out
  have hsz:=H1'.sz
  refine bC 13 [⟨[],[0]⟩,⟨[0],[1]⟩,⟨[1],[2]⟩,⟨[],[3]⟩,⟨[3],[4]⟩,⟨[2,4],[5]⟩,⟨[],[6]⟩,⟨[6],[7]⟩,⟨[7],[8]⟩,⟨[],[9]⟩,⟨[9],[10]⟩,⟨[8,10],[11]⟩,⟨[5,11],[12]⟩]
   [one fun v _=>v=.pointer (some ⟨w.heap.size,0,none⟩),one fun v _=>v=.pointer (some ⟨w.heap.size,1,none⟩),one fun v _=>v=.agg #[.int .u64 x1,.slice p1 l1 q1],one fun v _=>v=.agg #[.bool t2,.int .u64 x2,.slice p2 l2 q2,.int .u64 y2,.slice r2 s2 v2],one (aB (ak m2)),one (aB (n1*(ak m2))),one fun v _=>v=.pointer (some ⟨w.heap.size+1,0,none⟩),one fun v _=>v=.pointer (some ⟨w.heap.size+1,1,none⟩),one fun v _=>v=.agg #[.int .u64 x2,.slice p2 l2 q2],one fun v _=>v=.agg #[.bool t1,.int .u64 x1,.slice p1 l1 q1,.int .u64 y1,.slice r1 s1 v1],one (aB (ak m1)),one (aB (n2*(ak m1))),one fun v _=>v=.int .i64 o]
   (fun _ W=>Below Wa.heap.size Wa W) (by kernel_rfl) (by kernel_rfl) ?hT ?hZ ?hO ?hE
  case hZ=>exact (Below.refl _ _).drew
  case hT =>
   simp only [List.forall_mem_cons,List.not_mem_nil,false_imp_iff,implies_true,and_true]
   exact ⟨aj aA,aj aA,aj aA,aj aA,aj aN,aj aN,aj aA,aj aA,aj aA,aj aA,aj aN,aj aN,aj aA⟩
  case hO =>
   intro u
   simp only [List.take_succ_cons,List.take_zero,aC]
   repeat' (first | with_reducible exact aV | with_reducible refine aX ?_ ?_)
   ·intro W hS hF K hK
    clear hF
    go_simp
    exact hK _ _ (.refl _ _) hS rfl
   ·intro W hS hF K hK
    have h0:u 0=.pointer (some ⟨w.heap.size,0,none⟩):=hF.1
    clear hF
    go_simp
    exact hK _ _ (.refl _ _) hS rfl
   ·intro W hS hF K hK
    have h1:u 1=.pointer (some ⟨w.heap.size,1,none⟩):=hF.1
    have c1:=cB hS H1'.b1.2.1 (by omega)
    have c2:=cB hS H1'.b1.2.2.1 (by omega)
    clear hF
    go_simp
    exact hK _ _ (.refl _ _) hS rfl
   ·intro W hS hF K hK
    have d0:=cB hS H1'.b2.1 (by omega)
    have d1:=cB hS H1'.b2.2.1 (by omega)
    have d2:=cB hS H1'.b2.2.2.1 (by omega)
    have d3:=cB hS H1'.b2.2.2.2.1 (by omega)
    have d4:=cB hS H1'.b2.2.2.2.2 (by omega)
    clear hF
    go_simp
    exact hK _ _ (.refl _ _) hS rfl
   ·intro W hS hF K hK
    have h3:u 3=.agg #[.bool t2,.int .u64 x2,.slice p2 l2 q2,.int .u64 y2,.slice r2 s2 v2]:=hF.1
    clear hF
    go_simp
    refine (gY _ _ _ _ _ m2 _ (H1'.j2.below hS)).mono ?_
    rintro e wA ⟨c,d,rfl,hm,hBA⟩
    obtain ⟨xx,pp,ll,qq,rfl,rfl⟩:=hm.shape
    exact ⟨_,rfl,hK _ _ hBA (hS.trans (hBA.mono hS.size)) ⟨_,_,_,_,rfl,hm⟩⟩
   ·intro W hS hF K hK
    have h2:u 2=.agg #[.int .u64 x1,.slice p1 l1 q1]:=hF.1
    obtain ⟨x4,p4,l4,q4,h4,im4⟩:aB (ak m2) (u 4) W:=hF.2.1
    clear hF
    go_simp
    refine (jr n1 (ak m2) k _ _ _ _ _ (H1'.i1.below hS) im4 hk3 HK.out.1 HK.out.2.2.2).mono ?_
    rintro e wA ⟨c,d,rfl,hm,hBA⟩
    obtain ⟨xx,pp,ll,qq,rfl,rfl⟩:=hm.shape
    exact ⟨_,rfl,hK _ _ hBA (hS.trans (hBA.mono hS.size)) ⟨_,_,_,_,rfl,hm⟩⟩
   ·intro W hS hF K hK
    clear hF
    go_simp
    exact hK _ _ (.refl _ _) hS rfl
   ·intro W hS hF K hK
    have h6:u 6=.pointer (some ⟨w.heap.size+1,0,none⟩):=hF.1
    clear hF
    go_simp
    exact hK _ _ (.refl _ _) hS rfl
   ·intro W hS hF K hK
    have h7:u 7=.pointer (some ⟨w.heap.size+1,1,none⟩):=hF.1
    have d1:=cB hS H1'.b2.2.1 (by omega)
    have d2:=cB hS H1'.b2.2.2.1 (by omega)
    clear hF
    go_simp
    exact hK _ _ (.refl _ _) hS rfl
   ·intro W hS hF K hK
    have c0:=cB hS H1'.b1.1 (by omega)
    have c1:=cB hS H1'.b1.2.1 (by omega)
    have c2:=cB hS H1'.b1.2.2.1 (by omega)
    have c3:=cB hS H1'.b1.2.2.2.1 (by omega)
    have c4:=cB hS H1'.b1.2.2.2.2 (by omega)
    clear hF
    go_simp
    exact hK _ _ (.refl _ _) hS rfl
   ·intro W hS hF K hK
    have h9:u 9=.agg #[.bool t1,.int .u64 x1,.slice p1 l1 q1,.int .u64 y1,.slice r1 s1 v1]:=hF.1
    clear hF
    go_simp
    refine (gY _ _ _ _ _ m1 _ (H1'.j1.below hS)).mono ?_
    rintro e wA ⟨c,d,rfl,hm,hBA⟩
    obtain ⟨xx,pp,ll,qq,rfl,rfl⟩:=hm.shape
    exact ⟨_,rfl,hK _ _ hBA (hS.trans (hBA.mono hS.size)) ⟨_,_,_,_,rfl,hm⟩⟩
   ·intro W hS hF K hK
    have h8:u 8=.agg #[.int .u64 x2,.slice p2 l2 q2]:=hF.1
    obtain ⟨x10,p10,l10,q10,h10,im10⟩:aB (ak m1) (u 10) W:=hF.2.1
    clear hF
    go_simp
    refine (jr n2 (ak m1) k _ _ _ _ _ (H1'.i2.below hS) im10 hk3 HK.out.2.2.1 HK.out.2.1).mono ?_
    rintro e wA ⟨c,d,rfl,hm,hBA⟩
    obtain ⟨xx,pp,ll,qq,rfl,rfl⟩:=hm.shape
    exact ⟨_,rfl,hK _ _ hBA (hS.trans (hBA.mono hS.size)) ⟨_,_,_,_,rfl,hm⟩⟩
   ·intro W hS hF K hK
    obtain ⟨x5,p5,l5,q5,h5,im5⟩:aB (n1*(ak m2)) (u 5) W:=hF.1
    obtain ⟨x11,p11,l11,q11,h11,im11⟩:aB (n2*(ak m1)) (u 11) W:=hF.2.1
    clear hF
    go_simp
    refine (HO.out _ _ _ _ _ im5 im11).mono ?_
    rintro e wA ⟨rfl,hBA⟩
    exact ⟨_,rfl,hK _ _ hBA (hS.trans (hBA.mono hS.size)) rfl⟩
  case hE =>
   intro u' W2 hS hF
   have e12:u' 12=.int .i64 o:=hF.2.2.2.2.2.2.2.2.2.2.2.2.1
   have H2:=hid (H1'.next hS)
   obtain ⟨c0,c1,c2,c3,c4⟩:=H2.out.b1
   have hbel:=hid H2.out.bel
   clear hF hS H1 H1' hsz HO HK H2
   have ht:=HT.out
   subst ht
   clear HT
   simp only [List.take_succ_cons,List.take_zero,aC,List.drop_succ_cons,List.drop_zero]
   rw [e12]
   rcases hr.out with rfl | rfl | rfl
   all_goals
    go_wp2_with fail
    go_ret
    exact ⟨by simp,hbel.out⟩
theorem QN (t1 t2:Bool) (x1 y1 x2 y2:Int) (p1 r1 p2 r2:Option Addr) (l1 q1 s1 v1 l2 q2 s2 v2 n1 m1 n2 m2:Nat) (w:World)
  (i1:ah w (.int .u64 x1) (.slice p1 l1 q1) n1) (j1:ah w (.int .u64 y1) (.slice r1 s1 v1) m1) (i2:ah w (.int .u64 x2) (.slice p2 l2 q2) n2) (j2:ah w (.int .u64 y2) (.slice r2 s2 v2) m2) (h1:sgn t1 n1≠sgn t2 n2) :
  Calls Tryz.prog 38 #[.agg #[.bool t1,.int .u64 x1,.slice p1 l1 q1,.int .u64 y1,.slice r1 s1 v1],.agg #[.bool t2,.int .u64 x2,.slice p2 l2 q2,.int .u64 y2,.slice r2 s2 v2]] w (dh w (.int .i64 (fG (sgn t1 n1) (sgn t2 n2)))):=by
 have hs1:=hid (fun (W:World) (h:ah W (.int .u64 x1) (.slice p1 l1 q1) n1)=>nS t1 _ _ n1 W h)
 have hs2:=hid (fun (W:World) (h:ah W (.int .u64 x2) (.slice p2 l2 q2) n2)=>nS t2 _ _ n2 W h)
 obtain ⟨sa,hsa⟩:∃ s,sgn t1 n1=s:=⟨_,rfl⟩
 obtain ⟨sb,hsb⟩:∃ s,sgn t2 n2=s:=⟨_,rfl⟩
 rw [hsa] at hs1 h1
 rw [hsb] at hs2 h1
 rw [hsa,hsb]
 have hne:(sa == sb)=false:=by rw [beq_eq_false_iff_ne];exact h1
 have hne':(sa != sb)=true:=by rw [bne,hne];rfl
 clear h1 hsa hsb
 have h0:=iQ.start t1 t2 (.int .u64 x1) (.slice p1 l1 q1) (.int .u64 y1) (.slice r1 s1 v1) (.int .u64 x2) (.slice p2 l2 q2) (.int .u64 y2) (.slice r2 s2 v2) n1 m1 n2 m2 31 31 i1 j1 i2 j2
 have H0:=hid h0
 clear h0 i1 j1 i2 j2
 go_enter Tryz.func38,Tryz.ntmps38
 go_wp2_with fail
 obtain ⟨W0,hW0⟩:∃ W0,(w.alloc (.cells #[.bool t1,.int .u64 x1,.slice p1 l1 q1,.int .u64 y1,.slice r1 s1 v1] 31)).alloc (.cells #[.bool t2,.int .u64 x2,.slice p2 l2 q2,.int .u64 y2,.slice r2 s2 v2] 31)=W0:=⟨_,rfl⟩
 rw [hW0] at H0 ⊢
 clear hW0
 have H0':iQ w W0 t1 (.int .u64 x1) (.slice p1 l1 q1) (.int .u64 y1) (.slice r1 s1 v1) t2 (.int .u64 x2) (.slice p2 l2 q2) (.int .u64 y2) (.slice r2 s2 v2) n1 m1 n2 m2:=H0.out
 have hsz:=H0'.sz
 refine bC 6 [⟨[],[0]⟩,⟨[0],[1]⟩,⟨[1],[2]⟩,⟨[],[3]⟩,⟨[3],[4]⟩,⟨[4],[5]⟩]
  [one fun v _=>v=.pointer (some ⟨w.heap.size,0,none⟩),one fun v _=>v=.agg #[.bool t1,.int .u64 x1,.slice p1 l1 q1],one fun v _=>v=.int .i64 sa,one fun v _=>v=.pointer (some ⟨w.heap.size+1,0,none⟩),one fun v _=>v=.agg #[.bool t2,.int .u64 x2,.slice p2 l2 q2],one fun v _=>v=.int .i64 sb]
  (fun _ W=>Below W0.heap.size W0 W) (by kernel_rfl) (by kernel_rfl) ?hT ?hZ ?hO ?hE
 case hZ=>exact (Below.refl _ _).drew
 case hT =>
  simp only [List.forall_mem_cons,List.not_mem_nil,false_imp_iff,implies_true,and_true]
  exact ⟨aj aA,aj aA,aj aA,aj aA,aj aA,aj aA⟩
 case hO =>
  intro u
  simp only [List.take_succ_cons,List.take_zero,aC]
  repeat' (first | with_reducible exact aV | with_reducible refine aX ?_ ?_)
  ·intro W hS hF K hK
   clear hF
   go_simp
   exact hK _ _ (.refl _ _) hS rfl
  ·intro W hS hF K hK
   have h0:u 0=.pointer (some ⟨w.heap.size,0,none⟩):=hF.1
   have c0:=cB hS H0'.b1.1 (by omega)
   have c1:=cB hS H0'.b1.2.1 (by omega)
   have c2:=cB hS H0'.b1.2.2.1 (by omega)
   clear hF
   go_simp
   exact hK _ _ (.refl _ _) hS rfl
  ·intro W hS hF K hK
   have h1:u 1=.agg #[.bool t1,.int .u64 x1,.slice p1 l1 q1]:=hF.1
   clear hF
   go_simp
   refine (hs1.out _ (H0'.i1.below hS)).mono ?_
   rintro e wA ⟨rfl,hBA⟩
   exact ⟨_,rfl,hK _ _ hBA (hS.trans (hBA.mono hS.size)) rfl⟩
  ·intro W hS hF K hK
   clear hF
   go_simp
   exact hK _ _ (.refl _ _) hS rfl
  ·intro W hS hF K hK
   have h3:u 3=.pointer (some ⟨w.heap.size+1,0,none⟩):=hF.1
   have d0:=cB hS H0'.b2.1 (by omega)
   have d1:=cB hS H0'.b2.2.1 (by omega)
   have d2:=cB hS H0'.b2.2.2.1 (by omega)
   clear hF
   go_simp
   exact hK _ _ (.refl _ _) hS rfl
  ·intro W hS hF K hK
   have h4:u 4=.agg #[.bool t2,.int .u64 x2,.slice p2 l2 q2]:=hF.1
   clear hF
   go_simp
   refine (hs2.out _ (H0'.i2.below hS)).mono ?_
   rintro e wA ⟨rfl,hBA⟩
   exact ⟨_,rfl,hK _ _ hBA (hS.trans (hBA.mono hS.size)) rfl⟩
 case hE =>
  intro u Wa hS hF
  have e2:u 2=.int .i64 sa:=hF.2.2.1
  have e5:u 5=.int .i64 sb:=hF.2.2.2.2.2.1
  have hbel:=hid (H0'.next hS).bel
  clear hF hS H0 H0' hs1 hs2 hsz
  simp only [List.take_succ_cons,List.take_zero,aC,List.drop_succ_cons,List.drop_zero]
  rw [e2,e5]
  go_wp2_with fail
  refine (Dz sa sb _).mono ?_
  rintro e w' ⟨rfl,rfl⟩
  go_wp2_with fail
  go_ret
  exact ⟨rfl,hbel.out⟩
def iJ (a:Int):Int:=if a<0 then -1 else if a=0 then 0 else 1
def aY (r s:Rat):Int:=if r<s then -1 else if r=s then 0 else 1
theorem Ey (r s:Rat):aY r s=fG (r.num*s.den) (s.num*r.den):=by
 unfold aY fG
 have h1:(r<s)↔(r.num*s.den<s.num*r.den):=Rat.lt_iff r s
 have h2:(r=s)↔(r.num*s.den=s.num*r.den):=Rat.eq_iff_mul_eq_mul
 simp only [h1,h2]
theorem NQ (a b:Int):fG (-a) (-b) = - fG a b:=by
 unfold fG
 rcases Int.lt_trichotomy a b with h | h | h
 ·rw [if_pos h,if_neg (by omega),if_neg (by omega)];rfl
 ·rw [if_neg (by omega),if_pos (by omega),if_neg (by omega),if_pos h];rfl
 ·rw [if_pos (by omega),if_neg (by omega),if_neg (by omega)]
theorem KG (a b:Int) (p q:Nat) (hp:p≠0) (hq:q≠0) (h:iJ a≠iJ b):fG (a*q) (b*p)=fG (iJ a) (iJ b):=by
 have hp':(0:Int)<p:=by omega
 have hq':(0:Int)<q:=by omega
 have ha:(a<0→a*q<0)∧(a=0→a*q=0)∧(0<a→0<a*q):=⟨fun h=>Int.mul_neg_of_neg_of_pos h hq',fun h=>by rw [h,Int.zero_mul],fun h=>Int.mul_pos h hq'⟩
 have hb:(b<0→b*p<0)∧(b=0→b*p=0)∧(0<b→0<b*p):=⟨fun h=>Int.mul_neg_of_neg_of_pos h hp',fun h=>by rw [h,Int.zero_mul],fun h=>Int.mul_pos h hp'⟩
 generalize a*q=A at *
 generalize b*p=B at *
 unfold iJ fG at *
 rcases Int.lt_trichotomy a 0 with h1 | h1 | h1 <;> rcases Int.lt_trichotomy b 0 with h2 | h2 | h2 <;> split at h <;> grind
theorem Hl (a:Int):sgn (decide (a<0)) a.natAbs=iJ a:=by
 unfold sgn iJ
 by_cases h:a<0
 ·rw [decide_eq_true h,if_pos rfl,if_pos h]
 ·rw [decide_eq_false h,if_neg (by simp),if_neg h]
  by_cases h0:a=0
  ·rw [if_pos h0,if_pos (by omega)]
  ·rw [if_neg h0,if_neg (by omega)]
theorem Lu {a b:Int} (h:iJ a=iJ b):(a<0↔b<0):=by
 unfold iJ at h
 constructor <;> intro h1 <;> split at h <;> grind
theorem vX (r s:Rat) (v1 v2:Value) (k:Nat) (w:World) (h1:IsQ w v1 r) (h2:IsQ w v2 s) (hk:k≤68719476736) (f1:Fits k r) (f2:Fits k s) :
  Calls Tryz.prog 38 #[v1,v2] w (dh w (.int .i64 (aY r s))):=by
 obtain ⟨t1,x1,p1,l1,q1,y1,r1,s1,u1,rfl,i1,j1,e1⟩:=h1.shape
 obtain ⟨t2,x2,p2,l2,q2,y2,r2,s2,u2,rfl,i2,j2,e2⟩:=h2.shape
 have e1':=e1.out
 have e2':=e2.out
 have g1:sgn t1 r.num.natAbs=iJ r.num:=by rw [e1',Hl]
 have g2:sgn t2 s.num.natAbs=iJ s.num:=by rw [e2',Hl]
 rw [Ey]
 by_cases hs:iJ r.num=iJ s.num
 ·have hn:=Lu hs
  have fd1:ak (bK r)<B64 ^ k:=by rw [bZ];exact f1.2
  have fd2:ak (bK s)<B64 ^ k:=by rw [bZ];exact f2.2
  by_cases h0:r.num<0
  ·have:=Rh t1 t2 x1 y1 x2 y2 p1 r1 p2 r2 l1 q1 s1 u1 l2 q2 s2 u2 _ _ _ _ k w i1 j1 i2 j2 (by rw [g1,g2,hs]) (by rw [e1'];exact decide_eq_true h0) hk f1.1 fd1 f2.1 fd2
   rw [bZ,bZ,← yc,Int.natCast_mul,Int.natCast_mul,Int.ofNat_natAbs_of_nonpos (by omega),Int.ofNat_natAbs_of_nonpos (by have:=hn.1 h0;omega),Int.neg_mul,Int.neg_mul,NQ,Int.neg_neg] at this
   exact this
  ·have:=PS t1 t2 x1 y1 x2 y2 p1 r1 p2 r2 l1 q1 s1 u1 l2 q2 s2 u2 _ _ _ _ k w i1 j1 i2 j2 (by rw [g1,g2,hs]) (by rw [e1'];exact decide_eq_false h0) hk f1.1 fd1 f2.1 fd2
   rw [bZ,bZ,← yc,Int.natCast_mul,Int.natCast_mul,Int.natAbs_of_nonneg (by omega),Int.natAbs_of_nonneg (by have:¬ s.num<0:=fun h=>h0 (hn.2 h);omega)] at this
   exact this
 ·have:=QN t1 t2 x1 y1 x2 y2 p1 r1 p2 r2 l1 q1 s1 u1 l2 q2 s2 u2 _ _ _ _ w i1 j1 i2 j2 (by rw [g1,g2];exact hs)
  rw [g1,g2,← KG _ _ r.den s.den r.den_nz s.den_nz hs] at this
  exact this
end
namespace Z4
def B4:Nat:=10000
theorem jB:0<B4:=by decide
theorem iL:B4=10000:=rfl
def val:List Nat→Nat
 | []=>0
 | d :: ds=>d+B4*val ds
def Dig (xs:List Nat):Prop:=∀ d,d∈xs→d<B4
theorem gX:val []=0:=rfl
theorem fE (d:Nat) (ds:List Nat):val (d :: ds)=d+B4*val ds:=rfl
theorem val_append (xs ys:List Nat):val (xs ++ ys)=val xs+B4 ^ xs.length*val ys:=by
 induction xs with
 | nil=>simp [val]
 | cons x xs ih=>simp only [List.cons_append,fE,ih,List.length_cons,Nat.pow_succ,Nat.mul_add];rw [Nat.mul_comm (B4 ^ xs.length) B4,Nat.mul_assoc];omega
theorem gu (xs:List Nat) (d:Nat):val (xs ++ [d])=val xs+B4 ^ xs.length*d:=by
 rw [val_append];simp [val]
theorem Dig.nil:Dig []:=fun _ h=>by simp at h
theorem Dig.append {xs ys:List Nat} (h:Dig xs) (k:Dig ys):Dig (xs ++ ys):=fun d hd=>by
 rcases List.mem_append.1 hd with h1 | h1
 ·exact h d h1
 ·exact k d h1
theorem Dig.left {xs ys:List Nat} (h:Dig (xs ++ ys)):Dig xs:=fun d hd=>h d (by simp [hd])
theorem Dig.right {xs ys:List Nat} (h:Dig (xs ++ ys)):Dig ys:=fun d hd=>h d (by simp [hd])
theorem Dig.take {xs:List Nat} (h:Dig xs) (k:Nat):Dig (xs.take k):=fun d hd=>h d (List.mem_of_mem_take hd)
theorem Dig.drop {xs:List Nat} (h:Dig xs) (k:Nat):Dig (xs.drop k):=fun d hd=>h d (List.mem_of_mem_drop hd)
theorem Dig.get {xs:List Nat} (h:Dig xs) (k:Nat) (hk:k<xs.length):xs[k]<B4:=h _ (List.getElem_mem hk)
theorem Dig.getD {xs:List Nat} (h:Dig xs) (k:Nat):xs[k]?.getD 0<B4:=by
 by_cases hk:k<xs.length
 ·rw [List.getElem?_eq_getElem hk];exact h.get k hk
 ·rw [List.getElem?_eq_none (by omega)];exact jB
theorem aU {xs:List Nat} (h:Dig xs):val xs<B4 ^ xs.length:=by
 induction xs with
 | nil=>simp [val]
 | cons x xs ih =>
  have hx:=h x (by simp)
  have ht:=ih (fun d hd=>h d (by simp [hd]))
  rw [fE,List.length_cons,Nat.pow_succ,Nat.mul_comm _ B4]
  calc x+B4*val xs<B4+B4*val xs:=by omega
   _=B4*(val xs+1):=by rw [Nat.mul_add];omega
   _≤B4*B4 ^ xs.length:=Nat.mul_le_mul_left _ ht
theorem uh (xs:List Nat) (k:Nat) (hk:k<xs.length):val (xs.take (k+1))=val (xs.take k)+B4 ^ k*xs[k]:=by
 rw [List.take_succ_eq_append_getElem hk,gu,List.length_take,Nat.min_eq_left (by omega)]
theorem cZ (xs:List Nat) (k:Nat) (hk:k≤xs.length):val xs=val (xs.take k)+B4 ^ k*val (xs.drop k):=by
 conv=>lhs;rw [← List.take_append_drop k xs]
 rw [val_append,List.length_take,Nat.min_eq_left hk]
theorem oN (n:Nat):val (List.replicate n 0)=0:=by
 induction n with
 | zero=>rfl
 | succ n ih=>rw [List.replicate_succ,fE,ih];rfl
def aG (xs:List Nat):Prop:=∀ h:xs≠[],xs.getLast h≠0
theorem kV {xs:List Nat} (h:aG xs) (hne:xs≠[]):B4 ^ (xs.length - 1)≤val xs:=by
 have hl:=h hne
 obtain ⟨ys,d,rfl⟩:∃ ys d,xs=ys ++ [d]:=⟨xs.dropLast,xs.getLast hne,(List.dropLast_concat_getLast hne).symm⟩
 rw [gu]
 simp at hl ⊢
 calc B4 ^ ys.length=B4 ^ ys.length*1:=by omega
  _≤B4 ^ ys.length*d:=Nat.mul_le_mul_left _ (by omega)
  _≤_:=by omega
theorem kJ {xs:List Nat} (h:aG xs) (hne:xs≠[]):0<val xs:=
 Nat.lt_of_lt_of_le (Nat.pow_pos jB) (kV h hne)
theorem iT {xs ys:List Nat} (hx:Dig xs) (hy:aG ys) (hl:xs.length<ys.length):val xs<val ys:=by
 have h1:=aU hx
 have h2:=kV hy (by intro e;simp [e] at hl)
 have h3:B4 ^ xs.length≤B4 ^ (ys.length - 1):=Nat.pow_le_pow_right jB (by omega)
 omega
theorem dU (xs:List Nat) (k:Nat) (hk:k<xs.length):val (xs.drop k)=xs[k]?.getD 0+B4*val (xs.drop (k+1)):=by
 rw [List.drop_eq_getElem_cons hk,fE,List.getElem?_eq_getElem hk];rfl
def bP (xs ys:List Nat) (k:Nat) (r:Int):Prop:=
 k≤xs.length∧(xs.length=ys.length∧r=aI (val (xs.drop k)) (val (ys.drop k))∨xs.length≠ys.length∧r=aI xs.length ys.length)
theorem bP.bd {xs ys:List Nat} {k:Nat} {r:Int} (h:bP xs ys k r):-1≤r∧r≤1:=by
 rcases h.2 with ⟨_,rfl⟩ | ⟨_,rfl⟩ <;> exact yt _ _
theorem bP.start (xs ys:List Nat):bP xs ys xs.length (aI xs.length ys.length):=by
 refine ⟨Nat.le_refl _,?_⟩
 by_cases h:xs.length=ys.length
 ·exact .inl ⟨h,by rw [List.drop_of_length_le (Nat.le_refl _),List.drop_of_length_le (by omega),h,iI,iI]⟩
 ·exact .inr ⟨h,rfl⟩
theorem bP.len {xs ys:List Nat} {k:Nat} (h:bP xs ys k 0):xs.length=ys.length:=by
 rcases h.2 with ⟨e,_⟩ | ⟨e,h0⟩
 ·exact e
 ·exact um h0.symm
theorem bP.step {xs ys:List Nat} {k:Nat} (h:bP xs ys (k+1) 0):bP xs ys k (aI (xs[k]?.getD 0) (ys[k]?.getD 0)):=by
 have hl:=h.len
 have hk:=h.1
 refine ⟨by omega,.inl ⟨hl,?_⟩⟩
 rcases h.2 with ⟨_,h0⟩ | ⟨e,_⟩
 ·have e:=um h0.symm
  rw [dU xs k (by omega),dU ys k (by omega),e,Gz]
 ·omega
theorem bP.done {xs ys:List Nat} {k:Nat} {r:Int} (h:bP xs ys k r) (hd:k=0∨r≠0) (dx:Dig xs) (dy:Dig ys) (tx:aG xs) (ty:aG ys):r=aI (val xs) (val ys):=by
 obtain ⟨hk,⟨hl,rfl⟩ | ⟨hl,rfl⟩⟩:=h
 ·rcases hd with rfl | hd
  ·simp
  ·rw [cZ xs k hk,cZ ys k (by omega)]
   have a:=aU (dx.take k)
   have b:=aU (dy.take k)
   rw [List.length_take,Nat.min_eq_left hk] at a
   rw [List.length_take,Nat.min_eq_left (by omega)] at b
   rw [Gf _ _ _ _ _ a b hd]
 ·rcases Nat.lt_or_gt_of_ne hl with h1 | h1
  ·rw [eX h1,eX (iT dx ty h1)]
  ·rw [gV h1,gV (iT dy tx h1)]
def dN (xs:List Nat) (n:Nat):Prop:=n≤xs.length∧(∀ j:Nat,n≤j→xs[j]?.getD 0=0)∧(n=0∨xs[n - 1]?.getD 0≠0)
theorem sJ (xs:List Nat) (h:∀ j:Nat,xs[j]?.getD 0=0):val xs=0:=by
 induction xs with
 | nil=>rfl
 | cons x xs ih =>
  have h0:x=0:=by simpa using h 0
  have ht:val xs=0:=ih (fun j=>by simpa using h (j+1))
  rw [fE,h0,ht];simp
theorem dN.val {xs:List Nat} {n:Nat} (h:dN xs n):val (xs.take n)=val xs:=by
 rw [cZ xs n h.1,sJ (xs.drop n) (fun j=>by rw [List.getElem?_drop];exact h.2.1 _ (by omega))]
 simp
theorem dN.trimmed {xs:List Nat} {n:Nat} (h:dN xs n):aG (xs.take n):=by
 intro hne
 rcases h.2.2 with h0 | h0
 ·subst h0;simp at hne
 ·have hn:n≠0:=by intro e;subst e;simp at hne
  have hle:=h.1
  rw [List.getLast_eq_getElem]
  simp only [List.length_take,Nat.min_eq_left h.1,List.getElem_take]
  rw [List.getElem?_eq_getElem (by omega)] at h0
  exact h0
theorem dN.eq {xs:List Nat} {n m:Nat} (h:dN xs n) (k:dN xs m):n=m:=by
 rcases Nat.lt_trichotomy n m with h1 | h1 | h1
 ·rcases k.2.2 with h0 | h0
  ·omega
  ·exact absurd (h.2.1 (m - 1) (by omega)) h0
 ·exact h1
 ·rcases h.2.2 with h0 | h0
  ·omega
  ·exact absurd (k.2.1 (n - 1) (by omega)) h0
end Z4
namespace Z4
theorem tJ {xs:List Nat}:val (xs.take xs.length)=val xs:=by rw [List.take_of_length_le (Nat.le_refl _)]
theorem gU (xs:List Nat) (k:Nat):val (xs.take (k+1))=val (xs.take k)+B4 ^ k*xs[k]?.getD 0:=by
 by_cases h:k<xs.length
 ·rw [uh xs k h,List.getElem?_eq_getElem h];rfl
 ·rw [List.take_of_length_le (by omega),List.take_of_length_le (by omega),List.getElem?_eq_none (by omega)];simp
theorem IY:∀ (xs:List Nat) (p d:Nat),p<xs.length→val (xs.set p d)+B4 ^ p*xs[p]?.getD 0=val xs+B4 ^ p*d
 | [],p,d,h=>by simp at h
 | x :: xs,0,d,_=>by simp [fE];omega
 | x :: xs,p+1,d,h=>by
  have ih:=IY xs p d (by simpa using h)
  simp only [List.set_cons_succ,fE,List.getElem?_cons_succ,Nat.pow_succ]
  generalize val (xs.set p d)=S at *
  generalize B4 ^ p=P at *
  generalize xs[p]?.getD 0=e at *
  generalize val xs=V at *
  generalize B4=B at *
  have:=congrArg (B * ·) ih
  grind
theorem Dig.set {xs:List Nat} (h:Dig xs) (p d:Nat) (hd:d<B4):Dig (xs.set p d):=fun e he=>by
 rcases List.mem_or_eq_of_mem_set he with h1 | h1
 ·exact h e h1
 ·omega
theorem Dig.snoc {xs:List Nat} (h:Dig xs) {d:Nat} (hd:d<B4):Dig (xs ++ [d]):=h.append fun e he=>by simp at he;omega
theorem Dig.cons {xs:List Nat} (h:Dig xs) {d:Nat} (hd:d<B4):Dig (d :: xs):=fun e he=>by
 rcases List.mem_cons.1 he with h1 | h1
 ·omega
 ·exact h e h1
structure jw (xs ys ds:List Nat) (k c:Nat):Prop where
 len:ds.length=k
 dig:Dig ds
 le:c≤1
 hk:k≤xs.length
 eq:val (xs.take k)+c*B4 ^ k=val ds+val (ys.take k)
theorem jw.start (xs ys:List Nat):jw xs ys [] 0 0:=⟨rfl,Dig.nil,by omega,by omega,by simp [val]⟩
theorem jw.step {xs ys ds:List Nat} {k c x y d c':Nat} (h:jw xs ys ds k c) (hlt:k<xs.length) (hx:xs[k]?.getD 0=x) (hy:ys[k]?.getD 0=y) (hd:d<B4) (hc:c'≤1) (e:x+c' * B4=d+y+c) :
  jw xs ys (ds ++ [d]) (k+1) c':=by
 refine ⟨by simp [h.len],h.dig.snoc hd,hc,hlt,?_⟩
 have h1:=h.eq
 rw [gU xs,gU ys,gu,h.len,Nat.pow_succ,hx,hy]
 generalize B4 ^ k=P at *
 generalize val (xs.take k)=X at *
 generalize val (ys.take k)=Y at *
 generalize val ds=D at *
 generalize B4=B at *
 have:=congrArg (P * ·) e
 grind
theorem jw.done {xs ys ds:List Nat} {c:Nat} (h:jw xs ys ds xs.length c) (hl:ys.length≤xs.length) (hv:val ys≤val xs):val ds=val xs - val ys:=by
 have h1:=h.eq
 rw [tJ,List.take_of_length_le hl] at h1
 have h2:=aU h.dig
 rw [h.len] at h2
 have h3:=h.le
 rcases Nat.eq_zero_or_pos c with h0 | h0
 ·subst h0;omega
 ·obtain rfl:c=1:=by omega
  omega
theorem Qb {xs ys:List Nat} (dx:Dig xs) (ty:aG ys) (hv:val ys≤val xs):ys.length≤xs.length:=by
 rcases Nat.lt_or_ge xs.length ys.length with h | h
 ·have:=iT dx ty h;omega
 ·exact h
structure og (xs ys pk:List Nat) (i:Nat):Prop where
 len:pk.length=xs.length+ys.length
 dig:Dig pk
 zero:∀ j:Nat,i+ys.length≤j→pk[j]?.getD 0=0
 eq:val pk=val (xs.take i)*val ys
theorem og.start (xs ys:List Nat):og xs ys (List.replicate (xs.length+ys.length) 0) 0:=
 ⟨by simp,fun d hd=>by rw [List.eq_of_mem_replicate hd];exact jB,fun j _=>by rw [List.getElem?_replicate];split <;> rfl,by rw [oN];simp [val]⟩
structure oz (xs ys pk:List Nat) (i k c:Nat):Prop where
 len:pk.length=xs.length+ys.length
 dig:Dig pk
 zero:∀ j:Nat,i+ys.length≤j→i+k≤j→pk[j]?.getD 0=0
 lt:c<B4
 le:k≤ys.length∨k=ys.length+1∧c=0
 eq:val pk+c*B4 ^ (i+k)=val (xs.take i)*val ys+B4 ^ i*xs[i]?.getD 0*val (ys.take k)
theorem og.inner {xs ys pk:List Nat} {i:Nat} (h:og xs ys pk i):oz xs ys pk i 0 0:=
 ⟨h.len,h.dig,fun j h1 _=>h.zero j h1,jB,.inl (by omega),by rw [h.eq];simp [val]⟩
theorem oz.step {xs ys pk:List Nat} {i k c o x y d c':Nat} (h:oz xs ys pk i k c) (hi:i<xs.length) (hgo:k<ys.length∨0<c) (ho:pk[i+k]?.getD 0=o) (hx:xs[i]?.getD 0=x) (hy:ys[k]?.getD 0=y) (hyl:y<B4) (hxl:x<B4)
  (hd:d<B4) (e:o+c+x*y=d+c' * B4):i+k<pk.length∧oz xs ys (pk.set (i+k) d) i (k+1) c':=by
 have hk:k≤ys.length:=by
  rcases h.le with h1 | h1
  ·exact h1
  ·omega
 have hlt:i+k<pk.length:=by rw [h.len];omega
 have hol:o<B4:=ho ▸ h.dig.getD (i+k)
 have hcl:=h.lt
 refine ⟨hlt,by rw [List.length_set];exact h.len,h.dig.set _ _ hd,fun j h1 h2=>?_,?_,?_,?_⟩
 ·rw [List.getElem?_set_ne (by omega)]
  exact h.zero j h1 (by omega)
 ·have h1:x*y≤(B4 - 1)*(B4 - 1):=Nat.mul_le_mul (by omega) (by omega)
  unfold B4 at *
  omega
 ·rcases Nat.lt_or_ge k ys.length with h1 | h1
  ·exact .inl h1
  ·obtain rfl:k=ys.length:=by omega
   have o0:=h.zero (i+ys.length) (Nat.le_refl _) (Nat.le_refl _)
   rw [ho] at o0
   have y0:y=0:=by rw [← hy,List.getElem?_eq_none (Nat.le_refl _)];rfl
   subst o0 y0
   refine .inr ⟨rfl,?_⟩
   unfold B4 at *
   omega
 ·have h1:=IY pk (i+k) d hlt
  have h2:=h.eq
  rw [ho] at h1
  rw [gU ys,hy,hx,show i+(k+1)=i+k+1 by omega,Nat.pow_succ]
  rw [hx] at h2
  have h3:B4 ^ (i+k)=B4 ^ i*B4 ^ k:=Nat.pow_add _ _ _
  rw [h3] at h1 h2 ⊢
  generalize val (pk.set (i+k) d)=S at *
  generalize val pk=V at *
  generalize val (xs.take i)*val ys=X at *
  generalize val (ys.take k)=Y at *
  generalize B4 ^ i=P at *
  generalize B4 ^ k=Q at *
  generalize B4=B at *
  have:=congrArg (P*Q * ·) e
  grind
theorem oz.done {xs ys pk:List Nat} {i k:Nat} (h:oz xs ys pk i k 0) (hk:ys.length≤k):og xs ys pk (i+1):=by
 refine ⟨h.len,h.dig,fun j hj=>h.zero j (by omega) (by rcases h.le with h1 | h1 <;> omega),?_⟩
 have h1:=h.eq
 rw [List.take_of_length_le hk] at h1
 rw [gU xs]
 generalize val pk=V at *
 generalize val (xs.take i)=X at *
 generalize val ys=Y at *
 generalize B4 ^ i=P at *
 generalize xs[i]?.getD 0=x at *
 grind
structure nZ (xs qs rs:List Nat) (m i:Nat):Prop where
 len:qs.length=xs.length
 dig:Dig qs
 zero:∀ j:Nat,j<i→qs[j]?.getD 0=0
 hi:i≤xs.length
 digR:Dig rs
 trim:aG rs
 lt:val rs<m
 eq:val (xs.drop i)=val (qs.drop i)*m+val rs
theorem nZ.start (xs:List Nat) {m:Nat} (hm:0<m):nZ xs (List.replicate xs.length 0) [] m xs.length:=
 ⟨by simp,fun d hd=>by rw [List.eq_of_mem_replicate hd];exact jB,fun j _=>by rw [List.getElem?_replicate];split <;> rfl,Nat.le_refl _,Dig.nil,fun h=>absurd rfl h,hm,by
  rw [List.drop_of_length_le (Nat.le_refl _),List.drop_of_length_le (by simp)];simp [val]⟩
theorem Ny (xs:List Nat) (p d:Nat) (h:p<xs.length):(xs.set p d).drop p=d :: xs.drop (p+1):=by
 apply List.ext_getElem?
 intro j
 cases j with
 | zero=>simp [h]
 | succ j=>simp [List.getElem?_drop,List.getElem?_set_ne (show p≠p+(j+1) by omega)];congr 1;omega
theorem nZ.step {xs qs rs ss:List Nat} {m i x k:Nat} (h:nZ xs qs rs m (i+1)) (hx:xs[i]?.getD 0=x) (hd:Dig ss) (ht:aG ss) (hs:val ss<m) (hk:k<B4) (e:x+B4*val rs=k*m+val ss) :
  nZ xs (qs.set i k) ss m i:=by
 have hi:=h.hi
 have hl:=h.len
 refine ⟨by rw [List.length_set];exact hl,h.dig.set _ _ hk,fun j hj=>by rw [List.getElem?_set_ne (by omega)];exact h.zero j (by omega),by omega,hd,ht,hs,?_⟩
 have h1:=h.eq
 rw [dU xs i (by omega),hx,h1,Ny qs i k (by omega),fE]
 generalize val (qs.drop (i+1))=Q at *
 generalize val rs=R at *
 generalize val ss=S at *
 generalize B4=B at *
 grind
theorem Ul {R M T U P:Nat} (hT:P*T≤R) (hU:M<P*(U+1)):T / (U+1)*M≤R:=by
 have h1:T / (U+1)*M≤T / (U+1)*(P*(U+1)):=Nat.mul_le_mul_left _ (Nat.le_of_lt hU)
 have h2:T / (U+1)*(U+1)≤T:=Nat.div_mul_le_self _ _
 have h3:P*(T / (U+1)*(U+1))≤P*T:=Nat.mul_le_mul_left _ h2
 have h4:T / (U+1)*(P*(U+1))=P*(T / (U+1)*(U+1)):=by grind
 omega
theorem QJ (xs:List Nat) (f:Nat) (hf:f≤xs.length):B4 ^ f*val (xs.drop f)≤val xs:=by rw [cZ xs f hf];omega
theorem Jm {xs:List Nat} (h:Dig xs) (f:Nat) (hf:f≤xs.length):val xs<B4 ^ f*(val (xs.drop f)+1):=by
 have h1:=aU (h.take f)
 rw [List.length_take,Nat.min_eq_left hf] at h1
 rw [cZ xs f hf,Nat.mul_add]
 omega
theorem mX {x R m k:Nat} (hx:x<B4) (hR:R<m) (h:k*m≤x+B4*R):k<B4:=by
 rcases Nat.lt_or_ge k B4 with h1 | h1
 ·exact h1
 ·have h2:B4*m≤k*m:=Nat.mul_le_mul_right _ h1
  have h3:B4*(R+1)≤B4*m:=Nat.mul_le_mul_left _ hR
  rw [Nat.mul_add] at h3
  omega
structure kP (n:Nat) (ds:List Nat) (m:Nat):Prop where
 dig:Dig ds
 trim:m=0→aG ds
 eq:val ds+B4 ^ ds.length*m=n
 few:m*10000 ^ ds.length≤n
theorem kP.start (n:Nat):kP n [] n:=⟨Dig.nil,fun _ h=>absurd rfl h,by simp [val],by simp⟩
theorem kP.step {n m:Nat} {ds:List Nat} (h:kP n ds m) (hm:m≠0):kP n (ds ++ [m % 10000]) (m / 10000):=by
 have hd:m % 10000<B4:=Nat.mod_lt _ (by decide)
 have hdm:=Nat.div_add_mod m 10000
 refine ⟨h.dig.snoc hd,fun h0 hne=>?_,?_,?_⟩
 ·rw [show (ds ++ [m % 10000]).getLast hne=m % 10000 by simp]
  omega
 ·rw [gu,List.length_append,List.length_singleton,Nat.pow_succ]
  have h1:=h.eq
  rw [← iL] at hdm ⊢
  generalize B4 ^ ds.length=P at *
  generalize B4=B at *
  generalize m / B=a at *
  generalize m % B=b at *
  have:=congrArg (P * ·) hdm
  grind
 ·rw [List.length_append,List.length_singleton,Nat.pow_succ]
  have h1:=h.few
  have h2:m / 10000*10000≤m:=Nat.div_mul_le_self _ _
  have h3:m / 10000*10000*10000 ^ ds.length≤m*10000 ^ ds.length:=Nat.mul_le_mul_right _ h2
  have h4:m / 10000*(10000 ^ ds.length*10000)=m / 10000*10000*10000 ^ ds.length:=by grind
  omega
end Z4
end Go.Proofs.YtnmlkobogofadaaGreatDoor
