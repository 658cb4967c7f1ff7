/- What the proof rests on, part 16: Numbers: the order. Digits to the base 10000, their values and their order: plain mathematics, no program. -/
import Derived.Test.YtnmlkobogofadaaGreatDoorP15
import Derived.Test.YtnmlkobogofadaaGreatDoorP00
namespace Go.Proofs.YtnmlkobogofadaaGreatDoor
set_option maxRecDepth 100000
set_option maxHeartbeats 80000000
open Go.RowKit Go.Sort
attribute [local go_sem] takes takesUpon_value takesUpon_skip takesUpon_enter
structure B2St (w W:World) (t1:Bool) (c1 d1 e1 f1:Value) (t2:Bool) (c2 d2 e2 f2:Value) (n1 m1 n2 m2:Nat):Prop where
 b1:C5 W w.heap.size (.bool t1) c1 d1 e1 f1
 b2:C5 W (w.heap.size+1) (.bool t2) c2 d2 e2 f2
 i1:IsMag W c1 d1 n1
 j1:IsMag W e1 f1 m1
 i2:IsMag W c2 d2 n2
 j2:IsMag W e2 f2 m2
 bel:Below w.heap.size w W
 sz:w.heap.size+2≤W.heap.size
theorem B2St.next {w W W':World} {t1 t2:Bool} {c1 d1 e1 f1 c2 d2 e2 f2:Value} {n1 m1 n2 m2:Nat} (h:B2St w W t1 c1 d1 e1 f1 t2 c2 d2 e2 f2 n1 m1 n2 m2) (hb:Below W.heap.size W W') :
  B2St w W' t1 c1 d1 e1 f1 t2 c2 d2 e2 f2 n1 m1 n2 m2 where
 b1:=C5.below h.b1 hb (by have:=h.sz;omega)
 b2:=C5.below h.b2 hb (by have:=h.sz;omega)
 i1:=h.i1.below hb
 j1:=h.j1.below hb
 i2:=h.i2.below hb
 j2:=h.j2.below hb
 bel:=h.bel.trans (hb.mono h.bel.size)
 sz:=Nat.le_trans h.sz hb.size
theorem B2St.start {w:World} (t1 t2:Bool) (c1 d1 e1 f1 c2 d2 e2 f2:Value) (n1 m1 n2 m2:Nat) (T1 T2:TypeId) (i1:IsMag w c1 d1 n1) (j1:IsMag w e1 f1 m1) (i2:IsMag w c2 d2 n2) (j2:IsMag w e2 f2 m2) :
  B2St w ((w.alloc (.cells #[.bool t1,c1,d1,e1,f1] T1)).alloc (.cells #[.bool t2,c2,d2,e2,f2] T2)) t1 c1 d1 e1 f1 t2 c2 d2 e2 f2 n1 m1 n2 m2:=by
 have hb:=((Below.refl w.heap.size w).alloc (Nat.le_refl _) (.cells #[.bool t1,c1,d1,e1,f1] T1)).alloc (by simp) (.cells #[.bool t2,c2,d2,e2,f2] T2)
 refine ⟨⟨?_,?_,?_,?_,?_⟩,⟨?_,?_,?_,?_,?_⟩,i1.below hb,j1.below hb,i2.below hb,j2.below hb,hb,by simp⟩ <;> go_simp
theorem cmp_same_false (t1 t2:Bool) (x1 y1 x2 y2:Int) (p1 r1 p2 r2:Option Addr) (l1 q1 s1 v1 l2 q2 s2 v2 n1 m1 n2 m2 k:Nat) (w:World)
  (i1:IsMag w (.int .u64 x1) (.slice p1 l1 q1) n1) (j1:IsMag w (.int .u64 y1) (.slice r1 s1 v1) m1) (i2:IsMag w (.int .u64 x2) (.slice p2 l2 q2) n2) (j2:IsMag w (.int .u64 y2) (.slice r2 s2 v2) m2) (h1:sgn t1 n1=sgn t2 n2) (ht:t1=false) (hk:k≤68719476736) (k1:n1<B64 ^ k) (k2:undN m1<B64 ^ k) (k3:n2<B64 ^ k) (k4:undN m2<B64 ^ k) :
  Calls Tryz.prog 38 #[.agg #[.bool t1,.int .u64 x1,.slice p1 l1 q1,.int .u64 y1,.slice r1 s1 v1],.agg #[.bool t2,.int .u64 x2,.slice p2 l2 q2,.int .u64 y2,.slice r2 s2 v2]] w (RetI w (.int .i64 (cmpN (n1*undN m2) (n2*undN m1)))):=by
 have hs1:=hid (fun (W:World) (h:IsMag W (.int .u64 x1) (.slice p1 l1 q1) n1)=>sign_calls t1 _ _ n1 W h)
 have hs2:=hid (fun (W:World) (h:IsMag W (.int .u64 x2) (.slice p2 l2 q2) n2)=>sign_calls t2 _ _ n2 W h)
 obtain ⟨sa,hsa⟩:∃ s,sgn t1 n1=s:=⟨_,rfl⟩
 obtain ⟨sb,hsb⟩:∃ s,sgn t2 n2=s:=⟨_,rfl⟩
 rw [hsa] at hs1 h1
 rw [hsb] at hs2 h1
 subst h1
 have HT:=hid ht
 clear ht
 have HK:=hid (And.intro k1 (And.intro k2 (And.intro k3 k4)))
 have hk3:=hk
 have HO:=hid (fun (W:World) (c d e f:Value) (h:IsMag W c d (n1*undN m2)) (h':IsMag W e f (n2*undN m1))=>mcmp_calls _ _ (k+k) _ _ _ _ W h h' (by omega) (mul_lt_pow k1 k4))
 have hr:Hid (cmpN (n1*undN m2) (n2*undN m1) = -1∨cmpN (n1*undN m2) (n2*undN m1)=0∨cmpN (n1*undN m2) (n2*undN m1)=1):=by
  unfold cmpN Hid
  split
  ·exact .inl rfl
  ·split
   ·exact .inr (.inl rfl)
   ·exact .inr (.inr rfl)
 obtain ⟨o,ho⟩:∃ o,cmpN (n1*undN m2) (n2*undN m1)=o:=⟨_,rfl⟩
 rw [ho] at HO hr ⊢
 clear ho hk k1 k2 k3 k4 hsa hsb
 have h0:=B2St.start t1 t2 (.int .u64 x1) (.slice p1 l1 q1) (.int .u64 y1) (.slice r1 s1 v1) (.int .u64 x2) (.slice p2 l2 q2) (.int .u64 y2) (.slice r2 s2 v2) n1 m1 n2 m2 31 31 i1 j1 i2 j2
 have H0:=hid h0
 clear h0 i1 j1 i2 j2
 go_enter Tryz.func38,Tryz.ntmps38
 go_wp2_with fail
 obtain ⟨W0,hW0⟩:∃ W0,(w.alloc (.cells #[.bool t1,.int .u64 x1,.slice p1 l1 q1,.int .u64 y1,.slice r1 s1 v1] 31)).alloc (.cells #[.bool t2,.int .u64 x2,.slice p2 l2 q2,.int .u64 y2,.slice r2 s2 v2] 31)=W0:=⟨_,rfl⟩
 rw [hW0] at H0 ⊢
 clear hW0
 have H0':B2St w W0 t1 (.int .u64 x1) (.slice p1 l1 q1) (.int .u64 y1) (.slice r1 s1 v1) t2 (.int .u64 x2) (.slice p2 l2 q2) (.int .u64 y2) (.slice r2 s2 v2) n1 m1 n2 m2:=H0.out
 have hsz:=H0'.sz
 refine wp_region_inv 6 [⟨[],[0]⟩,⟨[0],[1]⟩,⟨[1],[2]⟩,⟨[],[3]⟩,⟨[3],[4]⟩,⟨[4],[5]⟩]
  [one fun v _=>v=.pointer (some ⟨w.heap.size,0,none⟩),one fun v _=>v=.agg #[.bool t1,.int .u64 x1,.slice p1 l1 q1],one fun v _=>v=.int .i64 sa,one fun v _=>v=.pointer (some ⟨w.heap.size+1,0,none⟩),one fun v _=>v=.agg #[.bool t2,.int .u64 x2,.slice p2 l2 q2],one fun v _=>v=.int .i64 sa]
  (fun _ W=>Below W0.heap.size W0 W) (by kernel_rfl) (by kernel_rfl) ?hT ?hZ ?hO ?hE
 case hZ=>exact (Below.refl _ _).drew
 case hT =>
  simp only [List.forall_mem_cons,List.not_mem_nil,false_imp_iff,implies_true,and_true]
  exact ⟨one_below is_below,one_below is_below,one_below is_below,one_below is_below,one_below is_below,one_below is_below⟩
 case hO =>
  intro u
  simp only [List.take_succ_cons,List.take_zero,putAll]
  repeat' (first | with_reducible exact debts_nil | with_reducible refine debts_cons ?_ ?_)
  ·intro W hS hF K hK
   clear hF
   go_simp
   exact hK _ _ (.refl _ _) hS rfl
  ·intro W hS hF K hK
   have h0:u 0=.pointer (some ⟨w.heap.size,0,none⟩):=hF.1
   have c0:=cB hS H0'.b1.1 (by omega)
   have c1:=cB hS H0'.b1.2.1 (by omega)
   have c2:=cB hS H0'.b1.2.2.1 (by omega)
   clear hF
   go_simp
   exact hK _ _ (.refl _ _) hS rfl
  ·intro W hS hF K hK
   have h1:u 1=.agg #[.bool t1,.int .u64 x1,.slice p1 l1 q1]:=hF.1
   clear hF
   go_simp
   refine (hs1.out _ (H0'.i1.below hS)).mono ?_
   rintro e wA ⟨rfl,hBA⟩
   exact ⟨_,rfl,hK _ _ hBA (hS.trans (hBA.mono hS.size)) rfl⟩
  ·intro W hS hF K hK
   clear hF
   go_simp
   exact hK _ _ (.refl _ _) hS rfl
  ·intro W hS hF K hK
   have h3:u 3=.pointer (some ⟨w.heap.size+1,0,none⟩):=hF.1
   have d0:=cB hS H0'.b2.1 (by omega)
   have d1:=cB hS H0'.b2.2.1 (by omega)
   have d2:=cB hS H0'.b2.2.2.1 (by omega)
   clear hF
   go_simp
   exact hK _ _ (.refl _ _) hS rfl
  ·intro W hS hF K hK
   have h4:u 4=.agg #[.bool t2,.int .u64 x2,.slice p2 l2 q2]:=hF.1
   clear hF
   go_simp
   refine (hs2.out _ (H0'.i2.below hS)).mono ?_
   rintro e wA ⟨rfl,hBA⟩
   exact ⟨_,rfl,hK _ _ hBA (hS.trans (hBA.mono hS.size)) rfl⟩
 case hE =>
  intro u Wa hS hF
  have e2:u 2=.int .i64 sa:=hF.2.2.1
  have e5:u 5=.int .i64 sa:=hF.2.2.2.2.2.1
  have H1:=hid (H0'.next hS)
  clear hF hS H0 H0' hs1 hs2 hsz
  simp only [List.take_succ_cons,List.take_zero,putAll,List.drop_succ_cons,List.drop_zero]
  rw [e2,e5]
  go_wp2_with fail
  have H1':B2St w Wa t1 (.int .u64 x1) (.slice p1 l1 q1) (.int .u64 y1) (.slice r1 s1 v1) t2 (.int .u64 x2) (.slice p2 l2 q2) (.int .u64 y2) (.slice r2 s2 v2) n1 m1 n2 m2:=H1.out
  have hsz:=H1'.sz
  refine wp_region_inv 13 [⟨[],[0]⟩,⟨[0],[1]⟩,⟨[1],[2]⟩,⟨[],[3]⟩,⟨[3],[4]⟩,⟨[2,4],[5]⟩,⟨[],[6]⟩,⟨[6],[7]⟩,⟨[7],[8]⟩,⟨[],[9]⟩,⟨[9],[10]⟩,⟨[8,10],[11]⟩,⟨[5,11],[12]⟩]
   [one fun v _=>v=.pointer (some ⟨w.heap.size,0,none⟩),one fun v _=>v=.pointer (some ⟨w.heap.size,1,none⟩),one fun v _=>v=.agg #[.int .u64 x1,.slice p1 l1 q1],one fun v _=>v=.agg #[.bool t2,.int .u64 x2,.slice p2 l2 q2,.int .u64 y2,.slice r2 s2 v2],one (MagV (undN m2)),one (MagV (n1*(undN m2))),one fun v _=>v=.pointer (some ⟨w.heap.size+1,0,none⟩),one fun v _=>v=.pointer (some ⟨w.heap.size+1,1,none⟩),one fun v _=>v=.agg #[.int .u64 x2,.slice p2 l2 q2],one fun v _=>v=.agg #[.bool t1,.int .u64 x1,.slice p1 l1 q1,.int .u64 y1,.slice r1 s1 v1],one (MagV (undN m1)),one (MagV (n2*(undN m1))),one fun v _=>v=.int .i64 o]
   (fun _ W=>Below Wa.heap.size Wa W) (by kernel_rfl) (by kernel_rfl) ?hT ?hZ ?hO ?hE
  case hZ=>exact (Below.refl _ _).drew
  case hT =>
   simp only [List.forall_mem_cons,List.not_mem_nil,false_imp_iff,implies_true,and_true]
   exact ⟨one_below is_below,one_below is_below,one_below is_below,one_below is_below,one_below magV_below,one_below magV_below,one_below is_below,one_below is_below,one_below is_below,one_below is_below,one_below magV_below,one_below magV_below,one_below is_below⟩
  case hO =>
   intro u
   simp only [List.take_succ_cons,List.take_zero,putAll]
   repeat' (first | with_reducible exact debts_nil | with_reducible refine debts_cons ?_ ?_)
   ·intro W hS hF K hK
    clear hF
    go_simp
    exact hK _ _ (.refl _ _) hS rfl
   ·intro W hS hF K hK
    have h0:u 0=.pointer (some ⟨w.heap.size,0,none⟩):=hF.1
    clear hF
    go_simp
    exact hK _ _ (.refl _ _) hS rfl
   ·intro W hS hF K hK
    have h1:u 1=.pointer (some ⟨w.heap.size,1,none⟩):=hF.1
    have c1:=cB hS H1'.b1.2.1 (by omega)
    have c2:=cB hS H1'.b1.2.2.1 (by omega)
    clear hF
    go_simp
    exact hK _ _ (.refl _ _) hS rfl
   ·intro W hS hF K hK
    have d0:=cB hS H1'.b2.1 (by omega)
    have d1:=cB hS H1'.b2.2.1 (by omega)
    have d2:=cB hS H1'.b2.2.2.1 (by omega)
    have d3:=cB hS H1'.b2.2.2.2.1 (by omega)
    have d4:=cB hS H1'.b2.2.2.2.2 (by omega)
    clear hF
    go_simp
    exact hK _ _ (.refl _ _) hS rfl
   ·intro W hS hF K hK
    have h3:u 3=.agg #[.bool t2,.int .u64 x2,.slice p2 l2 q2,.int .u64 y2,.slice r2 s2 v2]:=hF.1
    clear hF
    go_simp
    refine (under_calls _ _ _ _ _ m2 _ (H1'.j2.below hS)).mono ?_
    rintro e wA ⟨c,d,rfl,hm,hBA⟩
    obtain ⟨xx,pp,ll,qq,rfl,rfl⟩:=hm.shape
    exact ⟨_,rfl,hK _ _ hBA (hS.trans (hBA.mono hS.size)) ⟨_,_,_,_,rfl,hm⟩⟩
   ·intro W hS hF K hK
    have h2:u 2=.agg #[.int .u64 x1,.slice p1 l1 q1]:=hF.1
    obtain ⟨x4,p4,l4,q4,h4,im4⟩:MagV (undN m2) (u 4) W:=hF.2.1
    clear hF
    go_simp
    refine (mtimes_calls n1 (undN m2) k _ _ _ _ _ (H1'.i1.below hS) im4 hk3 HK.out.1 HK.out.2.2.2).mono ?_
    rintro e wA ⟨c,d,rfl,hm,hBA⟩
    obtain ⟨xx,pp,ll,qq,rfl,rfl⟩:=hm.shape
    exact ⟨_,rfl,hK _ _ hBA (hS.trans (hBA.mono hS.size)) ⟨_,_,_,_,rfl,hm⟩⟩
   ·intro W hS hF K hK
    clear hF
    go_simp
    exact hK _ _ (.refl _ _) hS rfl
   ·intro W hS hF K hK
    have h6:u 6=.pointer (some ⟨w.heap.size+1,0,none⟩):=hF.1
    clear hF
    go_simp
    exact hK _ _ (.refl _ _) hS rfl
   ·intro W hS hF K hK
    have h7:u 7=.pointer (some ⟨w.heap.size+1,1,none⟩):=hF.1
    have d1:=cB hS H1'.b2.2.1 (by omega)
    have d2:=cB hS H1'.b2.2.2.1 (by omega)
    clear hF
    go_simp
    exact hK _ _ (.refl _ _) hS rfl
   ·intro W hS hF K hK
    have c0:=cB hS H1'.b1.1 (by omega)
    have c1:=cB hS H1'.b1.2.1 (by omega)
    have c2:=cB hS H1'.b1.2.2.1 (by omega)
    have c3:=cB hS H1'.b1.2.2.2.1 (by omega)
    have c4:=cB hS H1'.b1.2.2.2.2 (by omega)
    clear hF
    go_simp
    exact hK _ _ (.refl _ _) hS rfl
   ·intro W hS hF K hK
    have h9:u 9=.agg #[.bool t1,.int .u64 x1,.slice p1 l1 q1,.int .u64 y1,.slice r1 s1 v1]:=hF.1
    clear hF
    go_simp
    refine (under_calls _ _ _ _ _ m1 _ (H1'.j1.below hS)).mono ?_
    rintro e wA ⟨c,d,rfl,hm,hBA⟩
    obtain ⟨xx,pp,ll,qq,rfl,rfl⟩:=hm.shape
    exact ⟨_,rfl,hK _ _ hBA (hS.trans (hBA.mono hS.size)) ⟨_,_,_,_,rfl,hm⟩⟩
   ·intro W hS hF K hK
    have h8:u 8=.agg #[.int .u64 x2,.slice p2 l2 q2]:=hF.1
    obtain ⟨x10,p10,l10,q10,h10,im10⟩:MagV (undN m1) (u 10) W:=hF.2.1
    clear hF
    go_simp
    refine (mtimes_calls n2 (undN m1) k _ _ _ _ _ (H1'.i2.below hS) im10 hk3 HK.out.2.2.1 HK.out.2.1).mono ?_
    rintro e wA ⟨c,d,rfl,hm,hBA⟩
    obtain ⟨xx,pp,ll,qq,rfl,rfl⟩:=hm.shape
    exact ⟨_,rfl,hK _ _ hBA (hS.trans (hBA.mono hS.size)) ⟨_,_,_,_,rfl,hm⟩⟩
   ·intro W hS hF K hK
    obtain ⟨x5,p5,l5,q5,h5,im5⟩:MagV (n1*(undN m2)) (u 5) W:=hF.1
    obtain ⟨x11,p11,l11,q11,h11,im11⟩:MagV (n2*(undN m1)) (u 11) W:=hF.2.1
    clear hF
    go_simp
    refine (HO.out _ _ _ _ _ im5 im11).mono ?_
    rintro e wA ⟨rfl,hBA⟩
    exact ⟨_,rfl,hK _ _ hBA (hS.trans (hBA.mono hS.size)) rfl⟩
  case hE =>
   intro u' W2 hS hF
   have e12:u' 12=.int .i64 o:=hF.2.2.2.2.2.2.2.2.2.2.2.2.1
   have H2:=hid (H1'.next hS)
   obtain ⟨c0,c1,c2,c3,c4⟩:=H2.out.b1
   have hbel:=hid H2.out.bel
   clear hF hS H1 H1' hsz HO HK H2
   have ht:=HT.out
   subst ht
   clear HT
   simp only [List.take_succ_cons,List.take_zero,putAll,List.drop_succ_cons,List.drop_zero]
   rw [e12]
   go_wp2_with fail
   go_ret
   exact ⟨rfl,hbel.out⟩
theorem cmp_same_true (t1 t2:Bool) (x1 y1 x2 y2:Int) (p1 r1 p2 r2:Option Addr) (l1 q1 s1 v1 l2 q2 s2 v2 n1 m1 n2 m2 k:Nat) (w:World)
  (i1:IsMag w (.int .u64 x1) (.slice p1 l1 q1) n1) (j1:IsMag w (.int .u64 y1) (.slice r1 s1 v1) m1) (i2:IsMag w (.int .u64 x2) (.slice p2 l2 q2) n2) (j2:IsMag w (.int .u64 y2) (.slice r2 s2 v2) m2) (h1:sgn t1 n1=sgn t2 n2) (ht:t1=true) (hk:k≤68719476736) (k1:n1<B64 ^ k) (k2:undN m1<B64 ^ k) (k3:n2<B64 ^ k) (k4:undN m2<B64 ^ k) :
  Calls Tryz.prog 38 #[.agg #[.bool t1,.int .u64 x1,.slice p1 l1 q1,.int .u64 y1,.slice r1 s1 v1],.agg #[.bool t2,.int .u64 x2,.slice p2 l2 q2,.int .u64 y2,.slice r2 s2 v2]] w (RetI w (.int .i64 (-cmpN (n1*undN m2) (n2*undN m1)))):=by
 have hs1:=hid (fun (W:World) (h:IsMag W (.int .u64 x1) (.slice p1 l1 q1) n1)=>sign_calls t1 _ _ n1 W h)
 have hs2:=hid (fun (W:World) (h:IsMag W (.int .u64 x2) (.slice p2 l2 q2) n2)=>sign_calls t2 _ _ n2 W h)
 obtain ⟨sa,hsa⟩:∃ s,sgn t1 n1=s:=⟨_,rfl⟩
 obtain ⟨sb,hsb⟩:∃ s,sgn t2 n2=s:=⟨_,rfl⟩
 rw [hsa] at hs1 h1
 rw [hsb] at hs2 h1
 subst h1
 have HT:=hid ht
 clear ht
 have HK:=hid (And.intro k1 (And.intro k2 (And.intro k3 k4)))
 have hk3:=hk
 have HO:=hid (fun (W:World) (c d e f:Value) (h:IsMag W c d (n1*undN m2)) (h':IsMag W e f (n2*undN m1))=>mcmp_calls _ _ (k+k) _ _ _ _ W h h' (by omega) (mul_lt_pow k1 k4))
 have hr:Hid (cmpN (n1*undN m2) (n2*undN m1) = -1∨cmpN (n1*undN m2) (n2*undN m1)=0∨cmpN (n1*undN m2) (n2*undN m1)=1):=by
  unfold cmpN Hid
  split
  ·exact .inl rfl
  ·split
   ·exact .inr (.inl rfl)
   ·exact .inr (.inr rfl)
 obtain ⟨o,ho⟩:∃ o,cmpN (n1*undN m2) (n2*undN m1)=o:=⟨_,rfl⟩
 rw [ho] at HO hr ⊢
 clear ho hk k1 k2 k3 k4 hsa hsb
 have h0:=B2St.start t1 t2 (.int .u64 x1) (.slice p1 l1 q1) (.int .u64 y1) (.slice r1 s1 v1) (.int .u64 x2) (.slice p2 l2 q2) (.int .u64 y2) (.slice r2 s2 v2) n1 m1 n2 m2 31 31 i1 j1 i2 j2
 have H0:=hid h0
 clear h0 i1 j1 i2 j2
 go_enter Tryz.func38,Tryz.ntmps38
 go_wp2_with fail
 obtain ⟨W0,hW0⟩:∃ W0,(w.alloc (.cells #[.bool t1,.int .u64 x1,.slice p1 l1 q1,.int .u64 y1,.slice r1 s1 v1] 31)).alloc (.cells #[.bool t2,.int .u64 x2,.slice p2 l2 q2,.int .u64 y2,.slice r2 s2 v2] 31)=W0:=⟨_,rfl⟩
 rw [hW0] at H0 ⊢
 clear hW0
 have H0':B2St w W0 t1 (.int .u64 x1) (.slice p1 l1 q1) (.int .u64 y1) (.slice r1 s1 v1) t2 (.int .u64 x2) (.slice p2 l2 q2) (.int .u64 y2) (.slice r2 s2 v2) n1 m1 n2 m2:=H0.out
 have hsz:=H0'.sz
 refine wp_region_inv 6 [⟨[],[0]⟩,⟨[0],[1]⟩,⟨[1],[2]⟩,⟨[],[3]⟩,⟨[3],[4]⟩,⟨[4],[5]⟩]
  [one fun v _=>v=.pointer (some ⟨w.heap.size,0,none⟩),one fun v _=>v=.agg #[.bool t1,.int .u64 x1,.slice p1 l1 q1],one fun v _=>v=.int .i64 sa,one fun v _=>v=.pointer (some ⟨w.heap.size+1,0,none⟩),one fun v _=>v=.agg #[.bool t2,.int .u64 x2,.slice p2 l2 q2],one fun v _=>v=.int .i64 sa]
  (fun _ W=>Below W0.heap.size W0 W) (by kernel_rfl) (by kernel_rfl) ?hT ?hZ ?hO ?hE
 case hZ=>exact (Below.refl _ _).drew
 case hT =>
  simp only [List.forall_mem_cons,List.not_mem_nil,false_imp_iff,implies_true,and_true]
  exact ⟨one_below is_below,one_below is_below,one_below is_below,one_below is_below,one_below is_below,one_below is_below⟩
 case hO =>
  intro u
  simp only [List.take_succ_cons,List.take_zero,putAll]
  repeat' (first | with_reducible exact debts_nil | with_reducible refine debts_cons ?_ ?_)
  ·intro W hS hF K hK
   clear hF
   go_simp
   exact hK _ _ (.refl _ _) hS rfl
  ·intro W hS hF K hK
   have h0:u 0=.pointer (some ⟨w.heap.size,0,none⟩):=hF.1
   have c0:=cB hS H0'.b1.1 (by omega)
   have c1:=cB hS H0'.b1.2.1 (by omega)
   have c2:=cB hS H0'.b1.2.2.1 (by omega)
   clear hF
   go_simp
   exact hK _ _ (.refl _ _) hS rfl
  ·intro W hS hF K hK
   have h1:u 1=.agg #[.bool t1,.int .u64 x1,.slice p1 l1 q1]:=hF.1
   clear hF
   go_simp
   refine (hs1.out _ (H0'.i1.below hS)).mono ?_
   rintro e wA ⟨rfl,hBA⟩
   exact ⟨_,rfl,hK _ _ hBA (hS.trans (hBA.mono hS.size)) rfl⟩
  ·intro W hS hF K hK
   clear hF
   go_simp
   exact hK _ _ (.refl _ _) hS rfl
  ·intro W hS hF K hK
   have h3:u 3=.pointer (some ⟨w.heap.size+1,0,none⟩):=hF.1
   have d0:=cB hS H0'.b2.1 (by omega)
   have d1:=cB hS H0'.b2.2.1 (by omega)
   have d2:=cB hS H0'.b2.2.2.1 (by omega)
   clear hF
   go_simp
   exact hK _ _ (.refl _ _) hS rfl
  ·intro W hS hF K hK
   have h4:u 4=.agg #[.bool t2,.int .u64 x2,.slice p2 l2 q2]:=hF.1
   clear hF
   go_simp
   refine (hs2.out _ (H0'.i2.below hS)).mono ?_
   rintro e wA ⟨rfl,hBA⟩
   exact ⟨_,rfl,hK _ _ hBA (hS.trans (hBA.mono hS.size)) rfl⟩
 case hE =>
  intro u Wa hS hF
  have e2:u 2=.int .i64 sa:=hF.2.2.1
  have e5:u 5=.int .i64 sa:=hF.2.2.2.2.2.1
  have H1:=hid (H0'.next hS)
  clear hF hS H0 H0' hs1 hs2 hsz
  simp only [List.take_succ_cons,List.take_zero,putAll,List.drop_succ_cons,List.drop_zero]
  rw [e2,e5]
  go_wp2_with fail
  have H1':B2St w Wa t1 (.int .u64 x1) (.slice p1 l1 q1) (.int .u64 y1) (.slice r1 s1 v1) t2 (.int .u64 x2) (.slice p2 l2 q2) (.int .u64 y2) (.slice r2 s2 v2) n1 m1 n2 m2:=H1.out
  have hsz:=H1'.sz
  refine wp_region_inv 13 [⟨[],[0]⟩,⟨[0],[1]⟩,⟨[1],[2]⟩,⟨[],[3]⟩,⟨[3],[4]⟩,⟨[2,4],[5]⟩,⟨[],[6]⟩,⟨[6],[7]⟩,⟨[7],[8]⟩,⟨[],[9]⟩,⟨[9],[10]⟩,⟨[8,10],[11]⟩,⟨[5,11],[12]⟩]
   [one fun v _=>v=.pointer (some ⟨w.heap.size,0,none⟩),one fun v _=>v=.pointer (some ⟨w.heap.size,1,none⟩),one fun v _=>v=.agg #[.int .u64 x1,.slice p1 l1 q1],one fun v _=>v=.agg #[.bool t2,.int .u64 x2,.slice p2 l2 q2,.int .u64 y2,.slice r2 s2 v2],one (MagV (undN m2)),one (MagV (n1*(undN m2))),one fun v _=>v=.pointer (some ⟨w.heap.size+1,0,none⟩),one fun v _=>v=.pointer (some ⟨w.heap.size+1,1,none⟩),one fun v _=>v=.agg #[.int .u64 x2,.slice p2 l2 q2],one fun v _=>v=.agg #[.bool t1,.int .u64 x1,.slice p1 l1 q1,.int .u64 y1,.slice r1 s1 v1],one (MagV (undN m1)),one (MagV (n2*(undN m1))),one fun v _=>v=.int .i64 o]
   (fun _ W=>Below Wa.heap.size Wa W) (by kernel_rfl) (by kernel_rfl) ?hT ?hZ ?hO ?hE
  case hZ=>exact (Below.refl _ _).drew
  case hT =>
   simp only [List.forall_mem_cons,List.not_mem_nil,false_imp_iff,implies_true,and_true]
   exact ⟨one_below is_below,one_below is_below,one_below is_below,one_below is_below,one_below magV_below,one_below magV_below,one_below is_below,one_below is_below,one_below is_below,one_below is_below,one_below magV_below,one_below magV_below,one_below is_below⟩
  case hO =>
   intro u
   simp only [List.take_succ_cons,List.take_zero,putAll]
   repeat' (first | with_reducible exact debts_nil | with_reducible refine debts_cons ?_ ?_)
   ·intro W hS hF K hK
    clear hF
    go_simp
    exact hK _ _ (.refl _ _) hS rfl
   ·intro W hS hF K hK
    have h0:u 0=.pointer (some ⟨w.heap.size,0,none⟩):=hF.1
    clear hF
    go_simp
    exact hK _ _ (.refl _ _) hS rfl
   ·intro W hS hF K hK
    have h1:u 1=.pointer (some ⟨w.heap.size,1,none⟩):=hF.1
    have c1:=cB hS H1'.b1.2.1 (by omega)
    have c2:=cB hS H1'.b1.2.2.1 (by omega)
    clear hF
    go_simp
    exact hK _ _ (.refl _ _) hS rfl
   ·intro W hS hF K hK
    have d0:=cB hS H1'.b2.1 (by omega)
    have d1:=cB hS H1'.b2.2.1 (by omega)
    have d2:=cB hS H1'.b2.2.2.1 (by omega)
    have d3:=cB hS H1'.b2.2.2.2.1 (by omega)
    have d4:=cB hS H1'.b2.2.2.2.2 (by omega)
    clear hF
    go_simp
    exact hK _ _ (.refl _ _) hS rfl
   ·intro W hS hF K hK
    have h3:u 3=.agg #[.bool t2,.int .u64 x2,.slice p2 l2 q2,.int .u64 y2,.slice r2 s2 v2]:=hF.1
    clear hF
    go_simp
    refine (under_calls _ _ _ _ _ m2 _ (H1'.j2.below hS)).mono ?_
    rintro e wA ⟨c,d,rfl,hm,hBA⟩
    obtain ⟨xx,pp,ll,qq,rfl,rfl⟩:=hm.shape
    exact ⟨_,rfl,hK _ _ hBA (hS.trans (hBA.mono hS.size)) ⟨_,_,_,_,rfl,hm⟩⟩
   ·intro W hS hF K hK
    have h2:u 2=.agg #[.int .u64 x1,.slice p1 l1 q1]:=hF.1
    obtain ⟨x4,p4,l4,q4,h4,im4⟩:MagV (undN m2) (u 4) W:=hF.2.1
    clear hF
    go_simp
    refine (mtimes_calls n1 (undN m2) k _ _ _ _ _ (H1'.i1.below hS) im4 hk3 HK.out.1 HK.out.2.2.2).mono ?_
    rintro e wA ⟨c,d,rfl,hm,hBA⟩
    obtain ⟨xx,pp,ll,qq,rfl,rfl⟩:=hm.shape
    exact ⟨_,rfl,hK _ _ hBA (hS.trans (hBA.mono hS.size)) ⟨_,_,_,_,rfl,hm⟩⟩
   ·intro W hS hF K hK
    clear hF
    go_simp
    exact hK _ _ (.refl _ _) hS rfl
   ·intro W hS hF K hK
    have h6:u 6=.pointer (some ⟨w.heap.size+1,0,none⟩):=hF.1
    clear hF
    go_simp
    exact hK _ _ (.refl _ _) hS rfl
   ·intro W hS hF K hK
    have h7:u 7=.pointer (some ⟨w.heap.size+1,1,none⟩):=hF.1
    have d1:=cB hS H1'.b2.2.1 (by omega)
    have d2:=cB hS H1'.b2.2.2.1 (by omega)
    clear hF
    go_simp
    exact hK _ _ (.refl _ _) hS rfl
   ·intro W hS hF K hK
    have c0:=cB hS H1'.b1.1 (by omega)
    have c1:=cB hS H1'.b1.2.1 (by omega)
    have c2:=cB hS H1'.b1.2.2.1 (by omega)
    have c3:=cB hS H1'.b1.2.2.2.1 (by omega)
    have c4:=cB hS H1'.b1.2.2.2.2 (by omega)
    clear hF
    go_simp
    exact hK _ _ (.refl _ _) hS rfl
   ·intro W hS hF K hK
    have h9:u 9=.agg #[.bool t1,.int .u64 x1,.slice p1 l1 q1,.int .u64 y1,.slice r1 s1 v1]:=hF.1
    clear hF
    go_simp
    refine (under_calls _ _ _ _ _ m1 _ (H1'.j1.below hS)).mono ?_
    rintro e wA ⟨c,d,rfl,hm,hBA⟩
    obtain ⟨xx,pp,ll,qq,rfl,rfl⟩:=hm.shape
    exact ⟨_,rfl,hK _ _ hBA (hS.trans (hBA.mono hS.size)) ⟨_,_,_,_,rfl,hm⟩⟩
   ·intro W hS hF K hK
    have h8:u 8=.agg #[.int .u64 x2,.slice p2 l2 q2]:=hF.1
    obtain ⟨x10,p10,l10,q10,h10,im10⟩:MagV (undN m1) (u 10) W:=hF.2.1
    clear hF
    go_simp
    refine (mtimes_calls n2 (undN m1) k _ _ _ _ _ (H1'.i2.below hS) im10 hk3 HK.out.2.2.1 HK.out.2.1).mono ?_
    rintro e wA ⟨c,d,rfl,hm,hBA⟩
    obtain ⟨xx,pp,ll,qq,rfl,rfl⟩:=hm.shape
    exact ⟨_,rfl,hK _ _ hBA (hS.trans (hBA.mono hS.size)) ⟨_,_,_,_,rfl,hm⟩⟩
   ·intro W hS hF K hK
    obtain ⟨x5,p5,l5,q5,h5,im5⟩:MagV (n1*(undN m2)) (u 5) W:=hF.1
    obtain ⟨x11,p11,l11,q11,h11,im11⟩:MagV (n2*(undN m1)) (u 11) W:=hF.2.1
    clear hF
    go_simp
    refine (HO.out _ _ _ _ _ im5 im11).mono ?_
    rintro e wA ⟨rfl,hBA⟩
    exact ⟨_,rfl,hK _ _ hBA (hS.trans (hBA.mono hS.size)) rfl⟩
  case hE =>
   intro u' W2 hS hF
   have e12:u' 12=.int .i64 o:=hF.2.2.2.2.2.2.2.2.2.2.2.2.1
   have H2:=hid (H1'.next hS)
   obtain ⟨c0,c1,c2,c3,c4⟩:=H2.out.b1
   have hbel:=hid H2.out.bel
   clear hF hS H1 H1' hsz HO HK H2
   have ht:=HT.out
   subst ht
   clear HT
   simp only [List.take_succ_cons,List.take_zero,putAll,List.drop_succ_cons,List.drop_zero]
   rw [e12]
   rcases hr.out with rfl | rfl | rfl
   all_goals
    go_wp2_with fail
    go_ret
    exact ⟨by simp,hbel.out⟩
theorem cmp_diff (t1 t2:Bool) (x1 y1 x2 y2:Int) (p1 r1 p2 r2:Option Addr) (l1 q1 s1 v1 l2 q2 s2 v2 n1 m1 n2 m2:Nat) (w:World)
  (i1:IsMag w (.int .u64 x1) (.slice p1 l1 q1) n1) (j1:IsMag w (.int .u64 y1) (.slice r1 s1 v1) m1) (i2:IsMag w (.int .u64 x2) (.slice p2 l2 q2) n2) (j2:IsMag w (.int .u64 y2) (.slice r2 s2 v2) m2) (h1:sgn t1 n1≠sgn t2 n2) :
  Calls Tryz.prog 38 #[.agg #[.bool t1,.int .u64 x1,.slice p1 l1 q1,.int .u64 y1,.slice r1 s1 v1],.agg #[.bool t2,.int .u64 x2,.slice p2 l2 q2,.int .u64 y2,.slice r2 s2 v2]] w (RetI w (.int .i64 (cmpZ (sgn t1 n1) (sgn t2 n2)))):=by
 have hs1:=hid (fun (W:World) (h:IsMag W (.int .u64 x1) (.slice p1 l1 q1) n1)=>sign_calls t1 _ _ n1 W h)
 have hs2:=hid (fun (W:World) (h:IsMag W (.int .u64 x2) (.slice p2 l2 q2) n2)=>sign_calls t2 _ _ n2 W h)
 obtain ⟨sa,hsa⟩:∃ s,sgn t1 n1=s:=⟨_,rfl⟩
 obtain ⟨sb,hsb⟩:∃ s,sgn t2 n2=s:=⟨_,rfl⟩
 rw [hsa] at hs1 h1
 rw [hsb] at hs2 h1
 rw [hsa,hsb]
 have hne:(sa == sb)=false:=by rw [beq_eq_false_iff_ne];exact h1
 have hne':(sa != sb)=true:=by rw [bne,hne];rfl
 clear h1 hsa hsb
 have h0:=B2St.start t1 t2 (.int .u64 x1) (.slice p1 l1 q1) (.int .u64 y1) (.slice r1 s1 v1) (.int .u64 x2) (.slice p2 l2 q2) (.int .u64 y2) (.slice r2 s2 v2) n1 m1 n2 m2 31 31 i1 j1 i2 j2
 have H0:=hid h0
 clear h0 i1 j1 i2 j2
 go_enter Tryz.func38,Tryz.ntmps38
 go_wp2_with fail
 obtain ⟨W0,hW0⟩:∃ W0,(w.alloc (.cells #[.bool t1,.int .u64 x1,.slice p1 l1 q1,.int .u64 y1,.slice r1 s1 v1] 31)).alloc (.cells #[.bool t2,.int .u64 x2,.slice p2 l2 q2,.int .u64 y2,.slice r2 s2 v2] 31)=W0:=⟨_,rfl⟩
 rw [hW0] at H0 ⊢
 clear hW0
 have H0':B2St w W0 t1 (.int .u64 x1) (.slice p1 l1 q1) (.int .u64 y1) (.slice r1 s1 v1) t2 (.int .u64 x2) (.slice p2 l2 q2) (.int .u64 y2) (.slice r2 s2 v2) n1 m1 n2 m2:=H0.out
 have hsz:=H0'.sz
 refine wp_region_inv 6 [⟨[],[0]⟩,⟨[0],[1]⟩,⟨[1],[2]⟩,⟨[],[3]⟩,⟨[3],[4]⟩,⟨[4],[5]⟩]
  [one fun v _=>v=.pointer (some ⟨w.heap.size,0,none⟩),one fun v _=>v=.agg #[.bool t1,.int .u64 x1,.slice p1 l1 q1],one fun v _=>v=.int .i64 sa,one fun v _=>v=.pointer (some ⟨w.heap.size+1,0,none⟩),one fun v _=>v=.agg #[.bool t2,.int .u64 x2,.slice p2 l2 q2],one fun v _=>v=.int .i64 sb]
  (fun _ W=>Below W0.heap.size W0 W) (by kernel_rfl) (by kernel_rfl) ?hT ?hZ ?hO ?hE
 case hZ=>exact (Below.refl _ _).drew
 case hT =>
  simp only [List.forall_mem_cons,List.not_mem_nil,false_imp_iff,implies_true,and_true]
  exact ⟨one_below is_below,one_below is_below,one_below is_below,one_below is_below,one_below is_below,one_below is_below⟩
 case hO =>
  intro u
  simp only [List.take_succ_cons,List.take_zero,putAll]
  repeat' (first | with_reducible exact debts_nil | with_reducible refine debts_cons ?_ ?_)
  ·intro W hS hF K hK
   clear hF
   go_simp
   exact hK _ _ (.refl _ _) hS rfl
  ·intro W hS hF K hK
   have h0:u 0=.pointer (some ⟨w.heap.size,0,none⟩):=hF.1
   have c0:=cB hS H0'.b1.1 (by omega)
   have c1:=cB hS H0'.b1.2.1 (by omega)
   have c2:=cB hS H0'.b1.2.2.1 (by omega)
   clear hF
   go_simp
   exact hK _ _ (.refl _ _) hS rfl
  ·intro W hS hF K hK
   have h1:u 1=.agg #[.bool t1,.int .u64 x1,.slice p1 l1 q1]:=hF.1
   clear hF
   go_simp
   refine (hs1.out _ (H0'.i1.below hS)).mono ?_
   rintro e wA ⟨rfl,hBA⟩
   exact ⟨_,rfl,hK _ _ hBA (hS.trans (hBA.mono hS.size)) rfl⟩
  ·intro W hS hF K hK
   clear hF
   go_simp
   exact hK _ _ (.refl _ _) hS rfl
  ·intro W hS hF K hK
   have h3:u 3=.pointer (some ⟨w.heap.size+1,0,none⟩):=hF.1
   have d0:=cB hS H0'.b2.1 (by omega)
   have d1:=cB hS H0'.b2.2.1 (by omega)
   have d2:=cB hS H0'.b2.2.2.1 (by omega)
   clear hF
   go_simp
   exact hK _ _ (.refl _ _) hS rfl
  ·intro W hS hF K hK
   have h4:u 4=.agg #[.bool t2,.int .u64 x2,.slice p2 l2 q2]:=hF.1
   clear hF
   go_simp
   refine (hs2.out _ (H0'.i2.below hS)).mono ?_
   rintro e wA ⟨rfl,hBA⟩
   exact ⟨_,rfl,hK _ _ hBA (hS.trans (hBA.mono hS.size)) rfl⟩
 case hE =>
  intro u Wa hS hF
  have e2:u 2=.int .i64 sa:=hF.2.2.1
  have e5:u 5=.int .i64 sb:=hF.2.2.2.2.2.1
  have hbel:=hid (H0'.next hS).bel
  clear hF hS H0 H0' hs1 hs2 hsz
  simp only [List.take_succ_cons,List.take_zero,putAll,List.drop_succ_cons,List.drop_zero]
  rw [e2,e5]
  go_wp2_with fail
  refine (Comparei_calls sa sb _).mono ?_
  rintro e w' ⟨rfl,rfl⟩
  go_wp2_with fail
  go_ret
  exact ⟨rfl,hbel.out⟩
def sgnI (a:Int):Int:=if a<0 then -1 else if a=0 then 0 else 1
def cmpQ (r s:Rat):Int:=if r<s then -1 else if r=s then 0 else 1
theorem cmpQ_eq (r s:Rat):cmpQ r s=cmpZ (r.num*s.den) (s.num*r.den):=by
 unfold cmpQ cmpZ
 have h1:(r<s)↔(r.num*s.den<s.num*r.den):=Rat.lt_iff r s
 have h2:(r=s)↔(r.num*s.den=s.num*r.den):=Rat.eq_iff_mul_eq_mul
 simp only [h1,h2]
theorem cmpZ_neg (a b:Int):cmpZ (-a) (-b) = - cmpZ a b:=by
 unfold cmpZ
 rcases Int.lt_trichotomy a b with h | h | h
 ·rw [if_pos h,if_neg (by omega),if_neg (by omega)];rfl
 ·rw [if_neg (by omega),if_pos (by omega),if_neg (by omega),if_pos h];rfl
 ·rw [if_pos (by omega),if_neg (by omega),if_neg (by omega)]
theorem cmp_signs (a b:Int) (p q:Nat) (hp:p≠0) (hq:q≠0) (h:sgnI a≠sgnI b):cmpZ (a*q) (b*p)=cmpZ (sgnI a) (sgnI b):=by
 have hp':(0:Int)<p:=by omega
 have hq':(0:Int)<q:=by omega
 have ha:(a<0→a*q<0)∧(a=0→a*q=0)∧(0<a→0<a*q):=⟨fun h=>Int.mul_neg_of_neg_of_pos h hq',fun h=>by rw [h,Int.zero_mul],fun h=>Int.mul_pos h hq'⟩
 have hb:(b<0→b*p<0)∧(b=0→b*p=0)∧(0<b→0<b*p):=⟨fun h=>Int.mul_neg_of_neg_of_pos h hp',fun h=>by rw [h,Int.zero_mul],fun h=>Int.mul_pos h hp'⟩
 generalize a*q=A at *
 generalize b*p=B at *
 unfold sgnI cmpZ at *
 rcases Int.lt_trichotomy a 0 with h1 | h1 | h1 <;> rcases Int.lt_trichotomy b 0 with h2 | h2 | h2 <;> split at h <;> grind
theorem sgn_of (a:Int):sgn (decide (a<0)) a.natAbs=sgnI a:=by
 unfold sgn sgnI
 by_cases h:a<0
 ·rw [decide_eq_true h,if_pos rfl,if_pos h]
 ·rw [decide_eq_false h,if_neg (by simp),if_neg h]
  by_cases h0:a=0
  ·rw [if_pos h0,if_pos (by omega)]
  ·rw [if_neg h0,if_neg (by omega)]
theorem sgnI_eq {a b:Int} (h:sgnI a=sgnI b):(a<0↔b<0):=by
 unfold sgnI at h
 constructor <;> intro h1 <;> split at h <;> grind
theorem Cmp_calls (r s:Rat) (v1 v2:Value) (k:Nat) (w:World) (h1:IsQ w v1 r) (h2:IsQ w v2 s) (hk:k≤68719476736) (f1:Fits k r) (f2:Fits k s) :
  Calls Tryz.prog 38 #[v1,v2] w (RetI w (.int .i64 (cmpQ r s))):=by
 obtain ⟨t1,x1,p1,l1,q1,y1,r1,s1,u1,rfl,i1,j1,e1⟩:=h1.shape
 obtain ⟨t2,x2,p2,l2,q2,y2,r2,s2,u2,rfl,i2,j2,e2⟩:=h2.shape
 have e1':=e1.out
 have e2':=e2.out
 have g1:sgn t1 r.num.natAbs=sgnI r.num:=by rw [e1',sgn_of]
 have g2:sgn t2 s.num.natAbs=sgnI s.num:=by rw [e2',sgn_of]
 rw [cmpQ_eq]
 by_cases hs:sgnI r.num=sgnI s.num
 ·have hn:=sgnI_eq hs
  have fd1:undN (denOf r)<B64 ^ k:=by rw [und_den];exact f1.2
  have fd2:undN (denOf s)<B64 ^ k:=by rw [und_den];exact f2.2
  by_cases h0:r.num<0
  ·have:=cmp_same_true t1 t2 x1 y1 x2 y2 p1 r1 p2 r2 l1 q1 s1 u1 l2 q2 s2 u2 _ _ _ _ k w i1 j1 i2 j2 (by rw [g1,g2,hs]) (by rw [e1'];exact decide_eq_true h0) hk f1.1 fd1 f2.1 fd2
   rw [und_den,und_den,← cmpZ_nat,Int.natCast_mul,Int.natCast_mul,Int.ofNat_natAbs_of_nonpos (by omega),Int.ofNat_natAbs_of_nonpos (by have:=hn.1 h0;omega),Int.neg_mul,Int.neg_mul,cmpZ_neg,Int.neg_neg] at this
   exact this
  ·have:=cmp_same_false t1 t2 x1 y1 x2 y2 p1 r1 p2 r2 l1 q1 s1 u1 l2 q2 s2 u2 _ _ _ _ k w i1 j1 i2 j2 (by rw [g1,g2,hs]) (by rw [e1'];exact decide_eq_false h0) hk f1.1 fd1 f2.1 fd2
   rw [und_den,und_den,← cmpZ_nat,Int.natCast_mul,Int.natCast_mul,Int.natAbs_of_nonneg (by omega),Int.natAbs_of_nonneg (by have:¬ s.num<0:=fun h=>h0 (hn.2 h);omega)] at this
   exact this
 ·have:=cmp_diff t1 t2 x1 y1 x2 y2 p1 r1 p2 r2 l1 q1 s1 u1 l2 q2 s2 u2 _ _ _ _ w i1 j1 i2 j2 (by rw [g1,g2];exact hs)
  rw [g1,g2,← cmp_signs _ _ r.den s.den r.den_nz s.den_nz hs] at this
  exact this
end Go.Proofs.YtnmlkobogofadaaGreatDoor
namespace Go.Proofs.YtnmlkobogofadaaGreatDoor.Z4
def B4:Nat:=10000
theorem B4_pos:0<B4:=by decide
theorem B4_eq:B4=10000:=rfl
def val:List Nat→Nat
 | []=>0
 | d :: ds=>d+B4*val ds
def Dig (xs:List Nat):Prop:=∀ d,d∈xs→d<B4
theorem val_nil:val []=0:=rfl
theorem val_cons (d:Nat) (ds:List Nat):val (d :: ds)=d+B4*val ds:=rfl
theorem val_append (xs ys:List Nat):val (xs ++ ys)=val xs+B4 ^ xs.length*val ys:=by
 induction xs with
 | nil=>simp [val]
 | cons x xs ih=>simp only [List.cons_append,val_cons,ih,List.length_cons,Nat.pow_succ,Nat.mul_add];rw [Nat.mul_comm (B4 ^ xs.length) B4,Nat.mul_assoc];omega
theorem val_snoc (xs:List Nat) (d:Nat):val (xs ++ [d])=val xs+B4 ^ xs.length*d:=by
 rw [val_append];simp [val]
theorem Dig.nil:Dig []:=fun _ h=>by simp at h
theorem Dig.append {xs ys:List Nat} (h:Dig xs) (k:Dig ys):Dig (xs ++ ys):=fun d hd=>by
 rcases List.mem_append.1 hd with h1 | h1
 ·exact h d h1
 ·exact k d h1
theorem Dig.left {xs ys:List Nat} (h:Dig (xs ++ ys)):Dig xs:=fun d hd=>h d (by simp [hd])
theorem Dig.right {xs ys:List Nat} (h:Dig (xs ++ ys)):Dig ys:=fun d hd=>h d (by simp [hd])
theorem Dig.take {xs:List Nat} (h:Dig xs) (k:Nat):Dig (xs.take k):=fun d hd=>h d (List.mem_of_mem_take hd)
theorem Dig.drop {xs:List Nat} (h:Dig xs) (k:Nat):Dig (xs.drop k):=fun d hd=>h d (List.mem_of_mem_drop hd)
theorem Dig.get {xs:List Nat} (h:Dig xs) (k:Nat) (hk:k<xs.length):xs[k]<B4:=h _ (List.getElem_mem hk)
theorem Dig.getD {xs:List Nat} (h:Dig xs) (k:Nat):xs[k]?.getD 0<B4:=by
 by_cases hk:k<xs.length
 ·rw [List.getElem?_eq_getElem hk];exact h.get k hk
 ·rw [List.getElem?_eq_none (by omega)];exact B4_pos
theorem val_lt {xs:List Nat} (h:Dig xs):val xs<B4 ^ xs.length:=by
 induction xs with
 | nil=>simp [val]
 | cons x xs ih =>
  have hx:=h x (by simp)
  have ht:=ih (fun d hd=>h d (by simp [hd]))
  rw [val_cons,List.length_cons,Nat.pow_succ,Nat.mul_comm _ B4]
  calc x+B4*val xs<B4+B4*val xs:=by omega
   _=B4*(val xs+1):=by rw [Nat.mul_add];omega
   _≤B4*B4 ^ xs.length:=Nat.mul_le_mul_left _ ht
theorem val_take_succ (xs:List Nat) (k:Nat) (hk:k<xs.length):val (xs.take (k+1))=val (xs.take k)+B4 ^ k*xs[k]:=by
 rw [List.take_succ_eq_append_getElem hk,val_snoc,List.length_take,Nat.min_eq_left (by omega)]
theorem val_split (xs:List Nat) (k:Nat) (hk:k≤xs.length):val xs=val (xs.take k)+B4 ^ k*val (xs.drop k):=by
 conv=>lhs;rw [← List.take_append_drop k xs]
 rw [val_append,List.length_take,Nat.min_eq_left hk]
theorem val_zeros (n:Nat):val (List.replicate n 0)=0:=by
 induction n with
 | zero=>rfl
 | succ n ih=>rw [List.replicate_succ,val_cons,ih];rfl
def Trimmed (xs:List Nat):Prop:=∀ h:xs≠[],xs.getLast h≠0
theorem val_ge_of_trimmed {xs:List Nat} (h:Trimmed xs) (hne:xs≠[]):B4 ^ (xs.length - 1)≤val xs:=by
 have hl:=h hne
 obtain ⟨ys,d,rfl⟩:∃ ys d,xs=ys ++ [d]:=⟨xs.dropLast,xs.getLast hne,(List.dropLast_concat_getLast hne).symm⟩
 rw [val_snoc]
 simp at hl ⊢
 calc B4 ^ ys.length=B4 ^ ys.length*1:=by omega
  _≤B4 ^ ys.length*d:=Nat.mul_le_mul_left _ (by omega)
  _≤_:=by omega
theorem val_pos_of_trimmed {xs:List Nat} (h:Trimmed xs) (hne:xs≠[]):0<val xs:=
 Nat.lt_of_lt_of_le (Nat.pow_pos B4_pos) (val_ge_of_trimmed h hne)
theorem val_inj {xs ys:List Nat} (hx:Dig xs) (hy:Dig ys) (hl:xs.length=ys.length) (hv:val xs=val ys):xs=ys:=by
 induction xs generalizing ys with
 | nil=>cases ys with
  | nil=>rfl
  | cons=>simp at hl
 | cons x xs ih=>cases ys with
  | nil=>simp at hl
  | cons y ys =>
   rw [val_cons,val_cons] at hv
   have h1:=hx x (by simp)
   have h2:=hy y (by simp)
   have e1:x=y:=by
    have:=congrArg (· % B4) hv
    simp only [Nat.add_mul_mod_self_left] at this
    rwa [Nat.mod_eq_of_lt h1,Nat.mod_eq_of_lt h2] at this
   subst e1
   have e2:val xs=val ys:=Nat.eq_of_mul_eq_mul_left B4_pos (by omega)
   rw [ih (fun d hd=>hx d (by simp [hd])) (fun d hd=>hy d (by simp [hd])) (by simpa using hl) e2]
theorem val_lt_of_length {xs ys:List Nat} (hx:Dig xs) (hy:Trimmed ys) (hl:xs.length<ys.length):val xs<val ys:=by
 have h1:=val_lt hx
 have h2:=val_ge_of_trimmed hy (by intro e;simp [e] at hl)
 have h3:B4 ^ xs.length≤B4 ^ (ys.length - 1):=Nat.pow_le_pow_right B4_pos (by omega)
 omega
theorem val_drop (xs:List Nat) (k:Nat) (hk:k<xs.length):val (xs.drop k)=xs[k]?.getD 0+B4*val (xs.drop (k+1)):=by
 rw [List.drop_eq_getElem_cons hk,val_cons,List.getElem?_eq_getElem hk];rfl
def CmpAt (xs ys:List Nat) (k:Nat) (r:Int):Prop:=
 k≤xs.length∧(xs.length=ys.length∧r=cmpN (val (xs.drop k)) (val (ys.drop k))∨xs.length≠ys.length∧r=cmpN xs.length ys.length)
theorem CmpAt.bd {xs ys:List Nat} {k:Nat} {r:Int} (h:CmpAt xs ys k r):-1≤r∧r≤1:=by
 rcases h.2 with ⟨_,rfl⟩ | ⟨_,rfl⟩ <;> exact cmpN_bd _ _
theorem CmpAt.start (xs ys:List Nat):CmpAt xs ys xs.length (cmpN xs.length ys.length):=by
 refine ⟨Nat.le_refl _,?_⟩
 by_cases h:xs.length=ys.length
 ·exact .inl ⟨h,by rw [List.drop_of_length_le (Nat.le_refl _),List.drop_of_length_le (by omega),h,cmpN_eq,cmpN_eq]⟩
 ·exact .inr ⟨h,rfl⟩
theorem CmpAt.len {xs ys:List Nat} {k:Nat} (h:CmpAt xs ys k 0):xs.length=ys.length:=by
 rcases h.2 with ⟨e,_⟩ | ⟨e,h0⟩
 ·exact e
 ·exact cmpN_zero h0.symm
theorem CmpAt.step {xs ys:List Nat} {k:Nat} (h:CmpAt xs ys (k+1) 0):CmpAt xs ys k (cmpN (xs[k]?.getD 0) (ys[k]?.getD 0)):=by
 have hl:=h.len
 have hk:=h.1
 refine ⟨by omega,.inl ⟨hl,?_⟩⟩
 rcases h.2 with ⟨_,h0⟩ | ⟨e,_⟩
 ·have e:=cmpN_zero h0.symm
  rw [val_drop xs k (by omega),val_drop ys k (by omega),e,cmpN_add]
 ·omega
theorem CmpAt.done {xs ys:List Nat} {k:Nat} {r:Int} (h:CmpAt xs ys k r) (hd:k=0∨r≠0) (dx:Dig xs) (dy:Dig ys) (tx:Trimmed xs) (ty:Trimmed ys):r=cmpN (val xs) (val ys):=by
 obtain ⟨hk,⟨hl,rfl⟩ | ⟨hl,rfl⟩⟩:=h
 ·rcases hd with rfl | hd
  ·simp
  ·rw [val_split xs k hk,val_split ys k (by omega)]
   have a:=val_lt (dx.take k)
   have b:=val_lt (dy.take k)
   rw [List.length_take,Nat.min_eq_left hk] at a
   rw [List.length_take,Nat.min_eq_left (by omega)] at b
   rw [cmpN_add_mul _ _ _ _ _ a b hd]
 ·rcases Nat.lt_or_gt_of_ne hl with h1 | h1
  ·rw [cmpN_lt h1,cmpN_lt (val_lt_of_length dx ty h1)]
  ·rw [cmpN_gt h1,cmpN_gt (val_lt_of_length dy tx h1)]
def Tail0 (xs:List Nat) (n:Nat):Prop:=n≤xs.length∧(∀ j:Nat,n≤j→xs[j]?.getD 0=0)∧(n=0∨xs[n - 1]?.getD 0≠0)
theorem val_of_zeros (xs:List Nat) (h:∀ j:Nat,xs[j]?.getD 0=0):val xs=0:=by
 induction xs with
 | nil=>rfl
 | cons x xs ih =>
  have h0:x=0:=by simpa using h 0
  have ht:val xs=0:=ih (fun j=>by simpa using h (j+1))
  rw [val_cons,h0,ht];simp
theorem Tail0.val {xs:List Nat} {n:Nat} (h:Tail0 xs n):val (xs.take n)=val xs:=by
 rw [val_split xs n h.1,val_of_zeros (xs.drop n) (fun j=>by rw [List.getElem?_drop];exact h.2.1 _ (by omega))]
 simp
theorem Tail0.trimmed {xs:List Nat} {n:Nat} (h:Tail0 xs n):Trimmed (xs.take n):=by
 intro hne
 rcases h.2.2 with h0 | h0
 ·subst h0;simp at hne
 ·have hn:n≠0:=by intro e;subst e;simp at hne
  have hle:=h.1
  rw [List.getLast_eq_getElem]
  simp only [List.length_take,Nat.min_eq_left h.1,List.getElem_take]
  rw [List.getElem?_eq_getElem (by omega)] at h0
  exact h0
theorem Tail0.eq {xs:List Nat} {n m:Nat} (h:Tail0 xs n) (k:Tail0 xs m):n=m:=by
 rcases Nat.lt_trichotomy n m with h1 | h1 | h1
 ·rcases k.2.2 with h0 | h0
  ·omega
  ·exact absurd (h.2.1 (m - 1) (by omega)) h0
 ·exact h1
 ·rcases h.2.2 with h0 | h0
  ·omega
  ·exact absurd (k.2.1 (n - 1) (by omega)) h0
theorem Tail0.of_trimmed {xs:List Nat} (h:Trimmed xs):Tail0 xs xs.length:=by
 refine ⟨Nat.le_refl _,fun j hj=>by rw [List.getElem?_eq_none hj];rfl,?_⟩
 by_cases h0:xs.length=0
 ·exact .inl h0
 ·right
  have:=h (by intro e;subst e;exact h0 rfl)
  rw [List.getLast_eq_getElem] at this
  rwa [List.getElem?_eq_getElem (by omega)]
end Go.Proofs.YtnmlkobogofadaaGreatDoor.Z4
