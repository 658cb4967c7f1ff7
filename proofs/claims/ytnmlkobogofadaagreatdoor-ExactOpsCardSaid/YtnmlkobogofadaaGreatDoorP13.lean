/- What the proof rests on, part 13. -/
import Derived.Test.YtnmlkobogofadaaGreatDoorP12
import Derived.Test.YtnmlkobogofadaaGreatDoorP11
namespace Go.Proofs.YtnmlkobogofadaaGreatDoor
set_option maxRecDepth 100000
set_option maxHeartbeats 80000000
section
open Go.RowKit Go.Sort
attribute [local go_sem] takes dF dG dD
structure kH (w W:World) (t1:Bool) (c1 d1:Value) (t2:Bool) (c2 d2:Value) (n1 n2:Nat):Prop where
 b1:C3 W w.heap.size (.bool t1) c1 d1
 b2:C3 W (w.heap.size+1) (.bool t2) c2 d2
 rs:fU W (w.heap.size+1+1)
 i1:ah W c1 d1 n1
 i2:ah W c2 d2 n2
 bel:Below w.heap.size w W
 sz:w.heap.size+3≤W.heap.size
theorem kH.next {w W W':World} {t1 t2:Bool} {c1 d1 c2 d2:Value} {n1 n2:Nat} (h:kH w W t1 c1 d1 t2 c2 d2 n1 n2) (hb:Below W.heap.size W W'):kH w W' t1 c1 d1 t2 c2 d2 n1 n2 where
 b1:=C3.below h.b1 hb (by have:=h.sz;omega)
 b2:=C3.below h.b2 hb (by have:=h.sz;omega)
 rs:=h.rs.below hb (by have:=h.sz;omega)
 i1:=h.i1.below hb
 i2:=h.i2.below hb
 bel:=h.bel.trans (hb.mono h.bel.size)
 sz:=Nat.le_trans h.sz hb.size
theorem kH.start {w:World} (t1 t2:Bool) (c1 d1 c2 d2:Value) (n1 n2:Nat) (T1 T2 T3:TypeId) (i1:ah w c1 d1 n1) (i2:ah w c2 d2 n2) :
  kH w (((w.alloc (.cells #[.bool t1,c1,d1] T1)).alloc (.cells #[.bool t2,c2,d2] T2)).alloc (.cells #[.bool false,.int .u64 0,.slice none 0 0] T3)) t1 c1 d1 t2 c2 d2 n1 n2:=by
 have hb:=(((Below.refl w.heap.size w).alloc (Nat.le_refl _) (.cells #[.bool t1,c1,d1] T1)).alloc (by simp) (.cells #[.bool t2,c2,d2] T2)).alloc (by simp;omega) (.cells #[.bool false,.int .u64 0,.slice none 0 0] T3)
 refine ⟨⟨?_,?_,?_⟩,⟨?_,?_,?_⟩,⟨⟨false,?_⟩,⟨0,?_⟩,⟨none,0,0,?_⟩,?_,?_,?_⟩,i1.below hb,i2.below hb,hb,by simp⟩ <;> go_simp
def rE (w:World) (b:Bool) (n:Nat) (e:Ending) (w':World):Prop:=∃ x p l q,e=.returned (.agg #[.bool b,.int .u64 x,.slice p l q])∧ah w' (.int .u64 x) (.slice p l q) n∧Below w.heap.size w w'
theorem fU.facts {W:World} {b:Nat} (h:fU W b):∃ r0 r1 r2,C3 W b r0 r1 r2∧W.frozen? ⟨b,0,none⟩=false∧W.frozen? ⟨b,1,none⟩=false∧W.frozen? ⟨b,2,none⟩=false:=by
 obtain ⟨⟨t,h0⟩,⟨x,h1⟩,⟨p,l,c,h2⟩,f0,f1,f2⟩:=h
 exact ⟨_,_,_,⟨h0,h1,h2⟩,f0,f1,f2⟩
theorem RV (t:Bool) (x1 x2:Int) (p1 p2:Option Addr) (l1 q1 l2 q2 n1 n2 k:Nat) (w:World) (i1:ah w (.int .u64 x1) (.slice p1 l1 q1) n1) (i2:ah w (.int .u64 x2) (.slice p2 l2 q2) n2) (hk:k≤137438953472) (k1:n1<B64 ^ k) (k2:n2<B64 ^ k) :
  Calls Tryz.prog 128 #[.agg #[.bool t,.int .u64 x1,.slice p1 l1 q1],.agg #[.bool t,.int .u64 x2,.slice p2 l2 q2]] w (rE w t (n1+n2)):=by
 have h0:=kH.start t t (.int .u64 x1) (.slice p1 l1 q1) (.int .u64 x2) (.slice p2 l2 q2) n1 n2 29 29 29 i1 i2
 have H0:=hid h0
 have HK:=hid (And.intro k1 k2)
 clear h0 i1 i2 k1 k2
 go_enter Tryz.func128,Tryz.ntmps128
 go_wp2_with fail
 obtain ⟨W0,hW0⟩:∃ W0,((w.alloc (.cells #[.bool t,.int .u64 x1,.slice p1 l1 q1] 29)).alloc (.cells #[.bool t,.int .u64 x2,.slice p2 l2 q2] 29)).alloc (.cells #[.bool false,.int .u64 0,.slice none 0 0] 29)=W0:=⟨_,rfl⟩
 rw [hW0] at H0 ⊢
 clear hW0
 have hQ:=H0.out
 have hsz:=hQ.sz
 refine bC 8 [⟨[],[0]⟩,⟨[0],[1]⟩,⟨[],[2]⟩,⟨[2],[3]⟩,⟨[],[4]⟩,⟨[4],[5]⟩,⟨[3,5],[6]⟩,⟨[1,6],[7]⟩]
  [one fun v _=>v=.pointer (some ⟨w.heap.size,0,none⟩),one fun v _=>v=.bool t,one fun v _=>v=.pointer (some ⟨w.heap.size,1,none⟩),one fun v _=>v=.agg #[.int .u64 x1,.slice p1 l1 q1],one fun v _=>v=.pointer (some ⟨w.heap.size+1,1,none⟩),one fun v _=>v=.agg #[.int .u64 x2,.slice p2 l2 q2],one (aB (n1+n2)),one (dO t (n1+n2))]
  (fun _ W=>Below W0.heap.size W0 W) (by kernel_rfl) (by kernel_rfl) ?hT ?hZ ?hO ?hE
 case hZ=>exact (Below.refl _ _).drew
 case hT =>
  simp only [List.forall_mem_cons,List.not_mem_nil,false_imp_iff,implies_true,and_true]
  exact ⟨aj aA,aj aA,aj aA,aj aA,aj aA,aj aA,aj aN,aj jX⟩
 case hO =>
  intro u
  simp only [List.take_succ_cons,List.take_zero,aC]
  repeat' (first | with_reducible exact aV | with_reducible refine aX ?_ ?_)
  ·intro W hS hF K hK
   clear hF
   go_simp
   exact hK _ _ (.refl _ _) hS rfl
  ·intro W hS hF K hK
   have h0:u 0=.pointer (some ⟨w.heap.size,0,none⟩):=hF.1
   have c0:=cB hS hQ.b1.1 (by omega)
   clear hF
   go_simp
   exact hK _ _ (.refl _ _) hS rfl
  ·intro W hS hF K hK
   clear hF
   go_simp
   exact hK _ _ (.refl _ _) hS rfl
  ·intro W hS hF K hK
   have h2:u 2=.pointer (some ⟨w.heap.size,1,none⟩):=hF.1
   have c1:=cB hS hQ.b1.2.1 (by omega)
   have c2:=cB hS hQ.b1.2.2 (by omega)
   clear hF
   go_simp
   exact hK _ _ (.refl _ _) hS rfl
  ·intro W hS hF K hK
   clear hF
   go_simp
   exact hK _ _ (.refl _ _) hS rfl
  ·intro W hS hF K hK
   have h4:u 4=.pointer (some ⟨w.heap.size+1,1,none⟩):=hF.1
   have c1:=cB hS hQ.b2.2.1 (by omega)
   have c2:=cB hS hQ.b2.2.2 (by omega)
   clear hF
   go_simp
   exact hK _ _ (.refl _ _) hS rfl
  ·intro W hS hF K hK
   have h3:u 3=.agg #[.int .u64 x1,.slice p1 l1 q1]:=hF.1
   have h5:u 5=.agg #[.int .u64 x2,.slice p2 l2 q2]:=hF.2.1
   clear hF
   go_simp
   refine (tu n1 n2 k _ _ _ _ _ (hQ.i1.below hS) (hQ.i2.below hS) hk HK.out.1 HK.out.2).mono ?_
   rintro e wA ⟨c,d,rfl,hm,hBA⟩
   obtain ⟨xx,pp,ll,qq,rfl,rfl⟩:=hm.shape
   exact ⟨_,rfl,hK _ _ hBA (hS.trans (hBA.mono hS.size)) ⟨_,_,_,_,rfl,hm⟩⟩
  ·intro W hS hF K hK
   have h1:u 1=.bool t:=hF.1
   obtain ⟨x6,p6,l6,q6,h6,m6⟩:aB (n1+n2) (u 6) W:=hF.2.1
   clear hF
   go_simp
   exact hK _ _ (.refl _ _) hS ⟨_,_,_,_,rfl,m6⟩
 case hE =>
  intro u W hS hF
  obtain ⟨zx,zp,zl,zq,h7,m7⟩:dO t (n1+n2) (u 7) W:=hF.2.2.2.2.2.2.2.1
  have h4:=hQ.next hS
  obtain ⟨ra,rb,rc,⟨c0,c1,c2⟩,f0,f1,f2⟩:=h4.rs.facts
  obtain ⟨⟨z0,z1,z2⟩,hH⟩:=h4.rs.done (v0:=.bool t) h4.bel (by omega) m7
  clear hF h4 hS m7 hQ
  simp only [List.take_succ_cons,List.take_zero,aC,List.drop_succ_cons,List.drop_zero]
  go_wp2_with fail
  exact bodyPost_ret (v:=.agg #[.bool t,.int .u64 zx,.slice zp zl zq]) (by simp [results,Tryz.results128,go_sem,z0,z1,z2]) rfl ⟨_,_,_,_,rfl,hH.out.1,hH.out.2⟩
theorem Na (t:Bool) (x1 x2:Int) (p1 p2:Option Addr) (l1 q1 l2 q2 n1 n2 k:Nat) (w:World) (i1:ah w (.int .u64 x1) (.slice p1 l1 q1) n1) (i2:ah w (.int .u64 x2) (.slice p2 l2 q2) n2) (hk:k≤137438953472) (k1:n1<B64 ^ k) (k2:n2<B64 ^ k) (hlt:n2<n1) :
  Calls Tryz.prog 128 #[.agg #[.bool t,.int .u64 x1,.slice p1 l1 q1],.agg #[.bool (!t),.int .u64 x2,.slice p2 l2 q2]] w (rE w t (n1 - n2)):=by
 have ht:(t == !t)=false:=by cases t <;> rfl
 have hcmp:=hid (fun (W:World) (h1:ah W (.int .u64 x1) (.slice p1 l1 q1) n1) (h2:ah W (.int .u64 x2) (.slice p2 l2 q2) n2)=>qH n1 n2 k _ _ _ _ W h1 h2 (by omega) k1)
 rw [gV hlt] at hcmp
 have HLT:=hid hlt
 clear hlt
 have h0:=kH.start t (!t) (.int .u64 x1) (.slice p1 l1 q1) (.int .u64 x2) (.slice p2 l2 q2) n1 n2 29 29 29 i1 i2
 have H0:=hid h0
 have HK:=hid (And.intro k1 k2)
 clear h0 i1 i2 k1 k2
 go_enter Tryz.func128,Tryz.ntmps128
 go_wp2_with fail
 obtain ⟨W0,hW0⟩:∃ W0,((w.alloc (.cells #[.bool t,.int .u64 x1,.slice p1 l1 q1] 29)).alloc (.cells #[.bool (!t),.int .u64 x2,.slice p2 l2 q2] 29)).alloc (.cells #[.bool false,.int .u64 0,.slice none 0 0] 29)=W0:=⟨_,rfl⟩
 rw [hW0] at H0 ⊢
 clear hW0
 refine (hcmp.out _ H0.out.i1 H0.out.i2).mono ?_
 rintro e W1 ⟨rfl,hB1⟩
 have h1:=H0.out.next hB1
 have hsz:=h1.sz
 clear H0 hcmp hB1
 go_wp2_with fail
 refine bC 8 [⟨[],[0]⟩,⟨[0],[1]⟩,⟨[],[2]⟩,⟨[2],[3]⟩,⟨[],[4]⟩,⟨[4],[5]⟩,⟨[3,5],[6]⟩,⟨[1,6],[7]⟩]
  [one fun v _=>v=.pointer (some ⟨w.heap.size,0,none⟩),one fun v _=>v=.bool t,one fun v _=>v=.pointer (some ⟨w.heap.size,1,none⟩),one fun v _=>v=.agg #[.int .u64 x1,.slice p1 l1 q1],one fun v _=>v=.pointer (some ⟨w.heap.size+1,1,none⟩),one fun v _=>v=.agg #[.int .u64 x2,.slice p2 l2 q2],one (aB (n1 - n2)),one (dO t (n1 - n2))]
  (fun _ W=>Below W1.heap.size W1 W) (by kernel_rfl) (by kernel_rfl) ?hT ?hZ ?hO ?hE
 case hZ=>exact (Below.refl _ _).drew
 case hT =>
  simp only [List.forall_mem_cons,List.not_mem_nil,false_imp_iff,implies_true,and_true]
  exact ⟨aj aA,aj aA,aj aA,aj aA,aj aA,aj aA,aj aN,aj jX⟩
 case hO =>
  intro u
  simp only [List.take_succ_cons,List.take_zero,aC]
  repeat' (first | with_reducible exact aV | with_reducible refine aX ?_ ?_)
  ·intro W hS hF K hK
   clear hF
   go_simp
   exact hK _ _ (.refl _ _) hS rfl
  ·intro W hS hF K hK
   have h0:u 0=.pointer (some ⟨w.heap.size,0,none⟩):=hF.1
   have c0:=cB hS h1.b1.1 (by omega)
   clear hF
   go_simp
   exact hK _ _ (.refl _ _) hS rfl
  ·intro W hS hF K hK
   clear hF
   go_simp
   exact hK _ _ (.refl _ _) hS rfl
  ·intro W hS hF K hK
   have h2:u 2=.pointer (some ⟨w.heap.size,1,none⟩):=hF.1
   have c1:=cB hS h1.b1.2.1 (by omega)
   have c2:=cB hS h1.b1.2.2 (by omega)
   clear hF
   go_simp
   exact hK _ _ (.refl _ _) hS rfl
  ·intro W hS hF K hK
   clear hF
   go_simp
   exact hK _ _ (.refl _ _) hS rfl
  ·intro W hS hF K hK
   have h4:u 4=.pointer (some ⟨w.heap.size+1,1,none⟩):=hF.1
   have c1:=cB hS h1.b2.2.1 (by omega)
   have c2:=cB hS h1.b2.2.2 (by omega)
   clear hF
   go_simp
   exact hK _ _ (.refl _ _) hS rfl
  ·intro W hS hF K hK
   have h3:u 3=.agg #[.int .u64 x1,.slice p1 l1 q1]:=hF.1
   have h5:u 5=.agg #[.int .u64 x2,.slice p2 l2 q2]:=hF.2.1
   clear hF
   go_simp
   refine (G7 n1 n2 k _ _ _ _ _ (h1.i1.below hS) (h1.i2.below hS) (Nat.le_of_lt HLT.out) hk HK.out.1).mono ?_
   rintro e wA ⟨c,d,rfl,hm,hBA⟩
   obtain ⟨xx,pp,ll,qq,rfl,rfl⟩:=hm.shape
   exact ⟨_,rfl,hK _ _ hBA (hS.trans (hBA.mono hS.size)) ⟨_,_,_,_,rfl,hm⟩⟩
  ·intro W hS hF K hK
   have h1:u 1=.bool t:=hF.1
   obtain ⟨x6,p6,l6,q6,h6,m6⟩:aB (n1 - n2) (u 6) W:=hF.2.1
   clear hF
   go_simp
   exact hK _ _ (.refl _ _) hS ⟨_,_,_,_,rfl,m6⟩
 case hE =>
  intro u W hS hF
  obtain ⟨zx,zp,zl,zq,h7,m7⟩:dO t (n1 - n2) (u 7) W:=hF.2.2.2.2.2.2.2.1
  have h4:=h1.next hS
  obtain ⟨ra,rb,rc,⟨c0,c1,c2⟩,f0,f1,f2⟩:=h4.rs.facts
  obtain ⟨⟨z0,z1,z2⟩,hH⟩:=h4.rs.done (v0:=.bool t) h4.bel (by omega) m7
  clear hF h4 hS m7 h1
  simp only [List.take_succ_cons,List.take_zero,aC,List.drop_succ_cons,List.drop_zero]
  go_wp2_with fail
  exact bodyPost_ret (v:=.agg #[.bool t,.int .u64 zx,.slice zp zl zq]) (by simp [results,Tryz.results128,go_sem,z0,z1,z2]) rfl ⟨_,_,_,_,rfl,hH.out.1,hH.out.2⟩
theorem Uc (t:Bool) (x1 x2:Int) (p1 p2:Option Addr) (l1 q1 l2 q2 n1 n2 k:Nat) (w:World) (i1:ah w (.int .u64 x1) (.slice p1 l1 q1) n1) (i2:ah w (.int .u64 x2) (.slice p2 l2 q2) n2) (hk:k≤137438953472) (k1:n1<B64 ^ k) (k2:n2<B64 ^ k) (hlt:n1<n2) :
  Calls Tryz.prog 128 #[.agg #[.bool t,.int .u64 x1,.slice p1 l1 q1],.agg #[.bool (!t),.int .u64 x2,.slice p2 l2 q2]] w (rE w (!t) (n2 - n1)):=by
 have ht:(t == !t)=false:=by cases t <;> rfl
 have hcmp:=hid (fun (W:World) (h1:ah W (.int .u64 x1) (.slice p1 l1 q1) n1) (h2:ah W (.int .u64 x2) (.slice p2 l2 q2) n2)=>qH n1 n2 k _ _ _ _ W h1 h2 (by omega) k1)
 rw [eX hlt] at hcmp
 have HLT:=hid hlt
 clear hlt
 have h0:=kH.start t (!t) (.int .u64 x1) (.slice p1 l1 q1) (.int .u64 x2) (.slice p2 l2 q2) n1 n2 29 29 29 i1 i2
 have H0:=hid h0
 have HK:=hid (And.intro k1 k2)
 clear h0 i1 i2 k1 k2
 go_enter Tryz.func128,Tryz.ntmps128
 go_wp2_with fail
 obtain ⟨W0,hW0⟩:∃ W0,((w.alloc (.cells #[.bool t,.int .u64 x1,.slice p1 l1 q1] 29)).alloc (.cells #[.bool (!t),.int .u64 x2,.slice p2 l2 q2] 29)).alloc (.cells #[.bool false,.int .u64 0,.slice none 0 0] 29)=W0:=⟨_,rfl⟩
 rw [hW0] at H0 ⊢
 clear hW0
 refine (hcmp.out _ H0.out.i1 H0.out.i2).mono ?_
 rintro e W1 ⟨rfl,hB1⟩
 have h1:=H0.out.next hB1
 have hsz:=h1.sz
 clear H0 hcmp hB1
 go_wp2_with fail
 refine bC 8 [⟨[],[0]⟩,⟨[0],[1]⟩,⟨[],[2]⟩,⟨[2],[3]⟩,⟨[],[4]⟩,⟨[4],[5]⟩,⟨[3,5],[6]⟩,⟨[1,6],[7]⟩]
  [one fun v _=>v=.pointer (some ⟨w.heap.size+1,0,none⟩),one fun v _=>v=.bool (!t),one fun v _=>v=.pointer (some ⟨w.heap.size+1,1,none⟩),one fun v _=>v=.agg #[.int .u64 x2,.slice p2 l2 q2],one fun v _=>v=.pointer (some ⟨w.heap.size,1,none⟩),one fun v _=>v=.agg #[.int .u64 x1,.slice p1 l1 q1],one (aB (n2 - n1)),one (dO (!t) (n2 - n1))]
  (fun _ W=>Below W1.heap.size W1 W) (by kernel_rfl) (by kernel_rfl) ?hT ?hZ ?hO ?hE
 case hZ=>exact (Below.refl _ _).drew
 case hT =>
  simp only [List.forall_mem_cons,List.not_mem_nil,false_imp_iff,implies_true,and_true]
  exact ⟨aj aA,aj aA,aj aA,aj aA,aj aA,aj aA,aj aN,aj jX⟩
 case hO =>
  intro u
  simp only [List.take_succ_cons,List.take_zero,aC]
  repeat' (first | with_reducible exact aV | with_reducible refine aX ?_ ?_)
  ·intro W hS hF K hK
   clear hF
   go_simp
   exact hK _ _ (.refl _ _) hS rfl
  ·intro W hS hF K hK
   have h0:u 0=.pointer (some ⟨w.heap.size+1,0,none⟩):=hF.1
   have c0:=cB hS h1.b2.1 (by omega)
   clear hF
   go_simp
   exact hK _ _ (.refl _ _) hS rfl
  ·intro W hS hF K hK
   clear hF
   go_simp
   exact hK _ _ (.refl _ _) hS rfl
  ·intro W hS hF K hK
   have h2:u 2=.pointer (some ⟨w.heap.size+1,1,none⟩):=hF.1
   have c1:=cB hS h1.b2.2.1 (by omega)
   have c2:=cB hS h1.b2.2.2 (by omega)
   clear hF
   go_simp
   exact hK _ _ (.refl _ _) hS rfl
  ·intro W hS hF K hK
   clear hF
   go_simp
   exact hK _ _ (.refl _ _) hS rfl
  ·intro W hS hF K hK
   have h4:u 4=.pointer (some ⟨w.heap.size,1,none⟩):=hF.1
   have c1:=cB hS h1.b1.2.1 (by omega)
   have c2:=cB hS h1.b1.2.2 (by omega)
   clear hF
   go_simp
   exact hK _ _ (.refl _ _) hS rfl
  ·intro W hS hF K hK
   have h3:u 3=.agg #[.int .u64 x2,.slice p2 l2 q2]:=hF.1
   have h5:u 5=.agg #[.int .u64 x1,.slice p1 l1 q1]:=hF.2.1
   clear hF
   go_simp
   refine (G7 n2 n1 k _ _ _ _ _ (h1.i2.below hS) (h1.i1.below hS) (Nat.le_of_lt HLT.out) hk HK.out.2).mono ?_
   rintro e wA ⟨c,d,rfl,hm,hBA⟩
   obtain ⟨xx,pp,ll,qq,rfl,rfl⟩:=hm.shape
   exact ⟨_,rfl,hK _ _ hBA (hS.trans (hBA.mono hS.size)) ⟨_,_,_,_,rfl,hm⟩⟩
  ·intro W hS hF K hK
   have h1:u 1=.bool (!t):=hF.1
   obtain ⟨x6,p6,l6,q6,h6,m6⟩:aB (n2 - n1) (u 6) W:=hF.2.1
   clear hF
   go_simp
   exact hK _ _ (.refl _ _) hS ⟨_,_,_,_,rfl,m6⟩
 case hE =>
  intro u W hS hF
  obtain ⟨zx,zp,zl,zq,h7,m7⟩:dO (!t) (n2 - n1) (u 7) W:=hF.2.2.2.2.2.2.2.1
  have h4:=h1.next hS
  obtain ⟨ra,rb,rc,⟨c0,c1,c2⟩,f0,f1,f2⟩:=h4.rs.facts
  obtain ⟨⟨z0,z1,z2⟩,hH⟩:=h4.rs.done (v0:=.bool (!t)) h4.bel (by omega) m7
  clear hF h4 hS m7 h1
  simp only [List.take_succ_cons,List.take_zero,aC,List.drop_succ_cons,List.drop_zero]
  go_wp2_with fail
  exact bodyPost_ret (v:=.agg #[.bool (!t),.int .u64 zx,.slice zp zl zq]) (by simp [results,Tryz.results128,go_sem,z0,z1,z2]) rfl ⟨_,_,_,_,rfl,hH.out.1,hH.out.2⟩
theorem UF (t:Bool) (x1 x2:Int) (p1 p2:Option Addr) (l1 q1 l2 q2 n1 n2 k:Nat) (w:World) (i1:ah w (.int .u64 x1) (.slice p1 l1 q1) n1) (i2:ah w (.int .u64 x2) (.slice p2 l2 q2) n2) (hk:k≤137438953472) (k1:n1<B64 ^ k) (_k2:n2<B64 ^ k) (hlt:n1=n2) :
  Calls Tryz.prog 128 #[.agg #[.bool t,.int .u64 x1,.slice p1 l1 q1],.agg #[.bool (!t),.int .u64 x2,.slice p2 l2 q2]] w (rE w false 0):=by
 have ht:(t == !t)=false:=by cases t <;> rfl
 have hcmp:=hid (fun (W:World) (h1:ah W (.int .u64 x1) (.slice p1 l1 q1) n1) (h2:ah W (.int .u64 x2) (.slice p2 l2 q2) n2)=>qH n1 n2 k _ _ _ _ W h1 h2 (by omega) k1)
 rw [show aI n1 n2=0 by rw [hlt,iI]] at hcmp
 clear hlt
 have h0:=kH.start t (!t) (.int .u64 x1) (.slice p1 l1 q1) (.int .u64 x2) (.slice p2 l2 q2) n1 n2 29 29 29 i1 i2
 have H0:=hid h0
 have HK:=hid k1
 clear h0 i1 i2 k1 HK
 go_enter Tryz.func128,Tryz.ntmps128
 go_wp2_with fail
 obtain ⟨W0,hW0⟩:∃ W0,((w.alloc (.cells #[.bool t,.int .u64 x1,.slice p1 l1 q1] 29)).alloc (.cells #[.bool (!t),.int .u64 x2,.slice p2 l2 q2] 29)).alloc (.cells #[.bool false,.int .u64 0,.slice none 0 0] 29)=W0:=⟨_,rfl⟩
 rw [hW0] at H0 ⊢
 clear hW0
 refine (hcmp.out _ H0.out.i1 H0.out.i2).mono ?_
 rintro e W1 ⟨rfl,hB1⟩
 have h1:=H0.out.next hB1
 obtain ⟨ra,rb,rc,⟨c0,c1,c2⟩,f0,f1,f2⟩:=h1.rs.facts
 obtain ⟨⟨z0,z1,z2⟩,hH⟩:=h1.rs.done (v0:=.bool false) h1.bel (by omega) (gZ W1)
 clear H0 hcmp hB1 h1
 go_wp2_with fail
 exact bodyPost_ret (v:=.agg #[.bool false,.int .u64 0,.slice none 0 0]) (by simp [results,Tryz.results128,go_sem,z0,z1,z2]) rfl ⟨_,_,_,_,rfl,hH.out.1,hH.out.2⟩
def nH (t1:Bool) (n1:Nat) (t2:Bool) (n2:Nat):Bool:=if t1=t2 then t1 else if n1=n2 then false else if n2<n1 then t1 else t2
def lV (t1:Bool) (n1:Nat) (t2:Bool) (n2:Nat):Nat:=if t1=t2 then n1+n2 else n1 - n2+(n2 - n1)
theorem Eb (t1 t2:Bool) (n1 n2:Nat):zs (nH t1 n1 t2 n2) (lV t1 n1 t2 n2)=zs t1 n1+zs t2 n2∧lV t1 n1 t2 n2≤n1+n2∧((t1=true→n1≠0)→(t2=true→n2≠0)→nH t1 n1 t2 n2=true→lV t1 n1 t2 n2≠0):=by
 unfold nH lV
 by_cases h1:n1=n2
 ·cases t1 <;> cases t2 <;> simp [zs,h1] <;> omega
 ·by_cases h2:n2<n1
  ·cases t1 <;> cases t2 <;> simp [zs,h1,h2] <;> omega
  ·cases t1 <;> cases t2 <;> simp [zs,h1,h2] <;> omega
theorem DK (t1 t2:Bool) (c1 d1 c2 d2:Value) (n1 n2 k:Nat) (w:World) (i1:ah w c1 d1 n1) (i2:ah w c2 d2 n2) (hk:k≤137438953472) (k1:n1<B64 ^ k) (k2:n2<B64 ^ k) :
  Calls Tryz.prog 128 #[.agg #[.bool t1,c1,d1],.agg #[.bool t2,c2,d2]] w (rE w (nH t1 n1 t2 n2) (lV t1 n1 t2 n2)):=by
 obtain ⟨x1,p1,l1,q1,rfl,rfl⟩:=i1.shape
 obtain ⟨x2,p2,l2,q2,rfl,rfl⟩:=i2.shape
 unfold nH lV
 by_cases h:t1=t2
 ·subst h
  rw [if_pos rfl,if_pos rfl]
  exact RV t1 x1 x2 p1 p2 l1 q1 l2 q2 n1 n2 k w i1 i2 hk k1 k2
 ·obtain rfl:t2 = !t1:=by cases t1 <;> cases t2 <;> simp_all
  rw [if_neg h,if_neg h]
  rcases Nat.lt_trichotomy n1 n2 with h1 | h1 | h1
  ·rw [if_neg (by omega),if_neg (by omega),show n1 - n2+(n2 - n1)=n2 - n1 by omega]
   exact Uc t1 x1 x2 p1 p2 l1 q1 l2 q2 n1 n2 k w i1 i2 hk k1 k2 h1
  ·rw [if_pos h1,show n1 - n2+(n2 - n1)=0 by omega]
   exact UF t1 x1 x2 p1 p2 l1 q1 l2 q2 n1 n2 k w i1 i2 hk k1 k2 h1
  ·rw [if_neg (by omega),if_pos h1,show n1 - n2+(n2 - n1)=n1 - n2 by omega]
   exact Na t1 x1 x2 p1 p2 l1 q1 l2 q2 n1 n2 k w i1 i2 hk k1 k2 h1
end
section
theorem FM {a b:Nat} {x y z:Int} (h:z=x*b+y*a) (hx:Nat.Coprime x.natAbs a) (hb:Nat.Coprime b a):Nat.Coprime z.natAbs a:=by
 have h1:Nat.Coprime (x.natAbs*b) a:=Nat.Coprime.mul_left hx hb
 have h2:(x*b).natAbs=x.natAbs*b:=by rw [Int.natAbs_mul,Int.natAbs_natCast]
 have h3:Int.gcd z a=Int.gcd (x*b) a:=by rw [h,Int.gcd_add_mul_right_left]
 have h4:Int.gcd z a=Nat.gcd z.natAbs a:=rfl
 have h5:Int.gcd (x*b) a=Nat.gcd (x*b).natAbs a:=rfl
 unfold Nat.Coprime at *
 rw [← h4,h3,h5,h2]
 exact h1
theorem NC (b t1 t2:Bool) (n n1 d1 n2 d2:Nat) (h1:Nat.Coprime n1 d1) (h2:Nat.Coprime n2 d2) (e1:d1≠0) (e2:d2≠0)
  (hz:zs b n=zs t1 (n1*(d2 / Nat.gcd d1 d2))+zs t2 (n2*(d1 / Nat.gcd d1 d2))) :
  Nat.gcd d1 d2≠0∧Nat.gcd n (Nat.gcd d1 d2)≠0∧Nat.Coprime (n / Nat.gcd n (Nat.gcd d1 d2)) (d1 / Nat.gcd d1 d2*(d2 / Nat.gcd n (Nat.gcd d1 d2)))∧d1 / Nat.gcd d1 d2*(d2 / Nat.gcd n (Nat.gcd d1 d2))≠0 ∧
  mkRat (zs b (n / Nat.gcd n (Nat.gcd d1 d2))) (d1 / Nat.gcd d1 d2*(d2 / Nat.gcd n (Nat.gcd d1 d2)))=mkRat (zs t1 n1) d1+mkRat (zs t2 n2) d2:=by
 obtain ⟨c0,c1,c2⟩:=qM d1 d2 e2
 have ca:=Nat.gcd_dvd_left d1 d2
 have cb:=Nat.gcd_dvd_right d1 d2
 generalize Nat.gcd d1 d2=c at *
 obtain ⟨a,rfl⟩:=ca
 obtain ⟨b',rfl⟩:=cb
 rw [Nat.mul_div_cancel_left _ (by omega)] at *
 rw [Nat.mul_div_cancel_left _ (by omega)] at *
 obtain ⟨g0,g1,g2⟩:=qM n c c0
 have ga:=Nat.gcd_dvd_left n c
 have gb:=Nat.gcd_dvd_right n c
 generalize Nat.gcd n c=g at *
 obtain ⟨m,rfl⟩:=ga
 obtain ⟨c',rfl⟩:=gb
 rw [Nat.mul_div_cancel_left _ (by omega)] at *
 rw [Nat.mul_div_cancel_left _ (by omega)] at *
 have hdv:g*c' * b' / g=c' * b':=by rw [Nat.mul_assoc,Nat.mul_div_cancel_left _ (by omega)]
 rw [hdv]
 have hb0:b'≠0:=c2
 have ha0:a≠0:=fun e=>e1 (by rw [e,Nat.mul_zero])
 have k1:Nat.Coprime n1 a:=pV h1 (Nat.dvd_refl _) (Nat.dvd_mul_left _ _)
 have k2:Nat.Coprime n2 b':=pV h2 (Nat.dvd_refl _) (Nat.dvd_mul_left _ _)
 rw [qZ t1,qZ t2] at hz
 have z1:=FM (a:=a) (b:=b') (x:=zs t1 n1) (y:=zs t2 n2) hz (by rw [kX];exact k1) (Nat.Coprime.symm c1)
 have z2:=FM (z:=zs b (g*m)) (a:=b') (b:=a) (x:=zs t2 n2) (y:=zs t1 n1) (by rw [hz,Int.add_comm]) (by rw [kX];exact k2) c1
 rw [kX] at z1 z2
 have m1:Nat.Coprime m a:=pV z1 (Nat.dvd_mul_left _ _) (Nat.dvd_refl _)
 have m2:Nat.Coprime m b':=pV z2 (Nat.dvd_mul_left _ _) (Nat.dvd_refl _)
 have hd:a*(c' * b')≠0:=Nat.mul_ne_zero ha0 (Nat.mul_ne_zero g2 hb0)
 refine ⟨c0,g0,Nat.Coprime.mul_right m1 (Nat.Coprime.mul_right g1 m2),hd,?_⟩
 rw [Rat.mkRat_add_mkRat _ _ e1 e2,Rat.mkRat_eq_iff hd (Nat.mul_ne_zero e1 e2)]
 rw [Nat.mul_comm g m,qZ] at hz
 generalize zs b m=z at *
 generalize zs t1 n1=x at *
 generalize zs t2 n2=y at *
 clear z1 z2 m1 m2 k1 k2 h1 h2 c1 g1
 have:z*(g:Int)=x*(b':Int)+y*(a:Int):=hz
 push_cast
 generalize (a:Int)=A at *
 generalize (b':Int)=Bb at *
 generalize (c':Int)=C at *
 generalize (g:Int)=G at *
 grind
end
section
open Go.RowKit Go.Sort
attribute [local go_sem] takes dF dG dD
def vV (B:Nat) (v:Value) (W:World):Prop:=∃ L,v=.pointer (some ⟨L,0,none⟩)∧B≤L∧L<W.heap.size∧fU W L
theorem Tn {B:Nat}:∀ v W W',Below W.heap.size W W'→vV B v W→vV B v W':=fun _ _ _ hb ⟨L,e,h1,h2,h3⟩=>⟨L,e,h1,Nat.lt_of_lt_of_le h2 hb.size,h3.below hb h2⟩
theorem P5 (W:World) (t:TypeId):fU (W.alloc (.cells #[.bool false,.int .u64 0,.slice none 0 0] t)) W.heap.size:=by
 refine ⟨⟨false,?_⟩,⟨0,?_⟩,⟨none,0,0,?_⟩,?_,?_,?_⟩ <;> go_simp
theorem xP {W:World} {L:Nat} {u v x:Value} (a:Addr) (ha:a.block≠L):(jD W L u v x).cell? a=W.cell? a:=by
 rw [World.cell?_setCell_far _ _ _ _ (Ne.symm ha),World.cell?_setCell_far _ _ _ _ (Ne.symm ha),World.cell?_setCell_far _ _ _ _ (Ne.symm ha)]
theorem bn.jD {w W:World} {t1 t2:Bool} {c1 d1 e1 f1 c2 d2 e2 f2 u v x0:Value} {n1 m1 n2 m2 L:Nat} (h:bn w W t1 c1 d1 e1 f1 t2 c2 d2 e2 f2 n1 m1 n2 m2) (hL:w.heap.size+3≤L) (hs:fU W L) :
  bn w (Go.Proofs.YtnmlkobogofadaaGreatDoor.jD W L u v x0) t1 c1 d1 e1 f1 t2 c2 d2 e2 f2 n1 m1 n2 m2:=by
 obtain ⟨⟨a0,a1,a2,a3,a4⟩,⟨b0,b1,b2,b3,b4⟩,⟨⟨t,r0⟩,⟨x,r1⟩,⟨p,l,c,r2⟩,⟨y,r3⟩,⟨p',l',c',r4⟩,g0,g1,g2,g3,g4⟩,i1,j1,i2,j2,bel,sz,tab0⟩:=h
 refine ⟨⟨?_,?_,?_,?_,?_⟩,⟨?_,?_,?_,?_,?_⟩,⟨⟨t,?_⟩,⟨x,?_⟩,⟨p,l,c,?_⟩,⟨y,?_⟩,⟨p',l',c',?_⟩,?_,?_,?_,?_,?_⟩,hs.mag i1,hs.mag j1,hs.mag i2,hs.mag j2,((bel.setCell (by simp only;omega) _).setCell (by simp only;omega) _).setCell (by simp only;omega) _,by simpa using sz,tab0⟩
 all_goals first | (simp only [World.frozen?_setCell];assumption) | (rw [xP _ (by simp only;omega)];assumption)
structure jW (w W:World) (L:Nat) (b:Bool) (c d:Value) (n:Nat):Prop where
 cs:C3 W L (.bool b) c d
 im:ah W c d n
 lo:w.heap.size+3≤L
 hi:L<W.heap.size
theorem jW.next {w W W':World} {L n:Nat} {b:Bool} {c d:Value} (h:jW w W L b c d n) (hb:Below W.heap.size W W'):jW w W' L b c d n:=
 ⟨C3.below h.cs hb h.hi,h.im.below hb,h.lo,Nat.lt_of_lt_of_le h.hi hb.size⟩
theorem Loc.far3 {w W:World} {L L' n:Nat} {c d u v x:Value} (h:Loc w W L c d n) (hs:fU W L') (hne:L≠L'):Loc w (Go.Proofs.YtnmlkobogofadaaGreatDoor.jD W L' u v x) L c d n:=
 ⟨⟨by rw [xP _ hne];exact h.cs.1,by rw [xP _ hne];exact h.cs.2⟩,hs.mag h.im,h.lo,by simpa using h.hi⟩
theorem fU.read {W:World} {b:Nat} (h:fU W b) (v0 c d:Value):C3 (Go.Proofs.YtnmlkobogofadaaGreatDoor.jD W b v0 c d) b v0 c d:=
 (by
  obtain ⟨⟨t,h0⟩,⟨x,h1⟩,⟨p,l,cc,h2⟩,f0,f1,f2⟩:=h
  refine ⟨?_,?_,?_⟩
  ·rw [World.cell?_setCell_other _ _ _ _ (by simp),World.cell?_setCell_other _ _ _ _ (by simp)]
   exact World.cell?_setCell_same _ _ _ h0
  ·rw [World.cell?_setCell_other _ _ _ _ (by simp)]
   refine World.cell?_setCell_same (u:=.int .u64 x) _ _ _ ?_
   rw [World.cell?_setCell_other _ _ _ _ (by simp)];exact h1
  ·refine World.cell?_setCell_same (u:=.slice p l cc) _ _ _ ?_
   rw [World.cell?_setCell_other _ _ _ _ (by simp),World.cell?_setCell_other _ _ _ _ (by simp)];exact h2)
theorem jW.own {w W:World} {L n:Nat} {b:Bool} {c d:Value} (hs:fU W L) (hm:ah W c d n) (lo:w.heap.size+3≤L) (hi:L<W.heap.size):jW w (Go.Proofs.YtnmlkobogofadaaGreatDoor.jD W L (.bool b) c d) L b c d n:=
 ⟨hs.read _ c d,hs.mag hm,lo,by simpa using hi⟩
theorem Ru {a b k:Nat} (ha:a<B64 ^ k) (hb:b<B64 ^ k):a+b<B64 ^ (k+1):=by
 rw [Nat.pow_succ]
 have:2≤B64:=by decide
 have:=Nat.mul_le_mul_left (B64 ^ k) this
 omega
theorem Lj (t1 t2:Bool) (x1 y1 x2 y2:Int) (p1 r1 p2 r2:Option Addr) (l1 q1 s1 v1 l2 q2 s2 v2 n1 m1 n2 m2:Nat) (w:World)
  (i1:ah w (.int .u64 x1) (.slice p1 l1 q1) n1) (j1:ah w (.int .u64 y1) (.slice r1 s1 v1) m1) (i2:ah w (.int .u64 x2) (.slice p2 l2 q2) n2) (j2:ah w (.int .u64 y2) (.slice r2 s2 v2) m2) (hT:Tab w) (r:Rat) (hr:n2=r.num.natAbs) (hd:m2=bK r) (ht:Hid (t2=decide (r.num<0))) (h1:sgn t1 n1=0) :
  Calls Tryz.prog 28 #[.agg #[.bool t1,.int .u64 x1,.slice p1 l1 q1,.int .u64 y1,.slice r1 s1 v1],.agg #[.bool t2,.int .u64 x2,.slice p2 l2 q2,.int .u64 y2,.slice r2 s2 v2]] w (bM w r):=by
 have hs1:=hid (fun (W:World) (h:ah W (.int .u64 x1) (.slice p1 l1 q1) n1)=>iq t1 _ _ (.int .u64 y1) (.slice r1 s1 v1) n1 W h)
 rw [h1] at hs1
 clear h1
 have hr:=hid hr
 have hd:=hid hd
 have h0:=bn.start t1 t2 (.int .u64 x1) (.slice p1 l1 q1) (.int .u64 y1) (.slice r1 s1 v1) (.int .u64 x2) (.slice p2 l2 q2) (.int .u64 y2) (.slice r2 s2 v2) n1 m1 n2 m2 31 31 31 i1 j1 i2 j2 hT
 have H0:=hid h0
 clear h0 i1 j1 i2 j2 hT
 go_enter Tryz.func28,Tryz.ntmps28
 go_wp2_with fail
 obtain ⟨W0,hW0⟩:∃ W0,((w.alloc (.cells #[.bool t1,.int .u64 x1,.slice p1 l1 q1,.int .u64 y1,.slice r1 s1 v1] 31)).alloc (.cells #[.bool t2,.int .u64 x2,.slice p2 l2 q2,.int .u64 y2,.slice r2 s2 v2] 31)).alloc (.cells #[.bool false,.int .u64 0,.slice none 0 0,.int .u64 0,.slice none 0 0] 31)=W0:=⟨_,rfl⟩
 rw [hW0] at H0 ⊢
 clear hW0
 refine (hs1.out _ H0.out.i1).mono ?_
 rintro e w1 ⟨rfl,hB1⟩
 have h1:=H0.out.next hB1
 clear hB1 H0 hs1
 obtain ⟨g0,ga,gb,gc,gd,⟨c0,c1,c2,c3,c4⟩,f0,f1,f2,f3,f4⟩:=h1.rs.facts
 obtain ⟨⟨z0,z1,z2,z3,z4⟩,hH⟩:=h1.rs.doneQ h1.bel (by omega) (hr.out ▸ h1.i2) (hd.out ▸ h1.j2) ht
 obtain ⟨d0,d1,d2,d3,d4⟩:=h1.b2
 clear h1
 go_wp2_with fail
 exact bodyPost_ret (v:=.agg #[.bool t2,.int .u64 x2,.slice p2 l2 q2,.int .u64 y2,.slice r2 s2 v2]) (by simp [results,Tryz.results28,go_sem,z0,z1,z2,z3,z4]) rfl ⟨_,rfl,hH.out.1,hH.out.2⟩
theorem Ui (t1 t2:Bool) (x1 y1 x2 y2:Int) (p1 r1 p2 r2:Option Addr) (l1 q1 s1 v1 l2 q2 s2 v2 n1 m1 n2 m2:Nat) (w:World)
  (i1:ah w (.int .u64 x1) (.slice p1 l1 q1) n1) (j1:ah w (.int .u64 y1) (.slice r1 s1 v1) m1) (i2:ah w (.int .u64 x2) (.slice p2 l2 q2) n2) (j2:ah w (.int .u64 y2) (.slice r2 s2 v2) m2) (hT:Tab w) (r:Rat) (hr:n1=r.num.natAbs) (hd:m1=bK r) (ht:Hid (t1=decide (r.num<0))) (h1:sgn t1 n1≠0) (h2:sgn t2 n2=0) :
  Calls Tryz.prog 28 #[.agg #[.bool t1,.int .u64 x1,.slice p1 l1 q1,.int .u64 y1,.slice r1 s1 v1],.agg #[.bool t2,.int .u64 x2,.slice p2 l2 q2,.int .u64 y2,.slice r2 s2 v2]] w (bM w r):=by
 have hs1:=hid (fun (W:World) (h:ah W (.int .u64 x1) (.slice p1 l1 q1) n1)=>iq t1 _ _ (.int .u64 y1) (.slice r1 s1 v1) n1 W h)
 have hs2:=hid (fun (W:World) (h:ah W (.int .u64 x2) (.slice p2 l2 q2) n2)=>iq t2 _ _ (.int .u64 y2) (.slice r2 s2 v2) n2 W h)
 rw [h2] at hs2
 obtain ⟨sa,hsa⟩:∃ s,sgn t1 n1=s:=⟨_,rfl⟩
 rw [hsa] at hs1 h1
 have ta:(sa == 0)=false:=by rw [beq_eq_false_iff_ne];exact h1
 clear h1 h2 hsa
 have hr:=hid hr
 have hd:=hid hd
 have h0:=bn.start t1 t2 (.int .u64 x1) (.slice p1 l1 q1) (.int .u64 y1) (.slice r1 s1 v1) (.int .u64 x2) (.slice p2 l2 q2) (.int .u64 y2) (.slice r2 s2 v2) n1 m1 n2 m2 31 31 31 i1 j1 i2 j2 hT
 have H0:=hid h0
 clear h0 i1 j1 i2 j2 hT
 go_enter Tryz.func28,Tryz.ntmps28
 go_wp2_with fail
 obtain ⟨W0,hW0⟩:∃ W0,((w.alloc (.cells #[.bool t1,.int .u64 x1,.slice p1 l1 q1,.int .u64 y1,.slice r1 s1 v1] 31)).alloc (.cells #[.bool t2,.int .u64 x2,.slice p2 l2 q2,.int .u64 y2,.slice r2 s2 v2] 31)).alloc (.cells #[.bool false,.int .u64 0,.slice none 0 0,.int .u64 0,.slice none 0 0] 31)=W0:=⟨_,rfl⟩
 rw [hW0] at H0 ⊢
 clear hW0
 refine (hs1.out _ H0.out.i1).mono ?_
 rintro e w1 ⟨rfl,hB1⟩
 have H1:=hid (H0.out.next hB1)
 clear hB1 H0 hs1
 obtain ⟨d0,d1,d2,d3,d4⟩:=H1.out.b2
 go_wp2_with fail
 refine (hs2.out _ H1.out.i2).mono ?_
 rintro e w2 ⟨rfl,hB2⟩
 have h1:=H1.out.next hB2
 clear hB2 H1 hs2 d0 d1 d2 d3 d4
 obtain ⟨g0,ga,gb,gc,gd,⟨c0,c1,c2,c3,c4⟩,f0,f1,f2,f3,f4⟩:=h1.rs.facts
 obtain ⟨⟨z0,z1,z2,z3,z4⟩,hH⟩:=h1.rs.doneQ h1.bel (by omega) (hr.out ▸ h1.i1) (hd.out ▸ h1.j1) ht
 obtain ⟨d0,d1,d2,d3,d4⟩:=h1.b1
 clear h1
 go_wp2_with fail
 exact bodyPost_ret (v:=.agg #[.bool t1,.int .u64 x1,.slice p1 l1 q1,.int .u64 y1,.slice r1 s1 v1]) (by simp [results,Tryz.results28,go_sem,z0,z1,z2,z3,z4]) rfl ⟨_,rfl,hH.out.1,hH.out.2⟩
theorem UN (t1 t2:Bool) (x1 y1 x2 y2:Int) (p1 r1 p2 r2:Option Addr) (l1 q1 s1 v1 l2 q2 s2 v2 n1 m1 n2 m2 k:Nat) (w:World)
  (i1:ah w (.int .u64 x1) (.slice p1 l1 q1) n1) (j1:ah w (.int .u64 y1) (.slice r1 s1 v1) m1) (i2:ah w (.int .u64 x2) (.slice p2 l2 q2) n2) (j2:ah w (.int .u64 y2) (.slice r2 s2 v2) m2) (hT:Tab w) (h1:sgn t1 n1≠0) (h2:sgn t2 n2≠0) (w1':m1=0) (w2':m2=0) (hk:k≤137438953472) (k1:n1<B64 ^ k) (k2:n2<B64 ^ k) (g1:t1=true→n1≠0) (g2:t2=true→n2≠0) :
  Calls Tryz.prog 28 #[.agg #[.bool t1,.int .u64 x1,.slice p1 l1 q1,.int .u64 y1,.slice r1 s1 v1],.agg #[.bool t2,.int .u64 x2,.slice p2 l2 q2,.int .u64 y2,.slice r2 s2 v2]] w (bM w ((zs t1 n1+zs t2 n2:Int):Rat)):=by
 have hs1:=hid (fun (W:World) (h:ah W (.int .u64 x1) (.slice p1 l1 q1) n1)=>iq t1 _ _ (.int .u64 y1) (.slice r1 s1 v1) n1 W h)
 have hs2:=hid (fun (W:World) (h:ah W (.int .u64 x2) (.slice p2 l2 q2) n2)=>iq t2 _ _ (.int .u64 y2) (.slice r2 s2 v2) n2 W h)
 have hw1:=hid (fun (W:World) (h:ah W (.int .u64 y1) (.slice r1 s1 v1) m1)=>nO (.bool t1) (.int .u64 x1) (.slice p1 l1 q1) _ _ m1 W h)
 have hw2:=hid (fun (W:World) (h:ah W (.int .u64 y2) (.slice r2 s2 v2) m2)=>nO (.bool t2) (.int .u64 x2) (.slice p2 l2 q2) _ _ m2 W h)
 obtain ⟨sa,hsa⟩:∃ s,sgn t1 n1=s:=⟨_,rfl⟩
 rw [hsa] at hs1 h1
 have ta:(sa == 0)=false:=by rw [beq_eq_false_iff_ne];exact h1
 obtain ⟨sb,hsb⟩:∃ s,sgn t2 n2=s:=⟨_,rfl⟩
 rw [hsb] at hs2 h2
 have tb:(sb == 0)=false:=by rw [beq_eq_false_iff_ne];exact h2
 clear h1 h2 hsa hsb
 have tc:(m1 == 0)=true:=by rw [beq_iff_eq];exact w1'
 have td:(m2 == 0)=true:=by rw [beq_iff_eq];exact w2'
 clear w1' w2'
 have HAd:=hid (fun (W:World) (h1:ah W (.int .u64 x1) (.slice p1 l1 q1) n1) (h2:ah W (.int .u64 x2) (.slice p2 l2 q2) n2)=>DK t1 t2 _ _ _ _ n1 n2 k W h1 h2 hk k1 k2)
 obtain ⟨e1,e2,e3⟩:=Eb t1 t2 n1 n2
 have HS:=hid (And.intro e1 (e3 g1 g2))
 obtain ⟨sB,hsB⟩:∃ s,nH t1 n1 t2 n2=s:=⟨_,rfl⟩
 obtain ⟨sN,hsN⟩:∃ s,lV t1 n1 t2 n2=s:=⟨_,rfl⟩
 rw [hsB,hsN] at HAd HS
 obtain ⟨Z,hZ⟩:∃ z,zs t1 n1+zs t2 n2=z:=⟨_,rfl⟩
 rw [hZ] at HS ⊢
 clear e1 e2 e3 g1 g2 hsB hsN hZ k1 k2
 have h0:=bn.start t1 t2 (.int .u64 x1) (.slice p1 l1 q1) (.int .u64 y1) (.slice r1 s1 v1) (.int .u64 x2) (.slice p2 l2 q2) (.int .u64 y2) (.slice r2 s2 v2) n1 m1 n2 m2 31 31 31 i1 j1 i2 j2 hT
 have H0:=hid h0
 clear h0 i1 j1 i2 j2 hT
 go_enter Tryz.func28,Tryz.ntmps28
 go_wp2_with fail
 obtain ⟨W0,hW0⟩:∃ W0,((w.alloc (.cells #[.bool t1,.int .u64 x1,.slice p1 l1 q1,.int .u64 y1,.slice r1 s1 v1] 31)).alloc (.cells #[.bool t2,.int .u64 x2,.slice p2 l2 q2,.int .u64 y2,.slice r2 s2 v2] 31)).alloc (.cells #[.bool false,.int .u64 0,.slice none 0 0,.int .u64 0,.slice none 0 0] 31)=W0:=⟨_,rfl⟩
 rw [hW0] at H0 ⊢
 clear hW0
 refine (hs1.out _ H0.out.i1).mono ?_
 rintro e w1 ⟨rfl,hB1⟩
 have H1:=hid (H0.out.next hB1)
 clear hB1 H0 hs1
 obtain ⟨d0,d1,d2,d3,d4⟩:=H1.out.b2
 go_wp2_with fail
 refine (hs2.out _ H1.out.i2).mono ?_
 rintro e w2 ⟨rfl,hB2⟩
 replace H1:=hid (H1.out.next hB2)
 clear hB2 hs2 d0 d1 d2 d3 d4
 obtain ⟨d0,d1,d2,d3,d4⟩:=H1.out.b1
 go_wp2_with fail
 refine (hw1.out _ H1.out.j1).mono ?_
 rintro e w3 ⟨rfl,hB3⟩
 replace H1:=hid (H1.out.next hB3)
 clear hB3 hw1 d0 d1 d2 d3 d4
 obtain ⟨d0,d1,d2,d3,d4⟩:=H1.out.b2
 go_wp2_with fail
 refine (hw2.out _ H1.out.j2).mono ?_
 rintro e w4 ⟨rfl,hB4⟩
 replace H1:=hid (H1.out.next hB4)
 clear hB4 hw2 d0 d1 d2 d3 d4
 obtain ⟨d0,d1,d2,d3,d4⟩:=H1.out.b2
 obtain ⟨b0,b1,b2,b3,b4⟩:=H1.out.b1
 go_wp2_with fail
 refine (HAd.out _ H1.out.i1 H1.out.i2).mono ?_
 rintro e w5 ⟨zx,zp,zl,zq,rfl,hm,hB5⟩
 replace H1:=hid (H1.out.next hB5)
 have HM:=hid hm
 clear hB5 HAd d0 d1 d2 d3 d4 b0 b1 b2 b3 b4 hm
 go_wp2_with fail
 refine (kT _ _ _ _ _ _).mono ?_
 rintro e w6 ⟨rfl,hB6⟩
 have h1:=H1.out.next hB6
 obtain ⟨g0,ga,gb,gc,gd,⟨c0,c1,c2,c3,c4⟩,f0,f1,f2,f3,f4⟩:=h1.rs.facts
 obtain ⟨⟨z0,z1,z2,z3,z4⟩,hH⟩:=h1.rs.done (v0:=.bool sB) h1.bel (by omega) (HM.out.below hB6) (gZ w6)
 have hb:sB=decide (Z<0):=by
  have e1:=HS.out.1
  have e2:=HS.out.2
  rw [← e1]
  by_cases h0:sN=0
  ·rw [h0,xK]
   cases sB
   ·rfl
   ·exact absurd h0 (e2 rfl)
  ·exact (xk h0).symm
 have hn:sN=Z.natAbs:=by rw [← HS.out.1,kX]
 have HBN:=hid (And.intro hb hn)
 clear h1 hB6 H1 HM hb hn
 go_wp2_with fail
 refine bodyPost_ret (v:=.agg #[.bool sB,.int .u64 zx,.slice zp zl zq,.int .u64 0,.slice none 0 0]) (by simp [results,Tryz.results28,go_sem,z0,z1,z2,z3,z4]) rfl ?_
 obtain ⟨hb,hn⟩:=HBN.out
 have hm:=hH.out.1
 rw [hn] at hm
 rw [hb] at hm ⊢
 exact ⟨_,rfl,kD Z hm,by rw [← hb];exact hH.out.2.2⟩
end
end Go.Proofs.YtnmlkobogofadaaGreatDoor
