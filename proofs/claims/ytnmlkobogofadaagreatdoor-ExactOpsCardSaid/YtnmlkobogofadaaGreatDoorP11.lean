/- What the proof rests on, part 11. -/
import Derived.Test.YtnmlkobogofadaaGreatDoorP10
import Derived.Test.YtnmlkobogofadaaGreatDoorP06
import Derived.Test.YtnmlkobogofadaaGreatDoorP05
namespace Go.Proofs.YtnmlkobogofadaaGreatDoor
set_option maxRecDepth 100000
set_option maxHeartbeats 80000000
section
open Go.RowKit Go.Sort
def fF (W:World) (b:Nat):Prop:=
 (∃ t,W.cell? ⟨b,0,none⟩=some (.bool t))∧(∃ x,W.cell? ⟨b,1,none⟩=some (.int .u64 x))∧(∃ p l c,W.cell? ⟨b,2,none⟩=some (.slice p l c))∧(∃ x,W.cell? ⟨b,3,none⟩=some (.int .u64 x))∧(∃ p l c,W.cell? ⟨b,4,none⟩=some (.slice p l c)) ∧
 W.frozen? ⟨b,0,none⟩=false∧W.frozen? ⟨b,1,none⟩=false∧W.frozen? ⟨b,2,none⟩=false∧W.frozen? ⟨b,3,none⟩=false∧W.frozen? ⟨b,4,none⟩=false
theorem fF.below {W W':World} {b B:Nat} (h:fF W b) (hb:Below B W W') (hs:b<B):fF W' b:=by
 obtain ⟨⟨t,h0⟩,⟨x,h1⟩,⟨p,l,c,h2⟩,⟨y,h3⟩,⟨p',l',c',h4⟩,f0,f1,f2,f3,f4⟩:=h
 refine ⟨⟨t,?_⟩,⟨x,?_⟩,⟨p,l,c,?_⟩,⟨y,?_⟩,⟨p',l',c',?_⟩,?_,?_,?_,?_,?_⟩
 ·rw [hb.cell (p:=⟨b,0,none⟩) hs];exact h0
 ·rw [hb.cell (p:=⟨b,1,none⟩) hs];exact h1
 ·rw [hb.cell (p:=⟨b,2,none⟩) hs];exact h2
 ·rw [hb.cell (p:=⟨b,3,none⟩) hs];exact h3
 ·rw [hb.cell (p:=⟨b,4,none⟩) hs];exact h4
 ·rw [hb.frozen (p:=⟨b,0,none⟩) hs];exact f0
 ·rw [hb.frozen (p:=⟨b,1,none⟩) hs];exact f1
 ·rw [hb.frozen (p:=⟨b,2,none⟩) hs];exact f2
 ·rw [hb.frozen (p:=⟨b,3,none⟩) hs];exact f3
 ·rw [hb.frozen (p:=⟨b,4,none⟩) hs];exact f4
theorem fF.facts {W:World} {b:Nat} (h:fF W b):∃ r0 r1 r2 r3 r4,B5 W b r0 r1 r2 r3 r4:=by
 obtain ⟨⟨t,h0⟩,⟨x,h1⟩,⟨p,l,c,h2⟩,⟨y,h3⟩,⟨p',l',c',h4⟩,f0,f1,f2,f3,f4⟩:=h
 exact ⟨_,_,_,_,_,⟨h0,h1,h2,h3,h4⟩,f0,f1,f2,f3,f4⟩
theorem fF.mag {W:World} {b:Nat} {u0 u1 u2 u3 u4 c d:Value} {n:Nat} (h:fF W b) (hm:ah W c d n):ah (dK W b u0 u1 u2 u3 u4) c d n:=by
 obtain ⟨⟨t,h0⟩,⟨x,h1⟩,⟨p,l,cc,h2⟩,⟨y,h3⟩,⟨p',l',c',h4⟩,_⟩:=h
 rcases hm with hm0 | ⟨b1,o,k,xs,k1,k2,k3,k4,k5,k6,k7,k8,k9⟩
 ·exact .inl hm0
 ·refine .inr ⟨b1,o,k,xs,k1,k2,by simpa using k3,k4,k5,k6,k7,k8,fun j hj=>?_⟩
  have hne:∀ i,i<5→(⟨b,i,none⟩:Addr)≠⟨b1,o+j,none⟩:=fun i hi e=>by
   have e1:b=b1:=congrArg Addr.block e
   have e2:i=o+j:=congrArg Addr.off e
   subst e1
   have d0:=k9 j hj
   rw [← e2] at d0
   have hd:∃ j',j' < xs.length∧(j' = j+1∨j=j' + 1):=by
    rcases Nat.lt_or_ge (j+1) xs.length with h | h
    ·exact ⟨j+1,h,.inl rfl⟩
    ·exact ⟨j - 1,by omega,.inr (by omega)⟩
   obtain ⟨j',hj',hjj⟩:=hd
   have d1:=k9 j' hj'
   have hc:i=0∨i=1∨i=2∨i=3∨i=4:=by omega
   rcases hc with rfl | rfl | rfl | rfl | rfl
   ·rw [h0] at d0;cases d0
   ·have:o+j' = 0∨o+j' = 2:=by omega
    rcases this with h | h
    ·rw [h,h0] at d1;cases d1
    ·rw [h,h2] at d1;cases d1
   ·rw [h2] at d0;cases d0
   ·have:o+j' = 2∨o+j' = 4:=by omega
    rcases this with h | h
    ·rw [h,h2] at d1;cases d1
    ·rw [h,h4] at d1;cases d1
   ·rw [h4] at d0;cases d0
  rw [World.cell?_setCell_other _ _ _ _ (hne 4 (by omega)),World.cell?_setCell_other _ _ _ _ (hne 3 (by omega)),World.cell?_setCell_other _ _ _ _ (hne 2 (by omega)),World.cell?_setCell_other _ _ _ _ (hne 1 (by omega)),World.cell?_setCell_other _ _ _ _ (hne 0 (by omega))]
  exact k9 j hj
theorem JE {B:Nat} {w W:World} {b:Nat} (u0 u1 u2 u3 u4:Value) (h:Below B w W) (hb:B≤b):Below B w (dK W b u0 u1 u2 u3 u4):=
 ((((h.setCell hb _).setCell hb _).setCell hb _).setCell hb _).setCell hb _
theorem fF.done {B:Nat} {w W:World} {b:Nat} {v0 c d e f:Value} {n m:Nat} (h:fF W b) (hB:Below B w W) (hb:B≤b) (h1:ah W c d n) (h2:ah W e f m) :
  C5 (dK W b v0 c d e f) b v0 c d e f∧Hid (ah (dK W b v0 c d e f) c d n∧ah (dK W b v0 c d e f) e f m∧Below B w (dK W b v0 c d e f)):=by
 obtain ⟨r0,r1,r2,r3,r4,hf⟩:=h.facts
 exact ⟨(hf.same _ _ _ _ _).1,hid ⟨h.mag h1,h.mag h2,JE _ _ _ _ _ hB hb⟩⟩
def fU (W:World) (b:Nat):Prop:=
 (∃ t,W.cell? ⟨b,0,none⟩=some (.bool t))∧(∃ x,W.cell? ⟨b,1,none⟩=some (.int .u64 x))∧(∃ p l c,W.cell? ⟨b,2,none⟩=some (.slice p l c)) ∧
 W.frozen? ⟨b,0,none⟩=false∧W.frozen? ⟨b,1,none⟩=false∧W.frozen? ⟨b,2,none⟩=false
theorem fU.below {W W':World} {b B:Nat} (h:fU W b) (hb:Below B W W') (hs:b<B):fU W' b:=by
 obtain ⟨⟨t,h0⟩,⟨x,h1⟩,⟨p,l,c,h2⟩,f0,f1,f2⟩:=h
 refine ⟨⟨t,?_⟩,⟨x,?_⟩,⟨p,l,c,?_⟩,?_,?_,?_⟩
 ·rw [hb.cell (p:=⟨b,0,none⟩) hs];exact h0
 ·rw [hb.cell (p:=⟨b,1,none⟩) hs];exact h1
 ·rw [hb.cell (p:=⟨b,2,none⟩) hs];exact h2
 ·rw [hb.frozen (p:=⟨b,0,none⟩) hs];exact f0
 ·rw [hb.frozen (p:=⟨b,1,none⟩) hs];exact f1
 ·rw [hb.frozen (p:=⟨b,2,none⟩) hs];exact f2
abbrev C3 (w:World) (b:Nat) (v0 v1 v2:Value):Prop:=w.cell? ⟨b,0,none⟩=some v0∧w.cell? ⟨b,1,none⟩=some v1∧w.cell? ⟨b,2,none⟩=some v2
abbrev jD (W:World) (b:Nat) (u0 u1 u2:Value):World:=((W.setCell ⟨b,0,none⟩ u0).setCell ⟨b,1,none⟩ u1).setCell ⟨b,2,none⟩ u2
theorem C3.below {w w':World} {b B:Nat} {v0 v1 v2:Value} (h:C3 w b v0 v1 v2) (hb:Below B w w') (hB:b<B):C3 w' b v0 v1 v2:=
 ⟨(hb.cell (p:=⟨b,0,none⟩) hB).trans h.1,(hb.cell (p:=⟨b,1,none⟩) hB).trans h.2.1,(hb.cell (p:=⟨b,2,none⟩) hB).trans h.2.2⟩
theorem fU.mag {W:World} {b:Nat} {u0 u1 u2 c d:Value} {n:Nat} (h:fU W b) (hm:ah W c d n):ah (jD W b u0 u1 u2) c d n:=by
 obtain ⟨⟨t,h0⟩,⟨x,h1⟩,⟨p,l,cc,h2⟩,_⟩:=h
 rcases hm with hm0 | ⟨b1,o,k,xs,k1,k2,k3,k4,k5,k6,k7,k8,k9⟩
 ·exact .inl hm0
 ·refine .inr ⟨b1,o,k,xs,k1,k2,by simpa using k3,k4,k5,k6,k7,k8,fun j hj=>?_⟩
  have hne:∀ i,i<3→(⟨b,i,none⟩:Addr)≠⟨b1,o+j,none⟩:=fun i hi e=>by
   have e1:b=b1:=congrArg Addr.block e
   have e2:i=o+j:=congrArg Addr.off e
   subst e1
   have d0:=k9 j hj
   rw [← e2] at d0
   have hd:∃ j',j' < xs.length∧(j' = j+1∨j=j' + 1):=by
    rcases Nat.lt_or_ge (j+1) xs.length with h | h
    ·exact ⟨j+1,h,.inl rfl⟩
    ·exact ⟨j - 1,by omega,.inr (by omega)⟩
   obtain ⟨j',hj',hjj⟩:=hd
   have d1:=k9 j' hj'
   have hc:i=0∨i=1∨i=2:=by omega
   rcases hc with rfl | rfl | rfl
   ·rw [h0] at d0;cases d0
   ·have:o+j' = 0∨o+j' = 2:=by omega
    rcases this with h | h
    ·rw [h,h0] at d1;cases d1
    ·rw [h,h2] at d1;cases d1
   ·rw [h2] at d0;cases d0
  rw [World.cell?_setCell_other _ _ _ _ (hne 2 (by omega)),World.cell?_setCell_other _ _ _ _ (hne 1 (by omega)),World.cell?_setCell_other _ _ _ _ (hne 0 (by omega))]
  exact k9 j hj
theorem fU.done {B:Nat} {w W:World} {b:Nat} {v0 c d:Value} {n:Nat} (h:fU W b) (hB:Below B w W) (hb:B≤b) (h1:ah W c d n) :
  C3 (jD W b v0 c d) b v0 c d∧Hid (ah (jD W b v0 c d) c d n∧Below B w (jD W b v0 c d)):=by
 refine ⟨?_,hid ⟨h.mag h1,((hB.setCell hb _).setCell hb _).setCell hb _⟩⟩
 obtain ⟨⟨t,h0⟩,⟨x,h1⟩,⟨p,l,cc,h2⟩,f0,f1,f2⟩:=h
 refine ⟨?_,?_,?_⟩
 ·rw [World.cell?_setCell_other _ _ _ _ (by simp),World.cell?_setCell_other _ _ _ _ (by simp)]
  exact World.cell?_setCell_same _ _ _ h0
 ·rw [World.cell?_setCell_other _ _ _ _ (by simp)]
  refine World.cell?_setCell_same (u:=.int .u64 x) _ _ _ ?_
  rw [World.cell?_setCell_other _ _ _ _ (by simp)];exact h1
 ·refine World.cell?_setCell_same (u:=.slice p l cc) _ _ _ ?_
  rw [World.cell?_setCell_other _ _ _ _ (by simp),World.cell?_setCell_other _ _ _ _ (by simp)];exact h2
theorem ah.shape {w:World} {c d:Value} {n:Nat} (h:ah w c d n):∃ (x:Int) (p:Option Addr) (l k:Nat),c=.int .u64 x∧d=.slice p l k:=by
 rcases h with ⟨_,rfl,rfl⟩ | ⟨b,o,k,xs,rfl,rfl,_⟩ <;> exact ⟨_,_,_,_,rfl,rfl⟩
theorem IsQ.shape {w:World} {v:Value} {r:Rat} (h:IsQ w v r):∃ (t:Bool) (x:Int) (p:Option Addr) (l k:Nat) (x':Int) (p':Option Addr) (l' k':Nat),
  v=.agg #[.bool t,.int .u64 x,.slice p l k,.int .u64 x',.slice p' l' k']∧ah w (.int .u64 x) (.slice p l k) r.num.natAbs∧ah w (.int .u64 x') (.slice p' l' k') (bK r) ∧
  Hid (t=decide (r.num<0)):=by
 obtain ⟨c,d,e,f,rfl,h1,h2⟩:=h
 obtain ⟨x,p,l,k,rfl,rfl⟩:=h1.shape
 obtain ⟨x',p',l',k',rfl,rfl⟩:=h2.shape
 exact ⟨_,_,_,_,_,_,_,_,_,rfl,h1,h2,hid rfl⟩
theorem fF.doneQ {B:Nat} {w W:World} {b:Nat} {t:Bool} {c d e f:Value} {r:Rat} (h:fF W b) (hB:Below B w W) (hb:B≤b) (h1:ah W c d r.num.natAbs) (h2:ah W e f (bK r)) (ht:Hid (t=decide (r.num<0))) :
  C5 (dK W b (.bool t) c d e f) b (.bool t) c d e f∧Hid (IsQ (dK W b (.bool t) c d e f) (.agg #[.bool t,c,d,e,f]) r∧Below B w (dK W b (.bool t) c d e f)):=by
 obtain ⟨h3,h4⟩:=h.done (v0:=.bool t) hB hb h1 h2
 exact ⟨h3,hid ⟨⟨c,d,e,f,by rw [ht.out],h4.out.1,h4.out.2.1⟩,h4.out.2.2⟩⟩
end
section
open Go.RowKit Go.Sort
def sgn (b:Bool) (n:Nat):Int:=if b then -1 else if n=0 then 0 else 1
theorem nS (b:Bool) (c d:Value) (n:Nat) (w:World) (h:ah w c d n):Calls Tryz.prog 112 #[.agg #[.bool b,c,d]] w (dh w (.int .i64 (sgn b n))):=by
 obtain ⟨x,p,l,k,rfl,rfl⟩:=h.shape
 have hb:=(Below.refl w.heap.size w).alloc (Nat.le_refl _) (.cells #[.bool b,.int .u64 x,.slice p l k] 29)
 have hz:=hid (dL _ _ n _ (h.below hb))
 have HB:=hid hb
 clear hb h
 cases b
 ·go_enter Tryz.func112,Tryz.ntmps112
  go_wp2_with fail
  refine hz.out.mono ?_
  rintro e w1 ⟨rfl,hB1⟩
  have HB1:=hid (HB.out.trans (hB1.mono HB.out.size))
  clear hz hB1
  by_cases h0:n=0
  ·have t:(n == 0)=true:=by rw [beq_iff_eq];exact h0
   clear h0
   have hs:Hid (sgn false n=0):=by show _=_;unfold sgn;rw [beq_iff_eq] at t;simp [t]
   go_wp2_with fail
   go_ret
   exact ⟨by rw [hs.out];rfl,HB1.out⟩
  ·have t:(n == 0)=false:=by rw [beq_eq_false_iff_ne];exact h0
   have hs:Hid (sgn false n=1):=by show _=_;unfold sgn;simp [h0]
   clear h0
   go_wp2_with fail
   go_ret
   exact ⟨by rw [hs.out];rfl,HB1.out⟩
 ·go_enter Tryz.func112,Tryz.ntmps112
  go_wp2_with fail
  go_ret
  exact ⟨rfl,HB.out⟩
theorem nO (v0 c d e f:Value) (m:Nat) (w:World) (h:ah w e f m):Calls Tryz.prog 127 #[.agg #[v0,c,d,e,f]] w (dh w (.bool (m == 0))):=by
 obtain ⟨x,p,l,k,rfl,rfl⟩:=h.shape
 have hb:=(Below.refl w.heap.size w).alloc (Nat.le_refl _) (.cells #[v0,c,d,.int .u64 x,.slice p l k] 31)
 have hz:=hid (dL _ _ m _ (h.below hb))
 have HB:=hid hb
 clear hb h
 go_enter Tryz.func127,Tryz.ntmps127
 go_wp2_with fail
 refine hz.out.mono ?_
 rintro e w1 ⟨rfl,hB1⟩
 go_wp2_with fail
 go_ret
 exact ⟨rfl,HB.out.trans (hB1.mono HB.out.size)⟩
theorem iq (b:Bool) (c d e f:Value) (n:Nat) (w:World) (h:ah w c d n):Calls Tryz.prog 17 #[.agg #[.bool b,c,d,e,f]] w (dh w (.int .i64 (sgn b n))):=by
 obtain ⟨x,p,l,k,rfl,rfl⟩:=h.shape
 have hb:=(Below.refl w.heap.size w).alloc (Nat.le_refl _) (.cells #[.bool b,.int .u64 x,.slice p l k,e,f] 31)
 have hz:=hid (nS b _ _ n _ (h.below hb))
 have HB:=hid hb
 clear hb h
 go_enter Tryz.func17,Tryz.ntmps17
 go_wp2_with fail
 refine hz.out.mono ?_
 rintro e w1 ⟨rfl,hB1⟩
 go_wp2_with fail
 go_ret
 exact ⟨rfl,HB.out.trans (hB1.mono HB.out.size)⟩
def ak (m:Nat):Nat:=if m=0 then 1 else m
theorem gY (v0 c d e f:Value) (m:Nat) (w:World) (h:ah w e f m):Calls Tryz.prog 129 #[.agg #[v0,c,d,e,f]] w (aW w (ak m)):=by
 obtain ⟨x,p,l,k,rfl,rfl⟩:=h.shape
 have hb:=((Below.refl w.heap.size w).alloc (Nat.le_refl _) (.cells #[v0,c,d,.int .u64 x,.slice p l k] 31)).alloc (by simp) (.cells #[.int .u64 0,.slice none 0 0] 27)
 have hz:=hid (nO v0 c d _ _ m _ (h.below hb))
 have hs:Slot ((w.alloc (.cells #[v0,c,d,.int .u64 x,.slice p l k] 31)).alloc (.cells #[.int .u64 0,.slice none 0 0] 27)) (w.heap.size+1):=by
  refine ⟨⟨.int .u64 0,?_⟩,⟨none,0,0,?_⟩,?_,?_⟩ <;> go_simp
 have hc:C5 ((w.alloc (.cells #[v0,c,d,.int .u64 x,.slice p l k] 31)).alloc (.cells #[.int .u64 0,.slice none 0 0] 27)) w.heap.size v0 c d (.int .u64 x) (.slice p l k):=by
  refine ⟨?_,?_,?_,?_,?_⟩ <;> go_simp
 have hsz:((w.alloc (.cells #[v0,c,d,.int .u64 x,.slice p l k] 31)).alloc (.cells #[.int .u64 0,.slice none 0 0] 27)).heap.size=w.heap.size+1+1:=by simp
 have HH:=hid (And.intro hb (And.intro (h.below hb) (And.intro hs (And.intro hc hsz))))
 clear hb h hs hc hsz
 go_enter Tryz.func129,Tryz.ntmps129
 go_wp2_with fail
 obtain ⟨W0,hW0⟩:∃ W0,(w.alloc (.cells #[v0,c,d,.int .u64 x,.slice p l k] 31)).alloc (.cells #[.int .u64 0,.slice none 0 0] 27)=W0:=⟨_,rfl⟩
 rw [hW0] at hz HH ⊢
 clear hW0
 refine hz.out.mono ?_
 rintro e w1 ⟨rfl,hB1⟩
 obtain ⟨hb,hm,hs,hc,hsz⟩:=HH.out
 have hb1:=hb.trans (hB1.mono hb.size)
 have hm1:=hm.below hB1
 have hs1:=hs.below hB1 (by omega)
 obtain ⟨a0,a1,a2,a3,a4⟩:=hc.below hB1 (by omega)
 obtain ⟨⟨y1,f1⟩,⟨u1,u2,u3,f2⟩,f3,f4⟩:=id hs1
 clear hz HH hb hm hs hc hB1 hsz
 have HB1:=hid (And.intro hb1 (And.intro hm1 hs1))
 clear hb1 hm1 hs1
 by_cases h0:m=0
 ·have t:(m == 0)=true:=by rw [beq_iff_eq];exact h0
  have hs:Hid (ak m=1):=by show _=_;unfold ak;rw [if_pos h0]
  clear h0
  obtain ⟨z1,z2⟩:=HB1.out.2.2.read (.int .u64 1) (.slice none 0 0)
  go_wp2_with fail
  refine bodyPost_ret (v:=.agg #[.int .u64 1,.slice none 0 0]) (by simp [results,Tryz.results129,go_sem,z1,z2]) rfl ?_
  rw [hs.out]
  exact ⟨_,_,rfl,.inl ⟨by decide,rfl,rfl⟩,(HB1.out.1.setCell (by simp) _).setCell (by simp) _⟩
 ·have t:(m == 0)=false:=by rw [beq_eq_false_iff_ne];exact h0
  have hs:Hid (ak m=m):=by show _=_;unfold ak;rw [if_neg h0]
  clear h0
  obtain ⟨z1,z2⟩:=HB1.out.2.2.read (.int .u64 x) (.slice p l k)
  go_wp2_with fail
  refine bodyPost_ret (v:=.agg #[.int .u64 x,.slice p l k]) (by simp [results,Tryz.results129,go_sem,z1,z2]) rfl ?_
  rw [hs.out]
  exact ⟨_,_,rfl,HB1.out.2.2.mag HB1.out.2.1,(HB1.out.1.setCell (by simp) _).setCell (by simp) _⟩
theorem kT (b:Bool) (x:Int) (p:Option Addr) (l k:Nat) (w:World):Calls Tryz.prog 126 #[.agg #[.bool b,.int .u64 x,.slice p l k]] w fun e w'=>e=.returned (.agg #[.bool b,.int .u64 x,.slice p l k,.int .u64 0,.slice none 0 0])∧Below w.heap.size w w':=by
 go_enter Tryz.func126,Tryz.ntmps126
 go_wp2_with fail
 refine bodyPost_ret (v:=.agg #[.bool b,.int .u64 x,.slice p l k,.int .u64 0,.slice none 0 0]) (by simp [results,Tryz.results126,go_sem]) rfl ⟨rfl,?_⟩
 exact ((Below.refl _ _).alloc (Nat.le_refl _) _).alloc (by simp) _
theorem Uf (n:Nat) (hn:n<9223372036854775808) (w:World):Calls Tryz.prog 122 #[.int .i64 (n:Int)] w fun e w'=>e=.returned (.agg #[.bool false,.int .u64 (n:Int),.slice none 0 0])∧Below w.heap.size w w':=by
 have h0:0≤(n:Int):=by omega
 have t:decide ((n:Int)<0)=false:=by simp
 have hw:IntKind.u64.wrap (n:Int)=(n:Int):=by rw [jO,Nat.mod_eq_of_lt (by unfold B64;omega)]
 clear hn
 go_enter Tryz.func122,Tryz.ntmps122
 go_wp2_with fail
 refine bodyPost_ret (v:=.agg #[.bool false,.int .u64 (n:Int),.slice none 0 0]) (by simp [results,Tryz.results122,go_sem]) rfl ⟨rfl,?_⟩
 exact (Below.refl _ _).alloc (Nat.le_refl _) _
end
section
def zs (b:Bool) (n:Nat):Int:=if b then -(n:Int) else n
theorem kX (b:Bool) (n:Nat):(zs b n).natAbs=n:=by cases b <;> simp [zs]
theorem vF (z:Int):zs (decide (z<0)) z.natAbs=z:=by
 unfold zs
 by_cases h:z<0
 ·simp [h];omega
 ·simp [h];omega
theorem xK (b:Bool):zs b 0=0:=by cases b <;> rfl
theorem xk {b:Bool} {n:Nat} (h:n≠0):decide (zs b n<0)=b:=by cases b <;> simp [zs] <;> omega
theorem PY (b c:Bool) (n m:Nat):zs b n*zs c m=zs (b != c) (n*m):=by
 cases b <;> cases c <;> simp [zs,Int.neg_mul,Int.mul_neg]
theorem qZ (b:Bool) (n m:Nat):zs b (n*m)=zs b n*m:=by cases b <;> simp [zs,Int.neg_mul]
theorem FI {z:Int} {m:Nat} (hm:m≠0) (hc:Nat.Coprime z.natAbs m):(mkRat z m).num=z∧(mkRat z m).den=m:=by
 have:=Rat.mkRat_self ⟨z,m,hm,hc⟩
 simp only at this
 rw [this]
 exact ⟨rfl,rfl⟩
theorem Fq (b:Bool) (n m g:Nat) (hm:m≠0) (hg:g≠0) (h1:g∣n) (h2:g∣m):mkRat (zs b (n / g)) (m / g)=mkRat (zs b n) m:=by
 obtain ⟨n',rfl⟩:=h1
 obtain ⟨m',rfl⟩:=h2
 have hm':m'≠0:=fun e=>hm (by rw [e,Nat.mul_zero])
 rw [Nat.mul_div_cancel_left _ (by omega),Nat.mul_div_cancel_left _ (by omega),Rat.mkRat_eq_iff hm' hm,Nat.mul_comm g n',qZ]
 push_cast
 grind
theorem qM (n m:Nat) (hm:m≠0):Nat.gcd n m≠0∧Nat.Coprime (n / Nat.gcd n m) (m / Nat.gcd n m)∧m / Nat.gcd n m≠0:=by
 have h0:0<Nat.gcd n m:=Nat.gcd_pos_of_pos_right _ (by omega)
 refine ⟨by omega,Nat.coprime_div_gcd_div_gcd h0,?_⟩
 have:=Nat.div_pos (Nat.gcd_le_right n (by omega:0<m)) h0
 omega
end
section
open Go.RowKit Go.Sort
theorem Ve (m X:Nat) (hm:1≤m) (hX:m+X=B64) (w:World) (hm2:m≤9223372036854775808):Calls Tryz.prog 122 #[.int .i64 (-(m:Int))] w fun e w'=>e=.returned (.agg #[.bool true,.int .u64 (m:Int),.slice none 0 0])∧Below w.heap.size w w':=by
 have t:0<m:=hm
 have hw:IntKind.u64.wrap (-(m:Int))=(X:Int):=by rw [IntKind.wrap_u64];unfold B64 at hX;omega
 have hw2:IntKind.u64.wrap (-(X:Int))=(m:Int):=by rw [IntKind.wrap_u64];unfold B64 at hX;omega
 clear hm hX hm2
 go_enter Tryz.func122,Tryz.ntmps122
 go_wp2_with fail
 refine bodyPost_ret (v:=.agg #[.bool true,.int .u64 (m:Int),.slice none 0 0]) (by simp [results,Tryz.results122,go_sem]) rfl ⟨rfl,?_⟩
 exact (Below.refl _ _).alloc (Nat.le_refl _) _
theorem rF (n:Int) (h1:-9223372036854775808≤n) (h2:n<9223372036854775808) (w:World):Calls Tryz.prog 122 #[.int .i64 n] w fun e w'=>e=.returned (.agg #[.bool (decide (n<0)),.int .u64 (n.natAbs:Int),.slice none 0 0])∧Below w.heap.size w w':=by
 by_cases h:n<0
 ·obtain ⟨m,rfl⟩:∃ m:Nat,n = -(m:Int):=⟨n.natAbs,by omega⟩
  have:=Ve m (B64 - m) (by omega) (by unfold B64;omega) w (by omega)
  rw [show decide (-(m:Int)<0)=true by simp;omega,show (-(m:Int)).natAbs=m by omega]
  exact this
 ·obtain ⟨m,rfl⟩:∃ m:Nat,n=(m:Int):=⟨n.toNat,by omega⟩
  have:=Uf m (by omega) w
  rw [show decide ((m:Int)<0)=false by simp,show ((m:Int)).natAbs=m by omega]
  exact this
theorem Po (w:World) {n:Nat} (h:n<B64):ah w (.int .u64 (n:Int)) (.slice none 0 0) n:=.inl ⟨h,rfl,rfl⟩
theorem gZ (w:World):ah w (.int .u64 0) (.slice none 0 0) 0:=.inl ⟨aQ,rfl,rfl⟩
theorem kD {w:World} {c d:Value} (z:Int) (h:ah w c d z.natAbs):IsQ w (.agg #[.bool (decide (z<0)),c,d,.int .u64 0,.slice none 0 0]) (z:Rat):=
 ⟨c,d,_,_,by rw [Rat.num_intCast],by rw [Rat.num_intCast];exact h,by unfold bK;rw [Rat.den_intCast,if_pos rfl];exact gZ w⟩
theorem Ht {w:World} {b:Bool} {c d e f:Value} {n m:Nat} (h0:n≠0) (hc:Nat.Coprime n m) (h1:ah w c d n) (hm:m≠0) (h2:ah w e f (if m=1 then 0 else m)):IsQ w (.agg #[.bool b,c,d,e,f]) (mkRat (zs b n) m):=by
 obtain ⟨k1,k2⟩:=FI (z:=zs b n) hm (by rw [kX];exact hc)
 refine ⟨c,d,e,f,by rw [k1,xk h0],by rw [k1,kX];exact h1,?_⟩
 unfold bK
 rw [k2]
 exact h2
theorem nX (w:World):IsQ w (.agg #[.bool false,.int .u64 0,.slice none 0 0,.int .u64 0,.slice none 0 0]) 0:=
 kD 0 (gZ w)
theorem yV (n:Int) (h1:-9223372036854775808≤n) (h2:n<9223372036854775808) (w:World):Calls Tryz.prog 26 #[.int .i64 n] w (bM w (n:Rat)):=by
 have hb:=(Below.refl w.heap.size w).alloc (Nat.le_refl _) (.cells #[.bool false,.int .u64 0,.slice none 0 0,.int .u64 0,.slice none 0 0] 31)
 have hs:fF (w.alloc (.cells #[.bool false,.int .u64 0,.slice none 0 0,.int .u64 0,.slice none 0 0] 31)) w.heap.size:=by
  refine ⟨⟨false,?_⟩,⟨0,?_⟩,⟨none,0,0,?_⟩,⟨0,?_⟩,⟨none,0,0,?_⟩,?_,?_,?_,?_,?_⟩ <;> go_simp
 have hsz:(w.alloc (.cells #[.bool false,.int .u64 0,.slice none 0 0,.int .u64 0,.slice none 0 0] 31)).heap.size=w.heap.size+1:=by simp
 have HI:=hid (rF n h1 h2)
 have HB:=hid (And.intro hb (And.intro hs hsz))
 have HN:=hid (And.intro h1 h2)
 clear hb hs hsz h1 h2
 go_enter Tryz.func26,Tryz.ntmps26
 go_wp2_with fail
 obtain ⟨W0,hW0⟩:∃ W0,w.alloc (.cells #[.bool false,.int .u64 0,.slice none 0 0,.int .u64 0,.slice none 0 0] 31)=W0:=⟨_,rfl⟩
 rw [hW0] at HB ⊢
 clear hW0
 refine (HI.out _).mono ?_
 rintro e w1 ⟨rfl,hB1⟩
 go_wp2_with fail
 refine (kT _ _ _ _ _ _).mono ?_
 rintro e w2 ⟨rfl,hB2⟩
 obtain ⟨k1,k2,k3⟩:=HB.out
 have hb2:=k1.trans ((hB1.trans (hB2.mono hB1.size)).mono k1.size)
 have hs2:=(k2.below hB1 (by omega)).below hB2 (by have:=hB1.size;omega)
 obtain ⟨r0,r1,r2,r3,r4,⟨c0,c1,c2,c3,c4⟩,f0,f1,f2,f3,f4⟩:=hs2.facts
 obtain ⟨⟨z0,z1,z2,z3,z4⟩,hH⟩:=hs2.done (v0:=.bool (decide (n<0))) hb2 (Nat.le_refl _) (Po w2 (n:=n.natAbs) (by have:=HN.out;unfold B64;omega)) (gZ w2)
 clear k1 k2 k3 hB1 hB2 hb2 hs2 HI HB
 go_wp2_with fail
 exact bodyPost_ret (v:=.agg #[.bool (decide (n<0)),.int .u64 (n.natAbs:Int),.slice none 0 0,.int .u64 0,.slice none 0 0]) (by simp [results,Tryz.results26,go_sem,z0,z1,z2,z3,z4]) rfl ⟨_,rfl,kD n hH.out.1,hH.out.2.2⟩
end
section
open Go.RowKit Go.Sort
theorem vM (b:Bool) (c d e f:Value) (n m:Nat) (w:World) (h1:ah w c d n) (h2:ah w e f m) (hc:Nat.Coprime n m) (hm:m≠0) :
  Calls Tryz.prog 133 #[.agg #[.bool b,c,d],.agg #[e,f]] w (bM w (mkRat (zs b n) m)):=by
 obtain ⟨x,p,l,k,rfl,rfl⟩:=h1.shape
 obtain ⟨x',p',l',k',rfl,rfl⟩:=h2.shape
 have hb:=(((Below.refl w.heap.size w).alloc (Nat.le_refl _) (.cells #[.bool b,.int .u64 x,.slice p l k] 29)).alloc (by simp) (.cells #[.int .u64 x',.slice p' l' k'] 27)).alloc (by simp;omega) (.cells #[.bool false,.int .u64 0,.slice none 0 0,.int .u64 0,.slice none 0 0] 31)
 have hs:fF (((w.alloc (.cells #[.bool b,.int .u64 x,.slice p l k] 29)).alloc (.cells #[.int .u64 x',.slice p' l' k'] 27)).alloc (.cells #[.bool false,.int .u64 0,.slice none 0 0,.int .u64 0,.slice none 0 0] 31)) (w.heap.size+1+1):=by
  refine ⟨⟨false,?_⟩,⟨0,?_⟩,⟨none,0,0,?_⟩,⟨0,?_⟩,⟨none,0,0,?_⟩,?_,?_,?_,?_,?_⟩ <;> go_simp
 have hx:C3 (((w.alloc (.cells #[.bool b,.int .u64 x,.slice p l k] 29)).alloc (.cells #[.int .u64 x',.slice p' l' k'] 27)).alloc (.cells #[.bool false,.int .u64 0,.slice none 0 0,.int .u64 0,.slice none 0 0] 31)) w.heap.size (.bool b) (.int .u64 x) (.slice p l k):=by
  refine ⟨?_,?_,?_⟩ <;> go_simp
 have hy:C2 (((w.alloc (.cells #[.bool b,.int .u64 x,.slice p l k] 29)).alloc (.cells #[.int .u64 x',.slice p' l' k'] 27)).alloc (.cells #[.bool false,.int .u64 0,.slice none 0 0,.int .u64 0,.slice none 0 0] 31)) (w.heap.size+1) (.int .u64 x') (.slice p' l' k'):=by
  refine ⟨?_,?_⟩ <;> go_simp
 have hsz:(((w.alloc (.cells #[.bool b,.int .u64 x,.slice p l k] 29)).alloc (.cells #[.int .u64 x',.slice p' l' k'] 27)).alloc (.cells #[.bool false,.int .u64 0,.slice none 0 0,.int .u64 0,.slice none 0 0] 31)).heap.size=w.heap.size+3:=by simp
 have m1:=h1.below hb
 have m2:=h2.below hb
 have HH:=hid (And.intro hb (And.intro hs (And.intro hx (And.intro hy (And.intro hsz (And.intro m1 m2))))))
 have HC:=hid (And.intro hc hm)
 clear h1 h2 hb hs hx hy hsz m1 m2 hc hm
 go_enter Tryz.func133,Tryz.ntmps133
 go_wp2_with fail
 obtain ⟨W0,hW0⟩:∃ W0,((w.alloc (.cells #[.bool b,.int .u64 x,.slice p l k] 29)).alloc (.cells #[.int .u64 x',.slice p' l' k'] 27)).alloc (.cells #[.bool false,.int .u64 0,.slice none 0 0,.int .u64 0,.slice none 0 0] 31)=W0:=⟨_,rfl⟩
 rw [hW0] at HH ⊢
 clear hW0
 refine (dL _ _ n _ HH.out.2.2.2.2.2.1).mono ?_
 rintro e w1 ⟨rfl,hB1⟩
 obtain ⟨hb,hs,hx,hy,hsz,m1,m2⟩:=HH.out
 have hb1:=hb.trans (hB1.mono hb.size)
 have hs1:=hs.below hB1 (by omega)
 have hx1:=hx.below hB1 (by omega)
 have hy1:=hy.below hB1 (by omega)
 have n1:=m1.below hB1
 have n2:=m2.below hB1
 have hsz1:w.heap.size+3≤w1.heap.size:=by have:=hB1.size;omega
 clear hb hs hx hy hsz m1 m2 HH hB1
 by_cases h0:n=0
 ·have t:(n == 0)=true:=by rw [beq_iff_eq];exact h0
  obtain ⟨r0,r1,r2,r3,r4,⟨c0,c1,c2,c3,c4⟩,f0,f1,f2,f3,f4⟩:=hs1.facts
  obtain ⟨⟨z0,z1,z2,z3,z4⟩,hH⟩:=hs1.done (v0:=.bool false) hb1 (by omega) (gZ w1) (gZ w1)
  have HZ:Hid (mkRat (zs b n) m=0):=by show _=_;rw [h0,xK,Rat.zero_mkRat]
  clear hb1 hs1 hx1 hy1 n1 n2 hsz1 h0 HC
  go_wp2_with fail
  refine bodyPost_ret (v:=.agg #[.bool false,.int .u64 0,.slice none 0 0,.int .u64 0,.slice none 0 0]) (by simp [results,Tryz.results133,go_sem,z0,z1,z2,z3,z4]) rfl ?_
  rw [HZ.out]
  exact ⟨_,rfl,nX _,hH.out.2.2⟩
 ·have t:(n == 0)=false:=by rw [beq_eq_false_iff_ne];exact h0
  have H0:=hid h0
  clear h0
  obtain ⟨c0,c1,c2⟩:=hx1
  obtain ⟨d0,d1⟩:=hy1
  go_wp2_with fail
  refine (dS _ _ m _ n2).mono ?_
  rintro e w2 ⟨rfl,hB2⟩
  have hb2:=hb1.trans (hB2.mono hb1.size)
  have hs2:=hs1.below hB2 (by omega)
  obtain ⟨c0',c1',c2'⟩:=C3.below ⟨c0,c1,c2⟩ hB2 (by omega)
  obtain ⟨d0',d1'⟩:=C2.below ⟨d0,d1⟩ hB2 (by omega)
  have k1:=n1.below hB2
  have k2:=n2.below hB2
  have hsz2:w.heap.size+3≤w2.heap.size:=by have:=hB2.size;omega
  clear c0 c1 c2 d0 d1 n1 n2 hb1 hs1 hB2 hsz1
  by_cases h1:m=1
  ·have t1:(m == 1)=true:=by rw [beq_iff_eq];exact h1
   have H1:=hid h1
   clear h1
   have HK:=hid (And.intro hb2 (And.intro hs2 k1))
   clear hb2 hs2 k1 k2
   go_wp2_with fail
   refine (kT _ _ _ _ _ _).mono ?_
   rintro e w3 ⟨rfl,hB3⟩
   obtain ⟨hb2,hs2,k1⟩:=HK.out
   have hs3:=hs2.below hB3 (by omega)
   have hb3:=hb2.trans (hB3.mono hb2.size)
   obtain ⟨r0,r1,r2,r3,r4,⟨e0,e1,e2,e3,e4⟩,f0,f1,f2,f3,f4⟩:=hs3.facts
   obtain ⟨⟨z0,z1,z2,z3,z4⟩,hH⟩:=hs3.done (v0:=.bool b) hb3 (by omega) (k1.below hB3) (gZ w3)
   clear hb2 hs2 k1 hs3 hb3 hB3 HK c0' c1' c2' d0' d1'
   go_wp2_with fail
   exact bodyPost_ret (v:=.agg #[.bool b,.int .u64 x,.slice p l k,.int .u64 0,.slice none 0 0]) (by simp [results,Tryz.results133,go_sem,z0,z1,z2,z3,z4]) rfl ⟨_,rfl,Ht H0.out HC.out.1 hH.out.1 HC.out.2 (by rw [if_pos H1.out];exact hH.out.2.1),hH.out.2.2⟩
  ·have t1:(m == 1)=false:=by rw [beq_eq_false_iff_ne];exact h1
   have H1:=hid h1
   clear h1
   obtain ⟨r0,r1,r2,r3,r4,⟨e0,e1,e2,e3,e4⟩,f0,f1,f2,f3,f4⟩:=hs2.facts
   obtain ⟨⟨z0,z1,z2,z3,z4⟩,hH⟩:=hs2.done (v0:=.bool b) hb2 (by omega) k1 k2
   clear hb2 hs2 k1 k2
   go_wp2_with fail
   exact bodyPost_ret (v:=.agg #[.bool b,.int .u64 x,.slice p l k,.int .u64 x',.slice p' l' k']) (by simp [results,Tryz.results133,go_sem,z0,z1,z2,z3,z4]) rfl ⟨_,rfl,Ht H0.out HC.out.1 hH.out.1 HC.out.2 (by rw [if_neg H1.out];exact hH.out.2.1),hH.out.2.2⟩
end
section
open Go.RowKit Go.Sort
attribute [local go_sem] takes dF dG dD
def aB (n:Nat) (v:Value) (W:World):Prop:=∃ x p l k,v=.agg #[.int .u64 x,.slice p l k]∧ah W (.int .u64 x) (.slice p l k) n
def dO (b:Bool) (n:Nat) (v:Value) (W:World):Prop:=∃ x p l k,v=.agg #[.bool b,.int .u64 x,.slice p l k]∧ah W (.int .u64 x) (.slice p l k) n
def one (f:Value→World→Prop):List Value→World→Prop
 | [v],W=>f v W
 | _,_=>False
theorem aj {f:Value→World→Prop} (h:∀ v W W',Below W.heap.size W W'→f v W→f v W'):∀ vs W W',Below W.heap.size W W'→one f vs W→one f vs W'
 | [v],W,W',hb,hf=>h v W W' hb hf
 | [],_,_,_,hf=>hf
 | _ :: _ :: _,_,_,_,hf=>hf
theorem aN {n:Nat}:∀ v W W',Below W.heap.size W W'→aB n v W→aB n v W':=fun _ _ _ hb ⟨x,p,l,k,e,h⟩=>⟨x,p,l,k,e,h.below hb⟩
theorem jX {b:Bool} {n:Nat}:∀ v W W',Below W.heap.size W W'→dO b n v W→dO b n v W':=fun _ _ _ hb ⟨x,p,l,k,e,h⟩=>⟨x,p,l,k,e,h.below hb⟩
theorem aA {c:Value}:∀ v W W',Below W.heap.size W W'→(fun v (_:World)=>v=c) v W→(fun v (_:World)=>v=c) v W':=fun _ _ _ _ h=>h
theorem fQ {r:Rat}:∀ v W W',Below W.heap.size W W'→(fun v W=>IsQ W v r) v W→(fun v W=>IsQ W v r) v W':=fun _ _ _ hb h=>h.below hb
theorem sW (b:Bool) (c d e f:Value) (n m k:Nat) (w:World) (h1:ah w c d n) (h2:ah w e f m) (hm:m≠0) (hk:k≤68719476736) (kn:n<B64 ^ k) (km:m<B64 ^ k) (hT:Tab w) :
  Calls Tryz.prog 111 #[.agg #[.bool b,c,d],.agg #[e,f]] w (bM w (mkRat (zs b n) m)):=by
 obtain ⟨x,p,l,q,rfl,rfl⟩:=h1.shape
 obtain ⟨x',p',l',q',rfl,rfl⟩:=h2.shape
 have hb:=(((Below.refl w.heap.size w).alloc (Nat.le_refl _) (.cells #[.bool b,.int .u64 x,.slice p l q] 29)).alloc (by simp) (.cells #[.int .u64 x',.slice p' l' q'] 27)).alloc (by simp;omega) (.cells #[.bool false,.int .u64 0,.slice none 0 0,.int .u64 0,.slice none 0 0] 31)
 have hs:fF (((w.alloc (.cells #[.bool b,.int .u64 x,.slice p l q] 29)).alloc (.cells #[.int .u64 x',.slice p' l' q'] 27)).alloc (.cells #[.bool false,.int .u64 0,.slice none 0 0,.int .u64 0,.slice none 0 0] 31)) (w.heap.size+1+1):=by
  refine ⟨⟨false,?_⟩,⟨0,?_⟩,⟨none,0,0,?_⟩,⟨0,?_⟩,⟨none,0,0,?_⟩,?_,?_,?_,?_,?_⟩ <;> go_simp
 have hx:C3 (((w.alloc (.cells #[.bool b,.int .u64 x,.slice p l q] 29)).alloc (.cells #[.int .u64 x',.slice p' l' q'] 27)).alloc (.cells #[.bool false,.int .u64 0,.slice none 0 0,.int .u64 0,.slice none 0 0] 31)) w.heap.size (.bool b) (.int .u64 x) (.slice p l q):=by
  refine ⟨?_,?_,?_⟩ <;> go_simp
 have hy:C2 (((w.alloc (.cells #[.bool b,.int .u64 x,.slice p l q] 29)).alloc (.cells #[.int .u64 x',.slice p' l' q'] 27)).alloc (.cells #[.bool false,.int .u64 0,.slice none 0 0,.int .u64 0,.slice none 0 0] 31)) (w.heap.size+1) (.int .u64 x') (.slice p' l' q'):=by
  refine ⟨?_,?_⟩ <;> go_simp
 have hsz:(((w.alloc (.cells #[.bool b,.int .u64 x,.slice p l q] 29)).alloc (.cells #[.int .u64 x',.slice p' l' q'] 27)).alloc (.cells #[.bool false,.int .u64 0,.slice none 0 0,.int .u64 0,.slice none 0 0] 31)).heap.size=w.heap.size+3:=by simp
 have HH:=hid (And.intro hb (And.intro hs (And.intro hx (And.intro hy (And.intro hsz (And.intro (h1.below hb) (And.intro (h2.below hb) (hT.below hb (Nat.le_refl _)))))))))
 have HC:=hid (And.intro hm (And.intro kn km))
 obtain ⟨g0,g1,g2⟩:=qM n m hm
 have HG:=hid (And.intro g0 (And.intro g1 g2))
 clear h1 h2 hb hs hx hy hsz hm hT kn km g0 g1 g2
 go_enter Tryz.func111,Tryz.ntmps111
 go_wp2_with fail
 obtain ⟨W0,hW0⟩:∃ W0,((w.alloc (.cells #[.bool b,.int .u64 x,.slice p l q] 29)).alloc (.cells #[.int .u64 x',.slice p' l' q'] 27)).alloc (.cells #[.bool false,.int .u64 0,.slice none 0 0,.int .u64 0,.slice none 0 0] 31)=W0:=⟨_,rfl⟩
 rw [hW0] at HH ⊢
 clear hW0
 refine (rG n m k _ _ _ _ _ HH.out.2.2.2.2.2.1 HH.out.2.2.2.2.2.2.1 hk HC.out.2.1 HC.out.2.2 HH.out.2.2.2.2.2.2.2).mono ?_
 rintro e w1 ⟨gc,gd,rfl,hg,hB1⟩
 obtain ⟨gx,gp,gl,gq,rfl,rfl⟩:=hg.shape
 obtain ⟨hb,hs,hx,hy,hsz,m1,m2,hT⟩:=HH.out
 have hBa:=hB1.trans (((Below.refl w1.heap.size w1).alloc (Nat.le_refl _) (.cells #[.int .u64 gx,.slice gp gl gq] 27)).mono hB1.size)
 have hsz1:w.heap.size+3≤w1.heap.size:=by have:=hB1.size;omega
 have hS:C3 (w1.alloc (.cells #[.int .u64 gx,.slice gp gl gq] 27)) w.heap.size (.bool b) (.int .u64 x) (.slice p l q)∧C2 (w1.alloc (.cells #[.int .u64 gx,.slice gp gl gq] 27)) (w.heap.size+1) (.int .u64 x') (.slice p' l' q')∧C2 (w1.alloc (.cells #[.int .u64 gx,.slice gp gl gq] 27)) w1.heap.size (.int .u64 gx) (.slice gp gl gq):=by
  refine ⟨hx.below hBa (by omega),hy.below hBa (by omega),⟨?_,?_⟩⟩ <;> go_simp
 have HM:=hid (And.intro (m1.below hBa) (And.intro (m2.below hBa) (And.intro (hg.below ((Below.refl w1.heap.size w1).alloc (Nat.le_refl _) (.cells #[.int .u64 gx,.slice gp gl gq] 27))) (And.intro (hb.trans (hBa.mono hb.size)) (hs.below hBa (by omega))))))
 have hG1:w1.heap.size<(w1.alloc (.cells #[.int .u64 gx,.slice gp gl gq] 27)).heap.size:=by simp
 clear hb hs hx hy hsz m1 m2 hT HH hB1 hBa hg
 go_wp2_with fail
 obtain ⟨G,hG⟩:∃ G,w1.heap.size=G:=⟨_,rfl⟩
 obtain ⟨W1,hW1⟩:∃ W1,w1.alloc (.cells #[.int .u64 gx,.slice gp gl gq] 27)=W1:=⟨_,rfl⟩
 rw [hW1] at HM hS hG1 ⊢
 rw [hG] at hS hsz1 hG1 ⊢
 clear hW1 hG
 have HLow:=hid (fun (W:World) (c d e f:Value) (h1:ah W c d (n / Nat.gcd n m)) (h2:ah W e f (m / Nat.gcd n m))=>vM b c d e f (n / Nat.gcd n m) (m / Nat.gcd n m) W h1 h2 HG.out.2.1 HG.out.2.2)
 rw [Fq b n m (Nat.gcd n m) HC.out.1 HG.out.1 (Nat.gcd_dvd_left n m) (Nat.gcd_dvd_right n m)] at HLow
 obtain ⟨R,hR⟩:∃ R,mkRat (zs b n) m=R:=⟨_,rfl⟩
 rw [hR] at HLow
 have HR:=hid hR
 clear hR
 have hsG:w.heap.size+1+1<W1.heap.size:=by omega
 have hsR:w.heap.size≤w.heap.size+1+1:=by omega
 have hg0:=hid (Nat.pos_of_ne_zero HG.out.1)
 have hk2:k≤137438953472:=by omega
 have hS':=hS
 clear hS
 refine bC 11 [⟨[],[0]⟩,⟨[0],[1]⟩,⟨[],[2]⟩,⟨[2],[3]⟩,⟨[],[4]⟩,⟨[3,4],[5]⟩,⟨[1,5],[6]⟩,⟨[],[7]⟩,⟨[],[8]⟩,⟨[7,8],[9]⟩,⟨[6,9],[10]⟩]
  [one fun v _=>v=.pointer (some ⟨w.heap.size,0,none⟩),one fun v _=>v=.bool b,one fun v _=>v=.pointer (some ⟨w.heap.size,1,none⟩),one fun v _=>v=.agg #[.int .u64 x,.slice p l q],one fun v _=>v=.agg #[.int .u64 gx,.slice gp gl gq],
   one (aB (n / Nat.gcd n m)),one (dO b (n / Nat.gcd n m)),one fun v _=>v=.agg #[.int .u64 x',.slice p' l' q'],one fun v _=>v=.agg #[.int .u64 gx,.slice gp gl gq],one (aB (m / Nat.gcd n m)),one fun v W=>IsQ W v R]
  (fun _ W=>Below W1.heap.size W1 W) (by kernel_rfl) (by kernel_rfl) ?hT (Below.refl _ _).drew ?hO ?hE
 case hT =>
  simp only [List.forall_mem_cons,List.not_mem_nil,false_imp_iff,implies_true,and_true]
  exact ⟨aj aA,aj aA,aj aA,aj aA,aj aA,aj aN,aj jX,aj aA,aj aA,aj aN,aj fQ⟩
 case hO =>
  intro u
  simp only [List.take_succ_cons,List.take_zero,aC]
  repeat' (first | with_reducible exact aV | with_reducible refine aX ?_ ?_)
  ·intro W hS hF K hK
   clear hF
   go_simp
   exact hK _ _ (.refl _ _) hS rfl
  ·intro W hS hF K hK
   have h0:u 0=.pointer (some ⟨w.heap.size,0,none⟩):=hF.1
   have c0:=cB hS hS'.1.1 (by omega)
   clear hF
   go_simp
   exact hK _ _ (.refl _ _) hS rfl
  ·intro W hS hF K hK
   clear hF
   go_simp
   exact hK _ _ (.refl _ _) hS rfl
  ·intro W hS hF K hK
   have h2:u 2=.pointer (some ⟨w.heap.size,1,none⟩):=hF.1
   have c1:=cB hS hS'.1.2.1 (by omega)
   have c2:=cB hS hS'.1.2.2 (by omega)
   clear hF
   go_simp
   exact hK _ _ (.refl _ _) hS rfl
  ·intro W hS hF K hK
   have c1:=cB hS hS'.2.2.1 (by omega)
   have c2:=cB hS hS'.2.2.2 (by omega)
   clear hF
   go_simp
   exact hK _ _ (.refl _ _) hS rfl
  ·intro W hS hF K hK
   have h3:u 3=.agg #[.int .u64 x,.slice p l q]:=hF.1
   have h4:u 4=.agg #[.int .u64 gx,.slice gp gl gq]:=hF.2.1
   clear hF
   go_simp
   refine (jd n (Nat.gcd n m) k _ _ _ _ _ (HM.out.1.below hS) (HM.out.2.2.1.below hS) hg0.out hk2 HC.out.2.1).mono ?_
   rintro e wA ⟨ac,ad,rfl,hmA,hBA⟩
   obtain ⟨ax,ap,al,aq,rfl,rfl⟩:=hmA.shape
   exact ⟨_,rfl,hK _ _ hBA (hS.trans (hBA.mono hS.size)) ⟨_,_,_,_,rfl,hmA⟩⟩
  ·intro W hS hF K hK
   have h1:u 1=.bool b:=hF.1
   obtain ⟨ax,ap,al,aq,h5,hm⟩:aB (n / Nat.gcd n m) (u 5) W:=hF.2.1
   clear hF
   go_simp
   exact hK _ _ (.refl _ _) hS ⟨_,_,_,_,rfl,hm⟩
  ·intro W hS hF K hK
   have c1:=cB hS hS'.2.1.1 (by omega)
   have c2:=cB hS hS'.2.1.2 (by omega)
   clear hF
   go_simp
   exact hK _ _ (.refl _ _) hS rfl
  ·intro W hS hF K hK
   have c1:=cB hS hS'.2.2.1 (by omega)
   have c2:=cB hS hS'.2.2.2 (by omega)
   clear hF
   go_simp
   exact hK _ _ (.refl _ _) hS rfl
  ·intro W hS hF K hK
   have h7:u 7=.agg #[.int .u64 x',.slice p' l' q']:=hF.1
   have h8:u 8=.agg #[.int .u64 gx,.slice gp gl gq]:=hF.2.1
   clear hF
   go_simp
   refine (jd m (Nat.gcd n m) k _ _ _ _ _ (HM.out.2.1.below hS) (HM.out.2.2.1.below hS) hg0.out hk2 HC.out.2.2).mono ?_
   rintro e wA ⟨ac,ad,rfl,hmA,hBA⟩
   obtain ⟨ax,ap,al,aq,rfl,rfl⟩:=hmA.shape
   exact ⟨_,rfl,hK _ _ hBA (hS.trans (hBA.mono hS.size)) ⟨_,_,_,_,rfl,hmA⟩⟩
  ·intro W hS hF K hK
   obtain ⟨ax,ap,al,aq,h6,hm⟩:dO b (n / Nat.gcd n m) (u 6) W:=hF.1
   obtain ⟨bx,bp,bl,bq,h9,hm2⟩:aB (m / Nat.gcd n m) (u 9) W:=hF.2.1
   clear hF
   go_simp
   refine (HLow.out _ _ _ _ _ hm hm2).mono ?_
   rintro e wC ⟨v,rfl,hv,hBC⟩
   exact ⟨_,rfl,hK _ _ hBC (hS.trans (hBC.mono hS.size)) hv⟩
 case hE =>
  intro u W hS hF
  have hv:IsQ W (u 10) R:=hF.2.2.2.2.2.2.2.2.2.2.1
  clear hF
  simp only [List.take_succ_cons,List.take_zero,aC,List.drop_succ_cons,List.drop_zero]
  obtain ⟨t0,sx,sp,sl,sq,tx,tp,tl,tq,h10,hv1,hv2,ht⟩:=hv.shape
  have hqs:=HM.out.2.2.2.2.below hS hsG
  obtain ⟨r0,r1,r2,r3,r4,⟨c0,c1,c2,c3,c4⟩,f0,f1,f2,f3,f4⟩:=hqs.facts
  obtain ⟨⟨z0,z1,z2,z3,z4⟩,hH⟩:=hqs.doneQ (HM.out.2.2.2.1.trans (hS.mono HM.out.2.2.2.1.size)) hsR hv1 hv2 ht
  clear hqs hv hv1 hv2 ht hS hS'
  go_wp2_with fail
  exact bodyPost_ret (v:=.agg #[.bool t0,.int .u64 sx,.slice sp sl sq,.int .u64 tx,.slice tp tl tq]) (by simp [results,Tryz.results111,go_sem,z0,z1,z2,z3,z4]) rfl (by rw [HR.out];exact ⟨_,rfl,hH.out.1,hH.out.2⟩)
end
section
open Go.RowKit Go.Sort
structure bn (w W:World) (t1:Bool) (c1 d1 e1 f1:Value) (t2:Bool) (c2 d2 e2 f2:Value) (n1 m1 n2 m2:Nat):Prop where
 b1:C5 W w.heap.size (.bool t1) c1 d1 e1 f1
 b2:C5 W (w.heap.size+1) (.bool t2) c2 d2 e2 f2
 rs:fF W (w.heap.size+1+1)
 i1:ah W c1 d1 n1
 j1:ah W e1 f1 m1
 i2:ah W c2 d2 n2
 j2:ah W e2 f2 m2
 bel:Below w.heap.size w W
 sz:w.heap.size+3≤W.heap.size
 tab0:Tab w
theorem bn.next {w W W':World} {t1 t2:Bool} {c1 d1 e1 f1 c2 d2 e2 f2:Value} {n1 m1 n2 m2:Nat} (h:bn w W t1 c1 d1 e1 f1 t2 c2 d2 e2 f2 n1 m1 n2 m2) (hb:Below W.heap.size W W') :
  bn w W' t1 c1 d1 e1 f1 t2 c2 d2 e2 f2 n1 m1 n2 m2 where
 b1:=C5.below h.b1 hb (by have:=h.sz;omega)
 b2:=C5.below h.b2 hb (by have:=h.sz;omega)
 rs:=h.rs.below hb (by have:=h.sz;omega)
 i1:=h.i1.below hb
 j1:=h.j1.below hb
 i2:=h.i2.below hb
 j2:=h.j2.below hb
 bel:=h.bel.trans (hb.mono h.bel.size)
 sz:=Nat.le_trans h.sz hb.size
 tab0:=h.tab0
theorem bn.tab {w W:World} {t1 t2:Bool} {c1 d1 e1 f1 c2 d2 e2 f2:Value} {n1 m1 n2 m2:Nat} (h:bn w W t1 c1 d1 e1 f1 t2 c2 d2 e2 f2 n1 m1 n2 m2):Tab W:=h.tab0.below h.bel (Nat.le_refl _)
theorem qE {W:World} {L:Nat} {u v:Value} (a:Addr) (ha:a.block≠L):(set2 W L u v).cell? a=W.cell? a:=by
 rw [World.cell?_setCell_far _ _ _ _ (Ne.symm ha),World.cell?_setCell_far _ _ _ _ (Ne.symm ha)]
theorem bn.set2 {w W:World} {t1 t2:Bool} {c1 d1 e1 f1 c2 d2 e2 f2 u v:Value} {n1 m1 n2 m2 L:Nat} (h:bn w W t1 c1 d1 e1 f1 t2 c2 d2 e2 f2 n1 m1 n2 m2) (hL:w.heap.size+3≤L) (hs:Slot W L) :
  bn w (set2 W L u v) t1 c1 d1 e1 f1 t2 c2 d2 e2 f2 n1 m1 n2 m2:=by
 obtain ⟨⟨a0,a1,a2,a3,a4⟩,⟨b0,b1,b2,b3,b4⟩,⟨⟨t,r0⟩,⟨x,r1⟩,⟨p,l,c,r2⟩,⟨y,r3⟩,⟨p',l',c',r4⟩,g0,g1,g2,g3,g4⟩,i1,j1,i2,j2,bel,sz,tab0⟩:=h
 refine ⟨⟨?_,?_,?_,?_,?_⟩,⟨?_,?_,?_,?_,?_⟩,⟨⟨t,?_⟩,⟨x,?_⟩,⟨p,l,c,?_⟩,⟨y,?_⟩,⟨p',l',c',?_⟩,?_,?_,?_,?_,?_⟩,hs.mag i1,hs.mag j1,hs.mag i2,hs.mag j2,(bel.setCell (by simp only;omega) _).setCell (by simp only;omega) _,by simpa using sz,tab0⟩
 all_goals first | (simp only [World.frozen?_setCell];assumption) | (rw [qE _ (by simp only;omega)];assumption)
structure Loc (w W:World) (L:Nat) (c d:Value) (n:Nat):Prop where
 cs:C2 W L c d
 im:ah W c d n
 lo:w.heap.size+3≤L
 hi:L<W.heap.size
theorem Loc.next {w W W':World} {L n:Nat} {c d:Value} (h:Loc w W L c d n) (hb:Below W.heap.size W W'):Loc w W' L c d n:=
 ⟨C2.below h.cs hb h.hi,h.im.below hb,h.lo,Nat.lt_of_lt_of_le h.hi hb.size⟩
theorem Loc.far {w W:World} {L L' n:Nat} {c d u v:Value} (h:Loc w W L c d n) (hs:Slot W L') (hne:L≠L'):Loc w (Go.Proofs.YtnmlkobogofadaaGreatDoor.set2 W L' u v) L c d n:=
 ⟨⟨by rw [qE _ hne];exact h.cs.1,by rw [qE _ hne];exact h.cs.2⟩,hs.mag h.im,h.lo,by simpa using h.hi⟩
theorem Loc.own {w W:World} {L n:Nat} {c d:Value} (hs:Slot W L) (hm:ah W c d n) (lo:w.heap.size+3≤L) (hi:L<W.heap.size):Loc w (Go.Proofs.YtnmlkobogofadaaGreatDoor.set2 W L c d) L c d n:=
 ⟨hs.read c d,hs.mag hm,lo,by simpa using hi⟩
theorem bn.start {w:World} (t1 t2:Bool) (c1 d1 e1 f1 c2 d2 e2 f2:Value) (n1 m1 n2 m2:Nat) (T1 T2 T3:TypeId) (i1:ah w c1 d1 n1) (j1:ah w e1 f1 m1) (i2:ah w c2 d2 n2) (j2:ah w e2 f2 m2) (hT:Tab w) :
  bn w (((w.alloc (.cells #[.bool t1,c1,d1,e1,f1] T1)).alloc (.cells #[.bool t2,c2,d2,e2,f2] T2)).alloc (.cells #[.bool false,.int .u64 0,.slice none 0 0,.int .u64 0,.slice none 0 0] T3)) t1 c1 d1 e1 f1 t2 c2 d2 e2 f2 n1 m1 n2 m2:=by
 have hb:=(((Below.refl w.heap.size w).alloc (Nat.le_refl _) (.cells #[.bool t1,c1,d1,e1,f1] T1)).alloc (by simp) (.cells #[.bool t2,c2,d2,e2,f2] T2)).alloc (by simp;omega) (.cells #[.bool false,.int .u64 0,.slice none 0 0,.int .u64 0,.slice none 0 0] T3)
 refine ⟨⟨?_,?_,?_,?_,?_⟩,⟨?_,?_,?_,?_,?_⟩,⟨⟨false,?_⟩,⟨0,?_⟩,⟨none,0,0,?_⟩,⟨0,?_⟩,⟨none,0,0,?_⟩,?_,?_,?_,?_,?_⟩,i1.below hb,j1.below hb,i2.below hb,j2.below hb,hb,by simp,hT⟩ <;> go_simp
def iD (B:Nat) (v:Value) (W:World):Prop:=∃ L,v=.pointer (some ⟨L,0,none⟩)∧B≤L∧L<W.heap.size∧Slot W L
theorem qh {B:Nat}:∀ v W W',Below W.heap.size W W'→iD B v W→iD B v W':=fun _ _ _ hb ⟨L,e,h1,h2,h3⟩=>⟨L,e,h1,Nat.lt_of_lt_of_le h2 hb.size,h3.below hb h2⟩
theorem oW (W:World) (t:TypeId):Slot (W.alloc (.cells #[.int .u64 0,.slice none 0 0] t)) W.heap.size:=by
 refine ⟨⟨.int .u64 0,?_⟩,⟨none,0,0,?_⟩,?_,?_⟩ <;> go_simp
end
section
theorem pV {a b c d:Nat} (h:Nat.Coprime a b) (hc:c∣a) (hd:d∣b):Nat.Coprime c d:=
 Nat.Coprime.coprime_dvd_left hc (Nat.Coprime.coprime_dvd_right hd h)
theorem UU (t1 t2:Bool) (n1 d1 n2 d2:Nat) (h1:Nat.Coprime n1 d1) (h2:Nat.Coprime n2 d2) (e1:d1≠0) (e2:d2≠0) :
  Nat.gcd n1 d2≠0∧Nat.gcd n2 d1≠0∧Nat.Coprime (n1 / Nat.gcd n1 d2*(n2 / Nat.gcd n2 d1)) (d1 / Nat.gcd n2 d1*(d2 / Nat.gcd n1 d2))∧d1 / Nat.gcd n2 d1*(d2 / Nat.gcd n1 d2)≠0 ∧
  mkRat (zs (t1 != t2) (n1 / Nat.gcd n1 d2*(n2 / Nat.gcd n2 d1))) (d1 / Nat.gcd n2 d1*(d2 / Nat.gcd n1 d2))=mkRat (zs t1 n1) d1*mkRat (zs t2 n2) d2:=by
 obtain ⟨g0,g1,g2⟩:=qM n1 d2 e2
 obtain ⟨h0,k1,k2⟩:=qM n2 d1 e1
 have ga:=Nat.gcd_dvd_left n1 d2
 have gb:=Nat.gcd_dvd_right n1 d2
 have ha:=Nat.gcd_dvd_left n2 d1
 have hb:=Nat.gcd_dvd_right n2 d1
 generalize Nat.gcd n1 d2=g at *
 generalize Nat.gcd n2 d1=h at *
 obtain ⟨x1,rfl⟩:=ga
 obtain ⟨y2,rfl⟩:=gb
 obtain ⟨x2,rfl⟩:=ha
 obtain ⟨y1,rfl⟩:=hb
 rw [Nat.mul_div_cancel_left _ (by omega),Nat.mul_div_cancel_left _ (by omega)] at *
 rw [Nat.mul_div_cancel_left _ (by omega),Nat.mul_div_cancel_left _ (by omega)] at *
 have c1:Nat.Coprime x1 y1:=pV h1 (Nat.dvd_mul_left _ _) (Nat.dvd_mul_left _ _)
 have c2:Nat.Coprime x2 y2:=pV h2 (Nat.dvd_mul_left _ _) (Nat.dvd_mul_left _ _)
 refine ⟨g0,h0,?_,Nat.mul_ne_zero k2 g2,?_⟩
 ·exact Nat.Coprime.mul_left (Nat.Coprime.mul_right c1 g1) (Nat.Coprime.mul_right k1 c2)
 ·rw [Rat.mkRat_mul_mkRat,PY,Rat.mkRat_eq_iff (Nat.mul_ne_zero k2 g2) (Nat.mul_ne_zero e1 e2)]
  rw [show g*x1*(h*x2)=x1*x2*(g*h) by grind,qZ (t1 != t2) (x1*x2) (g*h)]
  generalize zs (t1 != t2) (x1*x2)=z
  clear c1 c2 h1 h2 g1 k1
  push_cast
  grind
end
end Go.Proofs.YtnmlkobogofadaaGreatDoor
