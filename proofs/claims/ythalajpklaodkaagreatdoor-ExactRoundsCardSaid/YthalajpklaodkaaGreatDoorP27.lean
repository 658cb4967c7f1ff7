/- What the proof rests on, part 27. -/
import Derived.Test.YthalajpklaodkaaGreatDoorP26
import Derived.Test.YthalajpklaodkaaGreatDoorP16
namespace Go.Proofs.YthalajpklaodkaaGreatDoor
set_option maxRecDepth 100000
set_option maxHeartbeats 80000000
namespace Z4
open Go.RowKit Go.Sort
attribute [local go_sem] takes fP fO fM
def IsR (W:World) (v:Value) (r:Rat):Prop:=∃ (t:Bool) (p:Option Addr) (l k:Nat) (p':Option Addr) (l' k':Nat),v=.agg #[.bool t,.slice p l k,.bool false,.slice p' l' k']∧IsZ W (.agg #[.bool t,.slice p l k]) r.num∧IsZ W (.agg #[.bool false,.slice p' l' k']) (r.den:Int)
theorem IsR.below {W W':World} {v:Value} {r:Rat} (h:IsR W v r) (hb:Below W.heap.size W W'):IsR W' v r:=by
 obtain ⟨t,p,l,k,p',l',k',e,h1,h2⟩:=h
 exact ⟨t,p,l,k,p',l',k',e,h1.below hb,h2.below hb⟩
def nS (w:World) (r:Rat) (e:Ending) (w':World):Prop:=∃ v,e=.returned v∧IsR w' v r∧Below w.heap.size w w'
theorem rW (z:Int) (m g:Nat) (hm:m≠0) (hg:Nat.gcd z.natAbs m=g):(mkRat z m).num.natAbs=z.natAbs / g∧decide ((mkRat z m).num<0)=decide (z<0)∧(mkRat z m).den=m / g:=by
 subst hg
 obtain ⟨g0,g1,g2⟩:=qU z.natAbs m hm
 have e:=Hr (decide (z<0)) z.natAbs m (Nat.gcd z.natAbs m) hm g0 (Nat.gcd_dvd_left _ _) (Nat.gcd_dvd_right _ _)
 rw [yT] at e
 obtain ⟨k1,k2⟩:=Ht (z:=zs (decide (z<0)) (z.natAbs / Nat.gcd z.natAbs m)) g2 (by rw [nH];exact g1)
 rw [← e]
 refine ⟨by rw [k1,nH],?_,k2⟩
 rw [k1]
 by_cases h0:z.natAbs / Nat.gcd z.natAbs m=0
 ·have hz:z.natAbs=0:=by
   have h1:=Nat.div_mul_cancel (Nat.gcd_dvd_left z.natAbs m)
   rw [h0,Nat.zero_mul] at h1
   exact h1.symm
  have:z=0:=by omega
  subst this
  simp [zs]
 ·rw [Kz h0]
theorem IsZ.to {W:World} {t:Bool} {p:Option Addr} {l k:Nat} {z z':Int} (h:IsZ W (.agg #[.bool t,.slice p l k]) z) (e:z=z'):IsZ W (.agg #[.bool t,.slice p l k]) z':=e ▸ h
theorem IsZ.parts {W:World} {t:Bool} {p:Option Addr} {l k:Nat} {z:Int} (h:IsZ W (.agg #[.bool t,.slice p l k]) z):∃ xs,t=decide (z<0)∧IsL 0 W (.slice p l k) xs∧Dig xs∧aB xs∧val xs=z.natAbs:=by
 obtain ⟨p',l',k',xs,e,h1,h2,h3,h4⟩:=h
 injection e with e
 have e0:Value.bool t=Value.bool (decide (z<0)):=by have:=congrArg (fun a:Array Value=>a[0]!) e;simpa using this
 have e1:Value.slice p l k=Value.slice p' l' k':=by have:=congrArg (fun a:Array Value=>a[1]!) e;simpa using this
 injection e0 with e0
 rw [← e1] at h1
 exact ⟨xs,e0,h1,h2,h3,h4⟩
theorem FB (r:Rat) (v:Value) (w:World) (h:IsR w v r):Calls Tryz.prog 97 #[v] w (qm w (r.den:Int)):=by
 obtain ⟨t,p,l,k,p',l',k',rfl,-,h2⟩:=h
 obtain ⟨ys,-,hL,dy,ty,hv⟩:=h2.parts
 have hl:=hL.len
 have hne:¬ (l' = 0):=fun e=>by
  have:=(sK dy ty).1 (by omega)
  rw [hv] at this
  have:=r.den_pos
  omega
 have t1:((l':Int) == 0)=false:=by rw [beq_eq_false_iff_ne];omega
 have H2:=hid h2
 clear hL dy ty hv hl h2
 go_enter Tryz.func97,Tryz.ntmps97
 go_wp2
 have hE:=hid (((St.start w).alloc' (w.heap.size) (by simp) 37 [.bool t,.slice p l k,.bool false,.slice p' l' k']).alloc' (w.heap.size+1) (by simp) 35 [.bool false,.slice p' l' k'])
 exact bodyPost_ret (v:=.agg #[.bool false,.slice p' l' k']) (by simp [results,Tryz.results97,go_sem]) rfl ⟨_,rfl,H2.out.below hE.out.bel,hE.out.bel⟩
theorem Vb (z:Int) (m:Nat) (hm:m≠0) (v1 v2:Value) (w:World) (h1:IsZ w v1 z) (h2:IsZ w v2 ((m:Int))) (N:Nat) (hN:N≤34359738368) (ka:z.natAbs<B4 ^ N) (kb:m<B4 ^ N):Calls Tryz.prog 92 #[v1,v2] w (nS w (mkRat (z) m)):=by
 obtain ⟨t1,p1,l1,k1,rfl⟩:=h1.open
 obtain ⟨t2,p2,l2,k2,rfl⟩:=h2.open
 obtain rfl:t2=false:=by
  obtain ⟨_,e,-⟩:=h2.parts
  rw [e]
  exact decide_eq_false (by omega)
 obtain ⟨g,hg⟩:∃ g,Nat.gcd (z).natAbs m=g:=⟨_,rfl⟩
 have HP:=hid (rW (z) m g hm hg)
 have hg0:g≠0:=fun e=>by rw [e] at hg;exact hm (Nat.gcd_eq_zero_iff.1 hg).2
 have HG:=hid hg
 have HA:=hid h1
 have HB:=hid h2
 have hka:Hid ((z).natAbs<B4 ^ N):=by show _<_;rw [show (z).natAbs=z.natAbs by omega];exact ka
 have hkb:=hid kb
 have hm':=hid hm
 obtain ⟨R,hR⟩:∃ R,mkRat (z) m=R:=⟨_,rfl⟩
 rw [hR] at HP ⊢
 clear h1 h2 hg ka kb hm hR
 go_enter Tryz.func92,Tryz.ntmps92
 go_wp2_with fail
 have hS0:=hid ((((St.start w).alloc' (w.heap.size) (by simp) 35 [.bool t1,.slice p1 l1 k1]).alloc' (w.heap.size+1) (by simp) 35 [.bool false,.slice p2 l2 k2]).alloc' (w.heap.size+1+1) (by simp) 37 [.bool false,.slice none 0 0,.bool false,.slice none 0 0])
 obtain ⟨W0,hW0⟩:=aN hS0
 rw [hW0] at hS0 ⊢
 clear hW0
 refine (Kv _ _ _ _ _ (HA.out.below hS0.out.bel) (HB.out.below hS0.out.bel) N hN hka.out (by rw [Int.natAbs_natCast];exact hkb.out)).mono ?_
 rintro e w5 ⟨v5,rfl,hz5,hB⟩
 have hS1:=hid (hS0.out.call hB)
 clear hB
 clear hS0
 rw [Int.natAbs_natCast,HG.out] at hz5
 obtain ⟨t5,p5,l5,k5,rfl⟩:=hz5.open
 obtain ⟨gs,-,hgl,dg,tg,hgv⟩:=hz5.parts
 rw [Int.natAbs_natCast] at hgv
 have HGS:=hid (And.intro dg (And.intro tg hgv))
 have hgn:=hgl.len
 clear hz5 dg tg hgv
 have hS2:=hid (hS1.out.fact (.l 0 (.slice p5 l5 k5) gs) hgl)
 clear hS1 hgl
 obtain ⟨ne1l,ne1,ne1'⟩:=hS2.out.ne 2 w.heap.size 35 [.bool t1,.slice p1 l1 k1] rfl
 obtain ⟨ne2l,ne2,ne2'⟩:=hS2.out.ne 1 (w.heap.size+1) 35 [.bool false,.slice p2 l2 k2] rfl
 obtain ⟨ne3l,ne3,ne3'⟩:=hS2.out.ne 0 (w.heap.size+1+1) 37 [.bool false,.slice none 0 0,.bool false,.slice none 0 0] rfl
 obtain ⟨⟨cA0,cA1⟩,fA0,fA1⟩:=hS2.out.f2 2 w.heap.size 35 (.bool t1) (.slice p1 l1 k1) rfl
 obtain ⟨⟨cB0,cB1⟩,fB0,fB1⟩:=hS2.out.f2 1 (w.heap.size+1) 35 (.bool false) (.slice p2 l2 k2) rfl
 obtain ⟨⟨cR0,cR1,cR2,cR3⟩,fR0,fR1,fR2,fR3⟩:=hS2.out.f4 0 (w.heap.size+1+1) 37 (.bool false) (.slice none 0 0) (.bool false) (.slice none 0 0) rfl
 by_cases hg1:g=1
 ·have hl1:gs.length=1:=by
   have h1:gs.length≤1:=cZ HGS.out.2.1 (by rw [HGS.out.2.2,hg1];decide)
   have h0:gs.length≠0:=fun e=>by have:=(sK HGS.out.1 HGS.out.2.1).1 e;rw [HGS.out.2.2] at this;omega
   omega
  obtain ⟨d1,rfl⟩:∃ d,gs=[d]:=by
   match gs,hl1 with
   | [d],_=>exact ⟨d,rfl⟩
  have hd1:d1=1:=by
   have:=HGS.out.2.2
   simp only [val] at this
   omega
  subst hd1
  obtain rfl:l5=1:=by simpa using hgn.symm
  obtain ⟨b5,o5,rfl,c5⟩:∃ b o,p5=some ⟨b,o,none⟩∧w5.cell? ⟨b,o,none⟩=some (.int .i64 1):=by
   rcases (hS2.out.get (f:=.l 0 (.slice p5 1 k5) [1]) 0 rfl) with ⟨h,-⟩ | ⟨b,o,k',h,-,-,-,h4⟩
   ·injection h with h1 h2 h3;omega
   ·injection h with h1 h2 h3
    exact ⟨b,o,h1,by have:=h4 0 (by simp);simpa using this⟩
  have HG1:=hid hg1
  clear hg1 hl1 hgn
  have nb5l:b5<w5.heap.size:=by
   have:=World.block_lt_of_cell? w5 ⟨b5,o5,none⟩ c5
   simpa using this
  have nb5:¬ w5.heap.size=b5:=by
   have:=World.block_lt_of_cell? w5 ⟨b5,o5,none⟩ c5
   simp only at this
   omega
  have nb5':¬ b5=w5.heap.size:=fun h=>nb5 h.symm
  have hS3:=hid (((((((hS2.out).store (b:=⟨w.heap.size+1+1,37,[.bool false,.slice none 0 0,.bool false,.slice none 0 0]⟩) 0 0 (.bool t1) rfl rfl).store (b:=⟨w.heap.size+1+1,37,[.bool t1,.slice none 0 0,.bool false,.slice none 0 0]⟩) 0 1 (.slice p1 l1 k1) rfl rfl).store (b:=⟨w.heap.size+1+1,37,[.bool t1,.slice p1 l1 k1,.bool false,.slice none 0 0]⟩) 0 2 (.bool false) rfl rfl).store (b:=⟨w.heap.size+1+1,37,[.bool t1,.slice p1 l1 k1,.bool false,.slice none 0 0]⟩) 0 3 (.slice p2 l2 k2) rfl rfl).alloc' (w5.heap.size) (by simp) 35 [.bool t5,.slice (some ⟨b5,o5,none⟩) 1 k5]).as [⟨w5.heap.size,35,[.bool t5,.slice (some ⟨b5,o5,none⟩) 1 k5]⟩,⟨w.heap.size+1+1,37,[.bool t1,.slice p1 l1 k1,.bool false,.slice p2 l2 k2]⟩,⟨w.heap.size+1,35,[.bool false,.slice p2 l2 k2]⟩,⟨w.heap.size,35,[.bool t1,.slice p1 l1 k1]⟩] rfl)
  go_wp2_with fail
  clear cA0 cA1 fA0 fA1 cB0 cB1 fB0 fB1 cR0 cR1 cR2 cR3 fR0 fR1 fR2 fR3
  obtain ⟨⟨zR0,zR1,zR2,zR3⟩,-⟩:=hS3.out.f4 1 (w.heap.size+1+1) 37 (.bool t1) (.slice p1 l1 k1) (.bool false) (.slice p2 l2 k2) rfl
  refine bodyPost_ret (v:=.agg #[.bool t1,.slice p1 l1 k1,.bool false,.slice p2 l2 k2]) (by simp [results,Tryz.results92,go_sem,zR0,zR1,zR2,zR3]) rfl ⟨_,rfl,⟨_,_,_,_,_,_,_,rfl,IsZ.to (z:=z) (HA.out.below hS3.out.bel) ?_,IsZ.to (z:=(m:Int)) (HB.out.below hS3.out.bel) ?_⟩,hS3.out.bel⟩
  ·have h1:=HP.out
   rw [HG1.out,Nat.div_one,Nat.div_one] at h1
   obtain ⟨h1,h2,-⟩:=h1
   rw [decide_eq_decide] at h2
   omega
  ·have h1:=HP.out.2.2
   rw [HG1.out,Nat.div_one] at h1
   rw [h1]
 ·have hne:¬ (l5=1)∨(∃ b o d,p5=some ⟨b,o,none⟩∧l5=1∧d≠1∧w5.cell? ⟨b,o,none⟩=some (.int .i64 (d:Int))):=by
   by_cases hl1:l5=1
   ·right
    rcases (hS2.out.get (f:=.l 0 (.slice p5 l5 k5) gs) 0 rfl) with ⟨h,-⟩ | ⟨b,o,k',h,-,-,-,h4⟩
    ·injection h with h1 h2 h3;omega
    ·injection h with h1 h2 h3
     obtain ⟨d1,rfl⟩:∃ d,gs=[d]:=by
      match gs,(hgn.trans hl1) with
      | [d],_=>exact ⟨d,rfl⟩
     refine ⟨b,o,(d1:Int),h1,hl1,?_,by have:=h4 0 (by simp);simpa using this⟩
     have:=HGS.out.2.2
     simp only [val] at this
     omega
   ·exact .inl hl1
  have HG1:=hid hg1
  clear hg1
  have hgl':gs.length≤34359738368:=Nat.le_trans (cZ HGS.out.2.1 (by rw [HGS.out.2.2,← HG.out];exact Nat.lt_of_le_of_lt (Nat.gcd_le_right _ (by have:=hm'.out;omega)) hkb.out)) hN
  rcases hne with hne | ⟨b5,o5,d5,rfl,rfl,hd5,c5⟩
  ·have tg1:((l5:Int) == 1)=false:=by rw [beq_eq_false_iff_ne];omega
   go_wp2_with fail
   clear cA0 cA1 fA0 fA1 cB0 cB1 fB0 fB1 cR0 cR1 cR2 cR3 fR0 fR1 fR2 fR3
   have hU:=hid ((hS2.out).alloc' (w5.heap.size) (by simp) 35 [.bool t5,.slice p5 l5 k5])
   obtain ⟨xs,hxt,hxl,dx,tx,hxv⟩:=(IsZ.parts (HA.out.below hU.out.bel))
   obtain ⟨ys,-,hyl,dy,ty,hyv⟩:=(IsZ.parts (HB.out.below hU.out.bel))
   rw [Int.natAbs_natCast] at hyv
   have hlx:xs.length≤34359738368:=Nat.le_trans (cZ tx (by rw [hxv];exact hka.out)) hN
   have hly:ys.length≤34359738368:=Nat.le_trans (cZ ty (by rw [hyv];exact hkb.out)) hN
   have HX:=hid (And.intro hxl (And.intro dx (And.intro tx (And.intro hxv hxt))))
   have HY:=hid (And.intro hyl (And.intro dy (And.intro ty hyv)))
   clear hxt hxl dx tx hxv hyl dy ty hyv
   have hg0':0<val gs:=by rw [HGS.out.2.2];omega
   have hV:=hid ((hU.out.fact (.l 0 (.slice p1 l1 k1) xs) HX.out.1).fact (.l 0 (.slice p2 l2 k2) ys) HY.out.1)
   clear hU
   refine (jr _ _ xs gs _ (hV.out.get (f:=.l 0 (.slice p1 l1 k1) xs) 1 rfl) (hV.out.get (f:=.l 0 (.slice p5 l5 k5) gs) 2 rfl) HX.out.2.1 HGS.out.1 HGS.out.2.1 hg0' hlx hgl').mono ?_
   rintro e w6 ⟨qx,qs,rx,rs,rfl,hq1,hq2,hq3,hq4,hr1,-,-,-,hB⟩
   have hS3:=hid (hV.out.call hB)
   clear hB
   clear hV
   obtain ⟨pq,lq,kq,rfl⟩:=hq1.mk
   obtain ⟨pr,lr,kr,rfl⟩:=hr1.mk
   clear hr1
   have HQ:=hid (And.intro hq2 (And.intro hq3 hq4))
   clear hq2 hq3 hq4
   replace hq1:=hq1.mono (Nat.zero_le _)
   have hS4:=hid (hS3.out.fact (.l 0 (.slice pq lq kq) qs) hq1)
   clear hS3 hq1
   obtain ⟨⟨cB0,cB1⟩,fB0,fB1⟩:=hS4.out.f2 2 (w.heap.size+1) 35 (.bool false) (.slice p2 l2 k2) rfl
   obtain ⟨⟨cG0,cG1⟩,fG0,fG1⟩:=hS4.out.f2 0 w5.heap.size 35 (.bool t5) (.slice p5 l5 k5) rfl
   go_wp2_with fail
   clear cB0 cB1 fB0 fB1 cG0 cG1 fG0 fG1
   refine (jr _ _ ys gs _ (hS4.out.get (f:=.l 0 (.slice p2 l2 k2) ys) 1 rfl) (hS4.out.get (f:=.l 0 (.slice p5 l5 k5) gs) 3 rfl) HY.out.2.1 HGS.out.1 HGS.out.2.1 hg0' hly hgl').mono ?_
   rintro e w7 ⟨qy,qt,ry,rt,rfl,hq1,hq2,hq3,hq4,hr1,-,-,-,hB⟩
   have hS5:=hid (hS4.out.call hB)
   clear hB
   clear hS4
   obtain ⟨py,ly,ky,rfl⟩:=hq1.mk
   obtain ⟨pz,lz,kz,rfl⟩:=hr1.mk
   clear hr1
   have HQ2:=hid (And.intro hq2 (And.intro hq3 hq4))
   clear hq2 hq3 hq4
   replace hq1:=hq1.mono (Nat.zero_le _)
   have hS6:=hid (hS5.out.fact (.l 0 (.slice py ly ky) qt) hq1)
   clear hS5 hq1
   obtain ⟨⟨cA0,cA1⟩,fA0,fA1⟩:=hS6.out.f2 3 w.heap.size 35 (.bool t1) (.slice p1 l1 k1) rfl
   go_wp2_with fail
   clear cA0 cA1 fA0 fA1
   refine (jV t1 _ qs _ (hS6.out.get (f:=.l 0 (.slice pq lq kq) qs) 1 rfl) HQ.out.1 HQ.out.2.1).mono ?_
   rintro e w8 ⟨v8,rfl,hz8,hB⟩
   have hS7:=hid (hS6.out.call hB)
   clear hB
   clear hS6
   obtain ⟨t8,p8,l8,k8,rfl⟩:=hz8.open
   have hS8:=hid (hS7.out.fact (.z (.agg #[.bool t8,.slice p8 l8 k8]) (if t1 then -((val qs:Nat):Int) else (val qs:Nat))) hz8)
   clear hS7 hz8
   go_wp2_with fail
   refine (jV false _ qt _ (hS8.out.get (f:=.l 0 (.slice py ly ky) qt) 1 rfl) HQ2.out.1 HQ2.out.2.1).mono ?_
   rintro e w9 ⟨v9,rfl,hz9,hB⟩
   have hS9:=hid (hS8.out.call hB)
   clear hB
   clear hS8
   simp only [Bool.false_eq_true,if_false] at hz9
   obtain ⟨t9,p9,l9,k9,rfl⟩:=hz9.open
   obtain rfl:t9=false:=by
    obtain ⟨_,e,-⟩:=hz9.parts
    rw [e]
    exact decide_eq_false (by omega)
   have hS10:=hid (hS9.out.fact (.z (.agg #[.bool false,.slice p9 l9 k9]) ((val qt:Nat):Int)) hz9)
   clear hS9 hz9
   obtain ⟨⟨cR0,cR1,cR2,cR3⟩,fR0,fR1,fR2,fR3⟩:=hS10.out.f4 1 (w.heap.size+1+1) 37 (.bool false) (.slice none 0 0) (.bool false) (.slice none 0 0) rfl
   have hS11:=hid ((((((hS10.out).store (b:=⟨w.heap.size+1+1,37,[.bool false,.slice none 0 0,.bool false,.slice none 0 0]⟩) 1 0 (.bool t8) rfl rfl).store (b:=⟨w.heap.size+1+1,37,[.bool t8,.slice none 0 0,.bool false,.slice none 0 0]⟩) 1 1 (.slice p8 l8 k8) rfl rfl).store (b:=⟨w.heap.size+1+1,37,[.bool t8,.slice p8 l8 k8,.bool false,.slice none 0 0]⟩) 1 2 (.bool false) rfl rfl).store (b:=⟨w.heap.size+1+1,37,[.bool t8,.slice p8 l8 k8,.bool false,.slice none 0 0]⟩) 1 3 (.slice p9 l9 k9) rfl rfl).as [⟨w5.heap.size,35,[.bool t5,.slice p5 l5 k5]⟩,⟨w.heap.size+1+1,37,[.bool t8,.slice p8 l8 k8,.bool false,.slice p9 l9 k9]⟩,⟨w.heap.size+1,35,[.bool false,.slice p2 l2 k2]⟩,⟨w.heap.size,35,[.bool t1,.slice p1 l1 k1]⟩] rfl)
   go_wp2_with fail
   clear cR0 cR1 cR2 cR3 fR0 fR1 fR2 fR3
   obtain ⟨⟨zR0,zR1,zR2,zR3⟩,-⟩:=hS11.out.f4 1 (w.heap.size+1+1) 37 (.bool t8) (.slice p8 l8 k8) (.bool false) (.slice p9 l9 k9) rfl
   refine bodyPost_ret (v:=.agg #[.bool t8,.slice p8 l8 k8,.bool false,.slice p9 l9 k9]) (by simp [results,Tryz.results92,go_sem,zR0,zR1,zR2,zR3]) rfl ⟨_,rfl,⟨_,_,_,_,_,_,_,rfl,IsZ.to (hS11.out.get (f:=.z (.agg #[.bool t8,.slice p8 l8 k8]) (if t1 then -((val qs:Nat):Int) else (val qs:Nat))) 1 rfl) ?_,IsZ.to (hS11.out.get (f:=.z (.agg #[.bool false,.slice p9 l9 k9]) ((val qt:Nat):Int)) 0 rfl) ?_⟩,hS11.out.bel⟩
   ·have h1:=HP.out
    have h2:=HX.out.2.2.2
    have h3:=HQ.out.2.2
    rw [h2.1,HGS.out.2.2] at h3
    rw [h3,← h1.1,h2.2]
    have h4:=h1.2.1
    rw [decide_eq_decide] at h4
    by_cases hz0:z<0
    ·rw [decide_eq_true hz0,if_pos rfl];have:=h4.2 hz0;omega
    ·rw [decide_eq_false hz0];simp only [Bool.false_eq_true,if_false];have:=fun h=>hz0 (h4.1 h);omega
   ·rw [HP.out.2.2,HQ2.out.2.2,HY.out.2.2.2,HGS.out.2.2]
  ·have tg1:((d5:Int) == 1)=false:=by rw [beq_eq_false_iff_ne];omega
   have nb5l:b5<w5.heap.size:=by
    have:=World.block_lt_of_cell? w5 ⟨b5,o5,none⟩ c5
    simpa using this
   have nb5:¬ w5.heap.size=b5:=by
    have:=World.block_lt_of_cell? w5 ⟨b5,o5,none⟩ c5
    simp only at this
    omega
   have nb5':¬ b5=w5.heap.size:=fun h=>nb5 h.symm
   go_wp2_with fail
   clear cA0 cA1 fA0 fA1 cB0 cB1 fB0 fB1 cR0 cR1 cR2 cR3 fR0 fR1 fR2 fR3
   have hU:=hid ((hS2.out).alloc' (w5.heap.size) (by simp) 35 [.bool t5,.slice (some ⟨b5,o5,none⟩) 1 k5])
   obtain ⟨xs,hxt,hxl,dx,tx,hxv⟩:=(IsZ.parts (HA.out.below hU.out.bel))
   obtain ⟨ys,-,hyl,dy,ty,hyv⟩:=(IsZ.parts (HB.out.below hU.out.bel))
   rw [Int.natAbs_natCast] at hyv
   have hlx:xs.length≤34359738368:=Nat.le_trans (cZ tx (by rw [hxv];exact hka.out)) hN
   have hly:ys.length≤34359738368:=Nat.le_trans (cZ ty (by rw [hyv];exact hkb.out)) hN
   have HX:=hid (And.intro hxl (And.intro dx (And.intro tx (And.intro hxv hxt))))
   have HY:=hid (And.intro hyl (And.intro dy (And.intro ty hyv)))
   clear hxt hxl dx tx hxv hyl dy ty hyv
   have hg0':0<val gs:=by rw [HGS.out.2.2];omega
   have hV:=hid ((hU.out.fact (.l 0 (.slice p1 l1 k1) xs) HX.out.1).fact (.l 0 (.slice p2 l2 k2) ys) HY.out.1)
   clear hU
   refine (jr _ _ xs gs _ (hV.out.get (f:=.l 0 (.slice p1 l1 k1) xs) 1 rfl) (hV.out.get (f:=.l 0 (.slice (some ⟨b5,o5,none⟩) 1 k5) gs) 2 rfl) HX.out.2.1 HGS.out.1 HGS.out.2.1 hg0' hlx hgl').mono ?_
   rintro e w6 ⟨qx,qs,rx,rs,rfl,hq1,hq2,hq3,hq4,hr1,-,-,-,hB⟩
   have hS3:=hid (hV.out.call hB)
   clear hB
   clear hV
   obtain ⟨pq,lq,kq,rfl⟩:=hq1.mk
   obtain ⟨pr,lr,kr,rfl⟩:=hr1.mk
   clear hr1
   have HQ:=hid (And.intro hq2 (And.intro hq3 hq4))
   clear hq2 hq3 hq4
   replace hq1:=hq1.mono (Nat.zero_le _)
   have hS4:=hid (hS3.out.fact (.l 0 (.slice pq lq kq) qs) hq1)
   clear hS3 hq1
   obtain ⟨⟨cB0,cB1⟩,fB0,fB1⟩:=hS4.out.f2 2 (w.heap.size+1) 35 (.bool false) (.slice p2 l2 k2) rfl
   obtain ⟨⟨cG0,cG1⟩,fG0,fG1⟩:=hS4.out.f2 0 w5.heap.size 35 (.bool t5) (.slice (some ⟨b5,o5,none⟩) 1 k5) rfl
   go_wp2_with fail
   clear cB0 cB1 fB0 fB1 cG0 cG1 fG0 fG1
   refine (jr _ _ ys gs _ (hS4.out.get (f:=.l 0 (.slice p2 l2 k2) ys) 1 rfl) (hS4.out.get (f:=.l 0 (.slice (some ⟨b5,o5,none⟩) 1 k5) gs) 3 rfl) HY.out.2.1 HGS.out.1 HGS.out.2.1 hg0' hly hgl').mono ?_
   rintro e w7 ⟨qy,qt,ry,rt,rfl,hq1,hq2,hq3,hq4,hr1,-,-,-,hB⟩
   have hS5:=hid (hS4.out.call hB)
   clear hB
   clear hS4
   obtain ⟨py,ly,ky,rfl⟩:=hq1.mk
   obtain ⟨pz,lz,kz,rfl⟩:=hr1.mk
   clear hr1
   have HQ2:=hid (And.intro hq2 (And.intro hq3 hq4))
   clear hq2 hq3 hq4
   replace hq1:=hq1.mono (Nat.zero_le _)
   have hS6:=hid (hS5.out.fact (.l 0 (.slice py ly ky) qt) hq1)
   clear hS5 hq1
   obtain ⟨⟨cA0,cA1⟩,fA0,fA1⟩:=hS6.out.f2 3 w.heap.size 35 (.bool t1) (.slice p1 l1 k1) rfl
   go_wp2_with fail
   clear cA0 cA1 fA0 fA1
   refine (jV t1 _ qs _ (hS6.out.get (f:=.l 0 (.slice pq lq kq) qs) 1 rfl) HQ.out.1 HQ.out.2.1).mono ?_
   rintro e w8 ⟨v8,rfl,hz8,hB⟩
   have hS7:=hid (hS6.out.call hB)
   clear hB
   clear hS6
   obtain ⟨t8,p8,l8,k8,rfl⟩:=hz8.open
   have hS8:=hid (hS7.out.fact (.z (.agg #[.bool t8,.slice p8 l8 k8]) (if t1 then -((val qs:Nat):Int) else (val qs:Nat))) hz8)
   clear hS7 hz8
   go_wp2_with fail
   refine (jV false _ qt _ (hS8.out.get (f:=.l 0 (.slice py ly ky) qt) 1 rfl) HQ2.out.1 HQ2.out.2.1).mono ?_
   rintro e w9 ⟨v9,rfl,hz9,hB⟩
   have hS9:=hid (hS8.out.call hB)
   clear hB
   clear hS8
   simp only [Bool.false_eq_true,if_false] at hz9
   obtain ⟨t9,p9,l9,k9,rfl⟩:=hz9.open
   obtain rfl:t9=false:=by
    obtain ⟨_,e,-⟩:=hz9.parts
    rw [e]
    exact decide_eq_false (by omega)
   have hS10:=hid (hS9.out.fact (.z (.agg #[.bool false,.slice p9 l9 k9]) ((val qt:Nat):Int)) hz9)
   clear hS9 hz9
   obtain ⟨⟨cR0,cR1,cR2,cR3⟩,fR0,fR1,fR2,fR3⟩:=hS10.out.f4 1 (w.heap.size+1+1) 37 (.bool false) (.slice none 0 0) (.bool false) (.slice none 0 0) rfl
   have hS11:=hid ((((((hS10.out).store (b:=⟨w.heap.size+1+1,37,[.bool false,.slice none 0 0,.bool false,.slice none 0 0]⟩) 1 0 (.bool t8) rfl rfl).store (b:=⟨w.heap.size+1+1,37,[.bool t8,.slice none 0 0,.bool false,.slice none 0 0]⟩) 1 1 (.slice p8 l8 k8) rfl rfl).store (b:=⟨w.heap.size+1+1,37,[.bool t8,.slice p8 l8 k8,.bool false,.slice none 0 0]⟩) 1 2 (.bool false) rfl rfl).store (b:=⟨w.heap.size+1+1,37,[.bool t8,.slice p8 l8 k8,.bool false,.slice none 0 0]⟩) 1 3 (.slice p9 l9 k9) rfl rfl).as [⟨w5.heap.size,35,[.bool t5,.slice (some ⟨b5,o5,none⟩) 1 k5]⟩,⟨w.heap.size+1+1,37,[.bool t8,.slice p8 l8 k8,.bool false,.slice p9 l9 k9]⟩,⟨w.heap.size+1,35,[.bool false,.slice p2 l2 k2]⟩,⟨w.heap.size,35,[.bool t1,.slice p1 l1 k1]⟩] rfl)
   go_wp2_with fail
   clear cR0 cR1 cR2 cR3 fR0 fR1 fR2 fR3
   obtain ⟨⟨zR0,zR1,zR2,zR3⟩,-⟩:=hS11.out.f4 1 (w.heap.size+1+1) 37 (.bool t8) (.slice p8 l8 k8) (.bool false) (.slice p9 l9 k9) rfl
   refine bodyPost_ret (v:=.agg #[.bool t8,.slice p8 l8 k8,.bool false,.slice p9 l9 k9]) (by simp [results,Tryz.results92,go_sem,zR0,zR1,zR2,zR3]) rfl ⟨_,rfl,⟨_,_,_,_,_,_,_,rfl,IsZ.to (hS11.out.get (f:=.z (.agg #[.bool t8,.slice p8 l8 k8]) (if t1 then -((val qs:Nat):Int) else (val qs:Nat))) 1 rfl) ?_,IsZ.to (hS11.out.get (f:=.z (.agg #[.bool false,.slice p9 l9 k9]) ((val qt:Nat):Int)) 0 rfl) ?_⟩,hS11.out.bel⟩
   ·have h1:=HP.out
    have h2:=HX.out.2.2.2
    have h3:=HQ.out.2.2
    rw [h2.1,HGS.out.2.2] at h3
    rw [h3,← h1.1,h2.2]
    have h4:=h1.2.1
    rw [decide_eq_decide] at h4
    by_cases hz0:z<0
    ·rw [decide_eq_true hz0,if_pos rfl];have:=h4.2 hz0;omega
    ·rw [decide_eq_false hz0];simp only [Bool.false_eq_true,if_false];have:=fun h=>hz0 (h4.1 h);omega
   ·rw [HP.out.2.2,HQ2.out.2.2,HY.out.2.2.2,HGS.out.2.2]
theorem Va (z:Int) (m:Nat) (hm:m≠0) (v1 v2:Value) (w:World) (h1:IsZ w v1 z) (h2:IsZ w v2 (-(m:Int))) (N:Nat) (hN:N≤34359738368) (ka:z.natAbs<B4 ^ N) (kb:m<B4 ^ N):Calls Tryz.prog 92 #[v1,v2] w (nS w (mkRat (-z) m)):=by
 obtain ⟨t1,p1,l1,k1,rfl⟩:=h1.open
 obtain ⟨t2,p2,l2,k2,rfl⟩:=h2.open
 obtain rfl:t2=true:=by
  obtain ⟨_,e,-⟩:=h2.parts
  rw [e]
  exact decide_eq_true (by omega)
 obtain ⟨g,hg⟩:∃ g,Nat.gcd (-z).natAbs m=g:=⟨_,rfl⟩
 have HP:=hid (rW (-z) m g hm hg)
 have hg0:g≠0:=fun e=>by rw [e] at hg;exact hm (Nat.gcd_eq_zero_iff.1 hg).2
 have HG:=hid hg
 have HA:=hid h1
 have HB:=hid h2
 have hka:Hid ((-z).natAbs<B4 ^ N):=by show _<_;rw [show (-z).natAbs=z.natAbs by omega];exact ka
 have hkb:=hid kb
 have hm':=hid hm
 obtain ⟨R,hR⟩:∃ R,mkRat (-z) m=R:=⟨_,rfl⟩
 rw [hR] at HP ⊢
 clear h1 h2 hg ka kb hm hR
 go_enter Tryz.func92,Tryz.ntmps92
 go_wp2_with fail
 have hS0:=hid ((((St.start w).alloc' (w.heap.size) (by simp) 35 [.bool t1,.slice p1 l1 k1]).alloc' (w.heap.size+1) (by simp) 35 [.bool true,.slice p2 l2 k2]).alloc' (w.heap.size+1+1) (by simp) 37 [.bool false,.slice none 0 0,.bool false,.slice none 0 0])
 obtain ⟨W0,hW0⟩:=aN hS0
 rw [hW0] at hS0 ⊢
 clear hW0
 have LM0:=hid (fun (W:World) (h:Below W0.heap.size W0 W)=>((hS0.out.call h).f2 2 w.heap.size 35 (.bool t1) (.slice p1 l1 k1) rfl).1)
 have LM1:=hid (fun (W:World) (h:Below W0.heap.size W0 W)=>((hS0.out.call h).f2 1 (w.heap.size+1) 35 (.bool true) (.slice p2 l2 k2) rfl).1)
 refine gU 4 [⟨[],[0]⟩,⟨[0],[1]⟩,⟨[],[2]⟩,⟨[2],[3]⟩]
  [oE (.agg #[.bool t1,.slice p1 l1 k1]),one fun v W=>IsZ W v (-z),oE (.agg #[.bool true,.slice p2 l2 k2]),one fun v W=>IsZ W v ((m:Int))]
  (fun _ W=>Below W0.heap.size W0 W) (by kernel_rfl) (by kernel_rfl) ?hTW1 ?hZW1 ?hOW1 ?hEW1
 case hZW1=>exact (Below.refl _ _).drew
 case hTW1 =>
  simp only [List.forall_mem_cons,List.not_mem_nil,false_imp_iff,implies_true,and_true]
  exact ⟨bE,aK oV,bE,aK oV⟩
 case hOW1 =>
  intro u
  simp only [List.take_succ_cons,List.take_zero,aG]
  repeat' (first | with_reducible exact dQ | with_reducible refine dP ?_ ?_)
  ·intro W hS hF K hK
   have hcA:=LM0.out W hS
   go_simp
   exact hK _ _ (.refl _ _) hS rfl
  ·intro W hS hF K hK
   have h0:u 0=.agg #[.bool t1,.slice p1 l1 k1]:=hF.1
   have sH:=hid (hS0.out.call hS)
   clear hF
   go_simp
   refine (Ky _ _ _ (HA.out.below sH.out.bel)).mono ?_
   rintro e wA ⟨v,rfl,hv,hBA⟩
   exact ⟨_,rfl,hK _ _ hBA (hS.trans (hBA.mono hS.size)) hv⟩
  ·intro W hS hF K hK
   have hcB:=LM1.out W hS
   go_simp
   exact hK _ _ (.refl _ _) hS rfl
  ·intro W hS hF K hK
   have h2:u 2=.agg #[.bool true,.slice p2 l2 k2]:=hF.1
   have sH:=hid (hS0.out.call hS)
   clear hF
   go_simp
   refine (Ky _ _ _ (HB.out.below sH.out.bel)).mono ?_
   rintro e wA ⟨v,rfl,hv,hBA⟩
   exact ⟨_,rfl,hK _ _ hBA (hS.trans (hBA.mono hS.size)) (by rw [Int.neg_neg] at hv;exact hv)⟩
 case hEW1 =>
  intro u W1 hS hF
  have hS1:=hid (hS0.out.call hS)
  have hz1:IsZ W1 (u 1) (-z):=hF.2.1
  have hz3:IsZ W1 (u 3) (m:Int):=hF.2.2.2.1
  clear hF hS
  obtain ⟨t3,p3,l3,k3,e3⟩:=hz1.open
  obtain ⟨t4,p4,l4,k4,e4⟩:=hz3.open
  obtain rfl:t4=false:=by
   obtain ⟨_,e,-⟩:=(e4 ▸ hz3:IsZ W1 (.agg #[.bool t4,.slice p4 l4 k4]) (m:Int)).parts
   rw [e]
   exact decide_eq_false (by omega)
  have hz1':IsZ W1 (.agg #[.bool t3,.slice p3 l3 k3]) (-z):=e3 ▸ hz1
  have hz3':IsZ W1 (.agg #[.bool false,.slice p4 l4 k4]) (m:Int):=e4 ▸ hz3
  clear hz1 hz3
  have hS2:=hid (hS1.out.fact (.z (.agg #[.bool t3,.slice p3 l3 k3]) (-z)) hz1')
  clear hS1 hz1'
  have hS3:=hid (hS2.out.fact (.z (.agg #[.bool false,.slice p4 l4 k4]) (m:Int)) hz3')
  clear hS2 hz3'
  obtain ⟨⟨cA0,cA1⟩,fA0,fA1⟩:=hS3.out.f2 2 w.heap.size 35 (.bool t1) (.slice p1 l1 k1) rfl
  obtain ⟨⟨cB0,cB1⟩,fB0,fB1⟩:=hS3.out.f2 1 (w.heap.size+1) 35 (.bool true) (.slice p2 l2 k2) rfl
  simp only [List.take_succ_cons,List.take_zero,aG,List.drop_succ_cons,List.drop_zero]
  go_wp2_with fail
  clear cA0 cA1 fA0 fA1 cB0 cB1 fB0 fB1
  have hT:=hid ((((((hS3.out).store (b:=⟨w.heap.size,35,[.bool t1,.slice p1 l1 k1]⟩) 2 0 (.bool t3) rfl rfl).store (b:=⟨w.heap.size,35,[.bool t3,.slice p1 l1 k1]⟩) 2 1 (.slice p3 l3 k3) rfl rfl).store (b:=⟨w.heap.size+1,35,[.bool true,.slice p2 l2 k2]⟩) 1 0 (.bool false) rfl rfl).store (b:=⟨w.heap.size+1,35,[.bool false,.slice p2 l2 k2]⟩) 1 1 (.slice p4 l4 k4) rfl rfl).as [⟨w.heap.size+1+1,37,[.bool false,.slice none 0 0,.bool false,.slice none 0 0]⟩,⟨w.heap.size+1,35,[.bool false,.slice p4 l4 k4]⟩,⟨w.heap.size,35,[.bool t3,.slice p3 l3 k3]⟩] rfl)
  refine (Kv _ _ _ _ _ (hT.out.get (f:=.z (.agg #[.bool t3,.slice p3 l3 k3]) (-z)) 1 rfl) (hT.out.get (f:=.z (.agg #[.bool false,.slice p4 l4 k4]) (m:Int)) 0 rfl) N hN hka.out (by rw [Int.natAbs_natCast];exact hkb.out)).mono ?_
  rintro e w5 ⟨v5,rfl,hz5,hB⟩
  have hS4:=hid (hT.out.call hB)
  clear hB
  clear hT
  rw [Int.natAbs_natCast,HG.out] at hz5
  obtain ⟨t5,p5,l5,k5,rfl⟩:=hz5.open
  obtain ⟨gs,-,hgl,dg,tg,hgv⟩:=hz5.parts
  rw [Int.natAbs_natCast] at hgv
  have HGS:=hid (And.intro dg (And.intro tg hgv))
  have hgn:=hgl.len
  clear hz5 dg tg hgv
  have hS5:=hid (hS4.out.fact (.l 0 (.slice p5 l5 k5) gs) hgl)
  clear hS4 hgl
  obtain ⟨ne1l,ne1,ne1'⟩:=hS5.out.ne 2 w.heap.size 35 [.bool t3,.slice p3 l3 k3] rfl
  obtain ⟨ne2l,ne2,ne2'⟩:=hS5.out.ne 1 (w.heap.size+1) 35 [.bool false,.slice p4 l4 k4] rfl
  obtain ⟨ne3l,ne3,ne3'⟩:=hS5.out.ne 0 (w.heap.size+1+1) 37 [.bool false,.slice none 0 0,.bool false,.slice none 0 0] rfl
  obtain ⟨⟨cA0,cA1⟩,fA0,fA1⟩:=hS5.out.f2 2 w.heap.size 35 (.bool t3) (.slice p3 l3 k3) rfl
  obtain ⟨⟨cB0,cB1⟩,fB0,fB1⟩:=hS5.out.f2 1 (w.heap.size+1) 35 (.bool false) (.slice p4 l4 k4) rfl
  obtain ⟨⟨cR0,cR1,cR2,cR3⟩,fR0,fR1,fR2,fR3⟩:=hS5.out.f4 0 (w.heap.size+1+1) 37 (.bool false) (.slice none 0 0) (.bool false) (.slice none 0 0) rfl
  by_cases hg1:g=1
  ·have hl1:gs.length=1:=by
    have h1:gs.length≤1:=cZ HGS.out.2.1 (by rw [HGS.out.2.2,hg1];decide)
    have h0:gs.length≠0:=fun e=>by have:=(sK HGS.out.1 HGS.out.2.1).1 e;rw [HGS.out.2.2] at this;omega
    omega
   obtain ⟨d1,rfl⟩:∃ d,gs=[d]:=by
    match gs,hl1 with
    | [d],_=>exact ⟨d,rfl⟩
   have hd1:d1=1:=by
    have:=HGS.out.2.2
    simp only [val] at this
    omega
   subst hd1
   obtain rfl:l5=1:=by simpa using hgn.symm
   obtain ⟨b5,o5,rfl,c5⟩:∃ b o,p5=some ⟨b,o,none⟩∧w5.cell? ⟨b,o,none⟩=some (.int .i64 1):=by
    rcases (hS5.out.get (f:=.l 0 (.slice p5 1 k5) [1]) 0 rfl) with ⟨h,-⟩ | ⟨b,o,k',h,-,-,-,h4⟩
    ·injection h with h1 h2 h3;omega
    ·injection h with h1 h2 h3
     exact ⟨b,o,h1,by have:=h4 0 (by simp);simpa using this⟩
   have HG1:=hid hg1
   clear hg1 hl1 hgn
   have nb5l:b5<w5.heap.size:=by
    have:=World.block_lt_of_cell? w5 ⟨b5,o5,none⟩ c5
    simpa using this
   have nb5:¬ w5.heap.size=b5:=by
    have:=World.block_lt_of_cell? w5 ⟨b5,o5,none⟩ c5
    simp only at this
    omega
   have nb5':¬ b5=w5.heap.size:=fun h=>nb5 h.symm
   have hS6:=hid (((((((hS5.out).store (b:=⟨w.heap.size+1+1,37,[.bool false,.slice none 0 0,.bool false,.slice none 0 0]⟩) 0 0 (.bool t3) rfl rfl).store (b:=⟨w.heap.size+1+1,37,[.bool t3,.slice none 0 0,.bool false,.slice none 0 0]⟩) 0 1 (.slice p3 l3 k3) rfl rfl).store (b:=⟨w.heap.size+1+1,37,[.bool t3,.slice p3 l3 k3,.bool false,.slice none 0 0]⟩) 0 2 (.bool false) rfl rfl).store (b:=⟨w.heap.size+1+1,37,[.bool t3,.slice p3 l3 k3,.bool false,.slice none 0 0]⟩) 0 3 (.slice p4 l4 k4) rfl rfl).alloc' (w5.heap.size) (by simp) 35 [.bool t5,.slice (some ⟨b5,o5,none⟩) 1 k5]).as [⟨w5.heap.size,35,[.bool t5,.slice (some ⟨b5,o5,none⟩) 1 k5]⟩,⟨w.heap.size+1+1,37,[.bool t3,.slice p3 l3 k3,.bool false,.slice p4 l4 k4]⟩,⟨w.heap.size+1,35,[.bool false,.slice p4 l4 k4]⟩,⟨w.heap.size,35,[.bool t3,.slice p3 l3 k3]⟩] rfl)
   go_wp2_with fail
   clear cA0 cA1 fA0 fA1 cB0 cB1 fB0 fB1 cR0 cR1 cR2 cR3 fR0 fR1 fR2 fR3
   obtain ⟨⟨zR0,zR1,zR2,zR3⟩,-⟩:=hS6.out.f4 1 (w.heap.size+1+1) 37 (.bool t3) (.slice p3 l3 k3) (.bool false) (.slice p4 l4 k4) rfl
   refine bodyPost_ret (v:=.agg #[.bool t3,.slice p3 l3 k3,.bool false,.slice p4 l4 k4]) (by simp [results,Tryz.results92,go_sem,zR0,zR1,zR2,zR3]) rfl ⟨_,rfl,⟨_,_,_,_,_,_,_,rfl,IsZ.to (z:=-z) (hS6.out.get (f:=.z (.agg #[.bool t3,.slice p3 l3 k3]) (-z)) 2 rfl) ?_,IsZ.to (z:=(m:Int)) (hS6.out.get (f:=.z (.agg #[.bool false,.slice p4 l4 k4]) (m:Int)) 1 rfl) ?_⟩,hS6.out.bel⟩
   ·have h1:=HP.out
    rw [HG1.out,Nat.div_one,Nat.div_one] at h1
    obtain ⟨h1,h2,-⟩:=h1
    rw [decide_eq_decide] at h2
    omega
   ·have h1:=HP.out.2.2
    rw [HG1.out,Nat.div_one] at h1
    rw [h1]
  ·have hne:¬ (l5=1)∨(∃ b o d,p5=some ⟨b,o,none⟩∧l5=1∧d≠1∧w5.cell? ⟨b,o,none⟩=some (.int .i64 (d:Int))):=by
    by_cases hl1:l5=1
    ·right
     rcases (hS5.out.get (f:=.l 0 (.slice p5 l5 k5) gs) 0 rfl) with ⟨h,-⟩ | ⟨b,o,k',h,-,-,-,h4⟩
     ·injection h with h1 h2 h3;omega
     ·injection h with h1 h2 h3
      obtain ⟨d1,rfl⟩:∃ d,gs=[d]:=by
       match gs,(hgn.trans hl1) with
       | [d],_=>exact ⟨d,rfl⟩
      refine ⟨b,o,(d1:Int),h1,hl1,?_,by have:=h4 0 (by simp);simpa using this⟩
      have:=HGS.out.2.2
      simp only [val] at this
      omega
    ·exact .inl hl1
   have HG1:=hid hg1
   clear hg1
   have hgl':gs.length≤34359738368:=Nat.le_trans (cZ HGS.out.2.1 (by rw [HGS.out.2.2,← HG.out];exact Nat.lt_of_le_of_lt (Nat.gcd_le_right _ (by have:=hm'.out;omega)) hkb.out)) hN
   rcases hne with hne | ⟨b5,o5,d5,rfl,rfl,hd5,c5⟩
   ·have tg1:((l5:Int) == 1)=false:=by rw [beq_eq_false_iff_ne];omega
    go_wp2_with fail
    clear cA0 cA1 fA0 fA1 cB0 cB1 fB0 fB1 cR0 cR1 cR2 cR3 fR0 fR1 fR2 fR3
    have hU:=hid ((hS5.out).alloc' (w5.heap.size) (by simp) 35 [.bool t5,.slice p5 l5 k5])
    obtain ⟨xs,hxt,hxl,dx,tx,hxv⟩:=(IsZ.parts (hU.out.get (f:=.z (.agg #[.bool t3,.slice p3 l3 k3]) (-z)) 2 rfl))
    obtain ⟨ys,-,hyl,dy,ty,hyv⟩:=(IsZ.parts (hU.out.get (f:=.z (.agg #[.bool false,.slice p4 l4 k4]) (m:Int)) 1 rfl))
    rw [Int.natAbs_natCast] at hyv
    have hlx:xs.length≤34359738368:=Nat.le_trans (cZ tx (by rw [hxv];exact hka.out)) hN
    have hly:ys.length≤34359738368:=Nat.le_trans (cZ ty (by rw [hyv];exact hkb.out)) hN
    have HX:=hid (And.intro hxl (And.intro dx (And.intro tx (And.intro hxv hxt))))
    have HY:=hid (And.intro hyl (And.intro dy (And.intro ty hyv)))
    clear hxt hxl dx tx hxv hyl dy ty hyv
    have hg0':0<val gs:=by rw [HGS.out.2.2];omega
    have hV:=hid ((hU.out.fact (.l 0 (.slice p3 l3 k3) xs) HX.out.1).fact (.l 0 (.slice p4 l4 k4) ys) HY.out.1)
    clear hU
    refine (jr _ _ xs gs _ (hV.out.get (f:=.l 0 (.slice p3 l3 k3) xs) 1 rfl) (hV.out.get (f:=.l 0 (.slice p5 l5 k5) gs) 2 rfl) HX.out.2.1 HGS.out.1 HGS.out.2.1 hg0' hlx hgl').mono ?_
    rintro e w6 ⟨qx,qs,rx,rs,rfl,hq1,hq2,hq3,hq4,hr1,-,-,-,hB⟩
    have hS6:=hid (hV.out.call hB)
    clear hB
    clear hV
    obtain ⟨pq,lq,kq,rfl⟩:=hq1.mk
    obtain ⟨pr,lr,kr,rfl⟩:=hr1.mk
    clear hr1
    have HQ:=hid (And.intro hq2 (And.intro hq3 hq4))
    clear hq2 hq3 hq4
    replace hq1:=hq1.mono (Nat.zero_le _)
    have hS7:=hid (hS6.out.fact (.l 0 (.slice pq lq kq) qs) hq1)
    clear hS6 hq1
    obtain ⟨⟨cB0,cB1⟩,fB0,fB1⟩:=hS7.out.f2 2 (w.heap.size+1) 35 (.bool false) (.slice p4 l4 k4) rfl
    obtain ⟨⟨cG0,cG1⟩,fG0,fG1⟩:=hS7.out.f2 0 w5.heap.size 35 (.bool t5) (.slice p5 l5 k5) rfl
    go_wp2_with fail
    clear cB0 cB1 fB0 fB1 cG0 cG1 fG0 fG1
    refine (jr _ _ ys gs _ (hS7.out.get (f:=.l 0 (.slice p4 l4 k4) ys) 1 rfl) (hS7.out.get (f:=.l 0 (.slice p5 l5 k5) gs) 3 rfl) HY.out.2.1 HGS.out.1 HGS.out.2.1 hg0' hly hgl').mono ?_
    rintro e w7 ⟨qy,qt,ry,rt,rfl,hq1,hq2,hq3,hq4,hr1,-,-,-,hB⟩
    have hS8:=hid (hS7.out.call hB)
    clear hB
    clear hS7
    obtain ⟨py,ly,ky,rfl⟩:=hq1.mk
    obtain ⟨pz,lz,kz,rfl⟩:=hr1.mk
    clear hr1
    have HQ2:=hid (And.intro hq2 (And.intro hq3 hq4))
    clear hq2 hq3 hq4
    replace hq1:=hq1.mono (Nat.zero_le _)
    have hS9:=hid (hS8.out.fact (.l 0 (.slice py ly ky) qt) hq1)
    clear hS8 hq1
    obtain ⟨⟨cA0,cA1⟩,fA0,fA1⟩:=hS9.out.f2 3 w.heap.size 35 (.bool t3) (.slice p3 l3 k3) rfl
    go_wp2_with fail
    clear cA0 cA1 fA0 fA1
    refine (jV t3 _ qs _ (hS9.out.get (f:=.l 0 (.slice pq lq kq) qs) 1 rfl) HQ.out.1 HQ.out.2.1).mono ?_
    rintro e w8 ⟨v8,rfl,hz8,hB⟩
    have hS10:=hid (hS9.out.call hB)
    clear hB
    clear hS9
    obtain ⟨t8,p8,l8,k8,rfl⟩:=hz8.open
    have hS11:=hid (hS10.out.fact (.z (.agg #[.bool t8,.slice p8 l8 k8]) (if t3 then -((val qs:Nat):Int) else (val qs:Nat))) hz8)
    clear hS10 hz8
    go_wp2_with fail
    refine (jV false _ qt _ (hS11.out.get (f:=.l 0 (.slice py ly ky) qt) 1 rfl) HQ2.out.1 HQ2.out.2.1).mono ?_
    rintro e w9 ⟨v9,rfl,hz9,hB⟩
    have hS12:=hid (hS11.out.call hB)
    clear hB
    clear hS11
    simp only [Bool.false_eq_true,if_false] at hz9
    obtain ⟨t9,p9,l9,k9,rfl⟩:=hz9.open
    obtain rfl:t9=false:=by
     obtain ⟨_,e,-⟩:=hz9.parts
     rw [e]
     exact decide_eq_false (by omega)
    have hS13:=hid (hS12.out.fact (.z (.agg #[.bool false,.slice p9 l9 k9]) ((val qt:Nat):Int)) hz9)
    clear hS12 hz9
    obtain ⟨⟨cR0,cR1,cR2,cR3⟩,fR0,fR1,fR2,fR3⟩:=hS13.out.f4 1 (w.heap.size+1+1) 37 (.bool false) (.slice none 0 0) (.bool false) (.slice none 0 0) rfl
    have hS14:=hid ((((((hS13.out).store (b:=⟨w.heap.size+1+1,37,[.bool false,.slice none 0 0,.bool false,.slice none 0 0]⟩) 1 0 (.bool t8) rfl rfl).store (b:=⟨w.heap.size+1+1,37,[.bool t8,.slice none 0 0,.bool false,.slice none 0 0]⟩) 1 1 (.slice p8 l8 k8) rfl rfl).store (b:=⟨w.heap.size+1+1,37,[.bool t8,.slice p8 l8 k8,.bool false,.slice none 0 0]⟩) 1 2 (.bool false) rfl rfl).store (b:=⟨w.heap.size+1+1,37,[.bool t8,.slice p8 l8 k8,.bool false,.slice none 0 0]⟩) 1 3 (.slice p9 l9 k9) rfl rfl).as [⟨w5.heap.size,35,[.bool t5,.slice p5 l5 k5]⟩,⟨w.heap.size+1+1,37,[.bool t8,.slice p8 l8 k8,.bool false,.slice p9 l9 k9]⟩,⟨w.heap.size+1,35,[.bool false,.slice p4 l4 k4]⟩,⟨w.heap.size,35,[.bool t3,.slice p3 l3 k3]⟩] rfl)
    go_wp2_with fail
    clear cR0 cR1 cR2 cR3 fR0 fR1 fR2 fR3
    obtain ⟨⟨zR0,zR1,zR2,zR3⟩,-⟩:=hS14.out.f4 1 (w.heap.size+1+1) 37 (.bool t8) (.slice p8 l8 k8) (.bool false) (.slice p9 l9 k9) rfl
    refine bodyPost_ret (v:=.agg #[.bool t8,.slice p8 l8 k8,.bool false,.slice p9 l9 k9]) (by simp [results,Tryz.results92,go_sem,zR0,zR1,zR2,zR3]) rfl ⟨_,rfl,⟨_,_,_,_,_,_,_,rfl,IsZ.to (hS14.out.get (f:=.z (.agg #[.bool t8,.slice p8 l8 k8]) (if t3 then -((val qs:Nat):Int) else (val qs:Nat))) 1 rfl) ?_,IsZ.to (hS14.out.get (f:=.z (.agg #[.bool false,.slice p9 l9 k9]) ((val qt:Nat):Int)) 0 rfl) ?_⟩,hS14.out.bel⟩
    ·have h1:=HP.out
     have h2:=HX.out.2.2.2
     have h3:=HQ.out.2.2
     rw [h2.1,HGS.out.2.2] at h3
     rw [h3,← h1.1,h2.2]
     have h4:=h1.2.1
     rw [decide_eq_decide] at h4
     by_cases hz0:-z<0
     ·rw [decide_eq_true hz0,if_pos rfl];have:=h4.2 hz0;omega
     ·rw [decide_eq_false hz0];simp only [Bool.false_eq_true,if_false];have:=fun h=>hz0 (h4.1 h);omega
    ·rw [HP.out.2.2,HQ2.out.2.2,HY.out.2.2.2,HGS.out.2.2]
   ·have tg1:((d5:Int) == 1)=false:=by rw [beq_eq_false_iff_ne];omega
    have nb5l:b5<w5.heap.size:=by
     have:=World.block_lt_of_cell? w5 ⟨b5,o5,none⟩ c5
     simpa using this
    have nb5:¬ w5.heap.size=b5:=by
     have:=World.block_lt_of_cell? w5 ⟨b5,o5,none⟩ c5
     simp only at this
     omega
    have nb5':¬ b5=w5.heap.size:=fun h=>nb5 h.symm
    go_wp2_with fail
    clear cA0 cA1 fA0 fA1 cB0 cB1 fB0 fB1 cR0 cR1 cR2 cR3 fR0 fR1 fR2 fR3
    have hU:=hid ((hS5.out).alloc' (w5.heap.size) (by simp) 35 [.bool t5,.slice (some ⟨b5,o5,none⟩) 1 k5])
    obtain ⟨xs,hxt,hxl,dx,tx,hxv⟩:=(IsZ.parts (hU.out.get (f:=.z (.agg #[.bool t3,.slice p3 l3 k3]) (-z)) 2 rfl))
    obtain ⟨ys,-,hyl,dy,ty,hyv⟩:=(IsZ.parts (hU.out.get (f:=.z (.agg #[.bool false,.slice p4 l4 k4]) (m:Int)) 1 rfl))
    rw [Int.natAbs_natCast] at hyv
    have hlx:xs.length≤34359738368:=Nat.le_trans (cZ tx (by rw [hxv];exact hka.out)) hN
    have hly:ys.length≤34359738368:=Nat.le_trans (cZ ty (by rw [hyv];exact hkb.out)) hN
    have HX:=hid (And.intro hxl (And.intro dx (And.intro tx (And.intro hxv hxt))))
    have HY:=hid (And.intro hyl (And.intro dy (And.intro ty hyv)))
    clear hxt hxl dx tx hxv hyl dy ty hyv
    have hg0':0<val gs:=by rw [HGS.out.2.2];omega
    have hV:=hid ((hU.out.fact (.l 0 (.slice p3 l3 k3) xs) HX.out.1).fact (.l 0 (.slice p4 l4 k4) ys) HY.out.1)
    clear hU
    refine (jr _ _ xs gs _ (hV.out.get (f:=.l 0 (.slice p3 l3 k3) xs) 1 rfl) (hV.out.get (f:=.l 0 (.slice (some ⟨b5,o5,none⟩) 1 k5) gs) 2 rfl) HX.out.2.1 HGS.out.1 HGS.out.2.1 hg0' hlx hgl').mono ?_
    rintro e w6 ⟨qx,qs,rx,rs,rfl,hq1,hq2,hq3,hq4,hr1,-,-,-,hB⟩
    have hS6:=hid (hV.out.call hB)
    clear hB
    clear hV
    obtain ⟨pq,lq,kq,rfl⟩:=hq1.mk
    obtain ⟨pr,lr,kr,rfl⟩:=hr1.mk
    clear hr1
    have HQ:=hid (And.intro hq2 (And.intro hq3 hq4))
    clear hq2 hq3 hq4
    replace hq1:=hq1.mono (Nat.zero_le _)
    have hS7:=hid (hS6.out.fact (.l 0 (.slice pq lq kq) qs) hq1)
    clear hS6 hq1
    obtain ⟨⟨cB0,cB1⟩,fB0,fB1⟩:=hS7.out.f2 2 (w.heap.size+1) 35 (.bool false) (.slice p4 l4 k4) rfl
    obtain ⟨⟨cG0,cG1⟩,fG0,fG1⟩:=hS7.out.f2 0 w5.heap.size 35 (.bool t5) (.slice (some ⟨b5,o5,none⟩) 1 k5) rfl
    go_wp2_with fail
    clear cB0 cB1 fB0 fB1 cG0 cG1 fG0 fG1
    refine (jr _ _ ys gs _ (hS7.out.get (f:=.l 0 (.slice p4 l4 k4) ys) 1 rfl) (hS7.out.get (f:=.l 0 (.slice (some ⟨b5,o5,none⟩) 1 k5) gs) 3 rfl) HY.out.2.1 HGS.out.1 HGS.out.2.1 hg0' hly hgl').mono ?_
    rintro e w7 ⟨qy,qt,ry,rt,rfl,hq1,hq2,hq3,hq4,hr1,-,-,-,hB⟩
    have hS8:=hid (hS7.out.call hB)
    clear hB
    clear hS7
    obtain ⟨py,ly,ky,rfl⟩:=hq1.mk
    obtain ⟨pz,lz,kz,rfl⟩:=hr1.mk
    clear hr1
    have HQ2:=hid (And.intro hq2 (And.intro hq3 hq4))
    clear hq2 hq3 hq4
    replace hq1:=hq1.mono (Nat.zero_le _)
    have hS9:=hid (hS8.out.fact (.l 0 (.slice py ly ky) qt) hq1)
    clear hS8 hq1
    obtain ⟨⟨cA0,cA1⟩,fA0,fA1⟩:=hS9.out.f2 3 w.heap.size 35 (.bool t3) (.slice p3 l3 k3) rfl
    go_wp2_with fail
    clear cA0 cA1 fA0 fA1
    refine (jV t3 _ qs _ (hS9.out.get (f:=.l 0 (.slice pq lq kq) qs) 1 rfl) HQ.out.1 HQ.out.2.1).mono ?_
    rintro e w8 ⟨v8,rfl,hz8,hB⟩
    have hS10:=hid (hS9.out.call hB)
    clear hB
    clear hS9
    obtain ⟨t8,p8,l8,k8,rfl⟩:=hz8.open
    have hS11:=hid (hS10.out.fact (.z (.agg #[.bool t8,.slice p8 l8 k8]) (if t3 then -((val qs:Nat):Int) else (val qs:Nat))) hz8)
    clear hS10 hz8
    go_wp2_with fail
    refine (jV false _ qt _ (hS11.out.get (f:=.l 0 (.slice py ly ky) qt) 1 rfl) HQ2.out.1 HQ2.out.2.1).mono ?_
    rintro e w9 ⟨v9,rfl,hz9,hB⟩
    have hS12:=hid (hS11.out.call hB)
    clear hB
    clear hS11
    simp only [Bool.false_eq_true,if_false] at hz9
    obtain ⟨t9,p9,l9,k9,rfl⟩:=hz9.open
    obtain rfl:t9=false:=by
     obtain ⟨_,e,-⟩:=hz9.parts
     rw [e]
     exact decide_eq_false (by omega)
    have hS13:=hid (hS12.out.fact (.z (.agg #[.bool false,.slice p9 l9 k9]) ((val qt:Nat):Int)) hz9)
    clear hS12 hz9
    obtain ⟨⟨cR0,cR1,cR2,cR3⟩,fR0,fR1,fR2,fR3⟩:=hS13.out.f4 1 (w.heap.size+1+1) 37 (.bool false) (.slice none 0 0) (.bool false) (.slice none 0 0) rfl
    have hS14:=hid ((((((hS13.out).store (b:=⟨w.heap.size+1+1,37,[.bool false,.slice none 0 0,.bool false,.slice none 0 0]⟩) 1 0 (.bool t8) rfl rfl).store (b:=⟨w.heap.size+1+1,37,[.bool t8,.slice none 0 0,.bool false,.slice none 0 0]⟩) 1 1 (.slice p8 l8 k8) rfl rfl).store (b:=⟨w.heap.size+1+1,37,[.bool t8,.slice p8 l8 k8,.bool false,.slice none 0 0]⟩) 1 2 (.bool false) rfl rfl).store (b:=⟨w.heap.size+1+1,37,[.bool t8,.slice p8 l8 k8,.bool false,.slice none 0 0]⟩) 1 3 (.slice p9 l9 k9) rfl rfl).as [⟨w5.heap.size,35,[.bool t5,.slice (some ⟨b5,o5,none⟩) 1 k5]⟩,⟨w.heap.size+1+1,37,[.bool t8,.slice p8 l8 k8,.bool false,.slice p9 l9 k9]⟩,⟨w.heap.size+1,35,[.bool false,.slice p4 l4 k4]⟩,⟨w.heap.size,35,[.bool t3,.slice p3 l3 k3]⟩] rfl)
    go_wp2_with fail
    clear cR0 cR1 cR2 cR3 fR0 fR1 fR2 fR3
    obtain ⟨⟨zR0,zR1,zR2,zR3⟩,-⟩:=hS14.out.f4 1 (w.heap.size+1+1) 37 (.bool t8) (.slice p8 l8 k8) (.bool false) (.slice p9 l9 k9) rfl
    refine bodyPost_ret (v:=.agg #[.bool t8,.slice p8 l8 k8,.bool false,.slice p9 l9 k9]) (by simp [results,Tryz.results92,go_sem,zR0,zR1,zR2,zR3]) rfl ⟨_,rfl,⟨_,_,_,_,_,_,_,rfl,IsZ.to (hS14.out.get (f:=.z (.agg #[.bool t8,.slice p8 l8 k8]) (if t3 then -((val qs:Nat):Int) else (val qs:Nat))) 1 rfl) ?_,IsZ.to (hS14.out.get (f:=.z (.agg #[.bool false,.slice p9 l9 k9]) ((val qt:Nat):Int)) 0 rfl) ?_⟩,hS14.out.bel⟩
    ·have h1:=HP.out
     have h2:=HX.out.2.2.2
     have h3:=HQ.out.2.2
     rw [h2.1,HGS.out.2.2] at h3
     rw [h3,← h1.1,h2.2]
     have h4:=h1.2.1
     rw [decide_eq_decide] at h4
     by_cases hz0:-z<0
     ·rw [decide_eq_true hz0,if_pos rfl];have:=h4.2 hz0;omega
     ·rw [decide_eq_false hz0];simp only [Bool.false_eq_true,if_false];have:=fun h=>hz0 (h4.1 h);omega
    ·rw [HP.out.2.2,HQ2.out.2.2,HY.out.2.2.2,HGS.out.2.2]
end Z4
end Go.Proofs.YthalajpklaodkaaGreatDoor
