/- What the proof rests on, part 18. -/
import Derived.Test.YtnmlkobogofadaaGreatDoorP17
namespace Go.Proofs.YtnmlkobogofadaaGreatDoor
set_option maxRecDepth 100000
set_option maxHeartbeats 80000000
namespace Z4
open Go.RowKit Go.Sort
theorem vG {W:World} {base:Nat} {e:TypeId} {v:Value} {k:Nat} {xs:List Value} (h:W.ownsRow base e 1 v (k+1) xs):∃ g cap,v=.slice (some ⟨g,0,none⟩) (k+1) cap:=by
 rcases h.2 with ⟨_,h0⟩ | ⟨g,cap,cur,rfl,_⟩
 ·omega
 ·exact ⟨g,cap,rfl⟩
theorem AO {W:World} {base:Nat} {e:TypeId} {v:Value} {k:Nat} {xs:List Value} (h:W.ownsRow base e 1 v k xs):∃ p cap,v=.slice p k cap:=by
 rcases h.2 with ⟨rfl,rfl⟩ | ⟨g,cap,cur,rfl,_⟩ <;> exact ⟨_,_,rfl⟩
structure ZB (w W:World) (t:Bool) (v:Value):Prop where
 c0:W.cell? ⟨w.heap.size+1,0,none⟩=some (.bool t)
 c1:W.cell? ⟨w.heap.size+1,1,none⟩=some v
 f0:W.frozen? ⟨w.heap.size+1,0,none⟩=false
 f1:W.frozen? ⟨w.heap.size+1,1,none⟩=false
 r0:W.cell? ⟨w.heap.size,0,none⟩=some (.bool false)
 r1:W.cell? ⟨w.heap.size,1,none⟩=some (.slice none 0 0)
 g0:W.frozen? ⟨w.heap.size,0,none⟩=false
 g1:W.frozen? ⟨w.heap.size,1,none⟩=false
 sz:w.heap.size+2≤W.heap.size
 bel:Below w.heap.size w W
theorem ZB.start (w:World) (t:Bool) (T:TypeId):ZB w ((w.alloc (.cells #[.bool false,.slice none 0 0] T)).alloc (.cells #[.bool t,.slice none 0 0] T)) t (.slice none 0 0):=by
 have hb:=((Below.refl w.heap.size w).alloc (Nat.le_refl _) (.cells #[.bool false,.slice none 0 0] T)).alloc (by simp) (.cells #[.bool t,.slice none 0 0] T)
 refine ⟨?_,?_,?_,?_,?_,?_,?_,?_,by simp,hb⟩ <;> go_simp
theorem ZB.next {w W W1:World} {t:Bool} {v:Value} (h:ZB w W t v) (hb:Below (w.heap.size+2) W W1):ZB w W1 t v where
 c0:=(hb.cell (p:=⟨w.heap.size+1,0,none⟩) (by simp)).trans h.c0
 c1:=(hb.cell (p:=⟨w.heap.size+1,1,none⟩) (by simp)).trans h.c1
 f0:=(hb.frozen (p:=⟨w.heap.size+1,0,none⟩) (by simp)).trans h.f0
 f1:=(hb.frozen (p:=⟨w.heap.size+1,1,none⟩) (by simp)).trans h.f1
 r0:=(hb.cell (p:=⟨w.heap.size,0,none⟩) (by simp)).trans h.r0
 r1:=(hb.cell (p:=⟨w.heap.size,1,none⟩) (by simp)).trans h.r1
 g0:=(hb.frozen (p:=⟨w.heap.size,0,none⟩) (by simp)).trans h.g0
 g1:=(hb.frozen (p:=⟨w.heap.size,1,none⟩) (by simp)).trans h.g1
 sz:=Nat.le_trans h.sz hb.size
 bel:=h.bel.trans (hb.mono (by omega))
theorem ZB.store {w W:World} {t:Bool} {v:Value} (h:ZB w W t v) (u:Value):ZB w (W.setCell ⟨w.heap.size+1,1,none⟩ u) t u where
 c0:=by rw [World.cell?_setCell_other _ _ _ _ (by simp)];exact h.c0
 c1:=World.cell?_setCell_same _ _ _ h.c1
 f0:=by rw [World.frozen?_setCell];exact h.f0
 f1:=by rw [World.frozen?_setCell];exact h.f1
 r0:=by rw [World.cell?_setCell_other _ _ _ _ (by simp)];exact h.r0
 r1:=by rw [World.cell?_setCell_other _ _ _ _ (by simp)];exact h.r1
 g0:=by rw [World.frozen?_setCell];exact h.g0
 g1:=by rw [World.frozen?_setCell];exact h.g1
 sz:=by simpa using h.sz
 bel:=h.bel.setCell (by simp) _
def xH (w:World) (n:Int) (e:Ending) (w':World):Prop:=∃ s ds,e=.returned (.agg #[.bool (decide (n<0)),s])∧IsL w.heap.size w' s ds∧Dig ds∧aG ds∧val ds=n.natAbs∧Below w.heap.size w w'
theorem Qh (m0:Nat) (hm0:m0≤9223372036854775807) (w:World):Calls Tryz.prog 116 #[.int .i64 ((m0:Int))] w
  (fun e w'=>∃ s ds,e=.returned (.agg #[.bool false,s])∧IsL w.heap.size w' s ds∧Dig ds∧aG ds∧val ds=m0∧Below w.heap.size w w'):=by
 obtain ⟨i0,hi,hz0,hz1,hz2⟩:=info_parts lu
 have H0:=hid (ZB.start w false 38)
 go_enter Tryz.func116,Tryz.ntmps116
 go_wp2_with fail
 try rw [show decide ((m0:Int)<0)=false from decide_eq_false (by omega)]
 go_loopw [0,4] (fun nv _ wr=>∃ (m:Nat) (v:Value) (ds:List Nat),nv=.int .i64 (m:Int)∧wr.ownsRow (w.heap.size+2) 3 1 v ds.length (ds.map enc)∧kP m0 ds m∧ZB w wr false v) (fun nv _ _=>(intOf nv).natAbs)
 case atStart=>exact ⟨m0,.slice none 0 0,[],rfl,World.ownsRow_nil _ _ _ _,kP.start m0,H0.out⟩
 case round =>
  clear H0
  obtain ⟨m,v,ds,rfl,hown,hI,hZ⟩:=hrel
  obtain ⟨p,cap,rfl⟩:=AO hown
  have HZ:=hid hZ
  have HO:=hid hown
  have HI:=hid hI
  obtain ⟨c0,c1,f0,f1,r0,r1,g0,g1,hsz,-⟩:=hZ
  by_cases h0:m=0
  ·subst h0
   have HL:=hid (IsL.of_own hown)
   clear hown hI
   have hb:=(HZ.out.bel.setCell (p:=⟨w.heap.size,0,none⟩) (Nat.le_refl _) (.bool false)).setCell (p:=⟨w.heap.size,1,none⟩) (Nat.le_refl _) (.slice p ds.length cap)
   have HB:=hid hb
   have HL2:Hid (IsL w.heap.size ((wr.setCell ⟨w.heap.size,0,none⟩ (.bool false)).setCell ⟨w.heap.size,1,none⟩ (.slice p ds.length cap)) (.slice p ds.length cap) ds):=
    (IsL.of_own (ownsRow_setCell_below (ownsRow_setCell_below HO.out (a:=⟨w.heap.size,0,none⟩) (by simp) _) (a:=⟨w.heap.size,1,none⟩) (by simp) _)).mono (by omega)
   clear hb
   go_wp2
   exact bodyPost_ret (v:=.agg #[.bool false,.slice p ds.length cap]) (by simp [results,Tryz.results116,go_sem];go_simp) rfl ⟨_,_,rfl,HL2.out,HI.out.dig,HI.out.trim rfl,by have:=HI.out.eq;simpa using this,HB.out⟩
  ·obtain ⟨d,hd⟩:∃ d,m % 10000=d:=⟨_,rfl⟩
   obtain ⟨q,hq⟩:∃ q,m / 10000=q:=⟨_,rfl⟩
   have HS:=hid (hI.step h0)
   rw [hd,hq] at HS
   have hlen:ds.length≤32:=by
    rcases Nat.lt_or_ge 32 ds.length with hl | hl
    ·have h1:=hI.few
     have h2:10000 ^ 5≤10000 ^ ds.length:=Nat.pow_le_pow_right (by decide) (by omega)
     have h3:1*10000 ^ ds.length≤m*10000 ^ ds.length:=Nat.mul_le_mul_right _ (by omega)
     have h4:10000 ^ 5=100000000000000000000:=by decide
     omega
    ·exact hl
   have hmm:m≤9223372036854775808:=by
    have h1:=hI.few
    have h2:1≤10000 ^ ds.length:=Nat.one_le_pow _ _ (by decide)
    have h3:m*1≤m*10000 ^ ds.length:=Nat.mul_le_mul_left _ h2
    omega
   have hd1:d<10000:=by omega
   have HQ:Hid (q<m):=by show _<_;omega
   have hq1:q≤922337203685477581:=by omega
   have e0:((m:Int) != 0)=true:=by rw [bne_iff_ne];omega
   have e1:(m:Int) % 10000=(d:Int):=by rw [← hd];omega
   have e2:(m:Int) / 10000=(q:Int):=by rw [← hq];omega
   clear hown hI hd hq hmm
   ·have t1:¬ ((d:Int)<0):=by omega
    go_wp2_with (first
     | (at_builtin;refine wpList_append_own _ rfl _ _ 36 rfl (w.heap.size+2) 3 i0 (.int .i64 0) 1 8 Tryz.underlying36 hi hz0 hz1 hz2 rfl (by decide) _ _ _ rfl (HO.out.alloc _) ⟨wr.heap.size,0,none⟩ 1 1 [.int .i64 (d:Int)] rfl rfl ?c1 ?c2 ?c3 ?c4 ?c5 ?_))
    try (case c1 =>
     intro j u hj
     match j,hj with
     | 0,hj=>simp at hj;subst hj;first | simp | simp [Addr.add])
    case c2=>first | rfl | (intro u hu;simp at hu;subst hu;rfl)
    case c3=>first | (unfold maxLen;omega) | omega
    case c4=>omega
    case c5=>first | omega | (simp;omega)
    intro v' w1 hown' hgrow _
    obtain ⟨g',cap',rfl⟩:=vG hown'
    have hB2:Below (w.heap.size+2) wr w1:=((Below.refl _ wr).alloc hsz _).grown hgrow (by simp;omega) (fun k hk=>(HO.out.lt k hk).1)
    have hZ1:=HZ.out.next hB2
    rw [← iV] at hown'
    have HO2:=hid (ownsRow_setCell_below hown' (a:=⟨w.heap.size+1,1,none⟩) (by simp) (.slice (some ⟨g',0,none⟩) (ds.length+1) cap'))
    have HZ2:=hid (hZ1.store (.slice (some ⟨g',0,none⟩) (ds.length+1) cap'))
    clear c0 c1 f0 f1 r0 r1 g0 g1 hsz hown' hgrow hB2
    obtain ⟨c0,c1,f0,f1,r0,r1,g0,g1,hsz,-⟩:=hZ1
    go_wp2
    go_roundw
    case rel=>exact ⟨q,_,ds ++ [d],by first | rfl | go_num,by rw [List.length_append];exact HO2.out,HS.out,HZ2.out⟩
    case measure=>have:=HQ.out;simp [intOf];omega
theorem UO (m0:Nat) (hm0:m0≤9223372036854775808) (hm1:0<m0) (w:World):Calls Tryz.prog 116 #[.int .i64 (-(m0:Int))] w
  (fun e w'=>∃ s ds,e=.returned (.agg #[.bool true,s])∧IsL w.heap.size w' s ds∧Dig ds∧aG ds∧val ds=m0∧Below w.heap.size w w'):=by
 obtain ⟨i0,hi,hz0,hz1,hz2⟩:=info_parts lu
 have H0:=hid (ZB.start w true 38)
 go_enter Tryz.func116,Tryz.ntmps116
 go_wp2_with fail
 try rw [show decide ((m0:Int)<0)=false from decide_eq_false (by omega)]
 go_loopw [0,4] (fun nv _ wr=>∃ (m:Nat) (v:Value) (ds:List Nat),nv=.int .i64 (-(m:Int))∧wr.ownsRow (w.heap.size+2) 3 1 v ds.length (ds.map enc)∧kP m0 ds m∧ZB w wr true v) (fun nv _ _=>(intOf nv).natAbs)
 case atStart=>exact ⟨m0,.slice none 0 0,[],rfl,World.ownsRow_nil _ _ _ _,kP.start m0,H0.out⟩
 case round =>
  clear H0
  obtain ⟨m,v,ds,rfl,hown,hI,hZ⟩:=hrel
  obtain ⟨p,cap,rfl⟩:=AO hown
  have HZ:=hid hZ
  have HO:=hid hown
  have HI:=hid hI
  obtain ⟨c0,c1,f0,f1,r0,r1,g0,g1,hsz,-⟩:=hZ
  by_cases h0:m=0
  ·subst h0
   have HL:=hid (IsL.of_own hown)
   clear hown hI
   have hb:=(HZ.out.bel.setCell (p:=⟨w.heap.size,0,none⟩) (Nat.le_refl _) (.bool true)).setCell (p:=⟨w.heap.size,1,none⟩) (Nat.le_refl _) (.slice p ds.length cap)
   have HB:=hid hb
   have HL2:Hid (IsL w.heap.size ((wr.setCell ⟨w.heap.size,0,none⟩ (.bool true)).setCell ⟨w.heap.size,1,none⟩ (.slice p ds.length cap)) (.slice p ds.length cap) ds):=
    (IsL.of_own (ownsRow_setCell_below (ownsRow_setCell_below HO.out (a:=⟨w.heap.size,0,none⟩) (by simp) _) (a:=⟨w.heap.size,1,none⟩) (by simp) _)).mono (by omega)
   clear hb
   go_wp2
   exact bodyPost_ret (v:=.agg #[.bool true,.slice p ds.length cap]) (by simp [results,Tryz.results116,go_sem];go_simp) rfl ⟨_,_,rfl,HL2.out,HI.out.dig,HI.out.trim rfl,by have:=HI.out.eq;simpa using this,HB.out⟩
  ·obtain ⟨d,hd⟩:∃ d,m % 10000=d:=⟨_,rfl⟩
   obtain ⟨q,hq⟩:∃ q,m / 10000=q:=⟨_,rfl⟩
   have HS:=hid (hI.step h0)
   rw [hd,hq] at HS
   have hlen:ds.length≤32:=by
    rcases Nat.lt_or_ge 32 ds.length with hl | hl
    ·have h1:=hI.few
     have h2:10000 ^ 5≤10000 ^ ds.length:=Nat.pow_le_pow_right (by decide) (by omega)
     have h3:1*10000 ^ ds.length≤m*10000 ^ ds.length:=Nat.mul_le_mul_right _ (by omega)
     have h4:10000 ^ 5=100000000000000000000:=by decide
     omega
    ·exact hl
   have hmm:m≤9223372036854775808:=by
    have h1:=hI.few
    have h2:1≤10000 ^ ds.length:=Nat.one_le_pow _ _ (by decide)
    have h3:m*1≤m*10000 ^ ds.length:=Nat.mul_le_mul_left _ h2
    omega
   have hd1:d<10000:=by omega
   have HQ:Hid (q<m):=by show _<_;omega
   have hq1:q≤922337203685477581:=by omega
   have e0:((-(m:Int)) != 0)=true:=by rw [bne_iff_ne];omega
   have e1:(-(m:Int)).tmod 10000 = -(d:Int):=by rw [Int.neg_tmod,Int.tmod_eq_emod_of_nonneg (by omega),← hd];omega
   have e1':(m:Int).tmod 10000=(d:Int):=by rw [Int.tmod_eq_emod_of_nonneg (by omega),← hd];omega
   have e2:(-(m:Int)).tdiv 10000 = -(q:Int):=by rw [Int.neg_tdiv,Int.tdiv_eq_ediv_of_nonneg (by omega),← hq];omega
   have e2':(m:Int).tdiv 10000=(q:Int):=by rw [Int.tdiv_eq_ediv_of_nonneg (by omega),← hq];omega
   clear hown hI hd hq hmm
   by_cases hd0:d=0
   ·have t1:¬ (-(d:Int)<0):=by omega
    have t2:¬ (0<d):=by omega
    have HD0:=hid hd0
    clear hd0
    go_wp2_with (first
     | (at_builtin;refine wpList_append_own _ rfl _ _ 36 rfl (w.heap.size+2) 3 i0 (.int .i64 0) 1 8 Tryz.underlying36 hi hz0 hz1 hz2 rfl (by decide) _ _ _ rfl (HO.out.alloc _) ⟨wr.heap.size,0,none⟩ 1 1 [.int .i64 (-(d:Int))] rfl rfl ?c1 ?c2 ?c3 ?c4 ?c5 ?_))
    try (case c1 =>
     intro j u hj
     match j,hj with
     | 0,hj=>simp at hj;subst hj;first | simp | simp [Addr.add])
    case c2=>first | rfl | (intro u hu;simp at hu;subst hu;rfl)
    case c3=>first | (unfold maxLen;omega) | omega
    case c4=>omega
    case c5=>first | omega | (simp;omega)
    intro v' w1 hown' hgrow _
    obtain ⟨g',cap',rfl⟩:=vG hown'
    have hB2:Below (w.heap.size+2) wr w1:=((Below.refl _ wr).alloc hsz _).grown hgrow (by simp;omega) (fun k hk=>(HO.out.lt k hk).1)
    have hZ1:=HZ.out.next hB2
    rw [show (-(d:Int))=(d:Int) from by have:=HD0.out;omega] at hown'
    rw [← iV] at hown'
    have HO2:=hid (ownsRow_setCell_below hown' (a:=⟨w.heap.size+1,1,none⟩) (by simp) (.slice (some ⟨g',0,none⟩) (ds.length+1) cap'))
    have HZ2:=hid (hZ1.store (.slice (some ⟨g',0,none⟩) (ds.length+1) cap'))
    clear c0 c1 f0 f1 r0 r1 g0 g1 hsz hown' hgrow hB2
    obtain ⟨c0,c1,f0,f1,r0,r1,g0,g1,hsz,-⟩:=hZ1
    go_wp2
    go_roundw
    case rel=>exact ⟨q,_,ds ++ [d],by first | rfl | go_num,by rw [List.length_append];exact HO2.out,HS.out,HZ2.out⟩
    case measure=>have:=HQ.out;simp [intOf];omega
   ·have t1:-(d:Int)<0:=by omega
    have t2:0<d:=by omega
    go_wp2_with (first
     | (at_builtin;refine wpList_append_own _ rfl _ _ 36 rfl (w.heap.size+2) 3 i0 (.int .i64 0) 1 8 Tryz.underlying36 hi hz0 hz1 hz2 rfl (by decide) _ _ _ rfl (HO.out.alloc _) ⟨wr.heap.size,0,none⟩ 1 1 [.int .i64 (d:Int)] rfl rfl ?k1 ?k2 ?k3 ?k4 ?k5 ?_))
    try (case k1 =>
     intro j u hj
     match j,hj with
     | 0,hj=>simp at hj;subst hj;first | simp | simp [Addr.add])
    case k2=>first | rfl | (intro u hu;simp at hu;subst hu;rfl)
    case k3=>first | (unfold maxLen;omega) | omega
    case k4=>omega
    case k5=>first | omega | (simp;omega)
    intro v' w1 hown' hgrow _
    obtain ⟨g',cap',rfl⟩:=vG hown'
    have hB2:Below (w.heap.size+2) wr w1:=((Below.refl _ wr).alloc hsz _).grown hgrow (by simp;omega) (fun k hk=>(HO.out.lt k hk).1)
    have hZ1:=HZ.out.next hB2
    rw [← iV] at hown'
    have HO2:=hid (ownsRow_setCell_below hown' (a:=⟨w.heap.size+1,1,none⟩) (by simp) (.slice (some ⟨g',0,none⟩) (ds.length+1) cap'))
    have HZ2:=hid (hZ1.store (.slice (some ⟨g',0,none⟩) (ds.length+1) cap'))
    clear c0 c1 f0 f1 r0 r1 g0 g1 hsz hown' hgrow hB2
    obtain ⟨c0,c1,f0,f1,r0,r1,g0,g1,hsz,-⟩:=hZ1
    go_wp2
    go_roundw
    case rel=>exact ⟨q,_,ds ++ [d],by first | rfl | go_num,by rw [List.length_append];exact HO2.out,HS.out,HZ2.out⟩
    case measure=>have:=HQ.out;simp [intOf];omega
theorem kY (n:Int) (h1:-9223372036854775808≤n) (h2:n≤9223372036854775807) (w:World):Calls Tryz.prog 116 #[.int .i64 n] w (xH w n):=by
 by_cases h:n<0
 ·obtain ⟨m,rfl⟩:∃ m:Nat,n = -(m:Int):=⟨n.natAbs,by omega⟩
  refine (UO m (by omega) (by omega) w).mono ?_
  rintro e w' ⟨s,ds,rfl,a,b,c,d,f⟩
  exact ⟨s,ds,by rw [decide_eq_true h],a,b,c,by rw [d];omega,f⟩
 ·obtain ⟨m,rfl⟩:∃ m:Nat,n=(m:Int):=⟨n.natAbs,by omega⟩
  refine (Qh m (by omega) w).mono ?_
  rintro e w' ⟨s,ds,rfl,a,b,c,d,f⟩
  exact ⟨s,ds,by rw [decide_eq_false h],a,b,c,by rw [d];omega,f⟩
end Z4
namespace Z4
open Go.RowKit Go.Sort
theorem SX {x y:Nat} (hx:x<10000) (hy:y<10000):(0:Int)≤(x:Int)*(y:Int)∧(x:Int)*(y:Int)≤99980001:=by
 have h1:x*y≤9999*9999:=Nat.mul_le_mul (by omega) (by omega)
 have h2:((x*y:Nat):Int)=(x:Int)*(y:Int):=Int.natCast_mul x y
 omega
theorem Ej (w:World) (q b:Nat) (xs:List Nat) (i x:Nat) (hi:i<xs.length):(au w q b 0 xs).setCell ⟨b,i,none⟩ (.int .i64 (x:Int))=au w q b 0 (xs.set i x):=by
 have:=gI w q b 0 xs i x hi
 rwa [Nat.zero_add] at this
theorem ML (b o k0 b2 o2 k2:Nat) (xs ys:List Nat) (w:World) (hbw:b<w.heap.size) (hx:Ints w b o xs) (hbw2:b2<w.heap.size) (hy:Ints w b2 o2 ys) (dx:Dig xs) (dy:Dig ys) (hsx:xs.length≤549755813888) (hsy:ys.length≤549755813888) :
  Calls Tryz.prog 166 #[.slice (some ⟨b,o,none⟩) xs.length k0,.slice (some ⟨b2,o2,none⟩) ys.length k2] w (jF w (val xs*val ys)):=by
 have hmk:=fM (xs.length+ys.length) (by omega)
 rw [show ((xs.length+ys.length:Nat):Int)=(xs.length:Int)+(ys.length:Int) from by omega] at hmk
 have HX:Hid (Ints (aJ w (xs.length+ys.length)) b o xs):=hx.below (bD w _) hbw
 have HY:Hid (Ints (aJ w (xs.length+ys.length)) b2 o2 ys):=hy.below (bD w _) hbw2
 clear hx hy
 have HZ:=hid (dM w (xs.length+ys.length))
 go_enter Tryz.func166,Tryz.ntmps166
 go_wp2
 go_loopw [6] (fun iv wr=>∃ (i q:Nat) (pk:List Nat),iv=.int .i64 i∧i≤xs.length∧wr=au (aJ w (xs.length+ys.length)) q w.heap.size 0 pk∧og xs ys pk i) (fun iv _=>xs.length - (intOf iv).toNat)
 case atStart=>exact ⟨0,0,_,rfl,by omega,(iR _ _ _ _ HZ.out).symm,og.start xs ys⟩
 case round =>
  clear hmk
  obtain ⟨i,q,pk,rfl,hi,hwr,hP⟩:=hrel
  have HW:=hid hwr
  have HP:=hid hP
  clear hwr hP
  by_cases hlt:i<xs.length
  ·obtain ⟨wo,rfl⟩:∃ wo:World,wo=wr:=⟨_,rfl⟩
   go_wp2
   go_loopw [7,8] (fun cv kv wr=>∃ (k c q:Nat) (pk:List Nat),kv=.int .i64 k∧cv=.int .i64 c∧wr=au (aJ w (xs.length+ys.length)) q w.heap.size 0 pk∧oz xs ys pk i k c) (fun _ kv _=>ys.length+1 - (intOf kv).toNat)
   case atStart=>exact ⟨0,0,q,pk,rfl,rfl,HW.out,HP.out.inner⟩
   case round =>
    clear HW HP
    obtain ⟨k,c,q,pk,rfl,rfl,hwr,hK⟩:=hrel
    have hkl:k≤ys.length+1:=by rcases hK.le with h | h <;> omega
    have hc1:c<10000:=hK.lt
    by_cases hgo:k<ys.length∨0<c
    ·have hkl2:k≤ys.length:=by rcases hK.le with h | h <;> omega
     obtain ⟨x,hx⟩:∃ x,xs[i]?.getD 0=x:=⟨_,rfl⟩
     obtain ⟨y,hy⟩:∃ y,ys[k]?.getD 0=y:=⟨_,rfl⟩
     obtain ⟨ov,ho⟩:∃ ov,pk[i+k]?.getD 0=ov:=⟨_,rfl⟩
     have hx1:x<10000:=hx ▸ dx.getD i
     have hy1:y<10000:=hy ▸ dy.getD k
     have ho1:ov<10000:=ho ▸ hK.dig.getD (i+k)
     have hpl:=hK.len
     have hS:=fun (d c':Nat) (hd:d<B4) (e:ov+c+x*y=d+c' * B4)=>hK.step hlt hgo ho hx hy hy1 hx1 hd e
     have hH:aF wr w.heap.size 0 pk:=by rw [hwr];exact bI _ _ _ _ _ _ HZ.out (by simpa using hpl)
     have hik:i+k<pk.length:=by rw [hpl];omega
     have co:wr.cell? ⟨w.heap.size,i+k,none⟩=some (.int .i64 (ov:Int)):=by have:=(hH (i+k) hik).1;rw [Nat.zero_add] at this;rw [this,ho]
     have fo:wr.frozen? ⟨w.heap.size,i+k,none⟩=false:=by have:=(hH (i+k) hik).2;rwa [Nat.zero_add] at this
     have cx:wr.cell? ⟨b,o+i,none⟩=some (.int .i64 (x:Int)):=by
      have:=(HX.out.au (q:=q) (b:=w.heap.size) (o:=0) (xs:=pk) (by left;omega)) i hlt
      rw [hwr,this,hx]
     have en:((i:Int)+(k:Int)).toNat=i+k:=by omega
     have e0:(0:Int)≤(i:Int)+(k:Int):=by omega
     have e1:(i:Int)+(k:Int)<(xs.length:Int)+(ys.length:Int):=by omega
     obtain ⟨m0,m1⟩:=SX hx1 hy1
     have HW:=hid hwr
     have HL:=hid hik
     by_cases hky:k<ys.length
     ·have cy:wr.cell? ⟨b2,o2+k,none⟩=some (.int .i64 (y:Int)):=by
       have:=(HY.out.au (q:=q) (b:=w.heap.size) (o:=0) (xs:=pk) (by left;omega)) k hky
       rw [hwr,this,hy]
      obtain ⟨d,hd⟩:∃ d,(ov+c+x*y) % 10000=d:=⟨_,rfl⟩
      obtain ⟨c',hc'⟩:∃ c',(ov+c+x*y) / 10000=c':=⟨_,rfl⟩
      have hxy:((x*y:Nat):Int)=(x:Int)*(y:Int):=Int.natCast_mul x y
      have ed:((ov:Int)+(c:Int)+(x:Int)*(y:Int)) % 10000=(d:Int):=by rw [← hxy];omega
      have ec:((ov:Int)+(c:Int)+(x:Int)*(y:Int)) / 10000=(c':Int):=by rw [← hxy];omega
      have HS:=hid (hS d c' (by rw [iL];omega) (by rw [iL];omega)).2
      clear hS hd hc' hxy hx hy ho hwr hK hH hpl hgo hik
      go_wp2
      go_quiet (fail)
      go_wp2
      go_roundw
      case rel=>exact ⟨k+1,c',_,pk.set (i+k) d,by go_num,by rw [ec],by rw [HW.out];simp only [rQ];exact Ej _ _ _ _ _ _ HL.out,HS.out⟩
      case measure=>simp [intOf];omega
     ·have hc0:0<c:=by omega
      obtain rfl:y=0:=by rw [← hy,List.getElem?_eq_none (by omega)];rfl
      obtain ⟨d,hd⟩:∃ d,(ov+c) % 10000=d:=⟨_,rfl⟩
      obtain ⟨c',hc'⟩:∃ c',(ov+c) / 10000=c':=⟨_,rfl⟩
      have ed:((ov:Int)+(c:Int)) % 10000=(d:Int):=by omega
      have ec:((ov:Int)+(c:Int)) / 10000=(c':Int):=by omega
      have HS:=hid (hS d c' (by rw [iL];omega) (by rw [iL];omega)).2
      clear hS hd hc' hx hy ho hwr hK hH hpl hgo hik m0 m1
      go_wp2
      go_roundw
      case rel=>exact ⟨k+1,c',_,pk.set (i+k) d,by go_num,by rw [ec],by rw [HW.out];exact Ej _ _ _ _ _ _ HL.out,HS.out⟩
      case measure=>simp [intOf];omega
    ·have hk1:¬ k<ys.length:=fun h=>hgo (.inl h)
     obtain rfl:c=0:=by omega
     have HD:=hid (hK.done (by omega))
     have HW:=hid hwr
     have hgo':¬ (0<(0:Nat)):=by omega
     clear hK hwr hgo hc1
     go_wp2
     go_roundw
     case rel=>exact ⟨i+1,q,pk,by go_num,by omega,HW.out,HD.out⟩
     case measure=>simp [intOf];omega
  ·obtain rfl:i=xs.length:=by omega
   have hpl:=HP.out.len
   have hH:aF wr w.heap.size 0 pk:=by rw [HW.out];exact bI _ _ _ _ _ _ HZ.out (by simpa using hpl)
   have hws:w.heap.size<wr.heap.size:=by rw [HW.out];simp [dB]
   have hL:IsL w.heap.size wr (.slice (some ⟨w.heap.size,0,none⟩) (xs.length+ys.length) (xs.length+ys.length)) pk:=.inr ⟨w.heap.size,0,xs.length+ys.length,by rw [hpl],Nat.le_refl _,hws,by omega,hH.ints⟩
   have HL:=hid hL
   have hps:Hid (pk.length≤1099511627776):=by show _≤_;omega
   clear hL hH hpl
   go_wp2_with fail
   refine (kW _ pk _ HL.out hps.out).mono ?_
   rintro e w' ⟨v',m,rfl,ht,hv',rfl⟩
   have HT:=hid (And.intro ht hv')
   clear ht hv'
   go_wp2
   go_ret
   refine ⟨_,_,rfl,HT.out.2,HP.out.dig.take m,HT.out.1.trimmed,by rw [HT.out.1.val,HP.out.eq,tJ],?_⟩
   rw [HW.out]
   exact (bD w _).trans (dP _ _ _ _ _ (Nat.le_refl _))
theorem OT (p p2:Option Addr) (k0 k2:Nat) (xs:List Nat) (w:World) (hsx:xs.length≤549755813888) :
  Calls Tryz.prog 166 #[.slice p xs.length k0,.slice p2 0 k2] w (jF w (0)):=by
 have hmk:=fM xs.length (by omega)
 have HZ:=hid (dM w xs.length)
 obtain ⟨n,hn⟩:∃ n,xs.length=n:=⟨_,rfl⟩
 rw [hn] at hmk HZ hsx ⊢
 have HN:=hid hn
 clear hn
 go_enter Tryz.func166,Tryz.ntmps166
 go_wp2
 go_loopw [6] (fun iv wr=>∃ (i:Nat),iv=.int .i64 i∧i≤n∧wr=aJ w n) (fun iv _=>n - (intOf iv).toNat)
 case atStart=>exact ⟨0,rfl,by omega,rfl⟩
 case round =>
  clear hmk
  obtain ⟨i,rfl,hi,hwr⟩:=hrel
  have HW:=hid hwr
  clear hwr
  by_cases hlt:i<n
  ·go_wp2
   refine wp_loop_rounds 1 ?_
   rw [rounds_succ]
   go_wp2
   go_roundw
   case rel=>exact ⟨i+1,by go_num,by omega,HW.out⟩
   case measure=>simp [intOf];omega
  ·have hL:IsL w.heap.size wr (.slice (some ⟨w.heap.size,0,none⟩) n n) (List.replicate n 0):=by
    rw [HW.out]
    exact .inr ⟨w.heap.size,0,n,by simp,Nat.le_refl _,by rw [dB];omega,by simp,HZ.out.ints⟩
   have HL:=hid hL
   clear hL
   go_wp2_with fail
   refine (kW _ _ _ HL.out (by simp;omega)).mono ?_
   rintro e w' ⟨v',m,rfl,ht,hv',rfl⟩
   have HT:=hid (And.intro ht hv')
   clear ht hv'
   go_wp2
   go_ret
   refine ⟨_,_,rfl,HT.out.2,Dig.take (fun d hd=>by rw [List.eq_of_mem_replicate hd];exact jB) _,HT.out.1.trimmed,by rw [HT.out.1.val,oN],?_⟩
   rw [HW.out]
   exact bD w n
theorem P8 (p p2:Option Addr) (k0 k2:Nat) (ys:List Nat) (w:World) (hsy:ys.length≤549755813888) :
  Calls Tryz.prog 166 #[.slice p 0 k0,.slice p2 ys.length k2] w (jF w 0):=by
 have hmk:=fM ys.length (by omega)
 have HZ:=hid (dM w ys.length)
 obtain ⟨n,hn⟩:∃ n,ys.length=n:=⟨_,rfl⟩
 rw [hn] at hmk HZ hsy ⊢
 clear hn
 go_enter Tryz.func166,Tryz.ntmps166
 go_wp2
 refine wp_loop_rounds 1 ?_
 rw [rounds_succ]
 clear hmk
 have hL:IsL w.heap.size (aJ w n) (.slice (some ⟨w.heap.size,0,none⟩) n n) (List.replicate n 0):=.inr ⟨w.heap.size,0,n,by simp,Nat.le_refl _,by rw [dB];omega,by simp,HZ.out.ints⟩
 have HL:=hid hL
 clear hL
 go_wp2_with fail
 refine (kW _ _ _ HL.out (by simp;omega)).mono ?_
 rintro e w' ⟨v',m,rfl,ht,hv',rfl⟩
 have HT:=hid (And.intro ht hv')
 clear ht hv'
 go_wp2
 go_ret
 exact ⟨_,_,rfl,HT.out.2,Dig.take (fun d hd=>by rw [List.eq_of_mem_replicate hd];exact jB) _,HT.out.1.trimmed,by rw [HT.out.1.val,oN],bD w n⟩
theorem uz {B B2:Nat} (v v2:Value) (xs ys:List Nat) (w:World) (h:IsL B w v xs) (h2:IsL B2 w v2 ys) (dx:Dig xs) (dy:Dig ys) (hsx:xs.length≤549755813888) (hsy:ys.length≤549755813888) :
  Calls Tryz.prog 166 #[v,v2] w (jF w (val xs*val ys)):=by
 obtain ⟨p,b,o,k,rfl,hp,hb,hk,hx⟩:=h.shape
 obtain ⟨p2,b2,o2,k2,rfl,hp2,hb2,hk2,hy⟩:=h2.shape
 by_cases h0:xs.length=0
 ·obtain rfl:xs=[]:=List.length_eq_zero_iff.1 h0
  have:=P8 p p2 k k2 ys w hsy
  rw [show val []*val ys=0 by simp [val]]
  exact this
 ·by_cases h1:ys.length=0
  ·obtain rfl:ys=[]:=List.length_eq_zero_iff.1 h1
   have:=OT p p2 k k2 xs w hsx
   rw [show val xs*val []=0 by simp [val]]
   exact this
  ·rw [hp h0,hp2 h1]
   exact ML b o k b2 o2 k2 xs ys w (hb h0) hx (hb2 h1) hy dx dy hsx hsy
end Z4
end Go.Proofs.YtnmlkobogofadaaGreatDoor
