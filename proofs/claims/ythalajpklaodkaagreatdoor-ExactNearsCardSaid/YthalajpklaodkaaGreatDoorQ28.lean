/- What the proof rests on, part 28. -/
import Derived.Test.YthalajpklaodkaaGreatDoorQ19
import Derived.Test.YthalajpklaodkaaGreatDoorQ18
import Derived.Test.YthalajpklaodkaaGreatDoorQ27
namespace Go.Proofs.YthalajpklaodkaaGreatDoor
set_option maxRecDepth 100000
set_option maxHeartbeats 80000000
namespace Z4
open Go.RowKit Go.Sort
structure lG (xs ys ds:List Nat) (k c:Nat):Prop where
 len:ds.length=k
 dig:Dig ds
 le:c≤1
 eq:val ds+c*B4 ^ k=val (xs.take k)+val (ys.take k)
 top:k=0∨(∃ e d,ds=e ++ [d]∧d≠0)∨k<xs.length∨k<ys.length∨0<c
 b1:k≤xs.length+ys.length+1
 b2:0<c→k≤xs.length+ys.length
theorem lG.start (xs ys:List Nat):lG xs ys [] 0 0:=⟨rfl,Dig.nil,by omega,by simp [val],.inl rfl,by omega,by omega⟩
theorem OU (xs:List Nat) (k:Nat):val (xs.take (k+1))=val (xs.take k)+B4 ^ k*xs[k]?.getD 0:=by
 by_cases hk:k<xs.length
 ·rw [BG xs k hk,List.getElem?_eq_getElem hk];rfl
 ·rw [List.getElem?_eq_none (by omega),List.take_of_length_le (by omega),List.take_of_length_le (by omega)];simp
theorem lG.step {xs ys ds:List Nat} {k c x y d c':Nat} (h:lG xs ys ds k c) (hgo:k<xs.length∨k<ys.length∨0<c) (tx:aA xs) (ty:aA ys) (hx:xs[k]?.getD 0=x) (hy:ys[k]?.getD 0=y) (hd:d<10000) (hc:c'≤1) (e:c+x+y=d+c' * 10000) (e0:k<xs.length→x<10000) (e1:k<ys.length→y<10000) :
  lG xs ys (ds ++ [d]) (k+1) c':=by
 have hb:xs.length≤k→x=0:=fun h=>by rw [← hx,List.getElem?_eq_none h];rfl
 have hb':ys.length≤k→y=0:=fun h=>by rw [← hy,List.getElem?_eq_none h];rfl
 have hle:=h.le
 have hb1:=h.b1
 have hb2:=h.b2
 have hlast:k+1=xs.length→x≠0:=fun hk e0=>by
  have hne:xs≠[]:=fun e=>by subst e;simp at hk
  have:=tx hne
  rw [List.getLast_eq_getElem] at this
  apply this
  rw [← e0,← hx,List.getElem?_eq_getElem (by omega)]
  simp only [Option.getD_some]
  congr 1
  omega
 have hlast':k+1=ys.length→y≠0:=fun hk e0=>by
  have hne:ys≠[]:=fun e=>by subst e;simp at hk
  have:=ty hne
  rw [List.getLast_eq_getElem] at this
  apply this
  rw [← e0,← hy,List.getElem?_eq_getElem (by omega)]
  simp only [Option.getD_some]
  congr 1
  omega
 refine ⟨by simp [h.len],h.dig.append (fun z hz=>by simp at hz;subst hz;exact hd),hc,?_,?_,?_,?_⟩
 ·have h1:=h.eq
  rw [OU xs,OU ys,iH,h.len,Nat.pow_succ,hx,hy,show B4=10000 from rfl]
  rw [show B4=10000 from rfl] at h1
  generalize 10000 ^ k=P at *
  generalize val (xs.take k)=X at *
  generalize val (ys.take k)=Y at *
  generalize val ds=D at *
  have:=congrArg (P * ·) e
  grind
 ·right
  by_cases hd0:d=0
  ·right
   subst hd0
   rcases Nat.eq_zero_or_pos c' with hc0 | hc0
   ·subst hc0
    have:c=0∧x=0∧y=0:=by omega
    obtain ⟨rfl,rfl,rfl⟩:=this
    rcases Nat.lt_trichotomy (k+1) xs.length with h1 | h1 | h1
    ·exact .inl h1
    ·exact absurd rfl (hlast h1)
    ·rcases Nat.lt_trichotomy (k+1) ys.length with h2 | h2 | h2
     ·exact .inr (.inl h2)
     ·exact absurd rfl (hlast' h2)
     ·omega
   ·exact .inr (.inr hc0)
  ·exact .inl ⟨ds,d,rfl,hd0⟩
 ·omega
 ·intro hc0
  by_cases h1:k<xs.length
  ·omega
  ·by_cases h2:k<ys.length
   ·omega
   ·have:=hb (by omega);have:=hb' (by omega);omega
theorem lG.done {xs ys ds:List Nat} {k:Nat} (h:lG xs ys ds k 0) (h1:xs.length≤k) (h2:ys.length≤k):val ds=val xs+val ys∧aA ds:=by
 refine ⟨?_,?_⟩
 ·have:=h.eq
  rw [List.take_of_length_le h1,List.take_of_length_le h2] at this
  omega
 ·intro hne
  rcases h.top with h3 | ⟨e,d,rfl,hd⟩ | h3 | h3 | h3
  ·exfalso;apply hne;rw [← List.length_eq_zero_iff,h.len,h3]
  ·simpa using hd
  ·omega
  ·omega
  ·omega
theorem Zd (p p2:Option Addr) (b o k b2 o2 k2:Nat) (xs ys:List Nat) (w:World) (hp:xs.length≠0→p=some ⟨b,o,none⟩) (hbw:xs.length≠0→b<w.heap.size) (hx:Ints w b o xs) (hp2:ys.length≠0→p2=some ⟨b2,o2,none⟩) (hbw2:ys.length≠0→b2<w.heap.size) (hy:Ints w b2 o2 ys)
  (dx:Dig xs) (dy:Dig ys) (tx:aA xs) (ty:aA ys) (hsz:xs.length≤549755813888) (hsz2:ys.length≤549755813888) :
  Calls Tryz.prog 151 #[.slice p xs.length k,.slice p2 ys.length k2] w (jS w (val xs+val ys)):=by
 have HP:=hid (And.intro hp (And.intro hbw hx))
 have HP2:=hid (And.intro hp2 (And.intro hbw2 hy))
 have HT:=hid (And.intro tx ty)
 clear hp hbw hx hp2 hbw2 hy tx ty
 obtain ⟨i0,hi,hz0,hz1,hz2⟩:=info_parts oO
 obtain ⟨V,hV⟩:∃ V,val xs+val ys=V:=⟨_,rfl⟩
 rw [hV]
 have HVV:=hid hV
 clear hV
 go_enter Tryz.func151,Tryz.ntmps151
 go_wp2
 go_loopw [5,6,7] (fun ov cv iv wr=>∃ (i c:Nat) (ds:List Nat),iv=.int .i64 i∧cv=.int .i64 c∧wr.ownsRow w.heap.size 3 1 ov i (ds.map enc)∧lG xs ys ds i c∧Below w.heap.size w wr) (fun _ _ iv _=>(xs.length+ys.length+1) - (intOf iv).toNat)
 case atStart=>exact ⟨0,0,[],rfl,rfl,World.ownsRow_nil _ _ _ _,lG.start xs ys,Below.refl _ _⟩
 case round =>
  obtain ⟨i,c,ds,rfl,rfl,hown,hI,hB⟩:=hrel
  have hc1:=hI.le
  have hb1:=hI.b1
  have hb2:=hI.b2
  have HB:=hid hB
  have HO:=hid hown
  by_cases hgo:i<xs.length∨i<ys.length∨0<c
  ·obtain ⟨x,hxi⟩:∃ x,xs[i]?.getD 0=x:=⟨_,rfl⟩
   obtain ⟨y,hyi⟩:∃ y,ys[i]?.getD 0=y:=⟨_,rfl⟩
   have hx1:x<10000:=hxi ▸ dx.getD i
   have hy1:y<10000:=hyi ▸ dy.getD i
   have HI:=hid (fun (d c':Nat) (hd:d<10000) (hc:c'≤1) (e:c+x+y=d+c' * 10000) (e0:k=k) (e1:k=k)=>hI.step hgo HT.out.1 HT.out.2 hxi hyi hd hc e (fun _=>hx1) (fun _=>hy1))
   have HX:=hid hxi
   have HY:=hid hyi
   clear hI hxi hyi hB hown
   by_cases hlx:i<xs.length
   ·by_cases hly:i<ys.length
    ·clear hgo
     obtain rfl:=HP.out.1 (by omega)
     have cx:wr.cell? ⟨b,o+i,none⟩=some (.int .i64 (x:Int)):=by rw [HB.out.cell (p:=⟨b,o+i,none⟩) (HP.out.2.1 (by omega)),HP.out.2.2 i (by omega),HX.out]
     obtain rfl:=HP2.out.1 (by omega)
     have cy:wr.cell? ⟨b2,o2+i,none⟩=some (.int .i64 (y:Int)):=by rw [HB.out.cell (p:=⟨b2,o2+i,none⟩) (HP2.out.2.1 (by omega)),HP2.out.2.2 i (by omega),HY.out]
     obtain ⟨s,hs⟩:∃ s:Nat,s=c+x+y:=⟨_,rfl⟩
     obtain ⟨d,hd⟩:∃ d:Nat,d=s % 10000:=⟨_,rfl⟩
     obtain ⟨c',hc'⟩:∃ c':Nat,c' = s / 10000:=⟨_,rfl⟩
     have hd1:d<10000:=by omega
     have HN:=hid (HI.out d c' hd1 (by omega) (by omega) (by omega) (by omega))
     have HD:=hid (And.intro hs (And.intro hd hc'))
     clear hs hd hc' hd1
     go_wp2_with (first
      | (at_builtin;refine wpList_append_own _ rfl _ _ 33 rfl w.heap.size 3 i0 (.int .i64 0) 1 8 Tryz.underlying33 hi hz0 hz1 hz2 rfl (by decide) _ _ _ rfl (HO.out.alloc _) ⟨wr.heap.size,0,none⟩ 1 1 [.int .i64 (d:Int)] rfl rfl ?c1 ?c2 ?c3 ?c4 ?c5 ?_))
     case c1 =>
      intro j u hj
      match j,hj with
      | 0,hj=>simp at hj;subst hj;have:=HD.out;first | (simp;omega) | (simp [Addr.add];omega) | (simp [Addr.add])
     case c2=>first | rfl | (intro u hu;simp at hu;subst hu;rfl)
     case c3=>unfold maxLen;omega
     case c4=>omega
     case c5=>have:=HB.out.size;simp;omega
     intro v' w1 hown' hgrow _
     have hB2:Below w.heap.size w w1:=(HB.out.alloc HB.out.size _).grown hgrow (by have:=HB.out.size;simp;omega) (fun k hk=>(HO.out.lt k hk).1)
     rw [← jD] at hown'
     have HO2:=hid hown'
     have HB2:=hid hB2
     clear hown' hgrow hB2
     go_wp2
     go_roundw
     case rel=>exact ⟨i+1,c',ds ++ [d],by go_num,by have:=HD.out;first | rfl | (congr 1;omega),HO2.out,HN.out,HB2.out⟩
     case measure=>simp [intOf];omega
    ·clear hgo
     obtain rfl:=HP.out.1 (by omega)
     have cx:wr.cell? ⟨b,o+i,none⟩=some (.int .i64 (x:Int)):=by rw [HB.out.cell (p:=⟨b,o+i,none⟩) (HP.out.2.1 (by omega)),HP.out.2.2 i (by omega),HX.out]
     obtain rfl:y=0:=by rw [← HY.out,List.getElem?_eq_none (by omega)];rfl
     obtain ⟨s,hs⟩:∃ s:Nat,s=c+x+0:=⟨_,rfl⟩
     obtain ⟨d,hd⟩:∃ d:Nat,d=s % 10000:=⟨_,rfl⟩
     obtain ⟨c',hc'⟩:∃ c':Nat,c' = s / 10000:=⟨_,rfl⟩
     have hd1:d<10000:=by omega
     have HN:=hid (HI.out d c' hd1 (by omega) (by omega) (by omega) (by omega))
     have HD:=hid (And.intro hs (And.intro hd hc'))
     clear hs hd hc' hd1
     go_wp2_with (first
      | (at_builtin;refine wpList_append_own _ rfl _ _ 33 rfl w.heap.size 3 i0 (.int .i64 0) 1 8 Tryz.underlying33 hi hz0 hz1 hz2 rfl (by decide) _ _ _ rfl (HO.out.alloc _) ⟨wr.heap.size,0,none⟩ 1 1 [.int .i64 (d:Int)] rfl rfl ?c1 ?c2 ?c3 ?c4 ?c5 ?_))
     case c1 =>
      intro j u hj
      match j,hj with
      | 0,hj=>simp at hj;subst hj;have:=HD.out;first | (simp;omega) | (simp [Addr.add];omega) | (simp [Addr.add])
     case c2=>first | rfl | (intro u hu;simp at hu;subst hu;rfl)
     case c3=>unfold maxLen;omega
     case c4=>omega
     case c5=>have:=HB.out.size;simp;omega
     intro v' w1 hown' hgrow _
     have hB2:Below w.heap.size w w1:=(HB.out.alloc HB.out.size _).grown hgrow (by have:=HB.out.size;simp;omega) (fun k hk=>(HO.out.lt k hk).1)
     rw [← jD] at hown'
     have HO2:=hid hown'
     have HB2:=hid hB2
     clear hown' hgrow hB2
     go_wp2
     go_roundw
     case rel=>exact ⟨i+1,c',ds ++ [d],by go_num,by have:=HD.out;first | rfl | (congr 1;omega),HO2.out,HN.out,HB2.out⟩
     case measure=>simp [intOf];omega
   ·by_cases hly:i<ys.length
    ·clear hgo
     obtain rfl:x=0:=by rw [← HX.out,List.getElem?_eq_none (by omega)];rfl
     obtain rfl:=HP2.out.1 (by omega)
     have cy:wr.cell? ⟨b2,o2+i,none⟩=some (.int .i64 (y:Int)):=by rw [HB.out.cell (p:=⟨b2,o2+i,none⟩) (HP2.out.2.1 (by omega)),HP2.out.2.2 i (by omega),HY.out]
     obtain ⟨s,hs⟩:∃ s:Nat,s=c+0+y:=⟨_,rfl⟩
     obtain ⟨d,hd⟩:∃ d:Nat,d=s % 10000:=⟨_,rfl⟩
     obtain ⟨c',hc'⟩:∃ c':Nat,c' = s / 10000:=⟨_,rfl⟩
     have hd1:d<10000:=by omega
     have HN:=hid (HI.out d c' hd1 (by omega) (by omega) (by omega) (by omega))
     have HD:=hid (And.intro hs (And.intro hd hc'))
     clear hs hd hc' hd1
     go_wp2_with (first
      | (at_builtin;refine wpList_append_own _ rfl _ _ 33 rfl w.heap.size 3 i0 (.int .i64 0) 1 8 Tryz.underlying33 hi hz0 hz1 hz2 rfl (by decide) _ _ _ rfl (HO.out.alloc _) ⟨wr.heap.size,0,none⟩ 1 1 [.int .i64 (d:Int)] rfl rfl ?c1 ?c2 ?c3 ?c4 ?c5 ?_))
     case c1 =>
      intro j u hj
      match j,hj with
      | 0,hj=>simp at hj;subst hj;have:=HD.out;first | (simp;omega) | (simp [Addr.add];omega) | (simp [Addr.add])
     case c2=>first | rfl | (intro u hu;simp at hu;subst hu;rfl)
     case c3=>unfold maxLen;omega
     case c4=>omega
     case c5=>have:=HB.out.size;simp;omega
     intro v' w1 hown' hgrow _
     have hB2:Below w.heap.size w w1:=(HB.out.alloc HB.out.size _).grown hgrow (by have:=HB.out.size;simp;omega) (fun k hk=>(HO.out.lt k hk).1)
     rw [← jD] at hown'
     have HO2:=hid hown'
     have HB2:=hid hB2
     clear hown' hgrow hB2
     go_wp2
     go_roundw
     case rel=>exact ⟨i+1,c',ds ++ [d],by go_num,by have:=HD.out;first | rfl | (congr 1;omega),HO2.out,HN.out,HB2.out⟩
     case measure=>simp [intOf];omega
    ·have hc0:0<c:=by omega
     clear hgo
     obtain rfl:x=0:=by rw [← HX.out,List.getElem?_eq_none (by omega)];rfl
     obtain rfl:y=0:=by rw [← HY.out,List.getElem?_eq_none (by omega)];rfl
     have hcc:0<c:=by omega
     obtain rfl:c=1:=by omega
     obtain ⟨s,hs⟩:∃ s:Nat,s=1+0+0:=⟨_,rfl⟩
     obtain ⟨d,hd⟩:∃ d:Nat,d=s % 10000:=⟨_,rfl⟩
     obtain ⟨c',hc'⟩:∃ c':Nat,c' = s / 10000:=⟨_,rfl⟩
     have hd1:d<10000:=by omega
     have HN:=hid (HI.out d c' hd1 (by omega) (by omega) (by omega) (by omega))
     have HD:=hid (And.intro hs (And.intro hd hc'))
     clear hs hd hc' hd1
     go_wp2_with (first
      | (at_builtin;refine wpList_append_own _ rfl _ _ 33 rfl w.heap.size 3 i0 (.int .i64 0) 1 8 Tryz.underlying33 hi hz0 hz1 hz2 rfl (by decide) _ _ _ rfl (HO.out.alloc _) ⟨wr.heap.size,0,none⟩ 1 1 [.int .i64 (d:Int)] rfl rfl ?c1 ?c2 ?c3 ?c4 ?c5 ?_))
     case c1 =>
      intro j u hj
      match j,hj with
      | 0,hj=>simp at hj;subst hj;have:=HD.out;first | (simp;omega) | (simp [Addr.add];omega) | (simp [Addr.add])
     case c2=>first | rfl | (intro u hu;simp at hu;subst hu;rfl)
     case c3=>unfold maxLen;omega
     case c4=>omega
     case c5=>have:=HB.out.size;simp;omega
     intro v' w1 hown' hgrow _
     have hB2:Below w.heap.size w w1:=(HB.out.alloc HB.out.size _).grown hgrow (by have:=HB.out.size;simp;omega) (fun k hk=>(HO.out.lt k hk).1)
     rw [← jD] at hown'
     have HO2:=hid hown'
     have HB2:=hid hB2
     clear hown' hgrow hB2
     go_wp2
     go_roundw
     case rel=>exact ⟨i+1,c',ds ++ [d],by go_num,by have:=HD.out;first | rfl | (congr 1;omega),HO2.out,HN.out,HB2.out⟩
     case measure=>simp [intOf];omega
  ·have hlx:¬ i<xs.length:=by omega
   have hly:¬ i<ys.length:=by omega
   obtain rfl:c=0:=by omega
   clear hgo
   have HD:=hid (hI.done (by omega) (by omega))
   have HL:=hid (IsL.of_own hown)
   have HI:=hid hI
   clear hI hown hB
   go_wp2
   go_ret
   exact ⟨_,_,rfl,HL.out,HI.out.dig,HD.out.2,by rw [HD.out.1,HVV.out],HB.out⟩
theorem Za {B B2:Nat} (v v2:Value) (xs ys:List Nat) (w:World) (h:IsL B w v xs) (h2:IsL B2 w v2 ys) (dx:Dig xs) (dy:Dig ys) (tx:aA xs) (ty:aA ys) (hsz:xs.length≤549755813888) (hsz2:ys.length≤549755813888) :
  Calls Tryz.prog 151 #[v,v2] w (jS w (val xs+val ys)):=by
 obtain ⟨p,b,o,k,rfl,hp,hb,hk,hx⟩:=h.shape
 obtain ⟨p2,b2,o2,k2,rfl,hp2,hb2,hk2,hy⟩:=h2.shape
 exact Zd p p2 b o k b2 o2 k2 xs ys w hp hb hx hp2 hb2 hy dx dy tx ty hsz hsz2
end Z4
section
def flo (r:Rat):Int:=r.num / (r.den:Int)
theorem KC (r:Rat):flo r=r.floor:=by rw [Rat.floor_def];rfl
theorem U0 (r:Rat):(flo r:Rat)≤r:=by rw [KC];exact Rat.floor_le r
theorem Xv (r:Rat):r<(flo r:Rat)+1:=by have:=@Rat.lt_floor r;rw [KC];grind
theorem UZ {r:Rat} {n:Int} (h1:(n:Rat)≤r) (h2:r<(n:Rat)+1):flo r=n:=by
 have a1:=U0 r
 have a2:=Xv r
 have b1:(n:Rat)<(flo r:Rat)+1:=by grind
 have b2:(flo r:Rat)<(n:Rat)+1:=by grind
 have c1:n<flo r+1:=by exact_mod_cast b1
 have c2:flo r<n+1:=by exact_mod_cast b2
 omega
theorem zk (z:Int) (d:Nat) (hd:0<d):flo ((z:Rat) / ((d:Int):Rat))=z / (d:Int):=by
 have hd':(0:Rat)<((d:Int):Rat):=by exact_mod_cast (show (0:Int)<d by omega)
 have hm:=Int.mul_ediv_add_emod z d
 have h0:=Int.emod_nonneg z (show (d:Int)≠0 by omega)
 have h1:=Int.emod_lt_of_pos z (show (0:Int)<d by omega)
 refine UZ ?_ ?_
 ·rw [← Rat.not_lt,Rat.div_lt_iff hd',Rat.not_lt,← Rat.intCast_mul]
  have:z / (d:Int)*d≤z:=by rw [Int.mul_comm];omega
  exact_mod_cast this
 ·rw [Rat.div_lt_iff hd',← show ((z / (d:Int)+1:Int):Rat)=((z / (d:Int):Int):Rat)+1 by rw [Rat.intCast_add];rfl,← Rat.intCast_mul]
  have:z<(z / (d:Int)+1)*d:=by rw [Int.add_mul,Int.mul_comm];omega
  exact_mod_cast this
end
namespace Rx
open Go.RowKit
def jB:RE→Bool
 | .den _=>true
 | .mul a b=>jB a && jB b
 | .c n=>decide (0<n)
 | _=>false
theorem AQ {β:Nat→Rat}:∀ {e:RE},jB e=true→e.ev β≠0
 | .den a,_=>fun h=>by
  have h1:((((a.ev β).den:Nat):Int):Rat)=((0:Int):Rat):=h
  have h2:(((a.ev β).den:Nat):Int)=0:=by exact_mod_cast h1
  have:=(a.ev β).den_nz
  omega
 | .mul a b,h=>by
  simp only [jB,Bool.and_eq_true] at h
  intro h0
  rcases Rat.mul_eq_zero.1 (show a.ev β*b.ev β=0 from h0) with h1 | h1
  ·exact AQ h.1 h1
  ·exact AQ h.2 h1
 | .c n,h=>fun h0=>by
  simp only [jB,decide_eq_true_eq] at h
  have h1:((n:Int):Rat)=((0:Int):Rat):=h0
  have:n=0:=by exact_mod_cast h1
  omega
 | .v _,h | .add _ _,h | .sub _ _,h | .div _ _,h | .neg _,h | .abs _,h | .flo _,h | .num _,h=>by cases h
theorem wJ {β:Nat→Rat}:∀ {e:RE},jB e=true→0<e.ev β
 | .den a,_=>by
  show (0:Rat)<((((a.ev β).den:Nat):Int):Rat)
  exact_mod_cast show (0:Int)<(((a.ev β).den:Nat):Int) by have:=(a.ev β).den_pos;omega
 | .mul a b,h=>by
  simp only [jB,Bool.and_eq_true] at h
  exact Rat.mul_pos (wJ h.1) (wJ h.2)
 | .c n,h=>by
  simp only [jB,decide_eq_true_eq] at h
  show (0:Rat)<((n:Int):Rat)
  exact_mod_cast h
 | .v _,h | .add _ _,h | .sub _ _,h | .div _ _,h | .neg _,h | .abs _,h | .flo _,h | .num _,h=>by cases h
def rem (e e':RE):RE:=.sub e (.mul e' (.flo (.div e e')))
theorem wP {β:Nat→Rat} {n m:Nat} (hm:0<m) {e e':RE} (h:((n:Nat):Rat)=e.ev β) (h':((m:Nat):Rat)=e'.ev β):((n / m:Nat):Rat)=(RE.flo (.div e e')).ev β:=by
 show _=((flo (e.ev β / e'.ev β):Int):Rat)
 rw [← h,← h',show ((n:Nat):Rat) / ((m:Nat):Rat)=(((n:Nat):Int):Rat) / (((m:Nat):Int):Rat) from rfl,zk _ _ hm,← Int.natCast_ediv]
 rfl
theorem AY {β:Nat→Rat} {n m:Nat} (hm:0<m) {e e':RE} (h:((n:Nat):Rat)=e.ev β) (h':((m:Nat):Rat)=e'.ev β):((n % m:Nat):Rat)=(rem e e').ev β:=by
 show _=e.ev β - e'.ev β*(RE.flo (.div e e')).ev β
 rw [← wP hm h h',← h,← h',← Rat.natCast_mul]
 have:=congrArg (fun x:Nat=>(x:Rat)) (Nat.div_add_mod n m)
 simp only [Rat.natCast_add] at this
 grind
end Rx
namespace Rx
open Go.RowKit
inductive Fd
 | l (s:Nat) (e:RE) (k:Nat)
 | z (s:Nat) (e:RE) (k:Nat)
 | r (s:Nat) (e:RE) (k:Nat)
 | n (b s:Nat)
 | i (s:Nat) (e:RE)
def Fd.nm:Fd→List Nat
 | .n b s=>[b,s]
 | .i s _=>[s]
 | .l s _ _ | .z s _ _=>[s]
 | .r s _ _=>[s,s+1]
def IsG (W:World) (v:Value) (r:Rat) (k:Nat):Prop:=∃ xs,Z4.IsL 0 W v xs∧Z4.Dig xs∧Z4.aA xs∧((Z4.val xs:Nat):Rat)=r∧Z4.val xs<B64 ^ k
def IsY (W:World) (v:Value) (r:Rat) (k:Nat):Prop:=∃ z:Int,Z4.IsZ W v z∧(z:Rat)=r∧z.natAbs<B64 ^ k
def Fd.on (β:Nat→Rat) (ρ:Env):Fd→World→Prop
 | .l s e k,W=>IsG W (.slice (ρ s).p (ρ s).l (ρ s).c) (e.ev β) k
 | .z s e k,W=>IsY W (.agg ((zC s).map (Cell.den ρ)).toArray) (e.ev β) k
 | .r s e k,W=>Z4.IsR W (.agg ((aT s).map (Cell.den ρ)).toArray) (e.ev β)∧Fits k (e.ev β)
 | .n b s,_=>(ρ b).u=((ρ s).l:Int)
 | .i s e,_=>(((ρ s).u:Int):Rat)=e.ev β
def iC:List Fd→Nat→Option (RE×Nat)
 | [],_=>none
 | .l s e k :: r,n=>if s=n then some (e,k) else iC r n
 | _ :: r,n=>iC r n
theorem gy {n:Nat} {e:RE} {k:Nat}:∀ {db:List Fd},iC db n=some (e,k)→.l n e k∈db
 | [],h=>by simp [iC] at h
 | f :: r,h=>by
  cases f with
  | l s e' k' =>
   simp only [iC] at h
   split at h
   ·rename_i hs;cases h;subst hs;simp
   ·exact List.mem_cons_of_mem _ (gy h)
  | z _ _ _=>exact List.mem_cons_of_mem _ (gy h)
  | r _ _ _=>exact List.mem_cons_of_mem _ (gy h)
  | n _ _=>exact List.mem_cons_of_mem _ (gy h)
  | i _ _=>exact List.mem_cons_of_mem _ (gy h)
def SR (β:Nat→Rat):Sys where
 F:=Fd
 nm:=Fd.nm
 on:=Fd.on β
 okC:=okC
 cg:=fun {ρ ρ' f W} h hf=>by
  cases f with
  | l s e k=>simp only [Fd.on] at hf ⊢;rw [← h s (by simp [Fd.nm])];exact hf
  | z s e k =>
   simp only [Fd.nm,List.mem_cons,List.not_mem_nil,or_false] at h
   simp only [Fd.on] at hf ⊢
   rwa [kP (ρ:=ρ') (ρ':=ρ) (l:=zC s) fun n hn=>(h n (by simpa [zC,Cell.nm] using hn)).symm]
  | r s e k =>
   simp only [Fd.nm,List.mem_cons,List.not_mem_nil,or_false] at h
   simp only [Fd.on] at hf ⊢
   rwa [kP (ρ:=ρ') (ρ':=ρ) (l:=aT s) fun n hn=>(h n (by simpa [aT,Cell.nm] using hn)).symm]
  | n b t=>simp only [Fd.on] at hf ⊢;rw [← h b (by simp [Fd.nm]),← h t (by simp [Fd.nm])];exact hf
  | i t e=>simp only [Fd.on] at hf ⊢;rw [← h t (by simp [Fd.nm])];exact hf
 bl:=fun {ρ f W W'} hb hf=>by
  cases f with
  | l s e k=>obtain ⟨xs,h1,h2⟩:=hf;exact ⟨xs,h1.below hb,h2⟩
  | z s e k=>obtain ⟨z,h1,h2⟩:=hf;exact ⟨z,h1.below hb,h2⟩
  | r s e k=>exact ⟨Z4.IsR.below hf.1 hb,hf.2⟩
  | n b t=>exact hf
  | i t e=>exact hf
 st:=fun {ρ f W b T cs i u} hok _ hb hf=>by
  have hv:=Az ρ hok
  have hb':Go.Proofs.YthalajpklaodkaaGreatDoor.Bx W b T (cs.map (Cell.den ρ)):=hb
  cases f with
  | l s e k=>obtain ⟨xs,h1,h2⟩:=hf;exact ⟨xs,h1.setBox hb' hv,h2⟩
  | z s e k=>obtain ⟨z,h1,h2⟩:=hf;exact ⟨z,h1.setBox hb' hv,h2⟩
  | r s e k=>exact ⟨Z4.IsR.setBox hf.1 hb' hv,hf.2⟩
  | n b t=>exact hf
  | i t e=>exact hf
 lit:=fun x b=>if 0<x∧x<10000 then [.l b (.c x) 1] else []
 litOk:=fun {x b f ρ W T} hm h1 h2 h3=>by
  split at hm
  ·rename_i hx
   rw [List.mem_singleton] at hm
   subst hm
   obtain ⟨m,rfl⟩:∃ m:Nat,x=(m:Int):=⟨x.toNat,by omega⟩
   show IsG _ (.slice (ρ b).p (ρ b).l (ρ b).c) _ 1
   rw [h1,h2,h3]
   refine ⟨[m],.inr ⟨W.heap.size,0,1,rfl,Nat.zero_le _,by simp,Nat.le_refl _,fun j hj=>?_⟩,fun y hy=>?_,fun _=>?_,?_,?_⟩
   ·have:j=0:=by simpa using hj
    subst this
    go_simp
   ·rw [List.mem_singleton] at hy;subst hy;show _<10000;omega
   ·simp;omega
   ·simp [Z4.val,RE.ev];rfl
   ·simp [Z4.val];unfold B64;omega
  ·cases hm
 elt:=fun db s j b=>match j,iC db s with
  | 0,some (e,_)=>if jB e then some [.i b (rem e (.c 10000))] else none
  | _,_=>none
 eltOk:=fun {db s j b fs ρ W} h hf=>by
  split at h
  ·rename_i e k hx
   split at h
   ·rename_i hp
    cases h
    obtain ⟨xs,h1,h2,h3,h4,-⟩:=(show IsG W (.slice (ρ s).p (ρ s).l (ρ s).c) (e.ev β) k from hf _ (gy hx))
    have hpos:=wJ (β:=β) hp
    rcases h1 with ⟨-,rfl⟩ | ⟨b0,o,k0,hv,-,-,-,h5⟩
    ·exfalso
     rw [← h4] at hpos
     exact absurd hpos (by decide)
    ·obtain ⟨hp1,hp2,-⟩:=Value.slice.inj hv
     cases xs with
     | nil=>exfalso;rw [← h4] at hpos;exact absurd hpos (by decide)
     | cons x r =>
      have hc:=h5 0 (by simp)
      refine ⟨by rw [hp2];simp,_,(x:Int),hp1,by rw [vC];exact hc,fun ρ' _ hu f hm=>?_⟩
      rw [List.mem_singleton] at hm
      subst hm
      show (((ρ' b).u:Int):Rat)=_
      rw [hu]
      have hx1:x<10000:=h2 x (by simp)
      have:=AY (β:=β) (n:=Z4.val (x :: r)) (m:=10000) (e:=e) (e':=.c 10000) (by decide) h4 rfl
      rw [← this,show Z4.val (x :: r) % 10000=x by show (x+10000*Z4.val r) % 10000=x;omega]
      rfl
   ·cases h
  ·cases h
 len:=fun s b=>[.n b s]
 lenOk:=fun {s b f ρ W} hm h=>by
  rw [List.mem_singleton] at hm
  subst hm
  exact h
def HR (β:Nat→Rat):Tests (SR β) where
 eq:=fun _ _ _=>none
 ok:=fun h=>(by cases h)
theorem xW (k:Nat):B64 ^ k≤Z4.B4 ^ (5*k):=by
 rw [Nat.pow_mul]
 exact Nat.pow_le_pow_left (by decide) k
theorem qK {xs:List Nat} {k:Nat} (t:Z4.aA xs) (h:Z4.val xs<B64 ^ k):xs.length≤5*k:=Z4.jh t (Nat.lt_of_lt_of_le h (xW k))
def asG (db:List Fd):Cell→Option (RE×Nat)
 | .os s=>iC db s
 | .nils=>some (.c 0,0)
 | _=>none
theorem jT {β:Nat→Rat} {ρ:Env} {W:World} {db:List Fd} {c:Cell} {e:RE} {k:Nat} (h:asG db c=some (e,k)) (hf:∀ f∈db,(SR β).on ρ f W):IsG W (c.den ρ) (e.ev β) k:=by
 unfold asG at h
 split at h
 ·exact hf _ (gy h)
 ·cases h
  exact ⟨[],Z4.IsL.nil 0 W,Z4.Dig.nil,fun h=>absurd rfl h,rfl,by simp [Z4.val]⟩
 ·cases h
section
variable (β:Nat→Rat) (h:Hint)
def DX:Con (SR β) where
 fn:=151
 app:=fun db b args=>match args with
  | [.e (.s x),.e (.s y)]=>match asG db x,asG db y with
   | some (e,k),some (e',k')=>if decide (k≤K1) && decide (k'≤K1) then some (.e (.s (.os b)),[.l b (.add e e') (max k k' + 1)]) else none
   | _,_=>none
  | _=>none
def DU:Con (SR β) where
 fn:=152
 app:=fun db b args=>match args with
  | [.e (.s x),.e (.s y)]=>match asG db x,asG db y with
   | some (e,k),some (e',k')=>if decide (k≤K1) && decide (k'≤K1) && (cmB h e e').any (0≤·) then some (.e (.s (.os b)),[.l b (.sub e e') k]) else none
   | _,_=>none
  | _=>none
def Dz:Con (SR β) where
 fn:=140
 app:=fun db _ args=>match args with
  | [.e (.s x),.e (.s y)]=>match asG db x,asG db y with
   | some (e,k),some (e',k')=>if decide (k≤K1) && decide (k'≤K1) then (match cmB h e e' with
     | some c=>some (.e (.s (.it .i64 c)),[])
     | none=>none) else none
   | _,_=>none
  | _=>none
def Ec:Con (SR β) where
 fn:=109
 app:=fun db _ args=>match args with
  | [.e (.s (.bl t)),.e (.s (.os s))]=>match iC db s with
   | some (e,_)=>if !t then some (.e (.a [.bl false,.os s]),[]) else
     if nzB h e then some (.e (.a [.bl true,.os s]),[]) else
     if eqB h e (.c 0) then some (.e (.a [.bl false,.os s]),[]) else none
   | none=>none
  | _=>none
def cz:List (Con (SR β)):=[DX β,DU β h,Dz β h,Ec β h]
end
section
variable {β:Nat→Rat} {h:Hint}
def Anr (β:Nat→Rat) (ρ:Env) (b:Nat) (W:World) (res:SV) (new:List Fd) (e:Ending) (W':World):Prop:=
 ∃ ρ':Env,(∀ n,n<b∨b+M≤n→ρ' n=ρ n)∧e=.returned (res.den ρ')∧Below W.heap.size W W'∧∀ g∈new,(SR β).on ρ' g W'
theorem Zp {a b:Nat}:((a:Nat):Rat)<((b:Nat):Rat)↔a<b:=by exact_mod_cast Iff.rfl
theorem I4 {f:FuncId} {vals:Array Value} {W:World} {ρ:Env} {b:Nat} {n:Nat} {e:RE} {k:Nat} (hc:Calls Tryz.prog f vals W (Z4.jS W n)) (hn:((n:Nat):Rat)=e.ev β) (hk:n<B64 ^ k) :
  Calls Tryz.prog f vals W (Anr β ρ b W (.e (.s (.os b))) [.l b e k]):=by
 refine hc.mono fun _ W' ⟨v,ds,he,hl,hd,ht,hv,hb⟩=>?_
 obtain ⟨p,l,c,rfl⟩:=hl.mk
 refine ⟨aG ρ b [⟨false,0,p,l,c,.empty,0,default⟩],iE (by simp [M]),?_,hb,fun g hg=>?_⟩
 ·rw [he];simp [SV.den,El.den,Cell.den,aG]
 ·rw [List.mem_singleton] at hg
  subst hg
  refine ⟨ds,?_,hd,ht,by rw [hv];exact hn,by rw [hv];exact hk⟩
  simpa [aG] using hl.mono (Nat.zero_le _)
theorem RX:(DX β).Ok Tryz.prog (SR β) EV:=by
 refine Con.ok0 rfl ?_
 intro db b args res new ha ρ W hf hE
 simp only [DX] at ha
 split at ha
 ·split at ha
  ·rename_i x y _ _ e k e' k' hx hy
   split at ha
   ·rename_i hk
    simp only [Bool.and_eq_true,decide_eq_true_eq] at hk
    cases ha
    obtain ⟨xs,h1,h2,h3,h4,h5⟩:=jT hx hf
    obtain ⟨ys,g1,g2,g3,g4,g5⟩:=jT hy hf
    refine I4 (e:=.add e e') (Z4.Za _ _ xs ys W h1 g1 h2 g2 h3 g3 (Nat.le_trans (qK h3 h5) (by simp only [K1] at hk;omega)) (Nat.le_trans (qK g3 g5) (by simp only [K1] at hk;omega))) (by rw [Rat.natCast_add,h4,g4];rfl) ?_
    have a1:=Nat.pow_le_pow_right (show 0<B64 by decide) (Nat.le_max_left k k')
    have a2:=Nat.pow_le_pow_right (show 0<B64 by decide) (Nat.le_max_right k k')
    rw [Nat.pow_succ]
    have:B64 ^ max k k' * 2≤B64 ^ max k k' * B64:=Nat.mul_le_mul_left _ (by decide)
    omega
   ·cases ha
  ·cases ha
 ·cases ha
theorem qo {m n:Nat}:aF ((m:Nat):Rat) ((n:Nat):Rat)=aC m n:=by
 unfold aF aC
 have e:((m:Nat):Rat)=((n:Nat):Rat)↔m=n:=by exact_mod_cast Iff.rfl
 simp only [Zp,e]
theorem Rk {m n:Nat} (h:0≤aC m n):n≤m:=by
 unfold aC at h
 split at h
 ·omega
 ·omega
theorem RS (ok:h.Ok β):(DU β h).Ok Tryz.prog (SR β) EV:=by
 refine Con.ok0 rfl ?_
 intro db b args res new ha ρ W hf hE
 simp only [DU] at ha
 split at ha
 ·split at ha
  ·rename_i x y _ _ e k e' k' hx hy
   split at ha
   ·rename_i hk
    simp only [Bool.and_eq_true,decide_eq_true_eq] at hk
    cases ha
    obtain ⟨xs,h1,h2,h3,h4,h5⟩:=jT hx hf
    obtain ⟨ys,g1,g2,g3,g4,g5⟩:=jT hy hf
    obtain ⟨c,hc,hc0⟩:∃ c,cmB h e e' = some c∧0≤c:=by
     cases hcm:cmB h e e' with
     | none=>rw [hcm] at hk;simp at hk
     | some c=>rw [hcm] at hk;exact ⟨c,rfl,by simpa using hk.2⟩
    have hle:Z4.val ys≤Z4.val xs:=by
     have:=kQ ok hc
     rw [← h4,← g4,qo] at this
     exact Rk (by omega)
    refine I4 (e:=.sub e e') (Z4.qM _ _ xs ys W h1 g1 h2 g2 g3 hle (Nat.le_trans (qK h3 h5) (by simp only [K1] at hk;omega))) ?_ (by omega)
    show _=e.ev β - e'.ev β
    rw [← h4,← g4]
    have:Z4.val xs - Z4.val ys+Z4.val ys=Z4.val xs:=by omega
    have h6:=congrArg (fun n:Nat=>(n:Rat)) this
    simp only [Rat.natCast_add] at h6
    grind
   ·cases ha
  ·cases ha
 ·cases ha
theorem RD (ok:h.Ok β):(Dz β h).Ok Tryz.prog (SR β) EV:=by
 refine Con.ok0 rfl ?_
 intro db b args res new ha ρ W hf hE
 simp only [Dz] at ha
 split at ha
 ·split at ha
  ·rename_i x y _ _ e k e' k' hx hy
   split at ha
   ·rename_i hk
    simp only [Bool.and_eq_true,decide_eq_true_eq] at hk
    split at ha
    ·rename_i c hc
     cases ha
     obtain ⟨xs,h1,h2,h3,h4,h5⟩:=jT hx hf
     obtain ⟨ys,g1,g2,g3,g4,g5⟩:=jT hy hf
     have hcc:=kQ ok hc
     rw [← h4,← g4,qo] at hcc
     refine (Z4.xK _ _ xs ys W h1 g1 h2 g2 h3 g3 (Nat.le_trans (qK h3 h5) (by simp only [K1] at hk;omega)) (Nat.le_trans (qK g3 g5) (by simp only [K1] at hk;omega))).mono fun _ W' ⟨he,q,hq⟩=>⟨ρ,fun _ _=>rfl,?_,?_,fun g hg=>by cases hg⟩
     ·rw [he,hcc];rfl
     ·subst hq
      exact Z4.fJ (Below.refl _ _) q
    ·cases ha
   ·cases ha
  ·cases ha
 ·cases ha
theorem SA (ok:h.Ok β):(Ec β h).Ok Tryz.prog (SR β) EV:=by
 refine Con.ok0 rfl ?_
 intro db b args res new ha ρ W hf hE
 simp only [Ec] at ha
 split at ha
 ·rename_i t s
  split at ha
  ·rename_i e k hx
   obtain ⟨xs,h1,h2,h3,h4,h5⟩:=hf _ (gy hx)
   have hlen:=h1.len
   have hc:=Z4.OB t (ρ s).p (ρ s).l (ρ s).c W
   have hpos:e.ev β≠0→decide (0<(ρ s).l)=true:=fun hne=>by
    rw [decide_eq_true_eq]
    rcases Nat.eq_zero_or_pos (ρ s).l with h0 | h0
    ·exfalso;apply hne;rw [← h4]
     have:xs=[]:=List.length_eq_zero_iff.1 (by omega)
     subst this;rfl
    ·exact h0
   have hzero:e.ev β=0→decide (0<(ρ s).l)=false:=fun h0=>by
    rw [decide_eq_false_iff_not]
    intro hp
    have hne:xs≠[]:=fun e=>by subst e;simp at hlen;omega
    have:=Z4.mY h3 hne
    have h6:((Z4.val xs:Nat):Rat)=((0:Nat):Rat):=h4.trans h0
    have:Z4.val xs=0:=by exact_mod_cast h6
    omega
   have hans:∀ x:Bool,(t && decide (0<(ρ s).l))=x→Calls Tryz.prog 109 #[.bool t,.slice (ρ s).p (ρ s).l (ρ s).c] W (Anr β ρ b W (.e (.a [.bl x,.os s])) []):=fun x hx=>by
    refine hc.mono fun _ W' ⟨he,hb⟩=>⟨ρ,fun _ _=>rfl,?_,hb,fun g hg=>by cases hg⟩
    rw [he,hx];rfl
   split at ha
   ·rename_i ht
    cases ha
    exact hans false (by simp at ht;simp [ht])
   ·rename_i ht
    have ht':t=true:=by simpa using ht
    split at ha
    ·rename_i hn
     cases ha
     exact hans true (by rw [ht',hpos (jA ok hn)];rfl)
    ·split at ha
     ·rename_i hn
      cases ha
      exact hans false (by rw [hzero ((lK ok hn).trans rfl)];simp)
     ·cases ha
  ·cases ha
 ·cases ha
theorem yN (ok:h.Ok β):∀ c∈cz β h,c.Ok Tryz.prog (SR β) EV:=by
 unfold cz
 simp only [List.forall_mem_cons,List.not_mem_nil,false_imp_iff,implies_true,and_true]
 exact ⟨RX,RS ok,RD ok,SA ok⟩
end
end Rx
namespace Rx
open Go.RowKit
def isY (t:Bool) (e:RE):Option (SV×List Fd)→Bool
 | some (.e (.a [.bl x,.os s]),fs)=>match iC fs s with
  | some (e',_)=>x == t && e'.beq e
  | none=>false
 | _=>false
theorem Xa {t:Bool} {e:RE} {o:Option (SV×List Fd)} (h:isY t e o=true):∃ s fs k,o=some (.e (.a [.bl t,.os s]),fs)∧iC fs s=some (e,k):=by
 unfold isY at h
 split at h
 ·split at h
  ·rename_i x s fs _ e' k ha
   simp only [Bool.and_eq_true,beq_iff_eq] at h
   exact ⟨s,fs,k,by rw [h.1],by rw [ha,RE.beq_eq h.2]⟩
  ·cases h
 ·cases h
def isJ (x:Int):Option (SV×List Fd)→Bool
 | some (.e (.s (.it .i64 y)),_)=>x == y
 | _=>false
theorem La {x:Int} {o:Option (SV×List Fd)} (h:isJ x o=true):∃ fs,o=some (.e (.s (.it .i64 x)),fs):=by
 unfold isJ at h
 split at h
 ·rename_i y fs
  have e:x=y:=by simpa using h
  subst e;exact ⟨fs,rfl⟩
 ·cases h
section
variable {a b:Int} {v1 v2:Value} {w:World}
theorem Hr {f:FuncId} {R:Ending→World→Prop} (h1:Z4.IsZ w v1 a) (h2:Z4.IsZ w v2 b) (ka:a.natAbs<B64 ^ K1) (kb:b.natAbs<B64 ^ K1)
  (go:∀ ρ:Env,(∀ g∈[Fd.l 0 (.v 0) K1,.l 1 (.v 1) K1],Fd.on (bet [((a.natAbs:Nat):Rat),((b.natAbs:Nat):Rat)]) ρ g w)→Calls Tryz.prog f ([.e (.a [.bl (decide (a<0)),.os 0]),.e (.a [.bl (decide (b<0)),.os 1])].map (SV.den ρ)).toArray w R):Calls Tryz.prog f #[v1,v2] w R:=by
 obtain ⟨p1,l1,c1,xs,rfl,L1,dx,tx,hv1⟩:=h1
 obtain ⟨p2,l2,c2,ys,rfl,L2,dy,ty,hv2⟩:=h2
 refine go (ev [⟨false,0,p1,l1,c1,.empty,0,default⟩,⟨false,0,p2,l2,c2,.empty,0,default⟩]) fun g hg=>?_
 simp only [List.mem_cons,List.not_mem_nil,or_false] at hg
 rcases hg with rfl | rfl
 ·exact ⟨xs,L1,dx,tx,by rw [hv1];rfl,by rw [hv1];exact ka⟩
 ·exact ⟨ys,L2,dy,ty,by rw [hv2];rfl,by rw [hv2];exact kb⟩
theorem pF {β:Nat→Rat} {h:Hint} (ok:h.Ok β) {fuel:Nat} {f:FuncId} {args:List SV} {fs:List Fd} {n0:Nat} {ρ:Env} {t:Bool} {e:RE} {z:Int} (hr:isY t e (aN Tryz.prog (SR β) (HR β) (cz β h) fuel f args fs n0)=true) (hE:EV w) (hf:∀ g∈fs,Fd.on β ρ g w)
  (hz:∀ n:Nat,((n:Nat):Rat)=e.ev β→n=z.natAbs∧t=decide (z<0)):Calls Tryz.prog f (args.map (SV.den ρ)).toArray w (Z4.dA w z):=by
 obtain ⟨s,fs',k,heq,ha⟩:=Xa hr
 refine (dJ mixed (yN ok) heq (bg hE) hf).mono fun x W' ⟨ρ',_,hx,hb,hfs⟩=>?_
 obtain ⟨xs,g1,g2,g3,g4,g5⟩:=hfs _ (gy ha)
 obtain ⟨h1,h2⟩:=hz _ g4
 exact ⟨_,hx,⟨_,_,_,xs,by rw [h2];rfl,g1,g2,g3,h1⟩,hb⟩
theorem o9 {β:Nat→Rat} {h:Hint} (ok:h.Ok β) {fuel:Nat} {f:FuncId} {args:List SV} {fs:List Fd} {n0:Nat} {ρ:Env} {y:Int} (hr:isJ y (aN Tryz.prog (SR β) (HR β) (cz β h) fuel f args fs n0)=true) (hE:EV w) (hf:∀ g∈fs,Fd.on β ρ g w):Calls Tryz.prog f (args.map (SV.den ρ)).toArray w (aZ w (.int .i64 y)):=by
 obtain ⟨fs',heq⟩:=La hr
 exact (dJ mixed (yN ok) heq (bg hE) hf).mono fun x W' ⟨ρ',_,hx,hb,_⟩=>⟨hx,hb⟩
theorem jv {β:Nat→Rat} {l:List (RE×RE×Int)} {nz:List RE} {eq:List (RE×RE)} (h:∀ p∈l,aF (p.1.ev β) (p.2.1.ev β)=p.2.2) (h2:∀ p∈nz,p.ev β≠0) (h3:∀ p∈eq,p.1.ev β=p.2.ev β):Hint.Ok β { cm:=l,nz:=nz,eq:=eq }:=
 ⟨h3,fun p h=>(by cases h),h2,fun p h=>(by cases h),h⟩
abbrev x0:RE:=.v 0
abbrev x1:RE:=.v 1
theorem qP {m n k:Nat} (h:((k:Nat):Rat)=((m:Nat):Rat) - ((n:Nat):Rat)):(k:Int)=m - n:=by
 have:((k+n:Nat):Rat)=((m:Nat):Rat):=by rw [Rat.natCast_add,h];grind
 have:k+n=m:=by exact_mod_cast this
 omega
theorem MJ {m n k:Nat} (h:((k:Nat):Rat)=((m:Nat):Rat)+((n:Nat):Rat)):k=m+n:=by
 rw [← Rat.natCast_add] at h
 exact_mod_cast h
theorem OO {m n:Nat} (h:m≠n):((m:Nat):Rat) - ((n:Nat):Rat)≠0:=fun e=>h (by
 have:((m:Nat):Rat)=((n:Nat):Rat):=by grind
 exact_mod_cast this)
theorem yg (m n:Nat):(aF (m:Rat) (n:Rat)=1∧aF (n:Rat) (m:Rat) = -1∧n<m)∨(aF (m:Rat) (n:Rat)=0∧aF (n:Rat) (m:Rat)=0∧m=n)∨(aF (m:Rat) (n:Rat) = -1∧aF (n:Rat) (m:Rat)=1∧m<n):=by
 rw [qo,qo]
 unfold aC
 rcases Nat.lt_trichotomy m n with h | h | h
 ·right;right;rw [if_pos h,if_neg (by omega),if_neg (by omega)];exact ⟨rfl,rfl,h⟩
 ·right;left;subst h;simp
 ·left;rw [if_neg (by omega),if_neg (by omega),if_pos h];exact ⟨rfl,rfl,h⟩
theorem Px (h1:Z4.IsZ w v1 a) (h2:Z4.IsZ w v2 b) (ka:a.natAbs<B64 ^ K1) (kb:b.natAbs<B64 ^ K1) (hE:EV w):Calls Tryz.prog 106 #[v1,v2] w (Z4.dA w (a+b)):=by
 refine Hr h1 h2 ka kb fun ρ hg=>?_
 obtain ⟨β,hβ⟩:∃ β,β=bet [((a.natAbs:Nat):Rat),((b.natAbs:Nat):Rat)]:=⟨_,rfl⟩
 have e0:RE.ev β x0=((a.natAbs:Nat):Rat):=by rw [hβ];rfl
 have e1:RE.ev β x1=((b.natAbs:Nat):Rat):=by rw [hβ];rfl
 rw [← hβ] at hg
 have hadd:RE.ev β (.add x0 x1)=((a.natAbs:Nat):Rat)+((b.natAbs:Nat):Rat):=by rw [RE.ev,e0,e1]
 have hsub:RE.ev β (.sub x0 x1)=((a.natAbs:Nat):Rat) - ((b.natAbs:Nat):Rat):=by rw [RE.ev,e0,e1]
 have hbus:RE.ev β (.sub x1 x0)=((b.natAbs:Nat):Rat) - ((a.natAbs:Nat):Rat):=by rw [RE.ev,e0,e1]
 clear hβ
 rcases Int.lt_or_le a 0 with ha | ha <;> rcases Int.lt_or_le b 0 with hb | hb
 ·rw [decide_eq_true ha,decide_eq_true hb]
  have ok:Hint.Ok β { nz:=[.add x0 x1] }:=jv (fun p h=>by cases h) (fun p hp=>by simp at hp;subst hp;rw [hadd,← Rat.natCast_add];intro h;exact absurd (show a.natAbs+b.natAbs=0 by exact_mod_cast h) (by omega)) (fun p h=>by cases h)
  refine pF (t:=true) (e:=.add x0 x1) ok (fuel:=1) (n0:=2) (by kernel_rfl) hE hg fun n hn=>?_
  rw [hadd] at hn
  have:=MJ hn
  exact ⟨by omega,(decide_eq_true (by omega)).symm⟩
 ·rw [decide_eq_true ha,decide_eq_false (by omega)]
  rcases yg a.natAbs b.natAbs with ⟨h3,h4,h5⟩ | ⟨h3,h4,h5⟩ | ⟨h3,h4,h5⟩
  ·have ok:Hint.Ok β { cm:=[(x0,x1,1)],nz:=[.sub x0 x1] }:=jv (fun p hp=>by simp at hp;subst hp;rw [e0,e1];exact h3) (fun p hp=>by simp at hp;subst hp;rw [hsub];exact OO (by omega)) (fun p h=>by cases h)
   refine pF (t:=true) (e:=.sub x0 x1) ok (fuel:=1) (n0:=2) (by kernel_rfl) hE hg fun n hn=>?_
   rw [hsub] at hn
   have:=qP hn
   exact ⟨by omega,(decide_eq_true (by omega)).symm⟩
  ·have ok:Hint.Ok β { cm:=[(x0,x1,0)],eq:=[(.sub x0 x1,.c 0)] }:=jv (fun p hp=>by simp at hp;subst hp;rw [e0,e1];exact h3) (fun p h=>by cases h) (fun p hp=>by simp at hp;subst hp;rw [hsub,h5];simp [RE.ev];grind)
   refine pF (t:=false) (e:=.sub x0 x1) ok (fuel:=1) (n0:=2) (by kernel_rfl) hE hg fun n hn=>?_
   rw [hsub] at hn
   have:=qP hn
   exact ⟨by omega,(decide_eq_false (by omega)).symm⟩
  ·have ok:Hint.Ok β { cm:=[(x0,x1,-1),(x1,x0,1)] }:=jv (fun p hp=>by simp at hp;rcases hp with rfl | rfl <;> rw [e0,e1] <;> assumption) (fun p h=>by cases h) (fun p h=>by cases h)
   refine pF (t:=false) (e:=.sub x1 x0) ok (fuel:=1) (n0:=2) (by kernel_rfl) hE hg fun n hn=>?_
   rw [hbus] at hn
   have:=qP hn
   exact ⟨by omega,(decide_eq_false (by omega)).symm⟩
 ·rw [decide_eq_false (by omega),decide_eq_true hb]
  rcases yg a.natAbs b.natAbs with ⟨h3,h4,h5⟩ | ⟨h3,h4,h5⟩ | ⟨h3,h4,h5⟩
  ·have ok:Hint.Ok β { cm:=[(x0,x1,1)] }:=jv (fun p hp=>by simp at hp;subst hp;rw [e0,e1];exact h3) (fun p h=>by cases h) (fun p h=>by cases h)
   refine pF (t:=false) (e:=.sub x0 x1) ok (fuel:=1) (n0:=2) (by kernel_rfl) hE hg fun n hn=>?_
   rw [hsub] at hn
   have:=qP hn
   exact ⟨by omega,(decide_eq_false (by omega)).symm⟩
  ·have ok:Hint.Ok β { cm:=[(x0,x1,0)] }:=jv (fun p hp=>by simp at hp;subst hp;rw [e0,e1];exact h3) (fun p h=>by cases h) (fun p h=>by cases h)
   refine pF (t:=false) (e:=.sub x0 x1) ok (fuel:=1) (n0:=2) (by kernel_rfl) hE hg fun n hn=>?_
   rw [hsub] at hn
   have:=qP hn
   exact ⟨by omega,(decide_eq_false (by omega)).symm⟩
  ·have ok:Hint.Ok β { cm:=[(x0,x1,-1),(x1,x0,1)],nz:=[.sub x1 x0] }:=jv (fun p hp=>by simp at hp;rcases hp with rfl | rfl <;> rw [e0,e1] <;> assumption) (fun p hp=>by simp at hp;subst hp;rw [hbus];exact OO (by omega)) (fun p h=>by cases h)
   refine pF (t:=true) (e:=.sub x1 x0) ok (fuel:=1) (n0:=2) (by kernel_rfl) hE hg fun n hn=>?_
   rw [hbus] at hn
   have:=qP hn
   exact ⟨by omega,(decide_eq_true (by omega)).symm⟩
 ·rw [decide_eq_false (by omega),decide_eq_false (by omega)]
  refine pF (t:=false) (e:=.add x0 x1) (aV β) (fuel:=1) (n0:=2) (by kernel_rfl) hE hg fun n hn=>?_
  rw [hadd] at hn
  have:=MJ hn
  exact ⟨by omega,(decide_eq_false (by omega)).symm⟩
theorem Py (h1:Z4.IsZ w v1 a) (h2:Z4.IsZ w v2 b) (ka:a.natAbs<B64 ^ K1) (kb:b.natAbs<B64 ^ K1) (hE:EV w):Calls Tryz.prog 95 #[v1,v2] w (aZ w (.int .i64 (if a<b then -1 else if a=b then 0 else 1))):=by
 obtain ⟨y,hy⟩:∃ y:Int,(if a<b then -1 else if a=b then 0 else 1)=y:=⟨_,rfl⟩
 rw [hy]
 refine Hr h1 h2 ka kb fun ρ hg=>?_
 obtain ⟨β,hβ⟩:∃ β,β=bet [((a.natAbs:Nat):Rat),((b.natAbs:Nat):Rat)]:=⟨_,rfl⟩
 have e0:RE.ev β x0=((a.natAbs:Nat):Rat):=by rw [hβ];rfl
 have e1:RE.ev β x1=((b.natAbs:Nat):Rat):=by rw [hβ];rfl
 rw [← hβ] at hg
 clear hβ
 have okc:∀ (x y:RE) (c:Int),aF (x.ev β) (y.ev β)=c→Hint.Ok β { cm:=[(x,y,c)] }:=fun x y c h=>jv (fun p hp=>by simp at hp;subst hp;exact h) (fun p h=>by cases h) (fun p h=>by cases h)
 rcases Int.lt_or_le a 0 with ha | ha <;> rcases Int.lt_or_le b 0 with hb | hb
 ·rw [decide_eq_true ha,decide_eq_true hb]
  rcases yg a.natAbs b.natAbs with ⟨h3,h4,h5⟩ | ⟨h3,h4,h5⟩ | ⟨h3,h4,h5⟩
  ·obtain rfl:y = -1:=by rw [← hy,if_pos (by omega)]
   exact o9 (okc x1 x0 (-1) (by rw [e0,e1];exact h4)) (fuel:=1) (n0:=2) (by kernel_rfl) hE hg
  ·obtain rfl:y=0:=by rw [← hy,if_neg (by omega),if_pos (by omega)]
   exact o9 (okc x1 x0 0 (by rw [e0,e1];exact h4)) (fuel:=1) (n0:=2) (by kernel_rfl) hE hg
  ·obtain rfl:y=1:=by rw [← hy,if_neg (by omega),if_neg (by omega)]
   exact o9 (okc x1 x0 1 (by rw [e0,e1];exact h4)) (fuel:=1) (n0:=2) (by kernel_rfl) hE hg
 ·rw [decide_eq_true ha,decide_eq_false (by omega)]
  obtain rfl:y = -1:=by rw [← hy,if_pos (by omega)]
  exact o9 (aV β) (fuel:=1) (n0:=2) (by kernel_rfl) hE hg
 ·rw [decide_eq_false (by omega),decide_eq_true hb]
  obtain rfl:y=1:=by rw [← hy,if_neg (by omega),if_neg (by omega)]
  exact o9 (aV β) (fuel:=1) (n0:=2) (by kernel_rfl) hE hg
 ·rw [decide_eq_false (by omega),decide_eq_false (by omega)]
  rcases yg a.natAbs b.natAbs with ⟨h3,h4,h5⟩ | ⟨h3,h4,h5⟩ | ⟨h3,h4,h5⟩
  ·obtain rfl:y=1:=by rw [← hy,if_neg (by omega),if_neg (by omega)]
   exact o9 (okc x0 x1 1 (by rw [e0,e1];exact h3)) (fuel:=1) (n0:=2) (by kernel_rfl) hE hg
  ·obtain rfl:y=0:=by rw [← hy,if_neg (by omega),if_pos (by omega)]
   exact o9 (okc x0 x1 0 (by rw [e0,e1];exact h3)) (fuel:=1) (n0:=2) (by kernel_rfl) hE hg
  ·obtain rfl:y = -1:=by rw [← hy,if_pos (by omega)]
   exact o9 (okc x0 x1 (-1) (by rw [e0,e1];exact h3)) (fuel:=1) (n0:=2) (by kernel_rfl) hE hg
end
end Rx
namespace Rx
open Go.RowKit
def oL:List Fd→Nat→Option (RE×Nat)
 | [],_=>none
 | .z s e k :: r,n=>if s=n then some (e,k) else oL r n
 | _ :: r,n=>oL r n
theorem lU {n:Nat} {e:RE} {k:Nat}:∀ {db:List Fd},oL db n=some (e,k)→.z n e k∈db
 | [],h=>by simp [oL] at h
 | f :: r,h=>by
  cases f with
  | z s e' k' =>
   simp only [oL] at h
   split at h
   ·rename_i hs;cases h;subst hs;simp
   ·exact List.mem_cons_of_mem _ (lU h)
  | l _ _ _=>exact List.mem_cons_of_mem _ (lU h)
  | r _ _ _=>exact List.mem_cons_of_mem _ (lU h)
  | n _ _=>exact List.mem_cons_of_mem _ (lU h)
  | i _ _=>exact List.mem_cons_of_mem _ (lU h)
def findD:List Fd→Nat→Option (RE×Nat)
 | [],_=>none
 | .r s e k :: r,n=>if s=n then some (e,k) else findD r n
 | _ :: r,n=>findD r n
theorem lS {n:Nat} {e:RE} {k:Nat}:∀ {db:List Fd},findD db n=some (e,k)→.r n e k∈db
 | [],h=>by simp [findD] at h
 | f :: r,h=>by
  cases f with
  | r s e' k' =>
   simp only [findD] at h
   split at h
   ·rename_i hs;cases h;subst hs;simp
   ·exact List.mem_cons_of_mem _ (lS h)
  | l _ _ _=>exact List.mem_cons_of_mem _ (lS h)
  | z _ _ _=>exact List.mem_cons_of_mem _ (lS h)
  | n _ _=>exact List.mem_cons_of_mem _ (lS h)
  | i _ _=>exact List.mem_cons_of_mem _ (lS h)
def asY (db:List Fd):List Cell→Option (RE×Nat)
 | [.ob s,.os t]=>if s=t then (match oL db s with
   | some x=>some x
   | none=>match findD db s with
    | some (e,k)=>some (.num e,k)
    | none=>none) else none
 | [.bl false,.os s]=>iC db s
 | [.bl false,.nils]=>some (.c 0,0)
 | _=>none
section
variable {β:Nat→Rat} {ρ:Env} {W:World} {db:List Fd}
theorem lZ {v:Value} {r:Rat} {k:Nat} (h:IsG W v r k):IsY W (.agg #[.bool false,v]) r k:=by
 obtain ⟨xs,h1,h2,h3,h4,h5⟩:=h
 obtain ⟨p,l,c,rfl⟩:=h1.mk
 exact ⟨(Z4.val xs:Nat),⟨p,l,c,xs,by rw [decide_eq_false (by omega)],h1,h2,h3,by omega⟩,by rw [← h4];rfl,by simpa using h5⟩
theorem WZ {s:Nat} {e:RE} {k:Nat} (h:Fd.on β ρ (.r s e k) W):IsY W (.agg ((zC s).map (Cell.den ρ)).toArray) ((RE.num e).ev β) k:=by
 obtain ⟨h1,h2⟩:=h
 exact ⟨(e.ev β).num,Z4.IsR.num h1,rfl,h2.1⟩
theorem jl {cs:List Cell} {e:RE} {k:Nat} (h:asY db cs=some (e,k)) (hf:∀ f∈db,(SR β).on ρ f W):IsY W (.agg (cs.map (Cell.den ρ)).toArray) (e.ev β) k:=by
 unfold asY at h
 split at h
 ·rename_i s t
  split at h
  ·rename_i hst
   subst hst
   split at h
   ·rename_i x hx
    cases h
    exact hf _ (lU hx)
   ·split at h
    ·rename_i e' k' hx
     cases h
     exact WZ (hf _ (lS hx))
    ·cases h
  ·cases h
 ·exact lZ (hf _ (gy h))
 ·cases h
  exact lZ ⟨[],Z4.IsL.nil 0 W,Z4.Dig.nil,fun h=>absurd rfl h,rfl,by simp [Z4.val]⟩
 ·cases h
end
section
variable {β:Nat→Rat} {h:Hint} {f:FuncId} {vals:Array Value} {W:World} {ρ:Env} {b:Nat}
theorem CW {z:Int} {e:RE} {k:Nat} (hc:Calls Tryz.prog f vals W (Z4.dA W z)) (hz:(z:Rat)=e.ev β) (hk:z.natAbs<B64 ^ k):Calls Tryz.prog f vals W (Anr β ρ b W (.e (.a (zC b))) [.z b e k]):=by
 refine hc.mono fun _ W' ⟨v,he,hv,hb⟩=>?_
 obtain ⟨p,l,c,xs,rfl,hx⟩:=hv
 have h1:(zC b).map (Cell.den (aG ρ b [⟨decide (z<0),0,p,l,c,.empty,0,default⟩]))=[.bool (decide (z<0)),.slice p l c]:=by simp [zC,Cell.den,aG]
 refine ⟨_,iE (b:=b) (L:=[⟨decide (z<0),0,p,l,c,.empty,0,default⟩]) (by simp [M]),?_,hb,fun g hg=>?_⟩
 ·rw [he];simp only [SV.den,El.den,h1]
 ·rw [List.mem_singleton] at hg
  subst hg
  exact ⟨z,by rw [h1];exact ⟨p,l,c,xs,rfl,hx⟩,hz,hk⟩
theorem CV {z:Int} {e:RE} {k:Nat} (hc:Calls Tryz.prog f vals W (Z4.dA W z)) (h0:0≤z) (hz:(z:Rat)=e.ev β) (hk:z.natAbs<B64 ^ k):Calls Tryz.prog f vals W (Anr β ρ b W (.e (.a [.bl false,.os b])) [.l b e k]):=by
 refine hc.mono fun _ W' ⟨v,he,hv,hb⟩=>?_
 obtain ⟨p,l,c,xs,rfl,hl,hd,ht,hx⟩:=hv
 refine ⟨_,iE (b:=b) (L:=[⟨false,0,p,l,c,.empty,0,default⟩]) (by simp [M]),?_,hb,fun g hg=>?_⟩
 ·rw [he,decide_eq_false (by omega)];simp [SV.den,El.den,Cell.den,aG]
 ·rw [List.mem_singleton] at hg
  subst hg
  refine ⟨xs,by simpa [aG] using hl,hd,ht,?_,by rw [hx];exact hk⟩
  rw [hx,← hz]
  exact_mod_cast show ((z.natAbs:Nat):Int)=z by omega
theorem QB {e:RE} {k:Nat} (hc:Calls Tryz.prog f vals W (Z4.dW W (e.ev β))) (hk:Fits k (e.ev β)):Calls Tryz.prog f vals W (Anr β ρ b W (.e (.a (aT b))) [.r b e k]):=by
 refine hc.mono fun _ W' ⟨v,he,hv,hb⟩=>?_
 obtain ⟨c,d,rfl⟩:=mP hv
 have h1:(aT b).map (Cell.den (aG ρ b [c,d]))=[.bool c.b,.slice c.p c.l c.c,.bool false,.slice d.p d.l d.c]:=by simp [aT,Cell.den,aG]
 refine ⟨aG ρ b [c,d],iE (by simp [M]),?_,hb,fun g hg=>?_⟩
 ·rw [he];simp only [SV.den,El.den,h1]
 ·rw [List.mem_singleton] at hg
  subst hg
  exact ⟨by rw [h1];exact hv,hk⟩
theorem Qz {c:Int} (hc:Calls Tryz.prog f vals W (aZ W (.int .i64 c))):Calls Tryz.prog f vals W (Anr β ρ b W (.e (.s (.it .i64 c))) []):=
 hc.mono fun _ W' ⟨he,hb⟩=>⟨ρ,fun _ _=>rfl,by rw [he];rfl,hb,fun g hg=>by cases hg⟩
end
end Rx
end Go.Proofs.YthalajpklaodkaaGreatDoor
