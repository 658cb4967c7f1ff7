/- What the proof rests on, part 19. -/
import Derived.Test.YtnmlkobogofadaaGreatDoorP18
import Derived.Laws.AppendOwnNone
import Derived.Test.YtnmlkobogofadaaGreatDoorP16
namespace Go.Proofs.YtnmlkobogofadaaGreatDoor
set_option maxRecDepth 100000
set_option maxHeartbeats 80000000
namespace Z4
open Go.RowKit Go.Sort
def xY (w:World) (n m:Nat) (e:Ending) (w':World):Prop:=
 ∃ v ds u es,e=.returned (.tuple #[v,u])∧IsL w.heap.size w' v ds∧Dig ds∧aG ds∧val ds=n∧IsL w.heap.size w' u es∧Dig es∧aG es∧val es=m∧Below w.heap.size w w'
theorem aF.set {w:World} {b:Nat} {xs:List Nat} (h:aF w b 0 xs) (i x:Nat) (hi:i<xs.length):aF (w.setCell ⟨b,i,none⟩ (.int .i64 (x:Int))) b 0 (xs.set i x):=fun j hj=>by
 rw [List.length_set] at hj
 rw [World.frozen?_setCell]
 refine ⟨?_,(h j hj).2⟩
 rw [Nat.zero_add]
 by_cases e:i=j
 ·subst e
  have hc:=(h i hi).1
  rw [Nat.zero_add] at hc
  rw [World.cell?_setCell_same _ _ _ hc,List.getElem?_set_self hi]
  rfl
 ·rw [World.cell?_setCell_other _ _ _ _ (fun h=>e (congrArg Addr.off h)),List.getElem?_set_ne e]
  have hc:=(h j hj).1
  rwa [Nat.zero_add] at hc
theorem P7 {ops:Array Oper} {rest:List Oper} {o:Oper} {a:Act} {Q:Exit→Act→World→Prop} {w:World} (hgd:o.guard=none) (s x:Operand)
  (ho:o.op=.call { callee:=.builtin .append,args:=#[s,x],argTypes:=#[36,36] }) (base B:Nat) (v:Value) (n:Nat) (xs:List Value) (hs:a.eval s=v) (hown:w.ownsRow base 3 1 v n xs)
  (vx:Value) (rs:List Nat) (hx:a.eval x=vx) (hL:IsL B w vx rs) (h63:n+rs.length≤1099511627776) (hbase:base≤w.heap.size)
  (h:∀ v' w',w'.ownsRow base 3 1 v' (n+rs.length) (xs ++ rs.map enc)→w.grownBy w' v.ownBlock→wpList Tryz.prog ops Q rest (a.put o.dst v') w'):wpList Tryz.prog ops Q (o :: rest) a w:=by
 obtain ⟨i0,hi,hz0,hz1,hz2⟩:=info_parts lu
 rcases hL with ⟨rfl,rfl⟩ | ⟨b,of,k,rfl,h1,h2,h3,h4⟩
 ·exact wpList_append_own_none hgd s x _ ho base 3 i0 1 Tryz.underlying36 hi v n xs hs hown hx (h v w (by simpa using hown) (World.grownBy.refl w _))
 ·refine wpList_append_own w hgd s x _ ho base 3 i0 (.int .i64 0) 1 8 Tryz.underlying36 hi hz0 hz1 hz2 rfl (by decide) v n xs hs hown ⟨b,of,none⟩ rs.length k (rs.map enc) hx (by simp) (fun j u hu=>?_) (fun u hu=>?_) (by unfold maxLen;omega) (by omega) hbase fun v' w' a b _=>h v' w' a b
  ·have hj:j<rs.length:=by have:=(List.getElem?_eq_some_iff.1 hu).1;simpa using this
   rw [List.getElem?_map,List.getElem?_eq_getElem hj] at hu
   simp only [Option.map_some,Option.some.injEq] at hu
   rw [← hu,addr_add,h4 j hj,List.getElem?_eq_getElem hj]
   rfl
  ·obtain ⟨d,_,rfl⟩:=List.mem_map.1 hu
   rfl
theorem Dc {B:Nat} (v:Value) (xs:List Nat) (w:World) (h:IsL B w v xs) (dx:Dig xs) (hl:xs.length≤4) :
  Calls Tryz.prog 215 #[v,.int .i64 0] w fun e w'=>e=.returned (.int .i64 ((val xs:Nat):Int))∧w=w':=by
 have:=xX v 0 xs w h dx (by omega) (by omega) (by omega)
 rw [List.drop_zero] at this
 exact this
theorem dY {B:Nat} {a w:World} (h:Below B a w) (n:Nat):Below B a (w.drewN n):=⟨h.os,h.tape,h.output,h.size,h.block⟩
theorem Oa (t:Bool) (p:Option Addr) (n k:Nat) (W:World):(Instr.field 38 (.agg #[.bool t,.slice p n k]) 1).run Tryz.prog W=.ok (.slice p n k) W:=by
 kernel_rfl
theorem dw {rs:List Nat} {k:Nat} (ht:aG rs) (h:val rs<B4 ^ k):rs.length≤k:=by
 rcases Nat.lt_or_ge k rs.length with h1 | h1
 ·have h2:=kV ht (by intro e;subst e;exact absurd h1 (Nat.not_lt_zero _))
  have h3:B4 ^ k≤B4 ^ (rs.length - 1):=Nat.pow_le_pow_right jB (by omega)
  omega
 ·exact h1
theorem MV {ys rs ss:List Nat} {x:Nat} (dy:Dig ys) (hx:x<B4) (hr:val rs<val ys) (ht:aG ss) (hv:val ss=x+B4*val rs):ss.length≤ys.length+1:=by
 refine dw ht ?_
 have h1:=aU dy
 have h2:B4*(val rs+1)≤B4*B4 ^ ys.length:=Nat.mul_le_mul_left _ (by omega)
 rw [Nat.mul_add] at h2
 rw [hv,Nat.pow_succ,Nat.mul_comm (B4 ^ ys.length)]
 omega
theorem Vd (b o k0 b2 o2 k2:Nat) (xs ys:List Nat) (w:World) (hbw:b<w.heap.size) (hx:Ints w b o xs) (hbw2:b2<w.heap.size) (hk2:ys.length≤k2) (hy:Ints w b2 o2 ys) (dx:Dig xs) (dy:Dig ys) (ty:aG ys) (hm:0<val ys)
  (hsx:xs.length≤34359738368) (hsy:ys.length≤34359738368) :
  Calls Tryz.prog 171 #[.slice (some ⟨b,o,none⟩) xs.length k0,.slice (some ⟨b2,o2,none⟩) ys.length k2] w (xY w (val xs / val ys) (val xs % val ys)):=by
 obtain ⟨i0,hi,hz0,hz1,hz2⟩:=info_parts lu
 have hfld:=Oa
 have hmk:=fM xs.length (by omega)
 have HX:=hid (And.intro hbw hx)
 have HY:Hid (IsL 0 w (.slice (some ⟨b2,o2,none⟩) ys.length k2) ys):=.inr ⟨b2,o2,k2,rfl,by omega,hbw2,hk2,hy⟩
 have HZ:=hid (dM w xs.length)
 have hy0:ys.length≠0:=fun e=>by rw [List.length_eq_zero_iff.1 e] at hm;simp [val] at hm
 have hsy:ys.length≤549755813888:=by omega
 clear hbw hx hbw2 hk2 hy
 go_enter Tryz.func171,Tryz.ntmps171
 go_wp2
 clear hmk
 go_loopw [6,8] (fun rv iv wr=>∃ (i:Nat) (qs rs:List Nat),iv=.int .i64 ((i:Int) - 1)∧IsL (w.heap.size+1) wr rv rs∧aF wr w.heap.size 0 qs∧nZ xs qs rs (val ys) i∧Below w.heap.size w wr∧w.heap.size+1≤wr.heap.size) (fun _ iv _=>(intOf iv+1).toNat)
 case atStart=>exact ⟨xs.length,_,[],rfl,IsL.nil _ _,HZ.out,nZ.start xs hm,bD w _,by rw [dB];omega⟩
 case round =>
  clear HZ
  obtain ⟨i,qs,rs,rfl,hrv,hHq,hO,hBw0,hsz⟩:=hrel
  have hio:=hO.hi
  have HQ:=hid hHq
  have HO:=hid hO
  have HBw0:=hid hBw0
  clear hHq hO
  by_cases h0:i=0
  ·subst h0
   rw [show (((0:Nat):Int) - 1) = -1 from rfl]
   have hL:IsL w.heap.size wr (.slice (some ⟨w.heap.size,0,none⟩) xs.length xs.length) qs:=.inr ⟨w.heap.size,0,xs.length,by rw [HO.out.len],Nat.le_refl _,by omega,by rw [HO.out.len];omega,HQ.out.ints⟩
   have HL:=hid hL
   have HR:=hid hrv
   clear hL hrv hBw0
   go_wp2_with fail
   refine (kW _ qs _ HL.out (by rw [HO.out.len];omega)).mono ?_
   rintro e w' ⟨v',n,rfl,ht,hv',rfl⟩
   have HT:=hid (And.intro ht hv')
   clear ht hv'
   go_wp2
   go_ret2
   have h1:=HO.out.eq
   rw [List.drop_zero,List.drop_zero] at h1
   have h2:=HO.out.lt
   have h3:val xs / val ys=val qs∧val xs % val ys=val rs:=by
    rw [h1]
    exact ⟨by rw [Nat.mul_comm,Nat.mul_add_div hm,Nat.div_eq_of_lt h2,Nat.add_zero],by rw [Nat.mul_comm,Nat.mul_add_mod,Nat.mod_eq_of_lt h2]⟩
   exact ⟨_,_,_,rs,rfl,HT.out.2,HO.out.dig.take n,HT.out.1.trimmed,by rw [HT.out.1.val,h3.1],HR.out.mono (by omega),HO.out.digR,HO.out.trim,h3.2.symm,HBw0.out⟩
  ·obtain ⟨j,rfl⟩:∃ j,i=j+1:=⟨i - 1,by omega⟩
   obtain ⟨x,hxj⟩:∃ x,xs[j]?.getD 0=x:=⟨_,rfl⟩
   have hx1:x<10000:=hxj ▸ dx.getD j
   have cx:wr.cell? ⟨b,o+j,none⟩=some (.int .i64 (x:Int)):=by rw [hBw0.cell (p:=⟨b,o+j,none⟩) HX.out.1,HX.out.2 j (by omega),hxj]
   have HXJ:=hid hxj
   have hrl:rs.length≤ys.length:=by
    have:=aU dy
    exact dw HO.out.trim (by have:=HO.out.lt;omega)
   clear hxj hBw0 h0
   obtain ⟨pr,br,orr,kr,rfl,-,-,-,-⟩:=hrv.shape
   have HRV:=hid hrv
   have HS0:=hid hsz
   have hrs1:1+rs.length≤1099511627776:=by omega
   clear hrv
   go_wp2_with (at_builtin;refine P7 rfl _ _ rfl wr.heap.size (w.heap.size+1) (.slice (some ⟨wr.heap.size,0,none⟩) 1 1) 1 [.int .i64 (x:Int)] rfl (World.ownsRow_lit wr #[.int .i64 (x:Int)] 1 (Nat.le_refl _) (by unfold maxLen;omega) rfl) _ rs rfl (HRV.out.below ((Below.refl _ wr).alloc (Nat.le_refl _) _)) hrs1 (by simp) ?_;intro v' w1 hown' hgrow)
   have hB1:Below wr.heap.size wr w1:=((Below.refl _ wr).alloc (Nat.le_refl _) _).grown hgrow (by simp) (fun k hk=>by simp [Value.ownBlock] at hk;omega)
   have hL1:=IsL.of_own (xs:=x :: rs) hown'
   clear hown' hgrow hrs1
   refine (kW _ (x :: rs) _ hL1 (by simp;omega)).mono ?_
   rintro e w2 ⟨v2,n,rfl,ht,hv2,rfl⟩
   obtain ⟨ss,hss⟩:∃ ss,(x :: rs).take n=ss:=⟨_,rfl⟩
   have hvv:val ((x :: rs).take n)=x+B4*val rs:=by rw [ht.val,fE]
   have HSS:=hid (And.intro (hss ▸ hv2.mono HS0.out) (And.intro (hss ▸ (HO.out.digR.cons hx1).take n) (And.intro (hss ▸ ht.trimmed) (And.intro (hss ▸ hvv) (hss ▸ MV dy hx1 HO.out.lt ht.trimmed hvv)))))
   rw [hss] at hv2
   obtain ⟨p2,b2',o2',k2',rfl,-,-,-,-⟩:=hv2.shape
   have HB2:=hid hB1
   have HBw:=hid (HBw0.out.trans (hB1.mono HBw0.out.size))
   have hsl:ss.length≤549755813888:=by have:=HSS.out.2.2.2.2;omega
   clear hB1 hL1 ht hv2 hss hvv
   by_cases h3:ys.length≤3
   ·have e1:=hid (mW HSS.out.2.1 (by have:=HSS.out.2.2.2.2;omega))
    go_wp2_with fail
    refine (Dc _ ss _ HSS.out.1 HSS.out.2.1 (by have:=HSS.out.2.2.2.2;omega)).mono ?_
    rintro e w' ⟨rfl,rfl⟩
    go_wp2_with fail
    refine (Dc _ ys _ (HY.out.below HBw.out) dy (by omega)).mono ?_
    rintro e w' ⟨rfl,rfl⟩
    obtain ⟨k0,hk⟩:∃ k0,val ss / val ys=k0:=⟨_,rfl⟩
    have hk0:k0*val ys≤val ss:=by rw [← hk];exact Nat.div_mul_le_self _ _
    have hk0b:k0<10000:=mX (x:=x) (R:=val rs) (m:=val ys) hx1 HO.out.lt (by rw [← HSS.out.2.2.2.1];exact hk0)
    obtain ⟨R,hR⟩:∃ R,val ss=R:=⟨_,rfl⟩
    obtain ⟨M,hM⟩:∃ M,val ys=M:=⟨_,rfl⟩
    rw [hR,hM] at hk
    rw [hR,hM]
    have hq:(R:Int) / (M:Int)=(k0:Int):=by rw [← hk];exact (Int.natCast_ediv R M).symm
    have hM0:¬ (M=0):=by omega
    have hM1:((M:Int) == 0)=false:=by rw [beq_eq_false_iff_ne];omega
    have HR:=hid hR
    have HM:=hid hM
    have hR1:R<10000000000000000:=by have:=e1.out;rwa [hR] at this
    clear hk hR hM
    have HK:=hid hk0
    clear hk0
    go_wp2_with fail
    refine (kY (k0:Int) (by omega) (by omega) _).mono ?_
    rintro e w3 ⟨s3,ds3,rfl,hs3,hd3,ht3,hv3,hB3⟩
    obtain ⟨p3,b3,o3,k3,rfl,-,-,-,-⟩:=hs3.shape
    rw [Int.natAbs_natCast] at hv3
    have HZ3:=hid (And.intro hs3 (And.intro hd3 (And.intro ht3 hv3)))
    have HB3:=hid hB3
    clear hs3 hd3 ht3 hv3 hB3
    go_wp2_with fail
    have hl3:ds3.length≤549755813888:=by
     have:ds3.length≤5:=dw HZ3.out.2.2.1 (by rw [HZ3.out.2.2.2];have h5:B4 ^ 5=100000000000000000000:=(by decide);rw [h5];omega)
     omega
    refine (uz _ _ ys ds3 _ ((HY.out.below HBw.out).below HB3.out) HZ3.out.1 dy HZ3.out.2.1 hsy hl3).mono ?_
    rintro e w4 ⟨v4,ds4,rfl,hs4,hd4,ht4,hv4,hB4⟩
    rw [HZ3.out.2.2.2] at hv4
    have HZ4:=hid (And.intro hs4 (And.intro hd4 (And.intro ht4 hv4)))
    have HB4:=hid hB4
    clear hs4 hd4 ht4 hv4 hB4 hl3
    go_wp2_with fail
    refine (nU _ _ ss ds4 _ ((HSS.out.1.below HB3.out).below HB4.out) HZ4.out.1 HSS.out.2.1 HZ4.out.2.1 HZ4.out.2.2.1 (by rw [HZ4.out.2.2.2,Nat.mul_comm];exact HK.out) (by omega)).mono ?_
    rintro e w5 ⟨v5,es,rfl,hs5,hd5,ht5,hv5,hB5⟩
    rw [HZ4.out.2.2.2] at hv5
    have hB25:Below wr.heap.size wr w5:=HB2.out.trans ((HB3.out.trans ((HB4.out.trans (hB5.mono HB4.out.size)).mono HB3.out.size)).mono HB2.out.size)
    have hsz5:w.heap.size+1≤w4.heap.size:=by have:=HB4.out.size;have:=HB3.out.size;have:=HB2.out.size;omega
    have hq0:k0*val ys+val es=val ss:=by
     have h1:=HK.out
     rw [Nat.mul_comm] at h1 ⊢
     omega
    have HZ5:=hid (And.intro (hs5.mono (B':=w.heap.size+1) hsz5) (And.intro hd5 (And.intro ht5 (And.intro hq0 hB25))))
    clear hs5 hd5 ht5 hv5 hB25 hB5 hsz5 hq0
    go_wp2
    go_loopw [6,9] (fun rv kv w6=>∃ (k:Nat) (es:List Nat),kv=.int .i64 k∧IsL (w.heap.size+1) w6 rv es∧Dig es∧aG es∧k*val ys+val es=val ss∧Below wr.heap.size wr w6) (fun _ kv _=>val ss / val ys+1 - (intOf kv).toNat)
    case atStart=>exact ⟨k0,es,rfl,HZ5.out.1,HZ5.out.2.1,HZ5.out.2.2.1,HZ5.out.2.2.2.1,HZ5.out.2.2.2.2⟩
    case round =>
     rename World=>w6
     clear HZ5 HZ4 HZ3 HK HB3 HB4 hk0b
     obtain ⟨k,es,rfl,hs6,hd6,ht6,hv6,hB6⟩:=hrel
     have hkq:Hid (k≤val ss / val ys):=by
      show _≤_
      rw [Nat.le_div_iff_mul_le hm]
      omega
     have hk1:k<10000:=mX (x:=x) (R:=val rs) (m:=val ys) hx1 HO.out.lt (by rw [← HSS.out.2.2.2.1];omega)
     have HV6:=hid hv6
     have HB6:=hid hB6
     have HS6:=hid (And.intro hs6 (And.intro hd6 ht6))
     have hes:es.length≤1099511627776:=by
      have:=dw ht6 (k:=ss.length) (by have:=aU HSS.out.2.1;omega)
      omega
     have HY6:=hid (HY.out.below (HBw0.out.trans (hB6.mono HBw0.out.size)))
     clear hs6 hd6 ht6 hv6 hB6
     go_wp2_with fail
     refine (vw _ _ es ys _ HS6.out.1 HY6.out HS6.out.2.1 dy HS6.out.2.2 ty hes (by omega)).mono ?_
     rintro e w7 ⟨rfl,q7,rfl⟩
     rcases Nat.lt_or_ge (val es) (val ys) with hlt | hge
     ·rw [eX hlt]
      have HLT:=hid hlt
      clear hlt
      have hH6:=(HQ.out.below HB6.out (by omega)) j (by rw [HO.out.len];omega)
      rw [Nat.zero_add] at hH6
      obtain ⟨c6,f6⟩:=hH6
      have hcf:(w6.drewN q7).cell? ⟨w.heap.size,j,none⟩=some (E4 (qs[j]?.getD 0)):=by rw [World.cell?_drewN];exact c6
      have hff:(w6.drewN q7).frozen? ⟨w.heap.size,j,none⟩=false:=by rw [World.frozen?_drewN];exact f6
      clear c6 f6 HY6
      go_wp2
      go_roundw
      case rel =>
       refine ⟨j,qs.set j k,es,by go_num,?_,?_,HO.out.step HXJ.out HS6.out.2.1 HS6.out.2.2 HLT.out hk1 ?_,?_,by have:=HB6.out.size;simp;omega⟩
       ·exact IsL.set (a:=⟨w.heap.size,j,none⟩) (w:=w6.drewN q7) HS6.out.1 (by simp) _
       ·exact aF.set (w:=w6.drewN q7) (fun i hi=>HQ.out.below HB6.out (by omega) i hi) j k (by rw [HO.out.len];omega)
       ·rw [← HSS.out.2.2.2.1,HV6.out]
       ·exact Below.setCell (w:=w6.drewN q7) (p:=⟨w.heap.size,j,none⟩) (dY (HBw0.out.trans (HB6.out.mono HBw0.out.size)) _) (Nat.le_refl _) _
      case measure=>simp [intOf]
     ·obtain ⟨cc,hcc⟩:∃ cc,aI (val es) (val ys)=cc:=⟨_,rfl⟩
      have hcc0:0≤cc:=by
       rw [← hcc]
       unfold aI
       rw [if_neg (by omega)]
       split <;> omega
      rw [hcc]
      have HGE:=hid hge
      clear hcc hge
      go_wp2_with fail
      refine (nU _ _ es ys (w6.drewN q7) (HS6.out.1.below (dY (Below.refl _ _) _)) (HY6.out.below (dY (Below.refl _ _) _)) HS6.out.2.1 dy ty HGE.out hes).mono ?_
      rintro e w8 ⟨v8,fs,rfl,hs8,hd8,ht8,hv8,hB8⟩
      have hBB:Below wr.heap.size wr w8:=(dY HB6.out q7).trans (hB8.mono (dY HB6.out q7).size)
      have hB9:w.heap.size+1≤(w6.drewN q7).heap.size:=by have:=HB6.out.size;simp;omega
      have HZ8:=hid (And.intro (hs8.mono hB9) (And.intro hd8 (And.intro ht8 (And.intro hv8 hBB))))
      clear hs8 hd8 ht8 hv8 hBB hB8 hB9
      go_wp2
      go_roundw
      case rel=>exact ⟨k+1,fs,by go_num,HZ8.out.1,HZ8.out.2.1,HZ8.out.2.2.1,by have h1:=HZ8.out.2.2.2.1;have h2:=HGE.out;have h3:=HV6.out;rw [Nat.add_mul];omega,HZ8.out.2.2.2.2⟩
      case measure=>have:=hkq.out;simp [intOf];omega
   ·by_cases h4:ys.length≤ss.length
    ·have e2:((ys.length:Int) - 3)=((ys.length - 3:Nat):Int):=by omega
     have E2:=hid e2
     clear e2
     go_wp2_with fail
     rw [E2.out]
     refine (xX _ (ys.length - 3) ss _ HSS.out.1 HSS.out.2.1 (by omega) (by omega) (by have:=HSS.out.2.2.2.2;omega)).mono ?_
     rintro e w' ⟨rfl,rfl⟩
     go_wp2_with fail
     rw [E2.out]
     refine (xX _ (ys.length - 3) ys _ (HY.out.below HBw.out) dy (by omega) (by omega) (by omega)).mono ?_
     rintro e w' ⟨rfl,rfl⟩
     obtain ⟨k0,hk⟩:∃ k0,val (ss.drop (ys.length - 3)) / (val (ys.drop (ys.length - 3))+1)=k0:=⟨_,rfl⟩
     have hk0:k0*val ys≤val ss:=by rw [← hk];exact Ul (QJ ss _ (by omega)) (Jm dy _ (by omega))
     have hk0b:k0<10000:=mX (x:=x) (R:=val rs) (m:=val ys) hx1 HO.out.lt (by rw [← HSS.out.2.2.2.1];exact hk0)
     have hT1:=mW (HSS.out.2.1.drop (ys.length - 3)) (by rw [List.length_drop];have:=HSS.out.2.2.2.2;omega)
     have hU1:=mW (dy.drop (ys.length - 3)) (by rw [List.length_drop];omega)
     obtain ⟨R,hR⟩:∃ R,val (ss.drop (ys.length - 3))=R:=⟨_,rfl⟩
     obtain ⟨M,hM⟩:∃ M,val (ys.drop (ys.length - 3))=M:=⟨_,rfl⟩
     rw [hR] at hT1
     rw [hM] at hU1
     rw [hR,hM] at hk
     rw [hR,hM]
     have hq:(R:Int) / ((M:Int)+1)=(k0:Int):=by rw [← hk];exact (Int.natCast_ediv R (M+1)).symm
     have hM1:(((M:Int)+1) == 0)=false:=by rw [beq_eq_false_iff_ne];omega
     have hM2:(0:Int)≤(M:Int)+1:=by omega
     clear hk hR hM
     have HK:=hid hk0
     clear hk0
     go_wp2_with fail
     refine (kY (k0:Int) (by omega) (by omega) _).mono ?_
     rintro e w3 ⟨s3,ds3,rfl,hs3,hd3,ht3,hv3,hB3⟩
     obtain ⟨p3,b3,o3,k3,rfl,-,-,-,-⟩:=hs3.shape
     rw [Int.natAbs_natCast] at hv3
     have HZ3:=hid (And.intro hs3 (And.intro hd3 (And.intro ht3 hv3)))
     have HB3:=hid hB3
     clear hs3 hd3 ht3 hv3 hB3
     go_wp2_with fail
     have hl3:ds3.length≤549755813888:=by
      have:ds3.length≤5:=dw HZ3.out.2.2.1 (by rw [HZ3.out.2.2.2];have h5:B4 ^ 5=100000000000000000000:=(by decide);rw [h5];omega)
      omega
     refine (uz _ _ ys ds3 _ ((HY.out.below HBw.out).below HB3.out) HZ3.out.1 dy HZ3.out.2.1 hsy hl3).mono ?_
     rintro e w4 ⟨v4,ds4,rfl,hs4,hd4,ht4,hv4,hB4⟩
     rw [HZ3.out.2.2.2] at hv4
     have HZ4:=hid (And.intro hs4 (And.intro hd4 (And.intro ht4 hv4)))
     have HB4:=hid hB4
     clear hs4 hd4 ht4 hv4 hB4 hl3
     go_wp2_with fail
     refine (nU _ _ ss ds4 _ ((HSS.out.1.below HB3.out).below HB4.out) HZ4.out.1 HSS.out.2.1 HZ4.out.2.1 HZ4.out.2.2.1 (by rw [HZ4.out.2.2.2,Nat.mul_comm];exact HK.out) (by omega)).mono ?_
     rintro e w5 ⟨v5,es,rfl,hs5,hd5,ht5,hv5,hB5⟩
     rw [HZ4.out.2.2.2] at hv5
     have hB25:Below wr.heap.size wr w5:=HB2.out.trans ((HB3.out.trans ((HB4.out.trans (hB5.mono HB4.out.size)).mono HB3.out.size)).mono HB2.out.size)
     have hsz5:w.heap.size+1≤w4.heap.size:=by have:=HB4.out.size;have:=HB3.out.size;have:=HB2.out.size;omega
     have hq0:k0*val ys+val es=val ss:=by
      have h1:=HK.out
      rw [Nat.mul_comm] at h1 ⊢
      omega
     have HZ5:=hid (And.intro (hs5.mono (B':=w.heap.size+1) hsz5) (And.intro hd5 (And.intro ht5 (And.intro hq0 hB25))))
     clear hs5 hd5 ht5 hv5 hB25 hB5 hsz5 hq0
     go_wp2
     go_loopw [6,9] (fun rv kv w6=>∃ (k:Nat) (es:List Nat),kv=.int .i64 k∧IsL (w.heap.size+1) w6 rv es∧Dig es∧aG es∧k*val ys+val es=val ss∧Below wr.heap.size wr w6) (fun _ kv _=>val ss / val ys+1 - (intOf kv).toNat)
     case atStart=>exact ⟨k0,es,rfl,HZ5.out.1,HZ5.out.2.1,HZ5.out.2.2.1,HZ5.out.2.2.2.1,HZ5.out.2.2.2.2⟩
     case round =>
      rename World=>w6
      clear HZ5 HZ4 HZ3 HK HB3 HB4 hk0b
      obtain ⟨k,es,rfl,hs6,hd6,ht6,hv6,hB6⟩:=hrel
      have hkq:Hid (k≤val ss / val ys):=by
       show _≤_
       rw [Nat.le_div_iff_mul_le hm]
       omega
      have hk1:k<10000:=mX (x:=x) (R:=val rs) (m:=val ys) hx1 HO.out.lt (by rw [← HSS.out.2.2.2.1];omega)
      have HV6:=hid hv6
      have HB6:=hid hB6
      have HS6:=hid (And.intro hs6 (And.intro hd6 ht6))
      have hes:es.length≤1099511627776:=by
       have:=dw ht6 (k:=ss.length) (by have:=aU HSS.out.2.1;omega)
       omega
      have HY6:=hid (HY.out.below (HBw0.out.trans (hB6.mono HBw0.out.size)))
      clear hs6 hd6 ht6 hv6 hB6
      go_wp2_with fail
      refine (vw _ _ es ys _ HS6.out.1 HY6.out HS6.out.2.1 dy HS6.out.2.2 ty hes (by omega)).mono ?_
      rintro e w7 ⟨rfl,q7,rfl⟩
      rcases Nat.lt_or_ge (val es) (val ys) with hlt | hge
      ·rw [eX hlt]
       have HLT:=hid hlt
       clear hlt
       have hH6:=(HQ.out.below HB6.out (by omega)) j (by rw [HO.out.len];omega)
       rw [Nat.zero_add] at hH6
       obtain ⟨c6,f6⟩:=hH6
       have hcf:(w6.drewN q7).cell? ⟨w.heap.size,j,none⟩=some (E4 (qs[j]?.getD 0)):=by rw [World.cell?_drewN];exact c6
       have hff:(w6.drewN q7).frozen? ⟨w.heap.size,j,none⟩=false:=by rw [World.frozen?_drewN];exact f6
       clear c6 f6 HY6
       go_wp2
       go_roundw
       case rel =>
        refine ⟨j,qs.set j k,es,by go_num,?_,?_,HO.out.step HXJ.out HS6.out.2.1 HS6.out.2.2 HLT.out hk1 ?_,?_,by have:=HB6.out.size;simp;omega⟩
        ·exact IsL.set (a:=⟨w.heap.size,j,none⟩) (w:=w6.drewN q7) HS6.out.1 (by simp) _
        ·exact aF.set (w:=w6.drewN q7) (fun i hi=>HQ.out.below HB6.out (by omega) i hi) j k (by rw [HO.out.len];omega)
        ·rw [← HSS.out.2.2.2.1,HV6.out]
        ·exact Below.setCell (w:=w6.drewN q7) (p:=⟨w.heap.size,j,none⟩) (dY (HBw0.out.trans (HB6.out.mono HBw0.out.size)) _) (Nat.le_refl _) _
       case measure=>simp [intOf]
      ·obtain ⟨cc,hcc⟩:∃ cc,aI (val es) (val ys)=cc:=⟨_,rfl⟩
       have hcc0:0≤cc:=by
        rw [← hcc]
        unfold aI
        rw [if_neg (by omega)]
        split <;> omega
       rw [hcc]
       have HGE:=hid hge
       clear hcc hge
       go_wp2_with fail
       refine (nU _ _ es ys (w6.drewN q7) (HS6.out.1.below (dY (Below.refl _ _) _)) (HY6.out.below (dY (Below.refl _ _) _)) HS6.out.2.1 dy ty HGE.out hes).mono ?_
       rintro e w8 ⟨v8,fs,rfl,hs8,hd8,ht8,hv8,hB8⟩
       have hBB:Below wr.heap.size wr w8:=(dY HB6.out q7).trans (hB8.mono (dY HB6.out q7).size)
       have hB9:w.heap.size+1≤(w6.drewN q7).heap.size:=by have:=HB6.out.size;simp;omega
       have HZ8:=hid (And.intro (hs8.mono hB9) (And.intro hd8 (And.intro ht8 (And.intro hv8 hBB))))
       clear hs8 hd8 ht8 hv8 hBB hB8 hB9
       go_wp2
       go_roundw
       case rel=>exact ⟨k+1,fs,by go_num,HZ8.out.1,HZ8.out.2.1,HZ8.out.2.2.1,by have h1:=HZ8.out.2.2.2.1;have h2:=HGE.out;have h3:=HV6.out;rw [Nat.add_mul];omega,HZ8.out.2.2.2.2⟩
       case measure=>have:=hkq.out;simp [intOf];omega
    ·have hk0:0*val ys≤val ss:=by omega
     have HK:=hid hk0
     clear hk0
     go_wp2_with fail
     refine (kY 0 (by omega) (by omega) _).mono ?_
     rintro e w3 ⟨s3,ds3,rfl,hs3,hd3,ht3,hv3,hB3⟩
     obtain ⟨p3,b3,o3,k3,rfl,-,-,-,-⟩:=hs3.shape
     rw [Int.natAbs_zero] at hv3
     have HZ3:=hid (And.intro hs3 (And.intro hd3 (And.intro ht3 hv3)))
     have HB3:=hid hB3
     clear hs3 hd3 ht3 hv3 hB3
     go_wp2_with fail
     have hl3:ds3.length≤549755813888:=by
      have:ds3.length≤5:=dw HZ3.out.2.2.1 (by rw [HZ3.out.2.2.2];have h5:B4 ^ 5=100000000000000000000:=(by decide);rw [h5];omega)
      omega
     refine (uz _ _ ys ds3 _ ((HY.out.below HBw.out).below HB3.out) HZ3.out.1 dy HZ3.out.2.1 hsy hl3).mono ?_
     rintro e w4 ⟨v4,ds4,rfl,hs4,hd4,ht4,hv4,hB4⟩
     rw [HZ3.out.2.2.2] at hv4
     have HZ4:=hid (And.intro hs4 (And.intro hd4 (And.intro ht4 hv4)))
     have HB4:=hid hB4
     clear hs4 hd4 ht4 hv4 hB4 hl3
     go_wp2_with fail
     refine (nU _ _ ss ds4 _ ((HSS.out.1.below HB3.out).below HB4.out) HZ4.out.1 HSS.out.2.1 HZ4.out.2.1 HZ4.out.2.2.1 (by rw [HZ4.out.2.2.2,Nat.mul_comm];exact HK.out) (by omega)).mono ?_
     rintro e w5 ⟨v5,es,rfl,hs5,hd5,ht5,hv5,hB5⟩
     rw [HZ4.out.2.2.2] at hv5
     have hB25:Below wr.heap.size wr w5:=HB2.out.trans ((HB3.out.trans ((HB4.out.trans (hB5.mono HB4.out.size)).mono HB3.out.size)).mono HB2.out.size)
     have hsz5:w.heap.size+1≤w4.heap.size:=by have:=HB4.out.size;have:=HB3.out.size;have:=HB2.out.size;omega
     have hq0:0*val ys+val es=val ss:=by
      have h1:=HK.out
      rw [Nat.mul_comm] at h1 ⊢
      omega
     have HZ5:=hid (And.intro (hs5.mono (B':=w.heap.size+1) hsz5) (And.intro hd5 (And.intro ht5 (And.intro hq0 hB25))))
     clear hs5 hd5 ht5 hv5 hB25 hB5 hsz5 hq0
     go_wp2
     go_loopw [6,9] (fun rv kv w6=>∃ (k:Nat) (es:List Nat),kv=.int .i64 k∧IsL (w.heap.size+1) w6 rv es∧Dig es∧aG es∧k*val ys+val es=val ss∧Below wr.heap.size wr w6) (fun _ kv _=>val ss / val ys+1 - (intOf kv).toNat)
     case atStart=>exact ⟨0,es,rfl,HZ5.out.1,HZ5.out.2.1,HZ5.out.2.2.1,HZ5.out.2.2.2.1,HZ5.out.2.2.2.2⟩
     case round =>
      rename World=>w6
      clear HZ5 HZ4 HZ3 HK HB3 HB4
      obtain ⟨k,es,rfl,hs6,hd6,ht6,hv6,hB6⟩:=hrel
      have hkq:Hid (k≤val ss / val ys):=by
       show _≤_
       rw [Nat.le_div_iff_mul_le hm]
       omega
      have hk1:k<10000:=mX (x:=x) (R:=val rs) (m:=val ys) hx1 HO.out.lt (by rw [← HSS.out.2.2.2.1];omega)
      have HV6:=hid hv6
      have HB6:=hid hB6
      have HS6:=hid (And.intro hs6 (And.intro hd6 ht6))
      have hes:es.length≤1099511627776:=by
       have:=dw ht6 (k:=ss.length) (by have:=aU HSS.out.2.1;omega)
       omega
      have HY6:=hid (HY.out.below (HBw0.out.trans (hB6.mono HBw0.out.size)))
      clear hs6 hd6 ht6 hv6 hB6
      go_wp2_with fail
      refine (vw _ _ es ys _ HS6.out.1 HY6.out HS6.out.2.1 dy HS6.out.2.2 ty hes (by omega)).mono ?_
      rintro e w7 ⟨rfl,q7,rfl⟩
      rcases Nat.lt_or_ge (val es) (val ys) with hlt | hge
      ·rw [eX hlt]
       have HLT:=hid hlt
       clear hlt
       have hH6:=(HQ.out.below HB6.out (by omega)) j (by rw [HO.out.len];omega)
       rw [Nat.zero_add] at hH6
       obtain ⟨c6,f6⟩:=hH6
       have hcf:(w6.drewN q7).cell? ⟨w.heap.size,j,none⟩=some (E4 (qs[j]?.getD 0)):=by rw [World.cell?_drewN];exact c6
       have hff:(w6.drewN q7).frozen? ⟨w.heap.size,j,none⟩=false:=by rw [World.frozen?_drewN];exact f6
       clear c6 f6 HY6
       go_wp2
       go_roundw
       case rel =>
        refine ⟨j,qs.set j k,es,by go_num,?_,?_,HO.out.step HXJ.out HS6.out.2.1 HS6.out.2.2 HLT.out hk1 ?_,?_,by have:=HB6.out.size;simp;omega⟩
        ·exact IsL.set (a:=⟨w.heap.size,j,none⟩) (w:=w6.drewN q7) HS6.out.1 (by simp) _
        ·exact aF.set (w:=w6.drewN q7) (fun i hi=>HQ.out.below HB6.out (by omega) i hi) j k (by rw [HO.out.len];omega)
        ·rw [← HSS.out.2.2.2.1,HV6.out]
        ·exact Below.setCell (w:=w6.drewN q7) (p:=⟨w.heap.size,j,none⟩) (dY (HBw0.out.trans (HB6.out.mono HBw0.out.size)) _) (Nat.le_refl _) _
       case measure=>simp [intOf]
      ·obtain ⟨cc,hcc⟩:∃ cc,aI (val es) (val ys)=cc:=⟨_,rfl⟩
       have hcc0:0≤cc:=by
        rw [← hcc]
        unfold aI
        rw [if_neg (by omega)]
        split <;> omega
       rw [hcc]
       have HGE:=hid hge
       clear hcc hge
       go_wp2_with fail
       refine (nU _ _ es ys (w6.drewN q7) (HS6.out.1.below (dY (Below.refl _ _) _)) (HY6.out.below (dY (Below.refl _ _) _)) HS6.out.2.1 dy ty HGE.out hes).mono ?_
       rintro e w8 ⟨v8,fs,rfl,hs8,hd8,ht8,hv8,hB8⟩
       have hBB:Below wr.heap.size wr w8:=(dY HB6.out q7).trans (hB8.mono (dY HB6.out q7).size)
       have hB9:w.heap.size+1≤(w6.drewN q7).heap.size:=by have:=HB6.out.size;simp;omega
       have HZ8:=hid (And.intro (hs8.mono hB9) (And.intro hd8 (And.intro ht8 (And.intro hv8 hBB))))
       clear hs8 hd8 ht8 hv8 hBB hB8 hB9
       go_wp2
       go_roundw
       case rel=>exact ⟨k+1,fs,by go_num,HZ8.out.1,HZ8.out.2.1,HZ8.out.2.2.1,by have h1:=HZ8.out.2.2.2.1;have h2:=HGE.out;have h3:=HV6.out;rw [Nat.add_mul];omega,HZ8.out.2.2.2.2⟩
       case measure=>have:=hkq.out;simp [intOf];omega
end Z4
section
open Go.RowKit Go.Sort
structure Bk where
 pos:Nat
 ty:TypeId
 vs:List Value
def isU:Value→Bool
 | .int .u64 _=>true
 | _=>false
def isI:Value→Bool
 | .int .i64 _=>true
 | _=>false
def dZ:List Value→Bool
 | []=>true
 | [a]=>!isI a
 | a :: b :: r=>!(isU a && isU b) && !isI a && dZ (b :: r)
theorem DV {a:Value} {r:List Value} (h:dZ (a :: r)=true):dZ r=true:=by
 cases r with
 | nil=>rfl
 | cons b r=>simp only [dZ,Bool.and_eq_true] at h;exact h.2
theorem Hr:∀ {vs:List Value} {i:Nat} {x:Int},dZ vs=true→vs[i]? = some (.int .i64 x)→False
 | [],i,x,_,h=>by simp at h
 | a :: r,0,x,hk,h=>by
  simp only [List.getElem?_cons_zero,Option.some.injEq] at h
  subst h
  cases r <;> simp [dZ,isI] at hk
 | a :: r,i+1,x,hk,h=>Hr (DV hk) (by simpa using h)
theorem FV:∀ {vs:List Value} {i:Nat} {x y:Int},dZ vs=true→vs[i]? = some (.int .u64 x)→vs[i+1]? = some (.int .u64 y)→False
 | [],i,x,y,_,h,_=>by simp at h
 | [a],0,x,y,hk,h,h2=>by simp at h2
 | a :: b :: r,0,x,y,hk,h,h2=>by
  simp only [List.getElem?_cons_zero,Option.some.injEq] at h
  simp only [Nat.zero_add,List.getElem?_cons_succ,List.getElem?_cons_zero,Option.some.injEq] at h2
  subst h h2
  simp [dZ,isU] at hk
 | a :: r,i+1,x,y,hk,h,h2=>FV (DV hk) (by simpa using h) (by simpa using h2)
abbrev c5 (t:Bool) (x:Int) (p:Option Addr) (l q:Nat) (y:Int) (p':Option Addr) (l' q':Nat):List Value:=[.bool t,.int .u64 x,.slice p l q,.int .u64 y,.slice p' l' q']
abbrev z5:List Value:=[.bool false,.int .u64 0,.slice none 0 0,.int .u64 0,.slice none 0 0]
def Bx (W:World) (b:Nat) (T:TypeId) (vs:List Value):Prop:=W.heap[b]? = some (.cells vs.toArray T (0,0))
theorem Bx.lt {W:World} {b:Nat} {T:TypeId} {vs:List Value} (h:Bx W b T vs):b<W.heap.size:=by
 rcases Nat.lt_or_ge b W.heap.size with hlt | hge
 ·exact hlt
 ·unfold Bx at h;rw [Array.getElem?_eq_none hge] at h;cases h
theorem Bx.cell {W:World} {b:Nat} {T:TypeId} {vs:List Value} (h:Bx W b T vs) (i:Nat):W.cell? ⟨b,i,none⟩=vs[i]?:=by
 unfold Bx at h
 simp [World.cell?,h]
theorem Bx.frozen {W:World} {b:Nat} {T:TypeId} {vs:List Value} (h:Bx W b T vs) (i:Nat):W.frozen? ⟨b,i,none⟩=false:=by
 unfold Bx at h
 simp [World.frozen?,h]
theorem Bx.below {W W':World} {b:Nat} {T:TypeId} {vs:List Value} (h:Bx W b T vs) (hb:Below W.heap.size W W'):Bx W' b T vs:=(hb.block b h.lt).trans h
theorem Bx.new (W:World) (T:TypeId) (vs:List Value):Bx (W.alloc (.cells vs.toArray T)) W.heap.size T vs:=heap_alloc_new W _
theorem Bx.set {W:World} {b:Nat} {T:TypeId} {vs:List Value} (h:Bx W b T vs) (i:Nat) (u:Value):Bx (W.setCell ⟨b,i,none⟩ u) b T (vs.set i u):=by
 unfold Bx at h ⊢
 simp [World.setCell,Array.getElem?_modify,h]
theorem Bx.far {W:World} {b:Nat} {T:TypeId} {vs:List Value} (h:Bx W b T vs) {a:Addr} (ha:b≠a.block) (u:Value):Bx (W.setCell a u) b T vs:=(Below.heap_setCell W a u b ha).trans h
theorem ah.setBox {W:World} {c d:Value} {n b i:Nat} {T:TypeId} {vs:List Value} {u:Value} (h:ah W c d n) (hb:Bx W b T vs) (ok:dZ vs=true):ah (W.setCell ⟨b,i,none⟩ u) c d n:=by
 rcases h with h | ⟨b1,o,k,xs,k1,k2,k3,k4,k5,k6,k7,k8,k9⟩
 ·exact .inl h
 ·have hne:b1≠b:=fun e=>by
   subst e
   have h0:=k9 0 (by omega)
   have h1:=k9 1 (by omega)
   rw [Nat.add_zero,hb.cell] at h0
   rw [hb.cell] at h1
   exact FV ok h0 h1
  refine .inr ⟨b1,o,k,xs,k1,k2,by simpa using k3,k4,k5,k6,k7,k8,fun j hj=>?_⟩
  rw [World.cell?_setCell_other _ _ _ _ (fun e=>hne (by have:=congrArg Addr.block e;simpa using this.symm))]
  exact k9 j hj
theorem IsQ.setBox {W:World} {v:Value} {r:Rat} {b i:Nat} {T:TypeId} {vs:List Value} {u:Value} (h:IsQ W v r) (hb:Bx W b T vs) (ok:dZ vs=true):IsQ (W.setCell ⟨b,i,none⟩ u) v r:=by
 obtain ⟨c,d,e,f,rfl,h1,h2⟩:=h
 exact ⟨c,d,e,f,rfl,h1.setBox hb ok,h2.setBox hb ok⟩
namespace Z4
theorem IsL.setBox {W:World} {B:Nat} {v:Value} {xs:List Nat} {b i:Nat} {T:TypeId} {vs:List Value} {u:Value} (h:IsL B W v xs) (hb:Bx W b T vs) (ok:dZ vs=true):IsL B (W.setCell ⟨b,i,none⟩ u) v xs:=by
 rcases h with h | ⟨b1,o,k,rfl,k1,k2,k3,k4⟩
 ·exact .inl h
 ·refine .inr ⟨b1,o,k,rfl,k1,by simpa using k2,k3,fun j hj=>?_⟩
  have hne:b1≠b:=fun e=>by
   subst e
   have h0:=k4 j hj
   rw [hb.cell] at h0
   exact Hr ok h0
  rw [World.cell?_setCell_other _ _ _ _ (fun e=>hne (by have:=congrArg Addr.block e;simpa using this.symm))]
  exact k4 j hj
def IsZ (W:World) (v:Value) (z:Int):Prop:=∃ (p:Option Addr) (l k:Nat) (xs:List Nat),v=.agg #[.bool (decide (z<0)),.slice p l k]∧IsL 0 W (.slice p l k) xs∧Dig xs∧aG xs∧val xs=z.natAbs
theorem IsZ.below {W W':World} {v:Value} {z:Int} (h:IsZ W v z) (hb:Below W.heap.size W W'):IsZ W' v z:=by
 obtain ⟨p,l,k,xs,h1,h2,h3⟩:=h
 exact ⟨p,l,k,xs,h1,h2.below hb,h3⟩
theorem IsZ.setBox {W:World} {v:Value} {z:Int} {b i:Nat} {T:TypeId} {vs:List Value} {u:Value} (h:IsZ W v z) (hb:Bx W b T vs) (ok:dZ vs=true):IsZ (W.setCell ⟨b,i,none⟩ u) v z:=by
 obtain ⟨p,l,k,xs,h1,h2,h3⟩:=h
 exact ⟨p,l,k,xs,h1,h2.setBox hb ok,h3⟩
end Z4
inductive Fc
 | q (v:Value) (r:Rat)
 | m (c d:Value) (n:Nat)
 | l (B:Nat) (v:Value) (xs:List Nat)
 | z (v:Value) (n:Int)
def Fc.on:Fc→World→Prop
 | .q v r,W=>IsQ W v r
 | .m c d n,W=>ah W c d n
 | .l B v xs,W=>Z4.IsL B W v xs
 | .z v n,W=>Z4.IsZ W v n
theorem Fc.below {f:Fc} {W W':World} (h:f.on W) (hb:Below W.heap.size W W'):f.on W':=by
 cases f
 ·exact IsQ.below h hb
 ·exact ah.below h hb
 ·exact Z4.IsL.below h hb
 ·exact Z4.IsZ.below h hb
theorem Fc.setBox {f:Fc} {W:World} {b i:Nat} {T:TypeId} {vs:List Value} {u:Value} (h:f.on W) (hb:Bx W b T vs) (ok:dZ vs=true):f.on (W.setCell ⟨b,i,none⟩ u):=by
 cases f
 ·exact IsQ.setBox h hb ok
 ·exact ah.setBox h hb ok
 ·exact Z4.IsL.setBox h hb ok
 ·exact Z4.IsZ.setBox h hb ok
def bW (w W:World):List Bk→Prop
 | []=>True
 | b :: r=>(w.heap.size≤b.pos∧Bx W b.pos b.ty b.vs∧∀ c∈r,b.pos≠c.pos)∧bW w W r
def Facts (W:World):List Fc→Prop
 | []=>True
 | f :: r=>f.on W∧Facts W r
theorem bW.below {w W W':World} (hb:Below W.heap.size W W'):∀ {bs:List Bk},bW w W bs→bW w W' bs
 | [],_=>trivial
 | _ :: _,h=>⟨⟨h.1.1,h.1.2.1.below hb,h.1.2.2⟩,h.2.below hb⟩
theorem Facts.below {W W':World} (hb:Below W.heap.size W W'):∀ {fs:List Fc},Facts W fs→Facts W' fs
 | [],_=>trivial
 | _ :: _,h=>⟨Fc.below h.1 hb,h.2.below hb⟩
theorem bW.far {w W:World} {a:Addr} (u:Value):∀ {bs:List Bk},(∀ c∈bs,a.block≠c.pos)→bW w W bs→bW w (W.setCell a u) bs
 | [],_,_=>trivial
 | _ :: _,hn,h=>⟨⟨h.1.1,h.1.2.1.far (Ne.symm (hn _ (by simp))) u,h.1.2.2⟩,h.2.far u fun c hc=>hn c (by simp [hc])⟩
theorem Facts.setBox {W:World} {b i:Nat} {T:TypeId} {vs:List Value} {u:Value} (hb:Bx W b T vs) (ok:dZ vs=true):∀ {fs:List Fc},Facts W fs→Facts (W.setCell ⟨b,i,none⟩ u) fs
 | [],_=>trivial
 | _ :: _,h=>⟨Fc.setBox h.1 hb ok,h.2.setBox hb ok⟩
theorem bW.get {w W:World}:∀ {bs:List Bk} {k:Nat} {b:Bk},bW w W bs→bs[k]? = some b→w.heap.size≤b.pos∧Bx W b.pos b.ty b.vs
 | [],_,_,_,h=>by simp at h
 | _ :: _,0,_,h,e=>by simp at e;subst e;exact ⟨h.1.1,h.1.2.1⟩
 | _ :: _,k+1,_,h,e=>h.2.get (by simpa using e)
def nK:List Bk→Nat→Nat→Value→List Bk
 | [],_,_,_=>[]
 | b :: r,0,i,u=>⟨b.pos,b.ty,b.vs.set i u⟩ :: r
 | b :: r,k+1,i,u=>b :: nK r k i u
theorem Jh:∀ {bs:List Bk} {k i:Nat} {u:Value} {c:Bk},c∈nK bs k i u→∃ c'∈bs,c'.pos=c.pos
 | [],_,_,_,_,h=>by simp [nK] at h
 | b :: r,0,i,u,c,h=>by
  simp only [nK,List.mem_cons] at h
  rcases h with rfl | h
  ·exact ⟨b,by simp,rfl⟩
  ·exact ⟨c,by simp [h],rfl⟩
 | b :: r,k+1,i,u,c,h=>by
  simp only [nK,List.mem_cons] at h
  rcases h with rfl | h
  ·exact ⟨c,by simp,rfl⟩
  ·obtain ⟨c',h1,h2⟩:=Jh h
   exact ⟨c',by simp [h1],h2⟩
theorem bW.set {w W:World} (i:Nat) (u:Value):∀ {bs:List Bk} {k:Nat} {b:Bk},bW w W bs→bs[k]? = some b→bW w (W.setCell ⟨b.pos,i,none⟩ u) (nK bs k i u)
 | [],_,_,_,h=>by simp at h
 | c :: r,0,b,h,e=>by
  simp at e
  subst e
  exact ⟨⟨h.1.1,h.1.2.1.set i u,h.1.2.2⟩,h.2.far u fun d hd=>h.1.2.2 d hd⟩
 | c :: r,k+1,b,h,e=>by
  have e':r[k]? = some b:=by simpa using e
  have hb:b∈r:=List.mem_of_getElem? e'
  refine ⟨⟨h.1.1,h.1.2.1.far (h.1.2.2 b hb) u,fun d hd=>?_⟩,h.2.set i u e'⟩
  obtain ⟨d',h1,h2⟩:=Jh hd
  rw [← h2]
  exact h.1.2.2 d' h1
structure St (w:World) (bs:List Bk) (fs:List Fc) (W:World):Prop where
 bel:Below w.heap.size w W
 box:bW w W bs
 fct:Facts W fs
theorem St.start (w:World):St w [] [] w:=⟨Below.refl _ _,trivial,trivial⟩
theorem St.call {w W W':World} {bs:List Bk} {fs:List Fc} (h:St w bs fs W) (hb:Below W.heap.size W W'):St w bs fs W':=
 ⟨h.bel.trans (hb.mono h.bel.size),h.box.below hb,h.fct.below hb⟩
theorem St.drew {w W:World} {bs:List Bk} {fs:List Fc} (h:St w bs fs W):St w bs fs W.drew:=h.call (Below.refl _ _).drew
theorem St.fact {w W:World} {bs:List Bk} {fs:List Fc} (h:St w bs fs W) (f:Fc) (hf:f.on W):St w bs (f :: fs) W:=⟨h.bel,h.box,hf,h.fct⟩
theorem St.alloc {w W:World} {bs:List Bk} {fs:List Fc} (h:St w bs fs W) (T:TypeId) (vs:List Value):St w (⟨W.heap.size,T,vs⟩ :: bs) fs (W.alloc (.cells vs.toArray T)):=by
 have hb:=(Below.refl W.heap.size W).alloc (Nat.le_refl _) (.cells vs.toArray T)
 refine ⟨h.bel.trans (hb.mono h.bel.size),⟨⟨h.bel.size,Bx.new W T vs,fun c hc=>?_⟩,h.box.below hb⟩,h.fct.below hb⟩
 obtain ⟨k,hk⟩:=List.getElem?_of_mem hc
 have:=(h.box.get hk).2.lt
 show W.heap.size≠c.pos
 omega
theorem St.alloc' {w W:World} {bs:List Bk} {fs:List Fc} (h:St w bs fs W) (n:Nat) (hn:W.heap.size=n) (T:TypeId) (vs:List Value):St w (⟨n,T,vs⟩ :: bs) fs (W.alloc (.cells vs.toArray T)):=by
 subst hn
 exact h.alloc T vs
theorem St.store {w W:World} {bs:List Bk} {fs:List Fc} (h:St w bs fs W) (k i:Nat) (u:Value) {b:Bk} (hk:bs[k]? = some b) (ok:dZ b.vs=true):St w (nK bs k i u) fs (W.setCell ⟨b.pos,i,none⟩ u):=by
 obtain ⟨h1,h2⟩:=h.box.get hk
 exact ⟨h.bel.setCell h1 u,h.box.set i u hk,h.fct.setBox h2 ok⟩
theorem St.bx {w W:World} {bs:List Bk} {fs:List Fc} (h:St w bs fs W) (k:Nat) {b:Bk} (hk:bs[k]? = some b):Bx W b.pos b.ty b.vs:=(h.box.get hk).2
theorem Facts.get {W:World}:∀ {fs:List Fc} {k:Nat} {f:Fc},Facts W fs→fs[k]? = some f→f.on W
 | [],_,_,_,h=>by simp at h
 | _ :: _,0,_,h,e=>by simp at e;subst e;exact h.1
 | _ :: _,k+1,_,h,e=>h.2.get (by simpa using e)
theorem St.get {w W:World} {bs:List Bk} {fs:List Fc} (h:St w bs fs W) (k:Nat) {f:Fc} (hk:fs[k]? = some f):f.on W:=h.fct.get hk
theorem St.add {w W:World} {bs:List Bk} {fs:List Fc} (h:St w bs fs W) {L:Nat} {T:TypeId} {vs:List Value} (h1:w.heap.size≤L) (h2:Bx W L T vs) (h3:∀ c∈bs,L≠c.pos):St w (⟨L,T,vs⟩ :: bs) fs W:=
 ⟨h.bel,⟨⟨h1,h2,h3⟩,h.box⟩,h.fct⟩
theorem bW.old {w W:World} {N:Nat} (hN:W.heap.size≤N):∀ {bs:List Bk},bW w W bs→∀ c∈bs,N≠c.pos
 | [],_,c,hc=>by simp at hc
 | b :: r,h,c,hc=>by
  rcases List.mem_cons.1 hc with rfl | h1
  ·have:=h.1.2.1.lt;omega
  ·exact h.2.old hN c h1
theorem St.old {w W:World} {bs:List Bk} {fs:List Fc} (h:St w bs fs W) {N:Nat} (hN:W.heap.size≤N):∀ c∈bs,N≠c.pos:=h.box.old hN
def iE (B:Nat) (T:TypeId) (vs:List Value) (v:Value) (W:World):Prop:=∃ L,v=.pointer (some ⟨L,0,none⟩)∧B≤L∧L<W.heap.size∧Bx W L T vs
theorem vC {B:Nat} {T:TypeId} {vs:List Value}:∀ v W W',Below W.heap.size W W'→iE B T vs v W→iE B T vs v W':=
 fun _ _ _ hb ⟨L,e,h1,h2,h3⟩=>⟨L,e,h1,Nat.lt_of_lt_of_le h2 hb.size,h3.below hb⟩
theorem mY {z:Int}:∀ v W W',Below W.heap.size W W'→(fun v W=>Z4.IsZ W v z) v W→(fun v W=>Z4.IsZ W v z) v W':=fun _ _ _ hb h=>Z4.IsZ.below h hb
theorem Bx.f1 {W:World} {b:Nat} {T:TypeId} {v0:Value} (h:Bx W b T [v0]):W.cell? ⟨b,0,none⟩=some v0∧W.frozen? ⟨b,0,none⟩=false:=⟨h.cell 0,h.frozen 0⟩
theorem Bx.f2 {W:World} {b:Nat} {T:TypeId} {v0 v1:Value} (h:Bx W b T [v0,v1]) :
  (W.cell? ⟨b,0,none⟩=some v0∧W.cell? ⟨b,1,none⟩=some v1)∧W.frozen? ⟨b,0,none⟩=false∧W.frozen? ⟨b,1,none⟩=false:=⟨⟨h.cell 0,h.cell 1⟩,h.frozen 0,h.frozen 1⟩
theorem Bx.f3 {W:World} {b:Nat} {T:TypeId} {v0 v1 v2:Value} (h:Bx W b T [v0,v1,v2]) :
  (W.cell? ⟨b,0,none⟩=some v0∧W.cell? ⟨b,1,none⟩=some v1∧W.cell? ⟨b,2,none⟩=some v2)∧W.frozen? ⟨b,0,none⟩=false∧W.frozen? ⟨b,1,none⟩=false∧W.frozen? ⟨b,2,none⟩=false:=⟨⟨h.cell 0,h.cell 1,h.cell 2⟩,h.frozen 0,h.frozen 1,h.frozen 2⟩
theorem Bx.f4 {W:World} {b:Nat} {T:TypeId} {v0 v1 v2 v3:Value} (h:Bx W b T [v0,v1,v2,v3]) :
  (W.cell? ⟨b,0,none⟩=some v0∧W.cell? ⟨b,1,none⟩=some v1∧W.cell? ⟨b,2,none⟩=some v2∧W.cell? ⟨b,3,none⟩=some v3)∧W.frozen? ⟨b,0,none⟩=false∧W.frozen? ⟨b,1,none⟩=false∧W.frozen? ⟨b,2,none⟩=false∧W.frozen? ⟨b,3,none⟩=false:=
 ⟨⟨h.cell 0,h.cell 1,h.cell 2,h.cell 3⟩,h.frozen 0,h.frozen 1,h.frozen 2,h.frozen 3⟩
theorem Bx.f5 {W:World} {b:Nat} {T:TypeId} {v0 v1 v2 v3 v4:Value} (h:Bx W b T [v0,v1,v2,v3,v4]) :
  (W.cell? ⟨b,0,none⟩=some v0∧W.cell? ⟨b,1,none⟩=some v1∧W.cell? ⟨b,2,none⟩=some v2∧W.cell? ⟨b,3,none⟩=some v3∧W.cell? ⟨b,4,none⟩=some v4) ∧
  W.frozen? ⟨b,0,none⟩=false∧W.frozen? ⟨b,1,none⟩=false∧W.frozen? ⟨b,2,none⟩=false∧W.frozen? ⟨b,3,none⟩=false∧W.frozen? ⟨b,4,none⟩=false:=
 ⟨⟨h.cell 0,h.cell 1,h.cell 2,h.cell 3,h.cell 4⟩,h.frozen 0,h.frozen 1,h.frozen 2,h.frozen 3,h.frozen 4⟩
theorem St.f1 {w W:World} {bs:List Bk} {fs:List Fc} (h:St w bs fs W) (k b:Nat) (T:TypeId) (v0:Value) (hk:bs[k]? = some ⟨b,T,[v0]⟩):W.cell? ⟨b,0,none⟩=some v0∧W.frozen? ⟨b,0,none⟩=false:=(h.bx k hk).f1
theorem St.f2 {w W:World} {bs:List Bk} {fs:List Fc} (h:St w bs fs W) (k b:Nat) (T:TypeId) (v0 v1:Value) (hk:bs[k]? = some ⟨b,T,[v0,v1]⟩) :
  (W.cell? ⟨b,0,none⟩=some v0∧W.cell? ⟨b,1,none⟩=some v1)∧W.frozen? ⟨b,0,none⟩=false∧W.frozen? ⟨b,1,none⟩=false:=(h.bx k hk).f2
theorem St.f3 {w W:World} {bs:List Bk} {fs:List Fc} (h:St w bs fs W) (k b:Nat) (T:TypeId) (v0 v1 v2:Value) (hk:bs[k]? = some ⟨b,T,[v0,v1,v2]⟩) :
  (W.cell? ⟨b,0,none⟩=some v0∧W.cell? ⟨b,1,none⟩=some v1∧W.cell? ⟨b,2,none⟩=some v2)∧W.frozen? ⟨b,0,none⟩=false∧W.frozen? ⟨b,1,none⟩=false∧W.frozen? ⟨b,2,none⟩=false:=(h.bx k hk).f3
theorem St.f4 {w W:World} {bs:List Bk} {fs:List Fc} (h:St w bs fs W) (k b:Nat) (T:TypeId) (v0 v1 v2 v3:Value) (hk:bs[k]? = some ⟨b,T,[v0,v1,v2,v3]⟩) :
  (W.cell? ⟨b,0,none⟩=some v0∧W.cell? ⟨b,1,none⟩=some v1∧W.cell? ⟨b,2,none⟩=some v2∧W.cell? ⟨b,3,none⟩=some v3)∧W.frozen? ⟨b,0,none⟩=false∧W.frozen? ⟨b,1,none⟩=false∧W.frozen? ⟨b,2,none⟩=false∧W.frozen? ⟨b,3,none⟩=false:=(h.bx k hk).f4
theorem St.f5 {w W:World} {bs:List Bk} {fs:List Fc} (h:St w bs fs W) (k b:Nat) (T:TypeId) (v0 v1 v2 v3 v4:Value) (hk:bs[k]? = some ⟨b,T,[v0,v1,v2,v3,v4]⟩) :
  (W.cell? ⟨b,0,none⟩=some v0∧W.cell? ⟨b,1,none⟩=some v1∧W.cell? ⟨b,2,none⟩=some v2∧W.cell? ⟨b,3,none⟩=some v3∧W.cell? ⟨b,4,none⟩=some v4)∧W.frozen? ⟨b,0,none⟩=false∧W.frozen? ⟨b,1,none⟩=false∧W.frozen? ⟨b,2,none⟩=false∧W.frozen? ⟨b,3,none⟩=false∧W.frozen? ⟨b,4,none⟩=false:=(h.bx k hk).f5
theorem St.ne {w W:World} {bs:List Bk} {fs:List Fc} (h:St w bs fs W) (k b:Nat) (T:TypeId) (vs:List Value) (hk:bs[k]? = some ⟨b,T,vs⟩):b<W.heap.size∧¬ W.heap.size=b∧¬ b=W.heap.size:=by
 have:b<W.heap.size:=(h.bx k hk).lt
 omega
theorem St.q5 {w W:World} {bs:List Bk} {fs:List Fc} (h:St w bs fs W) (k j b:Nat) (T:TypeId) (t:Bool) (x:Int) (p:Option Addr) (l q:Nat) (y:Int) (p':Option Addr) (l' q':Nat) (r:Rat)
  (hk:bs[k]? = some ⟨b,T,[.bool t,.int .u64 x,.slice p l q,.int .u64 y,.slice p' l' q']⟩) (hj:fs[j]? = some (.q (.agg #[.bool t,.int .u64 x,.slice p l q,.int .u64 y,.slice p' l' q']) r)) :
  (W.cell? ⟨b,0,none⟩=some (.bool t)∧W.cell? ⟨b,1,none⟩=some (.int .u64 x)∧W.cell? ⟨b,2,none⟩=some (.slice p l q)∧W.cell? ⟨b,3,none⟩=some (.int .u64 y)∧W.cell? ⟨b,4,none⟩=some (.slice p' l' q'))∧IsQ W (.agg #[.bool t,.int .u64 x,.slice p l q,.int .u64 y,.slice p' l' q']) r:=
 ⟨(h.bx k hk).f5.1,h.get j hj⟩
abbrev oQ (r:Rat):List Value→World→Prop:=one fun v W=>IsQ W v r
abbrev oE (x:Value):List Value→World→Prop:=one fun v _=>v=x
theorem bQ {r:Rat}:∀ vs W W',Below W.heap.size W W'→oQ r vs W→oQ r vs W':=aj fQ
theorem bE {x:Value}:∀ vs W W',Below W.heap.size W W'→oE x vs W→oE x vs W':=aj aA
theorem St.swap {w W:World} {a b:Bk} {bs:List Bk} {fs:List Fc} (h:St w (a :: b :: bs) fs W):St w (b :: a :: bs) fs W:=
 ⟨h.bel,⟨⟨h.box.2.1.1,h.box.2.1.2.1,fun c hc=>by
  rcases List.mem_cons.1 hc with rfl | hc
  ·exact (h.box.1.2.2 b (by simp)).symm
  ·exact h.box.2.1.2.2 c hc⟩,⟨h.box.1.1,h.box.1.2.1,fun c hc=>h.box.1.2.2 c (by simp [hc])⟩,h.box.2.2⟩,h.fct⟩
theorem bW.apart {w W:World}:∀ {bs:List Bk} (i j:Nat) {b c:Bk},bW w W bs→bs[i]? = some b→bs[j]? = some c→i<j→b.pos≠c.pos
 | [],_,_,_,_,_,h,_,_=>by simp at h
 | a :: r,0,j+1,b,c,h,hb,hc,_=>by
  simp at hb hc
  subst hb
  exact h.1.2.2 c (List.mem_of_getElem? hc)
 | a :: r,i+1,j+1,b,c,h,hb,hc,hl=>bW.apart i j h.2 (by simpa using hb) (by simpa using hc) (by omega)
 | a :: r,0,0,_,_,_,_,_,hl=>by omega
 | a :: r,i+1,0,_,_,_,_,_,hl=>by omega
theorem St.apart {w W:World} {bs:List Bk} {fs:List Fc} (h:St w bs fs W) (i j:Nat) {b c:Bk} (hb:bs[i]? = some b) (hc:bs[j]? = some c) (hl:i<j):¬ b.pos=c.pos∧¬ c.pos=b.pos:=
 ⟨h.box.apart i j hb hc hl,fun e=>h.box.apart i j hb hc hl e.symm⟩
theorem aP {w W:World} {bs:List Bk} {fs:List Fc} (_:Hid (St w bs fs W)):∃ W',W=W':=⟨W,rfl⟩
theorem St.as {w W:World} {bs:List Bk} {fs:List Fc} (h:St w bs fs W) (bs':List Bk) (e:bs=bs'):St w bs' fs W:=e ▸ h
theorem St.fq {w W:World} {bs:List Bk} {fs:List Fc} (h:St w bs fs W) {v:Value} {r:Rat} (hf:IsQ W v r):St w bs (.q v r :: fs) W:=h.fact (.q v r) hf
theorem St.gq {w W:World} {bs:List Bk} {fs:List Fc} (h:St w bs fs W) (k:Nat) {v:Value} {r:Rat} (hk:fs[k]? = some (.q v r)):IsQ W v r:=h.get k hk
theorem size_setCell (W:World) (a:Addr) (u:Value):(W.setCell a u).heap.size=W.heap.size:=by simp
theorem IsQ.open {W:World} {v:Value} {r:Rat} (h:IsQ W v r):∃ (t:Bool) (x:Int) (p:Option Addr) (l k:Nat) (x':Int) (p':Option Addr) (l' k':Nat),v=.agg #[.bool t,.int .u64 x,.slice p l k,.int .u64 x',.slice p' l' k']:=by
 obtain ⟨t,x,p,l,k,x',p',l',k',e,-⟩:=h.shape
 exact ⟨t,x,p,l,k,x',p',l',k',e⟩
end
end Go.Proofs.YtnmlkobogofadaaGreatDoor
