/- What the proof rests on, part 20. -/
import Derived.Test.YtancpaiaoamjlaaGreatDoorZ19
import Derived.Laws.AppendOwnNone
namespace Go.Proofs.YtancpaiaoamjlaaGreatDoor
set_option maxRecDepth 100000
set_option maxHeartbeats 80000000
namespace Z4
open Go.RowKit Go.Sort
theorem Wq {x y:Nat} (hx:x<10000) (hy:y<10000):(0:Int)≤(x:Int)*(y:Int)∧(x:Int)*(y:Int)≤99980001:=by
 have h1:x*y≤9999*9999:=Nat.mul_le_mul (by omega) (by omega)
 have h2:((x*y:Nat):Int)=(x:Int)*(y:Int):=Int.natCast_mul x y
 omega
theorem MC (w:World) (q b:Nat) (xs:List Nat) (i x:Nat) (hi:i<xs.length):(aj w q b 0 xs).setCell ⟨b,i,none⟩ (.int .i64 (x:Int))=aj w q b 0 (xs.set i x):=by
 have:=iQ w q b 0 xs i x hi
 rwa [Nat.zero_add] at this
theorem ZM (b o k0 b2 o2 k2:Nat) (xs ys:List Nat) (w:World) (hbw:b<w.heap.size) (hx:Ints w b o xs) (hbw2:b2<w.heap.size) (hy:Ints w b2 o2 ys) (dx:Dig xs) (dy:Dig ys) (hsx:xs.length≤549755813888) (hsy:ys.length≤549755813888) :
  Calls Tryz.prog 75 #[.slice (some ⟨b,o,none⟩) xs.length k0,.slice (some ⟨b2,o2,none⟩) ys.length k2] w (jY w (val xs*val ys)):=by
 have hmk:=ig (xs.length+ys.length) (by omega)
 rw [show ((xs.length+ys.length:Nat):Int)=(xs.length:Int)+(ys.length:Int) from by omega] at hmk
 have HX:Hid (Ints (aI w (xs.length+ys.length)) b o xs):=hx.below (bG w _) hbw
 have HY:Hid (Ints (aI w (xs.length+ys.length)) b2 o2 ys):=hy.below (bG w _) hbw2
 clear hx hy
 have HZ:=hid (dP w (xs.length+ys.length))
 go_enter Tryz.func75,Tryz.ntmps75
 go_wp2
 go_loopw [6] (fun iv wr=>∃ (i q:Nat) (pk:List Nat),iv=.int .i64 i∧i≤xs.length∧wr=aj (aI w (xs.length+ys.length)) q w.heap.size 0 pk∧pR xs ys pk i) (fun iv _=>xs.length - (intOf iv).toNat)
 case atStart=>exact ⟨0,0,_,rfl,by omega,(jH _ _ _ _ HZ.out).symm,pR.start xs ys⟩
 case round =>
  clear hmk
  obtain ⟨i,q,pk,rfl,hi,hwr,hP⟩:=hrel
  have HW:=hid hwr
  have HP:=hid hP
  clear hwr hP
  by_cases hlt:i<xs.length
  ·obtain ⟨wo,rfl⟩:∃ wo:World,wo=wr:=⟨_,rfl⟩
   go_wp2
   go_loopw [7,8] (fun cv kv wr=>∃ (k c q:Nat) (pk:List Nat),kv=.int .i64 k∧cv=.int .i64 c∧wr=aj (aI w (xs.length+ys.length)) q w.heap.size 0 pk∧pU xs ys pk i k c) (fun _ kv _=>ys.length+1 - (intOf kv).toNat)
   case atStart=>exact ⟨0,0,q,pk,rfl,rfl,HW.out,HP.out.inner⟩
   case round =>
    clear HW HP
    obtain ⟨k,c,q,pk,rfl,rfl,hwr,hK⟩:=hrel
    have hkl:k≤ys.length+1:=by rcases hK.le with h | h <;> omega
    have hc1:c<10000:=hK.lt
    by_cases hgo:k<ys.length∨0<c
    ·have hkl2:k≤ys.length:=by rcases hK.le with h | h <;> omega
     obtain ⟨x,hx⟩:∃ x,xs[i]?.getD 0=x:=⟨_,rfl⟩
     obtain ⟨y,hy⟩:∃ y,ys[k]?.getD 0=y:=⟨_,rfl⟩
     obtain ⟨ov,ho⟩:∃ ov,pk[i+k]?.getD 0=ov:=⟨_,rfl⟩
     have hx1:x<10000:=hx ▸ dx.getD i
     have hy1:y<10000:=hy ▸ dy.getD k
     have ho1:ov<10000:=ho ▸ hK.dig.getD (i+k)
     have hpl:=hK.len
     have hS:=fun (d c':Nat) (hd:d<B4) (e:ov+c+x*y=d+c' * B4)=>hK.step hlt hgo ho hx hy hy1 hx1 hd e
     have hH:aB wr w.heap.size 0 pk:=by rw [hwr];exact bH _ _ _ _ _ _ HZ.out (by simpa using hpl)
     have hik:i+k<pk.length:=by rw [hpl];omega
     have co:wr.cell? ⟨w.heap.size,i+k,none⟩=some (.int .i64 (ov:Int)):=by have:=(hH (i+k) hik).1;rw [Nat.zero_add] at this;rw [this,ho]
     have fo:wr.frozen? ⟨w.heap.size,i+k,none⟩=false:=by have:=(hH (i+k) hik).2;rwa [Nat.zero_add] at this
     have cx:wr.cell? ⟨b,o+i,none⟩=some (.int .i64 (x:Int)):=by
      have:=(HX.out.aj (q:=q) (b:=w.heap.size) (o:=0) (xs:=pk) (by left;omega)) i hlt
      rw [hwr,this,hx]
     have en:((i:Int)+(k:Int)).toNat=i+k:=by omega
     have e0:(0:Int)≤(i:Int)+(k:Int):=by omega
     have e1:(i:Int)+(k:Int)<(xs.length:Int)+(ys.length:Int):=by omega
     obtain ⟨m0,m1⟩:=Wq hx1 hy1
     have HW:=hid hwr
     have HL:=hid hik
     by_cases hky:k<ys.length
     ·have cy:wr.cell? ⟨b2,o2+k,none⟩=some (.int .i64 (y:Int)):=by
       have:=(HY.out.aj (q:=q) (b:=w.heap.size) (o:=0) (xs:=pk) (by left;omega)) k hky
       rw [hwr,this,hy]
      obtain ⟨d,hd⟩:∃ d,(ov+c+x*y) % 10000=d:=⟨_,rfl⟩
      obtain ⟨c',hc'⟩:∃ c',(ov+c+x*y) / 10000=c':=⟨_,rfl⟩
      have hxy:((x*y:Nat):Int)=(x:Int)*(y:Int):=Int.natCast_mul x y
      have ed:((ov:Int)+(c:Int)+(x:Int)*(y:Int)) % 10000=(d:Int):=by rw [← hxy];omega
      have ec:((ov:Int)+(c:Int)+(x:Int)*(y:Int)) / 10000=(c':Int):=by rw [← hxy];omega
      have HS:=hid (hS d c' (by rw [jf];omega) (by rw [jf];omega)).2
      clear hS hd hc' hxy hx hy ho hwr hK hH hpl hgo hik
      go_wp2
      go_quiet (fail)
      go_wp2
      go_roundw
      case rel=>exact ⟨k+1,c',_,pk.set (i+k) d,by go_num,by rw [ec],by rw [HW.out];simp only [wL];exact MC _ _ _ _ _ _ HL.out,HS.out⟩
      case measure=>simp [intOf];omega
     ·have hc0:0<c:=by omega
      obtain rfl:y=0:=by rw [← hy,List.getElem?_eq_none (by omega)];rfl
      obtain ⟨d,hd⟩:∃ d,(ov+c) % 10000=d:=⟨_,rfl⟩
      obtain ⟨c',hc'⟩:∃ c',(ov+c) / 10000=c':=⟨_,rfl⟩
      have ed:((ov:Int)+(c:Int)) % 10000=(d:Int):=by omega
      have ec:((ov:Int)+(c:Int)) / 10000=(c':Int):=by omega
      have HS:=hid (hS d c' (by rw [jf];omega) (by rw [jf];omega)).2
      clear hS hd hc' hx hy ho hwr hK hH hpl hgo hik m0 m1
      go_wp2
      go_roundw
      case rel=>exact ⟨k+1,c',_,pk.set (i+k) d,by go_num,by rw [ec],by rw [HW.out];exact MC _ _ _ _ _ _ HL.out,HS.out⟩
      case measure=>simp [intOf];omega
    ·have hk1:¬ k<ys.length:=fun h=>hgo (.inl h)
     obtain rfl:c=0:=by omega
     have HD:=hid (hK.done (by omega))
     have HW:=hid hwr
     have hgo':¬ (0<(0:Nat)):=by omega
     clear hK hwr hgo hc1
     go_wp2
     go_roundw
     case rel=>exact ⟨i+1,q,pk,by go_num,by omega,HW.out,HD.out⟩
     case measure=>simp [intOf];omega
  ·obtain rfl:i=xs.length:=by omega
   have hpl:=HP.out.len
   have hH:aB wr w.heap.size 0 pk:=by rw [HW.out];exact bH _ _ _ _ _ _ HZ.out (by simpa using hpl)
   have hws:w.heap.size<wr.heap.size:=by rw [HW.out];simp [dG]
   have hL:IsL w.heap.size wr (.slice (some ⟨w.heap.size,0,none⟩) (xs.length+ys.length) (xs.length+ys.length)) pk:=.inr ⟨w.heap.size,0,xs.length+ys.length,by rw [hpl],Nat.le_refl _,hws,by omega,hH.ints⟩
   have HL:=hid hL
   have hps:Hid (pk.length≤1099511627776):=by show _≤_;omega
   clear hL hH hpl
   go_wp2_with fail
   refine (nG _ pk _ HL.out hps.out).mono ?_
   rintro e w' ⟨v',m,rfl,ht,hv',rfl⟩
   have HT:=hid (And.intro ht hv')
   clear ht hv'
   go_wp2
   go_ret
   refine ⟨_,_,rfl,HT.out.2,HP.out.dig.take m,HT.out.1.trimmed,by rw [HT.out.1.val,HP.out.eq,AO],?_⟩
   rw [HW.out]
   exact (bG w _).trans (dV _ _ _ _ _ (Nat.le_refl _))
theorem ZQ (p p2:Option Addr) (k0 k2:Nat) (xs:List Nat) (w:World) (hsx:xs.length≤549755813888) :
  Calls Tryz.prog 75 #[.slice p xs.length k0,.slice p2 0 k2] w (jY w (0)):=by
 have hmk:=ig xs.length (by omega)
 have HZ:=hid (dP w xs.length)
 obtain ⟨n,hn⟩:∃ n,xs.length=n:=⟨_,rfl⟩
 rw [hn] at hmk HZ hsx ⊢
 have HN:=hid hn
 clear hn
 go_enter Tryz.func75,Tryz.ntmps75
 go_wp2
 go_loopw [6] (fun iv wr=>∃ (i:Nat),iv=.int .i64 i∧i≤n∧wr=aI w n) (fun iv _=>n - (intOf iv).toNat)
 case atStart=>exact ⟨0,rfl,by omega,rfl⟩
 case round =>
  clear hmk
  obtain ⟨i,rfl,hi,hwr⟩:=hrel
  have HW:=hid hwr
  clear hwr
  by_cases hlt:i<n
  ·go_wp2
   refine wp_loop_rounds 1 ?_
   rw [rounds_succ]
   go_wp2
   go_roundw
   case rel=>exact ⟨i+1,by go_num,by omega,HW.out⟩
   case measure=>simp [intOf];omega
  ·have hL:IsL w.heap.size wr (.slice (some ⟨w.heap.size,0,none⟩) n n) (List.replicate n 0):=by
    rw [HW.out]
    exact .inr ⟨w.heap.size,0,n,by simp,Nat.le_refl _,by rw [dG];omega,by simp,HZ.out.ints⟩
   have HL:=hid hL
   clear hL
   go_wp2_with fail
   refine (nG _ _ _ HL.out (by simp;omega)).mono ?_
   rintro e w' ⟨v',m,rfl,ht,hv',rfl⟩
   have HT:=hid (And.intro ht hv')
   clear ht hv'
   go_wp2
   go_ret
   refine ⟨_,_,rfl,HT.out.2,Dig.take (fun d hd=>by rw [List.eq_of_mem_replicate hd];exact jV) _,HT.out.1.trimmed,by rw [HT.out.1.val,uV],?_⟩
   rw [HW.out]
   exact bG w n
theorem ZP (p p2:Option Addr) (k0 k2:Nat) (ys:List Nat) (w:World) (hsy:ys.length≤549755813888) :
  Calls Tryz.prog 75 #[.slice p 0 k0,.slice p2 ys.length k2] w (jY w 0):=by
 have hmk:=ig ys.length (by omega)
 have HZ:=hid (dP w ys.length)
 obtain ⟨n,hn⟩:∃ n,ys.length=n:=⟨_,rfl⟩
 rw [hn] at hmk HZ hsy ⊢
 clear hn
 go_enter Tryz.func75,Tryz.ntmps75
 go_wp2
 refine wp_loop_rounds 1 ?_
 rw [rounds_succ]
 clear hmk
 have hL:IsL w.heap.size (aI w n) (.slice (some ⟨w.heap.size,0,none⟩) n n) (List.replicate n 0):=.inr ⟨w.heap.size,0,n,by simp,Nat.le_refl _,by rw [dG];omega,by simp,HZ.out.ints⟩
 have HL:=hid hL
 clear hL
 go_wp2_with fail
 refine (nG _ _ _ HL.out (by simp;omega)).mono ?_
 rintro e w' ⟨v',m,rfl,ht,hv',rfl⟩
 have HT:=hid (And.intro ht hv')
 clear ht hv'
 go_wp2
 go_ret
 exact ⟨_,_,rfl,HT.out.2,Dig.take (fun d hd=>by rw [List.eq_of_mem_replicate hd];exact jV) _,HT.out.1.trimmed,by rw [HT.out.1.val,uV],bG w n⟩
theorem AA {B B2:Nat} (v v2:Value) (xs ys:List Nat) (w:World) (h:IsL B w v xs) (h2:IsL B2 w v2 ys) (dx:Dig xs) (dy:Dig ys) (hsx:xs.length≤549755813888) (hsy:ys.length≤549755813888) :
  Calls Tryz.prog 75 #[v,v2] w (jY w (val xs*val ys)):=by
 obtain ⟨p,b,o,k,rfl,hp,hb,hk,hx⟩:=h.shape
 obtain ⟨p2,b2,o2,k2,rfl,hp2,hb2,hk2,hy⟩:=h2.shape
 by_cases h0:xs.length=0
 ·obtain rfl:xs=[]:=List.length_eq_zero_iff.1 h0
  have:=ZP p p2 k k2 ys w hsy
  rw [show val []*val ys=0 by simp [val]]
  exact this
 ·by_cases h1:ys.length=0
  ·obtain rfl:ys=[]:=List.length_eq_zero_iff.1 h1
   have:=ZQ p p2 k k2 xs w hsx
   rw [show val xs*val []=0 by simp [val]]
   exact this
  ·rw [hp h0,hp2 h1]
   exact ZM b o k b2 o2 k2 xs ys w (hb h0) hx (hb2 h1) hy dx dy hsx hsy
end Z4
namespace Z4
open Go.RowKit Go.Sort
def xw (w:World) (n m:Nat) (e:Ending) (w':World):Prop:=
 ∃ v ds u es,e=.returned (.tuple #[v,u])∧IsL w.heap.size w' v ds∧Dig ds∧aC ds∧val ds=n∧IsL w.heap.size w' u es∧Dig es∧aC es∧val es=m∧Below w.heap.size w w'
theorem aB.set {w:World} {b:Nat} {xs:List Nat} (h:aB w b 0 xs) (i x:Nat) (hi:i<xs.length):aB (w.setCell ⟨b,i,none⟩ (.int .i64 (x:Int))) b 0 (xs.set i x):=fun j hj=>by
 rw [List.length_set] at hj
 rw [World.frozen?_setCell]
 refine ⟨?_,(h j hj).2⟩
 rw [Nat.zero_add]
 by_cases e:i=j
 ·subst e
  have hc:=(h i hi).1
  rw [Nat.zero_add] at hc
  rw [World.cell?_setCell_same _ _ _ hc,List.getElem?_set_self hi]
  rfl
 ·rw [World.cell?_setCell_other _ _ _ _ (fun h=>e (congrArg Addr.off h)),List.getElem?_set_ne e]
  have hc:=(h j hj).1
  rwa [Nat.zero_add] at hc
theorem aa7 {ops:Array Oper} {rest:List Oper} {o:Oper} {a:Act} {Q:Exit→Act→World→Prop} {w:World} (hgd:o.guard=none) (s x:Operand)
  (ho:o.op=.call { callee:=.builtin .append,args:=#[s,x],argTypes:=#[33,33] }) (base B:Nat) (v:Value) (n:Nat) (xs:List Value) (hs:a.eval s=v) (hown:w.ownsRow base 3 1 v n xs)
  (vx:Value) (rs:List Nat) (hx:a.eval x=vx) (hL:IsL B w vx rs) (h63:n+rs.length≤1099511627776) (hbase:base≤w.heap.size)
  (h:∀ v' w',w'.ownsRow base 3 1 v' (n+rs.length) (xs ++ rs.map enc)→w.grownBy w' v.ownBlock→wpList Tryz.prog ops Q rest (a.put o.dst v') w'):wpList Tryz.prog ops Q (o :: rest) a w:=by
 obtain ⟨i0,hi,hz0,hz1,hz2⟩:=info_parts oK
 rcases hL with ⟨rfl,rfl⟩ | ⟨b,of,k,rfl,h1,h2,h3,h4⟩
 ·exact wpList_append_own_none hgd s x _ ho base 3 i0 1 Tryz.underlying33 hi v n xs hs hown hx (h v w (by simpa using hown) (World.grownBy.refl w _))
 ·refine wpList_append_own w hgd s x _ ho base 3 i0 (.int .i64 0) 1 8 Tryz.underlying33 hi hz0 hz1 hz2 rfl (by decide) v n xs hs hown ⟨b,of,none⟩ rs.length k (rs.map enc) hx (by simp) (fun j u hu=>?_) (fun u hu=>?_) (by unfold maxLen;omega) (by omega) hbase fun v' w' a b _=>h v' w' a b
  ·have hj:j<rs.length:=by have:=(List.getElem?_eq_some_iff.1 hu).1;simpa using this
   rw [List.getElem?_map,List.getElem?_eq_getElem hj] at hu
   simp only [Option.map_some,Option.some.injEq] at hu
   rw [← hu,addr_add,h4 j hj,List.getElem?_eq_getElem hj]
   rfl
  ·obtain ⟨d,_,rfl⟩:=List.mem_map.1 hu
   rfl
theorem Og {B:Nat} (v:Value) (xs:List Nat) (w:World) (h:IsL B w v xs) (dx:Dig xs) (hl:xs.length≤4) :
  Calls Tryz.prog 105 #[v,.int .i64 0] w fun e w'=>e=.returned (.int .i64 ((val xs:Nat):Int))∧w=w':=by
 have:=GI v 0 xs w h dx (by omega) (by omega) (by omega)
 rw [List.drop_zero] at this
 exact this
theorem fG {B:Nat} {a w:World} (h:Below B a w) (n:Nat):Below B a (w.drewN n):=⟨h.os,h.tape,h.output,h.size,h.block⟩
theorem TS (t:Bool) (p:Option Addr) (n k:Nat) (W:World):(Instr.field 35 (.agg #[.bool t,.slice p n k]) 1).run Tryz.prog W=.ok (.slice p n k) W:=by
 kernel_rfl
theorem jw {rs:List Nat} {k:Nat} (ht:aC rs) (h:val rs<B4 ^ k):rs.length≤k:=by
 rcases Nat.lt_or_ge k rs.length with h1 | h1
 ·have h2:=lM ht (by intro e;subst e;exact absurd h1 (Nat.not_lt_zero _))
  have h3:B4 ^ k≤B4 ^ (rs.length - 1):=Nat.pow_le_pow_right jV (by omega)
  omega
 ·exact h1
theorem Yk {ys rs ss:List Nat} {x:Nat} (dy:Dig ys) (hx:x<B4) (hr:val rs<val ys) (ht:aC ss) (hv:val ss=x+B4*val rs):ss.length≤ys.length+1:=by
 refine jw ht ?_
 have h1:=aV dy
 have h2:B4*(val rs+1)≤B4*B4 ^ ys.length:=Nat.mul_le_mul_left _ (by omega)
 rw [Nat.mul_add] at h2
 rw [hv,Nat.pow_succ,Nat.mul_comm (B4 ^ ys.length)]
 omega
theorem Xm (b o k0 b2 o2 k2:Nat) (xs ys:List Nat) (w:World) (hbw:b<w.heap.size) (hx:Ints w b o xs) (hbw2:b2<w.heap.size) (hk2:ys.length≤k2) (hy:Ints w b2 o2 ys) (dx:Dig xs) (dy:Dig ys) (ty:aC ys) (hm:0<val ys)
  (hsx:xs.length≤34359738368) (hsy:ys.length≤34359738368) :
  Calls Tryz.prog 72 #[.slice (some ⟨b,o,none⟩) xs.length k0,.slice (some ⟨b2,o2,none⟩) ys.length k2] w (xw w (val xs / val ys) (val xs % val ys)):=by
 obtain ⟨i0,hi,hz0,hz1,hz2⟩:=info_parts oK
 have hfld:=TS
 have hmk:=ig xs.length (by omega)
 have HX:=hid (And.intro hbw hx)
 have HY:Hid (IsL 0 w (.slice (some ⟨b2,o2,none⟩) ys.length k2) ys):=.inr ⟨b2,o2,k2,rfl,by omega,hbw2,hk2,hy⟩
 have HZ:=hid (dP w xs.length)
 have hy0:ys.length≠0:=fun e=>by rw [List.length_eq_zero_iff.1 e] at hm;simp [val] at hm
 have hsy:ys.length≤549755813888:=by omega
 clear hbw hx hbw2 hk2 hy
 go_enter Tryz.func72,Tryz.ntmps72
 go_wp2
 clear hmk
 go_loopw [6,8] (fun rv iv wr=>∃ (i:Nat) (qs rs:List Nat),iv=.int .i64 ((i:Int) - 1)∧IsL (w.heap.size+1) wr rv rs∧aB wr w.heap.size 0 qs∧pK xs qs rs (val ys) i∧Below w.heap.size w wr∧w.heap.size+1≤wr.heap.size) (fun _ iv _=>(intOf iv+1).toNat)
 case atStart=>exact ⟨xs.length,_,[],rfl,IsL.nil _ _,HZ.out,pK.start xs hm,bG w _,by rw [dG];omega⟩
 case round =>
  clear HZ
  obtain ⟨i,qs,rs,rfl,hrv,hHq,hO,hBw0,hsz⟩:=hrel
  have hio:=hO.hi
  have HQ:=hid hHq
  have HO:=hid hO
  have HBw0:=hid hBw0
  clear hHq hO
  by_cases h0:i=0
  ·subst h0
   rw [show (((0:Nat):Int) - 1) = -1 from rfl]
   have hL:IsL w.heap.size wr (.slice (some ⟨w.heap.size,0,none⟩) xs.length xs.length) qs:=.inr ⟨w.heap.size,0,xs.length,by rw [HO.out.len],Nat.le_refl _,by omega,by rw [HO.out.len];omega,HQ.out.ints⟩
   have HL:=hid hL
   have HR:=hid hrv
   clear hL hrv hBw0
   go_wp2_with fail
   refine (nG _ qs _ HL.out (by rw [HO.out.len];omega)).mono ?_
   rintro e w' ⟨v',n,rfl,ht,hv',rfl⟩
   have HT:=hid (And.intro ht hv')
   clear ht hv'
   go_wp2
   go_ret2
   have h1:=HO.out.eq
   rw [List.drop_zero,List.drop_zero] at h1
   have h2:=HO.out.lt
   have h3:val xs / val ys=val qs∧val xs % val ys=val rs:=by
    rw [h1]
    exact ⟨by rw [Nat.mul_comm,Nat.mul_add_div hm,Nat.div_eq_of_lt h2,Nat.add_zero],by rw [Nat.mul_comm,Nat.mul_add_mod,Nat.mod_eq_of_lt h2]⟩
   exact ⟨_,_,_,rs,rfl,HT.out.2,HO.out.dig.take n,HT.out.1.trimmed,by rw [HT.out.1.val,h3.1],HR.out.mono (by omega),HO.out.digR,HO.out.trim,h3.2.symm,HBw0.out⟩
  ·obtain ⟨j,rfl⟩:∃ j,i=j+1:=⟨i - 1,by omega⟩
   obtain ⟨x,hxj⟩:∃ x,xs[j]?.getD 0=x:=⟨_,rfl⟩
   have hx1:x<10000:=hxj ▸ dx.getD j
   have cx:wr.cell? ⟨b,o+j,none⟩=some (.int .i64 (x:Int)):=by rw [hBw0.cell (p:=⟨b,o+j,none⟩) HX.out.1,HX.out.2 j (by omega),hxj]
   have HXJ:=hid hxj
   have hrl:rs.length≤ys.length:=by
    have:=aV dy
    exact jw HO.out.trim (by have:=HO.out.lt;omega)
   clear hxj hBw0 h0
   obtain ⟨pr,br,orr,kr,rfl,-,-,-,-⟩:=hrv.shape
   have HRV:=hid hrv
   have HS0:=hid hsz
   have hrs1:1+rs.length≤1099511627776:=by omega
   clear hrv
   go_wp2_with (at_builtin;refine aa7 rfl _ _ rfl wr.heap.size (w.heap.size+1) (.slice (some ⟨wr.heap.size,0,none⟩) 1 1) 1 [.int .i64 (x:Int)] rfl (World.ownsRow_lit wr #[.int .i64 (x:Int)] 1 (Nat.le_refl _) (by unfold maxLen;omega) rfl) _ rs rfl (HRV.out.below ((Below.refl _ wr).alloc (Nat.le_refl _) _)) hrs1 (by simp) ?_;intro v' w1 hown' hgrow)
   have hB1:Below wr.heap.size wr w1:=((Below.refl _ wr).alloc (Nat.le_refl _) _).grown hgrow (by simp) (fun k hk=>by simp [Value.ownBlock] at hk;omega)
   have hL1:=IsL.of_own (xs:=x :: rs) hown'
   clear hown' hgrow hrs1
   refine (nG _ (x :: rs) _ hL1 (by simp;omega)).mono ?_
   rintro e w2 ⟨v2,n,rfl,ht,hv2,rfl⟩
   obtain ⟨ss,hss⟩:∃ ss,(x :: rs).take n=ss:=⟨_,rfl⟩
   have hvv:val ((x :: rs).take n)=x+B4*val rs:=by rw [ht.val,gV]
   have HSS:=hid (And.intro (hss ▸ hv2.mono HS0.out) (And.intro (hss ▸ (HO.out.digR.cons hx1).take n) (And.intro (hss ▸ ht.trimmed) (And.intro (hss ▸ hvv) (hss ▸ Yk dy hx1 HO.out.lt ht.trimmed hvv)))))
   rw [hss] at hv2
   obtain ⟨p2,b2',o2',k2',rfl,-,-,-,-⟩:=hv2.shape
   have HB2:=hid hB1
   have HBw:=hid (HBw0.out.trans (hB1.mono HBw0.out.size))
   have hsl:ss.length≤549755813888:=by have:=HSS.out.2.2.2.2;omega
   clear hB1 hL1 ht hv2 hss hvv
   by_cases h3:ys.length≤3
   ·have e1:=hid (rM HSS.out.2.1 (by have:=HSS.out.2.2.2.2;omega))
    go_wp2_with fail
    refine (Og _ ss _ HSS.out.1 HSS.out.2.1 (by have:=HSS.out.2.2.2.2;omega)).mono ?_
    rintro e w' ⟨rfl,rfl⟩
    go_wp2_with fail
    refine (Og _ ys _ (HY.out.below HBw.out) dy (by omega)).mono ?_
    rintro e w' ⟨rfl,rfl⟩
    obtain ⟨k0,hk⟩:∃ k0,val ss / val ys=k0:=⟨_,rfl⟩
    have hk0:k0*val ys≤val ss:=by rw [← hk];exact Nat.div_mul_le_self _ _
    have hk0b:k0<10000:=qm (x:=x) (R:=val rs) (m:=val ys) hx1 HO.out.lt (by rw [← HSS.out.2.2.2.1];exact hk0)
    obtain ⟨R,hR⟩:∃ R,val ss=R:=⟨_,rfl⟩
    obtain ⟨M,hM⟩:∃ M,val ys=M:=⟨_,rfl⟩
    rw [hR,hM] at hk
    rw [hR,hM]
    have hq:(R:Int) / (M:Int)=(k0:Int):=by rw [← hk];exact (Int.natCast_ediv R M).symm
    have hM0:¬ (M=0):=by omega
    have hM1:((M:Int) == 0)=false:=by rw [beq_eq_false_iff_ne];omega
    have HR:=hid hR
    have HM:=hid hM
    have hR1:R<10000000000000000:=by have:=e1.out;rwa [hR] at this
    clear hk hR hM
    have HK:=hid hk0
    clear hk0
    go_wp2_with fail
    refine (rV (k0:Int) (by omega) (by omega) _).mono ?_
    rintro e w3 ⟨s3,ds3,rfl,hs3,hd3,ht3,hv3,hB3⟩
    obtain ⟨p3,b3,o3,k3,rfl,-,-,-,-⟩:=hs3.shape
    rw [Int.natAbs_natCast] at hv3
    have HZ3:=hid (And.intro hs3 (And.intro hd3 (And.intro ht3 hv3)))
    have HB3:=hid hB3
    clear hs3 hd3 ht3 hv3 hB3
    go_wp2_with fail
    have hl3:ds3.length≤549755813888:=by
     have:ds3.length≤5:=jw HZ3.out.2.2.1 (by rw [HZ3.out.2.2.2];have h5:B4 ^ 5=100000000000000000000:=(by decide);rw [h5];omega)
     omega
    refine (AA _ _ ys ds3 _ ((HY.out.below HBw.out).below HB3.out) HZ3.out.1 dy HZ3.out.2.1 hsy hl3).mono ?_
    rintro e w4 ⟨v4,ds4,rfl,hs4,hd4,ht4,hv4,hB4⟩
    rw [HZ3.out.2.2.2] at hv4
    have HZ4:=hid (And.intro hs4 (And.intro hd4 (And.intro ht4 hv4)))
    have HB4:=hid hB4
    clear hs4 hd4 ht4 hv4 hB4 hl3
    go_wp2_with fail
    refine (qO _ _ ss ds4 _ ((HSS.out.1.below HB3.out).below HB4.out) HZ4.out.1 HSS.out.2.1 HZ4.out.2.1 HZ4.out.2.2.1 (by rw [HZ4.out.2.2.2,Nat.mul_comm];exact HK.out) (by omega)).mono ?_
    rintro e w5 ⟨v5,es,rfl,hs5,hd5,ht5,hv5,hB5⟩
    rw [HZ4.out.2.2.2] at hv5
    have hB25:Below wr.heap.size wr w5:=HB2.out.trans ((HB3.out.trans ((HB4.out.trans (hB5.mono HB4.out.size)).mono HB3.out.size)).mono HB2.out.size)
    have hsz5:w.heap.size+1≤w4.heap.size:=by have:=HB4.out.size;have:=HB3.out.size;have:=HB2.out.size;omega
    have hq0:k0*val ys+val es=val ss:=by
     have h1:=HK.out
     rw [Nat.mul_comm] at h1 ⊢
     omega
    have HZ5:=hid (And.intro (hs5.mono (B':=w.heap.size+1) hsz5) (And.intro hd5 (And.intro ht5 (And.intro hq0 hB25))))
    clear hs5 hd5 ht5 hv5 hB25 hB5 hsz5 hq0
    go_wp2
    go_loopw [6,9] (fun rv kv w6=>∃ (k:Nat) (es:List Nat),kv=.int .i64 k∧IsL (w.heap.size+1) w6 rv es∧Dig es∧aC es∧k*val ys+val es=val ss∧Below wr.heap.size wr w6) (fun _ kv _=>val ss / val ys+1 - (intOf kv).toNat)
    case atStart=>exact ⟨k0,es,rfl,HZ5.out.1,HZ5.out.2.1,HZ5.out.2.2.1,HZ5.out.2.2.2.1,HZ5.out.2.2.2.2⟩
    case round =>
     rename World=>w6
     clear HZ5 HZ4 HZ3 HK HB3 HB4 hk0b
     obtain ⟨k,es,rfl,hs6,hd6,ht6,hv6,hB6⟩:=hrel
     have hkq:Hid (k≤val ss / val ys):=by
      show _≤_
      rw [Nat.le_div_iff_mul_le hm]
      omega
     have hk1:k<10000:=qm (x:=x) (R:=val rs) (m:=val ys) hx1 HO.out.lt (by rw [← HSS.out.2.2.2.1];omega)
     have HV6:=hid hv6
     have HB6:=hid hB6
     have HS6:=hid (And.intro hs6 (And.intro hd6 ht6))
     have hes:es.length≤1099511627776:=by
      have:=jw ht6 (k:=ss.length) (by have:=aV HSS.out.2.1;omega)
      omega
     have HY6:=hid (HY.out.below (HBw0.out.trans (hB6.mono HBw0.out.size)))
     clear hs6 hd6 ht6 hv6 hB6
     go_wp2_with fail
     refine (xE _ _ es ys _ HS6.out.1 HY6.out HS6.out.2.1 dy HS6.out.2.2 ty hes (by omega)).mono ?_
     rintro e w7 ⟨rfl,q7,rfl⟩
     rcases Nat.lt_or_ge (val es) (val ys) with hlt | hge
     ·rw [gX hlt]
      have HLT:=hid hlt
      clear hlt
      have hH6:=(HQ.out.below HB6.out (by omega)) j (by rw [HO.out.len];omega)
      rw [Nat.zero_add] at hH6
      obtain ⟨c6,f6⟩:=hH6
      have hcf:(w6.drewN q7).cell? ⟨w.heap.size,j,none⟩=some (E4 (qs[j]?.getD 0)):=by rw [World.cell?_drewN];exact c6
      have hff:(w6.drewN q7).frozen? ⟨w.heap.size,j,none⟩=false:=by rw [World.frozen?_drewN];exact f6
      clear c6 f6 HY6
      go_wp2
      go_roundw
      case rel =>
       refine ⟨j,qs.set j k,es,by go_num,?_,?_,HO.out.step HXJ.out HS6.out.2.1 HS6.out.2.2 HLT.out hk1 ?_,?_,by have:=HB6.out.size;simp;omega⟩
       ·exact IsL.set (a:=⟨w.heap.size,j,none⟩) (w:=w6.drewN q7) HS6.out.1 (by simp) _
       ·exact aB.set (w:=w6.drewN q7) (fun i hi=>HQ.out.below HB6.out (by omega) i hi) j k (by rw [HO.out.len];omega)
       ·rw [← HSS.out.2.2.2.1,HV6.out]
       ·exact Below.setCell (w:=w6.drewN q7) (p:=⟨w.heap.size,j,none⟩) (fG (HBw0.out.trans (HB6.out.mono HBw0.out.size)) _) (Nat.le_refl _) _
      case measure=>simp [intOf]
     ·obtain ⟨cc,hcc⟩:∃ cc,aG (val es) (val ys)=cc:=⟨_,rfl⟩
      have hcc0:0≤cc:=by
       rw [← hcc]
       unfold aG
       rw [if_neg (by omega)]
       split <;> omega
      rw [hcc]
      have HGE:=hid hge
      clear hcc hge
      go_wp2_with fail
      refine (qO _ _ es ys (w6.drewN q7) (HS6.out.1.below (fG (Below.refl _ _) _)) (HY6.out.below (fG (Below.refl _ _) _)) HS6.out.2.1 dy ty HGE.out hes).mono ?_
      rintro e w8 ⟨v8,fs,rfl,hs8,hd8,ht8,hv8,hB8⟩
      have hBB:Below wr.heap.size wr w8:=(fG HB6.out q7).trans (hB8.mono (fG HB6.out q7).size)
      have hB9:w.heap.size+1≤(w6.drewN q7).heap.size:=by have:=HB6.out.size;simp;omega
      have HZ8:=hid (And.intro (hs8.mono hB9) (And.intro hd8 (And.intro ht8 (And.intro hv8 hBB))))
      clear hs8 hd8 ht8 hv8 hBB hB8 hB9
      go_wp2
      go_roundw
      case rel=>exact ⟨k+1,fs,by go_num,HZ8.out.1,HZ8.out.2.1,HZ8.out.2.2.1,by have h1:=HZ8.out.2.2.2.1;have h2:=HGE.out;have h3:=HV6.out;rw [Nat.add_mul];omega,HZ8.out.2.2.2.2⟩
      case measure=>have:=hkq.out;simp [intOf];omega
   ·by_cases h4:ys.length≤ss.length
    ·have e2:((ys.length:Int) - 3)=((ys.length - 3:Nat):Int):=by omega
     have E2:=hid e2
     clear e2
     go_wp2_with fail
     rw [E2.out]
     refine (GI _ (ys.length - 3) ss _ HSS.out.1 HSS.out.2.1 (by omega) (by omega) (by have:=HSS.out.2.2.2.2;omega)).mono ?_
     rintro e w' ⟨rfl,rfl⟩
     go_wp2_with fail
     rw [E2.out]
     refine (GI _ (ys.length - 3) ys _ (HY.out.below HBw.out) dy (by omega) (by omega) (by omega)).mono ?_
     rintro e w' ⟨rfl,rfl⟩
     obtain ⟨k0,hk⟩:∃ k0,val (ss.drop (ys.length - 3)) / (val (ys.drop (ys.length - 3))+1)=k0:=⟨_,rfl⟩
     have hk0:k0*val ys≤val ss:=by rw [← hk];exact Ux (S9 ss _ (by omega)) (Tc dy _ (by omega))
     have hk0b:k0<10000:=qm (x:=x) (R:=val rs) (m:=val ys) hx1 HO.out.lt (by rw [← HSS.out.2.2.2.1];exact hk0)
     have hT1:=rM (HSS.out.2.1.drop (ys.length - 3)) (by rw [List.length_drop];have:=HSS.out.2.2.2.2;omega)
     have hU1:=rM (dy.drop (ys.length - 3)) (by rw [List.length_drop];omega)
     obtain ⟨R,hR⟩:∃ R,val (ss.drop (ys.length - 3))=R:=⟨_,rfl⟩
     obtain ⟨M,hM⟩:∃ M,val (ys.drop (ys.length - 3))=M:=⟨_,rfl⟩
     rw [hR] at hT1
     rw [hM] at hU1
     rw [hR,hM] at hk
     rw [hR,hM]
     have hq:(R:Int) / ((M:Int)+1)=(k0:Int):=by rw [← hk];exact (Int.natCast_ediv R (M+1)).symm
     have hM1:(((M:Int)+1) == 0)=false:=by rw [beq_eq_false_iff_ne];omega
     have hM2:(0:Int)≤(M:Int)+1:=by omega
     clear hk hR hM
     have HK:=hid hk0
     clear hk0
     go_wp2_with fail
     refine (rV (k0:Int) (by omega) (by omega) _).mono ?_
     rintro e w3 ⟨s3,ds3,rfl,hs3,hd3,ht3,hv3,hB3⟩
     obtain ⟨p3,b3,o3,k3,rfl,-,-,-,-⟩:=hs3.shape
     rw [Int.natAbs_natCast] at hv3
     have HZ3:=hid (And.intro hs3 (And.intro hd3 (And.intro ht3 hv3)))
     have HB3:=hid hB3
     clear hs3 hd3 ht3 hv3 hB3
     go_wp2_with fail
     have hl3:ds3.length≤549755813888:=by
      have:ds3.length≤5:=jw HZ3.out.2.2.1 (by rw [HZ3.out.2.2.2];have h5:B4 ^ 5=100000000000000000000:=(by decide);rw [h5];omega)
      omega
     refine (AA _ _ ys ds3 _ ((HY.out.below HBw.out).below HB3.out) HZ3.out.1 dy HZ3.out.2.1 hsy hl3).mono ?_
     rintro e w4 ⟨v4,ds4,rfl,hs4,hd4,ht4,hv4,hB4⟩
     rw [HZ3.out.2.2.2] at hv4
     have HZ4:=hid (And.intro hs4 (And.intro hd4 (And.intro ht4 hv4)))
     have HB4:=hid hB4
     clear hs4 hd4 ht4 hv4 hB4 hl3
     go_wp2_with fail
     refine (qO _ _ ss ds4 _ ((HSS.out.1.below HB3.out).below HB4.out) HZ4.out.1 HSS.out.2.1 HZ4.out.2.1 HZ4.out.2.2.1 (by rw [HZ4.out.2.2.2,Nat.mul_comm];exact HK.out) (by omega)).mono ?_
     rintro e w5 ⟨v5,es,rfl,hs5,hd5,ht5,hv5,hB5⟩
     rw [HZ4.out.2.2.2] at hv5
     have hB25:Below wr.heap.size wr w5:=HB2.out.trans ((HB3.out.trans ((HB4.out.trans (hB5.mono HB4.out.size)).mono HB3.out.size)).mono HB2.out.size)
     have hsz5:w.heap.size+1≤w4.heap.size:=by have:=HB4.out.size;have:=HB3.out.size;have:=HB2.out.size;omega
     have hq0:k0*val ys+val es=val ss:=by
      have h1:=HK.out
      rw [Nat.mul_comm] at h1 ⊢
      omega
     have HZ5:=hid (And.intro (hs5.mono (B':=w.heap.size+1) hsz5) (And.intro hd5 (And.intro ht5 (And.intro hq0 hB25))))
     clear hs5 hd5 ht5 hv5 hB25 hB5 hsz5 hq0
     go_wp2
     go_loopw [6,9] (fun rv kv w6=>∃ (k:Nat) (es:List Nat),kv=.int .i64 k∧IsL (w.heap.size+1) w6 rv es∧Dig es∧aC es∧k*val ys+val es=val ss∧Below wr.heap.size wr w6) (fun _ kv _=>val ss / val ys+1 - (intOf kv).toNat)
     case atStart=>exact ⟨k0,es,rfl,HZ5.out.1,HZ5.out.2.1,HZ5.out.2.2.1,HZ5.out.2.2.2.1,HZ5.out.2.2.2.2⟩
     case round =>
      rename World=>w6
      clear HZ5 HZ4 HZ3 HK HB3 HB4 hk0b
      obtain ⟨k,es,rfl,hs6,hd6,ht6,hv6,hB6⟩:=hrel
      have hkq:Hid (k≤val ss / val ys):=by
       show _≤_
       rw [Nat.le_div_iff_mul_le hm]
       omega
      have hk1:k<10000:=qm (x:=x) (R:=val rs) (m:=val ys) hx1 HO.out.lt (by rw [← HSS.out.2.2.2.1];omega)
      have HV6:=hid hv6
      have HB6:=hid hB6
      have HS6:=hid (And.intro hs6 (And.intro hd6 ht6))
      have hes:es.length≤1099511627776:=by
       have:=jw ht6 (k:=ss.length) (by have:=aV HSS.out.2.1;omega)
       omega
      have HY6:=hid (HY.out.below (HBw0.out.trans (hB6.mono HBw0.out.size)))
      clear hs6 hd6 ht6 hv6 hB6
      go_wp2_with fail
      refine (xE _ _ es ys _ HS6.out.1 HY6.out HS6.out.2.1 dy HS6.out.2.2 ty hes (by omega)).mono ?_
      rintro e w7 ⟨rfl,q7,rfl⟩
      rcases Nat.lt_or_ge (val es) (val ys) with hlt | hge
      ·rw [gX hlt]
       have HLT:=hid hlt
       clear hlt
       have hH6:=(HQ.out.below HB6.out (by omega)) j (by rw [HO.out.len];omega)
       rw [Nat.zero_add] at hH6
       obtain ⟨c6,f6⟩:=hH6
       have hcf:(w6.drewN q7).cell? ⟨w.heap.size,j,none⟩=some (E4 (qs[j]?.getD 0)):=by rw [World.cell?_drewN];exact c6
       have hff:(w6.drewN q7).frozen? ⟨w.heap.size,j,none⟩=false:=by rw [World.frozen?_drewN];exact f6
       clear c6 f6 HY6
       go_wp2
       go_roundw
       case rel =>
        refine ⟨j,qs.set j k,es,by go_num,?_,?_,HO.out.step HXJ.out HS6.out.2.1 HS6.out.2.2 HLT.out hk1 ?_,?_,by have:=HB6.out.size;simp;omega⟩
        ·exact IsL.set (a:=⟨w.heap.size,j,none⟩) (w:=w6.drewN q7) HS6.out.1 (by simp) _
        ·exact aB.set (w:=w6.drewN q7) (fun i hi=>HQ.out.below HB6.out (by omega) i hi) j k (by rw [HO.out.len];omega)
        ·rw [← HSS.out.2.2.2.1,HV6.out]
        ·exact Below.setCell (w:=w6.drewN q7) (p:=⟨w.heap.size,j,none⟩) (fG (HBw0.out.trans (HB6.out.mono HBw0.out.size)) _) (Nat.le_refl _) _
       case measure=>simp [intOf]
      ·obtain ⟨cc,hcc⟩:∃ cc,aG (val es) (val ys)=cc:=⟨_,rfl⟩
       have hcc0:0≤cc:=by
        rw [← hcc]
        unfold aG
        rw [if_neg (by omega)]
        split <;> omega
       rw [hcc]
       have HGE:=hid hge
       clear hcc hge
       go_wp2_with fail
       refine (qO _ _ es ys (w6.drewN q7) (HS6.out.1.below (fG (Below.refl _ _) _)) (HY6.out.below (fG (Below.refl _ _) _)) HS6.out.2.1 dy ty HGE.out hes).mono ?_
       rintro e w8 ⟨v8,fs,rfl,hs8,hd8,ht8,hv8,hB8⟩
       have hBB:Below wr.heap.size wr w8:=(fG HB6.out q7).trans (hB8.mono (fG HB6.out q7).size)
       have hB9:w.heap.size+1≤(w6.drewN q7).heap.size:=by have:=HB6.out.size;simp;omega
       have HZ8:=hid (And.intro (hs8.mono hB9) (And.intro hd8 (And.intro ht8 (And.intro hv8 hBB))))
       clear hs8 hd8 ht8 hv8 hBB hB8 hB9
       go_wp2
       go_roundw
       case rel=>exact ⟨k+1,fs,by go_num,HZ8.out.1,HZ8.out.2.1,HZ8.out.2.2.1,by have h1:=HZ8.out.2.2.2.1;have h2:=HGE.out;have h3:=HV6.out;rw [Nat.add_mul];omega,HZ8.out.2.2.2.2⟩
       case measure=>have:=hkq.out;simp [intOf];omega
    ·have hk0:0*val ys≤val ss:=by omega
     have HK:=hid hk0
     clear hk0
     go_wp2_with fail
     refine (rV 0 (by omega) (by omega) _).mono ?_
     rintro e w3 ⟨s3,ds3,rfl,hs3,hd3,ht3,hv3,hB3⟩
     obtain ⟨p3,b3,o3,k3,rfl,-,-,-,-⟩:=hs3.shape
     rw [Int.natAbs_zero] at hv3
     have HZ3:=hid (And.intro hs3 (And.intro hd3 (And.intro ht3 hv3)))
     have HB3:=hid hB3
     clear hs3 hd3 ht3 hv3 hB3
     go_wp2_with fail
     have hl3:ds3.length≤549755813888:=by
      have:ds3.length≤5:=jw HZ3.out.2.2.1 (by rw [HZ3.out.2.2.2];have h5:B4 ^ 5=100000000000000000000:=(by decide);rw [h5];omega)
      omega
     refine (AA _ _ ys ds3 _ ((HY.out.below HBw.out).below HB3.out) HZ3.out.1 dy HZ3.out.2.1 hsy hl3).mono ?_
     rintro e w4 ⟨v4,ds4,rfl,hs4,hd4,ht4,hv4,hB4⟩
     rw [HZ3.out.2.2.2] at hv4
     have HZ4:=hid (And.intro hs4 (And.intro hd4 (And.intro ht4 hv4)))
     have HB4:=hid hB4
     clear hs4 hd4 ht4 hv4 hB4 hl3
     go_wp2_with fail
     refine (qO _ _ ss ds4 _ ((HSS.out.1.below HB3.out).below HB4.out) HZ4.out.1 HSS.out.2.1 HZ4.out.2.1 HZ4.out.2.2.1 (by rw [HZ4.out.2.2.2,Nat.mul_comm];exact HK.out) (by omega)).mono ?_
     rintro e w5 ⟨v5,es,rfl,hs5,hd5,ht5,hv5,hB5⟩
     rw [HZ4.out.2.2.2] at hv5
     have hB25:Below wr.heap.size wr w5:=HB2.out.trans ((HB3.out.trans ((HB4.out.trans (hB5.mono HB4.out.size)).mono HB3.out.size)).mono HB2.out.size)
     have hsz5:w.heap.size+1≤w4.heap.size:=by have:=HB4.out.size;have:=HB3.out.size;have:=HB2.out.size;omega
     have hq0:0*val ys+val es=val ss:=by
      have h1:=HK.out
      rw [Nat.mul_comm] at h1 ⊢
      omega
     have HZ5:=hid (And.intro (hs5.mono (B':=w.heap.size+1) hsz5) (And.intro hd5 (And.intro ht5 (And.intro hq0 hB25))))
     clear hs5 hd5 ht5 hv5 hB25 hB5 hsz5 hq0
     go_wp2
     go_loopw [6,9] (fun rv kv w6=>∃ (k:Nat) (es:List Nat),kv=.int .i64 k∧IsL (w.heap.size+1) w6 rv es∧Dig es∧aC es∧k*val ys+val es=val ss∧Below wr.heap.size wr w6) (fun _ kv _=>val ss / val ys+1 - (intOf kv).toNat)
     case atStart=>exact ⟨0,es,rfl,HZ5.out.1,HZ5.out.2.1,HZ5.out.2.2.1,HZ5.out.2.2.2.1,HZ5.out.2.2.2.2⟩
     case round =>
      rename World=>w6
      clear HZ5 HZ4 HZ3 HK HB3 HB4
      obtain ⟨k,es,rfl,hs6,hd6,ht6,hv6,hB6⟩:=hrel
      have hkq:Hid (k≤val ss / val ys):=by
       show _≤_
       rw [Nat.le_div_iff_mul_le hm]
       omega
      have hk1:k<10000:=qm (x:=x) (R:=val rs) (m:=val ys) hx1 HO.out.lt (by rw [← HSS.out.2.2.2.1];omega)
      have HV6:=hid hv6
      have HB6:=hid hB6
      have HS6:=hid (And.intro hs6 (And.intro hd6 ht6))
      have hes:es.length≤1099511627776:=by
       have:=jw ht6 (k:=ss.length) (by have:=aV HSS.out.2.1;omega)
       omega
      have HY6:=hid (HY.out.below (HBw0.out.trans (hB6.mono HBw0.out.size)))
      clear hs6 hd6 ht6 hv6 hB6
      go_wp2_with fail
      refine (xE _ _ es ys _ HS6.out.1 HY6.out HS6.out.2.1 dy HS6.out.2.2 ty hes (by omega)).mono ?_
      rintro e w7 ⟨rfl,q7,rfl⟩
      rcases Nat.lt_or_ge (val es) (val ys) with hlt | hge
      ·rw [gX hlt]
       have HLT:=hid hlt
       clear hlt
       have hH6:=(HQ.out.below HB6.out (by omega)) j (by rw [HO.out.len];omega)
       rw [Nat.zero_add] at hH6
       obtain ⟨c6,f6⟩:=hH6
       have hcf:(w6.drewN q7).cell? ⟨w.heap.size,j,none⟩=some (E4 (qs[j]?.getD 0)):=by rw [World.cell?_drewN];exact c6
       have hff:(w6.drewN q7).frozen? ⟨w.heap.size,j,none⟩=false:=by rw [World.frozen?_drewN];exact f6
       clear c6 f6 HY6
       go_wp2
       go_roundw
       case rel =>
        refine ⟨j,qs.set j k,es,by go_num,?_,?_,HO.out.step HXJ.out HS6.out.2.1 HS6.out.2.2 HLT.out hk1 ?_,?_,by have:=HB6.out.size;simp;omega⟩
        ·exact IsL.set (a:=⟨w.heap.size,j,none⟩) (w:=w6.drewN q7) HS6.out.1 (by simp) _
        ·exact aB.set (w:=w6.drewN q7) (fun i hi=>HQ.out.below HB6.out (by omega) i hi) j k (by rw [HO.out.len];omega)
        ·rw [← HSS.out.2.2.2.1,HV6.out]
        ·exact Below.setCell (w:=w6.drewN q7) (p:=⟨w.heap.size,j,none⟩) (fG (HBw0.out.trans (HB6.out.mono HBw0.out.size)) _) (Nat.le_refl _) _
       case measure=>simp [intOf]
      ·obtain ⟨cc,hcc⟩:∃ cc,aG (val es) (val ys)=cc:=⟨_,rfl⟩
       have hcc0:0≤cc:=by
        rw [← hcc]
        unfold aG
        rw [if_neg (by omega)]
        split <;> omega
       rw [hcc]
       have HGE:=hid hge
       clear hcc hge
       go_wp2_with fail
       refine (qO _ _ es ys (w6.drewN q7) (HS6.out.1.below (fG (Below.refl _ _) _)) (HY6.out.below (fG (Below.refl _ _) _)) HS6.out.2.1 dy ty HGE.out hes).mono ?_
       rintro e w8 ⟨v8,fs,rfl,hs8,hd8,ht8,hv8,hB8⟩
       have hBB:Below wr.heap.size wr w8:=(fG HB6.out q7).trans (hB8.mono (fG HB6.out q7).size)
       have hB9:w.heap.size+1≤(w6.drewN q7).heap.size:=by have:=HB6.out.size;simp;omega
       have HZ8:=hid (And.intro (hs8.mono hB9) (And.intro hd8 (And.intro ht8 (And.intro hv8 hBB))))
       clear hs8 hd8 ht8 hv8 hBB hB8 hB9
       go_wp2
       go_roundw
       case rel=>exact ⟨k+1,fs,by go_num,HZ8.out.1,HZ8.out.2.1,HZ8.out.2.2.1,by have h1:=HZ8.out.2.2.2.1;have h2:=HGE.out;have h3:=HV6.out;rw [Nat.add_mul];omega,HZ8.out.2.2.2.2⟩
       case measure=>have:=hkq.out;simp [intOf];omega
end Z4
end Go.Proofs.YtancpaiaoamjlaaGreatDoor
