/- What the proof rests on, part 3. -/
import Derived.Test.YtmijlcldmefggaaGreatDoorZ02
import Derived.Deep.DeepCutAuto
import Derived.Test.YtmijlcldmefggaaGreatDoorZ00
namespace Go.Proofs.YtmijlcldmefggaaGreatDoor
set_option maxRecDepth 100000
set_option maxHeartbeats 80000000
section
open Go.RowKit Go.Sort
theorem LZ_calls (y s:Nat) (hy:y<B64) (hs:Lib.bitLen y+s=64) (w:World):Calls Tryz.prog 213 #[.int .u64 (y:Int)] w fun e w'=>e=.returned (.int .i64 (s:Int))∧w=w':=
 (Tryz.bits_LeadingZeros64 y w (by omega) (by unfold B64 at hy;omega)).mono fun e w' ⟨h1,h2⟩=>⟨by rw [h1,Int.toNat_natCast];congr 2;omega,h2.symm⟩
def RetDiv (w:World) (hi lo y:Nat) (e:Ending) (w':World):Prop:=e=.returned (.tuple #[.int .u64 ((divQ hi lo y:Nat):Int),.int .u64 ((divR hi lo y:Nat):Int)])∧∃ q,w' = w.drewN q
theorem and_low (x:Nat) (hx:x<B64):bits .and .u64 (x:Int) 4294967295=((x % H32:Nat):Int):=Mul64.maskN x (by unfold B64 at hx;exact hx)
def mulW (x y:Nat):Nat:=x*y % B64
def addW (x y:Nat):Nat:=(x+y) % B64
def subW (x y:Nat):Nat:=(x+(B64 - y % B64)) % B64
theorem wrap_mulW (x y:Nat):IntKind.u64.wrap ((x:Int)*(y:Int))=((mulW x y:Nat):Int):=by
 rw [show ((x:Int)*(y:Int))=((x*y:Nat):Int) by push_cast;rfl,wrap_nat];rfl
theorem wrap_div (x y:Nat) (hx:x<B64):IntKind.u64.wrap ((x:Int) / (y:Int))=((x / y:Nat):Int):=by
 rw [show ((x:Int) / (y:Int))=((x / y:Nat):Int) by push_cast;rfl,wrap_nat,Nat.mod_eq_of_lt (Nat.lt_of_le_of_lt (Nat.div_le_self _ _) hx)]
theorem mulW_small {x y:Nat} (h:x*y<B64):mulW x y=x*y:=Nat.mod_eq_of_lt h
theorem subW_small {x y:Nat} (hx:x<B64) (h:y≤x):subW x y=x - y:=by unfold subW B64 at *;omega
theorem wrap_mul32 (x:Nat):IntKind.u64.wrap ((x:Int)*4294967296)=((mulW x H32:Nat):Int):=by
 have:=wrap_mulW x H32
 unfold H32 at this
 exact this
theorem wrap_rW0 (r:Nat) (h:r<H32):IntKind.u64.wrap (4294967296*(r:Int))=((H32*r:Nat):Int):=by
 unfold H32 at *
 rw [show ((4294967296*r:Nat):Int)=4294967296*(r:Int) by omega]
 exact IntWalk.u64_in _ (by omega)
theorem wrap_rW (r u:Nat) (h:r<H32) (hu:u<H32):IntKind.u64.wrap (((H32*r:Nat):Int)+(u:Int))=((H32*r+u:Nat):Int):=by
 unfold H32 at *
 rw [show ((4294967296*r:Nat):Int)+(u:Int)=((4294967296*r+u:Nat):Int) by omega]
 exact IntWalk.u64_in _ (by omega)
theorem mulW_fits {x y:Nat} (hx:x<H32) (hy:y<H32):mulW x y=x*y:=mulW_small (by rw [← H32_sq];exact Nat.lt_of_le_of_lt (Nat.mul_le_mul_left _ (Nat.le_of_lt hy)) (Nat.mul_lt_mul_of_pos_right hx (by decide)))
theorem sub_exact {u1 u0 m:Nat} (h:m≤u1*H32+u0) (hd:u1*H32+u0 - m<B64):subW (addW (mulW u1 H32) u0) (m % B64)=u1*H32+u0 - m:=by
 unfold subW addW mulW
 generalize u1*H32=a at *
 unfold B64 at *
 omega
theorem wrap_addW (x y:Nat):IntKind.u64.wrap ((x:Int)+(y:Int))=((addW x y:Nat):Int):=by
 rw [show ((x:Int)+(y:Int))=((x+y:Nat):Int) by push_cast;rfl,wrap_nat];rfl
theorem wrap_subW (x y:Nat):IntKind.u64.wrap ((x:Int) - (y:Int))=((subW x y:Nat):Int):=by
 rw [IntKind.wrap_u64];unfold subW B64;omega
theorem Div64_calls0 (lo y:Nat) (hh:0<y) (hl:lo<B64) (w:World) :
  Calls Tryz.prog 212 #[.int .u64 0,.int .u64 (lo:Int),.int .u64 (y:Int)] w (RetDiv w 0 lo y):=by
 have e1:Hid (divQ 0 lo y=lo / y):=by show _=_;unfold divQ;simp
 have e2:Hid (divR 0 lo y=lo % y):=by show _=_;unfold divR;simp
 have ew:=wrap_div lo y hl
 clear hl
 go_enter Tryz.func212,Tryz.ntmps212
 go_wp2
 go_region
 all_goals go_wp2
 all_goals go_ret2
 refine ⟨?_,1,rfl⟩
 rw [e1.out,e2.out]
 show Ending.returned (.tuple #[.int .u64 ↑(lo / y),.int .u64 ((lo:Int) % y)])=_
 push_cast
 rfl
theorem Div64_calls1 (hi lo y:Nat) (h0:0<hi) (hh:hi<y) (hl:lo<B64) (hy:y<B64) (w:World) :
  Calls Tryz.prog 212 #[.int .u64 (hi:Int),.int .u64 (lo:Int),.int .u64 (y:Int)] w (RetDiv w hi lo y):=by
 obtain ⟨s,hs,hbl,hn1,hn2⟩:=bitLen_norm y (by omega) hy
 obtain ⟨k1,k2,k3⟩:=shifted_hi hi lo y s hs hl hh hn2
 have hv:IntKind.u64.wrap ((y:Int)*2 ^ s)=((y*2 ^ s:Nat):Int):=by
  rw [show ((y:Int)*2 ^ s)=((y*2 ^ s:Nat):Int) by push_cast;rfl,wrap_nat,Nat.mod_eq_of_lt hn2]
 have ho:=shl2_bits s hi lo (by omega) hl
 have hlo:=shl1_wrap s lo (by omega)
 have hs1:shl1 s lo<B64:=high_lt s lo 0 (by omega) (Nat.two_pow_pos _)
 have ha1:=and_low (y*2 ^ s) hn2
 have ha2:=and_low (shl1 s lo) hs1
 have k2':(hi*B64+lo)*2 ^ s=shl2 s hi lo*B64+shl1 s lo:=k2
 obtain ⟨v,ev⟩:∃ v,y*2 ^ s=v:=⟨_,rfl⟩
 obtain ⟨un32,eu⟩:∃ u,shl2 s hi lo=u:=⟨_,rfl⟩
 obtain ⟨un10,eu0⟩:∃ u,shl1 s lo=u:=⟨_,rfl⟩
 rw [ev] at hn1 hn2 k3 hv ha1
 rw [eu] at k3 ho k2'
 rw [eu0] at hlo hs1 ha2 k2'
 have KK:=hid k2'
 have EV:=hid ev
 have BL:=hid hbl
 have YY:=hid hy
 have HN1:=hid hn1
 have HN2:=hid hn2
 have K3:=hid k3
 have HS1:=hid hs1
 have cs0:(0:Int)≤64 - (s:Int):=by omega
 obtain ⟨v1,ev1⟩:∃ u,v / H32=u:=⟨_,rfl⟩
 obtain ⟨v0,ev0⟩:∃ u,v % H32=u:=⟨_,rfl⟩
 obtain ⟨un1,eun1⟩:∃ u,un10 / H32=u:=⟨_,rfl⟩
 obtain ⟨un0,eun0⟩:∃ u,un10 % H32=u:=⟨_,rfl⟩
 have evv:v1*H32+v0=v:=by rw [← ev1,← ev0,Nat.mul_comm];exact Nat.div_add_mod _ _
 have eun:un1*H32+un0=un10:=by rw [← eun1,← eun0,Nat.mul_comm];exact Nat.div_add_mod _ _
 have l0:v0<H32:=by rw [← ev0];exact Nat.mod_lt _ (by decide)
 have l1:v1<H32:=by rw [← ev1];unfold H32 B64 at *;omega
 have l2:H32≤2*v1:=by rw [← ev1];unfold H32 B64 at *;omega
 have l3:un0<H32:=by rw [← eun0];exact Nat.mod_lt _ (by decide)
 have l4:un1<H32:=by rw [← eun1];unfold H32 B64 at *;omega
 have l5:un32<v1*H32+v0:=by rw [evv];exact k3
 have hr1:(v:Int) / 4294967296=(v1:Int):=by rw [← ev1];unfold H32;omega
 have hr2:(un10:Int) / 4294967296=(un1:Int):=by rw [← eun1];unfold H32;omega
 rw [ev0] at ha1
 rw [eun0] at ha2
 have HS:=Half.start (u0:=un1) l1 l2 l0 l4 l5
 have hq0:=wrap_div un32 v1 (by omega)
 have hm0:=wrap_mulW (un32 / v1) v1
 have hs0:=wrap_subW un32 (mulW (un32 / v1) v1)
 have er:subW un32 (mulW (un32 / v1) v1)=un32 % v1:=by
  have e:=HS.rest
  rw [mulW_small (by omega),subW_small (by omega) (by omega)];omega
 rw [er] at hs0
 obtain ⟨q0,eq0⟩:∃ u,un32 / v1=u:=⟨_,rfl⟩
 obtain ⟨r0,er0⟩:∃ u,un32 % v1=u:=⟨_,rfl⟩
 obtain ⟨m0,em0⟩:∃ u,mulW (un32 / v1) v1=u:=⟨_,rfl⟩
 rw [eq0] at hq0 hm0 em0 hs0
 rw [em0] at hm0 hs0
 rw [er0] at hs0
 rw [eq0,er0] at HS
 have HS0:=hid HS
 have EVV:=hid evv
 have EUN:=hid eun
 have b2:2147483648≤v1:=by unfold H32 at l2;omega
 have b2':v1<4294967296:=l1
 have b0:v0<4294967296:=l0
 have b5:un1<4294967296:=l4
 have b6:un0<4294967296:=l3
 have HL2:=hid l2
 have HL5:=hid l5
 clear k1 k2 k2' ev eu eu0 hbl hy hl hn1 hn2 k3 hs1 ev1 ev0 eun1 eun0 evv eun er eq0 er0 em0 HS l0 l1 l2 l3 l4 l5
 go_enter Tryz.func212,Tryz.ntmps212
 go_upto_block 0 with (go_at_call 213;refine (LZ_calls _ _ YY.out BL.out _).mono ?_;rintro e w' ⟨rfl,rfl⟩)
 clear ho hlo ha1 ha2 hr1 hr2 hq0 hm0 hs0 hv
 go_cut [15] (fun qv wx=>w=wx∧∃ q:Nat,qv=.int .u64 q∧q<4294967296∧Hid (q*(v1*H32+v0)+(un32*H32+un1) % (v1*H32+v0)=un32*H32+un1))
 case first =>
  have HSS:=HS0
  have HLL:=HL5
  have hu0:Hid (un1<H32):=b5
  have B0:Hid (v0<H32):=b0
  clear HS0 HL5 b2 b0 cs0 hs b6 h0 hh
  go_wp2
  go_loop [15,16] (fun qv rv=>∃ q r:Nat,qv=.int .u64 q∧rv=.int .u64 r∧Half un32 un1 v1 v0 q r) (fun qv _=>(intOf qv).toNat)
  case atStart=>exact ⟨_,_,rfl,rfl,HSS.out⟩
  case round =>
   obtain ⟨q,r,rfl,rfl,hH⟩:=hrel
   have hr32:r<4294967296:=hH.rlt
   have hq1:q≤4294967297:=hH.le
   have HH:=hid hH
   have w2:IntKind.u64.wrap ((r:Int)+(v1:Int))=((r+v1:Nat):Int):=by rw [show ((r+v1:Nat):Int)=(r:Int)+v1 by omega];exact IntWalk.u64_in _ (by omega)
   obtain ⟨r',er'⟩:∃ u,r+v1=u:=⟨_,rfl⟩
   rw [er'] at w2
   have ER:=hid er'
   by_cases c1:4294967296≤q
   ·obtain ⟨t1,t2,t3⟩:=hH.step hu0.out HLL.out (.inl c1)
    have hle:q - 1≤4294967296:=by omega
    have d1:decide ((4294967296:Int)≤(q:Int))=true:=decide_eq_true (by omega)
    have w1:IntKind.u64.wrap ((q:Int) - 1)=((q - 1:Nat):Int):=by rw [show ((q - 1:Nat):Int)=(q:Int) - 1 by omega];exact IntWalk.u64_in _ (by omega)
    have hlt:Hid (q - 1<q):=by show _<_;omega
    obtain ⟨q',eq'⟩:∃ u,q - 1=u:=⟨_,rfl⟩
    rw [er',eq'] at t2
    rw [eq'] at w1 hle t3 hlt
    have T2:=hid t2
    have T3:=hid t3
    have HLE:=hid hle
    by_cases c2:4294967296≤r'
    ·have d2:decide ((4294967296:Int)≤(r':Int))=true:=decide_eq_true (by omega)
     have hd:=half_done T2.out T3.out (half_break HLE.out c2 B0.out) hu0.out HLL.out
     have HD:=hid hd
     clear hd hH t1 t2 t3 hle hq1 hr32 c1 c2 eq' er' b2' b5
     go_wp2_with (go_big_skip)
     go_meet
     exact ⟨rfl,q',rfl,HD.out.2.1,HD.out.2.2⟩
    ·have d2:decide ((4294967296:Int)≤(r':Int))=false:=decide_eq_false (by omega)
     have HR':Hid (r' < 4294967296):=by show _<_;omega
     clear hH t1 t2 t3 hle hq1 hr32 c1 c2 eq' er' b2' b5
     go_wp2_with (go_big_skip)
     go_round
     case rel=>exact ⟨q',r',rfl,rfl,T2.out,HR'.out,T3.out,Nat.le_succ_of_le HLE.out⟩
     case measure=>simpa [intOf] using hlt.out
   ·have d1:decide ((4294967296:Int)≤(q:Int))=false:=decide_eq_false (by omega)
    have hpw:=wrap_mulW q v0
    have hrw:=wrap_rW r un1 (by show r<4294967296;omega) hu0.out
    have hrw0:=wrap_rW0 r (by show r<4294967296;omega)
    have epw:=mulW_fits (show q<H32 by show q<4294967296;omega) B0.out
    obtain ⟨p,hp⟩:∃ p,mulW q v0=p:=⟨_,rfl⟩
    obtain ⟨a,ha⟩:∃ a,H32*r=a:=⟨_,rfl⟩
    obtain ⟨c,hc⟩:∃ c,H32*r+un1=c:=⟨_,rfl⟩
    rw [ha] at hrw0 hrw
    rw [ha] at hc
    rw [hc] at hrw
    rw [hp] at hpw epw
    by_cases c3:c<p
    ·have d3:decide (c<p)=true:=decide_eq_true c3
     have d3':decide ((c:Int)<(p:Int))=true:=decide_eq_true (by omega)
     obtain ⟨t1,t2,t3⟩:=hH.step hu0.out HLL.out (.inr (by rw [← epw,ha,hc];exact c3))
     have hle:q - 1≤4294967296:=by omega
     have w1:IntKind.u64.wrap ((q:Int) - 1)=((q - 1:Nat):Int):=by rw [show ((q - 1:Nat):Int)=(q:Int) - 1 by omega];exact IntWalk.u64_in _ (by omega)
     have hlt:Hid (q - 1<q):=by show _<_;omega
     obtain ⟨q',eq'⟩:∃ u,q - 1=u:=⟨_,rfl⟩
     rw [er',eq'] at t2
     rw [eq'] at w1 hle t3 hlt
     have T2:=hid t2
     have T3:=hid t3
     have HLE:=hid hle
     by_cases c2:4294967296≤r'
     ·have d2:decide ((4294967296:Int)≤(r':Int))=true:=decide_eq_true (by omega)
      have hd:=half_done T2.out T3.out (half_break HLE.out c2 B0.out) hu0.out HLL.out
      have HD:=hid hd
      clear hd hH t1 t2 t3 hle hq1 hr32 c1 c2 eq' er' b2' b5 hp epw ha hc c3
      go_wp2_with (go_big_skip)
      go_meet
      exact ⟨rfl,q',rfl,HD.out.2.1,HD.out.2.2⟩
     ·have d2:decide ((4294967296:Int)≤(r':Int))=false:=decide_eq_false (by omega)
      have HR':Hid (r' < 4294967296):=by show _<_;omega
      clear hH t1 t2 t3 hle hq1 hr32 c1 c2 eq' er' b2' b5 hp epw ha hc c3
      go_wp2_with (go_big_skip)
      go_round
      case rel=>exact ⟨q',r',rfl,rfl,T2.out,HR'.out,T3.out,Nat.le_succ_of_le HLE.out⟩
      case measure=>simpa [intOf] using hlt.out
    ·have d3:decide (c<p)=false:=decide_eq_false c3
     have d3':decide ((c:Int)<(p:Int))=false:=decide_eq_false (by omega)
     have hd:=half_done HH.out.rest HH.out.big (by rw [← epw,ha,hc];omega) hu0.out HLL.out
     have HD:=hid hd
     clear hd hH hr32 hq1 er' b2' b5 hp epw ha hc c3 c1
     go_wp2_with (go_big_skip)
     go_meet
     exact ⟨rfl,q,rfl,HD.out.2.1,HD.out.2.2⟩
 case rest =>
  obtain ⟨rfl,q1,rfl,hq1,HQ1⟩:=hcut
  have hvp:0<v:=by have:=HN1.out;unfold B64 at this;omega
  have hq:=HQ1.out
  rw [EVV.out] at hq
  have hU1:(un32*H32+un1) % v<v:=Nat.mod_lt _ hvp
  have hmle:q1*v≤un32*H32+un1:=by omega
  have hA:=wrap_mul32 un32
  have hB:=wrap_addW (mulW un32 H32) un1
  have hC:=wrap_mulW q1 v
  have hD:=wrap_subW (addW (mulW un32 H32) un1) (mulW q1 v)
  have hN2:=HN2.out
  rw [show mulW q1 v=q1*v % B64 from rfl,sub_exact hmle (by omega),show un32*H32+un1 - q1*v=(un32*H32+un1) % v by omega] at hD
  rw [← show mulW q1 v=q1*v % B64 from rfl] at hD
  obtain ⟨un21,e21⟩:∃ u,(un32*H32+un1) % v=u:=⟨_,rfl⟩
  obtain ⟨A,eA⟩:∃ u,mulW un32 H32=u:=⟨_,rfl⟩
  rw [eA] at hA hB hD
  obtain ⟨B,eB⟩:∃ u,addW A un1=u:=⟨_,rfl⟩
  rw [eB] at hB hD
  obtain ⟨C,eC⟩:∃ u,mulW q1 v=u:=⟨_,rfl⟩
  rw [eC] at hC hD
  rw [e21] at hD hU1 hq
  have l5:un21<v1*H32+v0:=by rw [EVV.out];exact hU1
  have HS:=Half.start (u0:=un0) (show v1<H32 from b2') HL2.out (show v0<H32 from b0) (show un0<H32 from b6) l5
  have hq00:=wrap_div un21 v1 (by omega)
  have hm00:=wrap_mulW (un21 / v1) v1
  have hs00:=wrap_subW un21 (mulW (un21 / v1) v1)
  have er:subW un21 (mulW (un21 / v1) v1)=un21 % v1:=by
   have e:=HS.rest
   rw [mulW_small (by omega),subW_small (by omega) (by omega)];omega
  rw [er] at hs00
  obtain ⟨q00,eq0⟩:∃ u,un21 / v1=u:=⟨_,rfl⟩
  obtain ⟨r00,er0⟩:∃ u,un21 % v1=u:=⟨_,rfl⟩
  obtain ⟨m00,em0⟩:∃ u,mulW (un21 / v1) v1=u:=⟨_,rfl⟩
  rw [eq0] at hq00 hm00 em0 hs00
  rw [em0] at hm00 hs00
  rw [er0] at hs00
  rw [eq0,er0] at HS
  have HS0:=hid HS
  have HQQ:=hid hq
  have HL5':=hid l5
  have Q1:=hid hq1
  have K21:=hid hU1
  have VP:=hid hvp
  clear HS er eq0 er0 em0 e21 eA eB eC hmle hq l5 hU1 hq1 HQ1 HL5 hN2 hvp
  go_upto_block 2 with fail
  clear hA hB hC hD hq00 hm00 hs00
  go_cut [18] (fun qv wx=>w=wx∧∃ q:Nat,qv=.int .u64 q∧q<4294967296∧Hid (q*(v1*H32+v0)+(un21*H32+un0) % (v1*H32+v0)=un21*H32+un0))
  case first =>
   have HSS:=HS0
   have HLL:=HL5'
   have hu0:Hid (un0<H32):=b6
   have B0:Hid (v0<H32):=b0
   clear HS0 HL5' b2 b0 cs0 hs h0 hh b6
   go_wp2
   go_loop [18,16] (fun qv rv=>∃ q r:Nat,qv=.int .u64 q∧rv=.int .u64 r∧Half un21 un0 v1 v0 q r) (fun qv _=>(intOf qv).toNat)
   case atStart=>exact ⟨_,_,rfl,rfl,HSS.out⟩
   case round =>
    obtain ⟨q,r,rfl,rfl,hH⟩:=hrel
    have hr32:r<4294967296:=hH.rlt
    have hq1:q≤4294967297:=hH.le
    have HH:=hid hH
    have w2:IntKind.u64.wrap ((r:Int)+(v1:Int))=((r+v1:Nat):Int):=by rw [show ((r+v1:Nat):Int)=(r:Int)+v1 by omega];exact IntWalk.u64_in _ (by omega)
    obtain ⟨r',er'⟩:∃ u,r+v1=u:=⟨_,rfl⟩
    rw [er'] at w2
    have ER:=hid er'
    by_cases c1:4294967296≤q
    ·obtain ⟨t1,t2,t3⟩:=hH.step hu0.out HLL.out (.inl c1)
     have hle:q - 1≤4294967296:=by omega
     have d1:decide ((4294967296:Int)≤(q:Int))=true:=decide_eq_true (by omega)
     have w1:IntKind.u64.wrap ((q:Int) - 1)=((q - 1:Nat):Int):=by rw [show ((q - 1:Nat):Int)=(q:Int) - 1 by omega];exact IntWalk.u64_in _ (by omega)
     have hlt:Hid (q - 1<q):=by show _<_;omega
     obtain ⟨q',eq'⟩:∃ u,q - 1=u:=⟨_,rfl⟩
     rw [er',eq'] at t2
     rw [eq'] at w1 hle t3 hlt
     have T2:=hid t2
     have T3:=hid t3
     have HLE:=hid hle
     by_cases c2:4294967296≤r'
     ·have d2:decide ((4294967296:Int)≤(r':Int))=true:=decide_eq_true (by omega)
      have hd:=half_done T2.out T3.out (half_break HLE.out c2 B0.out) hu0.out HLL.out
      have HD:=hid hd
      clear hd hH t1 t2 t3 hle hq1 hr32 c1 c2 eq' er' b2' b5
      go_wp2_with (go_big_skip)
      go_meet
      exact ⟨rfl,q',rfl,HD.out.2.1,HD.out.2.2⟩
     ·have d2:decide ((4294967296:Int)≤(r':Int))=false:=decide_eq_false (by omega)
      have HR':Hid (r' < 4294967296):=by show _<_;omega
      clear hH t1 t2 t3 hle hq1 hr32 c1 c2 eq' er' b2' b5
      go_wp2_with (go_big_skip)
      go_round
      case rel=>exact ⟨q',r',rfl,rfl,T2.out,HR'.out,T3.out,Nat.le_succ_of_le HLE.out⟩
      case measure=>simpa [intOf] using hlt.out
    ·have d1:decide ((4294967296:Int)≤(q:Int))=false:=decide_eq_false (by omega)
     have hpw:=wrap_mulW q v0
     have hrw:=wrap_rW r un0 (by show r<4294967296;omega) hu0.out
     have hrw0:=wrap_rW0 r (by show r<4294967296;omega)
     have epw:=mulW_fits (show q<H32 by show q<4294967296;omega) B0.out
     obtain ⟨p,hp⟩:∃ p,mulW q v0=p:=⟨_,rfl⟩
     obtain ⟨a,ha⟩:∃ a,H32*r=a:=⟨_,rfl⟩
     obtain ⟨c,hc⟩:∃ c,H32*r+un0=c:=⟨_,rfl⟩
     rw [ha] at hrw0 hrw
     rw [ha] at hc
     rw [hc] at hrw
     rw [hp] at hpw epw
     by_cases c3:c<p
     ·have d3:decide (c<p)=true:=decide_eq_true c3
      have d3':decide ((c:Int)<(p:Int))=true:=decide_eq_true (by omega)
      obtain ⟨t1,t2,t3⟩:=hH.step hu0.out HLL.out (.inr (by rw [← epw,ha,hc];exact c3))
      have hle:q - 1≤4294967296:=by omega
      have w1:IntKind.u64.wrap ((q:Int) - 1)=((q - 1:Nat):Int):=by rw [show ((q - 1:Nat):Int)=(q:Int) - 1 by omega];exact IntWalk.u64_in _ (by omega)
      have hlt:Hid (q - 1<q):=by show _<_;omega
      obtain ⟨q',eq'⟩:∃ u,q - 1=u:=⟨_,rfl⟩
      rw [er',eq'] at t2
      rw [eq'] at w1 hle t3 hlt
      have T2:=hid t2
      have T3:=hid t3
      have HLE:=hid hle
      by_cases c2:4294967296≤r'
      ·have d2:decide ((4294967296:Int)≤(r':Int))=true:=decide_eq_true (by omega)
       have hd:=half_done T2.out T3.out (half_break HLE.out c2 B0.out) hu0.out HLL.out
       have HD:=hid hd
       clear hd hH t1 t2 t3 hle hq1 hr32 c1 c2 eq' er' b2' b5 hp epw ha hc c3
       go_wp2_with (go_big_skip)
       go_meet
       exact ⟨rfl,q',rfl,HD.out.2.1,HD.out.2.2⟩
      ·have d2:decide ((4294967296:Int)≤(r':Int))=false:=decide_eq_false (by omega)
       have HR':Hid (r' < 4294967296):=by show _<_;omega
       clear hH t1 t2 t3 hle hq1 hr32 c1 c2 eq' er' b2' b5 hp epw ha hc c3
       go_wp2_with (go_big_skip)
       go_round
       case rel=>exact ⟨q',r',rfl,rfl,T2.out,HR'.out,T3.out,Nat.le_succ_of_le HLE.out⟩
       case measure=>simpa [intOf] using hlt.out
     ·have d3:decide (c<p)=false:=decide_eq_false c3
      have d3':decide ((c:Int)<(p:Int))=false:=decide_eq_false (by omega)
      have hd:=half_done HH.out.rest HH.out.big (by rw [← epw,ha,hc];omega) hu0.out HLL.out
      have HD:=hid hd
      clear hd hH hr32 hq1 er' b2' b5 hp epw ha hc c3 c1
      go_wp2_with (go_big_skip)
      go_meet
      exact ⟨rfl,q,rfl,HD.out.2.1,HD.out.2.2⟩
  case rest =>
   obtain ⟨rfl,q2,rfl,hq2,HQ2⟩:=hcut
   have hq2':=HQ2.out
   rw [EVV.out] at hq2'
   have hU2:(un21*H32+un0) % v<v:=Nat.mod_lt _ VP.out
   have hmle:q2*v≤un21*H32+un0:=by omega
   have hA:=wrap_mul32 un21
   have hB:=wrap_addW (mulW un21 H32) un0
   have hC:=wrap_mulW q2 v
   have hD:=wrap_subW (addW (mulW un21 H32) un0) (mulW q2 v)
   have hN2:=HN2.out
   rw [show mulW q2 v=q2*v % B64 from rfl,sub_exact hmle (by omega),show un21*H32+un0 - q2*v=(un21*H32+un0) % v by omega] at hD
   rw [← show mulW q2 v=q2*v % B64 from rfl] at hD
   obtain ⟨rr,err⟩:∃ u,(un21*H32+un0) % v=u:=⟨_,rfl⟩
   obtain ⟨A,eA⟩:∃ u,mulW un21 H32=u:=⟨_,rfl⟩
   rw [eA] at hA hB hD
   obtain ⟨B,eB⟩:∃ u,addW A un0=u:=⟨_,rfl⟩
   rw [eB] at hB hD
   obtain ⟨C,eC⟩:∃ u,mulW q2 v=u:=⟨_,rfl⟩
   rw [eC] at hC hD
   rw [err] at hD hU2 hq2'
   have hQ:=Q1.out
   have hQ1:IntKind.u64.wrap ((q1:Int)*4294967296)=((q1*H32:Nat):Int):=by
    unfold H32
    rw [show ((q1*4294967296:Nat):Int)=(q1:Int)*4294967296 by omega]
    exact IntWalk.u64_in _ (by omega)
   have hQ2:IntKind.u64.wrap (((q1*H32:Nat):Int)+(q2:Int))=((q1*H32+q2:Nat):Int):=by
    unfold H32
    rw [show ((q1*4294967296:Nat):Int)+(q2:Int)=((q1*4294967296+q2:Nat):Int) by omega]
    exact IntWalk.u64_in _ (by omega)
   have hfin:=halves (hi:=hi) (lo:=lo) (y:=y) (s:=s) (q1:=q1) (q0:=q2) (un32:=un32) (un1:=un1) (un0:=un0) (un21:=un21) (r:=rr) (by omega) (by rw [EUN.out];exact KK.out) (by rw [EV.out];exact HQQ.out) (by rw [EV.out];exact hq2') (by rw [EV.out];exact hU2)
   have hsh:=shr_nat s rr
   obtain ⟨a1,ea1⟩:∃ u,q1*H32=u:=⟨_,rfl⟩
   obtain ⟨qq,eqq⟩:∃ u,q1*H32+q2=u:=⟨_,rfl⟩
   obtain ⟨rs,ers⟩:∃ u,rr / 2 ^ s=u:=⟨_,rfl⟩
   rw [ea1] at hQ1 hQ2 eqq
   rw [eqq] at hQ2
   rw [ea1,eqq,ers] at hfin
   rw [ers] at hsh
   have HF:=hid hfin
   clear hfin eqq ers ea1 hq2 hq2' hU2 hmle hN2 err eA eB eC hQ b2 b0 b2' b5 b6 h0 hh
   go_wp2
   go_ret2
   refine ⟨?_,0,rfl⟩
   show Ending.returned (.tuple #[.int .u64 (qq:Int),.int .u64 (rs:Int)])=_
   rw [HF.out.1,HF.out.2]
theorem Div64_calls (hi lo y:Nat) (hh:hi<y) (hl:lo<B64) (hy:y<B64) (w:World) :
  Calls Tryz.prog 212 #[.int .u64 (hi:Int),.int .u64 (lo:Int),.int .u64 (y:Int)] w (RetDiv w hi lo y):=by
 rcases Nat.eq_zero_or_pos hi with h0 | h0
 ·subst h0;exact Div64_calls0 lo y hh hl w
 ·exact Div64_calls1 hi lo y h0 hh hl hy w
end
section
open Go.RowKit Go.Sort
def SplitAt (xs dk:List Nat) (d k r:Nat):Prop:=dk.length=xs.length∧Dig dk∧(∀ j:Nat,j<k→dk[j]?.getD 0=xs[j]?.getD 0)∧r<d∧k≤xs.length∧val (xs.drop k)=val (dk.drop k)*d+r
theorem SplitAt.start {xs:List Nat} {d:Nat} (hx:Dig xs) (hd:0<d):SplitAt xs xs d xs.length 0:=
 ⟨rfl,hx,fun _ _=>rfl,hd,Nat.le_refl _,by rw [List.drop_of_length_le (Nat.le_refl _)];simp [val_nil]⟩
theorem SplitAt.step {xs dk:List Nat} {d k r x:Nat} (h:SplitAt xs dk d (k+1) r) (hx:xs[k]?.getD 0=x) (hx1:x<B64):SplitAt xs (dk.set k (divQ r x d)) d k (divR r x d):=by
 obtain ⟨hl,hd,hg,hr,hk,hv⟩:=h
 refine ⟨by rw [List.length_set,hl],hd.set _ (divQ_lt r x d hx1 hr),fun j hj=>?_,divR_lt r x d (by omega),by omega,?_⟩
 ·rw [List.getElem?_set_ne (by omega)];exact hg j (by omega)
 ·rw [val_drop xs k (by omega),hv,hx,val_drop (dk.set k _) k (by rw [List.length_set];omega),drop_set_succ,List.getElem?_set_self (by omega)]
  simp only [Option.getD_some]
  have e:=div_spec r x d
  generalize divQ r x d=q at *
  generalize divR r x d=r' at *
  generalize val (dk.drop (k+1))=V at *
  grind
theorem split_calls (nx d b o cp:Nat) (xs:List Nat) (w:World) (hd:0<d) (hd1:d<B64) (hH:HoldsL w b o xs) (hx:Dig xs) (hsz:xs.length≤1099511627776) (hnx:xs.length=nx) :
  Calls Tryz.prog 196 #[.slice (some ⟨b,o,none⟩) nx cp,.int .u64 (d:Int)] w (RetRow w b o xs.length fun ds r=>r<d∧val xs=val ds*d+r):=by
 subst hnx
 have HX:=hid hx
 have HH:=hid hH
 have HD:=hid hd
 have HD1:=hid hd1
 clear hx hH hd hd1
 go_enter Tryz.func196,Tryz.ntmps196
 go_wp2
 go_loopw [5,6] (fun rv iv wr=>∃ (k q r:Nat) (dk:List Nat),iv=.int .i64 ((k:Int) - 1)∧rv=.int .u64 r∧wr=putL w q b o dk∧SplitAt xs dk d k r) (fun _ iv _=>(intOf iv+1).toNat)
 case atStart=>exact ⟨xs.length,0,0,xs,rfl,rfl,(putL_self _ _ _ _ HH.out).symm,SplitAt.start HX.out HD.out⟩
 case round =>
  obtain ⟨k,q,r,dk,rfl,rfl,hwr,hS⟩:=hrel
  have hdl:=hS.1
  have hHk:HoldsL wr b o dk:=by rw [hwr];exact holdsL_putL _ _ _ _ _ _ HH.out hdl
  have hkx:=hS.2.2.2.2.1
  by_cases h0:0<k
  ·obtain ⟨m,rfl⟩:∃ m,k=m+1:=⟨k - 1,by omega⟩
   obtain ⟨x,hxk⟩:∃ x,xs[m]?.getD 0=x:=⟨_,rfl⟩
   have cx:wr.cell? ⟨b,o+m,none⟩=some (.int .u64 (x:Int)):=by rw [(hHk m (by omega)).1,hS.2.2.1 m (by omega),hxk]
   have fx:wr.frozen? ⟨b,o+m,none⟩=false:=(hHk m (by omega)).2
   have hx1:x<B64:=by rw [← hxk];exact HX.out.getD m
   have HS:=hid (hS.step hxk hx1)
   have HR:=hid hS.2.2.2.1
   have HX1:=hid hx1
   have HW:=hid hwr
   have HDL:=hid hdl
   clear hS hdl hHk hxk hx1 hwr h0
   go_wp2_with fail
   refine (Div64_calls r x d HR.out HX1.out HD1.out _).mono ?_
   rintro e w' ⟨rfl,q1,rfl⟩
   go_wp2
   go_roundw
   case rel =>
    refine ⟨m,q+q1,_,_,by go_num,rfl,?_,HS.out⟩
    rw [HW.out,putL_drewN,putL_set _ _ _ _ _ _ _ (by rw [HDL.out];omega)]
   case measure=>simp [intOf]
  ·obtain rfl:k=0:=by omega
   have HV:Hid (r<d∧val xs=val dk*d+r):=⟨hS.2.2.2.1,by have:=hS.2.2.2.2.2;simpa using this⟩
   have HDG:=hid hS.2.1
   have HDL:=hid hdl
   have HW:=hid hwr
   clear hS hdl hHk hwr
   go_wp2
   go_ret
   exact ⟨dk,r,q,rfl,HW.out,HDL.out,HDG.out,HV.out⟩
theorem Rem64_calls (hi lo y:Nat) (hh:hi<y) (hl:lo<B64) (hy:y<B64) (w:World) :
  Calls Tryz.prog 157 #[.int .u64 (hi:Int),.int .u64 (lo:Int),.int .u64 (y:Int)] w fun e w'=>e=.returned (.int .u64 ((divR hi lo y:Nat):Int))∧∃ q,w' = w.drewN q:=by
 have hm:(hi:Int) % (y:Int)=(hi:Int):=Int.emod_eq_of_lt (by omega) (by omega)
 have HH:=hid hh
 have HL:=hid hl
 have HY:=hid hy
 have hy0:0<y:=by omega
 clear hh hl hy
 go_enter Tryz.func157,Tryz.ntmps157
 go_wp2_with fail
 refine (Div64_calls hi lo y HH.out HL.out HY.out _).mono ?_
 rintro e w' ⟨rfl,q1,rfl⟩
 go_wp2
 go_ret
 exact ⟨rfl,q1,rfl⟩
theorem modWord_calls (nx d b o cp:Nat) (xs:List Nat) (w:World) (hd:0<d) (hd1:d<B64) (hH:Digs w b o xs) (hx:Dig xs) (hsz:xs.length≤1099511627776) (hnx:xs.length=nx) :
  Calls Tryz.prog 103 #[.slice (some ⟨b,o,none⟩) nx cp,.int .u64 (d:Int)] w fun e w'=>e=.returned (.int .u64 ((val xs % d:Nat):Int))∧∃ q,w' = w.drewN q:=by
 subst hnx
 have HX:=hid hx
 have HH:=hid hH
 have HD:=hid hd
 have HD1:=hid hd1
 clear hx hH hd hd1
 go_enter Tryz.func103,Tryz.ntmps103
 go_wp2
 go_loopw [5,6] (fun rv iv wr=>∃ (k q r:Nat),iv=.int .i64 ((k:Int) - 1)∧rv=.int .u64 r∧wr=w.drewN q∧k≤xs.length∧r=val (xs.drop k) % d) (fun _ iv _=>(intOf iv+1).toNat)
 case atStart=>exact ⟨xs.length,0,0,rfl,rfl,rfl,Nat.le_refl _,by rw [List.drop_of_length_le (Nat.le_refl _)];simp [val_nil]⟩
 case round =>
  obtain ⟨k,q,r,rfl,rfl,hwr,hkx,hr⟩:=hrel
  by_cases h0:0<k
  ·obtain ⟨m,rfl⟩:∃ m,k=m+1:=⟨k - 1,by omega⟩
   obtain ⟨x,hxk⟩:∃ x,xs[m]?.getD 0=x:=⟨_,rfl⟩
   have cx:wr.cell? ⟨b,o+m,none⟩=some (.int .u64 (x:Int)):=by rw [hwr];exact (HH.out m (by omega)).trans (by rw [hxk])
   have HX1:Hid (x<B64):=by rw [← hxk];exact HX.out.getD m
   have HR:Hid (r<d):=by rw [hr];exact Nat.mod_lt _ HD.out
   have HS:Hid (divR r x d=val (xs.drop m) % d):=by
    show _=_
    rw [val_drop xs m (by omega),hxk,hr]
    unfold divR
    rw [Nat.add_comm,Nat.add_mod,Nat.mul_mod,Nat.mod_mod,← Nat.mul_mod,← Nat.add_mod,Nat.mul_comm]
   have HW:=hid hwr
   clear hr hxk hwr h0
   go_wp2_with fail
   refine (Rem64_calls r x d HR.out HX1.out HD1.out _).mono ?_
   rintro e w' ⟨rfl,q1,rfl⟩
   go_wp2
   go_roundw
   case rel=>exact ⟨m,q+q1,_,by go_num,rfl,by rw [HW.out,World.drewN_drewN],by omega,HS.out⟩
   case measure=>simp [intOf]
  ·obtain rfl:k=0:=by omega
   have HR:Hid (r=val xs % d):=by show _=_;simpa using hr
   have HW:=hid hwr
   clear hr hwr
   go_wp2
   go_ret
   exact ⟨congrArg (fun t:Nat=>Ending.returned (.int .u64 (t:Int))) HR.out,q,HW.out⟩
def RetDigits2 (w:World) (n:Nat) (v:Value) (e:Ending) (w':World):Prop:=
 ∃ (b o cp:Nat) (ds:List Nat),e=.returned (.tuple #[.slice (some ⟨b,o,none⟩) ds.length cp,v])∧b<w'.heap.size∧ds.length≤cp∧Dig ds∧Trimmed ds∧val ds=n∧Digs w' b o ds∧Below w.heap.size w w'
theorem RetDigits2.mk {w w':World} {b o k n:Nat} {v:Value} {ds:List Nat} (hb:b<w'.heap.size) (hd:Dig ds) (ht:Tail0 ds k) (hv:val ds=n) (hD:Digs w' b o ds) (hB:Below w.heap.size w w'):RetDigits2 w n v (.returned (.tuple #[.slice (some ⟨b,o,none⟩) k k,v])) w':=by
 have hl:(ds.take k).length=k:=by rw [List.length_take];exact Nat.min_eq_left ht.1
 refine ⟨b,o,k,ds.take k,by rw [hl],hb,by omega,hd.take k,ht.trimmed,by rw [ht.val,hv],fun j hj=>?_,hB⟩
 rw [List.getElem?_take_of_lt (by omega)]
 exact hD j (by rw [hl] at hj;have:=ht.1;omega)
theorem divideWord_calls (nx d b o cp:Nat) (xs:List Nat) (w:World) (hd:0<d) (hd1:d<B64) (hx:Digs w b o xs) (hb:b<w.heap.size) (dx:Dig xs) (hsz:xs.length≤549755813888) (hnx:xs.length=nx) :
  Calls Tryz.prog 163 #[.slice (some ⟨b,o,none⟩) nx cp,.int .u64 (d:Int)] w (RetDigits2 w (val xs / d) (.int .u64 ((val xs % d:Nat):Int))):=by
 subst hnx
 have hmk:=makeN_run xs.length (by omega)
 have hcp:=copyN_run 3 (allocZ w xs.length) w.heap.size 0 xs.length xs.length b o cp _ xs (holdsL_allocZ w xs.length) (hx.below (below_allocZ w _) hb) (by simp) (by omega)
 have hZ:=holdsL_allocZ w xs.length
 have e1:(List.replicate xs.length 0).drop xs.length=([]:List Nat):=by rw [List.drop_replicate,Nat.sub_self];rfl
 have HH:Hid (HoldsL (putL (allocZ w xs.length) 0 w.heap.size 0 xs) w.heap.size 0 xs):=holdsL_putL _ _ _ _ _ _ hZ (by simp)
 have HZ:=hid hZ
 have HDD:=hid hd
 have HD1:=hid hd1
 rw [e1,List.append_nil] at hcp
 clear e1 hZ hx hd hd1
 go_enter Tryz.func163,Tryz.ntmps163
 go_wp2_with fail
 refine (split_calls _ d w.heap.size 0 _ xs _ HDD.out HD1.out HH.out dx (by omega) rfl).mono ?_
 rintro e w' ⟨ds,r,q,rfl,rfl,hl,hdg,hr,hv⟩
 rw [putL_putL _ _ _ _ _ _ _ hl,Nat.zero_add]
 have hq:Hid (val xs / d=val ds∧val xs % d=r):=by
  have:=HDD.out
  constructor
  ·rw [hv,Nat.mul_comm,Nat.mul_add_div this,Nat.div_eq_of_lt hr,Nat.add_zero]
  ·rw [hv,Nat.mul_comm,Nat.mul_add_mod,Nat.mod_eq_of_lt hr]
 have HD:Hid (HoldsL (putL (allocZ w xs.length) q w.heap.size 0 ds) w.heap.size 0 ds):=holdsL_putL _ _ _ _ _ _ HZ.out (by simpa using hl)
 have HL1:=hid hl
 clear hl hv hr hcp hmk
 go_wp2_with fail
 refine (trim_callsN _ w.heap.size 0 _ ds _ HD.out.digs (by rw [HL1.out];omega) (by rw [HL1.out];exact Nat.le_refl _) HL1.out).mono ?_
 rintro e w' ⟨k,rfl,ht,rfl⟩
 have HT:=hid ht
 clear ht
 go_wp2
 go_ret2
 rw [hq.out.1,hq.out.2]
 exact RetDigits2.mk (by simp [size_allocZ]) hdg HT.out rfl HD.out.digs ((below_allocZ w _).trans (below_putL _ _ _ _ _ (Nat.le_refl _)))
end
section
theorem guess_ok (B M high middle low by_ next r1 r2 digit:Nat) (hB:2≤B) (hm:middle<B) (hl:low<B) (hn:next<B) (hb:B≤2*by_)
  (h1:r1<M) (h2:r2<M)
  (hP:(high*B*B+middle*B+low)*M+r1<((by_*B+next)*M+r2)*B)
  (hd1:high<by_→digit=(high*B*B+middle*B+low) / (by_*B+next)) (hd2:by_≤high→digit=B - 1) :
  (high*B*B+middle*B+low)*M+r1<(digit+1)*((by_*B+next)*M+r2) ∧
   digit*((by_*B+next)*M+r2)≤(high*B*B+middle*B+low)*M+r1+((by_*B+next)*M+r2)∧digit<B:=by
 have hby:1≤by_:=by omega
 have hvB:B≤by_*B+next:=by
  have:=Nat.mul_le_mul_right B hby
  omega
 rcases Nat.lt_or_ge high by_ with hlt | hge
 ·have hd:=hd1 hlt
  generalize hu:high*B*B+middle*B+low=u at *
  generalize hv:by_*B+next=v at *
  have hv0:0<v:=by omega
  have e1:u<(digit+1)*v:=by rw [hd];have:=Nat.lt_div_mul_add (a:=u) hv0;rw [Nat.add_mul];omega
  have e2:digit*v≤u:=by rw [hd];exact Nat.div_mul_le_self u v
  have hdB:digit<B:=by
   rw [hd,Nat.div_lt_iff_lt_mul hv0]
   have q1:(high+1)*(B*B)≤by_*(B*B):=Nat.mul_le_mul_right _ hlt
   have q2:middle*B+low<B*B:=by
    have:=Nat.mul_le_mul_right B (show middle+1≤B from hm)
    rw [Nat.add_mul] at this;omega
   have q3:high*B*B=high*(B*B):=Nat.mul_assoc _ _ _
   have q4:by_*B*B=by_*(B*B):=Nat.mul_assoc _ _ _
   have q5:B*v=by_*B*B+B*next:=by rw [← hv];grind
   rw [Nat.add_mul] at q1
   omega
  refine ⟨?_,?_,hdB⟩
  ·have a1:(u+1)*M≤((digit+1)*v)*M:=Nat.mul_le_mul_right _ e1
   have a2:(digit+1)*(v*M+r2)=((digit+1)*v)*M+(digit+1)*r2:=by grind
   rw [a2]
   rw [Nat.add_mul] at a1
   omega
  ·have a1:(digit*v)*M≤u*M:=Nat.mul_le_mul_right _ e2
   have a2:digit*r2≤v*M:=Nat.mul_le_mul (by omega) (by omega)
   have a3:digit*(v*M+r2)=(digit*v)*M+digit*r2:=by grind
   omega
 ·have hd:=hd2 hge
  refine ⟨?_,?_,by omega⟩
  ·have:digit+1=B:=by omega
   rw [this,Nat.mul_comm B];exact hP
  ·obtain ⟨C,rfl⟩:∃ C,B=C+2:=⟨B - 2,by omega⟩
   have hd':digit=C+1:=by omega
   subst hd'
   have a1:C*(by_*(C+2)+next+1)≤by_*(C+2)*(C+2):=by
    have t1:C*(by_*(C+2)+next+1)≤C*(by_*(C+2)+(C+2)):=Nat.mul_le_mul_left _ (by omega)
    have t2:by_*(C+2)*(C+2)=C*(by_*(C+2))+2*by_*(C+2):=by grind
    have t3:C*(by_*(C+2)+(C+2))=C*(by_*(C+2))+C*(C+2):=by grind
    have t4:C*(C+2)≤2*by_*(C+2):=Nat.mul_le_mul_right _ (by omega)
    omega
   have a2:by_*(C+2)*(C+2)≤high*(C+2)*(C+2):=Nat.mul_le_mul_right _ (Nat.mul_le_mul_right _ hge)
   have a3:(C*(by_*(C+2)+next+1))*M≤(high*(C+2)*(C+2))*M:=Nat.mul_le_mul_right _ (Nat.le_trans a1 a2)
   have a4:C*((by_*(C+2)+next)*M+r2)≤(C*(by_*(C+2)+next+1))*M:=by
    have:C*r2≤C*M:=Nat.mul_le_mul_left _ (by omega)
    have e:(C*(by_*(C+2)+next+1))*M=C*((by_*(C+2)+next)*M)+C*M:=by grind
    have e':C*((by_*(C+2)+next)*M+r2)=C*((by_*(C+2)+next)*M)+C*r2:=by grind
    omega
   have a5:(high*(C+2)*(C+2)+middle*(C+2)+low)*M=(high*(C+2)*(C+2))*M+(middle*(C+2)+low)*M:=by grind
   have a6:(C+1)*((by_*(C+2)+next)*M+r2)=C*((by_*(C+2)+next)*M+r2)+((by_*(C+2)+next)*M+r2):=by grind
   omega
end
section
def guessD (high middle low by_ next:Nat):Nat:=if high<by_ then (high*B64*B64+middle*B64+low) / (by_*B64+next) else B64 - 1
structure Dv (X V n M:Nat) (lf qs:List Nat) (k:Nat):Prop where
 ll:lf.length=M+n
 lq:qs.length=M
 dl:Dig lf
 dq:Dig qs
 kM:k≤M
 eq:val lf+V*(B64 ^ k*val (qs.drop k))=X
 lt:val (lf.drop k)<V
def partOf (lf:List Nat) (m n:Nat):List Nat:=(lf.drop m).take (n+1)
theorem val_zero_of {xs:List Nat} {n:Nat} (h:val xs<B64 ^ n) (hn:n≤xs.length):val (xs.drop n)=0:=by
 have:=val_split xs n hn
 rcases Nat.eq_zero_or_pos (val (xs.drop n)) with h0 | h0
 ·exact h0
 ·have:B64 ^ n*1≤B64 ^ n*val (xs.drop n):=Nat.mul_le_mul_left _ h0
  omega
theorem digit_lt {B x v V:Nat} (hx:x<B) (hv:v<V):x+B*v<V*B:=by
 have h2:B*(v+1)≤B*V:=Nat.mul_le_mul_left _ hv
 rw [Nat.mul_add] at h2
 rw [Nat.mul_comm V]
 omega
theorem Dv.part {X V n M m:Nat} {lf qs:List Nat} (h:Dv X V n M lf qs (m+1)) (hV:V<B64 ^ n) :
  (partOf lf m n).length=n+1∧Dig (partOf lf m n)∧val (lf.drop m)=val (partOf lf m n)∧val (lf.drop (m+(n+1)))=0∧val (partOf lf m n)<V*B64:=by
 have hl:=h.ll
 have hk:=h.kM
 have h0:val ((lf.drop (m+1)).drop n)=0:=val_zero_of (Nat.lt_trans h.lt hV) (by rw [List.length_drop];omega)
 rw [List.drop_drop,show m+1+n=m+(n+1) by omega] at h0
 have h1:val (lf.drop m)=val (partOf lf m n):=by
  have h5:=val_split (lf.drop m) (n+1) (by rw [List.length_drop];omega)
  rw [List.drop_drop,h0,Nat.mul_zero,Nat.add_zero] at h5
  exact h5
 refine ⟨by rw [partOf,List.length_take,List.length_drop];omega,(h.dl.drop m).take _,h1,h0,?_⟩
 have h6:=val_drop lf m (by omega)
 rw [← h1,h6]
 exact digit_lt (h.dl.getD m) h.lt
theorem top_three {xs:List Nat} {n:Nat} (hl:xs.length=n+1) (hn:2≤n):val xs=(xs[n]?.getD 0*B64*B64+xs[n - 1]?.getD 0*B64+xs[n - 2]?.getD 0)*B64 ^ (n - 2)+val (xs.take (n - 2)):=by
 rw [val_split xs (n - 2) (by omega),val_drop xs (n - 2) (by omega),val_drop xs (n - 2+1) (by omega),val_drop xs (n - 2+1+1) (by omega),show n - 2+1+1=n by omega,show n - 2+1=n - 1 by omega,List.drop_of_length_le (by omega),val_nil]
 generalize xs[n]?.getD 0=a
 generalize xs[n - 1]?.getD 0=b
 generalize xs[n - 2]?.getD 0=c
 generalize B64 ^ (n - 2)=P
 generalize B64=B
 grind
theorem top_two {xs:List Nat} {n:Nat} (hl:xs.length=n) (hn:2≤n):val xs=(xs[n - 1]?.getD 0*B64+xs[n - 2]?.getD 0)*B64 ^ (n - 2)+val (xs.take (n - 2)):=by
 rw [val_split xs (n - 2) (by omega),val_drop xs (n - 2) (by omega),val_drop xs (n - 2+1) (by omega),show n - 2+1=n - 1 by omega,List.drop_of_length_le (by omega),val_nil]
 generalize xs[n - 1]?.getD 0=b
 generalize xs[n - 2]?.getD 0=c
 generalize B64 ^ (n - 2)=P
 generalize B64=B
 grind
theorem guess_part {ps bs:List Nat} {n:Nat} (hp:ps.length=n+1) (hb:bs.length=n) (hn:2≤n) (dp:Dig ps) (db:Dig bs) (hhalf:B64≤2*bs[n - 1]?.getD 0) (hlt:val ps<val bs*B64) :
  val ps<(guessD (ps[n]?.getD 0) (ps[n - 1]?.getD 0) (ps[n - 2]?.getD 0) (bs[n - 1]?.getD 0) (bs[n - 2]?.getD 0)+1)*val bs ∧
   guessD (ps[n]?.getD 0) (ps[n - 1]?.getD 0) (ps[n - 2]?.getD 0) (bs[n - 1]?.getD 0) (bs[n - 2]?.getD 0)*val bs≤val ps+val bs ∧
   guessD (ps[n]?.getD 0) (ps[n - 1]?.getD 0) (ps[n - 2]?.getD 0) (bs[n - 1]?.getD 0) (bs[n - 2]?.getD 0)<B64:=by
 have r1:=val_lt (dp.take (n - 2))
 have r2:=val_lt (db.take (n - 2))
 rw [List.length_take,Nat.min_eq_left (by omega)] at r1 r2
 have e1:=top_three hp hn
 have e2:=top_two hb hn
 have m1:=dp.getD (n - 1)
 have m2:=dp.getD (n - 2)
 have m3:=db.getD (n - 2)
 rw [e1,e2] at hlt ⊢
 exact guess_ok B64 (B64 ^ (n - 2)) _ _ _ _ _ _ _ _ (by decide) m1 m2 m3 hhalf r1 r2 hlt (fun h=>by unfold guessD;rw [if_pos h]) (fun h=>by unfold guessD;rw [if_neg (by omega)])
theorem lt_aux {T K y:Nat} (h:T<K):T+K*y<K*(y+1):=by rw [Nat.mul_add];omega
theorem lt_ne {K r v P:Nat} (h:K*1≤K*r) (hv:v<K):¬ P+K*r=v+0:=by omega
theorem top_fits {s y:Nat} (hs:s≤63) (h:y*2 ^ s<B64):(y+1)*2 ^ s≤B64:=by
 have e:2 ^ s*2 ^ (64 - s)=B64:=by rw [← Nat.pow_add,show s+(64 - s)=64 by omega];rfl
 rw [Nat.mul_comm] at e
 rw [← e] at h ⊢
 exact Nat.mul_le_mul_right _ (Nat.lt_of_mul_lt_mul_right h)
theorem digit_ok {P V d c h R K:Nat} (hV:V<K) (e:R+d*V+h*K=P+c*K) (h1:P<(d+1)*V) (hc:c≤h):c=h∧R+d*V=P∧R<V:=by
 rw [Nat.add_mul] at h1
 have hh:h=c:=by
  rcases Nat.lt_or_ge c h with h2 | h2
  ·have:(c+1)*K≤h*K:=Nat.mul_le_mul_right _ h2
   rw [Nat.add_mul] at this
   omega
  ·omega
 subst hh
 exact ⟨rfl,by omega,by omega⟩
theorem digit_pos {P V d c h R K:Nat} (hR:R<K) (e:R+d*V+h*K=P+c*K) (hc:h<c):1≤d:=by
 rcases Nat.eq_zero_or_pos d with h0 | h0
 ·subst h0
  have:(h+1)*K≤c*K:=Nat.mul_le_mul_right _ hc
  rw [Nat.add_mul] at this
  omega
 ·exact h0
theorem digit_less {P V d c h R K E c2:Nat} (hR:R<K) (hE:E<K) (e:R+d*V+h*K=P+c*K) (e2:E+c2*K=R+V) (h2:d*V≤P+V) (hc:h<c) (hc2:c2≤1) :
  1≤d∧c2≤c∧c - c2=h∧E+(d - 1)*V=P∧E<V:=by
 have hd:1≤d:=by
  rcases Nat.eq_zero_or_pos d with h0 | h0
  ·subst h0
   have:(h+1)*K≤c*K:=Nat.mul_le_mul_right _ hc
   rw [Nat.add_mul] at this
   omega
  ·exact h0
 obtain ⟨f,rfl⟩:∃ f,d=f+1:=⟨d - 1,by omega⟩
 rw [Nat.add_sub_cancel]
 rw [Nat.add_mul] at e h2
 have h3:P<f*V+V:=by
  have:(h+1)*K≤c*K:=Nat.mul_le_mul_right _ hc
  rw [Nat.add_mul] at this
  omega
 have h4:E+f*V+h*K+c2*K=P+c*K:=by omega
 have hcc:h+c2=c:=by
  rcases Nat.lt_trichotomy (h+c2) c with h5 | h5 | h5
  ·have:(h+c2+1)*K≤c*K:=Nat.mul_le_mul_right _ h5
   rw [Nat.add_mul,Nat.add_mul] at this
   omega
  ·exact h5
  ·have:(c+1)*K≤(h+c2)*K:=Nat.mul_le_mul_right _ h5
   rw [Nat.add_mul,Nat.add_mul] at this
   omega
 subst hcc
 rw [Nat.add_mul] at h4
 exact ⟨hd,by omega,by omega,by omega,by omega⟩
theorem step_eq (T S R V d B Q:Nat):T+S*R+V*(S*(d+B*Q))=T+S*(R+d*V)+V*(S*B*Q):=by grind
theorem Dv.step {X V n M m d:Nat} {lf qs ps:List Nat} (h:Dv X V n M lf qs (m+1)) (hV:V<B64 ^ n) (hp:ps.length=n+1) (dp:Dig ps) (hd:d<B64) (e:val ps+d*V=val (partOf lf m n)) (hlt:val ps<V) :
  Dv X V n M (lf.take m ++ ps ++ lf.drop (m+ps.length)) (qs.set m d) m:=by
 obtain ⟨p1,p2,p3,p4,p5⟩:=h.part hV
 have hl:=h.ll
 have hk:=h.kM
 have hq:=h.lq
 have ht:(lf.take m).length=m:=by rw [List.length_take];omega
 have e1:val (lf.take m ++ ps ++ lf.drop (m+ps.length))=val (lf.take m)+B64 ^ m*val ps:=by
  rw [hp,List.append_assoc,val_append,val_append,p4,ht,Nat.mul_zero,Nat.add_zero]
 refine ⟨by simp;omega,by rw [List.length_set,hq],((h.dl.take m).append dp).append (h.dl.drop _),h.dq.set _ hd,by omega,?_,?_⟩
 ·rw [e1,val_drop (qs.set m d) m (by rw [List.length_set];omega),drop_set_succ,List.getElem?_set_self (by omega)]
  have e2:=h.eq
  rw [val_split lf m (by omega),p3,← e,Nat.pow_succ] at e2
  simp only [Option.getD_some]
  rw [← e2]
  exact step_eq _ _ _ _ _ _ _
 ·rw [List.append_assoc,List.drop_append,ht,Nat.sub_self,List.drop_zero,List.drop_of_length_le (by omega),List.nil_append,val_append,hp,p4,Nat.mul_zero,Nat.add_zero]
  exact hlt
theorem Dv.last {X V n M:Nat} {lf qs:List Nat} (h:Dv X V n M lf qs 0):val lf+V*val qs=X∧val lf<V:=by
 have h1:=h.eq
 have h2:=h.lt
 simp at h1 h2
 exact ⟨h1,h2⟩
theorem Dv.start {X V n M:Nat} {lf:List Nat} (hl:lf.length=M+n) (dl:Dig lf) (hX:val lf=X) (h:X<V*B64 ^ M):Dv X V n M lf (List.replicate M 0) M:=by
 refine ⟨hl,by simp,dl,fun d hd=>by rw [List.eq_of_mem_replicate hd];exact B64_pos,Nat.le_refl _,?_,?_⟩
 ·rw [List.drop_of_length_le (by simp),val_nil];simpa using hX
 ·have:=val_split lf M (by omega)
  rcases Nat.lt_or_ge (val (lf.drop M)) V with h1 | h1
  ·exact h1
  ·have h2:B64 ^ M*V≤B64 ^ M*val (lf.drop M):=Nat.mul_le_mul_left _ h1
   rw [Nat.mul_comm V] at h
   omega
theorem unshift {x y T q r:Nat} (hT:0<T) (e:r+y*T*q=x*T) (h:r<y*T):q=x / y∧r / T=x % y:=by
 have hy:0<y:=by
  rcases Nat.eq_zero_or_pos y with h0 | h0
  ·subst h0;simp at h
  ·exact h0
 have hd:x / y=q:=by
  rw [← Nat.mul_div_mul_right x y hT,← e,Nat.add_comm,Nat.mul_add_div (Nat.mul_pos hy hT),Nat.div_eq_of_lt h,Nat.add_zero]
 have hm:(x % y)*T=r:=by
  rw [← Nat.mul_mod_mul_right,← e,Nat.add_comm,Nat.mul_add_mod,Nat.mod_eq_of_lt h]
 exact ⟨hd.symm,by rw [← hm,Nat.mul_div_cancel _ hT]⟩
end
end Go.Proofs.YtmijlcldmefggaaGreatDoor
