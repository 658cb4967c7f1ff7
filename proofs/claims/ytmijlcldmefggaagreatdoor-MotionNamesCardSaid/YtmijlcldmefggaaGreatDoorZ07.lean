/- What the proof rests on, part 7. -/
import Derived.Test.YtmijlcldmefggaaGreatDoorZ06
import Derived.Test.YtmijlcldmefggaaGreatDoorZ02
namespace Go.Proofs.YtmijlcldmefggaaGreatDoor
set_option maxRecDepth 100000
set_option maxHeartbeats 80000000
section
open Go.RowKit Go.Sort
theorem sliceHi_run (b o n cp h:Nat) (hh:h≤cp) (w:World) :
  (Instr.slice 26 (.slice (some ⟨b,o,none⟩) n cp) none (some (.int .i64 (h:Int))) none).run Tryz.prog w=.ok (.slice (some ⟨b,o,none⟩) h cp) w:=by
 rw [run_slice_h w 26 (some ⟨b,o,none⟩) n cp (by kernel_rfl) .i64 h (by omega) (by omega)]
 simp only [Int.toNat_natCast]
 rw [show (sizeOf (Tryz.prog.elem 26)).run Tryz.prog w=.ok 1 w from by kernel_rfl]
 simp only [Result.andThen,sliced,Nat.sub_zero]
 split
 ·rename_i h0
  subst h0
  simp
 ·rw [Option.map_some,addr_add];rfl
def RetDiff (w:World) (b o cp n v:Nat) (e:Ending) (w':World):Prop:=
 ∃ (k q:Nat) (ds:List Nat),e=.returned (.slice (some ⟨b,o,none⟩) k cp)∧w' = putL w q b o ds∧ds.length=n∧Dig ds∧Tail0 ds k∧val ds=v
theorem difference_calls (n0 b o cp nx b1 o1 cp1 p ny b2 o2 cp2 q n:Nat) (zs xs ys:List Nat) (w:World) (hz:HoldsL w b o zs) (hx:Digs w b1 o1 xs) (hy:Digs w b2 o2 ys) (hn1:b1≠b∨o1+xs.length≤o∨o+zs.length≤o1) (hn2:b2≠b∨o2+ys.length≤o∨o+zs.length≤o2)
  (dz:Dig zs) (dx:Dig xs) (dy:Dig ys) (hp:p<B64) (hq:q<B64) (hsz:n≤1099511627776) (hcp:n≤cp) (hlx:xs.length=nx) (hly:ys.length=ny) (hlz:zs.length=n) (hxn:nx≤n) (hyn:ny≤n) (hmax:n=nx∨n=ny) (hle:val ys*q≤val xs*p) (hlt:val xs*p - val ys*q<B64 ^ n) :
  Calls Tryz.prog 215 #[.slice (some ⟨b,o,none⟩) n0 cp,.slice (some ⟨b1,o1,none⟩) nx cp1,.int .u64 (p:Int),.slice (some ⟨b2,o2,none⟩) ny cp2,.int .u64 (q:Int)] w (RetDiff w b o cp n (val xs*p - val ys*q)):=by
 have h1:=add64_run0
 have h2:=sub64_run0
 have hsl:=sliceHi_run b o n0 cp n hcp
 have HX:=hid (And.intro hx (And.intro dx (And.intro hlx hxn)))
 have HY:=hid (And.intro hy (And.intro dy (And.intro hly hyn)))
 have HZ:=hid (And.intro hz (And.intro dz hlz))
 have HP:=hid (And.intro hp hq)
 have HE:=hid (And.intro hle hlt)
 have hmx:max (nx:Int) (ny:Int)=(n:Int):=by omega
 clear hx dx hlx hy dy hly hz dz hlz hp hq hle hlt hmax
 go_enter Tryz.func215,Tryz.ntmps215
 go_wp2_with fail
 go_loopw [11,12,13,28] (fun cv bv tv iv wr=>∃ (k c bo t m:Nat) (dk:List Nat),iv=.int .i64 k∧cv=.int .u64 c∧bv=.int .u64 bo∧tv=.int .u64 t∧k≤n∧wr=putL w m b o dk∧Diff zs xs ys dk p q k c bo) (fun _ _ _ iv _=>n - (intOf iv).toNat)
 case atStart=>exact ⟨0,0,0,0,0,zs,rfl,rfl,rfl,rfl,by omega,(putL_self w b o zs HZ.out.1).symm,Diff.start xs ys p q HZ.out.2.1⟩
 case round =>
  obtain ⟨k,c,bo,t,m,dk,rfl,rfl,rfl,rfl,hk,hwr,hI⟩:=hrel
  have hdl:dk.length=n:=hI.1.len.trans HZ.out.2.2
  by_cases hlt:k<n
  ·have hc1:c<B64:=hI.2.1
   have hb1:bo<B64:=hI.2.2.1
   have dkx:Digs wr b1 o1 xs:=by rw [hwr];exact HX.out.1.putL (by have:=hdl;have:=HZ.out.2.2;omega)
   have dky:Digs wr b2 o2 ys:=by rw [hwr];exact HY.out.1.putL (by have:=hdl;have:=HZ.out.2.2;omega)
   have cz:∃ z:Nat,wr.cell? ⟨b,o+k,none⟩=some (.int .u64 (z:Int)):=⟨_,by rw [hwr];exact (holdsL_putL w m b o zs dk HZ.out.1 (by rw [hdl,HZ.out.2.2]) k (by omega)).1⟩
   obtain ⟨z,cz⟩:=cz
   have fx:wr.frozen? ⟨b,o+k,none⟩=false:=by
    have:=(HZ.out.1 k (by rw [HZ.out.2.2];omega)).2
    rw [hwr,frozen_putL,this]
   have atx:=hid (at_callsN nx b1 o1 cp1 k xs wr dkx HX.out.2.2.1)
   have aty:=hid (at_callsN ny b2 o2 cp2 k ys wr dky HY.out.2.2.1)
   have hx1:=HX.out.2.1.getD k
   have hy1:=HY.out.2.1.getD k
   have HS:=hid (fun (s c' b':Nat)=>hI.step (c':=c') (b':=b') (s:=s) (by rw [HZ.out.2.2];exact hlt))
   obtain ⟨x,hx⟩:∃ x,xs[k]?.getD 0=x:=⟨_,rfl⟩
   obtain ⟨y,hy⟩:∃ y,ys[k]?.getD 0=y:=⟨_,rfl⟩
   rw [hx] at atx hx1 HS
   rw [hy] at aty hy1 HS
   have hp:=HP.out.1
   have hq:=HP.out.2
   have a1:mulH x p+addC (mulL x p) c 0<B64:=by
    have:=mulH_le x p hx1 hp
    have:=addC_le (mulL x p) c 0 (mulL_lt x p) hc1 (by omega)
    omega
   have a2:mulH y q+addC (mulL y q) bo 0<B64:=by
    have:=mulH_le y q hy1 hq
    have:=addC_le (mulL y q) bo 0 (mulL_lt y q) hb1 (by omega)
    omega
   have s2:=add_spec (mulL x p) c 0
   have s4:=add_spec (mulL y q) bo 0
   have s5:=sub_spec (addS (mulL x p) c 0) (addS (mulL y q) bo 0) 0 (addS_lt _ _ _) (addS_lt _ _ _) (by omega)
   have s6:=subC_le (addS (mulL x p) c 0) (addS (mulL y q) bo 0) 0
   have s7:addS (mulL y q) bo 0=0→subC (addS (mulL x p) c 0) (addS (mulL y q) bo 0) 0=0:=fun h=>by rw [h];unfold subC;rw [if_neg (by omega)]
   rw [Nat.add_zero] at s2 s4 s5
   have a3:mulH y q+addC (mulL y q) bo 0+subC (addS (mulL x p) c 0) (addS (mulL y q) bo 0) 0<B64:=diff_borrow B64 y q bo _ _ _ _ _ hq hy1 hb1 (mul_spec y q) s4 s6 s7
   have HI:=hid (HS.out _ _ _ (subS_lt (addS (mulL x p) c 0) (addS (mulL y q) bo 0) 0) a1 a3 (diff_digit B64 x p y q c bo _ _ _ _ _ _ _ _ _ _ (mul_spec x p) s2 (mul_spec y q) s4 s5))
   have HXY:=hid (And.intro hx1 hy1)
   have HW:=hid hwr
   have HL:=hid hdl
   clear s2 s4 s5 s6 s7 HS hp hq hwr hI hdl hx hy dkx dky hx1 hy1 hc1 hb1
   unfold B64 at a1 a2 a3
   go_wp2_with fail
   refine atx.out.mono ?_
   rintro e w' ⟨rfl,rfl⟩
   go_wp2_with fail
   refine (Mul64_calls x p HXY.out.1 HP.out.1 _).mono ?_
   rintro e w' ⟨rfl,rfl⟩
   go_wp2_with fail
   refine aty.out.mono ?_
   rintro e w' ⟨rfl,rfl⟩
   go_wp2_with fail
   refine (Mul64_calls y q HXY.out.2 HP.out.2 _).mono ?_
   rintro e w' ⟨rfl,rfl⟩
   go_wp2_with fail
   go_roundw
   case rel =>
    refine ⟨k+1,_,_,_,m,_,by go_num,?_,?_,rfl,by omega,?_,HI.out⟩
    ·go_num
    ·go_num
    rw [HW.out,putL_set _ _ _ _ _ _ _ (by rw [HL.out];omega)]
   case measure=>simp [intOf];omega
  ·obtain rfl:k=n:=by omega
   have HV:=hid (hI.done HZ.out.2.2 (by rw [HX.out.2.2.1];exact hxn) (by rw [HY.out.2.2.1];exact hyn) HE.out.1 HE.out.2)
   have HD:=hid hI.1.dig
   have HW:=hid hwr
   have HL:=hid hdl
   have HH:Hid (Digs wr b o dk):=by
    show Digs wr b o dk
    rw [hwr]
    exact (holdsL_putL w m b o zs dk HZ.out.1 (by rw [hdl,HZ.out.2.2])).digs
   clear hI hwr hdl
   go_wp2_with fail
   refine (length_callsN k b o cp dk _ HH.out (by rw [HL.out];exact hsz) HL.out).mono ?_
   rintro e w' ⟨k2,rfl,ht,rfl⟩
   have hs2:=sliceHi_run b o k cp k2 (Nat.le_trans ht.1 (by rw [HL.out];exact hcp))
   have HT:=hid ht
   clear ht
   go_wp2_with fail
   go_ret
   exact ⟨k2,m,dk,rfl,HW.out,HL.out,HD.out,HT.out,HV.out⟩
end
section
open Go.RowKit Go.Sort
theorem and_one (x:Nat) (hx:x<B64):bits .and .u64 (x:Int) 1=((x % 2:Nat):Int):=by
 have:=bits_and_u64_nat x 1 (by unfold B64 at hx;exact hx) (by omega)
 rw [Nat.and_one_is_mod] at this
 exact this
def IsBits (n v:Nat):Prop:=(n=0→v=0)∧(0<n→1≤v∧2 ^ (v - 1)≤n∧n<2 ^ v)
theorem isBits_word (x:Nat) (hx:x<B64):IsBits x (Lib.bitLen x):=by
 refine ⟨fun h=>by subst h;rfl,fun h=>?_⟩
 unfold Lib.bitLen
 exact Lib.bitLenAux_bounds 64 x (by unfold B64 at hx;omega) (by omega)
theorem isBits_long (t m x L:Nat) (hx:0<x) (h:IsBits x L) (hm:m<B64 ^ t):IsBits (m+B64 ^ t*x) (t*64+L):=by
 obtain ⟨h1,h2,h3⟩:=h.2 hx
 have e:B64 ^ t=2 ^ (t*64):=by rw [show B64=2 ^ 64 from by decide,← Nat.pow_mul,Nat.mul_comm]
 rw [e] at hm ⊢
 have hp:0<2 ^ (t*64):=Nat.two_pow_pos _
 refine ⟨fun h0=>?_,fun _=>⟨by omega,?_,?_⟩⟩
 ·have:2 ^ (t*64)*1≤2 ^ (t*64)*x:=Nat.mul_le_mul_left _ hx
  omega
 ·rw [show t*64+L - 1=t*64+(L - 1) by omega,Nat.pow_add]
  exact Nat.le_trans (Nat.mul_le_mul_left _ h2) (Nat.le_add_left _ _)
 ·rw [Nat.pow_add]
  have:2 ^ (t*64)*(x+1)≤2 ^ (t*64)*2 ^ L:=Nat.mul_le_mul_left _ h3
  rw [Nat.mul_succ] at this
  omega
theorem Len64_calls (y:Nat) (hy:y<B64) (w:World):Calls Tryz.prog 278 #[.int .u64 (y:Int)] w fun e w'=>e=.returned (.int .i64 ((Lib.bitLen y:Nat):Int))∧w=w':=
 (Tryz.bits_Len64 y w (by omega) (by unfold B64 at hy;omega)).mono fun e w' ⟨h1,h2⟩=>⟨by rw [h1,Int.toNat_natCast],h2.symm⟩
theorem bits_word (x:Nat) (hx:x<B64) (w:World):Calls Tryz.prog 224 #[.agg #[.int .u64 (x:Int),.slice none 0 0]] w (RetI w (.int .i64 ((Lib.bitLen x:Nat):Int))):=by
 have HL:=hid (Len64_calls x hx)
 obtain ⟨L,hL⟩:∃ L,Lib.bitLen x=L:=⟨_,rfl⟩
 rw [hL] at HL ⊢
 clear hL hx
 go_enter Tryz.func224,Tryz.ntmps224
 go_wp2_with fail
 refine (HL.out _).mono ?_
 rintro e w' ⟨rfl,rfl⟩
 go_wp2_with fail
 go_ret
 exact ⟨rfl,(Below.refl _ _).alloc (Nat.le_refl _) _⟩
theorem bits_long (b o t k x L:Nat) (w:World) (hb:b<w.heap.size) (ht:1≤t) (hs:t≤17179869184) (cx:w.cell? ⟨b,o+t,none⟩=some (.int .u64 (x:Int))) (hx:x<B64) (hL:Lib.bitLen x=L) (hL1:L≤64):Calls Tryz.prog 224 #[.agg #[.int .u64 0,.slice (some ⟨b,o,none⟩) (t+1) k]] w (RetI w (.int .i64 ((t*64+L:Nat):Int))):=by
 have HL:=hid (Len64_calls x hx)
 rw [hL] at HL
 have hne:¬ w.heap.size=b:=by omega
 have ht0:0<(t:Int):=by omega
 clear hL hx
 go_enter Tryz.func224,Tryz.ntmps224
 go_wp2_with fail
 refine (HL.out _).mono ?_
 rintro e w' ⟨rfl,rfl⟩
 go_wp2_with fail
 go_ret
 exact ⟨by push_cast;rfl,(Below.refl _ _).alloc (Nat.le_refl _) _⟩
def RetBits (w:World) (n:Nat) (e:Ending) (w':World):Prop:=∃ v:Nat,e=.returned (.int .i64 (v:Int))∧IsBits n v∧Below w.heap.size w w'
theorem bits_calls (c d:Value) (n k:Nat) (w:World) (h:IsMag w c d n) (hk:k≤17179869184) (hn:n<B64 ^ k):Calls Tryz.prog 224 #[.agg #[c,d]] w (RetBits w n):=by
 rcases h with ⟨h0,rfl,rfl⟩ | ⟨b,o,m,xs,rfl,rfl,h3,h4,h5,h6,h7,h8,h9⟩
 ·refine (bits_word n h0 w).mono ?_
  rintro e w' ⟨rfl,hb⟩
  exact ⟨_,rfl,isBits_word n h0,hb⟩
 ·have hlen:=len_le h7 (by rw [h8];exact hn)
  obtain ⟨t,ht⟩:∃ t,xs.length=t+1:=⟨xs.length - 1,by omega⟩
  have hx:=h6.getD t
  have hbw:=isBits_word _ hx
  have hx0:0<xs[t]?.getD 0:=by
   have hne:xs≠[]:=by intro e;subst e;simp at h4
   have e:=h7 hne
   rw [List.getLast_eq_getElem] at e
   rw [List.getElem?_eq_getElem (by omega)]
   simp only [ht,Nat.add_sub_cancel] at e
   exact Nat.pos_of_ne_zero e
  have hL1:Lib.bitLen (xs[t]?.getD 0)≤64:=Lib.bitLen_le _ 64 (by omega) (by unfold B64 at hx;omega)
  have hc:=bits_long b o t m _ _ w h3 (by omega) (by omega) (h9 t (by omega)) hx rfl hL1
  rw [ht]
  refine hc.mono ?_
  rintro e w' ⟨rfl,hb⟩
  refine ⟨_,rfl,?_,hb⟩
  have hm:=val_lt (h6.take t)
  rw [List.length_take,Nat.min_eq_left (by omega)] at hm
  have:=isBits_long t _ _ _ hx0 hbw hm
  rw [← h8,val_split xs t (by omega)]
  have hd:xs.drop t=[xs[t]?.getD 0]:=by
   rw [List.drop_eq_getElem_cons (by omega),List.drop_of_length_le (by omega),List.getElem?_eq_getElem (by omega)]
   rfl
  rw [hd,show val [xs[t]?.getD 0]=xs[t]?.getD 0 by simp [val]]
  exact this
end
section
def sg (odd:Bool):Int:=if odd then -1 else 1
theorem sg_not (odd:Bool):sg (!odd) = - sg odd:=by cases odd <;> rfl
structure Lehm (a b x0 y0 x y fA fB tA tB nA nB:Nat) (odd:Bool):Prop where
 hx:(x:Int)=sg odd*((tB:Int)*y0 - tA*x0)
 hy:(y:Int)=sg odd*((nA:Int)*x0 - nB*y0)
 det:x*nB+y*tB=x0
 le1:nA≤nB
 le2:tA+nA≤tB+nB
 pos:1≤nB
 gcd:Int.gcd (sg odd*((tB:Int)*b - tA*a)) (sg odd*((nA:Int)*a - nB*b))=Nat.gcd a b
 top:(tB=0∧sg odd*((tB:Int)*b - tA*a)=a∧sg odd*((nA:Int)*a - nB*b)=b∧fB=0)∨(1≤tB∧sg odd*((tB:Int)*b - tA*a)≤b)
 out:fB≠0→0≤sg odd*((tB:Int)*b - tA*a)∧sg odd*((tB:Int)*b - tA*a)<sg odd*((fA:Int)*a - fB*b)∧sg odd*((fA:Int)*a - fB*b)≤b ∧
  Int.gcd (sg odd*((fA:Int)*a - fB*b)) (sg odd*((tB:Int)*b - tA*a))=Nat.gcd a b
theorem Lehm.start (a b x0 y0:Nat):Lehm a b x0 y0 x0 y0 0 0 1 0 0 1 true where
 hx:=by simp [sg]
 hy:=by simp [sg]
 det:=by simp
 le1:=by omega
 le2:=by omega
 pos:=by omega
 gcd:=by simp [sg,Int.gcd]
 top:=by left;simp [sg]
 out:=by intro h;exact absurd rfl h
theorem collins (K a' b' d p q:Int) (ha0:0≤a') (ha:a' < K) (hb0:0≤b') (hb:b' < K) (hq:0<q) (hp0:0≤p) (hpq:p≤q) (hd:q≤d) :
  0<d*K+(q*b' - p*a')∧0<d*K+(p*a' - q*b'):=by
 have hK:0<K:=by omega
 have t1:q*K≤d*K:=Int.mul_le_mul_of_nonneg_right hd (by omega)
 have t2:p*a'≤q*a':=Int.mul_le_mul_of_nonneg_right hpq ha0
 have t3:q*a' < q*K:=Int.mul_lt_mul_of_pos_left ha hq
 have t4:q*b' < q*K:=Int.mul_lt_mul_of_pos_left hb hq
 have t5:0≤q*b':=Int.mul_nonneg (by omega) hb0
 have t6:0≤p*a':=Int.mul_nonneg hp0 ha0
 constructor <;> omega
theorem Lehm.valid {a b x0 y0 x y fA fB tA tB nA nB:Nat} {odd:Bool} (h:Lehm a b x0 y0 x y fA fB tA tB nA nB odd) {K a' b':Nat}
  (ea:a=x0*K+a') (eb:b=y0*K+b') (ha:a' < K) (hb:b' < K) (c1:nB≤y) (c2:tB+nB≤x - y) :
  0<sg odd*((nA:Int)*a - nB*b)∧sg odd*((nA:Int)*a - nB*b)<sg odd*((tB:Int)*b - tA*a):=by
 have hx:=h.hx
 have hy:=h.hy
 have l1:=h.le1
 have l2:=h.le2
 have ps:=h.pos
 have hxy:y≤x:=by omega
 have k1:=collins K a' b' y nA nB (by omega) (by omega) (by omega) (by omega) (by omega) (by omega) (by omega) (by omega)
 have k2:=collins K a' b' ((x:Int) - y) ((tA:Int)+nA) ((tB:Int)+nB) (by omega) (by omega) (by omega) (by omega) (by omega) (by omega) (by omega) (by omega)
 have ea':(a:Int)=x0*K+a':=by rw [ea];simp
 have eb':(b:Int)=y0*K+b':=by rw [eb];simp
 generalize (a:Int)=A at *
 generalize (b:Int)=Bb at *
 subst ea' eb'
 rw [hx,hy] at k2
 rw [hy] at k1
 cases odd
 ·simp only [sg,Bool.false_eq_true,if_false,Int.one_mul] at *
  constructor
  ·have:=k1.2;grind
  ·have:=k2.1;grind
 ·simp only [sg,if_true] at *
  constructor
  ·have:=k1.1;grind
  ·have:=k2.2;grind
theorem Lehm.step {a b x0 y0 x y fA fB tA tB nA nB:Nat} {odd:Bool} (h:Lehm a b x0 y0 x y fA fB tA tB nA nB odd) {K a' b':Nat}
  (ea:a=x0*K+a') (eb:b=y0*K+b') (ha:a' < K) (hb:b' < K) (c1:nB≤y) (c2:tB+nB≤x - y) :
  Lehm a b x0 y0 y (x % y) tA tB nA nB (tA+x / y*nA) (tB+x / y*nB) (!odd):=by
 obtain ⟨v1,v2⟩:=h.valid ea eb ha hb c1 c2
 have hy0:1≤y:=by have:=h.pos;omega
 have hps:=h.pos
 have hq:1≤x / y:=by rw [Nat.le_div_iff_mul_le hy0];omega
 have em:x % y+x / y*y=x:=by rw [Nat.mul_comm];exact Nat.mod_add_div x y
 have hm:(x % y:Nat)=(x:Int) - (x / y:Nat)*y:=by
  have:((x % y+x / y*y:Nat):Int)=x:=by rw [em]
  push_cast at this ⊢
  omega
 generalize x / y=q at *
 generalize x % y=r at *
 have eN:sg (!odd)*(((tA+q*nA:Nat):Int)*a - ((tB+q*nB:Nat):Int)*b)=sg odd*((tB:Int)*b - tA*a) - q*(sg odd*((nA:Int)*a - nB*b)):=by
  rw [sg_not];push_cast;grind
 have eT:sg (!odd)*((nB:Int)*b - nA*a)=sg odd*((nA:Int)*a - nB*b):=by rw [sg_not];grind
 have eF:sg (!odd)*((tA:Int)*a - tB*b)=sg odd*((tB:Int)*b - tA*a):=by rw [sg_not];grind
 refine ⟨?_,?_,?_,?_,?_,?_,?_,?_,?_⟩
 ·rw [h.hy,sg_not];grind
 ·rw [hm,h.hx,h.hy,sg_not];push_cast;grind
 ·have:=h.det
  have e:y*(tB+q*nB)+r*nB=(r+q*y)*nB+y*tB:=by grind
  rw [e,em,this]
 ·have l1:=h.le1
  have l2:=h.le2
  obtain ⟨q',rfl⟩:∃ q',q=q' + 1:=⟨q - 1,by omega⟩
  have:q' * nA≤q' * nB:=Nat.mul_le_mul_left _ l1
  rw [Nat.add_mul,Nat.add_mul];omega
 ·have l1:=h.le1
  have l2:=h.le2
  obtain ⟨q',rfl⟩:∃ q',q=q' + 1:=⟨q - 1,by omega⟩
  have:q' * nA≤q' * nB:=Nat.mul_le_mul_left _ l1
  rw [Nat.add_mul,Nat.add_mul];omega
 ·have:=h.pos
  have:1≤q*nB:=Nat.mul_pos hq this
  omega
 ·rw [eT,eN]
  rw [Int.gcd_comm,show sg odd*((tB:Int)*b - tA*a) - q*(sg odd*((nA:Int)*a - nB*b))=sg odd*((tB:Int)*b - tA*a)+(-q:Int)*(sg odd*((nA:Int)*a - nB*b)) from by grind,Int.gcd_add_mul_right_left,h.gcd]
 ·right
  rw [eT]
  refine ⟨h.pos,?_⟩
  rcases h.top with ⟨_,_,e,_⟩ | ⟨_,e⟩
  ·omega
  ·omega
 ·intro hf
  rw [eT,eF]
  refine ⟨by omega,v2,?_,h.gcd⟩
  rcases h.top with ⟨e,_⟩ | ⟨_,e⟩
  ·exact absurd e hf
  ·exact e
end
section
theorem win_val (s n:Nat) (xs:List Nat) (hl:xs.length≤n+2) (dx:Dig xs) (hs:s≤63) (ht:xs[n+1]?.getD 0*2 ^ s<B64) :
  ∃ r,r<B64 ^ n*2 ^ (64 - s)∧val xs=shl2 s (xs[n+1]?.getD 0) (xs[n]?.getD 0)*(B64 ^ n*2 ^ (64 - s))+r:=by
 have hd:∀ j,val (xs.drop j)=xs[j]?.getD 0+B64*val (xs.drop (j+1)):=fun j=>by
  rcases Nat.lt_or_ge j xs.length with h | h
  ·rw [List.drop_eq_getElem_cons h,val_cons,List.getElem?_eq_getElem h];rfl
  ·rw [List.drop_of_length_le h,List.drop_of_length_le (by omega),List.getElem?_eq_none h];rfl
 have hsplit:val xs=val (xs.take n)+B64 ^ n*val (xs.drop n):=by
  rcases Nat.lt_or_ge n xs.length with h | h
  ·exact val_split xs n (by omega)
  ·rw [List.take_of_length_le h,List.drop_of_length_le h];simp [val]
 have hlow:val (xs.take n)<B64 ^ n:=by
  have h1:=val_lt (dx.take n)
  have h2:B64 ^ (xs.take n).length≤B64 ^ n:=Nat.pow_le_pow_right B64_pos (by rw [List.length_take];omega)
  omega
 have h2:val (xs.drop (n+2))=0:=by rw [List.drop_of_length_le (by omega)];rfl
 rw [hd n,hd (n+1),h2,Nat.mul_zero,Nat.add_zero] at hsplit
 have hx1:xs[n+1]?.getD 0 % 2 ^ (64 - s)=xs[n+1]?.getD 0:=by
  refine Nat.mod_eq_of_lt ?_
  rw [← two_split s (by omega),Nat.mul_comm (2 ^ s)] at ht
  exact Nat.lt_of_mul_lt_mul_right ht
 unfold shl2
 rw [hx1]
 have e64:=two_split s (by omega)
 generalize xs[n+1]?.getD 0=x1 at *
 generalize xs[n]?.getD 0=x0 at *
 generalize B64 ^ n=P at *
 generalize 2 ^ s=S at *
 have hT:0<2 ^ (64 - s):=Nat.two_pow_pos _
 generalize 2 ^ (64 - s)=T at *
 have hm:=Nat.mod_add_div x0 T
 have hr:=Nat.mod_lt x0 hT
 generalize x0 / T=q at *
 generalize x0 % T=r0 at *
 refine ⟨val (xs.take n)+P*r0,?_,?_⟩
 ·have:P*(r0+1)≤P*T:=Nat.mul_le_mul_left _ hr
  rw [Nat.mul_succ] at this
  omega
 ·rw [hsplit,← hm,← e64];grind
theorem win_le {x y K a b ra rb:Nat} (ha:a=x*K+ra) (hb:b=y*K+rb) (hra:ra<K) (h:b≤a):y≤x:=by
 rcases Nat.lt_or_ge x y with h1 | h1
 ·have:(x+1)*K≤y*K:=Nat.mul_le_mul_right _ h1
  rw [Nat.succ_mul] at this
  omega
 ·exact h1
theorem sub_word (x z:Nat) (h:z≤x) (hx:x<B64):IntKind.u64.wrap ((x:Int) - z)=((x - z:Nat):Int):=by
 rw [show (x:Int) - z=((x - z:Nat):Int) by omega,wrap_nat,Nat.mod_eq_of_lt (by omega)]
theorem add_word (x z:Nat) (h:x+z<B64):IntKind.u64.wrap ((x:Int)+z)=((x+z:Nat):Int):=by
 rw [show (x:Int)+z=((x+z:Nat):Int) by omega,wrap_nat,Nat.mod_eq_of_lt h]
theorem mul_word (x z:Nat) (h:x*z<B64):IntKind.u64.wrap ((x:Int)*z)=((x*z:Nat):Int):=by
 rw [show (x:Int)*z=((x*z:Nat):Int) by push_cast;rfl,wrap_nat,Nat.mod_eq_of_lt h]
structure Sim (a b x0 y0 x y fA fB tA tB nA nB:Nat) (odd:Bool):Prop where
 leh:Lehm a b x0 y0 x y fA fB tA tB nA nB odd
 le:y≤x
 hx:x<B64
 b1:fA<B64
 b2:fB<B64
 b3:tA<B64
 b4:tB<B64
 b5:nA<B64
 b6:nB<B64
theorem Sim.start (a b x0 y0:Nat) (h:y0≤x0) (hx:x0<B64):Sim a b x0 y0 x0 y0 0 0 1 0 0 1 true:=
 ⟨Lehm.start a b x0 y0,h,hx,B64_pos,B64_pos,by decide,B64_pos,B64_pos,by decide⟩
theorem Sim.sum {a b x0 y0 x y fA fB tA tB nA nB:Nat} {odd:Bool} (h:Sim a b x0 y0 x y fA fB tA tB nA nB odd) (hx0:x0<B64) (c1:nB≤y):tB+nB<B64:=by
 have d:=h.leh.det
 have p:=h.leh.pos
 have hy:1≤y:=by omega
 have hx:1≤x:=by have:=h.le;omega
 have t1:nB≤x*nB:=Nat.le_mul_of_pos_left _ hx
 have t2:tB≤y*tB:=Nat.le_mul_of_pos_left _ hy
 omega
theorem Sim.step {a b x0 y0 x y fA fB tA tB nA nB:Nat} {odd:Bool} (h:Sim a b x0 y0 x y fA fB tA tB nA nB odd) {K a' b':Nat}
  (ea:a=x0*K+a') (eb:b=y0*K+b') (ha:a' < K) (hb:b' < K) (hx0:x0<B64) (c1:nB≤y) (c2:tB+nB≤x - y) :
  Sim a b x0 y0 y (x % y) tA tB nA nB (tA+x / y*nA) (tB+x / y*nB) (!odd)∧x / y*nA<B64∧x / y*nB<B64∧x / y<B64:=by
 have hs:=h.leh.step ea eb ha hb c1 c2
 have p:=h.leh.pos
 have hy:1≤y:=by omega
 have d:=hs.det
 have l1:=hs.le1
 have t1:tB+x / y*nB≤y*(tB+x / y*nB):=Nat.le_mul_of_pos_left _ hy
 have hlt:x % y<y:=Nat.mod_lt _ hy
 have hxy:x / y≤x:=Nat.div_le_self _ _
 have:=h.hx
 have:=h.le
 refine ⟨⟨hs,by omega,by omega,h.b3,h.b4,h.b5,h.b6,by omega,by omega⟩,by omega,by omega,by omega⟩
def SimOut (a b fA fB tA tB:Nat) (odd:Bool):Prop:=
 fA<B64∧fB<B64∧tA<B64∧tB<B64∧(fB≠0→∃ a2 b2:Nat,b2<a2∧a2≤b∧Nat.gcd a2 b2=Nat.gcd a b ∧
  (if odd then fA*a≤fB*b∧a2=fB*b - fA*a∧tB*b≤tA*a∧b2=tA*a - tB*b
  else fB*b≤fA*a∧a2=fA*a - fB*b∧tA*a≤tB*b∧b2=tB*b - tA*a))
theorem Sim.out {a b x0 y0 x y fA fB tA tB nA nB:Nat} {odd:Bool} (h:Sim a b x0 y0 x y fA fB tA tB nA nB odd):SimOut a b fA fB tA tB odd:=by
 refine ⟨h.b1,h.b2,h.b3,h.b4,fun hf=>?_⟩
 obtain ⟨o1,o2,o3,o4⟩:=h.leh.out hf
 simp only [← Int.natCast_mul] at o1 o2 o3 o4
 generalize fA*a=p at *
 generalize fB*b=q at *
 generalize tA*a=r at *
 generalize tB*b=s at *
 cases odd
 ·simp only [sg,Bool.false_eq_true,if_false,Int.one_mul] at *
  refine ⟨p - q,s - r,by omega,by omega,?_,by omega,rfl,by omega,rfl⟩
  rw [← o4,show (p:Int) - q=((p - q:Nat):Int) by omega,show (s:Int) - r=((s - r:Nat):Int) by omega]
  rfl
 ·simp only [sg,if_true] at *
  refine ⟨q - p,r - s,by omega,by omega,?_,by omega,rfl,by omega,rfl⟩
  rw [← o4,show -1*((p:Int) - q)=((q - p:Nat):Int) by omega,show -1*((s:Int) - r)=((r - s:Nat):Int) by omega]
  rfl
end
section
open Go.RowKit Go.Sort
def RetSim (w:World) (a b:Nat) (e:Ending) (w':World):Prop:=
 ∃ (fA fB tA tB:Nat) (od:Bool),e=.returned (.agg #[.int .u64 fA,.int .u64 fB,.int .u64 tA,.int .u64 tB,.bool od])∧SimOut a b fA fB tA tB od∧Below w.heap.size w w'
def B5 (W:World) (b:Nat) (v0 v1 v2 v3 v4:Value):Prop:=
 C5 W b v0 v1 v2 v3 v4∧W.frozen? ⟨b,0,none⟩=false∧W.frozen? ⟨b,1,none⟩=false∧W.frozen? ⟨b,2,none⟩=false∧W.frozen? ⟨b,3,none⟩=false∧W.frozen? ⟨b,4,none⟩=false
abbrev set5 (W:World) (b:Nat) (u0 u1 u2 u3 u4:Value):World:=
 ((((W.setCell ⟨b,0,none⟩ u0).setCell ⟨b,1,none⟩ u1).setCell ⟨b,2,none⟩ u2).setCell ⟨b,3,none⟩ u3).setCell ⟨b,4,none⟩ u4
theorem B5.same {W:World} {b:Nat} {v0 v1 v2 v3 v4:Value} (h:B5 W b v0 v1 v2 v3 v4) (u0 u1 u2 u3 u4:Value):B5 (set5 W b u0 u1 u2 u3 u4) b u0 u1 u2 u3 u4:=by
 obtain ⟨⟨h0,h1,h2,h3,h4⟩,f0,f1,f2,f3,f4⟩:=h
 refine ⟨⟨?_,?_,?_,?_,?_⟩,?_,?_,?_,?_,?_⟩
 ·rw [World.cell?_setCell_other _ _ _ _ (by simp),World.cell?_setCell_other _ _ _ _ (by simp),World.cell?_setCell_other _ _ _ _ (by simp),World.cell?_setCell_other _ _ _ _ (by simp)]
  exact World.cell?_setCell_same _ _ _ h0
 ·rw [World.cell?_setCell_other _ _ _ _ (by simp),World.cell?_setCell_other _ _ _ _ (by simp),World.cell?_setCell_other _ _ _ _ (by simp)]
  refine World.cell?_setCell_same (u:=v1) _ _ _ ?_
  rw [World.cell?_setCell_other _ _ _ _ (by simp)];exact h1
 ·rw [World.cell?_setCell_other _ _ _ _ (by simp),World.cell?_setCell_other _ _ _ _ (by simp)]
  refine World.cell?_setCell_same (u:=v2) _ _ _ ?_
  rw [World.cell?_setCell_other _ _ _ _ (by simp),World.cell?_setCell_other _ _ _ _ (by simp)];exact h2
 ·rw [World.cell?_setCell_other _ _ _ _ (by simp)]
  refine World.cell?_setCell_same (u:=v3) _ _ _ ?_
  rw [World.cell?_setCell_other _ _ _ _ (by simp),World.cell?_setCell_other _ _ _ _ (by simp),World.cell?_setCell_other _ _ _ _ (by simp)];exact h3
 ·refine World.cell?_setCell_same (u:=v4) _ _ _ ?_
  rw [World.cell?_setCell_other _ _ _ _ (by simp),World.cell?_setCell_other _ _ _ _ (by simp),World.cell?_setCell_other _ _ _ _ (by simp),World.cell?_setCell_other _ _ _ _ (by simp)];exact h4
 all_goals simp only [World.frozen?_setCell];assumption
theorem B5.far {W:World} {b b':Nat} {v0 v1 v2 v3 v4:Value} (h:B5 W b v0 v1 v2 v3 v4) (hne:b'≠b) (u0 u1 u2 u3 u4:Value):B5 (set5 W b' u0 u1 u2 u3 u4) b v0 v1 v2 v3 v4:=by
 obtain ⟨⟨h0,h1,h2,h3,h4⟩,f0,f1,f2,f3,f4⟩:=h
 refine ⟨⟨?_,?_,?_,?_,?_⟩,?_,?_,?_,?_,?_⟩
 all_goals first | (simp only [World.frozen?_setCell];assumption) | (rw [World.cell?_setCell_far _ _ _ _ hne,World.cell?_setCell_far _ _ _ _ hne,World.cell?_setCell_far _ _ _ _ hne,World.cell?_setCell_far _ _ _ _ hne,World.cell?_setCell_far _ _ _ _ hne];assumption)
def SimW (w wr:World) (fA fB tA tB:Nat) (od:Bool):Prop:=
 Below w.heap.size w wr∧w.heap.size+1<wr.heap.size∧B5 wr (w.heap.size+1) (.int .u64 fA) (.int .u64 fB) (.int .u64 tA) (.int .u64 tB) (.bool od)∧∃ v0 v1 v2 v3 v4,B5 wr w.heap.size v0 v1 v2 v3 v4
theorem SimW.drewN {w wr:World} {fA fB tA tB:Nat} {od:Bool} (h:SimW w wr fA fB tA tB od) (q:Nat):SimW w (wr.drewN q) fA fB tA tB od:=
 ⟨h.1.trans (below_drewN _ q),h.2.1,h.2.2.1,h.2.2.2⟩
theorem SimW.store {w wr:World} {fA fB tA tB:Nat} {od:Bool} (h:SimW w wr fA fB tA tB od) (fA' fB' tA' tB':Nat) (od':Bool) :
  SimW w (set5 wr (w.heap.size+1) (.int .u64 fA') (.int .u64 fB') (.int .u64 tA') (.int .u64 tB') (.bool od')) fA' fB' tA' tB' od':=by
 obtain ⟨h1,h2,h3,v0,v1,v2,v3,v4,h4⟩:=h
 refine ⟨((((h1.setCell (by simp) _).setCell (by simp) _).setCell (by simp) _).setCell (by simp) _).setCell (by simp) _,by simpa using h2,h3.same _ _ _ _ _,v0,v1,v2,v3,v4,h4.far (by omega) _ _ _ _ _⟩
theorem SimW.start (w:World) (q:Nat) (t:TypeId) (v0 v1 v2 v3 v4:Value) (fA fB tA tB:Nat) (od:Bool) :
  SimW w (((w.alloc (.cells #[v0,v1,v2,v3,v4] t)).drewN q).alloc (.cells #[.int .u64 fA,.int .u64 fB,.int .u64 tA,.int .u64 tB,.bool od] t)) fA fB tA tB od:=by
 refine ⟨(((Below.refl _ _).alloc (Nat.le_refl _) _).trans (below_drewN _ q)).alloc (by simp) _,by simp,?_,v0,v1,v2,v3,v4,?_⟩
 ·refine ⟨⟨?_,?_,?_,?_,?_⟩,?_,?_,?_,?_,?_⟩ <;> go_simp
 ·refine ⟨⟨?_,?_,?_,?_,?_⟩,?_,?_,?_,?_,?_⟩ <;> go_simp
def SimR (a b x0 y0:Nat) (w:World) (xv yv nav nbv:Value) (wr:World):Prop:=
 ∃ (x y fA fB tA tB nA nB:Nat) (od:Bool),xv=.int .u64 x∧yv=.int .u64 y∧nav=.int .u64 nA∧nbv=.int .u64 nB∧Sim a b x0 y0 x y fA fB tA tB nA nB od∧SimW w wr fA fB tA tB od
theorem top_shift (x:Nat) (hx:x<B64) (h0:x≠0):∃ s,Lib.bitLen x+s=64∧s≤63∧x*2 ^ s<B64:=by
 have h1:=(Lib.bitLenAux_bounds 64 x (by unfold B64 at hx;omega) (by omega))
 have h2:Lib.bitLen x≤64:=Lib.bitLen_le x 64 (by omega) (by unfold B64 at hx;omega)
 refine ⟨64 - Lib.bitLen x,by omega,?_,?_⟩
 ·have:=h1.1
  unfold Lib.bitLen
  omega
 ·have h3:x<2 ^ Lib.bitLen x:=h1.2.2
  have h4:2 ^ Lib.bitLen x*2 ^ (64 - Lib.bitLen x)=B64:=two_split _ h2
  rw [← h4]
  exact Nat.mul_lt_mul_of_pos_right h3 (Nat.two_pow_pos _)
theorem simulate_calls (D ba oa ca bb ob cb n lb:Nat) (xs ys:List Nat) (w:World) (hD:D<w.heap.size)
  (c0:w.cell? ⟨D,0,none⟩=some (.slice (some ⟨ba,oa,none⟩) (n+2) ca)) (c1:w.cell? ⟨D,1,none⟩=some (.slice (some ⟨bb,ob,none⟩) lb cb))
  (hba:ba<w.heap.size) (hbb:bb<w.heap.size) (hx:Digs w ba oa xs) (hy:Digs w bb ob ys) (dx:Dig xs) (dy:Dig ys) (tx:Trimmed xs) (hlx:xs.length=n+2) (hly:ys.length=lb) (hlb:lb≤n+2) (hn:n≤549755813888) (hle:val ys≤val xs) :
  Calls Tryz.prog 158 #[.pointer (some ⟨D,0,none⟩)] w (RetSim w (val xs) (val ys)):=by
 have hx1:xs[n+1]?.getD 0<B64:=dx.getD _
 have hx0:xs[n+1]?.getD 0≠0:=by
  have hne:xs≠[]:=by intro e;subst e;simp at hlx
  have e:=tx hne
  rw [List.getLast_eq_getElem] at e
  rw [List.getElem?_eq_getElem (by omega)]
  simp only [hlx] at e
  exact e
 obtain ⟨s,hs,hs63,htop⟩:=top_shift _ hx1 hx0
 have HLZ:=hid (LZ_calls _ s hx1 hs)
 have hcx:=hx (n+1) (by omega)
 obtain ⟨ra,hra,ea⟩:=win_val s n xs (by omega) dx hs63 htop
 have htopy:ys[n+1]?.getD 0*2 ^ s<B64:=by
  refine Nat.lt_of_le_of_lt (Nat.mul_le_mul_right _ ?_) htop
  rcases Nat.lt_or_ge (n+1) ys.length with h | h
  ·have h1:=val_split xs (n+1) (by omega)
   have h2:=val_split ys (n+1) (by omega)
   have h3:val (xs.drop (n+1))=xs[n+1]?.getD 0:=by
    rw [List.drop_eq_getElem_cons (by omega),List.drop_of_length_le (by omega),List.getElem?_eq_getElem (by omega)]
    simp [val]
   have h4:val (ys.drop (n+1))=ys[n+1]?.getD 0:=by
    rw [List.drop_eq_getElem_cons (by omega),List.drop_of_length_le (by omega),List.getElem?_eq_getElem (by omega)]
    simp [val]
   rw [h3] at h1
   rw [h4] at h2
   have h5:=val_lt (dx.take (n+1))
   rw [List.length_take,Nat.min_eq_left (by omega)] at h5
   refine win_le (K:=B64 ^ (n+1)) (ra:=val (xs.take (n+1))) (rb:=val (ys.take (n+1))) (a:=val xs) (b:=val ys) ?_ ?_ h5 hle
   ·rw [h1,Nat.mul_comm];omega
   ·rw [h2,Nat.mul_comm];omega
  ·rw [List.getElem?_eq_none h];exact Nat.zero_le _
 obtain ⟨rb,hrb,eb⟩:=win_val s n ys (by omega) dy hs63 htopy
 have hle2:=win_le ea eb hra hle
 have hx0l:=shl2_lt s (xs[n+1]?.getD 0) (xs[n]?.getD 0) (by omega) (dx.getD n)
 have HW:=hid (fun (w':World) (hb:Below w.heap.size w w')=>And.intro (window_calls (n+2) n s ba oa ca xs w' (hx.below hb hba) dx hs63 (by omega) hlx) (window_calls lb n s bb ob cb ys w' (hy.below hb hbb) dy hs63 (by omega) hly))
 rw [Nat.mul_comm] at hra hrb
 obtain ⟨x1,e1⟩:∃ x1,xs[n+1]?.getD 0=x1:=⟨_,rfl⟩
 obtain ⟨x0,e0⟩:∃ x0,shl2 s (xs[n+1]?.getD 0) (xs[n]?.getD 0)=x0:=⟨_,rfl⟩
 obtain ⟨y0,ey0⟩:∃ y0,shl2 s (ys[n+1]?.getD 0) (ys[n]?.getD 0)=y0:=⟨_,rfl⟩
 rw [e0,ey0,show ((n+2:Nat):Int)=(n:Int)+2 by omega] at HW
 rw [e0] at ea hle2 hx0l
 rw [ey0] at eb hle2
 rw [e1] at HLZ hcx
 have HI:=hid (fun (x y fA fB tA tB nA nB:Nat) (odd:Bool) (h:Sim (val xs) (val ys) x0 y0 x y fA fB tA tB nA nB odd) (c1:nB≤y) (c2:tB+nB≤x - y)=>And.intro (h.step ea eb (by rw [Nat.mul_comm];exact hra) (by rw [Nat.mul_comm];exact hrb) hx0l c1 c2) (h.sum hx0l c1))
 have HX0:=hid hx0l
 have HS:=hid (Sim.start (val xs) (val ys) x0 y0 hle2 hx0l)
 obtain ⟨a,hva⟩:∃ a,val xs=a:=⟨_,rfl⟩
 obtain ⟨b,hvb⟩:∃ b,val ys=b:=⟨_,rfl⟩
 rw [hva,hvb] at HI HS ⊢
 have hne:¬ w.heap.size=D:=by omega
 have hne2:¬ w.heap.size=ba:=by omega
 clear ea eb hra hrb hva hvb e0 ey0 e1 hx0 hx1 hs hx hy dx dy tx hlx hly hle hle2 hx0l htop htopy
 go_enter Tryz.func158,Tryz.ntmps158
 go_upto_region 3 with (go_at_call 213;refine (HLZ.out _).mono ?_;rintro e w' ⟨rfl,rfl⟩)
 have HB:Below w.heap.size w (w.alloc (.cells #[Value.int IntKind.u64 0,Value.int IntKind.u64 0,Value.int IntKind.u64 0,Value.int IntKind.u64 0,Value.bool false] 240)):=(Below.refl _ _).alloc (Nat.le_refl _) _
 have HW1:=hid (fun (q:Nat)=>(HW.out _ (HB.trans (below_drewN _ q))).1)
 have HW2:=hid (fun (q:Nat)=>(HW.out _ (HB.trans (below_drewN _ q))).2)
 go_quiet ((first | (go_at_call_of 214 oa;exact Calls.quiet_of_same ((HW1.out _).mono fun _ _ ⟨h1,h2⟩=>⟨h1,h2.symm⟩)) | (go_at_call_of 214 ob;exact Calls.quiet_of_same ((HW2.out _).mono fun _ _ ⟨h1,h2⟩=>⟨h1,h2.symm⟩))))
 clear HW1 HW2 HW HB
 go_wp2_with fail
 go_loopw [5,6,8,9] (fun xv yv nav nbv wr=>SimR a b x0 y0 w xv yv nav nbv wr) (fun xv yv _ _ _=>(intOf yv).toNat)
 case atStart=>exact ⟨x0,y0,0,0,1,0,0,1,true,rfl,rfl,rfl,rfl,HS.out,SimW.start w nq 240 _ _ _ _ _ 0 0 1 0 true⟩
 case round =>
  obtain ⟨x,y,fA,fB,tA,tB,nA,nB,od,rfl,rfl,rfl,rfl,hI,hW⟩:=hrel
  obtain ⟨hWB,hWs,⟨⟨k0,k1,k2,k3,k4⟩,f0,f1,f2,f3,f4⟩,v0,v1,v2,v3,v4,⟨⟨r0,r1,r2,r3,r4⟩,g0,g1,g2,g3,g4⟩⟩:=id hW
  have HW:=hid hW
  have HSim:=hid hI
  have HEnd:=hid (B5.same (W:=wr) (b:=w.heap.size) ⟨⟨r0,r1,r2,r3,r4⟩,g0,g1,g2,g3,g4⟩ (.int .u64 fA) (.int .u64 fB) (.int .u64 tA) (.int .u64 tB) (.bool od)).1
  have HBE:Hid (Below w.heap.size w (set5 wr w.heap.size (.int .u64 fA) (.int .u64 fB) (.int .u64 tA) (.int .u64 tB) (.bool od))):=hid (((((hWB.setCell (by simp) _).setCell (by simp) _).setCell (by simp) _).setCell (by simp) _).setCell (by simp) _)
  by_cases t1:nB≤y
  ·have hw1:=sub_word x y hI.le hI.hx
   have hsum:=hI.sum HX0.out t1
   have hw2:=add_word tB nB hsum
   have hy0:((y:Int) == 0)=false:=by rw [beq_eq_false_iff_ne];have:=hI.leh.pos;omega
   have hy1:¬ (y:Int)=0:=by have:=hI.leh.pos;omega
   by_cases t2:tB+nB≤x - y
   ·obtain ⟨⟨hN,q1,q2,q3⟩,-⟩:=HI.out x y fA fB tA tB nA nB od hI t1 t2
    have hq:=wrap_div x y hI.hx
    have hr:((x:Int) % (y:Int))=((x % y:Nat):Int):=by push_cast;rfl
    have hlt:x % y<y:=Nat.mod_lt x (by omega)
    have hm1:=mul_word (x / y) nA q1
    have hm2:=mul_word (x / y) nB q2
    have ha1:=add_word tA (x / y*nA) hN.b5
    have ha2:=add_word tB (x / y*nB) hN.b6
    have HStore:=hid (HW.out.store tA tB nA nB (!od))
    obtain ⟨s0,s1,s2,s3,s4⟩:=HStore.out.2.2.1.1
    obtain ⟨d,hd⟩:∃ d,x - y=d:=⟨_,rfl⟩
    obtain ⟨S,hS⟩:∃ S,tB+nB=S:=⟨_,rfl⟩
    obtain ⟨q,hq'⟩:∃ q,x / y=q:=⟨_,rfl⟩
    obtain ⟨r,hr'⟩:∃ r,x % y=r:=⟨_,rfl⟩
    rw [hq'] at hN hq hm1 hm2 ha1 ha2
    rw [hr'] at hN hr hlt
    obtain ⟨m1,hm1'⟩:∃ m,q*nA=m:=⟨_,rfl⟩
    obtain ⟨m2,hm2'⟩:∃ m,q*nB=m:=⟨_,rfl⟩
    rw [hm1'] at hN hm1 ha1
    rw [hm2'] at hN hm2 ha2
    obtain ⟨n1,hn1⟩:∃ m,tA+m1=m:=⟨_,rfl⟩
    obtain ⟨n2,hn2⟩:∃ m,tB+m2=m:=⟨_,rfl⟩
    rw [hn1] at hN ha1
    rw [hn2] at hN ha2
    rw [hd] at hw1 t2
    rw [hS] at hw2 t2
    have HN:=hid hN
    clear hN hI hW hWB HI q1 q2 q3 hd hS hq' hr' hm1' hm2' hn1 hn2 HEnd HBE r0 r1 r2 r3 r4 g0 g1 g2 g3 g4 hsum HSim
    go_wp2_with (go_big_skip)
    go_quiet (fail)
    go_wp2_with (go_big_skip)
    go_quiet (fail)
    go_wp2_with (go_big_skip)
    clear s0 s1 s2 s3 s4
    go_roundw
    case rel=>exact ⟨y,r,tA,tB,nA,nB,n1,n2,!od,rfl,by rw [hr],rfl,rfl,HN.out,(((HW.out.drewN _).store tA tB nA nB (!od)).drewN _)⟩
    case measure=>simp [intOf];omega
   ·obtain ⟨d,hd⟩:∃ d,x - y=d:=⟨_,rfl⟩
    obtain ⟨S,hS⟩:∃ S,tB+nB=S:=⟨_,rfl⟩
    rw [hd] at hw1 t2
    rw [hS] at hw2 t2
    clear hI hW hWB HI hd hS hsum
    obtain ⟨z0,z1,z2,z3,z4⟩:=HEnd.out
    go_wp2_with fail
    exact bodyPost_ret (v:=.agg #[.int .u64 fA,.int .u64 fB,.int .u64 tA,.int .u64 tB,.bool od]) (by simp [results,Tryz.results158,go_sem,z0,z1,z2,z3,z4]) rfl ⟨fA,fB,tA,tB,od,rfl,HSim.out.out,HBE.out⟩
  ·clear hI hW hWB HI
   obtain ⟨z0,z1,z2,z3,z4⟩:=HEnd.out
   go_wp2_with fail
   exact bodyPost_ret (v:=.agg #[.int .u64 fA,.int .u64 fB,.int .u64 tA,.int .u64 tB,.bool od]) (by simp [results,Tryz.results158,go_sem,z0,z1,z2,z3,z4]) rfl ⟨fA,fB,tA,tB,od,rfl,HSim.out.out,HBE.out⟩
end
section
open Go.RowKit Go.Sort
structure Reg (W:World) (R o n:Nat) (z:List Nat):Prop where
 h:HoldsL W R o z
 l:z.length=n
 d:Dig z
theorem Reg.below {W W':World} {B R o n:Nat} {z:List Nat} (h:Reg W R o n z) (hb:Below B W W') (hR:R<B):Reg W' R o n z:=⟨h.h.below hb hR,h.l,h.d⟩
theorem Reg.set {W:World} {R o n:Nat} {z:List Nat} (h:Reg W R o n z) (a:Addr) (v:Value) (ha:a.block≠R):Reg (W.setCell a v) R o n z:=by
 refine ⟨fun j hj=>?_,h.l,h.d⟩
 obtain ⟨h1,h2⟩:=h.h j hj
 rw [World.frozen?_setCell]
 exact ⟨by rw [World.cell?_setCell_far _ _ _ _ (by simpa using ha)];exact h1,h2⟩
theorem Reg.put {W:World} {R o o' n q:Nat} {z ds:List Nat} (h:Reg W R o n z) (hs:o+n≤o'∨o' + n≤o) (hl:ds.length≤n):Reg (putL W q R o' ds) R o n z:=
 ⟨h.h.putL (by right;have:=h.l;omega),h.l,h.d⟩
theorem Reg.own {W:World} {R o n q:Nat} {z ds:List Nat} (h:Reg W R o n z) (hl:ds.length≤n) (hd:Dig ds):Reg (putL W q R o ds) R o n (ds ++ z.drop ds.length):=by
 have e:=putL_mid W q R o 0 z ds h.h (by have:=h.l;omega)
 simp only [Nat.add_zero,List.take_zero,List.nil_append,Nat.zero_add] at e
 rw [e]
 have hl':(ds ++ z.drop ds.length).length=z.length:=by rw [List.length_append,List.length_drop];have:=h.l;omega
 exact ⟨holdsL_putL _ _ _ _ _ _ h.h hl',by rw [hl',h.l],hd.append (h.d.drop _)⟩
structure Desc (B0:Nat) (W:World) (D R n oa ob oc oe la lb lc le:Nat) (za zb zc ze:List Nat):Prop where
 lD:B0≤D
 lR:B0≤R
 uD:D<W.heap.size
 uR:R<W.heap.size
 ne:D≠R
 c0:W.cell? ⟨D,0,none⟩=some (.slice (some ⟨R,oa,none⟩) la n)
 c1:W.cell? ⟨D,1,none⟩=some (.slice (some ⟨R,ob,none⟩) lb n)
 c2:W.cell? ⟨D,2,none⟩=some (.slice (some ⟨R,oc,none⟩) lc n)
 c3:W.cell? ⟨D,3,none⟩=some (.slice (some ⟨R,oe,none⟩) le n)
 f0:W.frozen? ⟨D,0,none⟩=false
 f1:W.frozen? ⟨D,1,none⟩=false
 f2:W.frozen? ⟨D,2,none⟩=false
 f3:W.frozen? ⟨D,3,none⟩=false
 ra:Reg W R oa n za
 rb:Reg W R ob n zb
 rc:Reg W R oc n zc
 re:Reg W R oe n ze
 sab:oa+n≤ob∨ob+n≤oa
 sac:oa+n≤oc∨oc+n≤oa
 sae:oa+n≤oe∨oe+n≤oa
 sbc:ob+n≤oc∨oc+n≤ob
 sbe:ob+n≤oe∨oe+n≤ob
 sce:oc+n≤oe∨oe+n≤oc
theorem Desc.below {B0:Nat} {W W':World} {D R n oa ob oc oe la lb lc le:Nat} {za zb zc ze:List Nat} (h:Desc B0 W D R n oa ob oc oe la lb lc le za zb zc ze) (hb:Below W.heap.size W W') :
  Desc B0 W' D R n oa ob oc oe la lb lc le za zb zc ze where
 lD:=h.lD
 lR:=h.lR
 uD:=Nat.lt_of_lt_of_le h.uD hb.size
 uR:=Nat.lt_of_lt_of_le h.uR hb.size
 ne:=h.ne
 c0:=(hb.cell (p:=⟨D,0,none⟩) h.uD).trans h.c0
 c1:=(hb.cell (p:=⟨D,1,none⟩) h.uD).trans h.c1
 c2:=(hb.cell (p:=⟨D,2,none⟩) h.uD).trans h.c2
 c3:=(hb.cell (p:=⟨D,3,none⟩) h.uD).trans h.c3
 f0:=(hb.frozen (p:=⟨D,0,none⟩) h.uD).trans h.f0
 f1:=(hb.frozen (p:=⟨D,1,none⟩) h.uD).trans h.f1
 f2:=(hb.frozen (p:=⟨D,2,none⟩) h.uD).trans h.f2
 f3:=(hb.frozen (p:=⟨D,3,none⟩) h.uD).trans h.f3
 ra:=h.ra.below hb h.uR
 rb:=h.rb.below hb h.uR
 rc:=h.rc.below hb h.uR
 re:=h.re.below hb h.uR
 sab:=h.sab
 sac:=h.sac
 sae:=h.sae
 sbc:=h.sbc
 sbe:=h.sbe
 sce:=h.sce
theorem Desc.drewN {B0:Nat} {W:World} {D R n oa ob oc oe la lb lc le:Nat} {za zb zc ze:List Nat} (h:Desc B0 W D R n oa ob oc oe la lb lc le za zb zc ze) (q:Nat) :
  Desc B0 (W.drewN q) D R n oa ob oc oe la lb lc le za zb zc ze:=h.below (below_drewN _ _)
theorem Desc.putC {B0:Nat} {W:World} {D R n oa ob oc oe la lb lc le q:Nat} {za zb zc ze ds:List Nat} (h:Desc B0 W D R n oa ob oc oe la lb lc le za zb zc ze) (hl:ds.length≤n) (hd:Dig ds) :
  Desc B0 (putL W q R oc ds) D R n oa ob oc oe la lb lc le za zb (ds ++ zc.drop ds.length) ze where
 lD:=h.lD
 lR:=h.lR
 uD:=by rw [size_putL];exact h.uD
 uR:=by rw [size_putL];exact h.uR
 ne:=h.ne
 c0:=by rw [cell_putL_other _ _ _ _ _ _ (.inl h.ne)];exact h.c0
 c1:=by rw [cell_putL_other _ _ _ _ _ _ (.inl h.ne)];exact h.c1
 c2:=by rw [cell_putL_other _ _ _ _ _ _ (.inl h.ne)];exact h.c2
 c3:=by rw [cell_putL_other _ _ _ _ _ _ (.inl h.ne)];exact h.c3
 f0:=by rw [frozen_putL];exact h.f0
 f1:=by rw [frozen_putL];exact h.f1
 f2:=by rw [frozen_putL];exact h.f2
 f3:=by rw [frozen_putL];exact h.f3
 ra:=h.ra.put h.sac hl
 rb:=h.rb.put h.sbc hl
 rc:=h.rc.own hl hd
 re:=h.re.put (Or.symm h.sce) hl
 sab:=h.sab
 sac:=h.sac
 sae:=h.sae
 sbc:=h.sbc
 sbe:=h.sbe
 sce:=h.sce
theorem Desc.putE {B0:Nat} {W:World} {D R n oa ob oc oe la lb lc le q:Nat} {za zb zc ze ds:List Nat} (h:Desc B0 W D R n oa ob oc oe la lb lc le za zb zc ze) (hl:ds.length≤n) (hd:Dig ds) :
  Desc B0 (putL W q R oe ds) D R n oa ob oc oe la lb lc le za zb zc (ds ++ ze.drop ds.length) where
 lD:=h.lD
 lR:=h.lR
 uD:=by rw [size_putL];exact h.uD
 uR:=by rw [size_putL];exact h.uR
 ne:=h.ne
 c0:=by rw [cell_putL_other _ _ _ _ _ _ (.inl h.ne)];exact h.c0
 c1:=by rw [cell_putL_other _ _ _ _ _ _ (.inl h.ne)];exact h.c1
 c2:=by rw [cell_putL_other _ _ _ _ _ _ (.inl h.ne)];exact h.c2
 c3:=by rw [cell_putL_other _ _ _ _ _ _ (.inl h.ne)];exact h.c3
 f0:=by rw [frozen_putL];exact h.f0
 f1:=by rw [frozen_putL];exact h.f1
 f2:=by rw [frozen_putL];exact h.f2
 f3:=by rw [frozen_putL];exact h.f3
 ra:=h.ra.put h.sae hl
 rb:=h.rb.put h.sbe hl
 rc:=h.rc.put h.sce hl
 re:=h.re.own hl hd
 sab:=h.sab
 sac:=h.sac
 sae:=h.sae
 sbc:=h.sbc
 sbe:=h.sbe
 sce:=h.sce
theorem cell_same {W:World} {b k:Nat} {v u:Value} (h:W.cell? ⟨b,k,none⟩=some v):(W.setCell ⟨b,k,none⟩ u).cell? ⟨b,k,none⟩=some u:=World.cell?_setCell_same _ _ _ h
theorem cell_next {W:World} {b k j:Nat} {v u:Value} (h:W.cell? ⟨b,k,none⟩=some v) (hne:j≠k):(W.setCell ⟨b,j,none⟩ u).cell? ⟨b,k,none⟩=some v:=by
 rw [World.cell?_setCell_other _ _ _ _ (fun e=>hne (by simpa using congrArg Addr.off e))];exact h
theorem Desc.turn3 {B0:Nat} {W:World} {D R n oa ob oc oe la lb lc le lc':Nat} {za zb zc ze:List Nat} (h:Desc B0 W D R n oa ob oc oe la lb lc le za zb zc ze) :
  Desc B0 (((W.setCell ⟨D,0,none⟩ (.slice (some ⟨R,ob,none⟩) lb n)).setCell ⟨D,1,none⟩ (.slice (some ⟨R,oc,none⟩) lc' n)).setCell ⟨D,2,none⟩ (.slice (some ⟨R,oa,none⟩) la n)) D R n ob oc oa oe lb lc' la le zb zc za ze where
 lD:=h.lD
 lR:=h.lR
 uD:=by simpa using h.uD
 uR:=by simpa using h.uR
 ne:=h.ne
 c0:=cell_next (cell_next (cell_same h.c0) (by omega)) (by omega)
 c1:=cell_next (cell_same (cell_next h.c1 (by omega))) (by omega)
 c2:=cell_same (cell_next (cell_next h.c2 (by omega)) (by omega))
 c3:=cell_next (cell_next (cell_next h.c3 (by omega)) (by omega)) (by omega)
 f0:=by simp only [World.frozen?_setCell];exact h.f0
 f1:=by simp only [World.frozen?_setCell];exact h.f1
 f2:=by simp only [World.frozen?_setCell];exact h.f2
 f3:=by simp only [World.frozen?_setCell];exact h.f3
 ra:=((h.rb.set _ _ h.ne).set _ _ h.ne).set _ _ h.ne
 rb:=((h.rc.set _ _ h.ne).set _ _ h.ne).set _ _ h.ne
 rc:=((h.ra.set _ _ h.ne).set _ _ h.ne).set _ _ h.ne
 re:=((h.re.set _ _ h.ne).set _ _ h.ne).set _ _ h.ne
 sab:=h.sbc
 sac:=Or.symm h.sab
 sae:=h.sbe
 sbc:=Or.symm h.sac
 sbe:=h.sce
 sce:=h.sae
theorem Desc.turn4 {B0:Nat} {W:World} {D R n oa ob oc oe la lb lc le lc' le':Nat} {za zb zc ze:List Nat} (h:Desc B0 W D R n oa ob oc oe la lb lc le za zb zc ze) :
  Desc B0 ((((W.setCell ⟨D,0,none⟩ (.slice (some ⟨R,oc,none⟩) lc' n)).setCell ⟨D,1,none⟩ (.slice (some ⟨R,oe,none⟩) le' n)).setCell ⟨D,2,none⟩ (.slice (some ⟨R,oa,none⟩) la n)).setCell ⟨D,3,none⟩ (.slice (some ⟨R,ob,none⟩) lb n)) D R n oc oe oa ob lc' le' la lb zc ze za zb where
 lD:=h.lD
 lR:=h.lR
 uD:=by simpa using h.uD
 uR:=by simpa using h.uR
 ne:=h.ne
 c0:=cell_next (cell_next (cell_next (cell_same h.c0) (by omega)) (by omega)) (by omega)
 c1:=cell_next (cell_next (cell_same (cell_next h.c1 (by omega))) (by omega)) (by omega)
 c2:=cell_next (cell_same (cell_next (cell_next h.c2 (by omega)) (by omega))) (by omega)
 c3:=cell_same (cell_next (cell_next (cell_next h.c3 (by omega)) (by omega)) (by omega))
 f0:=by simp only [World.frozen?_setCell];exact h.f0
 f1:=by simp only [World.frozen?_setCell];exact h.f1
 f2:=by simp only [World.frozen?_setCell];exact h.f2
 f3:=by simp only [World.frozen?_setCell];exact h.f3
 ra:=(((h.rc.set _ _ h.ne).set _ _ h.ne).set _ _ h.ne).set _ _ h.ne
 rb:=(((h.re.set _ _ h.ne).set _ _ h.ne).set _ _ h.ne).set _ _ h.ne
 rc:=(((h.ra.set _ _ h.ne).set _ _ h.ne).set _ _ h.ne).set _ _ h.ne
 re:=(((h.rb.set _ _ h.ne).set _ _ h.ne).set _ _ h.ne).set _ _ h.ne
 sab:=h.sce
 sac:=Or.symm h.sac
 sae:=Or.symm h.sbc
 sbc:=Or.symm h.sae
 sbe:=Or.symm h.sbe
 sce:=h.sab
structure Nums (n la lb:Nat) (za zb:List Nat) (A B:Nat):Prop where
 hla:la≤n
 hlb:lb≤n
 ta:Trimmed (za.take la)
 tb:Trimmed (zb.take lb)
 va:val (za.take la)=A
 vb:val (zb.take lb)=B
 le:B≤A
theorem Nums.len {n la lb A B:Nat} {za zb:List Nat} (h:Nums n la lb za zb A B) (ha:za.length=n) (hb:zb.length=n) (da:Dig za):lb≤la:=by
 rcases Nat.lt_or_ge la lb with h1 | h1
 ·have:=val_lt_of_length (xs:=za.take la) (ys:=zb.take lb) (da.take la) h.tb (by rw [List.length_take,List.length_take];have:=h.hla;have:=h.hlb;omega)
  rw [h.va,h.vb] at this
  have:=h.le
  omega
 ·exact h1
def RetDesc (B0:Nat) (w:World) (D R n A B:Nat) (e:Ending) (w':World):Prop:=
 ∃ (oa ob oc oe la lb lc le:Nat) (za zb zc ze:List Nat),e=.returned (.tuple #[])∧Desc B0 w' D R n oa ob oc oe la lb lc le za zb zc ze∧Nums n la lb za zb A B∧Below B0 w w'
end
end Go.Proofs.YtmijlcldmefggaaGreatDoor
