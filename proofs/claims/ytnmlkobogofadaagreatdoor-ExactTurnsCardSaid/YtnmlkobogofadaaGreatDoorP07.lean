/- What the proof rests on, part 7: Numbers of any size times a power of 2. Magnitudes times a power of 2. Lehmer's walk: the highest digits, and differences. Differences of two multiples, digit by digit: plain mathematics, no program. Differences of two multiples. Magnitudes: odd ones, and the number of binary digits. Lehmer's steps  -/
import Derived.Test.YtnmlkobogofadaaGreatDoorP06
import Derived.Test.YtnmlkobogofadaaGreatDoorP01
import Derived.Test.YtnmlkobogofadaaGreatDoorP02
namespace Go.Proofs.YtnmlkobogofadaaGreatDoor
set_option maxRecDepth 100000
set_option maxHeartbeats 80000000
open Go.RowKit Go.Sort
theorem shift_val (q r:Nat) (xs:List Nat) (hr:r≤63) (hx:Dig xs) :
  Dig (List.replicate q 0 ++ (xs ++ [0]))∧(List.replicate q 0 ++ (xs ++ [0])).length=q+xs.length+1∧val (raised r 0 (List.replicate q 0 ++ (xs ++ [0])))=val xs*2 ^ (64*q+r):=by
 have hd:Dig (List.replicate q 0 ++ (xs ++ [0])):=by
  refine Dig.append (fun d hd=>?_) (Dig.append hx (fun d hd=>?_))
  ·rw [(List.mem_replicate.1 hd).2];exact B64_pos
  ·simp at hd;subst hd;exact B64_pos
 have hl:(List.replicate q 0 ++ (xs ++ [0])).length=q+xs.length+1:=by simp;omega
 refine ⟨hd,hl,?_⟩
 obtain ⟨k,hk⟩:=raised_val r 0 (List.replicate q 0 ++ (xs ++ [0])) (by omega) hd (Nat.two_pow_pos _)
 have hv:val (List.replicate q 0 ++ (xs ++ [0]))=B64 ^ q*val xs:=by
  rw [val_append,val_zeros,val_snoc,List.length_replicate,Nat.mul_zero,Nat.add_zero,Nat.zero_add]
 rw [hl,hv,Nat.add_zero] at hk
 have h1:=val_lt hx
 have h2:2 ^ r≤B64:=by
  rw [show B64=2 ^ 64 from by decide]
  exact Nat.pow_le_pow_right (by omega) (by omega)
 have h3:B64 ^ q*val xs*2 ^ r<B64 ^ (q+xs.length+1):=by
  rw [Nat.pow_succ,Nat.pow_add]
  exact Nat.lt_of_le_of_lt (Nat.mul_le_mul_left _ h2) (Nat.mul_lt_mul_of_pos_right (Nat.mul_lt_mul_of_pos_left h1 (Nat.pow_pos B64_pos)) B64_pos)
 have h4:k=0:=by
  rcases Nat.eq_zero_or_pos k with h | h
  ·exact h
  ·have:=Nat.mul_le_mul_left (B64 ^ (q+xs.length+1)) h
   rw [Nat.mul_one] at this
   omega
 rw [h4,Nat.mul_zero,Nat.add_zero,Nat.add_zero] at hk
 rw [hk,Nat.pow_add,Nat.pow_mul,show 2 ^ 64=B64 from by decide,Nat.mul_comm (B64 ^ q),Nat.mul_assoc]
theorem shift_calls (nx n b o cp:Nat) (xs:List Nat) (w:World) (hx:Digs w b o xs) (hb:b<w.heap.size) (dx:Dig xs) (hsz:xs.length≤549755813888) (hn:n≤17592186044416) (hnx:xs.length=nx) :
  Calls Tryz.prog 232 #[.slice (some ⟨b,o,none⟩) nx cp,.int .i64 (n:Int)] w (RetDigits w (val xs*2 ^ n)):=by
 subst hnx
 have hq:n=64*(n / 64)+n % 64:=(Nat.div_add_mod n 64).symm
 have hr:n % 64≤63:=by omega
 have e1:(n:Int).tdiv 64=((n / 64:Nat):Int):=by rw [Int.tdiv_eq_ediv_of_nonneg (by omega)];push_cast;rfl
 have e2:(n:Int).tmod 64=((n % 64:Nat):Int):=by rw [Int.tmod_eq_emod_of_nonneg (by omega)];push_cast;rfl
 have e3:(n:Int) / 64=((n / 64:Nat):Int):=by push_cast;rfl
 have e4:(n:Int) % 64=((n % 64:Nat):Int):=by push_cast;rfl
 obtain ⟨q,hq'⟩:∃ q,n / 64=q:=⟨_,rfl⟩
 obtain ⟨r,hr'⟩:∃ r,n % 64=r:=⟨_,rfl⟩
 rw [hq'] at hq e1 e3
 rw [hr'] at hq hr e2 e4
 have hqs:q≤274877906944:=by omega
 have HQ:Hid (n=64*q+r∧r≤63):=hid ⟨hq,hr⟩
 clear hq hr hq' hr' hn
 have hmk:=makeN_run (q+xs.length+1) (by omega)
 rw [show ((q+xs.length+1:Nat):Int)=(q:Int)+(xs.length:Int)+1 by push_cast;rfl] at hmk
 have hZ:=holdsL_allocZ w (q+xs.length+1)
 have hsl:=sliceLo_run w.heap.size 0 (q+xs.length+1) (q+xs.length+1) q (by omega) (by omega)
 have hcp:=copyN_run 3 (allocZ w (q+xs.length+1)) w.heap.size (0+q) (q+xs.length+1 - q) (q+xs.length+1 - q) b o cp _ xs (hZ.drop q) (hx.below (below_allocZ w _) hb) (by simp) (by omega)
 have e5:xs ++ ((List.replicate (q+xs.length+1) 0).drop q).drop xs.length=xs ++ [0]:=by
  rw [List.drop_replicate,List.drop_replicate,show q+xs.length+1 - q - xs.length=1 by omega];rfl
 have e6:putL (allocZ w (q+xs.length+1)) 0 w.heap.size (0+q) (xs ++ [0])=putL (allocZ w (q+xs.length+1)) 0 w.heap.size 0 (List.replicate q 0 ++ (xs ++ [0])):=by
  rw [putL_mid _ 0 w.heap.size 0 q _ (xs ++ [0]) hZ (by simp;omega),List.take_replicate,List.drop_replicate]
  congr 1
  have e7:q+xs.length+1 - (q+(xs ++ [0]).length)=0:=by rw [List.length_append,List.length_singleton];omega
  rw [show min q (q+xs.length+1)=q by omega,e7,List.replicate_zero,List.append_nil]
 rw [e5,e6] at hcp
 have HV:=hid (shift_val q r xs HQ.out.2 dx)
 have HH:Hid (HoldsL (putL (allocZ w (q+xs.length+1)) 0 w.heap.size 0 (List.replicate q 0 ++ (xs ++ [0]))) w.heap.size 0 (List.replicate q 0 ++ (xs ++ [0]))):=hid (holdsL_putL _ _ _ _ _ _ hZ (by rw [HV.out.2.1];simp))
 have HZ:=hid hZ
 rw [Nat.zero_add] at hsl hcp
 clear e5 e6 hZ hx dx
 go_enter Tryz.func232,Tryz.ntmps232
 go_wp2_with fail
 refine (raise_calls _ r w.heap.size 0 _ (List.replicate q 0 ++ (xs ++ [0])) _ HQ.out.2 HH.out HV.out.1 (by rw [HV.out.2.1];omega) (by rw [HV.out.2.1];omega) HV.out.2.1).mono ?_
 rintro e w' ⟨ds,q1,rfl,rfl,hl,hdg,hds⟩
 rw [putL_putL _ _ _ _ _ _ _ hl,Nat.zero_add]
 have hl2:ds.length=q+xs.length+1:=hl.trans HV.out.2.1
 have hv:Hid (val ds=val xs*2 ^ n):=by
  show val ds=_
  rw [hds,HV.out.2.2,← HQ.out.1]
 have HD:Hid (HoldsL (putL (allocZ w (q+xs.length+1)) q1 w.heap.size 0 ds) w.heap.size 0 ds):=holdsL_putL _ _ _ _ _ _ HZ.out (by rw [hl2];simp)
 have HL1:=hid hl2
 clear hl hl2 hds hcp hmk hsl
 go_wp2_with fail
 refine (trim_callsN _ w.heap.size 0 _ ds _ HD.out.digs (by rw [HL1.out];omega) (by rw [HL1.out];exact Nat.le_refl _) HL1.out).mono ?_
 rintro e w' ⟨k,rfl,ht,rfl⟩
 have HT:=hid ht
 clear ht
 go_wp2
 go_ret
 exact RetDigits.mk (by simp [size_allocZ]) hdg HT.out hv.out HD.out.digs ((below_allocZ w _).trans (below_putL _ _ _ _ _ (Nat.le_refl _)))
end Go.Proofs.YtnmlkobogofadaaGreatDoor
namespace Go.Proofs.YtnmlkobogofadaaGreatDoor
set_option maxRecDepth 100000
set_option maxHeartbeats 80000000
open Go.RowKit Go.Sort
abbrev S1 (w w':World) (c1 d1:Value):Prop:=
 C2 w' w.heap.size c1 d1∧(Below w.heap.size w w'∧w.heap.size+1<w'.heap.size∧Slot w' (w.heap.size+1))
theorem S1.next {w W W':World} {c1 d1:Value} (h:S1 w W c1 d1) (hb:Below W.heap.size W W'):S1 w W' c1 d1:=by
 obtain ⟨h1,h3,h4,h5⟩:=h
 exact ⟨C2.below h1 hb (by omega),h3.trans (hb.mono h3.size),Nat.lt_of_lt_of_le h4 hb.size,h5.below hb (by omega)⟩
theorem S1.drew {w W:World} {c1 d1:Value} (h:S1 w W c1 d1):S1 w W.drew c1 d1:=by
 obtain ⟨⟨h1,h1'⟩,h3,h4,h5⟩:=h
 exact ⟨⟨h1,h1'⟩,h3.drew,h4,h5⟩
theorem S1.start (w:World) (c1 d1 z1:Value) (t1 t3:TypeId):S1 w ((w.alloc (.cells #[c1,d1] t1)).alloc (.cells #[z1,.slice none 0 0] t3)) c1 d1:=by
 refine ⟨⟨?_,?_⟩,?_,?_,⟨⟨z1,?_⟩,⟨none,0,0,?_⟩,?_,?_⟩⟩
 all_goals try go_simp
 exact ((Below.refl _ _).alloc (Nat.le_refl _) _).alloc (by simp) _
theorem S1.store {w W:World} {c1 d1 u:Value} {p:Option Addr} {l c:Nat} (h:S1 w W c1 d1):S1 w (set2 W (w.heap.size+1) u (.slice p l c)) c1 d1:=by
 obtain ⟨⟨h1,h1'⟩,h3,h4,h5⟩:=h
 refine ⟨⟨?_,?_⟩,(h3.setCell (by simp) _).setCell (by simp) _,by simpa using h4,h5.set _ _ _ _ _⟩
 all_goals rw [World.cell?_setCell_far _ _ _ _ (by simp),World.cell?_setCell_far _ _ _ _ (by simp)];assumption
theorem S1.done {w W:World} {c1 d1 c:Value} {p:Option Addr} {l cc n:Nat} (h:S1 w W c1 d1) (hm:IsMag W c (.slice p l cc) n) :
  ((W.setCell ⟨w.heap.size+1,0,none⟩ c).setCell ⟨w.heap.size+1,1,none⟩ (.slice p l cc)).cell? ⟨w.heap.size+1,0,none⟩=some c ∧
  ((W.setCell ⟨w.heap.size+1,0,none⟩ c).setCell ⟨w.heap.size+1,1,none⟩ (.slice p l cc)).cell? ⟨w.heap.size+1,1,none⟩=some (.slice p l cc) ∧
  Hid (IsMag ((W.setCell ⟨w.heap.size+1,0,none⟩ c).setCell ⟨w.heap.size+1,1,none⟩ (.slice p l cc)) c (.slice p l cc) n∧Below w.heap.size w ((W.setCell ⟨w.heap.size+1,0,none⟩ c).setCell ⟨w.heap.size+1,1,none⟩ (.slice p l cc))):=
 ⟨(h.2.2.2.read _ _).1,(h.2.2.2.read _ _).2,hid ⟨h.2.2.2.mag hm,(h.store (u:=c) (p:=p) (l:=l) (c:=cc)).2.1⟩⟩
theorem S1.slot {w W:World} {c1 d1:Value} (h:S1 w W c1 d1):(∃ r1,W.cell? ⟨w.heap.size+1,0,none⟩=some r1)∧(∃ r2,W.cell? ⟨w.heap.size+1,1,none⟩=some r2)∧W.frozen? ⟨w.heap.size+1,0,none⟩=false∧W.frozen? ⟨w.heap.size+1,1,none⟩=false:=
 ⟨h.2.2.2.1,⟨_,h.2.2.2.2.1.choose_spec.choose_spec.choose_spec⟩,h.2.2.2.2.2.1,h.2.2.2.2.2.2⟩
theorem shift_lt_pow {a k n:Nat} (ha:a<B64 ^ k):a*2 ^ n<B64 ^ (k+(n / 64+1)):=by
 have h:2 ^ n≤B64 ^ (n / 64+1):=by
  rw [show B64=2 ^ 64 from by decide,← Nat.pow_mul]
  exact Nat.pow_le_pow_right (by omega) (by omega)
 rw [Nat.pow_add]
 exact Nat.lt_of_lt_of_le (Nat.mul_lt_mul_of_pos_right ha (Nat.two_pow_pos _)) (Nat.mul_le_mul_left _ h)
theorem mshift_calls (a n k:Nat) (c1 d1:Value) (w:World) (ha:IsMag w c1 d1 a) (hk:k≤137438953472) (hn:n≤8796093022208) (ka:a<B64 ^ k) :
  Calls Tryz.prog 191 #[.agg #[c1,d1],.int .i64 (n:Int)] w (RetM w (a*2 ^ n)):=by
 have hks:k+(n / 64+1)≤549755813888:=by omega
 have HN:=hid hn
 clear hn
 go_enter Tryz.func191,Tryz.ntmps191
 have s0:=S1.start w c1 d1 (.int .u64 0) 27 27
 go_wp2_with fail
 refine (digits_calls _ _ a _ (ha.mono s0.2.1 (Nat.le_refl _))).mono ?_
 rintro e wA ⟨b1,o1,cp1,xs,rfl,hb1,hl1,hd1,ht1,hv1,hD1,hBA⟩
 have s1:=s0.next hBA
 clear s0
 go_wp2_with fail
 refine (shift_calls _ n b1 o1 cp1 xs _ hD1 hb1 hd1 ?_ (by have:=HN.out;omega) rfl).mono ?_
 ·exact Nat.le_trans (len_le ht1 (by rw [hv1];exact ka)) (by omega)
 rw [hv1]
 rintro e wB ⟨b2,o2,cp2,ys,rfl,hb2,hl2,hd2,ht2,hv2,hD2,hBB⟩
 have s2:=s1.next hBB
 clear s1 hD1 hd1 ht1 hBA hBB
 go_wp2_with fail
 refine (shorten_slice b2 o2 cp2 ys.length ys _ rfl hl2 ?_ hb2 hd2 ht2 hD2).mono ?_
 ·exact Nat.le_trans (len_le ht2 (by rw [hv2];exact shift_lt_pow ka)) hks
 rintro e wC hret
 obtain ⟨x,p,l,cc,rfl,hm,hBC⟩:=hret.shape
 rw [hv2] at hm
 have s3:=s2.next hBC
 obtain ⟨⟨y1,hy1⟩,⟨y2,hy2⟩,hf1,hf2⟩:=s3.slot
 obtain ⟨hz1,hz2,hHm⟩:=s3.done hm
 clear hret s2 s3 hD2 hd2 ht2 hm hBC
 go_wp2_with fail
 refine bodyPost_ret (v:=.agg #[.int .u64 x,.slice p l cc]) (by simp [results,Tryz.results191,go_sem,hz1,hz2]) rfl ⟨_,_,rfl,hHm.out.1,hHm.out.2⟩
end Go.Proofs.YtnmlkobogofadaaGreatDoor
namespace Go.Proofs.YtnmlkobogofadaaGreatDoor
set_option maxRecDepth 100000
set_option maxHeartbeats 80000000
open Go.RowKit Go.Sort
theorem window_calls (nx n s b o cp:Nat) (xs:List Nat) (w:World) (hx:Digs w b o xs) (dx:Dig xs) (hs:s≤63) (hn:n≤1099511627776) (hnx:xs.length=nx) :
  Calls Tryz.prog 244 #[.slice (some ⟨b,o,none⟩) nx cp,.int .i64 ((n+2:Nat):Int),.int .u64 (s:Int)] w fun e w'=>e=.returned (.int .u64 ((shl2 s (xs[n+1]?.getD 0) (xs[n]?.getD 0):Nat):Int))∧w=w':=by
 have at_1:=hid (at_callsN nx b o cp (n+1) xs w hx hnx)
 have at_2:=hid (at_callsN nx b o cp n xs w hx hnx)
 have d1:=dx.getD (n+1)
 have d2:=dx.getD n
 obtain ⟨x,hx1⟩:∃ x,xs[n+1]?.getD 0=x:=⟨_,rfl⟩
 obtain ⟨y,hy1⟩:∃ x,xs[n]?.getD 0=x:=⟨_,rfl⟩
 rw [hx1] at at_1 d1 ⊢
 rw [hy1] at at_2 d2 ⊢
 rw [show ((n+1:Nat):Int)=(n:Int)+2 - 1 by omega] at at_1
 have e1:=shl2_bits s x y (by omega) d2
 clear d1 d2 hx dx hx1 hy1
 go_enter Tryz.func244,Tryz.ntmps244
 go_wp2_with (go_big_skip)
 refine (at_1.out).mono ?_
 rintro e w' ⟨rfl,rfl⟩
 go_wp2_with (go_big_skip)
 refine (at_2.out).mono ?_
 rintro e w' ⟨rfl,rfl⟩
 clear at_1 at_2
 go_wp2_with (go_big_skip)
 go_ret
 exact ⟨rfl,rfl⟩
end Go.Proofs.YtnmlkobogofadaaGreatDoor
namespace Go.Proofs.YtnmlkobogofadaaGreatDoor
theorem diff_digit (B x p y q c b mh ml low c1 h l under c2 s c3:Nat) (e1:ml+B*mh=x*p) (e2:low+B*c1=ml+c) (e3:l+B*h=y*q) (e4:under+B*c2=l+b) (e5:s+under=low+B*c3) :
  s+y*q+B*(mh+c1)+b=c+x*p+B*(h+c2+c3):=by
 grind
theorem diff_sum (P B V X Y x p y q c b c' b' s:Nat) (hv:V+Y*q+P*c=X*p+P*b) (e:s+y*q+B*c' + b=c+x*p+B*b') :
  (V+P*s)+(Y+P*y)*q+P*B*c' = (X+P*x)*p+P*B*b':=by
 have e2:P*(s+y*q+B*c' + b)=P*(c+x*p+B*b'):=by rw [e]
 grind
theorem diff_borrow (B y q b h l under c2 c3:Nat) (hq:q<B) (hy:y<B) (hb:b<B) (e3:l+B*h=y*q) (e4:under+B*c2=l+b) (h3:c3≤1) (h0:under=0→c3=0):h+c2+c3<B:=by
 obtain ⟨n,rfl⟩:∃ n,B=n+1:=⟨B - 1,by omega⟩
 have h1:y*q≤n*n:=Nat.mul_le_mul (by omega) (by omega)
 have h2:under+(n+1)*(h+c2)=y*q+b:=by grind
 have h4:under+(n+1)*(h+c2)≤(n+1)*n:=by
  have:(n+1)*n=n*n+n:=by grind
  omega
 have h5:h+c2≤n:=Nat.le_of_mul_le_mul_left (Nat.le_trans (Nat.le_add_left _ _) h4) (by omega)
 rcases Nat.lt_or_ge (h+c2) n with h6 | h6
 ·omega
 ·have h7:h+c2=n:=by omega
  rw [h7] at h4
  have:=h0 (by omega)
  omega
theorem diff_end (P V D c b:Nat) (hV:V<P) (hD:D<P) (h:V+P*c=D+P*b):V=D:=by
 rcases Nat.lt_trichotomy c b with h1 | h1 | h1
 ·have:=Nat.mul_le_mul_left P h1
  rw [Nat.mul_succ] at this
  omega
 ·subst h1;omega
 ·have:=Nat.mul_le_mul_left P h1
  rw [Nat.mul_succ] at this
  omega
def Diff (zs xs ys dk:List Nat) (p q k c b:Nat):Prop:=
 Part zs dk k∧c<B64∧b<B64∧val (dk.take k)+val (ys.take k)*q+B64 ^ k*c=val (xs.take k)*p+B64 ^ k*b
theorem Diff.start {zs:List Nat} (xs ys:List Nat) (p q:Nat) (h:Dig zs):Diff zs xs ys zs p q 0 0 0:=⟨Part.start h,B64_pos,B64_pos,by simp [val_nil]⟩
theorem Diff.step {zs xs ys dk:List Nat} {p q k c b c' b' s:Nat} (h:Diff zs xs ys dk p q k c b) (hk:k<zs.length) (hs:s<B64) (hc:c' < B64) (hb:b' < B64) (e:s+ys[k]?.getD 0*q+B64*c' + b=c+xs[k]?.getD 0*p+B64*b') :
  Diff zs xs ys (dk.set k s) p q (k+1) c' b':=by
 obtain ⟨hp,_,_,hv⟩:=h
 refine ⟨hp.step hs,hc,hb,?_⟩
 rw [val_set_take dk k s (by rw [hp.len];exact hk),val_take_getD xs k,val_take_getD ys k,Nat.pow_succ]
 exact diff_sum (B64 ^ k) B64 _ _ _ _ p _ q c b c' b' s hv e
theorem Diff.done {zs xs ys dk:List Nat} {p q k c b:Nat} (h:Diff zs xs ys dk p q k c b) (hk:zs.length=k) (hx:xs.length≤k) (hy:ys.length≤k) (hle:val ys*q≤val xs*p) (hlt:val xs*p - val ys*q<B64 ^ k):val dk=val xs*p - val ys*q:=by
 obtain ⟨hp,_,_,hv⟩:=h
 have hl:dk.length=k:=hp.len.trans hk
 have hd:=val_lt hp.dig
 rw [List.take_of_length_le (by omega),List.take_of_length_le hx,List.take_of_length_le hy] at hv
 rw [hl] at hd
 exact diff_end (B64 ^ k) _ _ c b hd hlt (by omega)
end Go.Proofs.YtnmlkobogofadaaGreatDoor
namespace Go.Proofs.YtnmlkobogofadaaGreatDoor
set_option maxRecDepth 100000
set_option maxHeartbeats 80000000
open Go.RowKit Go.Sort
theorem sliceHi_run (b o n cp h:Nat) (hh:h≤cp) (w:World) :
  (Instr.slice 25 (.slice (some ⟨b,o,none⟩) n cp) none (some (.int .i64 (h:Int))) none).run Tryz.prog w=.ok (.slice (some ⟨b,o,none⟩) h cp) w:=by
 rw [run_slice_h w 25 (some ⟨b,o,none⟩) n cp (by kernel_rfl) .i64 h (by omega) (by omega)]
 simp only [Int.toNat_natCast]
 rw [show (sizeOf (Tryz.prog.elem 25)).run Tryz.prog w=.ok 1 w from by kernel_rfl]
 simp only [Result.andThen,sliced,Nat.sub_zero]
 split
 ·rename_i h0
  subst h0
  simp
 ·rw [Option.map_some,addr_add];rfl
def RetDiff (w:World) (b o cp n v:Nat) (e:Ending) (w':World):Prop:=
 ∃ (k q:Nat) (ds:List Nat),e=.returned (.slice (some ⟨b,o,none⟩) k cp)∧w' = putL w q b o ds∧ds.length=n∧Dig ds∧Tail0 ds k∧val ds=v
theorem difference_calls (n0 b o cp nx b1 o1 cp1 p ny b2 o2 cp2 q n:Nat) (zs xs ys:List Nat) (w:World) (hz:HoldsL w b o zs) (hx:Digs w b1 o1 xs) (hy:Digs w b2 o2 ys) (hn1:b1≠b∨o1+xs.length≤o∨o+zs.length≤o1) (hn2:b2≠b∨o2+ys.length≤o∨o+zs.length≤o2)
  (dz:Dig zs) (dx:Dig xs) (dy:Dig ys) (hp:p<B64) (hq:q<B64) (hsz:n≤1099511627776) (hcp:n≤cp) (hlx:xs.length=nx) (hly:ys.length=ny) (hlz:zs.length=n) (hxn:nx≤n) (hyn:ny≤n) (hmax:n=nx∨n=ny) (hle:val ys*q≤val xs*p) (hlt:val xs*p - val ys*q<B64 ^ n) :
  Calls Tryz.prog 245 #[.slice (some ⟨b,o,none⟩) n0 cp,.slice (some ⟨b1,o1,none⟩) nx cp1,.int .u64 (p:Int),.slice (some ⟨b2,o2,none⟩) ny cp2,.int .u64 (q:Int)] w (RetDiff w b o cp n (val xs*p - val ys*q)):=by
 have h1:=add64_run0
 have h2:=sub64_run0
 have hsl:=sliceHi_run b o n0 cp n hcp
 have HX:=hid (And.intro hx (And.intro dx (And.intro hlx hxn)))
 have HY:=hid (And.intro hy (And.intro dy (And.intro hly hyn)))
 have HZ:=hid (And.intro hz (And.intro dz hlz))
 have HP:=hid (And.intro hp hq)
 have HE:=hid (And.intro hle hlt)
 have hmx:max (nx:Int) (ny:Int)=(n:Int):=by omega
 clear hx dx hlx hy dy hly hz dz hlz hp hq hle hlt hmax
 go_enter Tryz.func245,Tryz.ntmps245
 go_wp2_with fail
 go_loopw [11,12,13,28] (fun cv bv tv iv wr=>∃ (k c bo t m:Nat) (dk:List Nat),iv=.int .i64 k∧cv=.int .u64 c∧bv=.int .u64 bo∧tv=.int .u64 t∧k≤n∧wr=putL w m b o dk∧Diff zs xs ys dk p q k c bo) (fun _ _ _ iv _=>n - (intOf iv).toNat)
 case atStart=>exact ⟨0,0,0,0,0,zs,rfl,rfl,rfl,rfl,by omega,(putL_self w b o zs HZ.out.1).symm,Diff.start xs ys p q HZ.out.2.1⟩
 case round =>
  obtain ⟨k,c,bo,t,m,dk,rfl,rfl,rfl,rfl,hk,hwr,hI⟩:=hrel
  have hdl:dk.length=n:=hI.1.len.trans HZ.out.2.2
  by_cases hlt:k<n
  ·have hc1:c<B64:=hI.2.1
   have hb1:bo<B64:=hI.2.2.1
   have dkx:Digs wr b1 o1 xs:=by rw [hwr];exact HX.out.1.putL (by have:=hdl;have:=HZ.out.2.2;omega)
   have dky:Digs wr b2 o2 ys:=by rw [hwr];exact HY.out.1.putL (by have:=hdl;have:=HZ.out.2.2;omega)
   have cz:∃ z:Nat,wr.cell? ⟨b,o+k,none⟩=some (.int .u64 (z:Int)):=⟨_,by rw [hwr];exact (holdsL_putL w m b o zs dk HZ.out.1 (by rw [hdl,HZ.out.2.2]) k (by omega)).1⟩
   obtain ⟨z,cz⟩:=cz
   have fx:wr.frozen? ⟨b,o+k,none⟩=false:=by
    have:=(HZ.out.1 k (by rw [HZ.out.2.2];omega)).2
    rw [hwr,frozen_putL,this]
   have atx:=hid (at_callsN nx b1 o1 cp1 k xs wr dkx HX.out.2.2.1)
   have aty:=hid (at_callsN ny b2 o2 cp2 k ys wr dky HY.out.2.2.1)
   have hx1:=HX.out.2.1.getD k
   have hy1:=HY.out.2.1.getD k
   have HS:=hid (fun (s c' b':Nat)=>hI.step (c':=c') (b':=b') (s:=s) (by rw [HZ.out.2.2];exact hlt))
   obtain ⟨x,hx⟩:∃ x,xs[k]?.getD 0=x:=⟨_,rfl⟩
   obtain ⟨y,hy⟩:∃ y,ys[k]?.getD 0=y:=⟨_,rfl⟩
   rw [hx] at atx hx1 HS
   rw [hy] at aty hy1 HS
   have hp:=HP.out.1
   have hq:=HP.out.2
   have a1:mulH x p+addC (mulL x p) c 0<B64:=by
    have:=mulH_le x p hx1 hp
    have:=addC_le (mulL x p) c 0 (mulL_lt x p) hc1 (by omega)
    omega
   have a2:mulH y q+addC (mulL y q) bo 0<B64:=by
    have:=mulH_le y q hy1 hq
    have:=addC_le (mulL y q) bo 0 (mulL_lt y q) hb1 (by omega)
    omega
   have s2:=add_spec (mulL x p) c 0
   have s4:=add_spec (mulL y q) bo 0
   have s5:=sub_spec (addS (mulL x p) c 0) (addS (mulL y q) bo 0) 0 (addS_lt _ _ _) (addS_lt _ _ _) (by omega)
   have s6:=subC_le (addS (mulL x p) c 0) (addS (mulL y q) bo 0) 0
   have s7:addS (mulL y q) bo 0=0→subC (addS (mulL x p) c 0) (addS (mulL y q) bo 0) 0=0:=fun h=>by rw [h];unfold subC;rw [if_neg (by omega)]
   rw [Nat.add_zero] at s2 s4 s5
   have a3:mulH y q+addC (mulL y q) bo 0+subC (addS (mulL x p) c 0) (addS (mulL y q) bo 0) 0<B64:=diff_borrow B64 y q bo _ _ _ _ _ hq hy1 hb1 (mul_spec y q) s4 s6 s7
   have HI:=hid (HS.out _ _ _ (subS_lt (addS (mulL x p) c 0) (addS (mulL y q) bo 0) 0) a1 a3 (diff_digit B64 x p y q c bo _ _ _ _ _ _ _ _ _ _ (mul_spec x p) s2 (mul_spec y q) s4 s5))
   have HXY:=hid (And.intro hx1 hy1)
   have HW:=hid hwr
   have HL:=hid hdl
   clear s2 s4 s5 s6 s7 HS hp hq hwr hI hdl hx hy dkx dky hx1 hy1 hc1 hb1
   unfold B64 at a1 a2 a3
   go_wp2_with fail
   refine atx.out.mono ?_
   rintro e w' ⟨rfl,rfl⟩
   go_wp2_with fail
   refine (Mul64_calls x p HXY.out.1 HP.out.1 _).mono ?_
   rintro e w' ⟨rfl,rfl⟩
   go_wp2_with fail
   refine aty.out.mono ?_
   rintro e w' ⟨rfl,rfl⟩
   go_wp2_with fail
   refine (Mul64_calls y q HXY.out.2 HP.out.2 _).mono ?_
   rintro e w' ⟨rfl,rfl⟩
   go_wp2_with fail
   go_roundw
   case rel =>
    refine ⟨k+1,_,_,_,m,_,by go_num,?_,?_,rfl,by omega,?_,HI.out⟩
    ·go_num
    ·go_num
    rw [HW.out,putL_set _ _ _ _ _ _ _ (by rw [HL.out];omega)]
   case measure=>simp [intOf];omega
  ·obtain rfl:k=n:=by omega
   have HV:=hid (hI.done HZ.out.2.2 (by rw [HX.out.2.2.1];exact hxn) (by rw [HY.out.2.2.1];exact hyn) HE.out.1 HE.out.2)
   have HD:=hid hI.1.dig
   have HW:=hid hwr
   have HL:=hid hdl
   have HH:Hid (Digs wr b o dk):=by
    show Digs wr b o dk
    rw [hwr]
    exact (holdsL_putL w m b o zs dk HZ.out.1 (by rw [hdl,HZ.out.2.2])).digs
   clear hI hwr hdl
   go_wp2_with fail
   refine (length_callsN k b o cp dk _ HH.out (by rw [HL.out];exact hsz) HL.out).mono ?_
   rintro e w' ⟨k2,rfl,ht,rfl⟩
   have hs2:=sliceHi_run b o k cp k2 (Nat.le_trans ht.1 (by rw [HL.out];exact hcp))
   have HT:=hid ht
   clear ht
   go_wp2_with fail
   go_ret
   exact ⟨k2,m,dk,rfl,HW.out,HL.out,HD.out,HT.out,HV.out⟩
end Go.Proofs.YtnmlkobogofadaaGreatDoor
namespace Go.Proofs.YtnmlkobogofadaaGreatDoor
set_option maxRecDepth 100000
set_option maxHeartbeats 80000000
open Go.RowKit Go.Sort
theorem and_one (x:Nat) (hx:x<B64):bits .and .u64 (x:Int) 1=((x % 2:Nat):Int):=by
 have:=bits_and_u64_nat x 1 (by unfold B64 at hx;exact hx) (by omega)
 rw [Nat.and_one_is_mod] at this
 exact this
theorem val_odd (xs:List Nat) (h:1≤xs.length):val xs % 2=xs[0]?.getD 0 % 2:=by
 match xs,h with
 | x :: r,_ =>
  rw [val_cons]
  show (x+B64*val r) % 2=x % 2
  unfold B64
  omega
theorem isOdd_word (x:Nat) (hx:x<B64) (w:World):Calls Tryz.prog 142 #[.agg #[.int .u64 (x:Int),.slice none 0 0]] w (RetI w (.bool (x % 2 == 1))):=by
 have hn:=someSlice_run
 have ho:=and_one x hx
 have h2:(((x % 2:Nat):Int) == 1)=(x % 2 == 1):=by rw [Bool.eq_iff_iff,beq_iff_eq,beq_iff_eq];omega
 obtain ⟨z,hz⟩:∃ z,x % 2=z:=⟨_,rfl⟩
 obtain ⟨t,ht⟩:∃ t,(x % 2 == 1)=t:=⟨_,rfl⟩
 rw [ht] at h2 ⊢
 rw [hz] at ho h2
 clear hz ht hx
 go_enter Tryz.func142,Tryz.ntmps142
 go_wp2
 go_ret
 exact ⟨by rw [← h2];rfl,(Below.refl _ _).alloc (Nat.le_refl _) _⟩
theorem isOdd_long (b o l k x:Nat) (w:World) (hb:b<w.heap.size) (hl:2≤l) (hs:l≤1099511627776) (cx:w.cell? ⟨b,o,none⟩=some (.int .u64 (x:Int))) (hx:x<B64):Calls Tryz.prog 142 #[.agg #[.int .u64 0,.slice (some ⟨b,o,none⟩) l k]] w (RetI w (.bool (x % 2 == 1))):=by
 have hn:=someSlice_run
 have ho:=and_one x hx
 have h2:(((x % 2:Nat):Int) == 1)=(x % 2 == 1):=by rw [Bool.eq_iff_iff,beq_iff_eq,beq_iff_eq];omega
 obtain ⟨z,hz⟩:∃ z,x % 2=z:=⟨_,rfl⟩
 obtain ⟨t,ht⟩:∃ t,(x % 2 == 1)=t:=⟨_,rfl⟩
 have hne:¬ w.heap.size=b:=by omega
 rw [ht] at h2 ⊢
 rw [hz] at ho h2
 clear hz ht hx
 go_enter Tryz.func142,Tryz.ntmps142
 go_wp2
 go_ret
 exact ⟨by rw [← h2];rfl,(Below.refl _ _).alloc (Nat.le_refl _) _⟩
theorem isOdd_calls (c d:Value) (n k:Nat) (w:World) (h:IsMag w c d n) (hk:k≤1099511627776) (hn:n<B64 ^ k):Calls Tryz.prog 142 #[.agg #[c,d]] w (RetI w (.bool (n % 2 == 1))):=by
 rcases h with ⟨h0,rfl,rfl⟩ | ⟨b,o,m,xs,rfl,rfl,h3,h4,h5,h6,h7,h8,h9⟩
 ·exact isOdd_word n h0 w
 ·have:=h9 0 (by omega)
  rw [Nat.add_zero] at this
  rw [← h8,val_odd xs (by omega)]
  exact isOdd_long b o xs.length m _ w h3 h4 (Nat.le_trans (len_le h7 (by rw [h8];exact hn)) hk) this (h6.getD 0)
def IsBits (n v:Nat):Prop:=(n=0→v=0)∧(0<n→1≤v∧2 ^ (v - 1)≤n∧n<2 ^ v)
theorem isBits_word (x:Nat) (hx:x<B64):IsBits x (Lib.bitLen x):=by
 refine ⟨fun h=>by subst h;rfl,fun h=>?_⟩
 unfold Lib.bitLen
 exact Lib.bitLenAux_bounds 64 x (by unfold B64 at hx;omega) (by omega)
theorem isBits_long (t m x L:Nat) (hx:0<x) (h:IsBits x L) (hm:m<B64 ^ t):IsBits (m+B64 ^ t*x) (t*64+L):=by
 obtain ⟨h1,h2,h3⟩:=h.2 hx
 have e:B64 ^ t=2 ^ (t*64):=by rw [show B64=2 ^ 64 from by decide,← Nat.pow_mul,Nat.mul_comm]
 rw [e] at hm ⊢
 have hp:0<2 ^ (t*64):=Nat.two_pow_pos _
 refine ⟨fun h0=>?_,fun _=>⟨by omega,?_,?_⟩⟩
 ·have:2 ^ (t*64)*1≤2 ^ (t*64)*x:=Nat.mul_le_mul_left _ hx
  omega
 ·rw [show t*64+L - 1=t*64+(L - 1) by omega,Nat.pow_add]
  exact Nat.le_trans (Nat.mul_le_mul_left _ h2) (Nat.le_add_left _ _)
 ·rw [Nat.pow_add]
  have:2 ^ (t*64)*(x+1)≤2 ^ (t*64)*2 ^ L:=Nat.mul_le_mul_left _ h3
  rw [Nat.mul_succ] at this
  omega
theorem Len64_calls (y:Nat) (hy:y<B64) (w:World):Calls Tryz.prog 185 #[.int .u64 (y:Int)] w fun e w'=>e=.returned (.int .i64 ((Lib.bitLen y:Nat):Int))∧w=w':=
 (Tryz.bits_Len64 y w (by omega) (by unfold B64 at hy;omega)).mono fun e w' ⟨h1,h2⟩=>⟨by rw [h1,Int.toNat_natCast],h2.symm⟩
theorem bits_word (x:Nat) (hx:x<B64) (w:World):Calls Tryz.prog 137 #[.agg #[.int .u64 (x:Int),.slice none 0 0]] w (RetI w (.int .i64 ((Lib.bitLen x:Nat):Int))):=by
 have HL:=hid (Len64_calls x hx)
 obtain ⟨L,hL⟩:∃ L,Lib.bitLen x=L:=⟨_,rfl⟩
 rw [hL] at HL ⊢
 clear hL hx
 go_enter Tryz.func137,Tryz.ntmps137
 go_wp2_with fail
 refine (HL.out _).mono ?_
 rintro e w' ⟨rfl,rfl⟩
 go_wp2_with fail
 go_ret
 exact ⟨rfl,(Below.refl _ _).alloc (Nat.le_refl _) _⟩
theorem bits_long (b o t k x L:Nat) (w:World) (hb:b<w.heap.size) (ht:1≤t) (hs:t≤17179869184) (cx:w.cell? ⟨b,o+t,none⟩=some (.int .u64 (x:Int))) (hx:x<B64) (hL:Lib.bitLen x=L) (hL1:L≤64):Calls Tryz.prog 137 #[.agg #[.int .u64 0,.slice (some ⟨b,o,none⟩) (t+1) k]] w (RetI w (.int .i64 ((t*64+L:Nat):Int))):=by
 have HL:=hid (Len64_calls x hx)
 rw [hL] at HL
 have hne:¬ w.heap.size=b:=by omega
 have ht0:0<(t:Int):=by omega
 clear hL hx
 go_enter Tryz.func137,Tryz.ntmps137
 go_wp2_with fail
 refine (HL.out _).mono ?_
 rintro e w' ⟨rfl,rfl⟩
 go_wp2_with fail
 go_ret
 exact ⟨by push_cast;rfl,(Below.refl _ _).alloc (Nat.le_refl _) _⟩
def RetBits (w:World) (n:Nat) (e:Ending) (w':World):Prop:=∃ v:Nat,e=.returned (.int .i64 (v:Int))∧IsBits n v∧Below w.heap.size w w'
theorem bits_calls (c d:Value) (n k:Nat) (w:World) (h:IsMag w c d n) (hk:k≤17179869184) (hn:n<B64 ^ k):Calls Tryz.prog 137 #[.agg #[c,d]] w (RetBits w n):=by
 rcases h with ⟨h0,rfl,rfl⟩ | ⟨b,o,m,xs,rfl,rfl,h3,h4,h5,h6,h7,h8,h9⟩
 ·refine (bits_word n h0 w).mono ?_
  rintro e w' ⟨rfl,hb⟩
  exact ⟨_,rfl,isBits_word n h0,hb⟩
 ·have hlen:=len_le h7 (by rw [h8];exact hn)
  obtain ⟨t,ht⟩:∃ t,xs.length=t+1:=⟨xs.length - 1,by omega⟩
  have hx:=h6.getD t
  have hbw:=isBits_word _ hx
  have hx0:0<xs[t]?.getD 0:=by
   have hne:xs≠[]:=by intro e;subst e;simp at h4
   have e:=h7 hne
   rw [List.getLast_eq_getElem] at e
   rw [List.getElem?_eq_getElem (by omega)]
   simp only [ht,Nat.add_sub_cancel] at e
   exact Nat.pos_of_ne_zero e
  have hL1:Lib.bitLen (xs[t]?.getD 0)≤64:=Lib.bitLen_le _ 64 (by omega) (by unfold B64 at hx;omega)
  have hc:=bits_long b o t m _ _ w h3 (by omega) (by omega) (h9 t (by omega)) hx rfl hL1
  rw [ht]
  refine hc.mono ?_
  rintro e w' ⟨rfl,hb⟩
  refine ⟨_,rfl,?_,hb⟩
  have hm:=val_lt (h6.take t)
  rw [List.length_take,Nat.min_eq_left (by omega)] at hm
  have:=isBits_long t _ _ _ hx0 hbw hm
  rw [← h8,val_split xs t (by omega)]
  have hd:xs.drop t=[xs[t]?.getD 0]:=by
   rw [List.drop_eq_getElem_cons (by omega),List.drop_of_length_le (by omega),List.getElem?_eq_getElem (by omega)]
   rfl
  rw [hd,show val [xs[t]?.getD 0]=xs[t]?.getD 0 by simp [val]]
  exact this
end Go.Proofs.YtnmlkobogofadaaGreatDoor
namespace Go.Proofs.YtnmlkobogofadaaGreatDoor
def sg (odd:Bool):Int:=if odd then -1 else 1
theorem sg_not (odd:Bool):sg (!odd) = - sg odd:=by cases odd <;> rfl
structure Lehm (a b x0 y0 x y fA fB tA tB nA nB:Nat) (odd:Bool):Prop where
 hx:(x:Int)=sg odd*((tB:Int)*y0 - tA*x0)
 hy:(y:Int)=sg odd*((nA:Int)*x0 - nB*y0)
 det:x*nB+y*tB=x0
 le1:nA≤nB
 le2:tA+nA≤tB+nB
 pos:1≤nB
 gcd:Int.gcd (sg odd*((tB:Int)*b - tA*a)) (sg odd*((nA:Int)*a - nB*b))=Nat.gcd a b
 top:(tB=0∧sg odd*((tB:Int)*b - tA*a)=a∧sg odd*((nA:Int)*a - nB*b)=b∧fB=0)∨(1≤tB∧sg odd*((tB:Int)*b - tA*a)≤b)
 out:fB≠0→0≤sg odd*((tB:Int)*b - tA*a)∧sg odd*((tB:Int)*b - tA*a)<sg odd*((fA:Int)*a - fB*b)∧sg odd*((fA:Int)*a - fB*b)≤b ∧
  Int.gcd (sg odd*((fA:Int)*a - fB*b)) (sg odd*((tB:Int)*b - tA*a))=Nat.gcd a b
theorem Lehm.start (a b x0 y0:Nat):Lehm a b x0 y0 x0 y0 0 0 1 0 0 1 true where
 hx:=by simp [sg]
 hy:=by simp [sg]
 det:=by simp
 le1:=by omega
 le2:=by omega
 pos:=by omega
 gcd:=by simp [sg,Int.gcd]
 top:=by left;simp [sg]
 out:=by intro h;exact absurd rfl h
theorem collins (K a' b' d p q:Int) (ha0:0≤a') (ha:a' < K) (hb0:0≤b') (hb:b' < K) (hq:0<q) (hp0:0≤p) (hpq:p≤q) (hd:q≤d) :
  0<d*K+(q*b' - p*a')∧0<d*K+(p*a' - q*b'):=by
 have hK:0<K:=by omega
 have t1:q*K≤d*K:=Int.mul_le_mul_of_nonneg_right hd (by omega)
 have t2:p*a'≤q*a':=Int.mul_le_mul_of_nonneg_right hpq ha0
 have t3:q*a' < q*K:=Int.mul_lt_mul_of_pos_left ha hq
 have t4:q*b' < q*K:=Int.mul_lt_mul_of_pos_left hb hq
 have t5:0≤q*b':=Int.mul_nonneg (by omega) hb0
 have t6:0≤p*a':=Int.mul_nonneg hp0 ha0
 constructor <;> omega
theorem Lehm.valid {a b x0 y0 x y fA fB tA tB nA nB:Nat} {odd:Bool} (h:Lehm a b x0 y0 x y fA fB tA tB nA nB odd) {K a' b':Nat}
  (ea:a=x0*K+a') (eb:b=y0*K+b') (ha:a' < K) (hb:b' < K) (c1:nB≤y) (c2:tB+nB≤x - y) :
  0<sg odd*((nA:Int)*a - nB*b)∧sg odd*((nA:Int)*a - nB*b)<sg odd*((tB:Int)*b - tA*a):=by
 have hx:=h.hx
 have hy:=h.hy
 have l1:=h.le1
 have l2:=h.le2
 have ps:=h.pos
 have hxy:y≤x:=by omega
 have k1:=collins K a' b' y nA nB (by omega) (by omega) (by omega) (by omega) (by omega) (by omega) (by omega) (by omega)
 have k2:=collins K a' b' ((x:Int) - y) ((tA:Int)+nA) ((tB:Int)+nB) (by omega) (by omega) (by omega) (by omega) (by omega) (by omega) (by omega) (by omega)
 have ea':(a:Int)=x0*K+a':=by rw [ea];simp
 have eb':(b:Int)=y0*K+b':=by rw [eb];simp
 generalize (a:Int)=A at *
 generalize (b:Int)=Bb at *
 subst ea' eb'
 rw [hx,hy] at k2
 rw [hy] at k1
 cases odd
 ·simp only [sg,Bool.false_eq_true,if_false,Int.one_mul] at *
  constructor
  ·have:=k1.2;grind
  ·have:=k2.1;grind
 ·simp only [sg,if_true] at *
  constructor
  ·have:=k1.1;grind
  ·have:=k2.2;grind
theorem Lehm.step {a b x0 y0 x y fA fB tA tB nA nB:Nat} {odd:Bool} (h:Lehm a b x0 y0 x y fA fB tA tB nA nB odd) {K a' b':Nat}
  (ea:a=x0*K+a') (eb:b=y0*K+b') (ha:a' < K) (hb:b' < K) (c1:nB≤y) (c2:tB+nB≤x - y) :
  Lehm a b x0 y0 y (x % y) tA tB nA nB (tA+x / y*nA) (tB+x / y*nB) (!odd):=by
 obtain ⟨v1,v2⟩:=h.valid ea eb ha hb c1 c2
 have hy0:1≤y:=by have:=h.pos;omega
 have hps:=h.pos
 have hq:1≤x / y:=by rw [Nat.le_div_iff_mul_le hy0];omega
 have em:x % y+x / y*y=x:=by rw [Nat.mul_comm];exact Nat.mod_add_div x y
 have hm:(x % y:Nat)=(x:Int) - (x / y:Nat)*y:=by
  have:((x % y+x / y*y:Nat):Int)=x:=by rw [em]
  push_cast at this ⊢
  omega
 generalize x / y=q at *
 generalize x % y=r at *
 have eN:sg (!odd)*(((tA+q*nA:Nat):Int)*a - ((tB+q*nB:Nat):Int)*b)=sg odd*((tB:Int)*b - tA*a) - q*(sg odd*((nA:Int)*a - nB*b)):=by
  rw [sg_not];push_cast;grind
 have eT:sg (!odd)*((nB:Int)*b - nA*a)=sg odd*((nA:Int)*a - nB*b):=by rw [sg_not];grind
 have eF:sg (!odd)*((tA:Int)*a - tB*b)=sg odd*((tB:Int)*b - tA*a):=by rw [sg_not];grind
 refine ⟨?_,?_,?_,?_,?_,?_,?_,?_,?_⟩
 ·rw [h.hy,sg_not];grind
 ·rw [hm,h.hx,h.hy,sg_not];push_cast;grind
 ·have:=h.det
  have e:y*(tB+q*nB)+r*nB=(r+q*y)*nB+y*tB:=by grind
  rw [e,em,this]
 ·have l1:=h.le1
  have l2:=h.le2
  obtain ⟨q',rfl⟩:∃ q',q=q' + 1:=⟨q - 1,by omega⟩
  have:q' * nA≤q' * nB:=Nat.mul_le_mul_left _ l1
  rw [Nat.add_mul,Nat.add_mul];omega
 ·have l1:=h.le1
  have l2:=h.le2
  obtain ⟨q',rfl⟩:∃ q',q=q' + 1:=⟨q - 1,by omega⟩
  have:q' * nA≤q' * nB:=Nat.mul_le_mul_left _ l1
  rw [Nat.add_mul,Nat.add_mul];omega
 ·have:=h.pos
  have:1≤q*nB:=Nat.mul_pos hq this
  omega
 ·rw [eT,eN]
  rw [Int.gcd_comm,show sg odd*((tB:Int)*b - tA*a) - q*(sg odd*((nA:Int)*a - nB*b))=sg odd*((tB:Int)*b - tA*a)+(-q:Int)*(sg odd*((nA:Int)*a - nB*b)) from by grind,Int.gcd_add_mul_right_left,h.gcd]
 ·right
  rw [eT]
  refine ⟨h.pos,?_⟩
  rcases h.top with ⟨_,_,e,_⟩ | ⟨_,e⟩
  ·omega
  ·omega
 ·intro hf
  rw [eT,eF]
  refine ⟨by omega,v2,?_,h.gcd⟩
  rcases h.top with ⟨e,_⟩ | ⟨_,e⟩
  ·exact absurd e hf
  ·exact e
end Go.Proofs.YtnmlkobogofadaaGreatDoor
namespace Go.Proofs.YtnmlkobogofadaaGreatDoor
theorem win_val (s n:Nat) (xs:List Nat) (hl:xs.length≤n+2) (dx:Dig xs) (hs:s≤63) (ht:xs[n+1]?.getD 0*2 ^ s<B64) :
  ∃ r,r<B64 ^ n*2 ^ (64 - s)∧val xs=shl2 s (xs[n+1]?.getD 0) (xs[n]?.getD 0)*(B64 ^ n*2 ^ (64 - s))+r:=by
 have hd:∀ j,val (xs.drop j)=xs[j]?.getD 0+B64*val (xs.drop (j+1)):=fun j=>by
  rcases Nat.lt_or_ge j xs.length with h | h
  ·rw [List.drop_eq_getElem_cons h,val_cons,List.getElem?_eq_getElem h];rfl
  ·rw [List.drop_of_length_le h,List.drop_of_length_le (by omega),List.getElem?_eq_none h];rfl
 have hsplit:val xs=val (xs.take n)+B64 ^ n*val (xs.drop n):=by
  rcases Nat.lt_or_ge n xs.length with h | h
  ·exact val_split xs n (by omega)
  ·rw [List.take_of_length_le h,List.drop_of_length_le h];simp [val]
 have hlow:val (xs.take n)<B64 ^ n:=by
  have h1:=val_lt (dx.take n)
  have h2:B64 ^ (xs.take n).length≤B64 ^ n:=Nat.pow_le_pow_right B64_pos (by rw [List.length_take];omega)
  omega
 have h2:val (xs.drop (n+2))=0:=by rw [List.drop_of_length_le (by omega)];rfl
 rw [hd n,hd (n+1),h2,Nat.mul_zero,Nat.add_zero] at hsplit
 have hx1:xs[n+1]?.getD 0 % 2 ^ (64 - s)=xs[n+1]?.getD 0:=by
  refine Nat.mod_eq_of_lt ?_
  rw [← two_split s (by omega),Nat.mul_comm (2 ^ s)] at ht
  exact Nat.lt_of_mul_lt_mul_right ht
 unfold shl2
 rw [hx1]
 have e64:=two_split s (by omega)
 generalize xs[n+1]?.getD 0=x1 at *
 generalize xs[n]?.getD 0=x0 at *
 generalize B64 ^ n=P at *
 generalize 2 ^ s=S at *
 have hT:0<2 ^ (64 - s):=Nat.two_pow_pos _
 generalize 2 ^ (64 - s)=T at *
 have hm:=Nat.mod_add_div x0 T
 have hr:=Nat.mod_lt x0 hT
 generalize x0 / T=q at *
 generalize x0 % T=r0 at *
 refine ⟨val (xs.take n)+P*r0,?_,?_⟩
 ·have:P*(r0+1)≤P*T:=Nat.mul_le_mul_left _ hr
  rw [Nat.mul_succ] at this
  omega
 ·rw [hsplit,← hm,← e64];grind
theorem win_le {x y K a b ra rb:Nat} (ha:a=x*K+ra) (hb:b=y*K+rb) (hra:ra<K) (h:b≤a):y≤x:=by
 rcases Nat.lt_or_ge x y with h1 | h1
 ·have:(x+1)*K≤y*K:=Nat.mul_le_mul_right _ h1
  rw [Nat.succ_mul] at this
  omega
 ·exact h1
theorem sub_word (x z:Nat) (h:z≤x) (hx:x<B64):IntKind.u64.wrap ((x:Int) - z)=((x - z:Nat):Int):=by
 rw [show (x:Int) - z=((x - z:Nat):Int) by omega,wrap_nat,Nat.mod_eq_of_lt (by omega)]
theorem add_word (x z:Nat) (h:x+z<B64):IntKind.u64.wrap ((x:Int)+z)=((x+z:Nat):Int):=by
 rw [show (x:Int)+z=((x+z:Nat):Int) by omega,wrap_nat,Nat.mod_eq_of_lt h]
theorem mul_word (x z:Nat) (h:x*z<B64):IntKind.u64.wrap ((x:Int)*z)=((x*z:Nat):Int):=by
 rw [show (x:Int)*z=((x*z:Nat):Int) by push_cast;rfl,wrap_nat,Nat.mod_eq_of_lt h]
structure Sim (a b x0 y0 x y fA fB tA tB nA nB:Nat) (odd:Bool):Prop where
 leh:Lehm a b x0 y0 x y fA fB tA tB nA nB odd
 le:y≤x
 hx:x<B64
 b1:fA<B64
 b2:fB<B64
 b3:tA<B64
 b4:tB<B64
 b5:nA<B64
 b6:nB<B64
theorem Sim.start (a b x0 y0:Nat) (h:y0≤x0) (hx:x0<B64):Sim a b x0 y0 x0 y0 0 0 1 0 0 1 true:=
 ⟨Lehm.start a b x0 y0,h,hx,B64_pos,B64_pos,by decide,B64_pos,B64_pos,by decide⟩
theorem Sim.sum {a b x0 y0 x y fA fB tA tB nA nB:Nat} {odd:Bool} (h:Sim a b x0 y0 x y fA fB tA tB nA nB odd) (hx0:x0<B64) (c1:nB≤y):tB+nB<B64:=by
 have d:=h.leh.det
 have p:=h.leh.pos
 have hy:1≤y:=by omega
 have hx:1≤x:=by have:=h.le;omega
 have t1:nB≤x*nB:=Nat.le_mul_of_pos_left _ hx
 have t2:tB≤y*tB:=Nat.le_mul_of_pos_left _ hy
 omega
theorem Sim.step {a b x0 y0 x y fA fB tA tB nA nB:Nat} {odd:Bool} (h:Sim a b x0 y0 x y fA fB tA tB nA nB odd) {K a' b':Nat}
  (ea:a=x0*K+a') (eb:b=y0*K+b') (ha:a' < K) (hb:b' < K) (hx0:x0<B64) (c1:nB≤y) (c2:tB+nB≤x - y) :
  Sim a b x0 y0 y (x % y) tA tB nA nB (tA+x / y*nA) (tB+x / y*nB) (!odd)∧x / y*nA<B64∧x / y*nB<B64∧x / y<B64:=by
 have hs:=h.leh.step ea eb ha hb c1 c2
 have p:=h.leh.pos
 have hy:1≤y:=by omega
 have d:=hs.det
 have l1:=hs.le1
 have t1:tB+x / y*nB≤y*(tB+x / y*nB):=Nat.le_mul_of_pos_left _ hy
 have hlt:x % y<y:=Nat.mod_lt _ hy
 have hxy:x / y≤x:=Nat.div_le_self _ _
 have:=h.hx
 have:=h.le
 refine ⟨⟨hs,by omega,by omega,h.b3,h.b4,h.b5,h.b6,by omega,by omega⟩,by omega,by omega,by omega⟩
def SimOut (a b fA fB tA tB:Nat) (odd:Bool):Prop:=
 fA<B64∧fB<B64∧tA<B64∧tB<B64∧(fB≠0→∃ a2 b2:Nat,b2<a2∧a2≤b∧Nat.gcd a2 b2=Nat.gcd a b ∧
  (if odd then fA*a≤fB*b∧a2=fB*b - fA*a∧tB*b≤tA*a∧b2=tA*a - tB*b
  else fB*b≤fA*a∧a2=fA*a - fB*b∧tA*a≤tB*b∧b2=tB*b - tA*a))
theorem Sim.out {a b x0 y0 x y fA fB tA tB nA nB:Nat} {odd:Bool} (h:Sim a b x0 y0 x y fA fB tA tB nA nB odd):SimOut a b fA fB tA tB odd:=by
 refine ⟨h.b1,h.b2,h.b3,h.b4,fun hf=>?_⟩
 obtain ⟨o1,o2,o3,o4⟩:=h.leh.out hf
 simp only [← Int.natCast_mul] at o1 o2 o3 o4
 generalize fA*a=p at *
 generalize fB*b=q at *
 generalize tA*a=r at *
 generalize tB*b=s at *
 cases odd
 ·simp only [sg,Bool.false_eq_true,if_false,Int.one_mul] at *
  refine ⟨p - q,s - r,by omega,by omega,?_,by omega,rfl,by omega,rfl⟩
  rw [← o4,show (p:Int) - q=((p - q:Nat):Int) by omega,show (s:Int) - r=((s - r:Nat):Int) by omega]
  rfl
 ·simp only [sg,if_true] at *
  refine ⟨q - p,r - s,by omega,by omega,?_,by omega,rfl,by omega,rfl⟩
  rw [← o4,show -1*((p:Int) - q)=((q - p:Nat):Int) by omega,show -1*((s:Int) - r)=((r - s:Nat):Int) by omega]
  rfl
end Go.Proofs.YtnmlkobogofadaaGreatDoor
