/- What the proof rests on, part 3. -/
import Derived.Test.YtancpaiaoamjlaaGreatDoorZ02
import Derived.Test.YtancpaiaoamjlaaGreatDoorZ00
namespace Go.Proofs.YtancpaiaoamjlaaGreatDoor
set_option maxRecDepth 100000
set_option maxHeartbeats 80000000
section
open Go.RowKit Go.Sort
def qc (xs dk:List Nat) (d k r:Nat):Prop:=dk.length=xs.length∧Dig dk∧(∀ j:Nat,j<k→dk[j]?.getD 0=xs[j]?.getD 0)∧r<d∧k≤xs.length∧val (xs.drop k)=val (dk.drop k)*d+r
theorem qc.start {xs:List Nat} {d:Nat} (hx:Dig xs) (hd:0<d):qc xs xs d xs.length 0:=
 ⟨rfl,hx,fun _ _=>rfl,hd,Nat.le_refl _,by rw [List.drop_of_length_le (Nat.le_refl _)];simp [iU]⟩
theorem qc.step {xs dk:List Nat} {d k r x:Nat} (h:qc xs dk d (k+1) r) (hx:xs[k]?.getD 0=x) (hx1:x<B64):qc xs (dk.set k (kY r x d)) d k (jO r x d):=by
 obtain ⟨hl,hd,hg,hr,hk,hv⟩:=h
 refine ⟨by rw [List.length_set,hl],hd.set _ (Jo r x d hx1 hr),fun j hj=>?_,Jp r x d (by omega),by omega,?_⟩
 ·rw [List.getElem?_set_ne (by omega)];exact hg j (by omega)
 ·rw [fD xs k (by omega),hv,hx,fD (dk.set k _) k (by rw [List.length_set];omega),yH,List.getElem?_set_self (by omega)]
  simp only [Option.getD_some]
  have e:=Jr r x d
  generalize kY r x d=q at *
  generalize jO r x d=r' at *
  generalize val (dk.drop (k+1))=V at *
  grind
theorem NY (nx d b o cp:Nat) (xs:List Nat) (w:World) (hd:0<d) (hd1:d<B64) (hH:aB w b o xs) (hx:Dig xs) (hsz:xs.length≤1099511627776) (hnx:xs.length=nx) :
  Calls Tryz.prog 124 #[.slice (some ⟨b,o,none⟩) nx cp,.int .u64 (d:Int)] w (pX w b o xs.length fun ds r=>r<d∧val xs=val ds*d+r):=by
 subst hnx
 have HX:=hid hx
 have HH:=hid hH
 have HD:=hid hd
 have HD1:=hid hd1
 clear hx hH hd hd1
 go_enter Tryz.func124,Tryz.ntmps124
 go_wp2
 go_loopw [5,6] (fun rv iv wr=>∃ (k q r:Nat) (dk:List Nat),iv=.int .i64 ((k:Int) - 1)∧rv=.int .u64 r∧wr=aj w q b o dk∧qc xs dk d k r) (fun _ iv _=>(intOf iv+1).toNat)
 case atStart=>exact ⟨xs.length,0,0,xs,rfl,rfl,(jH _ _ _ _ HH.out).symm,qc.start HX.out HD.out⟩
 case round =>
  obtain ⟨k,q,r,dk,rfl,rfl,hwr,hS⟩:=hrel
  have hdl:=hS.1
  have hHk:aB wr b o dk:=by rw [hwr];exact bH _ _ _ _ _ _ HH.out hdl
  have hkx:=hS.2.2.2.2.1
  by_cases h0:0<k
  ·obtain ⟨m,rfl⟩:∃ m,k=m+1:=⟨k - 1,by omega⟩
   obtain ⟨x,hxk⟩:∃ x,xs[m]?.getD 0=x:=⟨_,rfl⟩
   have cx:wr.cell? ⟨b,o+m,none⟩=some (.int .u64 (x:Int)):=by rw [(hHk m (by omega)).1,hS.2.2.1 m (by omega),hxk]
   have fx:wr.frozen? ⟨b,o+m,none⟩=false:=(hHk m (by omega)).2
   have hx1:x<B64:=by rw [← hxk];exact HX.out.getD m
   have HS:=hid (hS.step hxk hx1)
   have HR:=hid hS.2.2.2.1
   have HX1:=hid hx1
   have HW:=hid hwr
   have HDL:=hid hdl
   clear hS hdl hHk hxk hx1 hwr h0
   go_wp2_with fail
   refine (AZ r x d HR.out HX1.out HD1.out _).mono ?_
   rintro e w' ⟨rfl,q1,rfl⟩
   go_wp2
   go_roundw
   case rel =>
    refine ⟨m,q+q1,_,_,by go_num,rfl,?_,HS.out⟩
    rw [HW.out,wL,iQ _ _ _ _ _ _ _ (by rw [HDL.out];omega)]
   case measure=>simp [intOf]
  ·obtain rfl:k=0:=by omega
   have HV:Hid (r<d∧val xs=val dk*d+r):=⟨hS.2.2.2.1,by have:=hS.2.2.2.2.2;simpa using this⟩
   have HDG:=hid hS.2.1
   have HDL:=hid hdl
   have HW:=hid hwr
   clear hS hdl hHk hwr
   go_wp2
   go_ret
   exact ⟨dk,r,q,rfl,HW.out,HDL.out,HDG.out,HV.out⟩
theorem OU (hi lo y:Nat) (hh:hi<y) (hl:lo<B64) (hy:y<B64) (w:World) :
  Calls Tryz.prog 110 #[.int .u64 (hi:Int),.int .u64 (lo:Int),.int .u64 (y:Int)] w fun e w'=>e=.returned (.int .u64 ((jO hi lo y:Nat):Int))∧∃ q,w' = w.drewN q:=by
 have hm:(hi:Int) % (y:Int)=(hi:Int):=Int.emod_eq_of_lt (by omega) (by omega)
 have HH:=hid hh
 have HL:=hid hl
 have HY:=hid hy
 have hy0:0<y:=by omega
 clear hh hl hy
 go_enter Tryz.func110,Tryz.ntmps110
 go_wp2_with fail
 refine (AZ hi lo y HH.out HL.out HY.out _).mono ?_
 rintro e w' ⟨rfl,q1,rfl⟩
 go_wp2
 go_ret
 exact ⟨rfl,q1,rfl⟩
theorem zN (nx d b o cp:Nat) (xs:List Nat) (w:World) (hd:0<d) (hd1:d<B64) (hH:aF w b o xs) (hx:Dig xs) (hsz:xs.length≤1099511627776) (hnx:xs.length=nx) :
  Calls Tryz.prog 80 #[.slice (some ⟨b,o,none⟩) nx cp,.int .u64 (d:Int)] w fun e w'=>e=.returned (.int .u64 ((val xs % d:Nat):Int))∧∃ q,w' = w.drewN q:=by
 subst hnx
 have HX:=hid hx
 have HH:=hid hH
 have HD:=hid hd
 have HD1:=hid hd1
 clear hx hH hd hd1
 go_enter Tryz.func80,Tryz.ntmps80
 go_wp2
 go_loopw [5,6] (fun rv iv wr=>∃ (k q r:Nat),iv=.int .i64 ((k:Int) - 1)∧rv=.int .u64 r∧wr=w.drewN q∧k≤xs.length∧r=val (xs.drop k) % d) (fun _ iv _=>(intOf iv+1).toNat)
 case atStart=>exact ⟨xs.length,0,0,rfl,rfl,rfl,Nat.le_refl _,by rw [List.drop_of_length_le (Nat.le_refl _)];simp [iU]⟩
 case round =>
  obtain ⟨k,q,r,rfl,rfl,hwr,hkx,hr⟩:=hrel
  by_cases h0:0<k
  ·obtain ⟨m,rfl⟩:∃ m,k=m+1:=⟨k - 1,by omega⟩
   obtain ⟨x,hxk⟩:∃ x,xs[m]?.getD 0=x:=⟨_,rfl⟩
   have cx:wr.cell? ⟨b,o+m,none⟩=some (.int .u64 (x:Int)):=by rw [hwr];exact (HH.out m (by omega)).trans (by rw [hxk])
   have HX1:Hid (x<B64):=by rw [← hxk];exact HX.out.getD m
   have HR:Hid (r<d):=by rw [hr];exact Nat.mod_lt _ HD.out
   have HS:Hid (jO r x d=val (xs.drop m) % d):=by
    show _=_
    rw [fD xs m (by omega),hxk,hr]
    unfold jO
    rw [Nat.add_comm,Nat.add_mod,Nat.mul_mod,Nat.mod_mod,← Nat.mul_mod,← Nat.add_mod,Nat.mul_comm]
   have HW:=hid hwr
   clear hr hxk hwr h0
   go_wp2_with fail
   refine (OU r x d HR.out HX1.out HD1.out _).mono ?_
   rintro e w' ⟨rfl,q1,rfl⟩
   go_wp2
   go_roundw
   case rel=>exact ⟨m,q+q1,_,by go_num,rfl,by rw [HW.out,World.drewN_drewN],by omega,HS.out⟩
   case measure=>simp [intOf]
  ·obtain rfl:k=0:=by omega
   have HR:Hid (r=val xs % d):=by show _=_;simpa using hr
   have HW:=hid hwr
   clear hr hwr
   go_wp2
   go_ret
   exact ⟨congrArg (fun t:Nat=>Ending.returned (.int .u64 (t:Int))) HR.out,q,HW.out⟩
def xu (w:World) (n:Nat) (v:Value) (e:Ending) (w':World):Prop:=
 ∃ (b o cp:Nat) (ds:List Nat),e=.returned (.tuple #[.slice (some ⟨b,o,none⟩) ds.length cp,v])∧b<w'.heap.size∧ds.length≤cp∧Dig ds∧aC ds∧val ds=n∧aF w' b o ds∧Below w.heap.size w w'
theorem xu.mk {w w':World} {b o k n:Nat} {v:Value} {ds:List Nat} (hb:b<w'.heap.size) (hd:Dig ds) (ht:dN ds k) (hv:val ds=n) (hD:aF w' b o ds) (hB:Below w.heap.size w w'):xu w n v (.returned (.tuple #[.slice (some ⟨b,o,none⟩) k k,v])) w':=by
 have hl:(ds.take k).length=k:=by rw [List.length_take];exact Nat.min_eq_left ht.1
 refine ⟨b,o,k,ds.take k,by rw [hl],hb,by omega,hd.take k,ht.trimmed,by rw [ht.val,hv],fun j hj=>?_,hB⟩
 rw [List.getElem?_take_of_lt (by omega)]
 exact hD j (by rw [hl] at hj;have:=ht.1;omega)
theorem SL (nx d b o cp:Nat) (xs:List Nat) (w:World) (hd:0<d) (hd1:d<B64) (hx:aF w b o xs) (hb:b<w.heap.size) (dx:Dig xs) (hsz:xs.length≤549755813888) (hnx:xs.length=nx) :
  Calls Tryz.prog 116 #[.slice (some ⟨b,o,none⟩) nx cp,.int .u64 (d:Int)] w (xu w (val xs / d) (.int .u64 ((val xs % d:Nat):Int))):=by
 subst hnx
 have hmk:=ig xs.length (by omega)
 have hcp:=kX 3 (aI w xs.length) w.heap.size 0 xs.length xs.length b o cp _ xs (dP w xs.length) (hx.below (bG w _) hb) (by simp) (by omega)
 have hZ:=dP w xs.length
 have e1:(List.replicate xs.length 0).drop xs.length=([]:List Nat):=by rw [List.drop_replicate,Nat.sub_self];rfl
 have HH:Hid (aB (aj (aI w xs.length) 0 w.heap.size 0 xs) w.heap.size 0 xs):=bH _ _ _ _ _ _ hZ (by simp)
 have HZ:=hid hZ
 have HDD:=hid hd
 have HD1:=hid hd1
 rw [e1,List.append_nil] at hcp
 clear e1 hZ hx hd hd1
 go_enter Tryz.func116,Tryz.ntmps116
 go_wp2_with fail
 refine (NY _ d w.heap.size 0 _ xs _ HDD.out HD1.out HH.out dx (by omega) rfl).mono ?_
 rintro e w' ⟨ds,r,q,rfl,rfl,hl,hdg,hr,hv⟩
 rw [qY _ _ _ _ _ _ _ hl,Nat.zero_add]
 have hq:Hid (val xs / d=val ds∧val xs % d=r):=by
  have:=HDD.out
  constructor
  ·rw [hv,Nat.mul_comm,Nat.mul_add_div this,Nat.div_eq_of_lt hr,Nat.add_zero]
  ·rw [hv,Nat.mul_comm,Nat.mul_add_mod,Nat.mod_eq_of_lt hr]
 have HD:Hid (aB (aj (aI w xs.length) q w.heap.size 0 ds) w.heap.size 0 ds):=bH _ _ _ _ _ _ HZ.out (by simpa using hl)
 have HL1:=hid hl
 clear hl hv hr hcp hmk
 go_wp2_with fail
 refine (jT _ w.heap.size 0 _ ds _ HD.out.aK (by rw [HL1.out];omega) (by rw [HL1.out];exact Nat.le_refl _) HL1.out).mono ?_
 rintro e w' ⟨k,rfl,ht,rfl⟩
 have HT:=hid ht
 clear ht
 go_wp2
 go_ret2
 rw [hq.out.1,hq.out.2]
 exact xu.mk (by simp [dG]) hdg HT.out rfl HD.out.aK ((bG w _).trans (dV _ _ _ _ _ (Nat.le_refl _)))
end
section
theorem Uy (B M high middle low by_ next r1 r2 digit:Nat) (hB:2≤B) (hm:middle<B) (hl:low<B) (hn:next<B) (hb:B≤2*by_)
  (h1:r1<M) (h2:r2<M)
  (hP:(high*B*B+middle*B+low)*M+r1<((by_*B+next)*M+r2)*B)
  (hd1:high<by_→digit=(high*B*B+middle*B+low) / (by_*B+next)) (hd2:by_≤high→digit=B - 1) :
  (high*B*B+middle*B+low)*M+r1<(digit+1)*((by_*B+next)*M+r2) ∧
   digit*((by_*B+next)*M+r2)≤(high*B*B+middle*B+low)*M+r1+((by_*B+next)*M+r2)∧digit<B:=by
 have hby:1≤by_:=by omega
 have hvB:B≤by_*B+next:=by
  have:=Nat.mul_le_mul_right B hby
  omega
 rcases Nat.lt_or_ge high by_ with hlt | hge
 ·have hd:=hd1 hlt
  generalize hu:high*B*B+middle*B+low=u at *
  generalize hv:by_*B+next=v at *
  have hv0:0<v:=by omega
  have e1:u<(digit+1)*v:=by rw [hd];have:=Nat.lt_div_mul_add (a:=u) hv0;rw [Nat.add_mul];omega
  have e2:digit*v≤u:=by rw [hd];exact Nat.div_mul_le_self u v
  have hdB:digit<B:=by
   rw [hd,Nat.div_lt_iff_lt_mul hv0]
   have q1:(high+1)*(B*B)≤by_*(B*B):=Nat.mul_le_mul_right _ hlt
   have q2:middle*B+low<B*B:=by
    have:=Nat.mul_le_mul_right B (show middle+1≤B from hm)
    rw [Nat.add_mul] at this;omega
   have q3:high*B*B=high*(B*B):=Nat.mul_assoc _ _ _
   have q4:by_*B*B=by_*(B*B):=Nat.mul_assoc _ _ _
   have q5:B*v=by_*B*B+B*next:=by rw [← hv];grind
   rw [Nat.add_mul] at q1
   omega
  refine ⟨?_,?_,hdB⟩
  ·have a1:(u+1)*M≤((digit+1)*v)*M:=Nat.mul_le_mul_right _ e1
   have a2:(digit+1)*(v*M+r2)=((digit+1)*v)*M+(digit+1)*r2:=by grind
   rw [a2]
   rw [Nat.add_mul] at a1
   omega
  ·have a1:(digit*v)*M≤u*M:=Nat.mul_le_mul_right _ e2
   have a2:digit*r2≤v*M:=Nat.mul_le_mul (by omega) (by omega)
   have a3:digit*(v*M+r2)=(digit*v)*M+digit*r2:=by grind
   omega
 ·have hd:=hd2 hge
  refine ⟨?_,?_,by omega⟩
  ·have:digit+1=B:=by omega
   rw [this,Nat.mul_comm B];exact hP
  ·obtain ⟨C,rfl⟩:∃ C,B=C+2:=⟨B - 2,by omega⟩
   have hd':digit=C+1:=by omega
   subst hd'
   have a1:C*(by_*(C+2)+next+1)≤by_*(C+2)*(C+2):=by
    have t1:C*(by_*(C+2)+next+1)≤C*(by_*(C+2)+(C+2)):=Nat.mul_le_mul_left _ (by omega)
    have t2:by_*(C+2)*(C+2)=C*(by_*(C+2))+2*by_*(C+2):=by grind
    have t3:C*(by_*(C+2)+(C+2))=C*(by_*(C+2))+C*(C+2):=by grind
    have t4:C*(C+2)≤2*by_*(C+2):=Nat.mul_le_mul_right _ (by omega)
    omega
   have a2:by_*(C+2)*(C+2)≤high*(C+2)*(C+2):=Nat.mul_le_mul_right _ (Nat.mul_le_mul_right _ hge)
   have a3:(C*(by_*(C+2)+next+1))*M≤(high*(C+2)*(C+2))*M:=Nat.mul_le_mul_right _ (Nat.le_trans a1 a2)
   have a4:C*((by_*(C+2)+next)*M+r2)≤(C*(by_*(C+2)+next+1))*M:=by
    have:C*r2≤C*M:=Nat.mul_le_mul_left _ (by omega)
    have e:(C*(by_*(C+2)+next+1))*M=C*((by_*(C+2)+next)*M)+C*M:=by grind
    have e':C*((by_*(C+2)+next)*M+r2)=C*((by_*(C+2)+next)*M)+C*r2:=by grind
    omega
   have a5:(high*(C+2)*(C+2)+middle*(C+2)+low)*M=(high*(C+2)*(C+2))*M+(middle*(C+2)+low)*M:=by grind
   have a6:(C+1)*((by_*(C+2)+next)*M+r2)=C*((by_*(C+2)+next)*M+r2)+((by_*(C+2)+next)*M+r2):=by grind
   omega
end
section
def jq (high middle low by_ next:Nat):Nat:=if high<by_ then (high*B64*B64+middle*B64+low) / (by_*B64+next) else B64 - 1
structure Dv (X V n M:Nat) (lf qs:List Nat) (k:Nat):Prop where
 ll:lf.length=M+n
 lq:qs.length=M
 dl:Dig lf
 dq:Dig qs
 kM:k≤M
 eq:val lf+V*(B64 ^ k*val (qs.drop k))=X
 lt:val (lf.drop k)<V
def partOf (lf:List Nat) (m n:Nat):List Nat:=(lf.drop m).take (n+1)
theorem aa5 {xs:List Nat} {n:Nat} (h:val xs<B64 ^ n) (hn:n≤xs.length):val (xs.drop n)=0:=by
 have:=cO xs n hn
 rcases Nat.eq_zero_or_pos (val (xs.drop n)) with h0 | h0
 ·exact h0
 ·have:B64 ^ n*1≤B64 ^ n*val (xs.drop n):=Nat.mul_le_mul_left _ h0
  omega
theorem qm {B x v V:Nat} (hx:x<B) (hv:v<V):x+B*v<V*B:=by
 have h2:B*(v+1)≤B*V:=Nat.mul_le_mul_left _ hv
 rw [Nat.mul_add] at h2
 rw [Nat.mul_comm V]
 omega
theorem Dv.part {X V n M m:Nat} {lf qs:List Nat} (h:Dv X V n M lf qs (m+1)) (hV:V<B64 ^ n) :
  (partOf lf m n).length=n+1∧Dig (partOf lf m n)∧val (lf.drop m)=val (partOf lf m n)∧val (lf.drop (m+(n+1)))=0∧val (partOf lf m n)<V*B64:=by
 have hl:=h.ll
 have hk:=h.kM
 have h0:val ((lf.drop (m+1)).drop n)=0:=aa5 (Nat.lt_trans h.lt hV) (by rw [List.length_drop];omega)
 rw [List.drop_drop,show m+1+n=m+(n+1) by omega] at h0
 have h1:val (lf.drop m)=val (partOf lf m n):=by
  have h5:=cO (lf.drop m) (n+1) (by rw [List.length_drop];omega)
  rw [List.drop_drop,h0,Nat.mul_zero,Nat.add_zero] at h5
  exact h5
 refine ⟨by rw [partOf,List.length_take,List.length_drop];omega,(h.dl.drop m).take _,h1,h0,?_⟩
 have h6:=fD lf m (by omega)
 rw [← h1,h6]
 exact qm (h.dl.getD m) h.lt
theorem ZW {xs:List Nat} {n:Nat} (hl:xs.length=n+1) (hn:2≤n):val xs=(xs[n]?.getD 0*B64*B64+xs[n - 1]?.getD 0*B64+xs[n - 2]?.getD 0)*B64 ^ (n - 2)+val (xs.take (n - 2)):=by
 rw [cO xs (n - 2) (by omega),fD xs (n - 2) (by omega),fD xs (n - 2+1) (by omega),fD xs (n - 2+1+1) (by omega),show n - 2+1+1=n by omega,show n - 2+1=n - 1 by omega,List.drop_of_length_le (by omega),iU]
 generalize xs[n]?.getD 0=a
 generalize xs[n - 1]?.getD 0=b
 generalize xs[n - 2]?.getD 0=c
 generalize B64 ^ (n - 2)=P
 generalize B64=B
 grind
theorem ZX {xs:List Nat} {n:Nat} (hl:xs.length=n) (hn:2≤n):val xs=(xs[n - 1]?.getD 0*B64+xs[n - 2]?.getD 0)*B64 ^ (n - 2)+val (xs.take (n - 2)):=by
 rw [cO xs (n - 2) (by omega),fD xs (n - 2) (by omega),fD xs (n - 2+1) (by omega),show n - 2+1=n - 1 by omega,List.drop_of_length_le (by omega),iU]
 generalize xs[n - 1]?.getD 0=b
 generalize xs[n - 2]?.getD 0=c
 generalize B64 ^ (n - 2)=P
 generalize B64=B
 grind
theorem Uz {ps bs:List Nat} {n:Nat} (hp:ps.length=n+1) (hb:bs.length=n) (hn:2≤n) (dp:Dig ps) (db:Dig bs) (hhalf:B64≤2*bs[n - 1]?.getD 0) (hlt:val ps<val bs*B64) :
  val ps<(jq (ps[n]?.getD 0) (ps[n - 1]?.getD 0) (ps[n - 2]?.getD 0) (bs[n - 1]?.getD 0) (bs[n - 2]?.getD 0)+1)*val bs ∧
   jq (ps[n]?.getD 0) (ps[n - 1]?.getD 0) (ps[n - 2]?.getD 0) (bs[n - 1]?.getD 0) (bs[n - 2]?.getD 0)*val bs≤val ps+val bs ∧
   jq (ps[n]?.getD 0) (ps[n - 1]?.getD 0) (ps[n - 2]?.getD 0) (bs[n - 1]?.getD 0) (bs[n - 2]?.getD 0)<B64:=by
 have r1:=aV (dp.take (n - 2))
 have r2:=aV (db.take (n - 2))
 rw [List.length_take,Nat.min_eq_left (by omega)] at r1 r2
 have e1:=ZW hp hn
 have e2:=ZX hb hn
 have m1:=dp.getD (n - 1)
 have m2:=dp.getD (n - 2)
 have m3:=db.getD (n - 2)
 rw [e1,e2] at hlt ⊢
 exact Uy B64 (B64 ^ (n - 2)) _ _ _ _ _ _ _ _ (by decide) m1 m2 m3 hhalf r1 r2 hlt (fun h=>by unfold jq;rw [if_pos h]) (fun h=>by unfold jq;rw [if_neg (by omega)])
theorem VG {T K y:Nat} (h:T<K):T+K*y<K*(y+1):=by rw [Nat.mul_add];omega
theorem KH {K r v P:Nat} (h:K*1≤K*r) (hv:v<K):¬ P+K*r=v+0:=by omega
theorem ZU {s y:Nat} (hs:s≤63) (h:y*2 ^ s<B64):(y+1)*2 ^ s≤B64:=by
 have e:2 ^ s*2 ^ (64 - s)=B64:=by rw [← Nat.pow_add,show s+(64 - s)=64 by omega];rfl
 rw [Nat.mul_comm] at e
 rw [← e] at h ⊢
 exact Nat.mul_le_mul_right _ (Nat.lt_of_mul_lt_mul_right h)
theorem digit_ok {P V d c h R K:Nat} (hV:V<K) (e:R+d*V+h*K=P+c*K) (h1:P<(d+1)*V) (hc:c≤h):c=h∧R+d*V=P∧R<V:=by
 rw [Nat.add_mul] at h1
 have hh:h=c:=by
  rcases Nat.lt_or_ge c h with h2 | h2
  ·have:(c+1)*K≤h*K:=Nat.mul_le_mul_right _ h2
   rw [Nat.add_mul] at this
   omega
  ·omega
 subst hh
 exact ⟨rfl,by omega,by omega⟩
theorem SB {P V d c h R K:Nat} (hR:R<K) (e:R+d*V+h*K=P+c*K) (hc:h<c):1≤d:=by
 rcases Nat.eq_zero_or_pos d with h0 | h0
 ·subst h0
  have:(h+1)*K≤c*K:=Nat.mul_le_mul_right _ hc
  rw [Nat.add_mul] at this
  omega
 ·exact h0
theorem SA {P V d c h R K E c2:Nat} (hR:R<K) (hE:E<K) (e:R+d*V+h*K=P+c*K) (e2:E+c2*K=R+V) (h2:d*V≤P+V) (hc:h<c) (hc2:c2≤1) :
  1≤d∧c2≤c∧c - c2=h∧E+(d - 1)*V=P∧E<V:=by
 have hd:1≤d:=by
  rcases Nat.eq_zero_or_pos d with h0 | h0
  ·subst h0
   have:(h+1)*K≤c*K:=Nat.mul_le_mul_right _ hc
   rw [Nat.add_mul] at this
   omega
  ·exact h0
 obtain ⟨f,rfl⟩:∃ f,d=f+1:=⟨d - 1,by omega⟩
 rw [Nat.add_sub_cancel]
 rw [Nat.add_mul] at e h2
 have h3:P<f*V+V:=by
  have:(h+1)*K≤c*K:=Nat.mul_le_mul_right _ hc
  rw [Nat.add_mul] at this
  omega
 have h4:E+f*V+h*K+c2*K=P+c*K:=by omega
 have hcc:h+c2=c:=by
  rcases Nat.lt_trichotomy (h+c2) c with h5 | h5 | h5
  ·have:(h+c2+1)*K≤c*K:=Nat.mul_le_mul_right _ h5
   rw [Nat.add_mul,Nat.add_mul] at this
   omega
  ·exact h5
  ·have:(c+1)*K≤(h+c2)*K:=Nat.mul_le_mul_right _ h5
   rw [Nat.add_mul,Nat.add_mul] at this
   omega
 subst hcc
 rw [Nat.add_mul] at h4
 exact ⟨hd,by omega,by omega,by omega,by omega⟩
theorem step_eq (T S R V d B Q:Nat):T+S*R+V*(S*(d+B*Q))=T+S*(R+d*V)+V*(S*B*Q):=by grind
theorem Dv.step {X V n M m d:Nat} {lf qs ps:List Nat} (h:Dv X V n M lf qs (m+1)) (hV:V<B64 ^ n) (hp:ps.length=n+1) (dp:Dig ps) (hd:d<B64) (e:val ps+d*V=val (partOf lf m n)) (hlt:val ps<V) :
  Dv X V n M (lf.take m ++ ps ++ lf.drop (m+ps.length)) (qs.set m d) m:=by
 obtain ⟨p1,p2,p3,p4,p5⟩:=h.part hV
 have hl:=h.ll
 have hk:=h.kM
 have hq:=h.lq
 have ht:(lf.take m).length=m:=by rw [List.length_take];omega
 have e1:val (lf.take m ++ ps ++ lf.drop (m+ps.length))=val (lf.take m)+B64 ^ m*val ps:=by
  rw [hp,List.append_assoc,val_append,val_append,p4,ht,Nat.mul_zero,Nat.add_zero]
 refine ⟨by simp;omega,by rw [List.length_set,hq],((h.dl.take m).append dp).append (h.dl.drop _),h.dq.set _ hd,by omega,?_,?_⟩
 ·rw [e1,fD (qs.set m d) m (by rw [List.length_set];omega),yH,List.getElem?_set_self (by omega)]
  have e2:=h.eq
  rw [cO lf m (by omega),p3,← e,Nat.pow_succ] at e2
  simp only [Option.getD_some]
  rw [← e2]
  exact step_eq _ _ _ _ _ _ _
 ·rw [List.append_assoc,List.drop_append,ht,Nat.sub_self,List.drop_zero,List.drop_of_length_le (by omega),List.nil_append,val_append,hp,p4,Nat.mul_zero,Nat.add_zero]
  exact hlt
theorem Dv.last {X V n M:Nat} {lf qs:List Nat} (h:Dv X V n M lf qs 0):val lf+V*val qs=X∧val lf<V:=by
 have h1:=h.eq
 have h2:=h.lt
 simp at h1 h2
 exact ⟨h1,h2⟩
theorem Dv.start {X V n M:Nat} {lf:List Nat} (hl:lf.length=M+n) (dl:Dig lf) (hX:val lf=X) (h:X<V*B64 ^ M):Dv X V n M lf (List.replicate M 0) M:=by
 refine ⟨hl,by simp,dl,fun d hd=>by rw [List.eq_of_mem_replicate hd];exact aT,Nat.le_refl _,?_,?_⟩
 ·rw [List.drop_of_length_le (by simp),iU];simpa using hX
 ·have:=cO lf M (by omega)
  rcases Nat.lt_or_ge (val (lf.drop M)) V with h1 | h1
  ·exact h1
  ·have h2:B64 ^ M*V≤B64 ^ M*val (lf.drop M):=Nat.mul_le_mul_left _ h1
   rw [Nat.mul_comm V] at h
   omega
theorem aa0 {x y T q r:Nat} (hT:0<T) (e:r+y*T*q=x*T) (h:r<y*T):q=x / y∧r / T=x % y:=by
 have hy:0<y:=by
  rcases Nat.eq_zero_or_pos y with h0 | h0
  ·subst h0;simp at h
  ·exact h0
 have hd:x / y=q:=by
  rw [← Nat.mul_div_mul_right x y hT,← e,Nat.add_comm,Nat.mul_add_div (Nat.mul_pos hy hT),Nat.div_eq_of_lt h,Nat.add_zero]
 have hm:(x % y)*T=r:=by
  rw [← Nat.mul_mod_mul_right,← e,Nat.add_comm,Nat.mul_add_mod,Nat.mod_eq_of_lt h]
 exact ⟨hd.symm,by rw [← hm,Nat.mul_div_cancel _ hT]⟩
end
section
open Go.RowKit Go.Sort
structure Gs (U low by_ next q r:Nat):Prop where
 rest:q*by_+r=U
 rlt:r<B64
 qlt:q<B64
 big:U*B64+low<(q+1)*(by_*B64+next)
theorem Gs.start {U low by_ next q r:Nat} (e:q*by_+r=U) (hr:r<by_) (hb:by_<B64) (hq:q<B64) (hl:low<B64):Gs U low by_ next q r:=by
 refine ⟨e,by omega,hq,?_⟩
 have h1:U+1≤(q+1)*by_:=by rw [Nat.add_mul];omega
 have h2:(U+1)*B64≤(q+1)*by_*B64:=Nat.mul_le_mul_right _ h1
 have h3:(q+1)*(by_*B64+next)=(q+1)*by_*B64+(q+1)*next:=by rw [Nat.mul_add,Nat.mul_assoc]
 rw [Nat.add_mul] at h2
 omega
theorem Gs.expand {U by_ next q r:Nat} (e:q*by_+r=U):q*(by_*B64+next)+r*B64=U*B64+q*next:=by
 have h2:(q*by_+r)*B64=U*B64:=by rw [e]
 have h3:q*(by_*B64+next)=q*by_*B64+q*next:=by rw [Nat.mul_add,Nat.mul_assoc]
 rw [Nat.add_mul] at h2
 omega
theorem Gs.step {U low by_ next q r:Nat} (h:Gs U low by_ next q r) (ht:r*B64+low<q*next):1≤q∧(q - 1)*by_+(r+by_)=U∧U*B64+low<(q - 1+1)*(by_*B64+next):=by
 have he:=Gs.expand (next:=next) h.rest
 have hq:1≤q:=by
  rcases Nat.eq_zero_or_pos q with h0 | h0
  ·subst h0;omega
  ·exact h0
 obtain ⟨p,rfl⟩:∃ p,q=p+1:=⟨q - 1,by omega⟩
 refine ⟨hq,?_,?_⟩
 ·have:=h.rest;rw [Nat.add_mul] at this;rw [Nat.add_sub_cancel];omega
 ·rw [Nat.add_sub_cancel];omega
theorem EC {U low by_ next q r:Nat} (e:q*by_+r=U) (hb:U*B64+low<(q+1)*(by_*B64+next)) (ht:q*next≤r*B64+low) (hp:0<by_):q=(U*B64+low) / (by_*B64+next):=by
 have he:=Gs.expand (next:=next) e
 have hpos:0<by_*B64+next:=by have:=Nat.mul_pos hp aT;omega
 symm
 rw [Nat.div_eq_iff hpos]
 constructor
 ·omega
 ·rw [Nat.add_mul] at hb;omega
theorem Z7 {o u r l p:Nat} (hu:u<B64) (hl:l<B64) (e:u+B64*o=p):p≤r*B64+l↔o<r∨o=r∧u≤l:=by
 rw [Nat.mul_comm] at e
 constructor
 ·intro h
  rcases Nat.lt_trichotomy o r with h1 | h1 | h1
  ·exact .inl h1
  ·subst h1;exact .inr ⟨rfl,by omega⟩
  ·have:=Nat.mul_le_mul_right B64 (show r+1≤o from h1)
   rw [Nat.add_mul] at this
   omega
 ·rintro (h1 | ⟨rfl,h1⟩)
  ·have:=Nat.mul_le_mul_right B64 (show o+1≤r from h1)
   rw [Nat.add_mul] at this
   omega
  ·omega
def OW (w:World) (n:Nat) (e:Ending) (w':World):Prop:=e=.returned (.int .u64 (n:Int))∧∃ q,w' = w.drewN q
theorem Uw (high middle low by_ next:Nat) (h2:middle<B64) (h3:low<B64) (h4:by_<B64) (h5:next<B64) (hp:0<by_) (w:World) :
  Calls Tryz.prog 137 #[.int .u64 (high:Int),.int .u64 (middle:Int),.int .u64 (low:Int),.int .u64 (by_:Int),.int .u64 (next:Int)] w (OW w (jq high middle low by_ next)):=by
 by_cases hlt:high<by_
 ·have HG:Hid (jq high middle low by_ next=((high*B64+middle)*B64+low) / (by_*B64+next)):=by
   show _=_
   unfold jq
   rw [if_pos hlt,Nat.add_mul]
  have HSt:=hid (Gs.start (next:=next) (Jr high middle by_) (Jp high middle by_ hp) h4 (Jo high middle by_ h2 hlt) h3)
  have hd:decide (by_≤high)=false:=decide_eq_false (by omega)
  have ha:=rZ
  have H2:=hid h2
  have H3:=hid h3
  have H4:=hid h4
  have H5:=hid h5
  have HLT:=hid hlt
  have HP:=hid hp
  clear h2 h3 h4 h5 hlt hp
  go_enter Tryz.func137,Tryz.ntmps137
  go_wp2_with fail
  refine (AZ high middle by_ HLT.out H2.out H4.out _).mono ?_
  rintro e w' ⟨rfl,q1,rfl⟩
  clear hd
  go_wp2_with fail
  go_loop [11,12] (fun qv rv=>∃ q r:Nat,qv=.int .u64 q∧rv=.int .u64 r∧Gs (high*B64+middle) low by_ next q r) (fun qv _=>(intOf qv).toNat)
  case atStart=>exact ⟨_,_,rfl,rfl,HSt.out⟩
  case round =>
   clear HSt
   obtain ⟨q,r,rfl,rfl,hG⟩:=hrel
   have hq:=hid hG.qlt
   have htd:=Z7 (r:=r) (zT q next) H3.out (qQ q next)
   obtain ⟨ov,eov⟩:∃ u,iq q next=u:=⟨_,rfl⟩
   obtain ⟨un,eun⟩:∃ u,mulL q next=u:=⟨_,rfl⟩
   have HM:Hid (∀ W,Calls Tryz.prog 84 #[.int .u64 (q:Int),.int .u64 (next:Int)] W fun e w'=>e=.returned (.tuple #[.int .u64 (ov:Int),.int .u64 (un:Int)])∧W=w'):=fun W=>by
    rw [← eov,← eun];exact pJ q next hq.out H5.out W
   rw [eov,eun] at htd
   have HTD:=hid htd
   have HGG:=hid hG
   clear htd eov eun hG
   by_cases c1:ov<r
   ·have d1:decide (ov<r)=true:=decide_eq_true c1
    have HF:Hid (q=jq high middle low by_ next):=by
     show _=_
     rw [HG.out];exact EC HGG.out.rest HGG.out.big (HTD.out.2 (.inl c1)) HP.out
    clear c1
    go_wp2_with (first | go_big_skip | (go_at_call 84;refine (HM.out _).mono ?_;rintro e w' ⟨rfl,rfl⟩))
    go_ret
    exact ⟨congrArg (fun t:Nat=>Ending.returned (.int .u64 (t:Int))) HF.out,q1,rfl⟩
   ·have d1:decide (ov<r)=false:=decide_eq_false c1
    by_cases c2:ov=r∧un≤low
    ·have d2:((ov:Int) == (r:Int))=true:=by rw [beq_iff_eq];omega
     have d3:decide (un≤low)=true:=decide_eq_true c2.2
     have HF:Hid (q=jq high middle low by_ next):=by
      show _=_
      rw [HG.out];exact EC HGG.out.rest HGG.out.big (HTD.out.2 (.inr c2)) HP.out
     clear c1 c2
     go_wp2_with (first | go_big_skip | (go_at_call 84;refine (HM.out _).mono ?_;rintro e w' ⟨rfl,rfl⟩))
     go_ret
     exact ⟨congrArg (fun t:Nat=>Ending.returned (.int .u64 (t:Int))) HF.out,q1,rfl⟩
    ·have hgt:r*B64+low<q*next:=by
      have:=HTD.out
      rcases Nat.lt_or_ge (r*B64+low) (q*next) with h | h
      ·exact h
      ·rcases this.1 h with h' | h'
       ·exact absurd h' c1
       ·exact absurd h' c2
     obtain ⟨t1,t2,t3⟩:=HGG.out.step hgt
     have hqq:=hq.out
     have w1:IntKind.u64.wrap ((q:Int) - 1)=((q - 1:Nat):Int):=by rw [show ((q - 1:Nat):Int)=(q:Int) - 1 by omega];exact IntWalk.u64_in _ (by unfold B64 at hqq;omega)
     have hlt:Hid (q - 1<q):=by show _<_;omega
     obtain ⟨q',eq'⟩:∃ u,q - 1=u:=⟨_,rfl⟩
     rw [eq'] at w1 t2 t3 hlt
     have hs:=lV r by_ 0
     have hsl:=nP r by_ 0
     obtain ⟨sm,esm⟩:∃ u,bF r by_ 0=u:=⟨_,rfl⟩
     obtain ⟨cy,ecy⟩:∃ u,dX r by_ 0=u:=⟨_,rfl⟩
     have ha':=ha r by_
     rw [esm,ecy] at ha'
     rw [esm,ecy] at hs
     rw [esm] at hsl
     have T2:=hid t2
     have T3:=hid t3
     have HS:=hid hs
     have HSL:=hid hsl
     have hq':Hid (q' < B64):=by show _<_;omega
     have tail:∀ (X:Prop),(cy=0→X)→(cy≠0→X)→X:=fun X a b=>by by_cases h:cy=0;exact a h;exact b h
     by_cases cc:cy=0
     ·have d4:((cy:Int) != 0)=false:=by rw [bne_eq_false_iff_eq];omega
      have HN:Hid (Gs (high*B64+middle) low by_ next q' sm):=by
       have e:sm=r+by_:=by have:=HS.out;rw [cc] at this;omega
       exact ⟨by rw [e];exact T2.out,HSL.out,hq'.out,T3.out⟩
      by_cases c3:ov=r
      ·have d2:((ov:Int) == (r:Int))=true:=by rw [beq_iff_eq];omega
       have d3:decide (un≤low)=false:=decide_eq_false (fun h=>c2 ⟨c3,h⟩)
       clear ha c1 c2 c3 hgt t1 t2 t3 eq' esm ecy hs hsl cc hqq tail
       go_wp2_with (first | go_big_skip | (go_at_call 84;refine (HM.out _).mono ?_;rintro e w' ⟨rfl,rfl⟩))
       go_round
       case rel=>exact ⟨q',sm,rfl,rfl,HN.out⟩
       case measure=>simpa [intOf] using hlt.out
      ·have d2:((ov:Int) == (r:Int))=false:=by rw [beq_eq_false_iff_ne];omega
       clear ha c1 c2 c3 hgt t1 t2 t3 eq' esm ecy hs hsl cc hqq tail
       go_wp2_with (first | go_big_skip | (go_at_call 84;refine (HM.out _).mono ?_;rintro e w' ⟨rfl,rfl⟩))
       go_round
       case rel=>exact ⟨q',sm,rfl,rfl,HN.out⟩
       case measure=>simpa [intOf] using hlt.out
     ·have d4:((cy:Int) != 0)=true:=by rw [bne_iff_ne];omega
      have HF:Hid (q' = jq high middle low by_ next):=by
       show _=_
       rw [HG.out]
       refine EC T2.out T3.out ?_ HP.out
       have e1:B64≤r+by_:=by
        have h6:=HS.out
        have h7:B64*1≤B64*cy:=Nat.mul_le_mul_left _ (by omega)
        omega
       have e2:q' * next≤B64*B64:=Nat.mul_le_mul (Nat.le_of_lt hq'.out) (Nat.le_of_lt H5.out)
       have e3:B64*B64≤(r+by_)*B64:=Nat.mul_le_mul_right _ e1
       omega
      by_cases c3:ov=r
      ·have d2:((ov:Int) == (r:Int))=true:=by rw [beq_iff_eq];omega
       have d3:decide (un≤low)=false:=decide_eq_false (fun h=>c2 ⟨c3,h⟩)
       clear ha c1 c2 c3 hgt t1 t2 t3 eq' esm ecy hs hsl cc hqq tail
       go_wp2_with (first | go_big_skip | (go_at_call 84;refine (HM.out _).mono ?_;rintro e w' ⟨rfl,rfl⟩))
       go_ret
       exact ⟨congrArg (fun t:Nat=>Ending.returned (.int .u64 (t:Int))) HF.out,q1,rfl⟩
      ·have d2:((ov:Int) == (r:Int))=false:=by rw [beq_eq_false_iff_ne];omega
       clear ha c1 c2 c3 hgt t1 t2 t3 eq' esm ecy hs hsl cc hqq tail
       go_wp2_with (first | go_big_skip | (go_at_call 84;refine (HM.out _).mono ?_;rintro e w' ⟨rfl,rfl⟩))
       go_ret
       exact ⟨congrArg (fun t:Nat=>Ending.returned (.int .u64 (t:Int))) HF.out,q1,rfl⟩
 ·have HG:Hid (jq high middle low by_ next=B64 - 1):=by
   show _=_
   unfold jq
   rw [if_neg hlt]
  have hd:decide (by_≤high)=true:=decide_eq_true (by omega)
  clear h2 h3 h4 h5 hlt
  go_enter Tryz.func137,Tryz.ntmps137
  go_wp2_with fail
  go_ret
  exact ⟨by rw [HG.out];rfl,0,rfl⟩
end
end Go.Proofs.YtancpaiaoamjlaaGreatDoor
