/- What the proof rests on, part 33. -/
import Derived.Test.YtefbfbdijimanaaGreatDoorP32
import Derived.Test.YtefbfbdijimanaaGreatDoorP26
import Derived.Test.YtefbfbdijimanaaGreatDoorP22
import Derived.Test.YtefbfbdijimanaaGreatDoorP27
namespace Go.Proofs.YtefbfbdijimanaaGreatDoor
set_option maxRecDepth 100000
set_option maxHeartbeats 80000000
namespace Rx
open Go.RowKit
def isY (t:Bool) (e:RE):Option (SV×List Fd)→Bool
 | some (.e (.a [.bl x,.os s]),fs)=>match iE fs s with
  | some (e',_)=>x == t && e'.beq e
  | none=>false
 | _=>false
theorem Wh {t:Bool} {e:RE} {o:Option (SV×List Fd)} (h:isY t e o=true):∃ s fs k,o=some (.e (.a [.bl t,.os s]),fs)∧iE fs s=some (e,k):=by
 unfold isY at h
 split at h
 ·split at h
  ·rename_i x s fs _ e' k ha
   simp only [Bool.and_eq_true,beq_iff_eq] at h
   exact ⟨s,fs,k,by rw [h.1],by rw [ha,RE.beq_eq h.2]⟩
  ·cases h
 ·cases h
def isJ (x:Int):Option (SV×List Fd)→Bool
 | some (.e (.s (.it .i64 y)),_)=>x == y
 | _=>false
theorem JR {x:Int} {o:Option (SV×List Fd)} (h:isJ x o=true):∃ fs,o=some (.e (.s (.it .i64 x)),fs):=by
 unfold isJ at h
 split at h
 ·rename_i y fs
  have e:x=y:=by simpa using h
  subst e;exact ⟨fs,rfl⟩
 ·cases h
section
variable {a b:Int} {v1 v2:Value} {w:World}
theorem Gm {f:FuncId} {R:Ending→World→Prop} (h1:Z4.IsZ w v1 a) (h2:Z4.IsZ w v2 b) (ka:a.natAbs<B64 ^ K1) (kb:b.natAbs<B64 ^ K1)
  (go:∀ ρ:Env,(∀ g∈[Fd.l 0 (.v 0) K1,.l 1 (.v 1) K1],Fd.on (bet [((a.natAbs:Nat):Rat),((b.natAbs:Nat):Rat)]) ρ g w)→Calls Tryz.prog f ([.e (.a [.bl (decide (a<0)),.os 0]),.e (.a [.bl (decide (b<0)),.os 1])].map (SV.den ρ)).toArray w R):Calls Tryz.prog f #[v1,v2] w R:=by
 obtain ⟨p1,l1,c1,xs,rfl,L1,dx,tx,hv1⟩:=h1
 obtain ⟨p2,l2,c2,ys,rfl,L2,dy,ty,hv2⟩:=h2
 refine go (ev [⟨false,0,p1,l1,c1,.empty,0,default⟩,⟨false,0,p2,l2,c2,.empty,0,default⟩]) fun g hg=>?_
 simp only [List.mem_cons,List.not_mem_nil,or_false] at hg
 rcases hg with rfl | rfl
 ·exact ⟨xs,L1,dx,tx,by rw [hv1];rfl,by rw [hv1];exact ka⟩
 ·exact ⟨ys,L2,dy,ty,by rw [hv2];rfl,by rw [hv2];exact kb⟩
theorem oD {β:Nat→Rat} {h:Hint} (ok:h.Ok β) {fuel:Nat} {f:FuncId} {args:List SV} {fs:List Fd} {n0:Nat} {ρ:Env} {t:Bool} {e:RE} {z:Int} (hr:isY t e (aV Tryz.prog (SR β) (HR β) (cz β h) fuel f args fs n0)=true) (hE:EV w) (hf:∀ g∈fs,Fd.on β ρ g w)
  (hz:∀ n:Nat,((n:Nat):Rat)=e.ev β→n=z.natAbs∧t=decide (z<0)):Calls Tryz.prog f (args.map (SV.den ρ)).toArray w (Z4.dB w z):=by
 obtain ⟨s,fs',k,heq,ha⟩:=Wh hr
 refine (fU mixed (DL ok) heq (dU hE) hf).mono fun x W' ⟨ρ',_,hx,hb,hfs⟩=>?_
 obtain ⟨xs,g1,g2,g3,g4,g5⟩:=hfs _ (gK ha)
 obtain ⟨h1,h2⟩:=hz _ g4
 exact ⟨_,hx,⟨_,_,_,xs,by rw [h2];rfl,g1,g2,g3,h1⟩,hb⟩
theorem oC {β:Nat→Rat} {h:Hint} (ok:h.Ok β) {fuel:Nat} {f:FuncId} {args:List SV} {fs:List Fd} {n0:Nat} {ρ:Env} {y:Int} (hr:isJ y (aV Tryz.prog (SR β) (HR β) (cz β h) fuel f args fs n0)=true) (hE:EV w) (hf:∀ g∈fs,Fd.on β ρ g w):Calls Tryz.prog f (args.map (SV.den ρ)).toArray w (bH w (.int .i64 y)):=by
 obtain ⟨fs',heq⟩:=JR hr
 exact (fU mixed (DL ok) heq (dU hE) hf).mono fun x W' ⟨ρ',_,hx,hb,_⟩=>⟨hx,hb⟩
theorem jg {β:Nat→Rat} {l:List (RE×RE×Int)} {nz:List RE} {eq:List (RE×RE)} (h:∀ p∈l,aN (p.1.ev β) (p.2.1.ev β)=p.2.2) (h2:∀ p∈nz,p.ev β≠0) (h3:∀ p∈eq,p.1.ev β=p.2.ev β):Hint.Ok β { cm:=l,nz:=nz,eq:=eq }:=
 ⟨h3,fun p h=>(by cases h),h2,fun p h=>(by cases h),h⟩
abbrev x0:RE:=.v 0
abbrev x1:RE:=.v 1
theorem qB {m n k:Nat} (h:((k:Nat):Rat)=((m:Nat):Rat) - ((n:Nat):Rat)):(k:Int)=m - n:=by
 have:((k+n:Nat):Rat)=((m:Nat):Rat):=by rw [Rat.natCast_add,h];grind
 have:k+n=m:=by exact_mod_cast this
 omega
theorem KP {m n k:Nat} (h:((k:Nat):Rat)=((m:Nat):Rat)+((n:Nat):Rat)):k=m+n:=by
 rw [← Rat.natCast_add] at h
 exact_mod_cast h
theorem NP {m n:Nat} (h:m≠n):((m:Nat):Rat) - ((n:Nat):Rat)≠0:=fun e=>h (by
 have:((m:Nat):Rat)=((n:Nat):Rat):=by grind
 exact_mod_cast this)
theorem xJ (m n:Nat):(aN (m:Rat) (n:Rat)=1∧aN (n:Rat) (m:Rat) = -1∧n<m)∨(aN (m:Rat) (n:Rat)=0∧aN (n:Rat) (m:Rat)=0∧m=n)∨(aN (m:Rat) (n:Rat) = -1∧aN (n:Rat) (m:Rat)=1∧m<n):=by
 rw [rG,rG]
 unfold aC
 rcases Nat.lt_trichotomy m n with h | h | h
 ·right;right;rw [if_pos h,if_neg (by omega),if_neg (by omega)];exact ⟨rfl,rfl,h⟩
 ·right;left;subst h;simp
 ·left;rw [if_neg (by omega),if_neg (by omega),if_pos h];exact ⟨rfl,rfl,h⟩
theorem aaZ (h1:Z4.IsZ w v1 a) (h2:Z4.IsZ w v2 b) (ka:a.natAbs<B64 ^ K1) (kb:b.natAbs<B64 ^ K1) (hE:EV w):Calls Tryz.prog 83 #[v1,v2] w (Z4.dB w (a+b)):=by
 refine Gm h1 h2 ka kb fun ρ hg=>?_
 obtain ⟨β,hβ⟩:∃ β,β=bet [((a.natAbs:Nat):Rat),((b.natAbs:Nat):Rat)]:=⟨_,rfl⟩
 have e0:RE.ev β x0=((a.natAbs:Nat):Rat):=by rw [hβ];rfl
 have e1:RE.ev β x1=((b.natAbs:Nat):Rat):=by rw [hβ];rfl
 rw [← hβ] at hg
 have hadd:RE.ev β (.add x0 x1)=((a.natAbs:Nat):Rat)+((b.natAbs:Nat):Rat):=by rw [RE.ev,e0,e1]
 have hsub:RE.ev β (.sub x0 x1)=((a.natAbs:Nat):Rat) - ((b.natAbs:Nat):Rat):=by rw [RE.ev,e0,e1]
 have hbus:RE.ev β (.sub x1 x0)=((b.natAbs:Nat):Rat) - ((a.natAbs:Nat):Rat):=by rw [RE.ev,e0,e1]
 clear hβ
 rcases Int.lt_or_le a 0 with ha | ha <;> rcases Int.lt_or_le b 0 with hb | hb
 ·rw [decide_eq_true ha,decide_eq_true hb]
  have ok:Hint.Ok β { nz:=[.add x0 x1] }:=jg (fun p h=>by cases h) (fun p hp=>by simp at hp;subst hp;rw [hadd,← Rat.natCast_add];intro h;exact absurd (show a.natAbs+b.natAbs=0 by exact_mod_cast h) (by omega)) (fun p h=>by cases h)
  refine oD (t:=true) (e:=.add x0 x1) ok (fuel:=1) (n0:=2) (by kernel_rfl) hE hg fun n hn=>?_
  rw [hadd] at hn
  have:=KP hn
  exact ⟨by omega,(decide_eq_true (by omega)).symm⟩
 ·rw [decide_eq_true ha,decide_eq_false (by omega)]
  rcases xJ a.natAbs b.natAbs with ⟨h3,h4,h5⟩ | ⟨h3,h4,h5⟩ | ⟨h3,h4,h5⟩
  ·have ok:Hint.Ok β { cm:=[(x0,x1,1)],nz:=[.sub x0 x1] }:=jg (fun p hp=>by simp at hp;subst hp;rw [e0,e1];exact h3) (fun p hp=>by simp at hp;subst hp;rw [hsub];exact NP (by omega)) (fun p h=>by cases h)
   refine oD (t:=true) (e:=.sub x0 x1) ok (fuel:=1) (n0:=2) (by kernel_rfl) hE hg fun n hn=>?_
   rw [hsub] at hn
   have:=qB hn
   exact ⟨by omega,(decide_eq_true (by omega)).symm⟩
  ·have ok:Hint.Ok β { cm:=[(x0,x1,0)],eq:=[(.sub x0 x1,.c 0)] }:=jg (fun p hp=>by simp at hp;subst hp;rw [e0,e1];exact h3) (fun p h=>by cases h) (fun p hp=>by simp at hp;subst hp;rw [hsub,h5];simp [RE.ev];grind)
   refine oD (t:=false) (e:=.sub x0 x1) ok (fuel:=1) (n0:=2) (by kernel_rfl) hE hg fun n hn=>?_
   rw [hsub] at hn
   have:=qB hn
   exact ⟨by omega,(decide_eq_false (by omega)).symm⟩
  ·have ok:Hint.Ok β { cm:=[(x0,x1,-1),(x1,x0,1)] }:=jg (fun p hp=>by simp at hp;rcases hp with rfl | rfl <;> rw [e0,e1] <;> assumption) (fun p h=>by cases h) (fun p h=>by cases h)
   refine oD (t:=false) (e:=.sub x1 x0) ok (fuel:=1) (n0:=2) (by kernel_rfl) hE hg fun n hn=>?_
   rw [hbus] at hn
   have:=qB hn
   exact ⟨by omega,(decide_eq_false (by omega)).symm⟩
 ·rw [decide_eq_false (by omega),decide_eq_true hb]
  rcases xJ a.natAbs b.natAbs with ⟨h3,h4,h5⟩ | ⟨h3,h4,h5⟩ | ⟨h3,h4,h5⟩
  ·have ok:Hint.Ok β { cm:=[(x0,x1,1)] }:=jg (fun p hp=>by simp at hp;subst hp;rw [e0,e1];exact h3) (fun p h=>by cases h) (fun p h=>by cases h)
   refine oD (t:=false) (e:=.sub x0 x1) ok (fuel:=1) (n0:=2) (by kernel_rfl) hE hg fun n hn=>?_
   rw [hsub] at hn
   have:=qB hn
   exact ⟨by omega,(decide_eq_false (by omega)).symm⟩
  ·have ok:Hint.Ok β { cm:=[(x0,x1,0)] }:=jg (fun p hp=>by simp at hp;subst hp;rw [e0,e1];exact h3) (fun p h=>by cases h) (fun p h=>by cases h)
   refine oD (t:=false) (e:=.sub x0 x1) ok (fuel:=1) (n0:=2) (by kernel_rfl) hE hg fun n hn=>?_
   rw [hsub] at hn
   have:=qB hn
   exact ⟨by omega,(decide_eq_false (by omega)).symm⟩
  ·have ok:Hint.Ok β { cm:=[(x0,x1,-1),(x1,x0,1)],nz:=[.sub x1 x0] }:=jg (fun p hp=>by simp at hp;rcases hp with rfl | rfl <;> rw [e0,e1] <;> assumption) (fun p hp=>by simp at hp;subst hp;rw [hbus];exact NP (by omega)) (fun p h=>by cases h)
   refine oD (t:=true) (e:=.sub x1 x0) ok (fuel:=1) (n0:=2) (by kernel_rfl) hE hg fun n hn=>?_
   rw [hbus] at hn
   have:=qB hn
   exact ⟨by omega,(decide_eq_true (by omega)).symm⟩
 ·rw [decide_eq_false (by omega),decide_eq_false (by omega)]
  refine oD (t:=false) (e:=.add x0 x1) (fQ β) (fuel:=1) (n0:=2) (by kernel_rfl) hE hg fun n hn=>?_
  rw [hadd] at hn
  have:=KP hn
  exact ⟨by omega,(decide_eq_false (by omega)).symm⟩
theorem ab1 (h1:Z4.IsZ w v1 a) (h2:Z4.IsZ w v2 b) (ka:a.natAbs<B64 ^ K1) (kb:b.natAbs<B64 ^ K1) (hE:EV w):Calls Tryz.prog 72 #[v1,v2] w (bH w (.int .i64 (if a<b then -1 else if a=b then 0 else 1))):=by
 obtain ⟨y,hy⟩:∃ y:Int,(if a<b then -1 else if a=b then 0 else 1)=y:=⟨_,rfl⟩
 rw [hy]
 refine Gm h1 h2 ka kb fun ρ hg=>?_
 obtain ⟨β,hβ⟩:∃ β,β=bet [((a.natAbs:Nat):Rat),((b.natAbs:Nat):Rat)]:=⟨_,rfl⟩
 have e0:RE.ev β x0=((a.natAbs:Nat):Rat):=by rw [hβ];rfl
 have e1:RE.ev β x1=((b.natAbs:Nat):Rat):=by rw [hβ];rfl
 rw [← hβ] at hg
 clear hβ
 have okc:∀ (x y:RE) (c:Int),aN (x.ev β) (y.ev β)=c→Hint.Ok β { cm:=[(x,y,c)] }:=fun x y c h=>jg (fun p hp=>by simp at hp;subst hp;exact h) (fun p h=>by cases h) (fun p h=>by cases h)
 rcases Int.lt_or_le a 0 with ha | ha <;> rcases Int.lt_or_le b 0 with hb | hb
 ·rw [decide_eq_true ha,decide_eq_true hb]
  rcases xJ a.natAbs b.natAbs with ⟨h3,h4,h5⟩ | ⟨h3,h4,h5⟩ | ⟨h3,h4,h5⟩
  ·obtain rfl:y = -1:=by rw [← hy,if_pos (by omega)]
   exact oC (okc x1 x0 (-1) (by rw [e0,e1];exact h4)) (fuel:=1) (n0:=2) (by kernel_rfl) hE hg
  ·obtain rfl:y=0:=by rw [← hy,if_neg (by omega),if_pos (by omega)]
   exact oC (okc x1 x0 0 (by rw [e0,e1];exact h4)) (fuel:=1) (n0:=2) (by kernel_rfl) hE hg
  ·obtain rfl:y=1:=by rw [← hy,if_neg (by omega),if_neg (by omega)]
   exact oC (okc x1 x0 1 (by rw [e0,e1];exact h4)) (fuel:=1) (n0:=2) (by kernel_rfl) hE hg
 ·rw [decide_eq_true ha,decide_eq_false (by omega)]
  obtain rfl:y = -1:=by rw [← hy,if_pos (by omega)]
  exact oC (fQ β) (fuel:=1) (n0:=2) (by kernel_rfl) hE hg
 ·rw [decide_eq_false (by omega),decide_eq_true hb]
  obtain rfl:y=1:=by rw [← hy,if_neg (by omega),if_neg (by omega)]
  exact oC (fQ β) (fuel:=1) (n0:=2) (by kernel_rfl) hE hg
 ·rw [decide_eq_false (by omega),decide_eq_false (by omega)]
  rcases xJ a.natAbs b.natAbs with ⟨h3,h4,h5⟩ | ⟨h3,h4,h5⟩ | ⟨h3,h4,h5⟩
  ·obtain rfl:y=1:=by rw [← hy,if_neg (by omega),if_neg (by omega)]
   exact oC (okc x0 x1 1 (by rw [e0,e1];exact h3)) (fuel:=1) (n0:=2) (by kernel_rfl) hE hg
  ·obtain rfl:y=0:=by rw [← hy,if_neg (by omega),if_pos (by omega)]
   exact oC (okc x0 x1 0 (by rw [e0,e1];exact h3)) (fuel:=1) (n0:=2) (by kernel_rfl) hE hg
  ·obtain rfl:y = -1:=by rw [← hy,if_pos (by omega)]
   exact oC (okc x0 x1 (-1) (by rw [e0,e1];exact h3)) (fuel:=1) (n0:=2) (by kernel_rfl) hE hg
end
end Rx
namespace Z4
open Go.RowKit Go.Sort Go.Lib
theorem Lc:∀ (k r:Nat),dA (k+1) r=UInt8.ofNat (48+r / 10 ^ k % 10) :: dA k r
 | 0,r=>by simp [dA]
 | k+1,r=>by
  rw [dA,Lc k (r / 10),List.cons_append]
  conv=>rhs;rw [dA]
  rw [Nat.div_div_eq_div_mul,Nat.pow_succ,Nat.mul_comm 10]
theorem E5:∀ (k r:Nat),(dA k r).length=k
 | 0,_=>rfl
 | k+1,r=>by rw [dA,List.length_append,E5 k];rfl
theorem GI (i:Nat):B4 ^ i=10 ^ (4*i):=by rw [Nat.pow_mul];rfl
theorem RJ {xs:List Nat} {i k x:Nat} (dx:Dig xs) (hi:i<xs.length) (hx:xs[i]?.getD 0=x) (hk:k<4):val xs / 10 ^ (4*i+k) % 10=x / 10 ^ k % 10:=by
 have h1:=bY xs i (by omega)
 have h2:val (xs.take i)<B4 ^ i:=by have:=aS (dx.take i);rwa [List.length_take,Nat.min_eq_left (by omega)] at this
 rw [dS xs i hi,hx] at h1
 have h3:val xs / 10 ^ (4*i)=x+10000*val (xs.drop (i+1)):=by
  rw [← GI,h1,Nat.add_mul_div_left _ _ (Nat.pow_pos jE),Nat.div_eq_of_lt h2,Nat.zero_add,iQ]
 rw [Nat.pow_add,← Nat.div_div_eq_div_mul,h3]
 generalize val (xs.drop (i+1))=V
 rcases (show k=0∨k=1∨k=2∨k=3 by omega) with rfl | rfl | rfl | rfl <;> simp <;> omega
theorem IU {n:Nat} (h:0<n):∃ x r,decDigits n=x :: r∧x.toNat≠48:=by
 obtain ⟨x,r,h1,h2⟩:∃ x r,decDigits n=x :: r∧(n≠0→x.toNat≠48):=by
  induction n using Nat.strongRecOn with
  | _ n ih =>
   by_cases h10:n<10
   ·refine ⟨UInt8.ofNat (48+n),[],by rw [decDigits,dif_pos h10],fun hn=>?_⟩
    rw [UInt8.toNat_ofNat'];omega
   ·obtain ⟨x,r,h1,h2⟩:=ih (n / 10) (by omega) (by omega)
    refine ⟨x,r ++ [UInt8.ofNat (48+n % 10)],by rw [decDigits,dif_neg h10,h1];rfl,fun _=>h2 (by omega)⟩
 exact ⟨x,r,h1,h2 (by omega)⟩
theorem aax {xs:List Nat} (dx:Dig xs) (h:0<val xs) (hs:xs.length≤549755813888):∃ j,j≤4398046511104∧dA (4*xs.length) (val xs)=List.replicate j 48 ++ decDigits (val xs):=by
 have h1:=aS dx
 rw [GI] at h1
 have h0:xs.length≠0:=fun e=>by
  rw [List.length_eq_zero_iff] at e;subst e;simp [val] at h
 exact ⟨4*xs.length - 1+1 - nDigits (val xs),by omega,by
  rw [show 4*xs.length=4*xs.length - 1+1 by omega]
  exact EZ (4*xs.length - 1) (val xs) (by rw [show 4*xs.length - 1+1=4*xs.length by omega];exact h1)⟩
def iC (z:Int):List UInt8:=(if z<0 then [45] else []) ++ decDigits z.natAbs
theorem RQ:∀ n:Nat,n<10→(⟨#[48,49,50,51,52,53,54,55,56,57]⟩:ByteArray).extract n (n+1)=⟨#[UInt8.ofNat (48+n)]⟩:=by
 intro n hn
 rcases (show n=0∨n=1∨n=2∨n=3∨n=4∨n=5∨n=6∨n=7∨n=8∨n=9 by omega) with rfl | rfl | rfl | rfl | rfl | rfl | rfl | rfl | rfl | rfl <;> rfl
theorem Q8 (c:UInt8) (l:List UInt8):(⟨#[c]⟩:ByteArray) ++ ⟨l.toArray⟩=⟨(c :: l).toArray⟩:=by
 apply ByteArray.ext
 simp [ByteArray.data_append]
theorem Ox (t:Bool) (p:Option Addr) (k:Nat) (w:World):Calls Tryz.prog 105 #[.agg #[.bool t,.slice p 0 k]] w (gB w [48]):=by
 go_enter Tryz.func105,Tryz.ntmps105
 go_wp2
 go_ret
 exact ⟨rfl,(Below.refl _ _).alloc (Nat.le_refl _) _⟩
theorem abk (t:Bool) (b o k:Nat) (xs:List Nat) (w:World) (hb:b<w.heap.size) (hx:Ints w b o xs) (dx:Dig xs) (hv:0<val xs) (hsz:xs.length≤549755813888) :
  Calls Tryz.prog 105 #[.agg #[.bool t,.slice (some ⟨b,o,none⟩) xs.length k]] w (gB w ((if t then [45] else []) ++ decDigits (val xs))):=by
 have hl0:xs.length≠0:=fun e=>by rw [List.length_eq_zero_iff] at e;subst e;simp [val] at hv
 have hB:=(Below.refl w.heap.size w).alloc (Nat.le_refl _) (.cells #[.bool t,.slice (some ⟨b,o,none⟩) xs.length k] 35)
 have HX:=hid (hx.below hB hb)
 have HB:=hid hB
 have HS:=hid (aax dx hv hsz)
 have HH:=hid (IU hv)
 obtain ⟨N,hN⟩:∃ N,val xs=N:=⟨_,rfl⟩
 have HD:=hid (fun i k x (hi:i<xs.length) (hx:xs[i]?.getD 0=x) (hk:k<4)=>hN ▸ RJ (k:=k) dx hi hx hk)
 have HLn:=hid (show (decDigits (val xs)).length≤4398046511104 by
  obtain ⟨j,-,h⟩:=HS.out
  have:=congrArg List.length h
  rw [E5,List.length_append,List.length_replicate] at this
  omega)
 rw [hN] at HS HH HLn ⊢
 obtain ⟨T,hT⟩:∃ T,(if t then [45] else []) ++ decDigits N=T:=⟨_,rfl⟩
 rw [hT]
 have HT:=hid hT
 clear hT
 have c1:(w.alloc (.cells #[.bool t,.slice (some ⟨b,o,none⟩) xs.length k] 35)).cell? ⟨w.heap.size,1,none⟩=some (.slice (some ⟨b,o,none⟩) xs.length k):=by go_simp
 have c0:(w.alloc (.cells #[.bool t,.slice (some ⟨b,o,none⟩) xs.length k] 35)).cell? ⟨w.heap.size,0,none⟩=some (.bool t):=by go_simp
 have hl1:((xs.length:Int) == 0)=false:=by rw [beq_eq_false_iff_ne];omega
 clear hB hx hN hv hl0
 go_enter Tryz.func105,Tryz.ntmps105
 go_wp2
 obtain ⟨W0,hW0⟩:∃ W0,w.alloc (.cells #[.bool t,.slice (some ⟨b,o,none⟩) xs.length k] 35)=W0:=⟨_,rfl⟩
 rw [hW0] at HX HB c0 c1 ⊢
 clear hW0 hl1
 go_loop [3,4] (fun sv iv=>∃ i:Nat,iv=.int .i64 i∧i≤xs.length∧sv=.string ⟨(dA (4*i) N).toArray⟩) (fun _ iv=>xs.length - (RowKit.intOf iv).toNat)
 case atStart=>exact ⟨0,rfl,Nat.zero_le _,rfl⟩
 case round =>
  obtain ⟨i,rfl,hi,rfl⟩:=hrel
  by_cases hlt:i<xs.length
  ·obtain ⟨x,hxi⟩:∃ x,xs[i]?.getD 0=x:=⟨_,rfl⟩
   have cx:W0.cell? ⟨b,o+i,none⟩=some (.int .i64 (x:Int)):=by rw [HX.out i hlt,hxi]
   have hx1:x<10000:=hxi ▸ dx.getD i
   have HE:=hid (fun k hk=>HD.out i k x hlt hxi hk)
   clear hxi
   go_wp2
   go_loop [3,5,6] (fun sv dv kv=>∃ k:Nat,kv=.int .i64 k∧k≤4∧dv=.int .i64 ((x / 10 ^ k:Nat):Int)∧sv=.string ⟨(dA (4*i+k) N).toArray⟩) (fun _ _ kv=>4 - (RowKit.intOf kv).toNat)
   case atStart=>exact ⟨0,rfl,by omega,by simp,rfl⟩
   case round =>
    obtain ⟨k,rfl,hk4,rfl,rfl⟩:=hrel
    by_cases hk:k<4
    ·obtain ⟨d,hd⟩:∃ d,x / 10 ^ k=d:=⟨_,rfl⟩
     have hd2:x / 10 ^ (k+1)=d / 10:=by rw [Nat.pow_succ,← Nat.div_div_eq_div_mul,hd]
     have hdl:d≤10000:=by have:=Nat.div_le_self x (10 ^ k);omega
     obtain ⟨e,he⟩:∃ e:Nat,(d:Int) % 10=(e:Int):=⟨d % 10,by omega⟩
     have he1:e<10:=by omega
     have hn:dA (4*i+(k+1)) N=UInt8.ofNat (48+e) :: dA (4*i+k) N:=by
      rw [← Nat.add_assoc,Lc,HE.out k hk,hd]
      congr 2
      omega
     have hpl:=E5 (4*i+k) N
     obtain ⟨s,hs⟩:∃ s,dA (4*i+k) N=s:=⟨_,rfl⟩
     rw [hs] at hn hpl ⊢
     rw [hd]
     have hstr:=RQ e he1
     obtain ⟨c,hc⟩:∃ c,UInt8.ofNat (48+e)=c:=⟨_,rfl⟩
     rw [hc] at hn hstr
     have HN:=hid hn
     have HD2:=hid hd2
     have hcs:=Q8 c s
     clear hn hd2 hd hs hc
     go_wp2
     go_round
     case rel=>exact ⟨k+1,by go_num,by omega,by rw [HD2.out];first | rfl | go_num,by rw [HN.out]⟩
     case measure=>simp [RowKit.intOf];omega
    ·obtain rfl:k=4:=by omega
     go_wp2
     go_round
     case rel=>exact ⟨i+1,by go_num,by omega,by rw [show 4*(i+1)=4*i+4 by omega]⟩
     case measure=>simp [RowKit.intOf];omega
  ·obtain rfl:i=xs.length:=by omega
   obtain ⟨j0,hjl,hj0⟩:=HS.out
   rw [hj0]
   clear hj0
   go_wp2
   go_loop [3] (fun sv=>∃ j:Nat,sv=.string ⟨(List.replicate j 48 ++ decDigits N).toArray⟩∧j≤4398046511104) (fun sv=>match sv with | .string s=>s.size | _=>0)
   case atStart=>exact ⟨j0,rfl,hjl⟩
   case round =>
    obtain ⟨j,rfl,hj⟩:=hrel
    cases j with
    | zero =>
     obtain ⟨x,r,hr,hne⟩:=HH.out
     rw [List.replicate_zero,List.nil_append,hr]
     have hln:=HLn.out
     rw [hr,List.length_cons] at hln
     have HR:=hid hr
     have hb:(((((⟨(x :: r).toArray⟩:ByteArray)[0]'(by simp [ByteArray.size])).toNat:Nat):Int) == 48)=false:=by rw [beq_eq_false_iff_ne];show ((x.toNat:Nat):Int)≠48;omega
     clear hr
     cases t with
     | false =>
      go_wp2
      go_ret
      refine ⟨?_,HB.out⟩
      rw [← HT.out,HR.out];rfl
     | true =>
      go_wp2
      go_ret
      refine ⟨?_,HB.out⟩
      rw [← HT.out,HR.out];rfl
    | succ j =>
     obtain ⟨s,hs⟩:∃ s,List.replicate j 48 ++ decDigits N=s:=⟨_,rfl⟩
     rw [List.replicate_succ,List.cons_append,hs]
     have HR:=hid hs
     clear hs
     have hb:(((((⟨(48 :: s).toArray⟩:ByteArray)[0]'(by simp [ByteArray.size])).toNat:Nat):Int) == 48)=true:=by rw [beq_iff_eq];rfl
     go_wp2
     go_round
     case rel=>exact ⟨j,by rw [HR.out];exact congrArg Value.string (extract_drop (48 :: s) 1),by omega⟩
     case measure=>simp [ByteArray.size]
end Z4
namespace Rx
open Go.RowKit
def nO:List Fd→Nat→Option (RE×Nat)
 | [],_=>none
 | .z s e k :: r,n=>if s=n then some (e,k) else nO r n
 | _ :: r,n=>nO r n
theorem lJ {n:Nat} {e:RE} {k:Nat}:∀ {db:List Fd},nO db n=some (e,k)→.z n e k∈db
 | [],h=>by simp [nO] at h
 | f :: r,h=>by
  cases f with
  | z s e' k' =>
   simp only [nO] at h
   split at h
   ·rename_i hs;cases h;subst hs;simp
   ·exact List.mem_cons_of_mem _ (lJ h)
  | l _ _ _=>exact List.mem_cons_of_mem _ (lJ h)
  | r _ _ _=>exact List.mem_cons_of_mem _ (lJ h)
  | n _ _=>exact List.mem_cons_of_mem _ (lJ h)
  | i _ _=>exact List.mem_cons_of_mem _ (lJ h)
def findD:List Fd→Nat→Option (RE×Nat)
 | [],_=>none
 | .r s e k :: r,n=>if s=n then some (e,k) else findD r n
 | _ :: r,n=>findD r n
theorem lH {n:Nat} {e:RE} {k:Nat}:∀ {db:List Fd},findD db n=some (e,k)→.r n e k∈db
 | [],h=>by simp [findD] at h
 | f :: r,h=>by
  cases f with
  | r s e' k' =>
   simp only [findD] at h
   split at h
   ·rename_i hs;cases h;subst hs;simp
   ·exact List.mem_cons_of_mem _ (lH h)
  | l _ _ _=>exact List.mem_cons_of_mem _ (lH h)
  | z _ _ _=>exact List.mem_cons_of_mem _ (lH h)
  | n _ _=>exact List.mem_cons_of_mem _ (lH h)
  | i _ _=>exact List.mem_cons_of_mem _ (lH h)
def asY (db:List Fd):List Cell→Option (RE×Nat)
 | [.ob s,.os t]=>if s=t then (match nO db s with
   | some x=>some x
   | none=>match findD db s with
    | some (e,k)=>some (.num e,k)
    | none=>none) else none
 | [.bl false,.os s]=>iE db s
 | [.bl false,.nils]=>some (.c 0,0)
 | _=>none
section
variable {β:Nat→Rat} {ρ:Env} {W:World} {db:List Fd}
theorem lK {v:Value} {r:Rat} {k:Nat} (h:IsG W v r k):IsY W (.agg #[.bool false,v]) r k:=by
 obtain ⟨xs,h1,h2,h3,h4,h5⟩:=h
 obtain ⟨p,l,c,rfl⟩:=h1.mk
 exact ⟨(Z4.val xs:Nat),⟨p,l,c,xs,by rw [decide_eq_false (by omega)],h1,h2,h3,by omega⟩,by rw [← h4];rfl,by simpa using h5⟩
theorem V9 {s:Nat} {e:RE} {k:Nat} (h:Fd.on β ρ (.r s e k) W):IsY W (.agg ((zC s).map (Cell.den ρ)).toArray) ((RE.num e).ev β) k:=by
 obtain ⟨h1,h2⟩:=h
 exact ⟨(e.ev β).num,Z4.IsR.num h1,rfl,h2.1⟩
theorem iV {cs:List Cell} {e:RE} {k:Nat} (h:asY db cs=some (e,k)) (hf:∀ f∈db,(SR β).on ρ f W):IsY W (.agg (cs.map (Cell.den ρ)).toArray) (e.ev β) k:=by
 unfold asY at h
 split at h
 ·rename_i s t
  split at h
  ·rename_i hst
   subst hst
   split at h
   ·rename_i x hx
    cases h
    exact hf _ (lJ hx)
   ·split at h
    ·rename_i e' k' hx
     cases h
     exact V9 (hf _ (lH hx))
    ·cases h
  ·cases h
 ·exact lK (hf _ (gK h))
 ·cases h
  exact lK ⟨[],Z4.IsL.nil 0 W,Z4.Dig.nil,fun h=>absurd rfl h,rfl,by simp [Z4.val]⟩
 ·cases h
end
section
variable (β:Nat→Rat) (h:Hint)
def CB:Con (SR β) where
 fn:=74
 app:=fun db b args=>match args with
  | [.e (.a [.ob s,.os s',.bl false,.os t])]=>if s=s' && s+1=t then (match findD db s with
    | some (e,k)=>some (.e (.a [.bl false,.os b]),[.l b (.den e) k])
    | none=>none) else none
  | _=>none
def xR (f:FuncId) (o:RE→RE→RE) (sz:Nat→Nat→Nat):Con (SR β) where
 fn:=f
 app:=fun db b args=>match args with
  | [.e (.a x),.e (.a y)]=>match asY db x,asY db y with
   | some (e,k),some (e',k')=>if decide (k≤K1) && decide (k'≤K1) then some (.e (.a (zC b)),[.z b (o e e') (sz k k')]) else none
   | _,_=>none
  | _=>none
def Du:Con (SR β) where
 fn:=85
 app:=fun db b args=>match args with
  | [.e (.a x)]=>match asY db x with
   | some (e,k)=>some (.e (.a (zC b)),[.z b (.neg e) k])
   | none=>none
  | _=>none
def CV:Con (SR β) where
 fn:=70
 app:=fun _ b args=>match args with
  | [.e (.s (.it .i64 n))]=>if decide (0≤n) && decide (n≤9223372036854775807) then some (.e (.a [.bl false,.os b]),[.l b (.c n) 1]) else none
  | _=>none
def CY:Con (SR β) where
 fn:=69
 app:=fun db b args=>match args with
  | [.e (.a x),.e (.a y)]=>match asY db x,asY db y with
   | some (e,k),some (e',k')=>if decide (k≤K1) && decide (k'≤K1) && (jA e' || nzB h e') then some (.e (.a (aX b)),[.r b (.div e e') (max k k')]) else none
   | _,_=>none
  | _=>none
def Dq:Con (SR β) where
 fn:=72
 app:=fun db _ args=>match args with
  | [.e (.a x),.e (.a y)]=>match asY db x,asY db y with
   | some (e,k),some (e',k')=>if decide (k≤K1) && decide (k'≤K1) then (match cmB h e e' with
     | some c=>some (.e (.s (.it .i64 c)),[])
     | none=>none) else none
   | _,_=>none
  | _=>none
def CS:Con (SR β) where
 fn:=86
 app:=fun db b args=>match args with
  | [.e (.s (.bl false)),.e (.s (.os s))]=>match findD db s with
   | some (e,k)=>some (.e (.a [.bl false,.os b]),[.l b (.abs (.num e)) k])
   | none=>none
  | _=>none
def cr:List (Con (SR β)):=[CB β,xR β 73 .mul (fun a b=>a+b),xR β 83 .add (fun a b=>max a b+1),Du β,CV β,CY β h,Dq β h,CS β]
end
section
variable {β:Nat→Rat} {h:Hint} {f:FuncId} {vals:Array Value} {W:World} {ρ:Env} {b:Nat}
theorem BG {z:Int} {e:RE} {k:Nat} (hc:Calls Tryz.prog f vals W (Z4.dB W z)) (hz:(z:Rat)=e.ev β) (hk:z.natAbs<B64 ^ k):Calls Tryz.prog f vals W (Anr β ρ b W (.e (.a (zC b))) [.z b e k]):=by
 refine hc.mono fun _ W' ⟨v,he,hv,hb⟩=>?_
 obtain ⟨p,l,c,xs,rfl,hx⟩:=hv
 have h1:(zC b).map (Cell.den (aF ρ b [⟨decide (z<0),0,p,l,c,.empty,0,default⟩]))=[.bool (decide (z<0)),.slice p l c]:=by simp [zC,Cell.den,aF]
 refine ⟨_,fV (b:=b) (L:=[⟨decide (z<0),0,p,l,c,.empty,0,default⟩]) (by simp [M]),?_,hb,fun g hg=>?_⟩
 ·rw [he];simp only [SV.den,El.den,h1]
 ·rw [List.mem_singleton] at hg
  subst hg
  exact ⟨z,by rw [h1];exact ⟨p,l,c,xs,rfl,hx⟩,hz,hk⟩
theorem xw {z:Int} {e:RE} {k:Nat} (hc:Calls Tryz.prog f vals W (Z4.dB W z)) (h0:0≤z) (hz:(z:Rat)=e.ev β) (hk:z.natAbs<B64 ^ k):Calls Tryz.prog f vals W (Anr β ρ b W (.e (.a [.bl false,.os b])) [.l b e k]):=by
 refine hc.mono fun _ W' ⟨v,he,hv,hb⟩=>?_
 obtain ⟨p,l,c,xs,rfl,hl,hd,ht,hx⟩:=hv
 refine ⟨_,fV (b:=b) (L:=[⟨false,0,p,l,c,.empty,0,default⟩]) (by simp [M]),?_,hb,fun g hg=>?_⟩
 ·rw [he,decide_eq_false (by omega)];simp [SV.den,El.den,Cell.den,aF]
 ·rw [List.mem_singleton] at hg
  subst hg
  refine ⟨xs,by simpa [aF] using hl,hd,ht,?_,by rw [hx];exact hk⟩
  rw [hx,← hz]
  exact_mod_cast show ((z.natAbs:Nat):Int)=z by omega
theorem Pz {e:RE} {k:Nat} (hc:Calls Tryz.prog f vals W (Z4.fM W (e.ev β))) (hk:Fits k (e.ev β)):Calls Tryz.prog f vals W (Anr β ρ b W (.e (.a (aX b))) [.r b e k]):=by
 refine hc.mono fun _ W' ⟨v,he,hv,hb⟩=>?_
 obtain ⟨c,d,rfl⟩:=lZ hv
 have h1:(aX b).map (Cell.den (aF ρ b [c,d]))=[.bool c.b,.slice c.p c.l c.c,.bool false,.slice d.p d.l d.c]:=by simp [aX,Cell.den,aF]
 refine ⟨aF ρ b [c,d],fV (by simp [M]),?_,hb,fun g hg=>?_⟩
 ·rw [he];simp only [SV.den,El.den,h1]
 ·rw [List.mem_singleton] at hg
  subst hg
  exact ⟨by rw [h1];exact hv,hk⟩
theorem Px {c:Int} (hc:Calls Tryz.prog f vals W (bH W (.int .i64 c))):Calls Tryz.prog f vals W (Anr β ρ b W (.e (.s (.it .i64 c))) []):=
 hc.mono fun _ W' ⟨he,hb⟩=>⟨ρ,fun _ _=>rfl,by rw [he];rfl,hb,fun g hg=>by cases hg⟩
theorem Qx:(CB β).Ok Tryz.prog (SR β) EV:=by
 refine Con.ok0 rfl ?_
 intro db b args res new ha ρ W hf hE
 simp only [CB] at ha
 split at ha
 ·rename_i s s' t
  split at ha
  ·rename_i hh
   simp only [Bool.and_eq_true,decide_eq_true_eq] at hh
   obtain ⟨rfl,rfl⟩:=hh
   split at ha
   ·rename_i e k hx
    cases ha
    obtain ⟨h1,h2⟩:=hf _ (lH hx)
    exact xw (Z4.uX _ _ W h1) (by omega) rfl (by simpa using h2.2)
   ·cases ha
  ·cases ha
 ·cases ha
theorem IJ {f:FuncId} {o:RE→RE→RE} {sz:Nat→Nat→Nat} {zo:Int→Int→Int} (hc:∀ a b v v' W k k',k≤K1→k'≤K1→Z4.IsZ W v a→Z4.IsZ W v' b→a.natAbs<B64 ^ k→b.natAbs<B64 ^ k'→EV W→Calls Tryz.prog f #[v,v'] W (Z4.dB W (zo a b)))
  (ho:∀ (a b:Int) (e e':RE),(a:Rat)=e.ev β→(b:Rat)=e'.ev β→((zo a b:Int):Rat)=(o e e').ev β) (hs:∀ (a b:Int) k k',a.natAbs<B64 ^ k→b.natAbs<B64 ^ k'→(zo a b).natAbs<B64 ^ (sz k k')):(xR β f o sz).Ok Tryz.prog (SR β) EV:=by
 refine Con.ok0 rfl ?_
 intro db b args res new ha ρ W hf hE
 simp only [xR] at ha
 split at ha
 ·split at ha
  ·rename_i x y _ _ e k e' k' hx hy
   split at ha
   ·rename_i hk
    simp only [Bool.and_eq_true,decide_eq_true_eq] at hk
    cases ha
    obtain ⟨z,h1,h2,h3⟩:=iV hx hf
    obtain ⟨z',g1,g2,g3⟩:=iV hy hf
    exact BG (hc z z' _ _ W k k' hk.1 hk.2 h1 g1 h3 g3 hE) (ho z z' e e' h2 g2) (hs z z' k k' h3 g3)
   ·cases ha
  ·cases ha
 ·cases ha
theorem QX:(Du β).Ok Tryz.prog (SR β) EV:=by
 refine Con.ok0 rfl ?_
 intro db b args res new ha ρ W hf hE
 simp only [Du] at ha
 split at ha
 ·split at ha
  ·rename_i e k hx
   cases ha
   obtain ⟨z,h1,h2,h3⟩:=iV hx hf
   exact BG (e:=.neg e) (Z4.Gy z _ W h1) (by rw [Rat.intCast_neg,h2];rfl) (by rw [Int.natAbs_neg];exact h3)
  ·cases ha
 ·cases ha
theorem QF:(CV β).Ok Tryz.prog (SR β) EV:=by
 refine Con.ok0 rfl ?_
 intro db b args res new ha ρ W hf hE
 simp only [CV] at ha
 split at ha
 ·rename_i n
  split at ha
  ·rename_i hk
   simp only [Bool.and_eq_true,decide_eq_true_eq] at hk
   cases ha
   refine xw (e:=.c n) ((Z4.oK n (by omega) hk.2 W).mono fun e W' ⟨s,ds,he,hl,hd,ht,hv,hb⟩=>?_) hk.1 rfl (by rw [Nat.pow_one];unfold B64;omega)
   obtain ⟨p,l,c,rfl⟩:=hl.mk
   exact ⟨_,he,⟨p,l,c,ds,rfl,hl.mono (Nat.zero_le _),hd,ht,hv⟩,hb⟩
  ·cases ha
 ·cases ha
theorem TY {z d:Int} {k k':Nat} (hd:d≠0) (h1:z.natAbs<B64 ^ k) (h2:d.natAbs<B64 ^ k'):Fits (max k k') ((z:Rat) / (d:Rat)):=by
 have a1:=Nat.pow_le_pow_right (show 0<B64 by decide) (Nat.le_max_left k k')
 have a2:=Nat.pow_le_pow_right (show 0<B64 by decide) (Nat.le_max_right k k')
 have key:∀ (z:Int) (m:Nat),m≠0→z.natAbs<B64 ^ k→m<B64 ^ k'→Fits (max k k') (mkRat z m):=fun z m hm a b=>by
  obtain ⟨e1,-,e3⟩:=Z4.qH z m _ hm rfl
  exact ⟨by rw [e1];have:=Nat.div_le_self z.natAbs (Nat.gcd z.natAbs m);omega,by rw [e3];have:=Nat.div_le_self m (Nat.gcd z.natAbs m);omega⟩
 rcases Int.lt_or_le d 0 with h0 | h0
 ·obtain ⟨m,rfl⟩:∃ m:Nat,d = -(m:Int):=⟨d.natAbs,by omega⟩
  rw [show (z:Rat) / ((-(m:Int):Int):Rat)=mkRat (-z) m by rw [← Rat.divInt_eq_div,← Rat.divInt_ofNat,Rat.divInt_eq_divInt_iff (by omega) (by omega)];grind]
  exact key _ _ (by omega) (by omega) (by omega)
 ·obtain ⟨m,rfl⟩:∃ m:Nat,d=(m:Int):=⟨d.natAbs,by omega⟩
  rw [show (z:Rat) / (((m:Int):Int):Rat)=mkRat z m by rw [← Rat.divInt_eq_div,← Rat.divInt_ofNat]]
  exact key _ _ (by omega) h1 (by omega)
theorem QI (ok:h.Ok β):(CY β h).Ok Tryz.prog (SR β) EV:=by
 refine Con.ok0 rfl ?_
 intro db b args res new ha ρ W hf hE
 simp only [CY] at ha
 split at ha
 ·split at ha
  ·rename_i x y _ _ e k e' k' hx hy
   split at ha
   ·rename_i hk
    simp only [Bool.and_eq_true,Bool.or_eq_true,decide_eq_true_eq] at hk
    cases ha
    obtain ⟨z,h1,h2,h3⟩:=iV hx hf
    obtain ⟨z',g1,g2,g3⟩:=iV hy hf
    have hne:e'.ev β≠0:=by
     rcases hk.2 with h | h
     ·exact Fv h
     ·exact lT ok h
    have hz':z'≠0:=fun h0=>hne (by rw [← g2,h0];rfl)
    have a1:=Nat.pow_le_pow_right (show 0<B64 by decide) (Nat.le_max_left k k')
    have a2:=Nat.pow_le_pow_right (show 0<B64 by decide) (Nat.le_max_right k k')
    have hB:=je (max k k')
    have hc:=Z4.FH z z' hz' _ _ W h1 g1 (5*max k k') (by simp only [K1] at hk;omega) (by omega) (by omega)
    have hfit:=TY hz' h3 g3
    rw [h2,g2] at hc hfit
    exact Pz (e:=.div e e') hc hfit
   ·cases ha
  ·cases ha
 ·cases ha
theorem mX {a b:Int}:aN (a:Rat) (b:Rat)=(if a<b then -1 else if a=b then 0 else 1):=by
 unfold aN
 have e:((a:Int):Rat)=((b:Int):Rat)↔a=b:=by exact_mod_cast Iff.rfl
 have l:((a:Int):Rat)<((b:Int):Rat)↔a<b:=by exact_mod_cast Iff.rfl
 simp only [e,l]
theorem QV (ok:h.Ok β):(Dq β h).Ok Tryz.prog (SR β) EV:=by
 refine Con.ok0 rfl ?_
 intro db b args res new ha ρ W hf hE
 simp only [Dq] at ha
 split at ha
 ·split at ha
  ·rename_i x y _ _ e k e' k' hx hy
   split at ha
   ·rename_i hk
    simp only [Bool.and_eq_true,decide_eq_true_eq] at hk
    split at ha
    ·rename_i c hc
     cases ha
     obtain ⟨z,h1,h2,h3⟩:=iV hx hf
     obtain ⟨z',g1,g2,g3⟩:=iV hy hf
     have hcc:=kZ ok hc
     rw [← h2,← g2,mX] at hcc
     have a1:=Nat.pow_le_pow_right (show 0<B64 by decide) hk.1
     have a2:=Nat.pow_le_pow_right (show 0<B64 by decide) hk.2
     have:=ab1 h1 g1 (by omega) (by omega) hE
     rw [hcc] at this
     exact Px this
    ·cases ha
   ·cases ha
  ·cases ha
 ·cases ha
theorem QD:(CS β).Ok Tryz.prog (SR β) EV:=by
 refine Con.ok0 rfl ?_
 intro db b args res new ha ρ W hf hE
 simp only [CS] at ha
 split at ha
 ·rename_i s
  split at ha
  ·rename_i e k hx
   cases ha
   obtain ⟨h1,h2⟩:=hf _ (lH hx)
   obtain ⟨xs,-,g1,g2,g3,g4⟩:=(Z4.IsR.num h1).parts
   have hc:=Z4.jR false (.slice (ρ s).p (ρ s).l (ρ s).c) xs W g1 g2 g3
   rw [if_neg (by decide),g4] at hc
   refine xw (e:=.abs (.num e)) hc (by omega) ?_ (by simpa using h2.1)
   show _=if ((((e.ev β).num:Int):Rat)).num<0 then -((((e.ev β).num:Int):Rat)) else (((e.ev β).num:Int):Rat)
   rw [Rat.num_intCast]
   split
   ·rw [show (((e.ev β).num.natAbs:Nat):Int) = -(e.ev β).num by omega,Rat.intCast_neg]
   ·rw [show (((e.ev β).num.natAbs:Nat):Int)=(e.ev β).num by omega]
  ·cases ha
 ·cases ha
theorem iW (ok:h.Ok β):∀ c∈cr β h,c.Ok Tryz.prog (SR β) EV:=by
 have pk:∀ {k:Nat},k≤K1→B64 ^ k≤B64 ^ K1:=fun h=>Nat.pow_le_pow_right (show 0<B64 by decide) h
 unfold cr
 simp only [List.forall_mem_cons,List.not_mem_nil,false_imp_iff,implies_true,and_true]
 refine ⟨Qx,IJ (zo:=(· * ·)) (fun a b v v' W k k' hk hk' h1 h2 h3 h4 hE=>?_) (fun a b e e' h1 h2=>by rw [Rat.intCast_mul,h1,h2];rfl) (fun a b k k' h1 h2=>by rw [Int.natAbs_mul,Nat.pow_add];exact Nat.mul_lt_mul'' h1 h2),
  IJ (zo:=(· + ·)) (fun a b v v' W k k' hk hk' h1 h2 h3 h4 hE=>aaZ h1 h2 (Nat.lt_of_lt_of_le h3 (pk hk)) (Nat.lt_of_lt_of_le h4 (pk hk')) hE) (fun a b e e' h1 h2=>by rw [Rat.intCast_add,h1,h2];rfl) (fun a b k k' h1 h2=>?_),QX,QF,QI ok,QV ok,QD⟩
 ·have a1:=Nat.pow_le_pow_right (show 0<B64 by decide) (Nat.le_max_left k k')
  have a2:=Nat.pow_le_pow_right (show 0<B64 by decide) (Nat.le_max_right k k')
  have hB:=je (max k k')
  exact Z4.AB a b v v' W h1 h2 (5*max k k') (by simp only [K1] at hk hk';omega) (by omega) (by omega)
 ·have a1:=Nat.pow_le_pow_right (show 0<B64 by decide) (Nat.le_max_left k k')
  have a2:=Nat.pow_le_pow_right (show 0<B64 by decide) (Nat.le_max_right k k')
  rw [Nat.pow_succ]
  have:B64 ^ max k k' * 2≤B64 ^ max k k' * B64:=Nat.mul_le_mul_left _ (by decide)
  omega
end
end Rx
namespace Rx
open Go.RowKit
def rC (db:List Fd):List Cell→Option RE
 | [.ob a,.os b,.bl false,.os c]=>if a=b && a+1=c then (match findD db a with
   | some (e,_)=>some e
   | none=>none) else if a=b then (match nO db a,iE db c with
   | some (.neg (.num x),_),some (.den y,_)=>if x.beq y then some (.neg x) else none
   | some (e,_),some (.c 1,_)=>some e
   | _,_=>none) else none
 | [.bl false,.os b,.bl false,.os c]=>match iE db b,iE db c with
   | some (.abs (.num x),_),some (.den y,_)=>if x.beq y then some (.abs x) else none
   | some (.c n,_),some (.c 1,_)=>some (.c n)
   | _,_=>none
 | _=>none
def isR (e:RE):Option (SV×List Fd)→Bool
 | some (.e (.a cs),fs)=>match rC fs cs with
  | some e'=>e'.beq e
  | none=>false
 | _=>false
theorem V4 {e:RE} {o:Option (SV×List Fd)} (h:isR e o=true):∃ cs fs,o=some (.e (.a cs),fs)∧rC fs cs=some e:=by
 unfold isR at h
 split at h
 ·split at h
  ·rename_i cs fs _ e' ha;exact ⟨cs,fs,rfl,by rw [ha,RE.beq_eq h]⟩
  ·cases h
 ·cases h
section
variable {β:Nat→Rat} {ρ:Env} {W:World} {db:List Fd}
theorem lM {v:Value} {r:Rat} {k:Nat} {z:Int} (h:IsY W v r k) (e:r=(z:Rat)):Z4.IsZ W v z:=by
 obtain ⟨y,h1,h2,-⟩:=h
 rw [e] at h2
 have:y=z:=by exact_mod_cast h2
 exact this ▸ h1
theorem O1 (r:Rat):(if r.num<0 then -r else r).den=r.den:=by split <;> simp
theorem O4 (x:RE):(RE.abs (.num x)).ev β=(((RE.abs x).ev β).num:Rat):=by
 show (if (((x.ev β).num:Int):Rat).num<0 then -(((x.ev β).num:Int):Rat) else (((x.ev β).num:Int):Rat))=((if (x.ev β).num<0 then -x.ev β else x.ev β).num:Rat)
 by_cases h:(x.ev β).num<0
 ·rw [if_pos h,if_pos (by rw [Rat.num_intCast];exact h),Rat.neg_num,Rat.intCast_neg]
 ·rw [if_neg h,if_neg (by rw [Rat.num_intCast];exact h)]
theorem Ib {cs:List Cell} {e:RE} (h:rC db cs=some e) (hf:∀ f∈db,(SR β).on ρ f W):Z4.IsR W (.agg (cs.map (Cell.den ρ)).toArray) (e.ev β):=by
 unfold rC at h
 split at h
 ·rename_i a b c
  split at h
  ·rename_i hh
   simp only [Bool.and_eq_true,decide_eq_true_eq] at hh
   obtain ⟨rfl,rfl⟩:=hh
   split at h
   ·rename_i e' k hx
    cases h
    exact (hf _ (lH hx)).1
   ·cases h
  ·split at h
   ·rename_i hab
    subst hab
    split at h
    ·rename_i x k y k' hx hy
     split at h
     ·rename_i hxy
      cases h
      rw [← RE.beq_eq hxy] at hy
      have h1:=lM (z:=(-x.ev β).num) (hf _ (lJ hx)) (by rw [Rat.neg_num,Rat.intCast_neg];rfl)
      have h2:=lM (z:=((-x.ev β).den:Int)) (lK (hf _ (gK hy))) (by rw [Rat.neg_den];rfl)
      exact .mk2 h1 h2
     ·cases h
    ·rename_i e' k k' _ hx hy
     cases h
     obtain ⟨z,hz,hz2,-⟩:=(show IsY W _ _ _ from hf _ (lJ hx))
     have h2:=lM (z:=((e.ev β).den:Int)) (lK (hf _ (gK hy))) (by rw [← hz2,Rat.den_intCast];rfl)
     exact .mk2 (by rw [← hz2,Rat.num_intCast];exact hz) h2
    ·cases h
   ·cases h
 ·rename_i b c
  split at h
  ·rename_i x k y k' hx hy
   split at h
   ·rename_i hxy
    cases h
    rw [← RE.beq_eq hxy] at hy
    have h1:=lM (z:=((RE.abs x).ev β).num) (lK (hf _ (gK hx))) (O4 x)
    have h2:=lM (z:=(((RE.abs x).ev β).den:Int)) (lK (hf _ (gK hy))) (by
     show _=((((if (x.ev β).num<0 then -x.ev β else x.ev β).den:Nat):Int):Rat)
     rw [O1];rfl)
    exact .mk2 h1 h2
   ·cases h
  ·rename_i n k k' hx hy
   cases h
   have h1:=lM (z:=((RE.c n).ev β).num) (lK (hf _ (gK hx))) (by simp [RE.ev])
   have h2:=lM (z:=(((RE.c n).ev β).den:Int)) (lK (hf _ (gK hy))) (by simp [RE.ev])
   exact .mk2 h1 h2
  ·cases h
 ·cases h
end
section
variable {β:Nat→Rat} {h:Hint} {fuel:Nat} {f:FuncId} {args:List SV} {fs:List Fd} {n0:Nat} {ρ:Env} {w:World}
theorem lW {cons:List (Con (SR β))} {e:RE} {r:Rat} (hc:∀ c∈cons,c.Ok Tryz.prog (SR β) EV) (hr:isR e (aV Tryz.prog (SR β) (HR β) cons fuel f args fs n0)=true) (he:e.ev β=r) (hE:EV w) (hf:∀ g∈fs,Fd.on β ρ g w):Calls Tryz.prog f (args.map (SV.den ρ)).toArray w (Z4.fM w r):=by
 obtain ⟨cs,fs',heq,ha⟩:=V4 hr
 refine (fU mixed hc heq (dU hE) hf).mono fun x W' ⟨ρ',_,hx,hb,hfs⟩=>?_
 have:=Ib ha hfs
 rw [he] at this
 exact ⟨_,hx,this,hb⟩
theorem MR {cons:List (Con (SR β))} {y:Int} (hc:∀ c∈cons,c.Ok Tryz.prog (SR β) EV) (hr:isJ y (aV Tryz.prog (SR β) (HR β) cons fuel f args fs n0)=true) (hE:EV w) (hf:∀ g∈fs,Fd.on β ρ g w):Calls Tryz.prog f (args.map (SV.den ρ)).toArray w (bH w (.int .i64 y)):=by
 obtain ⟨fs',heq⟩:=JR hr
 exact (fU mixed hc heq (dU hE) hf).mono fun x W' ⟨ρ',_,hx,hb,_⟩=>⟨hx,hb⟩
end
abbrev K2:Nat:=65536
abbrev rr (s:Nat):SV:=.e (.a (aX s))
section
variable {a b:Rat} {v1 v2:Value} {W:World}
theorem EN {f:FuncId} {R:Ending→World→Prop} (h1:Z4.IsR W v1 a) (f1:Fits K2 a)
  (go:∀ ρ:Env,(∀ g∈[Fd.r 0 (.v 0) K2],Fd.on (bet [a]) ρ g W)→Calls Tryz.prog f ([rr 0].map (SV.den ρ)).toArray W R):Calls Tryz.prog f #[v1] W R:=by
 obtain ⟨c,d,rfl⟩:=lZ h1
 refine go (ev [c,d]) fun g hg=>?_
 simp only [List.mem_cons,List.not_mem_nil,or_false] at hg
 subst hg
 exact ⟨h1,f1⟩
theorem Ar {f:FuncId} {R:Ending→World→Prop} (h1:Z4.IsR W v1 a) (h2:Z4.IsR W v2 b) (f1:Fits K2 a) (f2:Fits K2 b)
  (go:∀ ρ:Env,(∀ g∈[Fd.r 0 (.v 0) K2,.r 2 (.v 1) K2],Fd.on (bet [a,b]) ρ g W)→Calls Tryz.prog f ([rr 0,rr 2].map (SV.den ρ)).toArray W R):Calls Tryz.prog f #[v1,v2] W R:=by
 obtain ⟨c,d,rfl⟩:=lZ h1
 obtain ⟨c',d',rfl⟩:=lZ h2
 refine go (ev [c,d,c',d']) fun g hg=>?_
 simp only [List.mem_cons,List.not_mem_nil,or_false] at hg
 rcases hg with rfl | rfl
 ·exact ⟨h1,f1⟩
 ·exact ⟨h2,f2⟩
abbrev nn (x:RE):RE:=.num x
abbrev dd (x:RE):RE:=.den x
theorem jZ (r:Rat):(((r.den:Nat):Int):Rat)≠0:=fun h=>by
 have h2:((r.den:Nat):Int)=0:=by exact_mod_cast h
 have:=r.den_nz
 omega
theorem tN (r:Rat):(r.num:Rat)=r*(((r.den:Nat):Int):Rat):=by
 have h1:r=(r.num:Rat) / (((r.den:Nat):Int):Rat):=by
  have:=(Rat.num_divInt_den r).symm
  rwa [Rat.divInt_eq_div] at this
 have h2:(r.num:Rat) / (((r.den:Nat):Int):Rat)*(((r.den:Nat):Int):Rat)=(r.num:Rat):=Rat.div_mul_cancel (jZ r)
 rw [← h1] at h2
 exact h2.symm
theorem O7 (a b:Rat):((a.num:Rat)*(((b.den:Nat):Int):Rat)+(b.num:Rat)*(((a.den:Nat):Int):Rat)) / ((((a.den:Nat):Int):Rat)*(((b.den:Nat):Int):Rat))=a+b:=by
 have ha:=jZ a
 have hb:=jZ b
 have hab:(((a.den:Nat):Int):Rat)*(((b.den:Nat):Int):Rat)≠0:=fun h=>(Rat.mul_eq_zero.1 h).elim ha hb
 rw [tN a,tN b]
 generalize (((a.den:Nat):Int):Rat)=x at *
 generalize (((b.den:Nat):Int):Rat)=y at *
 rw [show a*x*y+b*y*x=(a+b)*(x*y) by grind,Rat.mul_div_cancel hab]
theorem Xt (a b:Rat):((a.num:Rat)*(b.num:Rat)) / ((((a.den:Nat):Int):Rat)*(((b.den:Nat):Int):Rat))=a*b:=by
 have ha:=jZ a
 have hb:=jZ b
 have hab:(((a.den:Nat):Int):Rat)*(((b.den:Nat):Int):Rat)≠0:=fun h=>(Rat.mul_eq_zero.1 h).elim ha hb
 rw [tN a,tN b]
 generalize (((a.den:Nat):Int):Rat)=x at *
 generalize (((b.den:Nat):Int):Rat)=y at *
 rw [show a*x*(b*y)=(a*b)*(x*y) by grind,Rat.mul_div_cancel hab]
theorem RV (a b:Rat) (hn:b≠0):((a.num:Rat)*(((b.den:Nat):Int):Rat)) / ((((a.den:Nat):Int):Rat)*(b.num:Rat))=a / b:=by
 have ha:=jZ a
 have hb:=jZ b
 rw [tN a,tN b]
 generalize (((a.den:Nat):Int):Rat)=x at *
 generalize (((b.den:Nat):Int):Rat)=y at *
 have hxy:b*(x*y)≠0:=fun h=>(Rat.mul_eq_zero.1 h).elim hn (fun h=>(Rat.mul_eq_zero.1 h).elim ha hb)
 have h1:a / b*b=a:=Rat.div_mul_cancel hn
 rw [show a*x*y=(a / b)*(b*(x*y)) by rw [← Rat.mul_assoc,h1];grind,show x*(b*y)=b*(x*y) by grind,Rat.mul_div_cancel hxy]
theorem Y6 (h1:Z4.IsR W v1 a) (h2:Z4.IsR W v2 b) (f1:Fits K2 a) (f2:Fits K2 b) (hE:EV W):Calls Tryz.prog 18 #[v1,v2] W (Z4.fM W (a+b)):=
 Ar h1 h2 f1 f2 fun ρ hg=>lW (β:=bet [a,b]) (e:=.div (.add (.mul (nn (.v 0)) (dd (.v 1))) (.mul (nn (.v 1)) (dd (.v 0)))) (.mul (dd (.v 0)) (dd (.v 1)))) (fuel:=1) (n0:=4) (iW (fQ _)) (by kernel_rfl) (O7 a b) hE hg
theorem Zm (h1:Z4.IsR W v1 a) (h2:Z4.IsR W v2 b) (f1:Fits K2 a) (f2:Fits K2 b) (hE:EV W):Calls Tryz.prog 22 #[v1,v2] W (Z4.fM W (a*b)):=
 Ar h1 h2 f1 f2 fun ρ hg=>lW (β:=bet [a,b]) (e:=.div (.mul (nn (.v 0)) (nn (.v 1))) (.mul (dd (.v 0)) (dd (.v 1)))) (fuel:=1) (n0:=4) (iW (fQ _)) (by kernel_rfl) (Xt a b) hE hg
theorem Zb (h1:Z4.IsR W v1 a) (h2:Z4.IsR W v2 b) (f1:Fits K2 a) (f2:Fits K2 b) (hn:b≠0) (hE:EV W):Calls Tryz.prog 14 #[v1,v2] W (Z4.fM W (a / b)):=
 have hd:(a.den:Int)≠0:=by have:=a.den_nz;omega
 have hb:b.num≠0:=fun e=>hn (Rat.num_eq_zero.1 e)
 have ok:Hint.Ok (bet [a,b]) { nz:=[.mul (dd (.v 0)) (nn (.v 1))] }:=⟨fun p h=>(by cases h),fun p h=>(by cases h),fun p hp=>(by
  simp at hp;subst hp
  intro h
  rcases Rat.mul_eq_zero.1 (show (((a.den:Nat):Int):Rat)*(b.num:Rat)=0 from h) with h | h
  ·exact jZ a h
  ·exact hb (by exact_mod_cast h)),fun p h=>(by cases h),fun p h=>(by cases h)⟩
 Ar h1 h2 f1 f2 fun ρ hg=>lW (β:=bet [a,b]) (e:=.div (.mul (nn (.v 0)) (dd (.v 1))) (.mul (dd (.v 0)) (nn (.v 1)))) (fuel:=1) (n0:=4) (iW ok) (by kernel_rfl) (RV a b hn) hE hg
theorem Zn (h1:Z4.IsR W v1 a) (f1:Fits K2 a) (hE:EV W):Calls Tryz.prog 24 #[v1] W (Z4.fM W (-a)):=
 EN h1 f1 fun ρ hg=>lW (β:=bet [a]) (e:=.neg (.v 0)) (fuel:=1) (n0:=4) (iW (fQ _)) (by kernel_rfl) rfl hE hg
theorem Y5 (h1:Z4.IsR W v1 a) (f1:Fits K2 a) (hE:EV W):Calls Tryz.prog 26 #[v1] W (Z4.fM W (if a.num<0 then -a else a)):=
 EN h1 f1 fun ρ hg=>lW (β:=bet [a]) (e:=.abs (.v 0)) (fuel:=1) (n0:=4) (iW (fQ _)) (by kernel_rfl) rfl hE hg
theorem Zj (hE:EV W):Calls Tryz.prog 16 #[.int .i64 1] W (Z4.fM W (1:Rat)):=
 lW (β:=bet []) (ρ:=ev []) (args:=[.e (.s (.it .i64 1))]) (fs:=[]) (e:=.c 1) (fuel:=1) (n0:=0) (iW (fQ _)) (by kernel_rfl) rfl hE (fun g hg=>by cases hg)
theorem Zk (hE:EV W):Calls Tryz.prog 16 #[.int .i64 2] W (Z4.fM W (2:Rat)):=
 lW (β:=bet []) (ρ:=ev []) (args:=[.e (.s (.it .i64 2))]) (fs:=[]) (e:=.c 2) (fuel:=1) (n0:=0) (iW (fQ _)) (by kernel_rfl) rfl hE (fun g hg=>by cases hg)
theorem Qh (a b:Rat):aN a b = -1∨aN a b=0∨aN a b=1:=by
 unfold aN
 split
 ·exact .inl rfl
 ·split
  ·exact .inr (.inl rfl)
  ·exact .inr (.inr rfl)
theorem mg (a:Rat):sgQ a=if a.num<0 then -1 else if a.num=0 then 0 else 1:=by
 unfold sgQ sgn
 by_cases h:a.num<0
 ·rw [if_pos (decide_eq_true h),if_pos h]
 ·rw [if_neg (by simpa using h),if_neg h]
  by_cases h0:a.num=0
  ·rw [if_pos (by omega),if_pos h0]
  ·rw [if_neg (by omega),if_neg h0]
theorem sg3 (a:Rat):sgQ a = -1∨sgQ a=0∨sgQ a=1:=by
 rw [mg]
 split
 ·exact .inl rfl
 ·split
  ·exact .inr (.inl rfl)
  ·exact .inr (.inr rfl)
theorem Qn (a b:Rat):aN ((a.num:Rat)*(((b.den:Nat):Int):Rat)) ((b.num:Rat)*(((a.den:Nat):Int):Rat))=aN a b:=by
 rw [← Rat.intCast_mul,← Rat.intCast_mul,mX,Iq]
 rfl
theorem Za (h1:Z4.IsR W v1 a) (h2:Z4.IsR W v2 b) (f1:Fits K2 a) (f2:Fits K2 b) (hE:EV W):Calls Tryz.prog 28 #[v1,v2] W (bH W (.int .i64 (aN a b))):=by
 have ok:∀ y,aN a b=y→Hint.Ok (bet [a,b]) { cm:=[(.mul (nn (.v 0)) (dd (.v 1)),.mul (nn (.v 1)) (dd (.v 0)),y)] }:=fun y hy=>jg (fun p hp=>by simp at hp;subst hp;exact (Qn a b).trans hy) (fun p h=>by cases h) (fun p h=>by cases h)
 obtain hy | hy | hy:=Qh a b
 all_goals (rw [hy];exact Ar h1 h2 f1 f2 fun ρ hg=>MR (β:=bet [a,b]) (fuel:=1) (n0:=4) (iW (ok _ hy)) (by kernel_rfl) hE hg)
theorem aa0 (a:Rat):aN (a.num:Rat) 0=sgQ a:=by
 rw [show (0:Rat)=((0:Int):Rat) from rfl,mX,mg]
theorem Zx (h1:Z4.IsR W v1 a) (f1:Fits K2 a) (hE:EV W):Calls Tryz.prog 13 #[v1] W (bH W (.int .i64 (sgQ a))):=by
 have ok:∀ y,sgQ a=y→Hint.Ok (bet [a]) { cm:=[(nn (.v 0),.c 0,y)] }:=fun y hy=>jg (fun p hp=>by simp at hp;subst hp;exact (aa0 a).trans hy) (fun p h=>by cases h) (fun p h=>by cases h)
 obtain hy | hy | hy:=sg3 a
 all_goals (rw [hy];exact EN h1 f1 fun ρ hg=>MR (β:=bet [a]) (fuel:=1) (n0:=4) (iW (ok _ hy)) (by kernel_rfl) hE hg)
end
end Rx
end Go.Proofs.YtefbfbdijimanaaGreatDoor
