/- What the proof rests on, part 35. -/
import Derived.Test.YtefbfbdijimanaaGreatDoorP34
import Derived.Test.YtefbfbdijimanaaGreatDoorP32
import Derived.Test.YtefbfbdijimanaaGreatDoorP33
namespace Go.Proofs.YtefbfbdijimanaaGreatDoor
set_option maxRecDepth 100000
set_option maxHeartbeats 80000000
namespace Rx
theorem zo (x:Rat):(0<x.num↔0<x)∧(x.num<0↔x<0):=by
 rw [Rat.lt_iff,Rat.lt_iff]
 simp
theorem fO {x:Rat}:sgQ x=1↔0<x:=by
 rw [lI,← (zo x).1]
 constructor
 ·intro h
  split at h
  ·cases h
  ·split at h
   ·cases h
   ·omega
 ·intro h
  rw [if_neg (by omega),if_neg (by omega)]
theorem jf {x:Rat}:sgQ x = -1↔x<0:=by
 rw [lI,← (zo x).2]
 constructor
 ·intro h
  split at h
  ·assumption
  ·split at h <;> cases h
 ·intro h
  rw [if_pos h]
theorem dU {x:Rat}:sgQ x=0↔x=0:=by
 rw [lI]
 constructor
 ·intro h
  split at h
  ·cases h
  ·split at h
   ·rename_i h0;exact Rat.num_eq_zero.1 h0
   ·cases h
 ·rintro rfl
  rfl
def zS (t:Int) (P x:Rat):Prop:=(t=0∧x=0)∨(t≠0∧sgQ x = -t∧x*x=P)
theorem iI {P x:Rat}:zS 0 P x↔x=0:=⟨fun h=>h.elim And.right (fun h=>absurd rfl h.1),fun h=>.inl ⟨rfl,h⟩⟩
theorem tY {P x:Rat}:zS 1 P x↔x<0∧x*x=P:=⟨fun h=>h.elim (fun h=>absurd h.1 (by decide)) (fun h=>⟨jf.1 h.2.1,h.2.2⟩),fun h=>.inr ⟨by decide,jf.2 h.1,h.2⟩⟩
theorem tZ {P x:Rat}:zS (-1) P x↔0<x∧x*x=P:=⟨fun h=>h.elim (fun h=>absurd h.1 (by decide)) (fun h=>⟨fO.1 h.2.1,h.2.2⟩),fun h=>.inr ⟨by decide,fO.2 h.1,h.2⟩⟩
def rS (t:Int) (P:Rat) (t':Int) (P':Rat):Int:=if t=0 then t' else if t' = -t then t*aS P P' else t
def zW (x:Rat) (t:Int) (P:Rat) (t':Int) (P':Rat):Prop:=(rS t P t' P' = 0∧x=0)∨(rS t P t' P'≠0∧sgQ x = -rS t P t' P'∧zS (-(t*t')) (4*(P*P')) (x*x - P - P'))
theorem Ko {x:Rat} (h:x≠0):x<0∨0<x:=by
 rcases sg3 x with h1 | h1 | h1
 ·exact .inl (jf.1 h1)
 ·exact absurd (dU.1 h1) h
 ·exact .inr (fO.1 h1)
theorem sq_pos {x:Rat} (h:x≠0):0<x*x:=by
 rcases Ko h with h1 | h1
 ·have:=Rat.mul_pos (show 0 < -x by grind) (show 0 < -x by grind)
  grind
 ·exact Rat.mul_pos h1 h1
theorem core0 {w d P:Rat} (_hP:0<P) (h1:(w - d)*(w - d)=4*(w*P)) (h2:w<d+(P+P)) (h3:d<w) (hd:0≤d):False:=by
 have a1:=Rat.mul_pos (show 0<w by grind) (show 0<d+(P+P) - w by grind)
 have a2:=Rat.mul_nonneg hd (show 0≤w - d by grind)
 have a3:=Rat.mul_pos (show 0<w by grind) (show 0<w - d by grind)
 grind
theorem P9 {w P Q:Rat} (hw:0<w) (hP:0<P) (hQ:0<Q) (hE:(w+P - Q)*(w+P - Q)=4*(w*P)) (h:Q<w+P):P+Q<w∨(w<P+Q∧Q<P):=by
 have hPQ:=Rat.mul_pos hP hQ
 have hw':=hw
 by_cases h1:P+Q<w
 ·exact .inl h1
 ·by_cases h2:w=P+Q
  ·subst h2;grind
  ·refine .inr ⟨by grind,?_⟩
   by_cases h3:Q<P
   ·exact h3
   ·exact (core0 (w:=w) (d:=Q - P) hP (by grind) (by grind) (by grind) (by grind)).elim
theorem Qa {w P Q:Rat} (hw:0<w) (hP:0<P) (hE:(w+P - Q)*(w+P - Q)=4*(w*P)) (h:w<P+Q) (h':P<Q):w+P<Q:=by
 have hwP:=Rat.mul_pos hw hP
 by_cases h1:w+P<Q
 ·exact h1
 ·by_cases h2:w+P=Q
  ·subst h2;grind
  ·exact (core0 (w:=w) (d:=Q - P) hP (by grind) (by grind) (by grind) (by grind)).elim
theorem GN {a b:Rat}:aS a b=1↔b<a:=by
 unfold aS
 constructor
 ·intro h
  split at h
  ·cases h
  ·split at h
   ·cases h
   ·grind
 ·intro h
  rw [if_neg (by grind),if_neg (by grind)]
theorem GX {a b:Rat}:aS a b = -1↔a<b:=by
 unfold aS
 constructor
 ·intro h
  split at h
  ·assumption
  ·split at h <;> cases h
 ·intro h
  rw [if_pos h]
theorem BR {a b:Rat}:aS a b=0↔a=b:=by
 unfold aS
 constructor
 ·intro h
  split at h
  ·cases h
  ·split at h
   ·assumption
   ·cases h
 ·rintro rfl
  rw [if_neg (by grind),if_pos rfl]
theorem XG {t:Int} (ht:t≠0) {P Q:Rat}:rS t P t Q=t:=by
 unfold rS
 rw [if_neg ht,if_neg (by omega)]
theorem XF {t:Int} (ht:t≠0) {P Q:Rat}:rS t P (-t) Q=t*aS P Q:=by
 unfold rS
 rw [if_neg ht,if_pos rfl]
theorem MB {x P Q:Rat} {t:Int} (ht:t=1∨t = -1) (hP:0<P) (hQ:0<Q):(zW x t P t Q∨zW x t P (-t) Q)↔zS (sgQ x*t) (4*(x*x*P)) (x*x+P - Q):=by
 have ht0:t≠0:=by rcases ht with rfl | rfl <;> decide
 have htt:t*t=1:=by rcases ht with rfl | rfl <;> rfl
 have e1:zW x t P t Q↔sgQ x = -t∧(0<x*x - P - Q∧(x*x - P - Q)*(x*x - P - Q)=4*(P*Q)):=by
  unfold zW
  rw [XG ht0,htt,tZ]
  exact ⟨fun h=>h.elim (fun h=>absurd h.1 ht0) And.right,fun h=>.inr ⟨ht0,h⟩⟩
 have e2:zW x t P (-t) Q↔(P=Q∧x=0)∨(P≠Q∧sgQ x = -(t*aS P Q)∧(x*x - P - Q<0∧(x*x - P - Q)*(x*x - P - Q)=4*(P*Q))):=by
  unfold zW
  rw [XF ht0,show -(t * -t)=1 by rw [Int.mul_neg,Int.neg_neg];exact htt,tY]
  have h0:t*aS P Q=0↔P=Q:=by rw [Int.mul_eq_zero,BR];exact ⟨fun h=>h.resolve_left ht0,.inr⟩
  rw [h0,ne_eq,h0]
 rw [e1,e2]
 by_cases hx:x=0
 ·subst hx
  rw [show sgQ 0=0 from rfl,Int.zero_mul,iI]
  constructor
  ·rintro (⟨h,-⟩ | ⟨h,-⟩ | ⟨h,h1,-⟩)
   ·omega
   ·grind
   ·exact absurd (BR.1 (by rcases ht with rfl | rfl <;> omega)) h
  ·intro h
   exact .inr (.inl ⟨by grind,rfl⟩)
 ·have hw:=sq_pos hx
  have hs:sgQ x=1∨sgQ x = -1:=by
   rcases sg3 x with h | h | h
   ·exact .inr h
   ·exact absurd (dU.1 h) hx
   ·exact .inl h
  have hEE:(x*x+P - Q)*(x*x+P - Q)=4*(x*x*P)↔(x*x - P - Q)*(x*x - P - Q)=4*(P*Q):=by constructor <;> intro h <;> grind
  generalize x*x=w at *
  by_cases hsame:sgQ x=t
  ·rw [hsame,htt,tY,hEE]
   constructor
   ·rintro (⟨h,-⟩ | ⟨-,h⟩ | ⟨h0,h,h1,h2⟩)
    ·omega
    ·exact absurd h hx
    ·have hc:aS P Q = -1:=by rcases oM P Q with h3 | h3 | h3 <;> rw [h3] at h <;> rcases ht with rfl | rfl <;> first | exact h3 | omega
     exact ⟨by have:=Qa hw hP (hEE.2 h2) (by grind) (GX.1 hc);grind,h2⟩
   ·rintro ⟨h1,h2⟩
    refine .inr (.inr ⟨by grind,?_,by grind,h2⟩)
    rw [GX.2 (show P<Q by grind)];omega
  ·have hop:sgQ x = -t:=by rcases hs with h | h <;> rcases ht with rfl | rfl <;> first | exact absurd h hsame | exact h
   rw [hop,show -t*t = -1 by rw [Int.neg_mul,htt],tZ,hEE]
   constructor
   ·rintro (⟨-,h1,h2⟩ | ⟨-,h⟩ | ⟨h0,h,h1,h2⟩)
    ·exact ⟨by grind,h2⟩
    ·exact absurd h hx
    ·have hc:aS P Q=1:=by rcases oM P Q with h3 | h3 | h3 <;> rw [h3] at h <;> rcases ht with rfl | rfl <;> first | exact h3 | omega
     have:=GN.1 hc
     exact ⟨by grind,h2⟩
   ·rintro ⟨h1,h2⟩
    rcases P9 hw hP hQ (hEE.2 h2) (by grind) with h3 | ⟨h3,h4⟩
    ·exact .inl ⟨rfl,by grind,h2⟩
    ·refine .inr (.inr ⟨by grind,?_,by grind,h2⟩)
     rw [GN.2 h4];omega
theorem Zv {x Q:Rat} (hQ:0<Q):(zW x 0 0 1 Q∨zW x 0 0 (-1) Q)↔zS (sgQ x*0) (4*(x*x*0)) (x*x+0 - Q):=by
 have e:∀ s:Int,s≠0→(zW x 0 0 s Q↔sgQ x = -s∧x*x - 0 - Q=0):=fun s hs=>by
  unfold zW
  rw [show rS 0 0 s Q=s from rfl,Int.zero_mul,Int.neg_zero,iI]
  exact ⟨fun h=>h.elim (fun h=>absurd h.1 hs) And.right,fun h=>.inr ⟨hs,h⟩⟩
 rw [e 1 (by decide),e (-1) (by decide),Int.mul_zero,iI]
 constructor
 ·rintro (⟨-,h⟩ | ⟨-,h⟩) <;> grind
 ·intro h
  have hx:x≠0:=by rintro rfl;grind
  rcases sg3 x with h1 | h1 | h1
  ·exact .inl ⟨h1,by grind⟩
  ·exact absurd (dU.1 h1) hx
  ·exact .inr ⟨h1,by grind⟩
theorem WO {x P:Rat} {t:Int}:zW x t P 0 0↔zS t P x:=by
 unfold zW
 by_cases ht:t=0
 ·subst ht
  rw [show rS 0 P 0 0=0 from rfl,iI]
  exact ⟨fun h=>h.elim And.right (fun h=>absurd rfl h.1),fun h=>.inl ⟨rfl,h⟩⟩
 ·rw [show rS t P 0 0=t by unfold rS;rw [if_neg ht,if_neg (by omega)],Int.mul_zero,Int.neg_zero,iI]
  unfold zS
  constructor
  ·rintro (⟨h,-⟩ | ⟨h,h1,h2⟩)
   ·exact absurd h ht
   ·exact .inr ⟨h,h1,by grind⟩
  ·rintro (⟨h,-⟩ | ⟨h,h1,h2⟩)
   ·exact absurd h ht
   ·exact .inr ⟨h,h1,by grind⟩
theorem XK {x P q:Rat} {t:Int} (ht:t=0∨t=1∨t = -1) (hP:t≠0→0<P) (h0:t=0→P=0) (hq:0<q):(zS t P (x+q)∨zS t P (x - q))↔zS (sgQ x*t) (4*(x*x*P)) (x*x+P - q*q):=by
 rcases ht with rfl | rfl | rfl
 ·rw [Int.mul_zero,iI,iI,iI,h0 rfl]
  constructor
  ·rintro (h | h) <;> grind
  ·intro h
   have:(x+q)*(x - q)=0:=by grind
   exact Rat.mul_eq_zero.1 this
 ·have hp:=hP (by decide)
  rw [tY,tY,Int.mul_one]
  rcases sg3 x with h | h | h <;> rw [h]
  ·have hx:=jf.1 h
   rw [tZ]
   constructor
   ·rintro (⟨h1,h2⟩ | ⟨h1,h2⟩)
    ·have:=Rat.mul_pos (show 0 < -x by grind) (show 0 < -(x+q) by grind)
     exact ⟨by grind,by grind⟩
    ·have:=Rat.mul_pos (show 0 < -x by grind) (show 0 < -(x - q) by grind)
     exact ⟨by grind,by grind⟩
   ·rintro ⟨h1,h2⟩
    have h3:((x+q)*(x+q) - P)*((x - q)*(x - q) - P)=0:=by grind
    rcases Rat.mul_eq_zero.1 h3 with h4 | h4
    ·refine .inl ⟨?_,by grind⟩
     by_cases h5:x+q<0
     ·exact h5
     ·have:=Rat.mul_nonneg (show 0≤-x by grind) (show 0≤x+q by grind)
      grind
    ·exact .inr ⟨by grind,by grind⟩
  ·have hx:=dU.1 h
   subst hx
   rw [iI]
   constructor
   ·rintro (⟨h1,h2⟩ | ⟨h1,h2⟩) <;> grind
   ·intro h1
    exact .inr ⟨by grind,by grind⟩
  ·have hx:=fO.1 h
   rw [tY]
   constructor
   ·rintro (⟨h1,h2⟩ | ⟨h1,h2⟩)
    ·grind
    ·have:=Rat.mul_pos hx (show 0 < -(x - q) by grind)
     exact ⟨by grind,by grind⟩
   ·rintro ⟨h1,h2⟩
    have h3:((x+q)*(x+q) - P)*((x - q)*(x - q) - P)=0:=by grind
    rcases Rat.mul_eq_zero.1 h3 with h4 | h4
    ·have:=Rat.mul_pos hx (show 0<x+q by grind)
     grind
    ·refine .inr ⟨?_,by grind⟩
     by_cases h5:x - q<0
     ·exact h5
     ·have:=Rat.mul_nonneg (show 0≤x by grind) (show 0≤x - q by grind)
      grind
 ·have hp:=hP (by decide)
  rw [tZ,tZ]
  rcases sg3 x with h | h | h <;> rw [h]
  ·have hx:=jf.1 h
   rw [show (-1:Int) * -1=1 from rfl,tY]
   constructor
   ·rintro (⟨h1,h2⟩ | ⟨h1,h2⟩)
    ·have:=Rat.mul_pos (show 0 < -x by grind) h1
     exact ⟨by grind,by grind⟩
    ·grind
   ·rintro ⟨h1,h2⟩
    have h3:((x+q)*(x+q) - P)*((x - q)*(x - q) - P)=0:=by grind
    rcases Rat.mul_eq_zero.1 h3 with h4 | h4
    ·refine .inl ⟨?_,by grind⟩
     by_cases h5:0<x+q
     ·exact h5
     ·have:=Rat.mul_nonneg (show 0≤-x by grind) (show 0≤-(x+q) by grind)
      grind
    ·have:=Rat.mul_pos (show 0 < -x by grind) (show 0 < -(x - q) by grind)
     grind
  ·have hx:=dU.1 h
   subst hx
   rw [show (0:Int) * -1=0 from rfl,iI]
   constructor
   ·rintro (⟨h1,h2⟩ | ⟨h1,h2⟩) <;> grind
   ·intro h1
    exact .inl ⟨by grind,by grind⟩
  ·have hx:=fO.1 h
   rw [show (1:Int) * -1 = -1 from rfl,tZ]
   constructor
   ·rintro (⟨h1,h2⟩ | ⟨h1,h2⟩)
    ·have:=Rat.mul_pos hx h1
     exact ⟨by grind,by grind⟩
    ·have:=Rat.mul_pos hx h1
     exact ⟨by grind,by grind⟩
   ·rintro ⟨h1,h2⟩
    have h3:((x+q)*(x+q) - P)*((x - q)*(x - q) - P)=0:=by grind
    rcases Rat.mul_eq_zero.1 h3 with h4 | h4
    ·exact .inl ⟨by grind,by grind⟩
    ·refine .inr ⟨?_,by grind⟩
     by_cases h5:0<x - q
     ·exact h5
     ·have:=Rat.mul_nonneg (show 0≤x by grind) (show 0≤-(x - q) by grind)
      grind
end Rx
namespace Rx
open Go.RowKit
def d3 (β:Nat→Rat) (h:Hint):List (Con (SQ β)):=qN β :: (d2 β h ++ cl1 β)
abbrev Rh:List (RE×RE):=[(.add rM (.mul (.neg rH) (rtE rU)),.add sM (.mul (.neg sH) (rtE sU))),(.add rM (.mul rH (rtE rU)),.add sM (.mul sH (rtE sU)))]
abbrev Rf:List (RE×RE):=[(rM,sM),(.div (.neg rH) (.den rU),.div (.neg sH) (.den sU)),(.mul (.num rU) (.den rU),.mul (.num sU) (.den sU)),(.div rH (.den rU),.div sH (.den sU))]
abbrev Lp (s:Int):List (RE×Int):=[(y0,s),(rU,1),(rH,1),(.neg rH,-1),(sU,1),(sH,1),(.neg sH,-1)]
def q0:Hint:={ sg:=[(y0,0),(y1,0),(y2,0)] }
def q1 (s:Int):Hint:={ sg:=[(y0,0),(y1,0),(y2,s)] }
def q2 (s:Int):Hint:={ eq:=[(.div (.neg y2) y1,.neg (.div y2 y1))],nz:=[y1],sg:=[(y0,0),(y1,s)] }
def q3 (s:Int):Hint:={ nz:=[rD,sT],sg:=[(y0,s),(rU,-1),(sU,-1)] }
def q4 (s:Int):Hint:={ eq:=[(rM,sM)],nz:=[rD,sT],sg:=[(y0,s),(rU,0),(sU,0)] }
def q5 (s:Int):Hint:={ eq:=(sq2 (.num rU),.num rU) :: (sq2 (.den rU),.den rU) :: (sq2 (.num sU),.num sU) :: (sq2 (.den sU),.den sU) :: Rh,nz:=[rD,sT],sg:=Lp s }
def q6 (s:Int) (n:Bool):Hint:={ eq:=Rf,ne:=[noS n rU,noS n sU],nz:=[rD,.den rU,sT,.den sU],sg:=Lp s }
section
variable {β:Nat→Rat}
theorem Fa:((2:Int):Rat)=1+1:=by decide +kernel
theorem sgz {a:Rat} (h:sgQ a=0):a=0:=by
 rw [lI] at h
 split at h
 ·cases h
 ·split at h
  ·rename_i h0;exact Rat.num_eq_zero.1 h0
  ·cases h
theorem tK {r:Rat} (h:r≠0) {s:Int} (hs:sgQ r=s):s=1∨s = -1:=by
 rcases sg3 r with h1 | h1 | h1
 ·exact .inr (hs.symm.trans h1)
 ·exact absurd (sgz h1) h
 ·exact .inl (hs.symm.trans h1)
theorem EK {r:Rat} (h:sgQ r=1):sgQ (-r) = -1:=by
 rw [lI] at h ⊢
 rw [Rat.neg_num]
 split at h
 ·cases h
 ·split at h
  ·cases h
  ·rw [if_pos (by omega)]
theorem Yz {r:Rat} (h:r≠0):sgQ (if r.num<0 then -r else r)=1:=by
 have hn:r.num≠0:=fun h0=>h (Rat.num_eq_zero.1 h0)
 split
 ·rw [lI,Rat.neg_num,if_neg (by omega),if_neg (by omega)]
 ·rw [lI,if_neg (by omega),if_neg hn]
theorem nM (h:β 0≠0):rD.ev β≠0:=by
 show β 0+β 0≠0
 intro h0
 exact h (by grind)
theorem vY (h:β 0≠0):sgQ (rH.ev β)=1:=by
 refine Yz ?_
 show ((1:Int):Rat) / rD.ev β≠0
 intro h0
 have h1:((1:Int):Rat) / rD.ev β*rD.ev β=((1:Int):Rat):=Rat.div_mul_cancel (nM h)
 rw [h0,Rat.zero_mul] at h1
 exact absurd h1 (by decide +kernel)
end
end Rx
namespace Z4
open Go.RowKit Go.Sort Go.Lib
theorem ZH (p:Option Addr) (l k:Nat) (w:World):Calls Tryz.prog 72 #[.agg #[.bool true,.slice p l k],.agg #[.bool false,.slice none 0 0]] w (bF w (.int .i64 (-1))):=by
 go_enter Tryz.func72,Tryz.ntmps72
 go_wp2
 go_ret
 exact ⟨rfl,((Below.refl _ _).alloc (Nat.le_refl _) _).alloc (by simp) _⟩
theorem ZI (p:Option Addr) (l k:Nat) (c:Int) (w:World) (h:∀ W,Below w.heap.size w W→Calls Tryz.prog 108 #[.slice p l k,.slice none 0 0] W (bF W (.int .i64 c))):Calls Tryz.prog 72 #[.agg #[.bool false,.slice p l k],.agg #[.bool false,.slice none 0 0]] w (bF w (.int .i64 c)):=by
 have HA:=hid h
 clear h
 go_enter Tryz.func72,Tryz.ntmps72
 go_wp2_with fail
 have hB:Below w.heap.size w ((w.alloc (.cells #[.bool false,.slice p l k] 35)).alloc (.cells #[.bool false,.slice none 0 0] 35)):=((Below.refl _ _).alloc (Nat.le_refl _) _).alloc (by simp) _
 refine (HA.out _ hB).mono ?_
 rintro e w1 ⟨rfl,hb⟩
 go_wp2
 go_ret
 exact ⟨rfl,hB.trans (hb.mono hB.size)⟩
theorem ZJ (z:Int) (t:Bool) (p:Option Addr) (l k:Nat) (w:World) (h:IsZ w (.agg #[.bool t,.slice p l k]) z) (hz:z.natAbs<B64 ^ 4):Calls Tryz.prog 72 #[.agg #[.bool t,.slice p l k],.agg #[.bool false,.slice none 0 0]] w (bF w (.int .i64 (if z<0 then -1 else if z=0 then 0 else 1))):=by
 obtain ⟨p',l',k',xs,hv,hL,dx,tx,hx⟩:=h
 simp only [Value.agg.injEq,Array.mk.injEq,List.cons.injEq,Value.bool.injEq,Value.slice.injEq,and_true] at hv
 obtain ⟨rfl,rfl,rfl,rfl⟩:=hv
 by_cases h0:z<0
 ·rw [decide_eq_true h0,if_pos h0]
  exact ZH p l k w
 ·rw [decide_eq_false h0,if_neg h0]
  refine ZI p l k _ w fun W hB=>?_
  have hle:xs.length≤20:=cO tx (Nat.lt_of_lt_of_le (by rw [hx];exact hz) (by decide))
  refine (wV _ _ xs [] W (hL.below hB) (IsL.nil 0 W) dx Dig.nil tx (fun h=>absurd rfl h) (by omega) (by simp)).mono fun e w' ⟨he,q,hw⟩=>⟨?_,by rw [hw];exact below_drewN _ _⟩
  rw [he]
  unfold aC
  rw [show val ([]:List Nat)=0 by simp [val],hx]
  by_cases h1:z=0
  ·subst h1;rfl
  ·rw [if_neg h1,if_neg (by omega),if_neg (by omega)]
theorem Yb (t b:Bool) (p p':Option Addr) (l k l' k':Nat) (c:Int) (w:World) (h:∀ W,Below w.heap.size w W→Calls Tryz.prog 72 #[.agg #[.bool t,.slice p l k],.agg #[.bool false,.slice none 0 0]] W (bF W (.int .i64 c))):Calls Tryz.prog 13 #[.agg #[.bool t,.slice p l k,.bool b,.slice p' l' k']] w (bF w (.int .i64 c)):=by
 have HA:=hid h
 clear h
 go_enter Tryz.func13,Tryz.ntmps13
 go_wp2_with fail
 have hB:Below w.heap.size w (w.alloc (.cells #[.bool t,.slice p l k,.bool b,.slice p' l' k'] 37)):=(Below.refl _ _).alloc (Nat.le_refl _) _
 refine (HA.out _ hB).mono ?_
 rintro e w1 ⟨rfl,hb⟩
 go_wp2
 go_ret
 exact ⟨rfl,hB.trans (hb.mono hB.size)⟩
end Z4
namespace Rx
open Go.RowKit
theorem Ya {w:World} {v:Value} {r:Rat} (hv:Z4.IsR w v r) (hz:r.num.natAbs<B64 ^ 4):Calls Tryz.prog 13 #[v] w (bF w (.int .i64 (sgQ r))):=by
 obtain ⟨t,p,l,k,p',l',k',rfl⟩:=hv.open
 rw [show sgQ r=if r.num<0 then -1 else if r.num=0 then 0 else 1 by
  unfold sgQ sgn
  by_cases h0:r.num=0
  ·rw [h0];rfl
  ·by_cases h1:r.num<0
   ·simp [h1]
   ·simp [h1,h0]]
 exact Z4.Yb t _ p p' l k l' k' _ w fun W hB=>Z4.ZJ _ _ _ _ _ _ (hv.below hB).num hz
def Cm (β:Nat→Rat) (h:Hint):Con (SQ β) where
 fn:=13
 app:=fun db _ args=>match args with
  | [.e (.a x)]=>match iY db x with
   | some (e,k)=>if k≤4 then (match sgB h e with
    | some n=>some (.e (.s (.it .i64 n)),[])
    | none=>none) else none
   | none=>none
  | _=>none
theorem PN {β:Nat→Rat} {h:Hint} (ok:h.Ok β):(Cm β h).Ok Tryz.prog (SQ β) EV:=by
 refine Con.ok0 rfl ?_
 intro db b args res new ha ρ W hf hE
 simp only [Cm] at ha
 split at ha
 ·split at ha
  ·rename_i e k hx
   split at ha
   ·rename_i hk
    split at ha
    ·rename_i n hs
     cases ha
     obtain ⟨h1,h2⟩:=Gj hx hf
     have hc:=Ya h1 (h2.mono hk).1
     rw [vW ok hs] at hc
     exact uG hc rfl
    ·cases ha
   ·cases ha
  ·cases ha
 ·cases ha
end Rx
namespace Rx
open Go.RowKit
abbrev vqA (A B D:RE):RE:=.add (.mul A A) (.mul (.mul B B) D)
abbrev vqB (A B:RE):RE:=.mul (.mul (.c 2) A) B
abbrev vA (a b c A B D:RE):RE:=.add (.add (.mul a (vqA A B D)) (.mul b A)) c
abbrev vB (a b A B:RE):RE:=.add (.mul a (vqB A B)) (.mul b B)
def II (β:Nat→Rat) (h:Hint):Con (SQ β):=aI β h 59 [[.q],[.q],[.q],Q3] 256 {} (.at Q3 [vA y0 y1 y2 y3 y4 y5,vB y0 y1 y3 y4,y5]) 4096
theorem Ue {β:Nat→Rat} {h:Hint} (ok:h.Ok β):(II β h).Ok Tryz.prog (SQ β) EV:=dL ok (by decide) fun γ g=>⟨{},g,1,cq γ {},iO g,by kernel_rfl⟩
def cP (β:Nat→Rat) (h:Hint):List (Con (SQ β)):=xH β :: cq β h
theorem OG {β:Nat→Rat} {h:Hint} (ok:h.Ok β):∀ c∈cP β h,c.Ok Tryz.prog (SQ β) EV:=by
 unfold cP
 simp only [List.forall_mem_cons]
 exact ⟨PZ,iO ok⟩
def IC (β:Nat→Rat) (h:Hint):Con (SQ β):=aI β h 62 [[.q],[.q]] K1 { eq:=[(y0,y1)] } (.bl true) K1
theorem TS {β:Nat→Rat} {h:Hint} (ok:h.Ok β):(IC β h).Ok Tryz.prog (SQ β) EV:=dL ok (by decide) fun γ g=>⟨{ eq:=[(y0,y1)] },g,1,cP γ { eq:=[(y0,y1)] },OG g,by kernel_rfl⟩
def d0x (β:Nat→Rat) (h:Hint):List (Con (SQ β)):=uN β [y2] :: d0p β h
def Iz (β:Nat→Rat) (h:Hint):Con (SQ β):=aI β h 61 [Q3] K3 { sg:=[(y1,0),(y2,0)] } (.ati Q3 [y0,.c 0,.c 0] 0) K3
theorem Ti {β:Nat→Rat} {h:Hint} (ok:h.Ok β):(Iz β h).Ok Tryz.prog (SQ β) EV:=dL ok (by decide) fun γ g=>⟨{ sg:=[(y1,0),(y2,0)] },g,1,d0x γ { sg:=[(y1,0),(y2,0)] },by
  unfold d0x
  simp only [List.forall_mem_cons]
  exact ⟨Ce fun e he=>(by obtain rfl:=List.mem_singleton.1 he;exact .inl (g.2.2.2.1 (y2,0) (by simp))),iF g⟩,by kernel_rfl⟩
abbrev vF (s:Int):Hint:={ ne:=[noS true y2],nz:=[.den y2],sg:=[(y1,s),(y2,1)] }
def xY (s:Int) (β:Nat→Rat) (h:Hint):Con (SQ β):=aI β h 61 [Q3] 256 (vF s) (.ati Q3 [y0,.div y1 (.den y2),.mul (.num y2) (.den y2)] 0) K3
theorem SS {β:Nat→Rat} {h:Hint} (ok:h.Ok β):(xY 1 β h).Ok Tryz.prog (SQ β) EV:=dL ok (by decide) fun γ g=>⟨vF 1,g,1,d0p γ (vF 1),iF g,by kernel_rfl⟩
theorem SN {β:Nat→Rat} {h:Hint} (ok:h.Ok β):(xY (-1) β h).Ok Tryz.prog (SQ β) EV:=dL ok (by decide) fun γ g=>⟨vF (-1),g,1,d0p γ (vF (-1)),iF g,by kernel_rfl⟩
abbrev hand3 (a b c:Nat):List Cell:=oZ a ++ oZ b ++ oZ c
def Ec (y:Bool):Option (SV×List Fc)→Bool
 | some (.t [.a cs,.a rs,.s (.bl x)],fs)=>match dM fs Q3 cs,dM fs R3 rs with
  | some ys,some zs=>x == y && alike 4 [y0,y1,y2] ys && alike 4 [y0,y1,y2] zs
  | _,_=>false
 | _=>false
theorem WV {y:Bool} {o:Option (SV×List Fc)} (h:Ec y o=true):∃ cs rs fs ys zs,o=some (.t [.a cs,.a rs,.s (.bl y)],fs)∧dM fs Q3 cs=some ys∧dM fs R3 rs=some zs∧alike 4 [y0,y1,y2] ys=true∧alike 4 [y0,y1,y2] zs=true:=by
 unfold Ec at h
 split at h
 ·split at h
  ·rename_i cs rs x fs _ _ ys zs h1 h2
   simp only [Bool.and_eq_true,beq_iff_eq] at h
   exact ⟨cs,rs,fs,ys,zs,by rw [h.1.1],h1,h2,h.1.2,h.2⟩
  ·cases h
 ·cases h
def Kw (β:Nat→Rat) (h:Hint):List (Con (SQ β)):=cl1 β ++ (Cm β h :: cq β h)
theorem XY {β:Nat→Rat} {h:Hint} (ok:h.Ok β):∀ c∈Kw β h,c.Ok Tryz.prog (SQ β) EV:=fun c hc=>by
 rcases List.mem_append.1 hc with hc | hc
 ·exact Gz c hc
 ·rcases List.mem_cons.1 hc with rfl | hc
  ·exact PN ok
  ·exact iO ok c hc
def notM (s:Int):Bool:=!(decide (s = -1))
theorem X3 (β:Nat→Rat):(i3.all fun s=>Ec (notM s) (aT Tryz.prog (SQ β) (HQ β {} (jc β)) (Kw β { sg:=[(y2,s)] }) 1 58 [.e (.a (hand3 0 3 6))] [.n 0 y0,.n 3 y1,.n 6 y2] 9))=true:=by kernel_rfl
def Ep (h:Hint) (N:List RE) (e:RE):Option Bool:=if N.any (·.beq e) then some true else if sgB h e=some (-1) then some false else none
theorem Xf {β:Nat→Rat} {h:Hint} (ok:h.Ok β) {N:List RE} (okN:iD β N) {e:RE} {x:Bool} (hh:Ep h N e=some x):notM (sgQ (e.ev β))=x:=by
 unfold Ep at hh
 split at hh
 ·rename_i hn
  cases hh
  rcases zk okN hn with h1 | h1 <;> rw [h1] <;> rfl
 ·split at hh
  ·rename_i hs
   cases hh
   rw [vW ok hs];rfl
  ·cases hh
def BX (β:Nat→Rat) (h:Hint) (N:List RE):Con (SQ β) where
 fn:=58
 app:=fun db b args=>match args with
  | [.e (.a x)]=>match nH (x.take 3),nH ((x.drop 3).take 3),nH (x.drop 6) with
   | some a,some a',some a''=>match jG db a,jG db a',jG db a'' with
    | some e,some e',some e''=>match Ep h N e'' with
     | some s=>some (.t [.a (jC Q3 b),.a (jC R3 (b+6)),.s (.bl s)],bY Q3 b [(e,4),(e',4),(e'',4)] ++ bY R3 (b+6) [(e,4),(e',4),(e'',4)])
     | none=>none
    | _,_,_=>none
   | _,_,_=>none
  | _=>none
theorem J3 {β:Nat→Rat} {e e' e'':RE} {γ:Nat→Rat} (hγ:γ=bet [e.ev β,e'.ev β,e''.ev β]) {ys:List (RE×Nat)} (h:alike 4 [y0,y1,y2] ys=true):rel β γ [(e,4),(e',4),(e'',4)] ys:=by
 subst hγ
 match ys,h with
 | [],h=>simp [alike] at h
 | [_],h=>simp [alike] at h
 | [_,_],h=>simp [alike] at h
 | [a,b,c],h =>
  simp only [alike,Bool.and_eq_true,decide_eq_true_eq] at h
  obtain ⟨⟨h1,h2⟩,⟨h3,h4⟩,⟨h5,h6⟩,-⟩:=h
  refine ⟨⟨?_,h2⟩,⟨?_,h4⟩,⟨?_,h6⟩,trivial⟩
  ·rw [← vK a.1,← RE.beq_eq h1];rfl
  ·rw [← vK b.1,← RE.beq_eq h3];rfl
  ·rw [← vK c.1,← RE.beq_eq h5];rfl
 | _ :: _ :: _ :: _ :: _,h=>simp [alike] at h
theorem Pm {β:Nat→Rat} {h:Hint} {N:List RE} (ok:h.Ok β) (okN:iD β N):(BX β h N).Ok Tryz.prog (SQ β) EV:=by
 refine Con.ok0 rfl ?_
 intro db b args res new ha ρ W hf hE
 simp only [BX] at ha
 split at ha
 ·rename_i x
  split at ha
  ·rename_i a a' a'' hx hx' hx''
   split at ha
   ·rename_i e e' e'' hn hn' hn''
    split at ha
    ·rename_i s hs
     cases ha
     have hm:IsN _ _ _ _:=hf _ (ku hn)
     have hm':IsN _ _ _ _:=hf _ (ku hn')
     have hm'':IsN _ _ _ _:=hf _ (ku hn'')
     have hl:x=hand3 a a' a'':=by
      have h1:x.take 3 ++ ((x.drop 3).take 3 ++ x.drop 6)=x:=by
       rw [show x.drop 6=(x.drop 3).drop 3 by rw [List.drop_drop],List.take_append_drop,List.take_append_drop]
      rw [← h1,yw hx,yw hx',yw hx''];rfl
     have hsv:=Xf ok okN hs
     rw [← hsv]
     obtain ⟨γ,hγ⟩:∃ γ,γ=bet [e.ev β,e'.ev β,e''.ev β]:=⟨_,rfl⟩
     have hr:=List.all_eq_true.1 (X3 γ) (sgQ (e''.ev β)) (mem3 (sg3 _))
     obtain ⟨cs,rs,fs,ys,zs,heq,p1,p2,l1,l2⟩:=WV hr
     have okh:Hint.Ok γ { sg:=[(y2,sgQ (e''.ev β))] }:=⟨fun p h=>(by cases h),fun p h=>(by cases h),fun p h=>(by cases h),fun p hp=>(by obtain rfl:=List.mem_singleton.1 hp;rw [hγ];rfl),fun p h=>(by cases h)⟩
     let ρ0:Env:=ev [ρ a,ρ (a+1),ρ (a+2),ρ a',ρ (a' + 1),ρ (a' + 2),ρ a'',ρ (a'' + 1),ρ (a'' + 2)]
     have hg:∀ g∈[Fc.n 0 y0,.n 3 y1,.n 6 y2],Fc.on γ ρ0 g W:=by
      rw [hγ]
      simp only [List.forall_mem_cons,List.not_mem_nil,false_imp_iff,implies_true,and_true]
      exact ⟨hm,hm',hm''⟩
     have hargs:([SV.e (.a x)].map (SV.den ρ))=[SV.e (.a (hand3 0 3 6))].map (SV.den ρ0):=by
      rw [hl];rfl
     rw [hargs]
     refine (gy mixed (XY okh) heq (iJ hE) hg).mono fun y W' ⟨ρ',_,hx',hb,hfs⟩=>?_
     obtain ⟨L,hL,hn1⟩:=su hfs p1
     obtain ⟨L',hL',hn2⟩:=su hfs p2
     have hlen:L.length=6:=hL
     have hlen':L'.length=6:=hL'
     have hat:∀ i,i<12→aK ρ b (L ++ L') (b+i)=(L ++ L')[i]?.getD default:=fun i hi=>by
      unfold aK
      rw [if_pos (by omega),Nat.add_sub_cancel_left,List.getElem?_eq_getElem (by rw [List.length_append];omega)];rfl
     obtain ⟨h3,h4⟩:=hn1 (aK ρ b (L ++ L')) b (fun i hi=>by
      have hi':i<6:=hi
      rw [hat i (by omega),List.getElem?_append_left (by omega)])
     obtain ⟨h5,h6⟩:=hn2 (aK ρ b (L ++ L')) (b+6) (fun i hi=>by
      have hi':i<6:=hi
      rw [Nat.add_assoc,hat (6+i) (by omega),List.getElem?_append_right (by omega),hlen,Nat.add_sub_cancel_left])
     refine ⟨aK ρ b (L ++ L'),jM (by rw [List.length_append,hlen,hlen'];decide),?_,hb,fun g hg=>?_⟩
     ·rw [hx'];simp only [SV.den,El.den,List.map_cons,List.map_nil,h3,h5];rfl
     ·rcases List.mem_append.1 hg with hg | hg
      ·exact h4 β _ (J3 hγ l1) g hg
      ·exact h6 β _ (J3 hγ l2) g hg
    ·cases ha
   ·cases ha
  ·cases ha
 ·cases ha
end Rx
namespace Rx
open Go.RowKit
abbrev Tri:=RE×RE×RE
def uf (β:Nat→Rat) (h:Hint) (L:SgL) (C:CmL) (N:List RE):List (Con (SQ β)):=qN β :: BX β h N :: CB β L N :: Cb β C N :: II β h :: IC β h :: Iz β h :: xY 1 β h :: xY (-1) β h :: (d2p β h ++ cl1 β)
theorem MX {β:Nat→Rat} {h:Hint} {L:SgL} {C:CmL} {N:List RE} (ok:h.Ok β) (okL:jB β L) (okC:lW β C) (okN:iD β N):∀ c∈uf β h L C N,c.Ok Tryz.prog (SQ β) EV:=by
 unfold uf
 simp only [List.forall_mem_cons]
 refine ⟨Ph,Pm ok okN,PU okL okN,Po okC okN,Ue ok,TS ok,Ti ok,SS ok,SN ok,fun c hc=>?_⟩
 rcases List.mem_append.1 hc with hc | hc
 ·exact Qg ok c hc
 ·exact Gz c hc
def iU (r:Tri):Tri:=(vA y0 y1 y2 r.1 r.2.1 r.2.2,vB y0 y1 r.1 r.2.1,r.2.2)
abbrev me:Tri:=(y3,y4,y5)
def sL0 (rs:List Tri):SgL:=rs.map fun r=>((iU r).1,(iU r).2.1,r.2.2,0)
def sLs (rs:List Tri) (v:Int):SgL:=((iU me).1,(iU me).2.1,y5,v) :: sL0 rs
def cLs (rs:List Tri) (ks:List Int):CmL:=(match rs with
 | [a,b]=>[(a,b,-1)]
 | _=>[]) ++ (rs.zip ks).map fun x=>(me,x.1,x.2)
abbrev zAs:List SV:=[.e (.a (oZ 0)),.e (.a (oZ 3)),.e (.a (oZ 6)),.e (.a (hand3 9 12 15))]
abbrev zFs:List Fc:=[.n 0 y0,.n 3 y1,.n 6 y2,.n 9 y3,.n 12 y4,.n 15 y5]
noncomputable def uj (β:Nat→Rat) (h:Hint) (rs:List Tri) (L:SgL) (ks:List Int) (N:List RE):Bool:=isB true (aT Tryz.prog (SQ β) (HQ β {} (jc β)) (uf β h L (cLs rs ks) N) 4 6 zAs zFs 18)
def cb0:List (List Int×Int):=[([],1),([],-1)]
def cb1:List (List Int×Int):=[([0],0),([1],1),([1],-1),([-1],1),([-1],-1)]
def cb2:List (List Int×Int):=i3.flatMap fun k=>i3.flatMap fun l=>if k=0∨l=0 then [([k,l],0)] else [([k,l],1),([k,l],-1)]
def noD (h:Hint):Hint:={ h with sg:=(y5,-1) :: h.sg }
def dJ (h:Hint) (rs:List Tri) (cb:List (List Int×Int)):Prop:=∀ β:Nat→Rat,(uj β (noD h) rs (sL0 rs) [] (rs.map (·.2.2)) && cb.all fun c=>uj β h rs (sLs rs c.2) c.1 (y5 :: rs.map (·.2.2)))=true
abbrev c00:RE:=.c 0
def z0:Hint:={ sg:=[(y0,0),(y1,0),(y2,0)] }
def z1 (s:Int):Hint:={ sg:=[(y0,0),(y1,0),(y2,s)] }
def z2 (s:Int):Hint:={ nz:=[y1],sg:=[(y0,0),(y1,s),(c00,0)] }
def z3 (s:Int):Hint:={ nz:=[rD],sg:=[(y0,s),(rU,-1)] }
def z4 (s:Int):Hint:={ nz:=[rD],sg:=[(y0,s),(rU,0),(c00,0)] }
def z5 (s:Int):Hint:={ eq:=[(sq2 (.num rU),.num rU),(sq2 (.den rU),.den rU)],nz:=[rD],sg:=[(y0,s),(rU,1),(rH,1),(.neg rH,-1),(c00,0)] }
abbrev bM:RE:=.div (.neg rH) (.den rU)
abbrev bP:RE:=.div rH (.den rU)
abbrev dB:RE:=.mul (.num rU) (.den rU)
def z6 (s:Int) (n:Bool):Hint:={ eq:=[(.div bM (.den dB),bM),(.div bP (.den dB),bP),(.mul (.num dB) (.den dB),dB)],ne:=[noS n rU,noS true dB],nz:=[rD,.den rU,.den dB],sg:=[(y0,s),(rU,1),(rH,1),(.neg rH,-1),(bM,-1),(bP,1),(dB,1)] }
abbrev r2:List Tri:=[(.div (.neg y2) y1,c00,c00)]
abbrev r4:List Tri:=[(rM,c00,c00)]
abbrev r5:List Tri:=[(.add rM (.mul (.neg rH) (rtE rU)),c00,c00),(.add rM (.mul rH (rtE rU)),c00,c00)]
abbrev r6:List Tri:=[(rM,bM,dB),(rM,bP,dB)]
theorem ZK:dJ z0 [] [([],0)]:=fun β=>by kernel_rfl
theorem ZM:dJ (z1 1) [] cb0:=fun β=>by kernel_rfl
theorem ZL:dJ (z1 (-1)) [] cb0:=fun β=>by kernel_rfl
end Rx
namespace Rx
theorem ZO:dJ (z2 1) r2 cb1:=fun β=>by kernel_rfl
theorem ZN:dJ (z2 (-1)) r2 cb1:=fun β=>by kernel_rfl
theorem ZQ:dJ (z3 1) [] cb0:=fun β=>by kernel_rfl
theorem ZP:dJ (z3 (-1)) [] cb0:=fun β=>by kernel_rfl
theorem ZT:dJ (z4 1) r4 cb1:=fun β=>by kernel_rfl
theorem ZR:dJ (z4 (-1)) r4 cb1:=fun β=>by kernel_rfl
theorem ZV:dJ (z5 1) r5 cb2:=fun β=>by kernel_rfl
theorem ZU:dJ (z5 (-1)) r5 cb2:=fun β=>by kernel_rfl
end Rx
namespace Rx
theorem Z5:dJ (z6 1 true) r6 cb2:=fun β=>by kernel_rfl
theorem ZY:dJ (z6 1 false) r6 cb2:=fun β=>by kernel_rfl
theorem ZX:dJ (z6 (-1) true) r6 cb2:=fun β=>by kernel_rfl
theorem ZW:dJ (z6 (-1) false) r6 cb2:=fun β=>by kernel_rfl
end Rx
namespace Rx
theorem lJ (x y:Rat):sgQ (x*y)=sgQ x*sgQ y:=by
 rcases sg3 x with hx | hx | hx <;> rcases sg3 y with hy | hy | hy <;> rw [hx,hy]
 ·have:=Rat.mul_pos (show 0 < -x by have:=jf.1 hx;grind) (show 0 < -y by have:=jf.1 hy;grind)
  exact fO.2 (by grind)
 ·rw [dU.1 hy,Rat.mul_zero];rfl
 ·have:=Rat.mul_pos (show 0 < -x by have:=jf.1 hx;grind) (fO.1 hy)
  exact jf.2 (by grind)
 ·rw [dU.1 hx,Rat.zero_mul];rfl
 ·rw [dU.1 hx,Rat.zero_mul];rfl
 ·rw [dU.1 hx,Rat.zero_mul];rfl
 ·have:=Rat.mul_pos (fO.1 hx) (show 0 < -y by have:=jf.1 hy;grind)
  exact jf.2 (by grind)
 ·rw [dU.1 hy,Rat.mul_zero];rfl
 ·exact fO.2 (Rat.mul_pos (fO.1 hx) (fO.1 hy))
theorem YA (x:Rat):sgQ (-x) = -sgQ x:=by
 rw [show -x = -1*x by grind,lJ,show sgQ (-1) = -1 from rfl];omega
theorem Ls (x:Rat):sgQ (x+x)=sgQ x:=by
 rw [show x+x=2*x by grind,lJ,show sgQ 2=1 from rfl,Int.one_mul]
theorem tJ (B D:Rat):sgS 0 B D=sgQ B*sgQ D:=by
 unfold sgS sgV
 rw [show sgQ 0=0 from rfl]
 split
 ·rename_i h;exact h.symm
 ·rw [if_pos (.inl rfl)]
theorem qc {a b:Int} (ha:a = -1∨a=0∨a=1) (hb:b = -1∨b=0∨b=1):a*b = -1∨a*b=0∨a*b=1:=by
 rcases ha with rfl | rfl | rfl <;> rcases hb with rfl | rfl | rfl <;> decide
theorem vX {A B D:Rat}:sgS A B D=0↔zS (sgQ B*sgQ D) (B*B*D) A:=by
 unfold sgS sgV zS
 have ht:=qc (sg3 B) (sg3 D)
 generalize sgQ B*sgQ D=t at *
 by_cases h0:t=0
 ·rw [if_pos h0,dU]
  exact ⟨fun h=>.inl ⟨h0,h⟩,fun h=>h.elim And.right fun h=>absurd h0 h.1⟩
 ·rw [if_neg h0]
  by_cases h1:sgQ A=0∨sgQ A=t
  ·rw [if_pos h1]
   refine ⟨fun h=>absurd h h0,fun h=>?_⟩
   rcases h with ⟨h,-⟩ | ⟨-,h,-⟩
   ·exact h
   ·omega
  ·rw [if_neg h1,Int.mul_eq_zero,BR]
   have:=sg3 A
   constructor
   ·intro h
    exact .inr ⟨h0,by omega,h.resolve_left (fun h=>h1 (.inl h))⟩
   ·rintro (⟨h,-⟩ | ⟨-,-,h⟩)
    ·exact absurd h h0
    ·exact .inr h
theorem EX {x B D B' D':Rat}:gB x B D B' D' = 0↔zW x (sgQ B*sgQ D) (B*B*D) (sgQ B' * sgQ D') (B' * B' * D'):=by
 unfold gB lN zW
 have hd:sgS (x*x - B*B*D - B' * B' * D') (-(B*B' + B*B')) (D*D')=0↔zS (-(sgQ B*sgQ D*(sgQ B' * sgQ D'))) (4*(B*B*D*(B' * B' * D'))) (x*x - B*B*D - B' * B' * D'):=by
  rw [vX,YA,Ls,lJ,lJ]
  rw [show -(sgQ B*sgQ B')*(sgQ D*sgQ D') = -(sgQ B*sgQ D*(sgQ B' * sgQ D')) by grind]
  rw [show -(B*B' + B*B') * -(B*B' + B*B')*(D*D')=4*(B*B*D*(B' * B' * D')) by grind]
 rw [tJ,tJ]
 generalize sgS (x*x - B*B*D - B' * B' * D') (-(B*B' + B*B')) (D*D')=d at *
 have ht:=qc (sg3 B) (sg3 D)
 have ht':=qc (sg3 B') (sg3 D')
 show (if rS (sgQ B*sgQ D) (B*B*D) (sgQ B' * sgQ D') (B' * B' * D')=0 then sgQ x else if sgQ x=0∨sgQ x=rS (sgQ B*sgQ D) (B*B*D) (sgQ B' * sgQ D') (B' * B' * D') then rS (sgQ B*sgQ D) (B*B*D) (sgQ B' * sgQ D') (B' * B' * D') else sgQ x*d)=0↔_
 have hr:rS (sgQ B*sgQ D) (B*B*D) (sgQ B' * sgQ D') (B' * B' * D') = -1∨rS (sgQ B*sgQ D) (B*B*D) (sgQ B' * sgQ D') (B' * B' * D')=0∨rS (sgQ B*sgQ D) (B*B*D) (sgQ B' * sgQ D') (B' * B' * D')=1:=by
  unfold rS
  split
  ·exact ht'
  ·split
   ·exact qc ht (oM _ _)
   ·exact ht
 generalize rS (sgQ B*sgQ D) (B*B*D) (sgQ B' * sgQ D') (B' * B' * D')=r at *
 rw [← hd]
 have hx:=sg3 x
 by_cases h0:r=0
 ·rw [if_pos h0,dU]
  exact ⟨fun h=>.inl ⟨h0,h⟩,fun h=>h.elim And.right fun h=>absurd h0 h.1⟩
 ·rw [if_neg h0]
  by_cases h1:sgQ x=0∨sgQ x=r
  ·rw [if_pos h1]
   refine ⟨fun h=>absurd h h0,fun h=>?_⟩
   rcases h with ⟨h,-⟩ | ⟨-,h,-⟩
   ·exact h
   ·omega
  ·rw [if_neg h1,Int.mul_eq_zero]
   constructor
   ·intro h
    exact .inr ⟨h0,by omega,h.resolve_left (fun h=>h1 (.inl h))⟩
   ·rintro (⟨h,-⟩ | ⟨-,-,h⟩)
    ·exact absurd h h0
    ·exact .inr h
theorem MW {b P x:Rat} {t:Int} (hb:b≠0):zS (sgQ b*t) (b*b*P) (b*x)↔zS t P x:=by
 unfold zS
 have h1:=sg3 b
 have h2:sgQ b≠0:=fun h=>hb (dU.1 h)
 have hbb:b*b≠0:=fun h=>by have:=sq_pos hb;grind
 rw [lJ]
 have e1:sgQ b*t=0↔t=0:=by rw [Int.mul_eq_zero];exact ⟨fun h=>h.resolve_left h2,.inr⟩
 have e2:b*x=0↔x=0:=by rw [Rat.mul_eq_zero];exact ⟨fun h=>h.resolve_left hb,.inr⟩
 have e3:sgQ b*sgQ x = -(sgQ b*t)↔sgQ x = -t:=by rcases h1 with h | h | h <;> rw [h] at h2 ⊢ <;> omega
 have e4:b*x*(b*x)=b*b*P↔x*x=P:=by
  constructor
  ·intro h
   have:b*b*(x*x - P)=0:=by grind
   have:=(Rat.mul_eq_zero.1 this).resolve_left hbb
   grind
  ·intro h
   rw [← h];grind
 rw [ne_eq,ne_eq,e1,e2,e3,e4]
theorem zO {B D:Rat} (hD:sgQ D=0∨sgQ D=1):(sgQ B*sgQ D=0∨sgQ B*sgQ D=1∨sgQ B*sgQ D = -1)∧(sgQ B*sgQ D=0→B*B*D=0)∧(sgQ B*sgQ D≠0→0<B*B*D):=by
 refine ⟨by have:=qc (sg3 B) (sg3 D);omega,fun h=>?_,fun h=>?_⟩
 ·rcases Int.mul_eq_zero.1 h with h | h
  ·rw [dU.1 h];grind
  ·rw [dU.1 h];grind
 ·have hb:B≠0:=fun h0=>h (by rw [h0];exact Int.zero_mul _)
  have hd:sgQ D=1:=hD.resolve_left fun h0=>h (by rw [h0,Int.mul_zero])
  exact Rat.mul_pos (sq_pos hb) (fO.1 hd)
theorem Qi {x P:Rat} {t:Int} (ht:t=0∨t=1∨t = -1) (h0:t=0→P=0) (hP:t≠0→0<P):zS t P x↔zS (sgQ x*t) (4*(x*x*P)) (x*x+P):=by
 by_cases hx:x=0
 ·subst hx
  rw [show sgQ 0=0 from rfl,Int.zero_mul,iI]
  unfold zS
  rw [show sgQ 0=0 from rfl]
  by_cases h:t=0
  ·rw [h0 h]
   exact ⟨fun _=>by grind,fun _=>.inl ⟨h,rfl⟩⟩
  ·have:=hP h
   constructor
   ·rintro (⟨h1,-⟩ | ⟨-,h1,-⟩)
    ·exact absurd h1 h
    ·omega
   ·intro h1
    grind
 ·have hw:=sq_pos hx
  by_cases h:t=0
  ·subst h
   rw [Int.mul_zero,iI,iI,h0 rfl]
   constructor
   ·intro h1;exact absurd h1 hx
   ·intro h1;grind
  ·have hp:=hP h
   have hs:sgQ (x*x+P)=1:=fO.2 (by grind)
   have h3:sgQ x*t≠0:=fun h1=>(Int.mul_eq_zero.1 h1).elim (fun h1=>hx (dU.1 h1)) h
   have hE:(x*x+P)*(x*x+P)=4*(x*x*P)↔x*x=P:=by
    constructor
    ·intro h1
     have h2:(x*x - P)*(x*x - P)=0:=by grind
     have:=Rat.mul_eq_zero.1 h2
     grind
    ·intro h1;rw [← h1];grind
   unfold zS
   rw [hs,hE]
   have:=sg3 x
   constructor
   ·rintro (⟨h1,-⟩ | ⟨-,h1,h2⟩)
    ·exact absurd h1 h
    ·refine .inr ⟨h3,?_,h2⟩
     rw [h1];rcases ht with rfl | rfl | rfl <;> first | exact absurd rfl h | decide
   ·rintro (⟨h1,-⟩ | ⟨-,h1,h2⟩)
    ·exact absurd h1 h3
    ·refine .inr ⟨h,?_,h2⟩
     rcases ht with rfl | rfl | rfl <;> omega
theorem neg_zero {x P Q:Rat} {t:Int} (hP:0≤P) (hQ:Q<0):¬ zS t (4*(x*x*P)) (x*x+P - Q):=by
 have hw:0≤x*x:=by
  by_cases hx:x=0
  ·subst hx;grind
  ·have:=sq_pos hx;grind
 rintro (⟨-,h⟩ | ⟨-,-,h⟩)
 ·grind
 ·have h1:0<(x*x+P - Q)+(x*x+P):=by grind
  have h2:=Rat.mul_pos h1 (show 0 < -Q by grind)
  have h3:0≤(x*x - P)*(x*x - P):=by
   by_cases hy:x*x - P=0
   ·rw [hy];grind
   ·have:=sq_pos hy;grind
  grind
theorem MH {a b c m Q A P:Rat} (ha:a≠0) (hm:m*(a+a) = -b) (hQ:Q*((a+a)*(a+a))=b*b - (a+a)*c*(1+1)):a*(A*A+P)+b*A+c=a*((A - m)*(A - m)+P - Q):=by
 grind
theorem MI {a b m A B:Rat} (hm:m*(a+a) = -b):a*((1+1)*A*B)+b*B=a*((A - m+(A - m))*B):=by
 grind
theorem val_zero {a b c m Q A B D:Rat} (ha:a≠0) (hm:m*(a+a) = -b) (hQ:Q*((a+a)*(a+a))=b*b - (a+a)*c*(1+1)) :
  sgS (a*(A*A+B*B*D)+b*A+c) (a*((1+1)*A*B)+b*B) D=0↔zS (sgQ (A - m)*(sgQ B*sgQ D)) (4*((A - m)*(A - m)*(B*B*D))) ((A - m)*(A - m)+B*B*D - Q):=by
 rw [MH ha hm hQ,MI hm,vX,lJ,lJ,Ls]
 rw [show a*((A - m+(A - m))*B)*(a*((A - m+(A - m))*B))*D=a*a*(4*((A - m)*(A - m)*(B*B*D))) by grind]
 rw [show sgQ a*(sgQ (A - m)*sgQ B)*sgQ D=sgQ a*(sgQ (A - m)*(sgQ B*sgQ D)) by grind]
 exact MW ha
theorem LV {a b k:Nat} (hc:Nat.Coprime a b) (h:a*b=k*k):isq a*isq a=a:=by
 have h1:Nat.gcd a k*Nat.gcd a k=a:=by
  have h2:Nat.gcd (a ^ 2) (k ^ 2)=Nat.gcd a k ^ 2:=Nat.pow_gcd_pow
  rw [Nat.pow_two,Nat.pow_two,Nat.pow_two,← h,Nat.gcd_mul_left,show Nat.gcd a b=1 from hc,Nat.mul_one] at h2
  exact h2.symm
 have h3:Nat.gcd a k=isq a:=Ja (Nat.le_of_eq h1) (by
  have:Nat.gcd a k*Nat.gcd a k<(Nat.gcd a k+1)*(Nat.gcd a k+1):=Nat.mul_lt_mul'' (Nat.lt_succ_self _) (Nat.lt_succ_self _)
  omega)
 rw [← h3];exact h1
end Rx
end Go.Proofs.YtefbfbdijimanaaGreatDoor
