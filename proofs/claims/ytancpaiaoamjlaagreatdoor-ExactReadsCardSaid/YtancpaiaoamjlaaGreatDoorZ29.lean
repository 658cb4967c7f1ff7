/- What the proof rests on, part 29. -/
import Derived.Test.YtancpaiaoamjlaaGreatDoorZ28
namespace Go.Proofs.YtancpaiaoamjlaaGreatDoor
set_option maxRecDepth 100000
set_option maxHeartbeats 80000000
namespace Rx
open Go.RowKit
def isY (t:Bool) (e:RE):Option (SV×List Fd)→Bool
 | some (.e (.a [.bl x,.os s]),fs)=>match iF fs s with
  | some (e',_)=>x == t && e'.beq e
  | none=>false
 | _=>false
theorem Vf {t:Bool} {e:RE} {o:Option (SV×List Fd)} (h:isY t e o=true):∃ s fs k,o=some (.e (.a [.bl t,.os s]),fs)∧iF fs s=some (e,k):=by
 unfold isY at h
 split at h
 ·split at h
  ·rename_i x s fs _ e' k ha
   simp only [Bool.and_eq_true,beq_iff_eq] at h
   exact ⟨s,fs,k,by rw [h.1],by rw [ha,RE.beq_eq h.2]⟩
  ·cases h
 ·cases h
def isJ (x:Int):Option (SV×List Fd)→Bool
 | some (.e (.s (.it .i64 y)),_)=>x == y
 | _=>false
theorem Ko {x:Int} {o:Option (SV×List Fd)} (h:isJ x o=true):∃ fs,o=some (.e (.s (.it .i64 x)),fs):=by
 unfold isJ at h
 split at h
 ·rename_i y fs
  have e:x=y:=by simpa using h
  subst e;exact ⟨fs,rfl⟩
 ·cases h
section
variable {a b:Int} {v1 v2:Value} {w:World}
theorem Oi {f:FuncId} {R:Ending→World→Prop} (h1:Z4.IsZ w v1 a) (h2:Z4.IsZ w v2 b) (ka:a.natAbs<B64 ^ K1) (kb:b.natAbs<B64 ^ K1)
  (go:∀ ρ:Env,(∀ g∈[Fd.l 0 (.v 0) K1,.l 1 (.v 1) K1],Fd.on (bet [((a.natAbs:Nat):Rat),((b.natAbs:Nat):Rat)]) ρ g w)→Calls Tryz.prog f ([.e (.a [.bl (decide (a<0)),.os 0]),.e (.a [.bl (decide (b<0)),.os 1])].map (SV.den ρ)).toArray w R):Calls Tryz.prog f #[v1,v2] w R:=by
 obtain ⟨p1,l1,c1,xs,rfl,L1,dx,tx,hv1⟩:=h1
 obtain ⟨p2,l2,c2,ys,rfl,L2,dy,ty,hv2⟩:=h2
 refine go (ev [⟨false,0,p1,l1,c1,.empty,0,default⟩,⟨false,0,p2,l2,c2,.empty,0,default⟩]) fun g hg=>?_
 simp only [List.mem_cons,List.not_mem_nil,or_false] at hg
 rcases hg with rfl | rfl
 ·exact ⟨xs,L1,dx,tx,by rw [hv1];rfl,by rw [hv1];exact ka⟩
 ·exact ⟨ys,L2,dy,ty,by rw [hv2];rfl,by rw [hv2];exact kb⟩
theorem pz {β:Nat→Rat} {h:Hint} (ok:h.Ok β) {fuel:Nat} {f:FuncId} {args:List SV} {fs:List Fd} {n0:Nat} {ρ:Env} {t:Bool} {e:RE} {z:Int} (hr:isY t e (bg Tryz.prog (SR β) (HR β) (cz β h) fuel f args fs n0)=true) (hE:EV w) (hf:∀ g∈fs,Fd.on β ρ g w)
  (hz:∀ n:Nat,((n:Nat):Rat)=e.ev β→n=z.natAbs∧t=decide (z<0)):Calls Tryz.prog f (args.map (SV.den ρ)).toArray w (Z4.iO w z):=by
 obtain ⟨s,fs',k,heq,ha⟩:=Vf hr
 refine (iw mixed (D9 ok) heq (aY hE) hf).mono fun x W' ⟨ρ',_,hx,hb,hfs⟩=>?_
 obtain ⟨xs,g1,g2,g3,g4,g5⟩:=hfs _ (gy ha)
 obtain ⟨h1,h2⟩:=hz _ g4
 exact ⟨_,hx,⟨_,_,_,xs,by rw [h2];rfl,g1,g2,g3,h1⟩,hb⟩
theorem o9 {β:Nat→Rat} {h:Hint} (ok:h.Ok β) {fuel:Nat} {f:FuncId} {args:List SV} {fs:List Fd} {n0:Nat} {ρ:Env} {y:Int} (hr:isJ y (bg Tryz.prog (SR β) (HR β) (cz β h) fuel f args fs n0)=true) (hE:EV w) (hf:∀ g∈fs,Fd.on β ρ g w):Calls Tryz.prog f (args.map (SV.den ρ)).toArray w (aX w (.int .i64 y)):=by
 obtain ⟨fs',heq⟩:=Ko hr
 exact (iw mixed (D9 ok) heq (aY hE) hf).mono fun x W' ⟨ρ',_,hx,hb,_⟩=>⟨hx,hb⟩
theorem lH {β:Nat→Rat} {l:List (RE×RE×Int)} {nz:List RE} {eq:List (RE×RE)} (h:∀ p∈l,bn (p.1.ev β) (p.2.1.ev β)=p.2.2) (h2:∀ p∈nz,p.ev β≠0) (h3:∀ p∈eq,p.1.ev β=p.2.ev β):Hint.Ok β { cm:=l,nz:=nz,eq:=eq }:=
 ⟨h3,fun p h=>(by cases h),h2,fun p h=>(by cases h),h⟩
abbrev x0:RE:=.v 0
abbrev x1:RE:=.v 1
theorem uq {m n k:Nat} (h:((k:Nat):Rat)=((m:Nat):Rat) - ((n:Nat):Rat)):(k:Int)=m - n:=by
 have:((k+n:Nat):Rat)=((m:Nat):Rat):=by rw [Rat.natCast_add,h];grind
 have:k+n=m:=by exact_mod_cast this
 omega
theorem Lm {m n k:Nat} (h:((k:Nat):Rat)=((m:Nat):Rat)+((n:Nat):Rat)):k=m+n:=by
 rw [← Rat.natCast_add] at h
 exact_mod_cast h
theorem Oa {m n:Nat} (h:m≠n):((m:Nat):Rat) - ((n:Nat):Rat)≠0:=fun e=>h (by
 have:((m:Nat):Rat)=((n:Nat):Rat):=by grind
 exact_mod_cast this)
theorem xW (m n:Nat):(bn (m:Rat) (n:Rat)=1∧bn (n:Rat) (m:Rat) = -1∧n<m)∨(bn (m:Rat) (n:Rat)=0∧bn (n:Rat) (m:Rat)=0∧m=n)∨(bn (m:Rat) (n:Rat) = -1∧bn (n:Rat) (m:Rat)=1∧m<n):=by
 rw [sO,sO]
 unfold aG
 rcases Nat.lt_trichotomy m n with h | h | h
 ·right;right;rw [if_pos h,if_neg (by omega),if_neg (by omega)];exact ⟨rfl,rfl,h⟩
 ·right;left;subst h;simp
 ·left;rw [if_neg (by omega),if_neg (by omega),if_pos h];exact ⟨rfl,rfl,h⟩
theorem OD (h1:Z4.IsZ w v1 a) (h2:Z4.IsZ w v2 b) (ka:a.natAbs<B64 ^ K1) (kb:b.natAbs<B64 ^ K1) (hE:EV w):Calls Tryz.prog 49 #[v1,v2] w (Z4.iO w (a+b)):=by
 refine Oi h1 h2 ka kb fun ρ hg=>?_
 obtain ⟨β,hβ⟩:∃ β,β=bet [((a.natAbs:Nat):Rat),((b.natAbs:Nat):Rat)]:=⟨_,rfl⟩
 have e0:RE.ev β x0=((a.natAbs:Nat):Rat):=by rw [hβ];rfl
 have e1:RE.ev β x1=((b.natAbs:Nat):Rat):=by rw [hβ];rfl
 rw [← hβ] at hg
 have hadd:RE.ev β (.add x0 x1)=((a.natAbs:Nat):Rat)+((b.natAbs:Nat):Rat):=by rw [RE.ev,e0,e1]
 have hsub:RE.ev β (.sub x0 x1)=((a.natAbs:Nat):Rat) - ((b.natAbs:Nat):Rat):=by rw [RE.ev,e0,e1]
 have hbus:RE.ev β (.sub x1 x0)=((b.natAbs:Nat):Rat) - ((a.natAbs:Nat):Rat):=by rw [RE.ev,e0,e1]
 clear hβ
 rcases Int.lt_or_le a 0 with ha | ha <;> rcases Int.lt_or_le b 0 with hb | hb
 ·rw [decide_eq_true ha,decide_eq_true hb]
  have ok:Hint.Ok β { nz:=[.add x0 x1] }:=lH (fun p h=>by cases h) (fun p hp=>by simp at hp;subst hp;rw [hadd,← Rat.natCast_add];intro h;exact absurd (show a.natAbs+b.natAbs=0 by exact_mod_cast h) (by omega)) (fun p h=>by cases h)
  refine pz (t:=true) (e:=.add x0 x1) ok (fuel:=1) (n0:=2) (by kernel_rfl) hE hg fun n hn=>?_
  rw [hadd] at hn
  have:=Lm hn
  exact ⟨by omega,(decide_eq_true (by omega)).symm⟩
 ·rw [decide_eq_true ha,decide_eq_false (by omega)]
  rcases xW a.natAbs b.natAbs with ⟨h3,h4,h5⟩ | ⟨h3,h4,h5⟩ | ⟨h3,h4,h5⟩
  ·have ok:Hint.Ok β { cm:=[(x0,x1,1)],nz:=[.sub x0 x1] }:=lH (fun p hp=>by simp at hp;subst hp;rw [e0,e1];exact h3) (fun p hp=>by simp at hp;subst hp;rw [hsub];exact Oa (by omega)) (fun p h=>by cases h)
   refine pz (t:=true) (e:=.sub x0 x1) ok (fuel:=1) (n0:=2) (by kernel_rfl) hE hg fun n hn=>?_
   rw [hsub] at hn
   have:=uq hn
   exact ⟨by omega,(decide_eq_true (by omega)).symm⟩
  ·have ok:Hint.Ok β { cm:=[(x0,x1,0)],eq:=[(.sub x0 x1,.c 0)] }:=lH (fun p hp=>by simp at hp;subst hp;rw [e0,e1];exact h3) (fun p h=>by cases h) (fun p hp=>by simp at hp;subst hp;rw [hsub,h5];simp [RE.ev];grind)
   refine pz (t:=false) (e:=.sub x0 x1) ok (fuel:=1) (n0:=2) (by kernel_rfl) hE hg fun n hn=>?_
   rw [hsub] at hn
   have:=uq hn
   exact ⟨by omega,(decide_eq_false (by omega)).symm⟩
  ·have ok:Hint.Ok β { cm:=[(x0,x1,-1),(x1,x0,1)] }:=lH (fun p hp=>by simp at hp;rcases hp with rfl | rfl <;> rw [e0,e1] <;> assumption) (fun p h=>by cases h) (fun p h=>by cases h)
   refine pz (t:=false) (e:=.sub x1 x0) ok (fuel:=1) (n0:=2) (by kernel_rfl) hE hg fun n hn=>?_
   rw [hbus] at hn
   have:=uq hn
   exact ⟨by omega,(decide_eq_false (by omega)).symm⟩
 ·rw [decide_eq_false (by omega),decide_eq_true hb]
  rcases xW a.natAbs b.natAbs with ⟨h3,h4,h5⟩ | ⟨h3,h4,h5⟩ | ⟨h3,h4,h5⟩
  ·have ok:Hint.Ok β { cm:=[(x0,x1,1)] }:=lH (fun p hp=>by simp at hp;subst hp;rw [e0,e1];exact h3) (fun p h=>by cases h) (fun p h=>by cases h)
   refine pz (t:=false) (e:=.sub x0 x1) ok (fuel:=1) (n0:=2) (by kernel_rfl) hE hg fun n hn=>?_
   rw [hsub] at hn
   have:=uq hn
   exact ⟨by omega,(decide_eq_false (by omega)).symm⟩
  ·have ok:Hint.Ok β { cm:=[(x0,x1,0)] }:=lH (fun p hp=>by simp at hp;subst hp;rw [e0,e1];exact h3) (fun p h=>by cases h) (fun p h=>by cases h)
   refine pz (t:=false) (e:=.sub x0 x1) ok (fuel:=1) (n0:=2) (by kernel_rfl) hE hg fun n hn=>?_
   rw [hsub] at hn
   have:=uq hn
   exact ⟨by omega,(decide_eq_false (by omega)).symm⟩
  ·have ok:Hint.Ok β { cm:=[(x0,x1,-1),(x1,x0,1)],nz:=[.sub x1 x0] }:=lH (fun p hp=>by simp at hp;rcases hp with rfl | rfl <;> rw [e0,e1] <;> assumption) (fun p hp=>by simp at hp;subst hp;rw [hbus];exact Oa (by omega)) (fun p h=>by cases h)
   refine pz (t:=true) (e:=.sub x1 x0) ok (fuel:=1) (n0:=2) (by kernel_rfl) hE hg fun n hn=>?_
   rw [hbus] at hn
   have:=uq hn
   exact ⟨by omega,(decide_eq_true (by omega)).symm⟩
 ·rw [decide_eq_false (by omega),decide_eq_false (by omega)]
  refine pz (t:=false) (e:=.add x0 x1) (bP β) (fuel:=1) (n0:=2) (by kernel_rfl) hE hg fun n hn=>?_
  rw [hadd] at hn
  have:=Lm hn
  exact ⟨by omega,(decide_eq_false (by omega)).symm⟩
theorem aac (h1:Z4.IsZ w v1 a) (h2:Z4.IsZ w v2 b) (ka:a.natAbs<B64 ^ K1) (kb:b.natAbs<B64 ^ K1) (hE:EV w):Calls Tryz.prog 38 #[v1,v2] w (aX w (.int .i64 (if a<b then -1 else if a=b then 0 else 1))):=by
 obtain ⟨y,hy⟩:∃ y:Int,(if a<b then -1 else if a=b then 0 else 1)=y:=⟨_,rfl⟩
 rw [hy]
 refine Oi h1 h2 ka kb fun ρ hg=>?_
 obtain ⟨β,hβ⟩:∃ β,β=bet [((a.natAbs:Nat):Rat),((b.natAbs:Nat):Rat)]:=⟨_,rfl⟩
 have e0:RE.ev β x0=((a.natAbs:Nat):Rat):=by rw [hβ];rfl
 have e1:RE.ev β x1=((b.natAbs:Nat):Rat):=by rw [hβ];rfl
 rw [← hβ] at hg
 clear hβ
 have okc:∀ (x y:RE) (c:Int),bn (x.ev β) (y.ev β)=c→Hint.Ok β { cm:=[(x,y,c)] }:=fun x y c h=>lH (fun p hp=>by simp at hp;subst hp;exact h) (fun p h=>by cases h) (fun p h=>by cases h)
 rcases Int.lt_or_le a 0 with ha | ha <;> rcases Int.lt_or_le b 0 with hb | hb
 ·rw [decide_eq_true ha,decide_eq_true hb]
  rcases xW a.natAbs b.natAbs with ⟨h3,h4,h5⟩ | ⟨h3,h4,h5⟩ | ⟨h3,h4,h5⟩
  ·obtain rfl:y = -1:=by rw [← hy,if_pos (by omega)]
   exact o9 (okc x1 x0 (-1) (by rw [e0,e1];exact h4)) (fuel:=1) (n0:=2) (by kernel_rfl) hE hg
  ·obtain rfl:y=0:=by rw [← hy,if_neg (by omega),if_pos (by omega)]
   exact o9 (okc x1 x0 0 (by rw [e0,e1];exact h4)) (fuel:=1) (n0:=2) (by kernel_rfl) hE hg
  ·obtain rfl:y=1:=by rw [← hy,if_neg (by omega),if_neg (by omega)]
   exact o9 (okc x1 x0 1 (by rw [e0,e1];exact h4)) (fuel:=1) (n0:=2) (by kernel_rfl) hE hg
 ·rw [decide_eq_true ha,decide_eq_false (by omega)]
  obtain rfl:y = -1:=by rw [← hy,if_pos (by omega)]
  exact o9 (bP β) (fuel:=1) (n0:=2) (by kernel_rfl) hE hg
 ·rw [decide_eq_false (by omega),decide_eq_true hb]
  obtain rfl:y=1:=by rw [← hy,if_neg (by omega),if_neg (by omega)]
  exact o9 (bP β) (fuel:=1) (n0:=2) (by kernel_rfl) hE hg
 ·rw [decide_eq_false (by omega),decide_eq_false (by omega)]
  rcases xW a.natAbs b.natAbs with ⟨h3,h4,h5⟩ | ⟨h3,h4,h5⟩ | ⟨h3,h4,h5⟩
  ·obtain rfl:y=1:=by rw [← hy,if_neg (by omega),if_neg (by omega)]
   exact o9 (okc x0 x1 1 (by rw [e0,e1];exact h3)) (fuel:=1) (n0:=2) (by kernel_rfl) hE hg
  ·obtain rfl:y=0:=by rw [← hy,if_neg (by omega),if_pos (by omega)]
   exact o9 (okc x0 x1 0 (by rw [e0,e1];exact h3)) (fuel:=1) (n0:=2) (by kernel_rfl) hE hg
  ·obtain rfl:y = -1:=by rw [← hy,if_pos (by omega)]
   exact o9 (okc x0 x1 (-1) (by rw [e0,e1];exact h3)) (fuel:=1) (n0:=2) (by kernel_rfl) hE hg
end
end Rx
namespace Rx
open Go.RowKit
def oH:List Fd→Nat→Option (RE×Nat)
 | [],_=>none
 | .z s e k :: r,n=>if s=n then some (e,k) else oH r n
 | _ :: r,n=>oH r n
theorem mO {n:Nat} {e:RE} {k:Nat}:∀ {db:List Fd},oH db n=some (e,k)→.z n e k∈db
 | [],h=>by simp [oH] at h
 | f :: r,h=>by
  cases f with
  | z s e' k' =>
   simp only [oH] at h
   split at h
   ·rename_i hs;cases h;subst hs;simp
   ·exact List.mem_cons_of_mem _ (mO h)
  | l _ _ _=>exact List.mem_cons_of_mem _ (mO h)
  | r _ _ _=>exact List.mem_cons_of_mem _ (mO h)
  | n _ _=>exact List.mem_cons_of_mem _ (mO h)
  | i _ _=>exact List.mem_cons_of_mem _ (mO h)
def findD:List Fd→Nat→Option (RE×Nat)
 | [],_=>none
 | .r s e k :: r,n=>if s=n then some (e,k) else findD r n
 | _ :: r,n=>findD r n
theorem mM {n:Nat} {e:RE} {k:Nat}:∀ {db:List Fd},findD db n=some (e,k)→.r n e k∈db
 | [],h=>by simp [findD] at h
 | f :: r,h=>by
  cases f with
  | r s e' k' =>
   simp only [findD] at h
   split at h
   ·rename_i hs;cases h;subst hs;simp
   ·exact List.mem_cons_of_mem _ (mM h)
  | l _ _ _=>exact List.mem_cons_of_mem _ (mM h)
  | z _ _ _=>exact List.mem_cons_of_mem _ (mM h)
  | n _ _=>exact List.mem_cons_of_mem _ (mM h)
  | i _ _=>exact List.mem_cons_of_mem _ (mM h)
def asY (db:List Fd):List Cell→Option (RE×Nat)
 | [.ob s,.os t]=>if s=t then (match oH db s with
   | some x=>some x
   | none=>match findD db s with
    | some (e,k)=>some (.num e,k)
    | none=>none) else none
 | [.bl false,.os s]=>iF db s
 | [.bl false,.nils]=>some (.c 0,0)
 | _=>none
section
variable {β:Nat→Rat} {ρ:Env} {W:World} {db:List Fd}
theorem oN {v:Value} {r:Rat} {k:Nat} (h:IsG W v r k):IsY W (.agg #[.bool false,v]) r k:=by
 obtain ⟨xs,h1,h2,h3,h4,h5⟩:=h
 obtain ⟨p,l,c,rfl⟩:=h1.mk
 exact ⟨(Z4.val xs:Nat),⟨p,l,c,xs,by rw [decide_eq_false (by omega)],h1,h2,h3,by omega⟩,by rw [← h4];rfl,by simpa using h5⟩
theorem Ve {s:Nat} {e:RE} {k:Nat} (h:Fd.on β ρ (.r s e k) W):IsY W (.agg ((zC s).map (Cell.den ρ)).toArray) ((RE.num e).ev β) k:=by
 obtain ⟨h1,h2⟩:=h
 exact ⟨(e.ev β).num,Z4.IsR.num h1,rfl,h2.1⟩
theorem qh {cs:List Cell} {e:RE} {k:Nat} (h:asY db cs=some (e,k)) (hf:∀ f∈db,(SR β).on ρ f W):IsY W (.agg (cs.map (Cell.den ρ)).toArray) (e.ev β) k:=by
 unfold asY at h
 split at h
 ·rename_i s t
  split at h
  ·rename_i hst
   subst hst
   split at h
   ·rename_i x hx
    cases h
    exact hf _ (mO hx)
   ·split at h
    ·rename_i e' k' hx
     cases h
     exact Ve (hf _ (mM hx))
    ·cases h
  ·cases h
 ·exact oN (hf _ (gy h))
 ·cases h
  exact oN ⟨[],Z4.IsL.nil 0 W,Z4.Dig.nil,fun h=>absurd rfl h,rfl,by simp [Z4.val]⟩
 ·cases h
end
section
variable {β:Nat→Rat} {h:Hint} {f:FuncId} {vals:Array Value} {W:World} {ρ:Env} {b:Nat}
theorem Ip {z:Int} {e:RE} {k:Nat} (hc:Calls Tryz.prog f vals W (Z4.iO W z)) (hz:(z:Rat)=e.ev β) (hk:z.natAbs<B64 ^ k):Calls Tryz.prog f vals W (Anr β ρ b W (.e (.a (zC b))) [.z b e k]):=by
 refine hc.mono fun _ W' ⟨v,he,hv,hb⟩=>?_
 obtain ⟨p,l,c,xs,rfl,hx⟩:=hv
 have h1:(zC b).map (Cell.den (aH ρ b [⟨decide (z<0),0,p,l,c,.empty,0,default⟩]))=[.bool (decide (z<0)),.slice p l c]:=by simp [zC,Cell.den,aH]
 refine ⟨_,gI (b:=b) (L:=[⟨decide (z<0),0,p,l,c,.empty,0,default⟩]) (by simp [M]),?_,hb,fun g hg=>?_⟩
 ·rw [he];simp only [SV.den,El.den,h1]
 ·rw [List.mem_singleton] at hg
  subst hg
  exact ⟨z,by rw [h1];exact ⟨p,l,c,xs,rfl,hx⟩,hz,hk⟩
theorem BK {z:Int} {e:RE} {k:Nat} (hc:Calls Tryz.prog f vals W (Z4.iO W z)) (h0:0≤z) (hz:(z:Rat)=e.ev β) (hk:z.natAbs<B64 ^ k):Calls Tryz.prog f vals W (Anr β ρ b W (.e (.a [.bl false,.os b])) [.l b e k]):=by
 refine hc.mono fun _ W' ⟨v,he,hv,hb⟩=>?_
 obtain ⟨p,l,c,xs,rfl,hl,hd,ht,hx⟩:=hv
 refine ⟨_,gI (b:=b) (L:=[⟨false,0,p,l,c,.empty,0,default⟩]) (by simp [M]),?_,hb,fun g hg=>?_⟩
 ·rw [he,decide_eq_false (by omega)];simp [SV.den,El.den,Cell.den,aH]
 ·rw [List.mem_singleton] at hg
  subst hg
  refine ⟨xs,by simpa [aH] using hl,hd,ht,?_,by rw [hx];exact hk⟩
  rw [hx,← hz]
  exact_mod_cast show ((z.natAbs:Nat):Int)=z by omega
theorem PV {e:RE} {k:Nat} (hc:Calls Tryz.prog f vals W (Z4.jB W (e.ev β))) (hk:Fits k (e.ev β)):Calls Tryz.prog f vals W (Anr β ρ b W (.e (.a (dw b))) [.r b e k]):=by
 refine hc.mono fun _ W' ⟨v,he,hv,hb⟩=>?_
 obtain ⟨c,d,rfl⟩:=rD hv
 have h1:(dw b).map (Cell.den (aH ρ b [c,d]))=[.bool c.b,.slice c.p c.l c.c,.bool false,.slice d.p d.l d.c]:=by simp [dw,Cell.den,aH]
 refine ⟨aH ρ b [c,d],gI (by simp [M]),?_,hb,fun g hg=>?_⟩
 ·rw [he];simp only [SV.den,El.den,h1]
 ·rw [List.mem_singleton] at hg
  subst hg
  exact ⟨by rw [h1];exact hv,hk⟩
theorem PS {c:Int} (hc:Calls Tryz.prog f vals W (aX W (.int .i64 c))):Calls Tryz.prog f vals W (Anr β ρ b W (.e (.s (.it .i64 c))) []):=
 hc.mono fun _ W' ⟨he,hb⟩=>⟨ρ,fun _ _=>rfl,by rw [he];rfl,hb,fun g hg=>by cases hg⟩
end
end Rx
namespace Rx
open Go.RowKit
def qw:List Fd→Nat→Option Nat
 | [],_=>none
 | .n b s :: r,n=>if b=n then some s else qw r n
 | _ :: r,n=>qw r n
theorem qx {n s:Nat}:∀ {db:List Fd},qw db n=some s→.n n s∈db
 | [],h=>by simp [qw] at h
 | f :: r,h=>by
  cases f with
  | n b s' =>
   simp only [qw] at h
   split at h
   ·rename_i hs;cases h;subst hs;simp
   ·exact List.mem_cons_of_mem _ (qx h)
  | l _ _ _=>exact List.mem_cons_of_mem _ (qx h)
  | z _ _ _=>exact List.mem_cons_of_mem _ (qx h)
  | r _ _ _=>exact List.mem_cons_of_mem _ (qx h)
  | i _ _=>exact List.mem_cons_of_mem _ (qx h)
def worth (db:List Fd) (s:Nat):Option RE:=match iF db s with
 | some (e,_)=>some e
 | none=>match oH db s with
  | some (e,_)=>some e
  | none=>none
def zF (h:Hint) (db:List Fd) (a:Nat):Option Bool:=match qw db a with
 | some s=>match worth db s with
  | some e=>if nzB h e then some false else if eqB h e (.c 0) then some true else none
  | none=>none
 | none=>none
section
variable {β:Nat→Rat} {ρ:Env} {W:World} {db:List Fd} {h:Hint}
theorem aa6 {s:Nat} {e:RE} (hw:worth db s=some e) (hf:∀ f∈db,(SR β).on ρ f W):(ρ s).l=0↔e.ev β=0:=by
 have key:∀ xs,Z4.IsL 0 W (.slice (ρ s).p (ρ s).l (ρ s).c) xs→Z4.Dig xs→Z4.aC xs→((ρ s).l=0↔Z4.val xs=0):=fun xs h1 h2 h3=>by
  rw [← h1.len];exact Z4.rU h2 h3
 unfold worth at hw
 split at hw
 ·rename_i e' k hx
  cases hw
  obtain ⟨xs,h1,h2,h3,h4,-⟩:=hf _ (gy hx)
  rw [key xs h1 h2 h3,← h4]
  exact ⟨fun h=>by rw [h];rfl,fun h=>by exact_mod_cast h⟩
 ·split at hw
  ·rename_i e' k hx
   cases hw
   obtain ⟨z,⟨p,l,c,xs,he,h1,h2,h3,h4⟩,h5,-⟩:=hf _ (mO hx)
   have he':=congrArg Array.toList (Value.agg.inj he)
   simp only [zC,List.map_cons,List.map_nil,Cell.den,List.cons.injEq,Value.slice.injEq,and_true] at he'
   obtain ⟨-,rfl,rfl,rfl⟩:=he'
   rw [key xs h1 h2 h3,← h5,h4]
   constructor
   ·intro h;rw [show z=0 by omega];rfl
   ·intro h
    have:z=0:=by exact_mod_cast h
    rw [this];rfl
  ·cases hw
theorem KD (ok:h.Ok β) {a:Nat} {x:Bool} (hh:zF h db a=some x) (hf:∀ f∈db,(SR β).on ρ f W):0≤(ρ a).u∧((ρ a).u == 0)=x:=by
 unfold zF at hh
 split at hh
 ·rename_i s hs
  split at hh
  ·rename_i e hw
   have h1:(ρ a).u=((ρ s).l:Int):=hf _ (qx hs)
   have h2:=aa6 hw hf
   refine ⟨by omega,?_⟩
   split at hh
   ·rename_i hn
    cases hh
    have:=jd ok hn
    rw [beq_eq_false_iff_ne]
    intro h0
    exact this (h2.1 (by omega))
   ·split at hh
    ·rename_i hn
     cases hh
     have:=h2.2 ((kD ok hn).trans rfl)
     rw [beq_iff_eq]
     omega
    ·cases hh
  ·cases hh
 ·cases hh
end
def Fg (h:Hint) (db:List Fd) (a:Nat):Option Bool:=match qw db a with
 | some s=>match iF db s with
  | some (e,_)=>if je e then (match cmB h e (.c 10000) with
    | some (-1)=>some true
    | some 0 | some 1=>some false
    | _=>none) else none
  | none=>none
 | none=>none
def oC:List Fd→Nat→Option RE
 | [],_=>none
 | .i s e :: r,n=>if s=n then some e else oC r n
 | _ :: r,n=>oC r n
theorem oD {n:Nat} {e:RE}:∀ {db:List Fd},oC db n=some e→.i n e∈db
 | [],h=>by simp [oC] at h
 | f :: r,h=>by
  cases f with
  | i b e' =>
   simp only [oC] at h
   split at h
   ·rename_i hs;cases h;subst hs;simp
   ·exact List.mem_cons_of_mem _ (oD h)
  | l _ _ _=>exact List.mem_cons_of_mem _ (oD h)
  | z _ _ _=>exact List.mem_cons_of_mem _ (oD h)
  | r _ _ _=>exact List.mem_cons_of_mem _ (oD h)
  | n _ _=>exact List.mem_cons_of_mem _ (oD h)
def EG (h:Hint) (db:List Fd) (a:Nat) (m:Int):Option Bool:=match oC db a with
 | some e=>if eqB h e (.c m) then some true else if h.ne.any (fun p=>p.1.beq e && p.2.beq (.c m)) then some false else none
 | none=>if m=0 then zF h db a else if m=1 then Fg h db a else none
section
variable {β:Nat→Rat} {ρ:Env} {W:World} {db:List Fd} {h:Hint}
theorem Xg (ok:h.Ok β) {a:Nat} {x:Bool} (hh:Fg h db a=some x) (hf:∀ f∈db,(SR β).on ρ f W):((ρ a).u == 1)=x:=by
 unfold Fg at hh
 split at hh
 ·rename_i s hs
  split at hh
  ·rename_i e k hx
   split at hh
   ·rename_i hp
    have h1:(ρ a).u=((ρ s).l:Int):=hf _ (qx hs)
    obtain ⟨xs,g1,g2,g3,g4,-⟩:=(show IsG W (.slice (ρ s).p (ρ s).l (ρ s).c) (e.ev β) k from hf _ (gy hx))
    have hl:=g1.len
    have hpos:0<Z4.val xs:=by
     have:=Ad (β:=β) hp
     rw [← g4] at this
     rcases Nat.eq_zero_or_pos (Z4.val xs) with h0 | h0
     ·rw [h0] at this;exact absurd this (by decide)
     ·exact h0
    have hl1:1≤xs.length:=by
     rcases Nat.eq_zero_or_pos xs.length with h0 | h0
     ·have:=(Z4.rU g2 g3).1 h0;omega
     ·exact h0
    have hcm:∀ c,cmB h e (.c 10000)=some c→aG (Z4.val xs) 10000=c:=fun c hc=>by
     have:=lZ ok hc
     rw [← g4,show (RE.c 10000).ev β=((10000:Nat):Rat) from rfl,sO] at this
     exact this
    have hge:2≤xs.length→10000≤Z4.val xs:=fun h2=>by
     have h3:=Z4.lM g3 (by intro e;subst e;simp at hl1)
     have h4:Z4.B4 ^ 1≤Z4.B4 ^ (xs.length - 1):=Nat.pow_le_pow_right (by decide) (by omega)
     have h5:Z4.B4 ^ 1=10000:=by decide
     omega
    have hlt:xs.length≤1→Z4.val xs<10000:=fun h2=>by
     have h3:=Z4.aV g2
     have h4:Z4.B4 ^ xs.length=10000:=by rw [show xs.length=1 by omega];decide
     omega
    split at hh
    ·rename_i hc
     cases hh
     have:=hcm _ hc
     unfold aG at this
     rw [beq_iff_eq]
     split at this
     ·rcases Nat.lt_or_ge xs.length 2 with h6 | h6
      ·omega
      ·have:=hge h6;omega
     ·split at this <;> omega
    ·rename_i hc
     cases hh
     have:=hcm _ hc
     unfold aG at this
     rw [beq_eq_false_iff_ne]
     intro h7
     have:=hlt (by omega)
     rw [if_pos this] at *
     omega
    ·rename_i hc
     cases hh
     have:=hcm _ hc
     unfold aG at this
     rw [beq_eq_false_iff_ne]
     intro h7
     have:=hlt (by omega)
     rw [if_pos this] at *
     omega
    ·cases hh
   ·cases hh
  ·cases hh
 ·cases hh
theorem UM (ok:h.Ok β) {a:Nat} {m:Int} {x:Bool} (hh:EG h db a m=some x) (hf:∀ f∈db,(SR β).on ρ f W):((ρ a).u == m)=x:=by
 unfold EG at hh
 split at hh
 ·rename_i e hx
  have h1:(((ρ a).u:Int):Rat)=e.ev β:=hf _ (oD hx)
  split at hh
  ·rename_i he
   cases hh
   rw [kD ok he] at h1
   rw [beq_iff_eq]
   have h2:(((ρ a).u:Int):Rat)=((m:Int):Rat):=h1
   exact_mod_cast h2
  ·split at hh
   ·rename_i hn
    cases hh
    obtain ⟨p,hp,h2⟩:=List.any_eq_true.1 hn
    simp only [Bool.and_eq_true] at h2
    have:=ok.2.1 p hp
    rw [RE.beq_eq h2.1,RE.beq_eq h2.2,← h1] at this
    rw [beq_eq_false_iff_ne]
    intro h0
    exact this (by rw [h0];rfl)
   ·cases hh
 ·split at hh
  ·rename_i hm;subst hm;exact (KD ok hh hf).2
  ·split at hh
   ·rename_i hm;subst hm;exact Xg ok hh hf
   ·cases hh
end
def Ib (h:Hint) (db:List Fd) (a a' b:Nat):Option (List Fd):=match oC db a,oC db a' with
 | some e,some e'=>if cmB h (.add e e') (.c 4611686018427387904)=some (-1) && cmB h (.c (-1)) (.add e e')=some (-1) then some [.i b (.add e e')] else none
 | _,_=>none
theorem IU {a b:Rat} (h:bn a b = -1):a<b:=by
 unfold bn at h
 split at h
 ·assumption
 ·split at h <;> cases h
def HL (β:Nat→Rat) (h:Hint) (ok:h.Ok β):Tests (SR β) where
 eq:=fun db c d=>match c,d with
  | .oi a,.it .i64 m=>EG h db a m
  | _,_=>none
 ok:=fun {fs c d x} hh ρ W hf=>by
  split at hh
  ·rename_i a m
   exact .inr ⟨.i64,(ρ a).u,m,rfl,rfl,UM ok hh hf⟩
  ·cases hh
 add:=Ib h
 addOk:=fun {db a a' b new} hh ρ W hf=>by
  unfold Ib at hh
  split at hh
  ·rename_i e e' h1 h2
   split at hh
   ·rename_i hc
    simp only [Bool.and_eq_true,decide_eq_true_eq] at hc
    cases hh
    have g1:(((ρ a).u:Int):Rat)=e.ev β:=hf _ (oD h1)
    have g2:(((ρ a').u:Int):Rat)=e'.ev β:=hf _ (oD h2)
    have hs:(((ρ a).u+(ρ a').u:Int):Rat)=(RE.add e e').ev β:=by rw [Rat.intCast_add,g1,g2];rfl
    have k1:=IU (lZ ok hc.1)
    have k2:=IU (lZ ok hc.2)
    rw [← hs] at k1 k2
    have l1:(ρ a).u+(ρ a').u<4611686018427387904:=Rat.intCast_lt_intCast.1 (show (((ρ a).u+(ρ a').u:Int):Rat)<((4611686018427387904:Int):Rat) from k1)
    have l2:-1<(ρ a).u+(ρ a').u:=Rat.intCast_lt_intCast.1 (show ((-1:Int):Rat)<(((ρ a).u+(ρ a').u:Int):Rat) from k2)
    refine ⟨by rw [IntKind.wrap_i64];omega,fun ρ' _ hu f hm=>?_⟩
    obtain rfl:=List.mem_singleton.1 hm
    show (((ρ' b).u:Int):Rat)=_
    rw [hu,hs]
   ·cases hh
  ·cases hh
 gt:=fun db c d=>match c,d with
  | .oi a,.it .i64 0=>(zF h db a).map (!·)
  | _,_=>none
 gok:=fun {fs c d x} hh ρ W hf=>by
  split at hh
  ·rename_i a
   obtain ⟨y,hy,rfl⟩:=Option.map_eq_some_iff.1 hh
   obtain ⟨h1,h2⟩:=KD ok hy hf
   refine ⟨.i64,(ρ a).u,0,rfl,rfl,?_⟩
   rw [← h2]
   by_cases h0:(ρ a).u=0
   ·rw [h0];rfl
   ·rw [decide_eq_true (by omega),beq_eq_false_iff_ne.2 h0];rfl
  ·cases hh
section
variable (β:Nat→Rat) (h:Hint)
def yc:Con (SR β) where
 fn:=72
 app:=fun db b args=>match args with
  | [.e (.s x),.e (.s y)]=>match asG db x,asG db y with
   | some (e,k),some (e',k')=>if decide (k≤K1) && decide (k'≤K1) && nzB h e' then some (.t [.s (.os b),.s (.os (b+1))],[.l b (.flo (.div e e')) k,.l (b+1) (rem e e') k]) else none
   | _,_=>none
  | _=>none
def cf:List (Con (SR β)):=yc β h :: cz β h
end
section
variable {β:Nat→Rat} {h:Hint} {f:FuncId} {vals:Array Value} {W:World} {ρ:Env} {b:Nat}
theorem PU {n m:Nat} {e e':RE} {k:Nat} (hc:Calls Tryz.prog f vals W (Z4.xw W n m)) (hn:((n:Nat):Rat)=e.ev β) (hm:((m:Nat):Rat)=e'.ev β) (kn:n<B64 ^ k) (km:m<B64 ^ k) :
  Calls Tryz.prog f vals W (Anr β ρ b W (.t [.s (.os b),.s (.os (b+1))]) [.l b e k,.l (b+1) e' k]):=by
 refine hc.mono fun _ W' ⟨v,ds,u,es,he,hl,hd,ht,hv,gl,gd,gt,gv,hb⟩=>?_
 obtain ⟨p,l,c,rfl⟩:=hl.mk
 obtain ⟨p',l',c',rfl⟩:=gl.mk
 have h0:aH ρ b [⟨false,0,p,l,c,.empty,0,default⟩,⟨false,0,p',l',c',.empty,0,default⟩] b=⟨false,0,p,l,c,.empty,0,default⟩:=by simp [aH]
 have h1:aH ρ b [⟨false,0,p,l,c,.empty,0,default⟩,⟨false,0,p',l',c',.empty,0,default⟩] (b+1)=⟨false,0,p',l',c',.empty,0,default⟩:=by simp [aH]
 refine ⟨aH ρ b [⟨false,0,p,l,c,.empty,0,default⟩,⟨false,0,p',l',c',.empty,0,default⟩],gI (by simp [M]),?_,hb,fun g hg=>?_⟩
 ·rw [he];simp [SV.den,El.den,Cell.den,h0,h1]
 ·simp only [List.mem_cons,List.not_mem_nil,or_false] at hg
  rcases hg with rfl | rfl
  ·show IsG W' (.slice (aH ρ b _ b).p (aH ρ b _ b).l (aH ρ b _ b).c) _ _
   rw [h0]
   exact ⟨ds,hl.mono (Nat.zero_le _),hd,ht,by rw [hv];exact hn,by rw [hv];exact kn⟩
  ·show IsG W' (.slice (aH ρ b _ (b+1)).p (aH ρ b _ (b+1)).l (aH ρ b _ (b+1)).c) _ _
   rw [h1]
   exact ⟨es,gl.mono (Nat.zero_le _),gd,gt,by rw [gv];exact hm,by rw [gv];exact km⟩
theorem QU (ok:h.Ok β):(yc β h).Ok Tryz.prog (SR β) EV:=by
 refine Con.ok0 rfl ?_
 intro db b args res new ha ρ W hf hE
 simp only [yc] at ha
 split at ha
 ·split at ha
  ·rename_i x y _ _ e k e' k' hx hy
   split at ha
   ·rename_i hk
    simp only [Bool.and_eq_true,decide_eq_true_eq] at hk
    cases ha
    obtain ⟨xs,h1,h2,h3,h4,h5⟩:=kU hx hf
    obtain ⟨ys,g1,g2,g3,g4,g5⟩:=kU hy hf
    have hm:0<Z4.val ys:=by
     rcases Nat.eq_zero_or_pos (Z4.val ys) with h0 | h0
     ·exact absurd (by rw [← g4,h0];rfl) (jd ok hk.2)
     ·exact h0
    exact PU (e:=.flo (.div e e')) (e':=rem e e') (Z4.zZ _ _ xs ys W h1 g1 h2 g2 g3 hm (Nat.le_trans (qM h3 h5) (by simp only [K1] at hk;omega)) (Nat.le_trans (qM g3 g5) (by simp only [K1] at hk;omega)))
     (Ag hm h4 g4) (Gf hm h4 g4) (Nat.lt_of_le_of_lt (Nat.div_le_self _ _) h5) (Nat.lt_of_le_of_lt (Nat.mod_le _ _) h5)
   ·cases ha
  ·cases ha
 ·cases ha
end
end Rx
namespace Rx
open Go.RowKit
abbrev gE:RE:=.den (.v 2)
abbrev gN (e:RE):RE:=.flo (.div e gE)
abbrev gM:RE:=rem gE (.c 10000)
def asT (h:Hint) (db:List Fd):List Cell→Option (Bool×RE×Nat)
 | [.bl t,.os s]=>match iF db s with
  | some (e,k)=>if (!t || nzB h e) && decide (k≤K1) then some (t,e,k) else none
  | none=>none
 | _=>none
def sgz (t:Bool) (n:Nat):Int:=if t then -(n:Int) else n
theorem Zd {t:Bool} {n:Nat} (h:t=true→n≠0):decide (sgz t n<0)=t:=by
 cases t
 ·exact decide_eq_false (by simp [sgz])
 ·exact decide_eq_true (by have:=h rfl;simp only [sgz,if_true];omega)
theorem rF (t:Bool) (n:Nat):(sgz t n).natAbs=n:=by cases t <;> simp [sgz]
theorem BR {β:Nat→Rat} {h:Hint} (ok:h.Ok β) {ρ:Env} {W:World} {db:List Fd} {cs:List Cell} {t:Bool} {e:RE} {k:Nat} (hh:asT h db cs=some (t,e,k)) (hf:∀ f∈db,(SR β).on ρ f W):∃ n:Nat,Z4.IsZ W (.agg (cs.map (Cell.den ρ)).toArray) (sgz t n)∧((n:Nat):Rat)=e.ev β∧n<B64 ^ k∧k≤K1∧(t=true→n≠0):=by
 unfold asT at hh
 split at hh
 ·rename_i t' s
  split at hh
  ·rename_i e' k' hx
   split at hh
   ·rename_i hc
    cases hh
    simp only [Bool.and_eq_true,Bool.or_eq_true,decide_eq_true_eq] at hc
    obtain ⟨xs,h1,h2,h3,h4,h5⟩:=(show IsG W (.slice (ρ s).p (ρ s).l (ρ s).c) (e.ev β) k from hf _ (gy hx))
    have hn:t=true→Z4.val xs≠0:=fun ht h0=>by
     rcases hc.1 with h | h
     ·rw [ht] at h;cases h
     ·exact jd ok h (by rw [← h4,h0];rfl)
    exact ⟨Z4.val xs,⟨_,_,_,xs,by rw [Zd hn];rfl,h1,h2,h3,(rF t _).symm⟩,h4,h5,hc.2,hn⟩
   ·cases hh
  ·cases hh
 ·cases hh
section
variable (β:Nat→Rat) (h:Hint)
def Dc:Con (SR β) where
 fn:=71
 app:=fun db b args=>match args with
  | [.e (.a x),.e (.a y)]=>match asT h db x,asT h db y with
   | some (_,.v 0,_),some (_,.v 1,k)=>if nzB h (.v 1) then some (.e (.a [.bl false,.os b]),[.l b gE k]) else none
   | _,_=>none
  | _=>none
def Dl:Con (SR β) where
 fn:=51
 app:=fun db b args=>match args with
  | [.e (.a x)]=>match asT h db x with
   | some (t,e,k)=>if t then some (.e (.a [.bl false,.os b]),[.l b e k]) else
     if nzB h e then some (.e (.a [.bl true,.os b]),[.l b e k]) else
     if eqB h e (.c 0) then some (.e (.a [.bl false,.os b]),[.l b e k]) else none
   | none=>none
  | _=>none
end
section
variable {β:Nat→Rat} {h:Hint}
theorem Io {f:FuncId} {vals:Array Value} {W:World} {ρ:Env} {b:Nat} {z:Int} {x:Bool} {e:RE} {k:Nat} (hc:Calls Tryz.prog f vals W (Z4.iO W z)) (hx:decide (z<0)=x) (hz:((z.natAbs:Nat):Rat)=e.ev β) (hk:z.natAbs<B64 ^ k):Calls Tryz.prog f vals W (Anr β ρ b W (.e (.a [.bl x,.os b])) [.l b e k]):=by
 refine hc.mono fun _ W' ⟨v,he,hv,hb⟩=>?_
 obtain ⟨p,l,c,xs,rfl,hl,hd,ht,hv⟩:=hv
 refine ⟨_,gI (b:=b) (L:=[⟨false,0,p,l,c,.empty,0,default⟩]) (by simp [M]),?_,hb,fun g hg=>?_⟩
 ·rw [he,hx];simp [SV.den,El.den,Cell.den,aH]
 ·obtain rfl:=List.mem_singleton.1 hg
  exact ⟨xs,by simpa [aH] using hl,hd,ht,by rw [hv];exact hz,by rw [hv];exact hk⟩
theorem QJ (ok:h.Ok β) (hg:∀ n m:Nat,((n:Nat):Rat)=β 0→((m:Nat):Rat)=β 1→((Nat.gcd n m:Nat):Rat)=gE.ev β):(Dc β h).Ok Tryz.prog (SR β) EV:=by
 refine Con.ok0 rfl ?_
 intro db b args res new ha ρ W hf hE
 simp only [Dc] at ha
 split at ha
 ·split at ha
  ·rename_i hx hy
   split at ha
   ·rename_i hn
    cases ha
    obtain ⟨n,h1,h2,h3,h4,-⟩:=BR ok hx hf
    obtain ⟨m,g1,g2,g3,g4,-⟩:=BR ok hy hf
    have hm:0<m:=by
     rcases Nat.eq_zero_or_pos m with h0 | h0
     ·exact absurd (by rw [← g2,h0];rfl) (jd ok hn)
     ·exact h0
    have hle:=Nat.le_of_dvd hm (Nat.gcd_dvd_right n m)
    have a1:=Nat.pow_le_pow_right (show 0<B64 by decide) h4
    have a2:=Nat.pow_le_pow_right (show 0<B64 by decide) g4
    have hB:=vM K1
    have hc:=Z4.aag _ _ _ _ W h1 g1 (5*K1) (by simp only [K1];omega) (by rw [rF];omega) (by rw [rF];omega)
    rw [rF,rF] at hc
    exact Io hc (decide_eq_false (by omega)) (by rw [Int.natAbs_natCast];exact hg n m h2 g2) (by rw [Int.natAbs_natCast];omega)
   ·cases ha
  ·cases ha
 ·cases ha
theorem QS (ok:h.Ok β):(Dl β h).Ok Tryz.prog (SR β) EV:=by
 refine Con.ok0 rfl ?_
 intro db b args res new ha ρ W hf hE
 simp only [Dl] at ha
 split at ha
 ·split at ha
  ·rename_i t e k hx
   obtain ⟨n,h1,h2,h3,-,h5⟩:=BR ok hx hf
   have hc:=Z4.GY _ _ W h1
   have hr:∀ x:Bool,decide (-sgz t n<0)=x→Calls Tryz.prog 51 _ W (Anr β ρ b W (.e (.a [.bl x,.os b])) [.l b e k]):=fun x h0 =>
    Io hc h0 (by rw [Int.natAbs_neg,rF];exact h2) (by rw [Int.natAbs_neg,rF];exact h3)
   split at ha
   ·rename_i ht
    cases ha
    exact hr false (decide_eq_false (by rw [ht];simp only [sgz,if_true];omega))
   ·rename_i ht
    have ht':t=false:=by simpa using ht
    split at ha
    ·rename_i hn
     cases ha
     have:n≠0:=fun h0=>jd ok hn (by rw [← h2,h0];rfl)
     exact hr true (decide_eq_true (by rw [ht'];simp only [sgz,Bool.false_eq_true,if_false];omega))
    ·split at ha
     ·rename_i hq
      cases ha
      have h0:((n:Nat):Rat)=((0:Nat):Rat):=h2.trans (kD ok hq)
      have hn:n=0:=by exact_mod_cast h0
      exact hr false (decide_eq_false (by rw [ht',hn];decide))
     ·cases ha
  ·cases ha
 ·cases ha
end
def qH (zero one ge eqq:Bool):Hint where
 eq:=(if zero then [(.v 0,.c 0),(gN (.v 0),.c 0)] else []) ++ if one then [(gM,.c 1)] else []
 ne:=if one || ge then [] else [(gM,.c 1)]
 nz:=.v 1 :: gE :: if zero then [] else [.v 0,gN (.v 0)]
 cm:=[(gE,.c 10000,if ge then (if eqq then 0 else 1) else -1)]
def qC (β:Nat→Rat) (h:Hint):List (Con (SR β)):=Dc β h :: Dl β h :: yc β h :: cz β h
def EL (t:Bool) (e e':RE):Option (SV×List Fd)→Bool
 | some (.e (.a [.bl t1,c,.bl false,c']),fs)=>match asG fs c,asG fs c' with
  | some (x,_),some (y,_)=>t1 == t && x.beq e && y.beq e'
  | _,_=>false
 | _=>false
theorem U8 {t:Bool} {e e':RE} {o:Option (SV×List Fd)} (h:EL t e e' o=true):∃ c c' fs k k',o=some (.e (.a [.bl t,c,.bl false,c']),fs)∧asG fs c=some (e,k)∧asG fs c' = some (e',k'):=by
 unfold EL at h
 split at h
 ·split at h
  ·rename_i t1 c c' fs _ _ x k y k' h1 h2
   simp only [Bool.and_eq_true,beq_iff_eq] at h
   exact ⟨c,c',fs,k,k',by rw [h.1.1],by rw [h1,RE.beq_eq h.1.2],by rw [h2,RE.beq_eq h.2]⟩
  ·cases h
 ·cases h
theorem XW (β:Nat→Rat) (zero one ge eqq:Bool) (ok:(qH zero one ge eqq).Ok β) (t t':Bool):(bif zero && t then true else bif one && ge then true else EL (!zero && (t != t')) (if one then .v 0 else gN (.v 0)) (if one then .v 1 else gN (.v 1))
  (bg Tryz.prog (SR β) (HL β (qH zero one ge eqq) ok) (qC β (qH zero one ge eqq)) 1 35 [.e (.a [.bl t,.os 0]),.e (.a [.bl t',.os 1])] [.l 0 (.v 0) K1,.l 1 (.v 1) K1] 2))=true:=by
 cases zero <;> cases one <;> cases ge <;> cases eqq <;> cases t <;> cases t' <;> kernel_rfl
theorem den_inv {g:Nat} (hg:g≠0):(mkRat 1 g).den=g:=by
 have:=(Z4.wP 1 g 1 hg (by simp)).2.2
 simpa using this
theorem MG {z d:Int} {v1 v2:Value} {w:World} (hd:d≠0) (h1:Z4.IsZ w v1 z) (h2:Z4.IsZ w v2 d) (ka:z.natAbs<B64 ^ K1) (kb:d.natAbs<B64 ^ K1) (hE:EV w):Calls Tryz.prog 35 #[v1,v2] w (Z4.jB w ((z:Rat) / (d:Rat))):=by
 obtain ⟨p,l,c,xs,rfl,a1,a2,a3,a4⟩:=h1
 obtain ⟨p',l',c',ys,rfl,b1,b2,b3,b4⟩:=h2
 have hm:d.natAbs≠0:=by omega
 obtain ⟨g,hgg⟩:∃ g,Nat.gcd z.natAbs d.natAbs=g:=⟨_,rfl⟩
 have hg0:0<g:=by rw [← hgg];exact Nat.gcd_pos_of_pos_right _ (by omega)
 have hgn:g∣z.natAbs:=by rw [← hgg];exact Nat.gcd_dvd_left _ _
 obtain ⟨β,hβ⟩:∃ β,β=bet [((z.natAbs:Nat):Rat),((d.natAbs:Nat):Rat),mkRat 1 g]:=⟨_,rfl⟩
 have e0:((z.natAbs:Nat):Rat)=RE.ev β (.v 0):=by rw [hβ];rfl
 have e1:((d.natAbs:Nat):Rat)=RE.ev β (.v 1):=by rw [hβ];rfl
 have e2:((g:Nat):Rat)=gE.ev β:=by
  show _=((((β 2).den:Nat):Int):Rat)
  rw [hβ,show (bet [((z.natAbs:Nat):Rat),((d.natAbs:Nat):Rat),mkRat 1 g]) 2=mkRat 1 g from rfl,den_inv (by omega)];rfl
 have q0:=Ag hg0 e0 e2
 have q1:=Ag hg0 e1 e2
 have r0:=Gf (show 0<10000 by decide) e2 (show ((10000:Nat):Rat)=RE.ev β (.c 10000) from rfl)
 have nat0:∀ n:Nat,n≠0→((n:Nat):Rat)≠0:=fun n hn h=>hn (by exact_mod_cast (show ((n:Nat):Rat)=((0:Nat):Rat) from h))
 have ok:(qH (decide (z.natAbs=0)) (decide (g=1)) (decide (10000≤g)) (decide (g=10000))).Ok β:=by
  refine ⟨fun q hq=>?_,fun q hq=>?_,fun q hq=>?_,fun q h=>(by cases h),fun q hq=>?_⟩
  ·rcases List.mem_append.1 hq with hq | hq
   ·by_cases hz:z.natAbs=0
    ·rw [decide_eq_true hz] at hq
     rcases List.mem_cons.1 hq with rfl | hq
     ·show RE.ev β (.v 0)=_
      rw [← e0,hz];rfl
     ·obtain rfl:=List.mem_singleton.1 hq
      show (gN (.v 0)).ev β=_
      rw [← q0,hz,Nat.zero_div];rfl
    ·rw [decide_eq_false hz] at hq;cases hq
   ·by_cases h1:g=1
    ·rw [decide_eq_true h1] at hq
     obtain rfl:=List.mem_singleton.1 hq
     show gM.ev β=_
     rw [← r0,h1];rfl
    ·rw [decide_eq_false h1] at hq;cases hq
  ·by_cases hc:g=1∨10000≤g
   ·rw [show (qH _ (decide (g=1)) (decide (10000≤g)) _).ne=[] from if_pos (by simpa using hc)] at hq
    cases hq
   ·rw [show (qH _ (decide (g=1)) (decide (10000≤g)) _).ne=[(gM,.c 1)] from if_neg (by simpa using hc)] at hq
    obtain rfl:=List.mem_singleton.1 hq
    show gM.ev β≠((1:Int):Rat)
    rw [← r0,Nat.mod_eq_of_lt (by omega)]
    intro h
    have:g=1:=by exact_mod_cast (show ((g:Nat):Rat)=((1:Nat):Rat) from h)
    omega
  ·rcases List.mem_cons.1 hq with rfl | hq
   ·rw [← e1];exact nat0 _ hm
   ·rcases List.mem_cons.1 hq with rfl | hq
    ·rw [← e2];exact nat0 _ (by omega)
    ·by_cases hz:z.natAbs=0
     ·rw [decide_eq_true hz] at hq;cases hq
     ·rw [decide_eq_false hz] at hq
      rcases List.mem_cons.1 hq with rfl | hq
      ·rw [← e0];exact nat0 _ hz
      ·obtain rfl:=List.mem_singleton.1 hq
       rw [← q0]
       have:=Nat.div_pos (Nat.le_of_dvd (by omega) hgn) hg0
       exact nat0 _ (by omega)
  ·obtain rfl:=List.mem_singleton.1 hq
   show bn (gE.ev β) (((10000:Nat):Rat))=_
   rw [← e2,sO]
   unfold aG
   by_cases h1:g<10000
   ·rw [if_pos h1,decide_eq_false (show ¬ 10000≤g by omega)];rfl
   ·rw [if_neg h1,decide_eq_true (show 10000≤g by omega)]
    by_cases h2:g=10000
    ·rw [if_pos h2,decide_eq_true h2];rfl
    ·rw [if_neg h2,decide_eq_false h2];rfl
 have hr:=XW β _ _ _ _ ok (decide (z<0)) (decide (d<0))
 rw [show (decide (z.natAbs=0) && decide (z<0))=false by by_cases h:z<0 <;> simp [h];omega,show (decide (g=1) && decide (10000≤g))=false by by_cases h:g=1 <;> simp [h]] at hr
 simp only [cond_false] at hr
 have hc:∀ c∈qC β (qH (decide (z.natAbs=0)) (decide (g=1)) (decide (10000≤g)) (decide (g=10000))),c.Ok Tryz.prog (SR β) EV:=by
  unfold qC
  simp only [List.forall_mem_cons]
  refine ⟨QJ ok fun n m hn hm=>?_,QS ok,QU ok,D9 ok⟩
  have i0:n=z.natAbs:=by exact_mod_cast hn.trans e0.symm
  have i1:m=d.natAbs:=by exact_mod_cast hm.trans e1.symm
  rw [i0,i1,hgg];exact e2
 have hf:∀ f∈[Fd.l 0 (.v 0) K1,.l 1 (.v 1) K1],Fd.on β (ev [⟨false,0,p,l,c,.empty,0,default⟩,⟨false,0,p',l',c',.empty,0,default⟩]) f w:=by
  simp only [List.forall_mem_cons,List.not_mem_nil,false_imp_iff,implies_true,and_true]
  exact ⟨⟨xs,a1,a2,a3,by rw [a4];exact e0,by rw [a4];exact ka⟩,⟨ys,b1,b2,b3,by rw [b4];exact e1,by rw [b4];exact kb⟩⟩
 obtain ⟨u,u',fs,k,k',heq,g1,g2⟩:=U8 hr
 have he:(List.map (SV.den (ev [⟨false,0,p,l,c,.empty,0,default⟩,⟨false,0,p',l',c',.empty,0,default⟩])) [.e (.a [.bl (decide (z<0)),.os 0]),.e (.a [.bl (decide (d<0)),.os 1])]).toArray=#[.agg #[.bool (decide (z<0)),.slice p l c],.agg #[.bool (decide (d<0)),.slice p' l' c']]:=rfl
 rw [← he]
 refine (iw mixed hc heq (aY hE) hf).mono fun x W' ⟨ρ',_,hx,hb,hfs⟩=>⟨_,hx,?_,hb⟩
 obtain ⟨us,i1,i2,i3,i4,-⟩:=kU g1 hfs
 obtain ⟨vs,j1,j2,j3,j4,-⟩:=kU g2 hfs
 have n1:Z4.val us=z.natAbs / g:=by
  have:((Z4.val us:Nat):Rat)=((z.natAbs / g:Nat):Rat):=by
   rw [i4]
   by_cases h1:g=1
   ·rw [decide_eq_true h1,h1,Nat.div_one];exact e0.symm
   ·rw [decide_eq_false h1];exact q0.symm
  exact_mod_cast this
 have n2:Z4.val vs=d.natAbs / g:=by
  have:((Z4.val vs:Nat):Rat)=((d.natAbs / g:Nat):Rat):=by
   rw [j4]
   by_cases h1:g=1
   ·rw [decide_eq_true h1,h1,Nat.div_one];exact e1.symm
   ·rw [decide_eq_false h1];exact q1.symm
  exact_mod_cast this
 have key:∀ z':Int,z'.natAbs=z.natAbs→decide (z' < 0)=(!decide (z.natAbs=0) && (decide (z<0) != decide (d<0)))→(z:Rat) / (d:Rat)=mkRat z' d.natAbs→Z4.IsR W' (.agg #[.bool (!decide (z.natAbs=0) && (decide (z<0) != decide (d<0))),u.den ρ',.bool false,u'.den ρ']) ((z:Rat) / (d:Rat)):=fun z' k1 k2 k3=>by
  rw [k3]
  obtain ⟨q1,q2,q3⟩:=Z4.wP z' d.natAbs g hm (by rw [k1];exact hgg)
  obtain ⟨s1,s2,s3,hs⟩:=i1.mk
  obtain ⟨s4,s5,s6,hs'⟩:=j1.mk
  rw [hs] at i1
  rw [hs'] at j1
  rw [hs,hs']
  exact ⟨_,_,_,_,_,_,_,rfl,⟨_,_,_,us,by rw [q2,k2],i1,i2,i3,by rw [n1,q1,k1]⟩,⟨_,_,_,vs,by rw [decide_eq_false (by omega)],j1,j2,j3,by rw [n2,q3,Int.natAbs_natCast]⟩⟩
 rcases Int.lt_or_le d 0 with h0 | h0
 ·refine key (-z) (Int.natAbs_neg z) ?_ ?_
  ·rw [decide_eq_true h0]
   rcases Int.lt_trichotomy z 0 with h | h | h
   ·rw [decide_eq_false (show ¬ -z<0 by omega),decide_eq_true h];simp
   ·subst h;rfl
   ·rw [decide_eq_true (show -z<0 by omega),decide_eq_false (show ¬ z<0 by omega),decide_eq_false (show ¬ z.natAbs=0 by omega)];rfl
  ·obtain ⟨m,rfl⟩:∃ m:Nat,d = -(m:Int):=⟨d.natAbs,by omega⟩
   rw [Int.natAbs_neg,Int.natAbs_natCast,← Rat.divInt_eq_div,← Rat.divInt_ofNat,Rat.divInt_eq_divInt_iff (by omega) (by omega)]
   grind
 ·refine key z rfl ?_ ?_
  ·rw [decide_eq_false (show ¬ d<0 by omega)]
   rcases Int.lt_trichotomy z 0 with h | h | h
   ·rw [decide_eq_true h,decide_eq_false (show ¬ z.natAbs=0 by omega)];rfl
   ·subst h;rfl
   ·rw [decide_eq_false (show ¬ z<0 by omega)];simp
  ·obtain ⟨m,rfl⟩:∃ m:Nat,d=(m:Int):=⟨d.natAbs,by omega⟩
   rw [Int.natAbs_natCast,← Rat.divInt_eq_div,← Rat.divInt_ofNat]
end Rx
namespace Z4
open Go.RowKit Go.Sort
attribute [local go_sem] takes gU gQ gK
end Z4
end Go.Proofs.YtancpaiaoamjlaaGreatDoor
