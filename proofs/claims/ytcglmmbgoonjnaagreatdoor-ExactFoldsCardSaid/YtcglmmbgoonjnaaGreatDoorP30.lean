/- What the proof rests on, part 30. -/
import Derived.Test.YtcglmmbgoonjnaaGreatDoorP29
import Derived.Test.YtcglmmbgoonjnaaGreatDoorP19
import Derived.Test.YtcglmmbgoonjnaaGreatDoorP18
namespace Go.Proofs.YtcglmmbgoonjnaaGreatDoor
set_option maxRecDepth 100000
set_option maxHeartbeats 80000000
section
theorem SX (r s:Rat):mkRat (r.num*s.den+s.num*r.den) (r.den*s.den)=r+s:=by
 have:=Rat.mkRat_add_mkRat r.num s.num r.den_nz s.den_nz
 rw [Rat.mkRat_self,Rat.mkRat_self] at this
 exact this.symm
theorem Fits.plus {a b:Nat} {r s:Rat} (h:Fits a r) (k:Fits b s):Fits (a+b+1) (r+s):=by
 have h0:r.den*s.den≠0:=Nat.mul_ne_zero r.den_nz s.den_nz
 obtain ⟨h1,-,h3⟩:=Z4.qj (r.num*s.den+s.num*r.den) (r.den*s.den) _ h0 rfl
 rw [SX] at h1 h3
 have hp:B64 ^ (a+b)*2≤B64 ^ (a+b+1):=by rw [Nat.pow_succ];exact Nat.mul_le_mul_left _ (by decide)
 have e1:r.num.natAbs*s.den<B64 ^ (a+b):=by rw [Nat.pow_add];exact Nat.mul_lt_mul'' h.1 k.2
 have e2:s.num.natAbs*r.den<B64 ^ (a+b):=by rw [Nat.pow_add,Nat.mul_comm (B64 ^ a)];exact Nat.mul_lt_mul'' k.1 h.2
 have e3:r.den*s.den<B64 ^ (a+b):=by rw [Nat.pow_add];exact Nat.mul_lt_mul'' h.2 k.2
 have e4:(r.num*(s.den:Int)+s.num*(r.den:Int)).natAbs≤r.num.natAbs*s.den+s.num.natAbs*r.den:=by
  refine Nat.le_trans (Int.natAbs_add_le _ _) ?_
  rw [Int.natAbs_mul,Int.natAbs_mul,Int.natAbs_natCast,Int.natAbs_natCast]
  exact Nat.le_refl _
 refine ⟨?_,?_⟩
 ·rw [h1];have:=Nat.div_le_self (r.num*(s.den:Int)+s.num*(r.den:Int)).natAbs (Nat.gcd (r.num*(s.den:Int)+s.num*(r.den:Int)).natAbs (r.den*s.den));omega
 ·rw [h3];have:=Nat.div_le_self (r.den*s.den) (Nat.gcd (r.num*(s.den:Int)+s.num*(r.den:Int)).natAbs (r.den*s.den));omega
theorem Fits.minus {a b:Nat} {r s:Rat} (h:Fits a r) (k:Fits b s):Fits (a+b+1) (r - s):=by
 rw [Rat.sub_eq_add_neg]
 exact h.plus k.neg
theorem Fits.over {a b:Nat} {r s:Rat} (h:Fits a r) (k:Fits b s):Fits (a+b+1) (r / s):=by
 by_cases hs:s=0
 ·subst hs
  rw [Rat.div_def,Rat.inv_zero,Rat.mul_zero]
  have:=Nat.one_lt_pow (show a+b+1≠0 by omega) (show 1<B64 by decide)
  exact ⟨by show 0<_;omega,by show 1<_;omega⟩
 ·rw [Rat.div_def]
  exact (h.mul (k.inv hs)).mono (by omega)
theorem fits_int {n:Int} (h1:-9223372036854775808≤n) (h2:n≤9223372036854775807):Fits 1 (n:Rat):=
 ⟨by rw [Nat.pow_one];show n.natAbs<B64;unfold B64;omega,by rw [Nat.pow_one];show 1<B64;decide⟩
namespace Rx
open Go.RowKit
abbrev EV:World→Prop:=fun W=>Go.Proofs.YtcglmmbgoonjnaaGreatDoor.Env W
abbrev K0:Nat:=1073741824
def qv (c d:Nv):Value:=.agg #[.bool c.b,.int .u64 c.u,.slice c.p c.l c.c,.int .u64 d.u,.slice d.p d.l d.c]
theorem rH {W:World} {v:Value} {r:Rat} (h:IsQ W v r):∃ c d:Nv,v=qv c d:=by
 obtain ⟨t,x,p,l,q,y,r,s,u,rfl⟩:=h.open
 exact ⟨⟨t,x,p,l,q,.empty,0⟩,⟨false,y,r,s,u,.empty,0⟩,rfl⟩
theorem lM {W:World} {v:Value} {r:Rat} (h:Z4.IsR W v r):∃ c d:Nv,v=.agg #[.bool c.b,.slice c.p c.l c.c,.bool false,.slice d.p d.l d.c]:=by
 obtain ⟨t,p,l,q,r,s,u,rfl⟩:=h.open
 exact ⟨⟨t,0,p,l,q,.empty,0⟩,⟨false,0,r,s,u,.empty,0⟩,rfl⟩
section
variable {β:Nat→Rat} {f:FuncId} {vals:Array Value} {W:World} {ρ:Env} {b:Nat}
def Ans (β:Nat→Rat) (ρ:Env) (b:Nat) (W:World) (res:SV) (new:List Fc) (e:Ending) (W':World):Prop:=
 ∃ ρ':Env,(∀ n,n<b∨b+M≤n→ρ' n=ρ n)∧e=.returned (res.den ρ')∧Below W.heap.size W W'∧∀ g∈new,(SQ β).on ρ' g W'
theorem oH {e:RE} {k:Nat} (hc:Calls Tryz.prog f vals W (aU W (e.ev β))) (hk:Fits k (e.ev β)):Calls Tryz.prog f vals W (Ans β ρ b W (.e (.a (aI b))) [.q b e k]):=by
 refine hc.mono fun _ W' ⟨v,he,hv,hb⟩=>?_
 obtain ⟨c,d,rfl⟩:=rH hv
 have h1:(aI b).map (Cell.den (aH ρ b [c,d]))=[.bool c.b,.int .u64 c.u,.slice c.p c.l c.c,.int .u64 d.u,.slice d.p d.l d.c]:=by simp [aI,Cell.den,aH]
 refine ⟨aH ρ b [c,d],gu (by simp [M]),?_,hb,fun g hg=>?_⟩
 ·rw [he];simp only [SV.den,El.den,h1];rfl
 ·rw [List.mem_singleton] at hg
  subst hg
  refine ⟨?_,hk⟩
  rw [h1];exact hv
theorem qF {e:RE} {k:Nat} {c0:Int} (hc:Calls Tryz.prog f vals W (dV W (e.ev β) c0)) (hk:Fits k (e.ev β)):Calls Tryz.prog f vals W (Ans β ρ b W (.t [.a (aI b),.s (.it .i64 c0)]) [.q b e k]):=by
 refine hc.mono fun _ W' ⟨v,he,hv,hb⟩=>?_
 obtain ⟨c,d,rfl⟩:=rH hv
 have h1:(aI b).map (Cell.den (aH ρ b [c,d]))=[.bool c.b,.int .u64 c.u,.slice c.p c.l c.c,.int .u64 d.u,.slice d.p d.l d.c]:=by simp [aI,Cell.den,aH]
 refine ⟨aH ρ b [c,d],gu (by simp [M]),?_,hb,fun g hg=>?_⟩
 ·rw [he];simp only [SV.den,El.den,List.map_cons,List.map_nil,h1];rfl
 ·rw [List.mem_singleton] at hg
  subst hg
  refine ⟨?_,hk⟩
  rw [h1];exact hv
theorem oG {v:Value} {c:Cell} (hc:Calls Tryz.prog f vals W (bD W v)) (hv:c.den ρ=v):Calls Tryz.prog f vals W (Ans β ρ b W (.e (.s c)) []):=by
 refine hc.mono fun _ W' ⟨he,hb⟩=>⟨ρ,fun _ _=>rfl,?_,hb,fun g hg=>by cases hg⟩
 rw [he,← hv];rfl
theorem JE {e e':RE} {k k':Nat} (hc:Calls Tryz.prog f vals W (xw W (e.ev β) (e'.ev β))) (hk:Fits k (e.ev β)) (hk':Fits k' (e'.ev β)):Calls Tryz.prog f vals W (Ans β ρ b W (.e (.a (aI b ++ aI (b+2)))) [.q b e k,.q (b+2) e' k']):=by
 refine hc.mono fun _ W' ⟨v,he,hv,hb⟩=>?_
 obtain ⟨t6,x6,p6,l6,q6,y6,r6,s6,u6,t7,x7,p7,l7,q7,y7,r7,s7,u7,rfl,hv1,hv2⟩:=hv
 have h1:(aI b).map (Cell.den (aH ρ b [⟨t6,x6,p6,l6,q6,.empty,0⟩,⟨false,y6,r6,s6,u6,.empty,0⟩,⟨t7,x7,p7,l7,q7,.empty,0⟩,⟨false,y7,r7,s7,u7,.empty,0⟩]))=(c5 t6 x6 p6 l6 q6 y6 r6 s6 u6):=by simp [aI,Cell.den,aH]
 have h2:(aI (b+2)).map (Cell.den (aH ρ b [⟨t6,x6,p6,l6,q6,.empty,0⟩,⟨false,y6,r6,s6,u6,.empty,0⟩,⟨t7,x7,p7,l7,q7,.empty,0⟩,⟨false,y7,r7,s7,u7,.empty,0⟩]))=(c5 t7 x7 p7 l7 q7 y7 r7 s7 u7):=by
  simp [aI,Cell.den,aH,show b+2+1 - b=3 by omega,show b≤b+2+1 by omega]
 refine ⟨_,gu (b:=b) (L:=[⟨t6,x6,p6,l6,q6,.empty,0⟩,⟨false,y6,r6,s6,u6,.empty,0⟩,⟨t7,x7,p7,l7,q7,.empty,0⟩,⟨false,y7,r7,s7,u7,.empty,0⟩]) (by simp [M]),?_,hb,fun g hg=>?_⟩
 ·rw [he];simp only [SV.den,El.den,List.map_append,h1,h2];rfl
 ·simp only [List.mem_cons,List.not_mem_nil,or_false] at hg
  rcases hg with rfl | rfl
  ·refine ⟨?_,hk⟩
   rw [h1];exact hv1
  ·refine ⟨?_,hk'⟩
   rw [h2];exact hv2
theorem JD {e:RE} (hc:Calls Tryz.prog f vals W (rZ W (e.ev β))) (hk:Fits 4 (e.ev β)):Calls Tryz.prog f vals W (Ans β ρ b W (.t [.a (aI b),.a (aW (b+2))]) [.q b e 4,.r (b+2) e 4]):=by
 refine hc.mono fun _ W' ⟨v,v',he,hv,hv',hb⟩=>?_
 obtain ⟨c,d,rfl⟩:=rH hv
 obtain ⟨c',d',rfl⟩:=lM hv'
 have h1:(aI b).map (Cell.den (aH ρ b [c,d,c',d']))=[.bool c.b,.int .u64 c.u,.slice c.p c.l c.c,.int .u64 d.u,.slice d.p d.l d.c]:=by simp [aI,Cell.den,aH]
 have h2:(aW (b+2)).map (Cell.den (aH ρ b [c,d,c',d']))=[.bool c'.b,.slice c'.p c'.l c'.c,.bool false,.slice d'.p d'.l d'.c]:=by
  simp [aW,Cell.den,aH,show b+2+1 - b=3 by omega,show b≤b+2+1 by omega]
 refine ⟨aH ρ b [c,d,c',d'],gu (by simp [M]),?_,hb,fun g hg=>?_⟩
 ·rw [he];simp only [SV.den,El.den,List.map_cons,List.map_nil,h1,h2];rfl
 ·simp only [List.mem_cons,List.not_mem_nil,or_false] at hg
  rcases hg with rfl | rfl
  ·refine ⟨?_,hk⟩
   rw [h1];exact hv
  ·refine ⟨?_,hk⟩
   rw [h2];exact hv'
end
def o7:List Fc→Nat→Option (RE×Nat)
 | [],_=>none
 | .q s e k :: r,n=>if s=n then some (e,k) else o7 r n
 | _ :: r,n=>o7 r n
def o9:List Fc→Nat→Option (RE×Nat)
 | [],_=>none
 | .r s e k :: r,n=>if s=n then some (e,k) else o9 r n
 | _ :: r,n=>o9 r n
def kU:List Fc→Nat→Option RE
 | [],_=>none
 | .n s e :: r,n=>if s=n then some e else kU r n
 | _ :: r,n=>kU r n
theorem ng {n:Nat} {e:RE} {k:Nat}:∀ {db:List Fc},o7 db n=some (e,k)→.q n e k∈db
 | [],h=>by simp [o7] at h
 | f :: r,h=>by
  cases f with
  | q s e' k' =>
   simp only [o7] at h
   split at h
   ·rename_i hs;cases h;subst hs;simp
   ·exact List.mem_cons_of_mem _ (ng h)
  | r _ _ _=>exact List.mem_cons_of_mem _ (ng h)
  | x _ _=>exact List.mem_cons_of_mem _ (ng h)
  | n _ _=>exact List.mem_cons_of_mem _ (ng h)
  | i _ _=>exact List.mem_cons_of_mem _ (ng h)
  | z _ _ _=>exact List.mem_cons_of_mem _ (ng h)
theorem ni {n:Nat} {e:RE} {k:Nat}:∀ {db:List Fc},o9 db n=some (e,k)→.r n e k∈db
 | [],h=>by simp [o9] at h
 | f :: r,h=>by
  cases f with
  | r s e' k' =>
   simp only [o9] at h
   split at h
   ·rename_i hs;cases h;subst hs;simp
   ·exact List.mem_cons_of_mem _ (ni h)
  | q _ _ _=>exact List.mem_cons_of_mem _ (ni h)
  | x _ _=>exact List.mem_cons_of_mem _ (ni h)
  | n _ _=>exact List.mem_cons_of_mem _ (ni h)
  | i _ _=>exact List.mem_cons_of_mem _ (ni h)
  | z _ _ _=>exact List.mem_cons_of_mem _ (ni h)
theorem mZ {n:Nat} {e:RE}:∀ {db:List Fc},kU db n=some e→.n n e∈db
 | [],h=>by simp [kU] at h
 | f :: r,h=>by
  cases f with
  | n s e' =>
   simp only [kU] at h
   split at h
   ·rename_i hs;cases h;subst hs;simp
   ·exact List.mem_cons_of_mem _ (mZ h)
  | q _ _ _=>exact List.mem_cons_of_mem _ (mZ h)
  | x _ _=>exact List.mem_cons_of_mem _ (mZ h)
  | r _ _ _=>exact List.mem_cons_of_mem _ (mZ h)
  | i _ _=>exact List.mem_cons_of_mem _ (mZ h)
  | z _ _ _=>exact List.mem_cons_of_mem _ (mZ h)
def dX (db:List Fc):List Cell→Option (RE×Nat)
 | [.ob a,.ou b,.os c,.ou d,.os e]=>if a=b && a=c && a+1=d && a+1=e then o7 db a else none
 | [.bl false,.it .u64 0,.nils,.it .u64 0,.nils]=>some (.c 0,1)
 | _=>none
theorem fF {β:Nat→Rat} {ρ:Env} {W:World} {db:List Fc} {cs:List Cell} {e:RE} {k:Nat} (h:dX db cs=some (e,k)) (hf:∀ f∈db,(SQ β).on ρ f W) :
  (IsQ W (.agg (cs.map (Cell.den ρ)).toArray) (e.ev β)∧Fits k (e.ev β))∧∃ c d:Nv,.agg (cs.map (Cell.den ρ)).toArray=qv c d:=by
 unfold dX at h
 split at h
 ·rename_i a b c d g
  split at h
  ·rename_i hh
   simp only [Bool.and_eq_true,decide_eq_true_eq] at hh
   obtain ⟨⟨⟨rfl,rfl⟩,rfl⟩,rfl⟩:=hh
   have:=hf _ (ng h)
   exact ⟨this,rH this.1⟩
  ·cases h
 ·cases h
  refine ⟨⟨?_,fits_int (by decide) (by decide)⟩,⟨false,0,none,0,0,.empty,0⟩,⟨false,0,none,0,0,.empty,0⟩,rfl⟩
  exact pR W
 ·cases h
def sZ (db:List Fc) (cs:List Cell):Option ((RE×Nat)×RE×Nat):=
 match dX db (cs.take 5),dX db (cs.drop 5) with
 | some x,some y=>some (x,y)
 | _,_=>none
theorem JK {β:Nat→Rat} {ρ:Env} {W:World} {db:List Fc} {cs:List Cell} {e e':RE} {k k':Nat} (h:sZ db cs=some ((e,k),e',k')) (hf:∀ f∈db,(SQ β).on ρ f W) :
  CO (e.ev β) (e'.ev β) (.agg (cs.map (Cell.den ρ)).toArray) W∧Fits k (e.ev β)∧Fits k' (e'.ev β):=by
 unfold sZ at h
 split at h
 ·rename_i x y h1 h2
  cases h
  obtain ⟨h3,c,d,e3⟩:=fF h1 hf
  obtain ⟨h4,c',d',e4⟩:=fF h2 hf
  refine ⟨?_,h3.2,h4.2⟩
  rw [e3] at h3
  rw [e4] at h4
  have hl:(cs.map (Cell.den ρ))=((cs.take 5).map (Cell.den ρ)) ++ ((cs.drop 5).map (Cell.den ρ)):=by rw [← List.map_append,List.take_append_drop]
  have e3':(cs.take 5).map (Cell.den ρ)=[.bool c.b,.int .u64 c.u,.slice c.p c.l c.c,.int .u64 d.u,.slice d.p d.l d.c]:=by
   have:=Value.agg.inj e3
   simpa using congrArg Array.toList this
  have e4':(cs.drop 5).map (Cell.den ρ)=[.bool c'.b,.int .u64 c'.u,.slice c'.p c'.l c'.c,.int .u64 d'.u,.slice d'.p d'.l d'.c]:=by
   have:=Value.agg.inj e4
   simpa using congrArg Array.toList this
  rw [hl,e3',e4']
  exact ⟨_,_,_,_,_,_,_,_,_,_,_,_,_,_,_,_,_,_,rfl,h3.1,h4.1⟩
 ·cases h
section
variable {β:Nat→Rat}
def uf (β:Nat→Rat) (f:FuncId) (op:RE→RE) (sz:Nat→Nat):Con (SQ β) where
 fn:=f
 app:=fun db b args=>match args with
  | [.e (.a x)]=>match dX db x with
   | some (e,k)=>if k≤K0 then some (.e (.a (aI b)),[.q b (op e) (sz k)]) else none
   | none=>none
  | _=>none
theorem DI {f:FuncId} {op:RE→RE} {sz:Nat→Nat} (h:∀ e k v W,k≤K0→IsQ W v (e.ev β)→Fits k (e.ev β)→EV W→Calls Tryz.prog f #[v] W (aU W ((op e).ev β))∧Fits (sz k) ((op e).ev β)):(uf β f op sz).Ok Tryz.prog (SQ β) EV:=by
 intro db b args res new ha ρ W hf hE
 simp only [uf] at ha
 split at ha
 ·rename_i x
  split at ha
  ·rename_i e k hx
   split at ha
   ·rename_i hk
    cases ha
    obtain ⟨⟨h1,h2⟩,-⟩:=fF hx hf
    obtain ⟨h3,h4⟩:=h e k _ W hk h1 h2 hE
    exact oH h3 h4
   ·cases ha
  ·cases ha
 ·cases ha
def oM (β:Nat→Rat) (f:FuncId) (op:RE→RE→RE) (sz:Nat→Nat→Nat) (side:RE→RE→Bool):Con (SQ β) where
 fn:=f
 app:=fun db b args=>match args with
  | [.e (.a x),.e (.a y)]=>match dX db x,dX db y with
   | some (e,k),some (e',k')=>if decide (k≤K0) && decide (k'≤K0) && side e e' then some (.e (.a (aI b)),[.q b (op e e') (sz k k')]) else none
   | _,_=>none
  | _=>none
theorem ug {f:FuncId} {op:RE→RE→RE} {sz:Nat→Nat→Nat} {side:RE→RE→Bool} (h:∀ e e' k k' v v' W,k≤K0→k'≤K0→side e e' = true→IsQ W v (e.ev β)→Fits k (e.ev β)→IsQ W v' (e'.ev β)→Fits k' (e'.ev β)→EV W→Calls Tryz.prog f #[v,v'] W (aU W ((op e e').ev β))∧Fits (sz k k') ((op e e').ev β)):(oM β f op sz side).Ok Tryz.prog (SQ β) EV:=by
 intro db b args res new ha ρ W hf hE
 simp only [oM] at ha
 split at ha
 ·rename_i x y
  split at ha
  ·rename_i e k e' k' hx hy
   split at ha
   ·rename_i hk
    simp only [Bool.and_eq_true,decide_eq_true_eq] at hk
    cases ha
    obtain ⟨⟨h1,h2⟩,-⟩:=fF hx hf
    obtain ⟨⟨h1',h2'⟩,-⟩:=fF hy hf
    obtain ⟨h3,h4⟩:=h e e' k k' _ _ W hk.1.1 hk.1.2 hk.2 h1 h2 h1' h2' hE
    exact oH h3 h4
   ·cases ha
  ·cases ha
 ·cases ha
variable (β) (h:Hint)
def nzB (h:Hint) (e:RE):Bool:=h.nz.any fun p=>p.beq e
def sgB (h:Hint) (e:RE):Option Int:=(h.sg.find? fun p=>p.1.beq e).map (·.2)
def cmB (h:Hint) (e e':RE):Option Int:=if eqB h e e' then some 0 else (h.cm.find? fun p=>p.1.beq e && p.2.1.beq e').map (·.2.2)
def yx:Con (SQ β) where
 fn:=23
 app:=fun db b args=>match args with
  | [.e (.a x),.e (.a y)]=>match dX db x,dX db y with
   | some (e,k),some (e',k')=>if decide (k≤K0) && decide (k'≤K0) then
     if nzB h e' then some (.t [.a (aI b),.s (.it .i64 0)],[.q b (.div e e') (k+k' + 1)]) else
     if eqB h e' (.c 0) then some (.t [.a (aI b),.s (.it .i64 9)],[.q b (.div e e') (k+k' + 1)]) else none
    else none
   | _,_=>none
  | _=>none
def yY:Con (SQ β) where
 fn:=17
 app:=fun db _ args=>match args with
  | [.e (.a x)]=>match dX db x with
   | some (e,_)=>match sgB h e with
    | some n=>some (.e (.s (.it .i64 n)),[])
    | none=>none
   | none=>none
  | _=>none
def yt:Con (SQ β) where
 fn:=38
 app:=fun db _ args=>match args with
  | [.e (.a x),.e (.a y)]=>match dX db x,dX db y with
   | some (e,k),some (e',k')=>if decide (k≤K0) && decide (k'≤K0) then (match cmB h e e' with
     | some n=>some (.e (.s (.it .i64 n)),[])
     | none=>none) else none
   | _,_=>none
  | _=>none
def yG:Con (SQ β) where
 fn:=26
 app:=fun _ b args=>match args with
  | [.e (.s (.it .i64 n))]=>if decide (-9223372036854775808≤n) && decide (n≤9223372036854775807) then some (.e (.a (aI b)),[.q b (.c n) 1]) else none
  | _=>none
def cq:List (Con (SQ β)):=[
 oM β 28 .add (fun a b=>a+b+1) (fun _ _=>true),oM β 30 .sub (fun a b=>a+b+1) (fun _ _=>true),oM β 32 .mul (fun a b=>a+b) (fun _ _=>true),
 oM β 123 .div (fun a b=>a+b+1) (fun _ e=>nzB h e),uf β 34 .neg id,uf β 36 .abs id,yx β h,yY β h,yt β h,yG β]
end
section
variable {β:Nat→Rat} {h:Hint}
theorem pY (ok:h.Ok β) {e:RE} (hh:nzB h e=true):e.ev β≠0:=by
 obtain ⟨p,hp,h1⟩:=List.any_eq_true.1 hh
 rw [← RE.beq_eq h1]
 exact ok.2.2.1 p hp
theorem Bg (ok:h.Ok β) {e:RE} {n:Int} (hh:sgB h e=some n):sgQ (e.ev β)=n:=by
 obtain ⟨p,hp,rfl⟩:=Option.map_eq_some_iff.1 hh
 have h1:=List.find?_some hp
 rw [← RE.beq_eq h1]
 exact ok.2.2.2.1 p (List.mem_of_find?_eq_some hp)
theorem oL (ok:h.Ok β) {e e':RE} {n:Int} (hh:cmB h e e' = some n):aK (e.ev β) (e'.ev β)=n:=by
 unfold cmB at hh
 split at hh
 ·rename_i he
  cases hh
  rw [oW ok he]
  unfold aK
  simp
 ·obtain ⟨p,hp,rfl⟩:=Option.map_eq_some_iff.1 hh
  have h1:=List.find?_some hp
  simp only [Bool.and_eq_true] at h1
  rw [← RE.beq_eq h1.1,← RE.beq_eq h1.2]
  exact ok.2.2.2.2 p (List.mem_of_find?_eq_some hp)
theorem KL (ok:h.Ok β):(yx β h).Ok Tryz.prog (SQ β) EV:=by
 intro db b args res new ha ρ W hf hE
 simp only [yx] at ha
 split at ha
 ·split at ha
  ·rename_i e k e' k' hx hy
   split at ha
   ·rename_i hk
    simp only [Bool.and_eq_true,decide_eq_true_eq] at hk
    obtain ⟨⟨h1,h2⟩,-⟩:=fF hx hf
    obtain ⟨⟨h1',h2'⟩,-⟩:=fF hy hf
    have hc:=IY _ _ _ _ (max k k') W h1 h1' (by simp only [K0] at hk;omega) (h2.mono (Nat.le_max_left _ _)) (h2'.mono (Nat.le_max_right _ _)) hE.tz
    split at ha
    ·rename_i hn
     cases ha
     rw [if_neg (pY ok hn)] at hc
     exact qF (e:=.div e e') hc (h2.over h2')
    ·split at ha
     ·rename_i hn
      cases ha
      rw [if_pos (show e'.ev β=0 from (oW ok hn).trans rfl)] at hc
      exact qF (e:=.div e e') hc (h2.over h2')
     ·cases ha
   ·cases ha
  ·cases ha
 ·cases ha
theorem La (ok:h.Ok β):(yY β h).Ok Tryz.prog (SQ β) EV:=by
 intro db b args res new ha ρ W hf hE
 simp only [yY] at ha
 split at ha
 ·split at ha
  ·rename_i e k hx
   split at ha
   ·rename_i n hn
    cases ha
    obtain ⟨⟨h1,h2⟩,-⟩:=fF hx hf
    have hc:=CP _ _ W h1
    rw [Bg ok hn] at hc
    exact oG hc rfl
   ·cases ha
  ·cases ha
 ·cases ha
theorem KH (ok:h.Ok β):(yt β h).Ok Tryz.prog (SQ β) EV:=by
 intro db b args res new ha ρ W hf hE
 simp only [yt] at ha
 split at ha
 ·split at ha
  ·rename_i e k e' k' hx hy
   split at ha
   ·rename_i hk
    simp only [Bool.and_eq_true,decide_eq_true_eq] at hk
    split at ha
    ·rename_i n hn
     cases ha
     obtain ⟨⟨h1,h2⟩,-⟩:=fF hx hf
     obtain ⟨⟨h1',h2'⟩,-⟩:=fF hy hf
     have hc:=rX _ _ _ _ (max k k') W h1 h1' (by simp only [K0] at hk;omega) (h2.mono (Nat.le_max_left _ _)) (h2'.mono (Nat.le_max_right _ _))
     rw [oL ok hn] at hc
     exact oG hc rfl
    ·cases ha
   ·cases ha
  ·cases ha
 ·cases ha
theorem KN:(yG β).Ok Tryz.prog (SQ β) EV:=by
 intro db b args res new ha ρ W hf hE
 simp only [yG] at ha
 split at ha
 ·rename_i n
  split at ha
  ·rename_i hk
   simp only [Bool.and_eq_true,decide_eq_true_eq] at hk
   cases ha
   exact oH (e:=.c n) (wW n hk.1 (by omega) W) (fits_int hk.1 hk.2)
  ·cases ha
 ·cases ha
theorem Es {k:Nat} {r:Rat} (h:Fits k r):Fits k (if r.num<0 then -r else r):=by
 split
 ·exact h.neg
 ·exact h
theorem zk (ok:h.Ok β):∀ c∈cq β h,c.Ok Tryz.prog (SQ β) EV:=by
 have hmax:∀ {k k':Nat} {r:Rat},Fits k r→Fits (max k k') r:=fun h=>h.mono (Nat.le_max_left _ _)
 have hmax':∀ {k k':Nat} {r:Rat},Fits k' r→Fits (max k k') r:=fun h=>h.mono (Nat.le_max_right _ _)
 unfold cq
 simp only [List.forall_mem_cons,List.not_mem_nil,false_imp_iff,implies_true,and_true]
 refine ⟨ug fun e e' k k' v v' W hk hk' _ h1 h2 h3 h4 hE=>⟨oz _ _ v v' (max k k') W h1 h3 (by simp only [K0] at hk hk';omega) (hmax h2) (hmax' h4) hE.tz,h2.plus h4⟩,
  ug fun e e' k k' v v' W hk hk' _ h1 h2 h3 h4 hE=>⟨qE _ _ v v' (max k k') W h1 h3 (by simp only [K0] at hk hk';omega) (hmax h2) (hmax' h4) hE.tz,h2.minus h4⟩,
  ug fun e e' k k' v v' W hk hk' _ h1 h2 h3 h4 hE=>⟨jm _ _ v v' (max k k') W h1 h3 (by simp only [K0] at hk hk';omega) (hmax h2) (hmax' h4) hE.tz,h2.mul h4⟩,
  ug fun e e' k k' v v' W hk hk' hn h1 h2 h3 h4 hE=>⟨oC _ _ v v' (max k k') W h1 h3 (by simp only [K0] at hk hk';omega) (pY ok hn) (hmax h2) (hmax' h4) hE.tz,h2.over h4⟩,
  DI fun e k v W _ h1 h2 _=>⟨Ci _ v W h1,h2.neg⟩,
  DI fun e k v W _ h1 h2 _=>⟨wU _ v W h1,Es h2⟩,KL ok,La ok,KH ok,KN⟩
end
end Rx
end
namespace Rx
open Go.RowKit
theorem fQ (β:Nat→Rat):Hint.Ok β {}:=⟨fun p h=>(by cases h),fun p h=>(by cases h),fun p h=>(by cases h),fun p h=>(by cases h),fun p h=>(by cases h)⟩
section
variable {β:Nat→Rat} {h:Hint} {ok:h.Ok β} {cons:List (Con (SQ β))} {fuel:Nat} {f:FuncId} {args:List SV} {fs:List Fc} {b:Nat} {ρ:Env} {w:World}
def zW (e e':RE):Option (SV×List Fc)→Bool
 | some (.e (.a cs),fs)=>match sZ fs cs with
  | some ((x,_),y,_)=>x.beq e && y.beq e'
  | none=>false
 | _=>false
def isB (x:Bool):Option (SV×List Fc)→Bool
 | some (.e (.s (.bl y)),_)=>x == y
 | _=>false
def isI (x:Int):Option (SV×List Fc)→Bool
 | some (.e (.s (.it .i64 y)),_)=>x == y
 | _=>false
theorem PE {e e':RE} {o:Option (SV×List Fc)} (h:zW e e' o=true):∃ cs fs k k',o=some (.e (.a cs),fs)∧sZ fs cs=some ((e,k),e',k'):=by
 unfold zW at h
 split at h
 ·split at h
  ·rename_i cs fs _ x k y k' ha
   simp only [Bool.and_eq_true] at h
   exact ⟨cs,fs,k,k',rfl,by rw [ha,RE.beq_eq h.1,RE.beq_eq h.2]⟩
  ·cases h
 ·cases h
theorem EN {x:Bool} {o:Option (SV×List Fc)} (h:isB x o=true):∃ fs,o=some (.e (.s (.bl x)),fs):=by
 unfold isB at h
 split at h
 ·rename_i y fs
  have e:x=y:=by simpa using h
  subst e;exact ⟨fs,rfl⟩
 ·cases h
theorem dM {w:World} (hE:EV w):∀ W,Below w.heap.size w W→EV W:=fun _ hb=>Env.below hE hb (Nat.le_refl _)
theorem TV {e e':RE} (hc:∀ c∈cons,c.Ok Tryz.prog (SQ β) EV) (hr:zW e e' (runF Tryz.prog (SQ β) (HQ β h ok) cons fuel f args fs b)=true) (hE:EV w) (hf:∀ g∈fs,Fc.on β ρ g w):Calls Tryz.prog f (args.map (SV.den ρ)).toArray w (xw w (e.ev β) (e'.ev β)):=by
 obtain ⟨cs,fs',k,k',heq,ha⟩:=PE hr
 exact (runF_ok mixed hc heq (dM hE) hf).mono fun x W' ⟨ρ',_,hx,hb,hfs⟩=>⟨_,hx,(JK ha hfs).1,hb⟩
theorem TR {y:Bool} (hc:∀ c∈cons,c.Ok Tryz.prog (SQ β) EV) (hr:isB y (runF Tryz.prog (SQ β) (HQ β h ok) cons fuel f args fs b)=true) (hE:EV w) (hf:∀ g∈fs,Fc.on β ρ g w):Calls Tryz.prog f (args.map (SV.den ρ)).toArray w (bD w (.bool y)):=by
 obtain ⟨fs',heq⟩:=EN hr
 exact (runF_ok mixed hc heq (dM hE) hf).mono fun x W' ⟨ρ',_,hx,hb,_⟩=>⟨hx,hb⟩
end
def bet (L:List Rat):Nat→Rat:=fun n=>L.getD n 0
def qq (c d:Nv):List Nv:=[c,d]
def ev (L:List Nv):Env:=fun n=>L.getD n default
abbrev K1:Nat:=1048576
abbrev pr (s:Nat):SV:=.e (.a (aI s ++ aI (s+2)))
abbrev pq (s i:Nat):List Fc:=[.q s (.v i) K1,.q (s+2) (.v (i+1)) K1]
section
variable {a b c d:Rat} {v1 v2:Value} {W:World}
end
end Rx
namespace Z4
open Go.RowKit Go.Sort
structure jP (xs ys ds:List Nat) (k c:Nat):Prop where
 len:ds.length=k
 dig:Dig ds
 le:c≤1
 eq:val ds+c*B4 ^ k=val (xs.take k)+val (ys.take k)
 top:k=0∨(∃ e d,ds=e ++ [d]∧d≠0)∨k<xs.length∨k<ys.length∨0<c
 b1:k≤xs.length+ys.length+1
 b2:0<c→k≤xs.length+ys.length
theorem jP.start (xs ys:List Nat):jP xs ys [] 0 0:=⟨rfl,Dig.nil,by omega,by simp [val],.inl rfl,by omega,by omega⟩
theorem Ib (xs:List Nat) (k:Nat):val (xs.take (k+1))=val (xs.take k)+B4 ^ k*xs[k]?.getD 0:=by
 by_cases hk:k<xs.length
 ·rw [wQ xs k hk,List.getElem?_eq_getElem hk];rfl
 ·rw [List.getElem?_eq_none (by omega),List.take_of_length_le (by omega),List.take_of_length_le (by omega)];simp
theorem jP.step {xs ys ds:List Nat} {k c x y d c':Nat} (h:jP xs ys ds k c) (hgo:k<xs.length∨k<ys.length∨0<c) (tx:aA xs) (ty:aA ys) (hx:xs[k]?.getD 0=x) (hy:ys[k]?.getD 0=y) (hd:d<10000) (hc:c'≤1) (e:c+x+y=d+c' * 10000) (e0:k<xs.length→x<10000) (e1:k<ys.length→y<10000) :
  jP xs ys (ds ++ [d]) (k+1) c':=by
 have hb:xs.length≤k→x=0:=fun h=>by rw [← hx,List.getElem?_eq_none h];rfl
 have hb':ys.length≤k→y=0:=fun h=>by rw [← hy,List.getElem?_eq_none h];rfl
 have hle:=h.le
 have hb1:=h.b1
 have hb2:=h.b2
 have hlast:k+1=xs.length→x≠0:=fun hk e0=>by
  have hne:xs≠[]:=fun e=>by subst e;simp at hk
  have:=tx hne
  rw [List.getLast_eq_getElem] at this
  apply this
  rw [← e0,← hx,List.getElem?_eq_getElem (by omega)]
  simp only [Option.getD_some]
  congr 1
  omega
 have hlast':k+1=ys.length→y≠0:=fun hk e0=>by
  have hne:ys≠[]:=fun e=>by subst e;simp at hk
  have:=ty hne
  rw [List.getLast_eq_getElem] at this
  apply this
  rw [← e0,← hy,List.getElem?_eq_getElem (by omega)]
  simp only [Option.getD_some]
  congr 1
  omega
 refine ⟨by simp [h.len],h.dig.append (fun z hz=>by simp at hz;subst hz;exact hd),hc,?_,?_,?_,?_⟩
 ·have h1:=h.eq
  rw [Ib xs,Ib ys,fJ,h.len,Nat.pow_succ,hx,hy,show B4=10000 from rfl]
  rw [show B4=10000 from rfl] at h1
  generalize 10000 ^ k=P at *
  generalize val (xs.take k)=X at *
  generalize val (ys.take k)=Y at *
  generalize val ds=D at *
  have:=congrArg (P * ·) e
  grind
 ·right
  by_cases hd0:d=0
  ·right
   subst hd0
   rcases Nat.eq_zero_or_pos c' with hc0 | hc0
   ·subst hc0
    have:c=0∧x=0∧y=0:=by omega
    obtain ⟨rfl,rfl,rfl⟩:=this
    rcases Nat.lt_trichotomy (k+1) xs.length with h1 | h1 | h1
    ·exact .inl h1
    ·exact absurd rfl (hlast h1)
    ·rcases Nat.lt_trichotomy (k+1) ys.length with h2 | h2 | h2
     ·exact .inr (.inl h2)
     ·exact absurd rfl (hlast' h2)
     ·omega
   ·exact .inr (.inr hc0)
  ·exact .inl ⟨ds,d,rfl,hd0⟩
 ·omega
 ·intro hc0
  by_cases h1:k<xs.length
  ·omega
  ·by_cases h2:k<ys.length
   ·omega
   ·have:=hb (by omega);have:=hb' (by omega);omega
theorem jP.done {xs ys ds:List Nat} {k:Nat} (h:jP xs ys ds k 0) (h1:xs.length≤k) (h2:ys.length≤k):val ds=val xs+val ys∧aA ds:=by
 refine ⟨?_,?_⟩
 ·have:=h.eq
  rw [List.take_of_length_le h1,List.take_of_length_le h2] at this
  omega
 ·intro hne
  rcases h.top with h3 | ⟨e,d,rfl,hd⟩ | h3 | h3 | h3
  ·exfalso;apply hne;rw [← List.length_eq_zero_iff,h.len,h3]
  ·simpa using hd
  ·omega
  ·omega
  ·omega
theorem Sz (p p2:Option Addr) (b o k b2 o2 k2:Nat) (xs ys:List Nat) (w:World) (hp:xs.length≠0→p=some ⟨b,o,none⟩) (hbw:xs.length≠0→b<w.heap.size) (hx:Ints w b o xs) (hp2:ys.length≠0→p2=some ⟨b2,o2,none⟩) (hbw2:ys.length≠0→b2<w.heap.size) (hy:Ints w b2 o2 ys)
  (dx:Dig xs) (dy:Dig ys) (tx:aA xs) (ty:aA ys) (hsz:xs.length≤549755813888) (hsz2:ys.length≤549755813888) :
  Calls Tryz.prog 167 #[.slice p xs.length k,.slice p2 ys.length k2] w (iY w (val xs+val ys)):=by
 have HP:=hid (And.intro hp (And.intro hbw hx))
 have HP2:=hid (And.intro hp2 (And.intro hbw2 hy))
 have HT:=hid (And.intro tx ty)
 clear hp hbw hx hp2 hbw2 hy tx ty
 obtain ⟨i0,hi,hz0,hz1,hz2⟩:=info_parts kZ
 obtain ⟨V,hV⟩:∃ V,val xs+val ys=V:=⟨_,rfl⟩
 rw [hV]
 have HVV:=hid hV
 clear hV
 go_enter Tryz.func167,Tryz.ntmps167
 go_wp2
 go_loopw [5,6,7] (fun ov cv iv wr=>∃ (i c:Nat) (ds:List Nat),iv=.int .i64 i∧cv=.int .i64 c∧wr.ownsRow w.heap.size 3 1 ov i (ds.map enc)∧jP xs ys ds i c∧Below w.heap.size w wr) (fun _ _ iv _=>(xs.length+ys.length+1) - (intOf iv).toNat)
 case atStart=>exact ⟨0,0,[],rfl,rfl,World.ownsRow_nil _ _ _ _,jP.start xs ys,Below.refl _ _⟩
 case round =>
  obtain ⟨i,c,ds,rfl,rfl,hown,hI,hB⟩:=hrel
  have hc1:=hI.le
  have hb1:=hI.b1
  have hb2:=hI.b2
  have HB:=hid hB
  have HO:=hid hown
  by_cases hgo:i<xs.length∨i<ys.length∨0<c
  ·obtain ⟨x,hxi⟩:∃ x,xs[i]?.getD 0=x:=⟨_,rfl⟩
   obtain ⟨y,hyi⟩:∃ y,ys[i]?.getD 0=y:=⟨_,rfl⟩
   have hx1:x<10000:=hxi ▸ dx.getD i
   have hy1:y<10000:=hyi ▸ dy.getD i
   have HI:=hid (fun (d c':Nat) (hd:d<10000) (hc:c'≤1) (e:c+x+y=d+c' * 10000) (e0:k=k) (e1:k=k)=>hI.step hgo HT.out.1 HT.out.2 hxi hyi hd hc e (fun _=>hx1) (fun _=>hy1))
   have HX:=hid hxi
   have HY:=hid hyi
   clear hI hxi hyi hB hown
   by_cases hlx:i<xs.length
   ·by_cases hly:i<ys.length
    ·clear hgo
     obtain rfl:=HP.out.1 (by omega)
     have cx:wr.cell? ⟨b,o+i,none⟩=some (.int .i64 (x:Int)):=by rw [HB.out.cell (p:=⟨b,o+i,none⟩) (HP.out.2.1 (by omega)),HP.out.2.2 i (by omega),HX.out]
     obtain rfl:=HP2.out.1 (by omega)
     have cy:wr.cell? ⟨b2,o2+i,none⟩=some (.int .i64 (y:Int)):=by rw [HB.out.cell (p:=⟨b2,o2+i,none⟩) (HP2.out.2.1 (by omega)),HP2.out.2.2 i (by omega),HY.out]
     obtain ⟨s,hs⟩:∃ s:Nat,s=c+x+y:=⟨_,rfl⟩
     obtain ⟨d,hd⟩:∃ d:Nat,d=s % 10000:=⟨_,rfl⟩
     obtain ⟨c',hc'⟩:∃ c':Nat,c' = s / 10000:=⟨_,rfl⟩
     have hd1:d<10000:=by omega
     have HN:=hid (HI.out d c' hd1 (by omega) (by omega) (by omega) (by omega))
     have HD:=hid (And.intro hs (And.intro hd hc'))
     clear hs hd hc' hd1
     go_wp2_with (first
      | (at_builtin;refine wpList_append_own _ rfl _ _ 36 rfl w.heap.size 3 i0 (.int .i64 0) 1 8 Tryz.underlying36 hi hz0 hz1 hz2 rfl (by decide) _ _ _ rfl (HO.out.alloc _) ⟨wr.heap.size,0,none⟩ 1 1 [.int .i64 (d:Int)] rfl rfl ?c1 ?c2 ?c3 ?c4 ?c5 ?_))
     case c1 =>
      intro j u hj
      match j,hj with
      | 0,hj=>simp at hj;subst hj;have:=HD.out;first | (simp;omega) | (simp [Addr.add];omega) | (simp [Addr.add])
     case c2=>first | rfl | (intro u hu;simp at hu;subst hu;rfl)
     case c3=>unfold maxLen;omega
     case c4=>omega
     case c5=>have:=HB.out.size;simp;omega
     intro v' w1 hown' hgrow _
     have hB2:Below w.heap.size w w1:=(HB.out.alloc HB.out.size _).grown hgrow (by have:=HB.out.size;simp;omega) (fun k hk=>(HO.out.lt k hk).1)
     rw [← iF] at hown'
     have HO2:=hid hown'
     have HB2:=hid hB2
     clear hown' hgrow hB2
     go_wp2
     go_roundw
     case rel=>exact ⟨i+1,c',ds ++ [d],by go_num,by have:=HD.out;first | rfl | (congr 1;omega),HO2.out,HN.out,HB2.out⟩
     case measure=>simp [intOf];omega
    ·clear hgo
     obtain rfl:=HP.out.1 (by omega)
     have cx:wr.cell? ⟨b,o+i,none⟩=some (.int .i64 (x:Int)):=by rw [HB.out.cell (p:=⟨b,o+i,none⟩) (HP.out.2.1 (by omega)),HP.out.2.2 i (by omega),HX.out]
     obtain rfl:y=0:=by rw [← HY.out,List.getElem?_eq_none (by omega)];rfl
     obtain ⟨s,hs⟩:∃ s:Nat,s=c+x+0:=⟨_,rfl⟩
     obtain ⟨d,hd⟩:∃ d:Nat,d=s % 10000:=⟨_,rfl⟩
     obtain ⟨c',hc'⟩:∃ c':Nat,c' = s / 10000:=⟨_,rfl⟩
     have hd1:d<10000:=by omega
     have HN:=hid (HI.out d c' hd1 (by omega) (by omega) (by omega) (by omega))
     have HD:=hid (And.intro hs (And.intro hd hc'))
     clear hs hd hc' hd1
     go_wp2_with (first
      | (at_builtin;refine wpList_append_own _ rfl _ _ 36 rfl w.heap.size 3 i0 (.int .i64 0) 1 8 Tryz.underlying36 hi hz0 hz1 hz2 rfl (by decide) _ _ _ rfl (HO.out.alloc _) ⟨wr.heap.size,0,none⟩ 1 1 [.int .i64 (d:Int)] rfl rfl ?c1 ?c2 ?c3 ?c4 ?c5 ?_))
     case c1 =>
      intro j u hj
      match j,hj with
      | 0,hj=>simp at hj;subst hj;have:=HD.out;first | (simp;omega) | (simp [Addr.add];omega) | (simp [Addr.add])
     case c2=>first | rfl | (intro u hu;simp at hu;subst hu;rfl)
     case c3=>unfold maxLen;omega
     case c4=>omega
     case c5=>have:=HB.out.size;simp;omega
     intro v' w1 hown' hgrow _
     have hB2:Below w.heap.size w w1:=(HB.out.alloc HB.out.size _).grown hgrow (by have:=HB.out.size;simp;omega) (fun k hk=>(HO.out.lt k hk).1)
     rw [← iF] at hown'
     have HO2:=hid hown'
     have HB2:=hid hB2
     clear hown' hgrow hB2
     go_wp2
     go_roundw
     case rel=>exact ⟨i+1,c',ds ++ [d],by go_num,by have:=HD.out;first | rfl | (congr 1;omega),HO2.out,HN.out,HB2.out⟩
     case measure=>simp [intOf];omega
   ·by_cases hly:i<ys.length
    ·clear hgo
     obtain rfl:x=0:=by rw [← HX.out,List.getElem?_eq_none (by omega)];rfl
     obtain rfl:=HP2.out.1 (by omega)
     have cy:wr.cell? ⟨b2,o2+i,none⟩=some (.int .i64 (y:Int)):=by rw [HB.out.cell (p:=⟨b2,o2+i,none⟩) (HP2.out.2.1 (by omega)),HP2.out.2.2 i (by omega),HY.out]
     obtain ⟨s,hs⟩:∃ s:Nat,s=c+0+y:=⟨_,rfl⟩
     obtain ⟨d,hd⟩:∃ d:Nat,d=s % 10000:=⟨_,rfl⟩
     obtain ⟨c',hc'⟩:∃ c':Nat,c' = s / 10000:=⟨_,rfl⟩
     have hd1:d<10000:=by omega
     have HN:=hid (HI.out d c' hd1 (by omega) (by omega) (by omega) (by omega))
     have HD:=hid (And.intro hs (And.intro hd hc'))
     clear hs hd hc' hd1
     go_wp2_with (first
      | (at_builtin;refine wpList_append_own _ rfl _ _ 36 rfl w.heap.size 3 i0 (.int .i64 0) 1 8 Tryz.underlying36 hi hz0 hz1 hz2 rfl (by decide) _ _ _ rfl (HO.out.alloc _) ⟨wr.heap.size,0,none⟩ 1 1 [.int .i64 (d:Int)] rfl rfl ?c1 ?c2 ?c3 ?c4 ?c5 ?_))
     case c1 =>
      intro j u hj
      match j,hj with
      | 0,hj=>simp at hj;subst hj;have:=HD.out;first | (simp;omega) | (simp [Addr.add];omega) | (simp [Addr.add])
     case c2=>first | rfl | (intro u hu;simp at hu;subst hu;rfl)
     case c3=>unfold maxLen;omega
     case c4=>omega
     case c5=>have:=HB.out.size;simp;omega
     intro v' w1 hown' hgrow _
     have hB2:Below w.heap.size w w1:=(HB.out.alloc HB.out.size _).grown hgrow (by have:=HB.out.size;simp;omega) (fun k hk=>(HO.out.lt k hk).1)
     rw [← iF] at hown'
     have HO2:=hid hown'
     have HB2:=hid hB2
     clear hown' hgrow hB2
     go_wp2
     go_roundw
     case rel=>exact ⟨i+1,c',ds ++ [d],by go_num,by have:=HD.out;first | rfl | (congr 1;omega),HO2.out,HN.out,HB2.out⟩
     case measure=>simp [intOf];omega
    ·have hc0:0<c:=by omega
     clear hgo
     obtain rfl:x=0:=by rw [← HX.out,List.getElem?_eq_none (by omega)];rfl
     obtain rfl:y=0:=by rw [← HY.out,List.getElem?_eq_none (by omega)];rfl
     have hcc:0<c:=by omega
     obtain rfl:c=1:=by omega
     obtain ⟨s,hs⟩:∃ s:Nat,s=1+0+0:=⟨_,rfl⟩
     obtain ⟨d,hd⟩:∃ d:Nat,d=s % 10000:=⟨_,rfl⟩
     obtain ⟨c',hc'⟩:∃ c':Nat,c' = s / 10000:=⟨_,rfl⟩
     have hd1:d<10000:=by omega
     have HN:=hid (HI.out d c' hd1 (by omega) (by omega) (by omega) (by omega))
     have HD:=hid (And.intro hs (And.intro hd hc'))
     clear hs hd hc' hd1
     go_wp2_with (first
      | (at_builtin;refine wpList_append_own _ rfl _ _ 36 rfl w.heap.size 3 i0 (.int .i64 0) 1 8 Tryz.underlying36 hi hz0 hz1 hz2 rfl (by decide) _ _ _ rfl (HO.out.alloc _) ⟨wr.heap.size,0,none⟩ 1 1 [.int .i64 (d:Int)] rfl rfl ?c1 ?c2 ?c3 ?c4 ?c5 ?_))
     case c1 =>
      intro j u hj
      match j,hj with
      | 0,hj=>simp at hj;subst hj;have:=HD.out;first | (simp;omega) | (simp [Addr.add];omega) | (simp [Addr.add])
     case c2=>first | rfl | (intro u hu;simp at hu;subst hu;rfl)
     case c3=>unfold maxLen;omega
     case c4=>omega
     case c5=>have:=HB.out.size;simp;omega
     intro v' w1 hown' hgrow _
     have hB2:Below w.heap.size w w1:=(HB.out.alloc HB.out.size _).grown hgrow (by have:=HB.out.size;simp;omega) (fun k hk=>(HO.out.lt k hk).1)
     rw [← iF] at hown'
     have HO2:=hid hown'
     have HB2:=hid hB2
     clear hown' hgrow hB2
     go_wp2
     go_roundw
     case rel=>exact ⟨i+1,c',ds ++ [d],by go_num,by have:=HD.out;first | rfl | (congr 1;omega),HO2.out,HN.out,HB2.out⟩
     case measure=>simp [intOf];omega
  ·have hlx:¬ i<xs.length:=by omega
   have hly:¬ i<ys.length:=by omega
   obtain rfl:c=0:=by omega
   clear hgo
   have HD:=hid (hI.done (by omega) (by omega))
   have HL:=hid (IsL.of_own hown)
   have HI:=hid hI
   clear hI hown hB
   go_wp2
   go_ret
   exact ⟨_,_,rfl,HL.out,HI.out.dig,HD.out.2,by rw [HD.out.1,HVV.out],HB.out⟩
theorem Sm {B B2:Nat} (v v2:Value) (xs ys:List Nat) (w:World) (h:IsL B w v xs) (h2:IsL B2 w v2 ys) (dx:Dig xs) (dy:Dig ys) (tx:aA xs) (ty:aA ys) (hsz:xs.length≤549755813888) (hsz2:ys.length≤549755813888) :
  Calls Tryz.prog 167 #[v,v2] w (iY w (val xs+val ys)):=by
 obtain ⟨p,b,o,k,rfl,hp,hb,hk,hx⟩:=h.shape
 obtain ⟨p2,b2,o2,k2,rfl,hp2,hb2,hk2,hy⟩:=h2.shape
 exact Sz p p2 b o k b2 o2 k2 xs ys w hp hb hx hp2 hb2 hy dx dy tx ty hsz hsz2
end Z4
section
def flo (r:Rat):Int:=r.num / (r.den:Int)
theorem Eu (r:Rat):flo r=r.floor:=by rw [Rat.floor_def];rfl
theorem NC (r:Rat):(flo r:Rat)≤r:=by rw [Eu];exact Rat.floor_le r
theorem Qe (r:Rat):r<(flo r:Rat)+1:=by have:=@Rat.lt_floor r;rw [Eu];grind
theorem Nz {r:Rat} {n:Int} (h1:(n:Rat)≤r) (h2:r<(n:Rat)+1):flo r=n:=by
 have a1:=NC r
 have a2:=Qe r
 have b1:(n:Rat)<(flo r:Rat)+1:=by grind
 have b2:(flo r:Rat)<(n:Rat)+1:=by grind
 have c1:n<flo r+1:=by exact_mod_cast b1
 have c2:flo r<n+1:=by exact_mod_cast b2
 omega
theorem Ny (z:Int) (d:Nat) (hd:0<d):flo ((z:Rat) / ((d:Int):Rat))=z / (d:Int):=by
 have hd':(0:Rat)<((d:Int):Rat):=by exact_mod_cast (show (0:Int)<d by omega)
 have hm:=Int.mul_ediv_add_emod z d
 have h0:=Int.emod_nonneg z (show (d:Int)≠0 by omega)
 have h1:=Int.emod_lt_of_pos z (show (0:Int)<d by omega)
 refine Nz ?_ ?_
 ·rw [← Rat.not_lt,Rat.div_lt_iff hd',Rat.not_lt,← Rat.intCast_mul]
  have:z / (d:Int)*d≤z:=by rw [Int.mul_comm];omega
  exact_mod_cast this
 ·rw [Rat.div_lt_iff hd',← show ((z / (d:Int)+1:Int):Rat)=((z / (d:Int):Int):Rat)+1 by rw [Rat.intCast_add];rfl,← Rat.intCast_mul]
  have:z<(z / (d:Int)+1)*d:=by rw [Int.add_mul,Int.mul_comm];omega
  exact_mod_cast this
end
namespace Rx
open Go.RowKit
def jG:RE→Bool
 | .den _=>true
 | .mul a b=>jG a && jG b
 | .c n=>decide (0<n)
 | _=>false
theorem AX {β:Nat→Rat}:∀ {e:RE},jG e=true→e.ev β≠0
 | .den a,_=>fun h=>by
  have h1:((((a.ev β).den:Nat):Int):Rat)=((0:Int):Rat):=h
  have h2:(((a.ev β).den:Nat):Int)=0:=by exact_mod_cast h1
  have:=(a.ev β).den_nz
  omega
 | .mul a b,h=>by
  simp only [jG,Bool.and_eq_true] at h
  intro h0
  rcases Rat.mul_eq_zero.1 (show a.ev β*b.ev β=0 from h0) with h1 | h1
  ·exact AX h.1 h1
  ·exact AX h.2 h1
 | .c n,h=>fun h0=>by
  simp only [jG,decide_eq_true_eq] at h
  have h1:((n:Int):Rat)=((0:Int):Rat):=h0
  have:n=0:=by exact_mod_cast h1
  omega
 | .v _,h | .add _ _,h | .sub _ _,h | .div _ _,h | .neg _,h | .abs _,h | .flo _,h | .num _,h=>by cases h
theorem AV {β:Nat→Rat}:∀ {e:RE},jG e=true→0<e.ev β
 | .den a,_=>by
  show (0:Rat)<((((a.ev β).den:Nat):Int):Rat)
  exact_mod_cast show (0:Int)<(((a.ev β).den:Nat):Int) by have:=(a.ev β).den_pos;omega
 | .mul a b,h=>by
  simp only [jG,Bool.and_eq_true] at h
  exact Rat.mul_pos (AV h.1) (AV h.2)
 | .c n,h=>by
  simp only [jG,decide_eq_true_eq] at h
  show (0:Rat)<((n:Int):Rat)
  exact_mod_cast h
 | .v _,h | .add _ _,h | .sub _ _,h | .div _ _,h | .neg _,h | .abs _,h | .flo _,h | .num _,h=>by cases h
def rem (e e':RE):RE:=.sub e (.mul e' (.flo (.div e e')))
theorem SH {β:Nat→Rat} {n m:Nat} (hm:0<m) {e e':RE} (h:((n:Nat):Rat)=e.ev β) (h':((m:Nat):Rat)=e'.ev β):((n / m:Nat):Rat)=(RE.flo (.div e e')).ev β:=by
 show _=((flo (e.ev β / e'.ev β):Int):Rat)
 rw [← h,← h',show ((n:Nat):Rat) / ((m:Nat):Rat)=(((n:Nat):Int):Rat) / (((m:Nat):Int):Rat) from rfl,Ny _ _ hm,← Int.natCast_ediv]
 rfl
theorem Tf {β:Nat→Rat} {n m:Nat} (hm:0<m) {e e':RE} (h:((n:Nat):Rat)=e.ev β) (h':((m:Nat):Rat)=e'.ev β):((n % m:Nat):Rat)=(rem e e').ev β:=by
 show _=e.ev β - e'.ev β*(RE.flo (.div e e')).ev β
 rw [← SH hm h h',← h,← h',← Rat.natCast_mul]
 have:=congrArg (fun x:Nat=>(x:Rat)) (Nat.div_add_mod n m)
 simp only [Rat.natCast_add] at this
 grind
end Rx
end Go.Proofs.YtcglmmbgoonjnaaGreatDoor
