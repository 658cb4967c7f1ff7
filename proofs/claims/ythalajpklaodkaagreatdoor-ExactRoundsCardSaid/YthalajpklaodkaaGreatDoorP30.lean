/- What the proof rests on, part 30. -/
import Derived.Test.YthalajpklaodkaaGreatDoorP29
import Derived.Test.YthalajpklaodkaaGreatDoorP23
import Derived.Test.YthalajpklaodkaaGreatDoorP06
import Derived.Test.YthalajpklaodkaaGreatDoorP05
import Derived.Test.YthalajpklaodkaaGreatDoorP08
namespace Go.Proofs.YthalajpklaodkaaGreatDoor
set_option maxRecDepth 100000
set_option maxHeartbeats 80000000
section
theorem Vg (r s:Rat):mkRat (r.num*s.den+s.num*r.den) (r.den*s.den)=r+s:=by
 have:=Rat.mkRat_add_mkRat r.num s.num r.den_nz s.den_nz
 rw [Rat.mkRat_self,Rat.mkRat_self] at this
 exact this.symm
theorem Fits.plus {a b:Nat} {r s:Rat} (h:Fits a r) (k:Fits b s):Fits (a+b+1) (r+s):=by
 have h0:r.den*s.den≠0:=Nat.mul_ne_zero r.den_nz s.den_nz
 obtain ⟨h1,-,h3⟩:=Z4.rW (r.num*s.den+s.num*r.den) (r.den*s.den) _ h0 rfl
 rw [Vg] at h1 h3
 have hp:B64 ^ (a+b)*2≤B64 ^ (a+b+1):=by rw [Nat.pow_succ];exact Nat.mul_le_mul_left _ (by decide)
 have e1:r.num.natAbs*s.den<B64 ^ (a+b):=by rw [Nat.pow_add];exact Nat.mul_lt_mul'' h.1 k.2
 have e2:s.num.natAbs*r.den<B64 ^ (a+b):=by rw [Nat.pow_add,Nat.mul_comm (B64 ^ a)];exact Nat.mul_lt_mul'' k.1 h.2
 have e3:r.den*s.den<B64 ^ (a+b):=by rw [Nat.pow_add];exact Nat.mul_lt_mul'' h.2 k.2
 have e4:(r.num*(s.den:Int)+s.num*(r.den:Int)).natAbs≤r.num.natAbs*s.den+s.num.natAbs*r.den:=by
  refine Nat.le_trans (Int.natAbs_add_le _ _) ?_
  rw [Int.natAbs_mul,Int.natAbs_mul,Int.natAbs_natCast,Int.natAbs_natCast]
  exact Nat.le_refl _
 refine ⟨?_,?_⟩
 ·rw [h1];have:=Nat.div_le_self (r.num*(s.den:Int)+s.num*(r.den:Int)).natAbs (Nat.gcd (r.num*(s.den:Int)+s.num*(r.den:Int)).natAbs (r.den*s.den));omega
 ·rw [h3];have:=Nat.div_le_self (r.den*s.den) (Nat.gcd (r.num*(s.den:Int)+s.num*(r.den:Int)).natAbs (r.den*s.den));omega
theorem Fits.minus {a b:Nat} {r s:Rat} (h:Fits a r) (k:Fits b s):Fits (a+b+1) (r - s):=by
 rw [Rat.sub_eq_add_neg]
 exact h.plus k.neg
theorem Fits.over {a b:Nat} {r s:Rat} (h:Fits a r) (k:Fits b s):Fits (a+b+1) (r / s):=by
 by_cases hs:s=0
 ·subst hs
  rw [Rat.div_def,Rat.inv_zero,Rat.mul_zero]
  have:=Nat.one_lt_pow (show a+b+1≠0 by omega) (show 1<B64 by decide)
  exact ⟨by show 0<_;omega,by show 1<_;omega⟩
 ·rw [Rat.div_def]
  exact (h.mul (k.inv hs)).mono (by omega)
theorem fits_int {n:Int} (h1:-9223372036854775808≤n) (h2:n≤9223372036854775807):Fits 1 (n:Rat):=
 ⟨by rw [Nat.pow_one];show n.natAbs<B64;unfold B64;omega,by rw [Nat.pow_one];show 1<B64;decide⟩
namespace Rx
open Go.RowKit
abbrev EV:World→Prop:=fun W=>Go.Proofs.YthalajpklaodkaaGreatDoor.Env W
abbrev K0:Nat:=1073741824
def qv (c d:Nv):Value:=.agg #[.bool c.b,.int .u64 c.u,.slice c.p c.l c.c,.int .u64 d.u,.slice d.p d.l d.c]
theorem kS {W:World} {v:Value} {r:Rat} (h:IsQ W v r):∃ c d:Nv,v=qv c d:=by
 obtain ⟨t,x,p,l,q,y,r,s,u,rfl⟩:=h.open
 exact ⟨⟨t,x,p,l,q,.empty,0,default⟩,⟨false,y,r,s,u,.empty,0,default⟩,rfl⟩
theorem Dx {W:World} {v:Value} {r:Rat} (h:Z4.IsR W v r):∃ c d:Nv,v=.agg #[.bool c.b,.slice c.p c.l c.c,.bool false,.slice d.p d.l d.c]:=by
 obtain ⟨t,p,l,q,r,s,u,rfl⟩:=h.open
 exact ⟨⟨t,0,p,l,q,.empty,0,default⟩,⟨false,0,r,s,u,.empty,0,default⟩,rfl⟩
section
variable {β:Nat→Rat} {f:FuncId} {vals:Array Value} {W:World} {ρ:Env} {b:Nat}
def Ans (β:Nat→Rat) (ρ:Env) (b:Nat) (W:World) (res:SV) (new:List Fc) (e:Ending) (W':World):Prop:=
 ∃ ρ':Env,(∀ n,n<b∨b+M≤n→ρ' n=ρ n)∧e=.returned (res.den ρ')∧Below W.heap.size W W'∧∀ g∈new,(SQ β).on ρ' g W'
theorem nY {e:RE} {k:Nat} (hc:Calls Tryz.prog f vals W (aV W (e.ev β))) (hk:Fits k (e.ev β)):Calls Tryz.prog f vals W (Ans β ρ b W (.e (.a (aJ b))) [.q b e k]):=by
 refine hc.mono fun _ W' ⟨v,he,hv,hb⟩=>?_
 obtain ⟨c,d,rfl⟩:=kS hv
 have h1:(aJ b).map (Cell.den (aQ ρ b [c,d]))=[.bool c.b,.int .u64 c.u,.slice c.p c.l c.c,.int .u64 d.u,.slice d.p d.l d.c]:=by simp [aJ,Cell.den,aQ]
 refine ⟨aQ ρ b [c,d],jB (by simp [M]),?_,hb,fun g hg=>?_⟩
 ·rw [he];simp only [SV.den,El.den,h1];rfl
 ·rw [List.mem_singleton] at hg
  subst hg
  refine ⟨?_,hk⟩
  rw [h1];exact hv
theorem lH {e:RE} {k:Nat} {c0:Int} (hc:Calls Tryz.prog f vals W (dG W (e.ev β) c0)) (hk:Fits k (e.ev β)):Calls Tryz.prog f vals W (Ans β ρ b W (.t [.a (aJ b),.s (.it .i64 c0)]) [.q b e k]):=by
 refine hc.mono fun _ W' ⟨v,he,hv,hb⟩=>?_
 obtain ⟨c,d,rfl⟩:=kS hv
 have h1:(aJ b).map (Cell.den (aQ ρ b [c,d]))=[.bool c.b,.int .u64 c.u,.slice c.p c.l c.c,.int .u64 d.u,.slice d.p d.l d.c]:=by simp [aJ,Cell.den,aQ]
 refine ⟨aQ ρ b [c,d],jB (by simp [M]),?_,hb,fun g hg=>?_⟩
 ·rw [he];simp only [SV.den,El.den,List.map_cons,List.map_nil,h1];rfl
 ·rw [List.mem_singleton] at hg
  subst hg
  refine ⟨?_,hk⟩
  rw [h1];exact hv
theorem sZ {v:Value} {c:Cell} (hc:Calls Tryz.prog f vals W (aT W v)) (hv:c.den ρ=v):Calls Tryz.prog f vals W (Ans β ρ b W (.e (.s c)) []):=by
 refine hc.mono fun _ W' ⟨he,hb⟩=>⟨ρ,fun _ _=>rfl,?_,hb,fun g hg=>by cases hg⟩
 rw [he,← hv];rfl
theorem LK {e e':RE} {k k':Nat} (hc:Calls Tryz.prog f vals W (zo W (e.ev β) (e'.ev β))) (hk:Fits k (e.ev β)) (hk':Fits k' (e'.ev β)):Calls Tryz.prog f vals W (Ans β ρ b W (.e (.a (aJ b ++ aJ (b+2)))) [.q b e k,.q (b+2) e' k']):=by
 refine hc.mono fun _ W' ⟨v,he,hv,hb⟩=>?_
 obtain ⟨t6,x6,p6,l6,q6,y6,r6,s6,u6,t7,x7,p7,l7,q7,y7,r7,s7,u7,rfl,hv1,hv2⟩:=hv
 have h1:(aJ b).map (Cell.den (aQ ρ b [⟨t6,x6,p6,l6,q6,.empty,0,default⟩,⟨false,y6,r6,s6,u6,.empty,0,default⟩,⟨t7,x7,p7,l7,q7,.empty,0,default⟩,⟨false,y7,r7,s7,u7,.empty,0,default⟩]))=(c5 t6 x6 p6 l6 q6 y6 r6 s6 u6):=by simp [aJ,Cell.den,aQ]
 have h2:(aJ (b+2)).map (Cell.den (aQ ρ b [⟨t6,x6,p6,l6,q6,.empty,0,default⟩,⟨false,y6,r6,s6,u6,.empty,0,default⟩,⟨t7,x7,p7,l7,q7,.empty,0,default⟩,⟨false,y7,r7,s7,u7,.empty,0,default⟩]))=(c5 t7 x7 p7 l7 q7 y7 r7 s7 u7):=by
  simp [aJ,Cell.den,aQ,show b+2+1 - b=3 by omega,show b≤b+2+1 by omega]
 refine ⟨_,jB (b:=b) (L:=[⟨t6,x6,p6,l6,q6,.empty,0,default⟩,⟨false,y6,r6,s6,u6,.empty,0,default⟩,⟨t7,x7,p7,l7,q7,.empty,0,default⟩,⟨false,y7,r7,s7,u7,.empty,0,default⟩]) (by simp [M]),?_,hb,fun g hg=>?_⟩
 ·rw [he];simp only [SV.den,El.den,List.map_append,h1,h2];rfl
 ·simp only [List.mem_cons,List.not_mem_nil,or_false] at hg
  rcases hg with rfl | rfl
  ·refine ⟨?_,hk⟩
   rw [h1];exact hv1
  ·refine ⟨?_,hk'⟩
   rw [h2];exact hv2
theorem LG {e:RE} (hc:Calls Tryz.prog f vals W (vG W (e.ev β))) (hk:Fits 4 (e.ev β)):Calls Tryz.prog f vals W (Ans β ρ b W (.t [.a (aJ b),.a (bV (b+2))]) [.q b e 4,.r (b+2) e 4]):=by
 refine hc.mono fun _ W' ⟨v,v',he,hv,hv',hb⟩=>?_
 obtain ⟨c,d,rfl⟩:=kS hv
 obtain ⟨c',d',rfl⟩:=Dx hv'
 have h1:(aJ b).map (Cell.den (aQ ρ b [c,d,c',d']))=[.bool c.b,.int .u64 c.u,.slice c.p c.l c.c,.int .u64 d.u,.slice d.p d.l d.c]:=by simp [aJ,Cell.den,aQ]
 have h2:(bV (b+2)).map (Cell.den (aQ ρ b [c,d,c',d']))=[.bool c'.b,.slice c'.p c'.l c'.c,.bool false,.slice d'.p d'.l d'.c]:=by
  simp [bV,Cell.den,aQ,show b+2+1 - b=3 by omega,show b≤b+2+1 by omega]
 refine ⟨aQ ρ b [c,d,c',d'],jB (by simp [M]),?_,hb,fun g hg=>?_⟩
 ·rw [he];simp only [SV.den,El.den,List.map_cons,List.map_nil,h1,h2];rfl
 ·simp only [List.mem_cons,List.not_mem_nil,or_false] at hg
  rcases hg with rfl | rfl
  ·refine ⟨?_,hk⟩
   rw [h1];exact hv
  ·refine ⟨?_,hk⟩
   rw [h2];exact hv'
end
def oK:List Fc→Nat→Option (RE×Nat)
 | [],_=>none
 | .q s e k :: r,n=>if s=n then some (e,k) else oK r n
 | _ :: r,n=>oK r n
def qN:List Fc→Nat→Option (RE×Nat)
 | [],_=>none
 | .r s e k :: r,n=>if s=n then some (e,k) else qN r n
 | _ :: r,n=>qN r n
def lZ:List Fc→Nat→Option RE
 | [],_=>none
 | .n s e :: r,n=>if s=n then some e else lZ r n
 | _ :: r,n=>lZ r n
theorem kG {n:Nat} {e:RE} {k:Nat}:∀ {db:List Fc},oK db n=some (e,k)→.q n e k∈db
 | [],h=>by simp [oK] at h
 | f :: r,h=>by
  cases f with
  | q s e' k' =>
   simp only [oK] at h
   split at h
   ·rename_i hs;cases h;subst hs;simp
   ·exact List.mem_cons_of_mem _ (kG h)
  | r _ _ _=>exact List.mem_cons_of_mem _ (kG h)
  | x _ _=>exact List.mem_cons_of_mem _ (kG h)
  | n _ _=>exact List.mem_cons_of_mem _ (kG h)
  | i _ _=>exact List.mem_cons_of_mem _ (kG h)
  | w _ _=>exact List.mem_cons_of_mem _ (kG h)
  | z _ _ _=>exact List.mem_cons_of_mem _ (kG h)
theorem mD {n:Nat} {e:RE} {k:Nat}:∀ {db:List Fc},qN db n=some (e,k)→.r n e k∈db
 | [],h=>by simp [qN] at h
 | f :: r,h=>by
  cases f with
  | r s e' k' =>
   simp only [qN] at h
   split at h
   ·rename_i hs;cases h;subst hs;simp
   ·exact List.mem_cons_of_mem _ (mD h)
  | q _ _ _=>exact List.mem_cons_of_mem _ (mD h)
  | x _ _=>exact List.mem_cons_of_mem _ (mD h)
  | n _ _=>exact List.mem_cons_of_mem _ (mD h)
  | i _ _=>exact List.mem_cons_of_mem _ (mD h)
  | w _ _=>exact List.mem_cons_of_mem _ (mD h)
  | z _ _ _=>exact List.mem_cons_of_mem _ (mD h)
theorem mg {n:Nat} {e:RE}:∀ {db:List Fc},lZ db n=some e→.n n e∈db
 | [],h=>by simp [lZ] at h
 | f :: r,h=>by
  cases f with
  | n s e' =>
   simp only [lZ] at h
   split at h
   ·rename_i hs;cases h;subst hs;simp
   ·exact List.mem_cons_of_mem _ (mg h)
  | q _ _ _=>exact List.mem_cons_of_mem _ (mg h)
  | x _ _=>exact List.mem_cons_of_mem _ (mg h)
  | r _ _ _=>exact List.mem_cons_of_mem _ (mg h)
  | i _ _=>exact List.mem_cons_of_mem _ (mg h)
  | w _ _=>exact List.mem_cons_of_mem _ (mg h)
  | z _ _ _=>exact List.mem_cons_of_mem _ (mg h)
def bZ (db:List Fc):List Cell→Option (RE×Nat)
 | [.ob a,.ou b,.os c,.ou d,.os e]=>if a=b && a=c && a+1=d && a+1=e then oK db a else none
 | [.bl false,.it .u64 0,.nils,.it .u64 0,.nils]=>some (.c 0,1)
 | _=>none
theorem dJ {β:Nat→Rat} {ρ:Env} {W:World} {db:List Fc} {cs:List Cell} {e:RE} {k:Nat} (h:bZ db cs=some (e,k)) (hf:∀ f∈db,(SQ β).on ρ f W) :
  (IsQ W (.agg (cs.map (Cell.den ρ)).toArray) (e.ev β)∧Fits k (e.ev β))∧∃ c d:Nv,.agg (cs.map (Cell.den ρ)).toArray=qv c d:=by
 unfold bZ at h
 split at h
 ·rename_i a b c d g
  split at h
  ·rename_i hh
   simp only [Bool.and_eq_true,decide_eq_true_eq] at hh
   obtain ⟨⟨⟨rfl,rfl⟩,rfl⟩,rfl⟩:=hh
   have:=hf _ (kG h)
   exact ⟨this,kS this.1⟩
  ·cases h
 ·cases h
  refine ⟨⟨?_,fits_int (by decide) (by decide)⟩,⟨false,0,none,0,0,.empty,0,default⟩,⟨false,0,none,0,0,.empty,0,default⟩,rfl⟩
  exact oP W
 ·cases h
def vS (db:List Fc) (cs:List Cell):Option ((RE×Nat)×RE×Nat):=
 match bZ db (cs.take 5),bZ db (cs.drop 5) with
 | some x,some y=>some (x,y)
 | _,_=>none
theorem LQ {β:Nat→Rat} {ρ:Env} {W:World} {db:List Fc} {cs:List Cell} {e e':RE} {k k':Nat} (h:vS db cs=some ((e,k),e',k')) (hf:∀ f∈db,(SQ β).on ρ f W) :
  Ej (e.ev β) (e'.ev β) (.agg (cs.map (Cell.den ρ)).toArray) W∧Fits k (e.ev β)∧Fits k' (e'.ev β):=by
 unfold vS at h
 split at h
 ·rename_i x y h1 h2
  cases h
  obtain ⟨h3,c,d,e3⟩:=dJ h1 hf
  obtain ⟨h4,c',d',e4⟩:=dJ h2 hf
  refine ⟨?_,h3.2,h4.2⟩
  rw [e3] at h3
  rw [e4] at h4
  have hl:(cs.map (Cell.den ρ))=((cs.take 5).map (Cell.den ρ)) ++ ((cs.drop 5).map (Cell.den ρ)):=by rw [← List.map_append,List.take_append_drop]
  have e3':(cs.take 5).map (Cell.den ρ)=[.bool c.b,.int .u64 c.u,.slice c.p c.l c.c,.int .u64 d.u,.slice d.p d.l d.c]:=by
   have:=Value.agg.inj e3
   simpa using congrArg Array.toList this
  have e4':(cs.drop 5).map (Cell.den ρ)=[.bool c'.b,.int .u64 c'.u,.slice c'.p c'.l c'.c,.int .u64 d'.u,.slice d'.p d'.l d'.c]:=by
   have:=Value.agg.inj e4
   simpa using congrArg Array.toList this
  rw [hl,e3',e4']
  exact ⟨_,_,_,_,_,_,_,_,_,_,_,_,_,_,_,_,_,_,rfl,h3.1,h4.1⟩
 ·cases h
section
variable {β:Nat→Rat}
def oC (β:Nat→Rat) (f:FuncId) (op:RE→RE) (sz:Nat→Nat):Con (SQ β) where
 fn:=f
 app:=fun db b args=>match args with
  | [.e (.a x)]=>match bZ db x with
   | some (e,k)=>if k≤K0 then some (.e (.a (aJ b)),[.q b (op e) (sz k)]) else none
   | none=>none
  | _=>none
theorem tY {f:FuncId} {op:RE→RE} {sz:Nat→Nat} (h:∀ e k v W,k≤K0→IsQ W v (e.ev β)→Fits k (e.ev β)→EV W→Calls Tryz.prog f #[v] W (aV W ((op e).ev β))∧Fits (sz k) ((op e).ev β)):(oC β f op sz).Ok Tryz.prog (SQ β) EV:=by
 refine Con.ok0 rfl ?_
 intro db b args res new ha ρ W hf hE
 simp only [oC] at ha
 split at ha
 ·rename_i x
  split at ha
  ·rename_i e k hx
   split at ha
   ·rename_i hk
    cases ha
    obtain ⟨⟨h1,h2⟩,-⟩:=dJ hx hf
    obtain ⟨h3,h4⟩:=h e k _ W hk h1 h2 hE
    exact nY h3 h4
   ·cases ha
  ·cases ha
 ·cases ha
def qF (β:Nat→Rat) (f:FuncId) (op:RE→RE→RE) (sz:Nat→Nat→Nat) (side:RE→RE→Bool):Con (SQ β) where
 fn:=f
 app:=fun db b args=>match args with
  | [.e (.a x),.e (.a y)]=>match bZ db x,bZ db y with
   | some (e,k),some (e',k')=>if decide (k≤K0) && decide (k'≤K0) && side e e' then some (.e (.a (aJ b)),[.q b (op e e') (sz k k')]) else none
   | _,_=>none
  | _=>none
theorem vZ {f:FuncId} {op:RE→RE→RE} {sz:Nat→Nat→Nat} {side:RE→RE→Bool} (h:∀ e e' k k' v v' W,k≤K0→k'≤K0→side e e' = true→IsQ W v (e.ev β)→Fits k (e.ev β)→IsQ W v' (e'.ev β)→Fits k' (e'.ev β)→EV W→Calls Tryz.prog f #[v,v'] W (aV W ((op e e').ev β))∧Fits (sz k k') ((op e e').ev β)):(qF β f op sz side).Ok Tryz.prog (SQ β) EV:=by
 refine Con.ok0 rfl ?_
 intro db b args res new ha ρ W hf hE
 simp only [qF] at ha
 split at ha
 ·rename_i x y
  split at ha
  ·rename_i e k e' k' hx hy
   split at ha
   ·rename_i hk
    simp only [Bool.and_eq_true,decide_eq_true_eq] at hk
    cases ha
    obtain ⟨⟨h1,h2⟩,-⟩:=dJ hx hf
    obtain ⟨⟨h1',h2'⟩,-⟩:=dJ hy hf
    obtain ⟨h3,h4⟩:=h e e' k k' _ _ W hk.1.1 hk.1.2 hk.2 h1 h2 h1' h2' hE
    exact nY h3 h4
   ·cases ha
  ·cases ha
 ·cases ha
variable (β) (h:Hint)
def nzB (h:Hint) (e:RE):Bool:=h.nz.any fun p=>p.beq e
def sgB (h:Hint) (e:RE):Option Int:=(h.sg.find? fun p=>p.1.beq e).map (·.2)
def cmB (h:Hint) (e e':RE):Option Int:=if eqB h e e' then some 0 else (h.cm.find? fun p=>p.1.beq e && p.2.1.beq e').map (·.2.2)
def Ap:Con (SQ β) where
 fn:=15
 app:=fun db b args=>match args with
  | [.e (.a x),.e (.a y)]=>match bZ db x,bZ db y with
   | some (e,k),some (e',k')=>if decide (k≤K0) && decide (k'≤K0) then
     if nzB h e' then some (.t [.a (aJ b),.s (.it .i64 0)],[.q b (.div e e') (k+k' + 1)]) else
     if eqB h e' (.c 0) then some (.t [.a (aJ b),.s (.it .i64 9)],[.q b (.div e e') (k+k' + 1)]) else none
    else none
   | _,_=>none
  | _=>none
def AO:Con (SQ β) where
 fn:=12
 app:=fun db _ args=>match args with
  | [.e (.a x)]=>match bZ db x with
   | some (e,_)=>match sgB h e with
    | some n=>some (.e (.s (.it .i64 n)),[])
    | none=>none
   | none=>none
  | _=>none
def Ak:Con (SQ β) where
 fn:=30
 app:=fun db _ args=>match args with
  | [.e (.a x),.e (.a y)]=>match bZ db x,bZ db y with
   | some (e,k),some (e',k')=>if decide (k≤K0) && decide (k'≤K0) then (match cmB h e e' with
     | some n=>some (.e (.s (.it .i64 n)),[])
     | none=>none) else none
   | _,_=>none
  | _=>none
def Az:Con (SQ β) where
 fn:=18
 app:=fun _ b args=>match args with
  | [.e (.s (.it .i64 n))]=>if decide (-9223372036854775808≤n) && decide (n≤9223372036854775807) then some (.e (.a (aJ b)),[.q b (.c n) 1]) else none
  | _=>none
def cq:List (Con (SQ β)):=[
 qF β 20 .add (fun a b=>a+b+1) (fun _ _=>true),qF β 22 .sub (fun a b=>a+b+1) (fun _ _=>true),qF β 24 .mul (fun a b=>a+b) (fun _ _=>true),
 qF β 94 .div (fun a b=>a+b+1) (fun _ e=>nzB h e),oC β 26 .neg id,oC β 28 .abs id,Ap β h,AO β h,Ak β h,Az β]
end
section
variable {β:Nat→Rat} {h:Hint}
theorem uI (ok:h.Ok β) {e:RE} (hh:nzB h e=true):e.ev β≠0:=by
 obtain ⟨p,hp,h1⟩:=List.any_eq_true.1 hh
 rw [← RE.beq_eq h1]
 exact ok.2.2.1 p hp
theorem Jw (ok:h.Ok β) {e:RE} {n:Int} (hh:sgB h e=some n):sgQ (e.ev β)=n:=by
 obtain ⟨p,hp,rfl⟩:=Option.map_eq_some_iff.1 hh
 have h1:=List.find?_some hp
 rw [← RE.beq_eq h1]
 exact ok.2.2.2.1 p (List.mem_of_find?_eq_some hp)
theorem oh (ok:h.Ok β) {e e':RE} {n:Int} (hh:cmB h e e' = some n):aH (e.ev β) (e'.ev β)=n:=by
 unfold cmB at hh
 split at hh
 ·rename_i he
  cases hh
  rw [oH ok he]
  unfold aH
  simp
 ·obtain ⟨p,hp,rfl⟩:=Option.map_eq_some_iff.1 hh
  have h1:=List.find?_some hp
  simp only [Bool.and_eq_true] at h1
  rw [← RE.beq_eq h1.1,← RE.beq_eq h1.2]
  exact ok.2.2.2.2 p (List.mem_of_find?_eq_some hp)
theorem Nw (ok:h.Ok β):(Ap β h).Ok Tryz.prog (SQ β) EV:=by
 refine Con.ok0 rfl ?_
 intro db b args res new ha ρ W hf hE
 simp only [Ap] at ha
 split at ha
 ·split at ha
  ·rename_i e k e' k' hx hy
   split at ha
   ·rename_i hk
    simp only [Bool.and_eq_true,decide_eq_true_eq] at hk
    obtain ⟨⟨h1,h2⟩,-⟩:=dJ hx hf
    obtain ⟨⟨h1',h2'⟩,-⟩:=dJ hy hf
    have hc:=KF _ _ _ _ (max k k') W h1 h1' (by simp only [K0] at hk;omega) (h2.mono (Nat.le_max_left _ _)) (h2'.mono (Nat.le_max_right _ _)) hE.tz
    split at ha
    ·rename_i hn
     cases ha
     rw [if_neg (uI ok hn)] at hc
     exact lH (e:=.div e e') hc (h2.over h2')
    ·split at ha
     ·rename_i hn
      cases ha
      rw [if_pos (show e'.ev β=0 from (oH ok hn).trans rfl)] at hc
      exact lH (e:=.div e e') hc (h2.over h2')
     ·cases ha
   ·cases ha
  ·cases ha
 ·cases ha
theorem NT (ok:h.Ok β):(AO β h).Ok Tryz.prog (SQ β) EV:=by
 refine Con.ok0 rfl ?_
 intro db b args res new ha ρ W hf hE
 simp only [AO] at ha
 split at ha
 ·split at ha
  ·rename_i e k hx
   split at ha
   ·rename_i n hn
    cases ha
    obtain ⟨⟨h1,h2⟩,-⟩:=dJ hx hf
    have hc:=Em _ _ W h1
    rw [Jw ok hn] at hc
    exact sZ hc rfl
   ·cases ha
  ·cases ha
 ·cases ha
theorem Nr (ok:h.Ok β):(Ak β h).Ok Tryz.prog (SQ β) EV:=by
 refine Con.ok0 rfl ?_
 intro db b args res new ha ρ W hf hE
 simp only [Ak] at ha
 split at ha
 ·split at ha
  ·rename_i e k e' k' hx hy
   split at ha
   ·rename_i hk
    simp only [Bool.and_eq_true,decide_eq_true_eq] at hk
    split at ha
    ·rename_i n hn
     cases ha
     obtain ⟨⟨h1,h2⟩,-⟩:=dJ hx hf
     obtain ⟨⟨h1',h2'⟩,-⟩:=dJ hy hf
     have hc:=qh _ _ _ _ (max k k') W h1 h1' (by simp only [K0] at hk;omega) (h2.mono (Nat.le_max_left _ _)) (h2'.mono (Nat.le_max_right _ _))
     rw [oh ok hn] at hc
     exact sZ hc rfl
    ·cases ha
   ·cases ha
  ·cases ha
 ·cases ha
theorem ND:(Az β).Ok Tryz.prog (SQ β) EV:=by
 refine Con.ok0 rfl ?_
 intro db b args res new ha ρ W hf hE
 simp only [Az] at ha
 split at ha
 ·rename_i n
  split at ha
  ·rename_i hk
   simp only [Bool.and_eq_true,decide_eq_true_eq] at hk
   cases ha
   exact nY (e:=.c n) (sQ n hk.1 (by omega) W) (fits_int hk.1 hk.2)
  ·cases ha
 ·cases ha
theorem Po {k:Nat} {r:Rat} (h:Fits k r):Fits k (if r.num<0 then -r else r):=by
 split
 ·exact h.neg
 ·exact h
theorem qH (ok:h.Ok β):∀ c∈cq β h,c.Ok Tryz.prog (SQ β) EV:=by
 have hmax:∀ {k k':Nat} {r:Rat},Fits k r→Fits (max k k') r:=fun h=>h.mono (Nat.le_max_left _ _)
 have hmax':∀ {k k':Nat} {r:Rat},Fits k' r→Fits (max k k') r:=fun h=>h.mono (Nat.le_max_right _ _)
 unfold cq
 simp only [List.forall_mem_cons,List.not_mem_nil,false_imp_iff,implies_true,and_true]
 refine ⟨vZ fun e e' k k' v v' W hk hk' _ h1 h2 h3 h4 hE=>⟨qg _ _ v v' (max k k') W h1 h3 (by simp only [K0] at hk hk';omega) (hmax h2) (hmax' h4) hE.tz,h2.plus h4⟩,
  vZ fun e e' k k' v v' W hk hk' _ h1 h2 h3 h4 hE=>⟨sU _ _ v v' (max k k') W h1 h3 (by simp only [K0] at hk hk';omega) (hmax h2) (hmax' h4) hE.tz,h2.minus h4⟩,
  vZ fun e e' k k' v v' W hk hk' _ h1 h2 h3 h4 hE=>⟨jH _ _ v v' (max k k') W h1 h3 (by simp only [K0] at hk hk';omega) (hmax h2) (hmax' h4) hE.tz,h2.mul h4⟩,
  vZ fun e e' k k' v v' W hk hk' hn h1 h2 h3 h4 hE=>⟨qj _ _ v v' (max k k') W h1 h3 (by simp only [K0] at hk hk';omega) (uI ok hn) (hmax h2) (hmax' h4) hE.tz,h2.over h4⟩,
  tY fun e k v W _ h1 h2 _=>⟨Ed _ v W h1,h2.neg⟩,
  tY fun e k v W _ h1 h2 _=>⟨yU _ v W h1,Po h2⟩,Nw ok,NT ok,Nr ok,ND⟩
end
end Rx
end
namespace Rx
open Go.RowKit
theorem kH (β:Nat→Rat):Hint.Ok β {}:=⟨fun p h=>(by cases h),fun p h=>(by cases h),fun p h=>(by cases h),fun p h=>(by cases h),fun p h=>(by cases h)⟩
section
variable {β:Nat→Rat} {h:Hint} {ok:h.Ok β} {cons:List (Con (SQ β))} {fuel:Nat} {f:FuncId} {args:List SV} {fs:List Fc} {b:Nat} {ρ:Env} {w:World}
def isQ (e:RE):Option (SV×List Fc)→Bool
 | some (.e (.a cs),fs)=>match bZ fs cs with
  | some (e',_)=>e'.beq e
  | none=>false
 | _=>false
def BN (e e':RE):Option (SV×List Fc)→Bool
 | some (.e (.a cs),fs)=>match vS fs cs with
  | some ((x,_),y,_)=>x.beq e && y.beq e'
  | none=>false
 | _=>false
def isB (x:Bool):Option (SV×List Fc)→Bool
 | some (.e (.s (.bl y)),_)=>x == y
 | _=>false
def isI (x:Int):Option (SV×List Fc)→Bool
 | some (.e (.s (.it .i64 y)),_)=>x == y
 | _=>false
theorem RU {e:RE} {o:Option (SV×List Fc)} (h:isQ e o=true):∃ cs fs k,o=some (.e (.a cs),fs)∧bZ fs cs=some (e,k):=by
 unfold isQ at h
 split at h
 ·split at h
  ·rename_i cs fs _ e' k ha;exact ⟨cs,fs,k,rfl,by rw [ha,RE.beq_eq h]⟩
  ·cases h
 ·cases h
theorem RV {e e':RE} {o:Option (SV×List Fc)} (h:BN e e' o=true):∃ cs fs k k',o=some (.e (.a cs),fs)∧vS fs cs=some ((e,k),e',k'):=by
 unfold BN at h
 split at h
 ·split at h
  ·rename_i cs fs _ x k y k' ha
   simp only [Bool.and_eq_true] at h
   exact ⟨cs,fs,k,k',rfl,by rw [ha,RE.beq_eq h.1,RE.beq_eq h.2]⟩
  ·cases h
 ·cases h
theorem BH {x:Bool} {o:Option (SV×List Fc)} (h:isB x o=true):∃ fs,o=some (.e (.s (.bl x)),fs):=by
 unfold isB at h
 split at h
 ·rename_i y fs
  have e:x=y:=by simpa using h
  subst e;exact ⟨fs,rfl⟩
 ·cases h
theorem je {w:World} (hE:EV w):∀ W,Below w.heap.size w W→EV W:=fun _ hb=>Env.below hE hb (Nat.le_refl _)
theorem su {e:RE} (hc:∀ c∈cons,c.Ok Tryz.prog (SQ β) EV) (hr:isQ e (bG Tryz.prog (SQ β) (HQ β h ok) cons fuel f args fs b)=true) (hE:EV w) (hf:∀ g∈fs,Fc.on β ρ g w):Calls Tryz.prog f (args.map (SV.den ρ)).toArray w (aV w (e.ev β)):=by
 obtain ⟨cs,fs',k,heq,ha⟩:=RU hr
 exact (iI mixed hc heq (je hE) hf).mono fun x W' ⟨ρ',_,hx,hb,hfs⟩=>⟨_,hx,(dJ ha hfs).1.1,hb⟩
theorem Wj {e e':RE} (hc:∀ c∈cons,c.Ok Tryz.prog (SQ β) EV) (hr:BN e e' (bG Tryz.prog (SQ β) (HQ β h ok) cons fuel f args fs b)=true) (hE:EV w) (hf:∀ g∈fs,Fc.on β ρ g w):Calls Tryz.prog f (args.map (SV.den ρ)).toArray w (zo w (e.ev β) (e'.ev β)):=by
 obtain ⟨cs,fs',k,k',heq,ha⟩:=RV hr
 exact (iI mixed hc heq (je hE) hf).mono fun x W' ⟨ρ',_,hx,hb,hfs⟩=>⟨_,hx,(LQ ha hfs).1,hb⟩
theorem VY {y:Bool} (hc:∀ c∈cons,c.Ok Tryz.prog (SQ β) EV) (hr:isB y (bG Tryz.prog (SQ β) (HQ β h ok) cons fuel f args fs b)=true) (hE:EV w) (hf:∀ g∈fs,Fc.on β ρ g w):Calls Tryz.prog f (args.map (SV.den ρ)).toArray w (aT w (.bool y)):=by
 obtain ⟨fs',heq⟩:=BH hr
 exact (iI mixed hc heq (je hE) hf).mono fun x W' ⟨ρ',_,hx,hb,_⟩=>⟨hx,hb⟩
end
def bet (L:List Rat):Nat→Rat:=fun n=>L.getD n 0
def qq (c d:Nv):List Nv:=[c,d]
def ev (L:List Nv):Env:=fun n=>L.getD n default
abbrev K1:Nat:=1048576
abbrev pr (s:Nat):SV:=.e (.a (aJ s ++ aJ (s+2)))
abbrev pq (s i:Nat):List Fc:=[.q s (.v i) K1,.q (s+2) (.v (i+1)) K1]
section
variable {a b c d:Rat} {v1 v2:Value} {W:World}
end
end Rx
namespace Rx
open Go.RowKit
section
variable {a b c d:Rat} {v1 v2:Value} {W:World}
end
theorem UK (r:Rat):1+r*r≠0:=by
 have h:0≤r*r:=by
  rcases Rat.le_total (a:=0) (b:=r) with h | h
  ·exact Rat.mul_nonneg h h
  ·have:=Rat.mul_nonneg (show 0≤-r by grind) (show 0≤-r by grind);grind
 grind
def tC (e:RE):RE:=.div (.sub (.c 1) (.mul e e)) (.add (.c 1) (.mul e e))
def tS (e:RE):RE:=.div (.add e e) (.add (.c 1) (.mul e e))
theorem XC {a:Rat} {v:Value} {W:World} (h:IsQ W v a) (f:Fits K1 a) (hE:EV W):Calls Tryz.prog 69 #[v] W (zo W ((1 - a*a) / (1+a*a)) ((a+a) / (1+a*a))):=by
 obtain ⟨c,d,rfl⟩:=kS h
 have ok:Hint.Ok (bet [a]) { nz:=[.add (.c 1) (.mul (.v 0) (.v 0))] }:=⟨fun p h=>(by cases h),fun p h=>(by cases h),fun p hp=>(by simp at hp;subst hp;exact UK a),fun p h=>(by cases h),fun p h=>(by cases h)⟩
 exact Wj (β:=bet [a]) (ρ:=ev [c,d]) (args:=[.e (.a (aJ 0))]) (fs:=[.q 0 (.v 0) K1]) (e:=tC (.v 0)) (e':=tS (.v 0)) (ok:=ok) (fuel:=1) (b:=2) (qH ok) (by kernel_rfl) hE fun g hg=>by
  rw [List.mem_singleton] at hg;subst hg;exact ⟨h,f⟩
section
variable (β:Nat→Rat) (h:Hint)
def wF:Con (SQ β) where
 fn:=69
 app:=fun db b args=>match args with
  | [.e (.a x)]=>match bZ db x with
   | some (e,k)=>if k≤K1 then some (pr b,[.q b (tC e) (4*k+5),.q (b+2) (tS e) (4*k+5)]) else none
   | _=>none
  | _=>none
def um:List Cell→Option Nat
 | [.oi a,.oi b,.o8 c]=>if a+1=b && a+2=c then some a else none
 | _=>none
def Aj:Con (SQ β) where
 fn:=10
 app:=fun db b args=>match args with
  | [.e (.a x)]=>match um x with
   | some a=>match lZ db a with
    | some e=>some (.t [.a (aJ b),.a (bV (b+2))],[.q b e 4,.r (b+2) e 4])
    | none=>none
   | none=>none
  | _=>none
def cl1:List (Con (SQ β)):=[wF β,Aj β]
end
section
variable {β:Nat→Rat} {h:Hint}
theorem Fh:(wF β).Ok Tryz.prog (SQ β) EV:=by
 refine Con.ok0 rfl ?_
 intro db b args res new ha ρ W hf hE
 simp only [wF] at ha
 split at ha
 ·split at ha
  ·rename_i e k hx
   split at ha
   ·rename_i hk
    cases ha
    obtain ⟨⟨h1,h2⟩,-⟩:=dJ hx hf
    have f1:Fits 1 (1:Rat):=fits_int (n:=1) (by decide) (by decide)
    have fm:=h2.mul h2
    have fp:=f1.plus fm
    have fs:=f1.minus fm
    have fa:=h2.plus h2
    exact LK (e:=tC e) (e':=tS e) (XC h1 (h2.mono hk) hE)
     ((fs.over fp).mono (by omega)) ((fa.over fp).mono (by omega))
   ·cases ha
  ·cases ha
 ·cases ha
theorem RF {x:List Cell} {a:Nat} (hx:um x=some a):x=Gq a:=by
 unfold um at hx
 split at hx
 ·split at hx
  ·rename_i hh
   simp only [Bool.and_eq_true,decide_eq_true_eq] at hh
   cases hx
   rw [← hh.1,← hh.2]
   rfl
  ·cases hx
 ·cases hx
theorem Np:(Aj β).Ok Tryz.prog (SQ β) EV:=by
 refine Con.ok0 rfl ?_
 intro db b args res new ha ρ W hf hE
 simp only [Aj] at ha
 split at ha
 ·split at ha
  ·rename_i a hx
   split at ha
   ·rename_i e hn
    cases ha
    have hm:=hf _ (mg hn)
    obtain ⟨pw,hb,h0,h1,h2,h3,h4,he⟩:=(show IsN _ _ _ _ from hm)
    rw [RF hx]
    have hc:=KC (ρ a).u (ρ (a+1)).u pw h0 h1 h2 h3 h4 W hE.tz
    rw [he,← hb] at hc
    exact LG hc (by rw [← he];exact Ie _ _ _ h1 h2 h3 h4)
   ·cases ha
  ·cases ha
 ·cases ha
theorem MR:∀ c∈cl1 β,c.Ok Tryz.prog (SQ β) EV:=by
 unfold cl1
 simp only [List.forall_mem_cons,List.not_mem_nil,false_imp_iff,implies_true,and_true]
 exact ⟨Fh,Np⟩
end
end Rx
section
open Go.RowKit Go.Sort
attribute [local go_sem] takes fP fO fM
def zq (w:World) (n:Nat) (e:Ending) (w':World):Prop:=∃ s,s*s≤n∧n<(s+1)*(s+1)∧aU w s e w'
theorem VJ (x1:Int) (p1:Option Addr) (l1 q1:Nat) (w:World) (i1:ah w (.int .u64 x1) (.slice p1 l1 q1) 0) :
  Calls Tryz.prog 169 #[.agg #[.int .u64 x1,.slice p1 l1 q1]] w (zq w 0):=by
 have HZ:=hid (fun (W:World) (h:ah W (.int .u64 x1) (.slice p1 l1 q1) 0)=>dD _ _ 0 W h)
 have HI:=hid i1
 clear i1
 go_enter Tryz.func169,Tryz.ntmps169
 go_wp2_with fail
 have hS0:=hid (((St.start w).alloc' (w.heap.size) (by simp) 28 [.int .u64 x1,.slice p1 l1 q1]).alloc' (w.heap.size+1) (by simp) 28 [.int .u64 0,.slice none 0 0])
 obtain ⟨W0,hW0⟩:=aN hS0
 rw [hW0] at hS0 ⊢
 clear hW0
 have hi1:=HI.out.below hS0.out.bel
 have hS1:=hid (hS0.out.fact (.m (.int .u64 x1) (.slice p1 l1 q1) (0)) hi1)
 clear hS0 hi1
 refine (HZ.out _ (hS1.out.get (f:=.m (.int .u64 x1) (.slice p1 l1 q1) (0)) 0 rfl)).mono ?_
 rintro e w1 ⟨rfl,hB⟩
 have hS2:=hid (hS1.out.call hB)
 clear hB
 clear hS1
 obtain ⟨⟨cA0,cA1⟩,fA0,fA1⟩:=hS2.out.f2 1 w.heap.size 28 (.int .u64 x1) (.slice p1 l1 q1) rfl
 obtain ⟨⟨cR0,cR1⟩,fR0,fR1⟩:=hS2.out.f2 0 (w.heap.size+1) 28 (.int .u64 0) (.slice none 0 0) rfl
 have hS3:=hid ((((hS2.out).store (b:=⟨w.heap.size+1,28,[.int .u64 0,.slice none 0 0]⟩) 0 0 (.int .u64 x1) rfl rfl).store (b:=⟨w.heap.size+1,28,[.int .u64 x1,.slice none 0 0]⟩) 0 1 (.slice p1 l1 q1) rfl rfl).as [⟨w.heap.size+1,28,[.int .u64 x1,.slice p1 l1 q1]⟩,⟨w.heap.size,28,[.int .u64 x1,.slice p1 l1 q1]⟩] rfl)
 go_wp2_with fail
 clear cA0 cA1 fA0 fA1 cR0 cR1 fR0 fR1
 obtain ⟨⟨zR0,zR1⟩,-⟩:=hS3.out.f2 0 (w.heap.size+1) 28 (.int .u64 x1) (.slice p1 l1 q1) rfl
 exact bodyPost_ret (v:=.agg #[.int .u64 x1,.slice p1 l1 q1]) (by simp [results,Tryz.results169,go_sem,zR0,zR1]) rfl ⟨0,by decide,by decide,_,_,rfl,(hS3.out.get (f:=.m (.int .u64 x1) (.slice p1 l1 q1) (0)) 0 rfl),hS3.out.bel⟩
theorem VH (n k:Nat) (x1:Int) (p1:Option Addr) (l1 q1:Nat) (w:World) (i1:ah w (.int .u64 x1) (.slice p1 l1 q1) n) (hk:k≤8589934592) (hn:n<B64 ^ k) (h0:0<n) :
  Calls Tryz.prog 169 #[.agg #[.int .u64 x1,.slice p1 l1 q1]] w (zq w n):=by
 have hz:(n == 0)=false:=by simp;omega
 have HZ:=hid (fun (W:World) (h:ah W (.int .u64 x1) (.slice p1 l1 q1) n)=>hz ▸ dD _ _ n W h)
 have HB:=hid (fun (W:World) (h:ah W (.int .u64 x1) (.slice p1 l1 q1) n)=>Mc _ _ n k W h (by omega) hn)
 have HO:=hid (fun (b:Nat) (c d:Value) (W:World) (h:ah W (.int .u64 x1) (.slice p1 l1 q1) n) (j:ah W c d b) (hb:0<b)=>uH n b k _ _ c d W h j hb (by omega) hn)
 have HN:=hid (And.intro hn h0)
 have HI:=hid i1
 clear i1 hz h0 hn
 go_enter Tryz.func169,Tryz.ntmps169
 go_wp2_with fail
 have hS0:=hid (((St.start w).alloc' (w.heap.size) (by simp) 28 [.int .u64 x1,.slice p1 l1 q1]).alloc' (w.heap.size+1) (by simp) 28 [.int .u64 0,.slice none 0 0])
 obtain ⟨W0,hW0⟩:=aN hS0
 rw [hW0] at hS0 ⊢
 clear hW0
 have hi1:=HI.out.below hS0.out.bel
 have hS1:=hid (hS0.out.fact (.m (.int .u64 x1) (.slice p1 l1 q1) (n)) hi1)
 clear hS0 hi1
 refine (HZ.out _ (hS1.out.get (f:=.m (.int .u64 x1) (.slice p1 l1 q1) (n)) 0 rfl)).mono ?_
 rintro e w1 ⟨rfl,hB⟩
 have hS2:=hid (hS1.out.call hB)
 clear hB
 clear hS1
 obtain ⟨ne1l,ne1,ne1'⟩:=hS2.out.ne 1 w.heap.size 28 [.int .u64 x1,.slice p1 l1 q1] rfl
 obtain ⟨ne2l,ne2,ne2'⟩:=hS2.out.ne 0 (w.heap.size+1) 28 [.int .u64 0,.slice none 0 0] rfl
 obtain ⟨⟨cA0,cA1⟩,fA0,fA1⟩:=hS2.out.f2 1 w.heap.size 28 (.int .u64 x1) (.slice p1 l1 q1) rfl
 go_wp2_with fail
 clear cA0 cA1 fA0 fA1
 have hS3:=hid ((hS2.out).alloc' (w1.heap.size) (by simp) 28 [.int .u64 2,.slice none 0 0])
 obtain ⟨W1,hW1⟩:=aN hS3
 rw [hW1] at hS3 ⊢
 clear hW1
 refine (HB.out _ (hS3.out.get (f:=.m (.int .u64 x1) (.slice p1 l1 q1) (n)) 0 rfl)).mono ?_
 rintro e w2 ⟨v,rfl,hv,hB⟩
 have hS4:=hid (hS3.out.call hB)
 clear hB
 clear hS3
 have hv1:=hv.2 HN.out.2
 have hvb:v≤64*k:=by
  have h1:2 ^ (v - 1)<2 ^ (64*k):=Nat.lt_of_le_of_lt hv1.2.1 (by have:=HN.out.1;rwa [show B64=2 ^ 64 from by decide,← Nat.pow_mul] at this)
  have:=(Nat.pow_lt_pow_iff_right (by decide:1<2)).1 h1
  omega
 have HV:=hid (And.intro hv1 hvb)
 have hvs:v≤549755813888:=by omega
 clear hv hv1 hvb
 go_wp2_with fail
 rw [show ((v:Int)+1) / 2=(((v+1) / 2:Nat):Int) from by omega]
 refine (Hu 1 ((v+1) / 2) 1 _ _ _ (oO _ 1 (by decide)) (by omega) (by omega) (by decide)).mono ?_
 rintro e w3 ⟨c2,d2,rfl,hm2,hB⟩
 have hS5:=hid (hS4.out.call hB)
 clear hB
 clear hS4
 obtain ⟨x2,p2,l2,q2,rfl,rfl⟩:=hm2.shape
 rw [Nat.one_mul] at hm2
 obtain ⟨X0,hX0⟩:∃ X0,2 ^ ((v+1) / 2)=X0:=⟨_,rfl⟩
 rw [hX0] at hm2
 have HX:=hid (show 1≤X0∧X0<B64 ^ (k+1)∧n<(X0+1)*(X0+1) by
  have h1:=HV.out.1.2.2
  have h2:2 ^ v≤X0*X0:=by rw [← hX0,← Nat.pow_add];exact Nat.pow_le_pow_right (by decide) (by omega)
  have h3:1≤X0:=by rw [← hX0];exact Nat.one_le_two_pow
  refine ⟨h3,?_,?_⟩
  ·rw [← hX0,show B64=2 ^ 64 from by decide,← Nat.pow_mul];exact Nat.pow_lt_pow_right (by decide) (by have:=HV.out.2;omega)
  ·have h4:(X0+1)*(X0+1)=X0*X0+X0+X0+1:=by grind
   omega)
 clear hX0 HV hvs
 have hS6:=hid (hS5.out.fact (.m (.int .u64 x2) (.slice p2 l2 q2) (X0)) hm2)
 clear hS5 hm2
 obtain ⟨ne3l,ne3,ne3'⟩:=hS6.out.ne 2 w.heap.size 28 [.int .u64 x1,.slice p1 l1 q1] rfl
 obtain ⟨ne4l,ne4,ne4'⟩:=hS6.out.ne 1 (w.heap.size+1) 28 [.int .u64 0,.slice none 0 0] rfl
 obtain ⟨ne5l,ne5,ne5'⟩:=hS6.out.ne 0 w1.heap.size 28 [.int .u64 2,.slice none 0 0] rfl
 obtain ⟨⟨cA0,cA1⟩,fA0,fA1⟩:=hS6.out.f2 2 w.heap.size 28 (.int .u64 x1) (.slice p1 l1 q1) rfl
 obtain ⟨⟨ctwo0,ctwo1⟩,ftwo0,ftwo1⟩:=hS6.out.f2 0 w1.heap.size 28 (.int .u64 2) (.slice none 0 0) rfl
 go_wp2_with fail
 clear cA0 cA1 fA0 fA1 ctwo0 ctwo1 ftwo0 ftwo1
 have hL:=hid ((hS6.out).alloc' (w3.heap.size) (by simp) 28 [.int .u64 x2,.slice p2 l2 q2])
 go_loopg [5] X0 (fun X _ wr=>∃ (x3:Int) (p3:Option Addr) (l3 q3:Nat),1≤X∧X<B64 ^ (k+1)∧n<(X+1)*(X+1)∧St w [⟨w3.heap.size,28,[.int .u64 x3,.slice p3 l3 q3]⟩,⟨w1.heap.size,28,[.int .u64 2,.slice none 0 0]⟩,⟨w.heap.size+1,28,[.int .u64 0,.slice none 0 0]⟩,⟨w.heap.size,28,[.int .u64 x1,.slice p1 l1 q1]⟩] [.m (.int .u64 x3) (.slice p3 l3 q3) (X),.m (.int .u64 x1) (.slice p1 l1 q1) (n)] wr)
 case atStart=>exact ⟨x2,p2,l2,q2,HX.out.1,HX.out.2.1,HX.out.2.2,⟨hL.out.bel,hL.out.box,(hL.out.get (f:=.m (.int .u64 x2) (.slice p2 l2 q2) (X0)) 0 rfl),(hL.out.get (f:=.m (.int .u64 x1) (.slice p1 l1 q1) (n)) 1 rfl),trivial⟩⟩
 case round =>
  clear hL
  obtain ⟨x3,p3,l3,q3,h1,h2,h3,hSt⟩:=hrel
  have HS:=hid hSt
  have HX3:=hid (And.intro h1 (And.intro h2 h3))
  have hy1:n / gk<B64 ^ (k+1):=Nat.lt_of_le_of_lt (Nat.div_le_self _ _) (Nat.lt_of_lt_of_le HN.out.1 (Nat.pow_le_pow_right (by decide) (by omega)))
  have hy2:n / gk+gk<B64 ^ (k+2):=by
   rw [Nat.pow_succ B64 (k+1)]
   have:B64 ^ (k+1)*2≤B64 ^ (k+1)*B64:=Nat.mul_le_mul_left _ (by decide)
   omega
  have HY:=hid (And.intro h1 (And.intro h2 (And.intro hy1 hy2)))
  obtain ⟨Y,hY⟩:∃ Y,(n / gk+gk) / 2=Y:=⟨_,rfl⟩
  have HYe:=hid hY
  have HQ:=hid (fun (c d:Value) (W:World) (j:ah W c d (n / gk+gk))=>hY ▸ uH (n / gk+gk) 2 (k+2) c d (.int .u64 2) (.slice none 0 0) W j (oO _ 2 (by decide)) (by decide) (by omega) hy2)
  clear hSt h1 h2 h3 hy1 hy2 hY HX
  go_wp2_with fail
  have LM0:=hid (fun (W:World) (h:Below wr.heap.size wr W)=>((HS.out.call h).f2 3 w.heap.size 28 (.int .u64 x1) (.slice p1 l1 q1) rfl).1)
  have LM1:=hid (fun (W:World) (h:Below wr.heap.size wr W)=>((HS.out.call h).f2 0 w3.heap.size 28 (.int .u64 x3) (.slice p3 l3 q3) rfl).1)
  have LM2:=hid (fun (W:World) (h:Below wr.heap.size wr W)=>((HS.out.call h).f2 1 w1.heap.size 28 (.int .u64 2) (.slice none 0 0) rfl).1)
  refine gU 8 [⟨[],[0]⟩,⟨[],[1]⟩,⟨[0,1],[2]⟩,⟨[],[3]⟩,⟨[2,3],[4]⟩,⟨[],[5]⟩,⟨[4,5],[6]⟩,⟨[],[7]⟩]
   [oE (.agg #[.int .u64 x1,.slice p1 l1 q1]),oE (.agg #[.int .u64 x3,.slice p3 l3 q3]),one (dL (n / gk)),oE (.agg #[.int .u64 x3,.slice p3 l3 q3]),one (dL (n / gk+gk)),oE (.agg #[.int .u64 2,.slice none 0 0]),one (dL (Y)),one (iD wr.heap.size 28 [.int .u64 0,.slice none 0 0])]
   (fun _ W=>Below wr.heap.size wr W) (by kernel_rfl) (by kernel_rfl) ?hTWr ?hZWr ?hOWr ?hEWr
  case hZWr=>exact (Below.refl _ _).drew
  case hTWr =>
   simp only [List.forall_mem_cons,List.not_mem_nil,false_imp_iff,implies_true,and_true]
   exact ⟨bE,bE,aK mP,bE,aK mP,bE,aK mP,aK xU⟩
  case hOWr =>
   intro u
   simp only [List.take_succ_cons,List.take_zero,aG]
   repeat' (first | with_reducible exact dQ | with_reducible refine dP ?_ ?_)
   ·intro W hS hF K hK
    have hcA:=LM0.out W hS
    go_simp
    exact hK _ _ (.refl _ _) hS rfl
   ·intro W hS hF K hK
    have hcx:=LM1.out W hS
    go_simp
    exact hK _ _ (.refl _ _) hS rfl
   ·intro W hS hF K hK
    have h0:u 0=.agg #[.int .u64 x1,.slice p1 l1 q1]:=hF.1
    have h1:u 1=.agg #[.int .u64 x3,.slice p3 l3 q3]:=hF.2.1
    have sH:=hid (HS.out.call hS)
    clear hF
    go_simp
    refine (HO.out gk _ _ _ (sH.out.get (f:=.m (.int .u64 x1) (.slice p1 l1 q1) (n)) 1 rfl) (sH.out.get (f:=.m (.int .u64 x3) (.slice p3 l3 q3) (gk)) 0 rfl) HY.out.1).mono ?_
    rintro e wA ⟨c,d,rfl,hm,hBA⟩
    obtain ⟨xx,pp,ll,qq,rfl,rfl⟩:=hm.shape
    exact ⟨_,rfl,hK _ _ hBA (hS.trans (hBA.mono hS.size)) ⟨_,_,_,_,rfl,hm⟩⟩
   ·intro W hS hF K hK
    have hcx:=LM1.out W hS
    go_simp
    exact hK _ _ (.refl _ _) hS rfl
   ·intro W hS hF K hK
    obtain ⟨x2,p2,l2,q2,h2,m2⟩:dL (n / gk) (u 2) W:=hF.1
    have h3:u 3=.agg #[.int .u64 x3,.slice p3 l3 q3]:=hF.2.1
    have sH:=hid (HS.out.call hS)
    clear hF
    go_simp
    refine (BX (n / gk) gk (k+1) _ _ _ _ _ m2 (sH.out.get (f:=.m (.int .u64 x3) (.slice p3 l3 q3) (gk)) 0 rfl) (by omega) HY.out.2.2.1 HY.out.2.1).mono ?_
    rintro e wA ⟨c,d,rfl,hm,hBA⟩
    obtain ⟨xx,pp,ll,qq,rfl,rfl⟩:=hm.shape
    exact ⟨_,rfl,hK _ _ hBA (hS.trans (hBA.mono hS.size)) ⟨_,_,_,_,rfl,hm⟩⟩
   ·intro W hS hF K hK
    have hctwo:=LM2.out W hS
    go_simp
    exact hK _ _ (.refl _ _) hS rfl
   ·intro W hS hF K hK
    obtain ⟨x4,p4,l4,q4,h4,m4⟩:dL (n / gk+gk) (u 4) W:=hF.1
    have h5:u 5=.agg #[.int .u64 2,.slice none 0 0]:=hF.2.1
    clear hF
    go_simp
    refine (HQ.out _ _ _ m4).mono ?_
    rintro e wA ⟨c,d,rfl,hm,hBA⟩
    obtain ⟨xx,pp,ll,qq,rfl,rfl⟩:=hm.shape
    exact ⟨_,rfl,hK _ _ hBA (hS.trans (hBA.mono hS.size)) ⟨_,_,_,_,rfl,hm⟩⟩
   ·intro W hS hF K hK
    go_simp
    refine hK _ _ ((Below.refl _ _).alloc (Nat.le_refl _) _) (hS.alloc hS.size _) ?_
    exact (show (iD wr.heap.size 28 [.int .u64 0,.slice none 0 0]) _ _ from ⟨_,rfl,hS.size,by simp,Bx.new W 28 [.int .u64 0,.slice none 0 0]⟩)
  case hEWr =>
   intro u Wr hS hF
   have hS7:=hid (HS.out.call hS)
   obtain ⟨L7,e7,hl7,hm7,hb7⟩:iD wr.heap.size 28 [.int .u64 0,.slice none 0 0] (u 7) Wr:=hF.2.2.2.2.2.2.2.1
   have hS8:=hid (hS7.out.add (Nat.le_trans HS.out.bel.size hl7) hb7 (HS.out.old hl7))
   clear hb7
   have hv0:dL Y (u 6) Wr:=hF.2.2.2.2.2.2.1
   clear hF hS
   obtain ⟨x6,p6,l6,q6,e6,m6⟩:=hv0
   have n7x:¬ L7=w3.heap.size:=by have:=(HS.out.bx (b:=⟨w3.heap.size,28,[.int .u64 x3,.slice p3 l3 q3]⟩) 0 rfl).lt;simp only at this;omega
   have n7x':¬ w3.heap.size=L7:=fun h=>n7x h.symm
   have n7two:¬ L7=w1.heap.size:=by have:=(HS.out.bx (b:=⟨w1.heap.size,28,[.int .u64 2,.slice none 0 0]⟩) 1 rfl).lt;simp only at this;omega
   have n7two':¬ w1.heap.size=L7:=fun h=>n7two h.symm
   have n7R:¬ L7=w.heap.size+1:=by have:=(HS.out.bx (b:=⟨w.heap.size+1,28,[.int .u64 0,.slice none 0 0]⟩) 2 rfl).lt;simp only at this;omega
   have n7R':¬ w.heap.size+1=L7:=fun h=>n7R h.symm
   have n7A:¬ L7=w.heap.size:=by have:=(HS.out.bx (b:=⟨w.heap.size,28,[.int .u64 x1,.slice p1 l1 q1]⟩) 3 rfl).lt;simp only at this;omega
   have n7A':¬ w.heap.size=L7:=fun h=>n7A h.symm
   have hS9:=hid (hS8.out.fact (.m (.int .u64 x6) (.slice p6 l6 q6) (Y)) m6)
   clear hS8 m6
   obtain ⟨⟨cx0,cx1⟩,fx0,fx1⟩:=hS9.out.f2 1 w3.heap.size 28 (.int .u64 x3) (.slice p3 l3 q3) rfl
   obtain ⟨⟨cyy0,cyy1⟩,fyy0,fyy1⟩:=hS9.out.f2 0 L7 28 (.int .u64 0) (.slice none 0 0) rfl
   simp only [List.take_succ_cons,List.take_zero,aG,List.drop_succ_cons,List.drop_zero]
   go_wp2_with fail
   clear cx0 cx1 fx0 fx1 cyy0 cyy1 fyy0 fyy1
   have hS10:=hid ((((hS9.out).store (b:=⟨L7,28,[.int .u64 0,.slice none 0 0]⟩) 0 0 (.int .u64 x6) rfl rfl).store (b:=⟨L7,28,[.int .u64 x6,.slice none 0 0]⟩) 0 1 (.slice p6 l6 q6) rfl rfl).as [⟨L7,28,[.int .u64 x6,.slice p6 l6 q6]⟩,⟨w3.heap.size,28,[.int .u64 x3,.slice p3 l3 q3]⟩,⟨w1.heap.size,28,[.int .u64 2,.slice none 0 0]⟩,⟨w.heap.size+1,28,[.int .u64 0,.slice none 0 0]⟩,⟨w.heap.size,28,[.int .u64 x1,.slice p1 l1 q1]⟩] rfl)
   obtain ⟨Wy,hWy⟩:=aN hS10
   rw [hWy] at hS10 ⊢
   clear hWy
   refine (G8 Y gk (k+2) _ _ _ _ _ (hS10.out.get (f:=.m (.int .u64 x6) (.slice p6 l6 q6) (Y)) 0 rfl) (hS10.out.get (f:=.m (.int .u64 x3) (.slice p3 l3 q3) (gk)) 1 rfl) (by omega) (HYe.out ▸ Nat.lt_of_le_of_lt (Nat.div_le_self _ _) HY.out.2.2.2)).mono ?_
   rintro e w8 ⟨rfl,hB⟩
   have hS11:=hid (hS10.out.call hB)
   clear hB
   clear hS10
   obtain ⟨C,hC⟩:∃ C,aC Y gk=C:=⟨_,rfl⟩
   rw [hC]
   have HC:=hid hC
   by_cases hge:gk≤Y
   ·have hc0:0≤C:=by
     rw [← hC]
     rcases Nat.lt_or_eq_of_le hge with h | h
     ·rw [iw h];decide
     ·rw [h,iL];decide
    clear hC
    obtain ⟨⟨cx0,cx1⟩,fx0,fx1⟩:=hS11.out.f2 1 w3.heap.size 28 (.int .u64 x3) (.slice p3 l3 q3) rfl
    obtain ⟨⟨cR0,cR1⟩,fR0,fR1⟩:=hS11.out.f2 3 (w.heap.size+1) 28 (.int .u64 0) (.slice none 0 0) rfl
    have hS12:=hid ((((hS11.out).store (b:=⟨w.heap.size+1,28,[.int .u64 0,.slice none 0 0]⟩) 3 0 (.int .u64 x3) rfl rfl).store (b:=⟨w.heap.size+1,28,[.int .u64 x3,.slice none 0 0]⟩) 3 1 (.slice p3 l3 q3) rfl rfl).as [⟨L7,28,[.int .u64 x6,.slice p6 l6 q6]⟩,⟨w3.heap.size,28,[.int .u64 x3,.slice p3 l3 q3]⟩,⟨w1.heap.size,28,[.int .u64 2,.slice none 0 0]⟩,⟨w.heap.size+1,28,[.int .u64 x3,.slice p3 l3 q3]⟩,⟨w.heap.size,28,[.int .u64 x1,.slice p1 l1 q1]⟩] rfl)
    go_wp2_with fail
    clear cx0 cx1 fx0 fx1 cR0 cR1 fR0 fR1
    obtain ⟨⟨zR0,zR1⟩,-⟩:=hS12.out.f2 3 (w.heap.size+1) 28 (.int .u64 x3) (.slice p3 l3 q3) rfl
    exact bodyPost_ret (v:=.agg #[.int .u64 x3,.slice p3 l3 q3]) (by simp [results,Tryz.results169,go_sem,zR0,zR1]) rfl ⟨gk,Uz n gk HX3.out.1 (by rw [HYe.out];exact hge),HX3.out.2.2,_,_,rfl,(hS12.out.get (f:=.m (.int .u64 x3) (.slice p3 l3 q3) (gk)) 1 rfl),hS12.out.bel⟩
   ·have hlt:Y<gk:=by omega
    have hc0:¬ 0≤C:=by rw [← hC,fQ hlt];decide
    clear hC hge
    obtain ⟨⟨cx0,cx1⟩,fx0,fx1⟩:=hS11.out.f2 1 w3.heap.size 28 (.int .u64 x3) (.slice p3 l3 q3) rfl
    obtain ⟨⟨cyy0,cyy1⟩,fyy0,fyy1⟩:=hS11.out.f2 0 L7 28 (.int .u64 x6) (.slice p6 l6 q6) rfl
    go_wp2_with fail
    clear cx0 cx1 fx0 fx1 cyy0 cyy1 fyy0 fyy1
    have hJ:=hid ((((hS11.out).store (b:=⟨w3.heap.size,28,[.int .u64 x3,.slice p3 l3 q3]⟩) 1 0 (.int .u64 x6) rfl rfl).store (b:=⟨w3.heap.size,28,[.int .u64 x6,.slice p3 l3 q3]⟩) 1 1 (.slice p6 l6 q6) rfl rfl).as [⟨L7,28,[.int .u64 x6,.slice p6 l6 q6]⟩,⟨w3.heap.size,28,[.int .u64 x6,.slice p6 l6 q6]⟩,⟨w1.heap.size,28,[.int .u64 2,.slice none 0 0]⟩,⟨w.heap.size+1,28,[.int .u64 0,.slice none 0 0]⟩,⟨w.heap.size,28,[.int .u64 x1,.slice p1 l1 q1]⟩] rfl)
    go_roundg Y
    case rel =>
     have g1:=Uy n gk HN.out.2 HX3.out.1 (by rw [HYe.out];exact hlt)
     have g2:=Ux n gk HX3.out.1
     rw [HYe.out] at g1 g2
     exact ⟨x6,p6,l6,q6,g1,Nat.lt_trans hlt HX3.out.2.1,g2,⟨hJ.out.bel,hJ.out.box.2,(hJ.out.get (f:=.m (.int .u64 x6) (.slice p6 l6 q6) (Y)) 0 rfl),(hJ.out.get (f:=.m (.int .u64 x1) (.slice p1 l1 q1) (n)) 2 rfl),trivial⟩⟩
    case measure=>exact hlt
theorem VG (c d:Value) (n k:Nat) (w:World) (h:ah w c d n) (hk:k≤8589934592) (hn:n<B64 ^ k):Calls Tryz.prog 169 #[.agg #[c,d]] w (zq w n):=by
 obtain ⟨x,p,l,q,rfl,rfl⟩:=h.shape
 rcases Nat.eq_zero_or_pos n with h0 | h0
 ·subst h0
  exact VJ x p l q w h
 ·exact VH n k x p l q w h hk hn h0
end
end Go.Proofs.YthalajpklaodkaaGreatDoor
