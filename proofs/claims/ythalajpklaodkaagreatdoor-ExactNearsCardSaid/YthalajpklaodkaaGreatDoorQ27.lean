/- What the proof rests on, part 27. -/
import Derived.Test.YthalajpklaodkaaGreatDoorQ15
import Derived.Test.YthalajpklaodkaaGreatDoorQ26
import Derived.Test.YthalajpklaodkaaGreatDoorQ22
namespace Go.Proofs.YthalajpklaodkaaGreatDoor
set_option maxRecDepth 100000
set_option maxHeartbeats 80000000
namespace Rx
open Go.RowKit
def isq:Nat→Nat
 | 0=>0
 | n+1=>if (isq n+1)*(isq n+1)≤n+1 then isq n+1 else isq n
theorem zW:∀ n,isq n*isq n≤n∧n<(isq n+1)*(isq n+1)
 | 0=>by simp [isq]
 | n+1=>by
  obtain ⟨h1,h2⟩:=zW n
  simp only [isq]
  split
  ·rename_i h
   refine ⟨h,?_⟩
   have:(isq n+1+1)*(isq n+1+1)=(isq n+1)*(isq n+1)+2*(isq n+1)+1:=by grind
   omega
  ·rename_i h
   exact ⟨by omega,by omega⟩
inductive RE
 | v (n:Nat)
 | c (n:Int)
 | add (a b:RE)
 | sub (a b:RE)
 | mul (a b:RE)
 | div (a b:RE)
 | neg (a:RE)
 | abs (a:RE)
 | flo (a:RE)
 | num (a:RE)
 | den (a:RE)
 | rt (a:RE)
def RE.ev (β:Nat→Rat):RE→Rat
 | .v n=>β n
 | .c n=>(n:Rat)
 | .add a b=>a.ev β+b.ev β
 | .sub a b=>a.ev β - b.ev β
 | .mul a b=>a.ev β*b.ev β
 | .div a b=>a.ev β / b.ev β
 | .neg a=>-a.ev β
 | .abs a=>if (a.ev β).num<0 then -a.ev β else a.ev β
 | .flo a=>(((a.ev β).num / ((a.ev β).den:Int):Int):Rat)
 | .num a=>((a.ev β).num:Rat)
 | .den a=>((((a.ev β).den:Nat):Int):Rat)
 | .rt a=>(((isq (a.ev β).num.natAbs:Nat):Int):Rat)
def RE.beq:RE→RE→Bool
 | .v n,.v m=>n == m
 | .c n,.c m=>n == m
 | .add a b,.add x y | .sub a b,.sub x y | .mul a b,.mul x y | .div a b,.div x y=>a.beq x && b.beq y
 | .neg a,.neg b | .abs a,.abs b | .flo a,.flo b | .num a,.num b | .den a,.den b | .rt a,.rt b=>a.beq b
 | _,_=>false
theorem RE.beq_eq {a:RE}:∀ {b:RE},a.beq b=true→a=b:=by
 induction a with
 | v n=>intro b h;cases b <;> simp [RE.beq] at h;subst h;rfl
 | c n=>intro b h;cases b <;> simp [RE.beq] at h;subst h;rfl
 | add x y ih1 ih2=>intro b h;cases b <;> simp [RE.beq] at h;rw [ih1 h.1,ih2 h.2]
 | sub x y ih1 ih2=>intro b h;cases b <;> simp [RE.beq] at h;rw [ih1 h.1,ih2 h.2]
 | mul x y ih1 ih2=>intro b h;cases b <;> simp [RE.beq] at h;rw [ih1 h.1,ih2 h.2]
 | div x y ih1 ih2=>intro b h;cases b <;> simp [RE.beq] at h;rw [ih1 h.1,ih2 h.2]
 | neg x ih=>intro b h;cases b <;> simp [RE.beq] at h;rw [ih h]
 | abs x ih=>intro b h;cases b <;> simp [RE.beq] at h;rw [ih h]
 | flo x ih=>intro b h;cases b <;> simp [RE.beq] at h;rw [ih h]
 | num x ih=>intro b h;cases b <;> simp [RE.beq] at h;rw [ih h]
 | den x ih=>intro b h;cases b <;> simp [RE.beq] at h;rw [ih h]
 | rt x ih=>intro b h;cases b <;> simp [RE.beq] at h;rw [ih h]
inductive Fc
 | q (s:Nat) (e:RE) (k:Nat)
 | r (s:Nat) (e:RE) (k:Nat)
 | x (s:Nat) (e:RE)
 | n (s:Nat) (e:RE)
 | i (s:Nat) (e:RE)
 | z (s:Nat) (e:RE) (k:Nat)
 | w (s:Nat) (e:RE)
def Fc.nm:Fc→List Nat
 | .q s _ _ | .r s _ _=>[s,s+1]
 | .x s _=>[s]
 | .n s _=>[s,s+1,s+2]
 | .i s _=>[s]
 | .z s _ _=>[s]
 | .w s _=>[s]
def IsN (n d:Int) (b:Int) (r:Rat):Prop:=∃ pw:Nat,b=pw∧pw<256∧-9223372036854775808≤n∧n≤9223372036854775807∧-9223372036854775808≤d∧d≤9223372036854775807∧numOf n d pw=r
def Fc.on (β:Nat→Rat) (ρ:Env):Fc→World→Prop
 | .q s e k,W=>IsQ W (.agg ((aK s).map (Cell.den ρ)).toArray) (e.ev β)∧Fits k (e.ev β)
 | .r s e k,W=>Z4.IsR W (.agg ((aT s).map (Cell.den ρ)).toArray) (e.ev β)∧Fits k (e.ev β)
 | .x s e,_=>(ρ s).t=⟨(iO (e.ev β)).toArray⟩
 | .n s e,_=>IsN (ρ s).u (ρ (s+1)).u (ρ (s+2)).u (e.ev β)
 | .i s e,_=>-9223372036854775808≤(ρ s).u∧(ρ s).u≤9223372036854775807∧(((ρ s).u:Int):Rat)=e.ev β
 | .z s e k,W=>∃ z:Int,Z4.IsZ W (.agg ((zC s).map (Cell.den ρ)).toArray) z∧(z:Rat)=e.ev β∧z.natAbs<B64 ^ k
 | .w s e,_=>0≤(ρ s).u∧(ρ s).u≤18446744073709551615∧(((ρ s).u:Int):Rat)=e.ev β
def SQ (β:Nat→Rat):Sys where
 F:=Fc
 nm:=Fc.nm
 on:=Fc.on β
 okC:=okC
 cg:=fun {ρ ρ' f W} h hf=>by
  cases f with
  | q s e k =>
   simp only [Fc.nm,List.mem_cons,List.not_mem_nil,or_false] at h
   simp only [Fc.on] at hf ⊢
   rwa [kP (ρ:=ρ') (ρ':=ρ) (l:=aK s) fun n hn=>(h n (by simpa [aK,Cell.nm] using hn)).symm]
  | r s e k =>
   simp only [Fc.nm,List.mem_cons,List.not_mem_nil,or_false] at h
   simp only [Fc.on] at hf ⊢
   rwa [kP (ρ:=ρ') (ρ':=ρ) (l:=aT s) fun n hn=>(h n (by simpa [aT,Cell.nm] using hn)).symm]
  | x s e=>simp only [Fc.on] at hf ⊢;rw [← h s (by simp [Fc.nm])];exact hf
  | n s e=>simp only [Fc.on] at hf ⊢;rw [← h s (by simp [Fc.nm]),← h (s+1) (by simp [Fc.nm]),← h (s+2) (by simp [Fc.nm])];exact hf
  | i s e=>simp only [Fc.on] at hf ⊢;rw [← h s (by simp [Fc.nm])];exact hf
  | w s e=>simp only [Fc.on] at hf ⊢;rw [← h s (by simp [Fc.nm])];exact hf
  | z s e k =>
   simp only [Fc.nm,List.mem_cons,List.not_mem_nil,or_false] at h
   simp only [Fc.on] at hf ⊢
   rwa [kP (ρ:=ρ') (ρ':=ρ) (l:=zC s) fun n hn=>(h n (by simpa [zC,Cell.nm] using hn)).symm]
 bl:=fun {ρ f W W'} hb hf=>by
  cases f with
  | q s e k=>exact ⟨hf.1.below hb,hf.2⟩
  | r s e k=>exact ⟨Z4.IsR.below hf.1 hb,hf.2⟩
  | x s e=>exact hf
  | n s e=>exact hf
  | i s e=>exact hf
  | w s e=>exact hf
  | z s e k=>obtain ⟨z,h1,h2⟩:=hf;exact ⟨z,h1.below hb,h2⟩
 st:=fun {ρ f W b T cs i u} hok _ hb hf=>by
  have hv:=Az ρ hok
  have hb':Go.Proofs.YthalajpklaodkaaGreatDoor.Bx W b T (cs.map (Cell.den ρ)):=hb
  cases f with
  | q s e k=>exact ⟨hf.1.setBox hb' hv,hf.2⟩
  | r s e k=>exact ⟨Z4.IsR.setBox hf.1 hb' hv,hf.2⟩
  | x s e=>exact hf
  | n s e=>exact hf
  | i s e=>exact hf
  | w s e=>exact hf
  | z s e k=>obtain ⟨z,h1,h2⟩:=hf;exact ⟨z,h1.setBox hb' hv,h2⟩
structure Hint where
 eq:List (RE×RE):=[]
 ne:List (RE×RE):=[]
 nz:List RE:=[]
 sg:List (RE×Int):=[]
 cm:List (RE×RE×Int):=[]
def Hint.Ok (β:Nat→Rat) (h:Hint):Prop:=
 (∀ p∈h.eq,p.1.ev β=p.2.ev β)∧(∀ p∈h.ne,p.1.ev β≠p.2.ev β)∧(∀ p∈h.nz,p.ev β≠0)∧(∀ p∈h.sg,sgQ (p.1.ev β)=p.2)∧(∀ p∈h.cm,aF (p.1.ev β) (p.2.1.ev β)=p.2.2)
def eqB (h:Hint) (a b:RE):Bool:=a.beq b || h.eq.any fun p=>p.1.beq a && p.2.beq b
theorem lK {β:Nat→Rat} {h:Hint} (ok:h.Ok β) {a b:RE} (hh:eqB h a b=true):a.ev β=b.ev β:=by
 unfold eqB at hh
 rw [Bool.or_eq_true] at hh
 rcases hh with hh | hh
 ·rw [RE.beq_eq hh]
 ·obtain ⟨p,hp,h1⟩:=List.any_eq_true.1 hh
  simp only [Bool.and_eq_true] at h1
  have:=ok.1 p hp
  rwa [RE.beq_eq h1.1,RE.beq_eq h1.2] at this
def oK:List Fc→Nat→Option RE
 | [],_=>none
 | .x s e :: r,n=>if s=n then some e else oK r n
 | _ :: r,n=>oK r n
theorem EO {β:Nat→Rat} {ρ:Env} {W:World} {n:Nat} {e:RE}:∀ {db:List Fc},oK db n=some e→(∀ f∈db,Fc.on β ρ f W)→(ρ n).t=⟨(iO (e.ev β)).toArray⟩
 | [],h,_=>by simp [oK] at h
 | f :: r,h,hf=>by
  have ih:oK r n=some e→(ρ n).t=⟨(iO (e.ev β)).toArray⟩:=fun h=>EO h fun f hf'=>hf f (by simp [hf'])
  cases f with
  | x s e' =>
   simp only [oK] at h
   split at h
   ·rename_i hs
    cases h
    subst hs
    exact hf (.x s e) (by simp)
   ·exact ih h
  | q _ _ _=>exact ih h
  | r _ _ _=>exact ih h
  | n _ _=>exact ih h
  | i _ _=>exact ih h
  | w _ _=>exact ih h
  | z _ _ _=>exact ih h
def dU:List Fc→Nat→Option RE
 | [],_=>none
 | .i s e :: r,n=>if s=n then some e else dU r n
 | _ :: r,n=>dU r n
theorem dM {n:Nat} {e:RE}:∀ {db:List Fc},dU db n=some e→.i n e∈db
 | [],h=>by simp [dU] at h
 | f :: r,h=>by
  cases f with
  | i s e' =>
   simp only [dU] at h
   split at h
   ·rename_i hs;cases h;subst hs;simp
   ·exact List.mem_cons_of_mem _ (dM h)
  | q _ _ _=>exact List.mem_cons_of_mem _ (dM h)
  | r _ _ _=>exact List.mem_cons_of_mem _ (dM h)
  | x _ _=>exact List.mem_cons_of_mem _ (dM h)
  | n _ _=>exact List.mem_cons_of_mem _ (dM h)
  | z _ _ _=>exact List.mem_cons_of_mem _ (dM h)
  | w _ _=>exact List.mem_cons_of_mem _ (dM h)
def HQ (β:Nat→Rat) (h:Hint) (ok:h.Ok β):Tests (SQ β) where
 eq:=fun db c d=>match c,d with
  | .ot a,.ot b=>match oK db a,oK db b with
   | some e,some e'=>if eqB h e e' then some true else none
   | _,_=>none
  | .oi a,.it .i64 0=>match dU db a with
   | some e=>if h.nz.any fun p=>p.beq e then some false else none
   | none=>none
  | .oi a,.oi b=>match dU db a,dU db b with
   | some e,some e'=>if eqB h e e' then some true else none
   | _,_=>none
  | _,_=>none
 ok:=fun {fs c d x} hh ρ W hf=>by
  split at hh
  ·rename_i a b
   split at hh
   ·rename_i e e' h1 h2
    split at hh
    ·rename_i he
     cases hh
     refine .inl ⟨_,_,rfl,rfl,?_⟩
     rw [EO h1 hf,EO h2 hf,lK ok he]
     simp
    ·cases hh
   ·cases hh
  ·rename_i a
   split at hh
   ·rename_i e h1
    split at hh
    ·rename_i he
     cases hh
     refine .inr ⟨.i64,(ρ a).u,0,rfl,rfl,?_⟩
     obtain ⟨p,hp,hb⟩:=List.any_eq_true.1 he
     obtain ⟨-,-,h2⟩:=(show Fc.on β ρ (.i a e) W from hf _ (dM h1))
     rw [beq_eq_false_iff_ne]
     intro h0
     rw [h0] at h2
     exact ok.2.2.1 p hp (by rw [RE.beq_eq hb,← h2];rfl)
    ·cases hh
   ·cases hh
  ·rename_i a b
   split at hh
   ·rename_i e e' h1 h2
    split at hh
    ·rename_i he
     cases hh
     refine .inr ⟨.i64,(ρ a).u,(ρ b).u,rfl,rfl,?_⟩
     obtain ⟨-,-,g1⟩:=(show Fc.on β ρ (.i a e) W from hf _ (dM h1))
     obtain ⟨-,-,g2⟩:=(show Fc.on β ρ (.i b e') W from hf _ (dM h2))
     rw [beq_iff_eq]
     have:=g1.trans ((lK ok he).trans g2.symm)
     exact_mod_cast this
    ·cases hh
   ·cases hh
  ·cases hh
end Rx
section
theorem Zo (r s:Rat):mkRat (r.num*s.den+s.num*r.den) (r.den*s.den)=r+s:=by
 have:=Rat.mkRat_add_mkRat r.num s.num r.den_nz s.den_nz
 rw [Rat.mkRat_self,Rat.mkRat_self] at this
 exact this.symm
theorem Fits.plus {a b:Nat} {r s:Rat} (h:Fits a r) (k:Fits b s):Fits (a+b+1) (r+s):=by
 have h0:r.den*s.den≠0:=Nat.mul_ne_zero r.den_nz s.den_nz
 obtain ⟨h1,-,h3⟩:=Z4.uK (r.num*s.den+s.num*r.den) (r.den*s.den) _ h0 rfl
 rw [Zo] at h1 h3
 have hp:B64 ^ (a+b)*2≤B64 ^ (a+b+1):=by rw [Nat.pow_succ];exact Nat.mul_le_mul_left _ (by decide)
 have e1:r.num.natAbs*s.den<B64 ^ (a+b):=by rw [Nat.pow_add];exact Nat.mul_lt_mul'' h.1 k.2
 have e2:s.num.natAbs*r.den<B64 ^ (a+b):=by rw [Nat.pow_add,Nat.mul_comm (B64 ^ a)];exact Nat.mul_lt_mul'' k.1 h.2
 have e3:r.den*s.den<B64 ^ (a+b):=by rw [Nat.pow_add];exact Nat.mul_lt_mul'' h.2 k.2
 have e4:(r.num*(s.den:Int)+s.num*(r.den:Int)).natAbs≤r.num.natAbs*s.den+s.num.natAbs*r.den:=by
  refine Nat.le_trans (Int.natAbs_add_le _ _) ?_
  rw [Int.natAbs_mul,Int.natAbs_mul,Int.natAbs_natCast,Int.natAbs_natCast]
  exact Nat.le_refl _
 refine ⟨?_,?_⟩
 ·rw [h1];have:=Nat.div_le_self (r.num*(s.den:Int)+s.num*(r.den:Int)).natAbs (Nat.gcd (r.num*(s.den:Int)+s.num*(r.den:Int)).natAbs (r.den*s.den));omega
 ·rw [h3];have:=Nat.div_le_self (r.den*s.den) (Nat.gcd (r.num*(s.den:Int)+s.num*(r.den:Int)).natAbs (r.den*s.den));omega
theorem Fits.minus {a b:Nat} {r s:Rat} (h:Fits a r) (k:Fits b s):Fits (a+b+1) (r - s):=by
 rw [Rat.sub_eq_add_neg]
 exact h.plus k.neg
theorem Fits.over {a b:Nat} {r s:Rat} (h:Fits a r) (k:Fits b s):Fits (a+b+1) (r / s):=by
 by_cases hs:s=0
 ·subst hs
  rw [Rat.div_def,Rat.inv_zero,Rat.mul_zero]
  have:=Nat.one_lt_pow (show a+b+1≠0 by omega) (show 1<B64 by decide)
  exact ⟨by show 0<_;omega,by show 1<_;omega⟩
 ·rw [Rat.div_def]
  exact (h.mul (k.inv hs)).mono (by omega)
theorem fits_int {n:Int} (h1:-9223372036854775808≤n) (h2:n≤9223372036854775807):Fits 1 (n:Rat):=
 ⟨by rw [Nat.pow_one];show n.natAbs<B64;unfold B64;omega,by rw [Nat.pow_one];show 1<B64;decide⟩
namespace Rx
open Go.RowKit
abbrev EV:World→Prop:=fun W=>Go.Proofs.YthalajpklaodkaaGreatDoor.Env W
abbrev K0:Nat:=1073741824
def qv (c d:Nv):Value:=.agg #[.bool c.b,.int .u64 c.u,.slice c.p c.l c.c,.int .u64 d.u,.slice d.p d.l d.c]
theorem ku {W:World} {v:Value} {r:Rat} (h:IsQ W v r):∃ c d:Nv,v=qv c d:=by
 obtain ⟨t,x,p,l,q,y,r,s,u,rfl⟩:=h.open
 exact ⟨⟨t,x,p,l,q,.empty,0,default⟩,⟨false,y,r,s,u,.empty,0,default⟩,rfl⟩
theorem mP {W:World} {v:Value} {r:Rat} (h:Z4.IsR W v r):∃ c d:Nv,v=.agg #[.bool c.b,.slice c.p c.l c.c,.bool false,.slice d.p d.l d.c]:=by
 obtain ⟨t,p,l,q,r,s,u,rfl⟩:=h.open
 exact ⟨⟨t,0,p,l,q,.empty,0,default⟩,⟨false,0,r,s,u,.empty,0,default⟩,rfl⟩
section
variable {β:Nat→Rat} {f:FuncId} {vals:Array Value} {W:World} {ρ:Env} {b:Nat}
def Ans (β:Nat→Rat) (ρ:Env) (b:Nat) (W:World) (res:SV) (new:List Fc) (e:Ending) (W':World):Prop:=
 ∃ ρ':Env,(∀ n,n<b∨b+M≤n→ρ' n=ρ n)∧e=.returned (res.den ρ')∧Below W.heap.size W W'∧∀ g∈new,(SQ β).on ρ' g W'
theorem vF {e:RE} {k:Nat} (hc:Calls Tryz.prog f vals W (aY W (e.ev β))) (hk:Fits k (e.ev β)):Calls Tryz.prog f vals W (Ans β ρ b W (.e (.a (aK b))) [.q b e k]):=by
 refine hc.mono fun _ W' ⟨v,he,hv,hb⟩=>?_
 obtain ⟨c,d,rfl⟩:=ku hv
 have h1:(aK b).map (Cell.den (aG ρ b [c,d]))=[.bool c.b,.int .u64 c.u,.slice c.p c.l c.c,.int .u64 d.u,.slice d.p d.l d.c]:=by simp [aK,Cell.den,aG]
 refine ⟨aG ρ b [c,d],iE (by simp [M]),?_,hb,fun g hg=>?_⟩
 ·rw [he];simp only [SV.den,El.den,h1];rfl
 ·rw [List.mem_singleton] at hg
  subst hg
  refine ⟨?_,hk⟩
  rw [h1];exact hv
theorem qj {e:RE} {k:Nat} {c0:Int} (hc:Calls Tryz.prog f vals W (cO W (e.ev β) c0)) (hk:Fits k (e.ev β)):Calls Tryz.prog f vals W (Ans β ρ b W (.t [.a (aK b),.s (.it .i64 c0)]) [.q b e k]):=by
 refine hc.mono fun _ W' ⟨v,he,hv,hb⟩=>?_
 obtain ⟨c,d,rfl⟩:=ku hv
 have h1:(aK b).map (Cell.den (aG ρ b [c,d]))=[.bool c.b,.int .u64 c.u,.slice c.p c.l c.c,.int .u64 d.u,.slice d.p d.l d.c]:=by simp [aK,Cell.den,aG]
 refine ⟨aG ρ b [c,d],iE (by simp [M]),?_,hb,fun g hg=>?_⟩
 ·rw [he];simp only [SV.den,El.den,List.map_cons,List.map_nil,h1];rfl
 ·rw [List.mem_singleton] at hg
  subst hg
  refine ⟨?_,hk⟩
  rw [h1];exact hv
theorem nK {v:Value} {c:Cell} (hc:Calls Tryz.prog f vals W (aZ W v)) (hv:c.den ρ=v):Calls Tryz.prog f vals W (Ans β ρ b W (.e (.s c)) []):=by
 refine hc.mono fun _ W' ⟨he,hb⟩=>⟨ρ,fun _ _=>rfl,?_,hb,fun g hg=>by cases hg⟩
 rw [he,← hv];rfl
theorem QE {e e':RE} {k k':Nat} (hc:Calls Tryz.prog f vals W (Cc W (e.ev β) (e'.ev β))) (hk:Fits k (e.ev β)) (hk':Fits k' (e'.ev β)):Calls Tryz.prog f vals W (Ans β ρ b W (.e (.a (aK b ++ aK (b+2)))) [.q b e k,.q (b+2) e' k']):=by
 refine hc.mono fun _ W' ⟨v,he,hv,hb⟩=>?_
 obtain ⟨t6,x6,p6,l6,q6,y6,r6,s6,u6,t7,x7,p7,l7,q7,y7,r7,s7,u7,rfl,hv1,hv2⟩:=hv
 have h1:(aK b).map (Cell.den (aG ρ b [⟨t6,x6,p6,l6,q6,.empty,0,default⟩,⟨false,y6,r6,s6,u6,.empty,0,default⟩,⟨t7,x7,p7,l7,q7,.empty,0,default⟩,⟨false,y7,r7,s7,u7,.empty,0,default⟩]))=(c5 t6 x6 p6 l6 q6 y6 r6 s6 u6):=by simp [aK,Cell.den,aG]
 have h2:(aK (b+2)).map (Cell.den (aG ρ b [⟨t6,x6,p6,l6,q6,.empty,0,default⟩,⟨false,y6,r6,s6,u6,.empty,0,default⟩,⟨t7,x7,p7,l7,q7,.empty,0,default⟩,⟨false,y7,r7,s7,u7,.empty,0,default⟩]))=(c5 t7 x7 p7 l7 q7 y7 r7 s7 u7):=by
  simp [aK,Cell.den,aG,show b+2+1 - b=3 by omega,show b≤b+2+1 by omega]
 refine ⟨_,iE (b:=b) (L:=[⟨t6,x6,p6,l6,q6,.empty,0,default⟩,⟨false,y6,r6,s6,u6,.empty,0,default⟩,⟨t7,x7,p7,l7,q7,.empty,0,default⟩,⟨false,y7,r7,s7,u7,.empty,0,default⟩]) (by simp [M]),?_,hb,fun g hg=>?_⟩
 ·rw [he];simp only [SV.den,El.den,List.map_append,h1,h2];rfl
 ·simp only [List.mem_cons,List.not_mem_nil,or_false] at hg
  rcases hg with rfl | rfl
  ·refine ⟨?_,hk⟩
   rw [h1];exact hv1
  ·refine ⟨?_,hk'⟩
   rw [h2];exact hv2
theorem QD {e:RE} (hc:Calls Tryz.prog f vals W (Iq W (e.ev β))) (hk:Fits 4 (e.ev β)):Calls Tryz.prog f vals W (Ans β ρ b W (.t [.a (aK b),.a (aT (b+2))]) [.q b e 4,.r (b+2) e 4]):=by
 refine hc.mono fun _ W' ⟨v,v',he,hv,hv',hb⟩=>?_
 obtain ⟨c,d,rfl⟩:=ku hv
 obtain ⟨c',d',rfl⟩:=mP hv'
 have h1:(aK b).map (Cell.den (aG ρ b [c,d,c',d']))=[.bool c.b,.int .u64 c.u,.slice c.p c.l c.c,.int .u64 d.u,.slice d.p d.l d.c]:=by simp [aK,Cell.den,aG]
 have h2:(aT (b+2)).map (Cell.den (aG ρ b [c,d,c',d']))=[.bool c'.b,.slice c'.p c'.l c'.c,.bool false,.slice d'.p d'.l d'.c]:=by
  simp [aT,Cell.den,aG,show b+2+1 - b=3 by omega,show b≤b+2+1 by omega]
 refine ⟨aG ρ b [c,d,c',d'],iE (by simp [M]),?_,hb,fun g hg=>?_⟩
 ·rw [he];simp only [SV.den,El.den,List.map_cons,List.map_nil,h1,h2];rfl
 ·simp only [List.mem_cons,List.not_mem_nil,or_false] at hg
  rcases hg with rfl | rfl
  ·refine ⟨?_,hk⟩
   rw [h1];exact hv
  ·refine ⟨?_,hk⟩
   rw [h2];exact hv'
end
def tH:List Fc→Nat→Option (RE×Nat)
 | [],_=>none
 | .q s e k :: r,n=>if s=n then some (e,k) else tH r n
 | _ :: r,n=>tH r n
def qB:List Fc→Nat→Option (RE×Nat)
 | [],_=>none
 | .r s e k :: r,n=>if s=n then some (e,k) else qB r n
 | _ :: r,n=>qB r n
def tu:List Fc→Nat→Option RE
 | [],_=>none
 | .n s e :: r,n=>if s=n then some e else tu r n
 | _ :: r,n=>tu r n
theorem oH {n:Nat} {e:RE} {k:Nat}:∀ {db:List Fc},tH db n=some (e,k)→.q n e k∈db
 | [],h=>by simp [tH] at h
 | f :: r,h=>by
  cases f with
  | q s e' k' =>
   simp only [tH] at h
   split at h
   ·rename_i hs;cases h;subst hs;simp
   ·exact List.mem_cons_of_mem _ (oH h)
  | r _ _ _=>exact List.mem_cons_of_mem _ (oH h)
  | x _ _=>exact List.mem_cons_of_mem _ (oH h)
  | n _ _=>exact List.mem_cons_of_mem _ (oH h)
  | i _ _=>exact List.mem_cons_of_mem _ (oH h)
  | w _ _=>exact List.mem_cons_of_mem _ (oH h)
  | z _ _ _=>exact List.mem_cons_of_mem _ (oH h)
theorem lT {n:Nat} {e:RE} {k:Nat}:∀ {db:List Fc},qB db n=some (e,k)→.r n e k∈db
 | [],h=>by simp [qB] at h
 | f :: r,h=>by
  cases f with
  | r s e' k' =>
   simp only [qB] at h
   split at h
   ·rename_i hs;cases h;subst hs;simp
   ·exact List.mem_cons_of_mem _ (lT h)
  | q _ _ _=>exact List.mem_cons_of_mem _ (lT h)
  | x _ _=>exact List.mem_cons_of_mem _ (lT h)
  | n _ _=>exact List.mem_cons_of_mem _ (lT h)
  | i _ _=>exact List.mem_cons_of_mem _ (lT h)
  | w _ _=>exact List.mem_cons_of_mem _ (lT h)
  | z _ _ _=>exact List.mem_cons_of_mem _ (lT h)
theorem oG {n:Nat} {e:RE}:∀ {db:List Fc},tu db n=some e→.n n e∈db
 | [],h=>by simp [tu] at h
 | f :: r,h=>by
  cases f with
  | n s e' =>
   simp only [tu] at h
   split at h
   ·rename_i hs;cases h;subst hs;simp
   ·exact List.mem_cons_of_mem _ (oG h)
  | q _ _ _=>exact List.mem_cons_of_mem _ (oG h)
  | x _ _=>exact List.mem_cons_of_mem _ (oG h)
  | r _ _ _=>exact List.mem_cons_of_mem _ (oG h)
  | i _ _=>exact List.mem_cons_of_mem _ (oG h)
  | w _ _=>exact List.mem_cons_of_mem _ (oG h)
  | z _ _ _=>exact List.mem_cons_of_mem _ (oG h)
def dD (db:List Fc):List Cell→Option (RE×Nat)
 | [.ob a,.ou b,.os c,.ou d,.os e]=>if a=b && a=c && a+1=d && a+1=e then tH db a else none
 | [.bl false,.it .u64 0,.nils,.it .u64 0,.nils]=>some (.c 0,1)
 | _=>none
theorem eY {β:Nat→Rat} {ρ:Env} {W:World} {db:List Fc} {cs:List Cell} {e:RE} {k:Nat} (h:dD db cs=some (e,k)) (hf:∀ f∈db,(SQ β).on ρ f W) :
  (IsQ W (.agg (cs.map (Cell.den ρ)).toArray) (e.ev β)∧Fits k (e.ev β))∧∃ c d:Nv,.agg (cs.map (Cell.den ρ)).toArray=qv c d:=by
 unfold dD at h
 split at h
 ·rename_i a b c d g
  split at h
  ·rename_i hh
   simp only [Bool.and_eq_true,decide_eq_true_eq] at hh
   obtain ⟨⟨⟨rfl,rfl⟩,rfl⟩,rfl⟩:=hh
   have:=hf _ (oH h)
   exact ⟨this,ku this.1⟩
  ·cases h
 ·cases h
  refine ⟨⟨?_,fits_int (by decide) (by decide)⟩,⟨false,0,none,0,0,.empty,0,default⟩,⟨false,0,none,0,0,.empty,0,default⟩,rfl⟩
  exact qI W
 ·cases h
def xP (db:List Fc) (cs:List Cell):Option ((RE×Nat)×RE×Nat):=
 match dD db (cs.take 5),dD db (cs.drop 5) with
 | some x,some y=>some (x,y)
 | _,_=>none
theorem QG {β:Nat→Rat} {ρ:Env} {W:World} {db:List Fc} {cs:List Cell} {e e':RE} {k k':Nat} (h:xP db cs=some ((e,k),e',k')) (hf:∀ f∈db,(SQ β).on ρ f W) :
  IB (e.ev β) (e'.ev β) (.agg (cs.map (Cell.den ρ)).toArray) W∧Fits k (e.ev β)∧Fits k' (e'.ev β):=by
 unfold xP at h
 split at h
 ·rename_i x y h1 h2
  cases h
  obtain ⟨h3,c,d,e3⟩:=eY h1 hf
  obtain ⟨h4,c',d',e4⟩:=eY h2 hf
  refine ⟨?_,h3.2,h4.2⟩
  rw [e3] at h3
  rw [e4] at h4
  have hl:(cs.map (Cell.den ρ))=((cs.take 5).map (Cell.den ρ)) ++ ((cs.drop 5).map (Cell.den ρ)):=by rw [← List.map_append,List.take_append_drop]
  have e3':(cs.take 5).map (Cell.den ρ)=[.bool c.b,.int .u64 c.u,.slice c.p c.l c.c,.int .u64 d.u,.slice d.p d.l d.c]:=by
   have:=Value.agg.inj e3
   simpa using congrArg Array.toList this
  have e4':(cs.drop 5).map (Cell.den ρ)=[.bool c'.b,.int .u64 c'.u,.slice c'.p c'.l c'.c,.int .u64 d'.u,.slice d'.p d'.l d'.c]:=by
   have:=Value.agg.inj e4
   simpa using congrArg Array.toList this
  rw [hl,e3',e4']
  exact ⟨_,_,_,_,_,_,_,_,_,_,_,_,_,_,_,_,_,_,rfl,h3.1,h4.1⟩
 ·cases h
section
variable {β:Nat→Rat}
def vJ (β:Nat→Rat) (f:FuncId) (op:RE→RE) (sz:Nat→Nat):Con (SQ β) where
 fn:=f
 app:=fun db b args=>match args with
  | [.e (.a x)]=>match dD db x with
   | some (e,k)=>if k≤K0 then some (.e (.a (aK b)),[.q b (op e) (sz k)]) else none
   | none=>none
  | _=>none
theorem Dy {f:FuncId} {op:RE→RE} {sz:Nat→Nat} (h:∀ e k v W,k≤K0→IsQ W v (e.ev β)→Fits k (e.ev β)→EV W→Calls Tryz.prog f #[v] W (aY W ((op e).ev β))∧Fits (sz k) ((op e).ev β)):(vJ β f op sz).Ok Tryz.prog (SQ β) EV:=by
 refine Con.ok0 rfl ?_
 intro db b args res new ha ρ W hf hE
 simp only [vJ] at ha
 split at ha
 ·rename_i x
  split at ha
  ·rename_i e k hx
   split at ha
   ·rename_i hk
    cases ha
    obtain ⟨⟨h1,h2⟩,-⟩:=eY hx hf
    obtain ⟨h3,h4⟩:=h e k _ W hk h1 h2 hE
    exact vF h3 h4
   ·cases ha
  ·cases ha
 ·cases ha
def sK (β:Nat→Rat) (f:FuncId) (op:RE→RE→RE) (sz:Nat→Nat→Nat) (side:RE→RE→Bool):Con (SQ β) where
 fn:=f
 app:=fun db b args=>match args with
  | [.e (.a x),.e (.a y)]=>match dD db x,dD db y with
   | some (e,k),some (e',k')=>if decide (k≤K0) && decide (k'≤K0) && side e e' then some (.e (.a (aK b)),[.q b (op e e') (sz k k')]) else none
   | _,_=>none
  | _=>none
theorem yh {f:FuncId} {op:RE→RE→RE} {sz:Nat→Nat→Nat} {side:RE→RE→Bool} (h:∀ e e' k k' v v' W,k≤K0→k'≤K0→side e e' = true→IsQ W v (e.ev β)→Fits k (e.ev β)→IsQ W v' (e'.ev β)→Fits k' (e'.ev β)→EV W→Calls Tryz.prog f #[v,v'] W (aY W ((op e e').ev β))∧Fits (sz k k') ((op e e').ev β)):(sK β f op sz side).Ok Tryz.prog (SQ β) EV:=by
 refine Con.ok0 rfl ?_
 intro db b args res new ha ρ W hf hE
 simp only [sK] at ha
 split at ha
 ·rename_i x y
  split at ha
  ·rename_i e k e' k' hx hy
   split at ha
   ·rename_i hk
    simp only [Bool.and_eq_true,decide_eq_true_eq] at hk
    cases ha
    obtain ⟨⟨h1,h2⟩,-⟩:=eY hx hf
    obtain ⟨⟨h1',h2'⟩,-⟩:=eY hy hf
    obtain ⟨h3,h4⟩:=h e e' k k' _ _ W hk.1.1 hk.1.2 hk.2 h1 h2 h1' h2' hE
    exact vF h3 h4
   ·cases ha
  ·cases ha
 ·cases ha
variable (β) (h:Hint)
def nzB (h:Hint) (e:RE):Bool:=h.nz.any fun p=>p.beq e
def sgB (h:Hint) (e:RE):Option Int:=(h.sg.find? fun p=>p.1.beq e).map (·.2)
def cmB (h:Hint) (e e':RE):Option Int:=if eqB h e e' then some 0 else (h.cm.find? fun p=>p.1.beq e && p.2.1.beq e').map (·.2.2)
def DJ:Con (SQ β) where
 fn:=15
 app:=fun db b args=>match args with
  | [.e (.a x),.e (.a y)]=>match dD db x,dD db y with
   | some (e,k),some (e',k')=>if decide (k≤K0) && decide (k'≤K0) then
     if nzB h e' then some (.t [.a (aK b),.s (.it .i64 0)],[.q b (.div e e') (k+k' + 1)]) else
     if eqB h e' (.c 0) then some (.t [.a (aK b),.s (.it .i64 9)],[.q b (.div e e') (k+k' + 1)]) else none
    else none
   | _,_=>none
  | _=>none
def Eb:Con (SQ β) where
 fn:=12
 app:=fun db _ args=>match args with
  | [.e (.a x)]=>match dD db x with
   | some (e,_)=>match sgB h e with
    | some n=>some (.e (.s (.it .i64 n)),[])
    | none=>none
   | none=>none
  | _=>none
def DF:Con (SQ β) where
 fn:=30
 app:=fun db _ args=>match args with
  | [.e (.a x),.e (.a y)]=>match dD db x,dD db y with
   | some (e,k),some (e',k')=>if decide (k≤K0) && decide (k'≤K0) then (match cmB h e e' with
     | some n=>some (.e (.s (.it .i64 n)),[])
     | none=>none) else none
   | _,_=>none
  | _=>none
def DR:Con (SQ β) where
 fn:=18
 app:=fun _ b args=>match args with
  | [.e (.s (.it .i64 n))]=>if decide (-9223372036854775808≤n) && decide (n≤9223372036854775807) then some (.e (.a (aK b)),[.q b (.c n) 1]) else none
  | _=>none
def cq:List (Con (SQ β)):=[
 sK β 20 .add (fun a b=>a+b+1) (fun _ _=>true),sK β 22 .sub (fun a b=>a+b+1) (fun _ _=>true),sK β 24 .mul (fun a b=>a+b) (fun _ _=>true),
 sK β 94 .div (fun a b=>a+b+1) (fun _ e=>nzB h e),vJ β 26 .neg id,vJ β 28 .abs id,DJ β h,Eb β h,DF β h,DR β]
end
section
variable {β:Nat→Rat} {h:Hint}
theorem jA (ok:h.Ok β) {e:RE} (hh:nzB h e=true):e.ev β≠0:=by
 obtain ⟨p,hp,h1⟩:=List.any_eq_true.1 hh
 rw [← RE.beq_eq h1]
 exact ok.2.2.1 p hp
theorem GX (ok:h.Ok β) {e:RE} {n:Int} (hh:sgB h e=some n):sgQ (e.ev β)=n:=by
 obtain ⟨p,hp,rfl⟩:=Option.map_eq_some_iff.1 hh
 have h1:=List.find?_some hp
 rw [← RE.beq_eq h1]
 exact ok.2.2.2.1 p (List.mem_of_find?_eq_some hp)
theorem kQ (ok:h.Ok β) {e e':RE} {n:Int} (hh:cmB h e e' = some n):aF (e.ev β) (e'.ev β)=n:=by
 unfold cmB at hh
 split at hh
 ·rename_i he
  cases hh
  rw [lK ok he]
  unfold aF
  simp
 ·obtain ⟨p,hp,rfl⟩:=Option.map_eq_some_iff.1 hh
  have h1:=List.find?_some hp
  simp only [Bool.and_eq_true] at h1
  rw [← RE.beq_eq h1.1,← RE.beq_eq h1.2]
  exact ok.2.2.2.2 p (List.mem_of_find?_eq_some hp)
theorem RJ (ok:h.Ok β):(DJ β h).Ok Tryz.prog (SQ β) EV:=by
 refine Con.ok0 rfl ?_
 intro db b args res new ha ρ W hf hE
 simp only [DJ] at ha
 split at ha
 ·split at ha
  ·rename_i e k e' k' hx hy
   split at ha
   ·rename_i hk
    simp only [Bool.and_eq_true,decide_eq_true_eq] at hk
    obtain ⟨⟨h1,h2⟩,-⟩:=eY hx hf
    obtain ⟨⟨h1',h2'⟩,-⟩:=eY hy hf
    have hc:=PV _ _ _ _ (max k k') W h1 h1' (by simp only [K0] at hk;omega) (h2.mono (Nat.le_max_left _ _)) (h2'.mono (Nat.le_max_right _ _)) hE.tz
    split at ha
    ·rename_i hn
     cases ha
     rw [if_neg (jA ok hn)] at hc
     exact qj (e:=.div e e') hc (h2.over h2')
    ·split at ha
     ·rename_i hn
      cases ha
      rw [if_pos (show e'.ev β=0 from (lK ok hn).trans rfl)] at hc
      exact qj (e:=.div e e') hc (h2.over h2')
     ·cases ha
   ·cases ha
  ·cases ha
 ·cases ha
theorem Sz (ok:h.Ok β):(Eb β h).Ok Tryz.prog (SQ β) EV:=by
 refine Con.ok0 rfl ?_
 intro db b args res new ha ρ W hf hE
 simp only [Eb] at ha
 split at ha
 ·split at ha
  ·rename_i e k hx
   split at ha
   ·rename_i n hn
    cases ha
    obtain ⟨⟨h1,h2⟩,-⟩:=eY hx hf
    have hc:=IC _ _ W h1
    rw [GX ok hn] at hc
    exact nK hc rfl
   ·cases ha
  ·cases ha
 ·cases ha
theorem RH (ok:h.Ok β):(DF β h).Ok Tryz.prog (SQ β) EV:=by
 refine Con.ok0 rfl ?_
 intro db b args res new ha ρ W hf hE
 simp only [DF] at ha
 split at ha
 ·split at ha
  ·rename_i e k e' k' hx hy
   split at ha
   ·rename_i hk
    simp only [Bool.and_eq_true,decide_eq_true_eq] at hk
    split at ha
    ·rename_i n hn
     cases ha
     obtain ⟨⟨h1,h2⟩,-⟩:=eY hx hf
     obtain ⟨⟨h1',h2'⟩,-⟩:=eY hy hf
     have hc:=xw _ _ _ _ (max k k') W h1 h1' (by simp only [K0] at hk;omega) (h2.mono (Nat.le_max_left _ _)) (h2'.mono (Nat.le_max_right _ _))
     rw [kQ ok hn] at hc
     exact nK hc rfl
    ·cases ha
   ·cases ha
  ·cases ha
 ·cases ha
theorem RP:(DR β).Ok Tryz.prog (SQ β) EV:=by
 refine Con.ok0 rfl ?_
 intro db b args res new ha ρ W hf hE
 simp only [DR] at ha
 split at ha
 ·rename_i n
  split at ha
  ·rename_i hk
   simp only [Bool.and_eq_true,decide_eq_true_eq] at hk
   cases ha
   exact vF (e:=.c n) (xA n hk.1 (by omega) W) (fits_int hk.1 hk.2)
  ·cases ha
 ·cases ha
theorem Kw {k:Nat} {r:Rat} (h:Fits k r):Fits k (if r.num<0 then -r else r):=by
 split
 ·exact h.neg
 ·exact h
theorem yK (ok:h.Ok β):∀ c∈cq β h,c.Ok Tryz.prog (SQ β) EV:=by
 have hmax:∀ {k k':Nat} {r:Rat},Fits k r→Fits (max k k') r:=fun h=>h.mono (Nat.le_max_left _ _)
 have hmax':∀ {k k':Nat} {r:Rat},Fits k' r→Fits (max k k') r:=fun h=>h.mono (Nat.le_max_right _ _)
 unfold cq
 simp only [List.forall_mem_cons,List.not_mem_nil,false_imp_iff,implies_true,and_true]
 refine ⟨yh fun e e' k k' v v' W hk hk' _ h1 h2 h3 h4 hE=>⟨rP _ _ v v' (max k k') W h1 h3 (by simp only [K0] at hk hk';omega) (hmax h2) (hmax' h4) hE.tz,h2.plus h4⟩,
  yh fun e e' k k' v v' W hk hk' _ h1 h2 h3 h4 hE=>⟨uZ _ _ v v' (max k k') W h1 h3 (by simp only [K0] at hk hk';omega) (hmax h2) (hmax' h4) hE.tz,h2.minus h4⟩,
  yh fun e e' k k' v v' W hk hk' _ h1 h2 h3 h4 hE=>⟨ni _ _ v v' (max k k') W h1 h3 (by simp only [K0] at hk hk';omega) (hmax h2) (hmax' h4) hE.tz,h2.mul h4⟩,
  yh fun e e' k k' v v' W hk hk' hn h1 h2 h3 h4 hE=>⟨rQ _ _ v v' (max k k') W h1 h3 (by simp only [K0] at hk hk';omega) (jA ok hn) (hmax h2) (hmax' h4) hE.tz,h2.over h4⟩,
  Dy fun e k v W _ h1 h2 _=>⟨Ip _ v W h1,h2.neg⟩,
  Dy fun e k v W _ h1 h2 _=>⟨BN _ v W h1,Kw h2⟩,RJ ok,Sz ok,RH ok,RP⟩
end
end Rx
end
namespace Rx
open Go.RowKit
theorem aV (β:Nat→Rat):Hint.Ok β {}:=⟨fun p h=>(by cases h),fun p h=>(by cases h),fun p h=>(by cases h),fun p h=>(by cases h),fun p h=>(by cases h)⟩
section
variable {β:Nat→Rat} {h:Hint} {ok:h.Ok β} {cons:List (Con (SQ β))} {fuel:Nat} {f:FuncId} {args:List SV} {fs:List Fc} {b:Nat} {ρ:Env} {w:World}
def isQ (e:RE):Option (SV×List Fc)→Bool
 | some (.e (.a cs),fs)=>match dD fs cs with
  | some (e',_)=>e'.beq e
  | none=>false
 | _=>false
def Fh (e e':RE):Option (SV×List Fc)→Bool
 | some (.e (.a cs),fs)=>match xP fs cs with
  | some ((x,_),y,_)=>x.beq e && y.beq e'
  | none=>false
 | _=>false
def isB (x:Bool):Option (SV×List Fc)→Bool
 | some (.e (.s (.bl y)),_)=>x == y
 | _=>false
def isI (x:Int):Option (SV×List Fc)→Bool
 | some (.e (.s (.it .i64 y)),_)=>x == y
 | _=>false
theorem WR {e:RE} {o:Option (SV×List Fc)} (h:isQ e o=true):∃ cs fs k,o=some (.e (.a cs),fs)∧dD fs cs=some (e,k):=by
 unfold isQ at h
 split at h
 ·split at h
  ·rename_i cs fs _ e' k ha;exact ⟨cs,fs,k,rfl,by rw [ha,RE.beq_eq h]⟩
  ·cases h
 ·cases h
theorem WV {e e':RE} {o:Option (SV×List Fc)} (h:Fh e e' o=true):∃ cs fs k k',o=some (.e (.a cs),fs)∧xP fs cs=some ((e,k),e',k'):=by
 unfold Fh at h
 split at h
 ·split at h
  ·rename_i cs fs _ x k y k' ha
   simp only [Bool.and_eq_true] at h
   exact ⟨cs,fs,k,k',rfl,by rw [ha,RE.beq_eq h.1,RE.beq_eq h.2]⟩
  ·cases h
 ·cases h
theorem EX {x:Bool} {o:Option (SV×List Fc)} (h:isB x o=true):∃ fs,o=some (.e (.s (.bl x)),fs):=by
 unfold isB at h
 split at h
 ·rename_i y fs
  have e:x=y:=by simpa using h
  subst e;exact ⟨fs,rfl⟩
 ·cases h
theorem bg {w:World} (hE:EV w):∀ W,Below w.heap.size w W→EV W:=fun _ hb=>Env.below hE hb (Nat.le_refl _)
theorem aak {e:RE} (hc:∀ c∈cons,c.Ok Tryz.prog (SQ β) EV) (hr:isQ e (aN Tryz.prog (SQ β) (HQ β h ok) cons fuel f args fs b)=true) (hE:EV w) (hf:∀ g∈fs,Fc.on β ρ g w):Calls Tryz.prog f (args.map (SV.den ρ)).toArray w (aY w (e.ev β)):=by
 obtain ⟨cs,fs',k,heq,ha⟩:=WR hr
 exact (dJ mixed hc heq (bg hE) hf).mono fun x W' ⟨ρ',_,hx,hb,hfs⟩=>⟨_,hx,(eY ha hfs).1.1,hb⟩
theorem aal {e e':RE} (hc:∀ c∈cons,c.Ok Tryz.prog (SQ β) EV) (hr:Fh e e' (aN Tryz.prog (SQ β) (HQ β h ok) cons fuel f args fs b)=true) (hE:EV w) (hf:∀ g∈fs,Fc.on β ρ g w):Calls Tryz.prog f (args.map (SV.den ρ)).toArray w (Cc w (e.ev β) (e'.ev β)):=by
 obtain ⟨cs,fs',k,k',heq,ha⟩:=WV hr
 exact (dJ mixed hc heq (bg hE) hf).mono fun x W' ⟨ρ',_,hx,hb,hfs⟩=>⟨_,hx,(QG ha hfs).1,hb⟩
theorem aa7 {y:Bool} (hc:∀ c∈cons,c.Ok Tryz.prog (SQ β) EV) (hr:isB y (aN Tryz.prog (SQ β) (HQ β h ok) cons fuel f args fs b)=true) (hE:EV w) (hf:∀ g∈fs,Fc.on β ρ g w):Calls Tryz.prog f (args.map (SV.den ρ)).toArray w (aZ w (.bool y)):=by
 obtain ⟨fs',heq⟩:=EX hr
 exact (dJ mixed hc heq (bg hE) hf).mono fun x W' ⟨ρ',_,hx,hb,_⟩=>⟨hx,hb⟩
end
def bet (L:List Rat):Nat→Rat:=fun n=>L.getD n 0
def qq (c d:Nv):List Nv:=[c,d]
def ev (L:List Nv):Env:=fun n=>L.getD n default
abbrev K1:Nat:=1048576
abbrev pr (s:Nat):SV:=.e (.a (aK s ++ aK (s+2)))
abbrev pq (s i:Nat):List Fc:=[.q s (.v i) K1,.q (s+2) (.v (i+1)) K1]
section
variable {a b c d:Rat} {v1 v2:Value} {W:World}
end
end Rx
namespace Rx
open Go.RowKit
section
variable {a b c d:Rat} {v1 v2:Value} {W:World}
end
theorem YW (r:Rat):1+r*r≠0:=by
 have h:0≤r*r:=by
  rcases Rat.le_total (a:=0) (b:=r) with h | h
  ·exact Rat.mul_nonneg h h
  ·have:=Rat.mul_nonneg (show 0≤-r by grind) (show 0≤-r by grind);grind
 grind
def tC (e:RE):RE:=.div (.sub (.c 1) (.mul e e)) (.add (.c 1) (.mul e e))
def tS (e:RE):RE:=.div (.add e e) (.add (.c 1) (.mul e e))
theorem abg {a:Rat} {v:Value} {W:World} (h:IsQ W v a) (f:Fits K1 a) (hE:EV W):Calls Tryz.prog 69 #[v] W (Cc W ((1 - a*a) / (1+a*a)) ((a+a) / (1+a*a))):=by
 obtain ⟨c,d,rfl⟩:=ku h
 have ok:Hint.Ok (bet [a]) { nz:=[.add (.c 1) (.mul (.v 0) (.v 0))] }:=⟨fun p h=>(by cases h),fun p h=>(by cases h),fun p hp=>(by simp at hp;subst hp;exact YW a),fun p h=>(by cases h),fun p h=>(by cases h)⟩
 exact aal (β:=bet [a]) (ρ:=ev [c,d]) (args:=[.e (.a (aK 0))]) (fs:=[.q 0 (.v 0) K1]) (e:=tC (.v 0)) (e':=tS (.v 0)) (ok:=ok) (fuel:=1) (b:=2) (yK ok) (by kernel_rfl) hE fun g hg=>by
  rw [List.mem_singleton] at hg;subst hg;exact ⟨h,f⟩
section
variable (β:Nat→Rat) (h:Hint)
def yF:Con (SQ β) where
 fn:=69
 app:=fun db b args=>match args with
  | [.e (.a x)]=>match dD db x with
   | some (e,k)=>if k≤K1 then some (pr b,[.q b (tC e) (4*k+5),.q (b+2) (tS e) (4*k+5)]) else none
   | _=>none
  | _=>none
def EY:List Cell→Option Nat
 | [.oi a,.oi b,.o8 c]=>if a+1=b && a+2=c then some a else none
 | _=>none
end
section
variable {β:Nat→Rat} {h:Hint}
theorem JC:(yF β).Ok Tryz.prog (SQ β) EV:=by
 refine Con.ok0 rfl ?_
 intro db b args res new ha ρ W hf hE
 simp only [yF] at ha
 split at ha
 ·split at ha
  ·rename_i e k hx
   split at ha
   ·rename_i hk
    cases ha
    obtain ⟨⟨h1,h2⟩,-⟩:=eY hx hf
    have f1:Fits 1 (1:Rat):=fits_int (n:=1) (by decide) (by decide)
    have fm:=h2.mul h2
    have fp:=f1.plus fm
    have fs:=f1.minus fm
    have fa:=h2.plus h2
    exact QE (e:=tC e) (e':=tS e) (abg h1 (h2.mono hk) hE)
     ((fs.over fp).mono (by omega)) ((fa.over fp).mono (by omega))
   ·cases ha
  ·cases ha
 ·cases ha
theorem WI {x:List Cell} {a:Nat} (hx:EY x=some a):x=ET a:=by
 unfold EY at hx
 split at hx
 ·split at hx
  ·rename_i hh
   simp only [Bool.and_eq_true,decide_eq_true_eq] at hh
   cases hx
   rw [← hh.1,← hh.2]
   rfl
  ·cases hx
 ·cases hx
end
end Rx
end Go.Proofs.YthalajpklaodkaaGreatDoor
