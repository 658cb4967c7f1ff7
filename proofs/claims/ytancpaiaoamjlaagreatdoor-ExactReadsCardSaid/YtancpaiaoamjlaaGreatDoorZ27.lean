/- What the proof rests on, part 27. -/
import Derived.Test.YtancpaiaoamjlaaGreatDoorZ15
import Derived.Test.YtancpaiaoamjlaaGreatDoorZ26
import Derived.Test.YtancpaiaoamjlaaGreatDoorZ22
namespace Go.Proofs.YtancpaiaoamjlaaGreatDoor
set_option maxRecDepth 100000
set_option maxHeartbeats 80000000
namespace Rx
open Go.RowKit
def isq:Nat→Nat
 | 0=>0
 | n+1=>if (isq n+1)*(isq n+1)≤n+1 then isq n+1 else isq n
inductive RE
 | v (n:Nat)
 | c (n:Int)
 | add (a b:RE)
 | sub (a b:RE)
 | mul (a b:RE)
 | div (a b:RE)
 | neg (a:RE)
 | abs (a:RE)
 | flo (a:RE)
 | num (a:RE)
 | den (a:RE)
 | rt (a:RE)
def RE.ev (β:Nat→Rat):RE→Rat
 | .v n=>β n
 | .c n=>(n:Rat)
 | .add a b=>a.ev β+b.ev β
 | .sub a b=>a.ev β - b.ev β
 | .mul a b=>a.ev β*b.ev β
 | .div a b=>a.ev β / b.ev β
 | .neg a=>-a.ev β
 | .abs a=>if (a.ev β).num<0 then -a.ev β else a.ev β
 | .flo a=>(((a.ev β).num / ((a.ev β).den:Int):Int):Rat)
 | .num a=>((a.ev β).num:Rat)
 | .den a=>((((a.ev β).den:Nat):Int):Rat)
 | .rt a=>(((isq (a.ev β).num.natAbs:Nat):Int):Rat)
def RE.beq:RE→RE→Bool
 | .v n,.v m=>n == m
 | .c n,.c m=>n == m
 | .add a b,.add x y | .sub a b,.sub x y | .mul a b,.mul x y | .div a b,.div x y=>a.beq x && b.beq y
 | .neg a,.neg b | .abs a,.abs b | .flo a,.flo b | .num a,.num b | .den a,.den b | .rt a,.rt b=>a.beq b
 | _,_=>false
theorem RE.beq_eq {a:RE}:∀ {b:RE},a.beq b=true→a=b:=by
 induction a with
 | v n=>intro b h;cases b <;> simp [RE.beq] at h;subst h;rfl
 | c n=>intro b h;cases b <;> simp [RE.beq] at h;subst h;rfl
 | add x y ih1 ih2=>intro b h;cases b <;> simp [RE.beq] at h;rw [ih1 h.1,ih2 h.2]
 | sub x y ih1 ih2=>intro b h;cases b <;> simp [RE.beq] at h;rw [ih1 h.1,ih2 h.2]
 | mul x y ih1 ih2=>intro b h;cases b <;> simp [RE.beq] at h;rw [ih1 h.1,ih2 h.2]
 | div x y ih1 ih2=>intro b h;cases b <;> simp [RE.beq] at h;rw [ih1 h.1,ih2 h.2]
 | neg x ih=>intro b h;cases b <;> simp [RE.beq] at h;rw [ih h]
 | abs x ih=>intro b h;cases b <;> simp [RE.beq] at h;rw [ih h]
 | flo x ih=>intro b h;cases b <;> simp [RE.beq] at h;rw [ih h]
 | num x ih=>intro b h;cases b <;> simp [RE.beq] at h;rw [ih h]
 | den x ih=>intro b h;cases b <;> simp [RE.beq] at h;rw [ih h]
 | rt x ih=>intro b h;cases b <;> simp [RE.beq] at h;rw [ih h]
def enc:List UInt8→Nat
 | []=>0
 | x :: r=>x.toNat+1+257*enc r
theorem JA:∀ {l m:List UInt8},enc l=enc m→l=m
 | [],[],_=>rfl
 | [],y :: s,h=>by simp only [enc] at h;omega
 | x :: r,[],h=>by simp only [enc] at h;omega
 | x :: r,y :: s,h=>by
  simp only [enc] at h
  have h1:=x.toNat_lt
  have h2:=y.toNat_lt
  have h3:x.toNat=y.toNat:=by omega
  rw [UInt8.toNat_inj.1 h3,JA (l:=r) (m:=s) (by omega)]
open Classical in
noncomputable def txt (r:Rat):List UInt8:=if h:∃ l,((enc l:Nat):Rat)=r then Classical.choose h else []
theorem bI (l:List UInt8):txt ((enc l:Nat):Rat)=l:=by
 have h0:∃ m,((enc m:Nat):Rat)=((enc l:Nat):Rat):=⟨l,rfl⟩
 unfold txt
 rw [dif_pos h0]
 have h1:=Classical.choose_spec h0
 exact JA (by exact_mod_cast h1)
inductive Fc
 | q (s:Nat) (e:RE) (k:Nat)
 | r (s:Nat) (e:RE) (k:Nat)
 | x (s:Nat) (e:RE)
 | n (s:Nat) (e:RE)
 | i (s:Nat) (e:RE)
 | z (s:Nat) (e:RE) (k:Nat)
 | w (s:Nat) (e:RE)
 | tx (s:Nat) (e:RE)
 | ln (s t:Nat)
def Fc.nm:Fc→List Nat
 | .q s _ _ | .r s _ _=>[s,s+1]
 | .x s _=>[s]
 | .n s _=>[s,s+1,s+2]
 | .i s _=>[s]
 | .z s _ _=>[s]
 | .w s _=>[s]
 | .tx s _=>[s]
 | .ln s t=>[s,t]
def IsN (n d:Int) (b:Int) (r:Rat):Prop:=∃ pw:Nat,b=pw∧pw<256∧-9223372036854775808≤n∧n≤9223372036854775807∧-9223372036854775808≤d∧d≤9223372036854775807∧numOf n d pw=r
def Fc.on (β:Nat→Rat) (ρ:Env):Fc→World→Prop
 | .q s e k,W=>IsQ W (.agg ((aO s).map (Cell.den ρ)).toArray) (e.ev β)∧Fits k (e.ev β)
 | .r s e k,W=>Z4.IsR W (.agg ((dw s).map (Cell.den ρ)).toArray) (e.ev β)∧Fits k (e.ev β)
 | .x s e,_=>(ρ s).t=⟨(iR (e.ev β)).toArray⟩
 | .n s e,_=>IsN (ρ s).u (ρ (s+1)).u (ρ (s+2)).u (e.ev β)
 | .i s e,_=>-9223372036854775808≤(ρ s).u∧(ρ s).u≤9223372036854775807∧(((ρ s).u:Int):Rat)=e.ev β
 | .z s e k,W=>∃ z:Int,Z4.IsZ W (.agg ((zC s).map (Cell.den ρ)).toArray) z∧(z:Rat)=e.ev β∧z.natAbs<B64 ^ k
 | .w s e,_=>0≤(ρ s).u∧(ρ s).u≤18446744073709551615∧(((ρ s).u:Int):Rat)=e.ev β
 | .tx s e,_=>(ρ s).t=⟨(txt (e.ev β)).toArray⟩
 | .ln s t,_=>(ρ s).u=((ρ t).l:Int)
def SQ (β:Nat→Rat):Sys where
 F:=Fc
 nm:=Fc.nm
 on:=Fc.on β
 okC:=okC
 cg:=fun {ρ ρ' f W} h hf=>by
  cases f with
  | q s e k =>
   simp only [Fc.nm,List.mem_cons,List.not_mem_nil,or_false] at h
   simp only [Fc.on] at hf ⊢
   rwa [kW (ρ:=ρ') (ρ':=ρ) (l:=aO s) fun n hn=>(h n (by simpa [aO,Cell.nm] using hn)).symm]
  | r s e k =>
   simp only [Fc.nm,List.mem_cons,List.not_mem_nil,or_false] at h
   simp only [Fc.on] at hf ⊢
   rwa [kW (ρ:=ρ') (ρ':=ρ) (l:=dw s) fun n hn=>(h n (by simpa [dw,Cell.nm] using hn)).symm]
  | x s e=>simp only [Fc.on] at hf ⊢;rw [← h s (by simp [Fc.nm])];exact hf
  | n s e=>simp only [Fc.on] at hf ⊢;rw [← h s (by simp [Fc.nm]),← h (s+1) (by simp [Fc.nm]),← h (s+2) (by simp [Fc.nm])];exact hf
  | i s e=>simp only [Fc.on] at hf ⊢;rw [← h s (by simp [Fc.nm])];exact hf
  | w s e=>simp only [Fc.on] at hf ⊢;rw [← h s (by simp [Fc.nm])];exact hf
  | tx s e=>simp only [Fc.on] at hf ⊢;rw [← h s (by simp [Fc.nm])];exact hf
  | ln s t=>simp only [Fc.on] at hf ⊢;rw [← h s (by simp [Fc.nm]),← h t (by simp [Fc.nm])];exact hf
  | z s e k =>
   simp only [Fc.nm,List.mem_cons,List.not_mem_nil,or_false] at h
   simp only [Fc.on] at hf ⊢
   rwa [kW (ρ:=ρ') (ρ':=ρ) (l:=zC s) fun n hn=>(h n (by simpa [zC,Cell.nm] using hn)).symm]
 bl:=fun {ρ f W W'} hb hf=>by
  cases f with
  | q s e k=>exact ⟨hf.1.below hb,hf.2⟩
  | r s e k=>exact ⟨Z4.IsR.below hf.1 hb,hf.2⟩
  | x s e=>exact hf
  | n s e=>exact hf
  | i s e=>exact hf
  | w s e=>exact hf
  | tx s e=>exact hf
  | ln s t=>exact hf
  | z s e k=>obtain ⟨z,h1,h2⟩:=hf;exact ⟨z,h1.below hb,h2⟩
 st:=fun {ρ f W b T cs i u} hok _ hb hf=>by
  have hv:=zX ρ hok
  have hb':Go.Proofs.YtancpaiaoamjlaaGreatDoor.Bx W b T (cs.map (Cell.den ρ)):=hb
  cases f with
  | q s e k=>exact ⟨hf.1.setBox hb' hv,hf.2⟩
  | r s e k=>exact ⟨Z4.IsR.setBox hf.1 hb' hv,hf.2⟩
  | x s e=>exact hf
  | n s e=>exact hf
  | i s e=>exact hf
  | w s e=>exact hf
  | tx s e=>exact hf
  | ln s t=>exact hf
  | z s e k=>obtain ⟨z,h1,h2⟩:=hf;exact ⟨z,h1.setBox hb' hv,h2⟩
 len:=fun s b=>[.ln b s]
 lenOk:=fun hm h=>by
  obtain rfl:=List.mem_singleton.1 hm
  exact h
structure Hint where
 eq:List (RE×RE):=[]
 ne:List (RE×RE):=[]
 nz:List RE:=[]
 sg:List (RE×Int):=[]
 cm:List (RE×RE×Int):=[]
def Hint.Ok (β:Nat→Rat) (h:Hint):Prop:=
 (∀ p∈h.eq,p.1.ev β=p.2.ev β)∧(∀ p∈h.ne,p.1.ev β≠p.2.ev β)∧(∀ p∈h.nz,p.ev β≠0)∧(∀ p∈h.sg,sgQ (p.1.ev β)=p.2)∧(∀ p∈h.cm,bn (p.1.ev β) (p.2.1.ev β)=p.2.2)
def eqB (h:Hint) (a b:RE):Bool:=a.beq b || h.eq.any fun p=>p.1.beq a && p.2.beq b
theorem kD {β:Nat→Rat} {h:Hint} (ok:h.Ok β) {a b:RE} (hh:eqB h a b=true):a.ev β=b.ev β:=by
 unfold eqB at hh
 rw [Bool.or_eq_true] at hh
 rcases hh with hh | hh
 ·rw [RE.beq_eq hh]
 ·obtain ⟨p,hp,h1⟩:=List.any_eq_true.1 hh
  simp only [Bool.and_eq_true] at h1
  have:=ok.1 p hp
  rwa [RE.beq_eq h1.1,RE.beq_eq h1.2] at this
def oG:List Fc→Nat→Option RE
 | [],_=>none
 | .x s e :: r,n=>if s=n then some e else oG r n
 | _ :: r,n=>oG r n
theorem Ew {β:Nat→Rat} {ρ:Env} {W:World} {n:Nat} {e:RE}:∀ {db:List Fc},oG db n=some e→(∀ f∈db,Fc.on β ρ f W)→(ρ n).t=⟨(iR (e.ev β)).toArray⟩
 | [],h,_=>by simp [oG] at h
 | f :: r,h,hf=>by
  have ih:oG r n=some e→(ρ n).t=⟨(iR (e.ev β)).toArray⟩:=fun h=>Ew h fun f hf'=>hf f (by simp [hf'])
  cases f with
  | x s e' =>
   simp only [oG] at h
   split at h
   ·rename_i hs
    cases h
    subst hs
    exact hf (.x s e) (by simp)
   ·exact ih h
  | q _ _ _=>exact ih h
  | r _ _ _=>exact ih h
  | n _ _=>exact ih h
  | i _ _=>exact ih h
  | w _ _=>exact ih h
  | tx _ _=>exact ih h
  | ln _ _=>exact ih h
  | z _ _ _=>exact ih h
def jE:List Fc→Nat→Option RE
 | [],_=>none
 | .i s e :: r,n=>if s=n then some e else jE r n
 | _ :: r,n=>jE r n
theorem iE {n:Nat} {e:RE}:∀ {db:List Fc},jE db n=some e→.i n e∈db
 | [],h=>by simp [jE] at h
 | f :: r,h=>by
  cases f with
  | i s e' =>
   simp only [jE] at h
   split at h
   ·rename_i hs;cases h;subst hs;simp
   ·exact List.mem_cons_of_mem _ (iE h)
  | q _ _ _=>exact List.mem_cons_of_mem _ (iE h)
  | r _ _ _=>exact List.mem_cons_of_mem _ (iE h)
  | x _ _=>exact List.mem_cons_of_mem _ (iE h)
  | n _ _=>exact List.mem_cons_of_mem _ (iE h)
  | z _ _ _=>exact List.mem_cons_of_mem _ (iE h)
  | w _ _=>exact List.mem_cons_of_mem _ (iE h)
  | tx _ _=>exact List.mem_cons_of_mem _ (iE h)
  | ln _ _=>exact List.mem_cons_of_mem _ (iE h)
def HQ (β:Nat→Rat) (h:Hint) (ok:h.Ok β):Tests (SQ β) where
 eq:=fun db c d=>match c,d with
  | .ot a,.ot b=>match oG db a,oG db b with
   | some e,some e'=>if eqB h e e' then some true else none
   | _,_=>none
  | .oi a,.it .i64 0=>match jE db a with
   | some e=>if h.nz.any fun p=>p.beq e then some false else none
   | none=>none
  | .oi a,.oi b=>match jE db a,jE db b with
   | some e,some e'=>if eqB h e e' then some true else none
   | _,_=>none
  | _,_=>none
 ok:=fun {fs c d x} hh ρ W hf=>by
  split at hh
  ·rename_i a b
   split at hh
   ·rename_i e e' h1 h2
    split at hh
    ·rename_i he
     cases hh
     refine .inl ⟨_,_,rfl,rfl,?_⟩
     rw [Ew h1 hf,Ew h2 hf,kD ok he]
     simp
    ·cases hh
   ·cases hh
  ·rename_i a
   split at hh
   ·rename_i e h1
    split at hh
    ·rename_i he
     cases hh
     refine .inr ⟨.i64,(ρ a).u,0,rfl,rfl,?_⟩
     obtain ⟨p,hp,hb⟩:=List.any_eq_true.1 he
     obtain ⟨-,-,h2⟩:=(show Fc.on β ρ (.i a e) W from hf _ (iE h1))
     rw [beq_eq_false_iff_ne]
     intro h0
     rw [h0] at h2
     exact ok.2.2.1 p hp (by rw [RE.beq_eq hb,← h2];rfl)
    ·cases hh
   ·cases hh
  ·rename_i a b
   split at hh
   ·rename_i e e' h1 h2
    split at hh
    ·rename_i he
     cases hh
     refine .inr ⟨.i64,(ρ a).u,(ρ b).u,rfl,rfl,?_⟩
     obtain ⟨-,-,g1⟩:=(show Fc.on β ρ (.i a e) W from hf _ (iE h1))
     obtain ⟨-,-,g2⟩:=(show Fc.on β ρ (.i b e') W from hf _ (iE h2))
     rw [beq_iff_eq]
     have:=g1.trans ((kD ok he).trans g2.symm)
     exact_mod_cast this
    ·cases hh
   ·cases hh
  ·cases hh
end Rx
section
theorem X6 (r s:Rat):mkRat (r.num*s.den+s.num*r.den) (r.den*s.den)=r+s:=by
 have:=Rat.mkRat_add_mkRat r.num s.num r.den_nz s.den_nz
 rw [Rat.mkRat_self,Rat.mkRat_self] at this
 exact this.symm
theorem Fits.plus {a b:Nat} {r s:Rat} (h:Fits a r) (k:Fits b s):Fits (a+b+1) (r+s):=by
 have h0:r.den*s.den≠0:=Nat.mul_ne_zero r.den_nz s.den_nz
 obtain ⟨h1,-,h3⟩:=Z4.wP (r.num*s.den+s.num*r.den) (r.den*s.den) _ h0 rfl
 rw [X6] at h1 h3
 have hp:B64 ^ (a+b)*2≤B64 ^ (a+b+1):=by rw [Nat.pow_succ];exact Nat.mul_le_mul_left _ (by decide)
 have e1:r.num.natAbs*s.den<B64 ^ (a+b):=by rw [Nat.pow_add];exact Nat.mul_lt_mul'' h.1 k.2
 have e2:s.num.natAbs*r.den<B64 ^ (a+b):=by rw [Nat.pow_add,Nat.mul_comm (B64 ^ a)];exact Nat.mul_lt_mul'' k.1 h.2
 have e3:r.den*s.den<B64 ^ (a+b):=by rw [Nat.pow_add];exact Nat.mul_lt_mul'' h.2 k.2
 have e4:(r.num*(s.den:Int)+s.num*(r.den:Int)).natAbs≤r.num.natAbs*s.den+s.num.natAbs*r.den:=by
  refine Nat.le_trans (Int.natAbs_add_le _ _) ?_
  rw [Int.natAbs_mul,Int.natAbs_mul,Int.natAbs_natCast,Int.natAbs_natCast]
  exact Nat.le_refl _
 refine ⟨?_,?_⟩
 ·rw [h1];have:=Nat.div_le_self (r.num*(s.den:Int)+s.num*(r.den:Int)).natAbs (Nat.gcd (r.num*(s.den:Int)+s.num*(r.den:Int)).natAbs (r.den*s.den));omega
 ·rw [h3];have:=Nat.div_le_self (r.den*s.den) (Nat.gcd (r.num*(s.den:Int)+s.num*(r.den:Int)).natAbs (r.den*s.den));omega
theorem Fits.minus {a b:Nat} {r s:Rat} (h:Fits a r) (k:Fits b s):Fits (a+b+1) (r - s):=by
 rw [Rat.sub_eq_add_neg]
 exact h.plus k.neg
theorem Fits.over {a b:Nat} {r s:Rat} (h:Fits a r) (k:Fits b s):Fits (a+b+1) (r / s):=by
 by_cases hs:s=0
 ·subst hs
  rw [Rat.div_def,Rat.inv_zero,Rat.mul_zero]
  have:=Nat.one_lt_pow (show a+b+1≠0 by omega) (show 1<B64 by decide)
  exact ⟨by show 0<_;omega,by show 1<_;omega⟩
 ·rw [Rat.div_def]
  exact (h.mul (k.inv hs)).mono (by omega)
theorem fits_int {n:Int} (h1:-9223372036854775808≤n) (h2:n≤9223372036854775807):Fits 1 (n:Rat):=
 ⟨by rw [Nat.pow_one];show n.natAbs<B64;unfold B64;omega,by rw [Nat.pow_one];show 1<B64;decide⟩
namespace Rx
open Go.RowKit
abbrev EV:World→Prop:=fun W=>Go.Proofs.YtancpaiaoamjlaaGreatDoor.Env W
abbrev K0:Nat:=1073741824
def qv (c d:Nv):Value:=.agg #[.bool c.b,.int .u64 c.u,.slice c.p c.l c.c,.int .u64 d.u,.slice d.p d.l d.c]
theorem Ah {W:World} {v:Value} {r:Rat} (h:IsQ W v r):∃ c d:Nv,v=qv c d:=by
 obtain ⟨t,x,p,l,q,y,r,s,u,rfl⟩:=h.open
 exact ⟨⟨t,x,p,l,q,.empty,0,default⟩,⟨false,y,r,s,u,.empty,0,default⟩,rfl⟩
theorem rD {W:World} {v:Value} {r:Rat} (h:Z4.IsR W v r):∃ c d:Nv,v=.agg #[.bool c.b,.slice c.p c.l c.c,.bool false,.slice d.p d.l d.c]:=by
 obtain ⟨t,p,l,q,r,s,u,rfl⟩:=h.open
 exact ⟨⟨t,0,p,l,q,.empty,0,default⟩,⟨false,0,r,s,u,.empty,0,default⟩,rfl⟩
section
variable {β:Nat→Rat} {f:FuncId} {vals:Array Value} {W:World} {ρ:Env} {b:Nat}
def Ans (β:Nat→Rat) (ρ:Env) (b:Nat) (W:World) (res:SV) (new:List Fc) (e:Ending) (W':World):Prop:=
 ∃ ρ':Env,(∀ n,n<b∨b+M≤n→ρ' n=ρ n)∧e=.returned (res.den ρ')∧Below W.heap.size W W'∧∀ g∈new,(SQ β).on ρ' g W'
theorem vH {e:RE} {k:Nat} (hc:Calls Tryz.prog f vals W (bC W (e.ev β))) (hk:Fits k (e.ev β)):Calls Tryz.prog f vals W (Ans β ρ b W (.e (.a (aO b))) [.q b e k]):=by
 refine hc.mono fun _ W' ⟨v,he,hv,hb⟩=>?_
 obtain ⟨c,d,rfl⟩:=Ah hv
 have h1:(aO b).map (Cell.den (aH ρ b [c,d]))=[.bool c.b,.int .u64 c.u,.slice c.p c.l c.c,.int .u64 d.u,.slice d.p d.l d.c]:=by simp [aO,Cell.den,aH]
 refine ⟨aH ρ b [c,d],gI (by simp [M]),?_,hb,fun g hg=>?_⟩
 ·rw [he];simp only [SV.den,El.den,h1];rfl
 ·rw [List.mem_singleton] at hg
  subst hg
  refine ⟨?_,hk⟩
  rw [h1];exact hv
theorem su {e:RE} {k:Nat} {c0:Int} (hc:Calls Tryz.prog f vals W (dS W (e.ev β) c0)) (hk:Fits k (e.ev β)):Calls Tryz.prog f vals W (Ans β ρ b W (.t [.a (aO b),.s (.it .i64 c0)]) [.q b e k]):=by
 refine hc.mono fun _ W' ⟨v,he,hv,hb⟩=>?_
 obtain ⟨c,d,rfl⟩:=Ah hv
 have h1:(aO b).map (Cell.den (aH ρ b [c,d]))=[.bool c.b,.int .u64 c.u,.slice c.p c.l c.c,.int .u64 d.u,.slice d.p d.l d.c]:=by simp [aO,Cell.den,aH]
 refine ⟨aH ρ b [c,d],gI (by simp [M]),?_,hb,fun g hg=>?_⟩
 ·rw [he];simp only [SV.den,El.den,List.map_cons,List.map_nil,h1];rfl
 ·rw [List.mem_singleton] at hg
  subst hg
  refine ⟨?_,hk⟩
  rw [h1];exact hv
theorem lW {v:Value} {c:Cell} (hc:Calls Tryz.prog f vals W (aX W v)) (hv:c.den ρ=v):Calls Tryz.prog f vals W (Ans β ρ b W (.e (.s c)) []):=by
 refine hc.mono fun _ W' ⟨he,hb⟩=>⟨ρ,fun _ _=>rfl,?_,hb,fun g hg=>by cases hg⟩
 rw [he,← hv];rfl
theorem PW {e e':RE} {k k':Nat} (hc:Calls Tryz.prog f vals W (Bj W (e.ev β) (e'.ev β))) (hk:Fits k (e.ev β)) (hk':Fits k' (e'.ev β)):Calls Tryz.prog f vals W (Ans β ρ b W (.e (.a (aO b ++ aO (b+2)))) [.q b e k,.q (b+2) e' k']):=by
 refine hc.mono fun _ W' ⟨v,he,hv,hb⟩=>?_
 obtain ⟨t6,x6,p6,l6,q6,y6,r6,s6,u6,t7,x7,p7,l7,q7,y7,r7,s7,u7,rfl,hv1,hv2⟩:=hv
 have h1:(aO b).map (Cell.den (aH ρ b [⟨t6,x6,p6,l6,q6,.empty,0,default⟩,⟨false,y6,r6,s6,u6,.empty,0,default⟩,⟨t7,x7,p7,l7,q7,.empty,0,default⟩,⟨false,y7,r7,s7,u7,.empty,0,default⟩]))=(c5 t6 x6 p6 l6 q6 y6 r6 s6 u6):=by simp [aO,Cell.den,aH]
 have h2:(aO (b+2)).map (Cell.den (aH ρ b [⟨t6,x6,p6,l6,q6,.empty,0,default⟩,⟨false,y6,r6,s6,u6,.empty,0,default⟩,⟨t7,x7,p7,l7,q7,.empty,0,default⟩,⟨false,y7,r7,s7,u7,.empty,0,default⟩]))=(c5 t7 x7 p7 l7 q7 y7 r7 s7 u7):=by
  simp [aO,Cell.den,aH,show b+2+1 - b=3 by omega,show b≤b+2+1 by omega]
 refine ⟨_,gI (b:=b) (L:=[⟨t6,x6,p6,l6,q6,.empty,0,default⟩,⟨false,y6,r6,s6,u6,.empty,0,default⟩,⟨t7,x7,p7,l7,q7,.empty,0,default⟩,⟨false,y7,r7,s7,u7,.empty,0,default⟩]) (by simp [M]),?_,hb,fun g hg=>?_⟩
 ·rw [he];simp only [SV.den,El.den,List.map_append,h1,h2];rfl
 ·simp only [List.mem_cons,List.not_mem_nil,or_false] at hg
  rcases hg with rfl | rfl
  ·refine ⟨?_,hk⟩
   rw [h1];exact hv1
  ·refine ⟨?_,hk'⟩
   rw [h2];exact hv2
end
def qy:List Fc→Nat→Option (RE×Nat)
 | [],_=>none
 | .q s e k :: r,n=>if s=n then some (e,k) else qy r n
 | _ :: r,n=>qy r n
def qA:List Fc→Nat→Option (RE×Nat)
 | [],_=>none
 | .r s e k :: r,n=>if s=n then some (e,k) else qA r n
 | _ :: r,n=>qA r n
def Eu:List Fc→Nat→Option RE
 | [],_=>none
 | .n s e :: r,n=>if s=n then some e else Eu r n
 | _ :: r,n=>Eu r n
theorem kF {n:Nat} {e:RE} {k:Nat}:∀ {db:List Fc},qy db n=some (e,k)→.q n e k∈db
 | [],h=>by simp [qy] at h
 | f :: r,h=>by
  cases f with
  | q s e' k' =>
   simp only [qy] at h
   split at h
   ·rename_i hs;cases h;subst hs;simp
   ·exact List.mem_cons_of_mem _ (kF h)
  | r _ _ _=>exact List.mem_cons_of_mem _ (kF h)
  | x _ _=>exact List.mem_cons_of_mem _ (kF h)
  | n _ _=>exact List.mem_cons_of_mem _ (kF h)
  | i _ _=>exact List.mem_cons_of_mem _ (kF h)
  | w _ _=>exact List.mem_cons_of_mem _ (kF h)
  | tx _ _=>exact List.mem_cons_of_mem _ (kF h)
  | ln _ _=>exact List.mem_cons_of_mem _ (kF h)
  | z _ _ _=>exact List.mem_cons_of_mem _ (kF h)
theorem kG {n:Nat} {e:RE} {k:Nat}:∀ {db:List Fc},qA db n=some (e,k)→.r n e k∈db
 | [],h=>by simp [qA] at h
 | f :: r,h=>by
  cases f with
  | r s e' k' =>
   simp only [qA] at h
   split at h
   ·rename_i hs;cases h;subst hs;simp
   ·exact List.mem_cons_of_mem _ (kG h)
  | q _ _ _=>exact List.mem_cons_of_mem _ (kG h)
  | x _ _=>exact List.mem_cons_of_mem _ (kG h)
  | n _ _=>exact List.mem_cons_of_mem _ (kG h)
  | i _ _=>exact List.mem_cons_of_mem _ (kG h)
  | w _ _=>exact List.mem_cons_of_mem _ (kG h)
  | tx _ _=>exact List.mem_cons_of_mem _ (kG h)
  | ln _ _=>exact List.mem_cons_of_mem _ (kG h)
  | z _ _ _=>exact List.mem_cons_of_mem _ (kG h)
def fF (db:List Fc):List Cell→Option (RE×Nat)
 | [.ob a,.ou b,.os c,.ou d,.os e]=>if a=b && a=c && a+1=d && a+1=e then qy db a else none
 | [.bl false,.it .u64 0,.nils,.it .u64 0,.nils]=>some (.c 0,1)
 | _=>none
theorem iC {β:Nat→Rat} {ρ:Env} {W:World} {db:List Fc} {cs:List Cell} {e:RE} {k:Nat} (h:fF db cs=some (e,k)) (hf:∀ f∈db,(SQ β).on ρ f W) :
  (IsQ W (.agg (cs.map (Cell.den ρ)).toArray) (e.ev β)∧Fits k (e.ev β))∧∃ c d:Nv,.agg (cs.map (Cell.den ρ)).toArray=qv c d:=by
 unfold fF at h
 split at h
 ·rename_i a b c d g
  split at h
  ·rename_i hh
   simp only [Bool.and_eq_true,decide_eq_true_eq] at hh
   obtain ⟨⟨⟨rfl,rfl⟩,rfl⟩,rfl⟩:=hh
   have:=hf _ (kF h)
   exact ⟨this,Ah this.1⟩
  ·cases h
 ·cases h
  refine ⟨⟨?_,fits_int (by decide) (by decide)⟩,⟨false,0,none,0,0,.empty,0,default⟩,⟨false,0,none,0,0,.empty,0,default⟩,rfl⟩
  exact ug W
 ·cases h
def xJ (db:List Fc) (cs:List Cell):Option ((RE×Nat)×RE×Nat):=
 match fF db (cs.take 5),fF db (cs.drop 5) with
 | some x,some y=>some (x,y)
 | _,_=>none
theorem PY {β:Nat→Rat} {ρ:Env} {W:World} {db:List Fc} {cs:List Cell} {e e':RE} {k k':Nat} (h:xJ db cs=some ((e,k),e',k')) (hf:∀ f∈db,(SQ β).on ρ f W) :
  H6 (e.ev β) (e'.ev β) (.agg (cs.map (Cell.den ρ)).toArray) W∧Fits k (e.ev β)∧Fits k' (e'.ev β):=by
 unfold xJ at h
 split at h
 ·rename_i x y h1 h2
  cases h
  obtain ⟨h3,c,d,e3⟩:=iC h1 hf
  obtain ⟨h4,c',d',e4⟩:=iC h2 hf
  refine ⟨?_,h3.2,h4.2⟩
  rw [e3] at h3
  rw [e4] at h4
  have hl:(cs.map (Cell.den ρ))=((cs.take 5).map (Cell.den ρ)) ++ ((cs.drop 5).map (Cell.den ρ)):=by rw [← List.map_append,List.take_append_drop]
  have e3':(cs.take 5).map (Cell.den ρ)=[.bool c.b,.int .u64 c.u,.slice c.p c.l c.c,.int .u64 d.u,.slice d.p d.l d.c]:=by
   have:=Value.agg.inj e3
   simpa using congrArg Array.toList this
  have e4':(cs.drop 5).map (Cell.den ρ)=[.bool c'.b,.int .u64 c'.u,.slice c'.p c'.l c'.c,.int .u64 d'.u,.slice d'.p d'.l d'.c]:=by
   have:=Value.agg.inj e4
   simpa using congrArg Array.toList this
  rw [hl,e3',e4']
  exact ⟨_,_,_,_,_,_,_,_,_,_,_,_,_,_,_,_,_,_,rfl,h3.1,h4.1⟩
 ·cases h
section
variable {β:Nat→Rat}
def xX (β:Nat→Rat) (f:FuncId) (op:RE→RE) (sz:Nat→Nat):Con (SQ β) where
 fn:=f
 app:=fun db b args=>match args with
  | [.e (.a x)]=>match fF db x with
   | some (e,k)=>if k≤K0 then some (.e (.a (aO b)),[.q b (op e) (sz k)]) else none
   | none=>none
  | _=>none
theorem IY {f:FuncId} {op:RE→RE} {sz:Nat→Nat} (h:∀ e k v W,k≤K0→IsQ W v (e.ev β)→Fits k (e.ev β)→EV W→Calls Tryz.prog f #[v] W (bC W ((op e).ev β))∧Fits (sz k) ((op e).ev β)):(xX β f op sz).Ok Tryz.prog (SQ β) EV:=by
 refine Con.ok0 rfl ?_
 intro db b args res new ha ρ W hf hE
 simp only [xX] at ha
 split at ha
 ·rename_i x
  split at ha
  ·rename_i e k hx
   split at ha
   ·rename_i hk
    cases ha
    obtain ⟨⟨h1,h2⟩,-⟩:=iC hx hf
    obtain ⟨h3,h4⟩:=h e k _ W hk h1 h2 hE
    exact vH h3 h4
   ·cases ha
  ·cases ha
 ·cases ha
def sQ (β:Nat→Rat) (f:FuncId) (op:RE→RE→RE) (sz:Nat→Nat→Nat) (side:RE→RE→Bool):Con (SQ β) where
 fn:=f
 app:=fun db b args=>match args with
  | [.e (.a x),.e (.a y)]=>match fF db x,fF db y with
   | some (e,k),some (e',k')=>if decide (k≤K0) && decide (k'≤K0) && side e e' then some (.e (.a (aO b)),[.q b (op e e') (sz k k')]) else none
   | _,_=>none
  | _=>none
theorem xY {f:FuncId} {op:RE→RE→RE} {sz:Nat→Nat→Nat} {side:RE→RE→Bool} (h:∀ e e' k k' v v' W,k≤K0→k'≤K0→side e e' = true→IsQ W v (e.ev β)→Fits k (e.ev β)→IsQ W v' (e'.ev β)→Fits k' (e'.ev β)→EV W→Calls Tryz.prog f #[v,v'] W (bC W ((op e e').ev β))∧Fits (sz k k') ((op e e').ev β)):(sQ β f op sz side).Ok Tryz.prog (SQ β) EV:=by
 refine Con.ok0 rfl ?_
 intro db b args res new ha ρ W hf hE
 simp only [sQ] at ha
 split at ha
 ·rename_i x y
  split at ha
  ·rename_i e k e' k' hx hy
   split at ha
   ·rename_i hk
    simp only [Bool.and_eq_true,decide_eq_true_eq] at hk
    cases ha
    obtain ⟨⟨h1,h2⟩,-⟩:=iC hx hf
    obtain ⟨⟨h1',h2'⟩,-⟩:=iC hy hf
    obtain ⟨h3,h4⟩:=h e e' k k' _ _ W hk.1.1 hk.1.2 hk.2 h1 h2 h1' h2' hE
    exact vH h3 h4
   ·cases ha
  ·cases ha
 ·cases ha
variable (β) (h:Hint)
def nzB (h:Hint) (e:RE):Bool:=h.nz.any fun p=>p.beq e
def sgB (h:Hint) (e:RE):Option Int:=(h.sg.find? fun p=>p.1.beq e).map (·.2)
def cmB (h:Hint) (e e':RE):Option Int:=if eqB h e e' then some 0 else (h.cm.find? fun p=>p.1.beq e && p.2.1.beq e').map (·.2.2)
def CY:Con (SQ β) where
 fn:=10
 app:=fun db b args=>match args with
  | [.e (.a x),.e (.a y)]=>match fF db x,fF db y with
   | some (e,k),some (e',k')=>if decide (k≤K0) && decide (k'≤K0) then
     if nzB h e' then some (.t [.a (aO b),.s (.it .i64 0)],[.q b (.div e e') (k+k' + 1)]) else
     if eqB h e' (.c 0) then some (.t [.a (aO b),.s (.it .i64 9)],[.q b (.div e e') (k+k' + 1)]) else none
    else none
   | _,_=>none
  | _=>none
def DL:Con (SQ β) where
 fn:=7
 app:=fun db _ args=>match args with
  | [.e (.a x)]=>match fF db x with
   | some (e,_)=>match sgB h e with
    | some n=>some (.e (.s (.it .i64 n)),[])
    | none=>none
   | none=>none
  | _=>none
def CU:Con (SQ β) where
 fn:=25
 app:=fun db _ args=>match args with
  | [.e (.a x),.e (.a y)]=>match fF db x,fF db y with
   | some (e,k),some (e',k')=>if decide (k≤K0) && decide (k'≤K0) then (match cmB h e e' with
     | some n=>some (.e (.s (.it .i64 n)),[])
     | none=>none) else none
   | _,_=>none
  | _=>none
def Df:Con (SQ β) where
 fn:=13
 app:=fun _ b args=>match args with
  | [.e (.s (.it .i64 n))]=>if decide (-9223372036854775808≤n) && decide (n≤9223372036854775807) then some (.e (.a (aO b)),[.q b (.c n) 1]) else none
  | _=>none
def cq:List (Con (SQ β)):=[
 sQ β 15 .add (fun a b=>a+b+1) (fun _ _=>true),sQ β 17 .sub (fun a b=>a+b+1) (fun _ _=>true),sQ β 19 .mul (fun a b=>a+b) (fun _ _=>true),
 sQ β 37 .div (fun a b=>a+b+1) (fun _ e=>nzB h e),xX β 21 .neg id,xX β 23 .abs id,CY β h,DL β h,CU β h,Df β]
end
section
variable {β:Nat→Rat} {h:Hint}
theorem jd (ok:h.Ok β) {e:RE} (hh:nzB h e=true):e.ev β≠0:=by
 obtain ⟨p,hp,h1⟩:=List.any_eq_true.1 hh
 rw [← RE.beq_eq h1]
 exact ok.2.2.1 p hp
theorem Gn (ok:h.Ok β) {e:RE} {n:Int} (hh:sgB h e=some n):sgQ (e.ev β)=n:=by
 obtain ⟨p,hp,rfl⟩:=Option.map_eq_some_iff.1 hh
 have h1:=List.find?_some hp
 rw [← RE.beq_eq h1]
 exact ok.2.2.2.1 p (List.mem_of_find?_eq_some hp)
theorem lZ (ok:h.Ok β) {e e':RE} {n:Int} (hh:cmB h e e' = some n):bn (e.ev β) (e'.ev β)=n:=by
 unfold cmB at hh
 split at hh
 ·rename_i he
  cases hh
  rw [kD ok he]
  unfold bn
  simp
 ·obtain ⟨p,hp,rfl⟩:=Option.map_eq_some_iff.1 hh
  have h1:=List.find?_some hp
  simp only [Bool.and_eq_true] at h1
  rw [← RE.beq_eq h1.1,← RE.beq_eq h1.2]
  exact ok.2.2.2.2 p (List.mem_of_find?_eq_some hp)
theorem QI (ok:h.Ok β):(CY β h).Ok Tryz.prog (SQ β) EV:=by
 refine Con.ok0 rfl ?_
 intro db b args res new ha ρ W hf hE
 simp only [CY] at ha
 split at ha
 ·split at ha
  ·rename_i e k e' k' hx hy
   split at ha
   ·rename_i hk
    simp only [Bool.and_eq_true,decide_eq_true_eq] at hk
    obtain ⟨⟨h1,h2⟩,-⟩:=iC hx hf
    obtain ⟨⟨h1',h2'⟩,-⟩:=iC hy hf
    have hc:=OT _ _ _ _ (max k k') W h1 h1' (by simp only [K0] at hk;omega) (h2.mono (Nat.le_max_left _ _)) (h2'.mono (Nat.le_max_right _ _)) hE.tz
    split at ha
    ·rename_i hn
     cases ha
     rw [if_neg (jd ok hn)] at hc
     exact su (e:=.div e e') hc (h2.over h2')
    ·split at ha
     ·rename_i hn
      cases ha
      rw [if_pos (show e'.ev β=0 from (kD ok hn).trans rfl)] at hc
      exact su (e:=.div e e') hc (h2.over h2')
     ·cases ha
   ·cases ha
  ·cases ha
 ·cases ha
theorem Rh (ok:h.Ok β):(DL β h).Ok Tryz.prog (SQ β) EV:=by
 refine Con.ok0 rfl ?_
 intro db b args res new ha ρ W hf hE
 simp only [DL] at ha
 split at ha
 ·split at ha
  ·rename_i e k hx
   split at ha
   ·rename_i n hn
    cases ha
    obtain ⟨⟨h1,h2⟩,-⟩:=iC hx hf
    have hc:=H7 _ _ W h1
    rw [Gn ok hn] at hc
    exact lW hc rfl
   ·cases ha
  ·cases ha
 ·cases ha
theorem QE (ok:h.Ok β):(CU β h).Ok Tryz.prog (SQ β) EV:=by
 refine Con.ok0 rfl ?_
 intro db b args res new ha ρ W hf hE
 simp only [CU] at ha
 split at ha
 ·split at ha
  ·rename_i e k e' k' hx hy
   split at ha
   ·rename_i hk
    simp only [Bool.and_eq_true,decide_eq_true_eq] at hk
    split at ha
    ·rename_i n hn
     cases ha
     obtain ⟨⟨h1,h2⟩,-⟩:=iC hx hf
     obtain ⟨⟨h1',h2'⟩,-⟩:=iC hy hf
     have hc:=xg _ _ _ _ (max k k') W h1 h1' (by simp only [K0] at hk;omega) (h2.mono (Nat.le_max_left _ _)) (h2'.mono (Nat.le_max_right _ _))
     rw [lZ ok hn] at hc
     exact lW hc rfl
    ·cases ha
   ·cases ha
  ·cases ha
 ·cases ha
theorem QK:(Df β).Ok Tryz.prog (SQ β) EV:=by
 refine Con.ok0 rfl ?_
 intro db b args res new ha ρ W hf hE
 simp only [Df] at ha
 split at ha
 ·rename_i n
  split at ha
  ·rename_i hk
   simp only [Bool.and_eq_true,decide_eq_true_eq] at hk
   cases ha
   exact vH (e:=.c n) (A8 n hk.1 (by omega) W) (fits_int hk.1 hk.2)
  ·cases ha
 ·cases ha
theorem JI {k:Nat} {r:Rat} (h:Fits k r):Fits k (if r.num<0 then -r else r):=by
 split
 ·exact h.neg
 ·exact h
theorem DY (ok:h.Ok β):∀ c∈cq β h,c.Ok Tryz.prog (SQ β) EV:=by
 have hmax:∀ {k k':Nat} {r:Rat},Fits k r→Fits (max k k') r:=fun h=>h.mono (Nat.le_max_left _ _)
 have hmax':∀ {k k':Nat} {r:Rat},Fits k' r→Fits (max k k') r:=fun h=>h.mono (Nat.le_max_right _ _)
 unfold cq
 simp only [List.forall_mem_cons,List.not_mem_nil,false_imp_iff,implies_true,and_true]
 refine ⟨xY fun e e' k k' v v' W hk hk' _ h1 h2 h3 h4 hE=>⟨rW _ _ v v' (max k k') W h1 h3 (by simp only [K0] at hk hk';omega) (hmax h2) (hmax' h4) hE.tz,h2.plus h4⟩,
  xY fun e e' k k' v v' W hk hk' _ h1 h2 h3 h4 hE=>⟨vC _ _ v v' (max k k') W h1 h3 (by simp only [K0] at hk hk';omega) (hmax h2) (hmax' h4) hE.tz,h2.minus h4⟩,
  xY fun e e' k k' v v' W hk hk' _ h1 h2 h3 h4 hE=>⟨nK _ _ v v' (max k k') W h1 h3 (by simp only [K0] at hk hk';omega) (hmax h2) (hmax' h4) hE.tz,h2.mul h4⟩,
  xY fun e e' k k' v v' W hk hk' hn h1 h2 h3 h4 hE=>⟨rX _ _ v v' (max k k') W h1 h3 (by simp only [K0] at hk hk';omega) (jd ok hn) (hmax h2) (hmax' h4) hE.tz,h2.over h4⟩,
  IY fun e k v W _ h1 h2 _=>⟨Ht _ v W h1,h2.neg⟩,
  IY fun e k v W _ h1 h2 _=>⟨AY _ v W h1,JI h2⟩,QI ok,Rh ok,QE ok,QK⟩
end
end Rx
end
namespace Rx
open Go.RowKit
theorem bP (β:Nat→Rat):Hint.Ok β {}:=⟨fun p h=>(by cases h),fun p h=>(by cases h),fun p h=>(by cases h),fun p h=>(by cases h),fun p h=>(by cases h)⟩
section
variable {β:Nat→Rat} {h:Hint} {ok:h.Ok β} {cons:List (Con (SQ β))} {fuel:Nat} {f:FuncId} {args:List SV} {fs:List Fc} {b:Nat} {ρ:Env} {w:World}
def EM (e e':RE):Option (SV×List Fc)→Bool
 | some (.e (.a cs),fs)=>match xJ fs cs with
  | some ((x,_),y,_)=>x.beq e && y.beq e'
  | none=>false
 | _=>false
def isB (x:Bool):Option (SV×List Fc)→Bool
 | some (.e (.s (.bl y)),_)=>x == y
 | _=>false
def isI (x:Int):Option (SV×List Fc)→Bool
 | some (.e (.s (.it .i64 y)),_)=>x == y
 | _=>false
theorem Va {e e':RE} {o:Option (SV×List Fc)} (h:EM e e' o=true):∃ cs fs k k',o=some (.e (.a cs),fs)∧xJ fs cs=some ((e,k),e',k'):=by
 unfold EM at h
 split at h
 ·split at h
  ·rename_i cs fs _ x k y k' ha
   simp only [Bool.and_eq_true] at h
   exact ⟨cs,fs,k,k',rfl,by rw [ha,RE.beq_eq h.1,RE.beq_eq h.2]⟩
  ·cases h
 ·cases h
theorem zh {x:Bool} {o:Option (SV×List Fc)} (h:isB x o=true):∃ fs,o=some (.e (.s (.bl x)),fs):=by
 unfold isB at h
 split at h
 ·rename_i y fs
  have e:x=y:=by simpa using h
  subst e;exact ⟨fs,rfl⟩
 ·cases h
theorem aY {w:World} (hE:EV w):∀ W,Below w.heap.size w W→EV W:=fun _ hb=>Env.below hE hb (Nat.le_refl _)
theorem Y2 {e e':RE} (hc:∀ c∈cons,c.Ok Tryz.prog (SQ β) EV) (hr:EM e e' (bg Tryz.prog (SQ β) (HQ β h ok) cons fuel f args fs b)=true) (hE:EV w) (hf:∀ g∈fs,Fc.on β ρ g w):Calls Tryz.prog f (args.map (SV.den ρ)).toArray w (Bj w (e.ev β) (e'.ev β)):=by
 obtain ⟨cs,fs',k,k',heq,ha⟩:=Va hr
 exact (iw mixed hc heq (aY hE) hf).mono fun x W' ⟨ρ',_,hx,hb,hfs⟩=>⟨_,hx,(PY ha hfs).1,hb⟩
theorem YL {y:Bool} (hc:∀ c∈cons,c.Ok Tryz.prog (SQ β) EV) (hr:isB y (bg Tryz.prog (SQ β) (HQ β h ok) cons fuel f args fs b)=true) (hE:EV w) (hf:∀ g∈fs,Fc.on β ρ g w):Calls Tryz.prog f (args.map (SV.den ρ)).toArray w (aX w (.bool y)):=by
 obtain ⟨fs',heq⟩:=zh hr
 exact (iw mixed hc heq (aY hE) hf).mono fun x W' ⟨ρ',_,hx,hb,_⟩=>⟨hx,hb⟩
end
def bet (L:List Rat):Nat→Rat:=fun n=>L.getD n 0
def qq (c d:Nv):List Nv:=[c,d]
def ev (L:List Nv):Env:=fun n=>L.getD n default
abbrev K1:Nat:=1048576
abbrev pr (s:Nat):SV:=.e (.a (aO s ++ aO (s+2)))
abbrev pq (s i:Nat):List Fc:=[.q s (.v i) K1,.q (s+2) (.v (i+1)) K1]
section
variable {a b c d:Rat} {v1 v2:Value} {W:World}
end
end Rx
namespace Rx
open Go.RowKit
theorem intCast_inj {a b:Int} (h:(a:Rat)=(b:Rat)):a=b:=by exact_mod_cast h
def inK:IntKind→Int→Bool
 | .i64,x=>decide (-9223372036854775808≤x) && decide (x≤9223372036854775807)
 | .u64,x=>decide (0≤x) && decide (x≤18446744073709551615)
 | .u8,x=>decide (0≤x) && decide (x≤255)
 | _,_=>false
def arI (op:BinOp) (k:IntKind) (a b:Int):Option Int:=match op with
 | .add=>some (k.wrap (a+b))
 | .sub=>some (k.wrap (a - b))
 | .quo=>if b=0 then none else some (k.wrap (a.tdiv b))
 | .rem=>if b=0 then none else some (a.tmod b)
 | _=>none
theorem YK {P:Program} {op:BinOp} {k:IntKind} {a b c:Int} {T:TypeId} {w:World} (h:arI op k a b=some c):(binOp op T (.int k a) (.int k b)).run P w=.ok (.int k c) w:=by
 cases op <;> simp only [arI] at h <;> try (cases h;done)
 all_goals first
  | (cases h;simp [binOp,Op.intArith,pure];done)
  | (split at h;(cases h);(rename_i hb;cases h;simp [binOp,Op.intDiv,hb,pure]))
structure Ari where
 cv:List (IntKind×RE×RE):=[]
 ar:List (BinOp×IntKind×RE×RE×RE):=[]
 gt:List (RE×RE×Bool):=[]
def Ari.Ok (β:Nat→Rat) (T:Ari):Prop:=
 (∀ p∈T.cv,∀ x:Int,(x:Rat)=p.2.1.ev β→inK p.1 (p.1.wrap x)=true∧((p.1.wrap x:Int):Rat)=p.2.2.ev β) ∧
 (∀ p∈T.ar,∀ x y:Int,(x:Rat)=p.2.2.1.ev β→(y:Rat)=p.2.2.2.1.ev β→∃ z:Int,arI p.1 p.2.1 x y=some z∧inK p.2.1 z=true∧(z:Rat)=p.2.2.2.2.ev β) ∧
 (∀ p∈T.gt,∀ x y:Int,(x:Rat)=p.1.ev β→(y:Rat)=p.2.1.ev β→decide (x > y)=p.2.2)
def tN:List Fc→Nat→Option RE
 | [],_=>none
 | .w s e :: r,n=>if s=n then some e else tN r n
 | _ :: r,n=>tN r n
theorem lF {n:Nat} {e:RE}:∀ {db:List Fc},tN db n=some e→.w n e∈db
 | [],h=>by simp [tN] at h
 | f :: r,h=>by
  cases f with
  | w s e' =>
   simp only [tN] at h
   split at h
   ·rename_i hs;cases h;subst hs;simp
   ·exact List.mem_cons_of_mem _ (lF h)
  | q _ _ _=>exact List.mem_cons_of_mem _ (lF h)
  | r _ _ _=>exact List.mem_cons_of_mem _ (lF h)
  | x _ _=>exact List.mem_cons_of_mem _ (lF h)
  | n _ _=>exact List.mem_cons_of_mem _ (lF h)
  | i _ _=>exact List.mem_cons_of_mem _ (lF h)
  | z _ _ _=>exact List.mem_cons_of_mem _ (lF h)
  | tx _ _=>exact List.mem_cons_of_mem _ (lF h)
  | ln _ _=>exact List.mem_cons_of_mem _ (lF h)
def opN (db:List Fc):Cell→Option (IntKind×RE)
 | .oi a=>(jE db a).map fun e=>(.i64,e)
 | .ou a=>(tN db a).map fun e=>(.u64,e)
 | .o8 a=>(jE db a).map fun e=>(.u8,e)
 | .it k n=>some (k,.c n)
 | _=>none
def mkN (b:Nat) (e:RE):IntKind→Option (Cell×List Fc)
 | .i64=>some (.oi b,[.i b e])
 | .u64=>some (.ou b,[.w b e])
 | .u8=>match e with
  | .c n=>some (.it .u8 n,[])
  | e=>some (.o8 b,[.i b e])
 | _=>none
section
variable {β:Nat→Rat} {db:List Fc} {ρ:Env} {W:World}
theorem oV {c:Cell} {k:IntKind} {e:RE} (h:opN db c=some (k,e)) (hf:∀ f∈db,Fc.on β ρ f W):∃ x:Int,c.den ρ=.int k x∧(x:Rat)=e.ev β:=by
 unfold opN at h
 split at h
 ·obtain ⟨e',he,h1⟩:=Option.map_eq_some_iff.1 h
  cases h1
  obtain ⟨-,-,h2⟩:=(show Fc.on β ρ (.i _ e) W from hf _ (iE he))
  exact ⟨_,rfl,h2⟩
 ·obtain ⟨e',he,h1⟩:=Option.map_eq_some_iff.1 h
  cases h1
  obtain ⟨-,-,h2⟩:=(show Fc.on β ρ (.w _ e) W from hf _ (lF he))
  exact ⟨_,rfl,h2⟩
 ·obtain ⟨e',he,h1⟩:=Option.map_eq_some_iff.1 h
  cases h1
  obtain ⟨-,-,h2⟩:=(show Fc.on β ρ (.i _ e) W from hf _ (iE he))
  exact ⟨_,rfl,h2⟩
 ·cases h
  exact ⟨_,rfl,rfl⟩
 ·cases h
theorem KU {b:Nat} {e:RE} {k:IntKind} {r:Cell} {new:List Fc} (h:mkN b e k=some (r,new)) {z:Int} (hk:inK k z=true) (hz:(z:Rat)=e.ev β) {ρ':Env} (hb:(ρ' b).u=z):r.den ρ' = .int k z∧∀ f∈new,Fc.on β ρ' f W:=by
 unfold mkN at h
 split at h
 ·cases h
  simp only [inK,Bool.and_eq_true,decide_eq_true_eq] at hk
  refine ⟨by simp only [Cell.den,hb],fun f hf=>?_⟩
  obtain rfl:=List.mem_singleton.1 hf
  exact ⟨by rw [hb];exact hk.1,by rw [hb];exact hk.2,by rw [hb];exact hz⟩
 ·cases h
  simp only [inK,Bool.and_eq_true,decide_eq_true_eq] at hk
  refine ⟨by simp only [Cell.den,hb],fun f hf=>?_⟩
  obtain rfl:=List.mem_singleton.1 hf
  exact ⟨by rw [hb];exact hk.1,by rw [hb];exact hk.2,by rw [hb];exact hz⟩
 ·split at h
  ·cases h
   have hz':z=_:=intCast_inj hz
   exact ⟨by rw [hz'];rfl,fun f hf=>by cases hf⟩
  ·cases h
   simp only [inK,Bool.and_eq_true,decide_eq_true_eq] at hk
   refine ⟨by simp only [Cell.den,hb],fun f hf=>?_⟩
   obtain rfl:=List.mem_singleton.1 hf
   exact ⟨by rw [hb];omega,by rw [hb];omega,by rw [hb];exact hz⟩
 ·cases h
def gtN (T:Ari) (db:List Fc) (c d:Cell):Option Bool:=match opN db c,opN db d with
 | some (k,e),some (k',e')=>if k=k' then (T.gt.find? fun p=>p.1.beq e && p.2.1.beq e').map (·.2.2) else none
 | _,_=>none
def arN (T:Ari) (db:List Fc) (op:BinOp) (c d:Cell) (b:Nat):Option (Cell×List Fc):=match opN db c,opN db d with
 | some (k,e),some (k',e')=>if k=k' then (match T.ar.find? fun p=>decide (p.1=op) && decide (p.2.1=k) && p.2.2.1.beq e && p.2.2.2.1.beq e' with
  | some p=>mkN b p.2.2.2.2 k
  | none=>none) else none
 | _,_=>none
def cvN (T:Ari) (db:List Fc) (k:IntKind) (c:Cell) (b:Nat):Option (Cell×List Fc):=match opN db c with
 | some (_,e)=>match T.cv.find? fun p=>decide (p.1=k) && p.2.1.beq e with
  | some p=>mkN b p.2.2 k
  | none=>none
 | none=>none
end
def HAr (β:Nat→Rat) (h:Hint) (ok:h.Ok β) (T:Ari) (okT:T.Ok β):Tests (SQ β):=
 { HQ β h ok with
  gt:=gtN T
  gok:=fun {fs c d x} hh ρ W hf=>by
   unfold gtN at hh
   split at hh
   ·rename_i k e k' e' h1 h2
    split at hh
    ·rename_i hk
     subst hk
     obtain ⟨p,hp,rfl⟩:=Option.map_eq_some_iff.1 hh
     obtain ⟨x1,g1,g2⟩:=oV (β:=β) h1 hf
     obtain ⟨x2,g3,g4⟩:=oV (β:=β) h2 hf
     have hs:=List.find?_some hp
     simp only [Bool.and_eq_true] at hs
     exact ⟨k,x1,x2,g1,g3,okT.2.2 p (List.mem_of_find?_eq_some hp) x1 x2 (by rw [RE.beq_eq hs.1];exact g2) (by rw [RE.beq_eq hs.2];exact g4)⟩
    ·cases hh
   ·cases hh
  ar:=arN T
  arOk:=fun {db op c d r b new} hh ρ W hf=>by
   unfold arN at hh
   split at hh
   ·rename_i k e k' e' h1 h2
    split at hh
    ·rename_i hk
     subst hk
     split at hh
     ·rename_i p hp
      obtain ⟨x1,g1,g2⟩:=oV (β:=β) h1 hf
      obtain ⟨x2,g3,g4⟩:=oV (β:=β) h2 hf
      have hs:=List.find?_some hp
      simp only [Bool.and_eq_true,decide_eq_true_eq] at hs
      obtain ⟨z,z1,z2,z3⟩:=okT.2.1 p (List.mem_of_find?_eq_some hp) x1 x2 (by rw [RE.beq_eq hs.1.2];exact g2) (by rw [RE.beq_eq hs.2];exact g4)
      rw [hs.1.1.1,hs.1.1.2] at z1
      rw [hs.1.1.2] at z2
      exact ⟨k,x1,x2,z,g1,g3,fun P T w=>YK z1,fun ρ' _ hb=>KU hh z2 z3 hb⟩
     ·cases hh
    ·cases hh
   ·cases hh
  cv:=cvN T
  cvOk:=fun {db k' c r b new} hh ρ W hf=>by
   unfold cvN at hh
   split at hh
   ·rename_i k e h1
    split at hh
    ·rename_i p hp
     obtain ⟨x1,g1,g2⟩:=oV (β:=β) h1 hf
     have hs:=List.find?_some hp
     simp only [Bool.and_eq_true,decide_eq_true_eq] at hs
     obtain ⟨z1,z2⟩:=okT.1 p (List.mem_of_find?_eq_some hp) x1 (by rw [RE.beq_eq hs.2];exact g2)
     rw [hs.1] at z1 z2
     exact ⟨k,x1,g1,fun ρ' _ hb=>KU hh z1 z2 hb⟩
    ·cases hh
   ·cases hh }
def dH (β:Nat→Rat) (L:List (RE×RE)):Prop:=∀ p∈L,∀ x:Int,(x:Rat)=p.1.ev β→-9223372036854775808≤x+1∧x+1≤9223372036854775807∧((x+1:Int):Rat)=p.2.ev β
def ED (L:List (RE×RE)) (db:List Fc) (a:Nat) (m:Int) (b:Nat):Option (List Fc):=if m=1 then (match jE db a with
 | some e=>(L.find? fun p=>p.1.beq e).map fun p=>[.i b p.2]
 | none=>none) else none
theorem UG {β:Nat→Rat} {L:List (RE×RE)} (okL:dH β L) {db:List Fc} {a:Nat} {m:Int} {b:Nat} {new:List Fc} (hh:ED L db a m b=some new) (ρ:Env) (W:World) (hf:∀ f∈db,Fc.on β ρ f W):IntKind.i64.wrap ((ρ a).u+m)=(ρ a).u+m∧∀ ρ':Env,(∀ n,n≠b→ρ' n=ρ n)→(ρ' b).u=(ρ a).u+m→∀ f∈new,Fc.on β ρ' f W:=by
 unfold ED at hh
 split at hh
 ·rename_i hm
  subst hm
  split at hh
  ·rename_i e hi
   obtain ⟨p,hp,rfl⟩:=Option.map_eq_some_iff.1 hh
   obtain ⟨-,-,i3⟩:=(show Fc.on β ρ (.i _ e) W from hf _ (iE hi))
   have hs:=List.find?_some hp
   rw [← RE.beq_eq hs] at i3
   obtain ⟨g1,g2,g3⟩:=okL p (List.mem_of_find?_eq_some hp) _ i3
   refine ⟨by rw [IntKind.wrap_i64];omega,fun ρ' _ hb f hf=>?_⟩
   obtain rfl:=List.mem_singleton.1 hf
   exact ⟨by rw [hb];exact g1,by rw [hb];exact g2,by rw [hb];exact g3⟩
  ·cases hh
 ·cases hh
end Rx
end Go.Proofs.YtancpaiaoamjlaaGreatDoor
