/- What the proof rests on, part 32. -/
import Derived.Test.YthalajpklaodkaaGreatDoorQ27
import Derived.Test.YthalajpklaodkaaGreatDoorQ15
import Derived.Test.YthalajpklaodkaaGreatDoorQ31
namespace Go.Proofs.YthalajpklaodkaaGreatDoor
set_option maxRecDepth 100000
set_option maxHeartbeats 80000000
namespace Rx
open Go.RowKit
theorem intCast_inj {a b:Int} (h:(a:Rat)=(b:Rat)):a=b:=by exact_mod_cast h
def inK:IntKind→Int→Bool
 | .i64,x=>decide (-9223372036854775808≤x) && decide (x≤9223372036854775807)
 | .u64,x=>decide (0≤x) && decide (x≤18446744073709551615)
 | .u8,x=>decide (0≤x) && decide (x≤255)
 | _,_=>false
def arI (op:BinOp) (k:IntKind) (a b:Int):Option Int:=match op with
 | .add=>some (k.wrap (a+b))
 | .sub=>some (k.wrap (a - b))
 | .quo=>if b=0 then none else some (k.wrap (a.tdiv b))
 | .rem=>if b=0 then none else some (a.tmod b)
 | _=>none
theorem aa6 {P:Program} {op:BinOp} {k:IntKind} {a b c:Int} {T:TypeId} {w:World} (h:arI op k a b=some c):(binOp op T (.int k a) (.int k b)).run P w=.ok (.int k c) w:=by
 cases op <;> simp only [arI] at h <;> try (cases h;done)
 all_goals first
  | (cases h;simp [binOp,Op.intArith,pure];done)
  | (split at h;(cases h);(rename_i hb;cases h;simp [binOp,Op.intDiv,hb,pure]))
structure Ari where
 cv:List (IntKind×RE×RE):=[]
 ar:List (BinOp×IntKind×RE×RE×RE):=[]
 gt:List (RE×RE×Bool):=[]
def Ari.Ok (β:Nat→Rat) (T:Ari):Prop:=
 (∀ p∈T.cv,∀ x:Int,(x:Rat)=p.2.1.ev β→inK p.1 (p.1.wrap x)=true∧((p.1.wrap x:Int):Rat)=p.2.2.ev β) ∧
 (∀ p∈T.ar,∀ x y:Int,(x:Rat)=p.2.2.1.ev β→(y:Rat)=p.2.2.2.1.ev β→∃ z:Int,arI p.1 p.2.1 x y=some z∧inK p.2.1 z=true∧(z:Rat)=p.2.2.2.2.ev β) ∧
 (∀ p∈T.gt,∀ x y:Int,(x:Rat)=p.1.ev β→(y:Rat)=p.2.1.ev β→decide (x > y)=p.2.2)
def tJ:List Fc→Nat→Option RE
 | [],_=>none
 | .w s e :: r,n=>if s=n then some e else tJ r n
 | _ :: r,n=>tJ r n
theorem oI {n:Nat} {e:RE}:∀ {db:List Fc},tJ db n=some e→.w n e∈db
 | [],h=>by simp [tJ] at h
 | f :: r,h=>by
  cases f with
  | w s e' =>
   simp only [tJ] at h
   split at h
   ·rename_i hs;cases h;subst hs;simp
   ·exact List.mem_cons_of_mem _ (oI h)
  | q _ _ _=>exact List.mem_cons_of_mem _ (oI h)
  | r _ _ _=>exact List.mem_cons_of_mem _ (oI h)
  | x _ _=>exact List.mem_cons_of_mem _ (oI h)
  | n _ _=>exact List.mem_cons_of_mem _ (oI h)
  | i _ _=>exact List.mem_cons_of_mem _ (oI h)
  | z _ _ _=>exact List.mem_cons_of_mem _ (oI h)
def opN (db:List Fc):Cell→Option (IntKind×RE)
 | .oi a=>(dU db a).map fun e=>(.i64,e)
 | .ou a=>(tJ db a).map fun e=>(.u64,e)
 | .o8 a=>(dU db a).map fun e=>(.u8,e)
 | .it k n=>some (k,.c n)
 | _=>none
def mkN (b:Nat) (e:RE):IntKind→Option (Cell×List Fc)
 | .i64=>some (.oi b,[.i b e])
 | .u64=>some (.ou b,[.w b e])
 | .u8=>match e with
  | .c n=>some (.it .u8 n,[])
  | _=>none
 | _=>none
section
variable {β:Nat→Rat} {db:List Fc} {ρ:Env} {W:World}
theorem wH {c:Cell} {k:IntKind} {e:RE} (h:opN db c=some (k,e)) (hf:∀ f∈db,Fc.on β ρ f W):∃ x:Int,c.den ρ=.int k x∧(x:Rat)=e.ev β:=by
 unfold opN at h
 split at h
 ·obtain ⟨e',he,h1⟩:=Option.map_eq_some_iff.1 h
  cases h1
  obtain ⟨-,-,h2⟩:=(show Fc.on β ρ (.i _ e) W from hf _ (dM he))
  exact ⟨_,rfl,h2⟩
 ·obtain ⟨e',he,h1⟩:=Option.map_eq_some_iff.1 h
  cases h1
  obtain ⟨-,-,h2⟩:=(show Fc.on β ρ (.w _ e) W from hf _ (oI he))
  exact ⟨_,rfl,h2⟩
 ·obtain ⟨e',he,h1⟩:=Option.map_eq_some_iff.1 h
  cases h1
  obtain ⟨-,-,h2⟩:=(show Fc.on β ρ (.i _ e) W from hf _ (dM he))
  exact ⟨_,rfl,h2⟩
 ·cases h
  exact ⟨_,rfl,rfl⟩
 ·cases h
theorem L8 {b:Nat} {e:RE} {k:IntKind} {r:Cell} {new:List Fc} (h:mkN b e k=some (r,new)) {z:Int} (hk:inK k z=true) (hz:(z:Rat)=e.ev β) {ρ':Env} (hb:(ρ' b).u=z):r.den ρ' = .int k z∧∀ f∈new,Fc.on β ρ' f W:=by
 unfold mkN at h
 split at h
 ·cases h
  simp only [inK,Bool.and_eq_true,decide_eq_true_eq] at hk
  refine ⟨by simp only [Cell.den,hb],fun f hf=>?_⟩
  obtain rfl:=List.mem_singleton.1 hf
  exact ⟨by rw [hb];exact hk.1,by rw [hb];exact hk.2,by rw [hb];exact hz⟩
 ·cases h
  simp only [inK,Bool.and_eq_true,decide_eq_true_eq] at hk
  refine ⟨by simp only [Cell.den,hb],fun f hf=>?_⟩
  obtain rfl:=List.mem_singleton.1 hf
  exact ⟨by rw [hb];exact hk.1,by rw [hb];exact hk.2,by rw [hb];exact hz⟩
 ·split at h
  ·cases h
   have hz':z=_:=intCast_inj hz
   exact ⟨by rw [hz'];rfl,fun f hf=>by cases hf⟩
  ·cases h
 ·cases h
def gtN (T:Ari) (db:List Fc) (c d:Cell):Option Bool:=match opN db c,opN db d with
 | some (k,e),some (k',e')=>if k=k' then (T.gt.find? fun p=>p.1.beq e && p.2.1.beq e').map (·.2.2) else none
 | _,_=>none
def arN (T:Ari) (db:List Fc) (op:BinOp) (c d:Cell) (b:Nat):Option (Cell×List Fc):=match opN db c,opN db d with
 | some (k,e),some (k',e')=>if k=k' then (match T.ar.find? fun p=>decide (p.1=op) && decide (p.2.1=k) && p.2.2.1.beq e && p.2.2.2.1.beq e' with
  | some p=>mkN b p.2.2.2.2 k
  | none=>none) else none
 | _,_=>none
def cvN (T:Ari) (db:List Fc) (k:IntKind) (c:Cell) (b:Nat):Option (Cell×List Fc):=match opN db c with
 | some (_,e)=>match T.cv.find? fun p=>decide (p.1=k) && p.2.1.beq e with
  | some p=>mkN b p.2.2 k
  | none=>none
 | none=>none
end
def HAr (β:Nat→Rat) (h:Hint) (ok:h.Ok β) (T:Ari) (okT:T.Ok β):Tests (SQ β):=
 { HQ β h ok with
  gt:=gtN T
  gok:=fun {fs c d x} hh ρ W hf=>by
   unfold gtN at hh
   split at hh
   ·rename_i k e k' e' h1 h2
    split at hh
    ·rename_i hk
     subst hk
     obtain ⟨p,hp,rfl⟩:=Option.map_eq_some_iff.1 hh
     obtain ⟨x1,g1,g2⟩:=wH (β:=β) h1 hf
     obtain ⟨x2,g3,g4⟩:=wH (β:=β) h2 hf
     have hs:=List.find?_some hp
     simp only [Bool.and_eq_true] at hs
     exact ⟨k,x1,x2,g1,g3,okT.2.2 p (List.mem_of_find?_eq_some hp) x1 x2 (by rw [RE.beq_eq hs.1];exact g2) (by rw [RE.beq_eq hs.2];exact g4)⟩
    ·cases hh
   ·cases hh
  ar:=arN T
  arOk:=fun {db op c d r b new} hh ρ W hf=>by
   unfold arN at hh
   split at hh
   ·rename_i k e k' e' h1 h2
    split at hh
    ·rename_i hk
     subst hk
     split at hh
     ·rename_i p hp
      obtain ⟨x1,g1,g2⟩:=wH (β:=β) h1 hf
      obtain ⟨x2,g3,g4⟩:=wH (β:=β) h2 hf
      have hs:=List.find?_some hp
      simp only [Bool.and_eq_true,decide_eq_true_eq] at hs
      obtain ⟨z,z1,z2,z3⟩:=okT.2.1 p (List.mem_of_find?_eq_some hp) x1 x2 (by rw [RE.beq_eq hs.1.2];exact g2) (by rw [RE.beq_eq hs.2];exact g4)
      rw [hs.1.1.1,hs.1.1.2] at z1
      rw [hs.1.1.2] at z2
      exact ⟨k,x1,x2,z,g1,g3,fun P T w=>aa6 z1,fun ρ' _ hb=>L8 hh z2 z3 hb⟩
     ·cases hh
    ·cases hh
   ·cases hh
  cv:=cvN T
  cvOk:=fun {db k' c r b new} hh ρ W hf=>by
   unfold cvN at hh
   split at hh
   ·rename_i k e h1
    split at hh
    ·rename_i p hp
     obtain ⟨x1,g1,g2⟩:=wH (β:=β) h1 hf
     have hs:=List.find?_some hp
     simp only [Bool.and_eq_true,decide_eq_true_eq] at hs
     obtain ⟨z1,z2⟩:=okT.1 p (List.mem_of_find?_eq_some hp) x1 (by rw [RE.beq_eq hs.2];exact g2)
     rw [hs.1] at z1 z2
     exact ⟨k,x1,g1,fun ρ' _ hb=>L8 hh z1 z2 hb⟩
    ·cases hh
   ·cases hh }
end Rx
namespace Rx
open Go.RowKit
def Cell.eqB:Cell→Cell→Bool
 | .bl a,.bl b=>a == b
 | .it k n,.it k' n'=>decide (k=k') && decide (n=n')
 | .st s,.st t=>decide (s=t)
 | .nils,.nils=>true
 | .ob a,.ob b | .ou a,.ou b | .oi a,.oi b | .o8 a,.o8 b | .os a,.os b | .ot a,.ot b=>a == b
 | .ptr k o,.ptr k' o' | .elp k o,.elp k' o'=>k == k' && o == o'
 | .elv n i z,.elv n' i' z'=>n == n' && i == i' && z == z'
 | _,_=>false
theorem Cell.eqB_eq {a b:Cell} (h:a.eqB b=true):a=b:=by
 cases a <;> cases b <;> simp_all [Cell.eqB]
def dz (n:Nat):Int:=bif Nat.ble 900 n then 1 else 0
def Cell.fit (m:Nat→Option Nat):Cell→Option Cell
 | .ob n=>some (match m n with | some k=>.ob k | none=>.bl false)
 | .ou n=>some (match m n with | some k=>.ou k | none=>.it .u64 (dz n))
 | .oi n=>some (match m n with | some k=>.oi k | none=>.it .i64 (dz n))
 | .os n=>some (match m n with | some k=>.os k | none=>.nils)
 | .ptr n o=>(m n).map fun k=>.ptr k o
 | .bl b=>some (.bl b)
 | .it k n=>some (.it k n)
 | .nils=>some .nils
 | _=>none
def iw (m:Nat→Option Nat) (ρ:Env):Env:=fun n=>match m n with
 | some k=>ρ k
 | none=>⟨false,dz n,none,0,0,.empty,0,default⟩
theorem UN {m:Nat→Option Nat} (ρ:Env) {c d:Cell} (h:c.fit m=some d):d.den ρ=c.den (iw m ρ):=by
 cases c with
 | ob n | ou n | oi n | os n =>
  simp only [Cell.fit,Option.some.injEq] at h
  subst h
  simp only [Cell.den,iw]
  cases m n <;> rfl
 | ptr n o =>
  simp only [Cell.fit,Option.map_eq_some_iff] at h
  obtain ⟨k,h1,rfl⟩:=h
  simp only [Cell.den,iw,h1]
 | bl b=>cases h;rfl
 | it k n=>cases h;rfl
 | nils=>cases h;rfl
 | _=>cases h
def yZ (m:Nat→Option Nat) (c d:Cell):Bool:=match c.fit m with
 | some e=>e.eqB d
 | none=>false
theorem Ku {m:Nat→Option Nat} (ρ:Env) {c d:Cell} (h:yZ m c d=true):d.den ρ=c.den (iw m ρ):=by
 unfold yZ at h
 split at h
 ·rename_i e he
  rw [← Cell.eqB_eq h]
  exact UN ρ he
 ·cases h
def qE (m:Nat→Option Nat):List Cell→List Cell→Bool
 | [],[]=>true
 | a :: r,b :: s=>yZ m a b && qE m r s
 | _,_=>false
theorem Kv {m:Nat→Option Nat} (ρ:Env):∀ {a b:List Cell},qE m a b=true→b.map (Cell.den ρ)=a.map (Cell.den (iw m ρ))
 | [],[],_=>rfl
 | a :: r,b :: s,h=>by
  simp only [qE,Bool.and_eq_true] at h
  simp only [List.map_cons]
  rw [Ku ρ h.1,Kv ρ h.2]
 | [],_ :: _,h=>by simp [qE] at h
 | _ :: _,[],h=>by simp [qE] at h
abbrev Pat:=List (Option Cell)
def bV:Pat→(Nat→Value)→Nat→List SV
 | [],_,_=>[]
 | none :: p,u,i=>.o (u i) :: bV p u (i+1)
 | some c :: p,u,i=>.e (.s c) :: bV p u (i+1)
def dP (m:Nat→Option Nat):Pat→List SV→Bool
 | [],[]=>true
 | none :: p,_ :: r=>dP m p r
 | some c :: p,.e (.s d) :: r=>yZ m c d && dP m p r
 | _,_=>false
def bxB (m:Nat→Option Nat) (bx0 bx:List (Nat×TypeId×List Cell)):Bool:=
 bx0.all fun x=>(match m x.1 with
  | some k=>(match lk bx k with
   | some (T,cs)=>decide (T=x.2.1) && qE m x.2.2 cs && bx0.all fun y=>x.1 == y.1 || !(decide (m y.1=some k))
   | none=>false)
  | none=>false)
theorem FC:∀ (p:Pat) (u:Nat→Value) (i:Nat),(bV p u i).length=p.length
 | [],_,_=>rfl
 | none :: p,u,i=>by simp [bV,FC p u]
 | some c :: p,u,i=>by simp [bV,FC p u]
theorem Gl {m:Nat→Option Nat}:∀ {p:Pat} {r:List SV},dP m p r=true→p.length=r.length
 | [],[],_=>rfl
 | none :: p,_ :: r,h=>by simp only [List.length_cons];rw [Gl (p:=p) (r:=r) h]
 | some c :: p,.e (.s d) :: r,h=>by
  simp only [dP,Bool.and_eq_true] at h
  simp only [List.length_cons]
  rw [Gl h.2]
 | [],_ :: _,h=>by simp [dP] at h
 | none :: _,[],h=>by simp [dP] at h
 | some _ :: _,[],h=>by simp [dP] at h
 | some _ :: _,.t _ :: _,h=>by simp [dP] at h
 | some _ :: _,.und :: _,h=>by simp [dP] at h
 | some _ :: _,.o _ :: _,h=>by simp [dP] at h
 | some _ :: _,.e (.a _) :: _,h=>by simp [dP] at h
theorem Gm {m:Nat→Option Nat} {ρ:Env} {u:Nat→Value}:∀ {p:Pat} {r:List SV} {i:Nat},dP m p r=true→(∀ t,u (i+t)=(r.getD t .und).den ρ)→∀ t,u (i+t)=((bV p u i).getD t .und).den (iw m ρ)
 | [],[],i,_,hu,t=>by simpa [bV,SV.den] using hu t
 | none :: p,x :: r,i,h,hu,t=>by
  cases t with
  | zero=>rfl
  | succ t =>
   have:=Gm (p:=p) (r:=r) (i:=i+1) h (fun t=>by have:=hu (t+1);rwa [show i+(t+1)=i+1+t by omega] at this) t
   rw [show i+(t+1)=i+1+t by omega]
   exact this
 | some c :: p,.e (.s d) :: r,i,h,hu,t=>by
  simp only [dP,Bool.and_eq_true] at h
  cases t with
  | zero =>
   exact (hu 0).trans (Ku ρ h.1)
  | succ t =>
   have:=Gm (p:=p) (r:=r) (i:=i+1) h.2 (fun t=>by have:=hu (t+1);rwa [show i+(t+1)=i+1+t by omega] at this) t
   rw [show i+(t+1)=i+1+t by omega]
   exact this
 | [],_ :: _,_,h,_,_=>by simp [dP] at h
 | none :: _,[],_,h,_,_=>by simp [dP] at h
 | some _ :: _,[],_,h,_,_=>by simp [dP] at h
 | some _ :: _,.t _ :: _,_,h,_,_=>by simp [dP] at h
 | some _ :: _,.und :: _,_,h,_,_=>by simp [dP] at h
 | some _ :: _,.o _ :: _,_,h,_,_=>by simp [dP] at h
 | some _ :: _,.e (.a _) :: _,_,h,_,_=>by simp [dP] at h
theorem Aa {k:Nat} {x:TypeId×List Cell}:∀ {bx:List (Nat×TypeId×List Cell)},lk bx k=some x→(k,x)∈bx
 | [],h=>by simp [lk] at h
 | (k',y) :: r,h=>by
  simp only [lk] at h
  split at h
  ·rename_i e;cases h;subst e;simp
  ·exact List.mem_cons_of_mem _ (Aa h)
theorem wQ {S S':Sys} {σ:State S} {p:Pat} {bx0:List (Nat×TypeId×List Cell)} {fs:List S'.F} {base:Nat} {m:Nat→Option Nat} {w0 W:World} {ρ:Env} {a:Act} (hp:dP m p σ.regs=true) (hb:bxB m bx0 σ.bx=true)
  (hs:σ.Says w0 ρ a W) (hf:∀ f∈fs,S'.on (iw m ρ) f W):State.Says (S:=S') ⟨bV p (fun t=>a.tmps.getD t undef) 0,bx0,fs,base⟩ w0 (iw m ρ) a W:=by
 have hb':∀ k T cs,lk bx0 k=some (T,cs)→∃ j cs',m k=some j∧lk σ.bx j=some (T,cs')∧qE m cs cs' = true∧∀ k' x',lk bx0 k' = some x'→k≠k'→m k'≠some j:=fun k T cs h=>by
  have h1:=List.all_eq_true.1 hb _ (Aa h)
  split at h1
  ·rename_i j hj
   split at h1
   ·rename_i T' cs' hl
    simp only [Bool.and_eq_true,decide_eq_true_eq] at h1
    refine ⟨j,cs',hj,by rw [hl,h1.1.1],h1.1.2,fun k' x' h' hne he=>?_⟩
    have h2:=List.all_eq_true.1 h1.2 _ (Aa h')
    simp [hne,he] at h2
   ·cases h1
  ·cases h1
 refine ⟨?_,hs.df,fun t=>?_,hs.bel,fun k T cs h=>?_,fun k k' x x' h h' hne=>?_,hf⟩
 ·rw [hs.sz,← Gl hp];exact (FC _ _ _).symm
 ·have:=Gm (u:=fun t=>a.tmps.getD t undef) (i:=0) hp (fun t=>by rw [Nat.zero_add];exact hs.rg t) t
  rwa [Nat.zero_add] at this
 ·obtain ⟨j,cs',hj,hl,hft,-⟩:=hb' k T cs h
  obtain ⟨h1,h2⟩:=hs.bx _ _ _ hl
  rw [Kv ρ hft] at h2
  simp only [iw,hj] at h2 ⊢
  exact ⟨h1,h2⟩
 ·obtain ⟨j,cs,hj,hl,-,hne'⟩:=hb' k x.1 x.2 h
  obtain ⟨j',cs',hj',hl',-,-⟩:=hb' k' x'.1 x'.2 h'
  have:=hs.inj _ _ _ _ hl hl' (fun e=>hne' k' x' h' hne (by rw [hj',e]))
  simpa only [iw,hj,hj'] using this
def okR {S:Sys} (eqF:S.F→S.F→Bool) (p:Pat) (bx:List (Nat×TypeId×List Cell)) (m:Nat→Option Nat) (need:List S.F):Option (Ex×State S)→Bool
 | some (.normal,σ)=>dP m p σ.regs && bxB m bx σ.bx && need.all fun f=>σ.fs.any (eqF f)
 | _=>false
theorem AA {S:Sys} {eqF:S.F→S.F→Bool} (hq:∀ a b,eqF a b=true→a=b) {p:Pat} {bx:List (Nat×TypeId×List Cell)} {m:Nat→Option Nat} {need:List S.F} {o:Option (Ex×State S)} (h:okR eqF p bx m need o=true) :
  ∃ σ,o=some (.normal,σ)∧dP m p σ.regs=true∧bxB m bx σ.bx=true∧∀ f∈need,f∈σ.fs:=by
 unfold okR at h
 split at h
 ·rename_i σ
  simp only [Bool.and_eq_true,List.all_eq_true] at h
  refine ⟨σ,rfl,h.1.1,h.1.2,fun f hf=>?_⟩
  obtain ⟨g,hg,he⟩:=List.any_eq_true.1 (h.2 f hf)
  rw [hq f g he]
  exact hg
 ·cases h
def wfB (S:Sys) (p:Pat) (bx:List (Nat×TypeId×List Cell)) (fs:List S.F) (base:Nat):Bool:=
 p.all (fun o=>match o with
  | some c=>c.nm.all (· < base)
  | none=>true) && bx.all (fun x=>decide (x.1<base) && (x.2.2.flatMap Cell.nm).all (· < base)) && fs.all fun f=>(S.nm f).all (· < base)
theorem FD {n:Nat}:∀ {p:Pat} {u:Nat→Value} {i t:Nat},n∈((bV p u i).getD t .und).nm→∃ c,some c∈p∧n∈c.nm
 | [],u,i,t,h=>by simp [bV,SV.nm] at h
 | none :: p,u,i,0,h=>by simp [bV,SV.nm] at h
 | none :: p,u,i,t+1,h=>by
  obtain ⟨c,h1,h2⟩:=FD (p:=p) (u:=u) (i:=i+1) (t:=t) h
  exact ⟨c,by simp [h1],h2⟩
 | some c :: p,u,i,0,h=>⟨c,by simp,by simpa [bV,SV.nm,El.cells] using h⟩
 | some c :: p,u,i,t+1,h=>by
  obtain ⟨c',h1,h2⟩:=FD (p:=p) (u:=u) (i:=i+1) (t:=t) h
  exact ⟨c',by simp [h1],h2⟩
theorem BH {S:Sys} {p:Pat} {bx:List (Nat×TypeId×List Cell)} {fs:List S.F} {base:Nat} (h:wfB S p bx fs base=true) (u:Nat→Value):Wf (S:=S) ⟨bV p u 0,bx,fs,base⟩:=by
 unfold wfB at h
 simp only [Bool.and_eq_true,List.all_eq_true,decide_eq_true_eq] at h
 refine ⟨fun t n hn=>?_,fun k T cs hk=>h.1.2 _ (Aa hk),fun f hf n hn=>h.2 f hf n hn⟩
 obtain ⟨c,h1,h2⟩:=FD hn
 exact of_decide_eq_true (List.all_eq_true.1 (h.1.1 _ h1) n h2)
section
variable (P:Program) (S:Sys) (H:Tests S) (cons:List (Con S))
def mQ:List Code→State S→Option (Ex×State S)
 | [],σ=>some (.normal,σ)
 | c :: r,σ=>match exec P S H cons 1 c σ with
  | some (.normal,σ')=>mQ r σ'
  | _=>none
def nZ (B rest:Code) (fn:Func) (σ:State S):Option (SV×List S.F):=match exec P S H cons 1 B σ with
 | some (.exit 0,σ1)=>match exec P S H cons 1 rest σ1 with
  | some (.ret,σ2)=>match kC P S σ2 fn.results.toList with
   | some l=>some (jK l,σ2.fs)
   | none=>none
  | _=>none
 | _=>none
end
section
variable {P:Program} {Sj:Nat→Sys} {eqF:∀ j,(Sj j).F→(Sj j).F→Bool} {Hj:∀ j,Tests (Sj j)} {cj:∀ j,List (Con (Sj j))} {E:World→Prop} {fu:Nat}
theorem KP (hq:∀ j a b,eqF j a b=true→a=b) (hm:P.follows .mixedOrders=true) (hcons:∀ j,∀ c∈cj j,c.Ok P (Sj j) E) {fn:Func} {B rest:Code} {n:Nat} {p:Pat} {bx:Nat→List (Nat×TypeId×List Cell)} {fs:∀ j,List (Sj j).F} {base:Nat} {m1:Nat→Nat→Option Nat} {need:∀ j,List (Sj j).F}
  (hwf:∀ j,wfB (Sj j) p (bx j) (fs j) base=true) (hrd:∀ j,j<n→∀ u,okR (eqF j) p (bx (j+1)) (m1 j) (need j) (exec P (Sj j) (Hj j) (cj j) fu B ⟨bV p u 0,bx j,fs j,base⟩)=true)
  {R:SV→List (Sj n).F→Prop} (hen:∀ u,∃ v fsE,nZ P (Sj n) (Hj n) (cj n) B rest fn ⟨bV p u 0,bx n,fs n,base⟩=some (v,fsE)∧R v fsE)
  {w:World} (hlo:∀ j,(Sj j).lo≤w.heap.size) (hE:∀ W,Below w.heap.size w W→E W) (h1:∀ j,j<n→∀ ρ W,(∀ f∈need j,(Sj j).on ρ f W)→∀ f∈fs (j+1),(Sj (j+1)).on (iw (m1 j) ρ) f W)
  {Q:Ending→World→Prop} (hQ:∀ v fsE,R v fsE→∀ ρ' W',Below w.heap.size w W'→(∀ f∈fsE,(Sj n).on ρ' f W')→Q (.returned (v.den ρ')) W') :
  ∀ d j,j+d=n→∀ u ρ a W,State.Says (S:=Sj j) ⟨bV p u 0,bx j,fs j,base⟩ w ρ a W→Code.rounds P B (Exit.inBlock 0 (Exit.then (rest.wp P (bodyPost P fn Q)) (bodyPost P fn Q))) (d+1) a W
 | 0,j,hj,u,ρ,a,W,hs=>by
  obtain rfl:j=n:=by omega
  rw [rounds_succ]
  obtain ⟨v,fsE,he,hR⟩:=hen u
  unfold nZ at he
  split at he
  ·rename_i σ1 hx1
   split at he
   ·rename_i σ2 hx2
    split at he
    ·rename_i l hl
     simp only [Option.some.injEq,Prod.mk.injEq] at he
     obtain ⟨hv,hfs⟩:=he
     obtain ⟨wf1,-,go1⟩:=iV (w0:=w) (hlo j) hm (hcons j) hE B _ _ _ hx1 (BH (hwf j) u)
     obtain ⟨-,-,go2⟩:=iV (w0:=w) (hlo j) hm (hcons j) hE rest _ _ _ hx2 wf1
     refine go1 ρ a W _ hs fun ρ1 a1 W1 _ s1=>?_
     show rest.wp P (bodyPost P fn Q) a1 W1
     refine go2 ρ1 a1 W1 _ s1 fun ρ2 a2 W2 _ s2=>?_
     have hr:=A8 s2 hl
     rw [hv] at hr
     exact bodyPost_ret hr s2.df (hQ v fsE hR ρ2 W2 s2.bel (by rw [← hfs];exact s2.fc))
    ·cases he
   ·cases he
  ·cases he
 | d+1,j,hj,u,ρ,a,W,hs=>by
  rw [rounds_succ]
  obtain ⟨σ1,hx,hp,hb,hn⟩:=AA (hq j) (hrd j (by omega) u)
  obtain ⟨-,-,go⟩:=iV (w0:=w) (hlo j) hm (hcons j) hE B _ _ _ hx (BH (hwf j) u)
  refine go ρ a W _ hs fun ρ1 a1 W1 _ s1=>?_
  exact KP hq hm hcons hwf hrd hen hlo hE h1 hQ d (j+1) (by omega) _ _ _ _ (wQ hp hb s1 (h1 j (by omega) ρ1 W1 fun f hf=>s1.fc f (hn f hf)))
theorem GU {S:Sys} {args:List SV} {fs:List S.F} {b N:Nat} {ρ:Env} {w:World} (hf:∀ f∈fs,S.on ρ f w) :
  State.Says (S:=S) ⟨args ++ List.replicate (N - args.length) .und,[],fs,b⟩ w ρ { tmps:=(args.map (SV.den ρ)).toArray ++ Array.replicate (N - (args.map (SV.den ρ)).toArray.size) undef,defers:=[] } w:=by
 refine ⟨by simp,rfl,fun t=>?_,Below.refl _ _,fun k T cs h=>by simp [lk] at h,fun k k' x x' h=>by simp [lk] at h,hf⟩
 simp only [List.getD,Array.getD_eq_getD_getElem?,Array.getElem?_append,List.getElem?_toArray,List.getElem?_append,List.getElem?_map,List.size_toArray,List.length_map,Array.getElem?_replicate,List.getElem?_replicate]
 split
 ·rename_i ht
  simp [List.getElem?_eq_getElem ht]
 ·split <;> rfl
theorem Hu {S:Sys} {args:List SV} {fs:List S.F} {b N:Nat} (hok:kW S args fs b=true):Wf (S:=S) ⟨args ++ List.replicate (N - args.length) .und,[],fs,b⟩:=by
 unfold kW at hok
 simp only [Bool.and_eq_true,List.all_eq_true,decide_eq_true_eq] at hok
 refine ⟨fun t n hn=>?_,fun k T cs h=>by simp [lk] at h,fun f hf n hn=>hok.2 f hf n hn⟩
 simp only [List.getD] at hn
 rcases Nat.lt_or_ge t args.length with ht | ht
 ·rw [List.getElem?_append_left ht,List.getElem?_eq_getElem ht,Option.getD_some] at hn
  exact hok.1 _ (List.getElem_mem ht) n hn
 ·rw [List.getElem?_append_right ht] at hn
  cases hg:(List.replicate (N - args.length) SV.und)[t - args.length]? with
  | none=>rw [hg] at hn;simp [SV.nm] at hn
  | some x =>
   rw [hg,Option.getD_some] at hn
   have:=List.eq_of_mem_replicate (List.mem_of_getElem? hg)
   subst this
   simp [SV.nm] at hn
theorem KF (hq:∀ j a b,eqF j a b=true→a=b) (hm:P.follows .mixedOrders=true) (hcons:∀ j,∀ c∈cj j,c.Ok P (Sj j) E) {f:FuncId} {fn:Func} {c0 c1 c2 B rest:Code} {n:Nat} (hfn:P.funcs[f]? = some fn) (hc:fn.body=some (c0.seq (c1.seq ((c2.seq (.block 0 (.loop B))).seq rest))))
  {args:List SV} {fs0:List (Sj 0).F} {b:Nat} (hok:kW (Sj 0) args fs0 b=true)
  {p:Pat} {bx:Nat→List (Nat×TypeId×List Cell)} {fs:∀ j,List (Sj j).F} {base:Nat} {m0:Nat→Option Nat} {m1:Nat→Nat→Option Nat} {need0:List (Sj 0).F} {need:∀ j,List (Sj j).F}
  (hst:okR (eqF 0) p (bx 0) m0 need0 (mQ P (Sj 0) (Hj 0) (cj 0) [c0,c1,c2] ⟨args ++ List.replicate (fn.ntmps - args.length) .und,[],fs0,b⟩)=true)
  (hwf:∀ j,wfB (Sj j) p (bx j) (fs j) base=true) (hrd:∀ j,j<n→∀ u,okR (eqF j) p (bx (j+1)) (m1 j) (need j) (exec P (Sj j) (Hj j) (cj j) fu B ⟨bV p u 0,bx j,fs j,base⟩)=true)
  {R:SV→List (Sj n).F→Prop} (hen:∀ u,∃ v fsE,nZ P (Sj n) (Hj n) (cj n) B rest fn ⟨bV p u 0,bx n,fs n,base⟩=some (v,fsE)∧R v fsE)
  {ρ:Env} {w:World} (hlo:∀ j,(Sj j).lo≤w.heap.size) (hE:∀ W,Below w.heap.size w W→E W) (hf:∀ f∈fs0,(Sj 0).on ρ f w)
  (h0:∀ ρ W,(∀ f∈need0,(Sj 0).on ρ f W)→∀ f∈fs 0,(Sj 0).on (iw m0 ρ) f W)
  (h1:∀ j,j<n→∀ ρ W,(∀ f∈need j,(Sj j).on ρ f W)→∀ f∈fs (j+1),(Sj (j+1)).on (iw (m1 j) ρ) f W)
  {Q:Ending→World→Prop} (hQ:∀ v fsE,R v fsE→∀ ρ' W',Below w.heap.size w W'→(∀ f∈fsE,(Sj n).on ρ' f W')→Q (.returned (v.den ρ')) W') :
  Calls P f (args.map (SV.den ρ)).toArray w Q:=by
 obtain ⟨σ,hx,hp,hb,hn⟩:=AA (hq 0) hst
 simp only [mQ] at hx
 split at hx
 ·rename_i σ0 hx0
  split at hx
  ·rename_i σ1 hx1
   split at hx
   ·rename_i σ2 hx2
    cases hx
    obtain ⟨wf0,-,go0⟩:=iV (w0:=w) (hlo 0) hm (hcons 0) hE c0 _ _ _ hx0 (Hu hok)
    obtain ⟨wf1,-,go1⟩:=iV (w0:=w) (hlo 0) hm (hcons 0) hE c1 _ _ _ hx1 wf0
    obtain ⟨-,-,go2⟩:=iV (w0:=w) (hlo 0) hm (hcons 0) hE c2 _ _ _ hx2 wf1
    refine calls_of_wp hfn hc (wp_seq (go0 ρ _ w _ (GU hf) fun ρ1 a1 W1 _ s1=>wp_seq (go1 ρ1 a1 W1 _ s1 fun ρ2 a2 W2 _ s2=>wp_seq (wp_seq (go2 ρ2 a2 W2 _ s2 fun ρ3 a3 W3 _ s3=>wp_block (wp_loop_rounds (n+1) ?_))))))
    exact KP hq hm hcons hwf hrd hen hlo hE h1 hQ n 0 (by omega) _ _ _ _ (wQ hp hb s3 (h0 ρ3 W3 fun f hf=>s3.fc f (hn f hf)))
   ·cases hx
  ·cases hx
 ·cases hx
end
section
variable {P:Program} {S:Sys}
theorem Om {H:Tests S} {cons:List (Con S)} {c0 c1:Code} {σ σ':State S} (h:mQ P S H cons [c0,c1] σ=some (.normal,σ')):∃ σ1,exec P S H cons 1 c0 σ=some (.normal,σ1)∧exec P S H cons 1 c1 σ1=some (.normal,σ'):=by
 simp only [mQ] at h
 split at h
 ·rename_i σ1 h1
  split at h
  ·rename_i σ2 h2
   cases h
   exact ⟨σ1,h1,h2⟩
  ·cases h
 ·cases h
end
end Rx
namespace Rx
open Go.RowKit
def bT (c:Nat):Ari:={ ar:=[(.rem,.u8,.v 2,.c 4,.c c),(.add,.u8,.c 0,.c 1,.c 1),(.add,.u8,.c 1,.c 1,.c 2),(.add,.u8,.c 2,.c 1,.c 3)] }
def bH (z:Bool):Hint:={ nz:=if z then [] else [.v 1] }
def SI (β:Nat→Rat):Sys where
 F:=Nat×RE
 nm:=fun f=>[f.1]
 on:=fun ρ f _=>-9223372036854775808≤(ρ f.1).u∧(ρ f.1).u≤9223372036854775807∧(((ρ f.1).u:Int):Rat)=f.2.ev β
 okC:=fun _=>true
 cg:=fun {ρ ρ' f W} h hf=>by rw [← h f.1 (by simp)];exact hf
 bl:=fun _ h=>h
 st:=fun _ _ _ h=>h
def HI (β:Nat→Rat):Tests (SI β) where
 eq:=fun _ _ _=>none
 ok:=fun h=>(by cases h)
noncomputable abbrev lV:Func:=Tryz.f10
def bb0 (fn:Func):Code:=match fn.body with | some (.seq a _)=>a | _=>.skip
def bb1 (fn:Func):Code:=match fn.body with | some (.seq _ (.seq a _))=>a | _=>.skip
def bbR (fn:Func):Code:=match fn.body with | some (.seq _ (.seq _ r))=>r | _=>.skip
abbrev zA:List SV:=[.e (.a [.oi 0,.it .i64 0,.o8 2])]
noncomputable def Pz (β:Nat→Rat) (H:Tests (SQ β)) (cons:List (Con (SQ β))):Option (SV×List Fc):=match mQ Tryz.prog (SI β) (HI β) [] [bb0 lV,bb1 lV] ⟨zA ++ List.replicate (lV.ntmps - zA.length) .und,[],[(0,.v 0),(2,.v 2)],3⟩ with
 | some (.normal,σ)=>match exec Tryz.prog (SQ β) H cons 5 (bbR lV) ⟨σ.regs,σ.bx,[.i 0 (.v 0),.i 2 (.v 2)],σ.base⟩ with
  | some (.ret,σ2)=>match kC Tryz.prog (SQ β) σ2 lV.results.toList with
   | some l=>some (jK l,σ2.fs)
   | none=>none
  | _=>none
 | _=>none
def pwE (e:RE):Nat→RE
 | 0=>e
 | j+1=>.mul (pwE e j) e
theorem Gw {β:Nat→Rat} {e:RE}:∀ j,(pwE e j).ev β=rp (e.ev β) j
 | 0=>rfl
 | j+1=>by show (pwE e j).ev β*e.ev β=rp (e.ev β) j*e.ev β;rw [Gw j]
def zM (x:RE):Option (SV×List Fc)→Bool
 | some (.t [.a cs,.a rs],fs)=>match dD fs cs,iK fs rs with
  | some (e,_),some (e',_)=>e.beq x && e'.beq x
  | _,_=>false
 | _=>false
theorem KW {x:RE} {o:Option (SV×List Fc)} (h:zM x o=true):∃ cs rs fs k k',o=some (.t [.a cs,.a rs],fs)∧dD fs cs=some (x,k)∧iK fs rs=some (x,k'):=by
 unfold zM at h
 split at h
 ·split at h
  ·rename_i cs rs fs _ _ e k e' k' h1 h2
   simp only [Bool.and_eq_true] at h
   exact ⟨cs,rs,fs,k,k',rfl,by rw [h1,RE.beq_eq h.1],by rw [h2,RE.beq_eq h.2]⟩
  ·cases h
 ·cases h
def bC (β:Nat→Rat) (z:Bool):List (Con (SQ β)):=iOf β (bH z) :: zH β (bH z) :: c0 β (bH z)
theorem QX (β:Nat→Rat) (ok:(bH false).Ok β) (c:Nat) (hc:c<4) (okT:(bT c).Ok β):zM (pwE (.div (.v 0) (.v 1)) c) (aN Tryz.prog (SQ β) (HAr β (bH false) ok (bT c) okT) (bC β false) 5 10 [.e (.a [.oi 0,.oi 1,.o8 2])] [.i 0 (.v 0),.i 1 (.v 1),.i 2 (.v 2)] 3)=true:=by
 rcases (show c=0∨c=1∨c=2∨c=3 by omega) with rfl | rfl | rfl | rfl <;> kernel_rfl
theorem abB (β:Nat→Rat) (ok:(bH true).Ok β) (c:Nat) (hc:c<4) (okT:(bT c).Ok β):kW (SI β) zA [(0,.v 0),(2,.v 2)] 3=true∧zM (pwE (.div (.v 0) (.c 1)) c) (Pz β (HAr β (bH true) ok (bT c) okT) (bC β true))=true:=by
 rcases (show c=0∨c=1∨c=2∨c=3 by omega) with rfl | rfl | rfl | rfl <;> exact ⟨by kernel_rfl,by kernel_rfl⟩
theorem QM {pw:Nat} {n d:Int}:(bT (pw % 4)).Ok (bet [(n:Rat),(d:Rat),((pw:Int):Rat)]):=by
 refine ⟨fun p h=>(by cases h),?_,fun p h=>(by cases h)⟩
 simp only [bT,List.forall_mem_cons,List.not_mem_nil,false_imp_iff,implies_true,and_true]
 refine ⟨fun x y hx hy=>?_,fun x y hx hy=>?_,fun x y hx hy=>?_,fun x y hx hy=>?_⟩
 ·obtain rfl:x=(pw:Int):=intCast_inj hx
  obtain rfl:y=4:=intCast_inj hy
  refine ⟨((pw % 4:Nat):Int),?_,?_,rfl⟩
  ·simp only [arI];rw [if_neg (by decide),Int.tmod_eq_emod_of_nonneg (by omega)];rfl
  ·simp only [inK,Bool.and_eq_true,decide_eq_true_eq];omega
 ·obtain rfl:x=0:=intCast_inj hx
  obtain rfl:y=1:=intCast_inj hy
  exact ⟨1,by decide,by decide,rfl⟩
 ·obtain rfl:x=1:=intCast_inj hx
  obtain rfl:y=1:=intCast_inj hy
  exact ⟨2,by decide,by decide,rfl⟩
 ·obtain rfl:x=2:=intCast_inj hx
  obtain rfl:y=1:=intCast_inj hy
  exact ⟨3,by decide,by decide,rfl⟩
end Rx
section
open Go.RowKit Rx
theorem PO (n d:Int) (pw:Nat) (hp:pw<256) (h1:-9223372036854775808≤n) (h2:n≤9223372036854775807) (h3:-9223372036854775808≤d) (h4:d≤9223372036854775807) (w:World) (hE:EV w) :
  Calls Tryz.prog 10 #[.agg #[.int .i64 n,.int .i64 d,.int .u8 (pw:Int)]] w (Iq w (numOf n d pw)):=by
 obtain ⟨β,hβ⟩:∃ β,β=bet [(n:Rat),(d:Rat),((pw:Int):Rat)]:=⟨_,rfl⟩
 have okT:(bT (pw % 4)).Ok β:=hβ ▸ QM
 have hlt:pw % 4<4:=Nat.mod_lt _ (by decide)
 have i0:Rx.Fc.on β (Rx.ev [nu n,nu d,nu (pw:Int)]) (.i 0 (.v 0)) w:=by subst hβ;exact ⟨h1,h2,rfl⟩
 have i2:Rx.Fc.on β (Rx.ev [nu n,nu d,nu (pw:Int)]) (.i 2 (.v 2)) w:=by subst hβ;exact ⟨by show _≤(pw:Int);omega,by show (pw:Int)≤_;omega,rfl⟩
 have hc:∀ z,(bH z).Ok β→∀ c∈bC β z,c.Ok Tryz.prog (SQ _) EV:=fun z ok=>by
  unfold bC
  simp only [List.forall_mem_cons]
  exact ⟨V6 ok,V8 ok,vI ok⟩
 unfold numOf
 by_cases hd:d=0
 ·have ok:(bH true).Ok β:=⟨fun p h=>(by cases h),fun p h=>(by cases h),fun p h=>(by cases h),fun p h=>(by cases h),fun p h=>(by cases h)⟩
  obtain ⟨hin,hr⟩:=abB β ok (pw % 4) hlt okT
  obtain ⟨cs,rs,fs,k,k',heq,g1,g2⟩:=KW hr
  unfold Pz at heq
  split at heq
  ·rename_i σ hx
   split at heq
   ·rename_i σ2 hx2
    split at heq
    ·rename_i l hl
     have hv:jK l=.t [.a cs,.a rs]:=congrArg Prod.fst (Option.some.inj heq)
     have hfs:σ2.fs=fs:=congrArg Prod.snd (Option.some.inj heq)
     obtain ⟨σ1,x1,x2⟩:=Om hx
     obtain ⟨wf1,le1,go1⟩:=iV (w0:=w) (Nat.zero_le _) mixed (fun c h=>absurd h List.not_mem_nil) (bg hE) _ _ _ _ x1 (Hu hin)
     obtain ⟨wf2,le2,go2⟩:=iV (w0:=w) (Nat.zero_le _) mixed (fun c h=>absurd h List.not_mem_nil) (bg hE) _ _ _ _ x2 wf1
     have b1:3≤σ1.base:=le1
     have b2:σ1.base≤σ.base:=le2
     obtain ⟨-,-,go3⟩:=iV (w0:=w) (Nat.zero_le _) mixed (hc true ok) (bg hE) _ _ _ _ hx2 ⟨wf2.1,wf2.2,fun f hf m hm=>by
      rcases List.mem_cons.1 hf with rfl | hf
      ·obtain rfl:=List.mem_singleton.1 hm;show _<σ.base;omega
      ·obtain rfl:=List.mem_singleton.1 hf
       obtain rfl:=List.mem_singleton.1 hm;show _<σ.base;omega⟩
     have he:(List.map (SV.den (Rx.ev [nu n,nu d,nu (pw:Int)])) zA).toArray=#[.agg #[.int .i64 n,.int .i64 d,.int .u8 (pw:Int)]]:=by rw [hd];rfl
     have hbd:lV.body=some ((bb0 lV).seq ((bb1 lV).seq (bbR lV))):=by kernel_rfl
     have hv2:(pwE (.div (.v 0) (.c 1)) (pw % 4)).ev β=rp ((n:Rat) / (((if d=0 then 1 else d):Int):Rat)) (pw % 4):=by
      rw [Gw,if_pos hd,hβ];rfl
     rw [← he,← hv2]
     refine calls_of_wp Tryz.func10 hbd (wp_seq (go1 (Rx.ev [nu n,nu d,nu (pw:Int)]) _ w _ (GU fun f hf=>?_) fun ρ1 a1 W1 e1 s1=>wp_seq (go2 ρ1 a1 W1 _ s1 fun ρ2 a2 W2 e2 s2=>go3 ρ2 a2 W2 _ ⟨s2.sz,s2.df,s2.rg,s2.bel,s2.bx,s2.inj,fun f hf=>?_⟩ fun ρ3 a3 W3 _ s3=>?_)))
     ·rcases List.mem_cons.1 hf with rfl | hf
      ·exact i0
      ·obtain rfl:=List.mem_singleton.1 hf
       exact i2
     ·have q0:ρ2 0=Rx.ev [nu n,nu d,nu (pw:Int)] 0:=(e2 0 (by omega)).trans (e1 0 (show 0<3 by decide))
      have q2:ρ2 2=Rx.ev [nu n,nu d,nu (pw:Int)] 2:=(e2 2 (by omega)).trans (e1 2 (show 2<3 by decide))
      rcases List.mem_cons.1 hf with rfl | hf
      ·show _≤(ρ2 0).u∧(ρ2 0).u≤_∧(((ρ2 0).u:Int):Rat)=_
       rw [q0];exact i0
      ·obtain rfl:=List.mem_singleton.1 hf
       show _≤(ρ2 2).u∧(ρ2 2).u≤_∧(((ρ2 2).u:Int):Rat)=_
       rw [q2];exact i2
     ·have hr:=A8 s3 hl
      rw [hv] at hr
      have hfc:=fun f hf=>s3.fc f hf
      rw [hfs] at hfc
      exact bodyPost_ret hr s3.df ⟨_,_,rfl,(eY g1 hfc).1.1,(jd g2 hfc).1,s3.bel⟩
    ·cases heq
   ·cases heq
  ·cases heq
 ·have ok:(bH false).Ok β:=⟨fun p h=>(by cases h),fun p h=>(by cases h),fun p hp=>(by
   obtain rfl:=List.mem_singleton.1 hp
   intro h
   subst hβ
   exact hd (intCast_inj (h.trans (show (0:Rat)=((0:Int):Rat) from rfl)))),fun p h=>(by cases h),fun p h=>(by cases h)⟩
  have i1:Rx.Fc.on β (Rx.ev [nu n,nu d,nu (pw:Int)]) (.i 1 (.v 1)) w:=by subst hβ;exact ⟨h3,h4,rfl⟩
  have hg:∀ f∈[Rx.Fc.i 0 (.v 0),.i 1 (.v 1),.i 2 (.v 2)],Rx.Fc.on β (Rx.ev [nu n,nu d,nu (pw:Int)]) f w:=by
   simp only [List.forall_mem_cons,List.not_mem_nil,false_imp_iff,implies_true,and_true]
   exact ⟨i0,i1,i2⟩
  obtain ⟨cs,rs,fs,k,k',heq,g1,g2⟩:=KW (QX β ok (pw % 4) hlt okT)
  have he:(List.map (SV.den (Rx.ev [nu n,nu d,nu (pw:Int)])) [.e (.a [.oi 0,.oi 1,.o8 2])]).toArray=#[.agg #[.int .i64 n,.int .i64 d,.int .u8 (pw:Int)]]:=rfl
  have hv:(pwE (.div (.v 0) (.v 1)) (pw % 4)).ev β=rp ((n:Rat) / (((if d=0 then 1 else d):Int):Rat)) (pw % 4):=by
   rw [Gw,if_neg hd,hβ];rfl
  rw [← he,← hv]
  exact (dJ mixed (hc false ok) heq (bg hE) hg).mono fun x W' ⟨ρ',_,hx,hb,hfs⟩=>⟨_,_,hx,(eY g1 hfs).1.1,(jd g2 hfs).1,hb⟩
end
namespace Rx
open Go.RowKit
section
variable (β:Nat→Rat) (h:Hint)
def DC:Con (SQ β) where
 fn:=10
 app:=fun db b args=>match args with
  | [.e (.a x)]=>match EY x with
   | some a=>match tu db a with
    | some e=>some (.t [.a (aK b),.a (aT (b+2))],[.q b e 4,.r (b+2) e 4])
    | none=>none
   | none=>none
  | _=>none
def cl1:List (Con (SQ β)):=[yF β,DC β]
end
section
variable {β:Nat→Rat} {h:Hint} {ρ:Env} {b:Nat} {f:FuncId} {vals:Array Value} {W:World}
theorem RG:(DC β).Ok Tryz.prog (SQ β) EV:=by
 refine Con.ok0 rfl ?_
 intro db b args res new ha ρ W hf hE
 simp only [DC] at ha
 split at ha
 ·split at ha
  ·rename_i a hx
   split at ha
   ·rename_i e hn
    cases ha
    have hm:=hf _ (oG hn)
    obtain ⟨pw,hb,h0,h1,h2,h3,h4,he⟩:=(show IsN _ _ _ _ from hm)
    rw [WI hx]
    have hc:=PO (ρ a).u (ρ (a+1)).u pw h0 h1 h2 h3 h4 W hE
    rw [he,← hb] at hc
    exact QD hc (by rw [← he];exact MN _ _ _ h1 h2 h3 h4)
   ·cases ha
  ·cases ha
 ·cases ha
theorem Ri:∀ c∈cl1 β,c.Ok Tryz.prog (SQ β) EV:=by
 unfold cl1
 simp only [List.forall_mem_cons,List.not_mem_nil,false_imp_iff,implies_true,and_true]
 exact ⟨JC,RG⟩
end
end Rx
end Go.Proofs.YthalajpklaodkaaGreatDoor
