/- What the proof rests on, part 36. -/
import Derived.Test.YtnmlkobogofadaaGreatDoorP35
namespace Go.Proofs.YtnmlkobogofadaaGreatDoor
set_option maxRecDepth 100000
set_option maxHeartbeats 80000000
namespace Rx
open Go.RowKit
inductive At
 | q
 | r
 | o
def At.n:At→Nat
 | .q=>5
 | _=>4
def U2:List Cell:=[.bl false,.nils,.bl false,.nils]
def At.cells:At→Nat→List Cell
 | .q,s=>aS s
 | .r,s=>bg s
 | .o,_=>U2
def At.fact:At→Nat→RE→Nat→List Fc
 | .q,s,e,k=>[.q s e k]
 | .r,s,e,k=>[.r s e k]
 | .o,_,_,_=>[]
def tY:List Cell→Option (RE×Nat)
 | [.bl false,.nils,.bl false,.nils]=>some (.c 0,0)
 | _=>none
def At.parse (db:List Fc):At→List Cell→Option (RE×Nat)
 | .q,cs=>fD db cs
 | .r,cs=>jE db cs
 | .o,cs=>tY cs
section
variable {β β':Nat→Rat} {ρ:Env} {W:World} {db:List Fc}
theorem At.name {a:At} {cs:List Cell} {e:RE} {k:Nat} (h:a.parse db cs=some (e,k)) (hf:∀ f∈db,(SQ β).on ρ f W):∃ c d:Nv,∀ (ρ':Env) s,ρ' s=c→ρ' (s+1)=d →
  (a.cells s).map (Cell.den ρ')=cs.map (Cell.den ρ)∧∀ (β':Nat→Rat) e' k',e'.ev β' = e.ev β→k≤k'→∀ f∈a.fact s e' k',(SQ β').on ρ' f W:=by
 cases a with
 | q =>
  obtain ⟨h1,c,d,h2⟩:=gy h hf
  refine ⟨c,d,fun ρ' s hc hd=>?_⟩
  have h3:(aS s).map (Cell.den ρ')=cs.map (Cell.den ρ):=by
   have:=congrArg Array.toList (Value.agg.inj h2)
   simp only at this
   rw [this]
   simp [aS,Cell.den,hc,hd]
  refine ⟨h3,fun β' e' k' he hk f hm=>?_⟩
  simp only [At.fact,List.mem_singleton] at hm
  subst hm
  show IsQ W (.agg ((aS s).map (Cell.den ρ')).toArray) (e'.ev β')∧Fits k' (e'.ev β')
  rw [h3,he]
  exact ⟨h1.1,h1.2.mono hk⟩
 | r =>
  obtain ⟨h1,h1'⟩:=kU h hf
  obtain ⟨c,d,h2⟩:=oK h1
  refine ⟨c,d,fun ρ' s hc hd=>?_⟩
  have h3:(bg s).map (Cell.den ρ')=cs.map (Cell.den ρ):=by
   have:=congrArg Array.toList (Value.agg.inj h2)
   simp only at this
   rw [this]
   simp [bg,Cell.den,hc,hd]
  refine ⟨h3,fun β' e' k' he hk f hm=>?_⟩
  simp only [At.fact,List.mem_singleton] at hm
  subst hm
  show Z4.IsR W (.agg ((bg s).map (Cell.den ρ')).toArray) (e'.ev β')∧Fits k' (e'.ev β')
  rw [h3,he]
  exact ⟨h1,h1'.mono hk⟩
 | o =>
  refine ⟨default,default,fun ρ' s _ _=>⟨?_,fun β' e' k' _ _ f hm=>by cases hm⟩⟩
  simp only [At.parse] at h
  unfold tY at h
  split at h
  ·rfl
  ·cases h
def iC (db:List Fc):List At→List Cell→Option (List (RE×Nat))
 | [],[]=>some []
 | [],_ :: _=>none
 | a :: r,cs=>match a.parse db (cs.take a.n),iC db r (cs.drop a.n) with
  | some x,some l=>some (x :: l)
  | _,_=>none
def mJ:List At→Nat→List Cell
 | [],_=>[]
 | a :: r,s=>a.cells s ++ mJ r (s+2)
def gW:List At→Nat→List (RE×Nat)→List Fc
 | a :: r,s,x :: l=>a.fact s x.1 x.2 ++ gW r (s+2) l
 | _,_,_=>[]
def rel (β' β:Nat→Rat):List (RE×Nat)→List (RE×Nat)→Prop
 | [],[]=>True
 | x :: l,y :: m=>(x.1.ev β' = y.1.ev β∧y.2≤x.2)∧rel β' β l m
 | _,_=>False
theorem Fb {β' β:Nat→Rat}:∀ {a b:List (RE×Nat)} {l:List (RE×Nat)},rel β' β l (a ++ b)→rel β' β (l.take a.length) a∧rel β' β (l.drop a.length) b
 | [],b,l,h=>by simpa [rel] using h
 | x :: a,b,[],h=>by simp [rel] at h
 | x :: a,b,y :: l,h=>by
  obtain ⟨h1,h2⟩:(y.1.ev β' = x.1.ev β∧x.2≤y.2)∧rel β' β l (a ++ b):=h
  obtain ⟨h3,h4⟩:=Fb h2
  exact ⟨⟨h1,h3⟩,h4⟩
theorem Bd:∀ {t:List At} {cs:List Cell} {xs:List (RE×Nat)},iC db t cs=some xs→xs.length=t.length
 | [],[],xs,h=>by simp [iC] at h;subst h;rfl
 | [],_ :: _,xs,h=>by simp [iC] at h
 | a :: r,cs,xs,h=>by
  simp only [iC] at h
  split at h
  ·rename_i x l h1 h2
   cases h
   simp [Bd h2]
  ·cases h
theorem AA (hf:∀ f∈db,(SQ β).on ρ f W):∀ {t:List At} {cs:List Cell} {xs:List (RE×Nat)},iC db t cs=some xs→∃ L:List Nv,L.length=2*t.length∧∀ (ρ':Env) s,(∀ i,i<2*t.length→ρ' (s+i)=L[i]?.getD default) →
  (mJ t s).map (Cell.den ρ')=cs.map (Cell.den ρ)∧∀ (β':Nat→Rat) xs',rel β' β xs' xs→∀ f∈gW t s xs',(SQ β').on ρ' f W
 | [],[],xs,h=>⟨[],rfl,fun ρ' s _=>⟨rfl,fun β' xs' _ f hm=>by simp [gW] at hm⟩⟩
 | [],_ :: _,xs,h=>by simp [iC] at h
 | a :: r,cs,xs,h=>by
  simp only [iC] at h
  split at h
  ·rename_i x l h1 h2
   cases h
   obtain ⟨c,d,h3⟩:=At.name (e:=x.1) (k:=x.2) h1 hf
   obtain ⟨L,h4,h5⟩:=AA hf h2
   refine ⟨c :: d :: L,by simp [h4];omega,fun ρ' s hρ=>?_⟩
   have c0:=hρ 0 (by simp <;> omega)
   have d0:=hρ 1 (by simp <;> omega)
   obtain ⟨g1,g2⟩:=h3 ρ' s (by simpa using c0) (by simpa using d0)
   obtain ⟨g3,g4⟩:=h5 ρ' (s+2) (fun i hi=>by
    have:=hρ (2+i) (by simp <;> omega)
    rw [← Nat.add_assoc,show 2+i=i+1+1 by omega] at this
    simpa using this)
   refine ⟨?_,fun β' xs' hr f hm=>?_⟩
   ·simp only [mJ,List.map_append,g1,g3]
    rw [← List.map_append,List.take_append_drop]
   ·cases xs' with
    | nil=>simp [rel] at hr
    | cons y l' =>
     obtain ⟨⟨r1,r2⟩,r3⟩:=hr
     simp only [gW,List.mem_append] at hm
     rcases hm with hm | hm
     ·exact g2 β' _ _ r1 r2 f hm
     ·exact g4 β' l' r3 f hm
  ·cases h
def jm (db:List Fc):List (List At)→List SV→Option (List (RE×Nat))
 | [],[]=>some []
 | t :: r,.e (.a cs) :: l=>match iC db t cs,jm db r l with
  | some x,some y=>some (x ++ y)
  | _,_=>none
 | _,_=>none
def tN:List (List At)→Nat→List SV
 | [],_=>[]
 | t :: r,s=>.e (.a (mJ t s)) :: tN r (s+2*t.length)
theorem DR:∀ {t r:List At} {s:Nat} {xs:List (RE×Nat)} {f:Fc},f∈gW (t ++ r) s xs→f∈gW t s (xs.take t.length)∨f∈gW r (s+2*t.length) (xs.drop t.length)
 | [],r,s,xs,f,h=>.inr (by simpa using h)
 | a :: t,r,s,[],f,h=>by simp [gW] at h
 | a :: t,r,s,x :: xs,f,h=>by
  simp only [List.cons_append,gW,List.mem_append] at h
  simp only [List.length_cons,List.take_succ_cons,List.drop_succ_cons,gW,List.mem_append]
  rcases h with h | h
  ·exact .inl (.inl h)
  ·rcases DR h with h | h
   ·exact .inl (.inr h)
   ·exact .inr (by rwa [show s+2*(t.length+1)=s+2+2*t.length by omega])
theorem ET:∀ {ts:List (List At)} {args:List SV} {xs:List (RE×Nat)},jm db ts args=some xs→xs.length=ts.flatten.length
 | [],[],xs,h=>by simp [jm] at h;subst h;rfl
 | [],_ :: _,xs,h=>by simp [jm] at h
 | t :: r,[],xs,h=>by simp [jm] at h
 | t :: r,x :: l,xs,h=>by
  unfold jm at h
  split at h
  ·rename_i heq _;cases heq
  ·rename_i heq1 heq2
   cases heq1;cases heq2
   split at h
   ·rename_i x y g1 g2
    cases h
    simp [Bd g1,ET g2]
   ·cases h
  ·cases h
theorem EG (hf:∀ f∈db,(SQ β).on ρ f W):∀ {ts:List (List At)} {args:List SV} {xs:List (RE×Nat)},jm db ts args=some xs→∃ L:List Nv,L.length=2*ts.flatten.length∧∀ (ρ':Env) s,(∀ i,i<2*ts.flatten.length→ρ' (s+i)=L[i]?.getD default) →
  (tN ts s).map (SV.den ρ')=args.map (SV.den ρ)∧∀ (β':Nat→Rat) xs',rel β' β xs' xs→∀ f∈gW ts.flatten s xs',(SQ β').on ρ' f W
 | [],[],xs,h=>⟨[],rfl,fun ρ' s _=>⟨rfl,fun β' xs' _ f hm=>by simp [gW] at hm⟩⟩
 | [],_ :: _,xs,h=>by simp [jm] at h
 | t :: r,[],xs,h=>by simp [jm] at h
 | t :: r,x :: l,xs,h=>by
  unfold jm at h
  split at h
  ·rename_i heq _;cases heq
  ·rename_i _ _ cs _ heq1 heq2
   cases heq1;cases heq2
   split at h
   ·rename_i x y h1 h2
    cases h
    obtain ⟨L,h3,h4⟩:=AA hf h1
    obtain ⟨L',h5,h6⟩:=EG hf h2
    refine ⟨L ++ L',by simp [h3,h5,Nat.mul_add],fun ρ' s hρ=>?_⟩
    obtain ⟨g1,g2⟩:=h4 ρ' s (fun i hi=>by
     have:=hρ i (by simp <;> omega)
     rwa [List.getElem?_append_left (by omega)] at this)
    obtain ⟨g3,g4⟩:=h6 ρ' (s+2*t.length) (fun i hi=>by
     have:=hρ (2*t.length+i) (by simp;simp at hi;omega)
     rw [List.getElem?_append_right (by omega),h3,Nat.add_sub_cancel_left,← Nat.add_assoc] at this
     exact this)
    refine ⟨?_,fun β' xs' hr f hm=>?_⟩
    ·simp only [tN,List.map_cons,g3]
     congr 1
     simp only [SV.den,El.den,g1]
    ·obtain ⟨r1,r2⟩:=Fb hr
     rw [Bd h1] at r1 r2
     rcases DR (t:=t) (r:=r.flatten) (by simpa using hm) with hm | hm
     ·exact g2 β' _ r1 f hm
     ·exact g4 β' _ r2 f hm
   ·cases h
  ·cases h
end
def RE.sub' (es:List RE):RE→RE
 | .v n=>es.getD n (.c 0)
 | .c n=>.c n
 | .add a b=>.add (a.sub' es) (b.sub' es)
 | .sub a b=>.sub (a.sub' es) (b.sub' es)
 | .mul a b=>.mul (a.sub' es) (b.sub' es)
 | .div a b=>.div (a.sub' es) (b.sub' es)
 | .neg a=>.neg (a.sub' es)
 | .abs a=>.abs (a.sub' es)
 | .flo a=>.flo (a.sub' es)
 | .num a=>.num (a.sub' es)
 | .den a=>.den (a.sub' es)
def put (β:Nat→Rat) (es:List RE):Nat→Rat:=fun n=>(es.getD n (.c 0)).ev β
theorem kG {β:Nat→Rat} {es:List RE} (e:RE):(e.sub' es).ev β=e.ev (put β es):=by
 induction e with
 | v n=>rfl
 | c n=>rfl
 | add a b ih1 ih2=>show (a.sub' es).ev β+(b.sub' es).ev β=_;rw [ih1,ih2];rfl
 | sub a b ih1 ih2=>show (a.sub' es).ev β - (b.sub' es).ev β=_;rw [ih1,ih2];rfl
 | mul a b ih1 ih2=>show (a.sub' es).ev β*(b.sub' es).ev β=_;rw [ih1,ih2];rfl
 | div a b ih1 ih2=>show (a.sub' es).ev β / (b.sub' es).ev β=_;rw [ih1,ih2];rfl
 | neg a ih=>show -(a.sub' es).ev β=_;rw [ih];rfl
 | abs a ih=>show (if ((a.sub' es).ev β).num<0 then -(a.sub' es).ev β else (a.sub' es).ev β)=_;rw [ih];rfl
 | flo a ih=>show ((((a.sub' es).ev β).num / (((a.sub' es).ev β).den:Int):Int):Rat)=_;rw [ih];rfl
 | num a ih=>show (((a.sub' es).ev β).num:Rat)=_;rw [ih];rfl
 | den a ih=>show (((((a.sub' es).ev β).den:Nat):Int):Rat)=_;rw [ih];rfl
def RE.plain:RE→RE
 | .sub a b=>.add a.plain (.neg b.plain)
 | .add a b=>.add a.plain b.plain
 | .mul a b=>.mul a.plain b.plain
 | .div a b=>.div a.plain b.plain
 | .neg a=>.neg a.plain
 | e=>e
theorem EW {β:Nat→Rat} (e:RE):e.plain.ev β=e.ev β:=by
 induction e with
 | add a b ih1 ih2=>show a.plain.ev β+b.plain.ev β=_;rw [ih1,ih2];rfl
 | sub a b ih1 ih2=>show a.plain.ev β + -b.plain.ev β=a.ev β - b.ev β;rw [ih1,ih2,Rat.sub_eq_add_neg]
 | mul a b ih1 ih2=>show a.plain.ev β*b.plain.ev β=_;rw [ih1,ih2];rfl
 | div a b ih1 ih2=>show a.plain.ev β / b.plain.ev β=_;rw [ih1,ih2];rfl
 | neg a ih=>show -a.plain.ev β=_;rw [ih];rfl
 | _=>rfl
def alike (k:Nat):List RE→List (RE×Nat)→Bool
 | [],[]=>true
 | o :: l,y :: m=>(o.plain.beq y.1.plain && decide (y.2≤k)) && alike k l m
 | _,_=>false
theorem CU {β:Nat→Rat} {es:List RE} {k:Nat}:∀ {os:List RE} {ys:List (RE×Nat)},alike k os ys=true→rel β (put β es) (os.map fun o=>(o.sub' es,k)) ys
 | [],[],_=>trivial
 | [],_ :: _,h=>by simp [alike] at h
 | _ :: _,[],h=>by simp [alike] at h
 | o :: os,y :: ys,h=>by
  simp only [alike,Bool.and_eq_true,decide_eq_true_eq] at h
  refine ⟨⟨?_,h.1.2⟩,CU h.2⟩
  rw [kG,← EW o,RE.beq_eq h.1.1,EW]
inductive Rs
 | at (t:List At) (os:List RE)
 | atb (t:List At) (os:List RE) (x:Bool)
 | bl (x:Bool)
def Rs.sv (b:Nat):Rs→SV
 | .at t _=>.e (.a (mJ t b))
 | .atb t _ x=>.t [.a (mJ t b),.s (.bl x)]
 | .bl x=>.e (.s (.bl x))
def Rs.fs (ko b:Nat) (es:List RE):Rs→List Fc
 | .at t os | .atb t os _=>gW t b (os.map fun o=>(o.sub' es,ko))
 | .bl _=>[]
def Rs.small:Rs→Bool
 | .at t _ | .atb t _ _=>decide (2*t.length≤M)
 | .bl _=>true
def outA (ko:Nat) (t:List At) (os:List RE):Option (SV×List Fc)→Bool
 | some (.e (.a cs),fs)=>match iC fs t cs with
  | some ys=>alike ko os ys
  | none=>false
 | _=>false
def AY (ko:Nat) (t:List At) (os:List RE) (x:Bool):Option (SV×List Fc)→Bool
 | some (.t [.a cs,.s (.bl y)],fs)=>match iC fs t cs with
  | some ys=>x == y && alike ko os ys
  | none=>false
 | _=>false
def NR (ko:Nat):Rs→Option (SV×List Fc)→Bool
 | .at t os,o=>outA ko t os o
 | .atb t os x,o=>AY ko t os x o
 | .bl x,o=>isB x o
theorem Qx {ko:Nat} {t:List At} {os:List RE} {o:Option (SV×List Fc)} (h:outA ko t os o=true):∃ cs fs ys,o=some (.e (.a cs),fs)∧iC fs t cs=some ys∧alike ko os ys=true:=by
 unfold outA at h
 split at h
 ·split at h
  ·rename_i cs fs _ ys hp;exact ⟨cs,fs,ys,rfl,hp,h⟩
  ·cases h
 ·cases h
theorem Qy {ko:Nat} {t:List At} {os:List RE} {x:Bool} {o:Option (SV×List Fc)} (h:AY ko t os x o=true):∃ cs fs ys,o=some (.t [.a cs,.s (.bl x)],fs)∧iC fs t cs=some ys∧alike ko os ys=true:=by
 unfold AY at h
 split at h
 ·split at h
  ·rename_i cs y fs _ ys hp
   simp only [Bool.and_eq_true,beq_iff_eq] at h
   exact ⟨cs,fs,ys,by rw [h.1],hp,h.2⟩
  ·cases h
 ·cases h
def hintB (h H0:Hint) (es:List RE):Bool:=
 H0.eq.all (fun p=>eqB h (p.1.sub' es) (p.2.sub' es)) && H0.ne.all (fun p=>h.ne.any fun x=>x.1.beq (p.1.sub' es) && x.2.beq (p.2.sub' es)) && H0.nz.all (fun p=>nzB h (p.sub' es)) && H0.sg.all (fun p=>sgB h (p.1.sub' es) == some p.2) && H0.cm.all (fun p=>cmB h (p.1.sub' es) (p.2.1.sub' es) == some p.2.2)
theorem Np {β:Nat→Rat} {h H0:Hint} {es:List RE} (hh:hintB h H0 es=true) (ok:h.Ok β):H0.Ok (put β es):=by
 unfold hintB at hh
 simp only [Bool.and_eq_true,List.all_eq_true] at hh
 obtain ⟨⟨⟨⟨h1,h2⟩,h3⟩,h4⟩,h5⟩:=hh
 refine ⟨fun p hp=>?_,fun p hp=>?_,fun p hp=>?_,fun p hp=>?_,fun p hp=>?_⟩
 ·rw [← kG,← kG];exact rP ok (h1 p hp)
 ·obtain ⟨x,hx,h6⟩:=List.any_eq_true.1 (h2 p hp)
  simp only [Bool.and_eq_true] at h6
  rw [← kG,← kG,← RE.beq_eq h6.1,← RE.beq_eq h6.2]
  exact ok.2.1 x hx
 ·rw [← kG];exact nM ok (h3 p hp)
 ·rw [← kG];exact BI ok (by simpa using h4 p hp)
 ·rw [← kG,← kG];exact pO ok (by simpa using h5 p hp)
def vars (k:Nat):Nat→Nat→List (RE×Nat)
 | _,0=>[]
 | i,n+1=>(.v i,k) :: vars k (i+1) n
theorem GN {β:Nat→Rat} {es:List RE} {k:Nat}:∀ {xs:List (RE×Nat)} {i:Nat},(∀ j x,xs[j]? = some x→(es.getD (i+j) (.c 0))=x.1∧x.2≤k)→rel (put β es) β (vars k i xs.length) xs
 | [],i,_=>trivial
 | x :: xs,i,h=>by
  have h0:=h 0 x rfl
  refine ⟨⟨?_,h0.2⟩,GN fun j y hy=>?_⟩
  ·show (es.getD i (.c 0)).ev β=_
   rw [← h0.1];rfl
  ·have:=h (j+1) y (by simpa using hy)
   rwa [show i+1+j=i+(j+1) by omega]
def aT (β:Nat→Rat) (h:Hint) (f:FuncId) (ins:List (List At)) (kin:Nat) (H0:Hint) (out:Rs) (ko:Nat):Con (SQ β) where
 fn:=f
 app:=fun db b args=>match jm db ins args with
  | some xs=>if xs.all (fun x=>decide (x.2≤kin)) && hintB h H0 (xs.map (·.1)) then some (out.sv b,out.fs ko b (xs.map (·.1))) else none
  | none=>none
theorem Df {ko:Nat} {β γ:Nat→Rat} {es:List RE} {ρ ρ':Env} {W':World} {fs':List Fc} {t:List At} {cs:List Cell} {ys:List (RE×Nat)} {os:List RE} {b:Nat} (hg:γ=put β es) (hp:iC fs' t cs=some ys) (ha:alike ko os ys=true) (hs:2*t.length≤M) (hfs:∀ g∈fs',(SQ γ).on ρ' g W') :
  ∃ ρ'':Env,(∀ n,n<b∨b+M≤n→ρ'' n=ρ n)∧(mJ t b).map (Cell.den ρ'')=cs.map (Cell.den ρ')∧∀ g∈gW t b (os.map fun o=>(o.sub' es,ko)),(SQ β).on ρ'' g W':=by
 subst hg
 obtain ⟨L,hL,hn⟩:=AA hfs hp
 obtain ⟨h1,h2⟩:=hn (aK ρ b L) b (fun i hi=>by
  unfold aK
  rw [if_pos (by omega),Nat.add_sub_cancel_left,List.getElem?_eq_getElem (by omega)];rfl)
 exact ⟨aK ρ b L,jv (by omega),h1,h2 β _ (CU ha)⟩
theorem yH {β:Nat→Rat} {h:Hint} {f:FuncId} {ins:List (List At)} {kin:Nat} {H0:Hint} {out:Rs} {ko:Nat} (ok:h.Ok β) (hs:out.small=true)
  (run:∀ γ:Nat→Rat,H0.Ok γ→∃ (H1:Hint) (ok1:H1.Ok γ) (fuel:Nat) (cons:List (Con (SQ γ))),(∀ c∈cons,c.Ok Tryz.prog (SQ γ) EV)∧NR ko out (iZ Tryz.prog (SQ γ) (HQ γ H1 ok1) cons fuel f (tN ins 0) (gW ins.flatten 0 (vars kin 0 ins.flatten.length)) (2*ins.flatten.length))=true) :
  (aT β h f ins kin H0 out ko).Ok Tryz.prog (SQ β) EV:=by
 intro db b args res new ha ρ W hf hE
 simp only [aT] at ha
 split at ha
 ·rename_i xs hx
  split at ha
  ·rename_i hh
   simp only [Bool.and_eq_true,List.all_eq_true,decide_eq_true_eq] at hh
   cases ha
   obtain ⟨es,hes⟩:∃ es,xs.map (·.1)=es:=⟨_,rfl⟩
   rw [hes] at hh ⊢
   obtain ⟨H1,ok1,fuel,cons,hc,hr⟩:=run (put β es) (Np hh.2 ok)
   obtain ⟨L,hL,hn⟩:=EG hf hx
   obtain ⟨h1,h2⟩:=hn (fun i=>L[i]?.getD default) 0 (fun i hi=>by simp)
   have hlen:=ET hx
   have hfacts:=h2 (put β es) (vars kin 0 ins.flatten.length) (by
    rw [← hlen]
    refine GN fun j x hj=>⟨?_,hh.1 x (List.mem_of_getElem? hj)⟩
    rw [← hes,Nat.zero_add,List.getD_eq_getElem?_getD,List.getElem?_map,hj];rfl)
   rw [← h1]
   cases out with
   | «at» t os =>
    have hs':2*t.length≤M:=by simpa [Rs.small] using hs
    obtain ⟨cs,fs',ys,hrun,hp,hr⟩:=Qx hr
    refine (jS mixed hc hrun (jC hE) hfacts).mono fun x W' ⟨ρ',_,hx',hb,hfs⟩=>?_
    obtain ⟨ρ'',a1,a2,a3⟩:=Df (ρ:=ρ) (b:=b) rfl hp hr hs' hfs
    exact ⟨ρ'',a1,by rw [hx'];simp only [Rs.sv,SV.den,El.den,a2],hb,a3⟩
   | atb t os y =>
    have hs':2*t.length≤M:=by simpa [Rs.small] using hs
    obtain ⟨cs,fs',ys,hrun,hp,hr⟩:=Qy hr
    refine (jS mixed hc hrun (jC hE) hfacts).mono fun x W' ⟨ρ',_,hx',hb,hfs⟩=>?_
    obtain ⟨ρ'',a1,a2,a3⟩:=Df (ρ:=ρ) (b:=b) rfl hp hr hs' hfs
    exact ⟨ρ'',a1,by rw [hx'];simp only [Rs.sv,SV.den,El.den,List.map_cons,List.map_nil,a2];rfl,hb,a3⟩
   | bl y =>
    obtain ⟨fs',hrun⟩:=Ec hr
    refine (jS mixed hc hrun (jC hE) hfacts).mono fun x W' ⟨ρ',_,hx',hb,hfs⟩=>⟨ρ,fun _ _=>rfl,?_,hb,fun g hg=>by cases hg⟩
    rw [hx'];rfl
  ·cases ha
 ·cases ha
end Rx
namespace Z4
open Go.RowKit Go.Sort Go.Lib
theorem J8 (w:World):Calls Tryz.prog 125 #[.agg #[.bool false,.slice none 0 0,.bool false,.slice none 0 0]] w (iP w 1):=by
 have HN:=hid (fun (W:World)=>kY 1 (by decide) (by decide) W)
 go_enter Tryz.func125,Tryz.ntmps125
 go_wp2_with fail
 have hS0:=hid (((St.start w).alloc' (w.heap.size) (by simp) 40 [.bool false,.slice none 0 0,.bool false,.slice none 0 0]).alloc' (w.heap.size+1) (by simp) 38 [.bool false,.slice none 0 0])
 obtain ⟨W0,hW0⟩:=aP hS0
 rw [hW0] at hS0 ⊢
 clear hW0
 refine (HN.out _).mono ?_
 rintro e w1 hret
 obtain ⟨v1,rfl,hz1,hB⟩:=hret.z
 clear hret
 obtain ⟨t1,p1,l1,k1,rfl⟩:=hz1.open
 have hS1:=hid (hS0.out.call hB)
 clear hB hS0
 have hS2:=hid (hS1.out.fact (.z (.agg #[.bool t1,.slice p1 l1 k1]) 1) hz1)
 clear hS1 hz1
 obtain ⟨⟨cR0,cR1⟩,fR0,fR1⟩:=hS2.out.f2 0 (w.heap.size+1) 38 (.bool false) (.slice none 0 0) rfl
 have hS3:=hid (((hS2.out).store (b:=⟨w.heap.size+1,38,[.bool false,.slice none 0 0]⟩) 0 0 (.bool t1) rfl rfl).store (b:=⟨w.heap.size+1,38,[.bool t1,.slice none 0 0]⟩) 0 1 (.slice p1 l1 k1) rfl rfl)
 go_wp2_with fail
 clear cR0 cR1 fR0 fR1
 obtain ⟨⟨zR0,zR1⟩,-⟩:=hS3.out.f2 0 (w.heap.size+1) 38 (.bool t1) (.slice p1 l1 k1) rfl
 exact bodyPost_ret (v:=.agg #[.bool t1,.slice p1 l1 k1]) (by simp [results,Tryz.results125,go_sem,zR0,zR1]) rfl ⟨_,rfl,hS3.out.get (f:=.z (.agg #[.bool t1,.slice p1 l1 k1]) 1) 0 rfl,hS3.out.bel⟩
theorem Tc (w:World):Calls Tryz.prog 121 #[.agg #[.bool false,.slice none 0 0,.bool false,.slice none 0 0]] w (fJ w [48]):=by
 have HN:=hid (fun (W:World)=>GZ false none 0 W)
 have HM:=hid (fun (W:World) (v:Value) (a:IsZ W v 1)=>show Calls Tryz.prog 172 #[v] W (fJ W [49]) by
  have h:=BZ _ v W a 1 (by decide) (by decide)
  rwa [show fV 1=[49] by unfold fV;rw [if_neg (by decide),decDigits];rfl] at h)
 have HD:=hid (fun (W:World)=>J8 W)
 go_enter Tryz.func121,Tryz.ntmps121
 go_wp2_with fail
 have hS0:=hid ((St.start w).alloc' (w.heap.size) (by simp) 40 [.bool false,.slice none 0 0,.bool false,.slice none 0 0])
 obtain ⟨W0,hW0⟩:=aP hS0
 rw [hW0] at hS0 ⊢
 clear hW0
 obtain ⟨⟨cR0,cR1,cR2,cR3⟩,fR0,fR1,fR2,fR3⟩:=hS0.out.f4 0 w.heap.size 40 (.bool false) (.slice none 0 0) (.bool false) (.slice none 0 0) rfl
 go_wp2_with fail
 clear cR0 cR1 cR2 cR3 fR0 fR1 fR2 fR3
 refine (HN.out _).mono ?_
 rintro e w1 ⟨rfl,hB⟩
 have hS2:=hid (hS0.out.call hB)
 clear hS0 hB
 obtain ⟨⟨cR0,cR1,cR2,cR3⟩,fR0,fR1,fR2,fR3⟩:=hS2.out.f4 0 w.heap.size 40 (.bool false) (.slice none 0 0) (.bool false) (.slice none 0 0) rfl
 go_wp2_with fail
 clear cR0 cR1 cR2 cR3 fR0 fR1 fR2 fR3
 refine (HD.out _).mono ?_
 rintro e w2 ⟨v2,rfl,hz2,hB⟩
 have hS3:=hid (hS2.out.call hB)
 clear hS2 hB
 obtain ⟨t2,p2,l2,k2,rfl⟩:=hz2.open
 have hZ:=hid hz2
 clear hz2
 go_wp2_with fail
 refine (HM.out _ _ hZ.out).mono ?_
 rintro e w3 ⟨rfl,hB⟩
 have hS4:=hid (hS3.out.call hB)
 clear hS3 hB hZ
 go_wp2
 go_ret
 exact ⟨rfl,hS4.out.bel⟩
end Z4
namespace Rx
open Go.RowKit
section
variable (β:Nat→Rat) (h:Hint)
def uU (f:FuncId) (op:RE→RE) (side:RE→Bool):Con (SQ β) where
 fn:=f
 app:=fun db b args=>match args with
  | [.e (.a x)]=>match jE db x with
   | some (e,k)=>if decide (k≤K2) && side e then some (.e (.a (bg b)),[.r b (op e) k]) else none
   | none=>none
  | _=>none
def rJ (f:FuncId) (op:RE→RE→RE) (sz:Nat→Nat→Nat) (side:RE→RE→Bool):Con (SQ β) where
 fn:=f
 app:=fun db b args=>match args with
  | [.e (.a x),.e (.a y)]=>match jE db x,jE db y with
   | some (e,k),some (e',k')=>if decide (k≤K2) && decide (k'≤K2) && side e e' then some (.e (.a (bg b)),[.r b (op e e') (sz k k')]) else none
   | _,_=>none
  | _=>none
def zf:Con (SQ β) where
 fn:=39
 app:=fun db _ args=>match args with
  | [.e (.a x),.e (.a y)]=>match jE db x,jE db y with
   | some (e,k),some (e',k')=>if decide (k≤K2) && decide (k'≤K2) then (match cmB h e e' with
     | some n=>some (.e (.s (.it .i64 n)),[])
     | none=>none) else none
   | _,_=>none
  | _=>none
def zk:Con (SQ β) where
 fn:=24
 app:=fun db _ args=>match args with
  | [.e (.a x)]=>match jE db x with
   | some (e,k)=>if k≤K2 then (match sgB h e with
     | some n=>some (.e (.s (.it .i64 n)),[])
     | none=>none) else none
   | none=>none
  | _=>none
def zh:Con (SQ β) where
 fn:=27
 app:=fun _ b args=>match args with
  | [.e (.s (.it .i64 1))]=>some (.e (.a (bg b)),[.r b (.c 1) 1])
  | [.e (.s (.it .i64 2))]=>some (.e (.a (bg b)),[.r b (.c 2) 1])
  | _=>none
def zH:Con (SQ β) where
 fn:=97
 app:=fun db b args=>match args with
  | [.e (.a x)]=>match fD db x with
   | some (e,k)=>if k≤K0 then some (.e (.s (.ot b)),[.x b e]) else none
   | none=>none
  | _=>none
def zn:Con (SQ β) where
 fn:=121
 app:=fun db b args=>match args with
  | [.e (.a x)]=>match jE db x with
   | some (e,k)=>if k≤K0 then some (.e (.s (.ot b)),[.x b e]) else none
   | none=>match tY x with
    | some _=>some (.e (.s (.ot b)),[.x b (.c 0)])
    | none=>none
  | _=>none
def zO:List (Con (SQ β)):=[rJ β 29 .add (fun a b=>a+b+1) (fun _ _=>true),rJ β 33 .mul (fun a b=>a+b) (fun _ _=>true),rJ β 25 .div (fun a b=>a+b+1) (fun _ e=>nzB h e),
 uU β 35 .neg (fun _=>true),uU β 37 .abs (fun _=>true),zf β h,zk β h,zh β,zH β,zn β]
def c0:List (Con (SQ β)):=zO β h ++ cq β h
end
section
variable {β:Nat→Rat} {h:Hint} {f:FuncId} {vals:Array Value} {W:World} {ρ:Env} {b:Nat}
theorem oV {e:RE} {k:Nat} (hc:Calls Tryz.prog f vals W (Z4.eY W (e.ev β))) (hk:Fits k (e.ev β)):Calls Tryz.prog f vals W (Ans β ρ b W (.e (.a (bg b))) [.r b e k]):=by
 refine hc.mono fun _ W' ⟨v,he,hv,hb⟩=>?_
 obtain ⟨c,d,rfl⟩:=oK hv
 have h1:(bg b).map (Cell.den (aK ρ b [c,d]))=[.bool c.b,.slice c.p c.l c.c,.bool false,.slice d.p d.l d.c]:=by simp [bg,Cell.den,aK]
 refine ⟨aK ρ b [c,d],jv (by simp [M]),?_,hb,fun g hg=>?_⟩
 ·rw [he];simp only [SV.den,El.den,h1]
 ·rw [List.mem_singleton] at hg
  subst hg
  exact ⟨by rw [h1];exact hv,hk⟩
theorem xA {e:RE} {l:List UInt8} (hc:Calls Tryz.prog f vals W (fJ W l)) (hl:l=gJ (e.ev β)):Calls Tryz.prog f vals W (Ans β ρ b W (.e (.s (.ot b))) [.x b e]):=by
 refine hc.mono fun _ W' ⟨he,hb⟩=>?_
 refine ⟨aK ρ b [⟨false,0,none,0,0,⟨l.toArray⟩,0⟩],jv (by simp [M]),?_,hb,fun g hg=>?_⟩
 ·rw [he];simp [SV.den,El.den,Cell.den,aK]
 ·rw [List.mem_singleton] at hg
  subst hg
  show (aK ρ b _ b).t=_
  rw [← hl]
  simp [aK]
theorem Dq {op:RE→RE} {side:RE→Bool} (hc:∀ e v W,side e=true→Z4.IsR W v (e.ev β)→Fits K2 (e.ev β)→EV W→Calls Tryz.prog f #[v] W (Z4.eY W ((op e).ev β))) (hs:∀ e k,Fits k (e.ev β)→Fits k ((op e).ev β)):(uU β f op side).Ok Tryz.prog (SQ β) EV:=by
 intro db b args res new ha ρ W hf hE
 simp only [uU] at ha
 split at ha
 ·split at ha
  ·rename_i e k hx
   split at ha
   ·rename_i hk
    simp only [Bool.and_eq_true,decide_eq_true_eq] at hk
    cases ha
    obtain ⟨h1,h2⟩:=kU hx hf
    exact oV (hc e _ W hk.2 h1 (h2.mono hk.1) hE) (hs e k h2)
   ·cases ha
  ·cases ha
 ·cases ha
theorem y8 {op:RE→RE→RE} {sz:Nat→Nat→Nat} {side:RE→RE→Bool} (hc:∀ e e' v v' W,side e e' = true→Z4.IsR W v (e.ev β)→Z4.IsR W v' (e'.ev β)→Fits K2 (e.ev β)→Fits K2 (e'.ev β)→EV W→Calls Tryz.prog f #[v,v'] W (Z4.eY W ((op e e').ev β)))
  (hs:∀ e e' k k',Fits k (e.ev β)→Fits k' (e'.ev β)→Fits (sz k k') ((op e e').ev β)):(rJ β f op sz side).Ok Tryz.prog (SQ β) EV:=by
 intro db b args res new ha ρ W hf hE
 simp only [rJ] at ha
 split at ha
 ·split at ha
  ·rename_i e k e' k' hx hy
   split at ha
   ·rename_i hk
    simp only [Bool.and_eq_true,decide_eq_true_eq] at hk
    cases ha
    obtain ⟨h1,h2⟩:=kU hx hf
    obtain ⟨h3,h4⟩:=kU hy hf
    exact oV (hc e e' _ _ W hk.2 h1 h3 (h2.mono hk.1.1) (h4.mono hk.1.2) hE) (hs e e' k k' h2 h4)
   ·cases ha
  ·cases ha
 ·cases ha
theorem JC (ok:h.Ok β):(zf β h).Ok Tryz.prog (SQ β) EV:=by
 intro db b args res new ha ρ W hf hE
 simp only [zf] at ha
 split at ha
 ·split at ha
  ·rename_i e k e' k' hx hy
   split at ha
   ·rename_i hk
    simp only [Bool.and_eq_true,decide_eq_true_eq] at hk
    split at ha
    ·rename_i n hn
     cases ha
     obtain ⟨h1,h2⟩:=kU hx hf
     obtain ⟨h3,h4⟩:=kU hy hf
     have hc:=Rl h1 h3 (h2.mono hk.1) (h4.mono hk.2) hE
     rw [pO ok hn] at hc
     exact oU hc rfl
    ·cases ha
   ·cases ha
  ·cases ha
 ·cases ha
theorem JM (ok:h.Ok β):(zk β h).Ok Tryz.prog (SQ β) EV:=by
 intro db b args res new ha ρ W hf hE
 simp only [zk] at ha
 split at ha
 ·split at ha
  ·rename_i e k hx
   split at ha
   ·rename_i hk
    split at ha
    ·rename_i n hn
     cases ha
     obtain ⟨h1,h2⟩:=kU hx hf
     have hc:=SG h1 (h2.mono hk) hE
     rw [BI ok hn] at hc
     exact oU hc rfl
    ·cases ha
   ·cases ha
  ·cases ha
 ·cases ha
theorem JF:(zh β).Ok Tryz.prog (SQ β) EV:=by
 intro db b args res new ha ρ W hf hE
 simp only [zh] at ha
 split at ha
 ·cases ha
  exact oV (e:=.c 1) (RJ hE) (fits_int (n:=1) (by decide) (by decide))
 ·cases ha
  exact oV (e:=.c 2) (RN hE) (fits_int (n:=2) (by decide) (by decide))
 ·cases ha
theorem JW:(zH β).Ok Tryz.prog (SQ β) EV:=by
 intro db b args res new ha ρ W hf hE
 simp only [zH] at ha
 split at ha
 ·split at ha
  ·rename_i e k hx
   split at ha
   ·rename_i hk
    cases ha
    obtain ⟨⟨h1,h2⟩,-⟩:=gy hx hf
    exact xA (F7 _ _ k W h1 hk h2 hE.ten) rfl
   ·cases ha
  ·cases ha
 ·cases ha
theorem text0:gJ 0=[48]:=by
 unfold gJ
 rw [if_neg (by decide),if_pos (by decide),show (0:Rat).num.natAbs=0 from rfl,Lib.decDigits];rfl
theorem JR:(zn β).Ok Tryz.prog (SQ β) EV:=by
 intro db b args res new ha ρ W hf hE
 simp only [zn] at ha
 split at ha
 ·split at ha
  ·rename_i e k hx
   split at ha
   ·rename_i hk
    cases ha
    obtain ⟨h1,h2⟩:=kU hx hf
    exact xA (Z4.SH _ _ W h1 k hk h2) rfl
   ·cases ha
  ·split at ha
   ·rename_i hz
    cases ha
    unfold tY at hz
    split at hz
    ·exact xA (e:=.c 0) (Z4.Tc W) text0.symm
    ·cases hz
   ·cases ha
 ·cases ha
theorem J4 (ok:h.Ok β):∀ c∈zO β h,c.Ok Tryz.prog (SQ β) EV:=by
 unfold zO
 simp only [List.forall_mem_cons,List.not_mem_nil,false_imp_iff,implies_true,and_true]
 exact ⟨y8 (fun _ _ _ _ _ _ h1 h2 f1 f2 hE=>Q8 h1 h2 f1 f2 hE) (fun _ _ _ _ h1 h2=>h1.plus h2),
  y8 (fun _ _ _ _ _ _ h1 h2 f1 f2 hE=>RU h1 h2 f1 f2 hE) (fun _ _ _ _ h1 h2=>h1.mul h2),
  y8 (fun _ _ _ _ _ hn h1 h2 f1 f2 hE=>Ro h1 h2 f1 f2 (nM ok hn) hE) (fun _ _ _ _ h1 h2=>h1.over h2),
  Dq (fun _ _ _ _ h1 f1 hE=>Si h1 f1 hE) (fun _ _ h1=>h1.neg),Dq (fun _ _ _ _ h1 f1 hE=>Q7 h1 f1 hE) (fun _ _ h1=>DU h1),
  JC ok,JM ok,JF,JW,JR⟩
theorem uF (ok:h.Ok β):∀ c∈c0 β h,c.Ok Tryz.prog (SQ β) EV:=fun c hc=>by
 rcases List.mem_append.1 hc with hc | hc
 ·exact J4 ok c hc
 ·exact rM ok c hc
end
end Rx
namespace Rx
open Go.RowKit
abbrev K3:Nat:=1024
abbrev y0:RE:=.v 0
abbrev y1:RE:=.v 1
abbrev y2:RE:=.v 2
abbrev y3:RE:=.v 3
abbrev Q2:List At:=[.q,.q]
abbrev R2:List At:=[.r,.r]
def qC (x:RE):RE:=.add (.c 1) x
def sqs (x y:RE):RE:=.add (.mul x x) (.mul y y)
def tR (e:RE):RE:=.div (.mul (.c 2) e) (.add (.c 1) (.mul e e))
def DZ (β:Nat→Rat) (h:Hint):Con (SQ β):=aT β h 31 [[.r],[.r]] 16384 {} (.at [.r] [.sub y0 y1]) 32769
theorem LZ {β:Nat→Rat} {h:Hint} (ok:h.Ok β):(DZ β h).Ok Tryz.prog (SQ β) EV:=yH ok (by decide) fun γ g=>⟨{},iw γ,1,c0 γ {},uF (iw γ),by kernel_rfl⟩
def D5 (β:Nat→Rat) (h:Hint):Con (SQ β):=aT β h 19 [[.q],[.r]] K1 { eq:=[(y0,y1)] } (.bl true) K1
theorem MN {β:Nat→Rat} {h:Hint} (ok:h.Ok β):(D5 β h).Ok Tryz.prog (SQ β) EV:=yH ok (by decide) fun γ g=>⟨{ eq:=[(y0,y1)] },g,1,c0 γ { eq:=[(y0,y1)] },uF g,by kernel_rfl⟩
def D6 (β:Nat→Rat) (h:Hint):Con (SQ β):=aT β h 19 [[.q],[.o]] K1 { eq:=[(y0,.c 0)] } (.bl true) K1
theorem MH {β:Nat→Rat} {h:Hint} (ok:h.Ok β):(D6 β h).Ok Tryz.prog (SQ β) EV:=yH ok (by decide) fun γ g=>⟨{ eq:=[(y0,.c 0)] },g,1,c0 γ { eq:=[(y0,.c 0)] },uF g,by kernel_rfl⟩
def c1 (β:Nat→Rat) (h:Hint):List (Con (SQ β)):=DZ β h :: D5 β h :: D6 β h :: c0 β h
theorem I5 {β:Nat→Rat} {h:Hint} (ok:h.Ok β):∀ c∈c1 β h,c.Ok Tryz.prog (SQ β) EV:=by
 unfold c1
 simp only [List.forall_mem_cons]
 exact ⟨LZ ok,MN ok,MH ok,uF ok⟩
def MJ (β:Nat→Rat) (h:Hint):Con (SQ β):=aT β h 67 [Q2,R2] K1 { eq:=[(y0,y2),(y1,y3)] } (.bl true) K1
def MK (β:Nat→Rat) (h:Hint):Con (SQ β):=aT β h 82 [Q2,R2] K1 { eq:=[(y0,y2),(y1,y3)] } (.bl true) K1
def Lc (β:Nat→Rat) (h:Hint):Con (SQ β):=aT β h 68 [Q2,Q2] K3 {} (.at Q2 [.add y0 y2,.add y1 y3]) K1
def MW (β:Nat→Rat) (h:Hint):Con (SQ β):=aT β h 70 [Q2,Q2] K3 {} (.at Q2 [.sub y0 y2,.sub y1 y3]) K1
def MP (β:Nat→Rat) (h:Hint):Con (SQ β):=aT β h 72 [Q2,[.q]] K3 {} (.at Q2 [.mul y0 y2,.mul y1 y2]) K1
def LG (β:Nat→Rat) (h:Hint):Con (SQ β):=aT β h 69 [R2,R2] K3 {} (.at R2 [.add y0 y2,.add y1 y3]) K1
def LH (β:Nat→Rat) (h:Hint):Con (SQ β):=aT β h 71 [R2,R2] K3 {} (.at R2 [.sub y0 y2,.sub y1 y3]) K1
def LY (β:Nat→Rat) (h:Hint):Con (SQ β):=aT β h 73 [R2,[.r]] K3 {} (.at R2 [.mul y0 y2,.mul y1 y2]) K1
def LU (β:Nat→Rat) (h:Hint):Con (SQ β):=aT β h 75 [R2,R2] K3 {} (.at [.r] [.add (.mul y0 y2) (.mul y1 y3)]) K1
def LP (β:Nat→Rat) (h:Hint):Con (SQ β):=aT β h 77 [R2,R2] K3 {} (.at [.r] [.sub (.mul y0 y3) (.mul y1 y2)]) K1
def LJ (β:Nat→Rat) (h:Hint):Con (SQ β):=aT β h 79 [R2,R2] K3 {} (.at R2 [.sub (.mul y2 y0) (.mul y3 y1),.add (.mul y3 y0) (.mul y2 y1)]) K1
def Mc (β:Nat→Rat) (h:Hint):Con (SQ β):=aT β h 86 [R2,R2] K3 {} (.at R2 [.sub (.mul y0 y2) (.mul y1 y3),.add (.mul y1 y2) (.mul y0 y3)]) K1
def LM (β:Nat→Rat) (h:Hint):Con (SQ β):=aT β h 88 [R2] K3 {} (.at R2 [y0,.neg y1]) K1
def MB (β:Nat→Rat) (h:Hint):Con (SQ β):=aT β h 84 [[.r]] K3 {} (.at R2 [tC y0,tR y0]) K1
def Lp (β:Nat→Rat) (h:Hint):Con (SQ β):=aT β h 74 [Q2,Q2] K3 {} (.at [.q] [.add (.mul y0 y2) (.mul y1 y3)]) K1
def Lm (β:Nat→Rat) (h:Hint):Con (SQ β):=aT β h 76 [Q2,Q2] K3 {} (.at [.q] [.sub (.mul y0 y3) (.mul y1 y2)]) K1
def LK (β:Nat→Rat) (h:Hint):Con (SQ β):=aT β h 78 [Q2,Q2] K3 {} (.at Q2 [.sub (.mul y2 y0) (.mul y3 y1),.add (.mul y3 y0) (.mul y2 y1)]) K1
def MX (β:Nat→Rat) (h:Hint):Con (SQ β):=aT β h 85 [Q2,Q2] K3 {} (.at Q2 [.sub (.mul y0 y2) (.mul y1 y3),.add (.mul y1 y2) (.mul y0 y3)]) K1
def Le (β:Nat→Rat) (h:Hint):Con (SQ β):=aT β h 87 [Q2] K3 {} (.at Q2 [y0,.neg y1]) K1
def LC (β:Nat→Rat) (h:Hint):Con (SQ β):=aT β h 80 [[.q,.q]] K3 { nz:=[qC y0] } (.atb [.q] [.div y1 (qC y0)] true) K1
def Nb (β:Nat→Rat) (h:Hint):Con (SQ β):=aT β h 89 [Q2] K3 { eq:=[(sqs y0 y1,.c 1)] } (.bl true) K1
def LW (β:Nat→Rat) (h:Hint):Con (SQ β):=aT β h 81 [[.r,.r]] K3 { nz:=[qC y0] } (.atb [.r] [.div y1 (qC y0)] true) K1
def LD (β:Nat→Rat) (h:Hint):Con (SQ β):=aT β h 80 [Q2] K3 { sg:=[(qC y0,0)] } (.atb [.q] [.c 0] false) K1
def LX (β:Nat→Rat) (h:Hint):Con (SQ β):=aT β h 81 [R2] K3 { sg:=[(qC y0,0)] } (.atb [.o] [.c 0] false) K1
def MC (β:Nat→Rat) (h:Hint):Con (SQ β):=aT β h 90 [R2] K3 { eq:=[(sqs y0 y1,.c 1)] } (.bl true) K1
def Nc (β:Nat→Rat) (h:Hint):Con (SQ β):=aT β h 89 [Q2] K3 { ne:=[(sqs y0 y1,.c 1)] } (.bl false) K1
def MF (β:Nat→Rat) (h:Hint):Con (SQ β):=aT β h 90 [R2] K3 { ne:=[(sqs y0 y1,.c 1)] } (.bl false) K1
def c2 (β:Nat→Rat) (h:Hint):List (Con (SQ β)):=Lp β h :: Lm β h :: LK β h :: MX β h :: Le β h :: LC β h :: Nb β h :: MJ β h :: MK β h :: Lc β h :: MW β h :: MP β h :: LG β h :: LH β h :: LY β h :: LU β h :: LP β h :: LJ β h :: Mc β h :: LM β h :: MB β h :: LW β h :: LD β h :: LX β h :: MC β h :: Nc β h :: MF β h :: c1 β h
def c3 (β:Nat→Rat) (h:Hint):List (Con (SQ β)):=conBothP β :: uT β :: (c2 β h ++ cl1 β)
end Rx
namespace Z4
open Go.RowKit Go.Sort Go.Lib
theorem RS (n:Int) (h1:-9223372036854775808≤n) (h2:n≤9223372036854775807) (w:World):Calls Tryz.prog 27 #[.int .i64 n] w (eY w (n:Rat)):=by
 have HN:=hid (fun (W:World)=>kY n h1 h2 W)
 have HD:=hid (fun (W:World)=>kY 1 (by decide) (by decide) W)
 clear h1 h2
 go_enter Tryz.func27,Tryz.ntmps27
 go_wp2_with fail
 have hS0:=hid ((St.start w).alloc' (w.heap.size) (by simp) 40 [.bool false,.slice none 0 0,.bool false,.slice none 0 0])
 obtain ⟨W0,hW0⟩:=aP hS0
 rw [hW0] at hS0 ⊢
 clear hW0
 refine (HN.out _).mono ?_
 rintro e w1 hret
 obtain ⟨v1,rfl,hz1,hB⟩:=hret.z
 clear hret
 obtain ⟨t1,p1,l1,k1,rfl⟩:=hz1.open
 have hS1:=hid (hS0.out.call hB)
 clear hB
 clear hS0
 have hS2:=hid (hS1.out.fact (.z (.agg #[.bool t1,.slice p1 l1 k1]) n) hz1)
 clear hS1 hz1
 go_wp2_with fail
 refine (HD.out _).mono ?_
 rintro e w2 hret
 obtain ⟨v2,rfl,hz2,hB⟩:=hret.z
 clear hret
 obtain ⟨t2,p2,l2,k2,rfl⟩:=hz2.open
 obtain rfl:t2=false:=by
  obtain ⟨_,e,-⟩:=hz2.parts
  rw [e];rfl
 have hS3:=hid (hS2.out.call hB)
 clear hB
 clear hS2
 have hS4:=hid (hS3.out.fact (.z (.agg #[.bool false,.slice p2 l2 k2]) 1) hz2)
 clear hS3 hz2
 obtain ⟨⟨cR0,cR1,cR2,cR3⟩,fR0,fR1,fR2,fR3⟩:=hS4.out.f4 0 w.heap.size 40 (.bool false) (.slice none 0 0) (.bool false) (.slice none 0 0) rfl
 have hS8:=hid ((((((hS4.out).store (b:=⟨w.heap.size,40,[.bool false,.slice none 0 0,.bool false,.slice none 0 0]⟩) 0 0 (.bool t1) rfl rfl).store (b:=⟨w.heap.size,40,[.bool t1,.slice none 0 0,.bool false,.slice none 0 0]⟩) 0 1 (.slice p1 l1 k1) rfl rfl).store (b:=⟨w.heap.size,40,[.bool t1,.slice p1 l1 k1,.bool false,.slice none 0 0]⟩) 0 2 (.bool false) rfl rfl).store (b:=⟨w.heap.size,40,[.bool t1,.slice p1 l1 k1,.bool false,.slice none 0 0]⟩) 0 3 (.slice p2 l2 k2) rfl rfl).as [⟨w.heap.size,40,[.bool t1,.slice p1 l1 k1,.bool false,.slice p2 l2 k2]⟩] rfl)
 go_wp2_with fail
 clear cR0 cR1 cR2 cR3 fR0 fR1 fR2 fR3
 obtain ⟨⟨zR0,zR1,zR2,zR3⟩,-⟩:=hS8.out.f4 0 w.heap.size 40 (.bool t1) (.slice p1 l1 k1) (.bool false) (.slice p2 l2 k2) rfl
 exact bodyPost_ret (v:=.agg #[.bool t1,.slice p1 l1 k1,.bool false,.slice p2 l2 k2]) (by simp [results,Tryz.results27,go_sem,zR0,zR1,zR2,zR3]) rfl ⟨_,rfl,.mk2 (by rw [Rat.num_intCast];exact hS8.out.get (f:=.z (.agg #[.bool t1,.slice p1 l1 k1]) n) 1 rfl) (by rw [Rat.den_intCast];exact hS8.out.get (f:=.z (.agg #[.bool false,.slice p2 l2 k2]) 1) 0 rfl),hS8.out.bel⟩
end Z4
namespace Rx
open Go.RowKit
section
variable (β:Nat→Rat) (h:Hint)
def iiB (db:List Fc):List SV→Option (RE×RE)
 | [.e (.s (.oi a)),.e (.s (.oi b))]=>match jh db a,jh db b with
  | some e,some e'=>if nzB h e' then some (e,e') else none
  | _,_=>none
 | _=>none
def iOf:Con (SQ β) where
 fn:=21
 app:=fun db b args=>match iiB h db args with
  | some (e,e')=>some (.t [.a (aS b),.s (.it .i64 0)],[.q b (.div e e') 2])
  | none=>none
def Ae:Con (SQ β) where
 fn:=22
 app:=fun db b args=>match iiB h db args with
  | some (e,e')=>some (.e (.a (bg b)),[.r b (.div e e') 2])
  | none=>none
def Ac:Con (SQ β) where
 fn:=21
 app:=fun db b args=>match args with
  | [.e (.s (.oi a)),.e (.s (.it .i64 0))]=>match jh db a with
   | some _=>some (.t [.a (aS b),.s (.it .i64 9)],[.q b (.c 0) 1])
   | none=>none
  | _=>none
def Aa:Con (SQ β) where
 fn:=26
 app:=fun db b args=>match args with
  | [.e (.s (.oi a))]=>match jh db a with
   | some e=>some (.e (.a (aS b)),[.q b e 1])
   | none=>none
  | _=>none
def Ad:Con (SQ β) where
 fn:=27
 app:=fun db b args=>match args with
  | [.e (.s (.oi a))]=>match jh db a with
   | some e=>some (.e (.a (bg b)),[.r b e 1])
   | none=>none
  | _=>none
def ci:List (Con (SQ β)):=[iOf β h,Ae β h,Ac β,Aa β,Ad β]
end
section
variable {β:Nat→Rat} {h:Hint} {ρ:Env} {W:World} {db:List Fc}
theorem D8 (ok:h.Ok β) {args:List SV} {e e':RE} (hh:iiB h db args=some (e,e')) (hf:∀ f∈db,(SQ β).on ρ f W):∃ n d:Int,(args.map (SV.den ρ)).toArray=#[.int .i64 n,.int .i64 d]∧(-9223372036854775808≤n∧n≤9223372036854775807)∧(-9223372036854775808≤d∧d≤9223372036854775807)∧d≠0∧(n:Rat) / (d:Rat)=(RE.div e e').ev β∧Fits 2 ((RE.div e e').ev β):=by
 unfold iiB at hh
 split at hh
 ·rename_i a b
  split at hh
  ·rename_i x y hx hy
   split at hh
   ·rename_i hn
    cases hh
    obtain ⟨h1,h2,h3⟩:=(show Fc.on β ρ (.i a e) W from hf _ (jG hx))
    obtain ⟨g1,g2,g3⟩:=(show Fc.on β ρ (.i b e') W from hf _ (jG hy))
    have hne:(ρ b).u≠0:=fun h0=>nM ok hn (by rw [← g3,h0];rfl)
    refine ⟨(ρ a).u,(ρ b).u,rfl,⟨h1,h2⟩,⟨g1,g2⟩,hne,by rw [h3,g3];rfl,?_⟩
    have:=DW (k:=1) (k':=1) hne (show (ρ a).u.natAbs<B64 ^ 1 by rw [Nat.pow_one];unfold B64;omega) (show (ρ b).u.natAbs<B64 ^ 1 by rw [Nat.pow_one];unfold B64;omega)
    rw [h3,g3] at this
    exact this.mono (by decide)
   ·cases hh
  ·cases hh
 ·cases hh
theorem NH (ok:h.Ok β):(iOf β h).Ok Tryz.prog (SQ β) EV:=by
 intro db b args res new ha ρ W hf hE
 simp only [iOf] at ha
 split at ha
 ·rename_i e e' hx
  cases ha
  obtain ⟨n,d,h1,h2,h3,h4,h5,h6⟩:=D8 ok hx hf
  rw [h1]
  have hc:=wO n d h2.1 (by omega) h3.1 (by omega) h4 W hE.tz
  rw [h5] at hc
  exact mD hc h6
 ·cases ha
theorem NJ (ok:h.Ok β):(Ae β h).Ok Tryz.prog (SQ β) EV:=by
 intro db b args res new ha ρ W hf hE
 simp only [Ae] at ha
 split at ha
 ·rename_i e e' hx
  cases ha
  obtain ⟨n,d,h1,h2,h3,h4,h5,h6⟩:=D8 ok hx hf
  rw [h1]
  have hc:=Z4.Bv n d h2.1 h2.2 h3.1 h3.2 h4 W
  rw [h5] at hc
  exact oV hc h6
 ·cases ha
theorem OU (β:Nat→Rat):(match iZ Tryz.prog (SQ β) (HQ β {} (iw β)) (cq β {}) 1 21 [.e (.s (.oi 0)),.e (.s (.it .i64 0))] [] 1 with
 | some (.t [.a [.bl false,.it .u64 0,.nils,.it .u64 0,.nils],.s (.it .i64 9)],_)=>true
 | _=>false)=true:=by kernel_rfl
theorem OM {n:Int} (hE:EV W):Calls Tryz.prog 21 #[.int .i64 n,.int .i64 0] W (eU W 0 9):=by
 have hr:=OU (bet [])
 split at hr
 ·rename_i fs heq
  exact (jS mixed (rM (iw _)) heq (jC hE) (ρ:=ev [nu n]) (w:=W) (fun g hg=>by cases hg)).mono fun x W' ⟨ρ',_,hx,hb,_⟩=>⟨_,hx,nX _,hb⟩
 ·cases hr
theorem NG:(Ac β).Ok Tryz.prog (SQ β) EV:=by
 intro db b args res new ha ρ W hf hE
 simp only [Ac] at ha
 split at ha
 ·split at ha
  ·cases ha
   exact mD (e:=.c 0) (OM hE) (fits_int (n:=0) (by decide) (by decide))
  ·cases ha
 ·cases ha
theorem Nz:(Aa β).Ok Tryz.prog (SQ β) EV:=by
 intro db b args res new ha ρ W hf hE
 simp only [Aa] at ha
 split at ha
 ·rename_i a
  split at ha
  ·rename_i e hx
   cases ha
   obtain ⟨h1,h2,h3⟩:=(show Fc.on β ρ (.i a e) W from hf _ (jG hx))
   have hc:=yV (ρ a).u h1 (by omega) W
   have hk:=fits_int h1 h2
   rw [h3] at hc hk
   exact qV hc hk
  ·cases ha
 ·cases ha
theorem NI:(Ad β).Ok Tryz.prog (SQ β) EV:=by
 intro db b args res new ha ρ W hf hE
 simp only [Ad] at ha
 split at ha
 ·rename_i a
  split at ha
  ·rename_i e hx
   cases ha
   obtain ⟨h1,h2,h3⟩:=(show Fc.on β ρ (.i a e) W from hf _ (jG hx))
   have hc:=Z4.RS (ρ a).u h1 h2 W
   have hk:=fits_int h1 h2
   rw [h3] at hc hk
   exact oV hc hk
  ·cases ha
 ·cases ha
theorem Ja (ok:h.Ok β):∀ c∈ci β h,c.Ok Tryz.prog (SQ β) EV:=by
 unfold ci
 simp only [List.forall_mem_cons,List.not_mem_nil,false_imp_iff,implies_true,and_true]
 exact ⟨NH ok,NJ ok,NG,Nz,NI⟩
end
end Rx
end Go.Proofs.YtnmlkobogofadaaGreatDoor
