/- What the proof rests on, part 33. -/
import Derived.Test.YtefbfbdijimanaaGreatDoorP32
import Derived.Test.YtefbfbdijimanaaGreatDoorP30
namespace Go.Proofs.YtefbfbdijimanaaGreatDoor
set_option maxRecDepth 100000
set_option maxHeartbeats 80000000
namespace Rx
open Go.RowKit
inductive At
 | q
 | r
 | o
def At.n:At→Nat
 | .q=>5
 | _=>4
def Z8:List Cell:=[.bl false,.nils,.bl false,.nils]
def At.cells:At→Nat→List Cell
 | .q,s=>aH s
 | .r,s=>cZ s
 | .o,_=>Z8
def At.fact:At→Nat→RE→Nat→List Fc
 | .q,s,e,k=>[.q s e k]
 | .r,s,e,k=>[.r s e k]
 | .o,_,_,_=>[]
def Bz:List Cell→Option (RE×Nat)
 | [.bl false,.nils,.bl false,.nils]=>some (.c 0,0)
 | _=>none
def At.parse (db:List Fc):At→List Cell→Option (RE×Nat)
 | .q,cs=>dW db cs
 | .r,cs=>iY db cs
 | .o,cs=>Bz cs
section
variable {β β':Nat→Rat} {ρ:Env} {W:World} {db:List Fc}
theorem At.name {a:At} {cs:List Cell} {e:RE} {k:Nat} (h:a.parse db cs=some (e,k)) (hf:∀ f∈db,(SQ β).on ρ f W):∃ c d:Nv,∀ (ρ':Env) s,ρ' s=c→ρ' (s+1)=d →
  (a.cells s).map (Cell.den ρ')=cs.map (Cell.den ρ)∧∀ (β':Nat→Rat) e' k',e'.ev β' = e.ev β→k≤k'→∀ f∈a.fact s e' k',(SQ β').on ρ' f W:=by
 cases a with
 | q =>
  obtain ⟨h1,c,d,h2⟩:=fU h hf
  refine ⟨c,d,fun ρ' s hc hd=>?_⟩
  have h3:(aH s).map (Cell.den ρ')=cs.map (Cell.den ρ):=by
   have:=congrArg Array.toList (Value.agg.inj h2)
   simp only at this
   rw [this]
   simp [aH,Cell.den,hc,hd]
  refine ⟨h3,fun β' e' k' he hk f hm=>?_⟩
  simp only [At.fact,List.mem_singleton] at hm
  subst hm
  show IsQ W (.agg ((aH s).map (Cell.den ρ')).toArray) (e'.ev β')∧Fits k' (e'.ev β')
  rw [h3,he]
  exact ⟨h1.1,h1.2.mono hk⟩
 | r =>
  obtain ⟨h1,h1'⟩:=Gj h hf
  obtain ⟨c,d,h2⟩:=Lc h1
  refine ⟨c,d,fun ρ' s hc hd=>?_⟩
  have h3:(cZ s).map (Cell.den ρ')=cs.map (Cell.den ρ):=by
   have:=congrArg Array.toList (Value.agg.inj h2)
   simp only at this
   rw [this]
   simp [cZ,Cell.den,hc,hd]
  refine ⟨h3,fun β' e' k' he hk f hm=>?_⟩
  simp only [At.fact,List.mem_singleton] at hm
  subst hm
  show Z4.IsR W (.agg ((cZ s).map (Cell.den ρ')).toArray) (e'.ev β')∧Fits k' (e'.ev β')
  rw [h3,he]
  exact ⟨h1,h1'.mono hk⟩
 | o =>
  refine ⟨default,default,fun ρ' s _ _=>⟨?_,fun β' e' k' _ _ f hm=>by cases hm⟩⟩
  simp only [At.parse] at h
  unfold Bz at h
  split at h
  ·rfl
  ·cases h
def dM (db:List Fc):List At→List Cell→Option (List (RE×Nat))
 | [],[]=>some []
 | [],_ :: _=>none
 | a :: r,cs=>match a.parse db (cs.take a.n),dM db r (cs.drop a.n) with
  | some x,some l=>some (x :: l)
  | _,_=>none
def jC:List At→Nat→List Cell
 | [],_=>[]
 | a :: r,s=>a.cells s ++ jC r (s+2)
def bY:List At→Nat→List (RE×Nat)→List Fc
 | a :: r,s,x :: l=>a.fact s x.1 x.2 ++ bY r (s+2) l
 | _,_,_=>[]
def rel (β' β:Nat→Rat):List (RE×Nat)→List (RE×Nat)→Prop
 | [],[]=>True
 | x :: l,y :: m=>(x.1.ev β' = y.1.ev β∧y.2≤x.2)∧rel β' β l m
 | _,_=>False
theorem Kq {β' β:Nat→Rat}:∀ {a b:List (RE×Nat)} {l:List (RE×Nat)},rel β' β l (a ++ b)→rel β' β (l.take a.length) a∧rel β' β (l.drop a.length) b
 | [],b,l,h=>by simpa [rel] using h
 | x :: a,b,[],h=>by simp [rel] at h
 | x :: a,b,y :: l,h=>by
  obtain ⟨h1,h2⟩:(y.1.ev β' = x.1.ev β∧x.2≤y.2)∧rel β' β l (a ++ b):=h
  obtain ⟨h3,h4⟩:=Kq h2
  exact ⟨⟨h1,h3⟩,h4⟩
theorem Eh:∀ {t:List At} {cs:List Cell} {xs:List (RE×Nat)},dM db t cs=some xs→xs.length=t.length
 | [],[],xs,h=>by simp [dM] at h;subst h;rfl
 | [],_ :: _,xs,h=>by simp [dM] at h
 | a :: r,cs,xs,h=>by
  simp only [dM] at h
  split at h
  ·rename_i x l h1 h2
   cases h
   simp [Eh h2]
  ·cases h
theorem su (hf:∀ f∈db,(SQ β).on ρ f W):∀ {t:List At} {cs:List Cell} {xs:List (RE×Nat)},dM db t cs=some xs→∃ L:List Nv,L.length=2*t.length∧∀ (ρ':Env) s,(∀ i,i<2*t.length→ρ' (s+i)=L[i]?.getD default) →
  (jC t s).map (Cell.den ρ')=cs.map (Cell.den ρ)∧∀ (β':Nat→Rat) xs',rel β' β xs' xs→∀ f∈bY t s xs',(SQ β').on ρ' f W
 | [],[],xs,h=>⟨[],rfl,fun ρ' s _=>⟨rfl,fun β' xs' _ f hm=>by simp [bY] at hm⟩⟩
 | [],_ :: _,xs,h=>by simp [dM] at h
 | a :: r,cs,xs,h=>by
  simp only [dM] at h
  split at h
  ·rename_i x l h1 h2
   cases h
   obtain ⟨c,d,h3⟩:=At.name (e:=x.1) (k:=x.2) h1 hf
   obtain ⟨L,h4,h5⟩:=su hf h2
   refine ⟨c :: d :: L,by simp [h4];omega,fun ρ' s hρ=>?_⟩
   have c0:=hρ 0 (by simp <;> omega)
   have d0:=hρ 1 (by simp <;> omega)
   obtain ⟨g1,g2⟩:=h3 ρ' s (by simpa using c0) (by simpa using d0)
   obtain ⟨g3,g4⟩:=h5 ρ' (s+2) (fun i hi=>by
    have:=hρ (2+i) (by simp <;> omega)
    rw [← Nat.add_assoc,show 2+i=i+1+1 by omega] at this
    simpa using this)
   refine ⟨?_,fun β' xs' hr f hm=>?_⟩
   ·simp only [jC,List.map_append,g1,g3]
    rw [← List.map_append,List.take_append_drop]
   ·cases xs' with
    | nil=>simp [rel] at hr
    | cons y l' =>
     obtain ⟨⟨r1,r2⟩,r3⟩:=hr
     simp only [bY,List.mem_append] at hm
     rcases hm with hm | hm
     ·exact g2 β' _ _ r1 r2 f hm
     ·exact g4 β' l' r3 f hm
  ·cases h
def gK (db:List Fc):List (List At)→List SV→Option (List (RE×Nat))
 | [],[]=>some []
 | t :: r,.e (.a cs) :: l=>match dM db t cs,gK db r l with
  | some x,some y=>some (x ++ y)
  | _,_=>none
 | _,_=>none
def iW:List (List At)→Nat→List SV
 | [],_=>[]
 | t :: r,s=>.e (.a (jC t s)) :: iW r (s+2*t.length)
theorem Ig:∀ {t r:List At} {s:Nat} {xs:List (RE×Nat)} {f:Fc},f∈bY (t ++ r) s xs→f∈bY t s (xs.take t.length)∨f∈bY r (s+2*t.length) (xs.drop t.length)
 | [],r,s,xs,f,h=>.inr (by simpa using h)
 | a :: t,r,s,[],f,h=>by simp [bY] at h
 | a :: t,r,s,x :: xs,f,h=>by
  simp only [List.cons_append,bY,List.mem_append] at h
  simp only [List.length_cons,List.take_succ_cons,List.drop_succ_cons,bY,List.mem_append]
  rcases h with h | h
  ·exact .inl (.inl h)
  ·rcases Ig h with h | h
   ·exact .inl (.inr h)
   ·exact .inr (by rwa [show s+2*(t.length+1)=s+2+2*t.length by omega])
theorem zF:∀ {ts:List (List At)} {args:List SV} {xs:List (RE×Nat)},gK db ts args=some xs→xs.length=ts.flatten.length
 | [],[],xs,h=>by simp [gK] at h;subst h;rfl
 | [],_ :: _,xs,h=>by simp [gK] at h
 | t :: r,[],xs,h=>by simp [gK] at h
 | t :: r,x :: l,xs,h=>by
  unfold gK at h
  split at h
  ·rename_i heq _;cases heq
  ·rename_i heq1 heq2
   cases heq1;cases heq2
   split at h
   ·rename_i x y g1 g2
    cases h
    simp [Eh g1,zF g2]
   ·cases h
  ·cases h
theorem zf (hf:∀ f∈db,(SQ β).on ρ f W):∀ {ts:List (List At)} {args:List SV} {xs:List (RE×Nat)},gK db ts args=some xs→∃ L:List Nv,L.length=2*ts.flatten.length∧∀ (ρ':Env) s,(∀ i,i<2*ts.flatten.length→ρ' (s+i)=L[i]?.getD default) →
  (iW ts s).map (SV.den ρ')=args.map (SV.den ρ)∧∀ (β':Nat→Rat) xs',rel β' β xs' xs→∀ f∈bY ts.flatten s xs',(SQ β').on ρ' f W
 | [],[],xs,h=>⟨[],rfl,fun ρ' s _=>⟨rfl,fun β' xs' _ f hm=>by simp [bY] at hm⟩⟩
 | [],_ :: _,xs,h=>by simp [gK] at h
 | t :: r,[],xs,h=>by simp [gK] at h
 | t :: r,x :: l,xs,h=>by
  unfold gK at h
  split at h
  ·rename_i heq _;cases heq
  ·rename_i _ _ cs _ heq1 heq2
   cases heq1;cases heq2
   split at h
   ·rename_i x y h1 h2
    cases h
    obtain ⟨L,h3,h4⟩:=su hf h1
    obtain ⟨L',h5,h6⟩:=zf hf h2
    refine ⟨L ++ L',by simp [h3,h5,Nat.mul_add],fun ρ' s hρ=>?_⟩
    obtain ⟨g1,g2⟩:=h4 ρ' s (fun i hi=>by
     have:=hρ i (by simp <;> omega)
     rwa [List.getElem?_append_left (by omega)] at this)
    obtain ⟨g3,g4⟩:=h6 ρ' (s+2*t.length) (fun i hi=>by
     have:=hρ (2*t.length+i) (by simp;simp at hi;omega)
     rw [List.getElem?_append_right (by omega),h3,Nat.add_sub_cancel_left,← Nat.add_assoc] at this
     exact this)
    refine ⟨?_,fun β' xs' hr f hm=>?_⟩
    ·simp only [iW,List.map_cons,g3]
     congr 1
     simp only [SV.den,El.den,g1]
    ·obtain ⟨r1,r2⟩:=Kq hr
     rw [Eh h1] at r1 r2
     rcases Ig (t:=t) (r:=r.flatten) (by simpa using hm) with hm | hm
     ·exact g2 β' _ r1 f hm
     ·exact g4 β' _ r2 f hm
   ·cases h
  ·cases h
end
def RE.sub' (es:List RE):RE→RE
 | .v n=>es.getD n (.c 0)
 | .c n=>.c n
 | .add a b=>.add (a.sub' es) (b.sub' es)
 | .sub a b=>.sub (a.sub' es) (b.sub' es)
 | .mul a b=>.mul (a.sub' es) (b.sub' es)
 | .div a b=>.div (a.sub' es) (b.sub' es)
 | .neg a=>.neg (a.sub' es)
 | .abs a=>.abs (a.sub' es)
 | .flo a=>.flo (a.sub' es)
 | .num a=>.num (a.sub' es)
 | .den a=>.den (a.sub' es)
 | .rt a=>.rt (a.sub' es)
def put (β:Nat→Rat) (es:List RE):Nat→Rat:=fun n=>(es.getD n (.c 0)).ev β
theorem kY {β:Nat→Rat} {es:List RE} (e:RE):(e.sub' es).ev β=e.ev (put β es):=by
 induction e with
 | v n=>rfl
 | c n=>rfl
 | add a b ih1 ih2=>show (a.sub' es).ev β+(b.sub' es).ev β=_;rw [ih1,ih2];rfl
 | sub a b ih1 ih2=>show (a.sub' es).ev β - (b.sub' es).ev β=_;rw [ih1,ih2];rfl
 | mul a b ih1 ih2=>show (a.sub' es).ev β*(b.sub' es).ev β=_;rw [ih1,ih2];rfl
 | div a b ih1 ih2=>show (a.sub' es).ev β / (b.sub' es).ev β=_;rw [ih1,ih2];rfl
 | neg a ih=>show -(a.sub' es).ev β=_;rw [ih];rfl
 | abs a ih=>show (if ((a.sub' es).ev β).num<0 then -(a.sub' es).ev β else (a.sub' es).ev β)=_;rw [ih];rfl
 | flo a ih=>show ((((a.sub' es).ev β).num / (((a.sub' es).ev β).den:Int):Int):Rat)=_;rw [ih];rfl
 | num a ih=>show (((a.sub' es).ev β).num:Rat)=_;rw [ih];rfl
 | den a ih=>show (((((a.sub' es).ev β).den:Nat):Int):Rat)=_;rw [ih];rfl
 | rt a ih=>show (((isq ((a.sub' es).ev β).num.natAbs:Nat):Int):Rat)=_;rw [ih];rfl
def RE.plain:RE→RE
 | .sub a b=>.add a.plain (.neg b.plain)
 | .add a b=>.add a.plain b.plain
 | .mul a b=>.mul a.plain b.plain
 | .div a b=>.div a.plain b.plain
 | .neg a=>.neg a.plain
 | e=>e
theorem vK {β:Nat→Rat} (e:RE):e.plain.ev β=e.ev β:=by
 induction e with
 | add a b ih1 ih2=>show a.plain.ev β+b.plain.ev β=_;rw [ih1,ih2];rfl
 | sub a b ih1 ih2=>show a.plain.ev β + -b.plain.ev β=a.ev β - b.ev β;rw [ih1,ih2,Rat.sub_eq_add_neg]
 | mul a b ih1 ih2=>show a.plain.ev β*b.plain.ev β=_;rw [ih1,ih2];rfl
 | div a b ih1 ih2=>show a.plain.ev β / b.plain.ev β=_;rw [ih1,ih2];rfl
 | neg a ih=>show -a.plain.ev β=_;rw [ih];rfl
 | _=>rfl
def alike (k:Nat):List RE→List (RE×Nat)→Bool
 | [],[]=>true
 | o :: l,y :: m=>(o.plain.beq y.1.plain && decide (y.2≤k)) && alike k l m
 | _,_=>false
theorem Bo {β:Nat→Rat} {es:List RE} {k:Nat}:∀ {os:List RE} {ys:List (RE×Nat)},alike k os ys=true→rel β (put β es) (os.map fun o=>(o.sub' es,k)) ys
 | [],[],_=>trivial
 | [],_ :: _,h=>by simp [alike] at h
 | _ :: _,[],h=>by simp [alike] at h
 | o :: os,y :: ys,h=>by
  simp only [alike,Bool.and_eq_true,decide_eq_true_eq] at h
  refine ⟨⟨?_,h.1.2⟩,Bo h.2⟩
  rw [kY,← vK o,RE.beq_eq h.1.1,vK]
inductive Kc
 | i (n:Int)
 | z
def Kc.el:Kc→El
 | .i n=>.s (.it .i64 n)
 | .z=>.s .nils
def Kc.is:Kc→El→Bool
 | .i n,.s (.it .i64 m)=>decide (n=m)
 | .z,.s .nils=>true
 | _,_=>false
theorem Kc.is_eq {a:Kc} {x:El} (h:a.is x=true):x=a.el:=by
 unfold Kc.is at h
 split at h
 ·rw [of_decide_eq_true h];rfl
 ·rfl
 ·cases h
def kcs:List Kc→List El→Bool
 | [],[]=>true
 | a :: l,x :: r=>a.is x && kcs l r
 | _,_=>false
theorem yG:∀ {l:List Kc} {r:List El},kcs l r=true→r=l.map Kc.el
 | [],[],_=>rfl
 | a :: l,x :: r,h=>by
  simp only [kcs,Bool.and_eq_true] at h
  rw [Kc.is_eq h.1,yG h.2];rfl
 | [],_ :: _,h=>by simp [kcs] at h
 | _ :: _,[],h=>by simp [kcs] at h
def Eb (l:List Kc):Option (SV×List Fc)→Bool
 | some (.e x,_)=>kcs l [x]
 | some (.t r,_)=>decide (2≤l.length) && kcs l r
 | _=>false
theorem WU {l:List Kc} {o:Option (SV×List Fc)} (h:Eb l o=true):∃ fs,o=some (nP (l.map Kc.el),fs):=by
 unfold Eb at h
 split at h
 ·rename_i x fs
  rw [← yG h];exact ⟨fs,rfl⟩
 ·rename_i r fs
  simp only [Bool.and_eq_true,decide_eq_true_eq] at h
  rw [← yG h.2]
  have hl:=congrArg List.length (yG h.2)
  rw [List.length_map] at hl
  match r,hl with
  | [],hl=>simp at hl;omega
  | [_],hl=>simp at hl;omega
  | _ :: _ :: _,_=>exact ⟨fs,rfl⟩
 ·cases h
theorem U0 (l:List Kc) (ρ ρ':Env):(nP (l.map Kc.el)).den ρ=(nP (l.map Kc.el)).den ρ':=by
 have h:∀ l:List Kc,(l.map Kc.el).map (El.den ρ)=(l.map Kc.el).map (El.den ρ'):=fun l=>by
  rw [List.map_map,List.map_map]
  exact List.map_congr_left fun a _=>by cases a <;> rfl
 match l with
 | []=>rfl
 | [a]=>cases a <;> rfl
 | a :: b :: r =>
  show SV.den ρ (.t ((a :: b :: r).map Kc.el))=SV.den ρ' (.t ((a :: b :: r).map Kc.el))
  simp only [SV.den]
  rw [h]
inductive Rs
 | at (t:List At) (os:List RE)
 | atb (t:List At) (os:List RE) (x:Bool)
 | bl (x:Bool)
 | ati (t:List At) (os:List RE) (n:Int)
 | ks (l:List Kc)
def Rs.sv (b:Nat):Rs→SV
 | .at t _=>.e (.a (jC t b))
 | .atb t _ x=>.t [.a (jC t b),.s (.bl x)]
 | .bl x=>.e (.s (.bl x))
 | .ati t _ n=>.t [.a (jC t b),.s (.it .i64 n)]
 | .ks l=>nP (l.map Kc.el)
def Rs.fs (ko b:Nat) (es:List RE):Rs→List Fc
 | .at t os | .atb t os _ | .ati t os _=>bY t b (os.map fun o=>(o.sub' es,ko))
 | .bl _ | .ks _=>[]
def Rs.small:Rs→Bool
 | .at t _ | .atb t _ _ | .ati t _ _=>decide (2*t.length≤M)
 | .bl _ | .ks _=>true
def outA (ko:Nat) (t:List At) (os:List RE):Option (SV×List Fc)→Bool
 | some (.e (.a cs),fs)=>match dM fs t cs with
  | some ys=>alike ko os ys
  | none=>false
 | _=>false
def D9 (ko:Nat) (t:List At) (os:List RE) (x:Bool):Option (SV×List Fc)→Bool
 | some (.t [.a cs,.s (.bl y)],fs)=>match dM fs t cs with
  | some ys=>x == y && alike ko os ys
  | none=>false
 | _=>false
def Ea (ko:Nat) (t:List At) (os:List RE) (n:Int):Option (SV×List Fc)→Bool
 | some (.t [.a cs,.s (.it .i64 m)],fs)=>match dM fs t cs with
  | some ys=>decide (m=n) && alike ko os ys
  | none=>false
 | _=>false
theorem WT {ko:Nat} {t:List At} {os:List RE} {n:Int} {o:Option (SV×List Fc)} (h:Ea ko t os n o=true):∃ cs fs ys,o=some (.t [.a cs,.s (.it .i64 n)],fs)∧dM fs t cs=some ys∧alike ko os ys=true:=by
 unfold Ea at h
 split at h
 ·split at h
  ·rename_i cs m fs _ ys hp
   simp only [Bool.and_eq_true,decide_eq_true_eq] at h
   exact ⟨cs,fs,ys,by rw [h.1],hp,h.2⟩
  ·cases h
 ·cases h
def UM (ko:Nat):Rs→Option (SV×List Fc)→Bool
 | .at t os,o=>outA ko t os o
 | .atb t os x,o=>D9 ko t os x o
 | .bl x,o=>isB x o
 | .ati t os n,o=>Ea ko t os n o
 | .ks l,o=>Eb l o
theorem WR {ko:Nat} {t:List At} {os:List RE} {o:Option (SV×List Fc)} (h:outA ko t os o=true):∃ cs fs ys,o=some (.e (.a cs),fs)∧dM fs t cs=some ys∧alike ko os ys=true:=by
 unfold outA at h
 split at h
 ·split at h
  ·rename_i cs fs _ ys hp;exact ⟨cs,fs,ys,rfl,hp,h⟩
  ·cases h
 ·cases h
theorem WS {ko:Nat} {t:List At} {os:List RE} {x:Bool} {o:Option (SV×List Fc)} (h:D9 ko t os x o=true):∃ cs fs ys,o=some (.t [.a cs,.s (.bl x)],fs)∧dM fs t cs=some ys∧alike ko os ys=true:=by
 unfold D9 at h
 split at h
 ·split at h
  ·rename_i cs y fs _ ys hp
   simp only [Bool.and_eq_true,beq_iff_eq] at h
   exact ⟨cs,fs,ys,by rw [h.1],hp,h.2⟩
  ·cases h
 ·cases h
def hintB (h H0:Hint) (es:List RE):Bool:=
 H0.eq.all (fun p=>eqB h (p.1.sub' es) (p.2.sub' es)) && H0.ne.all (fun p=>h.ne.any fun x=>x.1.beq (p.1.sub' es) && x.2.beq (p.2.sub' es)) && H0.nz.all (fun p=>nzB h (p.sub' es)) && H0.sg.all (fun p=>sgB h (p.1.sub' es) == some p.2) && H0.cm.all (fun p=>cmB h (p.1.sub' es) (p.2.1.sub' es) == some p.2.2)
theorem IQ {β:Nat→Rat} {h H0:Hint} {es:List RE} (hh:hintB h H0 es=true) (ok:h.Ok β):H0.Ok (put β es):=by
 unfold hintB at hh
 simp only [Bool.and_eq_true,List.all_eq_true] at hh
 obtain ⟨⟨⟨⟨h1,h2⟩,h3⟩,h4⟩,h5⟩:=hh
 refine ⟨fun p hp=>?_,fun p hp=>?_,fun p hp=>?_,fun p hp=>?_,fun p hp=>?_⟩
 ·rw [← kY,← kY];exact kX ok (h1 p hp)
 ·obtain ⟨x,hx,h6⟩:=List.any_eq_true.1 (h2 p hp)
  simp only [Bool.and_eq_true] at h6
  rw [← kY,← kY,← RE.beq_eq h6.1,← RE.beq_eq h6.2]
  exact ok.2.1 x hx
 ·rw [← kY];exact vG ok (h3 p hp)
 ·rw [← kY];exact vW ok (by simpa using h4 p hp)
 ·rw [← kY,← kY];exact uM ok (by simpa using h5 p hp)
def vars (k:Nat):Nat→Nat→List (RE×Nat)
 | _,0=>[]
 | i,n+1=>(.v i,k) :: vars k (i+1) n
theorem Ak {β:Nat→Rat} {es:List RE} {k:Nat}:∀ {xs:List (RE×Nat)} {i:Nat},(∀ j x,xs[j]? = some x→(es.getD (i+j) (.c 0))=x.1∧x.2≤k)→rel (put β es) β (vars k i xs.length) xs
 | [],i,_=>trivial
 | x :: xs,i,h=>by
  have h0:=h 0 x rfl
  refine ⟨⟨?_,h0.2⟩,Ak fun j y hy=>?_⟩
  ·show (es.getD i (.c 0)).ev β=_
   rw [← h0.1];rfl
  ·have:=h (j+1) y (by simpa using hy)
   rwa [show i+1+j=i+(j+1) by omega]
def aI (β:Nat→Rat) (h:Hint) (f:FuncId) (ins:List (List At)) (kin:Nat) (H0:Hint) (out:Rs) (ko:Nat):Con (SQ β) where
 fn:=f
 app:=fun db b args=>match gK db ins args with
  | some xs=>if xs.all (fun x=>decide (x.2≤kin)) && hintB h H0 (xs.map (·.1)) then some (out.sv b,out.fs ko b (xs.map (·.1))) else none
  | none=>none
theorem Bq {ko:Nat} {β γ:Nat→Rat} {es:List RE} {ρ ρ':Env} {W':World} {fs':List Fc} {t:List At} {cs:List Cell} {ys:List (RE×Nat)} {os:List RE} {b:Nat} (hg:γ=put β es) (hp:dM fs' t cs=some ys) (ha:alike ko os ys=true) (hs:2*t.length≤M) (hfs:∀ g∈fs',(SQ γ).on ρ' g W') :
  ∃ ρ'':Env,(∀ n,n<b∨b+M≤n→ρ'' n=ρ n)∧(jC t b).map (Cell.den ρ'')=cs.map (Cell.den ρ')∧∀ g∈bY t b (os.map fun o=>(o.sub' es,ko)),(SQ β).on ρ'' g W':=by
 subst hg
 obtain ⟨L,hL,hn⟩:=su hfs hp
 obtain ⟨h1,h2⟩:=hn (aK ρ b L) b (fun i hi=>by
  unfold aK
  rw [if_pos (by omega),Nat.add_sub_cancel_left,List.getElem?_eq_getElem (by omega)];rfl)
 exact ⟨aK ρ b L,jM (by omega),h1,h2 β _ (Bo ha)⟩
theorem dL {β:Nat→Rat} {h:Hint} {f:FuncId} {ins:List (List At)} {kin:Nat} {H0:Hint} {out:Rs} {ko:Nat} (ok:h.Ok β) (hs:out.small=true)
  (run:∀ γ:Nat→Rat,H0.Ok γ→∃ (H1:Hint) (ok1:H1.Ok γ) (fuel:Nat) (cons:List (Con (SQ γ))),(∀ c∈cons,c.Ok Tryz.prog (SQ γ) EV)∧UM ko out (aT Tryz.prog (SQ γ) (HQ γ H1 ok1) cons fuel f (iW ins 0) (bY ins.flatten 0 (vars kin 0 ins.flatten.length)) (2*ins.flatten.length))=true) :
  (aI β h f ins kin H0 out ko).Ok Tryz.prog (SQ β) EV:=by
 refine Con.ok0 rfl ?_
 intro db b args res new ha ρ W hf hE
 simp only [aI] at ha
 split at ha
 ·rename_i xs hx
  split at ha
  ·rename_i hh
   simp only [Bool.and_eq_true,List.all_eq_true,decide_eq_true_eq] at hh
   cases ha
   obtain ⟨es,hes⟩:∃ es,xs.map (·.1)=es:=⟨_,rfl⟩
   rw [hes] at hh ⊢
   obtain ⟨H1,ok1,fuel,cons,hc,hr⟩:=run (put β es) (IQ hh.2 ok)
   obtain ⟨L,hL,hn⟩:=zf hf hx
   obtain ⟨h1,h2⟩:=hn (fun i=>L[i]?.getD default) 0 (fun i hi=>by simp)
   have hlen:=zF hx
   have hfacts:=h2 (put β es) (vars kin 0 ins.flatten.length) (by
    rw [← hlen]
    refine Ak fun j x hj=>⟨?_,hh.1 x (List.mem_of_getElem? hj)⟩
    rw [← hes,Nat.zero_add,List.getD_eq_getElem?_getD,List.getElem?_map,hj];rfl)
   rw [← h1]
   cases out with
   | «at» t os =>
    have hs':2*t.length≤M:=by simpa [Rs.small] using hs
    obtain ⟨cs,fs',ys,hrun,hp,hr⟩:=WR hr
    refine (gy mixed hc hrun (iJ hE) hfacts).mono fun x W' ⟨ρ',_,hx',hb,hfs⟩=>?_
    obtain ⟨ρ'',a1,a2,a3⟩:=Bq (ρ:=ρ) (b:=b) rfl hp hr hs' hfs
    exact ⟨ρ'',a1,by rw [hx'];simp only [Rs.sv,SV.den,El.den,a2],hb,a3⟩
   | atb t os y =>
    have hs':2*t.length≤M:=by simpa [Rs.small] using hs
    obtain ⟨cs,fs',ys,hrun,hp,hr⟩:=WS hr
    refine (gy mixed hc hrun (iJ hE) hfacts).mono fun x W' ⟨ρ',_,hx',hb,hfs⟩=>?_
    obtain ⟨ρ'',a1,a2,a3⟩:=Bq (ρ:=ρ) (b:=b) rfl hp hr hs' hfs
    exact ⟨ρ'',a1,by rw [hx'];simp only [Rs.sv,SV.den,El.den,List.map_cons,List.map_nil,a2];rfl,hb,a3⟩
   | bl y =>
    obtain ⟨fs',hrun⟩:=Dx hr
    refine (gy mixed hc hrun (iJ hE) hfacts).mono fun x W' ⟨ρ',_,hx',hb,hfs⟩=>⟨ρ,fun _ _=>rfl,?_,hb,fun g hg=>by cases hg⟩
    rw [hx'];rfl
   | ati t os y =>
    have hs':2*t.length≤M:=by simpa [Rs.small] using hs
    obtain ⟨cs,fs',ys,hrun,hp,hr⟩:=WT hr
    refine (gy mixed hc hrun (iJ hE) hfacts).mono fun x W' ⟨ρ',_,hx',hb,hfs⟩=>?_
    obtain ⟨ρ'',a1,a2,a3⟩:=Bq (ρ:=ρ) (b:=b) rfl hp hr hs' hfs
    exact ⟨ρ'',a1,by rw [hx'];simp only [Rs.sv,SV.den,El.den,List.map_cons,List.map_nil,a2];rfl,hb,a3⟩
   | ks l =>
    obtain ⟨fs',hrun⟩:=WU hr
    exact (gy mixed hc hrun (iJ hE) hfacts).mono fun x W' ⟨ρ',_,hx',hb,hfs⟩=>⟨ρ,fun _ _=>rfl,by rw [hx'];exact congrArg _ (U0 l _ _),hb,fun g hg=>by cases hg⟩
  ·cases ha
 ·cases ha
end Rx
namespace Z4
open Go.RowKit Go.Sort Go.Lib
end Z4
namespace Rx
open Go.RowKit
section
variable (β:Nat→Rat) (h:Hint)
def G6 (f:FuncId) (op:RE→RE) (side:RE→Bool):Con (SQ β) where
 fn:=f
 app:=fun db b args=>match args with
  | [.e (.a x)]=>match iY db x with
   | some (e,k)=>if decide (k≤K2) && side e then some (.e (.a (cZ b)),[.r b (op e) k]) else none
   | none=>none
  | _=>none
def Cj (f:FuncId) (op:RE→RE→RE) (sz:Nat→Nat→Nat) (side:RE→RE→Bool):Con (SQ β) where
 fn:=f
 app:=fun db b args=>match args with
  | [.e (.a x),.e (.a y)]=>match iY db x,iY db y with
   | some (e,k),some (e',k')=>if decide (k≤K2) && decide (k'≤K2) && side e e' then some (.e (.a (cZ b)),[.r b (op e e') (sz k k')]) else none
   | _,_=>none
  | _=>none
def PK:Con (SQ β) where
 fn:=28
 app:=fun db _ args=>match args with
  | [.e (.a x),.e (.a y)]=>match iY db x,iY db y with
   | some (e,k),some (e',k')=>if decide (k≤K2) && decide (k'≤K2) then (match cmB h e e' with
     | some n=>some (.e (.s (.it .i64 n)),[])
     | none=>none) else none
   | _,_=>none
  | _=>none
def PO:Con (SQ β) where
 fn:=13
 app:=fun db _ args=>match args with
  | [.e (.a x)]=>match iY db x with
   | some (e,k)=>if k≤K2 then (match sgB h e with
     | some n=>some (.e (.s (.it .i64 n)),[])
     | none=>none) else none
   | none=>none
  | _=>none
def PL:Con (SQ β) where
 fn:=16
 app:=fun _ b args=>match args with
  | [.e (.s (.it .i64 1))]=>some (.e (.a (cZ b)),[.r b (.c 1) 1])
  | [.e (.s (.it .i64 2))]=>some (.e (.a (cZ b)),[.r b (.c 2) 1])
  | _=>none
def xH:Con (SQ β) where
 fn:=67
 app:=fun db b args=>match args with
  | [.e (.a x)]=>match dW db x with
   | some (e,k)=>if k≤K0 then some (.e (.s (.ot b)),[.x b e]) else none
   | none=>none
  | _=>none
def PS:Con (SQ β) where
 fn:=68
 app:=fun db b args=>match args with
  | [.e (.a x)]=>match iY db x with
   | some (e,k)=>if k≤K0 then some (.e (.s (.ot b)),[.x b e]) else none
   | none=>match Bz x with
    | some _=>some (.e (.s (.ot b)),[.x b (.c 0)])
    | none=>none
  | _=>none
def Qb:List (Con (SQ β)):=[Cj β 18 .add (fun a b=>a+b+1) (fun _ _=>true),Cj β 22 .mul (fun a b=>a+b) (fun _ _=>true),Cj β 14 .div (fun a b=>a+b+1) (fun _ e=>nzB h e),
 G6 β 24 .neg (fun _=>true),G6 β 26 .abs (fun _=>true),PK β h,PO β h,PL β,xH β,PS β]
def c0:List (Con (SQ β)):=Qb β h ++ cq β h
end
section
variable {β:Nat→Rat} {h:Hint} {f:FuncId} {vals:Array Value} {W:World} {ρ:Env} {b:Nat}
theorem Oh {e:RE} {l:List UInt8} (hc:Calls Tryz.prog f vals W (ji W l)) (hl:l=kF (e.ev β)):Calls Tryz.prog f vals W (Ans β ρ b W (.e (.s (.ot b))) [.x b e]):=by
 refine hc.mono fun _ W' ⟨he,hb⟩=>?_
 refine ⟨aK ρ b [⟨false,0,none,0,0,⟨l.toArray⟩,0,default⟩],jM (by simp [M]),?_,hb,fun g hg=>?_⟩
 ·rw [he];simp [SV.den,El.den,Cell.den,aK]
 ·rw [List.mem_singleton] at hg
  subst hg
  show (aK ρ b _ b).t=_
  rw [← hl]
  simp [aK]
theorem PZ:(xH β).Ok Tryz.prog (SQ β) EV:=by
 refine Con.ok0 rfl ?_
 intro db b args res new ha ρ W hf hE
 simp only [xH] at ha
 split at ha
 ·split at ha
  ·rename_i e k hx
   split at ha
   ·rename_i hk
    cases ha
    obtain ⟨⟨h1,h2⟩,-⟩:=fU hx hf
    exact Oh (FY _ _ k W h1 hk h2 hE.ten) rfl
   ·cases ha
  ·cases ha
 ·cases ha
end
end Rx
namespace Rx
open Go.RowKit
abbrev K3:Nat:=1024
abbrev y0:RE:=.v 0
abbrev y1:RE:=.v 1
abbrev y2:RE:=.v 2
abbrev y3:RE:=.v 3
abbrev Q2:List At:=[.q,.q]
abbrev R2:List At:=[.r,.r]
def sG (x:RE):RE:=.add (.c 1) x
def sqs (x y:RE):RE:=.add (.mul x x) (.mul y y)
def tR (e:RE):RE:=.div (.mul (.c 2) e) (.add (.c 1) (.mul e e))
def TG (β:Nat→Rat) (h:Hint):Con (SQ β):=aI β h 20 [[.r],[.r]] 16384 {} (.at [.r] [.sub y0 y1]) 32769
def TP (β:Nat→Rat) (h:Hint):Con (SQ β):=aI β h 10 [[.q],[.r]] K1 { eq:=[(y0,y1)] } (.bl true) K1
def TQ (β:Nat→Rat) (h:Hint):Con (SQ β):=aI β h 10 [[.q],[.o]] K1 { eq:=[(y0,.c 0)] } (.bl true) K1
def c1 (β:Nat→Rat) (h:Hint):List (Con (SQ β)):=TG β h :: TP β h :: TQ β h :: c0 β h
def TR (β:Nat→Rat) (h:Hint):Con (SQ β):=aI β h 34 [Q2,R2] K1 { eq:=[(y0,y2),(y1,y3)] } (.bl true) K1
def TU (β:Nat→Rat) (h:Hint):Con (SQ β):=aI β h 49 [Q2,R2] K1 { eq:=[(y0,y2),(y1,y3)] } (.bl true) K1
def Sr (β:Nat→Rat) (h:Hint):Con (SQ β):=aI β h 35 [Q2,Q2] K3 {} (.at Q2 [.add y0 y2,.add y1 y3]) K1
def Uc (β:Nat→Rat) (h:Hint):Con (SQ β):=aI β h 37 [Q2,Q2] K3 {} (.at Q2 [.sub y0 y2,.sub y1 y3]) K1
def TY (β:Nat→Rat) (h:Hint):Con (SQ β):=aI β h 39 [Q2,[.q]] K3 {} (.at Q2 [.mul y0 y2,.mul y1 y2]) K1
def Tj (β:Nat→Rat) (h:Hint):Con (SQ β):=aI β h 36 [R2,R2] K3 {} (.at R2 [.add y0 y2,.add y1 y3]) K1
def Tn (β:Nat→Rat) (h:Hint):Con (SQ β):=aI β h 38 [R2,R2] K3 {} (.at R2 [.sub y0 y2,.sub y1 y3]) K1
def TF (β:Nat→Rat) (h:Hint):Con (SQ β):=aI β h 40 [R2,[.r]] K3 {} (.at R2 [.mul y0 y2,.mul y1 y2]) K1
def TA (β:Nat→Rat) (h:Hint):Con (SQ β):=aI β h 42 [R2,R2] K3 {} (.at [.r] [.add (.mul y0 y2) (.mul y1 y3)]) K1
def Tz (β:Nat→Rat) (h:Hint):Con (SQ β):=aI β h 44 [R2,R2] K3 {} (.at [.r] [.sub (.mul y0 y3) (.mul y1 y2)]) K1
def Tq (β:Nat→Rat) (h:Hint):Con (SQ β):=aI β h 46 [R2,R2] K3 {} (.at R2 [.sub (.mul y2 y0) (.mul y3 y1),.add (.mul y3 y0) (.mul y2 y1)]) K1
def TJ (β:Nat→Rat) (h:Hint):Con (SQ β):=aI β h 53 [R2,R2] K3 {} (.at R2 [.sub (.mul y0 y2) (.mul y1 y3),.add (.mul y1 y2) (.mul y0 y3)]) K1
def Tv (β:Nat→Rat) (h:Hint):Con (SQ β):=aI β h 55 [R2] K3 {} (.at R2 [y0,.neg y1]) K1
def TK (β:Nat→Rat) (h:Hint):Con (SQ β):=aI β h 51 [[.r]] K3 {} (.at R2 [tC y0,tR y0]) K1
def SA (β:Nat→Rat) (h:Hint):Con (SQ β):=aI β h 41 [Q2,Q2] K3 {} (.at [.q] [.add (.mul y0 y2) (.mul y1 y3)]) K1
def Sz (β:Nat→Rat) (h:Hint):Con (SQ β):=aI β h 43 [Q2,Q2] K3 {} (.at [.q] [.sub (.mul y0 y3) (.mul y1 y2)]) K1
def Tt (β:Nat→Rat) (h:Hint):Con (SQ β):=aI β h 45 [Q2,Q2] K3 {} (.at Q2 [.sub (.mul y2 y0) (.mul y3 y1),.add (.mul y3 y0) (.mul y2 y1)]) K1
def Ud (β:Nat→Rat) (h:Hint):Con (SQ β):=aI β h 52 [Q2,Q2] K3 {} (.at Q2 [.sub (.mul y0 y2) (.mul y1 y3),.add (.mul y1 y2) (.mul y0 y3)]) K1
def Sv (β:Nat→Rat) (h:Hint):Con (SQ β):=aI β h 54 [Q2] K3 {} (.at Q2 [y0,.neg y1]) K1
def SC (β:Nat→Rat) (h:Hint):Con (SQ β):=aI β h 47 [[.q,.q]] K3 { nz:=[sG y0] } (.atb [.q] [.div y1 (sG y0)] true) K1
def Uf (β:Nat→Rat) (h:Hint):Con (SQ β):=aI β h 56 [Q2] K3 { eq:=[(sqs y0 y1,.c 1)] } (.bl true) K1
def TB (β:Nat→Rat) (h:Hint):Con (SQ β):=aI β h 48 [[.r,.r]] K3 { nz:=[sG y0] } (.atb [.r] [.div y1 (sG y0)] true) K1
def SE (β:Nat→Rat) (h:Hint):Con (SQ β):=aI β h 47 [Q2] K3 { sg:=[(sG y0,0)] } (.atb [.q] [.c 0] false) K1
def TD (β:Nat→Rat) (h:Hint):Con (SQ β):=aI β h 48 [R2] K3 { sg:=[(sG y0,0)] } (.atb [.o] [.c 0] false) K1
def TL (β:Nat→Rat) (h:Hint):Con (SQ β):=aI β h 57 [R2] K3 { eq:=[(sqs y0 y1,.c 1)] } (.bl true) K1
def Ug (β:Nat→Rat) (h:Hint):Con (SQ β):=aI β h 56 [Q2] K3 { ne:=[(sqs y0 y1,.c 1)] } (.bl false) K1
def TM (β:Nat→Rat) (h:Hint):Con (SQ β):=aI β h 57 [R2] K3 { ne:=[(sqs y0 y1,.c 1)] } (.bl false) K1
def c2 (β:Nat→Rat) (h:Hint):List (Con (SQ β)):=SA β h :: Sz β h :: Tt β h :: Ud β h :: Sv β h :: SC β h :: Uf β h :: TR β h :: TU β h :: Sr β h :: Uc β h :: TY β h :: Tj β h :: Tn β h :: TF β h :: TA β h :: Tz β h :: Tq β h :: TJ β h :: Tv β h :: TK β h :: TB β h :: SE β h :: TD β h :: TL β h :: Ug β h :: TM β h :: c1 β h
def c3 (β:Nat→Rat) (h:Hint):List (Con (SQ β)):=Pj β :: qN β :: (c2 β h ++ cl1 β)
end Rx
namespace Rx
open Go.RowKit
def tu (two:Bool) (b n:Nat):SV:=match two with
 | true=>.t [.s (.slx b 0 n n),.s (.it .i64 0)]
 | false=>.e (.s (.slx b 0 n n))
def rowOf:Bool→SV→Option (Nat×Nat)
 | true,.t [.s (.slx k 0 n m),.s (.it .i64 0)]=>if n=m then some (k,n) else none
 | false,.e (.s (.slx k 0 n m))=>if n=m then some (k,n) else none
 | _,_=>none
theorem X6 {two:Bool} {v:SV} {k n:Nat} (h:rowOf two v=some (k,n)):v=tu two k n:=by
 unfold rowOf at h
 split at h
 ·split at h
  ·rename_i e;cases h;subst e;rfl
  ·cases h
 ·split at h
  ·rename_i e;cases h;subst e;rfl
  ·cases h
 ·cases h
theorem X7 {two:Bool} {k b n:Nat} {ρ ρ':Env} (h:(ρ k).pos=(ρ' b).pos):(tu two k n).den ρ=(tu two b n).den ρ':=by
 cases two <;> simp [tu,SV.den,El.den,Cell.den,h]
def outW (ko n:Nat) (T:TypeId) (t:List At) (os:List RE) (two:Bool):Option (SV×List Fc×List (Nat×TypeId×List Cell))→Bool
 | some (v,fs,bx)=>match rowOf two v with
  | some (k,m)=>match lk bx k with
   | some (T',cs)=>decide (m=n) && decide (T' = T) && (match dM fs t cs with
    | some ys=>alike ko os ys
    | none=>false)
   | none=>false
  | none=>false
 | none=>false
theorem WW {ko n:Nat} {T:TypeId} {t:List At} {os:List RE} {two:Bool} {o:Option (SV×List Fc×List (Nat×TypeId×List Cell))} (h:outW ko n T t os two o=true) :
  ∃ k fs bx cs ys,o=some (tu two k n,fs,bx)∧lk bx k=some (T,cs)∧dM fs t cs=some ys∧alike ko os ys=true:=by
 unfold outW at h
 split at h
 ·rename_i v fs bx
  split at h
  ·rename_i k m hr
   split at h
   ·rename_i T' cs hl
    simp only [Bool.and_eq_true,decide_eq_true_eq] at h
    obtain ⟨⟨rfl,rfl⟩,h3⟩:=h
    split at h3
    ·rename_i ys hp
     exact ⟨k,fs,bx,cs,ys,by rw [X6 hr],hl,hp,h3⟩
    ·cases h3
   ·cases h
  ·cases h
 ·cases h
def jD (β:Nat→Rat) (h:Hint) (f:FuncId) (ins:List (List At)) (kin:Nat) (H0:Hint) (n:Nat) (T:TypeId) (t:List At) (os:List RE) (two:Bool) (ko:Nat):Con (SQ β) where
 fn:=f
 app:=fun _ _ _=>none
 bk:=fun db b args=>match gK db ins args with
  | some xs=>if xs.all (fun x=>decide (x.2≤kin)) && hintB h H0 (xs.map (·.1)) then some (tu two b n,bY t (b+1) (os.map fun o=>(o.sub' (xs.map (·.1)),ko)),T,jC t (b+1)) else none
  | none=>none
theorem jl {β:Nat→Rat} {h:Hint} {f:FuncId} {ins:List (List At)} {kin:Nat} {H0:Hint} {n:Nat} {T:TypeId} {t:List At} {os:List RE} {two:Bool} {ko:Nat} (ok:h.Ok β) (hs:2*t.length+1≤M)
  (run:∀ γ:Nat→Rat,H0.Ok γ→∃ (H1:Hint) (ok1:H1.Ok γ) (fuel:Nat) (cons:List (Con (SQ γ))),(∀ c∈cons,c.Ok Tryz.prog (SQ γ) EV)∧outW ko n T t os two (vU Tryz.prog (SQ γ) (HQ γ H1 ok1) cons fuel f (iW ins 0) (bY ins.flatten 0 (vars kin 0 ins.flatten.length)) (2*ins.flatten.length))=true) :
  (jD β h f ins kin H0 n T t os two ko).Ok Tryz.prog (SQ β) EV:=by
 refine And.intro (fun _ _ _ _ _ h'=>(by cases h')) ?_
 intro db b args res new T' cs' ha ρ W hf hE
 simp only [jD] at ha
 split at ha
 ·rename_i xs hx
  split at ha
  ·rename_i hh
   simp only [Bool.and_eq_true,List.all_eq_true,decide_eq_true_eq] at hh
   cases ha
   obtain ⟨es,hes⟩:∃ es,xs.map (·.1)=es:=⟨_,rfl⟩
   rw [hes] at hh ⊢
   obtain ⟨H1,ok1,fuel,cons,hc,hr⟩:=run (put β es) (IQ hh.2 ok)
   obtain ⟨L,hL,hn⟩:=zf hf hx
   obtain ⟨h1,h2⟩:=hn (fun i=>L[i]?.getD default) 0 (fun i hi=>by simp)
   have hlen:=zF hx
   have hfacts:=h2 (put β es) (vars kin 0 ins.flatten.length) (by
    rw [← hlen]
    refine Ak fun j x hj=>⟨?_,hh.1 x (List.mem_of_getElem? hj)⟩
    rw [← hes,Nat.zero_add,List.getD_eq_getElem?_getD,List.getElem?_map,hj];rfl)
   rw [← h1]
   obtain ⟨k,fs',bx,cs,ys,hrun,hl,hp,hal⟩:=WW hr
   refine (KP mixed hc hrun (iJ hE) hfacts).mono fun x W' ⟨ρ',_,hx',hb,hfs,hbx⟩=>?_
   obtain ⟨L',hL',hn'⟩:=su hfs hp
   obtain ⟨g1,g2⟩:=hbx k T cs hl
   let ρ'':=aK ρ b ({ (default:Nv) with pos:=(ρ' k).pos } :: L')
   have e0:(ρ'' b).pos=(ρ' k).pos:=by simp [ρ'',aK]
   obtain ⟨h3,h4⟩:=hn' ρ'' (b+1) (fun i hi=>by
    show aK ρ b _ (b+1+i)=_
    unfold aK
    rw [if_pos (by omega),show b+1+i - b=i+1 by omega,List.getElem?_cons_succ,List.getElem?_eq_getElem (by omega)];rfl)
   refine ⟨ρ'',jM (by rw [List.length_cons,hL'];exact hs),by rw [hx',X7 e0.symm],hb,h4 β _ (Bo hal),by rw [e0];exact g1,?_⟩
   rw [e0,h3];exact g2
  ·cases ha
 ·cases ha
end Rx
namespace Rx
open Go.RowKit
theorem Ja {n s:Nat} (h1:s*s≤n) (h2:n<(s+1)*(s+1)):s=isq n:=KA n s (isq n) h1 h2 (uU n).1 (uU n).2
def eR (i j:Nat):En:=⟨141,[.c [.m i]],.c [.m j]⟩
section
variable {T:World→Prop} {β:Nat→Nat} {r:Rat}
theorem Ib {i j K:Nat} (h:isq (β i)=β j) (hK:K≤8589934592) (h1:β i<B64 ^ K):(eR i j).Ok T β r:=by
 intro W vs hv hT
 match vs,hv with
 | [v],⟨⟨us,hu,ha⟩,_⟩ =>
  obtain ⟨c,d,rfl,h2⟩:=kD ha
  subst hu
  refine (Kz c d (β i) K W h2 hK h1).mono fun x W' ⟨s,g1,g2,c',d',hx,hm,hb⟩=>⟨[c',d'],hx,⟨?_,trivial⟩,hb⟩
  rw [← h,← Ja g1 g2];exact hm
def rV (z y:Bool):Option (SV×List Fm)→Bool
 | some (.t [.a cs,.s (.bl x)],fs)=>x == y && isW z (some (.e (.a cs),fs))
 | _=>false
theorem UU {z y:Bool} {o:Option (SV×List Fm)} (h:rV z y o=true):∃ cs fs,o=some (.t [.a cs,.s (.bl y)],fs)∧isW z (some (.e (.a cs),fs))=true:=by
 unfold rV at h
 split at h
 ·rename_i cs x fs
  simp only [Bool.and_eq_true,beq_iff_eq] at h
  exact ⟨cs,fs,by rw [h.1],h.2⟩
 ·cases h
theorem EH {es:List En} {fuel:Nat} {f:FuncId} {args:List SV} {fs:List Fm} {b:Nat} {ρ:Env} {w:World} {z y:Bool} {ls:List (Nat×Nat)} (hls:∀ p∈ls,β p.1=p.2∧p.2<B64) (he:∀ e∈es,e.Ok T β r)
  (hr:rV z y (aT Tryz.prog (SM β r) (HM β r) (es.map (bU β r ls)) fuel f args fs b)=true) (hz:z=true→r=0) (hT:∀ W,Below w.heap.size w W→T W) (hf:∀ g∈fs,Fm.on β r ρ g w):Calls Tryz.prog f (args.map (SV.den ρ)).toArray w (wP w r y):=by
 have hc:∀ c∈es.map (bU β r ls),c.Ok Tryz.prog (SM β r) T:=fun c hc=>by
  obtain ⟨e,h1,rfl⟩:=List.mem_map.1 hc
  exact xC hls (he e h1)
 obtain ⟨cs,fs',heq,hw⟩:=UU hr
 refine (gy mixed hc heq hT hf).mono fun e W' ⟨ρ',_,hx,hb,hfs⟩=>⟨.agg (cs.map (Cell.den ρ')).toArray,by rw [hx];rfl,?_,hb⟩
 rcases I9 hw with ⟨a,fs2,h1,h2⟩ | ⟨fs2,h1,h2⟩
 ·cases h1
  exact hfs _ (uP h2)
 ·cases h1
  rw [hz h2];exact pI _
abbrev erT (c1 c2:Int):List En:=[eR 0 3,eU false 0 1 2,eR 2 4,eT 3 3 5,eC 5 0 c1,eT 4 4 6,eC 6 2 c2]
theorem CX (β:Nat→Nat) (r:Rat):rV false true (aT Tryz.prog (SM β r) (HM β r) ((erT 0 0 ++ [eL false 3 4]).map (bU β r [])) 1 100 [nC false 0 1] [.m 0 0,.m 1 1] 4)=true ∧
  (∀ c∈[(-1:Int),1],∀ o,rV true false (aT Tryz.prog (SM β r) (HM β r) ((erT c o).map (bU β r [])) 1 100 [nC false 0 1] [.m 0 0,.m 1 1] 4)=true) ∧
  (∀ c∈[(-1:Int),1],rV true false (aT Tryz.prog (SM β r) (HM β r) ((erT 0 c).map (bU β r [])) 1 100 [nC false 0 1] [.m 0 0,.m 1 1] 4)=true):=by
 simp only [List.forall_mem_cons,List.not_mem_nil,false_imp_iff,implies_true,and_true]
 exact ⟨by kernel_rfl,⟨fun _=>by kernel_rfl,fun _=>by kernel_rfl⟩,by kernel_rfl,by kernel_rfl⟩
end
theorem D5 {β:Nat→Nat} {r:Rat} {t1:Bool} {x1 y1:Int} {p1 r1:Option Addr} {l1 q1 s1 v1:Nat} {w:World} {f:FuncId} {R:Ending→World→Prop} (i1:ah w (.int .u64 x1) (.slice p1 l1 q1) (β 0)) (j1:ah w (.int .u64 y1) (.slice r1 s1 v1) (β 1))
  (go:∀ ρ:Env,(∀ g∈[Fm.m 0 0,.m 1 1],Fm.on β r ρ g w)→Calls Tryz.prog f ([nC t1 0 1].map (SV.den ρ)).toArray w R):Calls Tryz.prog f #[.agg #[.bool t1,.int .u64 x1,.slice p1 l1 q1,.int .u64 y1,.slice r1 s1 v1]] w R:=by
 refine go (em [⟨false,x1,p1,l1,q1,.empty,0,default⟩,⟨false,y1,r1,s1,v1,.empty,0,default⟩]) fun g hg=>?_
 simp only [List.mem_cons,List.not_mem_nil,or_false] at hg
 rcases hg with rfl | rfl
 ·exact i1
 ·exact j1
theorem yF {n K:Nat} (h:n<B64 ^ K):isq n<B64 ^ K:=Nat.lt_of_le_of_lt (by
 have h1:=(uU n).1
 rcases Nat.eq_zero_or_pos (isq n) with h0 | h0
 ·omega
 ·exact Nat.le_trans (Nat.le_mul_of_pos_right _ h0) h1) h
theorem Jb {n:Nat} (h:n≠0):isq n≠0:=fun h0=>by
 have:=(uU n).2
 rw [h0] at this
 omega
theorem GK {a b:Nat} (h:a≠b):aC a b∈[(-1:Int),1]:=by
 unfold aC
 split
 ·simp
 ·simp
theorem Rl (r:Rat) (v:Value) (k:Nat) (w:World) (h:IsQ w v r) (h0:¬ r.num<0) (hk:k≤8589934592) (hf:Fits k r) :
  ((isq r.num.natAbs*isq r.num.natAbs=r.num.natAbs∧isq r.den*isq r.den=r.den)→Calls Tryz.prog 100 #[v] w (wP w (mkRat (isq r.num.natAbs) (isq r.den)) true)) ∧
  (¬(isq r.num.natAbs*isq r.num.natAbs=r.num.natAbs∧isq r.den*isq r.den=r.den)→Calls Tryz.prog 100 #[v] w (wP w 0 false)):=by
 obtain ⟨t1,x1,p1,l1,q1,y1,r1,s1,u1,rfl,i1,j1,e1⟩:=h.shape
 have e1':=e1.out
 rw [decide_eq_false h0] at e1'
 subst e1'
 have hd:=r.den_nz
 have hu:=bG r
 have lt:=yF hf.1
 have lt':=yF hf.2
 let γ:=bt [r.num.natAbs,bg r,r.den,isq r.num.natAbs,isq r.den,isq r.num.natAbs*isq r.num.natAbs,isq r.den*isq r.den]
 have key:∀ (q:Rat) (c1 c2:Int),aC (isq r.num.natAbs*isq r.num.natAbs) r.num.natAbs=c1→aC (isq r.den*isq r.den) r.den=c2→∀ e∈erT c1 c2,e.Ok (fun _=>True) γ q:=fun q c1 c2 h1 h2 e he=>by
  simp only [erT,List.mem_cons,List.not_mem_nil,or_false] at he
  rcases he with rfl | rfl | rfl | rfl | rfl | rfl | rfl
  ·exact Ib (K:=k) rfl hk hf.1
  ·exact kW hu
  ·exact Ib (K:=k) rfl hk hf.2
  ·exact kV (K:=k) rfl (by omega) lt lt
  ·exact qR (K:=k+k) h1 (by omega) (nK lt lt)
  ·exact kV (K:=k) rfl (by omega) lt' lt'
  ·exact qR (K:=k+k) h2 (by omega) (nK lt' lt')
 constructor
 ·rintro ⟨h1,h2⟩
  refine D5 (β:=γ) (r:=mkRat (isq r.num.natAbs) (isq r.den)) i1 j1 fun _ hg=>EH (T:=fun _=>True) gY (fun e he=>?_) (CX _ _).1 (fun h=>by cases h) (fun _ _=>trivial) hg
  rcases List.mem_append.1 he with he | he
  ·exact key _ 0 0 (by rw [h1];unfold aC;simp) (by rw [h2];unfold aC;simp) e he
  ·obtain rfl:=List.mem_singleton.1 he
   refine xW ?_ (Jb hd) rfl
   show Nat.Coprime (isq r.num.natAbs) (isq r.den)
   have:=r.reduced
   rw [← h1,← h2] at this
   exact Nat.Coprime.coprime_dvd_left (Nat.dvd_mul_right _ _) (Nat.Coprime.coprime_dvd_right (Nat.dvd_mul_right _ _) this)
 ·intro hn
  by_cases h1:isq r.num.natAbs*isq r.num.natAbs=r.num.natAbs
  ·have h2:isq r.den*isq r.den≠r.den:=fun h2=>hn ⟨h1,h2⟩
   exact D5 (β:=γ) (r:=0) i1 j1 fun _ hg=>EH (T:=fun _=>True) gY (fun e he=>key 0 0 _ (by rw [h1];unfold aC;simp) rfl e he) ((CX _ _).2.2 _ (GK h2)) (fun _=>rfl) (fun _ _=>trivial) hg
  ·exact D5 (β:=γ) (r:=0) i1 j1 fun _ hg=>EH (T:=fun _=>True) gY (fun e he=>key 0 _ _ rfl rfl e he) ((CX _ _).2.1 _ (GK h1) _) (fun _=>rfl) (fun _ _=>trivial) hg
section
variable (β:Nat→Rat) (h:Hint)
def sq2 (e:RE):RE:=.mul (.rt e) (.rt e)
def yD (e:RE):Bool:=eqB h (sq2 (.num e)) (.num e) && eqB h (sq2 (.den e)) (.den e)
def zl (e:RE):Bool:=h.ne.any (fun x=>x.1.beq (sq2 (.num e)) && x.2.beq (.num e)) || h.ne.any (fun x=>x.1.beq (sq2 (.den e)) && x.2.beq (.den e))
def rtE (e:RE):RE:=.div (.rt (.num e)) (.rt (.den e))
def xB:Con (SQ β) where
 fn:=100
 app:=fun db b args=>match args with
  | [.e (.a x)]=>match dW db x with
   | some (e,k)=>if decide (k≤K0) && decide (sgB h e=some 1) then
     (if yD h e then some (.t [.a (aH b),.s (.bl true)],[.q b (rtE e) k]) else
     if zl h e then some (.t [.a (aH b),.s (.bl false)],[.q b (.c 0) 1]) else none) else none
   | none=>none
  | _=>none
end
section
variable {β:Nat→Rat} {h:Hint} {f:FuncId} {vals:Array Value} {W:World} {ρ:Env} {b:Nat}
theorem KO (r:Rat):(isq ((r.num:Int):Rat).num.natAbs)=isq r.num.natAbs:=by rw [Rat.num_intCast]
theorem KN (r:Rat):(isq ((((r.den:Nat):Int):Rat)).num.natAbs)=isq r.den:=by rw [Rat.num_intCast,Int.natAbs_natCast]
theorem KH (e:RE):(rtE e).ev β=mkRat (isq (e.ev β).num.natAbs) (isq (e.ev β).den):=by
 show (((isq (((e.ev β).num:Int):Rat).num.natAbs:Nat):Int):Rat) / (((isq ((((e.ev β).den:Nat):Int):Rat).num.natAbs:Nat):Int):Rat)=_
 rw [KO,KN,← Rat.divInt_eq_div,← Rat.divInt_ofNat]
theorem Ac {e:RE} (h0:¬ (e.ev β).num<0):(sq2 (.num e)).ev β=(RE.num e).ev β↔isq (e.ev β).num.natAbs*isq (e.ev β).num.natAbs=(e.ev β).num.natAbs:=by
 show (((isq (((e.ev β).num:Int):Rat).num.natAbs:Nat):Int):Rat)*(((isq (((e.ev β).num:Int):Rat).num.natAbs:Nat):Int):Rat)=(((e.ev β).num:Int):Rat)↔_
 rw [KO,← Rat.intCast_mul]
 constructor
 ·intro h1
  have h2:((isq (e.ev β).num.natAbs:Nat):Int)*((isq (e.ev β).num.natAbs:Nat):Int)=(e.ev β).num:=by exact_mod_cast h1
  rw [← Int.natCast_mul] at h2
  omega
 ·intro h1
  have h2:((isq (e.ev β).num.natAbs:Nat):Int)*((isq (e.ev β).num.natAbs:Nat):Int)=(e.ev β).num:=by rw [← Int.natCast_mul,h1];omega
  rw [h2]
theorem ES {e:RE}:(sq2 (.den e)).ev β=(RE.den e).ev β↔isq (e.ev β).den*isq (e.ev β).den=(e.ev β).den:=by
 show (((isq ((((e.ev β).den:Nat):Int):Rat).num.natAbs:Nat):Int):Rat)*(((isq ((((e.ev β).den:Nat):Int):Rat).num.natAbs:Nat):Int):Rat)=((((e.ev β).den:Nat):Int):Rat)↔_
 rw [KN,← Rat.intCast_mul,← Int.natCast_mul]
 constructor
 ·intro h1
  have h2:((isq (e.ev β).den*isq (e.ev β).den:Nat):Int)=((e.ev β).den:Int):=by exact_mod_cast h1
  omega
 ·intro h1
  rw [h1]
theorem YB {r:Rat} (h:sgQ r=1):¬ r.num<0:=fun h0=>by rw [lI,if_pos h0] at h;cases h
theorem UR (ok:h.Ok β) {e:RE} (h0:¬ (e.ev β).num<0) (hh:yD h e=true):isq (e.ev β).num.natAbs*isq (e.ev β).num.natAbs=(e.ev β).num.natAbs∧isq (e.ev β).den*isq (e.ev β).den=(e.ev β).den:=by
 unfold yD at hh
 rw [Bool.and_eq_true] at hh
 exact ⟨(Ac h0).1 (kX ok hh.1),ES.1 (kX ok hh.2)⟩
theorem JE (ok:h.Ok β) {x y:RE} (hh:h.ne.any (fun z=>z.1.beq x && z.2.beq y)=true):x.ev β≠y.ev β:=by
 obtain ⟨z,hz,h1⟩:=List.any_eq_true.1 hh
 simp only [Bool.and_eq_true] at h1
 rw [← RE.beq_eq h1.1,← RE.beq_eq h1.2]
 exact ok.2.1 z hz
theorem Wv (ok:h.Ok β) {e:RE} (h0:¬ (e.ev β).num<0) (hh:zl h e=true):¬(isq (e.ev β).num.natAbs*isq (e.ev β).num.natAbs=(e.ev β).num.natAbs∧isq (e.ev β).den*isq (e.ev β).den=(e.ev β).den):=by
 unfold zl at hh
 rw [Bool.or_eq_true] at hh
 rintro ⟨h1,h2⟩
 rcases hh with hh | hh
 ·exact JE ok hh ((Ac h0).2 h1)
 ·exact JE ok hh (ES.2 h2)
theorem RH {r:Rat} {k:Nat} (hf:Fits k r):Fits k (mkRat (isq r.num.natAbs) (isq r.den)):=by
 obtain ⟨e1,-,e3⟩:=Z4.sS (isq r.num.natAbs) (isq r.den) _ (Jb r.den_nz) rfl
 have a1:=yF hf.1
 have a2:=yF hf.2
 exact ⟨by rw [e1];have:=Nat.div_le_self ((isq r.num.natAbs:Nat):Int).natAbs (Nat.gcd ((isq r.num.natAbs:Nat):Int).natAbs (isq r.den));omega,by rw [e3];have:=Nat.div_le_self (isq r.den) (Nat.gcd ((isq r.num.natAbs:Nat):Int).natAbs (isq r.den));omega⟩
theorem Px (ok:h.Ok β):(xB β h).Ok Tryz.prog (SQ β) EV:=by
 refine Con.ok0 rfl ?_
 intro db b args res new ha ρ W hf hE
 simp only [xB] at ha
 split at ha
 ·split at ha
  ·rename_i e k hx
   split at ha
   ·rename_i hh
    simp only [Bool.and_eq_true,decide_eq_true_eq] at hh
    obtain ⟨⟨h1,h2⟩,-⟩:=fU hx hf
    have h0:=YB (vW ok hh.2)
    have hc:=Rl _ _ k W h1 h0 (by simp only [K0] at hh;omega) h2
    split at ha
    ·rename_i hs
     cases ha
     have:=hc.1 (UR ok h0 hs)
     rw [← KH] at this
     exact Gi this (by rw [KH];exact RH h2)
    ·split at ha
     ·rename_i hs
      cases ha
      exact Gi (e:=.c 0) (hc.2 (Wv ok h0 hs)) (fits_int (n:=0) (by decide) (by decide))
     ·cases ha
   ·cases ha
  ·cases ha
 ·cases ha
end
end Rx
namespace Rx
open Go.RowKit
end Rx
namespace Rx
open Go.RowKit
section
variable {P:Program} {S:Sys}
end
section
variable (β:Nat→Rat) (h:Hint)
end
section
variable {β:Nat→Rat} {h:Hint} {f:FuncId} {vals:Array Value} {W:World} {ρ:Env} {b:Nat}
abbrev sN:RE:=sq2 (.num (.v 0))
abbrev sD:RE:=sq2 (.den (.v 0))
end
end Rx
end Go.Proofs.YtefbfbdijimanaaGreatDoor
