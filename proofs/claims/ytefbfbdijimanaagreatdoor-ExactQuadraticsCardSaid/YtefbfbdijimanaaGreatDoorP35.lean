/- What the proof rests on, part 35. -/
import Derived.Test.YtefbfbdijimanaaGreatDoorP33
import Derived.Test.YtefbfbdijimanaaGreatDoorP34
namespace Go.Proofs.YtefbfbdijimanaaGreatDoor
set_option maxRecDepth 100000
set_option maxHeartbeats 80000000
namespace Rx
open Go.RowKit
inductive At
 | q
 | r
 | o
def At.n:At→Nat
 | .q=>5
 | _=>4
def ab3:List Cell:=[.bl false,.nils,.bl false,.nils]
def At.cells:At→Nat→List Cell
 | .q,s=>aI s
 | .r,s=>aX s
 | .o,_=>ab3
def At.fact:At→Nat→RE→Nat→List Fc
 | .q,s,e,k=>[.q s e k]
 | .r,s,e,k=>[.r s e k]
 | .o,_,_,_=>[]
def xB:List Cell→Option (RE×Nat)
 | [.bl false,.nils,.bl false,.nils]=>some (.c 0,0)
 | _=>none
def At.parse (db:List Fc):At→List Cell→Option (RE×Nat)
 | .q,cs=>dW db cs
 | .r,cs=>jq db cs
 | .o,cs=>xB cs
section
variable {β β':Nat→Rat} {ρ:Env} {W:World} {db:List Fc}
theorem At.name {a:At} {cs:List Cell} {e:RE} {k:Nat} (h:a.parse db cs=some (e,k)) (hf:∀ f∈db,(SQ β).on ρ f W):∃ c d:Nv,∀ (ρ':Env) s,ρ' s=c→ρ' (s+1)=d →
  (a.cells s).map (Cell.den ρ')=cs.map (Cell.den ρ)∧∀ (β':Nat→Rat) e' k',e'.ev β' = e.ev β→k≤k'→∀ f∈a.fact s e' k',(SQ β').on ρ' f W:=by
 cases a with
 | q =>
  obtain ⟨h1,c,d,h2⟩:=gG h hf
  refine ⟨c,d,fun ρ' s hc hd=>?_⟩
  have h3:(aI s).map (Cell.den ρ')=cs.map (Cell.den ρ):=by
   have:=congrArg Array.toList (Value.agg.inj h2)
   simp only at this
   rw [this]
   simp [aI,Cell.den,hc,hd]
  refine ⟨h3,fun β' e' k' he hk f hm=>?_⟩
  simp only [At.fact,List.mem_singleton] at hm
  subst hm
  show IsQ W (.agg ((aI s).map (Cell.den ρ')).toArray) (e'.ev β')∧Fits k' (e'.ev β')
  rw [h3,he]
  exact ⟨h1.1,h1.2.mono hk⟩
 | r =>
  obtain ⟨h1,h1'⟩:=jW h hf
  obtain ⟨c,d,h2⟩:=lZ h1
  refine ⟨c,d,fun ρ' s hc hd=>?_⟩
  have h3:(aX s).map (Cell.den ρ')=cs.map (Cell.den ρ):=by
   have:=congrArg Array.toList (Value.agg.inj h2)
   simp only at this
   rw [this]
   simp [aX,Cell.den,hc,hd]
  refine ⟨h3,fun β' e' k' he hk f hm=>?_⟩
  simp only [At.fact,List.mem_singleton] at hm
  subst hm
  show Z4.IsR W (.agg ((aX s).map (Cell.den ρ')).toArray) (e'.ev β')∧Fits k' (e'.ev β')
  rw [h3,he]
  exact ⟨h1,h1'.mono hk⟩
 | o =>
  refine ⟨default,default,fun ρ' s _ _=>⟨?_,fun β' e' k' _ _ f hm=>by cases hm⟩⟩
  simp only [At.parse] at h
  unfold xB at h
  split at h
  ·rfl
  ·cases h
def gV (db:List Fc):List At→List Cell→Option (List (RE×Nat))
 | [],[]=>some []
 | [],_ :: _=>none
 | a :: r,cs=>match a.parse db (cs.take a.n),gV db r (cs.drop a.n) with
  | some x,some l=>some (x :: l)
  | _,_=>none
def kY:List At→Nat→List Cell
 | [],_=>[]
 | a :: r,s=>a.cells s ++ kY r (s+2)
def gZ:List At→Nat→List (RE×Nat)→List Fc
 | a :: r,s,x :: l=>a.fact s x.1 x.2 ++ gZ r (s+2) l
 | _,_,_=>[]
def rel (β' β:Nat→Rat):List (RE×Nat)→List (RE×Nat)→Prop
 | [],[]=>True
 | x :: l,y :: m=>(x.1.ev β' = y.1.ev β∧y.2≤x.2)∧rel β' β l m
 | _,_=>False
theorem LV {β' β:Nat→Rat}:∀ {a b:List (RE×Nat)} {l:List (RE×Nat)},rel β' β l (a ++ b)→rel β' β (l.take a.length) a∧rel β' β (l.drop a.length) b
 | [],b,l,h=>by simpa [rel] using h
 | x :: a,b,[],h=>by simp [rel] at h
 | x :: a,b,y :: l,h=>by
  obtain ⟨h1,h2⟩:(y.1.ev β' = x.1.ev β∧x.2≤y.2)∧rel β' β l (a ++ b):=h
  obtain ⟨h3,h4⟩:=LV h2
  exact ⟨⟨h1,h3⟩,h4⟩
theorem Fb:∀ {t:List At} {cs:List Cell} {xs:List (RE×Nat)},gV db t cs=some xs→xs.length=t.length
 | [],[],xs,h=>by simp [gV] at h;subst h;rfl
 | [],_ :: _,xs,h=>by simp [gV] at h
 | a :: r,cs,xs,h=>by
  simp only [gV] at h
  split at h
  ·rename_i x l h1 h2
   cases h
   simp [Fb h2]
  ·cases h
theorem zG (hf:∀ f∈db,(SQ β).on ρ f W):∀ {t:List At} {cs:List Cell} {xs:List (RE×Nat)},gV db t cs=some xs→∃ L:List Nv,L.length=2*t.length∧∀ (ρ':Env) s,(∀ i,i<2*t.length→ρ' (s+i)=L[i]?.getD default) →
  (kY t s).map (Cell.den ρ')=cs.map (Cell.den ρ)∧∀ (β':Nat→Rat) xs',rel β' β xs' xs→∀ f∈gZ t s xs',(SQ β').on ρ' f W
 | [],[],xs,h=>⟨[],rfl,fun ρ' s _=>⟨rfl,fun β' xs' _ f hm=>by simp [gZ] at hm⟩⟩
 | [],_ :: _,xs,h=>by simp [gV] at h
 | a :: r,cs,xs,h=>by
  simp only [gV] at h
  split at h
  ·rename_i x l h1 h2
   cases h
   obtain ⟨c,d,h3⟩:=At.name (e:=x.1) (k:=x.2) h1 hf
   obtain ⟨L,h4,h5⟩:=zG hf h2
   refine ⟨c :: d :: L,by simp [h4];omega,fun ρ' s hρ=>?_⟩
   have c0:=hρ 0 (by simp <;> omega)
   have d0:=hρ 1 (by simp <;> omega)
   obtain ⟨g1,g2⟩:=h3 ρ' s (by simpa using c0) (by simpa using d0)
   obtain ⟨g3,g4⟩:=h5 ρ' (s+2) (fun i hi=>by
    have:=hρ (2+i) (by simp <;> omega)
    rw [← Nat.add_assoc,show 2+i=i+1+1 by omega] at this
    simpa using this)
   refine ⟨?_,fun β' xs' hr f hm=>?_⟩
   ·simp only [kY,List.map_append,g1,g3]
    rw [← List.map_append,List.take_append_drop]
   ·cases xs' with
    | nil=>simp [rel] at hr
    | cons y l' =>
     obtain ⟨⟨r1,r2⟩,r3⟩:=hr
     simp only [gZ,List.mem_append] at hm
     rcases hm with hm | hm
     ·exact g2 β' _ _ r1 r2 f hm
     ·exact g4 β' l' r3 f hm
  ·cases h
def jy (db:List Fc):List (List At)→List SV→Option (List (RE×Nat))
 | [],[]=>some []
 | t :: r,.e (.a cs) :: l=>match gV db t cs,jy db r l with
  | some x,some y=>some (x ++ y)
  | _,_=>none
 | _,_=>none
def uN:List (List At)→Nat→List SV
 | [],_=>[]
 | t :: r,s=>.e (.a (kY t s)) :: uN r (s+2*t.length)
theorem Jh:∀ {t r:List At} {s:Nat} {xs:List (RE×Nat)} {f:Fc},f∈gZ (t ++ r) s xs→f∈gZ t s (xs.take t.length)∨f∈gZ r (s+2*t.length) (xs.drop t.length)
 | [],r,s,xs,f,h=>.inr (by simpa using h)
 | a :: t,r,s,[],f,h=>by simp [gZ] at h
 | a :: t,r,s,x :: xs,f,h=>by
  simp only [List.cons_append,gZ,List.mem_append] at h
  simp only [List.length_cons,List.take_succ_cons,List.drop_succ_cons,gZ,List.mem_append]
  rcases h with h | h
  ·exact .inl (.inl h)
  ·rcases Jh h with h | h
   ·exact .inl (.inr h)
   ·exact .inr (by rwa [show s+2*(t.length+1)=s+2+2*t.length by omega])
theorem Fa:∀ {ts:List (List At)} {args:List SV} {xs:List (RE×Nat)},jy db ts args=some xs→xs.length=ts.flatten.length
 | [],[],xs,h=>by simp [jy] at h;subst h;rfl
 | [],_ :: _,xs,h=>by simp [jy] at h
 | t :: r,[],xs,h=>by simp [jy] at h
 | t :: r,x :: l,xs,h=>by
  unfold jy at h
  split at h
  ·rename_i heq _;cases heq
  ·rename_i heq1 heq2
   cases heq1;cases heq2
   split at h
   ·rename_i x y g1 g2
    cases h
    simp [Fb g1,Fa g2]
   ·cases h
  ·cases h
theorem EG (hf:∀ f∈db,(SQ β).on ρ f W):∀ {ts:List (List At)} {args:List SV} {xs:List (RE×Nat)},jy db ts args=some xs→∃ L:List Nv,L.length=2*ts.flatten.length∧∀ (ρ':Env) s,(∀ i,i<2*ts.flatten.length→ρ' (s+i)=L[i]?.getD default) →
  (uN ts s).map (SV.den ρ')=args.map (SV.den ρ)∧∀ (β':Nat→Rat) xs',rel β' β xs' xs→∀ f∈gZ ts.flatten s xs',(SQ β').on ρ' f W
 | [],[],xs,h=>⟨[],rfl,fun ρ' s _=>⟨rfl,fun β' xs' _ f hm=>by simp [gZ] at hm⟩⟩
 | [],_ :: _,xs,h=>by simp [jy] at h
 | t :: r,[],xs,h=>by simp [jy] at h
 | t :: r,x :: l,xs,h=>by
  unfold jy at h
  split at h
  ·rename_i heq _;cases heq
  ·rename_i _ _ cs _ heq1 heq2
   cases heq1;cases heq2
   split at h
   ·rename_i x y h1 h2
    cases h
    obtain ⟨L,h3,h4⟩:=zG hf h1
    obtain ⟨L',h5,h6⟩:=EG hf h2
    refine ⟨L ++ L',by simp [h3,h5,Nat.mul_add],fun ρ' s hρ=>?_⟩
    obtain ⟨g1,g2⟩:=h4 ρ' s (fun i hi=>by
     have:=hρ i (by simp <;> omega)
     rwa [List.getElem?_append_left (by omega)] at this)
    obtain ⟨g3,g4⟩:=h6 ρ' (s+2*t.length) (fun i hi=>by
     have:=hρ (2*t.length+i) (by simp;simp at hi;omega)
     rw [List.getElem?_append_right (by omega),h3,Nat.add_sub_cancel_left,← Nat.add_assoc] at this
     exact this)
    refine ⟨?_,fun β' xs' hr f hm=>?_⟩
    ·simp only [uN,List.map_cons,g3]
     congr 1
     simp only [SV.den,El.den,g1]
    ·obtain ⟨r1,r2⟩:=LV hr
     rw [Fb h1] at r1 r2
     rcases Jh (t:=t) (r:=r.flatten) (by simpa using hm) with hm | hm
     ·exact g2 β' _ r1 f hm
     ·exact g4 β' _ r2 f hm
   ·cases h
  ·cases h
end
def RE.sub' (es:List RE):RE→RE
 | .v n=>es.getD n (.c 0)
 | .c n=>.c n
 | .add a b=>.add (a.sub' es) (b.sub' es)
 | .sub a b=>.sub (a.sub' es) (b.sub' es)
 | .mul a b=>.mul (a.sub' es) (b.sub' es)
 | .div a b=>.div (a.sub' es) (b.sub' es)
 | .neg a=>.neg (a.sub' es)
 | .abs a=>.abs (a.sub' es)
 | .flo a=>.flo (a.sub' es)
 | .num a=>.num (a.sub' es)
 | .den a=>.den (a.sub' es)
 | .rt a=>.rt (a.sub' es)
def put (β:Nat→Rat) (es:List RE):Nat→Rat:=fun n=>(es.getD n (.c 0)).ev β
theorem lF {β:Nat→Rat} {es:List RE} (e:RE):(e.sub' es).ev β=e.ev (put β es):=by
 induction e with
 | v n=>rfl
 | c n=>rfl
 | add a b ih1 ih2=>show (a.sub' es).ev β+(b.sub' es).ev β=_;rw [ih1,ih2];rfl
 | sub a b ih1 ih2=>show (a.sub' es).ev β - (b.sub' es).ev β=_;rw [ih1,ih2];rfl
 | mul a b ih1 ih2=>show (a.sub' es).ev β*(b.sub' es).ev β=_;rw [ih1,ih2];rfl
 | div a b ih1 ih2=>show (a.sub' es).ev β / (b.sub' es).ev β=_;rw [ih1,ih2];rfl
 | neg a ih=>show -(a.sub' es).ev β=_;rw [ih];rfl
 | abs a ih=>show (if ((a.sub' es).ev β).num<0 then -(a.sub' es).ev β else (a.sub' es).ev β)=_;rw [ih];rfl
 | flo a ih=>show ((((a.sub' es).ev β).num / (((a.sub' es).ev β).den:Int):Int):Rat)=_;rw [ih];rfl
 | num a ih=>show (((a.sub' es).ev β).num:Rat)=_;rw [ih];rfl
 | den a ih=>show (((((a.sub' es).ev β).den:Nat):Int):Rat)=_;rw [ih];rfl
 | rt a ih=>show (((isq ((a.sub' es).ev β).num.natAbs:Nat):Int):Rat)=_;rw [ih];rfl
def RE.plain:RE→RE
 | .sub a b=>.add a.plain (.neg b.plain)
 | .add a b=>.add a.plain b.plain
 | .mul a b=>.mul a.plain b.plain
 | .div a b=>.div a.plain b.plain
 | .neg a=>.neg a.plain
 | e=>e
theorem Lh {β:Nat→Rat} (e:RE):e.plain.ev β=e.ev β:=by
 induction e with
 | add a b ih1 ih2=>show a.plain.ev β+b.plain.ev β=_;rw [ih1,ih2];rfl
 | sub a b ih1 ih2=>show a.plain.ev β + -b.plain.ev β=a.ev β - b.ev β;rw [ih1,ih2,Rat.sub_eq_add_neg]
 | mul a b ih1 ih2=>show a.plain.ev β*b.plain.ev β=_;rw [ih1,ih2];rfl
 | div a b ih1 ih2=>show a.plain.ev β / b.plain.ev β=_;rw [ih1,ih2];rfl
 | neg a ih=>show -a.plain.ev β=_;rw [ih];rfl
 | _=>rfl
def alike (k:Nat):List RE→List (RE×Nat)→Bool
 | [],[]=>true
 | o :: l,y :: m=>(o.plain.beq y.1.plain && decide (y.2≤k)) && alike k l m
 | _,_=>false
theorem BF {β:Nat→Rat} {es:List RE} {k:Nat}:∀ {os:List RE} {ys:List (RE×Nat)},alike k os ys=true→rel β (put β es) (os.map fun o=>(o.sub' es,k)) ys
 | [],[],_=>trivial
 | [],_ :: _,h=>by simp [alike] at h
 | _ :: _,[],h=>by simp [alike] at h
 | o :: os,y :: ys,h=>by
  simp only [alike,Bool.and_eq_true,decide_eq_true_eq] at h
  refine ⟨⟨?_,h.1.2⟩,BF h.2⟩
  rw [lF,← Lh o,RE.beq_eq h.1.1,Lh]
inductive Kc
 | i (n:Int)
 | z
def Kc.el:Kc→El
 | .i n=>.s (.it .i64 n)
 | .z=>.s .nils
def Kc.is:Kc→El→Bool
 | .i n,.s (.it .i64 m)=>decide (n=m)
 | .z,.s .nils=>true
 | _,_=>false
theorem Kc.is_eq {a:Kc} {x:El} (h:a.is x=true):x=a.el:=by
 unfold Kc.is at h
 split at h
 ·rw [of_decide_eq_true h];rfl
 ·rfl
 ·cases h
def kcs:List Kc→List El→Bool
 | [],[]=>true
 | a :: l,x :: r=>a.is x && kcs l r
 | _,_=>false
theorem yU:∀ {l:List Kc} {r:List El},kcs l r=true→r=l.map Kc.el
 | [],[],_=>rfl
 | a :: l,x :: r,h=>by
  simp only [kcs,Bool.and_eq_true] at h
  rw [Kc.is_eq h.1,yU h.2];rfl
 | [],_ :: _,h=>by simp [kcs] at h
 | _ :: _,[],h=>by simp [kcs] at h
def EW (l:List Kc):Option (SV×List Fc)→Bool
 | some (.e x,_)=>kcs l [x]
 | some (.t r,_)=>decide (2≤l.length) && kcs l r
 | _=>false
theorem Yb {l:List Kc} {o:Option (SV×List Fc)} (h:EW l o=true):∃ fs,o=some (kJ (l.map Kc.el),fs):=by
 unfold EW at h
 split at h
 ·rename_i x fs
  rw [← yU h];exact ⟨fs,rfl⟩
 ·rename_i r fs
  simp only [Bool.and_eq_true,decide_eq_true_eq] at h
  rw [← yU h.2]
  have hl:=congrArg List.length (yU h.2)
  rw [List.length_map] at hl
  match r,hl with
  | [],hl=>simp at hl;omega
  | [_],hl=>simp at hl;omega
  | _ :: _ :: _,_=>exact ⟨fs,rfl⟩
 ·cases h
theorem Wp (l:List Kc) (ρ ρ':Env):(kJ (l.map Kc.el)).den ρ=(kJ (l.map Kc.el)).den ρ':=by
 have h:∀ l:List Kc,(l.map Kc.el).map (El.den ρ)=(l.map Kc.el).map (El.den ρ'):=fun l=>by
  rw [List.map_map,List.map_map]
  exact List.map_congr_left fun a _=>by cases a <;> rfl
 match l with
 | []=>rfl
 | [a]=>cases a <;> rfl
 | a :: b :: r =>
  show SV.den ρ (.t ((a :: b :: r).map Kc.el))=SV.den ρ' (.t ((a :: b :: r).map Kc.el))
  simp only [SV.den]
  rw [h]
inductive Rs
 | at (t:List At) (os:List RE)
 | atb (t:List At) (os:List RE) (x:Bool)
 | bl (x:Bool)
 | ati (t:List At) (os:List RE) (n:Int)
 | ks (l:List Kc)
def Rs.sv (b:Nat):Rs→SV
 | .at t _=>.e (.a (kY t b))
 | .atb t _ x=>.t [.a (kY t b),.s (.bl x)]
 | .bl x=>.e (.s (.bl x))
 | .ati t _ n=>.t [.a (kY t b),.s (.it .i64 n)]
 | .ks l=>kJ (l.map Kc.el)
def Rs.fs (ko b:Nat) (es:List RE):Rs→List Fc
 | .at t os | .atb t os _ | .ati t os _=>gZ t b (os.map fun o=>(o.sub' es,ko))
 | .bl _ | .ks _=>[]
def Rs.small:Rs→Bool
 | .at t _ | .atb t _ _ | .ati t _ _=>decide (2*t.length≤M)
 | .bl _ | .ks _=>true
def outA (ko:Nat) (t:List At) (os:List RE):Option (SV×List Fc)→Bool
 | some (.e (.a cs),fs)=>match gV fs t cs with
  | some ys=>alike ko os ys
  | none=>false
 | _=>false
def ET (ko:Nat) (t:List At) (os:List RE) (x:Bool):Option (SV×List Fc)→Bool
 | some (.t [.a cs,.s (.bl y)],fs)=>match gV fs t cs with
  | some ys=>x == y && alike ko os ys
  | none=>false
 | _=>false
def EU (ko:Nat) (t:List At) (os:List RE) (n:Int):Option (SV×List Fc)→Bool
 | some (.t [.a cs,.s (.it .i64 m)],fs)=>match gV fs t cs with
  | some ys=>decide (m=n) && alike ko os ys
  | none=>false
 | _=>false
theorem Ya {ko:Nat} {t:List At} {os:List RE} {n:Int} {o:Option (SV×List Fc)} (h:EU ko t os n o=true):∃ cs fs ys,o=some (.t [.a cs,.s (.it .i64 n)],fs)∧gV fs t cs=some ys∧alike ko os ys=true:=by
 unfold EU at h
 split at h
 ·split at h
  ·rename_i cs m fs _ ys hp
   simp only [Bool.and_eq_true,decide_eq_true_eq] at h
   exact ⟨cs,fs,ys,by rw [h.1],hp,h.2⟩
  ·cases h
 ·cases h
def VY (ko:Nat):Rs→Option (SV×List Fc)→Bool
 | .at t os,o=>outA ko t os o
 | .atb t os x,o=>ET ko t os x o
 | .bl x,o=>isB x o
 | .ati t os n,o=>EU ko t os n o
 | .ks l,o=>EW l o
theorem X8 {ko:Nat} {t:List At} {os:List RE} {o:Option (SV×List Fc)} (h:outA ko t os o=true):∃ cs fs ys,o=some (.e (.a cs),fs)∧gV fs t cs=some ys∧alike ko os ys=true:=by
 unfold outA at h
 split at h
 ·split at h
  ·rename_i cs fs _ ys hp;exact ⟨cs,fs,ys,rfl,hp,h⟩
  ·cases h
 ·cases h
theorem X9 {ko:Nat} {t:List At} {os:List RE} {x:Bool} {o:Option (SV×List Fc)} (h:ET ko t os x o=true):∃ cs fs ys,o=some (.t [.a cs,.s (.bl x)],fs)∧gV fs t cs=some ys∧alike ko os ys=true:=by
 unfold ET at h
 split at h
 ·split at h
  ·rename_i cs y fs _ ys hp
   simp only [Bool.and_eq_true,beq_iff_eq] at h
   exact ⟨cs,fs,ys,by rw [h.1],hp,h.2⟩
  ·cases h
 ·cases h
def hintB (h H0:Hint) (es:List RE):Bool:=
 H0.eq.all (fun p=>eqB h (p.1.sub' es) (p.2.sub' es)) && H0.ne.all (fun p=>h.ne.any fun x=>x.1.beq (p.1.sub' es) && x.2.beq (p.2.sub' es)) && H0.nz.all (fun p=>nzB h (p.sub' es)) && H0.sg.all (fun p=>sgB h (p.1.sub' es) == some p.2) && H0.cm.all (fun p=>cmB h (p.1.sub' es) (p.2.1.sub' es) == some p.2.2)
theorem JI {β:Nat→Rat} {h H0:Hint} {es:List RE} (hh:hintB h H0 es=true) (ok:h.Ok β):H0.Ok (put β es):=by
 unfold hintB at hh
 simp only [Bool.and_eq_true,List.all_eq_true] at hh
 obtain ⟨⟨⟨⟨h1,h2⟩,h3⟩,h4⟩,h5⟩:=hh
 refine ⟨fun p hp=>?_,fun p hp=>?_,fun p hp=>?_,fun p hp=>?_,fun p hp=>?_⟩
 ·rw [← lF,← lF];exact kD ok (h1 p hp)
 ·obtain ⟨x,hx,h6⟩:=List.any_eq_true.1 (h2 p hp)
  simp only [Bool.and_eq_true] at h6
  rw [← lF,← lF,← RE.beq_eq h6.1,← RE.beq_eq h6.2]
  exact ok.2.1 x hx
 ·rw [← lF];exact lT ok (h3 p hp)
 ·rw [← lF];exact uq ok (by simpa using h4 p hp)
 ·rw [← lF,← lF];exact kZ ok (by simpa using h5 p hp)
def vars (k:Nat):Nat→Nat→List (RE×Nat)
 | _,0=>[]
 | i,n+1=>(.v i,k) :: vars k (i+1) n
theorem Gp {β:Nat→Rat} {es:List RE} {k:Nat}:∀ {xs:List (RE×Nat)} {i:Nat},(∀ j x,xs[j]? = some x→(es.getD (i+j) (.c 0))=x.1∧x.2≤k)→rel (put β es) β (vars k i xs.length) xs
 | [],i,_=>trivial
 | x :: xs,i,h=>by
  have h0:=h 0 x rfl
  refine ⟨⟨?_,h0.2⟩,Gp fun j y hy=>?_⟩
  ·show (es.getD i (.c 0)).ev β=_
   rw [← h0.1];rfl
  ·have:=h (j+1) y (by simpa using hy)
   rwa [show i+1+j=i+(j+1) by omega]
def aK (β:Nat→Rat) (h:Hint) (f:FuncId) (ins:List (List At)) (kin:Nat) (H0:Hint) (out:Rs) (ko:Nat):Con (SQ β) where
 fn:=f
 app:=fun db b args=>match jy db ins args with
  | some xs=>if xs.all (fun x=>decide (x.2≤kin)) && hintB h H0 (xs.map (·.1)) then some (out.sv b,out.fs ko b (xs.map (·.1))) else none
  | none=>none
theorem BH {ko:Nat} {β γ:Nat→Rat} {es:List RE} {ρ ρ':Env} {W':World} {fs':List Fc} {t:List At} {cs:List Cell} {ys:List (RE×Nat)} {os:List RE} {b:Nat} (hg:γ=put β es) (hp:gV fs' t cs=some ys) (ha:alike ko os ys=true) (hs:2*t.length≤M) (hfs:∀ g∈fs',(SQ γ).on ρ' g W') :
  ∃ ρ'':Env,(∀ n,n<b∨b+M≤n→ρ'' n=ρ n)∧(kY t b).map (Cell.den ρ'')=cs.map (Cell.den ρ')∧∀ g∈gZ t b (os.map fun o=>(o.sub' es,ko)),(SQ β).on ρ'' g W':=by
 subst hg
 obtain ⟨L,hL,hn⟩:=zG hfs hp
 obtain ⟨h1,h2⟩:=hn (aF ρ b L) b (fun i hi=>by
  unfold aF
  rw [if_pos (by omega),Nat.add_sub_cancel_left,List.getElem?_eq_getElem (by omega)];rfl)
 exact ⟨aF ρ b L,fV (by omega),h1,h2 β _ (BF ha)⟩
theorem bG {β:Nat→Rat} {h:Hint} {f:FuncId} {ins:List (List At)} {kin:Nat} {H0:Hint} {out:Rs} {ko:Nat} (ok:h.Ok β) (hs:out.small=true)
  (run:∀ γ:Nat→Rat,H0.Ok γ→∃ (H1:Hint) (ok1:H1.Ok γ) (fuel:Nat) (cons:List (Con (SQ γ))),(∀ c∈cons,c.Ok Tryz.prog (SQ γ) EV)∧VY ko out (aV Tryz.prog (SQ γ) (HQ γ H1 ok1) cons fuel f (uN ins 0) (gZ ins.flatten 0 (vars kin 0 ins.flatten.length)) (2*ins.flatten.length))=true) :
  (aK β h f ins kin H0 out ko).Ok Tryz.prog (SQ β) EV:=by
 refine Con.ok0 rfl ?_
 intro db b args res new ha ρ W hf hE
 simp only [aK] at ha
 split at ha
 ·rename_i xs hx
  split at ha
  ·rename_i hh
   simp only [Bool.and_eq_true,List.all_eq_true,decide_eq_true_eq] at hh
   cases ha
   obtain ⟨es,hes⟩:∃ es,xs.map (·.1)=es:=⟨_,rfl⟩
   rw [hes] at hh ⊢
   obtain ⟨H1,ok1,fuel,cons,hc,hr⟩:=run (put β es) (JI hh.2 ok)
   obtain ⟨L,hL,hn⟩:=EG hf hx
   obtain ⟨h1,h2⟩:=hn (fun i=>L[i]?.getD default) 0 (fun i hi=>by simp)
   have hlen:=Fa hx
   have hfacts:=h2 (put β es) (vars kin 0 ins.flatten.length) (by
    rw [← hlen]
    refine Gp fun j x hj=>⟨?_,hh.1 x (List.mem_of_getElem? hj)⟩
    rw [← hes,Nat.zero_add,List.getD_eq_getElem?_getD,List.getElem?_map,hj];rfl)
   rw [← h1]
   cases out with
   | «at» t os =>
    have hs':2*t.length≤M:=by simpa [Rs.small] using hs
    obtain ⟨cs,fs',ys,hrun,hp,hr⟩:=X8 hr
    refine (fU mixed hc hrun (dU hE) hfacts).mono fun x W' ⟨ρ',_,hx',hb,hfs⟩=>?_
    obtain ⟨ρ'',a1,a2,a3⟩:=BH (ρ:=ρ) (b:=b) rfl hp hr hs' hfs
    exact ⟨ρ'',a1,by rw [hx'];simp only [Rs.sv,SV.den,El.den,a2],hb,a3⟩
   | atb t os y =>
    have hs':2*t.length≤M:=by simpa [Rs.small] using hs
    obtain ⟨cs,fs',ys,hrun,hp,hr⟩:=X9 hr
    refine (fU mixed hc hrun (dU hE) hfacts).mono fun x W' ⟨ρ',_,hx',hb,hfs⟩=>?_
    obtain ⟨ρ'',a1,a2,a3⟩:=BH (ρ:=ρ) (b:=b) rfl hp hr hs' hfs
    exact ⟨ρ'',a1,by rw [hx'];simp only [Rs.sv,SV.den,El.den,List.map_cons,List.map_nil,a2];rfl,hb,a3⟩
   | bl y =>
    obtain ⟨fs',hrun⟩:=JL hr
    refine (fU mixed hc hrun (dU hE) hfacts).mono fun x W' ⟨ρ',_,hx',hb,hfs⟩=>⟨ρ,fun _ _=>rfl,?_,hb,fun g hg=>by cases hg⟩
    rw [hx'];rfl
   | ati t os y =>
    have hs':2*t.length≤M:=by simpa [Rs.small] using hs
    obtain ⟨cs,fs',ys,hrun,hp,hr⟩:=Ya hr
    refine (fU mixed hc hrun (dU hE) hfacts).mono fun x W' ⟨ρ',_,hx',hb,hfs⟩=>?_
    obtain ⟨ρ'',a1,a2,a3⟩:=BH (ρ:=ρ) (b:=b) rfl hp hr hs' hfs
    exact ⟨ρ'',a1,by rw [hx'];simp only [Rs.sv,SV.den,El.den,List.map_cons,List.map_nil,a2];rfl,hb,a3⟩
   | ks l =>
    obtain ⟨fs',hrun⟩:=Yb hr
    exact (fU mixed hc hrun (dU hE) hfacts).mono fun x W' ⟨ρ',_,hx',hb,hfs⟩=>⟨ρ,fun _ _=>rfl,by rw [hx'];exact congrArg _ (Wp l _ _),hb,fun g hg=>by cases hg⟩
  ·cases ha
 ·cases ha
end Rx
namespace Z4
open Go.RowKit Go.Sort Go.Lib
theorem Rz (w:World):Calls Tryz.prog 74 #[.agg #[.bool false,.slice none 0 0,.bool false,.slice none 0 0]] w (dB w 1):=by
 have HN:=hid (fun (W:World)=>oK 1 (by decide) (by decide) W)
 go_enter Tryz.func74,Tryz.ntmps74
 go_wp2_with fail
 have hS0:=hid (((St.start w).alloc' (w.heap.size) (by simp) 37 [.bool false,.slice none 0 0,.bool false,.slice none 0 0]).alloc' (w.heap.size+1) (by simp) 35 [.bool false,.slice none 0 0])
 obtain ⟨W0,hW0⟩:=aQ hS0
 rw [hW0] at hS0 ⊢
 clear hW0
 refine (HN.out _).mono ?_
 rintro e w1 hret
 obtain ⟨v1,rfl,hz1,hB⟩:=hret.z
 clear hret
 obtain ⟨t1,p1,l1,k1,rfl⟩:=hz1.open
 have hS1:=hid (hS0.out.call hB)
 clear hB hS0
 have hS2:=hid (hS1.out.fact (.z (.agg #[.bool t1,.slice p1 l1 k1]) 1) hz1)
 clear hS1 hz1
 obtain ⟨⟨cR0,cR1⟩,fR0,fR1⟩:=hS2.out.f2 0 (w.heap.size+1) 35 (.bool false) (.slice none 0 0) rfl
 have hS3:=hid (((hS2.out).store (b:=⟨w.heap.size+1,35,[.bool false,.slice none 0 0]⟩) 0 0 (.bool t1) rfl rfl).store (b:=⟨w.heap.size+1,35,[.bool t1,.slice none 0 0]⟩) 0 1 (.slice p1 l1 k1) rfl rfl)
 go_wp2_with fail
 clear cR0 cR1 fR0 fR1
 obtain ⟨⟨zR0,zR1⟩,-⟩:=hS3.out.f2 0 (w.heap.size+1) 35 (.bool t1) (.slice p1 l1 k1) rfl
 exact bodyPost_ret (v:=.agg #[.bool t1,.slice p1 l1 k1]) (by simp [results,Tryz.results74,go_sem,zR0,zR1]) rfl ⟨_,rfl,hS3.out.get (f:=.z (.agg #[.bool t1,.slice p1 l1 k1]) 1) 0 rfl,hS3.out.bel⟩
theorem ZA (w:World):Calls Tryz.prog 68 #[.agg #[.bool false,.slice none 0 0,.bool false,.slice none 0 0]] w (gB w [48]):=by
 have HN:=hid (fun (W:World)=>Ox false none 0 W)
 have HM:=hid (fun (W:World) (v:Value) (a:IsZ W v 1)=>show Calls Tryz.prog 105 #[v] W (gB W [49]) by
  have h:=GH _ v W a 1 (by decide) (by decide)
  rwa [show iC 1=[49] by unfold iC;rw [if_neg (by decide),decDigits];rfl] at h)
 have HD:=hid (fun (W:World)=>Rz W)
 go_enter Tryz.func68,Tryz.ntmps68
 go_wp2_with fail
 have hS0:=hid ((St.start w).alloc' (w.heap.size) (by simp) 37 [.bool false,.slice none 0 0,.bool false,.slice none 0 0])
 obtain ⟨W0,hW0⟩:=aQ hS0
 rw [hW0] at hS0 ⊢
 clear hW0
 obtain ⟨⟨cR0,cR1,cR2,cR3⟩,fR0,fR1,fR2,fR3⟩:=hS0.out.f4 0 w.heap.size 37 (.bool false) (.slice none 0 0) (.bool false) (.slice none 0 0) rfl
 go_wp2_with fail
 clear cR0 cR1 cR2 cR3 fR0 fR1 fR2 fR3
 refine (HN.out _).mono ?_
 rintro e w1 ⟨rfl,hB⟩
 have hS2:=hid (hS0.out.call hB)
 clear hS0 hB
 obtain ⟨⟨cR0,cR1,cR2,cR3⟩,fR0,fR1,fR2,fR3⟩:=hS2.out.f4 0 w.heap.size 37 (.bool false) (.slice none 0 0) (.bool false) (.slice none 0 0) rfl
 go_wp2_with fail
 clear cR0 cR1 cR2 cR3 fR0 fR1 fR2 fR3
 refine (HD.out _).mono ?_
 rintro e w2 ⟨v2,rfl,hz2,hB⟩
 have hS3:=hid (hS2.out.call hB)
 clear hS2 hB
 obtain ⟨t2,p2,l2,k2,rfl⟩:=hz2.open
 have hZ:=hid hz2
 clear hz2
 go_wp2_with fail
 refine (HM.out _ _ hZ.out).mono ?_
 rintro e w3 ⟨rfl,hB⟩
 have hS4:=hid (hS3.out.call hB)
 clear hS3 hB hZ
 go_wp2
 go_ret
 exact ⟨rfl,hS4.out.bel⟩
end Z4
namespace Rx
open Go.RowKit
section
variable (β:Nat→Rat) (h:Hint)
def xP (f:FuncId) (op:RE→RE) (side:RE→Bool):Con (SQ β) where
 fn:=f
 app:=fun db b args=>match args with
  | [.e (.a x)]=>match jq db x with
   | some (e,k)=>if decide (k≤K2) && side e then some (.e (.a (aX b)),[.r b (op e) k]) else none
   | none=>none
  | _=>none
def uU (f:FuncId) (op:RE→RE→RE) (sz:Nat→Nat→Nat) (side:RE→RE→Bool):Con (SQ β) where
 fn:=f
 app:=fun db b args=>match args with
  | [.e (.a x),.e (.a y)]=>match jq db x,jq db y with
   | some (e,k),some (e',k')=>if decide (k≤K2) && decide (k'≤K2) && side e e' then some (.e (.a (aX b)),[.r b (op e e') (sz k k')]) else none
   | _,_=>none
  | _=>none
def C9:Con (SQ β) where
 fn:=28
 app:=fun db _ args=>match args with
  | [.e (.a x),.e (.a y)]=>match jq db x,jq db y with
   | some (e,k),some (e',k')=>if decide (k≤K2) && decide (k'≤K2) then (match cmB h e e' with
     | some n=>some (.e (.s (.it .i64 n)),[])
     | none=>none) else none
   | _,_=>none
  | _=>none
def Df:Con (SQ β) where
 fn:=13
 app:=fun db _ args=>match args with
  | [.e (.a x)]=>match jq db x with
   | some (e,k)=>if k≤K2 then (match sgB h e with
     | some n=>some (.e (.s (.it .i64 n)),[])
     | none=>none) else none
   | none=>none
  | _=>none
def Dc:Con (SQ β) where
 fn:=16
 app:=fun _ b args=>match args with
  | [.e (.s (.it .i64 1))]=>some (.e (.a (aX b)),[.r b (.c 1) 1])
  | [.e (.s (.it .i64 2))]=>some (.e (.a (aX b)),[.r b (.c 2) 1])
  | _=>none
def Dl:Con (SQ β) where
 fn:=67
 app:=fun db b args=>match args with
  | [.e (.a x)]=>match dW db x with
   | some (e,k)=>if k≤K0 then some (.e (.s (.ot b)),[.x b e]) else none
   | none=>none
  | _=>none
def Dh:Con (SQ β) where
 fn:=68
 app:=fun db b args=>match args with
  | [.e (.a x)]=>match jq db x with
   | some (e,k)=>if k≤K0 then some (.e (.s (.ot b)),[.x b e]) else none
   | none=>match xB x with
    | some _=>some (.e (.s (.ot b)),[.x b (.c 0)])
    | none=>none
  | _=>none
def DI:List (Con (SQ β)):=[uU β 18 .add (fun a b=>a+b+1) (fun _ _=>true),uU β 22 .mul (fun a b=>a+b) (fun _ _=>true),uU β 14 .div (fun a b=>a+b+1) (fun _ e=>nzB h e),
 xP β 24 .neg (fun _=>true),xP β 26 .abs (fun _=>true),C9 β h,Df β h,Dc β,Dl β,Dh β]
def c0:List (Con (SQ β)):=DI β h ++ cq β h
end
section
variable {β:Nat→Rat} {h:Hint} {f:FuncId} {vals:Array Value} {W:World} {ρ:Env} {b:Nat}
theorem qZ {e:RE} {k:Nat} (hc:Calls Tryz.prog f vals W (Z4.fM W (e.ev β))) (hk:Fits k (e.ev β)):Calls Tryz.prog f vals W (Ans β ρ b W (.e (.a (aX b))) [.r b e k]):=by
 refine hc.mono fun _ W' ⟨v,he,hv,hb⟩=>?_
 obtain ⟨c,d,rfl⟩:=lZ hv
 have h1:(aX b).map (Cell.den (aF ρ b [c,d]))=[.bool c.b,.slice c.p c.l c.c,.bool false,.slice d.p d.l d.c]:=by simp [aX,Cell.den,aF]
 refine ⟨aF ρ b [c,d],fV (by simp [M]),?_,hb,fun g hg=>?_⟩
 ·rw [he];simp only [SV.den,El.den,h1]
 ·rw [List.mem_singleton] at hg
  subst hg
  exact ⟨by rw [h1];exact hv,hk⟩
theorem BI {e:RE} {l:List UInt8} (hc:Calls Tryz.prog f vals W (gB W l)) (hl:l=iH (e.ev β)):Calls Tryz.prog f vals W (Ans β ρ b W (.e (.s (.ot b))) [.x b e]):=by
 refine hc.mono fun _ W' ⟨he,hb⟩=>?_
 refine ⟨aF ρ b [⟨false,0,none,0,0,⟨l.toArray⟩,0,default⟩],fV (by simp [M]),?_,hb,fun g hg=>?_⟩
 ·rw [he];simp [SV.den,El.den,Cell.den,aF]
 ·rw [List.mem_singleton] at hg
  subst hg
  show (aF ρ b _ b).t=_
  rw [← hl]
  simp [aF]
theorem IG {op:RE→RE} {side:RE→Bool} (hc:∀ e v W,side e=true→Z4.IsR W v (e.ev β)→Fits K2 (e.ev β)→EV W→Calls Tryz.prog f #[v] W (Z4.fM W ((op e).ev β))) (hs:∀ e k,Fits k (e.ev β)→Fits k ((op e).ev β)):(xP β f op side).Ok Tryz.prog (SQ β) EV:=by
 refine Con.ok0 rfl ?_
 intro db b args res new ha ρ W hf hE
 simp only [xP] at ha
 split at ha
 ·split at ha
  ·rename_i e k hx
   split at ha
   ·rename_i hk
    simp only [Bool.and_eq_true,decide_eq_true_eq] at hk
    cases ha
    obtain ⟨h1,h2⟩:=jW hx hf
    exact qZ (hc e _ W hk.2 h1 (h2.mono hk.1) hE) (hs e k h2)
   ·cases ha
  ·cases ha
 ·cases ha
theorem CZ {op:RE→RE→RE} {sz:Nat→Nat→Nat} {side:RE→RE→Bool} (hc:∀ e e' v v' W,side e e' = true→Z4.IsR W v (e.ev β)→Z4.IsR W v' (e'.ev β)→Fits K2 (e.ev β)→Fits K2 (e'.ev β)→EV W→Calls Tryz.prog f #[v,v'] W (Z4.fM W ((op e e').ev β)))
  (hs:∀ e e' k k',Fits k (e.ev β)→Fits k' (e'.ev β)→Fits (sz k k') ((op e e').ev β)):(uU β f op sz side).Ok Tryz.prog (SQ β) EV:=by
 refine Con.ok0 rfl ?_
 intro db b args res new ha ρ W hf hE
 simp only [uU] at ha
 split at ha
 ·split at ha
  ·rename_i e k e' k' hx hy
   split at ha
   ·rename_i hk
    simp only [Bool.and_eq_true,decide_eq_true_eq] at hk
    cases ha
    obtain ⟨h1,h2⟩:=jW hx hf
    obtain ⟨h3,h4⟩:=jW hy hf
    exact qZ (hc e e' _ _ W hk.2 h1 h3 (h2.mono hk.1.1) (h4.mono hk.1.2) hE) (hs e e' k k' h2 h4)
   ·cases ha
  ·cases ha
 ·cases ha
theorem QJ (ok:h.Ok β):(C9 β h).Ok Tryz.prog (SQ β) EV:=by
 refine Con.ok0 rfl ?_
 intro db b args res new ha ρ W hf hE
 simp only [C9] at ha
 split at ha
 ·split at ha
  ·rename_i e k e' k' hx hy
   split at ha
   ·rename_i hk
    simp only [Bool.and_eq_true,decide_eq_true_eq] at hk
    split at ha
    ·rename_i n hn
     cases ha
     obtain ⟨h1,h2⟩:=jW hx hf
     obtain ⟨h3,h4⟩:=jW hy hf
     have hc:=Za h1 h3 (h2.mono hk.1) (h4.mono hk.2) hE
     rw [kZ ok hn] at hc
     exact qY hc rfl
    ·cases ha
   ·cases ha
  ·cases ha
 ·cases ha
theorem QL (ok:h.Ok β):(Df β h).Ok Tryz.prog (SQ β) EV:=by
 refine Con.ok0 rfl ?_
 intro db b args res new ha ρ W hf hE
 simp only [Df] at ha
 split at ha
 ·split at ha
  ·rename_i e k hx
   split at ha
   ·rename_i hk
    split at ha
    ·rename_i n hn
     cases ha
     obtain ⟨h1,h2⟩:=jW hx hf
     have hc:=Zx h1 (h2.mono hk) hE
     rw [uq ok hn] at hc
     exact qY hc rfl
    ·cases ha
   ·cases ha
  ·cases ha
 ·cases ha
theorem QK:(Dc β).Ok Tryz.prog (SQ β) EV:=by
 refine Con.ok0 rfl ?_
 intro db b args res new ha ρ W hf hE
 simp only [Dc] at ha
 split at ha
 ·cases ha
  exact qZ (e:=.c 1) (Zj hE) (fits_int (n:=1) (by decide) (by decide))
 ·cases ha
  exact qZ (e:=.c 2) (Zk hE) (fits_int (n:=2) (by decide) (by decide))
 ·cases ha
theorem QT:(Dl β).Ok Tryz.prog (SQ β) EV:=by
 refine Con.ok0 rfl ?_
 intro db b args res new ha ρ W hf hE
 simp only [Dl] at ha
 split at ha
 ·split at ha
  ·rename_i e k hx
   split at ha
   ·rename_i hk
    cases ha
    obtain ⟨⟨h1,h2⟩,-⟩:=gG hx hf
    exact BI (Hl _ _ k W h1 hk h2 hE.ten) rfl
   ·cases ha
  ·cases ha
 ·cases ha
theorem text0:iH 0=[48]:=by
 unfold iH
 rw [if_neg (by decide),if_pos (by decide),show (0:Rat).num.natAbs=0 from rfl,Lib.decDigits];rfl
theorem QM:(Dh β).Ok Tryz.prog (SQ β) EV:=by
 refine Con.ok0 rfl ?_
 intro db b args res new ha ρ W hf hE
 simp only [Dh] at ha
 split at ha
 ·split at ha
  ·rename_i e k hx
   split at ha
   ·rename_i hk
    cases ha
    obtain ⟨h1,h2⟩:=jW hx hf
    exact BI (Z4.Zy _ _ W h1 k hk h2) rfl
   ·cases ha
  ·split at ha
   ·rename_i hz
    cases ha
    unfold xB at hz
    split at hz
    ·exact BI (e:=.c 0) (Z4.ZA W) text0.symm
    ·cases hz
   ·cases ha
 ·cases ha
theorem Q9 (ok:h.Ok β):∀ c∈DI β h,c.Ok Tryz.prog (SQ β) EV:=by
 unfold DI
 simp only [List.forall_mem_cons,List.not_mem_nil,false_imp_iff,implies_true,and_true]
 exact ⟨CZ (fun _ _ _ _ _ _ h1 h2 f1 f2 hE=>Y6 h1 h2 f1 f2 hE) (fun _ _ _ _ h1 h2=>h1.plus h2),
  CZ (fun _ _ _ _ _ _ h1 h2 f1 f2 hE=>Zm h1 h2 f1 f2 hE) (fun _ _ _ _ h1 h2=>h1.mul h2),
  CZ (fun _ _ _ _ _ hn h1 h2 f1 f2 hE=>Zb h1 h2 f1 f2 (lT ok hn) hE) (fun _ _ _ _ h1 h2=>h1.over h2),
  IG (fun _ _ _ _ h1 f1 hE=>Zn h1 f1 hE) (fun _ _ h1=>h1.neg),IG (fun _ _ _ _ h1 f1 hE=>Y5 h1 f1 hE) (fun _ _ h1=>Jm h1),
  QJ ok,QL ok,QK,QT,QM⟩
theorem o9 (ok:h.Ok β):∀ c∈c0 β h,c.Ok Tryz.prog (SQ β) EV:=fun c hc=>by
 rcases List.mem_append.1 hc with hc | hc
 ·exact Q9 ok c hc
 ·exact DF ok c hc
end
end Rx
namespace Rx
open Go.RowKit
abbrev K3:Nat:=1024
abbrev y0:RE:=.v 0
abbrev y1:RE:=.v 1
abbrev y2:RE:=.v 2
abbrev y3:RE:=.v 3
abbrev Q2:List At:=[.q,.q]
abbrev R2:List At:=[.r,.r]
def tX (x:RE):RE:=.add (.c 1) x
def sqs (x y:RE):RE:=.add (.mul x x) (.mul y y)
def tR (e:RE):RE:=.div (.mul (.c 2) e) (.add (.c 1) (.mul e e))
theorem Iz {a b:Rat} (h:a≠b):aN a b = -1∨aN a b=1:=by
 unfold aN
 split
 ·exact .inl rfl
 ·exact .inr rfl
def Jz (β:Nat→Rat) (h:Hint):Con (SQ β):=aK β h 20 [[.r],[.r]] 16384 {} (.at [.r] [.sub y0 y1]) 32769
theorem U7 {β:Nat→Rat} {h:Hint} (ok:h.Ok β):(Jz β h).Ok Tryz.prog (SQ β) EV:=bG ok (by decide) fun γ g=>⟨{},fQ γ,1,c0 γ {},o9 (fQ γ),by kernel_rfl⟩
def JC (β:Nat→Rat) (h:Hint):Con (SQ β):=aK β h 10 [[.q],[.r]] K1 { eq:=[(y0,y1)] } (.bl true) K1
theorem Vk {β:Nat→Rat} {h:Hint} (ok:h.Ok β):(JC β h).Ok Tryz.prog (SQ β) EV:=bG ok (by decide) fun γ g=>⟨{ eq:=[(y0,y1)] },g,1,c0 γ { eq:=[(y0,y1)] },o9 g,by kernel_rfl⟩
def JD (β:Nat→Rat) (h:Hint):Con (SQ β):=aK β h 10 [[.q],[.o]] K1 { eq:=[(y0,.c 0)] } (.bl true) K1
theorem Ve {β:Nat→Rat} {h:Hint} (ok:h.Ok β):(JD β h).Ok Tryz.prog (SQ β) EV:=bG ok (by decide) fun γ g=>⟨{ eq:=[(y0,.c 0)] },g,1,c0 γ { eq:=[(y0,.c 0)] },o9 g,by kernel_rfl⟩
def c1 (β:Nat→Rat) (h:Hint):List (Con (SQ β)):=Jz β h :: JC β h :: JD β h :: c0 β h
theorem xG {β:Nat→Rat} {h:Hint} (ok:h.Ok β):∀ c∈c1 β h,c.Ok Tryz.prog (SQ β) EV:=by
 unfold c1
 simp only [List.forall_mem_cons]
 exact ⟨U7 ok,Vk ok,Ve ok,o9 ok⟩
def Vf (β:Nat→Rat) (h:Hint):Con (SQ β):=aK β h 34 [Q2,R2] K1 { eq:=[(y0,y2),(y1,y3)] } (.bl true) K1
def Vg (β:Nat→Rat) (h:Hint):Con (SQ β):=aK β h 49 [Q2,R2] K1 { eq:=[(y0,y2),(y1,y3)] } (.bl true) K1
def Uo (β:Nat→Rat) (h:Hint):Con (SQ β):=aK β h 35 [Q2,Q2] K3 {} (.at Q2 [.add y0 y2,.add y1 y3]) K1
def Vm (β:Nat→Rat) (h:Hint):Con (SQ β):=aK β h 37 [Q2,Q2] K3 {} (.at Q2 [.sub y0 y2,.sub y1 y3]) K1
def Vl (β:Nat→Rat) (h:Hint):Con (SQ β):=aK β h 39 [Q2,[.q]] K3 {} (.at Q2 [.mul y0 y2,.mul y1 y2]) K1
def UL (β:Nat→Rat) (h:Hint):Con (SQ β):=aK β h 36 [R2,R2] K3 {} (.at R2 [.add y0 y2,.add y1 y3]) K1
def UM (β:Nat→Rat) (h:Hint):Con (SQ β):=aK β h 38 [R2,R2] K3 {} (.at R2 [.sub y0 y2,.sub y1 y3]) K1
def U5 (β:Nat→Rat) (h:Hint):Con (SQ β):=aK β h 40 [R2,[.r]] K3 {} (.at R2 [.mul y0 y2,.mul y1 y2]) K1
def UU (β:Nat→Rat) (h:Hint):Con (SQ β):=aK β h 42 [R2,R2] K3 {} (.at [.r] [.add (.mul y0 y2) (.mul y1 y3)]) K1
def UR (β:Nat→Rat) (h:Hint):Con (SQ β):=aK β h 44 [R2,R2] K3 {} (.at [.r] [.sub (.mul y0 y3) (.mul y1 y2)]) K1
def UN (β:Nat→Rat) (h:Hint):Con (SQ β):=aK β h 46 [R2,R2] K3 {} (.at R2 [.sub (.mul y2 y0) (.mul y3 y1),.add (.mul y3 y0) (.mul y2 y1)]) K1
def U8 (β:Nat→Rat) (h:Hint):Con (SQ β):=aK β h 53 [R2,R2] K3 {} (.at R2 [.sub (.mul y0 y2) (.mul y1 y3),.add (.mul y1 y2) (.mul y0 y3)]) K1
def UQ (β:Nat→Rat) (h:Hint):Con (SQ β):=aK β h 55 [R2] K3 {} (.at R2 [y0,.neg y1]) K1
def U9 (β:Nat→Rat) (h:Hint):Con (SQ β):=aK β h 51 [[.r]] K3 {} (.at R2 [tC y0,tR y0]) K1
def Ut (β:Nat→Rat) (h:Hint):Con (SQ β):=aK β h 41 [Q2,Q2] K3 {} (.at [.q] [.add (.mul y0 y2) (.mul y1 y3)]) K1
def Us (β:Nat→Rat) (h:Hint):Con (SQ β):=aK β h 43 [Q2,Q2] K3 {} (.at [.q] [.sub (.mul y0 y3) (.mul y1 y2)]) K1
def UO (β:Nat→Rat) (h:Hint):Con (SQ β):=aK β h 45 [Q2,Q2] K3 {} (.at Q2 [.sub (.mul y2 y0) (.mul y3 y1),.add (.mul y3 y0) (.mul y2 y1)]) K1
def Vo (β:Nat→Rat) (h:Hint):Con (SQ β):=aK β h 52 [Q2,Q2] K3 {} (.at Q2 [.sub (.mul y0 y2) (.mul y1 y3),.add (.mul y1 y2) (.mul y0 y3)]) K1
def Ur (β:Nat→Rat) (h:Hint):Con (SQ β):=aK β h 54 [Q2] K3 {} (.at Q2 [y0,.neg y1]) K1
def Uw (β:Nat→Rat) (h:Hint):Con (SQ β):=aK β h 47 [[.q,.q]] K3 { nz:=[tX y0] } (.atb [.q] [.div y1 (tX y0)] true) K1
def Vp (β:Nat→Rat) (h:Hint):Con (SQ β):=aK β h 56 [Q2] K3 { eq:=[(sqs y0 y1,.c 1)] } (.bl true) K1
def UW (β:Nat→Rat) (h:Hint):Con (SQ β):=aK β h 48 [[.r,.r]] K3 { nz:=[tX y0] } (.atb [.r] [.div y1 (tX y0)] true) K1
def Ux (β:Nat→Rat) (h:Hint):Con (SQ β):=aK β h 47 [Q2] K3 { sg:=[(tX y0,0)] } (.atb [.q] [.c 0] false) K1
def UY (β:Nat→Rat) (h:Hint):Con (SQ β):=aK β h 48 [R2] K3 { sg:=[(tX y0,0)] } (.atb [.o] [.c 0] false) K1
def Va (β:Nat→Rat) (h:Hint):Con (SQ β):=aK β h 57 [R2] K3 { eq:=[(sqs y0 y1,.c 1)] } (.bl true) K1
def Vq (β:Nat→Rat) (h:Hint):Con (SQ β):=aK β h 56 [Q2] K3 { ne:=[(sqs y0 y1,.c 1)] } (.bl false) K1
def Vb (β:Nat→Rat) (h:Hint):Con (SQ β):=aK β h 57 [R2] K3 { ne:=[(sqs y0 y1,.c 1)] } (.bl false) K1
def c2 (β:Nat→Rat) (h:Hint):List (Con (SQ β)):=Ut β h :: Us β h :: UO β h :: Vo β h :: Ur β h :: Uw β h :: Vp β h :: Vf β h :: Vg β h :: Uo β h :: Vm β h :: Vl β h :: UL β h :: UM β h :: U5 β h :: UU β h :: UR β h :: UN β h :: U8 β h :: UQ β h :: U9 β h :: UW β h :: Ux β h :: UY β h :: Va β h :: Vq β h :: Vb β h :: c1 β h
def c3 (β:Nat→Rat) (h:Hint):List (Con (SQ β)):=Qu β :: uT β :: (c2 β h ++ cl1 β)
end Rx
namespace Rx
open Go.RowKit
def um (two:Bool) (b n:Nat):SV:=match two with
 | true=>.t [.s (.slx b 0 n n),.s (.it .i64 0)]
 | false=>.e (.s (.slx b 0 n n))
def rowOf:Bool→SV→Option (Nat×Nat)
 | true,.t [.s (.slx k 0 n m),.s (.it .i64 0)]=>if n=m then some (k,n) else none
 | false,.e (.s (.slx k 0 n m))=>if n=m then some (k,n) else none
 | _,_=>none
theorem Zt {two:Bool} {v:SV} {k n:Nat} (h:rowOf two v=some (k,n)):v=um two k n:=by
 unfold rowOf at h
 split at h
 ·split at h
  ·rename_i e;cases h;subst e;rfl
  ·cases h
 ·split at h
  ·rename_i e;cases h;subst e;rfl
  ·cases h
 ·cases h
theorem Zu {two:Bool} {k b n:Nat} {ρ ρ':Env} (h:(ρ k).pos=(ρ' b).pos):(um two k n).den ρ=(um two b n).den ρ':=by
 cases two <;> simp [um,SV.den,El.den,Cell.den,h]
def outW (ko n:Nat) (T:TypeId) (t:List At) (os:List RE) (two:Bool):Option (SV×List Fc×List (Nat×TypeId×List Cell))→Bool
 | some (v,fs,bx)=>match rowOf two v with
  | some (k,m)=>match lk bx k with
   | some (T',cs)=>decide (m=n) && decide (T' = T) && (match gV fs t cs with
    | some ys=>alike ko os ys
    | none=>false)
   | none=>false
  | none=>false
 | none=>false
theorem Yc {ko n:Nat} {T:TypeId} {t:List At} {os:List RE} {two:Bool} {o:Option (SV×List Fc×List (Nat×TypeId×List Cell))} (h:outW ko n T t os two o=true) :
  ∃ k fs bx cs ys,o=some (um two k n,fs,bx)∧lk bx k=some (T,cs)∧gV fs t cs=some ys∧alike ko os ys=true:=by
 unfold outW at h
 split at h
 ·rename_i v fs bx
  split at h
  ·rename_i k m hr
   split at h
   ·rename_i T' cs hl
    simp only [Bool.and_eq_true,decide_eq_true_eq] at h
    obtain ⟨⟨rfl,rfl⟩,h3⟩:=h
    split at h3
    ·rename_i ys hp
     exact ⟨k,fs,bx,cs,ys,by rw [Zt hr],hl,hp,h3⟩
    ·cases h3
   ·cases h
  ·cases h
 ·cases h
def jI (β:Nat→Rat) (h:Hint) (f:FuncId) (ins:List (List At)) (kin:Nat) (H0:Hint) (n:Nat) (T:TypeId) (t:List At) (os:List RE) (two:Bool) (ko:Nat):Con (SQ β) where
 fn:=f
 app:=fun _ _ _=>none
 bk:=fun db b args=>match jy db ins args with
  | some xs=>if xs.all (fun x=>decide (x.2≤kin)) && hintB h H0 (xs.map (·.1)) then some (um two b n,gZ t (b+1) (os.map fun o=>(o.sub' (xs.map (·.1)),ko)),T,kY t (b+1)) else none
  | none=>none
theorem dL {β:Nat→Rat} {h:Hint} {f:FuncId} {ins:List (List At)} {kin:Nat} {H0:Hint} {n:Nat} {T:TypeId} {t:List At} {os:List RE} {two:Bool} {ko:Nat} (ok:h.Ok β) (hs:2*t.length+1≤M)
  (run:∀ γ:Nat→Rat,H0.Ok γ→∃ (H1:Hint) (ok1:H1.Ok γ) (fuel:Nat) (cons:List (Con (SQ γ))),(∀ c∈cons,c.Ok Tryz.prog (SQ γ) EV)∧outW ko n T t os two (vY Tryz.prog (SQ γ) (HQ γ H1 ok1) cons fuel f (uN ins 0) (gZ ins.flatten 0 (vars kin 0 ins.flatten.length)) (2*ins.flatten.length))=true) :
  (jI β h f ins kin H0 n T t os two ko).Ok Tryz.prog (SQ β) EV:=by
 refine And.intro (fun _ _ _ _ _ h'=>(by cases h')) ?_
 intro db b args res new T' cs' ha ρ W hf hE
 simp only [jI] at ha
 split at ha
 ·rename_i xs hx
  split at ha
  ·rename_i hh
   simp only [Bool.and_eq_true,List.all_eq_true,decide_eq_true_eq] at hh
   cases ha
   obtain ⟨es,hes⟩:∃ es,xs.map (·.1)=es:=⟨_,rfl⟩
   rw [hes] at hh ⊢
   obtain ⟨H1,ok1,fuel,cons,hc,hr⟩:=run (put β es) (JI hh.2 ok)
   obtain ⟨L,hL,hn⟩:=EG hf hx
   obtain ⟨h1,h2⟩:=hn (fun i=>L[i]?.getD default) 0 (fun i hi=>by simp)
   have hlen:=Fa hx
   have hfacts:=h2 (put β es) (vars kin 0 ins.flatten.length) (by
    rw [← hlen]
    refine Gp fun j x hj=>⟨?_,hh.1 x (List.mem_of_getElem? hj)⟩
    rw [← hes,Nat.zero_add,List.getD_eq_getElem?_getD,List.getElem?_map,hj];rfl)
   rw [← h1]
   obtain ⟨k,fs',bx,cs,ys,hrun,hl,hp,hal⟩:=Yc hr
   refine (MJ mixed hc hrun (dU hE) hfacts).mono fun x W' ⟨ρ',_,hx',hb,hfs,hbx⟩=>?_
   obtain ⟨L',hL',hn'⟩:=zG hfs hp
   obtain ⟨g1,g2⟩:=hbx k T cs hl
   let ρ'':=aF ρ b ({ (default:Nv) with pos:=(ρ' k).pos } :: L')
   have e0:(ρ'' b).pos=(ρ' k).pos:=by simp [ρ'',aF]
   obtain ⟨h3,h4⟩:=hn' ρ'' (b+1) (fun i hi=>by
    show aF ρ b _ (b+1+i)=_
    unfold aF
    rw [if_pos (by omega),show b+1+i - b=i+1 by omega,List.getElem?_cons_succ,List.getElem?_eq_getElem (by omega)];rfl)
   refine ⟨ρ'',fV (by rw [List.length_cons,hL'];exact hs),by rw [hx',Zu e0.symm],hb,h4 β _ (BF hal),by rw [e0];exact g1,?_⟩
   rw [e0,h3];exact g2
  ·cases ha
 ·cases ha
end Rx
end Go.Proofs.YtefbfbdijimanaaGreatDoor
