/- What the proof rests on, part 31. -/
import Derived.Test.YthalajpklaodkaaGreatDoorQ30
namespace Go.Proofs.YthalajpklaodkaaGreatDoor
set_option maxRecDepth 100000
set_option maxHeartbeats 80000000
namespace Rx
open Go.RowKit
inductive At
 | q
 | r
 | o
def At.n:At→Nat
 | .q=>5
 | _=>4
def abz:List Cell:=[.bl false,.nils,.bl false,.nils]
def At.cells:At→Nat→List Cell
 | .q,s=>aK s
 | .r,s=>aT s
 | .o,_=>abz
def At.fact:At→Nat→RE→Nat→List Fc
 | .q,s,e,k=>[.q s e k]
 | .r,s,e,k=>[.r s e k]
 | .o,_,_,_=>[]
def xR:List Cell→Option (RE×Nat)
 | [.bl false,.nils,.bl false,.nils]=>some (.c 0,0)
 | _=>none
def At.parse (db:List Fc):At→List Cell→Option (RE×Nat)
 | .q,cs=>dD db cs
 | .r,cs=>iK db cs
 | .o,cs=>xR cs
section
variable {β β':Nat→Rat} {ρ:Env} {W:World} {db:List Fc}
theorem At.name {a:At} {cs:List Cell} {e:RE} {k:Nat} (h:a.parse db cs=some (e,k)) (hf:∀ f∈db,(SQ β).on ρ f W):∃ c d:Nv,∀ (ρ':Env) s,ρ' s=c→ρ' (s+1)=d →
  (a.cells s).map (Cell.den ρ')=cs.map (Cell.den ρ)∧∀ (β':Nat→Rat) e' k',e'.ev β' = e.ev β→k≤k'→∀ f∈a.fact s e' k',(SQ β').on ρ' f W:=by
 cases a with
 | q =>
  obtain ⟨h1,c,d,h2⟩:=eY h hf
  refine ⟨c,d,fun ρ' s hc hd=>?_⟩
  have h3:(aK s).map (Cell.den ρ')=cs.map (Cell.den ρ):=by
   have:=congrArg Array.toList (Value.agg.inj h2)
   simp only at this
   rw [this]
   simp [aK,Cell.den,hc,hd]
  refine ⟨h3,fun β' e' k' he hk f hm=>?_⟩
  simp only [At.fact,List.mem_singleton] at hm
  subst hm
  show IsQ W (.agg ((aK s).map (Cell.den ρ')).toArray) (e'.ev β')∧Fits k' (e'.ev β')
  rw [h3,he]
  exact ⟨h1.1,h1.2.mono hk⟩
 | r =>
  obtain ⟨h1,h1'⟩:=jd h hf
  obtain ⟨c,d,h2⟩:=mP h1
  refine ⟨c,d,fun ρ' s hc hd=>?_⟩
  have h3:(aT s).map (Cell.den ρ')=cs.map (Cell.den ρ):=by
   have:=congrArg Array.toList (Value.agg.inj h2)
   simp only at this
   rw [this]
   simp [aT,Cell.den,hc,hd]
  refine ⟨h3,fun β' e' k' he hk f hm=>?_⟩
  simp only [At.fact,List.mem_singleton] at hm
  subst hm
  show Z4.IsR W (.agg ((aT s).map (Cell.den ρ')).toArray) (e'.ev β')∧Fits k' (e'.ev β')
  rw [h3,he]
  exact ⟨h1,h1'.mono hk⟩
 | o =>
  refine ⟨default,default,fun ρ' s _ _=>⟨?_,fun β' e' k' _ _ f hm=>by cases hm⟩⟩
  simp only [At.parse] at h
  unfold xR at h
  split at h
  ·rfl
  ·cases h
def iL (db:List Fc):List At→List Cell→Option (List (RE×Nat))
 | [],[]=>some []
 | [],_ :: _=>none
 | a :: r,cs=>match a.parse db (cs.take a.n),iL db r (cs.drop a.n) with
  | some x,some l=>some (x :: l)
  | _,_=>none
def nO:List At→Nat→List Cell
 | [],_=>[]
 | a :: r,s=>a.cells s ++ nO r (s+2)
def iy:List At→Nat→List (RE×Nat)→List Fc
 | a :: r,s,x :: l=>a.fact s x.1 x.2 ++ iy r (s+2) l
 | _,_,_=>[]
def rel (β' β:Nat→Rat):List (RE×Nat)→List (RE×Nat)→Prop
 | [],[]=>True
 | x :: l,y :: m=>(x.1.ev β' = y.1.ev β∧y.2≤x.2)∧rel β' β l m
 | _,_=>False
theorem NJ {β' β:Nat→Rat}:∀ {a b:List (RE×Nat)} {l:List (RE×Nat)},rel β' β l (a ++ b)→rel β' β (l.take a.length) a∧rel β' β (l.drop a.length) b
 | [],b,l,h=>by simpa [rel] using h
 | x :: a,b,[],h=>by simp [rel] at h
 | x :: a,b,y :: l,h=>by
  obtain ⟨h1,h2⟩:(y.1.ev β' = x.1.ev β∧x.2≤y.2)∧rel β' β l (a ++ b):=h
  obtain ⟨h3,h4⟩:=NJ h2
  exact ⟨⟨h1,h3⟩,h4⟩
theorem Gh:∀ {t:List At} {cs:List Cell} {xs:List (RE×Nat)},iL db t cs=some xs→xs.length=t.length
 | [],[],xs,h=>by simp [iL] at h;subst h;rfl
 | [],_ :: _,xs,h=>by simp [iL] at h
 | a :: r,cs,xs,h=>by
  simp only [iL] at h
  split at h
  ·rename_i x l h1 h2
   cases h
   simp [Gh h2]
  ·cases h
theorem FM (hf:∀ f∈db,(SQ β).on ρ f W):∀ {t:List At} {cs:List Cell} {xs:List (RE×Nat)},iL db t cs=some xs→∃ L:List Nv,L.length=2*t.length∧∀ (ρ':Env) s,(∀ i,i<2*t.length→ρ' (s+i)=L[i]?.getD default) →
  (nO t s).map (Cell.den ρ')=cs.map (Cell.den ρ)∧∀ (β':Nat→Rat) xs',rel β' β xs' xs→∀ f∈iy t s xs',(SQ β').on ρ' f W
 | [],[],xs,h=>⟨[],rfl,fun ρ' s _=>⟨rfl,fun β' xs' _ f hm=>by simp [iy] at hm⟩⟩
 | [],_ :: _,xs,h=>by simp [iL] at h
 | a :: r,cs,xs,h=>by
  simp only [iL] at h
  split at h
  ·rename_i x l h1 h2
   cases h
   obtain ⟨c,d,h3⟩:=At.name (e:=x.1) (k:=x.2) h1 hf
   obtain ⟨L,h4,h5⟩:=FM hf h2
   refine ⟨c :: d :: L,by simp [h4];omega,fun ρ' s hρ=>?_⟩
   have c0:=hρ 0 (by simp <;> omega)
   have d0:=hρ 1 (by simp <;> omega)
   obtain ⟨g1,g2⟩:=h3 ρ' s (by simpa using c0) (by simpa using d0)
   obtain ⟨g3,g4⟩:=h5 ρ' (s+2) (fun i hi=>by
    have:=hρ (2+i) (by simp <;> omega)
    rw [← Nat.add_assoc,show 2+i=i+1+1 by omega] at this
    simpa using this)
   refine ⟨?_,fun β' xs' hr f hm=>?_⟩
   ·simp only [nO,List.map_append,g1,g3]
    rw [← List.map_append,List.take_append_drop]
   ·cases xs' with
    | nil=>simp [rel] at hr
    | cons y l' =>
     obtain ⟨⟨r1,r2⟩,r3⟩:=hr
     simp only [iy,List.mem_append] at hm
     rcases hm with hm | hm
     ·exact g2 β' _ _ r1 r2 f hm
     ·exact g4 β' l' r3 f hm
  ·cases h
def jY (db:List Fc):List (List At)→List SV→Option (List (RE×Nat))
 | [],[]=>some []
 | t :: r,.e (.a cs) :: l=>match iL db t cs,jY db r l with
  | some x,some y=>some (x ++ y)
  | _,_=>none
 | _,_=>none
def rX:List (List At)→Nat→List SV
 | [],_=>[]
 | t :: r,s=>.e (.a (nO t s)) :: rX r (s+2*t.length)
theorem J9:∀ {t r:List At} {s:Nat} {xs:List (RE×Nat)} {f:Fc},f∈iy (t ++ r) s xs→f∈iy t s (xs.take t.length)∨f∈iy r (s+2*t.length) (xs.drop t.length)
 | [],r,s,xs,f,h=>.inr (by simpa using h)
 | a :: t,r,s,[],f,h=>by simp [iy] at h
 | a :: t,r,s,x :: xs,f,h=>by
  simp only [List.cons_append,iy,List.mem_append] at h
  simp only [List.length_cons,List.take_succ_cons,List.drop_succ_cons,iy,List.mem_append]
  rcases h with h | h
  ·exact .inl (.inl h)
  ·rcases J9 h with h | h
   ·exact .inl (.inr h)
   ·exact .inr (by rwa [show s+2*(t.length+1)=s+2+2*t.length by omega])
theorem Nb:∀ {ts:List (List At)} {args:List SV} {xs:List (RE×Nat)},jY db ts args=some xs→xs.length=ts.flatten.length
 | [],[],xs,h=>by simp [jY] at h;subst h;rfl
 | [],_ :: _,xs,h=>by simp [jY] at h
 | t :: r,[],xs,h=>by simp [jY] at h
 | t :: r,x :: l,xs,h=>by
  unfold jY at h
  split at h
  ·rename_i heq _;cases heq
  ·rename_i heq1 heq2
   cases heq1;cases heq2
   split at h
   ·rename_i x y g1 g2
    cases h
    simp [Gh g1,Nb g2]
   ·cases h
  ·cases h
theorem MI (hf:∀ f∈db,(SQ β).on ρ f W):∀ {ts:List (List At)} {args:List SV} {xs:List (RE×Nat)},jY db ts args=some xs→∃ L:List Nv,L.length=2*ts.flatten.length∧∀ (ρ':Env) s,(∀ i,i<2*ts.flatten.length→ρ' (s+i)=L[i]?.getD default) →
  (rX ts s).map (SV.den ρ')=args.map (SV.den ρ)∧∀ (β':Nat→Rat) xs',rel β' β xs' xs→∀ f∈iy ts.flatten s xs',(SQ β').on ρ' f W
 | [],[],xs,h=>⟨[],rfl,fun ρ' s _=>⟨rfl,fun β' xs' _ f hm=>by simp [iy] at hm⟩⟩
 | [],_ :: _,xs,h=>by simp [jY] at h
 | t :: r,[],xs,h=>by simp [jY] at h
 | t :: r,x :: l,xs,h=>by
  unfold jY at h
  split at h
  ·rename_i heq _;cases heq
  ·rename_i _ _ cs _ heq1 heq2
   cases heq1;cases heq2
   split at h
   ·rename_i x y h1 h2
    cases h
    obtain ⟨L,h3,h4⟩:=FM hf h1
    obtain ⟨L',h5,h6⟩:=MI hf h2
    refine ⟨L ++ L',by simp [h3,h5,Nat.mul_add],fun ρ' s hρ=>?_⟩
    obtain ⟨g1,g2⟩:=h4 ρ' s (fun i hi=>by
     have:=hρ i (by simp <;> omega)
     rwa [List.getElem?_append_left (by omega)] at this)
    obtain ⟨g3,g4⟩:=h6 ρ' (s+2*t.length) (fun i hi=>by
     have:=hρ (2*t.length+i) (by simp;simp at hi;omega)
     rw [List.getElem?_append_right (by omega),h3,Nat.add_sub_cancel_left,← Nat.add_assoc] at this
     exact this)
    refine ⟨?_,fun β' xs' hr f hm=>?_⟩
    ·simp only [rX,List.map_cons,g3]
     congr 1
     simp only [SV.den,El.den,g1]
    ·obtain ⟨r1,r2⟩:=NJ hr
     rw [Gh h1] at r1 r2
     rcases J9 (t:=t) (r:=r.flatten) (by simpa using hm) with hm | hm
     ·exact g2 β' _ r1 f hm
     ·exact g4 β' _ r2 f hm
   ·cases h
  ·cases h
end
def RE.sub' (es:List RE):RE→RE
 | .v n=>es.getD n (.c 0)
 | .c n=>.c n
 | .add a b=>.add (a.sub' es) (b.sub' es)
 | .sub a b=>.sub (a.sub' es) (b.sub' es)
 | .mul a b=>.mul (a.sub' es) (b.sub' es)
 | .div a b=>.div (a.sub' es) (b.sub' es)
 | .neg a=>.neg (a.sub' es)
 | .abs a=>.abs (a.sub' es)
 | .flo a=>.flo (a.sub' es)
 | .num a=>.num (a.sub' es)
 | .den a=>.den (a.sub' es)
 | .rt a=>.rt (a.sub' es)
def put (β:Nat→Rat) (es:List RE):Nat→Rat:=fun n=>(es.getD n (.c 0)).ev β
theorem lM {β:Nat→Rat} {es:List RE} (e:RE):(e.sub' es).ev β=e.ev (put β es):=by
 induction e with
 | v n=>rfl
 | c n=>rfl
 | add a b ih1 ih2=>show (a.sub' es).ev β+(b.sub' es).ev β=_;rw [ih1,ih2];rfl
 | sub a b ih1 ih2=>show (a.sub' es).ev β - (b.sub' es).ev β=_;rw [ih1,ih2];rfl
 | mul a b ih1 ih2=>show (a.sub' es).ev β*(b.sub' es).ev β=_;rw [ih1,ih2];rfl
 | div a b ih1 ih2=>show (a.sub' es).ev β / (b.sub' es).ev β=_;rw [ih1,ih2];rfl
 | neg a ih=>show -(a.sub' es).ev β=_;rw [ih];rfl
 | abs a ih=>show (if ((a.sub' es).ev β).num<0 then -(a.sub' es).ev β else (a.sub' es).ev β)=_;rw [ih];rfl
 | flo a ih=>show ((((a.sub' es).ev β).num / (((a.sub' es).ev β).den:Int):Int):Rat)=_;rw [ih];rfl
 | num a ih=>show (((a.sub' es).ev β).num:Rat)=_;rw [ih];rfl
 | den a ih=>show (((((a.sub' es).ev β).den:Nat):Int):Rat)=_;rw [ih];rfl
 | rt a ih=>show (((isq ((a.sub' es).ev β).num.natAbs:Nat):Int):Rat)=_;rw [ih];rfl
def RE.plain:RE→RE
 | .sub a b=>.add a.plain (.neg b.plain)
 | .add a b=>.add a.plain b.plain
 | .mul a b=>.mul a.plain b.plain
 | .div a b=>.div a.plain b.plain
 | .neg a=>.neg a.plain
 | e=>e
theorem Nk {β:Nat→Rat} (e:RE):e.plain.ev β=e.ev β:=by
 induction e with
 | add a b ih1 ih2=>show a.plain.ev β+b.plain.ev β=_;rw [ih1,ih2];rfl
 | sub a b ih1 ih2=>show a.plain.ev β + -b.plain.ev β=a.ev β - b.ev β;rw [ih1,ih2,Rat.sub_eq_add_neg]
 | mul a b ih1 ih2=>show a.plain.ev β*b.plain.ev β=_;rw [ih1,ih2];rfl
 | div a b ih1 ih2=>show a.plain.ev β / b.plain.ev β=_;rw [ih1,ih2];rfl
 | neg a ih=>show -a.plain.ev β=_;rw [ih];rfl
 | _=>rfl
def alike (k:Nat):List RE→List (RE×Nat)→Bool
 | [],[]=>true
 | o :: l,y :: m=>(o.plain.beq y.1.plain && decide (y.2≤k)) && alike k l m
 | _,_=>false
theorem IY {β:Nat→Rat} {es:List RE} {k:Nat}:∀ {os:List RE} {ys:List (RE×Nat)},alike k os ys=true→rel β (put β es) (os.map fun o=>(o.sub' es,k)) ys
 | [],[],_=>trivial
 | [],_ :: _,h=>by simp [alike] at h
 | _ :: _,[],h=>by simp [alike] at h
 | o :: os,y :: ys,h=>by
  simp only [alike,Bool.and_eq_true,decide_eq_true_eq] at h
  refine ⟨⟨?_,h.1.2⟩,IY h.2⟩
  rw [lM,← Nk o,RE.beq_eq h.1.1,Nk]
inductive Kc
 | i (n:Int)
 | z
def Kc.el:Kc→El
 | .i n=>.s (.it .i64 n)
 | .z=>.s .nils
def Kc.is:Kc→El→Bool
 | .i n,.s (.it .i64 m)=>decide (n=m)
 | .z,.s .nils=>true
 | _,_=>false
theorem Kc.is_eq {a:Kc} {x:El} (h:a.is x=true):x=a.el:=by
 unfold Kc.is at h
 split at h
 ·rw [of_decide_eq_true h];rfl
 ·rfl
 ·cases h
def kcs:List Kc→List El→Bool
 | [],[]=>true
 | a :: l,x :: r=>a.is x && kcs l r
 | _,_=>false
theorem zX:∀ {l:List Kc} {r:List El},kcs l r=true→r=l.map Kc.el
 | [],[],_=>rfl
 | a :: l,x :: r,h=>by
  simp only [kcs,Bool.and_eq_true] at h
  rw [Kc.is_eq h.1,zX h.2];rfl
 | [],_ :: _,h=>by simp [kcs] at h
 | _ :: _,[],h=>by simp [kcs] at h
def F7 (l:List Kc):Option (SV×List Fc)→Bool
 | some (.e x,_)=>kcs l [x]
 | some (.t r,_)=>decide (2≤l.length) && kcs l r
 | _=>false
theorem Y2 {l:List Kc} {o:Option (SV×List Fc)} (h:F7 l o=true):∃ fs,o=some (jK (l.map Kc.el),fs):=by
 unfold F7 at h
 split at h
 ·rename_i x fs
  rw [← zX h];exact ⟨fs,rfl⟩
 ·rename_i r fs
  simp only [Bool.and_eq_true,decide_eq_true_eq] at h
  rw [← zX h.2]
  have hl:=congrArg List.length (zX h.2)
  rw [List.length_map] at hl
  match r,hl with
  | [],hl=>simp at hl;omega
  | [_],hl=>simp at hl;omega
  | _ :: _ :: _,_=>exact ⟨fs,rfl⟩
 ·cases h
theorem Xf (l:List Kc) (ρ ρ':Env):(jK (l.map Kc.el)).den ρ=(jK (l.map Kc.el)).den ρ':=by
 have h:∀ l:List Kc,(l.map Kc.el).map (El.den ρ)=(l.map Kc.el).map (El.den ρ'):=fun l=>by
  rw [List.map_map,List.map_map]
  exact List.map_congr_left fun a _=>by cases a <;> rfl
 match l with
 | []=>rfl
 | [a]=>cases a <;> rfl
 | a :: b :: r =>
  show SV.den ρ (.t ((a :: b :: r).map Kc.el))=SV.den ρ' (.t ((a :: b :: r).map Kc.el))
  simp only [SV.den]
  rw [h]
inductive Rs
 | at (t:List At) (os:List RE)
 | atb (t:List At) (os:List RE) (x:Bool)
 | bl (x:Bool)
 | ati (t:List At) (os:List RE) (n:Int)
 | ks (l:List Kc)
def Rs.sv (b:Nat):Rs→SV
 | .at t _=>.e (.a (nO t b))
 | .atb t _ x=>.t [.a (nO t b),.s (.bl x)]
 | .bl x=>.e (.s (.bl x))
 | .ati t _ n=>.t [.a (nO t b),.s (.it .i64 n)]
 | .ks l=>jK (l.map Kc.el)
def Rs.fs (ko b:Nat) (es:List RE):Rs→List Fc
 | .at t os | .atb t os _ | .ati t os _=>iy t b (os.map fun o=>(o.sub' es,ko))
 | .bl _ | .ks _=>[]
def Rs.small:Rs→Bool
 | .at t _ | .atb t _ _ | .ati t _ _=>decide (2*t.length≤M)
 | .bl _ | .ks _=>true
def outA (ko:Nat) (t:List At) (os:List RE):Option (SV×List Fc)→Bool
 | some (.e (.a cs),fs)=>match iL fs t cs with
  | some ys=>alike ko os ys
  | none=>false
 | _=>false
def F5 (ko:Nat) (t:List At) (os:List RE) (x:Bool):Option (SV×List Fc)→Bool
 | some (.t [.a cs,.s (.bl y)],fs)=>match iL fs t cs with
  | some ys=>x == y && alike ko os ys
  | none=>false
 | _=>false
def F6 (ko:Nat) (t:List At) (os:List RE) (n:Int):Option (SV×List Fc)→Bool
 | some (.t [.a cs,.s (.it .i64 m)],fs)=>match iL fs t cs with
  | some ys=>decide (m=n) && alike ko os ys
  | none=>false
 | _=>false
theorem Y1 {ko:Nat} {t:List At} {os:List RE} {n:Int} {o:Option (SV×List Fc)} (h:F6 ko t os n o=true):∃ cs fs ys,o=some (.t [.a cs,.s (.it .i64 n)],fs)∧iL fs t cs=some ys∧alike ko os ys=true:=by
 unfold F6 at h
 split at h
 ·split at h
  ·rename_i cs m fs _ ys hp
   simp only [Bool.and_eq_true,decide_eq_true_eq] at h
   exact ⟨cs,fs,ys,by rw [h.1],hp,h.2⟩
  ·cases h
 ·cases h
def WO (ko:Nat):Rs→Option (SV×List Fc)→Bool
 | .at t os,o=>outA ko t os o
 | .atb t os x,o=>F5 ko t os x o
 | .bl x,o=>isB x o
 | .ati t os n,o=>F6 ko t os n o
 | .ks l,o=>F7 l o
theorem YZ {ko:Nat} {t:List At} {os:List RE} {o:Option (SV×List Fc)} (h:outA ko t os o=true):∃ cs fs ys,o=some (.e (.a cs),fs)∧iL fs t cs=some ys∧alike ko os ys=true:=by
 unfold outA at h
 split at h
 ·split at h
  ·rename_i cs fs _ ys hp;exact ⟨cs,fs,ys,rfl,hp,h⟩
  ·cases h
 ·cases h
theorem Y0 {ko:Nat} {t:List At} {os:List RE} {x:Bool} {o:Option (SV×List Fc)} (h:F5 ko t os x o=true):∃ cs fs ys,o=some (.t [.a cs,.s (.bl x)],fs)∧iL fs t cs=some ys∧alike ko os ys=true:=by
 unfold F5 at h
 split at h
 ·split at h
  ·rename_i cs y fs _ ys hp
   simp only [Bool.and_eq_true,beq_iff_eq] at h
   exact ⟨cs,fs,ys,by rw [h.1],hp,h.2⟩
  ·cases h
 ·cases h
def hintB (h H0:Hint) (es:List RE):Bool:=
 H0.eq.all (fun p=>eqB h (p.1.sub' es) (p.2.sub' es)) && H0.ne.all (fun p=>h.ne.any fun x=>x.1.beq (p.1.sub' es) && x.2.beq (p.2.sub' es)) && H0.nz.all (fun p=>nzB h (p.sub' es)) && H0.sg.all (fun p=>sgB h (p.1.sub' es) == some p.2) && H0.cm.all (fun p=>cmB h (p.1.sub' es) (p.2.1.sub' es) == some p.2.2)
theorem VY {β:Nat→Rat} {h H0:Hint} {es:List RE} (hh:hintB h H0 es=true) (ok:h.Ok β):H0.Ok (put β es):=by
 unfold hintB at hh
 simp only [Bool.and_eq_true,List.all_eq_true] at hh
 obtain ⟨⟨⟨⟨h1,h2⟩,h3⟩,h4⟩,h5⟩:=hh
 refine ⟨fun p hp=>?_,fun p hp=>?_,fun p hp=>?_,fun p hp=>?_,fun p hp=>?_⟩
 ·rw [← lM,← lM];exact lK ok (h1 p hp)
 ·obtain ⟨x,hx,h6⟩:=List.any_eq_true.1 (h2 p hp)
  simp only [Bool.and_eq_true] at h6
  rw [← lM,← lM,← RE.beq_eq h6.1,← RE.beq_eq h6.2]
  exact ok.2.1 x hx
 ·rw [← lM];exact jA ok (h3 p hp)
 ·rw [← lM];exact GX ok (by simpa using h4 p hp)
 ·rw [← lM,← lM];exact kQ ok (by simpa using h5 p hp)
def vars (k:Nat):Nat→Nat→List (RE×Nat)
 | _,0=>[]
 | i,n+1=>(.v i,k) :: vars k (i+1) n
theorem O8 {β:Nat→Rat} {es:List RE} {k:Nat}:∀ {xs:List (RE×Nat)} {i:Nat},(∀ j x,xs[j]? = some x→(es.getD (i+j) (.c 0))=x.1∧x.2≤k)→rel (put β es) β (vars k i xs.length) xs
 | [],i,_=>trivial
 | x :: xs,i,h=>by
  have h0:=h 0 x rfl
  refine ⟨⟨?_,h0.2⟩,O8 fun j y hy=>?_⟩
  ·show (es.getD i (.c 0)).ev β=_
   rw [← h0.1];rfl
  ·have:=h (j+1) y (by simpa using hy)
   rwa [show i+1+j=i+(j+1) by omega]
def bF (β:Nat→Rat) (h:Hint) (f:FuncId) (ins:List (List At)) (kin:Nat) (H0:Hint) (out:Rs) (ko:Nat):Con (SQ β) where
 fn:=f
 app:=fun db b args=>match jY db ins args with
  | some xs=>if xs.all (fun x=>decide (x.2≤kin)) && hintB h H0 (xs.map (·.1)) then some (out.sv b,out.fs ko b (xs.map (·.1))) else none
  | none=>none
theorem CX {ko:Nat} {β γ:Nat→Rat} {es:List RE} {ρ ρ':Env} {W':World} {fs':List Fc} {t:List At} {cs:List Cell} {ys:List (RE×Nat)} {os:List RE} {b:Nat} (hg:γ=put β es) (hp:iL fs' t cs=some ys) (ha:alike ko os ys=true) (hs:2*t.length≤M) (hfs:∀ g∈fs',(SQ γ).on ρ' g W') :
  ∃ ρ'':Env,(∀ n,n<b∨b+M≤n→ρ'' n=ρ n)∧(nO t b).map (Cell.den ρ'')=cs.map (Cell.den ρ')∧∀ g∈iy t b (os.map fun o=>(o.sub' es,ko)),(SQ β).on ρ'' g W':=by
 subst hg
 obtain ⟨L,hL,hn⟩:=FM hfs hp
 obtain ⟨h1,h2⟩:=hn (aG ρ b L) b (fun i hi=>by
  unfold aG
  rw [if_pos (by omega),Nat.add_sub_cancel_left,List.getElem?_eq_getElem (by omega)];rfl)
 exact ⟨aG ρ b L,iE (by omega),h1,h2 β _ (IY ha)⟩
theorem DL {β:Nat→Rat} {h:Hint} {f:FuncId} {ins:List (List At)} {kin:Nat} {H0:Hint} {out:Rs} {ko:Nat} (ok:h.Ok β) (hs:out.small=true)
  (run:∀ γ:Nat→Rat,H0.Ok γ→∃ (H1:Hint) (ok1:H1.Ok γ) (fuel:Nat) (cons:List (Con (SQ γ))),(∀ c∈cons,c.Ok Tryz.prog (SQ γ) EV)∧WO ko out (aN Tryz.prog (SQ γ) (HQ γ H1 ok1) cons fuel f (rX ins 0) (iy ins.flatten 0 (vars kin 0 ins.flatten.length)) (2*ins.flatten.length))=true) :
  (bF β h f ins kin H0 out ko).Ok Tryz.prog (SQ β) EV:=by
 refine Con.ok0 rfl ?_
 intro db b args res new ha ρ W hf hE
 simp only [bF] at ha
 split at ha
 ·rename_i xs hx
  split at ha
  ·rename_i hh
   simp only [Bool.and_eq_true,List.all_eq_true,decide_eq_true_eq] at hh
   cases ha
   obtain ⟨es,hes⟩:∃ es,xs.map (·.1)=es:=⟨_,rfl⟩
   rw [hes] at hh ⊢
   obtain ⟨H1,ok1,fuel,cons,hc,hr⟩:=run (put β es) (VY hh.2 ok)
   obtain ⟨L,hL,hn⟩:=MI hf hx
   obtain ⟨h1,h2⟩:=hn (fun i=>L[i]?.getD default) 0 (fun i hi=>by simp)
   have hlen:=Nb hx
   have hfacts:=h2 (put β es) (vars kin 0 ins.flatten.length) (by
    rw [← hlen]
    refine O8 fun j x hj=>⟨?_,hh.1 x (List.mem_of_getElem? hj)⟩
    rw [← hes,Nat.zero_add,List.getD_eq_getElem?_getD,List.getElem?_map,hj];rfl)
   rw [← h1]
   cases out with
   | «at» t os =>
    have hs':2*t.length≤M:=by simpa [Rs.small] using hs
    obtain ⟨cs,fs',ys,hrun,hp,hr⟩:=YZ hr
    refine (dJ mixed hc hrun (bg hE) hfacts).mono fun x W' ⟨ρ',_,hx',hb,hfs⟩=>?_
    obtain ⟨ρ'',a1,a2,a3⟩:=CX (ρ:=ρ) (b:=b) rfl hp hr hs' hfs
    exact ⟨ρ'',a1,by rw [hx'];simp only [Rs.sv,SV.den,El.den,a2],hb,a3⟩
   | atb t os y =>
    have hs':2*t.length≤M:=by simpa [Rs.small] using hs
    obtain ⟨cs,fs',ys,hrun,hp,hr⟩:=Y0 hr
    refine (dJ mixed hc hrun (bg hE) hfacts).mono fun x W' ⟨ρ',_,hx',hb,hfs⟩=>?_
    obtain ⟨ρ'',a1,a2,a3⟩:=CX (ρ:=ρ) (b:=b) rfl hp hr hs' hfs
    exact ⟨ρ'',a1,by rw [hx'];simp only [Rs.sv,SV.den,El.den,List.map_cons,List.map_nil,a2];rfl,hb,a3⟩
   | bl y =>
    obtain ⟨fs',hrun⟩:=EX hr
    refine (dJ mixed hc hrun (bg hE) hfacts).mono fun x W' ⟨ρ',_,hx',hb,hfs⟩=>⟨ρ,fun _ _=>rfl,?_,hb,fun g hg=>by cases hg⟩
    rw [hx'];rfl
   | ati t os y =>
    have hs':2*t.length≤M:=by simpa [Rs.small] using hs
    obtain ⟨cs,fs',ys,hrun,hp,hr⟩:=Y1 hr
    refine (dJ mixed hc hrun (bg hE) hfacts).mono fun x W' ⟨ρ',_,hx',hb,hfs⟩=>?_
    obtain ⟨ρ'',a1,a2,a3⟩:=CX (ρ:=ρ) (b:=b) rfl hp hr hs' hfs
    exact ⟨ρ'',a1,by rw [hx'];simp only [Rs.sv,SV.den,El.den,List.map_cons,List.map_nil,a2];rfl,hb,a3⟩
   | ks l =>
    obtain ⟨fs',hrun⟩:=Y2 hr
    exact (dJ mixed hc hrun (bg hE) hfacts).mono fun x W' ⟨ρ',_,hx',hb,hfs⟩=>⟨ρ,fun _ _=>rfl,by rw [hx'];exact congrArg _ (Xf l _ _),hb,fun g hg=>by cases hg⟩
  ·cases ha
 ·cases ha
abbrev Q3:List At:=[.q,.q,.q]
end Rx
namespace Z4
open Go.RowKit Go.Sort Go.Lib
theorem Tv (w:World):Calls Tryz.prog 97 #[.agg #[.bool false,.slice none 0 0,.bool false,.slice none 0 0]] w (dA w 1):=by
 have HN:=hid (fun (W:World)=>kE 1 (by decide) (by decide) W)
 go_enter Tryz.func97,Tryz.ntmps97
 go_wp2_with fail
 have hS0:=hid (((St.start w).alloc' (w.heap.size) (by simp) 37 [.bool false,.slice none 0 0,.bool false,.slice none 0 0]).alloc' (w.heap.size+1) (by simp) 35 [.bool false,.slice none 0 0])
 obtain ⟨W0,hW0⟩:=bI hS0
 rw [hW0] at hS0 ⊢
 clear hW0
 refine (HN.out _).mono ?_
 rintro e w1 hret
 obtain ⟨v1,rfl,hz1,hB⟩:=hret.z
 clear hret
 obtain ⟨t1,p1,l1,k1,rfl⟩:=hz1.open
 have hS1:=hid (hS0.out.call hB)
 clear hB hS0
 have hS2:=hid (hS1.out.fact (.z (.agg #[.bool t1,.slice p1 l1 k1]) 1) hz1)
 clear hS1 hz1
 obtain ⟨⟨cR0,cR1⟩,fR0,fR1⟩:=hS2.out.f2 0 (w.heap.size+1) 35 (.bool false) (.slice none 0 0) rfl
 have hS3:=hid (((hS2.out).store (b:=⟨w.heap.size+1,35,[.bool false,.slice none 0 0]⟩) 0 0 (.bool t1) rfl rfl).store (b:=⟨w.heap.size+1,35,[.bool t1,.slice none 0 0]⟩) 0 1 (.slice p1 l1 k1) rfl rfl)
 go_wp2_with fail
 clear cR0 cR1 fR0 fR1
 obtain ⟨⟨zR0,zR1⟩,-⟩:=hS3.out.f2 0 (w.heap.size+1) 35 (.bool t1) (.slice p1 l1 k1) rfl
 exact bodyPost_ret (v:=.agg #[.bool t1,.slice p1 l1 k1]) (by simp [results,Tryz.results97,go_sem,zR0,zR1]) rfl ⟨_,rfl,hS3.out.get (f:=.z (.agg #[.bool t1,.slice p1 l1 k1]) 1) 0 rfl,hS3.out.bel⟩
theorem aa1 (w:World):Calls Tryz.prog 91 #[.agg #[.bool false,.slice none 0 0,.bool false,.slice none 0 0]] w (gV w [48]):=by
 have HN:=hid (fun (W:World)=>PN false none 0 W)
 have HM:=hid (fun (W:World) (v:Value) (a:IsZ W v 1)=>show Calls Tryz.prog 137 #[v] W (gV W [49]) by
  have h:=Ia _ v W a 1 (by decide) (by decide)
  rwa [show iI 1=[49] by unfold iI;rw [if_neg (by decide),decDigits];rfl] at h)
 have HD:=hid (fun (W:World)=>Tv W)
 go_enter Tryz.func91,Tryz.ntmps91
 go_wp2_with fail
 have hS0:=hid ((St.start w).alloc' (w.heap.size) (by simp) 37 [.bool false,.slice none 0 0,.bool false,.slice none 0 0])
 obtain ⟨W0,hW0⟩:=bI hS0
 rw [hW0] at hS0 ⊢
 clear hW0
 obtain ⟨⟨cR0,cR1,cR2,cR3⟩,fR0,fR1,fR2,fR3⟩:=hS0.out.f4 0 w.heap.size 37 (.bool false) (.slice none 0 0) (.bool false) (.slice none 0 0) rfl
 go_wp2_with fail
 clear cR0 cR1 cR2 cR3 fR0 fR1 fR2 fR3
 refine (HN.out _).mono ?_
 rintro e w1 ⟨rfl,hB⟩
 have hS2:=hid (hS0.out.call hB)
 clear hS0 hB
 obtain ⟨⟨cR0,cR1,cR2,cR3⟩,fR0,fR1,fR2,fR3⟩:=hS2.out.f4 0 w.heap.size 37 (.bool false) (.slice none 0 0) (.bool false) (.slice none 0 0) rfl
 go_wp2_with fail
 clear cR0 cR1 cR2 cR3 fR0 fR1 fR2 fR3
 refine (HD.out _).mono ?_
 rintro e w2 ⟨v2,rfl,hz2,hB⟩
 have hS3:=hid (hS2.out.call hB)
 clear hS2 hB
 obtain ⟨t2,p2,l2,k2,rfl⟩:=hz2.open
 have hZ:=hid hz2
 clear hz2
 go_wp2_with fail
 refine (HM.out _ _ hZ.out).mono ?_
 rintro e w3 ⟨rfl,hB⟩
 have hS4:=hid (hS3.out.call hB)
 clear hS3 hB hZ
 go_wp2
 go_ret
 exact ⟨rfl,hS4.out.bel⟩
end Z4
namespace Rx
open Go.RowKit
section
variable (β:Nat→Rat) (h:Hint)
def yx (f:FuncId) (op:RE→RE) (side:RE→Bool):Con (SQ β) where
 fn:=f
 app:=fun db b args=>match args with
  | [.e (.a x)]=>match iK db x with
   | some (e,k)=>if decide (k≤K2) && side e then some (.e (.a (aT b)),[.r b (op e) k]) else none
   | none=>none
  | _=>none
def vK (f:FuncId) (op:RE→RE→RE) (sz:Nat→Nat→Nat) (side:RE→RE→Bool):Con (SQ β) where
 fn:=f
 app:=fun db b args=>match args with
  | [.e (.a x),.e (.a y)]=>match iK db x,iK db y with
   | some (e,k),some (e',k')=>if decide (k≤K2) && decide (k'≤K2) && side e e' then some (.e (.a (aT b)),[.r b (op e e') (sz k k')]) else none
   | _,_=>none
  | _=>none
def D6:Con (SQ β) where
 fn:=31
 app:=fun db _ args=>match args with
  | [.e (.a x),.e (.a y)]=>match iK db x,iK db y with
   | some (e,k),some (e',k')=>if decide (k≤K2) && decide (k'≤K2) then (match cmB h e e' with
     | some n=>some (.e (.s (.it .i64 n)),[])
     | none=>none) else none
   | _,_=>none
  | _=>none
def D9:Con (SQ β) where
 fn:=16
 app:=fun db _ args=>match args with
  | [.e (.a x)]=>match iK db x with
   | some (e,k)=>if k≤K2 then (match sgB h e with
     | some n=>some (.e (.s (.it .i64 n)),[])
     | none=>none) else none
   | none=>none
  | _=>none
def D8:Con (SQ β) where
 fn:=19
 app:=fun _ b args=>match args with
  | [.e (.s (.it .i64 1))]=>some (.e (.a (aT b)),[.r b (.c 1) 1])
  | [.e (.s (.it .i64 2))]=>some (.e (.a (aT b)),[.r b (.c 2) 1])
  | _=>none
def Ed:Con (SQ β) where
 fn:=90
 app:=fun db b args=>match args with
  | [.e (.a x)]=>match dD db x with
   | some (e,k)=>if k≤K0 then some (.e (.s (.ot b)),[.x b e]) else none
   | none=>none
  | _=>none
def Ea:Con (SQ β) where
 fn:=91
 app:=fun db b args=>match args with
  | [.e (.a x)]=>match iK db x with
   | some (e,k)=>if k≤K0 then some (.e (.s (.ot b)),[.x b e]) else none
   | none=>match xR x with
    | some _=>some (.e (.s (.ot b)),[.x b (.c 0)])
    | none=>none
  | _=>none
def Et:List (Con (SQ β)):=[vK β 21 .add (fun a b=>a+b+1) (fun _ _=>true),vK β 25 .mul (fun a b=>a+b) (fun _ _=>true),vK β 17 .div (fun a b=>a+b+1) (fun _ e=>nzB h e),
 yx β 27 .neg (fun _=>true),yx β 29 .abs (fun _=>true),D6 β h,D9 β h,D8 β,Ed β,Ea β]
def c0:List (Con (SQ β)):=Et β h ++ cq β h
end
section
variable {β:Nat→Rat} {h:Hint} {f:FuncId} {vals:Array Value} {W:World} {ρ:Env} {b:Nat}
theorem kK {e:RE} {k:Nat} (hc:Calls Tryz.prog f vals W (Z4.dW W (e.ev β))) (hk:Fits k (e.ev β)):Calls Tryz.prog f vals W (Ans β ρ b W (.e (.a (aT b))) [.r b e k]):=by
 refine hc.mono fun _ W' ⟨v,he,hv,hb⟩=>?_
 obtain ⟨c,d,rfl⟩:=mP hv
 have h1:(aT b).map (Cell.den (aG ρ b [c,d]))=[.bool c.b,.slice c.p c.l c.c,.bool false,.slice d.p d.l d.c]:=by simp [aT,Cell.den,aG]
 refine ⟨aG ρ b [c,d],iE (by simp [M]),?_,hb,fun g hg=>?_⟩
 ·rw [he];simp only [SV.den,El.den,h1]
 ·rw [List.mem_singleton] at hg
  subst hg
  exact ⟨by rw [h1];exact hv,hk⟩
theorem CY {e:RE} {l:List UInt8} (hc:Calls Tryz.prog f vals W (gV W l)) (hl:l=iO (e.ev β)):Calls Tryz.prog f vals W (Ans β ρ b W (.e (.s (.ot b))) [.x b e]):=by
 refine hc.mono fun _ W' ⟨he,hb⟩=>?_
 refine ⟨aG ρ b [⟨false,0,none,0,0,⟨l.toArray⟩,0,default⟩],iE (by simp [M]),?_,hb,fun g hg=>?_⟩
 ·rw [he];simp [SV.den,El.den,Cell.den,aG]
 ·rw [List.mem_singleton] at hg
  subst hg
  show (aG ρ b _ b).t=_
  rw [← hl]
  simp [aG]
theorem Jz {op:RE→RE} {side:RE→Bool} (hc:∀ e v W,side e=true→Z4.IsR W v (e.ev β)→Fits K2 (e.ev β)→EV W→Calls Tryz.prog f #[v] W (Z4.dW W ((op e).ev β))) (hs:∀ e k,Fits k (e.ev β)→Fits k ((op e).ev β)):(yx β f op side).Ok Tryz.prog (SQ β) EV:=by
 refine Con.ok0 rfl ?_
 intro db b args res new ha ρ W hf hE
 simp only [yx] at ha
 split at ha
 ·split at ha
  ·rename_i e k hx
   split at ha
   ·rename_i hk
    simp only [Bool.and_eq_true,decide_eq_true_eq] at hk
    cases ha
    obtain ⟨h1,h2⟩:=jd hx hf
    exact kK (hc e _ W hk.2 h1 (h2.mono hk.1) hE) (hs e k h2)
   ·cases ha
  ·cases ha
 ·cases ha
theorem D5 {op:RE→RE→RE} {sz:Nat→Nat→Nat} {side:RE→RE→Bool} (hc:∀ e e' v v' W,side e e' = true→Z4.IsR W v (e.ev β)→Z4.IsR W v' (e'.ev β)→Fits K2 (e.ev β)→Fits K2 (e'.ev β)→EV W→Calls Tryz.prog f #[v,v'] W (Z4.dW W ((op e e').ev β)))
  (hs:∀ e e' k k',Fits k (e.ev β)→Fits k' (e'.ev β)→Fits (sz k k') ((op e e').ev β)):(vK β f op sz side).Ok Tryz.prog (SQ β) EV:=by
 refine Con.ok0 rfl ?_
 intro db b args res new ha ρ W hf hE
 simp only [vK] at ha
 split at ha
 ·split at ha
  ·rename_i e k e' k' hx hy
   split at ha
   ·rename_i hk
    simp only [Bool.and_eq_true,decide_eq_true_eq] at hk
    cases ha
    obtain ⟨h1,h2⟩:=jd hx hf
    obtain ⟨h3,h4⟩:=jd hy hf
    exact kK (hc e e' _ _ W hk.2 h1 h3 (h2.mono hk.1.1) (h4.mono hk.1.2) hE) (hs e e' k k' h2 h4)
   ·cases ha
  ·cases ha
 ·cases ha
theorem Si (ok:h.Ok β):(D6 β h).Ok Tryz.prog (SQ β) EV:=by
 refine Con.ok0 rfl ?_
 intro db b args res new ha ρ W hf hE
 simp only [D6] at ha
 split at ha
 ·split at ha
  ·rename_i e k e' k' hx hy
   split at ha
   ·rename_i hk
    simp only [Bool.and_eq_true,decide_eq_true_eq] at hk
    split at ha
    ·rename_i n hn
     cases ha
     obtain ⟨h1,h2⟩:=jd hx hf
     obtain ⟨h3,h4⟩:=jd hy hf
     have hc:=Zq h1 h3 (h2.mono hk.1) (h4.mono hk.2) hE
     rw [kQ ok hn] at hc
     exact nK hc rfl
    ·cases ha
   ·cases ha
  ·cases ha
 ·cases ha
theorem Sr (ok:h.Ok β):(D9 β h).Ok Tryz.prog (SQ β) EV:=by
 refine Con.ok0 rfl ?_
 intro db b args res new ha ρ W hf hE
 simp only [D9] at ha
 split at ha
 ·split at ha
  ·rename_i e k hx
   split at ha
   ·rename_i hk
    split at ha
    ·rename_i n hn
     cases ha
     obtain ⟨h1,h2⟩:=jd hx hf
     have hc:=Z8 h1 (h2.mono hk) hE
     rw [GX ok hn] at hc
     exact nK hc rfl
    ·cases ha
   ·cases ha
  ·cases ha
 ·cases ha
theorem Sm:(D8 β).Ok Tryz.prog (SQ β) EV:=by
 refine Con.ok0 rfl ?_
 intro db b args res new ha ρ W hf hE
 simp only [D8] at ha
 split at ha
 ·cases ha
  exact kK (e:=.c 1) (ZG hE) (fits_int (n:=1) (by decide) (by decide))
 ·cases ha
  exact kK (e:=.c 2) (ZH hE) (fits_int (n:=2) (by decide) (by decide))
 ·cases ha
theorem SB:(Ed β).Ok Tryz.prog (SQ β) EV:=by
 refine Con.ok0 rfl ?_
 intro db b args res new ha ρ W hf hE
 simp only [Ed] at ha
 split at ha
 ·split at ha
  ·rename_i e k hx
   split at ha
   ·rename_i hk
    cases ha
    obtain ⟨⟨h1,h2⟩,-⟩:=eY hx hf
    exact CY (IG _ _ k W h1 hk h2 hE.ten) rfl
   ·cases ha
  ·cases ha
 ·cases ha
theorem text0:iO 0=[48]:=by
 unfold iO
 rw [if_neg (by decide),if_pos (by decide),show (0:Rat).num.natAbs=0 from rfl,Lib.decDigits];rfl
theorem Sv:(Ea β).Ok Tryz.prog (SQ β) EV:=by
 refine Con.ok0 rfl ?_
 intro db b args res new ha ρ W hf hE
 simp only [Ea] at ha
 split at ha
 ·split at ha
  ·rename_i e k hx
   split at ha
   ·rename_i hk
    cases ha
    obtain ⟨h1,h2⟩:=jd hx hf
    exact CY (Z4.Z9 _ _ W h1 k hk h2) rfl
   ·cases ha
  ·split at ha
   ·rename_i hz
    cases ha
    unfold xR at hz
    split at hz
    ·exact CY (e:=.c 0) (Z4.aa1 W) text0.symm
    ·cases hz
   ·cases ha
 ·cases ha
theorem SY (ok:h.Ok β):∀ c∈Et β h,c.Ok Tryz.prog (SQ β) EV:=by
 unfold Et
 simp only [List.forall_mem_cons,List.not_mem_nil,false_imp_iff,implies_true,and_true]
 exact ⟨D5 (fun _ _ _ _ _ _ h1 h2 f1 f2 hE=>Zm h1 h2 f1 f2 hE) (fun _ _ _ _ h1 h2=>h1.plus h2),
  D5 (fun _ _ _ _ _ _ h1 h2 f1 f2 hE=>ZJ h1 h2 f1 f2 hE) (fun _ _ _ _ h1 h2=>h1.mul h2),
  D5 (fun _ _ _ _ _ hn h1 h2 f1 f2 hE=>Zr h1 h2 f1 f2 (jA ok hn) hE) (fun _ _ _ _ h1 h2=>h1.over h2),
  Jz (fun _ _ _ _ h1 f1 hE=>ZL h1 f1 hE) (fun _ _ h1=>h1.neg),Jz (fun _ _ _ _ h1 f1 hE=>Zl h1 f1 hE) (fun _ _ h1=>Kw h1),
  Si ok,Sr ok,Sm,SB,Sv⟩
theorem vI (ok:h.Ok β):∀ c∈c0 β h,c.Ok Tryz.prog (SQ β) EV:=fun c hc=>by
 rcases List.mem_append.1 hc with hc | hc
 ·exact SY ok c hc
 ·exact yK ok c hc
end
end Rx
namespace Rx
open Go.RowKit
abbrev K3:Nat:=1024
abbrev y0:RE:=.v 0
abbrev y1:RE:=.v 1
abbrev y2:RE:=.v 2
abbrev y3:RE:=.v 3
abbrev Q2:List At:=[.q,.q]
abbrev R2:List At:=[.r,.r]
def uG (x:RE):RE:=.add (.c 1) x
def sqs (x y:RE):RE:=.add (.mul x x) (.mul y y)
def tR (e:RE):RE:=.div (.mul (.c 2) e) (.add (.c 1) (.mul e e))
def KI (β:Nat→Rat) (h:Hint):Con (SQ β):=bF β h 23 [[.r],[.r]] 16384 {} (.at [.r] [.sub y0 y1]) 32769
theorem Vu {β:Nat→Rat} {h:Hint} (ok:h.Ok β):(KI β h).Ok Tryz.prog (SQ β) EV:=DL ok (by decide) fun γ g=>⟨{},aV γ,1,c0 γ {},vI (aV γ),by kernel_rfl⟩
def KJ (β:Nat→Rat) (h:Hint):Con (SQ β):=bF β h 13 [[.q],[.r]] K1 { eq:=[(y0,y1)] } (.bl true) K1
theorem VE {β:Nat→Rat} {h:Hint} (ok:h.Ok β):(KJ β h).Ok Tryz.prog (SQ β) EV:=DL ok (by decide) fun γ g=>⟨{ eq:=[(y0,y1)] },g,1,c0 γ { eq:=[(y0,y1)] },vI g,by kernel_rfl⟩
def KL (β:Nat→Rat) (h:Hint):Con (SQ β):=bF β h 13 [[.q],[.o]] K1 { eq:=[(y0,.c 0)] } (.bl true) K1
theorem VA {β:Nat→Rat} {h:Hint} (ok:h.Ok β):(KL β h).Ok Tryz.prog (SQ β) EV:=DL ok (by decide) fun γ g=>⟨{ eq:=[(y0,.c 0)] },g,1,c0 γ { eq:=[(y0,.c 0)] },vI g,by kernel_rfl⟩
def c1 (β:Nat→Rat) (h:Hint):List (Con (SQ β)):=KI β h :: KJ β h :: KL β h :: c0 β h
theorem xY {β:Nat→Rat} {h:Hint} (ok:h.Ok β):∀ c∈c1 β h,c.Ok Tryz.prog (SQ β) EV:=by
 unfold c1
 simp only [List.forall_mem_cons]
 exact ⟨Vu ok,VE ok,VA ok,vI ok⟩
def VB (β:Nat→Rat) (h:Hint):Con (SQ β):=bF β h 53 [Q2,R2] K1 { eq:=[(y0,y2),(y1,y3)] } (.bl true) K1
def VD (β:Nat→Rat) (h:Hint):Con (SQ β):=bF β h 68 [Q2,R2] K1 { eq:=[(y0,y2),(y1,y3)] } (.bl true) K1
def Vb (β:Nat→Rat) (h:Hint):Con (SQ β):=bF β h 54 [Q2,Q2] K3 {} (.at Q2 [.add y0 y2,.add y1 y3]) K1
def VG (β:Nat→Rat) (h:Hint):Con (SQ β):=bF β h 56 [Q2,Q2] K3 {} (.at Q2 [.sub y0 y2,.sub y1 y3]) K1
def VF (β:Nat→Rat) (h:Hint):Con (SQ β):=bF β h 58 [Q2,[.q]] K3 {} (.at Q2 [.mul y0 y2,.mul y1 y2]) K1
def Vj (β:Nat→Rat) (h:Hint):Con (SQ β):=bF β h 55 [R2,R2] K3 {} (.at R2 [.add y0 y2,.add y1 y3]) K1
def Vk (β:Nat→Rat) (h:Hint):Con (SQ β):=bF β h 57 [R2,R2] K3 {} (.at R2 [.sub y0 y2,.sub y1 y3]) K1
def Vt (β:Nat→Rat) (h:Hint):Con (SQ β):=bF β h 59 [R2,[.r]] K3 {} (.at R2 [.mul y0 y2,.mul y1 y2]) K1
def Vq (β:Nat→Rat) (h:Hint):Con (SQ β):=bF β h 61 [R2,R2] K3 {} (.at [.r] [.add (.mul y0 y2) (.mul y1 y3)]) K1
def Vp (β:Nat→Rat) (h:Hint):Con (SQ β):=bF β h 63 [R2,R2] K3 {} (.at [.r] [.sub (.mul y0 y3) (.mul y1 y2)]) K1
def Vl (β:Nat→Rat) (h:Hint):Con (SQ β):=bF β h 65 [R2,R2] K3 {} (.at R2 [.sub (.mul y2 y0) (.mul y3 y1),.add (.mul y3 y0) (.mul y2 y1)]) K1
def Vw (β:Nat→Rat) (h:Hint):Con (SQ β):=bF β h 72 [R2,R2] K3 {} (.at R2 [.sub (.mul y0 y2) (.mul y1 y3),.add (.mul y1 y2) (.mul y0 y3)]) K1
def Vo (β:Nat→Rat) (h:Hint):Con (SQ β):=bF β h 74 [R2] K3 {} (.at R2 [y0,.neg y1]) K1
def Vx (β:Nat→Rat) (h:Hint):Con (SQ β):=bF β h 70 [[.r]] K3 {} (.at R2 [tC y0,tR y0]) K1
def Vf (β:Nat→Rat) (h:Hint):Con (SQ β):=bF β h 60 [Q2,Q2] K3 {} (.at [.q] [.add (.mul y0 y2) (.mul y1 y3)]) K1
def Ve (β:Nat→Rat) (h:Hint):Con (SQ β):=bF β h 62 [Q2,Q2] K3 {} (.at [.q] [.sub (.mul y0 y3) (.mul y1 y2)]) K1
def Vm (β:Nat→Rat) (h:Hint):Con (SQ β):=bF β h 64 [Q2,Q2] K3 {} (.at Q2 [.sub (.mul y2 y0) (.mul y3 y1),.add (.mul y3 y0) (.mul y2 y1)]) K1
def VH (β:Nat→Rat) (h:Hint):Con (SQ β):=bF β h 71 [Q2,Q2] K3 {} (.at Q2 [.sub (.mul y0 y2) (.mul y1 y3),.add (.mul y1 y2) (.mul y0 y3)]) K1
def Vd (β:Nat→Rat) (h:Hint):Con (SQ β):=bF β h 73 [Q2] K3 {} (.at Q2 [y0,.neg y1]) K1
def Vg (β:Nat→Rat) (h:Hint):Con (SQ β):=bF β h 66 [[.q,.q]] K3 { nz:=[uG y0] } (.atb [.q] [.div y1 (uG y0)] true) K1
def VI (β:Nat→Rat) (h:Hint):Con (SQ β):=bF β h 75 [Q2] K3 { eq:=[(sqs y0 y1,.c 1)] } (.bl true) K1
def Vr (β:Nat→Rat) (h:Hint):Con (SQ β):=bF β h 67 [[.r,.r]] K3 { nz:=[uG y0] } (.atb [.r] [.div y1 (uG y0)] true) K1
def Vh (β:Nat→Rat) (h:Hint):Con (SQ β):=bF β h 66 [Q2] K3 { sg:=[(uG y0,0)] } (.atb [.q] [.c 0] false) K1
def Vs (β:Nat→Rat) (h:Hint):Con (SQ β):=bF β h 67 [R2] K3 { sg:=[(uG y0,0)] } (.atb [.o] [.c 0] false) K1
def Vy (β:Nat→Rat) (h:Hint):Con (SQ β):=bF β h 76 [R2] K3 { eq:=[(sqs y0 y1,.c 1)] } (.bl true) K1
def VJ (β:Nat→Rat) (h:Hint):Con (SQ β):=bF β h 75 [Q2] K3 { ne:=[(sqs y0 y1,.c 1)] } (.bl false) K1
def Vz (β:Nat→Rat) (h:Hint):Con (SQ β):=bF β h 76 [R2] K3 { ne:=[(sqs y0 y1,.c 1)] } (.bl false) K1
def c2 (β:Nat→Rat) (h:Hint):List (Con (SQ β)):=Vf β h :: Ve β h :: Vm β h :: VH β h :: Vd β h :: Vg β h :: VI β h :: VB β h :: VD β h :: Vb β h :: VG β h :: VF β h :: Vj β h :: Vk β h :: Vt β h :: Vq β h :: Vp β h :: Vl β h :: Vw β h :: Vo β h :: Vx β h :: Vr β h :: Vh β h :: Vs β h :: Vy β h :: VJ β h :: Vz β h :: c1 β h
end Rx
namespace Z4
open Go.RowKit Go.Sort Go.Lib
theorem ZI (n:Int) (h1:-9223372036854775808≤n) (h2:n≤9223372036854775807) (w:World):Calls Tryz.prog 19 #[.int .i64 n] w (dW w (n:Rat)):=by
 have HN:=hid (fun (W:World)=>kE n h1 h2 W)
 have HD:=hid (fun (W:World)=>kE 1 (by decide) (by decide) W)
 clear h1 h2
 go_enter Tryz.func19,Tryz.ntmps19
 go_wp2_with fail
 have hS0:=hid ((St.start w).alloc' (w.heap.size) (by simp) 37 [.bool false,.slice none 0 0,.bool false,.slice none 0 0])
 obtain ⟨W0,hW0⟩:=bI hS0
 rw [hW0] at hS0 ⊢
 clear hW0
 refine (HN.out _).mono ?_
 rintro e w1 hret
 obtain ⟨v1,rfl,hz1,hB⟩:=hret.z
 clear hret
 obtain ⟨t1,p1,l1,k1,rfl⟩:=hz1.open
 have hS1:=hid (hS0.out.call hB)
 clear hB
 clear hS0
 have hS2:=hid (hS1.out.fact (.z (.agg #[.bool t1,.slice p1 l1 k1]) n) hz1)
 clear hS1 hz1
 go_wp2_with fail
 refine (HD.out _).mono ?_
 rintro e w2 hret
 obtain ⟨v2,rfl,hz2,hB⟩:=hret.z
 clear hret
 obtain ⟨t2,p2,l2,k2,rfl⟩:=hz2.open
 obtain rfl:t2=false:=by
  obtain ⟨_,e,-⟩:=hz2.parts
  rw [e];rfl
 have hS3:=hid (hS2.out.call hB)
 clear hB
 clear hS2
 have hS4:=hid (hS3.out.fact (.z (.agg #[.bool false,.slice p2 l2 k2]) 1) hz2)
 clear hS3 hz2
 obtain ⟨⟨cR0,cR1,cR2,cR3⟩,fR0,fR1,fR2,fR3⟩:=hS4.out.f4 0 w.heap.size 37 (.bool false) (.slice none 0 0) (.bool false) (.slice none 0 0) rfl
 have hS8:=hid ((((((hS4.out).store (b:=⟨w.heap.size,37,[.bool false,.slice none 0 0,.bool false,.slice none 0 0]⟩) 0 0 (.bool t1) rfl rfl).store (b:=⟨w.heap.size,37,[.bool t1,.slice none 0 0,.bool false,.slice none 0 0]⟩) 0 1 (.slice p1 l1 k1) rfl rfl).store (b:=⟨w.heap.size,37,[.bool t1,.slice p1 l1 k1,.bool false,.slice none 0 0]⟩) 0 2 (.bool false) rfl rfl).store (b:=⟨w.heap.size,37,[.bool t1,.slice p1 l1 k1,.bool false,.slice none 0 0]⟩) 0 3 (.slice p2 l2 k2) rfl rfl).as [⟨w.heap.size,37,[.bool t1,.slice p1 l1 k1,.bool false,.slice p2 l2 k2]⟩] rfl)
 go_wp2_with fail
 clear cR0 cR1 cR2 cR3 fR0 fR1 fR2 fR3
 obtain ⟨⟨zR0,zR1,zR2,zR3⟩,-⟩:=hS8.out.f4 0 w.heap.size 37 (.bool t1) (.slice p1 l1 k1) (.bool false) (.slice p2 l2 k2) rfl
 exact bodyPost_ret (v:=.agg #[.bool t1,.slice p1 l1 k1,.bool false,.slice p2 l2 k2]) (by simp [results,Tryz.results19,go_sem,zR0,zR1,zR2,zR3]) rfl ⟨_,rfl,.mk2 (by rw [Rat.num_intCast];exact hS8.out.get (f:=.z (.agg #[.bool t1,.slice p1 l1 k1]) n) 1 rfl) (by rw [Rat.den_intCast];exact hS8.out.get (f:=.z (.agg #[.bool false,.slice p2 l2 k2]) 1) 0 rfl),hS8.out.bel⟩
end Z4
namespace Rx
open Go.RowKit
section
variable (β:Nat→Rat) (h:Hint)
def iiB (db:List Fc):List SV→Option (RE×RE)
 | [.e (.s (.oi a)),.e (.s (.oi b))]=>match dU db a,dU db b with
  | some e,some e'=>if nzB h e' then some (e,e') else none
  | _,_=>none
 | [.e (.s (.oi a)),.e (.s (.it .i64 1))]=>(dU db a).map fun e=>(e,.c 1)
 | _=>none
def iOf:Con (SQ β) where
 fn:=11
 app:=fun db b args=>match iiB h db args with
  | some (e,e')=>some (.t [.a (aK b),.s (.it .i64 0)],[.q b (.div e e') 2])
  | none=>none
def zH:Con (SQ β) where
 fn:=14
 app:=fun db b args=>match iiB h db args with
  | some (e,e')=>some (.e (.a (aT b)),[.r b (.div e e') 2])
  | none=>none
def V5:Con (SQ β) where
 fn:=11
 app:=fun db b args=>match args with
  | [.e (.s (.oi a)),.e (.s (.it .i64 0))]=>match dU db a with
   | some _=>some (.t [.a (aK b),.s (.it .i64 9)],[.q b (.c 0) 1])
   | none=>none
  | _=>none
def zF:Con (SQ β) where
 fn:=18
 app:=fun db b args=>match args with
  | [.e (.s (.oi a))]=>match dU db a with
   | some e=>some (.e (.a (aK b)),[.q b e 1])
   | none=>none
  | _=>none
def zG:Con (SQ β) where
 fn:=19
 app:=fun db b args=>match args with
  | [.e (.s (.oi a))]=>match dU db a with
   | some e=>some (.e (.a (aT b)),[.r b e 1])
   | none=>none
  | _=>none
def ci:List (Con (SQ β)):=[iOf β h,zH β h,V5 β,zF β,zG β]
end
section
variable {β:Nat→Rat} {h:Hint} {ρ:Env} {W:World} {db:List Fc}
theorem KQ (ok:h.Ok β) {args:List SV} {e e':RE} (hh:iiB h db args=some (e,e')) (hf:∀ f∈db,(SQ β).on ρ f W):∃ n d:Int,(args.map (SV.den ρ)).toArray=#[.int .i64 n,.int .i64 d]∧(-9223372036854775808≤n∧n≤9223372036854775807)∧(-9223372036854775808≤d∧d≤9223372036854775807)∧d≠0∧(n:Rat) / (d:Rat)=(RE.div e e').ev β∧Fits 2 ((RE.div e e').ev β):=by
 unfold iiB at hh
 split at hh
 ·rename_i a b
  split at hh
  ·rename_i x y hx hy
   split at hh
   ·rename_i hn
    cases hh
    obtain ⟨h1,h2,h3⟩:=(show Fc.on β ρ (.i a e) W from hf _ (dM hx))
    obtain ⟨g1,g2,g3⟩:=(show Fc.on β ρ (.i b e') W from hf _ (dM hy))
    have hne:(ρ b).u≠0:=fun h0=>jA ok hn (by rw [← g3,h0];rfl)
    refine ⟨(ρ a).u,(ρ b).u,rfl,⟨h1,h2⟩,⟨g1,g2⟩,hne,by rw [h3,g3];rfl,?_⟩
    have:=vS (k:=1) (k':=1) hne (show (ρ a).u.natAbs<B64 ^ 1 by rw [Nat.pow_one];unfold B64;omega) (show (ρ b).u.natAbs<B64 ^ 1 by rw [Nat.pow_one];unfold B64;omega)
    rw [h3,g3] at this
    exact this.mono (by decide)
   ·cases hh
  ·cases hh
 ·rename_i a
  obtain ⟨x,hx,hh⟩:=Option.map_eq_some_iff.1 hh
  cases hh
  obtain ⟨h1,h2,h3⟩:=(show Fc.on β ρ (.i a e) W from hf _ (dM hx))
  refine ⟨(ρ a).u,1,rfl,⟨h1,h2⟩,by decide,by decide,by rw [h3];rfl,?_⟩
  have:=vS (k:=1) (k':=1) (show (1:Int)≠0 by decide) (show (ρ a).u.natAbs<B64 ^ 1 by rw [Nat.pow_one];unfold B64;omega) (show (1:Int).natAbs<B64 ^ 1 by decide)
  rw [h3] at this
  exact this.mono (by decide)
 ·cases hh
theorem V6 (ok:h.Ok β):(iOf β h).Ok Tryz.prog (SQ β) EV:=by
 refine Con.ok0 rfl ?_
 intro db b args res new ha ρ W hf hE
 simp only [iOf] at ha
 split at ha
 ·rename_i e e' hx
  cases ha
  obtain ⟨n,d,h1,h2,h3,h4,h5,h6⟩:=KQ ok hx hf
  rw [h1]
  have hc:=PW n d h2.1 (by omega) h3.1 (by omega) h4 W hE.tz
  rw [h5] at hc
  exact qj hc h6
 ·cases ha
theorem V8 (ok:h.Ok β):(zH β h).Ok Tryz.prog (SQ β) EV:=by
 refine Con.ok0 rfl ?_
 intro db b args res new ha ρ W hf hE
 simp only [zH] at ha
 split at ha
 ·rename_i e e' hx
  cases ha
  obtain ⟨n,d,h1,h2,h3,h4,h5,h6⟩:=KQ ok hx hf
  rw [h1]
  have hc:=Z4.ZM n d h2.1 h2.2 h3.1 h3.2 h4 W hE
  rw [h5] at hc
  exact kK hc h6
 ·cases ha
theorem V4:(zF β).Ok Tryz.prog (SQ β) EV:=by
 refine Con.ok0 rfl ?_
 intro db b args res new ha ρ W hf hE
 simp only [zF] at ha
 split at ha
 ·rename_i a
  split at ha
  ·rename_i e hx
   cases ha
   obtain ⟨h1,h2,h3⟩:=(show Fc.on β ρ (.i a e) W from hf _ (dM hx))
   have hc:=xA (ρ a).u h1 (by omega) W
   have hk:=fits_int h1 h2
   rw [h3] at hc hk
   exact vF hc hk
  ·cases ha
 ·cases ha
theorem V7:(zG β).Ok Tryz.prog (SQ β) EV:=by
 refine Con.ok0 rfl ?_
 intro db b args res new ha ρ W hf hE
 simp only [zG] at ha
 split at ha
 ·rename_i a
  split at ha
  ·rename_i e hx
   cases ha
   obtain ⟨h1,h2,h3⟩:=(show Fc.on β ρ (.i a e) W from hf _ (dM hx))
   have hc:=Z4.ZI (ρ a).u h1 h2 W
   have hk:=fits_int h1 h2
   rw [h3] at hc hk
   exact kK hc hk
  ·cases ha
 ·cases ha
end
end Rx
end Go.Proofs.YthalajpklaodkaaGreatDoor
