/- What the proof rests on, part 31. -/
import Derived.Test.YtancpaiaoamjlaaGreatDoorZ30
import Derived.Test.YtancpaiaoamjlaaGreatDoorZ11
import Derived.Test.YtancpaiaoamjlaaGreatDoorZ27
namespace Go.Proofs.YtancpaiaoamjlaaGreatDoor
set_option maxRecDepth 100000
set_option maxHeartbeats 80000000
namespace Rx
open Go.RowKit
inductive At
 | q
 | r
 | o
def At.n:At→Nat
 | .q=>5
 | _=>4
def aae:List Cell:=[.bl false,.nils,.bl false,.nils]
def At.cells:At→Nat→List Cell
 | .q,s=>aO s
 | .r,s=>dw s
 | .o,_=>aae
def At.fact:At→Nat→RE→Nat→List Fc
 | .q,s,e,k=>[.q s e k]
 | .r,s,e,k=>[.r s e k]
 | .o,_,_,_=>[]
def xM:List Cell→Option (RE×Nat)
 | [.bl false,.nils,.bl false,.nils]=>some (.c 0,0)
 | _=>none
def At.parse (db:List Fc):At→List Cell→Option (RE×Nat)
 | .q,cs=>fF db cs
 | .r,cs=>jZ db cs
 | .o,cs=>xM cs
section
variable {β β':Nat→Rat} {ρ:Env} {W:World} {db:List Fc}
theorem At.name {a:At} {cs:List Cell} {e:RE} {k:Nat} (h:a.parse db cs=some (e,k)) (hf:∀ f∈db,(SQ β).on ρ f W):∃ c d:Nv,∀ (ρ':Env) s,ρ' s=c→ρ' (s+1)=d →
  (a.cells s).map (Cell.den ρ')=cs.map (Cell.den ρ)∧∀ (β':Nat→Rat) e' k',e'.ev β' = e.ev β→k≤k'→∀ f∈a.fact s e' k',(SQ β').on ρ' f W:=by
 cases a with
 | q =>
  obtain ⟨h1,c,d,h2⟩:=iC h hf
  refine ⟨c,d,fun ρ' s hc hd=>?_⟩
  have h3:(aO s).map (Cell.den ρ')=cs.map (Cell.den ρ):=by
   have:=congrArg Array.toList (Value.agg.inj h2)
   simp only at this
   rw [this]
   simp [aO,Cell.den,hc,hd]
  refine ⟨h3,fun β' e' k' he hk f hm=>?_⟩
  simp only [At.fact,List.mem_singleton] at hm
  subst hm
  show IsQ W (.agg ((aO s).map (Cell.den ρ')).toArray) (e'.ev β')∧Fits k' (e'.ev β')
  rw [h3,he]
  exact ⟨h1.1,h1.2.mono hk⟩
 | r =>
  obtain ⟨h1,h1'⟩:=lX h hf
  obtain ⟨c,d,h2⟩:=rD h1
  refine ⟨c,d,fun ρ' s hc hd=>?_⟩
  have h3:(dw s).map (Cell.den ρ')=cs.map (Cell.den ρ):=by
   have:=congrArg Array.toList (Value.agg.inj h2)
   simp only at this
   rw [this]
   simp [dw,Cell.den,hc,hd]
  refine ⟨h3,fun β' e' k' he hk f hm=>?_⟩
  simp only [At.fact,List.mem_singleton] at hm
  subst hm
  show Z4.IsR W (.agg ((dw s).map (Cell.den ρ')).toArray) (e'.ev β')∧Fits k' (e'.ev β')
  rw [h3,he]
  exact ⟨h1,h1'.mono hk⟩
 | o =>
  refine ⟨default,default,fun ρ' s _ _=>⟨?_,fun β' e' k' _ _ f hm=>by cases hm⟩⟩
  simp only [At.parse] at h
  unfold xM at h
  split at h
  ·rfl
  ·cases h
def iP (db:List Fc):List At→List Cell→Option (List (RE×Nat))
 | [],[]=>some []
 | [],_ :: _=>none
 | a :: r,cs=>match a.parse db (cs.take a.n),iP db r (cs.drop a.n) with
  | some x,some l=>some (x :: l)
  | _,_=>none
def nS:List At→Nat→List Cell
 | [],_=>[]
 | a :: r,s=>a.cells s ++ nS r (s+2)
def iZ:List At→Nat→List (RE×Nat)→List Fc
 | a :: r,s,x :: l=>a.fact s x.1 x.2 ++ iZ r (s+2) l
 | _,_,_=>[]
def rel (β' β:Nat→Rat):List (RE×Nat)→List (RE×Nat)→Prop
 | [],[]=>True
 | x :: l,y :: m=>(x.1.ev β' = y.1.ev β∧y.2≤x.2)∧rel β' β l m
 | _,_=>False
theorem MN {β' β:Nat→Rat}:∀ {a b:List (RE×Nat)} {l:List (RE×Nat)},rel β' β l (a ++ b)→rel β' β (l.take a.length) a∧rel β' β (l.drop a.length) b
 | [],b,l,h=>by simpa [rel] using h
 | x :: a,b,[],h=>by simp [rel] at h
 | x :: a,b,y :: l,h=>by
  obtain ⟨h1,h2⟩:(y.1.ev β' = x.1.ev β∧x.2≤y.2)∧rel β' β l (a ++ b):=h
  obtain ⟨h3,h4⟩:=MN h2
  exact ⟨⟨h1,h3⟩,h4⟩
theorem FK:∀ {t:List At} {cs:List Cell} {xs:List (RE×Nat)},iP db t cs=some xs→xs.length=t.length
 | [],[],xs,h=>by simp [iP] at h;subst h;rfl
 | [],_ :: _,xs,h=>by simp [iP] at h
 | a :: r,cs,xs,h=>by
  simp only [iP] at h
  split at h
  ·rename_i x l h1 h2
   cases h
   simp [FK h2]
  ·cases h
theorem E5 (hf:∀ f∈db,(SQ β).on ρ f W):∀ {t:List At} {cs:List Cell} {xs:List (RE×Nat)},iP db t cs=some xs→∃ L:List Nv,L.length=2*t.length∧∀ (ρ':Env) s,(∀ i,i<2*t.length→ρ' (s+i)=L[i]?.getD default) →
  (nS t s).map (Cell.den ρ')=cs.map (Cell.den ρ)∧∀ (β':Nat→Rat) xs',rel β' β xs' xs→∀ f∈iZ t s xs',(SQ β').on ρ' f W
 | [],[],xs,h=>⟨[],rfl,fun ρ' s _=>⟨rfl,fun β' xs' _ f hm=>by simp [iZ] at hm⟩⟩
 | [],_ :: _,xs,h=>by simp [iP] at h
 | a :: r,cs,xs,h=>by
  simp only [iP] at h
  split at h
  ·rename_i x l h1 h2
   cases h
   obtain ⟨c,d,h3⟩:=At.name (e:=x.1) (k:=x.2) h1 hf
   obtain ⟨L,h4,h5⟩:=E5 hf h2
   refine ⟨c :: d :: L,by simp [h4];omega,fun ρ' s hρ=>?_⟩
   have c0:=hρ 0 (by simp <;> omega)
   have d0:=hρ 1 (by simp <;> omega)
   obtain ⟨g1,g2⟩:=h3 ρ' s (by simpa using c0) (by simpa using d0)
   obtain ⟨g3,g4⟩:=h5 ρ' (s+2) (fun i hi=>by
    have:=hρ (2+i) (by simp <;> omega)
    rw [← Nat.add_assoc,show 2+i=i+1+1 by omega] at this
    simpa using this)
   refine ⟨?_,fun β' xs' hr f hm=>?_⟩
   ·simp only [nS,List.map_append,g1,g3]
    rw [← List.map_append,List.take_append_drop]
   ·cases xs' with
    | nil=>simp [rel] at hr
    | cons y l' =>
     obtain ⟨⟨r1,r2⟩,r3⟩:=hr
     simp only [iZ,List.mem_append] at hm
     rcases hm with hm | hm
     ·exact g2 β' _ _ r1 r2 f hm
     ·exact g4 β' l' r3 f hm
  ·cases h
def kL (db:List Fc):List (List At)→List SV→Option (List (RE×Nat))
 | [],[]=>some []
 | t :: r,.e (.a cs) :: l=>match iP db t cs,kL db r l with
  | some x,some y=>some (x ++ y)
  | _,_=>none
 | _,_=>none
def xI:List (List At)→Nat→List SV
 | [],_=>[]
 | t :: r,s=>.e (.a (nS t s)) :: xI r (s+2*t.length)
theorem JD:∀ {t r:List At} {s:Nat} {xs:List (RE×Nat)} {f:Fc},f∈iZ (t ++ r) s xs→f∈iZ t s (xs.take t.length)∨f∈iZ r (s+2*t.length) (xs.drop t.length)
 | [],r,s,xs,f,h=>.inr (by simpa using h)
 | a :: t,r,s,[],f,h=>by simp [iZ] at h
 | a :: t,r,s,x :: xs,f,h=>by
  simp only [List.cons_append,iZ,List.mem_append] at h
  simp only [List.length_cons,List.take_succ_cons,List.drop_succ_cons,iZ,List.mem_append]
  rcases h with h | h
  ·exact .inl (.inl h)
  ·rcases JD h with h | h
   ·exact .inl (.inr h)
   ·exact .inr (by rwa [show s+2*(t.length+1)=s+2+2*t.length by omega])
theorem LQ:∀ {ts:List (List At)} {args:List SV} {xs:List (RE×Nat)},kL db ts args=some xs→xs.length=ts.flatten.length
 | [],[],xs,h=>by simp [kL] at h;subst h;rfl
 | [],_ :: _,xs,h=>by simp [kL] at h
 | t :: r,[],xs,h=>by simp [kL] at h
 | t :: r,x :: l,xs,h=>by
  unfold kL at h
  split at h
  ·rename_i heq _;cases heq
  ·rename_i heq1 heq2
   cases heq1;cases heq2
   split at h
   ·rename_i x y g1 g2
    cases h
    simp [FK g1,LQ g2]
   ·cases h
  ·cases h
theorem Lj (hf:∀ f∈db,(SQ β).on ρ f W):∀ {ts:List (List At)} {args:List SV} {xs:List (RE×Nat)},kL db ts args=some xs→∃ L:List Nv,L.length=2*ts.flatten.length∧∀ (ρ':Env) s,(∀ i,i<2*ts.flatten.length→ρ' (s+i)=L[i]?.getD default) →
  (xI ts s).map (SV.den ρ')=args.map (SV.den ρ)∧∀ (β':Nat→Rat) xs',rel β' β xs' xs→∀ f∈iZ ts.flatten s xs',(SQ β').on ρ' f W
 | [],[],xs,h=>⟨[],rfl,fun ρ' s _=>⟨rfl,fun β' xs' _ f hm=>by simp [iZ] at hm⟩⟩
 | [],_ :: _,xs,h=>by simp [kL] at h
 | t :: r,[],xs,h=>by simp [kL] at h
 | t :: r,x :: l,xs,h=>by
  unfold kL at h
  split at h
  ·rename_i heq _;cases heq
  ·rename_i _ _ cs _ heq1 heq2
   cases heq1;cases heq2
   split at h
   ·rename_i x y h1 h2
    cases h
    obtain ⟨L,h3,h4⟩:=E5 hf h1
    obtain ⟨L',h5,h6⟩:=Lj hf h2
    refine ⟨L ++ L',by simp [h3,h5,Nat.mul_add],fun ρ' s hρ=>?_⟩
    obtain ⟨g1,g2⟩:=h4 ρ' s (fun i hi=>by
     have:=hρ i (by simp <;> omega)
     rwa [List.getElem?_append_left (by omega)] at this)
    obtain ⟨g3,g4⟩:=h6 ρ' (s+2*t.length) (fun i hi=>by
     have:=hρ (2*t.length+i) (by simp;simp at hi;omega)
     rw [List.getElem?_append_right (by omega),h3,Nat.add_sub_cancel_left,← Nat.add_assoc] at this
     exact this)
    refine ⟨?_,fun β' xs' hr f hm=>?_⟩
    ·simp only [xI,List.map_cons,g3]
     congr 1
     simp only [SV.den,El.den,g1]
    ·obtain ⟨r1,r2⟩:=MN hr
     rw [FK h1] at r1 r2
     rcases JD (t:=t) (r:=r.flatten) (by simpa using hm) with hm | hm
     ·exact g2 β' _ r1 f hm
     ·exact g4 β' _ r2 f hm
   ·cases h
  ·cases h
end
def RE.sub' (es:List RE):RE→RE
 | .v n=>es.getD n (.c 0)
 | .c n=>.c n
 | .add a b=>.add (a.sub' es) (b.sub' es)
 | .sub a b=>.sub (a.sub' es) (b.sub' es)
 | .mul a b=>.mul (a.sub' es) (b.sub' es)
 | .div a b=>.div (a.sub' es) (b.sub' es)
 | .neg a=>.neg (a.sub' es)
 | .abs a=>.abs (a.sub' es)
 | .flo a=>.flo (a.sub' es)
 | .num a=>.num (a.sub' es)
 | .den a=>.den (a.sub' es)
 | .rt a=>.rt (a.sub' es)
def put (β:Nat→Rat) (es:List RE):Nat→Rat:=fun n=>(es.getD n (.c 0)).ev β
theorem mG {β:Nat→Rat} {es:List RE} (e:RE):(e.sub' es).ev β=e.ev (put β es):=by
 induction e with
 | v n=>rfl
 | c n=>rfl
 | add a b ih1 ih2=>show (a.sub' es).ev β+(b.sub' es).ev β=_;rw [ih1,ih2];rfl
 | sub a b ih1 ih2=>show (a.sub' es).ev β - (b.sub' es).ev β=_;rw [ih1,ih2];rfl
 | mul a b ih1 ih2=>show (a.sub' es).ev β*(b.sub' es).ev β=_;rw [ih1,ih2];rfl
 | div a b ih1 ih2=>show (a.sub' es).ev β / (b.sub' es).ev β=_;rw [ih1,ih2];rfl
 | neg a ih=>show -(a.sub' es).ev β=_;rw [ih];rfl
 | abs a ih=>show (if ((a.sub' es).ev β).num<0 then -(a.sub' es).ev β else (a.sub' es).ev β)=_;rw [ih];rfl
 | flo a ih=>show ((((a.sub' es).ev β).num / (((a.sub' es).ev β).den:Int):Int):Rat)=_;rw [ih];rfl
 | num a ih=>show (((a.sub' es).ev β).num:Rat)=_;rw [ih];rfl
 | den a ih=>show (((((a.sub' es).ev β).den:Nat):Int):Rat)=_;rw [ih];rfl
 | rt a ih=>show (((isq ((a.sub' es).ev β).num.natAbs:Nat):Int):Rat)=_;rw [ih];rfl
def RE.plain:RE→RE
 | .sub a b=>.add a.plain (.neg b.plain)
 | .add a b=>.add a.plain b.plain
 | .mul a b=>.mul a.plain b.plain
 | .div a b=>.div a.plain b.plain
 | .neg a=>.neg a.plain
 | e=>e
theorem LV {β:Nat→Rat} (e:RE):e.plain.ev β=e.ev β:=by
 induction e with
 | add a b ih1 ih2=>show a.plain.ev β+b.plain.ev β=_;rw [ih1,ih2];rfl
 | sub a b ih1 ih2=>show a.plain.ev β + -b.plain.ev β=a.ev β - b.ev β;rw [ih1,ih2,Rat.sub_eq_add_neg]
 | mul a b ih1 ih2=>show a.plain.ev β*b.plain.ev β=_;rw [ih1,ih2];rfl
 | div a b ih1 ih2=>show a.plain.ev β / b.plain.ev β=_;rw [ih1,ih2];rfl
 | neg a ih=>show -a.plain.ev β=_;rw [ih];rfl
 | _=>rfl
def alike (k:Nat):List RE→List (RE×Nat)→Bool
 | [],[]=>true
 | o :: l,y :: m=>(o.plain.beq y.1.plain && decide (y.2≤k)) && alike k l m
 | _,_=>false
theorem Ij {β:Nat→Rat} {es:List RE} {k:Nat}:∀ {os:List RE} {ys:List (RE×Nat)},alike k os ys=true→rel β (put β es) (os.map fun o=>(o.sub' es,k)) ys
 | [],[],_=>trivial
 | [],_ :: _,h=>by simp [alike] at h
 | _ :: _,[],h=>by simp [alike] at h
 | o :: os,y :: ys,h=>by
  simp only [alike,Bool.and_eq_true,decide_eq_true_eq] at h
  refine ⟨⟨?_,h.1.2⟩,Ij h.2⟩
  rw [mG,← LV o,RE.beq_eq h.1.1,LV]
inductive Kc
 | i (n:Int)
 | z
def Kc.el:Kc→El
 | .i n=>.s (.it .i64 n)
 | .z=>.s .nils
def Kc.is:Kc→El→Bool
 | .i n,.s (.it .i64 m)=>decide (n=m)
 | .z,.s .nils=>true
 | _,_=>false
theorem Kc.is_eq {a:Kc} {x:El} (h:a.is x=true):x=a.el:=by
 unfold Kc.is at h
 split at h
 ·rw [of_decide_eq_true h];rfl
 ·rfl
 ·cases h
def kcs:List Kc→List El→Bool
 | [],[]=>true
 | a :: l,x :: r=>a.is x && kcs l r
 | _,_=>false
theorem zq:∀ {l:List Kc} {r:List El},kcs l r=true→r=l.map Kc.el
 | [],[],_=>rfl
 | a :: l,x :: r,h=>by
  simp only [kcs,Bool.and_eq_true] at h
  rw [Kc.is_eq h.1,zq h.2];rfl
 | [],_ :: _,h=>by simp [kcs] at h
 | _ :: _,[],h=>by simp [kcs] at h
def Fv (l:List Kc):Option (SV×List Fc)→Bool
 | some (.e x,_)=>kcs l [x]
 | some (.t r,_)=>decide (2≤l.length) && kcs l r
 | _=>false
theorem Xl {l:List Kc} {o:Option (SV×List Fc)} (h:Fv l o=true):∃ fs,o=some (jQ (l.map Kc.el),fs):=by
 unfold Fv at h
 split at h
 ·rename_i x fs
  rw [← zq h];exact ⟨fs,rfl⟩
 ·rename_i r fs
  simp only [Bool.and_eq_true,decide_eq_true_eq] at h
  rw [← zq h.2]
  have hl:=congrArg List.length (zq h.2)
  rw [List.length_map] at hl
  match r,hl with
  | [],hl=>simp at hl;omega
  | [_],hl=>simp at hl;omega
  | _ :: _ :: _,_=>exact ⟨fs,rfl⟩
 ·cases h
theorem Vr (l:List Kc) (ρ ρ':Env):(jQ (l.map Kc.el)).den ρ=(jQ (l.map Kc.el)).den ρ':=by
 have h:∀ l:List Kc,(l.map Kc.el).map (El.den ρ)=(l.map Kc.el).map (El.den ρ'):=fun l=>by
  rw [List.map_map,List.map_map]
  exact List.map_congr_left fun a _=>by cases a <;> rfl
 match l with
 | []=>rfl
 | [a]=>cases a <;> rfl
 | a :: b :: r =>
  show SV.den ρ (.t ((a :: b :: r).map Kc.el))=SV.den ρ' (.t ((a :: b :: r).map Kc.el))
  simp only [SV.den]
  rw [h]
inductive Rs
 | at (t:List At) (os:List RE)
 | atb (t:List At) (os:List RE) (x:Bool)
 | bl (x:Bool)
 | ati (t:List At) (os:List RE) (n:Int)
 | ks (l:List Kc)
def Rs.sv (b:Nat):Rs→SV
 | .at t _=>.e (.a (nS t b))
 | .atb t _ x=>.t [.a (nS t b),.s (.bl x)]
 | .bl x=>.e (.s (.bl x))
 | .ati t _ n=>.t [.a (nS t b),.s (.it .i64 n)]
 | .ks l=>jQ (l.map Kc.el)
def Rs.fs (ko b:Nat) (es:List RE):Rs→List Fc
 | .at t os | .atb t os _ | .ati t os _=>iZ t b (os.map fun o=>(o.sub' es,ko))
 | .bl _ | .ks _=>[]
def Rs.small:Rs→Bool
 | .at t _ | .atb t _ _ | .ati t _ _=>decide (2*t.length≤M)
 | .bl _ | .ks _=>true
def outA (ko:Nat) (t:List At) (os:List RE):Option (SV×List Fc)→Bool
 | some (.e (.a cs),fs)=>match iP fs t cs with
  | some ys=>alike ko os ys
  | none=>false
 | _=>false
def Fp (ko:Nat) (t:List At) (os:List RE) (x:Bool):Option (SV×List Fc)→Bool
 | some (.t [.a cs,.s (.bl y)],fs)=>match iP fs t cs with
  | some ys=>x == y && alike ko os ys
  | none=>false
 | _=>false
def Fq (ko:Nat) (t:List At) (os:List RE) (n:Int):Option (SV×List Fc)→Bool
 | some (.t [.a cs,.s (.it .i64 m)],fs)=>match iP fs t cs with
  | some ys=>decide (m=n) && alike ko os ys
  | none=>false
 | _=>false
theorem Xk {ko:Nat} {t:List At} {os:List RE} {n:Int} {o:Option (SV×List Fc)} (h:Fq ko t os n o=true):∃ cs fs ys,o=some (.t [.a cs,.s (.it .i64 n)],fs)∧iP fs t cs=some ys∧alike ko os ys=true:=by
 unfold Fq at h
 split at h
 ·split at h
  ·rename_i cs m fs _ ys hp
   simp only [Bool.and_eq_true,decide_eq_true_eq] at h
   exact ⟨cs,fs,ys,by rw [h.1],hp,h.2⟩
  ·cases h
 ·cases h
def U5 (ko:Nat):Rs→Option (SV×List Fc)→Bool
 | .at t os,o=>outA ko t os o
 | .atb t os x,o=>Fp ko t os x o
 | .bl x,o=>isB x o
 | .ati t os n,o=>Fq ko t os n o
 | .ks l,o=>Fv l o
theorem Xi {ko:Nat} {t:List At} {os:List RE} {o:Option (SV×List Fc)} (h:outA ko t os o=true):∃ cs fs ys,o=some (.e (.a cs),fs)∧iP fs t cs=some ys∧alike ko os ys=true:=by
 unfold outA at h
 split at h
 ·split at h
  ·rename_i cs fs _ ys hp;exact ⟨cs,fs,ys,rfl,hp,h⟩
  ·cases h
 ·cases h
theorem Xj {ko:Nat} {t:List At} {os:List RE} {x:Bool} {o:Option (SV×List Fc)} (h:Fp ko t os x o=true):∃ cs fs ys,o=some (.t [.a cs,.s (.bl x)],fs)∧iP fs t cs=some ys∧alike ko os ys=true:=by
 unfold Fp at h
 split at h
 ·split at h
  ·rename_i cs y fs _ ys hp
   simp only [Bool.and_eq_true,beq_iff_eq] at h
   exact ⟨cs,fs,ys,by rw [h.1],hp,h.2⟩
  ·cases h
 ·cases h
def hintB (h H0:Hint) (es:List RE):Bool:=
 H0.eq.all (fun p=>eqB h (p.1.sub' es) (p.2.sub' es)) && H0.ne.all (fun p=>h.ne.any fun x=>x.1.beq (p.1.sub' es) && x.2.beq (p.2.sub' es)) && H0.nz.all (fun p=>nzB h (p.sub' es)) && H0.sg.all (fun p=>sgB h (p.1.sub' es) == some p.2) && H0.cm.all (fun p=>cmB h (p.1.sub' es) (p.2.1.sub' es) == some p.2.2)
theorem UD {β:Nat→Rat} {h H0:Hint} {es:List RE} (hh:hintB h H0 es=true) (ok:h.Ok β):H0.Ok (put β es):=by
 unfold hintB at hh
 simp only [Bool.and_eq_true,List.all_eq_true] at hh
 obtain ⟨⟨⟨⟨h1,h2⟩,h3⟩,h4⟩,h5⟩:=hh
 refine ⟨fun p hp=>?_,fun p hp=>?_,fun p hp=>?_,fun p hp=>?_,fun p hp=>?_⟩
 ·rw [← mG,← mG];exact kD ok (h1 p hp)
 ·obtain ⟨x,hx,h6⟩:=List.any_eq_true.1 (h2 p hp)
  simp only [Bool.and_eq_true] at h6
  rw [← mG,← mG,← RE.beq_eq h6.1,← RE.beq_eq h6.2]
  exact ok.2.1 x hx
 ·rw [← mG];exact jd ok (h3 p hp)
 ·rw [← mG];exact Gn ok (by simpa using h4 p hp)
 ·rw [← mG,← mG];exact lZ ok (by simpa using h5 p hp)
def vars (k:Nat):Nat→Nat→List (RE×Nat)
 | _,0=>[]
 | i,n+1=>(.v i,k) :: vars k (i+1) n
theorem Oq {β:Nat→Rat} {es:List RE} {k:Nat}:∀ {xs:List (RE×Nat)} {i:Nat},(∀ j x,xs[j]? = some x→(es.getD (i+j) (.c 0))=x.1∧x.2≤k)→rel (put β es) β (vars k i xs.length) xs
 | [],i,_=>trivial
 | x :: xs,i,h=>by
  have h0:=h 0 x rfl
  refine ⟨⟨?_,h0.2⟩,Oq fun j y hy=>?_⟩
  ·show (es.getD i (.c 0)).ev β=_
   rw [← h0.1];rfl
  ·have:=h (j+1) y (by simpa using hy)
   rwa [show i+1+j=i+(j+1) by omega]
def vO (β:Nat→Rat) (h:Hint) (f:FuncId) (ins:List (List At)) (kin:Nat) (H0:Hint) (out:Rs) (ko:Nat):Con (SQ β) where
 fn:=f
 app:=fun db b args=>match kL db ins args with
  | some xs=>if xs.all (fun x=>decide (x.2≤kin)) && hintB h H0 (xs.map (·.1)) then some (out.sv b,out.fs ko b (xs.map (·.1))) else none
  | none=>none
theorem BM {ko:Nat} {β γ:Nat→Rat} {es:List RE} {ρ ρ':Env} {W':World} {fs':List Fc} {t:List At} {cs:List Cell} {ys:List (RE×Nat)} {os:List RE} {b:Nat} (hg:γ=put β es) (hp:iP fs' t cs=some ys) (ha:alike ko os ys=true) (hs:2*t.length≤M) (hfs:∀ g∈fs',(SQ γ).on ρ' g W') :
  ∃ ρ'':Env,(∀ n,n<b∨b+M≤n→ρ'' n=ρ n)∧(nS t b).map (Cell.den ρ'')=cs.map (Cell.den ρ')∧∀ g∈iZ t b (os.map fun o=>(o.sub' es,ko)),(SQ β).on ρ'' g W':=by
 subst hg
 obtain ⟨L,hL,hn⟩:=E5 hfs hp
 obtain ⟨h1,h2⟩:=hn (aH ρ b L) b (fun i hi=>by
  unfold aH
  rw [if_pos (by omega),Nat.add_sub_cancel_left,List.getElem?_eq_getElem (by omega)];rfl)
 exact ⟨aH ρ b L,gI (by omega),h1,h2 β _ (Ij ha)⟩
theorem C9 {β:Nat→Rat} {h:Hint} {f:FuncId} {ins:List (List At)} {kin:Nat} {H0:Hint} {out:Rs} {ko:Nat} (ok:h.Ok β) (hs:out.small=true)
  (run:∀ γ:Nat→Rat,H0.Ok γ→∃ (H1:Hint) (ok1:H1.Ok γ) (fuel:Nat) (cons:List (Con (SQ γ))),(∀ c∈cons,c.Ok Tryz.prog (SQ γ) EV)∧U5 ko out (bg Tryz.prog (SQ γ) (HQ γ H1 ok1) cons fuel f (xI ins 0) (iZ ins.flatten 0 (vars kin 0 ins.flatten.length)) (2*ins.flatten.length))=true) :
  (vO β h f ins kin H0 out ko).Ok Tryz.prog (SQ β) EV:=by
 refine Con.ok0 rfl ?_
 intro db b args res new ha ρ W hf hE
 simp only [vO] at ha
 split at ha
 ·rename_i xs hx
  split at ha
  ·rename_i hh
   simp only [Bool.and_eq_true,List.all_eq_true,decide_eq_true_eq] at hh
   cases ha
   obtain ⟨es,hes⟩:∃ es,xs.map (·.1)=es:=⟨_,rfl⟩
   rw [hes] at hh ⊢
   obtain ⟨H1,ok1,fuel,cons,hc,hr⟩:=run (put β es) (UD hh.2 ok)
   obtain ⟨L,hL,hn⟩:=Lj hf hx
   obtain ⟨h1,h2⟩:=hn (fun i=>L[i]?.getD default) 0 (fun i hi=>by simp)
   have hlen:=LQ hx
   have hfacts:=h2 (put β es) (vars kin 0 ins.flatten.length) (by
    rw [← hlen]
    refine Oq fun j x hj=>⟨?_,hh.1 x (List.mem_of_getElem? hj)⟩
    rw [← hes,Nat.zero_add,List.getD_eq_getElem?_getD,List.getElem?_map,hj];rfl)
   rw [← h1]
   cases out with
   | «at» t os =>
    have hs':2*t.length≤M:=by simpa [Rs.small] using hs
    obtain ⟨cs,fs',ys,hrun,hp,hr⟩:=Xi hr
    refine (iw mixed hc hrun (aY hE) hfacts).mono fun x W' ⟨ρ',_,hx',hb,hfs⟩=>?_
    obtain ⟨ρ'',a1,a2,a3⟩:=BM (ρ:=ρ) (b:=b) rfl hp hr hs' hfs
    exact ⟨ρ'',a1,by rw [hx'];simp only [Rs.sv,SV.den,El.den,a2],hb,a3⟩
   | atb t os y =>
    have hs':2*t.length≤M:=by simpa [Rs.small] using hs
    obtain ⟨cs,fs',ys,hrun,hp,hr⟩:=Xj hr
    refine (iw mixed hc hrun (aY hE) hfacts).mono fun x W' ⟨ρ',_,hx',hb,hfs⟩=>?_
    obtain ⟨ρ'',a1,a2,a3⟩:=BM (ρ:=ρ) (b:=b) rfl hp hr hs' hfs
    exact ⟨ρ'',a1,by rw [hx'];simp only [Rs.sv,SV.den,El.den,List.map_cons,List.map_nil,a2];rfl,hb,a3⟩
   | bl y =>
    obtain ⟨fs',hrun⟩:=zh hr
    refine (iw mixed hc hrun (aY hE) hfacts).mono fun x W' ⟨ρ',_,hx',hb,hfs⟩=>⟨ρ,fun _ _=>rfl,?_,hb,fun g hg=>by cases hg⟩
    rw [hx'];rfl
   | ati t os y =>
    have hs':2*t.length≤M:=by simpa [Rs.small] using hs
    obtain ⟨cs,fs',ys,hrun,hp,hr⟩:=Xk hr
    refine (iw mixed hc hrun (aY hE) hfacts).mono fun x W' ⟨ρ',_,hx',hb,hfs⟩=>?_
    obtain ⟨ρ'',a1,a2,a3⟩:=BM (ρ:=ρ) (b:=b) rfl hp hr hs' hfs
    exact ⟨ρ'',a1,by rw [hx'];simp only [Rs.sv,SV.den,El.den,List.map_cons,List.map_nil,a2];rfl,hb,a3⟩
   | ks l =>
    obtain ⟨fs',hrun⟩:=Xl hr
    exact (iw mixed hc hrun (aY hE) hfacts).mono fun x W' ⟨ρ',_,hx',hb,hfs⟩=>⟨ρ,fun _ _=>rfl,by rw [hx'];exact congrArg _ (Vr l _ _),hb,fun g hg=>by cases hg⟩
  ·cases ha
 ·cases ha
end Rx
namespace Z4
open Go.RowKit Go.Sort Go.Lib
theorem RS (w:World):Calls Tryz.prog 40 #[.agg #[.bool false,.slice none 0 0,.bool false,.slice none 0 0]] w (iO w 1):=by
 have HN:=hid (fun (W:World)=>rV 1 (by decide) (by decide) W)
 go_enter Tryz.func40,Tryz.ntmps40
 go_wp2_with fail
 have hS0:=hid (((St.start w).alloc' (w.heap.size) (by simp) 37 [.bool false,.slice none 0 0,.bool false,.slice none 0 0]).alloc' (w.heap.size+1) (by simp) 35 [.bool false,.slice none 0 0])
 obtain ⟨W0,hW0⟩:=cu hS0
 rw [hW0] at hS0 ⊢
 clear hW0
 refine (HN.out _).mono ?_
 rintro e w1 hret
 obtain ⟨v1,rfl,hz1,hB⟩:=hret.z
 clear hret
 obtain ⟨t1,p1,l1,k1,rfl⟩:=hz1.open
 have hS1:=hid (hS0.out.call hB)
 clear hB hS0
 have hS2:=hid (hS1.out.fact (.z (.agg #[.bool t1,.slice p1 l1 k1]) 1) hz1)
 clear hS1 hz1
 obtain ⟨⟨cR0,cR1⟩,fR0,fR1⟩:=hS2.out.f2 0 (w.heap.size+1) 35 (.bool false) (.slice none 0 0) rfl
 have hS3:=hid (((hS2.out).store (b:=⟨w.heap.size+1,35,[.bool false,.slice none 0 0]⟩) 0 0 (.bool t1) rfl rfl).store (b:=⟨w.heap.size+1,35,[.bool t1,.slice none 0 0]⟩) 0 1 (.slice p1 l1 k1) rfl rfl)
 go_wp2_with fail
 clear cR0 cR1 fR0 fR1
 obtain ⟨⟨zR0,zR1⟩,-⟩:=hS3.out.f2 0 (w.heap.size+1) 35 (.bool t1) (.slice p1 l1 k1) rfl
 exact bodyPost_ret (v:=.agg #[.bool t1,.slice p1 l1 k1]) (by simp [results,Tryz.results40,go_sem,zR0,zR1]) rfl ⟨_,rfl,hS3.out.get (f:=.z (.agg #[.bool t1,.slice p1 l1 k1]) 1) 0 rfl,hS3.out.bel⟩
theorem YF (w:World):Calls Tryz.prog 34 #[.agg #[.bool false,.slice none 0 0,.bool false,.slice none 0 0]] w (gW w [48]):=by
 have HN:=hid (fun (W:World)=>OL false none 0 W)
 have HM:=hid (fun (W:World) (v:Value) (a:IsZ W v 1)=>show Calls Tryz.prog 70 #[v] W (gW W [49]) by
  have h:=G6 _ v W a 1 (by decide) (by decide)
  rwa [show iL 1=[49] by unfold iL;rw [if_neg (by decide),decDigits];rfl] at h)
 have HD:=hid (fun (W:World)=>RS W)
 go_enter Tryz.func34,Tryz.ntmps34
 go_wp2_with fail
 have hS0:=hid ((St.start w).alloc' (w.heap.size) (by simp) 37 [.bool false,.slice none 0 0,.bool false,.slice none 0 0])
 obtain ⟨W0,hW0⟩:=cu hS0
 rw [hW0] at hS0 ⊢
 clear hW0
 obtain ⟨⟨cR0,cR1,cR2,cR3⟩,fR0,fR1,fR2,fR3⟩:=hS0.out.f4 0 w.heap.size 37 (.bool false) (.slice none 0 0) (.bool false) (.slice none 0 0) rfl
 go_wp2_with fail
 clear cR0 cR1 cR2 cR3 fR0 fR1 fR2 fR3
 refine (HN.out _).mono ?_
 rintro e w1 ⟨rfl,hB⟩
 have hS2:=hid (hS0.out.call hB)
 clear hS0 hB
 obtain ⟨⟨cR0,cR1,cR2,cR3⟩,fR0,fR1,fR2,fR3⟩:=hS2.out.f4 0 w.heap.size 37 (.bool false) (.slice none 0 0) (.bool false) (.slice none 0 0) rfl
 go_wp2_with fail
 clear cR0 cR1 cR2 cR3 fR0 fR1 fR2 fR3
 refine (HD.out _).mono ?_
 rintro e w2 ⟨v2,rfl,hz2,hB⟩
 have hS3:=hid (hS2.out.call hB)
 clear hS2 hB
 obtain ⟨t2,p2,l2,k2,rfl⟩:=hz2.open
 have hZ:=hid hz2
 clear hz2
 go_wp2_with fail
 refine (HM.out _ _ hZ.out).mono ?_
 rintro e w3 ⟨rfl,hB⟩
 have hS4:=hid (hS3.out.call hB)
 clear hS3 hB hZ
 go_wp2
 go_ret
 exact ⟨rfl,hS4.out.bel⟩
end Z4
namespace Rx
open Go.RowKit
section
variable (β:Nat→Rat) (h:Hint)
def yg (f:FuncId) (op:RE→RE) (side:RE→Bool):Con (SQ β) where
 fn:=f
 app:=fun db b args=>match args with
  | [.e (.a x)]=>match jZ db x with
   | some (e,k)=>if decide (k≤K2) && side e then some (.e (.a (dw b)),[.r b (op e) k]) else none
   | none=>none
  | _=>none
def vP (f:FuncId) (op:RE→RE→RE) (sz:Nat→Nat→Nat) (side:RE→RE→Bool):Con (SQ β) where
 fn:=f
 app:=fun db b args=>match args with
  | [.e (.a x),.e (.a y)]=>match jZ db x,jZ db y with
   | some (e,k),some (e',k')=>if decide (k≤K2) && decide (k'≤K2) && side e e' then some (.e (.a (dw b)),[.r b (op e e') (sz k k')]) else none
   | _,_=>none
  | _=>none
def Dz:Con (SQ β) where
 fn:=26
 app:=fun db _ args=>match args with
  | [.e (.a x),.e (.a y)]=>match jZ db x,jZ db y with
   | some (e,k),some (e',k')=>if decide (k≤K2) && decide (k'≤K2) then (match cmB h e e' with
     | some n=>some (.e (.s (.it .i64 n)),[])
     | none=>none) else none
   | _,_=>none
  | _=>none
def DI:Con (SQ β) where
 fn:=11
 app:=fun db _ args=>match args with
  | [.e (.a x)]=>match jZ db x with
   | some (e,k)=>if k≤K2 then (match sgB h e with
     | some n=>some (.e (.s (.it .i64 n)),[])
     | none=>none) else none
   | none=>none
  | _=>none
def DC:Con (SQ β) where
 fn:=14
 app:=fun _ b args=>match args with
  | [.e (.s (.it .i64 1))]=>some (.e (.a (dw b)),[.r b (.c 1) 1])
  | [.e (.s (.it .i64 2))]=>some (.e (.a (dw b)),[.r b (.c 2) 1])
  | _=>none
def DR:Con (SQ β) where
 fn:=33
 app:=fun db b args=>match args with
  | [.e (.a x)]=>match fF db x with
   | some (e,k)=>if k≤K0 then some (.e (.s (.ot b)),[.x b e]) else none
   | none=>none
  | _=>none
def DJ:Con (SQ β) where
 fn:=34
 app:=fun db b args=>match args with
  | [.e (.a x)]=>match jZ db x with
   | some (e,k)=>if k≤K0 then some (.e (.s (.ot b)),[.x b e]) else none
   | none=>match xM x with
    | some _=>some (.e (.s (.ot b)),[.x b (.c 0)])
    | none=>none
  | _=>none
def DZ:List (Con (SQ β)):=[vP β 16 .add (fun a b=>a+b+1) (fun _ _=>true),vP β 20 .mul (fun a b=>a+b) (fun _ _=>true),vP β 12 .div (fun a b=>a+b+1) (fun _ e=>nzB h e),
 yg β 22 .neg (fun _=>true),yg β 24 .abs (fun _=>true),Dz β h,DI β h,DC β,DR β,DJ β]
def c0:List (Con (SQ β)):=DZ β h ++ cq β h
end
section
variable {β:Nat→Rat} {h:Hint} {f:FuncId} {vals:Array Value} {W:World} {ρ:Env} {b:Nat}
theorem vI {e:RE} {k:Nat} (hc:Calls Tryz.prog f vals W (Z4.jB W (e.ev β))) (hk:Fits k (e.ev β)):Calls Tryz.prog f vals W (Ans β ρ b W (.e (.a (dw b))) [.r b e k]):=by
 refine hc.mono fun _ W' ⟨v,he,hv,hb⟩=>?_
 obtain ⟨c,d,rfl⟩:=rD hv
 have h1:(dw b).map (Cell.den (aH ρ b [c,d]))=[.bool c.b,.slice c.p c.l c.c,.bool false,.slice d.p d.l d.c]:=by simp [dw,Cell.den,aH]
 refine ⟨aH ρ b [c,d],gI (by simp [M]),?_,hb,fun g hg=>?_⟩
 ·rw [he];simp only [SV.den,El.den,h1]
 ·rw [List.mem_singleton] at hg
  subst hg
  exact ⟨by rw [h1];exact hv,hk⟩
theorem BN {e:RE} {l:List UInt8} (hc:Calls Tryz.prog f vals W (gW W l)) (hl:l=iR (e.ev β)):Calls Tryz.prog f vals W (Ans β ρ b W (.e (.s (.ot b))) [.x b e]):=by
 refine hc.mono fun _ W' ⟨he,hb⟩=>?_
 refine ⟨aH ρ b [⟨false,0,none,0,0,⟨l.toArray⟩,0,default⟩],gI (by simp [M]),?_,hb,fun g hg=>?_⟩
 ·rw [he];simp [SV.den,El.den,Cell.den,aH]
 ·rw [List.mem_singleton] at hg
  subst hg
  show (aH ρ b _ b).t=_
  rw [← hl]
  simp [aH]
theorem I4 {op:RE→RE} {side:RE→Bool} (hc:∀ e v W,side e=true→Z4.IsR W v (e.ev β)→Fits K2 (e.ev β)→EV W→Calls Tryz.prog f #[v] W (Z4.jB W ((op e).ev β))) (hs:∀ e k,Fits k (e.ev β)→Fits k ((op e).ev β)):(yg β f op side).Ok Tryz.prog (SQ β) EV:=by
 refine Con.ok0 rfl ?_
 intro db b args res new ha ρ W hf hE
 simp only [yg] at ha
 split at ha
 ·split at ha
  ·rename_i e k hx
   split at ha
   ·rename_i hk
    simp only [Bool.and_eq_true,decide_eq_true_eq] at hk
    cases ha
    obtain ⟨h1,h2⟩:=lX hx hf
    exact vI (hc e _ W hk.2 h1 (h2.mono hk.1) hE) (hs e k h2)
   ·cases ha
  ·cases ha
 ·cases ha
theorem Dy {op:RE→RE→RE} {sz:Nat→Nat→Nat} {side:RE→RE→Bool} (hc:∀ e e' v v' W,side e e' = true→Z4.IsR W v (e.ev β)→Z4.IsR W v' (e'.ev β)→Fits K2 (e.ev β)→Fits K2 (e'.ev β)→EV W→Calls Tryz.prog f #[v,v'] W (Z4.jB W ((op e e').ev β)))
  (hs:∀ e e' k k',Fits k (e.ev β)→Fits k' (e'.ev β)→Fits (sz k k') ((op e e').ev β)):(vP β f op sz side).Ok Tryz.prog (SQ β) EV:=by
 refine Con.ok0 rfl ?_
 intro db b args res new ha ρ W hf hE
 simp only [vP] at ha
 split at ha
 ·split at ha
  ·rename_i e k e' k' hx hy
   split at ha
   ·rename_i hk
    simp only [Bool.and_eq_true,decide_eq_true_eq] at hk
    cases ha
    obtain ⟨h1,h2⟩:=lX hx hf
    obtain ⟨h3,h4⟩:=lX hy hf
    exact vI (hc e e' _ _ W hk.2 h1 h3 (h2.mono hk.1.1) (h4.mono hk.1.2) hE) (hs e e' k k' h2 h4)
   ·cases ha
  ·cases ha
 ·cases ha
theorem QZ (ok:h.Ok β):(Dz β h).Ok Tryz.prog (SQ β) EV:=by
 refine Con.ok0 rfl ?_
 intro db b args res new ha ρ W hf hE
 simp only [Dz] at ha
 split at ha
 ·split at ha
  ·rename_i e k e' k' hx hy
   split at ha
   ·rename_i hk
    simp only [Bool.and_eq_true,decide_eq_true_eq] at hk
    split at ha
    ·rename_i n hn
     cases ha
     obtain ⟨h1,h2⟩:=lX hx hf
     obtain ⟨h3,h4⟩:=lX hy hf
     have hc:=X8 h1 h3 (h2.mono hk.1) (h4.mono hk.2) hE
     rw [lZ ok hn] at hc
     exact lW hc rfl
    ·cases ha
   ·cases ha
  ·cases ha
 ·cases ha
theorem Q8 (ok:h.Ok β):(DI β h).Ok Tryz.prog (SQ β) EV:=by
 refine Con.ok0 rfl ?_
 intro db b args res new ha ρ W hf hE
 simp only [DI] at ha
 split at ha
 ·split at ha
  ·rename_i e k hx
   split at ha
   ·rename_i hk
    split at ha
    ·rename_i n hn
     cases ha
     obtain ⟨h1,h2⟩:=lX hx hf
     have hc:=YC h1 (h2.mono hk) hE
     rw [Gn ok hn] at hc
     exact lW hc rfl
    ·cases ha
   ·cases ha
  ·cases ha
 ·cases ha
theorem Q5:(DC β).Ok Tryz.prog (SQ β) EV:=by
 refine Con.ok0 rfl ?_
 intro db b args res new ha ρ W hf hE
 simp only [DC] at ha
 split at ha
 ·cases ha
  exact vI (e:=.c 1) (Ym hE) (fits_int (n:=1) (by decide) (by decide))
 ·cases ha
  exact vI (e:=.c 2) (Yn hE) (fits_int (n:=2) (by decide) (by decide))
 ·cases ha
theorem Rj:(DR β).Ok Tryz.prog (SQ β) EV:=by
 refine Con.ok0 rfl ?_
 intro db b args res new ha ρ W hf hE
 simp only [DR] at ha
 split at ha
 ·split at ha
  ·rename_i e k hx
   split at ha
   ·rename_i hk
    cases ha
    obtain ⟨⟨h1,h2⟩,-⟩:=iC hx hf
    exact BN (H8 _ _ k W h1 hk h2 hE.ten) rfl
   ·cases ha
  ·cases ha
 ·cases ha
theorem text0:iR 0=[48]:=by
 unfold iR
 rw [if_neg (by decide),if_pos (by decide),show (0:Rat).num.natAbs=0 from rfl,Lib.decDigits];rfl
theorem Q9:(DJ β).Ok Tryz.prog (SQ β) EV:=by
 refine Con.ok0 rfl ?_
 intro db b args res new ha ρ W hf hE
 simp only [DJ] at ha
 split at ha
 ·split at ha
  ·rename_i e k hx
   split at ha
   ·rename_i hk
    cases ha
    obtain ⟨h1,h2⟩:=lX hx hf
    exact BN (Z4.YD _ _ W h1 k hk h2) rfl
   ·cases ha
  ·split at ha
   ·rename_i hz
    cases ha
    unfold xM at hz
    split at hz
    ·exact BN (e:=.c 0) (Z4.YF W) text0.symm
    ·cases hz
   ·cases ha
 ·cases ha
theorem Rw (ok:h.Ok β):∀ c∈DZ β h,c.Ok Tryz.prog (SQ β) EV:=by
 unfold DZ
 simp only [List.forall_mem_cons,List.not_mem_nil,false_imp_iff,implies_true,and_true]
 exact ⟨Dy (fun _ _ _ _ _ _ h1 h2 f1 f2 hE=>X4 h1 h2 f1 f2 hE) (fun _ _ _ _ h1 h2=>h1.plus h2),
  Dy (fun _ _ _ _ _ _ h1 h2 f1 f2 hE=>Yo h1 h2 f1 f2 hE) (fun _ _ _ _ h1 h2=>h1.mul h2),
  Dy (fun _ _ _ _ _ hn h1 h2 f1 f2 hE=>Yd h1 h2 f1 f2 (jd ok hn) hE) (fun _ _ _ _ h1 h2=>h1.over h2),
  I4 (fun _ _ _ _ h1 f1 hE=>Yp h1 f1 hE) (fun _ _ h1=>h1.neg),I4 (fun _ _ _ _ h1 f1 hE=>X3 h1 f1 hE) (fun _ _ h1=>JI h1),
  QZ ok,Q8 ok,Q5,Rj,Q9⟩
theorem xQ (ok:h.Ok β):∀ c∈c0 β h,c.Ok Tryz.prog (SQ β) EV:=fun c hc=>by
 rcases List.mem_append.1 hc with hc | hc
 ·exact Rw ok c hc
 ·exact DY ok c hc
end
end Rx
namespace Rx
open Go.RowKit
abbrev K3:Nat:=1024
abbrev y0:RE:=.v 0
abbrev y1:RE:=.v 1
abbrev y2:RE:=.v 2
abbrev y3:RE:=.v 3
abbrev R2:List At:=[.r,.r]
def JU (β:Nat→Rat) (h:Hint):Con (SQ β):=vO β h 18 [[.r],[.r]] 16384 {} (.at [.r] [.sub y0 y1]) 32769
theorem Uo {β:Nat→Rat} {h:Hint} (ok:h.Ok β):(JU β h).Ok Tryz.prog (SQ β) EV:=C9 ok (by decide) fun γ g=>⟨{},bP γ,1,c0 γ {},xQ (bP γ),by kernel_rfl⟩
def JV (β:Nat→Rat) (h:Hint):Con (SQ β):=vO β h 8 [[.q],[.r]] K1 { eq:=[(y0,y1)] } (.bl true) K1
theorem Us {β:Nat→Rat} {h:Hint} (ok:h.Ok β):(JV β h).Ok Tryz.prog (SQ β) EV:=C9 ok (by decide) fun γ g=>⟨{ eq:=[(y0,y1)] },g,1,c0 γ { eq:=[(y0,y1)] },xQ g,by kernel_rfl⟩
def JW (β:Nat→Rat) (h:Hint):Con (SQ β):=vO β h 8 [[.q],[.o]] K1 { eq:=[(y0,.c 0)] } (.bl true) K1
theorem Ur {β:Nat→Rat} {h:Hint} (ok:h.Ok β):(JW β h).Ok Tryz.prog (SQ β) EV:=C9 ok (by decide) fun γ g=>⟨{ eq:=[(y0,.c 0)] },g,1,c0 γ { eq:=[(y0,.c 0)] },xQ g,by kernel_rfl⟩
def c1 (β:Nat→Rat) (h:Hint):List (Con (SQ β)):=JU β h :: JV β h :: JW β h :: c0 β h
theorem Cm {β:Nat→Rat} {h:Hint} (ok:h.Ok β):∀ c∈c1 β h,c.Ok Tryz.prog (SQ β) EV:=by
 unfold c1
 simp only [List.forall_mem_cons]
 exact ⟨Uo ok,Us ok,Ur ok,xQ ok⟩
end Rx
namespace Rx
open Go.RowKit
def qB:List Fc→Nat→Option (RE×Nat)
 | [],_=>none
 | .z s e k :: r,n=>if s=n then some (e,k) else qB r n
 | _ :: r,n=>qB r n
theorem kH {n:Nat} {e:RE} {k:Nat}:∀ {db:List Fc},qB db n=some (e,k)→.z n e k∈db
 | [],h=>by simp [qB] at h
 | f :: r,h=>by
  cases f with
  | z s e' k' =>
   simp only [qB] at h
   split at h
   ·rename_i hs;cases h;subst hs;simp
   ·exact List.mem_cons_of_mem _ (kH h)
  | q _ _ _=>exact List.mem_cons_of_mem _ (kH h)
  | r _ _ _=>exact List.mem_cons_of_mem _ (kH h)
  | x _ _=>exact List.mem_cons_of_mem _ (kH h)
  | n _ _=>exact List.mem_cons_of_mem _ (kH h)
  | i _ _=>exact List.mem_cons_of_mem _ (kH h)
  | w _ _=>exact List.mem_cons_of_mem _ (kH h)
  | tx _ _=>exact List.mem_cons_of_mem _ (kH h)
  | ln _ _=>exact List.mem_cons_of_mem _ (kH h)
def kV (db:List Fc):List Cell→Option (RE×Nat)
 | [.ob a,.os c]=>if a=c then (match qB db a with
  | some x=>some x
  | none=>match qA db a with
   | some (e,k)=>some (.num e,k)
   | none=>none) else none
 | _=>none
section
variable {β:Nat→Rat} {h:Hint} {f:FuncId} {vals:Array Value} {W:World} {ρ:Env} {b:Nat} {db:List Fc}
theorem nR {cs:List Cell} {e:RE} {k:Nat} (h:kV db cs=some (e,k)) (hf:∀ f∈db,(SQ β).on ρ f W):∃ z:Int,Z4.IsZ W (.agg (cs.map (Cell.den ρ)).toArray) z∧(z:Rat)=e.ev β∧z.natAbs<B64 ^ k:=by
 unfold kV at h
 split at h
 ·rename_i a c
  split at h
  ·rename_i hac
   subst hac
   split at h
   ·rename_i x hx
    cases h
    exact hf _ (kH hx)
   ·split at h
    ·rename_i e' k' hx
     cases h
     obtain ⟨h1,h2⟩:=(show Fc.on β ρ (.r a e' k) W from hf _ (kG hx))
     exact ⟨(e'.ev β).num,Z4.IsR.num h1,rfl,h2.1⟩
    ·cases h
  ·cases h
 ·cases h
theorem sF {z:Int} {e:RE} {k:Nat} (hc:Calls Tryz.prog f vals W (Z4.iO W z)) (hz:(z:Rat)=e.ev β) (hk:z.natAbs<B64 ^ k):Calls Tryz.prog f vals W (Ans β ρ b W (.e (.a (zC b))) [.z b e k]):=by
 refine hc.mono fun _ W' ⟨v,he,hv,hb⟩=>?_
 obtain ⟨p,l,c,xs,rfl,hx⟩:=hv
 have h1:(zC b).map (Cell.den (aH ρ b [⟨decide (z<0),0,p,l,c,.empty,0,default⟩]))=[.bool (decide (z<0)),.slice p l c]:=by simp [zC,Cell.den,aH]
 refine ⟨_,gI (b:=b) (L:=[⟨decide (z<0),0,p,l,c,.empty,0,default⟩]) (by simp [M]),?_,hb,fun g hg=>?_⟩
 ·rw [he];simp only [SV.den,El.den,h1]
 ·rw [List.mem_singleton] at hg
  subst hg
  exact ⟨z,by rw [h1];exact ⟨p,l,c,xs,rfl,hx⟩,hz,hk⟩
end
section
variable (β:Nat→Rat) (h:Hint)
def yx:Con (SQ β) where
 fn:=39
 app:=fun db b args=>match args with
  | [.e (.a x),.e (.a y)]=>match kV db x,kV db y with
   | some (e,k),some (e',k')=>if decide (k≤K1) && decide (k'≤K1) then some (.e (.a (zC b)),[.z b (.mul e e') (k+k')]) else none
   | _,_=>none
  | _=>none
end
section
variable {β:Nat→Rat} {h:Hint}
theorem Ja:(yx β).Ok Tryz.prog (SQ β) EV:=by
 refine Con.ok0 rfl ?_
 intro db b args res new ha ρ W hf hE
 simp only [yx] at ha
 split at ha
 ·split at ha
  ·rename_i e k e' k' hx hy
   split at ha
   ·rename_i hk
    simp only [Bool.and_eq_true,decide_eq_true_eq] at hk
    cases ha
    obtain ⟨z,h1,h2,h3⟩:=nR hx hf
    obtain ⟨z',g1,g2,g3⟩:=nR hy hf
    have a1:=Nat.pow_le_pow_right (show 0<B64 by decide) (Nat.le_max_left k k')
    have a2:=Nat.pow_le_pow_right (show 0<B64 by decide) (Nat.le_max_right k k')
    have hB:=vM (max k k')
    refine sF (e:=.mul e e') (Z4.OG z z' _ _ W h1 g1 (5*max k k') (by simp only [K1] at hk;omega) (by omega) (by omega)) (by rw [Rat.intCast_mul,h2,g2];rfl) ?_
    rw [Int.natAbs_mul,Nat.pow_add];exact Nat.mul_lt_mul'' h3 g3
   ·cases ha
  ·cases ha
 ·cases ha
end
end Rx
namespace Rx
open Go.RowKit
section
variable (β:Nat→Rat) (h:Hint)
def yu:Con (SQ β) where
 fn:=49
 app:=fun db b args=>match args with
  | [.e (.a x),.e (.a y)]=>match kV db x,kV db y with
   | some (e,k),some (e',k')=>if decide (k≤K1) && decide (k'≤K1) then some (.e (.a (zC b)),[.z b (.add e e') (max k k' + 1)]) else none
   | _,_=>none
  | _=>none
def yw:Con (SQ β) where
 fn:=36
 app:=fun db b args=>match args with
  | [.e (.s (.it .i64 n))]=>if decide (0≤n) && decide (n≤9223372036854775807) then some (.e (.a (zC b)),[.z b (.c n) 1]) else none
  | [.e (.s (.oi i))]=>match jE db i with
   | some e=>some (.e (.a (zC b)),[.z b e 1])
   | none=>none
  | _=>none
def Dx:Con (SQ β) where
 fn:=35
 app:=fun db b args=>match args with
  | [.e (.a x),.e (.a y)]=>match kV db x,kV db y with
   | some (e,k),some (e',k')=>if decide (k≤K1) && decide (k'≤K1) && (je e' || nzB h e') then some (.e (.a (dw b)),[.r b (.div e e') (max k k')]) else none
   | _,_=>none
  | _=>none
def DW:Con (SQ β) where
 fn:=51
 app:=fun db b args=>match args with
  | [.e (.a x)]=>match kV db x with
   | some (e,k)=>some (.e (.a (zC b)),[.z b (.neg e) k])
   | none=>none
  | _=>none
end
section
variable {β:Nat→Rat} {h:Hint}
theorem uH {k k':Nat} (h:k≤k'):B64 ^ k≤B64 ^ k':=Nat.pow_le_pow_right (show 0<B64 by decide) h
theorem I8:(yu β).Ok Tryz.prog (SQ β) EV:=by
 refine Con.ok0 rfl ?_
 intro db b args res new ha ρ W hf hE
 simp only [yu] at ha
 split at ha
 ·split at ha
  ·rename_i e k e' k' hx hy
   split at ha
   ·rename_i hk
    simp only [Bool.and_eq_true,decide_eq_true_eq] at hk
    cases ha
    obtain ⟨z,h1,h2,h3⟩:=nR hx hf
    obtain ⟨z',g1,g2,g3⟩:=nR hy hf
    refine sF (e:=.add e e') (OD h1 g1 (Nat.lt_of_lt_of_le h3 (uH hk.1)) (Nat.lt_of_lt_of_le g3 (uH hk.2)) hE) (by rw [Rat.intCast_add,h2,g2];rfl) ?_
    have a1:=uH (Nat.le_max_left k k')
    have a2:=uH (Nat.le_max_right k k')
    rw [Nat.pow_succ]
    have:B64 ^ max k k' * 2≤B64 ^ max k k' * B64:=Nat.mul_le_mul_left _ (by decide)
    omega
   ·cases ha
  ·cases ha
 ·cases ha
theorem OE (n:Int) (h1:-9223372036854775808≤n) (h2:n≤9223372036854775807) (W:World):Calls Tryz.prog 36 #[.int .i64 n] W (Z4.iO W n):=
 (Z4.rV n h1 h2 W).mono fun e W' ⟨s,ds,he,hl,hd,ht,hv,hb⟩=>by
  obtain ⟨p,l,c,rfl⟩:=hl.mk
  exact ⟨_,he,⟨p,l,c,ds,rfl,hl.mono (Nat.zero_le _),hd,ht,hv⟩,hb⟩
theorem I9:(yw β).Ok Tryz.prog (SQ β) EV:=by
 refine Con.ok0 rfl ?_
 intro db b args res new ha ρ W hf hE
 simp only [yw] at ha
 split at ha
 ·split at ha
  ·rename_i hk
   simp only [Bool.and_eq_true,decide_eq_true_eq] at hk
   cases ha
   exact sF (e:=.c _) (OE _ (by omega) hk.2 W) rfl (by rw [Nat.pow_one];unfold B64;omega)
  ·cases ha
 ·split at ha
  ·rename_i e hi
   cases ha
   obtain ⟨i1,i2,i3⟩:=(show Fc.on β ρ (.i _ e) W from hf _ (iE hi))
   exact sF (OE _ i1 i2 W) i3 (by rw [Nat.pow_one];unfold B64;omega)
  ·cases ha
 ·cases ha
theorem QY (ok:h.Ok β):(Dx β h).Ok Tryz.prog (SQ β) EV:=by
 refine Con.ok0 rfl ?_
 intro db b args res new ha ρ W hf hE
 simp only [Dx] at ha
 split at ha
 ·split at ha
  ·rename_i e k e' k' hx hy
   split at ha
   ·rename_i hk
    simp only [Bool.and_eq_true,Bool.or_eq_true,decide_eq_true_eq] at hk
    cases ha
    obtain ⟨z,h1,h2,h3⟩:=nR hx hf
    obtain ⟨z',g1,g2,g3⟩:=nR hy hf
    have hne:e'.ev β≠0:=by
     rcases hk.2 with h | h
     ·exact qX h
     ·exact jd ok h
    have hz':z'≠0:=fun h0=>hne (by rw [← g2,h0];rfl)
    have hc:=MG hz' h1 g1 (Nat.lt_of_lt_of_le h3 (uH hk.1.1)) (Nat.lt_of_lt_of_le g3 (uH hk.1.2)) hE
    have hfit:=JJ hz' h3 g3
    rw [h2,g2] at hc hfit
    exact vI (e:=.div e e') hc hfit
   ·cases ha
  ·cases ha
 ·cases ha
theorem Rq:(DW β).Ok Tryz.prog (SQ β) EV:=by
 refine Con.ok0 rfl ?_
 intro db b args res new ha ρ W hf hE
 simp only [DW] at ha
 split at ha
 ·split at ha
  ·rename_i e k hx
   cases ha
   obtain ⟨z,h1,h2,h3⟩:=nR hx hf
   exact sF (e:=.neg e) (Z4.GY z _ W h1) (by rw [Rat.intCast_neg,h2];rfl) (by rw [Int.natAbs_neg];exact h3)
  ·cases ha
 ·cases ha
end
end Rx
end Go.Proofs.YtancpaiaoamjlaaGreatDoor
