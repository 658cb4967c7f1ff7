/- What the proof rests on, part 32. -/
import Derived.Test.YthalajpklaodkaaGreatDoorP30
import Derived.Test.YthalajpklaodkaaGreatDoorP31
import Derived.Test.YthalajpklaodkaaGreatDoorP22
import Derived.Test.YthalajpklaodkaaGreatDoorP19
import Derived.Test.YthalajpklaodkaaGreatDoorP18
import Derived.Test.YthalajpklaodkaaGreatDoorP29
import Derived.Test.YthalajpklaodkaaGreatDoorP26
import Derived.Test.YthalajpklaodkaaGreatDoorP27
namespace Go.Proofs.YthalajpklaodkaaGreatDoor
set_option maxRecDepth 100000
set_option maxHeartbeats 80000000
namespace Rx
open Go.RowKit
def kZ (β:Nat→Rat):Prop:=β 0=mkRat (-5) 4∧β 1=mkRat 3 2∧β 2=mkRat 355 113∧β 3=mkRat 22 7∧β 4=mkRat 11 8∧β 5=mkRat 1 2
def vU (s:ByteArray):Option Nat:=
 if s.data.toList=[45,49,46,50,53,48] then some 0 else if s.data.toList=[54,47,52] then some 1 else
 if s.data.toList=[51,53,53,47,49,49,51] then some 2 else if s.data.toList=[49,47,50] then some 5 else none
def zV:List (RE×List UInt8):=[(.v 0,[45,53,47,52]),(.v 1,[51,47,50]),(.v 3,[50,50,47,55]),(.v 4,[49,49,47,56]),(tC (.v 5),[51,47,53]),(tS (.v 5),[52,47,53]),(.add (.v 0) (.v 1),[49,47,52]),(.mul (.v 0) (.v 1),[45,49,53,47,56])]
section
variable (β:Nat→Rat)
def zJ:Con (SQ β) where
 fn:=112
 app:=fun _ b args=>match args with
  | [.e (.s (.st s))]=>match vU s with
   | some i=>some (.t [.a (aJ b),.s (.it .i64 0)],[.q b (.v i) 1])
   | none=>none
  | _=>none
def zI:Con (SQ β) where
 fn:=81
 app:=fun _ b args=>match args with
  | [.e (.s (.st s))]=>match vU s with
   | some i=>some (.e (.a (aJ b)),[.q b (.v i) 1])
   | none=>none
  | _=>none
def zH:Con (SQ β) where
 fn:=48
 app:=fun db b args=>match args with
  | [.e (.a x),.e (.s (.it .i64 7))]=>match bZ db x with
   | some (.v 2,_)=>some (.t [.a (aJ b),.s (.it .i64 0)],[.q b (.v 3) 1])
   | _=>none
  | _=>none
def aRoot:Con (SQ β) where
 fn:=49
 app:=fun db b args=>match args with
  | [.e (.a x),.e (.s (.it .i64 3))]=>match bZ db x with
   | some (.c 2,_)=>some (.t [.a (aJ b),.s (.it .i64 0)],[.q b (.v 4) 1])
   | _=>none
  | _=>none
def aIs:Con (SQ β) where
 fn:=113
 app:=fun db _ args=>match args with
  | [.e (.a x),.e (.s (.st s))]=>match bZ db x with
   | some (e,k)=>if decide (k≤K0) && zV.any (fun p=>p.1.beq e && decide (p.2=s.data.toList)) then some (.e (.s (.bl true)),[]) else none
   | none=>none
  | _=>none
end
section
variable {β:Nat→Rat}
theorem EK (h:kZ β) {s:ByteArray} {i:Nat} (ht:vU s=some i):Fits 1 (β i)∧∀ W,EV W→Calls Tryz.prog 112 #[.string s] W (dG W (β i) 0):=by
 obtain ⟨h0,h1,h2,-,-,h5⟩:=h
 obtain ⟨⟨l⟩⟩:=s
 unfold vU at ht
 simp only at ht
 split at ht
 ·rename_i hl
  cases ht;subst hl;rw [h0]
  exact ⟨jl (by decide +kernel) (by decide +kernel),fun W hE=>UY W hE⟩
 split at ht
 ·rename_i hl
  cases ht;subst hl;rw [h1]
  exact ⟨jl (by decide +kernel) (by decide +kernel),fun W hE=>p64 W hE⟩
 split at ht
 ·rename_i hl
  cases ht;subst hl;rw [h2]
  exact ⟨jl (by decide +kernel) (by decide +kernel),fun W hE=>UZ W hE⟩
 split at ht
 ·rename_i hl
  cases ht;subst hl;rw [h5]
  exact ⟨jl (by decide +kernel) (by decide +kernel),fun W hE=>p12 W hE⟩
 ·cases ht
theorem LW (h:kZ β):∀ p∈zV,jT (p.1.ev β)=p.2:=by
 obtain ⟨h0,h1,h2,h3,h4,h5⟩:=h
 have c1:((1:Int):Rat)=1:=rfl
 unfold zV
 simp only [List.forall_mem_cons,List.not_mem_nil,false_imp_iff,implies_true,and_true,RE.ev,tC,tS,h0,h1,h3,h4,h5,c1]
 exact ⟨by decide +kernel,by decide +kernel,by decide +kernel,by decide +kernel,by decide +kernel,by decide +kernel,by decide +kernel,by decide +kernel⟩
theorem KU (h:kZ β):(zJ β).Ok Tryz.prog (SQ β) EV:=by
 refine Con.ok0 rfl ?_
 intro db b args res new ha ρ W hf hE
 simp only [zJ] at ha
 split at ha
 ·split at ha
  ·rename_i i ht
   cases ha
   obtain ⟨h1,h2⟩:=EK h ht
   exact lH (e:=.v i) (h2 W hE) h1
  ·cases ha
 ·cases ha
theorem KT (h:kZ β):(zI β).Ok Tryz.prog (SQ β) EV:=by
 refine Con.ok0 rfl ?_
 intro db b args res new ha ρ W hf hE
 simp only [zI] at ha
 split at ha
 ·rename_i s
  split at ha
  ·rename_i i ht
   cases ha
   obtain ⟨h1,h2⟩:=EK h ht
   obtain ⟨⟨l⟩⟩:=s
   exact nY (e:=.v i) (Ig l (β i) 0 W (hid fun W' hb=>h2 W' (Env.below hE hb (Nat.le_refl _)))) h1
  ·cases ha
 ·cases ha
theorem KR (h:kZ β):(zH β).Ok Tryz.prog (SQ β) EV:=by
 refine Con.ok0 rfl ?_
 intro db b args res new ha ρ W hf hE
 simp only [zH] at ha
 split at ha
 ·split at ha
  ·rename_i hx
   cases ha
   obtain ⟨⟨h1,h2⟩,-⟩:=dJ hx hf
   rw [show (RE.v 2).ev β=mkRat 355 113 from h.2.2.1] at h1
   have hv:(RE.v 3).ev β=mkRat 22 7:=h.2.2.2.1
   exact lH (e:=.v 3) (by rw [hv];exact Uk _ W h1 hE) (by rw [hv];exact jl (by decide +kernel) (by decide +kernel))
  ·cases ha
 ·cases ha
theorem KW (h:kZ β):(aRoot β).Ok Tryz.prog (SQ β) EV:=by
 refine Con.ok0 rfl ?_
 intro db b args res new ha ρ W hf hE
 simp only [aRoot] at ha
 split at ha
 ·split at ha
  ·rename_i hx
   cases ha
   obtain ⟨⟨h1,h2⟩,-⟩:=dJ hx hf
   have hv:(RE.v 4).ev β=mkRat 11 8:=h.2.2.2.2.1
   exact lH (e:=.v 4) (by rw [hv];exact VF _ W h1 hE) (by rw [hv];exact jl (by decide +kernel) (by decide +kernel))
  ·cases ha
 ·cases ha
theorem KQ (h:kZ β):(aIs β).Ok Tryz.prog (SQ β) EV:=by
 refine Con.ok0 rfl ?_
 intro db b args res new ha ρ W hf hE
 simp only [aIs] at ha
 split at ha
 ·rename_i x s
  split at ha
  ·rename_i e k hx
   split at ha
   ·rename_i hh
    simp only [Bool.and_eq_true,decide_eq_true_eq] at hh
    cases ha
    obtain ⟨⟨h1,h2⟩,-⟩:=dJ hx hf
    obtain ⟨p,hp,hq⟩:=List.any_eq_true.1 hh.2
    simp only [Bool.and_eq_true,decide_eq_true_eq] at hq
    have ht:=LW h p hp
    rw [RE.beq_eq hq.1,hq.2] at ht
    obtain ⟨⟨l⟩⟩:=s
    have hc:=Sj l _ _ k W h1 hh.1 h2 hE
    rw [show jT (e.ev β)=l from ht,beq_self_eq_true] at hc
    exact sZ hc rfl
   ·cases ha
  ·cases ha
 ·cases ha
def aw (β:Nat→Rat):List (Con (SQ β)):=zJ β :: zI β :: zH β :: aRoot β :: aIs β :: wF β :: cq β {}
theorem LY (β:Nat→Rat):isB true (bG Tryz.prog (SQ β) (HQ β {} (kH β)) (aw β) 1 32 [] [] 0)=true:=by kernel_rfl
theorem LX {W:World} (hE:EV W):Calls Tryz.prog 32 #[] W (aT W (.bool true)):=by
 obtain ⟨β,h⟩:∃ β,kZ β:=⟨bet [mkRat (-5) 4,mkRat 3 2,mkRat 355 113,mkRat 22 7,mkRat 11 8,mkRat 1 2],rfl,rfl,rfl,rfl,rfl,rfl⟩
 refine VY (β:=β) (ρ:=ev []) (args:=[]) (fs:=[]) (cons:=aw _) ?_ (LY _) hE (fun g hg=>by cases hg)
 unfold aw
 simp only [List.forall_mem_cons]
 exact ⟨KU h,KT h,KR h,KW h,KQ h,Fh,qH (kH _)⟩
end
section
variable (β:Nat→Rat) (h:Hint)
def tZ:Con (SQ β) where
 fn:=32
 app:=fun _ _ args=>match args with
  | []=>some (.e (.s (.bl true)),[])
  | _=>none
def cl:List (Con (SQ β)):=tZ β :: (cq β h ++ cl1 β)
end
theorem Nk {β:Nat→Rat}:(tZ β).Ok Tryz.prog (SQ β) EV:=by
 refine Con.ok0 rfl ?_
 intro db b args res new ha ρ W hf hE
 simp only [tZ] at ha
 split at ha
 ·cases ha
  exact sZ (LX hE) rfl
 ·cases ha
end Rx
namespace Rx
open Go.RowKit
def jK (db:List Fc):List Cell→Option (RE×Nat)
 | [.ob a,.os b,.bl false,.os c]=>if a=b && a+1=c then qN db a else none
 | _=>none
theorem LU {β:Nat→Rat} {ρ:Env} {W:World} {db:List Fc} {cs:List Cell} {e:RE} {k:Nat} (h:jK db cs=some (e,k)) (hf:∀ f∈db,(SQ β).on ρ f W):Z4.IsR W (.agg (cs.map (Cell.den ρ)).toArray) (e.ev β)∧Fits k (e.ev β):=by
 unfold jK at h
 split at h
 ·rename_i a b c
  split at h
  ·rename_i hh
   simp only [Bool.and_eq_true,decide_eq_true_eq] at hh
   obtain ⟨rfl,rfl⟩:=hh
   exact hf _ (mD h)
  ·cases h
 ·cases h
def nu (n:Int):Nv:=⟨false,n,none,0,0,.empty,0,default⟩
abbrev hv (n d b:Int):List Value:=[.int .i64 n,.int .i64 d,.int .u8 b]
def Nl (β:Nat→Rat):Con (SQ β) where
 fn:=52
 app:=fun db b args=>match args with
  | [.e (.a x)]=>match um (x.take 3),um (x.drop 3) with
   | some a,some a'=>match lZ db a,lZ db a' with
    | some e,some e'=>some (.t [.a (aJ b ++ aJ (b+2)),.a (bV (b+4) ++ bV (b+6))],[.q b e 4,.q (b+2) e' 4,.r (b+4) e 4,.r (b+6) e' 4])
    | _,_=>none
   | _,_=>none
  | _=>none
theorem IsN.fits {n d b:Int} {r:Rat} (h:IsN n d b r):Fits 4 r:=by
 obtain ⟨pw,-,-,h1,h2,h3,h4,he⟩:=h
 rw [← he]
 exact Ie _ _ _ h1 h2 h3 h4
def JW (a b c d:RE):RE:=.sub (.mul c a) (.mul d b)
def Xo (a b c d:RE):RE:=.sub (.mul a c) (.mul b d)
abbrev C1:RE:=tC (.v 0)
abbrev S1:RE:=tS (.v 0)
abbrev C2:RE:=tC (.v 1)
abbrev S2:RE:=tS (.v 1)
abbrev wC:RE:=Xo C1 S1 C2 S2
abbrev ax:RE:=JW (.v 2) (.v 3) C1 S1
abbrev bx:RE:=JW (.v 4) (.v 5) C1 S1
end Rx
section
open Go.ChangeShapes Go.WideShapes Go.ChangeAt Go.RowKit Go.Joins
section
variable {H:Type} {enc:TypeId×Value→H}
theorem NumIn.is {n d:Int} {b:Nat} (h:NumIn n d b):Rx.IsN n d (b:Int) (numOf n d b):=⟨b,rfl,h.b1,h.n1,h.n2,h.d1,h.d2,rfl⟩
end
end
namespace Rx
open Go.RowKit
theorem intCast_inj {a b:Int} (h:(a:Rat)=(b:Rat)):a=b:=by exact_mod_cast h
def inK:IntKind→Int→Bool
 | .i64,x=>decide (-9223372036854775808≤x) && decide (x≤9223372036854775807)
 | .u64,x=>decide (0≤x) && decide (x≤18446744073709551615)
 | _,_=>false
def arI (op:BinOp) (k:IntKind) (a b:Int):Option Int:=match op with
 | .add=>some (k.wrap (a+b))
 | .sub=>some (k.wrap (a - b))
 | .quo=>if b=0 then none else some (k.wrap (a.tdiv b))
 | .rem=>if b=0 then none else some (a.tmod b)
 | _=>none
theorem VX {P:Program} {op:BinOp} {k:IntKind} {a b c:Int} {T:TypeId} {w:World} (h:arI op k a b=some c):(binOp op T (.int k a) (.int k b)).run P w=.ok (.int k c) w:=by
 cases op <;> simp only [arI] at h <;> try (cases h;done)
 all_goals first
  | (cases h;simp [binOp,Op.intArith,pure];done)
  | (split at h;(cases h);(rename_i hb;cases h;simp [binOp,Op.intDiv,hb,pure]))
structure Ari where
 cv:List (IntKind×RE×RE):=[]
 ar:List (BinOp×IntKind×RE×RE×RE):=[]
 gt:List (RE×RE×Bool):=[]
def Ari.Ok (β:Nat→Rat) (T:Ari):Prop:=
 (∀ p∈T.cv,∀ x:Int,(x:Rat)=p.2.1.ev β→inK p.1 (p.1.wrap x)=true∧((p.1.wrap x:Int):Rat)=p.2.2.ev β) ∧
 (∀ p∈T.ar,∀ x y:Int,(x:Rat)=p.2.2.1.ev β→(y:Rat)=p.2.2.2.1.ev β→∃ z:Int,arI p.1 p.2.1 x y=some z∧inK p.2.1 z=true∧(z:Rat)=p.2.2.2.2.ev β) ∧
 (∀ p∈T.gt,∀ x y:Int,(x:Rat)=p.1.ev β→(y:Rat)=p.2.1.ev β→decide (x > y)=p.2.2)
def qO:List Fc→Nat→Option RE
 | [],_=>none
 | .w s e :: r,n=>if s=n then some e else qO r n
 | _ :: r,n=>qO r n
theorem mF {n:Nat} {e:RE}:∀ {db:List Fc},qO db n=some e→.w n e∈db
 | [],h=>by simp [qO] at h
 | f :: r,h=>by
  cases f with
  | w s e' =>
   simp only [qO] at h
   split at h
   ·rename_i hs;cases h;subst hs;simp
   ·exact List.mem_cons_of_mem _ (mF h)
  | q _ _ _=>exact List.mem_cons_of_mem _ (mF h)
  | r _ _ _=>exact List.mem_cons_of_mem _ (mF h)
  | x _ _=>exact List.mem_cons_of_mem _ (mF h)
  | n _ _=>exact List.mem_cons_of_mem _ (mF h)
  | i _ _=>exact List.mem_cons_of_mem _ (mF h)
  | z _ _ _=>exact List.mem_cons_of_mem _ (mF h)
def opN (db:List Fc):Cell→Option (IntKind×RE)
 | .oi a=>(gy db a).map fun e=>(.i64,e)
 | .ou a=>(qO db a).map fun e=>(.u64,e)
 | .it k n=>some (k,.c n)
 | _=>none
def mkN (b:Nat) (e:RE):IntKind→Option (Cell×List Fc)
 | .i64=>some (.oi b,[.i b e])
 | .u64=>some (.ou b,[.w b e])
 | _=>none
section
variable {β:Nat→Rat} {db:List Fc} {ρ:Env} {W:World}
theorem uJ {c:Cell} {k:IntKind} {e:RE} (h:opN db c=some (k,e)) (hf:∀ f∈db,Fc.on β ρ f W):∃ x:Int,c.den ρ=.int k x∧(x:Rat)=e.ev β:=by
 unfold opN at h
 split at h
 ·obtain ⟨e',he,h1⟩:=Option.map_eq_some_iff.1 h
  cases h1
  obtain ⟨-,-,h2⟩:=(show Fc.on β ρ (.i _ e) W from hf _ (fU he))
  exact ⟨_,rfl,h2⟩
 ·obtain ⟨e',he,h1⟩:=Option.map_eq_some_iff.1 h
  cases h1
  obtain ⟨-,-,h2⟩:=(show Fc.on β ρ (.w _ e) W from hf _ (mF he))
  exact ⟨_,rfl,h2⟩
 ·cases h
  exact ⟨_,rfl,rfl⟩
 ·cases h
theorem Hq {b:Nat} {e:RE} {k:IntKind} {r:Cell} {new:List Fc} (h:mkN b e k=some (r,new)) {z:Int} (hk:inK k z=true) (hz:(z:Rat)=e.ev β) {ρ':Env} (hb:(ρ' b).u=z):r.den ρ' = .int k z∧∀ f∈new,Fc.on β ρ' f W:=by
 unfold mkN at h
 split at h
 ·cases h
  simp only [inK,Bool.and_eq_true,decide_eq_true_eq] at hk
  refine ⟨by simp only [Cell.den,hb],fun f hf=>?_⟩
  obtain rfl:=List.mem_singleton.1 hf
  exact ⟨by rw [hb];exact hk.1,by rw [hb];exact hk.2,by rw [hb];exact hz⟩
 ·cases h
  simp only [inK,Bool.and_eq_true,decide_eq_true_eq] at hk
  refine ⟨by simp only [Cell.den,hb],fun f hf=>?_⟩
  obtain rfl:=List.mem_singleton.1 hf
  exact ⟨by rw [hb];exact hk.1,by rw [hb];exact hk.2,by rw [hb];exact hz⟩
 ·cases h
def gtN (T:Ari) (db:List Fc) (c d:Cell):Option Bool:=match opN db c,opN db d with
 | some (k,e),some (k',e')=>if k=k' then (T.gt.find? fun p=>p.1.beq e && p.2.1.beq e').map (·.2.2) else none
 | _,_=>none
def arN (T:Ari) (db:List Fc) (op:BinOp) (c d:Cell) (b:Nat):Option (Cell×List Fc):=match opN db c,opN db d with
 | some (k,e),some (k',e')=>if k=k' then (match T.ar.find? fun p=>decide (p.1=op) && decide (p.2.1=k) && p.2.2.1.beq e && p.2.2.2.1.beq e' with
  | some p=>mkN b p.2.2.2.2 k
  | none=>none) else none
 | _,_=>none
def cvN (T:Ari) (db:List Fc) (k:IntKind) (c:Cell) (b:Nat):Option (Cell×List Fc):=match opN db c with
 | some (_,e)=>match T.cv.find? fun p=>decide (p.1=k) && p.2.1.beq e with
  | some p=>mkN b p.2.2 k
  | none=>none
 | none=>none
end
def HAr (β:Nat→Rat) (h:Hint) (ok:h.Ok β) (T:Ari) (okT:T.Ok β):Tests (SQ β):=
 { HQ β h ok with
  gt:=gtN T
  gok:=fun {fs c d x} hh ρ W hf=>by
   unfold gtN at hh
   split at hh
   ·rename_i k e k' e' h1 h2
    split at hh
    ·rename_i hk
     subst hk
     obtain ⟨p,hp,rfl⟩:=Option.map_eq_some_iff.1 hh
     obtain ⟨x1,g1,g2⟩:=uJ (β:=β) h1 hf
     obtain ⟨x2,g3,g4⟩:=uJ (β:=β) h2 hf
     have hs:=List.find?_some hp
     simp only [Bool.and_eq_true] at hs
     exact ⟨k,x1,x2,g1,g3,okT.2.2 p (List.mem_of_find?_eq_some hp) x1 x2 (by rw [RE.beq_eq hs.1];exact g2) (by rw [RE.beq_eq hs.2];exact g4)⟩
    ·cases hh
   ·cases hh
  ar:=arN T
  arOk:=fun {db op c d r b new} hh ρ W hf=>by
   unfold arN at hh
   split at hh
   ·rename_i k e k' e' h1 h2
    split at hh
    ·rename_i hk
     subst hk
     split at hh
     ·rename_i p hp
      obtain ⟨x1,g1,g2⟩:=uJ (β:=β) h1 hf
      obtain ⟨x2,g3,g4⟩:=uJ (β:=β) h2 hf
      have hs:=List.find?_some hp
      simp only [Bool.and_eq_true,decide_eq_true_eq] at hs
      obtain ⟨z,z1,z2,z3⟩:=okT.2.1 p (List.mem_of_find?_eq_some hp) x1 x2 (by rw [RE.beq_eq hs.1.2];exact g2) (by rw [RE.beq_eq hs.2];exact g4)
      rw [hs.1.1.1,hs.1.1.2] at z1
      rw [hs.1.1.2] at z2
      exact ⟨k,x1,x2,z,g1,g3,fun P T w=>VX z1,fun ρ' _ hb=>Hq hh z2 z3 hb⟩
     ·cases hh
    ·cases hh
   ·cases hh
  cv:=cvN T
  cvOk:=fun {db k' c r b new} hh ρ W hf=>by
   unfold cvN at hh
   split at hh
   ·rename_i k e h1
    split at hh
    ·rename_i p hp
     obtain ⟨x1,g1,g2⟩:=uJ (β:=β) h1 hf
     have hs:=List.find?_some hp
     simp only [Bool.and_eq_true,decide_eq_true_eq] at hs
     obtain ⟨z1,z2⟩:=okT.1 p (List.mem_of_find?_eq_some hp) x1 (by rw [RE.beq_eq hs.2];exact g2)
     rw [hs.1] at z1 z2
     exact ⟨k,x1,g1,fun ρ' _ hb=>Hq hh z1 z2 hb⟩
    ·cases hh
   ·cases hh }
theorem LH {β:Nat→Rat} {f:FuncId} {vals:Array Value} {W:World} {ρ:Env} {b:Nat} {e:RE} {z:Int} (hc:Calls Tryz.prog f vals W (aT W (.int .i64 z))) (h1:-9223372036854775808≤z) (h2:z≤9223372036854775807) (hz:(z:Rat)=e.ev β):Calls Tryz.prog f vals W (Ans β ρ b W (.e (.s (.oi b))) [.i b e]):=by
 refine hc.mono fun _ W' ⟨he,hb⟩=>?_
 have h0:(aQ ρ b [⟨false,z,none,0,0,.empty,0,default⟩] b).u=z:=by simp [aQ]
 refine ⟨_,jB (b:=b) (L:=[⟨false,z,none,0,0,.empty,0,default⟩]) (by simp [M]),?_,hb,fun g hg=>?_⟩
 ·rw [he];simp only [SV.den,El.den,Cell.den,h0]
 ·obtain rfl:=List.mem_singleton.1 hg
  exact ⟨by rw [h0];exact h1,by rw [h0];exact h2,by rw [h0];exact hz⟩
theorem LJ {β:Nat→Rat} {f:FuncId} {vals:Array Value} {W:World} {ρ:Env} {b:Nat} {e:RE} {z:Int} {x:Bool} (hc:Calls Tryz.prog f vals W (aT W (.tuple #[.int .i64 z,.bool x]))) (h1:-9223372036854775808≤z) (h2:z≤9223372036854775807) (hz:(z:Rat)=e.ev β):Calls Tryz.prog f vals W (Ans β ρ b W (.t [.s (.oi b),.s (.bl x)]) [.i b e]):=by
 refine hc.mono fun _ W' ⟨he,hb⟩=>?_
 have h0:(aQ ρ b [⟨false,z,none,0,0,.empty,0,default⟩] b).u=z:=by simp [aQ]
 refine ⟨_,jB (b:=b) (L:=[⟨false,z,none,0,0,.empty,0,default⟩]) (by simp [M]),?_,hb,fun g hg=>?_⟩
 ·rw [he];simp only [SV.den,El.den,Cell.den,List.map_cons,List.map_nil,h0]
 ·obtain rfl:=List.mem_singleton.1 hg
  exact ⟨by rw [h0];exact h1,by rw [h0];exact h2,by rw [h0];exact hz⟩
def Am (β:Nat→Rat) (L:List (RE×RE×RE)):Con (SQ β) where
 fn:=30
 app:=fun db b args=>match args with
  | [.e (.a x),.e (.a y)]=>match bZ db x,bZ db y with
   | some (e,k),some (e',k')=>if decide (k≤K0) && decide (k'≤K0) then (L.find? fun p=>p.1.beq e && p.2.1.beq e').map fun p=>(.e (.s (.oi b)),[.i b p.2.2]) else none
   | _,_=>none
  | _=>none
theorem Nq {β:Nat→Rat} {L:List (RE×RE×RE)} (ok:∀ p∈L,((aH (p.1.ev β) (p.2.1.ev β):Int):Rat)=p.2.2.ev β):(Am β L).Ok Tryz.prog (SQ β) EV:=by
 refine Con.ok0 rfl ?_
 intro db b args res new ha ρ W hf hE
 simp only [Am] at ha
 split at ha
 ·split at ha
  ·rename_i e k e' k' hx hy
   split at ha
   ·rename_i hk
    simp only [Bool.and_eq_true,decide_eq_true_eq] at hk
    obtain ⟨p,hp,ha'⟩:=Option.map_eq_some_iff.1 ha
    cases ha'
    obtain ⟨⟨h1,h2⟩,-⟩:=dJ hx hf
    obtain ⟨⟨g1,g2⟩,-⟩:=dJ hy hf
    have hs:=List.find?_some hp
    simp only [Bool.and_eq_true] at hs
    have hv:=ok p (List.mem_of_find?_eq_some hp)
    rw [RE.beq_eq hs.1,RE.beq_eq hs.2] at hv
    have hc:=qh _ _ _ _ (max k k') W h1 g1 (by simp only [K0] at hk;omega) (h2.mono (Nat.le_max_left _ _)) (g2.mono (Nat.le_max_right _ _))
    have c3:-1≤aH (e.ev β) (e'.ev β)∧aH (e.ev β) (e'.ev β)≤1:=by
     unfold aH
     split
     ·decide
     ·split <;> decide
    exact LH hc (by omega) (by omega) hv
   ·cases ha
  ·cases ha
 ·cases ha
end Rx
namespace Z4
open Go.RowKit Go.Sort
structure nK (xs ys ds:List Nat) (k c:Nat):Prop where
 len:ds.length=k
 dig:Dig ds
 le:c≤1
 eq:val ds+c*B4 ^ k=val (xs.take k)+val (ys.take k)
 top:k=0∨(∃ e d,ds=e ++ [d]∧d≠0)∨k<xs.length∨k<ys.length∨0<c
 b1:k≤xs.length+ys.length+1
 b2:0<c→k≤xs.length+ys.length
theorem nK.start (xs ys:List Nat):nK xs ys [] 0 0:=⟨rfl,Dig.nil,by omega,by simp [val],.inl rfl,by omega,by omega⟩
theorem JQ (xs:List Nat) (k:Nat):val (xs.take (k+1))=val (xs.take k)+B4 ^ k*xs[k]?.getD 0:=by
 by_cases hk:k<xs.length
 ·rw [yN xs k hk,List.getElem?_eq_getElem hk];rfl
 ·rw [List.getElem?_eq_none (by omega),List.take_of_length_le (by omega),List.take_of_length_le (by omega)];simp
theorem nK.step {xs ys ds:List Nat} {k c x y d c':Nat} (h:nK xs ys ds k c) (hgo:k<xs.length∨k<ys.length∨0<c) (tx:aB xs) (ty:aB ys) (hx:xs[k]?.getD 0=x) (hy:ys[k]?.getD 0=y) (hd:d<10000) (hc:c'≤1) (e:c+x+y=d+c' * 10000) (e0:k<xs.length→x<10000) (e1:k<ys.length→y<10000) :
  nK xs ys (ds ++ [d]) (k+1) c':=by
 have hb:xs.length≤k→x=0:=fun h=>by rw [← hx,List.getElem?_eq_none h];rfl
 have hb':ys.length≤k→y=0:=fun h=>by rw [← hy,List.getElem?_eq_none h];rfl
 have hle:=h.le
 have hb1:=h.b1
 have hb2:=h.b2
 have hlast:k+1=xs.length→x≠0:=fun hk e0=>by
  have hne:xs≠[]:=fun e=>by subst e;simp at hk
  have:=tx hne
  rw [List.getLast_eq_getElem] at this
  apply this
  rw [← e0,← hx,List.getElem?_eq_getElem (by omega)]
  simp only [Option.getD_some]
  congr 1
  omega
 have hlast':k+1=ys.length→y≠0:=fun hk e0=>by
  have hne:ys≠[]:=fun e=>by subst e;simp at hk
  have:=ty hne
  rw [List.getLast_eq_getElem] at this
  apply this
  rw [← e0,← hy,List.getElem?_eq_getElem (by omega)]
  simp only [Option.getD_some]
  congr 1
  omega
 refine ⟨by simp [h.len],h.dig.append (fun z hz=>by simp at hz;subst hz;exact hd),hc,?_,?_,?_,?_⟩
 ·have h1:=h.eq
  rw [JQ xs,JQ ys,gQ,h.len,Nat.pow_succ,hx,hy,show B4=10000 from rfl]
  rw [show B4=10000 from rfl] at h1
  generalize 10000 ^ k=P at *
  generalize val (xs.take k)=X at *
  generalize val (ys.take k)=Y at *
  generalize val ds=D at *
  have:=congrArg (P * ·) e
  grind
 ·right
  by_cases hd0:d=0
  ·right
   subst hd0
   rcases Nat.eq_zero_or_pos c' with hc0 | hc0
   ·subst hc0
    have:c=0∧x=0∧y=0:=by omega
    obtain ⟨rfl,rfl,rfl⟩:=this
    rcases Nat.lt_trichotomy (k+1) xs.length with h1 | h1 | h1
    ·exact .inl h1
    ·exact absurd rfl (hlast h1)
    ·rcases Nat.lt_trichotomy (k+1) ys.length with h2 | h2 | h2
     ·exact .inr (.inl h2)
     ·exact absurd rfl (hlast' h2)
     ·omega
   ·exact .inr (.inr hc0)
  ·exact .inl ⟨ds,d,rfl,hd0⟩
 ·omega
 ·intro hc0
  by_cases h1:k<xs.length
  ·omega
  ·by_cases h2:k<ys.length
   ·omega
   ·have:=hb (by omega);have:=hb' (by omega);omega
theorem nK.done {xs ys ds:List Nat} {k:Nat} (h:nK xs ys ds k 0) (h1:xs.length≤k) (h2:ys.length≤k):val ds=val xs+val ys∧aB ds:=by
 refine ⟨?_,?_⟩
 ·have:=h.eq
  rw [List.take_of_length_le h1,List.take_of_length_le h2] at this
  omega
 ·intro hne
  rcases h.top with h3 | ⟨e,d,rfl,hd⟩ | h3 | h3 | h3
  ·exfalso;apply hne;rw [← List.length_eq_zero_iff,h.len,h3]
  ·simpa using hd
  ·omega
  ·omega
  ·omega
end Z4
section
def flo (r:Rat):Int:=r.num / (r.den:Int)
theorem Gf (r:Rat):flo r=r.floor:=by rw [Rat.floor_def];rfl
theorem PK (r:Rat):(flo r:Rat)≤r:=by rw [Gf];exact Rat.floor_le r
theorem SN (r:Rat):r<(flo r:Rat)+1:=by have:=@Rat.lt_floor r;rw [Gf];grind
theorem PG {r:Rat} {n:Int} (h1:(n:Rat)≤r) (h2:r<(n:Rat)+1):flo r=n:=by
 have a1:=PK r
 have a2:=SN r
 have b1:(n:Rat)<(flo r:Rat)+1:=by grind
 have b2:(flo r:Rat)<(n:Rat)+1:=by grind
 have c1:n<flo r+1:=by exact_mod_cast b1
 have c2:flo r<n+1:=by exact_mod_cast b2
 omega
def rnd (r:Rat):Int:=if aH (r - (flo r:Rat)+(r - (flo r:Rat))) 1=1∨(aH (r - (flo r:Rat)+(r - (flo r:Rat))) 1=0∧flo r % 2=1) then flo r+1 else flo r
theorem PE (z:Int) (d:Nat) (hd:0<d):flo ((z:Rat) / ((d:Int):Rat))=z / (d:Int):=by
 have hd':(0:Rat)<((d:Int):Rat):=by exact_mod_cast (show (0:Int)<d by omega)
 have hm:=Int.mul_ediv_add_emod z d
 have h0:=Int.emod_nonneg z (show (d:Int)≠0 by omega)
 have h1:=Int.emod_lt_of_pos z (show (0:Int)<d by omega)
 refine PG ?_ ?_
 ·rw [← Rat.not_lt,Rat.div_lt_iff hd',Rat.not_lt,← Rat.intCast_mul]
  have:z / (d:Int)*d≤z:=by rw [Int.mul_comm];omega
  exact_mod_cast this
 ·rw [Rat.div_lt_iff hd',← show ((z / (d:Int)+1:Int):Rat)=((z / (d:Int):Int):Rat)+1 by rw [Rat.intCast_add];rfl,← Rat.intCast_mul]
  have:z<(z / (d:Int)+1)*d:=by rw [Int.add_mul,Int.mul_comm];omega
  exact_mod_cast this
def qY (r:Rat):Prop:=r.den=1∧-9223372036854775808≤r.num∧r.num≤9223372036854775807
end
namespace Rx
open Go.RowKit
def pI:RE→Bool
 | .den _=>true
 | .mul a b=>pI a && pI b
 | .c n=>decide (0<n)
 | _=>false
theorem xZ {β:Nat→Rat}:∀ {e:RE},pI e=true→0<e.ev β
 | .den a,_=>by
  show (0:Rat)<((((a.ev β).den:Nat):Int):Rat)
  exact_mod_cast show (0:Int)<(((a.ev β).den:Nat):Int) by have:=(a.ev β).den_pos;omega
 | .mul a b,h=>by
  simp only [pI,Bool.and_eq_true] at h
  exact Rat.mul_pos (xZ h.1) (xZ h.2)
 | .c n,h=>by
  simp only [pI,decide_eq_true_eq] at h
  show (0:Rat)<((n:Int):Rat)
  exact_mod_cast h
 | .v _,h | .add _ _,h | .sub _ _,h | .div _ _,h | .neg _,h | .abs _,h | .flo _,h | .num _,h=>by cases h
def rem (e e':RE):RE:=.sub e (.mul e' (.flo (.div e e')))
theorem Ve {β:Nat→Rat} {n m:Nat} (hm:0<m) {e e':RE} (h:((n:Nat):Rat)=e.ev β) (h':((m:Nat):Rat)=e'.ev β):((n / m:Nat):Rat)=(RE.flo (.div e e')).ev β:=by
 show _=((flo (e.ev β / e'.ev β):Int):Rat)
 rw [← h,← h',show ((n:Nat):Rat) / ((m:Nat):Rat)=(((n:Nat):Int):Rat) / (((m:Nat):Int):Rat) from rfl,PE _ _ hm,← Int.natCast_ediv]
 rfl
theorem Vo {β:Nat→Rat} {n m:Nat} (hm:0<m) {e e':RE} (h:((n:Nat):Rat)=e.ev β) (h':((m:Nat):Rat)=e'.ev β):((n % m:Nat):Rat)=(rem e e').ev β:=by
 show _=e.ev β - e'.ev β*(RE.flo (.div e e')).ev β
 rw [← Ve hm h h',← h,← h',← Rat.natCast_mul]
 have:=congrArg (fun x:Nat=>(x:Rat)) (Nat.div_add_mod n m)
 simp only [Rat.natCast_add] at this
 grind
end Rx
namespace Rx
open Go.RowKit
inductive Fd
 | l (s:Nat) (e:RE) (k:Nat)
 | z (s:Nat) (e:RE) (k:Nat)
 | r (s:Nat) (e:RE) (k:Nat)
 | n (b s:Nat)
 | i (s:Nat) (e:RE)
def Fd.nm:Fd→List Nat
 | .n b s=>[b,s]
 | .i s _=>[s]
 | .l s _ _ | .z s _ _=>[s]
 | .r s _ _=>[s,s+1]
def IsG (W:World) (v:Value) (r:Rat) (k:Nat):Prop:=∃ xs,Z4.IsL 0 W v xs∧Z4.Dig xs∧Z4.aB xs∧((Z4.val xs:Nat):Rat)=r∧Z4.val xs<B64 ^ k
def IsY (W:World) (v:Value) (r:Rat) (k:Nat):Prop:=∃ z:Int,Z4.IsZ W v z∧(z:Rat)=r∧z.natAbs<B64 ^ k
def Fd.on (β:Nat→Rat) (ρ:Env):Fd→World→Prop
 | .l s e k,W=>IsG W (.slice (ρ s).p (ρ s).l (ρ s).c) (e.ev β) k
 | .z s e k,W=>IsY W (.agg ((zC s).map (Cell.den ρ)).toArray) (e.ev β) k
 | .r s e k,W=>Z4.IsR W (.agg ((bV s).map (Cell.den ρ)).toArray) (e.ev β)∧Fits k (e.ev β)
 | .n b s,_=>(ρ b).u=((ρ s).l:Int)
 | .i s e,_=>(((ρ s).u:Int):Rat)=e.ev β
def jR:List Fd→Nat→Option (RE×Nat)
 | [],_=>none
 | .l s e k :: r,n=>if s=n then some (e,k) else jR r n
 | _ :: r,n=>jR r n
theorem lX {n:Nat} {e:RE} {k:Nat}:∀ {db:List Fd},jR db n=some (e,k)→.l n e k∈db
 | [],h=>by simp [jR] at h
 | f :: r,h=>by
  cases f with
  | l s e' k' =>
   simp only [jR] at h
   split at h
   ·rename_i hs;cases h;subst hs;simp
   ·exact List.mem_cons_of_mem _ (lX h)
  | z _ _ _=>exact List.mem_cons_of_mem _ (lX h)
  | r _ _ _=>exact List.mem_cons_of_mem _ (lX h)
  | n _ _=>exact List.mem_cons_of_mem _ (lX h)
  | i _ _=>exact List.mem_cons_of_mem _ (lX h)
def SR (β:Nat→Rat):Sys where
 F:=Fd
 nm:=Fd.nm
 on:=Fd.on β
 okC:=okC
 cg:=fun {ρ ρ' f W} h hf=>by
  cases f with
  | l s e k=>simp only [Fd.on] at hf ⊢;rw [← h s (by simp [Fd.nm])];exact hf
  | z s e k =>
   simp only [Fd.nm,List.mem_cons,List.not_mem_nil,or_false] at h
   simp only [Fd.on] at hf ⊢
   rwa [jL (ρ:=ρ') (ρ':=ρ) (l:=zC s) fun n hn=>(h n (by simpa [zC,Cell.nm] using hn)).symm]
  | r s e k =>
   simp only [Fd.nm,List.mem_cons,List.not_mem_nil,or_false] at h
   simp only [Fd.on] at hf ⊢
   rwa [jL (ρ:=ρ') (ρ':=ρ) (l:=bV s) fun n hn=>(h n (by simpa [bV,Cell.nm] using hn)).symm]
  | n b t=>simp only [Fd.on] at hf ⊢;rw [← h b (by simp [Fd.nm]),← h t (by simp [Fd.nm])];exact hf
  | i t e=>simp only [Fd.on] at hf ⊢;rw [← h t (by simp [Fd.nm])];exact hf
 bl:=fun {ρ f W W'} hb hf=>by
  cases f with
  | l s e k=>obtain ⟨xs,h1,h2⟩:=hf;exact ⟨xs,h1.below hb,h2⟩
  | z s e k=>obtain ⟨z,h1,h2⟩:=hf;exact ⟨z,h1.below hb,h2⟩
  | r s e k=>exact ⟨Z4.IsR.below hf.1 hb,hf.2⟩
  | n b t=>exact hf
  | i t e=>exact hf
 st:=fun {ρ f W b T cs i u} hok _ hb hf=>by
  have hv:=xX ρ hok
  have hb':Go.Proofs.YthalajpklaodkaaGreatDoor.Bx W b T (cs.map (Cell.den ρ)):=hb
  cases f with
  | l s e k=>obtain ⟨xs,h1,h2⟩:=hf;exact ⟨xs,h1.setBox hb' hv,h2⟩
  | z s e k=>obtain ⟨z,h1,h2⟩:=hf;exact ⟨z,h1.setBox hb' hv,h2⟩
  | r s e k=>exact ⟨Z4.IsR.setBox hf.1 hb' hv,hf.2⟩
  | n b t=>exact hf
  | i t e=>exact hf
 lit:=fun x b=>if 0<x∧x<10000 then [.l b (.c x) 1] else []
 litOk:=fun {x b f ρ W T} hm h1 h2 h3=>by
  split at hm
  ·rename_i hx
   rw [List.mem_singleton] at hm
   subst hm
   obtain ⟨m,rfl⟩:∃ m:Nat,x=(m:Int):=⟨x.toNat,by omega⟩
   show IsG _ (.slice (ρ b).p (ρ b).l (ρ b).c) _ 1
   rw [h1,h2,h3]
   refine ⟨[m],.inr ⟨W.heap.size,0,1,rfl,Nat.zero_le _,by simp,Nat.le_refl _,fun j hj=>?_⟩,fun y hy=>?_,fun _=>?_,?_,?_⟩
   ·have:j=0:=by simpa using hj
    subst this
    go_simp
   ·rw [List.mem_singleton] at hy;subst hy;show _<10000;omega
   ·simp;omega
   ·simp [Z4.val,RE.ev];rfl
   ·simp [Z4.val];unfold B64;omega
  ·cases hm
 elt:=fun db s j b=>match j,jR db s with
  | 0,some (e,_)=>if pI e then some [.i b (rem e (.c 10000))] else none
  | _,_=>none
 eltOk:=fun {db s j b fs ρ W} h hf=>by
  split at h
  ·rename_i e k hx
   split at h
   ·rename_i hp
    cases h
    obtain ⟨xs,h1,h2,h3,h4,-⟩:=(show IsG W (.slice (ρ s).p (ρ s).l (ρ s).c) (e.ev β) k from hf _ (lX hx))
    have hpos:=xZ (β:=β) hp
    rcases h1 with ⟨-,rfl⟩ | ⟨b0,o,k0,hv,-,-,-,h5⟩
    ·exfalso
     rw [← h4] at hpos
     exact absurd hpos (by decide)
    ·obtain ⟨hp1,hp2,-⟩:=Value.slice.inj hv
     cases xs with
     | nil=>exfalso;rw [← h4] at hpos;exact absurd hpos (by decide)
     | cons x r =>
      have hc:=h5 0 (by simp)
      refine ⟨by rw [hp2];simp,_,(x:Int),hp1,by rw [sW];exact hc,fun ρ' _ hu f hm=>?_⟩
      rw [List.mem_singleton] at hm
      subst hm
      show (((ρ' b).u:Int):Rat)=_
      rw [hu]
      have hx1:x<10000:=h2 x (by simp)
      have:=Vo (β:=β) (n:=Z4.val (x :: r)) (m:=10000) (e:=e) (e':=.c 10000) (by decide) h4 rfl
      rw [← this,show Z4.val (x :: r) % 10000=x by show (x+10000*Z4.val r) % 10000=x;omega]
      rfl
   ·cases h
  ·cases h
 len:=fun s b=>[.n b s]
 lenOk:=fun {s b f ρ W} hm h=>by
  rw [List.mem_singleton] at hm
  subst hm
  exact h
def HR (β:Nat→Rat):Tests (SR β) where
 eq:=fun _ _ _=>none
 ok:=fun h=>(by cases h)
theorem kC (k:Nat):B64 ^ k≤Z4.B4 ^ (5*k):=by
 rw [Nat.pow_mul]
 exact Nat.pow_le_pow_left (by decide) k
def asG (db:List Fd):Cell→Option (RE×Nat)
 | .os s=>jR db s
 | .nils=>some (.c 0,0)
 | _=>none
section
variable (β:Nat→Rat) (h:Hint)
def NK:Con (SR β) where
 fn:=151
 app:=fun db b args=>match args with
  | [.e (.s x),.e (.s y)]=>match asG db x,asG db y with
   | some (e,k),some (e',k')=>if decide (k≤K1) && decide (k'≤K1) then some (.e (.s (.os b)),[.l b (.add e e') (max k k' + 1)]) else none
   | _,_=>none
  | _=>none
def NG:Con (SR β) where
 fn:=152
 app:=fun db b args=>match args with
  | [.e (.s x),.e (.s y)]=>match asG db x,asG db y with
   | some (e,k),some (e',k')=>if decide (k≤K1) && decide (k'≤K1) && (cmB h e e').any (0≤·) then some (.e (.s (.os b)),[.l b (.sub e e') k]) else none
   | _,_=>none
  | _=>none
def Nj:Con (SR β) where
 fn:=140
 app:=fun db _ args=>match args with
  | [.e (.s x),.e (.s y)]=>match asG db x,asG db y with
   | some (e,k),some (e',k')=>if decide (k≤K1) && decide (k'≤K1) then (match cmB h e e' with
     | some c=>some (.e (.s (.it .i64 c)),[])
     | none=>none) else none
   | _,_=>none
  | _=>none
def NU:Con (SR β) where
 fn:=109
 app:=fun db _ args=>match args with
  | [.e (.s (.bl t)),.e (.s (.os s))]=>match jR db s with
   | some (e,_)=>if !t then some (.e (.a [.bl false,.os s]),[]) else
     if nzB h e then some (.e (.a [.bl true,.os s]),[]) else
     if eqB h e (.c 0) then some (.e (.a [.bl false,.os s]),[]) else none
   | none=>none
  | _=>none
def cz:List (Con (SR β)):=[NK β,NG β h,Nj β h,NU β h]
end
section
variable {β:Nat→Rat} {h:Hint}
theorem Vh {a b:Nat}:((a:Nat):Rat)<((b:Nat):Rat)↔a<b:=by exact_mod_cast Iff.rfl
theorem Ai {m n:Nat}:aH ((m:Nat):Rat) ((n:Nat):Rat)=aC m n:=by
 unfold aH aC
 have e:((m:Nat):Rat)=((n:Nat):Rat)↔m=n:=by exact_mod_cast Iff.rfl
 simp only [Vh,e]
end
end Rx
namespace Rx
open Go.RowKit
section
variable {a b:Int} {v1 v2:Value} {w:World}
theorem QL {β:Nat→Rat} {l:List (RE×RE×Int)} {nz:List RE} {eq:List (RE×RE)} (h:∀ p∈l,aH (p.1.ev β) (p.2.1.ev β)=p.2.2) (h2:∀ p∈nz,p.ev β≠0) (h3:∀ p∈eq,p.1.ev β=p.2.ev β):Hint.Ok β { cm:=l,nz:=nz,eq:=eq }:=
 ⟨h3,fun p h=>(by cases h),h2,fun p h=>(by cases h),h⟩
abbrev x0:RE:=.v 0
abbrev x1:RE:=.v 1
theorem tN (m n:Nat):(aH (m:Rat) (n:Rat)=1∧aH (n:Rat) (m:Rat) = -1∧n<m)∨(aH (m:Rat) (n:Rat)=0∧aH (n:Rat) (m:Rat)=0∧m=n)∨(aH (m:Rat) (n:Rat) = -1∧aH (n:Rat) (m:Rat)=1∧m<n):=by
 rw [Ai,Ai]
 unfold aC
 rcases Nat.lt_trichotomy m n with h | h | h
 ·right;right;rw [if_pos h,if_neg (by omega),if_neg (by omega)];exact ⟨rfl,rfl,h⟩
 ·right;left;subst h;simp
 ·left;rw [if_neg (by omega),if_neg (by omega),if_pos h];exact ⟨rfl,rfl,h⟩
end
end Rx
namespace Z4
open Go.RowKit Go.Sort Go.Lib
end Z4
namespace Rx
open Go.RowKit
def qP:List Fd→Nat→Option (RE×Nat)
 | [],_=>none
 | .z s e k :: r,n=>if s=n then some (e,k) else qP r n
 | _ :: r,n=>qP r n
theorem qQ {n:Nat} {e:RE} {k:Nat}:∀ {db:List Fd},qP db n=some (e,k)→.z n e k∈db
 | [],h=>by simp [qP] at h
 | f :: r,h=>by
  cases f with
  | z s e' k' =>
   simp only [qP] at h
   split at h
   ·rename_i hs;cases h;subst hs;simp
   ·exact List.mem_cons_of_mem _ (qQ h)
  | l _ _ _=>exact List.mem_cons_of_mem _ (qQ h)
  | r _ _ _=>exact List.mem_cons_of_mem _ (qQ h)
  | n _ _=>exact List.mem_cons_of_mem _ (qQ h)
  | i _ _=>exact List.mem_cons_of_mem _ (qQ h)
def findD:List Fd→Nat→Option (RE×Nat)
 | [],_=>none
 | .r s e k :: r,n=>if s=n then some (e,k) else findD r n
 | _ :: r,n=>findD r n
section
variable {β:Nat→Rat} {ρ:Env} {W:World} {db:List Fd}
end
section
variable (β:Nat→Rat) (h:Hint)
def Nu:Con (SR β) where
 fn:=97
 app:=fun db b args=>match args with
  | [.e (.a [.ob s,.os s',.bl false,.os t])]=>if s=s' && s+1=t then (match findD db s with
    | some (e,k)=>some (.e (.a [.bl false,.os b]),[.l b (.den e) k])
    | none=>none) else none
  | _=>none
end
section
variable {β:Nat→Rat} {h:Hint} {f:FuncId} {vals:Array Value} {W:World} {ρ:Env} {b:Nat}
theorem F8 {z d:Int} {k k':Nat} (hd:d≠0) (h1:z.natAbs<B64 ^ k) (h2:d.natAbs<B64 ^ k'):Fits (max k k') ((z:Rat) / (d:Rat)):=by
 have a1:=Nat.pow_le_pow_right (show 0<B64 by decide) (Nat.le_max_left k k')
 have a2:=Nat.pow_le_pow_right (show 0<B64 by decide) (Nat.le_max_right k k')
 have key:∀ (z:Int) (m:Nat),m≠0→z.natAbs<B64 ^ k→m<B64 ^ k'→Fits (max k k') (mkRat z m):=fun z m hm a b=>by
  obtain ⟨e1,-,e3⟩:=Z4.rW z m _ hm rfl
  exact ⟨by rw [e1];have:=Nat.div_le_self z.natAbs (Nat.gcd z.natAbs m);omega,by rw [e3];have:=Nat.div_le_self m (Nat.gcd z.natAbs m);omega⟩
 rcases Int.lt_or_le d 0 with h0 | h0
 ·obtain ⟨m,rfl⟩:∃ m:Nat,d = -(m:Int):=⟨d.natAbs,by omega⟩
  rw [show (z:Rat) / ((-(m:Int):Int):Rat)=mkRat (-z) m by rw [← Rat.divInt_eq_div,← Rat.divInt_ofNat,Rat.divInt_eq_divInt_iff (by omega) (by omega)];grind]
  exact key _ _ (by omega) (by omega) (by omega)
 ·obtain ⟨m,rfl⟩:∃ m:Nat,d=(m:Int):=⟨d.natAbs,by omega⟩
  rw [show (z:Rat) / (((m:Int):Int):Rat)=mkRat z m by rw [← Rat.divInt_eq_div,← Rat.divInt_ofNat]]
  exact key _ _ (by omega) h1 (by omega)
end
end Rx
namespace Rx
open Go.RowKit
section
variable {β:Nat→Rat} {ρ:Env} {W:World} {db:List Fd}
theorem Eu (r:Rat):(if r.num<0 then -r else r).num=if r.num<0 then -r.num else r.num:=by split <;> simp
end
section
variable {β:Nat→Rat} {h:Hint} {fuel:Nat} {f:FuncId} {args:List SV} {fs:List Fd} {n0:Nat} {ρ:Env} {w:World}
end
abbrev K2:Nat:=65536
abbrev rr (s:Nat):SV:=.e (.a (bV s))
section
variable {a b:Rat} {v1 v2:Value} {W:World}
abbrev nn (x:RE):RE:=.num x
theorem Og (r:Rat):(((r.den:Nat):Int):Rat)≠0:=fun h=>by
 have h2:((r.den:Nat):Int)=0:=by exact_mod_cast h
 have:=r.den_nz
 omega
theorem Ih (r:Rat):(r.num:Rat)=r*(((r.den:Nat):Int):Rat):=by
 have h1:r=(r.num:Rat) / (((r.den:Nat):Int):Rat):=by
  have:=(Rat.num_divInt_den r).symm
  rwa [Rat.divInt_eq_div] at this
 have h2:(r.num:Rat) / (((r.den:Nat):Int):Rat)*(((r.den:Nat):Int):Rat)=(r.num:Rat):=Rat.div_mul_cancel (Og r)
 rw [← h1] at h2
 exact h2.symm
theorem tK (a b:Rat):aH a b = -1∨aH a b=0∨aH a b=1:=by
 unfold aH
 split
 ·exact .inl rfl
 ·split
  ·exact .inr (.inl rfl)
  ·exact .inr (.inr rfl)
theorem WB (a:Rat):sgQ a=if a.num<0 then -1 else if a.num=0 then 0 else 1:=by
 unfold sgQ sgn
 by_cases h:a.num<0
 ·rw [if_pos (decide_eq_true h),if_pos h]
 ·rw [if_neg (by simpa using h),if_neg h]
  by_cases h0:a.num=0
  ·rw [if_pos (by omega),if_pos h0]
  ·rw [if_neg (by omega),if_neg h0]
end
theorem wS {k:Nat} {r:Rat} (h:Fits k r):Fits k (r.num:Rat)∧Fits k ((((r.den:Nat):Int):Rat)):=by
 have h1:1<B64 ^ k:=Nat.lt_of_le_of_lt r.den_pos h.2
 exact ⟨⟨by rw [Rat.num_intCast];exact h.1,by rw [Rat.den_intCast];exact h1⟩,by rw [Rat.num_intCast];simpa using h.2,by rw [Rat.den_intCast];exact h1⟩
end Rx
namespace Rx
theorem Ii (x:Rat):(0<x.num↔0<x)∧(x.num<0↔x<0):=by
 rw [Rat.lt_iff,Rat.lt_iff]
 simp
theorem WC {x:Rat}:sgQ x=0↔x=0:=by
 rw [WB]
 constructor
 ·intro h
  split at h
  ·cases h
  ·split at h
   ·rename_i h0;exact Rat.num_eq_zero.1 h0
   ·cases h
 ·rintro rfl
  rfl
theorem lJ {a b:Rat}:aH a b=1↔b<a:=by
 unfold aH
 constructor
 ·intro h
  split at h
  ·cases h
  ·split at h
   ·cases h
   ·grind
 ·intro h
  rw [if_neg (by grind),if_neg (by grind)]
theorem tX {a b:Rat}:aH a b = -1↔a<b:=by
 unfold aH
 constructor
 ·intro h
  split at h
  ·assumption
  ·split at h <;> cases h
 ·intro h
  rw [if_pos h]
theorem oz {a b:Rat}:aH a b=0↔a=b:=by
 unfold aH
 constructor
 ·intro h
  split at h
  ·cases h
  ·split at h
   ·assumption
   ·cases h
 ·rintro rfl
  rw [if_neg (by grind),if_pos rfl]
def i3:List Int:=[-1,0,1]
theorem mem3 {x:Int} (h:x = -1∨x=0∨x=1):x∈i3:=by
 rcases h with rfl | rfl | rfl <;> decide
end Rx
namespace Nm
theorem rO (r:Rat):r*((r.den:Int):Rat)=(r.num:Rat):=by
 exact (Rx.Ih r).symm
theorem wJ (r:Rat):(0:Rat)<((r.den:Int):Rat):=by exact_mod_cast r.den_pos
def fl (r:Rat):Int:=r.num / (r.den:Int)
theorem qR (r:Rat):flQ r=(fl r:Rat):=rfl
theorem uh (r:Rat):(fl r:Rat)≤r:=by
 have hd:=wJ r
 have hn:=rO r
 have h1:fl r*(r.den:Int)≤r.num:=Int.ediv_mul_le _ (by have:=r.den_pos;omega)
 have h2:((fl r*(r.den:Int):Int):Rat)≤(r.num:Rat):=by exact_mod_cast h1
 rw [Rat.intCast_mul] at h2
 by_cases h:(fl r:Rat)≤r
 ·exact h
 ·have:=Rat.mul_pos (show 0<(fl r:Rat) - r by grind) hd
  grind
theorem uG (r:Rat):r<(fl r:Rat)+1:=by
 have hd:=wJ r
 have hn:=rO r
 have h1:r.num<(fl r+1)*(r.den:Int):=by
  have:=Int.lt_ediv_add_one_mul_self r.num (show (0:Int)<(r.den:Int) by have:=r.den_pos;omega)
  exact this
 have h2:(r.num:Rat)<(((fl r+1)*(r.den:Int):Int):Rat):=by exact_mod_cast h1
 rw [Rat.intCast_mul,Rat.intCast_add] at h2
 by_cases h:r<(fl r:Rat)+1
 ·exact h
 ·have:=Rat.mul_nonneg (show 0≤r - ((fl r:Rat)+1) by grind) (Rat.le_of_lt hd)
  have h3:((1:Int):Rat)=1:=rfl
  grind
theorem iV {a b:Int}:(a:Rat)<(b:Rat)↔a<b:=by exact_mod_cast Iff.rfl
theorem jh {a b:Int}:(a:Rat)≤(b:Rat)↔a≤b:=by exact_mod_cast Iff.rfl
theorem Px (r:Rat):(fl r).natAbs≤r.num.natAbs:=by
 unfold fl
 have hd:(1:Int)≤(r.den:Int):=by have:=r.den_pos;omega
 generalize (r.den:Int)=d at *
 generalize r.num=n
 have h1:n / d*d≤n:=Int.ediv_mul_le _ (by omega)
 have h2:n<(n / d+1)*d:=Int.lt_ediv_add_one_mul_self n (by omega)
 generalize n / d=q at *
 by_cases h:0≤q
 ·have:q*1≤q*d:=Int.mul_le_mul_of_nonneg_left hd h
  omega
 ·have:(q+1)*d≤(q+1)*1:=by
   have:=Int.mul_le_mul_of_nonneg_left hd (show 0≤-(q+1) by omega)
   grind
  omega
theorem F7 {k:Nat} {r:Rat} (h:Fits k r):Fits k (flQ r):=by
 rw [qR]
 exact ⟨by rw [Rat.num_intCast];exact Nat.lt_of_le_of_lt (Px r) h.1,by rw [Rat.den_intCast];exact Nat.lt_of_le_of_lt r.den_pos h.2⟩
structure Cz where
 p:Int
 q:Int
 lp:Int
 lq:Int
def cz (a:Rat):Nat→Cz
 | 0=>⟨1,0,0,1⟩
 | i+1=>⟨(cz a i).lp+fl (cfr a i)*(cz a i).p,(cz a i).lq+fl (cfr a i)*(cz a i).q,(cz a i).p,(cz a i).q⟩
theorem uf (a:Rat):∀ i,(cv a i).p=((cz a i).p:Rat)∧(cv a i).q=((cz a i).q:Rat)∧(cv a i).lp=((cz a i).lp:Rat)∧(cv a i).lq=((cz a i).lq:Rat)
 | 0=>⟨rfl,rfl,rfl,rfl⟩
 | i+1=>by
  obtain ⟨h1,h2,h3,h4⟩:=uf a i
  simp only [cv,cz,h1,h2,h3,h4,qR,Rat.intCast_add,Rat.intCast_mul,and_self]
def er (a:Rat) (i:Nat):Rat:=a*((cz a i).q:Rat) - ((cz a i).p:Rat)
def ler (a:Rat) (i:Nat):Rat:=a*((cz a i).lq:Rat) - ((cz a i).lp:Rat)
def dt (a:Rat) (i:Nat):Int:=(cz a i).p*(cz a i).lq - (cz a i).lp*(cz a i).q
structure CI (a:Rat) (i:Nat):Prop where
 det:(dt a i=1∧er a i<0)∨(dt a i = -1∧0<er a i)
 le:ler a i = -(cfr a i*er a i)
 eb:-1≤er a i∧er a i≤1
 q0:0≤(cz a i).lq
 qn:(i=0∧(cz a i).q=0∧(cz a i).lq=1)∨(1≤(cz a i).q∧(cz a i).lq≤(cz a i).q∧1<cfr a i)
theorem MQ (a:Rat):CI a 0 where
 det:=.inl ⟨rfl,by show a*((0:Int):Rat) - ((1:Int):Rat)<0;rw [show ((0:Int):Rat)=0 from rfl,show ((1:Int):Rat)=1 from rfl];grind⟩
 le:=by
  show a*((1:Int):Rat) - ((0:Int):Rat) = -(a*(a*((0:Int):Rat) - ((1:Int):Rat)))
  rw [show ((0:Int):Rat)=0 from rfl,show ((1:Int):Rat)=1 from rfl];grind
 eb:=by
  show -1≤a*((0:Int):Rat) - ((1:Int):Rat)∧a*((0:Int):Rat) - ((1:Int):Rat)≤1
  rw [show ((0:Int):Rat)=0 from rfl,show ((1:Int):Rat)=1 from rfl]
  constructor <;> grind
 q0:=by show (0:Int)≤1;decide
 qn:=.inl ⟨rfl,rfl,rfl⟩
theorem O5 (a:Rat) (i:Nat):er a (i+1)=ler a i+(fl (cfr a i):Rat)*er a i:=by
 unfold er ler
 simp only [cz,Rat.intCast_add,Rat.intCast_mul]
 grind
theorem SC (a:Rat) (i:Nat):ler a (i+1)=er a i:=rfl
theorem OG (a:Rat) (i:Nat):dt a (i+1) = -dt a i:=by
 unfold dt
 simp only [cz]
 grind
theorem FX {a:Rat} {i:Nat} (h:CI a i):er a (i+1) = -((cfr a i - (fl (cfr a i):Rat))*er a i):=by
 rw [O5,h.le];grind
theorem Vr {x:Rat} (h:x≠flQ x):0<x - (fl x:Rat)∧x - (fl x:Rat)<1:=by
 have h1:=uh x
 have h2:=uG x
 rw [qR] at h
 constructor <;> grind
theorem Ro {r:Rat} (h0:0<r) (h1:r<1):1<r⁻¹:=by
 have h2:r*r⁻¹=1:=Rat.mul_inv_cancel r (by grind)
 by_cases h:1<r⁻¹
 ·exact h
 ·have:=Rat.mul_nonneg (show 0≤1 - r⁻¹ by grind) (Rat.le_of_lt h0)
  grind
theorem wV {x:Rat} (h:1<x):1≤fl x:=by
 have h1:=uG x
 have h2:((0:Int):Rat)<(fl x:Rat):=by
  have:((0:Int):Rat)=0:=rfl
  grind
 have:=iV.1 h2
 omega
theorem MP {a:Rat} {i:Nat} (h:CI a i) (hx:cfr a i≠flQ (cfr a i)):CI a (i+1):=by
 obtain ⟨r0,r1⟩:=Vr hx
 have hn:=FX h
 have hcf:cfr a (i+1)=(cfr a i - (fl (cfr a i):Rat))⁻¹:=rfl
 have hinv:(cfr a i - (fl (cfr a i):Rat))*(cfr a i - (fl (cfr a i):Rat))⁻¹=1:=Rat.mul_inv_cancel _ (by grind)
 have hg:=Ro r0 r1
 rw [← hcf] at hg hinv
 have hqn:=h.qn
 have hq0:=h.q0
 have hle:=h.le
 have heb:=h.eb
 have hdet:=h.det
 generalize hr:cfr a i - (fl (cfr a i):Rat)=r at *
 refine ⟨?_,?_,?_,?_,?_⟩
 ·rw [OG,hn]
  rcases hdet with ⟨h1,h2⟩ | ⟨h1,h2⟩
  ·have:=Rat.mul_pos r0 (show 0 < -er a i by grind)
   exact .inr ⟨by omega,by grind⟩
  ·have:=Rat.mul_pos r0 h2
   exact .inl ⟨by omega,by grind⟩
 ·rw [SC,hn]
  generalize er a i=e at *
  generalize cfr a (i+1)=y at *
  have:y * -(r*e) = -((r*y)*e):=by grind
  rw [this,hinv];grind
 ·rw [hn]
  rcases hdet with ⟨h1,h2⟩ | ⟨h1,h2⟩
  ·have:=Rat.mul_pos r0 (show 0 < -er a i by grind)
   have:=Rat.mul_pos (show 0<1 - r by grind) (show 0 < -er a i by grind)
   constructor <;> grind
  ·have:=Rat.mul_pos r0 h2
   have:=Rat.mul_pos (show 0<1 - r by grind) h2
   constructor <;> grind
 ·show 0≤(cz a i).q
  rcases hqn with ⟨-,h1,-⟩ | ⟨h1,-⟩ <;> omega
 ·refine .inr ?_
  show 1≤(cz a i).lq+fl (cfr a i)*(cz a i).q∧(cz a i).q≤(cz a i).lq+fl (cfr a i)*(cz a i).q∧1<cfr a (i+1)
  refine ⟨?_,?_,hg⟩
  ·rcases hqn with ⟨-,h1,h2⟩ | ⟨h1,h2,h3⟩
   ·rw [h1,h2];omega
   ·have:=Int.mul_le_mul_of_nonneg_right (wV h3) (show 0≤(cz a i).q by omega)
    omega
  ·rcases hqn with ⟨-,h1,h2⟩ | ⟨h1,h2,h3⟩
   ·rw [h1,h2];omega
   ·have:=Int.mul_le_mul_of_nonneg_right (wV h3) (show 0≤(cz a i).q by omega)
    omega
end Nm
end Go.Proofs.YthalajpklaodkaaGreatDoor
