/- What the proof rests on, part 28. -/
import Derived.Test.YtancpaiaoamjlaaGreatDoorZ27
import Derived.Test.YtancpaiaoamjlaaGreatDoorZ22
import Derived.Test.YtancpaiaoamjlaaGreatDoorZ19
import Derived.Test.YtancpaiaoamjlaaGreatDoorZ18
namespace Go.Proofs.YtancpaiaoamjlaaGreatDoor
set_option maxRecDepth 100000
set_option maxHeartbeats 80000000
namespace Rx
open Go.RowKit
structure Txt where
 len:List (RE×RE):=[]
 cat:List (RE×RE×RE):=[]
 idx:List (RE×RE×RE):=[]
 lo:List (RE×RE×RE):=[]
 hi:List (RE×RE×RE):=[]
 emp:List (RE×Bool):=[]
 eqn:List (RE×RE×Bool):=[]
def Txt.Ok (β:Nat→Rat) (T:Txt):Prop:=
 (∀ p∈T.len,(txt (p.1.ev β)).length≤9223372036854775807∧((((txt (p.1.ev β)).length:Nat):Int):Rat)=p.2.ev β) ∧
 (∀ p∈T.cat,(txt (p.1.ev β)).length+(txt (p.2.1.ev β)).length≤1000000∧txt (p.1.ev β) ++ txt (p.2.1.ev β)=txt (p.2.2.ev β)) ∧
 (∀ p∈T.idx,∃ (j:Nat) (x:UInt8),((j:Int):Rat)=p.2.1.ev β∧(txt (p.1.ev β))[j]? = some x∧((x.toNat:Int):Rat)=p.2.2.ev β) ∧
 (∀ p∈T.lo,∃ j:Nat,((j:Int):Rat)=p.2.1.ev β∧j≤(txt (p.1.ev β)).length∧(txt (p.1.ev β)).drop j=txt (p.2.2.ev β)) ∧
 (∀ p∈T.hi,∃ j:Nat,((j:Int):Rat)=p.2.1.ev β∧j≤(txt (p.1.ev β)).length∧(txt (p.1.ev β)).take j=txt (p.2.2.ev β)) ∧
 (∀ p∈T.emp,(txt (p.1.ev β)).isEmpty=p.2) ∧
 (∀ p∈T.eqn,∀ x y:Int,(x:Rat)=p.1.ev β→(y:Rat)=p.2.1.ev β→(x == y)=p.2.2)
def fJ:List Fc→Nat→Option RE
 | [],_=>none
 | .tx s e :: r,n=>if s=n then some e else fJ r n
 | _ :: r,n=>fJ r n
theorem lC {n:Nat} {e:RE}:∀ {db:List Fc},fJ db n=some e→.tx n e∈db
 | [],h=>by simp [fJ] at h
 | f :: r,h=>by
  cases f with
  | tx s e' =>
   simp only [fJ] at h
   split at h
   ·rename_i hs;cases h;subst hs;simp
   ·exact List.mem_cons_of_mem _ (lC h)
  | q _ _ _=>exact List.mem_cons_of_mem _ (lC h)
  | r _ _ _=>exact List.mem_cons_of_mem _ (lC h)
  | x _ _=>exact List.mem_cons_of_mem _ (lC h)
  | n _ _=>exact List.mem_cons_of_mem _ (lC h)
  | i _ _=>exact List.mem_cons_of_mem _ (lC h)
  | z _ _ _=>exact List.mem_cons_of_mem _ (lC h)
  | w _ _=>exact List.mem_cons_of_mem _ (lC h)
  | ln _ _=>exact List.mem_cons_of_mem _ (lC h)
def vU (L:List (RE×RE×RE)) (e e':RE):Option RE:=(L.find? fun p=>p.1.beq e && p.2.1.beq e').map (·.2.2)
theorem yO {L:List (RE×RE×RE)} {e e' r:RE} (h:vU L e e' = some r):(e,e',r)∈L:=by
 obtain ⟨p,hp,rfl⟩:=Option.map_eq_some_iff.1 h
 have hs:=List.find?_some hp
 simp only [Bool.and_eq_true] at hs
 rw [← RE.beq_eq hs.1,← RE.beq_eq hs.2]
 exact List.mem_of_find?_eq_some hp
def soN (T:Txt) (db:List Fc) (o:vw) (cs:List Cell) (b:Nat):Option (Cell×List Fc):=match o,cs with
 | .len,[.ot s]=>match fJ db s with
  | some e=>(T.len.find? fun p=>p.1.beq e).map fun p=>(.oi b,[.i b p.2])
  | none=>none
 | .cat,[.ot s,.ot t]=>match fJ db s,fJ db t with
  | some e,some e'=>(vU T.cat e e').map fun r=>(.ot b,[.tx b r])
  | _,_=>none
 | .idx,[.ot s,c]=>match fJ db s,opN db c with
  | some e,some (.i64,e')=>(vU T.idx e e').map fun r=>(.o8 b,[.i b r])
  | _,_=>none
 | .lo,[.ot s,c]=>match fJ db s,opN db c with
  | some e,some (.i64,e')=>(vU T.lo e e').map fun r=>(.ot b,[.tx b r])
  | _,_=>none
 | .hi,[.ot s,c]=>match fJ db s,opN db c with
  | some e,some (.i64,e')=>(vU T.hi e e').map fun r=>(.ot b,[.tx b r])
  | _,_=>none
 | _,_=>none
def eqX (T:Txt) (db:List Fc) (c d:Cell):Option Bool:=match c,d with
 | .ot s,.st t=>if t.data.toList.isEmpty then (match fJ db s with
  | some e=>(T.emp.find? fun p=>p.1.beq e).map (·.2)
  | none=>none) else none
 | c,d=>match opN db c,opN db d with
  | some (k,e),some (k',e')=>if k=k' then (T.eqn.find? fun p=>p.1.beq e && p.2.1.beq e').map (·.2.2) else none
  | _,_=>none
theorem qj (l:List UInt8):(⟨l.toArray⟩:ByteArray).size=l.length:=by simp [ByteArray.size]
theorem Qb (l:List UInt8) (j:Nat):(⟨l.toArray⟩:ByteArray)[j]? = l[j]?:=by
 by_cases h:j<l.length
 ·rw [List.getElem?_eq_getElem h,getElem?_pos (⟨l.toArray⟩:ByteArray) j (by rw [qj];exact h)]
  rfl
 ·rw [List.getElem?_eq_none (by omega),getElem?_neg (⟨l.toArray⟩:ByteArray) j (by rw [qj];exact h)]
theorem Qc (l:List UInt8) (j:Nat):(⟨l.toArray⟩:ByteArray).extract 0 j=⟨(l.take j).toArray⟩:=by
 apply ByteArray.ext
 rw [ByteArray.data_extract]
 simp
theorem Qa (l m:List UInt8):(⟨l.toArray⟩:ByteArray) ++ ⟨m.toArray⟩=⟨(l ++ m).toArray⟩:=by
 apply ByteArray.ext
 simp
section
variable {β:Nat→Rat} {T:Txt} {db:List Fc} {ρ:Env} {W:World}
theorem ji {s:Nat} {e:RE} (h:fJ db s=some e) (hf:∀ f∈db,Fc.on β ρ f W):(Cell.ot s).den ρ=.string ⟨(txt (e.ev β)).toArray⟩:=by
 have h1:(ρ s).t=⟨(txt (e.ev β)).toArray⟩:=hf _ (lC h)
 simp only [Cell.den,h1]
theorem Ec {c:Cell} {e:RE} {j:Nat} (h:opN db c=some (.i64,e)) (hf:∀ f∈db,Fc.on β ρ f W) (hj:((j:Int):Rat)=e.ev β):c.den ρ=.int .i64 (j:Int):=by
 obtain ⟨x,h1,h2⟩:=oV (β:=β) h hf
 rw [h1,intCast_inj (h2.trans hj.symm)]
theorem ZC (ok:T.Ok β) {o:vw} {cs:List Cell} {b:Nat} {r:Cell} {new:List Fc} (hh:soN T db o cs b=some (r,new)) (hf:∀ f∈db,Fc.on β ρ f W) :
  ∃ (v:Value) (x:Nv),iy o (cs.map (Cell.den ρ))=some v∧∀ ρ':Env,(∀ n,n≠b→ρ' n=ρ n)→ρ' b=x→r.den ρ' = v∧∀ f∈new,Fc.on β ρ' f W:=by
 obtain ⟨o1,o2,o3,o4,o5,-,-⟩:=ok
 unfold soN at hh
 split at hh
 ·split at hh
  ·rename_i s e he
   obtain ⟨p,hp,hr⟩:=Option.map_eq_some_iff.1 hh
   cases hr
   have hs:=List.find?_some hp
   obtain ⟨l1,l2⟩:=o1 p (List.mem_of_find?_eq_some hp)
   rw [RE.beq_eq hs] at l1 l2
   refine ⟨.int .i64 ((txt (e.ev β)).length:Int),⟨false,((txt (e.ev β)).length:Int),none,0,0,.empty,0,default⟩,?_,fun ρ' _ hb=>?_⟩
   ·rw [List.map_singleton,ji he hf]
    simp only [iy,qj]
   ·refine ⟨by simp only [Cell.den,hb],fun f hm=>?_⟩
    obtain rfl:=List.mem_singleton.1 hm
    exact ⟨by rw [hb];show _≤((txt (e.ev β)).length:Int);omega,by rw [hb];show ((txt (e.ev β)).length:Int)≤_;omega,by rw [hb];exact l2⟩
  ·cases hh
 ·split at hh
  ·rename_i s t e e' he he'
   obtain ⟨r1,hr1,hr⟩:=Option.map_eq_some_iff.1 hh
   cases hr
   obtain ⟨l1,l2⟩:=o2 _ (yO hr1)
   dsimp only at l1 l2
   refine ⟨.string ⟨(txt (r1.ev β)).toArray⟩,⟨false,0,none,0,0,⟨(txt (r1.ev β)).toArray⟩,0,default⟩,?_,fun ρ' _ hb=>?_⟩
   ·rw [List.map_cons,List.map_singleton,ji he hf,ji he' hf]
    simp only [iy,qj]
    rw [if_pos (by omega),Qa,l2]
   ·refine ⟨by simp only [Cell.den,hb],fun f hm=>?_⟩
    obtain rfl:=List.mem_singleton.1 hm
    show (ρ' b).t=_
    rw [hb]
  ·cases hh
 ·split at hh
  ·rename_i s c e e' he he'
   obtain ⟨r1,hr1,hr⟩:=Option.map_eq_some_iff.1 hh
   cases hr
   obtain ⟨j,x,l1,l2,l3⟩:=o3 _ (yO hr1)
   dsimp only at l1 l2 l3
   have hx:=x.toNat_lt
   refine ⟨.int .u8 (x.toNat:Int),⟨false,(x.toNat:Int),none,0,0,.empty,0,default⟩,?_,fun ρ' _ hb=>?_⟩
   ·rw [List.map_cons,List.map_singleton,ji he hf,Ec he' hf l1]
    simp only [iy]
    rw [if_pos (by omega),Int.toNat_natCast,Qb,l2]
    rfl
   ·refine ⟨by simp only [Cell.den,hb],fun f hm=>?_⟩
    obtain rfl:=List.mem_singleton.1 hm
    exact ⟨by rw [hb];show _≤(x.toNat:Int);omega,by rw [hb];show (x.toNat:Int)≤_;omega,by rw [hb];exact l3⟩
  ·cases hh
 ·split at hh
  ·rename_i s c e e' he he'
   obtain ⟨r1,hr1,hr⟩:=Option.map_eq_some_iff.1 hh
   cases hr
   obtain ⟨j,l1,l2,l3⟩:=o4 _ (yO hr1)
   dsimp only at l1 l2 l3
   refine ⟨.string ⟨(txt (r1.ev β)).toArray⟩,⟨false,0,none,0,0,⟨(txt (r1.ev β)).toArray⟩,0,default⟩,?_,fun ρ' _ hb=>?_⟩
   ·rw [List.map_cons,List.map_singleton,ji he hf,Ec he' hf l1]
    simp only [iy,qj]
    rw [if_pos (by omega),Int.toNat_natCast,extract_drop,l3]
   ·refine ⟨by simp only [Cell.den,hb],fun f hm=>?_⟩
    obtain rfl:=List.mem_singleton.1 hm
    show (ρ' b).t=_
    rw [hb]
  ·cases hh
 ·split at hh
  ·rename_i s c e e' he he'
   obtain ⟨r1,hr1,hr⟩:=Option.map_eq_some_iff.1 hh
   cases hr
   obtain ⟨j,l1,l2,l3⟩:=o5 _ (yO hr1)
   dsimp only at l1 l2 l3
   refine ⟨.string ⟨(txt (r1.ev β)).toArray⟩,⟨false,0,none,0,0,⟨(txt (r1.ev β)).toArray⟩,0,default⟩,?_,fun ρ' _ hb=>?_⟩
   ·rw [List.map_cons,List.map_singleton,ji he hf,Ec he' hf l1]
    simp only [iy,qj]
    rw [if_pos (by omega),Int.toNat_natCast,Qc,l3]
   ·refine ⟨by simp only [Cell.den,hb],fun f hm=>?_⟩
    obtain rfl:=List.mem_singleton.1 hm
    show (ρ' b).t=_
    rw [hb]
  ·cases hh
 ·cases hh
theorem TL (ok:T.Ok β) {c d:Cell} {x:Bool} (hh:eqX T db c d=some x) (hf:∀ f∈db,Fc.on β ρ f W):(∃ s t:ByteArray,c.den ρ=.string s∧d.den ρ=.string t∧(s.toList == t.toList)=x)∨∃ (k:IntKind) (a b:Int),c.den ρ=.int k a∧d.den ρ=.int k b∧(a == b)=x:=by
 obtain ⟨-,-,-,-,-,o6,o7⟩:=ok
 unfold eqX at hh
 split at hh
 ·rename_i s t
  split at hh
  ·rename_i ht
   split at hh
   ·rename_i e he
    obtain ⟨p,hp,rfl⟩:=Option.map_eq_some_iff.1 hh
    have hs:=List.find?_some hp
    have:=o6 p (List.mem_of_find?_eq_some hp)
    rw [RE.beq_eq hs] at this
    refine .inl ⟨_,t,ji he hf,rfl,?_⟩
    rw [← this]
    obtain ⟨⟨tl⟩⟩:=t
    have h0:tl=[]:=List.isEmpty_iff.1 ht
    subst h0
    have h1:∀ l:List UInt8,(⟨l.toArray⟩:ByteArray).toList=l:=fun l=>by simp
    rw [h1,show (⟨⟨([]:List UInt8)⟩⟩:ByteArray)=⟨([]:List UInt8).toArray⟩ from rfl,h1]
    cases txt (e.ev β) <;> rfl
   ·cases hh
  ·cases hh
 ·split at hh
  ·rename_i k e k' e' h1 h2
   split at hh
   ·rename_i hk
    subst hk
    obtain ⟨p,hp,rfl⟩:=Option.map_eq_some_iff.1 hh
    have hs:=List.find?_some hp
    simp only [Bool.and_eq_true] at hs
    obtain ⟨x1,g1,g2⟩:=oV (β:=β) h1 hf
    obtain ⟨x2,g3,g4⟩:=oV (β:=β) h2 hf
    exact .inr ⟨k,x1,x2,g1,g3,o7 p (List.mem_of_find?_eq_some hp) x1 x2 (by rw [RE.beq_eq hs.1];exact g2) (by rw [RE.beq_eq hs.2];exact g4)⟩
   ·cases hh
  ·cases hh
end
def HTx (β:Nat→Rat) (h:Hint) (ok:h.Ok β) (T:Ari) (okT:T.Ok β) (X:Txt) (okX:X.Ok β):Tests (SQ β):=
 { HAr β h ok T okT with
  eq:=fun db c d=>match eqX X db c d with
   | some x=>some x
   | none=>(HAr β h ok T okT).eq db c d
  ok:=fun {fs c d x} hh ρ W hf=>by
   split at hh
   ·rename_i y hy
    cases hh
    exact TL okX hy hf
   ·exact (HAr β h ok T okT).ok hh ρ W hf
  so:=soN X
  soOk:=fun hh ρ W hf=>ZC okX hh hf }
def HTi (β:Nat→Rat) (h:Hint) (ok:h.Ok β) (T:Ari) (okT:T.Ok β) (X:Txt) (okX:X.Ok β) (L:List (RE×RE)) (okL:dH β L):Tests (SQ β):=
 { HTx β h ok T okT X okX with
  inc:=ED L
  incOk:=fun hh ρ W hf=>UG okL hh ρ W hf }
end Rx
namespace Z4
open Go.RowKit Go.Sort
structure lU (xs ys ds:List Nat) (k c:Nat):Prop where
 len:ds.length=k
 dig:Dig ds
 le:c≤1
 eq:val ds+c*B4 ^ k=val (xs.take k)+val (ys.take k)
 top:k=0∨(∃ e d,ds=e ++ [d]∧d≠0)∨k<xs.length∨k<ys.length∨0<c
 b1:k≤xs.length+ys.length+1
 b2:0<c→k≤xs.length+ys.length
theorem lU.start (xs ys:List Nat):lU xs ys [] 0 0:=⟨rfl,Dig.nil,by omega,by simp [val],.inl rfl,by omega,by omega⟩
theorem Oc (xs:List Nat) (k:Nat):val (xs.take (k+1))=val (xs.take k)+B4 ^ k*xs[k]?.getD 0:=by
 by_cases hk:k<xs.length
 ·rw [AP xs k hk,List.getElem?_eq_getElem hk];rfl
 ·rw [List.getElem?_eq_none (by omega),List.take_of_length_le (by omega),List.take_of_length_le (by omega)];simp
theorem lU.step {xs ys ds:List Nat} {k c x y d c':Nat} (h:lU xs ys ds k c) (hgo:k<xs.length∨k<ys.length∨0<c) (tx:aC xs) (ty:aC ys) (hx:xs[k]?.getD 0=x) (hy:ys[k]?.getD 0=y) (hd:d<10000) (hc:c'≤1) (e:c+x+y=d+c' * 10000) (e0:k<xs.length→x<10000) (e1:k<ys.length→y<10000) :
  lU xs ys (ds ++ [d]) (k+1) c':=by
 have hb:xs.length≤k→x=0:=fun h=>by rw [← hx,List.getElem?_eq_none h];rfl
 have hb':ys.length≤k→y=0:=fun h=>by rw [← hy,List.getElem?_eq_none h];rfl
 have hle:=h.le
 have hb1:=h.b1
 have hb2:=h.b2
 have hlast:k+1=xs.length→x≠0:=fun hk e0=>by
  have hne:xs≠[]:=fun e=>by subst e;simp at hk
  have:=tx hne
  rw [List.getLast_eq_getElem] at this
  apply this
  rw [← e0,← hx,List.getElem?_eq_getElem (by omega)]
  simp only [Option.getD_some]
  congr 1
  omega
 have hlast':k+1=ys.length→y≠0:=fun hk e0=>by
  have hne:ys≠[]:=fun e=>by subst e;simp at hk
  have:=ty hne
  rw [List.getLast_eq_getElem] at this
  apply this
  rw [← e0,← hy,List.getElem?_eq_getElem (by omega)]
  simp only [Option.getD_some]
  congr 1
  omega
 refine ⟨by simp [h.len],h.dig.append (fun z hz=>by simp at hz;subst hz;exact hd),hc,?_,?_,?_,?_⟩
 ·have h1:=h.eq
  rw [Oc xs,Oc ys,iK,h.len,Nat.pow_succ,hx,hy,show B4=10000 from rfl]
  rw [show B4=10000 from rfl] at h1
  generalize 10000 ^ k=P at *
  generalize val (xs.take k)=X at *
  generalize val (ys.take k)=Y at *
  generalize val ds=D at *
  have:=congrArg (P * ·) e
  grind
 ·right
  by_cases hd0:d=0
  ·right
   subst hd0
   rcases Nat.eq_zero_or_pos c' with hc0 | hc0
   ·subst hc0
    have:c=0∧x=0∧y=0:=by omega
    obtain ⟨rfl,rfl,rfl⟩:=this
    rcases Nat.lt_trichotomy (k+1) xs.length with h1 | h1 | h1
    ·exact .inl h1
    ·exact absurd rfl (hlast h1)
    ·rcases Nat.lt_trichotomy (k+1) ys.length with h2 | h2 | h2
     ·exact .inr (.inl h2)
     ·exact absurd rfl (hlast' h2)
     ·omega
   ·exact .inr (.inr hc0)
  ·exact .inl ⟨ds,d,rfl,hd0⟩
 ·omega
 ·intro hc0
  by_cases h1:k<xs.length
  ·omega
  ·by_cases h2:k<ys.length
   ·omega
   ·have:=hb (by omega);have:=hb' (by omega);omega
theorem lU.done {xs ys ds:List Nat} {k:Nat} (h:lU xs ys ds k 0) (h1:xs.length≤k) (h2:ys.length≤k):val ds=val xs+val ys∧aC ds:=by
 refine ⟨?_,?_⟩
 ·have:=h.eq
  rw [List.take_of_length_le h1,List.take_of_length_le h2] at this
  omega
 ·intro hne
  rcases h.top with h3 | ⟨e,d,rfl,hd⟩ | h3 | h3 | h3
  ·exfalso;apply hne;rw [← List.length_eq_zero_iff,h.len,h3]
  ·simpa using hd
  ·omega
  ·omega
  ·omega
theorem XC (p p2:Option Addr) (b o k b2 o2 k2:Nat) (xs ys:List Nat) (w:World) (hp:xs.length≠0→p=some ⟨b,o,none⟩) (hbw:xs.length≠0→b<w.heap.size) (hx:Ints w b o xs) (hp2:ys.length≠0→p2=some ⟨b2,o2,none⟩) (hbw2:ys.length≠0→b2<w.heap.size) (hy:Ints w b2 o2 ys)
  (dx:Dig xs) (dy:Dig ys) (tx:aC xs) (ty:aC ys) (hsz:xs.length≤549755813888) (hsz2:ys.length≤549755813888) :
  Calls Tryz.prog 87 #[.slice p xs.length k,.slice p2 ys.length k2] w (jY w (val xs+val ys)):=by
 have HP:=hid (And.intro hp (And.intro hbw hx))
 have HP2:=hid (And.intro hp2 (And.intro hbw2 hy))
 have HT:=hid (And.intro tx ty)
 clear hp hbw hx hp2 hbw2 hy tx ty
 obtain ⟨i0,hi,hz0,hz1,hz2⟩:=info_parts oK
 obtain ⟨V,hV⟩:∃ V,val xs+val ys=V:=⟨_,rfl⟩
 rw [hV]
 have HVV:=hid hV
 clear hV
 go_enter Tryz.func87,Tryz.ntmps87
 go_wp2
 go_loopw [5,6,7] (fun ov cv iv wr=>∃ (i c:Nat) (ds:List Nat),iv=.int .i64 i∧cv=.int .i64 c∧wr.ownsRow w.heap.size 3 1 ov i (ds.map enc)∧lU xs ys ds i c∧Below w.heap.size w wr) (fun _ _ iv _=>(xs.length+ys.length+1) - (intOf iv).toNat)
 case atStart=>exact ⟨0,0,[],rfl,rfl,World.ownsRow_nil _ _ _ _,lU.start xs ys,Below.refl _ _⟩
 case round =>
  obtain ⟨i,c,ds,rfl,rfl,hown,hI,hB⟩:=hrel
  have hc1:=hI.le
  have hb1:=hI.b1
  have hb2:=hI.b2
  have HB:=hid hB
  have HO:=hid hown
  by_cases hgo:i<xs.length∨i<ys.length∨0<c
  ·obtain ⟨x,hxi⟩:∃ x,xs[i]?.getD 0=x:=⟨_,rfl⟩
   obtain ⟨y,hyi⟩:∃ y,ys[i]?.getD 0=y:=⟨_,rfl⟩
   have hx1:x<10000:=hxi ▸ dx.getD i
   have hy1:y<10000:=hyi ▸ dy.getD i
   have HI:=hid (fun (d c':Nat) (hd:d<10000) (hc:c'≤1) (e:c+x+y=d+c' * 10000) (e0:k=k) (e1:k=k)=>hI.step hgo HT.out.1 HT.out.2 hxi hyi hd hc e (fun _=>hx1) (fun _=>hy1))
   have HX:=hid hxi
   have HY:=hid hyi
   clear hI hxi hyi hB hown
   by_cases hlx:i<xs.length
   ·by_cases hly:i<ys.length
    ·clear hgo
     obtain rfl:=HP.out.1 (by omega)
     have cx:wr.cell? ⟨b,o+i,none⟩=some (.int .i64 (x:Int)):=by rw [HB.out.cell (p:=⟨b,o+i,none⟩) (HP.out.2.1 (by omega)),HP.out.2.2 i (by omega),HX.out]
     obtain rfl:=HP2.out.1 (by omega)
     have cy:wr.cell? ⟨b2,o2+i,none⟩=some (.int .i64 (y:Int)):=by rw [HB.out.cell (p:=⟨b2,o2+i,none⟩) (HP2.out.2.1 (by omega)),HP2.out.2.2 i (by omega),HY.out]
     obtain ⟨s,hs⟩:∃ s:Nat,s=c+x+y:=⟨_,rfl⟩
     obtain ⟨d,hd⟩:∃ d:Nat,d=s % 10000:=⟨_,rfl⟩
     obtain ⟨c',hc'⟩:∃ c':Nat,c' = s / 10000:=⟨_,rfl⟩
     have hd1:d<10000:=by omega
     have HN:=hid (HI.out d c' hd1 (by omega) (by omega) (by omega) (by omega))
     have HD:=hid (And.intro hs (And.intro hd hc'))
     clear hs hd hc' hd1
     go_wp2_with (first
      | (at_builtin;refine wpList_append_own _ rfl _ _ 33 rfl w.heap.size 3 i0 (.int .i64 0) 1 8 Tryz.underlying33 hi hz0 hz1 hz2 rfl (by decide) _ _ _ rfl (HO.out.alloc _) ⟨wr.heap.size,0,none⟩ 1 1 [.int .i64 (d:Int)] rfl rfl ?c1 ?c2 ?c3 ?c4 ?c5 ?_))
     case c1 =>
      intro j u hj
      match j,hj with
      | 0,hj=>simp at hj;subst hj;have:=HD.out;first | (simp;omega) | (simp [Addr.add];omega) | (simp [Addr.add])
     case c2=>first | rfl | (intro u hu;simp at hu;subst hu;rfl)
     case c3=>unfold maxLen;omega
     case c4=>omega
     case c5=>have:=HB.out.size;simp;omega
     intro v' w1 hown' hgrow _
     have hB2:Below w.heap.size w w1:=(HB.out.alloc HB.out.size _).grown hgrow (by have:=HB.out.size;simp;omega) (fun k hk=>(HO.out.lt k hk).1)
     rw [← jI] at hown'
     have HO2:=hid hown'
     have HB2:=hid hB2
     clear hown' hgrow hB2
     go_wp2
     go_roundw
     case rel=>exact ⟨i+1,c',ds ++ [d],by go_num,by have:=HD.out;first | rfl | (congr 1;omega),HO2.out,HN.out,HB2.out⟩
     case measure=>simp [intOf];omega
    ·clear hgo
     obtain rfl:=HP.out.1 (by omega)
     have cx:wr.cell? ⟨b,o+i,none⟩=some (.int .i64 (x:Int)):=by rw [HB.out.cell (p:=⟨b,o+i,none⟩) (HP.out.2.1 (by omega)),HP.out.2.2 i (by omega),HX.out]
     obtain rfl:y=0:=by rw [← HY.out,List.getElem?_eq_none (by omega)];rfl
     obtain ⟨s,hs⟩:∃ s:Nat,s=c+x+0:=⟨_,rfl⟩
     obtain ⟨d,hd⟩:∃ d:Nat,d=s % 10000:=⟨_,rfl⟩
     obtain ⟨c',hc'⟩:∃ c':Nat,c' = s / 10000:=⟨_,rfl⟩
     have hd1:d<10000:=by omega
     have HN:=hid (HI.out d c' hd1 (by omega) (by omega) (by omega) (by omega))
     have HD:=hid (And.intro hs (And.intro hd hc'))
     clear hs hd hc' hd1
     go_wp2_with (first
      | (at_builtin;refine wpList_append_own _ rfl _ _ 33 rfl w.heap.size 3 i0 (.int .i64 0) 1 8 Tryz.underlying33 hi hz0 hz1 hz2 rfl (by decide) _ _ _ rfl (HO.out.alloc _) ⟨wr.heap.size,0,none⟩ 1 1 [.int .i64 (d:Int)] rfl rfl ?c1 ?c2 ?c3 ?c4 ?c5 ?_))
     case c1 =>
      intro j u hj
      match j,hj with
      | 0,hj=>simp at hj;subst hj;have:=HD.out;first | (simp;omega) | (simp [Addr.add];omega) | (simp [Addr.add])
     case c2=>first | rfl | (intro u hu;simp at hu;subst hu;rfl)
     case c3=>unfold maxLen;omega
     case c4=>omega
     case c5=>have:=HB.out.size;simp;omega
     intro v' w1 hown' hgrow _
     have hB2:Below w.heap.size w w1:=(HB.out.alloc HB.out.size _).grown hgrow (by have:=HB.out.size;simp;omega) (fun k hk=>(HO.out.lt k hk).1)
     rw [← jI] at hown'
     have HO2:=hid hown'
     have HB2:=hid hB2
     clear hown' hgrow hB2
     go_wp2
     go_roundw
     case rel=>exact ⟨i+1,c',ds ++ [d],by go_num,by have:=HD.out;first | rfl | (congr 1;omega),HO2.out,HN.out,HB2.out⟩
     case measure=>simp [intOf];omega
   ·by_cases hly:i<ys.length
    ·clear hgo
     obtain rfl:x=0:=by rw [← HX.out,List.getElem?_eq_none (by omega)];rfl
     obtain rfl:=HP2.out.1 (by omega)
     have cy:wr.cell? ⟨b2,o2+i,none⟩=some (.int .i64 (y:Int)):=by rw [HB.out.cell (p:=⟨b2,o2+i,none⟩) (HP2.out.2.1 (by omega)),HP2.out.2.2 i (by omega),HY.out]
     obtain ⟨s,hs⟩:∃ s:Nat,s=c+0+y:=⟨_,rfl⟩
     obtain ⟨d,hd⟩:∃ d:Nat,d=s % 10000:=⟨_,rfl⟩
     obtain ⟨c',hc'⟩:∃ c':Nat,c' = s / 10000:=⟨_,rfl⟩
     have hd1:d<10000:=by omega
     have HN:=hid (HI.out d c' hd1 (by omega) (by omega) (by omega) (by omega))
     have HD:=hid (And.intro hs (And.intro hd hc'))
     clear hs hd hc' hd1
     go_wp2_with (first
      | (at_builtin;refine wpList_append_own _ rfl _ _ 33 rfl w.heap.size 3 i0 (.int .i64 0) 1 8 Tryz.underlying33 hi hz0 hz1 hz2 rfl (by decide) _ _ _ rfl (HO.out.alloc _) ⟨wr.heap.size,0,none⟩ 1 1 [.int .i64 (d:Int)] rfl rfl ?c1 ?c2 ?c3 ?c4 ?c5 ?_))
     case c1 =>
      intro j u hj
      match j,hj with
      | 0,hj=>simp at hj;subst hj;have:=HD.out;first | (simp;omega) | (simp [Addr.add];omega) | (simp [Addr.add])
     case c2=>first | rfl | (intro u hu;simp at hu;subst hu;rfl)
     case c3=>unfold maxLen;omega
     case c4=>omega
     case c5=>have:=HB.out.size;simp;omega
     intro v' w1 hown' hgrow _
     have hB2:Below w.heap.size w w1:=(HB.out.alloc HB.out.size _).grown hgrow (by have:=HB.out.size;simp;omega) (fun k hk=>(HO.out.lt k hk).1)
     rw [← jI] at hown'
     have HO2:=hid hown'
     have HB2:=hid hB2
     clear hown' hgrow hB2
     go_wp2
     go_roundw
     case rel=>exact ⟨i+1,c',ds ++ [d],by go_num,by have:=HD.out;first | rfl | (congr 1;omega),HO2.out,HN.out,HB2.out⟩
     case measure=>simp [intOf];omega
    ·have hc0:0<c:=by omega
     clear hgo
     obtain rfl:x=0:=by rw [← HX.out,List.getElem?_eq_none (by omega)];rfl
     obtain rfl:y=0:=by rw [← HY.out,List.getElem?_eq_none (by omega)];rfl
     have hcc:0<c:=by omega
     obtain rfl:c=1:=by omega
     obtain ⟨s,hs⟩:∃ s:Nat,s=1+0+0:=⟨_,rfl⟩
     obtain ⟨d,hd⟩:∃ d:Nat,d=s % 10000:=⟨_,rfl⟩
     obtain ⟨c',hc'⟩:∃ c':Nat,c' = s / 10000:=⟨_,rfl⟩
     have hd1:d<10000:=by omega
     have HN:=hid (HI.out d c' hd1 (by omega) (by omega) (by omega) (by omega))
     have HD:=hid (And.intro hs (And.intro hd hc'))
     clear hs hd hc' hd1
     go_wp2_with (first
      | (at_builtin;refine wpList_append_own _ rfl _ _ 33 rfl w.heap.size 3 i0 (.int .i64 0) 1 8 Tryz.underlying33 hi hz0 hz1 hz2 rfl (by decide) _ _ _ rfl (HO.out.alloc _) ⟨wr.heap.size,0,none⟩ 1 1 [.int .i64 (d:Int)] rfl rfl ?c1 ?c2 ?c3 ?c4 ?c5 ?_))
     case c1 =>
      intro j u hj
      match j,hj with
      | 0,hj=>simp at hj;subst hj;have:=HD.out;first | (simp;omega) | (simp [Addr.add];omega) | (simp [Addr.add])
     case c2=>first | rfl | (intro u hu;simp at hu;subst hu;rfl)
     case c3=>unfold maxLen;omega
     case c4=>omega
     case c5=>have:=HB.out.size;simp;omega
     intro v' w1 hown' hgrow _
     have hB2:Below w.heap.size w w1:=(HB.out.alloc HB.out.size _).grown hgrow (by have:=HB.out.size;simp;omega) (fun k hk=>(HO.out.lt k hk).1)
     rw [← jI] at hown'
     have HO2:=hid hown'
     have HB2:=hid hB2
     clear hown' hgrow hB2
     go_wp2
     go_roundw
     case rel=>exact ⟨i+1,c',ds ++ [d],by go_num,by have:=HD.out;first | rfl | (congr 1;omega),HO2.out,HN.out,HB2.out⟩
     case measure=>simp [intOf];omega
  ·have hlx:¬ i<xs.length:=by omega
   have hly:¬ i<ys.length:=by omega
   obtain rfl:c=0:=by omega
   clear hgo
   have HD:=hid (hI.done (by omega) (by omega))
   have HL:=hid (IsL.of_own hown)
   have HI:=hid hI
   clear hI hown hB
   go_wp2
   go_ret
   exact ⟨_,_,rfl,HL.out,HI.out.dig,HD.out.2,by rw [HD.out.1,HVV.out],HB.out⟩
theorem Xz {B B2:Nat} (v v2:Value) (xs ys:List Nat) (w:World) (h:IsL B w v xs) (h2:IsL B2 w v2 ys) (dx:Dig xs) (dy:Dig ys) (tx:aC xs) (ty:aC ys) (hsz:xs.length≤549755813888) (hsz2:ys.length≤549755813888) :
  Calls Tryz.prog 87 #[v,v2] w (jY w (val xs+val ys)):=by
 obtain ⟨p,b,o,k,rfl,hp,hb,hk,hx⟩:=h.shape
 obtain ⟨p2,b2,o2,k2,rfl,hp2,hb2,hk2,hy⟩:=h2.shape
 exact XC p p2 b o k b2 o2 k2 xs ys w hp hb hx hp2 hb2 hy dx dy tx ty hsz hsz2
end Z4
section
def flo (r:Rat):Int:=r.num / (r.den:Int)
theorem JL (r:Rat):flo r=r.floor:=by rw [Rat.floor_def];rfl
theorem Ud (r:Rat):(flo r:Rat)≤r:=by rw [JL];exact Rat.floor_le r
theorem VH (r:Rat):r<(flo r:Rat)+1:=by have:=@Rat.lt_floor r;rw [JL];grind
theorem Uc {r:Rat} {n:Int} (h1:(n:Rat)≤r) (h2:r<(n:Rat)+1):flo r=n:=by
 have a1:=Ud r
 have a2:=VH r
 have b1:(n:Rat)<(flo r:Rat)+1:=by grind
 have b2:(flo r:Rat)<(n:Rat)+1:=by grind
 have c1:n<flo r+1:=by exact_mod_cast b1
 have c2:flo r<n+1:=by exact_mod_cast b2
 omega
theorem Ub (z:Int) (d:Nat) (hd:0<d):flo ((z:Rat) / ((d:Int):Rat))=z / (d:Int):=by
 have hd':(0:Rat)<((d:Int):Rat):=by exact_mod_cast (show (0:Int)<d by omega)
 have hm:=Int.mul_ediv_add_emod z d
 have h0:=Int.emod_nonneg z (show (d:Int)≠0 by omega)
 have h1:=Int.emod_lt_of_pos z (show (0:Int)<d by omega)
 refine Uc ?_ ?_
 ·rw [← Rat.not_lt,Rat.div_lt_iff hd',Rat.not_lt,← Rat.intCast_mul]
  have:z / (d:Int)*d≤z:=by rw [Int.mul_comm];omega
  exact_mod_cast this
 ·rw [Rat.div_lt_iff hd',← show ((z / (d:Int)+1:Int):Rat)=((z / (d:Int):Int):Rat)+1 by rw [Rat.intCast_add];rfl,← Rat.intCast_mul]
  have:z<(z / (d:Int)+1)*d:=by rw [Int.add_mul,Int.mul_comm];omega
  exact_mod_cast this
end
namespace Rx
open Go.RowKit
def je:RE→Bool
 | .den _=>true
 | .mul a b=>je a && je b
 | .c n=>decide (0<n)
 | _=>false
theorem qX {β:Nat→Rat}:∀ {e:RE},je e=true→e.ev β≠0
 | .den a,_=>fun h=>by
  have h1:((((a.ev β).den:Nat):Int):Rat)=((0:Int):Rat):=h
  have h2:(((a.ev β).den:Nat):Int)=0:=by exact_mod_cast h1
  have:=(a.ev β).den_nz
  omega
 | .mul a b,h=>by
  simp only [je,Bool.and_eq_true] at h
  intro h0
  rcases Rat.mul_eq_zero.1 (show a.ev β*b.ev β=0 from h0) with h1 | h1
  ·exact qX h.1 h1
  ·exact qX h.2 h1
 | .c n,h=>fun h0=>by
  simp only [je,decide_eq_true_eq] at h
  have h1:((n:Int):Rat)=((0:Int):Rat):=h0
  have:n=0:=by exact_mod_cast h1
  omega
 | .v _,h | .add _ _,h | .sub _ _,h | .div _ _,h | .neg _,h | .abs _,h | .flo _,h | .num _,h=>by cases h
theorem Ad {β:Nat→Rat}:∀ {e:RE},je e=true→0<e.ev β
 | .den a,_=>by
  show (0:Rat)<((((a.ev β).den:Nat):Int):Rat)
  exact_mod_cast show (0:Int)<(((a.ev β).den:Nat):Int) by have:=(a.ev β).den_pos;omega
 | .mul a b,h=>by
  simp only [je,Bool.and_eq_true] at h
  exact Rat.mul_pos (Ad h.1) (Ad h.2)
 | .c n,h=>by
  simp only [je,decide_eq_true_eq] at h
  show (0:Rat)<((n:Int):Rat)
  exact_mod_cast h
 | .v _,h | .add _ _,h | .sub _ _,h | .div _ _,h | .neg _,h | .abs _,h | .flo _,h | .num _,h=>by cases h
def rem (e e':RE):RE:=.sub e (.mul e' (.flo (.div e e')))
theorem Ag {β:Nat→Rat} {n m:Nat} (hm:0<m) {e e':RE} (h:((n:Nat):Rat)=e.ev β) (h':((m:Nat):Rat)=e'.ev β):((n / m:Nat):Rat)=(RE.flo (.div e e')).ev β:=by
 show _=((flo (e.ev β / e'.ev β):Int):Rat)
 rw [← h,← h',show ((n:Nat):Rat) / ((m:Nat):Rat)=(((n:Nat):Int):Rat) / (((m:Nat):Int):Rat) from rfl,Ub _ _ hm,← Int.natCast_ediv]
 rfl
theorem Gf {β:Nat→Rat} {n m:Nat} (hm:0<m) {e e':RE} (h:((n:Nat):Rat)=e.ev β) (h':((m:Nat):Rat)=e'.ev β):((n % m:Nat):Rat)=(rem e e').ev β:=by
 show _=e.ev β - e'.ev β*(RE.flo (.div e e')).ev β
 rw [← Ag hm h h',← h,← h',← Rat.natCast_mul]
 have:=congrArg (fun x:Nat=>(x:Rat)) (Nat.div_add_mod n m)
 simp only [Rat.natCast_add] at this
 grind
end Rx
namespace Rx
open Go.RowKit
inductive Fd
 | l (s:Nat) (e:RE) (k:Nat)
 | z (s:Nat) (e:RE) (k:Nat)
 | r (s:Nat) (e:RE) (k:Nat)
 | n (b s:Nat)
 | i (s:Nat) (e:RE)
def Fd.nm:Fd→List Nat
 | .n b s=>[b,s]
 | .i s _=>[s]
 | .l s _ _ | .z s _ _=>[s]
 | .r s _ _=>[s,s+1]
def IsG (W:World) (v:Value) (r:Rat) (k:Nat):Prop:=∃ xs,Z4.IsL 0 W v xs∧Z4.Dig xs∧Z4.aC xs∧((Z4.val xs:Nat):Rat)=r∧Z4.val xs<B64 ^ k
def IsY (W:World) (v:Value) (r:Rat) (k:Nat):Prop:=∃ z:Int,Z4.IsZ W v z∧(z:Rat)=r∧z.natAbs<B64 ^ k
def Fd.on (β:Nat→Rat) (ρ:Env):Fd→World→Prop
 | .l s e k,W=>IsG W (.slice (ρ s).p (ρ s).l (ρ s).c) (e.ev β) k
 | .z s e k,W=>IsY W (.agg ((zC s).map (Cell.den ρ)).toArray) (e.ev β) k
 | .r s e k,W=>Z4.IsR W (.agg ((dw s).map (Cell.den ρ)).toArray) (e.ev β)∧Fits k (e.ev β)
 | .n b s,_=>(ρ b).u=((ρ s).l:Int)
 | .i s e,_=>(((ρ s).u:Int):Rat)=e.ev β
def iF:List Fd→Nat→Option (RE×Nat)
 | [],_=>none
 | .l s e k :: r,n=>if s=n then some (e,k) else iF r n
 | _ :: r,n=>iF r n
theorem gy {n:Nat} {e:RE} {k:Nat}:∀ {db:List Fd},iF db n=some (e,k)→.l n e k∈db
 | [],h=>by simp [iF] at h
 | f :: r,h=>by
  cases f with
  | l s e' k' =>
   simp only [iF] at h
   split at h
   ·rename_i hs;cases h;subst hs;simp
   ·exact List.mem_cons_of_mem _ (gy h)
  | z _ _ _=>exact List.mem_cons_of_mem _ (gy h)
  | r _ _ _=>exact List.mem_cons_of_mem _ (gy h)
  | n _ _=>exact List.mem_cons_of_mem _ (gy h)
  | i _ _=>exact List.mem_cons_of_mem _ (gy h)
def SR (β:Nat→Rat):Sys where
 F:=Fd
 nm:=Fd.nm
 on:=Fd.on β
 okC:=okC
 cg:=fun {ρ ρ' f W} h hf=>by
  cases f with
  | l s e k=>simp only [Fd.on] at hf ⊢;rw [← h s (by simp [Fd.nm])];exact hf
  | z s e k =>
   simp only [Fd.nm,List.mem_cons,List.not_mem_nil,or_false] at h
   simp only [Fd.on] at hf ⊢
   rwa [kW (ρ:=ρ') (ρ':=ρ) (l:=zC s) fun n hn=>(h n (by simpa [zC,Cell.nm] using hn)).symm]
  | r s e k =>
   simp only [Fd.nm,List.mem_cons,List.not_mem_nil,or_false] at h
   simp only [Fd.on] at hf ⊢
   rwa [kW (ρ:=ρ') (ρ':=ρ) (l:=dw s) fun n hn=>(h n (by simpa [dw,Cell.nm] using hn)).symm]
  | n b t=>simp only [Fd.on] at hf ⊢;rw [← h b (by simp [Fd.nm]),← h t (by simp [Fd.nm])];exact hf
  | i t e=>simp only [Fd.on] at hf ⊢;rw [← h t (by simp [Fd.nm])];exact hf
 bl:=fun {ρ f W W'} hb hf=>by
  cases f with
  | l s e k=>obtain ⟨xs,h1,h2⟩:=hf;exact ⟨xs,h1.below hb,h2⟩
  | z s e k=>obtain ⟨z,h1,h2⟩:=hf;exact ⟨z,h1.below hb,h2⟩
  | r s e k=>exact ⟨Z4.IsR.below hf.1 hb,hf.2⟩
  | n b t=>exact hf
  | i t e=>exact hf
 st:=fun {ρ f W b T cs i u} hok _ hb hf=>by
  have hv:=zX ρ hok
  have hb':Go.Proofs.YtancpaiaoamjlaaGreatDoor.Bx W b T (cs.map (Cell.den ρ)):=hb
  cases f with
  | l s e k=>obtain ⟨xs,h1,h2⟩:=hf;exact ⟨xs,h1.setBox hb' hv,h2⟩
  | z s e k=>obtain ⟨z,h1,h2⟩:=hf;exact ⟨z,h1.setBox hb' hv,h2⟩
  | r s e k=>exact ⟨Z4.IsR.setBox hf.1 hb' hv,hf.2⟩
  | n b t=>exact hf
  | i t e=>exact hf
 lit:=fun x b=>if 0<x∧x<10000 then [.l b (.c x) 1] else []
 litOk:=fun {x b f ρ W T} hm h1 h2 h3=>by
  split at hm
  ·rename_i hx
   rw [List.mem_singleton] at hm
   subst hm
   obtain ⟨m,rfl⟩:∃ m:Nat,x=(m:Int):=⟨x.toNat,by omega⟩
   show IsG _ (.slice (ρ b).p (ρ b).l (ρ b).c) _ 1
   rw [h1,h2,h3]
   refine ⟨[m],.inr ⟨W.heap.size,0,1,rfl,Nat.zero_le _,by simp,Nat.le_refl _,fun j hj=>?_⟩,fun y hy=>?_,fun _=>?_,?_,?_⟩
   ·have:j=0:=by simpa using hj
    subst this
    go_simp
   ·rw [List.mem_singleton] at hy;subst hy;show _<10000;omega
   ·simp;omega
   ·simp [Z4.val,RE.ev];rfl
   ·simp [Z4.val];unfold B64;omega
  ·cases hm
 elt:=fun db s j b=>match j,iF db s with
  | 0,some (e,_)=>if je e then some [.i b (rem e (.c 10000))] else none
  | _,_=>none
 eltOk:=fun {db s j b fs ρ W} h hf=>by
  split at h
  ·rename_i e k hx
   split at h
   ·rename_i hp
    cases h
    obtain ⟨xs,h1,h2,h3,h4,-⟩:=(show IsG W (.slice (ρ s).p (ρ s).l (ρ s).c) (e.ev β) k from hf _ (gy hx))
    have hpos:=Ad (β:=β) hp
    rcases h1 with ⟨-,rfl⟩ | ⟨b0,o,k0,hv,-,-,-,h5⟩
    ·exfalso
     rw [← h4] at hpos
     exact absurd hpos (by decide)
    ·obtain ⟨hp1,hp2,-⟩:=Value.slice.inj hv
     cases xs with
     | nil=>exfalso;rw [← h4] at hpos;exact absurd hpos (by decide)
     | cons x r =>
      have hc:=h5 0 (by simp)
      refine ⟨by rw [hp2];simp,_,(x:Int),hp1,by rw [vG];exact hc,fun ρ' _ hu f hm=>?_⟩
      rw [List.mem_singleton] at hm
      subst hm
      show (((ρ' b).u:Int):Rat)=_
      rw [hu]
      have hx1:x<10000:=h2 x (by simp)
      have:=Gf (β:=β) (n:=Z4.val (x :: r)) (m:=10000) (e:=e) (e':=.c 10000) (by decide) h4 rfl
      rw [← this,show Z4.val (x :: r) % 10000=x by show (x+10000*Z4.val r) % 10000=x;omega]
      rfl
   ·cases h
  ·cases h
 len:=fun s b=>[.n b s]
 lenOk:=fun {s b f ρ W} hm h=>by
  rw [List.mem_singleton] at hm
  subst hm
  exact h
def HR (β:Nat→Rat):Tests (SR β) where
 eq:=fun _ _ _=>none
 ok:=fun h=>(by cases h)
theorem vM (k:Nat):B64 ^ k≤Z4.B4 ^ (5*k):=by
 rw [Nat.pow_mul]
 exact Nat.pow_le_pow_left (by decide) k
theorem qM {xs:List Nat} {k:Nat} (t:Z4.aC xs) (h:Z4.val xs<B64 ^ k):xs.length≤5*k:=Z4.jw t (Nat.lt_of_lt_of_le h (vM k))
def asG (db:List Fd):Cell→Option (RE×Nat)
 | .os s=>iF db s
 | .nils=>some (.c 0,0)
 | _=>none
theorem kU {β:Nat→Rat} {ρ:Env} {W:World} {db:List Fd} {c:Cell} {e:RE} {k:Nat} (h:asG db c=some (e,k)) (hf:∀ f∈db,(SR β).on ρ f W):IsG W (c.den ρ) (e.ev β) k:=by
 unfold asG at h
 split at h
 ·exact hf _ (gy h)
 ·cases h
  exact ⟨[],Z4.IsL.nil 0 W,Z4.Dig.nil,fun h=>absurd rfl h,rfl,by simp [Z4.val]⟩
 ·cases h
section
variable (β:Nat→Rat) (h:Hint)
def Dt:Con (SR β) where
 fn:=87
 app:=fun db b args=>match args with
  | [.e (.s x),.e (.s y)]=>match asG db x,asG db y with
   | some (e,k),some (e',k')=>if decide (k≤K1) && decide (k'≤K1) then some (.e (.s (.os b)),[.l b (.add e e') (max k k' + 1)]) else none
   | _,_=>none
  | _=>none
def Dk:Con (SR β) where
 fn:=88
 app:=fun db b args=>match args with
  | [.e (.s x),.e (.s y)]=>match asG db x,asG db y with
   | some (e,k),some (e',k')=>if decide (k≤K1) && decide (k'≤K1) && (cmB h e e').any (0≤·) then some (.e (.s (.os b)),[.l b (.sub e e') k]) else none
   | _,_=>none
  | _=>none
def CQ:Con (SR β) where
 fn:=74
 app:=fun db _ args=>match args with
  | [.e (.s x),.e (.s y)]=>match asG db x,asG db y with
   | some (e,k),some (e',k')=>if decide (k≤K1) && decide (k'≤K1) then (match cmB h e e' with
     | some c=>some (.e (.s (.it .i64 c)),[])
     | none=>none) else none
   | _,_=>none
  | _=>none
def DN:Con (SR β) where
 fn:=52
 app:=fun db _ args=>match args with
  | [.e (.s (.bl t)),.e (.s (.os s))]=>match iF db s with
   | some (e,_)=>if !t then some (.e (.a [.bl false,.os s]),[]) else
     if nzB h e then some (.e (.a [.bl true,.os s]),[]) else
     if eqB h e (.c 0) then some (.e (.a [.bl false,.os s]),[]) else none
   | none=>none
  | _=>none
def cz:List (Con (SR β)):=[Dt β,Dk β h,CQ β h,DN β h]
end
section
variable {β:Nat→Rat} {h:Hint}
def Anr (β:Nat→Rat) (ρ:Env) (b:Nat) (W:World) (res:SV) (new:List Fd) (e:Ending) (W':World):Prop:=
 ∃ ρ':Env,(∀ n,n<b∨b+M≤n→ρ' n=ρ n)∧e=.returned (res.den ρ')∧Below W.heap.size W W'∧∀ g∈new,(SR β).on ρ' g W'
theorem X7 {a b:Nat}:((a:Nat):Rat)<((b:Nat):Rat)↔a<b:=by exact_mod_cast Iff.rfl
theorem Il {f:FuncId} {vals:Array Value} {W:World} {ρ:Env} {b:Nat} {n:Nat} {e:RE} {k:Nat} (hc:Calls Tryz.prog f vals W (Z4.jY W n)) (hn:((n:Nat):Rat)=e.ev β) (hk:n<B64 ^ k) :
  Calls Tryz.prog f vals W (Anr β ρ b W (.e (.s (.os b))) [.l b e k]):=by
 refine hc.mono fun _ W' ⟨v,ds,he,hl,hd,ht,hv,hb⟩=>?_
 obtain ⟨p,l,c,rfl⟩:=hl.mk
 refine ⟨aH ρ b [⟨false,0,p,l,c,.empty,0,default⟩],gI (by simp [M]),?_,hb,fun g hg=>?_⟩
 ·rw [he];simp [SV.den,El.den,Cell.den,aH]
 ·rw [List.mem_singleton] at hg
  subst hg
  refine ⟨ds,?_,hd,ht,by rw [hv];exact hn,by rw [hv];exact hk⟩
  simpa [aH] using hl.mono (Nat.zero_le _)
theorem QV:(Dt β).Ok Tryz.prog (SR β) EV:=by
 refine Con.ok0 rfl ?_
 intro db b args res new ha ρ W hf hE
 simp only [Dt] at ha
 split at ha
 ·split at ha
  ·rename_i x y _ _ e k e' k' hx hy
   split at ha
   ·rename_i hk
    simp only [Bool.and_eq_true,decide_eq_true_eq] at hk
    cases ha
    obtain ⟨xs,h1,h2,h3,h4,h5⟩:=kU hx hf
    obtain ⟨ys,g1,g2,g3,g4,g5⟩:=kU hy hf
    refine Il (e:=.add e e') (Z4.Xz _ _ xs ys W h1 g1 h2 g2 h3 g3 (Nat.le_trans (qM h3 h5) (by simp only [K1] at hk;omega)) (Nat.le_trans (qM g3 g5) (by simp only [K1] at hk;omega))) (by rw [Rat.natCast_add,h4,g4];rfl) ?_
    have a1:=Nat.pow_le_pow_right (show 0<B64 by decide) (Nat.le_max_left k k')
    have a2:=Nat.pow_le_pow_right (show 0<B64 by decide) (Nat.le_max_right k k')
    rw [Nat.pow_succ]
    have:B64 ^ max k k' * 2≤B64 ^ max k k' * B64:=Nat.mul_le_mul_left _ (by decide)
    omega
   ·cases ha
  ·cases ha
 ·cases ha
theorem sO {m n:Nat}:bn ((m:Nat):Rat) ((n:Nat):Rat)=aG m n:=by
 unfold bn aG
 have e:((m:Nat):Rat)=((n:Nat):Rat)↔m=n:=by exact_mod_cast Iff.rfl
 simp only [X7,e]
theorem Qu {m n:Nat} (h:0≤aG m n):n≤m:=by
 unfold aG at h
 split at h
 ·omega
 ·omega
theorem QO (ok:h.Ok β):(Dk β h).Ok Tryz.prog (SR β) EV:=by
 refine Con.ok0 rfl ?_
 intro db b args res new ha ρ W hf hE
 simp only [Dk] at ha
 split at ha
 ·split at ha
  ·rename_i x y _ _ e k e' k' hx hy
   split at ha
   ·rename_i hk
    simp only [Bool.and_eq_true,decide_eq_true_eq] at hk
    cases ha
    obtain ⟨xs,h1,h2,h3,h4,h5⟩:=kU hx hf
    obtain ⟨ys,g1,g2,g3,g4,g5⟩:=kU hy hf
    obtain ⟨c,hc,hc0⟩:∃ c,cmB h e e' = some c∧0≤c:=by
     cases hcm:cmB h e e' with
     | none=>rw [hcm] at hk;simp at hk
     | some c=>rw [hcm] at hk;exact ⟨c,rfl,by simpa using hk.2⟩
    have hle:Z4.val ys≤Z4.val xs:=by
     have:=lZ ok hc
     rw [← h4,← g4,sO] at this
     exact Qu (by omega)
    refine Il (e:=.sub e e') (Z4.qO _ _ xs ys W h1 g1 h2 g2 g3 hle (Nat.le_trans (qM h3 h5) (by simp only [K1] at hk;omega))) ?_ (by omega)
    show _=e.ev β - e'.ev β
    rw [← h4,← g4]
    have:Z4.val xs - Z4.val ys+Z4.val ys=Z4.val xs:=by omega
    have h6:=congrArg (fun n:Nat=>(n:Rat)) this
    simp only [Rat.natCast_add] at h6
    grind
   ·cases ha
  ·cases ha
 ·cases ha
theorem QC (ok:h.Ok β):(CQ β h).Ok Tryz.prog (SR β) EV:=by
 refine Con.ok0 rfl ?_
 intro db b args res new ha ρ W hf hE
 simp only [CQ] at ha
 split at ha
 ·split at ha
  ·rename_i x y _ _ e k e' k' hx hy
   split at ha
   ·rename_i hk
    simp only [Bool.and_eq_true,decide_eq_true_eq] at hk
    split at ha
    ·rename_i c hc
     cases ha
     obtain ⟨xs,h1,h2,h3,h4,h5⟩:=kU hx hf
     obtain ⟨ys,g1,g2,g3,g4,g5⟩:=kU hy hf
     have hcc:=lZ ok hc
     rw [← h4,← g4,sO] at hcc
     refine (Z4.xE _ _ xs ys W h1 g1 h2 g2 h3 g3 (Nat.le_trans (qM h3 h5) (by simp only [K1] at hk;omega)) (Nat.le_trans (qM g3 g5) (by simp only [K1] at hk;omega))).mono fun _ W' ⟨he,q,hq⟩=>⟨ρ,fun _ _=>rfl,?_,?_,fun g hg=>by cases hg⟩
     ·rw [he,hcc];rfl
     ·subst hq
      exact Z4.fG (Below.refl _ _) q
    ·cases ha
   ·cases ha
  ·cases ha
 ·cases ha
theorem Ri (ok:h.Ok β):(DN β h).Ok Tryz.prog (SR β) EV:=by
 refine Con.ok0 rfl ?_
 intro db b args res new ha ρ W hf hE
 simp only [DN] at ha
 split at ha
 ·rename_i t s
  split at ha
  ·rename_i e k hx
   obtain ⟨xs,h1,h2,h3,h4,h5⟩:=hf _ (gy hx)
   have hlen:=h1.len
   have hc:=Z4.NR t (ρ s).p (ρ s).l (ρ s).c W
   have hpos:e.ev β≠0→decide (0<(ρ s).l)=true:=fun hne=>by
    rw [decide_eq_true_eq]
    rcases Nat.eq_zero_or_pos (ρ s).l with h0 | h0
    ·exfalso;apply hne;rw [← h4]
     have:xs=[]:=List.length_eq_zero_iff.1 (by omega)
     subst this;rfl
    ·exact h0
   have hzero:e.ev β=0→decide (0<(ρ s).l)=false:=fun h0=>by
    rw [decide_eq_false_iff_not]
    intro hp
    have hne:xs≠[]:=fun e=>by subst e;simp at hlen;omega
    have:=Z4.nH h3 hne
    have h6:((Z4.val xs:Nat):Rat)=((0:Nat):Rat):=h4.trans h0
    have:Z4.val xs=0:=by exact_mod_cast h6
    omega
   have hans:∀ x:Bool,(t && decide (0<(ρ s).l))=x→Calls Tryz.prog 52 #[.bool t,.slice (ρ s).p (ρ s).l (ρ s).c] W (Anr β ρ b W (.e (.a [.bl x,.os s])) []):=fun x hx=>by
    refine hc.mono fun _ W' ⟨he,hb⟩=>⟨ρ,fun _ _=>rfl,?_,hb,fun g hg=>by cases hg⟩
    rw [he,hx];rfl
   split at ha
   ·rename_i ht
    cases ha
    exact hans false (by simp at ht;simp [ht])
   ·rename_i ht
    have ht':t=true:=by simpa using ht
    split at ha
    ·rename_i hn
     cases ha
     exact hans true (by rw [ht',hpos (jd ok hn)];rfl)
    ·split at ha
     ·rename_i hn
      cases ha
      exact hans false (by rw [hzero ((kD ok hn).trans rfl)];simp)
     ·cases ha
  ·cases ha
 ·cases ha
theorem D9 (ok:h.Ok β):∀ c∈cz β h,c.Ok Tryz.prog (SR β) EV:=by
 unfold cz
 simp only [List.forall_mem_cons,List.not_mem_nil,false_imp_iff,implies_true,and_true]
 exact ⟨QV,QO ok,QC ok,Ri ok⟩
end
end Rx
end Go.Proofs.YtancpaiaoamjlaaGreatDoor
