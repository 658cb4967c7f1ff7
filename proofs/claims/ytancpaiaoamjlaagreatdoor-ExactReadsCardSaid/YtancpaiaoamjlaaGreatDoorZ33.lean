/- What the proof rests on, part 33. -/
import Derived.Test.YtancpaiaoamjlaaGreatDoorZ32
namespace Go.Proofs.YtancpaiaoamjlaaGreatDoor
set_option maxRecDepth 100000
set_option maxHeartbeats 80000000
namespace Rx
open Go.RowKit
def aK (l:List UInt8):Bool:=l != [] && l.all aN
theorem oL {l:List UInt8} (h:bY l=true):l.all aN=true:=by
 simp only [bY,Bool.and_eq_true] at h
 exact h.1.2
theorem Ed {l:List UInt8} (h:aK l=true):l.all aN=true:=by
 simp only [aK,Bool.and_eq_true] at h
 exact h.2
theorem Jc (s:List UInt8) (c:UInt8):(Lib.cut s [c]).1.length+(Lib.cut s [c]).2.1.length≤s.length:=by
 unfold Lib.cut
 split
 ·simp only [List.length_take,List.length_drop,List.length_singleton];omega
 ·simp
theorem Jd {s:List UInt8} {c:UInt8} (h:(Lib.cut s [c]).2.2=false):Lib.cut s [c]=(s,[],false):=by
 unfold Lib.cut at h ⊢
 split at h
 ·cases h
 ·rename_i h0
  rw [if_neg h0]
theorem ZY (l p:List UInt8):(Lib.trimPrefix l p).length≤l.length:=by
 unfold Lib.trimPrefix
 split
 ·rw [List.length_drop];omega
 ·omega
noncomputable def prB (l s top bottom:List UInt8):Nat→Rat:=bet [((enc l:Nat):Rat),((enc s:Nat):Rat),((enc top:Nat):Rat),((enc bottom:Nat):Rat),(((l.length:Nat):Int):Rat),(((bottom.length:Nat):Int):Rat),((dv top:Nat):Rat),((dv bottom:Nat):Rat),
 ((enc (top ++ bottom):Nat):Rat),((dv (top ++ bottom):Nat):Rat),((10 ^ bottom.length:Nat):Rat),((enc []:Nat):Rat)]
section
variable {l s top bottom:List UInt8}
theorem LY (hl:l.length≤1000000) (hb:top.length+bottom.length≤1000000):prX.Ok (prB l s top bottom):=by
 have t0:txt ((RE.v 0).ev (prB l s top bottom))=l:=bI l
 have t2:txt ((RE.v 2).ev (prB l s top bottom))=top:=bI top
 have t3:txt ((RE.v 3).ev (prB l s top bottom))=bottom:=bI bottom
 have t8:txt ((RE.v 8).ev (prB l s top bottom))=top ++ bottom:=bI _
 refine ⟨?_,?_,fun p h=>(by cases h),fun p h=>(by cases h),fun p h=>(by cases h),fun p h=>(by cases h),fun p h=>(by cases h)⟩
 ·simp only [prX,List.forall_mem_cons,List.not_mem_nil,false_imp_iff,implies_true,and_true]
  exact ⟨⟨by rw [t0];omega,by rw [t0];rfl⟩,⟨by rw [t3];omega,by rw [t3];rfl⟩⟩
 ·simp only [prX,List.forall_mem_cons,List.not_mem_nil,false_imp_iff,implies_true,and_true]
  exact ⟨by rw [t2,t3];omega,by rw [t2,t3,t8]⟩
theorem LX {big:Bool} (h:decide (1000<l.length)=big):(prT big).Ok (prB l s top bottom):=by
 refine ⟨fun p h=>(by cases h),fun p h=>(by cases h),fun p hp x y hx hy=>?_⟩
 obtain rfl:=List.mem_singleton.1 hp
 obtain rfl:x=(l.length:Int):=intCast_inj hx
 obtain rfl:y=1000:=intCast_inj hy
 rw [← h]
 exact decide_eq_decide.2 (by omega)
theorem Cj {f:FuncId} {m:List UInt8} {b b':Bool} (hb:b=b') (h:∀ W,Calls Tryz.prog f #[.string ⟨m.toArray⟩] W fun e w'=>e=.returned (.bool b)∧W=w') (W:World):Calls Tryz.prog f #[.string ⟨m.toArray⟩] W (aX W (.bool b')):=
 (h W).mono fun _ _ ⟨h1,h2⟩=>⟨by rw [h1,hb],h2 ▸ Below.refl _ _⟩
theorem XJ:∀ e∈prN,∃ n:Nat,((n:Nat):Rat)=e.ev (prB l s top bottom):=by
 simp only [prN,List.forall_mem_cons,List.not_mem_nil,false_imp_iff,implies_true,and_true]
 exact ⟨⟨_,rfl⟩,⟨_,rfl⟩,⟨_,rfl⟩,⟨_,rfl⟩,⟨1,rfl⟩⟩
theorem Ll {n:Nat} {b:Bool} (h:(n == 0)=b):(b=true→((n:Nat):Rat)=((0:Int):Rat))∧(b=false→((n:Nat):Rat)≠0):=by
 subst h
 refine ⟨fun h=>by rw [eq_of_beq h];rfl,fun h h0=>?_⟩
 have:n=0:=by exact_mod_cast (show ((n:Nat):Rat)=((0:Nat):Rat) from h0)
 rw [beq_eq_false_iff_ne] at h
 exact h this
structure pO (l s top bottom:List UInt8) (K:PrK):Prop where
 κ3:K.κ<3
 len:l.length≤1000
 sl:s.length≤1000
 tl:top.length+bottom.length≤1000
 trim:Lib.trimPrefix l [45]=s
 neg:Lib.hasPrefix l [45]=K.neg
 c0:K.κ=0→Lib.cut s [47]=(top,bottom,true)
 c1:K.κ≠0→Lib.cut s [47]=(s,[],false)
 c2:K.κ=1→Lib.cut s [46]=(top,bottom,true)
 c3:K.κ=2→Lib.cut s [46]=(s,[],false)∧top=s
 t:bY top=K.t
 u0:K.κ=0→bY bottom=K.u
 u1:K.κ=1→aK bottom=K.u
 dz:(dv bottom == 0)=K.dz
 z:(dv (if K.κ=1 then top ++ bottom else top) == 0)=K.z
theorem pO.h {K:PrK} (o:pO l s top bottom K):K.h.Ok (prB l s top bottom):=by
 have hz:(K.z=true→K.sz.ev (prB l s top bottom)=((0:Int):Rat))∧(K.z=false→K.sz.ev (prB l s top bottom)≠0):=by
  have:=Ll o.z
  unfold PrK.sz
  by_cases h:K.κ=1
  ·rw [if_pos h] at this ⊢;exact this
  ·rw [if_neg h] at this ⊢;exact this
 have hd:=Ll o.dz
 refine ⟨fun p hp=>?_,fun p h=>(by cases h),fun p hp=>?_,fun p h=>(by cases h),fun p h=>(by cases h)⟩
 ·rcases List.mem_append.1 hp with hp | hp
  ·split at hp
   ·rename_i h
    simp only [Bool.and_eq_true] at h
    obtain rfl:=List.mem_singleton.1 hp
    exact hd.1 h.2
   ·cases hp
  ·split at hp
   ·rename_i h
    obtain rfl:=List.mem_singleton.1 hp
    exact hz.1 h
   ·cases hp
 ·rcases List.mem_append.1 hp with hp | hp
  ·rcases List.mem_append.1 hp with hp | hp
   ·split at hp
    ·rename_i h
     simp only [Bool.and_eq_true,Bool.not_eq_true'] at h
     obtain rfl:=List.mem_singleton.1 hp
     exact hd.2 h.2
    ·cases hp
   ·split at hp
    ·cases hp
    ·rename_i h
     obtain rfl:=List.mem_singleton.1 hp
     exact hz.2 (by simpa using h)
  ·split at hp
   ·obtain rfl:=List.mem_singleton.1 hp
    show ((10 ^ bottom.length:Nat):Rat)≠0
    intro h0
    have:10 ^ bottom.length=0:=by exact_mod_cast (show ((10 ^ bottom.length:Nat):Rat)=((0:Nat):Rat) from h0)
    have:=Nat.pow_pos (show 0<10 by decide) (n:=bottom.length)
    omega
   ·cases hp
theorem pO.cons {K:PrK} (o:pO l s top bottom K):∀ c∈prC (prB l s top bottom) K,c.Ok Tryz.prog (SQ (prB l s top bottom)) EV:=by
 have t0:txt ((RE.v 0).ev (prB l s top bottom))=l:=bI l
 have t1:txt ((RE.v 1).ev (prB l s top bottom))=s:=bI s
 have t2:txt ((RE.v 2).ev (prB l s top bottom))=top:=bI top
 have t3:txt ((RE.v 3).ev (prB l s top bottom))=bottom:=bI bottom
 have t8:txt ((RE.v 8).ev (prB l s top bottom))=top ++ bottom:=bI _
 have t11:txt ((RE.v 11).ev (prB l s top bottom))=[]:=bI []
 have hs:=o.sl
 have htl:=o.tl
 have h012:K.κ=0∨K.κ=1∨K.κ=2:=by have:=o.κ3;omega
 have ttp:txt (K.tp.ev (prB l s top bottom))=top:=by
  unfold PrK.tp
  split
  ·rename_i h;rw [t1];exact (o.c3 h).2.symm
  ·exact t2
 have mg:∀ m:List UInt8,m.all aN=true→m.length≤1000→∀ k:Nat,k=1001→dv m<B64 ^ k:=fun m h1 h2 k hk=>Nat.lt_trans (ku m h1) (iJ (by omega))
 unfold prC
 simp only [List.forall_mem_cons,List.not_mem_nil,false_imp_iff,implies_true,and_true]
 refine ⟨QF fun p hp=>?_,QG fun p hp=>?_,I5 fun p hp=>?_,I5 fun p hp=>?_,QM fun p hp=>?_,QW fun p hp=>?_,QL o.h,Rf o.h XJ⟩
 ·obtain rfl:=List.mem_singleton.1 hp
  exact ⟨by rw [t0,t1];exact o.trim,by rw [t0];exact o.neg⟩
 ·unfold PrK.cuts at hp
  split at hp
  ·rename_i h
   obtain rfl:=List.mem_singleton.1 hp
   exact ⟨by rw [t1];omega,by rw [t1,t2,t3];exact o.c0 h⟩
  ·rename_i h
   split at hp
   ·rename_i h1
    rcases List.mem_cons.1 hp with rfl | hp
    ·exact ⟨by rw [t1];omega,by rw [t1,t11];exact o.c1 h⟩
    ·obtain rfl:=List.mem_singleton.1 hp
     exact ⟨by rw [t1];omega,by rw [t1,t2,t3];exact o.c2 h1⟩
   ·rename_i h1
    rcases List.mem_cons.1 hp with rfl | hp
    ·exact ⟨by rw [t1];omega,by rw [t1,t11];exact o.c1 h⟩
    ·obtain rfl:=List.mem_singleton.1 hp
     exact ⟨by rw [t1];omega,by rw [t1,t11];exact (o.c3 (by omega)).1⟩
 ·rcases List.mem_cons.1 hp with rfl | hp
  ·rw [ttp]
   exact Cj o.t fun W=>vW top W (by omega)
  ·split at hp
   ·rename_i h
    obtain rfl:=List.mem_singleton.1 hp
    rw [t3]
    exact Cj (o.u0 h) fun W=>vW bottom W (by omega)
   ·cases hp
 ·unfold PrK.aK at hp
  split at hp
  ·rename_i h
   obtain rfl:=List.mem_singleton.1 hp
   rw [t3]
   exact Cj (o.u1 h) fun W=>EH bottom W (by omega)
  ·cases hp
 ·unfold PrK.mags at hp
  rcases List.mem_append.1 hp with hp | hp
  ·rcases List.mem_append.1 hp with hp | hp
   ·split at hp
    ·rename_i h
     obtain rfl:=List.mem_singleton.1 hp
     have hd:=oL (o.t.trans h)
     exact ⟨by rw [ttp];exact hd,by rw [ttp];omega,by rw [ttp];rfl,show 1≤1001 by decide,Nat.lt_of_le_of_lt (Nat.le_of_eq (congrArg dv ttp)) (mg _ hd (by omega) _ rfl)⟩
    ·cases hp
   ·split at hp
    ·rename_i h
     simp only [Bool.and_eq_true,decide_eq_true_eq] at h
     obtain rfl:=List.mem_singleton.1 hp
     have hd:=oL ((o.u0 h.1).trans h.2)
     exact ⟨by rw [t3];exact hd,by rw [t3];omega,by rw [t3];rfl,show 1≤1001 by decide,Nat.lt_of_le_of_lt (Nat.le_of_eq (congrArg dv t3)) (mg _ hd (by omega) _ rfl)⟩
    ·cases hp
  ·split at hp
   ·rename_i h
    simp only [Bool.and_eq_true,decide_eq_true_eq] at h
    obtain rfl:=List.mem_singleton.1 hp
    have hd:(top ++ bottom).all aN=true:=by rw [List.all_append,oL (o.t.trans h.1.2),Ed ((o.u1 h.1.1).trans h.2)];rfl
    exact ⟨by rw [t8];exact hd,by rw [t8,List.length_append];omega,by rw [t8];rfl,show 1≤1001 by decide,Nat.lt_of_le_of_lt (Nat.le_of_eq (congrArg dv t8)) (mg _ hd (by rw [List.length_append];omega) _ rfl)⟩
   ·cases hp
 ·unfold PrK.pows at hp
  split at hp
  ·obtain rfl:=List.mem_singleton.1 hp
   have hb:bottom.length≤1000:=by omega
   exact ⟨bottom.length,rfl,rfl,show 1≤1001 by decide,show 1001≤17179869184 by decide,iJ (show _<1001 from Nat.lt_succ_of_le hb)⟩
  ·cases hp
theorem pO.calls {K:PrK} (o:pO l s top bottom K) {w:World} (hE:EV w):Calls Tryz.prog 28 #[.string ⟨l.toArray⟩] w (dS w (K.res.2.ev (prB l s top bottom)) K.res.1):=by
 have okT:(prT false).Ok (prB l s top bottom):=LX (decide_eq_false (by have:=o.len;omega))
 have okX:prX.Ok (prB l s top bottom):=LY (by have:=o.len;omega) (by have:=o.tl;omega)
 obtain ⟨κ,neg,t,u,dz,z⟩:=K
 have he:(List.map (SV.den (ev [⟨false,0,none,0,0,⟨l.toArray⟩,0,default⟩])) [.e (.s (.ot 0))]).toArray=#[.string ⟨l.toArray⟩]:=rfl
 rw [← he]
 exact Nq o.cons (XL _ okT okX κ o.κ3 neg t u dz z) hE fun g hg=>by
  obtain rfl:=List.mem_singleton.1 hg
  show (⟨l.toArray⟩:ByteArray)=⟨(txt ((enc l:Nat):Rat)).toArray⟩
  rw [bI]
end
theorem Xv {l:List UInt8} (h:1000<l.length) (hl:l.length≤1000000) {w:World} (hE:EV w):Calls Tryz.prog 28 #[.string ⟨l.toArray⟩] w (dS w 0 5):=by
 have okT:(prT true).Ok (prB l [] [] []):=LX (decide_eq_true h)
 have okX:prX.Ok (prB l [] [] []):=LY hl (by decide)
 have he:(List.map (SV.den (ev [⟨false,0,none,0,0,⟨l.toArray⟩,0,default⟩])) [.e (.s (.ot 0))]).toArray=#[.string ⟨l.toArray⟩]:=rfl
 rw [← he]
 exact Nq (e:=.c 0) (fun c h=>absurd h List.not_mem_nil) (XK _ okT okX) hE fun g hg=>by
  obtain rfl:=List.mem_singleton.1 hg
  show (⟨l.toArray⟩:ByteArray)=⟨(txt ((enc l:Nat):Rat)).toArray⟩
  rw [bI]
end Rx
namespace Rx
open Go.RowKit
def kOf (s:List UInt8):Nat:=if (Lib.cut s [47]).2.2 then 0 else if (Lib.cut s [46]).2.2 then 1 else 2
def dM (s:List UInt8):List UInt8:=if kOf s=0 then (Lib.cut s [47]).1 else if kOf s=1 then (Lib.cut s [46]).1 else s
def dZ (s:List UInt8):List UInt8:=if kOf s=0 then (Lib.cut s [47]).2.1 else if kOf s=1 then (Lib.cut s [46]).2.1 else []
def prK (l:List UInt8):PrK where
 κ:=kOf (Lib.trimPrefix l [45])
 neg:=Lib.hasPrefix l [45]
 t:=bY (dM (Lib.trimPrefix l [45]))
 u:=if kOf (Lib.trimPrefix l [45])=0 then bY (dZ (Lib.trimPrefix l [45])) else aK (dZ (Lib.trimPrefix l [45]))
 dz:=dv (dZ (Lib.trimPrefix l [45])) == 0
 z:=dv (if kOf (Lib.trimPrefix l [45])=1 then dM (Lib.trimPrefix l [45]) ++ dZ (Lib.trimPrefix l [45]) else dM (Lib.trimPrefix l [45])) == 0
theorem Vq (s:List UInt8):kOf s<3:=by
 unfold kOf
 split
 ·decide
 ·split <;> decide
theorem zn {s:List UInt8}:kOf s=0↔(Lib.cut s [47]).2.2=true:=by
 unfold kOf
 split
 ·simp_all
 ·split <;> simp_all
theorem Vo {s:List UInt8} (h:kOf s=1):(Lib.cut s [46]).2.2=true:=by
 unfold kOf at h
 split at h
 ·cases h
 ·split at h
  ·assumption
  ·cases h
theorem Vp {s:List UInt8} (h:kOf s=2):(Lib.cut s [46]).2.2=false:=by
 unfold kOf at h
 split at h
 ·cases h
 ·split at h
  ·cases h
  ·rename_i h0;simpa using h0
theorem LW {l:List UInt8} (hl:l.length≤1000):pO l (Lib.trimPrefix l [45]) (dM (Lib.trimPrefix l [45])) (dZ (Lib.trimPrefix l [45])) (prK l):=by
 have h1:=ZY l [45]
 generalize hs:Lib.trimPrefix l [45]=s at h1
 have h3:=Vq s
 have hK:(prK l).κ=kOf s:=by unfold prK;rw [hs]
 have hc1:kOf s≠0→Lib.cut s [47]=(s,[],false):=fun h=>Jd (by
  cases hb:(Lib.cut s [47]).2.2 with
  | false=>rfl
  | true=>exact absurd (zn.2 hb) h)
 refine ⟨by rw [hK];exact h3,hl,by omega,?_,hs,rfl,fun h=>?_,fun h=>hc1 (by rw [← hK];exact h),fun h=>?_,fun h=>?_,?_,fun h=>?_,fun h=>?_,?_,?_⟩
 ·unfold dM dZ
  have c7:=Jc s 47
  have c6:=Jc s 46
  split
  ·omega
  ·split
   ·omega
   ·simp;omega
 ·rw [hK] at h
  have hb:=zn.1 h
  unfold dM dZ
  rw [if_pos h,if_pos h,← hb]
 ·rw [hK] at h
  have hb:=Vo h
  unfold dM dZ
  rw [if_neg (by omega),if_pos h,if_neg (by omega),if_pos h,← hb]
 ·rw [hK] at h
  refine ⟨Jd (Vp h),?_⟩
  unfold dM
  rw [if_neg (by omega),if_neg (by omega)]
 ·unfold prK;rw [hs]
 ·rw [hK] at h
  unfold prK;rw [hs]
  show _=if _ then _ else _
  rw [if_pos h]
 ·rw [hK] at h
  unfold prK;rw [hs]
  show _=if _ then _ else _
  rw [if_neg (by omega)]
 ·unfold prK;rw [hs]
 ·rw [hK];unfold prK;rw [hs]
noncomputable def fU (l:List UInt8):Int×Rat:=
 if 1000<l.length then (5,0) else ((prK l).res.1,(prK l).res.2.ev (prB l (Lib.trimPrefix l [45]) (dM (Lib.trimPrefix l [45])) (dZ (Lib.trimPrefix l [45]))))
theorem Xx {l:List UInt8} (hl:l.length≤1000000) {w:World} (hE:EV w):Calls Tryz.prog 28 #[.string ⟨l.toArray⟩] w (dS w (fU l).2 (fU l).1):=by
 unfold fU
 by_cases h:1000<l.length
 ·rw [if_pos h];exact Xv h hl hE
 ·rw [if_neg h];exact (LW (by omega)).calls hE
end Rx
namespace Rx
open Go.RowKit
theorem J3 {c:UInt8}:∀ {s:List UInt8} {p:Nat},s[p]? = some c→(∀ j:Nat,j<p→s[j]?≠some c)→Lib.index s [c]=(p:Int)
 | [],p,h,_=>by simp at h
 | b :: l,0,h,_=>by
  have:b=c:=by simpa using h
  subst this
  simp [Lib.index]
 | b :: l,p+1,h,hn=>by
  have hb:b≠c:=fun e=>hn 0 (by omega) (by rw [e];rfl)
  have ih:=J3 (s:=l) (p:=p) (by simpa using h) fun j hj=>by simpa using hn (j+1) (by omega)
  have h1:List.isPrefixOf [c] (b :: l)=false:=by
   simp only [List.isPrefixOf,Bool.and_true]
   exact beq_eq_false_iff_ne.2 (Ne.symm hb)
  unfold Lib.index
  rw [h1,ih]
  simp only [Bool.false_eq_true,if_false]
  rw [if_neg (by simp)]
  omega
theorem J4 {c:UInt8}:∀ {s:List UInt8},(∀ j:Nat,s[j]?≠some c)→Lib.index s [c] = -1
 | [],_=>by simp [Lib.index]
 | b :: l,hn=>by
  have hb:b≠c:=fun e=>hn 0 (by rw [e];rfl)
  have ih:=J4 (s:=l) fun j=>by simpa using hn (j+1)
  have h1:List.isPrefixOf [c] (b :: l)=false:=by
   simp only [List.isPrefixOf,Bool.and_true]
   exact beq_eq_false_iff_ne.2 (Ne.symm hb)
  unfold Lib.index
  rw [h1,ih]
  rfl
theorem D6 {s:List UInt8} {c:UInt8} {p:Nat} (h:s[p]? = some c) (hn:∀ j:Nat,j<p→s[j]?≠some c):Lib.cut s [c]=(s.take p,s.drop (p+1),true):=by
 unfold Lib.cut
 rw [J3 h hn,if_pos (by omega)]
 simp
theorem D7 {s:List UInt8} {c:UInt8} (hn:∀ j:Nat,s[j]?≠some c):(Lib.cut s [c]).2.2=false:=by
 unfold Lib.cut
 rw [J4 hn,if_neg (by omega)]
def qK (x:UInt8):Bool:=x == 47 || x == 46
def ak (s:List UInt8):Nat:=s.findIdx qK
def dD (s:List UInt8):Nat:=match s[ak s]? with
 | some x=>if x=47 then 0 else 1
 | none=>2
theorem Nw {s:List UInt8} {j:Nat} (h:j<ak s):∃ x,s[j]? = some x∧qK x=false:=by
 have hl:j<s.length:=Nat.lt_of_lt_of_le h List.findIdx_le_length
 exact ⟨s[j],List.getElem?_eq_getElem hl,by simpa using List.not_of_lt_findIdx h⟩
theorem Am {s:List UInt8} (h:ak s<s.length):∃ x,s[ak s]? = some x∧qK x=true:=
 ⟨s[ak s],List.getElem?_eq_getElem h,List.findIdx_getElem (w:=h)⟩
theorem BJ {l:List UInt8} {j:Nat} {x:UInt8} (h:l[j]? = some x) (hx:aN x=false):l.all aN=false:=by
 rw [List.all_eq_false]
 exact ⟨x,List.mem_of_getElem? h,by simp [hx]⟩
theorem Ee {l:List UInt8} (h:l.all aN=false):aK l=false∧bY l=false:=by
 refine ⟨by unfold aK;rw [h,Bool.and_false],?_⟩
 cases hb:bY l with
 | false=>rfl
 | true=>rw [oL hb] at h;cases h
theorem kinds (s:List UInt8):(dD s=2∧ak s=s.length∧kOf s=2) ∨
  (dD s=0∧s[ak s]? = some 47∧kOf s=0∧dM s=s.take (ak s)∧dZ s=s.drop (ak s+1)) ∨
  (dD s=1∧s[ak s]? = some 46∧((kOf s=1∧dM s=s.take (ak s)∧dZ s=s.drop (ak s+1))∨(kOf s=0∧bY (dM s)=false∧aK (s.drop (ak s+1))=false))):=by
 have bef:∀ c:UInt8,qK c=true→∀ j:Nat,j<ak s→s[j]?≠some c:=fun c hc j hj h=>by
  obtain ⟨x,h1,h2⟩:=Nw hj
  rw [h1] at h
  cases h
  rw [hc] at h2;cases h2
 rcases Nat.lt_or_ge (ak s) s.length with hl | hl
 ·obtain ⟨x,hx,hs⟩:=Am hl
  have hx2:x=47∨x=46:=by simpa [qK] using hs
  rcases hx2 with rfl | rfl
  ·have hc:=D6 hx (bef 47 (by decide))
   have hk:kOf s=0:=zn.2 (by rw [hc])
   refine .inr (.inl ⟨by unfold dD;rw [hx];rfl,hx,hk,?_,?_⟩)
   ·unfold dM;rw [if_pos hk,hc]
   ·unfold dZ;rw [if_pos hk,hc]
  ·have hr:dD s=1:=by unfold dD;rw [hx];rfl
   refine .inr (.inr ⟨hr,hx,?_⟩)
   have hc:=D6 hx (bef 46 (by decide))
   by_cases h47:∃ j:Nat,s[j]? = some 47
   ·right
    have hex:∃ q:Nat,s[q]? = some 47∧∀ j:Nat,j<q→s[j]?≠some 47:=by
     obtain ⟨j,hj⟩:=h47
     induction j using Nat.strongRecOn with
     | _ j ih =>
      by_cases h:∃ i,i<j∧s[i]? = some 47
      ·obtain ⟨i,hi,hi2⟩:=h
       exact ih i hi hi2
      ·exact ⟨j,hj,fun i hi h'=>h ⟨i,hi,h'⟩⟩
    obtain ⟨q,hq,hq2⟩:=hex
    have hpq:ak s<q:=by
     rcases Nat.lt_trichotomy (ak s) q with h | h | h
     ·exact h
     ·rw [h,hq] at hx;cases hx
     ·exact absurd hq (bef 47 (by decide) q h)
    have hc7:=D6 hq hq2
    have hk:kOf s=0:=zn.2 (by rw [hc7])
    refine ⟨hk,?_,?_⟩
    ·unfold dM;rw [if_pos hk,hc7]
     exact (Ee (BJ (j:=ak s) (x:=46) (by rw [List.getElem?_take,if_pos hpq];exact hx) (by decide))).2
    ·exact (Ee (BJ (j:=q - (ak s+1)) (x:=47) (by rw [List.getElem?_drop,show ak s+1+(q - (ak s+1))=q by omega];exact hq) (by decide))).1
   ·left
    have h0:(Lib.cut s [47]).2.2=false:=D7 fun j h=>h47 ⟨j,h⟩
    have hk:kOf s=1:=by
     unfold kOf
     rw [h0,hc]
     rfl
    refine ⟨hk,?_,?_⟩
    ·unfold dM;rw [if_neg (by omega),if_pos hk,hc]
    ·unfold dZ;rw [if_neg (by omega),if_pos hk,hc]
 ·have he:ak s=s.length:=Nat.le_antisymm List.findIdx_le_length hl
  refine .inl ⟨by unfold dD;rw [List.getElem?_eq_none (by omega)],he,?_⟩
  have no:∀ c:UInt8,qK c=true→∀ j:Nat,s[j]?≠some c:=fun c hc j=>by
   rcases Nat.lt_or_ge j s.length with h | h
   ·exact bef c hc j (by omega)
   ·rw [List.getElem?_eq_none h];exact fun h=>by cases h
  unfold kOf
  rw [D7 (no 47 (by decide)),D7 (no 46 (by decide))]
  rfl
end Rx
namespace Rx
open Go.RowKit
section
variable (P:Program) (S:Sys) (H:Tests S) (cons:List (Con S))
def zu (B rest:Code) (fn:Func) (σ:State S):Option (SV×List S.F):=match exec P S H cons 1 B σ with
 | some (.exit 0,σ1)=>match exec P S H cons 1 rest σ1 with
  | some (.ret,σ2)=>match jR P S σ2 fn.results.toList with
   | some l=>some (jQ l,σ2.fs)
   | none=>none
  | _=>none
 | some (.ret,σ1)=>match jR P S σ1 fn.results.toList with
  | some l=>some (jQ l,σ1.fs)
  | none=>none
 | _=>none
end
section
variable {P:Program} {S:Sys} {H:Tests S} {cons:List (Con S)} {E:World→Prop}
theorem KA (hm:P.follows .mixedOrders=true) (hcons:∀ c∈cons,c.Ok P S E) {fn:Func} {B rest:Code} {σ:State S} (wf:Wf σ) {v:SV} {fsE:List S.F} (he:zu P S H cons B rest fn σ=some (v,fsE))
  {w:World} (hlo:S.lo≤w.heap.size) (hE:∀ W,Below w.heap.size w W→E W)
  {Q:Ending→World→Prop} (hQ:∀ ρ' W',Below w.heap.size w W'→(∀ f∈fsE,S.on ρ' f W')→Q (.returned (v.den ρ')) W') {ρ:Env} {a:Act} {W:World} (hs:σ.Says w ρ a W) :
  Code.rounds P B (Exit.inBlock 0 (Exit.then (rest.wp P (bodyPost P fn Q)) (bodyPost P fn Q))) 1 a W:=by
 rw [rounds_succ]
 unfold zu at he
 split at he
 ·rename_i σ1 hx1
  split at he
  ·rename_i σ2 hx2
   split at he
   ·rename_i l hl
    simp only [Option.some.injEq,Prod.mk.injEq] at he
    obtain ⟨hv,hfs⟩:=he
    obtain ⟨wf1,-,go1⟩:=dh (w0:=w) hlo hm hcons hE B _ _ _ hx1 wf
    obtain ⟨-,-,go2⟩:=dh (w0:=w) hlo hm hcons hE rest _ _ _ hx2 wf1
    refine go1 ρ a W _ hs fun ρ1 a1 W1 _ s1=>?_
    show rest.wp P (bodyPost P fn Q) a1 W1
    refine go2 ρ1 a1 W1 _ s1 fun ρ2 a2 W2 _ s2=>?_
    have hr:=wS s2 hl
    rw [hv] at hr
    exact bodyPost_ret hr s2.df (hQ ρ2 W2 s2.bel (by rw [← hfs];exact s2.fc))
   ·cases he
  ·cases he
 ·rename_i σ1 hx1
  split at he
  ·rename_i l hl
   simp only [Option.some.injEq,Prod.mk.injEq] at he
   obtain ⟨hv,hfs⟩:=he
   obtain ⟨wf1,-,go1⟩:=dh (w0:=w) hlo hm hcons hE B _ _ _ hx1 wf
   refine go1 ρ a W _ hs fun ρ1 a1 W1 _ s1=>?_
   show bodyPost P fn Q .ret a1 W1
   have hr:=wS s1 hl
   rw [hv] at hr
   exact bodyPost_ret hr s1.df (hQ ρ1 W1 s1.bel (by rw [← hfs];exact s1.fc))
  ·cases he
 ·cases he
end
def df0 (fn:Func):Code:=match fn.body with | some (.seq a _)=>a | _=>.skip
def df1 (fn:Func):Code:=match fn.body with | some (.seq _ (.seq (.seq a _) _))=>a | _=>.skip
def dfB (fn:Func):Code:=match fn.body with | some (.seq _ (.seq (.seq _ (.block _ (.loop b))) _))=>b | _=>.skip
def dfR (fn:Func):Code:=match fn.body with | some (.seq _ (.seq _ r))=>r | _=>.skip
noncomputable abbrev jm:Func:=Tryz.f67
noncomputable abbrev dgB (s:List UInt8) (j:Nat):Nat→Rat:=bet [((enc s:Nat):Rat),((s.length:Int):Rat),((j:Int):Rat),(((s.getD j 48).toNat:Int):Rat),(((j+1:Nat):Int):Rat)]
def dgT (more lo hi:Bool):Ari:={ gt:=(.v 1,.v 2,more) :: if more then [(.c 48,.v 3,lo),(.v 3,.c 57,hi)] else [] }
def dgX (more e:Bool):Txt:={ len:=[(.v 0,.v 1)],idx:=if more then [(.v 0,.v 2,.v 3)] else [],emp:=[(.v 0,e)] }
def dgL (more:Bool):List (RE×RE):=if more then [(.v 2,.v 4)] else []
def dgP:Pat:=[some (.ot 0),none,some (.bl false),some (.oi 1)] ++ List.replicate 18 none
def dgF:List Fc:=[.tx 0 (.v 0),.i 1 (.v 2)]
def Jk:Nat→Option Nat
 | 0=>some 0 | _=>none
def dgm:Nat→Option Nat
 | 0=>some 0 | 1=>some 962 | _=>none
def dgn:List Fc:=[.tx 0 (.v 0),.i 962 (.v 4)]
section
variable (β:Nat→Rat)
theorem yF (more lo hi e:Bool) (ok:(dgT more lo hi).Ok β) (okX:(dgX more e).Ok β) (okL:dH β (dgL more)):mX (SQ β) [.e (.s (.ot 0))] [.tx 0 (.v 0)] 1=true ∧
  okR (S:=SQ β) jk dgP [] Jk [.tx 0 (.v 0)] (gG Tryz.prog (SQ β) (HTi β {} (bP β) (dgT more lo hi) ok (dgX more e) okX (dgL more) okL) [] [df0 jm,df1 jm] ⟨[.e (.s (.ot 0))] ++ List.replicate (jm.ntmps - [SV.e (.s (.ot 0))].length) .und,[],[.tx 0 (.v 0)],1⟩)=true∧wfB (SQ β) dgP [] dgF 2=true:=⟨by kernel_rfl,by kernel_rfl,by kernel_rfl⟩
theorem RZ {more lo hi:Bool} (h1:more=true) (h2:lo=false) (h3:hi=false) (e:Bool) (ok:(dgT more lo hi).Ok β) (okX:(dgX more e).Ok β) (okL:dH β (dgL more)) (u:Nat→Value):okR (S:=SQ β) jk dgP [] dgm dgn (exec Tryz.prog (SQ β) (HTi β {} (bP β) (dgT more lo hi) ok (dgX more e) okX (dgL more) okL) [] 1 (dfB jm) ⟨bD dgP u 0,[],dgF,2⟩)=true:=by
 subst h1 h2 h3
 kernel_rfl
theorem RY {more lo hi e y:Bool} (h:(!more && (y == !e)) || (more && (lo || hi) && (y == false))=true) (ok:(dgT more lo hi).Ok β) (okX:(dgX more e).Ok β) (okL:dH β (dgL more)) (u:Nat→Value):isB y (zu Tryz.prog (SQ β) (HTi β {} (bP β) (dgT more lo hi) ok (dgX more e) okX (dgL more) okL) [] (dfB jm) (dfR jm) jm ⟨bD dgP u 0,[],dgF,2⟩)=true:=by
 cases more <;> cases lo <;> cases hi <;> cases e <;> cases y <;> first | (exact absurd h (by decide)) | kernel_rfl
end
section
variable {s:List UInt8} {j:Nat}
abbrev iD (s:List UInt8) (j:Nat):Bool:=decide (j<s.length)
abbrev sW (s:List UInt8) (j:Nat):Bool:=decide ((s.getD j 48).toNat<48)
abbrev sV (s:List UInt8) (j:Nat):Bool:=decide (57<(s.getD j 48).toNat)
theorem RV:(dgT (iD s j) (sW s j) (sV s j)).Ok (dgB s j):=by
 refine ⟨fun p h=>(by cases h),fun p h=>(by cases h),fun p hp x y hx hy=>?_⟩
 rcases List.mem_cons.1 hp with rfl | hp
 ·obtain rfl:x=(s.length:Int):=intCast_inj hx
  obtain rfl:y=(j:Int):=intCast_inj hy
  exact decide_eq_decide.2 (by omega)
 ·split at hp
  ·rcases List.mem_cons.1 hp with rfl | hp
   ·obtain rfl:x=48:=intCast_inj hx
    obtain rfl:y=((s.getD j 48).toNat:Int):=intCast_inj hy
    exact decide_eq_decide.2 (by omega)
   ·obtain rfl:=List.mem_singleton.1 hp
    obtain rfl:x=((s.getD j 48).toNat:Int):=intCast_inj hx
    obtain rfl:y=57:=intCast_inj hy
    exact decide_eq_decide.2 (by omega)
  ·cases hp
theorem RX (hl:s.length≤1000000):(dgX (iD s j) s.isEmpty).Ok (dgB s j):=by
 refine ⟨fun p hp=>?_,fun p h=>(by cases h),fun p hp=>?_,fun p h=>(by cases h),fun p h=>(by cases h),fun p hp=>?_,fun p h=>(by cases h)⟩
 ·obtain rfl:=List.mem_singleton.1 hp
  show (txt ((enc s:Nat):Rat)).length≤9223372036854775807∧((((txt ((enc s:Nat):Rat)).length:Nat):Int):Rat)=_
  rw [bI]
  exact ⟨by omega,rfl⟩
 ·by_cases hj:j<s.length
  ·rw [iD,decide_eq_true hj] at hp
   obtain rfl:=List.mem_singleton.1 hp
   refine ⟨j,s[j],rfl,?_,?_⟩
   ·show (txt ((enc s:Nat):Rat))[j]? = _
    rw [bI]
    exact List.getElem?_eq_getElem hj
   ·show _=(((s.getD j 48).toNat:Int):Rat)
    rw [show s.getD j 48=s[j] by simp [List.getD,List.getElem?_eq_getElem hj]]
  ·rw [iD,decide_eq_false hj] at hp
   cases hp
 ·obtain rfl:=List.mem_singleton.1 hp
  show (txt ((enc s:Nat):Rat)).isEmpty=_
  rw [bI]
theorem RU (hl:s.length≤1000000):dH (dgB s j) (dgL (iD s j)):=by
 intro p hp x hx
 by_cases hj:j<s.length
 ·rw [iD,decide_eq_true hj] at hp
  obtain rfl:=List.mem_singleton.1 hp
  obtain rfl:x=(j:Int):=intCast_inj hx
  exact ⟨by omega,by omega,rfl⟩
 ·rw [iD,decide_eq_false hj] at hp
  cases hp
end
def gB (s:List UInt8):Nat:=s.findIdx fun x=>!aN x
theorem Lp {s:List UInt8} {j:Nat} (h:j<gB s):∃ hj:j<s.length,aN s[j]=true:=by
 have hl:j<s.length:=Nat.lt_of_lt_of_le h List.findIdx_le_length
 exact ⟨hl,by simpa using List.not_of_lt_findIdx h⟩
theorem Xd {s:List UInt8}:(gB s=s.length∧s.all aN=true)∨∃ h:gB s<s.length,aN s[gB s]=false∧s.all aN=false:=by
 rcases Nat.lt_or_ge (gB s) s.length with h | h
 ·have hx:aN s[gB s]=false:=by
   have h2:(!aN s[gB s])=true:=List.findIdx_getElem (w:=h)
   simpa using h2
  exact .inr ⟨h,hx,BJ (List.getElem?_eq_getElem h) hx⟩
 ·have he:gB s=s.length:=Nat.le_antisymm List.findIdx_le_length h
  refine .inl ⟨he,List.all_eq_true.2 fun x hx=>?_⟩
  obtain ⟨i,hi,rfl⟩:=List.getElem_of_mem hx
  exact (Lp (by omega)).2
theorem Jm {s:List UInt8} (hl:s.length≤1000000) {w:World} (hE:EV w):Calls Tryz.prog 67 #[.string ⟨s.toArray⟩] w (aX w (.bool (aK s))):=by
 have hc:jm.body=some ((df0 jm).seq (((df1 jm).seq (.block 0 (.loop (dfB jm)))).seq (dfR jm))):=by kernel_rfl
 let ρ:Env:=ev [⟨false,0,none,0,0,⟨s.toArray⟩,0,default⟩]
 have hs:(List.map (SV.den ρ) [.e (.s (.ot 0))]).toArray=#[.string ⟨s.toArray⟩]:=rfl
 rw [← hs]
 have okT:∀ j,(dgT (iD s j) (sW s j) (sV s j)).Ok (dgB s j):=fun j=>RV
 have okX:∀ j,(dgX (iD s j) s.isEmpty).Ok (dgB s j):=fun j=>RX hl
 have okL:∀ j,dH (dgB s j) (dgL (iD s j)):=fun j=>RU hl
 have hf:∀ f∈[Fc.tx 0 (.v 0)],(SQ (dgB s 0)).on ρ f w:=fun f hf=>by
  obtain rfl:=List.mem_singleton.1 hf
  show (⟨s.toArray⟩:ByteArray)=⟨(txt ((enc s:Nat):Rat)).toArray⟩
  rw [bI]
 obtain ⟨σ,h1,hp,hb,hn⟩:=uF (fun _ _=>qp) (yF _ _ _ _ _ (okT 0) (okX 0) (okL 0)).2.1
 obtain ⟨σ1,hx0,hx1⟩:=Y8 h1
 obtain ⟨wf0,-,go0⟩:=dh (w0:=w) (Nat.zero_le _) mixed (fun c h=>absurd h List.not_mem_nil) (aY hE) (df0 jm) _ _ _ hx0 (GL (yF _ _ _ _ _ (okT 0) (okX 0) (okL 0)).1)
 obtain ⟨-,-,go1⟩:=dh (w0:=w) (Nat.zero_le _) mixed (fun c h=>absurd h List.not_mem_nil) (aY hE) (df1 jm) _ _ _ hx1 wf0
 refine calls_of_wp Tryz.func67 hc (wp_seq (go0 ρ _ w _ (Gj hf) fun ρ1 a1 W1 _ s1=>wp_seq (wp_seq (go1 ρ1 a1 W1 _ s1 fun ρ2 a2 W2 _ s2=>wp_block (wp_loop_rounds (gB s+1) ?_)))))
 refine yX (Sj:=fun j=>SQ (dgB s j)) (eqF:=fun _=>jk) (Hj:=fun j=>HTi (dgB s j) {} (bP _) (dgT (iD s j) (sW s j) (sV s j)) (okT j) (dgX (iD s j) s.isEmpty) (okX j) (dgL (iD s j)) (okL j)) (cj:=fun j=>[]) (E:=EV) (n:=gB s) (fu:=1) (p:=dgP) (bx:=fun _=>[]) (fs:=fun _=>dgF) (base:=2) (m1:=fun _=>dgm) (need:=fun _=>dgn) (w:=w)
  (fun _ _ _ h=>qp h) mixed (fun j c h=>absurd h List.not_mem_nil) (fun j=>(yF _ _ _ _ _ (okT j) (okX j) (okL j)).2.2) (fun j hj u=>?_) (fun _=>Nat.zero_le _) (aY hE) (fun j hj ρ W h=>?_) (fun u ρ a W hs=>?_) (gB s) 0 (by omega) _ _ _ _ (uN hp hb s2 fun f hm=>?_)
 ·obtain ⟨hl,hd⟩:=Lp hj
  obtain ⟨d1,d2⟩:=Jl hd
  have hx:s.getD j 48=s[j]:=by simp [List.getD,List.getElem?_eq_getElem hl]
  exact RZ _ (decide_eq_true hl) (decide_eq_false (by rw [hx];omega)) (decide_eq_false (by rw [hx];omega)) _ (okT j) (okX j) (okL j) u
 ·have g1:=h (Fc.tx 0 (.v 0)) (.head _)
  have g2:=h (Fc.i 962 (.v 4)) (.tail _ (.head _))
  show ∀ f∈[Fc.tx 0 (.v 0),.i 1 (.v 2)],Fc.on (dgB s (j+1)) (dF dgm ρ) f W
  simp only [List.forall_mem_cons,List.not_mem_nil,false_imp_iff,implies_true,and_true]
  exact ⟨g1,g2⟩
 ·have hy:(!(iD s (gB s)) && (aK s == !s.isEmpty)) || (iD s (gB s) && (sW s (gB s) || sV s (gB s)) && (aK s == false))=true:=by
   rcases Xd (s:=s) with ⟨h1,h2⟩ | ⟨h1,h2,h3⟩
   ·have hd:aK s = !s.isEmpty:=by unfold aK;rw [h2,Bool.and_true];cases s <;> rfl
    rw [hd,iD,decide_eq_false (by omega)]
    simp
   ·have hd:aK s=false:=(Ee h3).1
    have hx:s.getD (gB s) 48=s[gB s]:=by simp [List.getD,List.getElem?_eq_getElem h1]
    have hlh:(sW s (gB s) || sV s (gB s))=true:=by
     rw [sW,sV,hx]
     simp only [aN,decide_eq_false_iff_not] at h2
     simp only [Bool.or_eq_true,decide_eq_true_eq]
     omega
    rw [hd,hlh,iD,decide_eq_true h1]
    rfl
  obtain ⟨fsE,he⟩:=zh (RY _ hy (okT _) (okX _) (okL _) u)
  exact KA mixed (fun c h=>absurd h List.not_mem_nil) (rP (yF _ _ _ _ _ (okT _) (okX _) (okL _)).2.2 u) he (Nat.zero_le _) (aY hE) (fun ρ' W' hb _=>⟨rfl,hb⟩) hs
 ·revert f
  show ∀ f∈[Fc.tx 0 (.v 0),.i 1 (.v 2)],Fc.on (dgB s 0) (dF Jk ρ2) f W2
  simp only [List.forall_mem_cons,List.not_mem_nil,false_imp_iff,implies_true,and_true]
  exact ⟨s2.fc _ (hn _ (.head _)),⟨(by decide:(-9223372036854775808:Int)≤0),(by decide:(0:Int)≤9223372036854775807),rfl⟩⟩
theorem MZ {β:Nat→Rat} {H:Tests (SQ β)} {cons:List (Con (SQ β))} {fuel:Nat} {f:FuncId} {args:List SV} {fs:List Fc} {b:Nat} {ρ:Env} {w:World} {y:Bool} (hc:∀ c∈cons,c.Ok Tryz.prog (SQ β) EV) (hr:isB y (bg Tryz.prog (SQ β) H cons fuel f args fs b)=true) (hE:EV w) (hf:∀ g∈fs,Fc.on β ρ g w):Calls Tryz.prog f (args.map (SV.den ρ)).toArray w (aX w (.bool y)):=by
 obtain ⟨fs',heq⟩:=zh hr
 exact (iw mixed hc heq (aY hE) hf).mono fun x W' ⟨ρ',_,hx,hb,_⟩=>⟨hx,hb⟩
noncomputable abbrev jiB (s:List UInt8):Nat→Rat:=bet [((enc s:Nat):Rat),((s.length:Int):Rat),(((s.getD 0 48).toNat:Int):Rat)]
def jiT (big:Bool):Ari:={ gt:=[(.v 1,.c 1,big)] }
def jiX (e z:Bool):Txt:={ len:=[(.v 0,.v 1)],emp:=[(.v 0,e)],idx:=if e then [] else [(.v 0,.c 0,.v 2)],eqn:=[(.v 2,.c 48,z)] }
theorem Vm (β:Nat→Rat) (e big z d:Bool) (ok:(jiT big).Ok β) (okX:(jiX e z).Ok β) (he:e=true→big=false):isB (!(e || (big && z)) && d) (bg Tryz.prog (SQ β) (HTx β {} (bP β) (jiT big) ok (jiX e z) okX) [nT β 67 [(.v 0,d)]] 1 66 [.e (.s (.ot 0))] [.tx 0 (.v 0)] 1)=true:=by
 cases e <;> cases big <;> cases z <;> cases d <;> first | (exact absurd (he rfl) (by decide)) | kernel_rfl
theorem J9 {s:List UInt8} (hl:s.length≤1000000) {w:World} (hE:EV w):Calls Tryz.prog 66 #[.string ⟨s.toArray⟩] w (aX w (.bool (bY s))):=by
 let ρ:Env:=ev [⟨false,0,none,0,0,⟨s.toArray⟩,0,default⟩]
 have hs:(List.map (SV.den ρ) [.e (.s (.ot 0))]).toArray=#[.string ⟨s.toArray⟩]:=rfl
 rw [← hs]
 have t0:txt ((RE.v 0).ev (jiB s))=s:=bI s
 have ok:(jiT (decide (1<s.length))).Ok (jiB s):=by
  refine ⟨fun p h=>(by cases h),fun p h=>(by cases h),fun p hp x y hx hy=>?_⟩
  obtain rfl:=List.mem_singleton.1 hp
  obtain rfl:x=(s.length:Int):=intCast_inj hx
  obtain rfl:y=1:=intCast_inj hy
  exact decide_eq_decide.2 (by omega)
 have okX:(jiX s.isEmpty (s.getD 0 48 == 48)).Ok (jiB s):=by
  refine ⟨fun p hp=>?_,fun p h=>(by cases h),fun p hp=>?_,fun p h=>(by cases h),fun p h=>(by cases h),fun p hp=>?_,fun p hp x y hx hy=>?_⟩
  ·obtain rfl:=List.mem_singleton.1 hp
   rw [t0]
   exact ⟨by omega,rfl⟩
  ·cases s with
   | nil=>cases hp
   | cons x l =>
    obtain rfl:=List.mem_singleton.1 hp
    refine ⟨0,x,rfl,?_,rfl⟩
    rw [t0];rfl
  ·obtain rfl:=List.mem_singleton.1 hp
   rw [t0]
  ·obtain rfl:=List.mem_singleton.1 hp
   obtain rfl:x=((s.getD 0 48).toNat:Int):=intCast_inj hx
   obtain rfl:y=48:=intCast_inj hy
   by_cases h:s.getD 0 48=48
   ·rw [h];rfl
   ·have:(s.getD 0 48).toNat≠48:=fun h'=>h (UInt8.toNat_inj.1 h')
    rw [beq_eq_false_iff_ne.2 h,beq_eq_false_iff_ne.2 (by omega)]
 have hr:=Vm (jiB s) s.isEmpty _ _ (aK s) ok okX (fun h=>by rw [List.isEmpty_iff.1 h];rfl)
 have hy:(!(s.isEmpty || (decide (1<s.length) && s.getD 0 48 == 48)) && aK s)=bY s:=by
  unfold bY aK
  cases s with
  | nil=>rfl
  | cons x l =>
   cases l with
   | nil=>simp;exact fun _=>Classical.em _
   | cons y l=>simp;cases h:(x == 48) <;> simp_all
 rw [hy] at hr
 refine MZ (fun c hc=>?_) hr hE fun g hg=>?_
 ·obtain rfl:=List.mem_singleton.1 hc
  refine yh fun p hp W hE=>?_
  obtain rfl:=List.mem_singleton.1 hp
  rw [t0]
  exact Jm hl hE
 ·obtain rfl:=List.mem_singleton.1 hg
  show (⟨s.toArray⟩:ByteArray)=⟨(txt ((RE.v 0).ev (jiB s))).toArray⟩
  rw [t0]
end Rx
end Go.Proofs.YtancpaiaoamjlaaGreatDoor
