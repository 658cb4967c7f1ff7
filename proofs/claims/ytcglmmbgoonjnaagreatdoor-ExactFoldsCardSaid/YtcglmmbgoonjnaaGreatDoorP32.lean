/- What the proof rests on, part 32. -/
import Derived.Test.YtcglmmbgoonjnaaGreatDoorP31
import Derived.Test.YtcglmmbgoonjnaaGreatDoorP30
import Derived.Test.YtcglmmbgoonjnaaGreatDoorP23
import Derived.Test.YtcglmmbgoonjnaaGreatDoorP06
import Derived.Test.YtcglmmbgoonjnaaGreatDoorP05
import Derived.Test.YtcglmmbgoonjnaaGreatDoorP08
namespace Go.Proofs.YtcglmmbgoonjnaaGreatDoor
set_option maxRecDepth 100000
set_option maxHeartbeats 80000000
namespace Rx
open Go.RowKit
def nD:List Fd→Nat→Option (RE×Nat)
 | [],_=>none
 | .z s e k :: r,n=>if s=n then some (e,k) else nD r n
 | _ :: r,n=>nD r n
theorem kW {n:Nat} {e:RE} {k:Nat}:∀ {db:List Fd},nD db n=some (e,k)→.z n e k∈db
 | [],h=>by simp [nD] at h
 | f :: r,h=>by
  cases f with
  | z s e' k' =>
   simp only [nD] at h
   split at h
   ·rename_i hs;cases h;subst hs;simp
   ·exact List.mem_cons_of_mem _ (kW h)
  | l _ _ _=>exact List.mem_cons_of_mem _ (kW h)
  | r _ _ _=>exact List.mem_cons_of_mem _ (kW h)
  | n _ _=>exact List.mem_cons_of_mem _ (kW h)
  | i _ _=>exact List.mem_cons_of_mem _ (kW h)
def findD:List Fd→Nat→Option (RE×Nat)
 | [],_=>none
 | .r s e k :: r,n=>if s=n then some (e,k) else findD r n
 | _ :: r,n=>findD r n
theorem jV {n:Nat} {e:RE} {k:Nat}:∀ {db:List Fd},findD db n=some (e,k)→.r n e k∈db
 | [],h=>by simp [findD] at h
 | f :: r,h=>by
  cases f with
  | r s e' k' =>
   simp only [findD] at h
   split at h
   ·rename_i hs;cases h;subst hs;simp
   ·exact List.mem_cons_of_mem _ (jV h)
  | l _ _ _=>exact List.mem_cons_of_mem _ (jV h)
  | z _ _ _=>exact List.mem_cons_of_mem _ (jV h)
  | n _ _=>exact List.mem_cons_of_mem _ (jV h)
  | i _ _=>exact List.mem_cons_of_mem _ (jV h)
def asY (db:List Fd):List Cell→Option (RE×Nat)
 | [.ob s,.os t]=>if s=t then (match nD db s with
   | some x=>some x
   | none=>match findD db s with
    | some (e,k)=>some (.num e,k)
    | none=>none) else none
 | [.bl false,.os s]=>gZ db s
 | [.bl false,.nils]=>some (.c 0,0)
 | _=>none
section
variable {β:Nat→Rat} {ρ:Env} {W:World} {db:List Fd}
theorem lu {v:Value} {r:Rat} {k:Nat} (h:IsG W v r k):IsY W (.agg #[.bool false,v]) r k:=by
 obtain ⟨xs,h1,h2,h3,h4,h5⟩:=h
 obtain ⟨p,l,c,rfl⟩:=h1.mk
 exact ⟨(Z4.val xs:Nat),⟨p,l,c,xs,by rw [decide_eq_false (by omega)],h1,h2,h3,by omega⟩,by rw [← h4];rfl,by simpa using h5⟩
theorem PK {s:Nat} {e:RE} {k:Nat} (h:Fd.on β ρ (.r s e k) W):IsY W (.agg ((zC s).map (Cell.den ρ)).toArray) ((RE.num e).ev β) k:=by
 obtain ⟨h1,h2⟩:=h
 exact ⟨(e.ev β).num,Z4.IsR.num h1,rfl,h2.1⟩
theorem mQ {cs:List Cell} {e:RE} {k:Nat} (h:asY db cs=some (e,k)) (hf:∀ f∈db,(SR β).on ρ f W):IsY W (.agg (cs.map (Cell.den ρ)).toArray) (e.ev β) k:=by
 unfold asY at h
 split at h
 ·rename_i s t
  split at h
  ·rename_i hst
   subst hst
   split at h
   ·rename_i x hx
    cases h
    exact hf _ (kW hx)
   ·split at h
    ·rename_i e' k' hx
     cases h
     exact PK (hf _ (jV hx))
    ·cases h
  ·cases h
 ·exact lu (hf _ (fP h))
 ·cases h
  exact lu ⟨[],Z4.IsL.nil 0 W,Z4.Dig.nil,fun h=>absurd rfl h,rfl,by simp [Z4.val]⟩
 ·cases h
end
section
variable (β:Nat→Rat) (h:Hint)
def yu:Con (SR β) where
 fn:=125
 app:=fun db b args=>match args with
  | [.e (.a [.ob s,.os s',.bl false,.os t])]=>if s=s' && s+1=t then (match findD db s with
    | some (e,k)=>some (.e (.a [.bl false,.os b]),[.l b (.den e) k])
    | none=>none) else none
  | _=>none
def uq (f:FuncId) (o:RE→RE→RE) (sz:Nat→Nat→Nat):Con (SR β) where
 fn:=f
 app:=fun db b args=>match args with
  | [.e (.a x),.e (.a y)]=>match asY db x,asY db y with
   | some (e,k),some (e',k')=>if decide (k≤K1) && decide (k'≤K1) then some (.e (.a (zC b)),[.z b (o e e') (sz k k')]) else none
   | _,_=>none
  | _=>none
def zh:Con (SR β) where
 fn:=119
 app:=fun db b args=>match args with
  | [.e (.a x)]=>match asY db x with
   | some (e,k)=>some (.e (.a (zC b)),[.z b (.neg e) k])
   | none=>none
  | _=>none
def yK:Con (SR β) where
 fn:=116
 app:=fun _ b args=>match args with
  | [.e (.s (.it .i64 n))]=>if decide (0≤n) && decide (n≤9223372036854775807) then some (.e (.a [.bl false,.os b]),[.l b (.c n) 1]) else none
  | _=>none
def yN:Con (SR β) where
 fn:=120
 app:=fun db b args=>match args with
  | [.e (.a x),.e (.a y)]=>match asY db x,asY db y with
   | some (e,k),some (e',k')=>if decide (k≤K1) && decide (k'≤K1) && (jG e' || nzB h e') then some (.e (.a (aW b)),[.r b (.div e e') (max k k')]) else none
   | _,_=>none
  | _=>none
def zf:Con (SR β) where
 fn:=124
 app:=fun db _ args=>match args with
  | [.e (.a x),.e (.a y)]=>match asY db x,asY db y with
   | some (e,k),some (e',k')=>if decide (k≤K1) && decide (k'≤K1) then (match cmB h e e' with
     | some c=>some (.e (.s (.it .i64 c)),[])
     | none=>none) else none
   | _,_=>none
  | _=>none
def yI:Con (SR β) where
 fn:=134
 app:=fun db b args=>match args with
  | [.e (.s (.bl false)),.e (.s (.os s))]=>match findD db s with
   | some (e,k)=>some (.e (.a [.bl false,.os b]),[.l b (.abs (.num e)) k])
   | none=>none
  | _=>none
def cr:List (Con (SR β)):=[yu β,uq β 117 .mul (fun a b=>a+b),uq β 118 .add (fun a b=>max a b+1),zh β,yK β,yN β h,zf β h,yI β]
end
section
variable {β:Nat→Rat} {h:Hint} {f:FuncId} {vals:Array Value} {W:World} {ρ:Env} {b:Nat}
theorem Df {z:Int} {e:RE} {k:Nat} (hc:Calls Tryz.prog f vals W (Z4.iI W z)) (hz:(z:Rat)=e.ev β) (hk:z.natAbs<B64 ^ k):Calls Tryz.prog f vals W (Anr β ρ b W (.e (.a (zC b))) [.z b e k]):=by
 refine hc.mono fun _ W' ⟨v,he,hv,hb⟩=>?_
 obtain ⟨p,l,c,xs,rfl,hx⟩:=hv
 have h1:(zC b).map (Cell.den (aH ρ b [⟨decide (z<0),0,p,l,c,.empty,0⟩]))=[.bool (decide (z<0)),.slice p l c]:=by simp [zC,Cell.den,aH]
 refine ⟨_,gu (b:=b) (L:=[⟨decide (z<0),0,p,l,c,.empty,0⟩]) (by simp [M]),?_,hb,fun g hg=>?_⟩
 ·rw [he];simp only [SV.den,El.den,h1]
 ·rw [List.mem_singleton] at hg
  subst hg
  exact ⟨z,by rw [h1];exact ⟨p,l,c,xs,rfl,hx⟩,hz,hk⟩
theorem sV {z:Int} {e:RE} {k:Nat} (hc:Calls Tryz.prog f vals W (Z4.iI W z)) (h0:0≤z) (hz:(z:Rat)=e.ev β) (hk:z.natAbs<B64 ^ k):Calls Tryz.prog f vals W (Anr β ρ b W (.e (.a [.bl false,.os b])) [.l b e k]):=by
 refine hc.mono fun _ W' ⟨v,he,hv,hb⟩=>?_
 obtain ⟨p,l,c,xs,rfl,hl,hd,ht,hx⟩:=hv
 refine ⟨_,gu (b:=b) (L:=[⟨false,0,p,l,c,.empty,0⟩]) (by simp [M]),?_,hb,fun g hg=>?_⟩
 ·rw [he,decide_eq_false (by omega)];simp [SV.den,El.den,Cell.den,aH]
 ·rw [List.mem_singleton] at hg
  subst hg
  refine ⟨xs,by simpa [aH] using hl,hd,ht,?_,by rw [hx];exact hk⟩
  rw [hx,← hz]
  exact_mod_cast show ((z.natAbs:Nat):Int)=z by omega
theorem JC {e:RE} {k:Nat} (hc:Calls Tryz.prog f vals W (Z4.dW W (e.ev β))) (hk:Fits k (e.ev β)):Calls Tryz.prog f vals W (Anr β ρ b W (.e (.a (aW b))) [.r b e k]):=by
 refine hc.mono fun _ W' ⟨v,he,hv,hb⟩=>?_
 obtain ⟨c,d,rfl⟩:=lM hv
 have h1:(aW b).map (Cell.den (aH ρ b [c,d]))=[.bool c.b,.slice c.p c.l c.c,.bool false,.slice d.p d.l d.c]:=by simp [aW,Cell.den,aH]
 refine ⟨aH ρ b [c,d],gu (by simp [M]),?_,hb,fun g hg=>?_⟩
 ·rw [he];simp only [SV.den,El.den,h1]
 ·rw [List.mem_singleton] at hg
  subst hg
  exact ⟨by rw [h1];exact hv,hk⟩
theorem JB {c:Int} (hc:Calls Tryz.prog f vals W (bD W (.int .i64 c))):Calls Tryz.prog f vals W (Anr β ρ b W (.e (.s (.it .i64 c))) []):=
 hc.mono fun _ W' ⟨he,hb⟩=>⟨ρ,fun _ _=>rfl,by rw [he];rfl,hb,fun g hg=>by cases hg⟩
theorem KJ:(yu β).Ok Tryz.prog (SR β) EV:=by
 intro db b args res new ha ρ W hf hE
 simp only [yu] at ha
 split at ha
 ·rename_i s s' t
  split at ha
  ·rename_i hh
   simp only [Bool.and_eq_true,decide_eq_true_eq] at hh
   obtain ⟨rfl,rfl⟩:=hh
   split at ha
   ·rename_i e k hx
    cases ha
    obtain ⟨h1,h2⟩:=hf _ (jV hx)
    exact sV (Z4.uz _ _ W h1) (by omega) rfl (by simpa using h2.2)
   ·cases ha
  ·cases ha
 ·cases ha
theorem DN {f:FuncId} {o:RE→RE→RE} {sz:Nat→Nat→Nat} {zo:Int→Int→Int} (hc:∀ a b v v' W k k',k≤K1→k'≤K1→Z4.IsZ W v a→Z4.IsZ W v' b→a.natAbs<B64 ^ k→b.natAbs<B64 ^ k'→EV W→Calls Tryz.prog f #[v,v'] W (Z4.iI W (zo a b)))
  (ho:∀ (a b:Int) (e e':RE),(a:Rat)=e.ev β→(b:Rat)=e'.ev β→((zo a b:Int):Rat)=(o e e').ev β) (hs:∀ (a b:Int) k k',a.natAbs<B64 ^ k→b.natAbs<B64 ^ k'→(zo a b).natAbs<B64 ^ (sz k k')):(uq β f o sz).Ok Tryz.prog (SR β) EV:=by
 intro db b args res new ha ρ W hf hE
 simp only [uq] at ha
 split at ha
 ·split at ha
  ·rename_i x y _ _ e k e' k' hx hy
   split at ha
   ·rename_i hk
    simp only [Bool.and_eq_true,decide_eq_true_eq] at hk
    cases ha
    obtain ⟨z,h1,h2,h3⟩:=mQ hx hf
    obtain ⟨z',g1,g2,g3⟩:=mQ hy hf
    exact Df (hc z z' _ _ W k k' hk.1 hk.2 h1 g1 h3 g3 hE) (ho z z' e e' h2 g2) (hs z z' k k' h3 g3)
   ·cases ha
  ·cases ha
 ·cases ha
theorem Lj:(zh β).Ok Tryz.prog (SR β) EV:=by
 intro db b args res new ha ρ W hf hE
 simp only [zh] at ha
 split at ha
 ·split at ha
  ·rename_i e k hx
   cases ha
   obtain ⟨z,h1,h2,h3⟩:=mQ hx hf
   exact Df (e:=.neg e) (Z4.BK z _ W h1) (by rw [Rat.intCast_neg,h2];rfl) (by rw [Int.natAbs_neg];exact h3)
  ·cases ha
 ·cases ha
theorem KR:(yK β).Ok Tryz.prog (SR β) EV:=by
 intro db b args res new ha ρ W hf hE
 simp only [yK] at ha
 split at ha
 ·rename_i n
  split at ha
  ·rename_i hk
   simp only [Bool.and_eq_true,decide_eq_true_eq] at hk
   cases ha
   refine sV (e:=.c n) ((Z4.lV n (by omega) hk.2 W).mono fun e W' ⟨s,ds,he,hl,hd,ht,hv,hb⟩=>?_) hk.1 rfl (by rw [Nat.pow_one];unfold B64;omega)
   obtain ⟨p,l,c,rfl⟩:=hl.mk
   exact ⟨_,he,⟨p,l,c,ds,rfl,hl.mono (Nat.zero_le _),hd,ht,hv⟩,hb⟩
  ·cases ha
 ·cases ha
theorem Nw {z d:Int} {k k':Nat} (hd:d≠0) (h1:z.natAbs<B64 ^ k) (h2:d.natAbs<B64 ^ k'):Fits (max k k') ((z:Rat) / (d:Rat)):=by
 have a1:=Nat.pow_le_pow_right (show 0<B64 by decide) (Nat.le_max_left k k')
 have a2:=Nat.pow_le_pow_right (show 0<B64 by decide) (Nat.le_max_right k k')
 have key:∀ (z:Int) (m:Nat),m≠0→z.natAbs<B64 ^ k→m<B64 ^ k'→Fits (max k k') (mkRat z m):=fun z m hm a b=>by
  obtain ⟨e1,-,e3⟩:=Z4.qj z m _ hm rfl
  exact ⟨by rw [e1];have:=Nat.div_le_self z.natAbs (Nat.gcd z.natAbs m);omega,by rw [e3];have:=Nat.div_le_self m (Nat.gcd z.natAbs m);omega⟩
 rcases Int.lt_or_le d 0 with h0 | h0
 ·obtain ⟨m,rfl⟩:∃ m:Nat,d = -(m:Int):=⟨d.natAbs,by omega⟩
  rw [show (z:Rat) / ((-(m:Int):Int):Rat)=mkRat (-z) m by rw [← Rat.divInt_eq_div,← Rat.divInt_ofNat,Rat.divInt_eq_divInt_iff (by omega) (by omega)];grind]
  exact key _ _ (by omega) (by omega) (by omega)
 ·obtain ⟨m,rfl⟩:∃ m:Nat,d=(m:Int):=⟨d.natAbs,by omega⟩
  rw [show (z:Rat) / (((m:Int):Int):Rat)=mkRat z m by rw [← Rat.divInt_eq_div,← Rat.divInt_ofNat]]
  exact key _ _ (by omega) h1 (by omega)
theorem KU (ok:h.Ok β):(yN β h).Ok Tryz.prog (SR β) EV:=by
 intro db b args res new ha ρ W hf hE
 simp only [yN] at ha
 split at ha
 ·split at ha
  ·rename_i x y _ _ e k e' k' hx hy
   split at ha
   ·rename_i hk
    simp only [Bool.and_eq_true,Bool.or_eq_true,decide_eq_true_eq] at hk
    cases ha
    obtain ⟨z,h1,h2,h3⟩:=mQ hx hf
    obtain ⟨z',g1,g2,g3⟩:=mQ hy hf
    have hne:e'.ev β≠0:=by
     rcases hk.2 with h | h
     ·exact AX h
     ·exact pY ok h
    have hz':z'≠0:=fun h0=>hne (by rw [← g2,h0];rfl)
    have a1:=Nat.pow_le_pow_right (show 0<B64 by decide) (Nat.le_max_left k k')
    have a2:=Nat.pow_le_pow_right (show 0<B64 by decide) (Nat.le_max_right k k')
    have hB:=iK (max k k')
    have hc:=Z4.AZ z z' hz' _ _ W h1 g1 (5*max k k') (by simp only [K1] at hk;omega) (by omega) (by omega)
    have hfit:=Nw hz' h3 g3
    rw [h2,g2] at hc hfit
    exact JC (e:=.div e e') hc hfit
   ·cases ha
  ·cases ha
 ·cases ha
theorem yg {a b:Int}:aK (a:Rat) (b:Rat)=(if a<b then -1 else if a=b then 0 else 1):=by
 unfold aK
 have e:((a:Int):Rat)=((b:Int):Rat)↔a=b:=by exact_mod_cast Iff.rfl
 have l:((a:Int):Rat)<((b:Int):Rat)↔a<b:=by exact_mod_cast Iff.rfl
 simp only [e,l]
theorem Lh (ok:h.Ok β):(zf β h).Ok Tryz.prog (SR β) EV:=by
 intro db b args res new ha ρ W hf hE
 simp only [zf] at ha
 split at ha
 ·split at ha
  ·rename_i x y _ _ e k e' k' hx hy
   split at ha
   ·rename_i hk
    simp only [Bool.and_eq_true,decide_eq_true_eq] at hk
    split at ha
    ·rename_i c hc
     cases ha
     obtain ⟨z,h1,h2,h3⟩:=mQ hx hf
     obtain ⟨z',g1,g2,g3⟩:=mQ hy hf
     have hcc:=oL ok hc
     rw [← h2,← g2,yg] at hcc
     have a1:=Nat.pow_le_pow_right (show 0<B64 by decide) hk.1
     have a2:=Nat.pow_le_pow_right (show 0<B64 by decide) hk.2
     have:=Vj h1 g1 (by omega) (by omega) hE
     rw [hcc] at this
     exact JB this
    ·cases ha
   ·cases ha
  ·cases ha
 ·cases ha
theorem KP:(yI β).Ok Tryz.prog (SR β) EV:=by
 intro db b args res new ha ρ W hf hE
 simp only [yI] at ha
 split at ha
 ·rename_i s
  split at ha
  ·rename_i e k hx
   cases ha
   obtain ⟨h1,h2⟩:=hf _ (jV hx)
   obtain ⟨xs,-,g1,g2,g3,g4⟩:=(Z4.IsR.num h1).parts
   have hc:=Z4.jk false (.slice (ρ s).p (ρ s).l (ρ s).c) xs W g1 g2 g3
   rw [if_neg (by decide),g4] at hc
   refine sV (e:=.abs (.num e)) hc (by omega) ?_ (by simpa using h2.1)
   show _=if ((((e.ev β).num:Int):Rat)).num<0 then -((((e.ev β).num:Int):Rat)) else (((e.ev β).num:Int):Rat)
   rw [Rat.num_intCast]
   split
   ·rw [show (((e.ev β).num.natAbs:Nat):Int) = -(e.ev β).num by omega,Rat.intCast_neg]
   ·rw [show (((e.ev β).num.natAbs:Nat):Int)=(e.ev β).num by omega]
  ·cases ha
 ·cases ha
theorem jw (ok:h.Ok β):∀ c∈cr β h,c.Ok Tryz.prog (SR β) EV:=by
 have pk:∀ {k:Nat},k≤K1→B64 ^ k≤B64 ^ K1:=fun h=>Nat.pow_le_pow_right (show 0<B64 by decide) h
 unfold cr
 simp only [List.forall_mem_cons,List.not_mem_nil,false_imp_iff,implies_true,and_true]
 refine ⟨KJ,DN (zo:=(· * ·)) (fun a b v v' W k k' hk hk' h1 h2 h3 h4 hE=>?_) (fun a b e e' h1 h2=>by rw [Rat.intCast_mul,h1,h2];rfl) (fun a b k k' h1 h2=>by rw [Int.natAbs_mul,Nat.pow_add];exact Nat.mul_lt_mul'' h1 h2),
  DN (zo:=(· + ·)) (fun a b v v' W k k' hk hk' h1 h2 h3 h4 hE=>Vh h1 h2 (Nat.lt_of_lt_of_le h3 (pk hk)) (Nat.lt_of_lt_of_le h4 (pk hk')) hE) (fun a b e e' h1 h2=>by rw [Rat.intCast_add,h1,h2];rfl) (fun a b k k' h1 h2=>?_),Lj,KR,KU ok,Lh ok,KP⟩
 ·have a1:=Nat.pow_le_pow_right (show 0<B64 by decide) (Nat.le_max_left k k')
  have a2:=Nat.pow_le_pow_right (show 0<B64 by decide) (Nat.le_max_right k k')
  have hB:=iK (max k k')
  exact Z4.BJ a b v v' W h1 h2 (5*max k k') (by simp only [K1] at hk hk';omega) (by omega) (by omega)
 ·have a1:=Nat.pow_le_pow_right (show 0<B64 by decide) (Nat.le_max_left k k')
  have a2:=Nat.pow_le_pow_right (show 0<B64 by decide) (Nat.le_max_right k k')
  rw [Nat.pow_succ]
  have:B64 ^ max k k' * 2≤B64 ^ max k k' * B64:=Nat.mul_le_mul_left _ (by decide)
  omega
end
end Rx
namespace Rx
open Go.RowKit
section
variable {a b c d:Rat} {v1 v2:Value} {W:World}
end
theorem RN (r:Rat):1+r*r≠0:=by
 have h:0≤r*r:=by
  rcases Rat.le_total (a:=0) (b:=r) with h | h
  ·exact Rat.mul_nonneg h h
  ·have:=Rat.mul_nonneg (show 0≤-r by grind) (show 0≤-r by grind);grind
 grind
def tC (e:RE):RE:=.div (.sub (.c 1) (.mul e e)) (.add (.c 1) (.mul e e))
def tS (e:RE):RE:=.div (.add e e) (.add (.c 1) (.mul e e))
theorem U5 {a:Rat} {v:Value} {W:World} (h:IsQ W v a) (f:Fits K1 a) (hE:EV W):Calls Tryz.prog 83 #[v] W (xw W ((1 - a*a) / (1+a*a)) ((a+a) / (1+a*a))):=by
 obtain ⟨c,d,rfl⟩:=rH h
 have ok:Hint.Ok (bet [a]) { nz:=[.add (.c 1) (.mul (.v 0) (.v 0))] }:=⟨fun p h=>(by cases h),fun p h=>(by cases h),fun p hp=>(by simp at hp;subst hp;exact RN a),fun p h=>(by cases h),fun p h=>(by cases h)⟩
 exact TV (β:=bet [a]) (ρ:=ev [c,d]) (args:=[.e (.a (aI 0))]) (fs:=[.q 0 (.v 0) K1]) (e:=tC (.v 0)) (e':=tS (.v 0)) (ok:=ok) (fuel:=1) (b:=2) (zk ok) (by kernel_rfl) hE fun g hg=>by
  rw [List.mem_singleton] at hg;subst hg;exact ⟨h,f⟩
section
variable (β:Nat→Rat) (h:Hint)
def uo:Con (SQ β) where
 fn:=83
 app:=fun db b args=>match args with
  | [.e (.a x)]=>match dX db x with
   | some (e,k)=>if k≤K1 then some (pr b,[.q b (tC e) (4*k+5),.q (b+2) (tS e) (4*k+5)]) else none
   | _=>none
  | _=>none
def qQ:List Cell→Option Nat
 | [.oi a,.oi b,.o8 c]=>if a+1=b && a+2=c then some a else none
 | _=>none
def uh:Con (SQ β) where
 fn:=20
 app:=fun db b args=>match args with
  | [.e (.a x)]=>match qQ x with
   | some a=>match kU db a with
    | some e=>some (.t [.a (aI b),.a (aW (b+2))],[.q b e 4,.r (b+2) e 4])
    | none=>none
   | none=>none
  | _=>none
def cl1:List (Con (SQ β)):=[uo β,uh β]
end
section
variable {β:Nat→Rat} {h:Hint}
theorem Le:(uo β).Ok Tryz.prog (SQ β) EV:=by
 intro db b args res new ha ρ W hf hE
 simp only [uo] at ha
 split at ha
 ·split at ha
  ·rename_i e k hx
   split at ha
   ·rename_i hk
    cases ha
    obtain ⟨⟨h1,h2⟩,-⟩:=fF hx hf
    have f1:Fits 1 (1:Rat):=fits_int (n:=1) (by decide) (by decide)
    have fm:=h2.mul h2
    have fp:=f1.plus fm
    have fs:=f1.minus fm
    have fa:=h2.plus h2
    exact JE (e:=tC e) (e':=tS e) (U5 h1 (h2.mono hk) hE)
     ((fs.over fp).mono (by omega)) ((fa.over fp).mono (by omega))
   ·cases ha
  ·cases ha
 ·cases ha
theorem Po {x:List Cell} {a:Nat} (hx:qQ x=some a):x=uS a:=by
 unfold qQ at hx
 split at hx
 ·split at hx
  ·rename_i hh
   simp only [Bool.and_eq_true,decide_eq_true_eq] at hh
   cases hx
   rw [← hh.1,← hh.2]
   rfl
  ·cases hx
 ·cases hx
theorem KG:(uh β).Ok Tryz.prog (SQ β) EV:=by
 intro db b args res new ha ρ W hf hE
 simp only [uh] at ha
 split at ha
 ·split at ha
  ·rename_i a hx
   split at ha
   ·rename_i e hn
    cases ha
    have hm:=hf _ (mZ hn)
    obtain ⟨pw,hb,h0,h1,h2,h3,h4,he⟩:=(show IsN _ _ _ _ from hm)
    rw [Po hx]
    have hc:=IU (ρ a).u (ρ (a+1)).u pw h0 h1 h2 h3 h4 W hE.tz
    rw [he,← hb] at hc
    exact JD hc (by rw [← he];exact Aj _ _ _ h1 h2 h3 h4)
   ·cases ha
  ·cases ha
 ·cases ha
end
end Rx
section
open Go.RowKit Go.Sort
attribute [local go_sem] takes takesUpon_value takesUpon_skip takesUpon_enter
def xA (w:World) (n:Nat) (e:Ending) (w':World):Prop:=∃ s,s*s≤n∧n<(s+1)*(s+1)∧aT w s e w'
theorem TG (x1:Int) (p1:Option Addr) (l1 q1:Nat) (w:World) (i1:ah w (.int .u64 x1) (.slice p1 l1 q1) 0) :
  Calls Tryz.prog 192 #[.agg #[.int .u64 x1,.slice p1 l1 q1]] w (xA w 0):=by
 have HZ:=hid (fun (W:World) (h:ah W (.int .u64 x1) (.slice p1 l1 q1) 0)=>dA _ _ 0 W h)
 have HI:=hid i1
 clear i1
 go_enter Tryz.func192,Tryz.ntmps192
 go_wp2_with fail
 have hS0:=hid (((St.start w).alloc' (w.heap.size) (by simp) 27 [.int .u64 x1,.slice p1 l1 q1]).alloc' (w.heap.size+1) (by simp) 27 [.int .u64 0,.slice none 0 0])
 obtain ⟨W0,hW0⟩:=aQ hS0
 rw [hW0] at hS0 ⊢
 clear hW0
 have hi1:=HI.out.below hS0.out.bel
 have hS1:=hid (hS0.out.fact (.m (.int .u64 x1) (.slice p1 l1 q1) (0)) hi1)
 clear hS0 hi1
 refine (HZ.out _ (hS1.out.get (f:=.m (.int .u64 x1) (.slice p1 l1 q1) (0)) 0 rfl)).mono ?_
 rintro e w1 ⟨rfl,hB⟩
 have hS2:=hid (hS1.out.call hB)
 clear hB
 clear hS1
 obtain ⟨⟨cA0,cA1⟩,fA0,fA1⟩:=hS2.out.f2 1 w.heap.size 27 (.int .u64 x1) (.slice p1 l1 q1) rfl
 obtain ⟨⟨cR0,cR1⟩,fR0,fR1⟩:=hS2.out.f2 0 (w.heap.size+1) 27 (.int .u64 0) (.slice none 0 0) rfl
 have hS3:=hid ((((hS2.out).store (b:=⟨w.heap.size+1,27,[.int .u64 0,.slice none 0 0]⟩) 0 0 (.int .u64 x1) rfl rfl).store (b:=⟨w.heap.size+1,27,[.int .u64 x1,.slice none 0 0]⟩) 0 1 (.slice p1 l1 q1) rfl rfl).as [⟨w.heap.size+1,27,[.int .u64 x1,.slice p1 l1 q1]⟩,⟨w.heap.size,27,[.int .u64 x1,.slice p1 l1 q1]⟩] rfl)
 go_wp2_with fail
 clear cA0 cA1 fA0 fA1 cR0 cR1 fR0 fR1
 obtain ⟨⟨zR0,zR1⟩,-⟩:=hS3.out.f2 0 (w.heap.size+1) 27 (.int .u64 x1) (.slice p1 l1 q1) rfl
 exact bodyPost_ret (v:=.agg #[.int .u64 x1,.slice p1 l1 q1]) (by simp [results,Tryz.results192,go_sem,zR0,zR1]) rfl ⟨0,by decide,by decide,_,_,rfl,(hS3.out.get (f:=.m (.int .u64 x1) (.slice p1 l1 q1) (0)) 0 rfl),hS3.out.bel⟩
theorem TD (n k:Nat) (x1:Int) (p1:Option Addr) (l1 q1:Nat) (w:World) (i1:ah w (.int .u64 x1) (.slice p1 l1 q1) n) (hk:k≤8589934592) (hn:n<B64 ^ k) (h0:0<n) :
  Calls Tryz.prog 192 #[.agg #[.int .u64 x1,.slice p1 l1 q1]] w (xA w n):=by
 have hz:(n == 0)=false:=by simp;omega
 have HZ:=hid (fun (W:World) (h:ah W (.int .u64 x1) (.slice p1 l1 q1) n)=>hz ▸ dA _ _ n W h)
 have HB:=hid (fun (W:World) (h:ah W (.int .u64 x1) (.slice p1 l1 q1) n)=>JW _ _ n k W h (by omega) hn)
 have HO:=hid (fun (b:Nat) (c d:Value) (W:World) (h:ah W (.int .u64 x1) (.slice p1 l1 q1) n) (j:ah W c d b) (hb:0<b)=>qY n b k _ _ c d W h j hb (by omega) hn)
 have HN:=hid (And.intro hn h0)
 have HI:=hid i1
 clear i1 hz h0 hn
 go_enter Tryz.func192,Tryz.ntmps192
 go_wp2_with fail
 have hS0:=hid (((St.start w).alloc' (w.heap.size) (by simp) 27 [.int .u64 x1,.slice p1 l1 q1]).alloc' (w.heap.size+1) (by simp) 27 [.int .u64 0,.slice none 0 0])
 obtain ⟨W0,hW0⟩:=aQ hS0
 rw [hW0] at hS0 ⊢
 clear hW0
 have hi1:=HI.out.below hS0.out.bel
 have hS1:=hid (hS0.out.fact (.m (.int .u64 x1) (.slice p1 l1 q1) (n)) hi1)
 clear hS0 hi1
 refine (HZ.out _ (hS1.out.get (f:=.m (.int .u64 x1) (.slice p1 l1 q1) (n)) 0 rfl)).mono ?_
 rintro e w1 ⟨rfl,hB⟩
 have hS2:=hid (hS1.out.call hB)
 clear hB
 clear hS1
 obtain ⟨ne1l,ne1,ne1'⟩:=hS2.out.ne 1 w.heap.size 27 [.int .u64 x1,.slice p1 l1 q1] rfl
 obtain ⟨ne2l,ne2,ne2'⟩:=hS2.out.ne 0 (w.heap.size+1) 27 [.int .u64 0,.slice none 0 0] rfl
 obtain ⟨⟨cA0,cA1⟩,fA0,fA1⟩:=hS2.out.f2 1 w.heap.size 27 (.int .u64 x1) (.slice p1 l1 q1) rfl
 go_wp2_with fail
 clear cA0 cA1 fA0 fA1
 have hS3:=hid ((hS2.out).alloc' (w1.heap.size) (by simp) 27 [.int .u64 2,.slice none 0 0])
 obtain ⟨W1,hW1⟩:=aQ hS3
 rw [hW1] at hS3 ⊢
 clear hW1
 refine (HB.out _ (hS3.out.get (f:=.m (.int .u64 x1) (.slice p1 l1 q1) (n)) 0 rfl)).mono ?_
 rintro e w2 ⟨v,rfl,hv,hB⟩
 have hS4:=hid (hS3.out.call hB)
 clear hB
 clear hS3
 have hv1:=hv.2 HN.out.2
 have hvb:v≤64*k:=by
  have h1:2 ^ (v - 1)<2 ^ (64*k):=Nat.lt_of_le_of_lt hv1.2.1 (by have:=HN.out.1;rwa [show B64=2 ^ 64 from by decide,← Nat.pow_mul] at this)
  have:=(Nat.pow_lt_pow_iff_right (by decide:1<2)).1 h1
  omega
 have HV:=hid (And.intro hv1 hvb)
 have hvs:v≤549755813888:=by omega
 clear hv hv1 hvb
 go_wp2_with fail
 rw [show ((v:Int)+1) / 2=(((v+1) / 2:Nat):Int) from by omega]
 refine (FM 1 ((v+1) / 2) 1 _ _ _ (nH _ 1 (by decide)) (by omega) (by omega) (by decide)).mono ?_
 rintro e w3 ⟨c2,d2,rfl,hm2,hB⟩
 have hS5:=hid (hS4.out.call hB)
 clear hB
 clear hS4
 obtain ⟨x2,p2,l2,q2,rfl,rfl⟩:=hm2.shape
 rw [Nat.one_mul] at hm2
 obtain ⟨X0,hX0⟩:∃ X0,2 ^ ((v+1) / 2)=X0:=⟨_,rfl⟩
 rw [hX0] at hm2
 have HX:=hid (show 1≤X0∧X0<B64 ^ (k+1)∧n<(X0+1)*(X0+1) by
  have h1:=HV.out.1.2.2
  have h2:2 ^ v≤X0*X0:=by rw [← hX0,← Nat.pow_add];exact Nat.pow_le_pow_right (by decide) (by omega)
  have h3:1≤X0:=by rw [← hX0];exact Nat.one_le_two_pow
  refine ⟨h3,?_,?_⟩
  ·rw [← hX0,show B64=2 ^ 64 from by decide,← Nat.pow_mul];exact Nat.pow_lt_pow_right (by decide) (by have:=HV.out.2;omega)
  ·have h4:(X0+1)*(X0+1)=X0*X0+X0+X0+1:=by grind
   omega)
 clear hX0 HV hvs
 have hS6:=hid (hS5.out.fact (.m (.int .u64 x2) (.slice p2 l2 q2) (X0)) hm2)
 clear hS5 hm2
 obtain ⟨ne3l,ne3,ne3'⟩:=hS6.out.ne 2 w.heap.size 27 [.int .u64 x1,.slice p1 l1 q1] rfl
 obtain ⟨ne4l,ne4,ne4'⟩:=hS6.out.ne 1 (w.heap.size+1) 27 [.int .u64 0,.slice none 0 0] rfl
 obtain ⟨ne5l,ne5,ne5'⟩:=hS6.out.ne 0 w1.heap.size 27 [.int .u64 2,.slice none 0 0] rfl
 obtain ⟨⟨cA0,cA1⟩,fA0,fA1⟩:=hS6.out.f2 2 w.heap.size 27 (.int .u64 x1) (.slice p1 l1 q1) rfl
 obtain ⟨⟨ctwo0,ctwo1⟩,ftwo0,ftwo1⟩:=hS6.out.f2 0 w1.heap.size 27 (.int .u64 2) (.slice none 0 0) rfl
 go_wp2_with fail
 clear cA0 cA1 fA0 fA1 ctwo0 ctwo1 ftwo0 ftwo1
 have hL:=hid ((hS6.out).alloc' (w3.heap.size) (by simp) 27 [.int .u64 x2,.slice p2 l2 q2])
 go_loopg [5] X0 (fun X _ wr=>∃ (x3:Int) (p3:Option Addr) (l3 q3:Nat),1≤X∧X<B64 ^ (k+1)∧n<(X+1)*(X+1)∧St w [⟨w3.heap.size,27,[.int .u64 x3,.slice p3 l3 q3]⟩,⟨w1.heap.size,27,[.int .u64 2,.slice none 0 0]⟩,⟨w.heap.size+1,27,[.int .u64 0,.slice none 0 0]⟩,⟨w.heap.size,27,[.int .u64 x1,.slice p1 l1 q1]⟩] [.m (.int .u64 x3) (.slice p3 l3 q3) (X),.m (.int .u64 x1) (.slice p1 l1 q1) (n)] wr)
 case atStart=>exact ⟨x2,p2,l2,q2,HX.out.1,HX.out.2.1,HX.out.2.2,⟨hL.out.bel,hL.out.box,(hL.out.get (f:=.m (.int .u64 x2) (.slice p2 l2 q2) (X0)) 0 rfl),(hL.out.get (f:=.m (.int .u64 x1) (.slice p1 l1 q1) (n)) 1 rfl),trivial⟩⟩
 case round =>
  clear hL
  obtain ⟨x3,p3,l3,q3,h1,h2,h3,hSt⟩:=hrel
  have HS:=hid hSt
  have HX3:=hid (And.intro h1 (And.intro h2 h3))
  have hy1:n / gk<B64 ^ (k+1):=Nat.lt_of_le_of_lt (Nat.div_le_self _ _) (Nat.lt_of_lt_of_le HN.out.1 (Nat.pow_le_pow_right (by decide) (by omega)))
  have hy2:n / gk+gk<B64 ^ (k+2):=by
   rw [Nat.pow_succ B64 (k+1)]
   have:B64 ^ (k+1)*2≤B64 ^ (k+1)*B64:=Nat.mul_le_mul_left _ (by decide)
   omega
  have HY:=hid (And.intro h1 (And.intro h2 (And.intro hy1 hy2)))
  obtain ⟨Y,hY⟩:∃ Y,(n / gk+gk) / 2=Y:=⟨_,rfl⟩
  have HYe:=hid hY
  have HQ:=hid (fun (c d:Value) (W:World) (j:ah W c d (n / gk+gk))=>hY ▸ qY (n / gk+gk) 2 (k+2) c d (.int .u64 2) (.slice none 0 0) W j (nH _ 2 (by decide)) (by decide) (by omega) hy2)
  clear hSt h1 h2 h3 hy1 hy2 hY HX
  go_wp2_with fail
  have LM0:=hid (fun (W:World) (h:Below wr.heap.size wr W)=>((HS.out.call h).f2 3 w.heap.size 27 (.int .u64 x1) (.slice p1 l1 q1) rfl).1)
  have LM1:=hid (fun (W:World) (h:Below wr.heap.size wr W)=>((HS.out.call h).f2 0 w3.heap.size 27 (.int .u64 x3) (.slice p3 l3 q3) rfl).1)
  have LM2:=hid (fun (W:World) (h:Below wr.heap.size wr W)=>((HS.out.call h).f2 1 w1.heap.size 27 (.int .u64 2) (.slice none 0 0) rfl).1)
  refine wp_region_inv 8 [⟨[],[0]⟩,⟨[],[1]⟩,⟨[0,1],[2]⟩,⟨[],[3]⟩,⟨[2,3],[4]⟩,⟨[],[5]⟩,⟨[4,5],[6]⟩,⟨[],[7]⟩]
   [oE (.agg #[.int .u64 x1,.slice p1 l1 q1]),oE (.agg #[.int .u64 x3,.slice p3 l3 q3]),one (dH (n / gk)),oE (.agg #[.int .u64 x3,.slice p3 l3 q3]),one (dH (n / gk+gk)),oE (.agg #[.int .u64 2,.slice none 0 0]),one (dH (Y)),one (gW wr.heap.size 27 [.int .u64 0,.slice none 0 0])]
   (fun _ W=>Below wr.heap.size wr W) (by kernel_rfl) (by kernel_rfl) ?hTWr ?hZWr ?hOWr ?hEWr
  case hZWr=>exact (Below.refl _ _).drew
  case hTWr =>
   simp only [List.forall_mem_cons,List.not_mem_nil,false_imp_iff,implies_true,and_true]
   exact ⟨bE,bE,aN lC,bE,aN lC,bE,aN lC,aN vU⟩
  case hOWr =>
   intro u
   simp only [List.take_succ_cons,List.take_zero,putAll]
   repeat' (first | with_reducible exact debts_nil | with_reducible refine debts_cons ?_ ?_)
   ·intro W hS hF K hK
    have hcA:=LM0.out W hS
    go_simp
    exact hK _ _ (.refl _ _) hS rfl
   ·intro W hS hF K hK
    have hcx:=LM1.out W hS
    go_simp
    exact hK _ _ (.refl _ _) hS rfl
   ·intro W hS hF K hK
    have h0:u 0=.agg #[.int .u64 x1,.slice p1 l1 q1]:=hF.1
    have h1:u 1=.agg #[.int .u64 x3,.slice p3 l3 q3]:=hF.2.1
    have sH:=hid (HS.out.call hS)
    clear hF
    go_simp
    refine (HO.out gk _ _ _ (sH.out.get (f:=.m (.int .u64 x1) (.slice p1 l1 q1) (n)) 1 rfl) (sH.out.get (f:=.m (.int .u64 x3) (.slice p3 l3 q3) (gk)) 0 rfl) HY.out.1).mono ?_
    rintro e wA ⟨c,d,rfl,hm,hBA⟩
    obtain ⟨xx,pp,ll,qq,rfl,rfl⟩:=hm.shape
    exact ⟨_,rfl,hK _ _ hBA (hS.trans (hBA.mono hS.size)) ⟨_,_,_,_,rfl,hm⟩⟩
   ·intro W hS hF K hK
    have hcx:=LM1.out W hS
    go_simp
    exact hK _ _ (.refl _ _) hS rfl
   ·intro W hS hF K hK
    obtain ⟨x2,p2,l2,q2,h2,m2⟩:dH (n / gk) (u 2) W:=hF.1
    have h3:u 3=.agg #[.int .u64 x3,.slice p3 l3 q3]:=hF.2.1
    have sH:=hid (HS.out.call hS)
    clear hF
    go_simp
    refine (Af (n / gk) gk (k+1) _ _ _ _ _ m2 (sH.out.get (f:=.m (.int .u64 x3) (.slice p3 l3 q3) (gk)) 0 rfl) (by omega) HY.out.2.2.1 HY.out.2.1).mono ?_
    rintro e wA ⟨c,d,rfl,hm,hBA⟩
    obtain ⟨xx,pp,ll,qq,rfl,rfl⟩:=hm.shape
    exact ⟨_,rfl,hK _ _ hBA (hS.trans (hBA.mono hS.size)) ⟨_,_,_,_,rfl,hm⟩⟩
   ·intro W hS hF K hK
    have hctwo:=LM2.out W hS
    go_simp
    exact hK _ _ (.refl _ _) hS rfl
   ·intro W hS hF K hK
    obtain ⟨x4,p4,l4,q4,h4,m4⟩:dH (n / gk+gk) (u 4) W:=hF.1
    have h5:u 5=.agg #[.int .u64 2,.slice none 0 0]:=hF.2.1
    clear hF
    go_simp
    refine (HQ.out _ _ _ m4).mono ?_
    rintro e wA ⟨c,d,rfl,hm,hBA⟩
    obtain ⟨xx,pp,ll,qq,rfl,rfl⟩:=hm.shape
    exact ⟨_,rfl,hK _ _ hBA (hS.trans (hBA.mono hS.size)) ⟨_,_,_,_,rfl,hm⟩⟩
   ·intro W hS hF K hK
    go_simp
    refine hK _ _ ((Below.refl _ _).alloc (Nat.le_refl _) _) (hS.alloc hS.size _) ?_
    exact (show (gW wr.heap.size 27 [.int .u64 0,.slice none 0 0]) _ _ from ⟨_,rfl,hS.size,by simp,Bx.new W 27 [.int .u64 0,.slice none 0 0]⟩)
  case hEWr =>
   intro u Wr hS hF
   have hS7:=hid (HS.out.call hS)
   obtain ⟨L7,e7,hl7,hm7,hb7⟩:gW wr.heap.size 27 [.int .u64 0,.slice none 0 0] (u 7) Wr:=hF.2.2.2.2.2.2.2.1
   have hS8:=hid (hS7.out.add (Nat.le_trans HS.out.bel.size hl7) hb7 (HS.out.old hl7))
   clear hb7
   have hv0:dH Y (u 6) Wr:=hF.2.2.2.2.2.2.1
   clear hF hS
   obtain ⟨x6,p6,l6,q6,e6,m6⟩:=hv0
   have n7x:¬ L7=w3.heap.size:=by have:=(HS.out.bx (b:=⟨w3.heap.size,27,[.int .u64 x3,.slice p3 l3 q3]⟩) 0 rfl).lt;simp only at this;omega
   have n7x':¬ w3.heap.size=L7:=fun h=>n7x h.symm
   have n7two:¬ L7=w1.heap.size:=by have:=(HS.out.bx (b:=⟨w1.heap.size,27,[.int .u64 2,.slice none 0 0]⟩) 1 rfl).lt;simp only at this;omega
   have n7two':¬ w1.heap.size=L7:=fun h=>n7two h.symm
   have n7R:¬ L7=w.heap.size+1:=by have:=(HS.out.bx (b:=⟨w.heap.size+1,27,[.int .u64 0,.slice none 0 0]⟩) 2 rfl).lt;simp only at this;omega
   have n7R':¬ w.heap.size+1=L7:=fun h=>n7R h.symm
   have n7A:¬ L7=w.heap.size:=by have:=(HS.out.bx (b:=⟨w.heap.size,27,[.int .u64 x1,.slice p1 l1 q1]⟩) 3 rfl).lt;simp only at this;omega
   have n7A':¬ w.heap.size=L7:=fun h=>n7A h.symm
   have hS9:=hid (hS8.out.fact (.m (.int .u64 x6) (.slice p6 l6 q6) (Y)) m6)
   clear hS8 m6
   obtain ⟨⟨cx0,cx1⟩,fx0,fx1⟩:=hS9.out.f2 1 w3.heap.size 27 (.int .u64 x3) (.slice p3 l3 q3) rfl
   obtain ⟨⟨cyy0,cyy1⟩,fyy0,fyy1⟩:=hS9.out.f2 0 L7 27 (.int .u64 0) (.slice none 0 0) rfl
   simp only [List.take_succ_cons,List.take_zero,putAll,List.drop_succ_cons,List.drop_zero]
   go_wp2_with fail
   clear cx0 cx1 fx0 fx1 cyy0 cyy1 fyy0 fyy1
   have hS10:=hid ((((hS9.out).store (b:=⟨L7,27,[.int .u64 0,.slice none 0 0]⟩) 0 0 (.int .u64 x6) rfl rfl).store (b:=⟨L7,27,[.int .u64 x6,.slice none 0 0]⟩) 0 1 (.slice p6 l6 q6) rfl rfl).as [⟨L7,27,[.int .u64 x6,.slice p6 l6 q6]⟩,⟨w3.heap.size,27,[.int .u64 x3,.slice p3 l3 q3]⟩,⟨w1.heap.size,27,[.int .u64 2,.slice none 0 0]⟩,⟨w.heap.size+1,27,[.int .u64 0,.slice none 0 0]⟩,⟨w.heap.size,27,[.int .u64 x1,.slice p1 l1 q1]⟩] rfl)
   obtain ⟨Wy,hWy⟩:=aQ hS10
   rw [hWy] at hS10 ⊢
   clear hWy
   refine (Fq Y gk (k+2) _ _ _ _ _ (hS10.out.get (f:=.m (.int .u64 x6) (.slice p6 l6 q6) (Y)) 0 rfl) (hS10.out.get (f:=.m (.int .u64 x3) (.slice p3 l3 q3) (gk)) 1 rfl) (by omega) (HYe.out ▸ Nat.lt_of_le_of_lt (Nat.div_le_self _ _) HY.out.2.2.2)).mono ?_
   rintro e w8 ⟨rfl,hB⟩
   have hS11:=hid (hS10.out.call hB)
   clear hB
   clear hS10
   obtain ⟨C,hC⟩:∃ C,aC Y gk=C:=⟨_,rfl⟩
   rw [hC]
   have HC:=hid hC
   by_cases hge:gk≤Y
   ·have hc0:0≤C:=by
     rw [← hC]
     rcases Nat.lt_or_eq_of_le hge with h | h
     ·rw [gJ h];decide
     ·rw [h,iC];decide
    clear hC
    obtain ⟨⟨cx0,cx1⟩,fx0,fx1⟩:=hS11.out.f2 1 w3.heap.size 27 (.int .u64 x3) (.slice p3 l3 q3) rfl
    obtain ⟨⟨cR0,cR1⟩,fR0,fR1⟩:=hS11.out.f2 3 (w.heap.size+1) 27 (.int .u64 0) (.slice none 0 0) rfl
    have hS12:=hid ((((hS11.out).store (b:=⟨w.heap.size+1,27,[.int .u64 0,.slice none 0 0]⟩) 3 0 (.int .u64 x3) rfl rfl).store (b:=⟨w.heap.size+1,27,[.int .u64 x3,.slice none 0 0]⟩) 3 1 (.slice p3 l3 q3) rfl rfl).as [⟨L7,27,[.int .u64 x6,.slice p6 l6 q6]⟩,⟨w3.heap.size,27,[.int .u64 x3,.slice p3 l3 q3]⟩,⟨w1.heap.size,27,[.int .u64 2,.slice none 0 0]⟩,⟨w.heap.size+1,27,[.int .u64 x3,.slice p3 l3 q3]⟩,⟨w.heap.size,27,[.int .u64 x1,.slice p1 l1 q1]⟩] rfl)
    go_wp2_with fail
    clear cx0 cx1 fx0 fx1 cR0 cR1 fR0 fR1
    obtain ⟨⟨zR0,zR1⟩,-⟩:=hS12.out.f2 3 (w.heap.size+1) 27 (.int .u64 x3) (.slice p3 l3 q3) rfl
    exact bodyPost_ret (v:=.agg #[.int .u64 x3,.slice p3 l3 q3]) (by simp [results,Tryz.results192,go_sem,zR0,zR1]) rfl ⟨gk,Ru n gk HX3.out.1 (by rw [HYe.out];exact hge),HX3.out.2.2,_,_,rfl,(hS12.out.get (f:=.m (.int .u64 x3) (.slice p3 l3 q3) (gk)) 1 rfl),hS12.out.bel⟩
   ·have hlt:Y<gk:=by omega
    have hc0:¬ 0≤C:=by rw [← hC,eY hlt];decide
    clear hC hge
    obtain ⟨⟨cx0,cx1⟩,fx0,fx1⟩:=hS11.out.f2 1 w3.heap.size 27 (.int .u64 x3) (.slice p3 l3 q3) rfl
    obtain ⟨⟨cyy0,cyy1⟩,fyy0,fyy1⟩:=hS11.out.f2 0 L7 27 (.int .u64 x6) (.slice p6 l6 q6) rfl
    go_wp2_with fail
    clear cx0 cx1 fx0 fx1 cyy0 cyy1 fyy0 fyy1
    have hJ:=hid ((((hS11.out).store (b:=⟨w3.heap.size,27,[.int .u64 x3,.slice p3 l3 q3]⟩) 1 0 (.int .u64 x6) rfl rfl).store (b:=⟨w3.heap.size,27,[.int .u64 x6,.slice p3 l3 q3]⟩) 1 1 (.slice p6 l6 q6) rfl rfl).as [⟨L7,27,[.int .u64 x6,.slice p6 l6 q6]⟩,⟨w3.heap.size,27,[.int .u64 x6,.slice p6 l6 q6]⟩,⟨w1.heap.size,27,[.int .u64 2,.slice none 0 0]⟩,⟨w.heap.size+1,27,[.int .u64 0,.slice none 0 0]⟩,⟨w.heap.size,27,[.int .u64 x1,.slice p1 l1 q1]⟩] rfl)
    go_roundg Y
    case rel =>
     have g1:=Rq n gk HN.out.2 HX3.out.1 (by rw [HYe.out];exact hlt)
     have g2:=Ro n gk HX3.out.1
     rw [HYe.out] at g1 g2
     exact ⟨x6,p6,l6,q6,g1,Nat.lt_trans hlt HX3.out.2.1,g2,⟨hJ.out.bel,hJ.out.box.2,(hJ.out.get (f:=.m (.int .u64 x6) (.slice p6 l6 q6) (Y)) 0 rfl),(hJ.out.get (f:=.m (.int .u64 x1) (.slice p1 l1 q1) (n)) 2 rfl),trivial⟩⟩
    case measure=>exact hlt
theorem TB (c d:Value) (n k:Nat) (w:World) (h:ah w c d n) (hk:k≤8589934592) (hn:n<B64 ^ k):Calls Tryz.prog 192 #[.agg #[c,d]] w (xA w n):=by
 obtain ⟨x,p,l,q,rfl,rfl⟩:=h.shape
 rcases Nat.eq_zero_or_pos n with h0 | h0
 ·subst h0
  exact TG x p l q w h
 ·exact TD n k x p l q w h hk hn h0
end
section
open Go.RowKit Go.Sort
attribute [local go_sem] takes takesUpon_value takesUpon_skip takesUpon_enter
theorem SA (k:Nat) (hk:k≤8796093022208) (w:World):Calls Tryz.prog 147 #[.int .i64 (k:Int)] w (aU w (((2 ^ k:Nat):Int):Rat)):=by
 have HM:=hid (fun (W:World)=>FM 1 k 1 _ _ W (nH _ 1 (by decide)) (by omega) hk (by decide))
 obtain ⟨X,hX⟩:∃ X,2 ^ k=X:=⟨_,rfl⟩
 rw [Nat.one_mul,hX] at HM
 rw [hX]
 clear hX
 go_enter Tryz.func147,Tryz.ntmps147
 go_wp2_with fail
 have hS0:=hid ((St.start w).alloc' (w.heap.size) (by simp) 31 z5)
 obtain ⟨W0,hW0⟩:=aQ hS0
 rw [hW0] at hS0 ⊢
 clear hW0
 refine (HM.out _).mono ?_
 rintro e w1 ⟨c1,d1,rfl,hm1,hB⟩
 have hS1:=hid (hS0.out.call hB)
 clear hB
 clear hS0
 obtain ⟨x1,p1,l1,q1,rfl,rfl⟩:=hm1.shape
 have hS2:=hid (hS1.out.fact (.m (.int .u64 x1) (.slice p1 l1 q1) (X)) hm1)
 clear hS1 hm1
 go_wp2_with fail
 refine (qw _ _ _ _ _ _).mono ?_
 rintro e w2 ⟨rfl,hB⟩
 have hS3:=hid (hS2.out.call hB)
 clear hB
 clear hS2
 obtain ⟨⟨cR0,cR1,cR2,cR3,cR4⟩,fR0,fR1,fR2,fR3,fR4⟩:=hS3.out.f5 0 w.heap.size 31 (.bool false) (.int .u64 0) (.slice none 0 0) (.int .u64 0) (.slice none 0 0) rfl
 have hS4:=hid (((((((hS3.out).store (b:=⟨w.heap.size,31,z5⟩) 0 0 (.bool false) rfl rfl).store (b:=⟨w.heap.size,31,z5⟩) 0 1 (.int .u64 x1) rfl rfl).store (b:=⟨w.heap.size,31,[.bool false,.int .u64 x1,.slice none 0 0,.int .u64 0,.slice none 0 0]⟩) 0 2 (.slice p1 l1 q1) rfl rfl).store (b:=⟨w.heap.size,31,[.bool false,.int .u64 x1,.slice p1 l1 q1,.int .u64 0,.slice none 0 0]⟩) 0 3 (.int .u64 0) rfl rfl).store (b:=⟨w.heap.size,31,[.bool false,.int .u64 x1,.slice p1 l1 q1,.int .u64 0,.slice none 0 0]⟩) 0 4 (.slice none 0 0) rfl rfl).as [⟨w.heap.size,31,[.bool false,.int .u64 x1,.slice p1 l1 q1,.int .u64 0,.slice none 0 0]⟩] rfl)
 go_wp2_with fail
 clear cR0 cR1 cR2 cR3 cR4 fR0 fR1 fR2 fR3 fR4
 obtain ⟨⟨zR0,zR1,zR2,zR3,zR4⟩,-⟩:=hS4.out.f5 0 w.heap.size 31 (.bool false) (.int .u64 x1) (.slice p1 l1 q1) (.int .u64 0) (.slice none 0 0) rfl
 have hq:=pO ((X:Nat):Int) (w:=(((((w2.setCell ⟨w.heap.size,0,none⟩ (.bool false)).setCell ⟨w.heap.size,1,none⟩ (.int .u64 x1)).setCell ⟨w.heap.size,2,none⟩ (.slice p1 l1 q1)).setCell ⟨w.heap.size,3,none⟩ (.int .u64 0)).setCell ⟨w.heap.size,4,none⟩ (.slice none 0 0))) (c:=.int .u64 x1) (d:=.slice p1 l1 q1) (by rw [Int.natAbs_natCast];exact (hS4.out.get (f:=.m (.int .u64 x1) (.slice p1 l1 q1) (X)) 0 rfl))
 rw [show decide (((X:Nat):Int)<0)=false from decide_eq_false (by omega)] at hq
 exact bodyPost_ret (v:=.agg #[.bool false,.int .u64 x1,.slice p1 l1 q1,.int .u64 0,.slice none 0 0]) (by simp [results,Tryz.results147,go_sem,zR0,zR1,zR2,zR3,zR4]) rfl ⟨_,rfl,hq,hS4.out.bel⟩
theorem Pn (k:Nat) (hk:k≤64) (w:World):Calls Tryz.prog 146 #[.int .i64 (k:Int)] w (bD w (.bool true)):=by
 go_enter Tryz.func146,Tryz.ntmps146
 go_wp2
 go_ret
 have h:(k:Int)≤64:=by omega
 refine ⟨?_,Below.refl _ _⟩
 show Ending.returned (.bool (decide ((k:Int)≤64)))=_
 rw [decide_eq_true h]
theorem Nr (t:Bool) (x:Int) (p:Option Addr) (l q:Nat) (y:Int) (r:Option Addr) (s u:Nat) (W:World):(Instr.field 31 (.agg #[.bool t,.int .u64 x,.slice p l q,.int .u64 y,.slice r s u]) 0).run Tryz.prog W=.ok (.agg #[.bool t,.int .u64 x,.slice p l q]) W:=by
 kernel_rfl
theorem Ns (t:Bool) (x:Int) (p:Option Addr) (l q:Nat) (W:World):(Instr.field 29 (.agg #[.bool t,.int .u64 x,.slice p l q]) 1).run Tryz.prog W=.ok (.agg #[.int .u64 x,.slice p l q]) W:=by
 kernel_rfl
theorem NU (r:Rat) (F:Nat) (hF:r.num / (r.den:Int)=(F:Int)) (v:Value) (k:Nat) (w:World) (h:IsQ w v r) (hk:k≤8589934592) (f:Fits k r):Calls Tryz.prog 148 #[v] w (fun e w'=>∃ s:Nat,s*s≤F∧F<(s+1)*(s+1)∧aU w (((s:Nat):Int):Rat) e w'):=by
 have HL:=hid (fun (W:World) (v:Value) (h:IsQ W v r)=>BR r v k W h (by omega) f)
 rw [hF] at HL
 have hFk:F<B64 ^ k:=by
  have h1:=f.1
  have h2:(F:Int)≤(r.num.natAbs:Int):=by
   rw [← hF]
   refine Int.le_trans (Int.ediv_le_ediv (by have:=r.den_pos;omega) (Int.le_natAbs)) ?_
   exact Int.ediv_le_self _ (by omega)
  omega
 have HR:=hid (fun (W:World) (c d:Value) (h:ah W c d F)=>TB c d F k W h hk hFk)
 obtain ⟨t1,x1,p1,l1,q1,y1,r1,s1,u1,rfl⟩:=h.open
 have HI:=hid h
 have hq0:=Nr
 have hs1:=Ns
 clear h hF hFk f
 go_enter Tryz.func148,Tryz.ntmps148
 go_wp2_with fail
 have hS0:=hid (((St.start w).alloc' (w.heap.size) (by simp) 31 (c5 t1 x1 p1 l1 q1 y1 r1 s1 u1)).alloc' (w.heap.size+1) (by simp) 31 z5)
 obtain ⟨W0,hW0⟩:=aQ hS0
 rw [hW0] at hS0 ⊢
 clear hW0
 have hi1:=HI.out.below hS0.out.bel
 have hS1:=hid (hS0.out.fq hi1)
 clear hS0 hi1
 refine (HL.out _ _ (hS1.out.gq 0 rfl)).mono ?_
 rintro e w1 ⟨v2,rfl,hv2,hB⟩
 have hS2:=hid (hS1.out.call hB)
 clear hB
 clear hS1
 obtain ⟨t2,x2,p2,l2,q2,y2,r2,s2,u2,rfl,hm2,-,-⟩:=hv2.shape
 rw [show ((F:Int):Rat).num=(F:Int) from rfl,Int.natAbs_natCast] at hm2
 clear hv2
 have hS3:=hid (hS2.out.fact (.m (.int .u64 x2) (.slice p2 l2 q2) (F)) hm2)
 clear hS2 hm2
 go_wp2_with fail
 refine (HR.out _ _ _ (hS3.out.get (f:=.m (.int .u64 x2) (.slice p2 l2 q2) (F)) 0 rfl)).mono ?_
 rintro e w2 ⟨S,hs1',hs2',c3,d3,rfl,hm3,hB⟩
 have hS4:=hid (hS3.out.call hB)
 clear hB
 clear hS3
 obtain ⟨x3,p3,l3,q3,rfl,rfl⟩:=hm3.shape
 have HS:=hid (And.intro hs1' hs2')
 clear hs1' hs2'
 have hS5:=hid (hS4.out.fact (.m (.int .u64 x3) (.slice p3 l3 q3) (S)) hm3)
 clear hS4 hm3
 go_wp2_with fail
 refine (qw _ _ _ _ _ _).mono ?_
 rintro e w3 ⟨rfl,hB⟩
 have hS6:=hid (hS5.out.call hB)
 clear hB
 clear hS5
 obtain ⟨⟨cR0,cR1,cR2,cR3,cR4⟩,fR0,fR1,fR2,fR3,fR4⟩:=hS6.out.f5 0 (w.heap.size+1) 31 (.bool false) (.int .u64 0) (.slice none 0 0) (.int .u64 0) (.slice none 0 0) rfl
 have hS7:=hid (((((((hS6.out).store (b:=⟨w.heap.size+1,31,z5⟩) 0 0 (.bool false) rfl rfl).store (b:=⟨w.heap.size+1,31,z5⟩) 0 1 (.int .u64 x3) rfl rfl).store (b:=⟨w.heap.size+1,31,[.bool false,.int .u64 x3,.slice none 0 0,.int .u64 0,.slice none 0 0]⟩) 0 2 (.slice p3 l3 q3) rfl rfl).store (b:=⟨w.heap.size+1,31,[.bool false,.int .u64 x3,.slice p3 l3 q3,.int .u64 0,.slice none 0 0]⟩) 0 3 (.int .u64 0) rfl rfl).store (b:=⟨w.heap.size+1,31,[.bool false,.int .u64 x3,.slice p3 l3 q3,.int .u64 0,.slice none 0 0]⟩) 0 4 (.slice none 0 0) rfl rfl).as [⟨w.heap.size+1,31,[.bool false,.int .u64 x3,.slice p3 l3 q3,.int .u64 0,.slice none 0 0]⟩,⟨w.heap.size,31,(c5 t1 x1 p1 l1 q1 y1 r1 s1 u1)⟩] rfl)
 go_wp2_with fail
 clear cR0 cR1 cR2 cR3 cR4 fR0 fR1 fR2 fR3 fR4
 obtain ⟨⟨zR0,zR1,zR2,zR3,zR4⟩,-⟩:=hS7.out.f5 0 (w.heap.size+1) 31 (.bool false) (.int .u64 x3) (.slice p3 l3 q3) (.int .u64 0) (.slice none 0 0) rfl
 have hq:=pO ((S:Nat):Int) (w:=(((((w3.setCell ⟨w.heap.size+1,0,none⟩ (.bool false)).setCell ⟨w.heap.size+1,1,none⟩ (.int .u64 x3)).setCell ⟨w.heap.size+1,2,none⟩ (.slice p3 l3 q3)).setCell ⟨w.heap.size+1,3,none⟩ (.int .u64 0)).setCell ⟨w.heap.size+1,4,none⟩ (.slice none 0 0))) (c:=.int .u64 x3) (d:=.slice p3 l3 q3) (by rw [Int.natAbs_natCast];exact (hS7.out.get (f:=.m (.int .u64 x3) (.slice p3 l3 q3) (S)) 0 rfl))
 rw [show decide (((S:Nat):Int)<0)=false from decide_eq_false (by omega)] at hq
 exact bodyPost_ret (v:=.agg #[.bool false,.int .u64 x3,.slice p3 l3 q3,.int .u64 0,.slice none 0 0]) (by simp [results,Tryz.results148,go_sem,zR0,zR1,zR2,zR3,zR4]) rfl ⟨S,HS.out.1,HS.out.2,_,rfl,hq,hS7.out.bel⟩
end
end Go.Proofs.YtcglmmbgoonjnaaGreatDoor
