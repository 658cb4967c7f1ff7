/- What the proof rests on, part 37. -/
import Derived.Test.YtcglmmbgoonjnaaGreatDoorP35
import Derived.Test.YtcglmmbgoonjnaaGreatDoorP36
namespace Go.Proofs.YtcglmmbgoonjnaaGreatDoor
set_option maxRecDepth 100000
set_option maxHeartbeats 80000000
namespace Rx
open Go.RowKit
def Ce (h:Hint) (db:List Fc) (a a' b:Nat):Option (List Fc):=match iG db a,iG db a' with
 | some e,some e'=>if cmB h (.add e e') (.c 4611686018427387904)=some (-1) && cmB h (.c (-1)) (.add e e')=some (-1) then some [.i b (.add e e')] else none
 | _,_=>none
def HA (β:Nat→Rat) (h:Hint) (ok:h.Ok β):Tests (SQ β) where
 eq:=fun _ _ _=>none
 ok:=fun h=>(by cases h)
 add:=Ce h
 addOk:=fun {db a a' b new} hh ρ W hf=>by
  unfold Ce at hh
  split at hh
  ·rename_i e e' h1 h2
   split at hh
   ·rename_i hc
    simp only [Bool.and_eq_true,decide_eq_true_eq] at hc
    cases hh
    obtain ⟨-,-,g1⟩:=(show Fc.on β ρ (.i a e) W from hf _ (iI h1))
    obtain ⟨-,-,g2⟩:=(show Fc.on β ρ (.i a' e') W from hf _ (iI h2))
    have hs:(((ρ a).u+(ρ a').u:Int):Rat)=(RE.add e e').ev β:=by rw [Rat.intCast_add,g1,g2];rfl
    have k1:=qC (iE ok hc.1)
    have k2:=qC (iE ok hc.2)
    rw [← hs] at k1 k2
    have l1:(ρ a).u+(ρ a').u<4611686018427387904:=Rat.intCast_lt_intCast.1 (show (((ρ a).u+(ρ a').u:Int):Rat)<((4611686018427387904:Int):Rat) from k1)
    have l2:-1<(ρ a).u+(ρ a').u:=Rat.intCast_lt_intCast.1 (show ((-1:Int):Rat)<(((ρ a).u+(ρ a').u:Int):Rat) from k2)
    refine ⟨by rw [IntKind.wrap_i64];omega,fun ρ' _ hu f hm=>?_⟩
    obtain rfl:=List.mem_singleton.1 hm
    show _≤(ρ' b).u∧(ρ' b).u≤_∧(((ρ' b).u:Int):Rat)=_
    rw [hu,hs]
    exact ⟨by omega,by omega,rfl⟩
   ·cases hh
  ·cases hh
def sW (β:Nat→Rat):Con (SQ β) where
 fn:=137
 app:=fun db b args=>match args with
  | [.e (.a [.ou a,.os c])]=>if a=c then (match kP db a with
    | some (.v 0,k)=>if k≤4 then some (.e (.s (.oi b)),[.i b (.v 1)]) else none
    | some (.den (.v 0),k)=>if k≤4 then some (.e (.s (.oi b)),[.i b (.v 2)]) else none
    | _=>none) else none
  | _=>none
def tH (β:Nat→Rat):Con (SQ β) where
 fn:=129
 app:=fun db b args=>match args with
  | [.e (.a x)]=>match dB db x with
   | some (e,k)=>some (.e (.a [.ou b,.os b]),[.q b (.den e) k])
   | none=>none
  | _=>none
section
variable {β:Nat→Rat} {f:FuncId} {vals:Array Value} {W:World} {ρ:Env} {b:Nat}
theorem rW {n:Int} {e:RE} (hc:Calls Tryz.prog f vals W (aI W (.int .i64 n))) (h1:-9223372036854775808≤n) (h2:n≤9223372036854775807) (hn:(n:Rat)=e.ev β):Calls Tryz.prog f vals W (Ans β ρ b W (.e (.s (.oi b))) [.i b e]):=by
 refine hc.mono fun _ W' ⟨he,hb⟩=>?_
 refine ⟨aC ρ b [nu n],dS (by simp [M]),?_,hb,fun g hg=>?_⟩
 ·rw [he];simp [SV.den,El.den,Cell.den,aC,nu]
 ·rw [List.mem_singleton] at hg
  subst hg
  show _≤(aC ρ b _ b).u∧(aC ρ b _ b).u≤_∧(((aC ρ b _ b).u:Int):Rat)=_
  simp only [aC,Nat.le_refl,if_true,Nat.sub_self,List.getElem?_cons_zero,Option.getD_some,nu]
  exact ⟨h1,h2,hn⟩
theorem KF:(tH β).Ok Tryz.prog (SQ β) EV:=by
 intro db b args res new ha ρ W hf hE
 simp only [tH] at ha
 split at ha
 ·split at ha
  ·rename_i e k hx
   cases ha
   obtain ⟨⟨h1,h2⟩,-⟩:=dX hx hf
   obtain ⟨t,x,p,l,q,y,p',s,u,hv,-,j,-⟩:=IsQ.shape h1
   simp only [SV.den,El.den,List.map_cons,List.map_nil,hv]
   refine (Bc _ _ _ _ _ _ W j).mono ?_
   rintro e' W' ⟨c,d,rfl,hm,hb⟩
   obtain ⟨xx,pp,ll,qq,rfl,rfl⟩:=hm.shape
   rw [bC] at hm
   have h0:aC ρ b [⟨false,xx,pp,ll,qq,.empty,0⟩,⟨false,0,none,0,0,.empty,0⟩] b=⟨false,xx,pp,ll,qq,.empty,0⟩:=by simp [aC]
   have h9:aC ρ b [⟨false,xx,pp,ll,qq,.empty,0⟩,⟨false,0,none,0,0,.empty,0⟩] (b+1)=⟨false,0,none,0,0,.empty,0⟩:=by simp [aC]
   refine ⟨aC ρ b [⟨false,xx,pp,ll,qq,.empty,0⟩,⟨false,0,none,0,0,.empty,0⟩],dS (by simp [M]),?_,hb,fun g hg=>?_⟩
   ·simp [Cell.den,h0]
   ·obtain rfl:=List.mem_singleton.1 hg
    have hev:(RE.den e).ev β=((((e.ev β).den:Nat):Int):Rat):=rfl
    refine ⟨?_,by rw [hev];exact ⟨by rw [Rat.num_intCast,Int.natAbs_natCast];exact h2.2,by rw [Rat.den_intCast];have:=h2.2;have:=(e.ev β).den_pos;omega⟩⟩
    rw [hev]
    refine ⟨.int .u64 xx,.slice pp ll qq,.int .u64 0,.slice none 0 0,?_,?_,?_⟩
    ·rw [decide_eq_false (by rw [Rat.num_intCast];omega)]
     simp [aJ,Cell.den,h0,h9]
    ·rw [Rat.num_intCast,Int.natAbs_natCast]
     exact hm
    ·unfold aU
     rw [Rat.den_intCast,if_pos rfl]
     exact kW W' 0 (by decide)
  ·cases ha
 ·cases ha
theorem J7 {n m:Nat} (hn:dh (β 0).num.natAbs n) (hm:dh (β 0).den m) (h1:β 1=((n:Int):Rat)) (h2:β 2=((m:Int):Rat)) (b1:n≤256) (b2:m≤256):(sW β).Ok Tryz.prog (SQ β) EV:=by
 intro db b args res new ha ρ W hf hE
 have key:∀ {c d:Value} {z x:Nat},ah W c d z→z<B64 ^ 4→dh z x→Calls Tryz.prog 137 #[.agg #[c,d]] W (aI W (.int .i64 (x:Int))):=fun hz hk hx =>
  (C9 _ _ _ 4 W hz (by decide) hk).mono fun e W' ⟨y,he,hy,hb⟩=>⟨by rw [he,Dc hy hx],hb⟩
 have mag:∀ {a k} {e:RE},.q a e k∈db→ah W (.int .u64 (ρ a).u) (.slice (ρ a).p (ρ a).l (ρ a).c) (e.ev β).num.natAbs∧Fits k (e.ev β):=fun {a k e} hm=>by
  obtain ⟨g1,g2⟩:=hf _ hm
  obtain ⟨t,x1,p,l,q,y,p',s,u,hv,i,-,-⟩:=IsQ.shape g1
  have hv':=congrArg Array.toList (Value.agg.inj hv)
  simp only [aJ,List.map_cons,List.map_nil,Cell.den,List.cons.injEq,Value.slice.injEq,Value.int.injEq,true_and,and_true] at hv'
  obtain ⟨-,rfl,⟨rfl,rfl,rfl⟩,-⟩:=hv'
  exact ⟨i,g2⟩
 simp only [sW] at ha
 split at ha
 ·rename_i a c
  split at ha
  ·rename_i hac
   subst hac
   split at ha
   ·rename_i k hx
    split at ha
    ·rename_i hk
     cases ha
     obtain ⟨g1,g2⟩:=mag (jw hx)
     exact rW (e:=.v 1) (key g1 (Nat.lt_of_lt_of_le g2.1 (Nat.pow_le_pow_right (by decide) hk)) hn) (by omega) (by omega) h1.symm
    ·cases ha
   ·rename_i k hx
    split at ha
    ·rename_i hk
     cases ha
     obtain ⟨g1,g2⟩:=mag (jw hx)
     have hev:(RE.den (.v 0)).ev β=((((β 0).den:Nat):Int):Rat):=rfl
     rw [hev,Rat.num_intCast,Int.natAbs_natCast] at g1
     rw [hev] at g2
     have g3:=g2.1
     rw [Rat.num_intCast,Int.natAbs_natCast] at g3
     exact rW (e:=.v 2) (key g1 (Nat.lt_of_lt_of_le g3 (Nat.pow_le_pow_right (by decide) hk)) hm) (by omega) (by omega) h2.symm
    ·cases ha
   ·cases ha
  ·cases ha
 ·cases ha
end
def zG (e:RE):Option (SV×List Fc)→Bool
 | some (.e (.s (.oi a)),fs)=>match iG fs a with
  | some e'=>e'.beq e
  | none=>false
 | _=>false
theorem OZ {e:RE} {o:Option (SV×List Fc)} (h:zG e o=true):∃ a fs,o=some (.e (.s (.oi a)),fs)∧iG fs a=some e:=by
 unfold zG at h
 split at h
 ·split at h
  ·rename_i a fs _ e' ha;exact ⟨a,fs,rfl,by rw [ha,RE.beq_eq h]⟩
  ·cases h
 ·cases h
section
variable {W:World} {r:Rat} {v:Value}
theorem Jq {n m:Nat} (h1:IsQ W v r) (f1:Fits 4 r) (hn:dh r.num.natAbs n) (hm:dh r.den m) (hE:EV W):Calls Tryz.prog 42 #[v] W (aI W (.int .i64 ((n+m:Nat):Int))):=by
 have b1:=kF hn f1.1
 have b2:=kF hm f1.2
 obtain ⟨β,hβ⟩:∃ β,β=bet [r,((n:Int):Rat),((m:Int):Rat)]:=⟨_,rfl⟩
 have e0:β 0=r:=by rw [hβ];rfl
 have e1:β 1=((n:Int):Rat):=by rw [hβ];rfl
 have e2:β 2=((m:Int):Rat):=by rw [hβ];rfl
 clear hβ
 have hs:(RE.add (.v 1) (.v 2)).ev β=(((n+m:Nat):Int):Rat):=by show β 1+β 2=_;rw [e1,e2,← Rat.intCast_add];rfl
 have ok:Hint.Ok β { cm:=[(.add (.v 1) (.v 2),.c 4611686018427387904,-1),(.c (-1),.add (.v 1) (.v 2),-1)] }:=dO (fun p hp=>by
  simp only [List.mem_cons,List.not_mem_nil,or_false] at hp
  rcases hp with rfl | rfl
  ·show aG ((RE.add (.v 1) (.v 2)).ev β) ((4611686018427387904:Int):Rat) = -1
   rw [hs];exact oK (Rat.intCast_lt_intCast.2 (by omega))
  ·show aG ((-1:Int):Rat) ((RE.add (.v 1) (.v 2)).ev β) = -1
   rw [hs];exact oK (Rat.intCast_lt_intCast.2 (by omega))) (fun p h=>by cases h) (fun p h=>by cases h)
 obtain ⟨c,d,rfl⟩:=nT h1
 have hr:zG (.add (.v 1) (.v 2)) (runF Tryz.prog (SQ β) (HA β _ ok) [sW β,tH β] 1 42 [.e (.a (aJ 0))] [.q 0 (.v 0) 4] 2)=true:=by kernel_rfl
 obtain ⟨a,fs,heq,ha⟩:=OZ hr
 have hcons:∀ x∈[sW β,tH β],x.Ok Tryz.prog (SQ β) EV:=by
  simp only [List.forall_mem_cons,List.not_mem_nil,false_imp_iff,implies_true,and_true]
  exact ⟨J7 (by rw [e0];exact hn) (by rw [e0];exact hm) e1 e2 b1 b2,KF⟩
 refine (runF_ok (ρ:=ev [c,d]) mixed hcons heq (fM hE) (fun g hg=>by
  obtain rfl:=List.mem_singleton.1 hg
  show IsQ W _ (β 0)∧Fits 4 (β 0)
  rw [e0]
  exact ⟨h1,f1⟩)).mono fun x W' ⟨ρ',_,hx,hb,hfs⟩=>⟨?_,hb⟩
 obtain ⟨-,-,h3⟩:=(show Fc.on β ρ' (.i a (.add (.v 1) (.v 2))) W' from hfs _ (iI ha))
 rw [hs] at h3
 have h4:(ρ' a).u=((n+m:Nat):Int):=by exact_mod_cast h3
 rw [hx]
 simp [SV.den,El.den,Cell.den,h4]
theorem DX {r:Rat} (h:r.den=1):aU r=0:=by unfold aU;rw [if_pos h]
theorem OD (h1:IsQ W v r) (_f1:Fits 4 r) (hi:ni r):Calls Tryz.prog 40 #[v] W (aI W (.tuple #[.int .i64 r.num,.bool true])):=by
 obtain ⟨t,x,p,l,q,y,p',s,u,rfl,i,j,e⟩:=h1.shape
 have e':=e.out
 rw [DX hi.1] at j
 obtain ⟨-,i2,i3⟩:=hi
 rcases i with ⟨h0,hx,hd⟩ | ⟨b,o,k,xs,-,hd,-,h4,-,-,h7,h8,-⟩
 ·cases hx;cases hd
  subst e'
  rcases Int.lt_or_le r.num 0 with hr | hr
  ·rw [decide_eq_true hr]
   have ha:IntKind.i64.wrap ((r.num.natAbs:Nat):Int)=(if r.num = -9223372036854775808 then -9223372036854775808 else -r.num):=by rw [IntKind.wrap_i64];split <;> omega
   have hc:IntKind.i64.wrap (-(if r.num = -9223372036854775808 then -9223372036854775808 else -r.num))=r.num:=by rw [IntKind.wrap_i64];split <;> omega
   exact OB _ _ _ _ _ W j _ _ ha hc hr
  ·rw [decide_eq_false (by omega)]
   exact Ox _ _ _ _ _ W j _ _ (show IntKind.i64.wrap ((r.num.natAbs:Nat):Int)=r.num by rw [IntKind.wrap_i64];omega) rfl (by omega)
 ·exfalso
  have g1:=jf h7 (by intro e;subst e;simp at h4)
  have g2:B64 ^ 1≤B64 ^ (xs.length - 1):=Nat.pow_le_pow_right (by decide) (by omega)
  rw [Nat.pow_one] at g2
  unfold B64 at g1 g2
  omega
theorem OA (h1:IsQ W v r) (_f1:Fits 4 r) (hno:¬ ni r):Calls Tryz.prog 40 #[v] W (aI W (.tuple #[.int .i64 0,.bool false])):=by
 obtain ⟨t,x,p,l,q,y,p',s,u,rfl,i,j,e⟩:=h1.shape
 have e':=e.out
 by_cases hd1:r.den=1
 ·rw [DX hd1] at j
  rcases i with ⟨h0,hx,hd⟩ | ⟨b,o,k,xs,-,hd,-,h4,-,-,h7,h8,-⟩
  ·cases hx;cases hd
   subst e'
   have hout:r.num < -9223372036854775808∨9223372036854775807<r.num:=by
    by_cases h2:r.num < -9223372036854775808
    ·exact .inl h2
    ·by_cases h3:9223372036854775807<r.num
     ·exact .inr h3
     ·exact absurd ⟨hd1,by omega,by omega⟩ hno
   unfold B64 at h0
   rcases hout with hr | hr
   ·rw [decide_eq_true (by omega)]
    have ha:IntKind.i64.wrap ((r.num.natAbs:Nat):Int) = -r.num - 18446744073709551616:=by rw [IntKind.wrap_i64];omega
    have hc:IntKind.i64.wrap (-(-r.num - 18446744073709551616))=r.num+18446744073709551616:=by rw [IntKind.wrap_i64];omega
    exact OC _ _ _ _ _ W j _ _ ha hc (by omega)
   ·rw [decide_eq_false (by omega)]
    exact Ov _ _ _ _ _ W j _ _ (show IntKind.i64.wrap ((r.num.natAbs:Nat):Int)=r.num - 18446744073709551616 by rw [IntKind.wrap_i64];omega) rfl (by omega)
  ·cases hd
   exact Oz _ _ _ _ _ _ _ _ _ _ W j
 ·refine Oy _ _ _ _ _ _ _ _ _ _ ?_ W j
  unfold aU
  rw [if_neg hd1,beq_eq_false_iff_ne]
  exact r.den_nz
end
end Rx
namespace Rx
open Go.RowKit
theorem Eh (n:Nat):∃ v,dh n v∧v≤n:=by
 induction n using Nat.strongRecOn with
 | ind n ih =>
  rcases Nat.eq_zero_or_pos n with h0 | h0
  ·subst h0;exact ⟨0,⟨fun _=>rfl,fun h=>absurd h (by omega)⟩,Nat.le_refl _⟩
  ·obtain ⟨v,hv,hl⟩:=ih (n / 2) (by omega)
   refine ⟨v+1,⟨fun h=>by omega,fun _=>⟨by omega,?_,?_⟩⟩,by omega⟩
   ·rw [Nat.add_sub_cancel]
    rcases Nat.eq_zero_or_pos (n / 2) with h1 | h1
    ·rw [hv.1 h1];omega
    ·obtain ⟨h2,h3,-⟩:=hv.2 h1
     rw [show v=v - 1+1 by omega,Nat.pow_succ];omega
   ·rw [Nat.pow_succ]
    rcases Nat.eq_zero_or_pos (n / 2) with h1 | h1
    ·rw [hv.1 h1];omega
    ·obtain ⟨-,-,h2⟩:=hv.2 h1
     omega
def jM (β:Nat→Rat) (f:FuncId) (sv:Nat→SV) (fs:Nat→List Fc):Con (SQ β) where
 fn:=f
 app:=fun db b args=>match args with
  | [.e (.a x)]=>match dB db x with
   | some (.v 0,k)=>if k≤4 then some (sv b,fs b) else none
   | _=>none
  | _=>none
theorem mM {β:Nat→Rat} {f:FuncId} {sv:Nat→SV} {fs:Nat→List Fc} (H:∀ v W ρ b,IsQ W v (β 0)→Fits 4 (β 0)→EV W→Calls Tryz.prog f #[v] W (Ans β ρ b W (sv b) (fs b))):(jM β f sv fs).Ok Tryz.prog (SQ β) EV:=by
 intro db b args res new ha ρ W hf hE
 simp only [jM] at ha
 split at ha
 ·split at ha
  ·rename_i k hx
   split at ha
   ·rename_i hk
    cases ha
    obtain ⟨⟨h1,h2⟩,-⟩:=dX hx hf
    exact H _ W ρ b h1 (h2.mono hk) hE
   ·cases ha
  ·cases ha
 ·cases ha
def jO (β:Nat→Rat) (f:FuncId) (sv:Nat→SV) (fs:Nat→List Fc):Con (SQ β) where
 fn:=f
 app:=fun db b args=>match args with
  | [.e (.a x)]=>match iV db x with
   | some (.v 0,k)=>if k≤4 then some (sv b,fs b) else none
   | _=>none
  | _=>none
theorem mO {β:Nat→Rat} {f:FuncId} {sv:Nat→SV} {fs:Nat→List Fc} (H:∀ v W ρ b,Z4.IsR W v (β 0)→Fits 4 (β 0)→EV W→Calls Tryz.prog f #[v] W (Ans β ρ b W (sv b) (fs b))):(jO β f sv fs).Ok Tryz.prog (SQ β) EV:=by
 intro db b args res new ha ρ W hf hE
 simp only [jO] at ha
 split at ha
 ·split at ha
  ·rename_i k hx
   split at ha
   ·rename_i hk
    cases ha
    obtain ⟨h1,h2⟩:=jL hx hf
    exact H _ W ρ b h1 (h2.mono hk) hE
   ·cases ha
  ·cases ha
 ·cases ha
def oZ:List Fc→Nat→Option (RE×Nat)
 | [],_=>none
 | .z s e k :: r,n=>if s=n then some (e,k) else oZ r n
 | _ :: r,n=>oZ r n
theorem mZ {n:Nat} {e:RE} {k:Nat}:∀ {db:List Fc},oZ db n=some (e,k)→.z n e k∈db
 | [],h=>by simp [oZ] at h
 | f :: r,h=>by
  cases f with
  | z s e' k' =>
   simp only [oZ] at h
   split at h
   ·rename_i hs;cases h;subst hs;simp
   ·exact List.mem_cons_of_mem _ (mZ h)
  | q _ _ _=>exact List.mem_cons_of_mem _ (mZ h)
  | r _ _ _=>exact List.mem_cons_of_mem _ (mZ h)
  | x _ _=>exact List.mem_cons_of_mem _ (mZ h)
  | n _ _=>exact List.mem_cons_of_mem _ (mZ h)
  | i _ _=>exact List.mem_cons_of_mem _ (mZ h)
def yG (β:Nat→Rat):Con (SQ β) where
 fn:=45
 app:=fun db b args=>match args with
  | [.e (.a [.ob a,.os c])]=>if a=c then (match oZ db a with
    | some (e,k)=>if 1≤k then some (.e (.a (aV b)),[.r b e k]) else none
    | none=>none) else none
  | _=>none
theorem KH {β:Nat→Rat}:(yG β).Ok Tryz.prog (SQ β) EV:=by
 intro db b args res new ha ρ W hf hE
 simp only [yG] at ha
 split at ha
 ·rename_i a c
  split at ha
  ·rename_i hac
   subst hac
   split at ha
   ·rename_i e k hx
    split at ha
    ·rename_i hk
     cases ha
     obtain ⟨z,h1,h2,h3⟩:=hf _ (mZ hx)
     have hc:=Hu h1 h3 hE
     have hfit:Fits k (z:Rat):=⟨by rw [Rat.num_intCast];exact h3,by rw [Rat.den_intCast];exact Nat.one_lt_pow (by omega) (by decide)⟩
     rw [h2] at hc hfit
     exact qo hc hfit
    ·cases ha
   ·cases ha
  ·cases ha
 ·cases ha
section
variable {β:Nat→Rat} {f:FuncId} {vals:Array Value} {W:World} {ρ:Env} {b:Nat}
theorem qp {z:Int} {e:RE} {k:Nat} (hc:Calls Tryz.prog f vals W (Z4.dG W z)) (hz:(z:Rat)=e.ev β) (hk:z.natAbs<B64 ^ k):Calls Tryz.prog f vals W (Ans β ρ b W (.e (.a (zC b))) [.z b e k]):=by
 refine hc.mono fun _ W' ⟨v,he,hv,hb⟩=>?_
 obtain ⟨p,l,c,xs,rfl,hx⟩:=hv
 have h1:(zC b).map (Cell.den (aC ρ b [⟨decide (z<0),0,p,l,c,.empty,0⟩]))=[.bool (decide (z<0)),.slice p l c]:=by simp [zC,Cell.den,aC]
 refine ⟨_,dS (b:=b) (L:=[⟨decide (z<0),0,p,l,c,.empty,0⟩]) (by simp [M]),?_,hb,fun g hg=>?_⟩
 ·rw [he];simp only [SV.den,El.den,h1]
 ·rw [List.mem_singleton] at hg
  subst hg
  exact ⟨z,by rw [h1];exact ⟨p,l,c,xs,rfl,hx⟩,hz,hk⟩
theorem CW {n:Int} {e:RE} (hc:Calls Tryz.prog f vals W (aI W (.tuple #[.int .i64 n,.bool true]))) (h1:-9223372036854775808≤n) (h2:n≤9223372036854775807) (hn:(n:Rat)=e.ev β):Calls Tryz.prog f vals W (Ans β ρ b W (.t [.s (.oi b),.s (.bl true)]) [.i b e]):=by
 refine hc.mono fun _ W' ⟨he,hb⟩=>?_
 refine ⟨aC ρ b [nu n],dS (by simp [M]),?_,hb,fun g hg=>?_⟩
 ·rw [he];simp [SV.den,El.den,Cell.den,aC,nu]
 ·rw [List.mem_singleton] at hg
  subst hg
  show _≤(aC ρ b _ b).u∧(aC ρ b _ b).u≤_∧(((aC ρ b _ b).u:Int):Rat)=_
  simp only [aC,Nat.le_refl,if_true,Nat.sub_self,List.getElem?_cons_zero,Option.getD_some,nu]
  exact ⟨h1,h2,hn⟩
theorem CV (hc:Calls Tryz.prog f vals W (aI W (.tuple #[.int .i64 0,.bool false]))):Calls Tryz.prog f vals W (Ans β ρ b W (.t [.s (.it .i64 0),.s (.bl false)]) []):=
 hc.mono fun _ W' ⟨he,hb⟩=>⟨ρ,fun _ _=>rfl,by rw [he];rfl,hb,fun g hg=>by cases hg⟩
end
def svI (z:Bool) (b:Nat):SV:=if z then .t [.s (.oi b),.s (.bl true)] else .t [.s (.it .i64 0),.s (.bl false)]
def fsI (z:Bool) (b:Nat):List Fc:=if z then [.i b (.v 0)] else []
abbrev svN (b:Nat):SV:=.e (.s (.oi b))
abbrev svQ (b:Nat):SV:=.e (.a (aJ b))
abbrev svZ (b:Nat):SV:=.e (.a (zC b))
def cp (β:Nat→Rat) (z:Bool):List (Con (SQ β)):=
 jM β 40 (svI z) (fsI z) :: jO β 41 (svI z) (fsI z) ::
 jM β 42 svN (fun b=>[.i b (.v 1)]) :: jO β 43 svN (fun b=>[.i b (.v 1)]) ::
 jM β 44 svQ (fun b=>[.q b (.v 2) 5]) :: jO β 46 svZ (fun b=>[.z b (.v 2) 5]) ::
 jM β 47 svQ (fun b=>[.q b (.v 3) 5]) :: jO β 48 svZ (fun b=>[.z b (.v 3) 5]) ::
 jM β 49 svQ (fun b=>[.q b (.v 4) 5]) :: jO β 50 svZ (fun b=>[.z b (.v 4) 5]) ::
 jM β 51 svQ (fun b=>[.q b (.v 5) 5]) :: jO β 52 svZ (fun b=>[.z b (.v 5) 5]) ::
 jM β 53 svQ (fun b=>[.q b (.v 6) 5]) :: jO β 54 svZ (fun b=>[.z b (.v 6) 5]) ::
 yG β :: y8 β {} :: cl β {}
structure BN (β:Nat→Rat) (z:Bool):Prop where
 i:z=true↔ni (β 0)
 b:∃ n m:Nat,dh (β 0).num.natAbs n∧dh (β 0).den m∧β 1=(((n+m:Nat):Int):Rat)
 n:β 2=((β 0).num:Rat)
 d:β 3=(((β 0).den:Int):Rat)
 f:β 4=(flo (β 0):Rat)
 c:β 5=((-(flo (-(β 0))):Int):Rat)
 r:β 6=(rnd (β 0):Rat)
theorem qJ {k:Nat} {z:Int} (h:z.natAbs<B64 ^ k) (h1:1≤k):Fits k (z:Rat):=⟨by rw [Rat.num_intCast];exact h,by rw [Rat.den_intCast];exact Nat.one_lt_pow (by omega) (by decide)⟩
theorem Gf {k:Nat} {r:Rat} (h:Fits k r) (h1:1≤k):(rnd r).natAbs<B64 ^ (k+1):=by
 have h2:=ng h
 have h3:B64 ^ k*2≤B64 ^ (k+1):=by rw [Nat.pow_succ];exact Nat.mul_le_mul_left _ (by decide)
 have h4:1<B64 ^ k:=Nat.one_lt_pow (by omega) (by decide)
 unfold rnd
 split <;> omega
theorem b45:B64 ^ 4≤B64 ^ 5:=Nat.pow_le_pow_right (by decide) (by decide)
theorem KP {β:Nat→Rat} {z:Bool} (h:BN β z):∀ c∈cp β z,c.Ok Tryz.prog (SQ β) EV:=by
 obtain ⟨n,m,hn,hm,hb⟩:=h.b
 unfold cp
 simp only [List.forall_mem_cons]
 refine ⟨mM fun v W ρ b h1 f1 hE=>?_,mO fun v W ρ b h1 f1 hE=>?_,mM fun v W ρ b h1 f1 hE=>?_,mO fun v W ρ b h1 f1 hE=>?_,mM fun v W ρ b h1 f1 hE=>?_,mO fun v W ρ b h1 f1 hE=>?_,mM fun v W ρ b h1 f1 hE=>?_,mO fun v W ρ b h1 f1 hE=>?_,
  mM fun v W ρ b h1 f1 hE=>?_,mO fun v W ρ b h1 f1 hE=>?_,mM fun v W ρ b h1 f1 hE=>?_,mO fun v W ρ b h1 f1 hE=>?_,mM fun v W ρ b h1 f1 hE=>?_,mO fun v W ρ b h1 f1 hE=>?_,KH,NW (bK β),JE (bK β)⟩
 ·cases z
  ·exact CV (OA h1 f1 (fun hi=>by have:=h.i.2 hi;cases this))
  ·obtain ⟨i1,i2,i3⟩:=h.i.1 rfl
   exact CW (e:=.v 0) (OD h1 f1 ⟨i1,i2,i3⟩) i2 i3 (vC i1).symm
 ·cases z
  ·exact CV (SX h1 f1 (fun hi=>by have:=h.i.2 hi;cases this) hE)
  ·obtain ⟨i1,i2,i3⟩:=h.i.1 rfl
   exact CW (e:=.v 0) (SY h1 f1 ⟨i1,i2,i3⟩ hE) i2 i3 (vC i1).symm
 ·have b1:=kF hn f1.1
  have b2:=kF hm f1.2
  exact rW (e:=.v 1) (Jq h1 f1 hn hm hE) (by omega) (by omega) hb.symm
 ·have b1:=kF hn f1.1
  have b2:=kF hm f1.2
  exact rW (e:=.v 1) (SA h1 f1 hn hm hE) (by omega) (by omega) hb.symm
 ·have hc:=Io _ v W h1
  rw [← h.n] at hc
  exact jJ (e:=.v 2) hc (by show Fits 5 (β 2);rw [h.n];exact qJ (Nat.lt_of_lt_of_le f1.1 b45) (by decide))
 ·exact qp (Tf h1 (f1.mono (by decide)) hE) h.n.symm (Nat.lt_of_lt_of_le f1.1 b45)
 ·have hc:=BA _ v W h1
  rw [← h.d] at hc
  exact jJ (e:=.v 3) hc (by show Fits 5 (β 3);rw [h.d];exact qJ (by rw [Int.natAbs_natCast];exact Nat.lt_of_lt_of_le f1.2 b45) (by decide))
 ·exact qp (SC h1 (f1.mono (by decide)) hE) h.d.symm (by rw [Int.natAbs_natCast];exact Nat.lt_of_lt_of_le f1.2 b45)
 ·have hc:=rF _ v 4 W h1 (by decide) f1
  rw [show (((β 0).num / ((β 0).den:Int):Int):Rat)=β 4 from h.f.symm] at hc
  exact jJ (e:=.v 4) hc (by show Fits 5 (β 4);rw [h.f];exact qJ (Nat.lt_of_lt_of_le (ng f1) b45) (by decide))
 ·exact qp (F8 h1 (f1.mono (by decide)) hE) h.f.symm (Nat.lt_of_lt_of_le (ng f1) b45)
 ·have hc:=Jy h1 (f1.mono (by decide)) hE
  rw [← h.c] at hc
  exact jJ (e:=.v 5) hc (by show Fits 5 (β 5);rw [h.c];exact qJ (by rw [Int.natAbs_neg];exact Nat.lt_of_lt_of_le (ng f1.neg) b45) (by decide))
 ·exact qp (SB h1 (f1.mono (by decide)) hE) h.c.symm (by rw [Int.natAbs_neg];exact Nat.lt_of_lt_of_le (ng f1.neg) b45)
 ·have hc:=Tz h1 (f1.mono (by decide)) hE
  rw [← h.r] at hc
  exact jJ (e:=.v 6) hc (by show Fits 5 (β 6);rw [h.r];exact qJ (Gf f1 (by decide)) (by decide))
 ·exact qp (TD h1 (f1.mono (by decide)) hE) h.r.symm (Gf f1 (by decide))
theorem RP (β:Nat→Rat) (z:Bool):isB true (runF Tryz.prog (SQ β) (HQ β {} (bK β)) (cp β z) 1 5 [.e (.a (zh 0))] [.n 0 (.v 0)] 3)=true:=by
 cases z <;> kernel_rfl
theorem RN {n1 d1 b1:Int} {r:Rat} {W:World} (h1:IsN n1 d1 b1 r) (hE:EV W) :
  Calls Tryz.prog 5 #[.agg #[.int .i64 n1,.int .i64 d1,.int .u8 b1]] W (aI W (.bool true)):=by
 obtain ⟨n,hn,-⟩:=Eh r.num.natAbs
 obtain ⟨m,hm,-⟩:=Eh r.den
 have hz:∃ z:Bool,z=true↔ni r:=by
  by_cases h:ni r
  ·exact ⟨true,by simp [h]⟩
  ·exact ⟨false,by simp [h]⟩
 obtain ⟨z,hz⟩:=hz
 have ok:BN (bet [r,(((n+m:Nat):Int):Rat),(r.num:Rat),((r.den:Int):Rat),(flo r:Rat),((-(flo (-r)):Int):Rat),(rnd r:Rat)]) z:=⟨hz,⟨n,m,hn,hm,rfl⟩,rfl,rfl,rfl,rfl,rfl⟩
 have hr:=RP (bet [r,(((n+m:Nat):Int):Rat),(r.num:Rat),((r.den:Int):Rat),(flo r:Rat),((-(flo (-r)):Int):Rat),(rnd r:Rat)]) z
 obtain ⟨ρ,hρ⟩:∃ ρ,ρ=ev [nu n1,nu d1,nu b1]:=⟨_,rfl⟩
 have hc:=Gn (w:=W) (ρ:=ρ) (KP ok) hr hE (fun g hg=>by
  obtain rfl:=List.mem_singleton.1 hg
  rw [hρ]
  exact h1)
 have he:(List.map (SV.den ρ) [.e (.a (zh 0))]).toArray=#[.agg #[.int .i64 n1,.int .i64 d1,.int .u8 b1]]:=by rw [hρ];kernel_rfl
 rw [he] at hc
 exact hc
end Rx
end Go.Proofs.YtcglmmbgoonjnaaGreatDoor
