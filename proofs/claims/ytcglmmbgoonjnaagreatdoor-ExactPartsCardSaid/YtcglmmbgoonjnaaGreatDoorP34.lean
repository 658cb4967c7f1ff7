/- What the proof rests on, part 34. -/
import Derived.Test.YtcglmmbgoonjnaaGreatDoorP33
import Derived.Test.YtcglmmbgoonjnaaGreatDoorP32
import Derived.Test.YtcglmmbgoonjnaaGreatDoorP28
import Derived.Test.YtcglmmbgoonjnaaGreatDoorP22
namespace Go.Proofs.YtcglmmbgoonjnaaGreatDoor
set_option maxRecDepth 100000
set_option maxHeartbeats 80000000
namespace Rx
open Go.RowKit
def mV:List Fd→Nat→Option Nat
 | [],_=>none
 | .n b s :: r,n=>if b=n then some s else mV r n
 | _ :: r,n=>mV r n
theorem mW {n s:Nat}:∀ {db:List Fd},mV db n=some s→.n n s∈db
 | [],h=>by simp [mV] at h
 | f :: r,h=>by
  cases f with
  | n b s' =>
   simp only [mV] at h
   split at h
   ·rename_i hs;cases h;subst hs;simp
   ·exact List.mem_cons_of_mem _ (mW h)
  | l _ _ _=>exact List.mem_cons_of_mem _ (mW h)
  | z _ _ _=>exact List.mem_cons_of_mem _ (mW h)
  | r _ _ _=>exact List.mem_cons_of_mem _ (mW h)
  | i _ _=>exact List.mem_cons_of_mem _ (mW h)
def worth (db:List Fd) (s:Nat):Option RE:=match fP db s with
 | some (e,_)=>some e
 | none=>match kR db s with
  | some (e,_)=>some e
  | none=>none
def uJ (h:Hint) (db:List Fd) (a:Nat):Option Bool:=match mV db a with
 | some s=>match worth db s with
  | some e=>if nzB h e then some false else if eqB h e (.c 0) then some true else none
  | none=>none
 | none=>none
section
variable {β:Nat→Rat} {ρ:Env} {W:World} {db:List Fd} {h:Hint}
theorem U3 {s:Nat} {e:RE} (hw:worth db s=some e) (hf:∀ f∈db,(SR β).on ρ f W):(ρ s).l=0↔e.ev β=0:=by
 have key:∀ xs,Z4.IsL 0 W (.slice (ρ s).p (ρ s).l (ρ s).c) xs→Z4.Dig xs→Z4.aA xs→((ρ s).l=0↔Z4.val xs=0):=fun xs h1 h2 h3=>by
  rw [← h1.len];exact Z4.lM h2 h3
 unfold worth at hw
 split at hw
 ·rename_i e' k hx
  cases hw
  obtain ⟨xs,h1,h2,h3,h4,-⟩:=hf _ (eY hx)
  rw [key xs h1 h2 h3,← h4]
  exact ⟨fun h=>by rw [h];rfl,fun h=>by exact_mod_cast h⟩
 ·split at hw
  ·rename_i e' k hx
   cases hw
   obtain ⟨z,⟨p,l,c,xs,he,h1,h2,h3,h4⟩,h5,-⟩:=hf _ (jR hx)
   have he':=congrArg Array.toList (Value.agg.inj he)
   simp only [zC,List.map_cons,List.map_nil,Cell.den,List.cons.injEq,Value.slice.injEq,and_true] at he'
   obtain ⟨-,rfl,rfl,rfl⟩:=he'
   rw [key xs h1 h2 h3,← h5,h4]
   constructor
   ·intro h;rw [show z=0 by omega];rfl
   ·intro h
    have:z=0:=by exact_mod_cast h
    rw [this];rfl
  ·cases hw
theorem EM (ok:h.Ok β) {a:Nat} {x:Bool} (hh:uJ h db a=some x) (hf:∀ f∈db,(SR β).on ρ f W):0≤(ρ a).u∧((ρ a).u == 0)=x:=by
 unfold uJ at hh
 split at hh
 ·rename_i s hs
  split at hh
  ·rename_i e hw
   have h1:(ρ a).u=((ρ s).l:Int):=hf _ (mW hs)
   have h2:=U3 hw hf
   refine ⟨by omega,?_⟩
   split at hh
   ·rename_i hn
    cases hh
    have:=lu ok hn
    rw [beq_eq_false_iff_ne]
    intro h0
    exact this (h2.1 (by omega))
   ·split at hh
    ·rename_i hn
     cases hh
     have:=h2.2 ((kK ok hn).trans rfl)
     rw [beq_iff_eq]
     omega
    ·cases hh
  ·cases hh
 ·cases hh
end
def zW (h:Hint) (db:List Fd) (a:Nat):Option Bool:=match mV db a with
 | some s=>match fP db s with
  | some (e,_)=>if iL e then (match cmB h e (.c 10000) with
    | some (-1)=>some true
    | some 0 | some 1=>some false
    | _=>none) else none
  | none=>none
 | none=>none
def jv:List Fd→Nat→Option RE
 | [],_=>none
 | .i s e :: r,n=>if s=n then some e else jv r n
 | _ :: r,n=>jv r n
theorem jQ {n:Nat} {e:RE}:∀ {db:List Fd},jv db n=some e→.i n e∈db
 | [],h=>by simp [jv] at h
 | f :: r,h=>by
  cases f with
  | i b e' =>
   simp only [jv] at h
   split at h
   ·rename_i hs;cases h;subst hs;simp
   ·exact List.mem_cons_of_mem _ (jQ h)
  | l _ _ _=>exact List.mem_cons_of_mem _ (jQ h)
  | z _ _ _=>exact List.mem_cons_of_mem _ (jQ h)
  | r _ _ _=>exact List.mem_cons_of_mem _ (jQ h)
  | n _ _=>exact List.mem_cons_of_mem _ (jQ h)
def zl (h:Hint) (db:List Fd) (a:Nat) (m:Int):Option Bool:=match jv db a with
 | some e=>if eqB h e (.c m) then some true else if h.ne.any (fun p=>p.1.beq e && p.2.beq (.c m)) then some false else none
 | none=>if m=0 then uJ h db a else if m=1 then zW h db a else none
section
variable {β:Nat→Rat} {ρ:Env} {W:World} {db:List Fd} {h:Hint}
theorem Rq (ok:h.Ok β) {a:Nat} {x:Bool} (hh:zW h db a=some x) (hf:∀ f∈db,(SR β).on ρ f W):((ρ a).u == 1)=x:=by
 unfold zW at hh
 split at hh
 ·rename_i s hs
  split at hh
  ·rename_i e k hx
   split at hh
   ·rename_i hp
    have h1:(ρ a).u=((ρ s).l:Int):=hf _ (mW hs)
    obtain ⟨xs,g1,g2,g3,g4,-⟩:=(show IsG W (.slice (ρ s).p (ρ s).l (ρ s).c) (e.ev β) k from hf _ (eY hx))
    have hl:=g1.len
    have hpos:0<Z4.val xs:=by
     have:=qQ (β:=β) hp
     rw [← g4] at this
     rcases Nat.eq_zero_or_pos (Z4.val xs) with h0 | h0
     ·rw [h0] at this;exact absurd this (by decide)
     ·exact h0
    have hl1:1≤xs.length:=by
     rcases Nat.eq_zero_or_pos xs.length with h0 | h0
     ·have:=(Z4.lM g2 g3).1 h0;omega
     ·exact h0
    have hcm:∀ c,cmB h e (.c 10000)=some c→aF (Z4.val xs) 10000=c:=fun c hc=>by
     have:=iE ok hc
     rw [← g4,show (RE.c 10000).ev β=((10000:Nat):Rat) from rfl,oL] at this
     exact this
    have hge:2≤xs.length→10000≤Z4.val xs:=fun h2=>by
     have h3:=Z4.jf g3 (by intro e;subst e;simp at hl1)
     have h4:Z4.B4 ^ 1≤Z4.B4 ^ (xs.length - 1):=Nat.pow_le_pow_right (by decide) (by omega)
     have h5:Z4.B4 ^ 1=10000:=by decide
     omega
    have hlt:xs.length≤1→Z4.val xs<10000:=fun h2=>by
     have h3:=Z4.aP g2
     have h4:Z4.B4 ^ xs.length=10000:=by rw [show xs.length=1 by omega];decide
     omega
    split at hh
    ·rename_i hc
     cases hh
     have:=hcm _ hc
     unfold aF at this
     rw [beq_iff_eq]
     split at this
     ·rcases Nat.lt_or_ge xs.length 2 with h6 | h6
      ·omega
      ·have:=hge h6;omega
     ·split at this <;> omega
    ·rename_i hc
     cases hh
     have:=hcm _ hc
     unfold aF at this
     rw [beq_eq_false_iff_ne]
     intro h7
     have:=hlt (by omega)
     rw [if_pos this] at *
     omega
    ·rename_i hc
     cases hh
     have:=hcm _ hc
     unfold aF at this
     rw [beq_eq_false_iff_ne]
     intro h7
     have:=hlt (by omega)
     rw [if_pos this] at *
     omega
    ·cases hh
   ·cases hh
  ·cases hh
 ·cases hh
theorem OG (ok:h.Ok β) {a:Nat} {m:Int} {x:Bool} (hh:zl h db a m=some x) (hf:∀ f∈db,(SR β).on ρ f W):((ρ a).u == m)=x:=by
 unfold zl at hh
 split at hh
 ·rename_i e hx
  have h1:(((ρ a).u:Int):Rat)=e.ev β:=hf _ (jQ hx)
  split at hh
  ·rename_i he
   cases hh
   rw [kK ok he] at h1
   rw [beq_iff_eq]
   have h2:(((ρ a).u:Int):Rat)=((m:Int):Rat):=h1
   exact_mod_cast h2
  ·split at hh
   ·rename_i hn
    cases hh
    obtain ⟨p,hp,h2⟩:=List.any_eq_true.1 hn
    simp only [Bool.and_eq_true] at h2
    have:=ok.2.1 p hp
    rw [RE.beq_eq h2.1,RE.beq_eq h2.2,← h1] at this
    rw [beq_eq_false_iff_ne]
    intro h0
    exact this (by rw [h0];rfl)
   ·cases hh
 ·split at hh
  ·rename_i hm;subst hm;exact (EM ok hh hf).2
  ·split at hh
   ·rename_i hm;subst hm;exact Rq ok hh hf
   ·cases hh
end
def Ci (h:Hint) (db:List Fd) (a a' b:Nat):Option (List Fd):=match jv db a,jv db a' with
 | some e,some e'=>if cmB h (.add e e') (.c 4611686018427387904)=some (-1) && cmB h (.c (-1)) (.add e e')=some (-1) then some [.i b (.add e e')] else none
 | _,_=>none
theorem qC {a b:Rat} (h:aG a b = -1):a<b:=by
 unfold aG at h
 split at h
 ·assumption
 ·split at h <;> cases h
def HL (β:Nat→Rat) (h:Hint) (ok:h.Ok β):Tests (SR β) where
 eq:=fun db c d=>match c,d with
  | .oi a,.it .i64 m=>zl h db a m
  | _,_=>none
 ok:=fun {fs c d x} hh ρ W hf=>by
  split at hh
  ·rename_i a m
   exact .inr ⟨.i64,(ρ a).u,m,rfl,rfl,OG ok hh hf⟩
  ·cases hh
 add:=Ci h
 addOk:=fun {db a a' b new} hh ρ W hf=>by
  unfold Ci at hh
  split at hh
  ·rename_i e e' h1 h2
   split at hh
   ·rename_i hc
    simp only [Bool.and_eq_true,decide_eq_true_eq] at hc
    cases hh
    have g1:(((ρ a).u:Int):Rat)=e.ev β:=hf _ (jQ h1)
    have g2:(((ρ a').u:Int):Rat)=e'.ev β:=hf _ (jQ h2)
    have hs:(((ρ a).u+(ρ a').u:Int):Rat)=(RE.add e e').ev β:=by rw [Rat.intCast_add,g1,g2];rfl
    have k1:=qC (iE ok hc.1)
    have k2:=qC (iE ok hc.2)
    rw [← hs] at k1 k2
    have l1:(ρ a).u+(ρ a').u<4611686018427387904:=Rat.intCast_lt_intCast.1 (show (((ρ a).u+(ρ a').u:Int):Rat)<((4611686018427387904:Int):Rat) from k1)
    have l2:-1<(ρ a).u+(ρ a').u:=Rat.intCast_lt_intCast.1 (show ((-1:Int):Rat)<(((ρ a).u+(ρ a').u:Int):Rat) from k2)
    refine ⟨by rw [IntKind.wrap_i64];omega,fun ρ' _ hu f hm=>?_⟩
    obtain rfl:=List.mem_singleton.1 hm
    show (((ρ' b).u:Int):Rat)=_
    rw [hu,hs]
   ·cases hh
  ·cases hh
 gt:=fun db c d=>match c,d with
  | .oi a,.it .i64 0=>(uJ h db a).map (!·)
  | _,_=>none
 gok:=fun {fs c d x} hh ρ W hf=>by
  split at hh
  ·rename_i a
   obtain ⟨y,hy,rfl⟩:=Option.map_eq_some_iff.1 hh
   obtain ⟨h1,h2⟩:=EM ok hy hf
   refine ⟨.i64,(ρ a).u,0,rfl,rfl,?_⟩
   rw [← h2]
   by_cases h0:(ρ a).u=0
   ·rw [h0];rfl
   ·rw [decide_eq_true (by omega),beq_eq_false_iff_ne.2 h0];rfl
  ·cases hh
section
variable (β:Nat→Rat) (h:Hint)
def xZ:Con (SR β) where
 fn:=171
 app:=fun db b args=>match args with
  | [.e (.s x),.e (.s y)]=>match asG db x,asG db y with
   | some (e,k),some (e',k')=>if decide (k≤K1) && decide (k'≤K1) && nzB h e' then some (.t [.s (.os b),.s (.os (b+1))],[.l b (.flo (.div e e')) k,.l (b+1) (rem e e') k]) else none
   | _,_=>none
  | _=>none
def cf:List (Con (SR β)):=xZ β h :: cz β h
end
section
variable {β:Nat→Rat} {h:Hint} {f:FuncId} {vals:Array Value} {W:World} {ρ:Env} {b:Nat}
theorem Jc {n m:Nat} {e e':RE} {k:Nat} (hc:Calls Tryz.prog f vals W (Z4.rM W n m)) (hn:((n:Nat):Rat)=e.ev β) (hm:((m:Nat):Rat)=e'.ev β) (kn:n<B64 ^ k) (km:m<B64 ^ k) :
  Calls Tryz.prog f vals W (Anr β ρ b W (.t [.s (.os b),.s (.os (b+1))]) [.l b e k,.l (b+1) e' k]):=by
 refine hc.mono fun _ W' ⟨v,ds,u,es,he,hl,hd,ht,hv,gl,gd,gt,gv,hb⟩=>?_
 obtain ⟨p,l,c,rfl⟩:=hl.mk
 obtain ⟨p',l',c',rfl⟩:=gl.mk
 have h0:aC ρ b [⟨false,0,p,l,c,.empty,0⟩,⟨false,0,p',l',c',.empty,0⟩] b=⟨false,0,p,l,c,.empty,0⟩:=by simp [aC]
 have h1:aC ρ b [⟨false,0,p,l,c,.empty,0⟩,⟨false,0,p',l',c',.empty,0⟩] (b+1)=⟨false,0,p',l',c',.empty,0⟩:=by simp [aC]
 refine ⟨aC ρ b [⟨false,0,p,l,c,.empty,0⟩,⟨false,0,p',l',c',.empty,0⟩],dS (by simp [M]),?_,hb,fun g hg=>?_⟩
 ·rw [he];simp [SV.den,El.den,Cell.den,h0,h1]
 ·simp only [List.mem_cons,List.not_mem_nil,or_false] at hg
  rcases hg with rfl | rfl
  ·show IsG W' (.slice (aC ρ b _ b).p (aC ρ b _ b).l (aC ρ b _ b).c) _ _
   rw [h0]
   exact ⟨ds,hl.mono (Nat.zero_le _),hd,ht,by rw [hv];exact hn,by rw [hv];exact kn⟩
  ·show IsG W' (.slice (aC ρ b _ (b+1)).p (aC ρ b _ (b+1)).l (aC ρ b _ (b+1)).c) _ _
   rw [h1]
   exact ⟨es,gl.mono (Nat.zero_le _),gd,gt,by rw [gv];exact hm,by rw [gv];exact km⟩
theorem Kr (ok:h.Ok β):(xZ β h).Ok Tryz.prog (SR β) EV:=by
 intro db b args res new ha ρ W hf hE
 simp only [xZ] at ha
 split at ha
 ·split at ha
  ·rename_i x y _ _ e k e' k' hx hy
   split at ha
   ·rename_i hk
    simp only [Bool.and_eq_true,decide_eq_true_eq] at hk
    cases ha
    obtain ⟨xs,h1,h2,h3,h4,h5⟩:=jK hx hf
    obtain ⟨ys,g1,g2,g3,g4,g5⟩:=jK hy hf
    have hm:0<Z4.val ys:=by
     rcases Nat.eq_zero_or_pos (Z4.val ys) with h0 | h0
     ·exact absurd (by rw [← g4,h0];rfl) (lu ok hk.2)
     ·exact h0
    exact Jc (e:=.flo (.div e e')) (e':=rem e e') (Z4.iK _ _ xs ys W h1 g1 h2 g2 g3 hm (Nat.le_trans (nI h3 h5) (by simp only [K1] at hk;omega)) (Nat.le_trans (nI g3 g5) (by simp only [K1] at hk;omega)))
     (Ak hm h4 g4) (vG hm h4 g4) (Nat.lt_of_le_of_lt (Nat.div_le_self _ _) h5) (Nat.lt_of_le_of_lt (Nat.mod_le _ _) h5)
   ·cases ha
  ·cases ha
 ·cases ha
theorem Jz (ok:h.Ok β):∀ c∈cf β h,c.Ok Tryz.prog (SR β) EV:=fun c hc=>by
 rcases List.mem_cons.1 hc with rfl | hc
 ·exact Kr ok
 ·exact yN ok c hc
end
def asS (db:List Fd):List Cell→Option (Bool×RE)
 | [.bl t,c]=>match asG db c with
  | some (e,_)=>some (t,e)
  | none=>none
 | _=>none
def zI (t:Bool) (e e':RE):Option (SV×List Fd)→Bool
 | some (.t [.a x,.a y],fs)=>match asS fs x,asS fs y with
  | some (t1,e1),some (false,e2)=>t1 == t && e1.beq e && e2.beq e'
  | _,_=>false
 | _=>false
theorem Pn {t:Bool} {e e':RE} {o:Option (SV×List Fd)} (h:zI t e e' o=true):∃ x y fs,o=some (.t [.a x,.a y],fs)∧asS fs x=some (t,e)∧asS fs y=some (false,e'):=by
 unfold zI at h
 split at h
 ·split at h
  ·rename_i x y fs _ _ t1 e1 e2 h1 h2
   simp only [Bool.and_eq_true,beq_iff_eq] at h
   exact ⟨x,y,fs,rfl,by rw [h1,h.1.1,RE.beq_eq h.1.2],by rw [h2,RE.beq_eq h.2]⟩
  ·cases h
 ·cases h
def wP (w:World) (z z':Int) (e:Ending) (w':World):Prop:=∃ v v',e=.returned (.tuple #[v,v'])∧Z4.IsZ w' v z∧Z4.IsZ w' v' z'∧Below w.heap.size w w'
section
variable {a b:Int} {v1 v2:Value} {w:World}
theorem CX {β:Nat→Rat} {ρ:Env} {W:World} {db:List Fd} {x:List Cell} {t:Bool} {e:RE} {z:Int} (h:asS db x=some (t,e)) (hf:∀ f∈db,(SR β).on ρ f W) (hz:∀ n:Nat,((n:Nat):Rat)=e.ev β→n=z.natAbs∧t=decide (z<0)):Z4.IsZ W (.agg (x.map (Cell.den ρ)).toArray) z:=by
 unfold asS at h
 split at h
 ·rename_i t' c
  split at h
  ·rename_i e' k hc
   cases h
   obtain ⟨xs,g1,g2,g3,g4,-⟩:=jK hc hf
   obtain ⟨h1,h2⟩:=hz _ g4
   obtain ⟨p,l,k,hp⟩:=g1.mk
   rw [hp] at g1
   exact ⟨p,l,k,xs,by rw [← h2];simp only [List.map_cons,List.map_nil,hp];rfl,g1,g2,g3,h1⟩
  ·cases h
 ·cases h
theorem Az {β:Nat→Rat} {h:Hint} (ok:h.Ok β) {fuel:Nat} {f:FuncId} {args:List SV} {fs:List Fd} {n0:Nat} {ρ:Env} {t:Bool} {e e':RE} {z z':Int} (hr:zI t e e' (runF Tryz.prog (SR β) (HL β h ok) (cf β h) fuel f args fs n0)=true) (hE:EV w) (hf:∀ g∈fs,Fd.on β ρ g w)
  (hz:∀ n:Nat,((n:Nat):Rat)=e.ev β→n=z.natAbs∧t=decide (z<0)) (hz':∀ n:Nat,((n:Nat):Rat)=e'.ev β→n=z'.natAbs∧false=decide (z' < 0)):Calls Tryz.prog f (args.map (SV.den ρ)).toArray w (wP w z z'):=by
 obtain ⟨x,y,fs',heq,hx,hy⟩:=Pn hr
 refine (runF_ok mixed (Jz ok) heq (fM hE) hf).mono fun _ W' ⟨ρ',_,he,hb,hfs⟩=>?_
 exact ⟨_,_,he,CX hx hfs hz,CX hy hfs hz',hb⟩
abbrev xq:RE:=.flo (.div x0 x1)
abbrev xr:RE:=rem x0 x1
theorem Va (h1:Z4.IsZ w v1 a) (h2:Z4.IsZ w v2 b) (ka:a.natAbs<B64 ^ K1) (kb:b.natAbs<B64 ^ K1) (hb:0<b) (hE:EV w):Calls Tryz.prog 141 #[v1,v2] w (wP w (a / b) (a % b)):=by
 refine AZ h1 h2 ka kb fun ρ hg=>?_
 obtain ⟨β,hβ⟩:∃ β,β=bet [((a.natAbs:Nat):Rat),((b.natAbs:Nat):Rat)]:=⟨_,rfl⟩
 have e0:((a.natAbs:Nat):Rat)=RE.ev β x0:=by rw [hβ];rfl
 have e1:((b.natAbs:Nat):Rat)=RE.ev β x1:=by rw [hβ];rfl
 rw [← hβ] at hg
 clear hβ
 obtain ⟨n,hn⟩:∃ n,a.natAbs=n:=⟨_,rfl⟩
 obtain ⟨m,hm⟩:∃ m,b.natAbs=m:=⟨_,rfl⟩
 rw [hn] at e0
 rw [hm] at e1
 have hm0:0<m:=by omega
 have hq:=Ak hm0 e0 e1
 have hr:=vG hm0 e0 e1
 have inj:∀ {x y:Nat},((x:Nat):Rat)=((y:Nat):Rat)→x=y:=fun h=>by exact_mod_cast h
 have hne:∀ {x:Nat},x≠0→((x:Nat):Rat)≠0:=fun h h0=>h (by exact_mod_cast h0)
 have hd:=Nat.div_add_mod n m
 have hlt:=Nat.mod_lt n hm0
 obtain ⟨q,hqe⟩:∃ q,n / m=q:=⟨_,rfl⟩
 obtain ⟨r,hre⟩:∃ r,n % m=r:=⟨_,rfl⟩
 rw [hqe] at hq hd
 rw [hre] at hr hd hlt
 have hdi:((n:Nat):Int)=(m:Int)*(q:Int)+(r:Int):=by exact_mod_cast hd.symm
 have nz1:RE.ev β x1≠0:=by rw [← e1];exact hne (by omega)
 have hbm:b=(m:Int):=by omega
 rw [decide_eq_false (show ¬ b<0 by omega),hbm]
 rcases Int.lt_or_le a 0 with ha | ha
 ·have han:a = -(n:Int):=by omega
  rw [decide_eq_true ha]
  by_cases h0:r=0
  ·have hp:0<q:=by
    rcases Nat.eq_zero_or_pos q with h | h
    ·rw [h,h0] at hd;omega
    ·exact h
   have ok:Hint.Ok β { nz:=[x1,xq],eq:=[(xr,.c 0)] }:=dO (fun p h=>by cases h) (fun p hp'=>by
    simp only [List.mem_cons,List.not_mem_nil,or_false] at hp'
    rcases hp' with rfl | rfl
    ·exact nz1
    ·rw [← hq];exact hne (by omega)) (fun p hp'=>by rw [List.mem_singleton] at hp';subst hp';rw [← hr,h0];rfl)
   have e:a / (m:Int) = -(q:Int)∧a % (m:Int)=0:=by
    have h3:a=(m:Int) * -(q:Int):=by rw [han,hdi,h0];grind
    rw [h3]
    exact ⟨Int.mul_ediv_cancel_left _ (by omega),Int.mul_emod_right _ _⟩
   rw [e.1,e.2]
   refine Az (t:=true) (e:=xq) (e':=.c 0) ok (fuel:=1) (n0:=2) (by kernel_rfl) hE hg (fun x hx=>?_) fun x hx=>?_
   ·have:=inj (hx.trans hq.symm)
    exact ⟨by omega,(decide_eq_true (by omega)).symm⟩
   ·have:x=0:=inj (hx.trans rfl)
    exact ⟨by omega,rfl⟩
  ·have ok:Hint.Ok β { cm:=[(x1,xr,1)],nz:=[x1,xr,.add xq (.c 1)] }:=dO (fun p hp=>by
    rw [List.mem_singleton] at hp;subst hp
    show aG (RE.ev β x1) (RE.ev β xr)=1
    rw [← e1,← hr,oL];unfold aF;rw [if_neg (by omega),if_neg (by omega)]) (fun p hp'=>by
    simp only [List.mem_cons,List.not_mem_nil,or_false] at hp'
    rcases hp' with rfl | rfl | rfl
    ·exact nz1
    ·rw [← hr];exact hne h0
    ·show RE.ev β xq+((1:Int):Rat)≠0
     rw [← hq,show ((1:Int):Rat)=((1:Nat):Rat) from rfl,← Rat.natCast_add];exact hne (by omega)) (fun p h=>by cases h)
   have e:a / (m:Int) = -((q+1:Nat):Int)∧a % (m:Int)=((m - r:Nat):Int):=by
    have h5:((m - r:Nat):Int)=(m:Int) - (r:Int):=by omega
    have h6:((q+1:Nat):Int)=(q:Int)+1:=by omega
    have h3:a=((m - r:Nat):Int)+(m:Int) * -((q+1:Nat):Int):=by
     rw [han,hdi,h5,h6]
     grind
    rw [h3,Int.add_mul_ediv_left _ _ (by omega),Int.add_mul_emod_self_left]
    rw [Int.ediv_eq_zero_of_lt (by omega) (by omega),Int.emod_eq_of_lt (by omega) (by omega)]
    exact ⟨by omega,rfl⟩
   rw [e.1,e.2]
   refine Az (t:=true) (e:=.add xq (.c 1)) (e':=.sub x1 xr) ok (fuel:=1) (n0:=2) (by kernel_rfl) hE hg (fun x hx=>?_) fun x hx=>?_
   ·have:x=q+1:=inj (by rw [hx,Rat.natCast_add,hq];rfl)
    exact ⟨by omega,(decide_eq_true (by omega)).symm⟩
   ·have:x=m - r:=by
     have h5:((x:Nat):Rat)=((m:Nat):Rat) - ((r:Nat):Rat):=by rw [hx,hr,e1];rfl
     have:=nM h5
     omega
    exact ⟨by omega,(decide_eq_false (by omega)).symm⟩
 ·have han:a=(n:Int):=by omega
  rw [decide_eq_false (show ¬ a<0 by omega)]
  have ok:Hint.Ok β { nz:=[x1] }:=dO (fun p h=>by cases h) (fun p hp=>by rw [List.mem_singleton] at hp;subst hp;exact nz1) (fun p h=>by cases h)
  rw [han,← Int.natCast_ediv,← Int.natCast_emod,hqe,hre]
  refine Az (t:=false) (e:=xq) (e':=xr) ok (fuel:=1) (n0:=2) (by kernel_rfl) hE hg (fun x hx=>?_) fun x hx=>?_
  ·have:=inj (hx.trans hq.symm)
   exact ⟨by omega,(decide_eq_false (by omega)).symm⟩
  ·have:=inj (hx.trans hr.symm)
   exact ⟨by omega,(decide_eq_false (by omega)).symm⟩
end
end Rx
namespace Z4
open Go.RowKit Go.Sort Go.Lib
theorem Bo (z:Int) (v:Value) (w:World) (h:IsZ w v z) (k:Nat) (hk:k≤1073741824) (ka:z.natAbs<B64 ^ k):Calls Tryz.prog 172 #[v] w (dZ w (fH z)):=by
 obtain ⟨p,l,c,xs,rfl,hl,dx,tx,hv⟩:=h
 have hlen:=hl.len
 rcases Nat.eq_zero_or_pos xs.length with h0 | h0
 ·have hz:=(lM dx tx).1 h0
  have e0:z=0:=by omega
  have el:l=0:=by omega
  subst e0;subst el
  have:=Ih (decide ((0:Int)<0)) p c w
  rwa [show fH 0=[48] by unfold fH;rw [if_neg (by decide),decDigits];rfl]
 ·have hz:0<val xs:=by
   rcases Nat.eq_zero_or_pos (val xs) with h | h
   ·have:=(lM dx tx).2 h;omega
   ·exact h
  have hle:xs.length≤5*k:=bG tx (Nat.lt_of_lt_of_le (by rw [hv];exact ka) (by rw [Nat.pow_mul];exact Nat.pow_le_pow_left (by decide) k))
  rcases hl with ⟨he,rfl⟩ | ⟨b,o,k',he,-,hb,-,hi⟩
  ·simp at h0
  ·injection he with e1 e2 e3
   subst e1;subst e2;subst e3
   have:=Vg (decide (z<0)) b o c xs w hb hi dx hz (by omega)
   rw [hv] at this
   unfold fH
   by_cases hz0:z<0
   ·rw [decide_eq_true hz0] at this ⊢
    rw [if_pos rfl] at this
    rw [if_pos hz0];exact this
   ·rw [decide_eq_false hz0] at this ⊢
    rw [if_neg (by decide)] at this
    rw [if_neg hz0];exact this
theorem DV (n:Nat):decDigits n=[49]↔n=1:=by
 constructor
 ·intro h
  by_cases h10:n<10
  ·rw [decDigits,dif_pos h10] at h
   have h1:UInt8.ofNat (48+n)=49:=by simpa using h
   have h2:=congrArg UInt8.toNat h1
   rw [UInt8.toNat_ofNat'] at h2
   have:(49:UInt8).toNat=49:=rfl
   omega
  ·rw [decDigits,dif_neg h10] at h
   have h1:=congrArg List.length h
   rw [List.length_append] at h1
   obtain ⟨x,r,h2,-⟩:=DU (n:=n / 10) (by omega)
   rw [h2] at h1
   simp at h1
 ·rintro rfl;rw [decDigits];rfl
theorem TJ (r:Rat):fU r=if decDigits r.den=[49] then fH r.num else fH r.num ++ (47 :: fH (r.den:Int)):=by
 unfold fU fH
 rw [if_neg (show ¬ ((r.den:Int)<0) by omega),List.nil_append,Int.natAbs_natCast]
 by_cases h:r.den=1
 ·rw [if_pos h,if_pos ((DV _).2 h),List.append_nil]
 ·rw [if_neg h,if_neg (fun e=>h ((DV _).1 e))]
theorem TI (r:Rat) (v:Value) (w:World) (h:IsR w v r) (k:Nat) (hk:k≤1073741824) (hf:Fits k r):Calls Tryz.prog 121 #[v] w (dZ w (fU r)):=by
 obtain ⟨t1,p1,l1,k1,r1,s1,u1,rfl⟩:=h.open
 have HN:=hid (fun (W:World) (a:IsZ W (.agg #[.bool t1,.slice p1 l1 k1]) r.num)=>Bo _ _ W a k hk hf.1)
 have HM:=hid (fun (W:World) (v:Value) (a:IsZ W v (r.den:Int))=>Bo _ v W a k hk (by rw [Int.natAbs_natCast];exact hf.2))
 have HD:=hid (fun (W:World) (a:IsZ W (.agg #[.bool t1,.slice p1 l1 k1]) r.num) (b:IsZ W (.agg #[.bool false,.slice r1 s1 u1]) (r.den:Int))=>tY r _ W (.mk2 a b))
 have h1:=oP _ k hf.1 hk
 have h2:=oP _ k hf.2 hk
 have e2:fH (r.den:Int)=decDigits r.den:=by
  unfold fH
  rw [if_neg (show ¬ ((r.den:Int)<0) by omega),List.nil_append,Int.natAbs_natCast]
 have hD:(fH r.num).length≤21474836482:=by unfold fH;rw [List.length_append];split <;> simp <;> omega
 have hE:(fH (r.den:Int)).length≤21474836481:=by rw [e2];exact h2
 have hT:=TJ r
 rw [← e2] at hT
 have hn:=h.num
 have hd:=h.d
 obtain ⟨D,hD1⟩:∃ D,fH r.num=D:=⟨_,rfl⟩
 obtain ⟨E,hE1⟩:∃ E,fH (r.den:Int)=E:=⟨_,rfl⟩
 obtain ⟨T,hT1⟩:∃ T,fU r=T:=⟨_,rfl⟩
 rw [hD1] at HN hD hT
 rw [hE1] at HM hE hT
 rw [hT1] at hT ⊢
 clear hD1 hE1 hT1 e2 h h1 h2 hf
 have HI:=hid (And.intro hn hd)
 clear hn hd
 have HT:=hid hT
 clear hT
 go_enter Tryz.func121,Tryz.ntmps121
 go_wp2_with fail
 have hS0:=hid ((St.start w).alloc' (w.heap.size) (by simp) 40 [.bool t1,.slice p1 l1 k1,.bool false,.slice r1 s1 u1])
 obtain ⟨W0,hW0⟩:=aK hS0
 rw [hW0] at hS0 ⊢
 clear hW0
 have hS1:=hid ((hS0.out.fact (.z (.agg #[.bool t1,.slice p1 l1 k1]) r.num) (HI.out.1.below hS0.out.bel)).fact (.z (.agg #[.bool false,.slice r1 s1 u1]) (r.den:Int)) (HI.out.2.below hS0.out.bel))
 clear hS0 HI
 obtain ⟨⟨cR0,cR1,cR2,cR3⟩,fR0,fR1,fR2,fR3⟩:=hS1.out.f4 0 w.heap.size 40 (.bool t1) (.slice p1 l1 k1) (.bool false) (.slice r1 s1 u1) rfl
 go_wp2_with fail
 clear cR0 cR1 cR2 cR3 fR0 fR1 fR2 fR3
 refine (HN.out _ (hS1.out.get (f:=.z (.agg #[.bool t1,.slice p1 l1 k1]) r.num) 1 rfl)).mono ?_
 rintro e w1 ⟨rfl,hB⟩
 have hS2:=hid (hS1.out.call hB)
 clear hS1 hB
 obtain ⟨⟨cR0,cR1,cR2,cR3⟩,fR0,fR1,fR2,fR3⟩:=hS2.out.f4 0 w.heap.size 40 (.bool t1) (.slice p1 l1 k1) (.bool false) (.slice r1 s1 u1) rfl
 go_wp2_with fail
 clear cR0 cR1 cR2 cR3 fR0 fR1 fR2 fR3
 refine (HD.out _ (hS2.out.get (f:=.z (.agg #[.bool t1,.slice p1 l1 k1]) r.num) 1 rfl) (hS2.out.get (f:=.z (.agg #[.bool false,.slice r1 s1 u1]) (r.den:Int)) 0 rfl)).mono ?_
 rintro e w2 ⟨v2,rfl,hz2,hB⟩
 have hS3:=hid (hS2.out.call hB)
 clear hS2 hB
 obtain ⟨t2,p2,l2,k2,rfl⟩:=hz2.open
 have hZ:=hid hz2
 clear hz2
 go_wp2_with fail
 refine (HM.out _ _ hZ.out).mono ?_
 rintro e w3 ⟨rfl,hB⟩
 have hS4:=hid (hS3.out.call hB)
 clear hS3 hB hZ
 by_cases he:E=[49]
 ·subst he
  have hT2:=HT.out
  rw [if_pos rfl] at hT2
  subst hT2
  go_wp2
  go_ret
  exact ⟨rfl,hS4.out.bel⟩
 ·have hT2:=HT.out
  rw [if_neg he] at hT2
  have hb:(E == [49])=false:=by simpa using he
  have HT2:=hid hT2
  clear hT2 he HT
  go_wp2
  go_ret
  refine ⟨?_,hS4.out.bel⟩
  rw [HT2.out]
  refine congrArg (fun s=>Ending.returned (Value.string s)) ?_
  apply ByteArray.ext
  simp [ByteArray.data_append]
end Z4
namespace Rx
open Go.RowKit
inductive At
 | q
 | r
 | o
def At.n:At→Nat
 | .q=>5
 | _=>4
def U9:List Cell:=[.bl false,.nils,.bl false,.nils]
def At.cells:At→Nat→List Cell
 | .q,s=>aJ s
 | .r,s=>aV s
 | .o,_=>U9
def At.fact:At→Nat→RE→Nat→List Fc
 | .q,s,e,k=>[.q s e k]
 | .r,s,e,k=>[.r s e k]
 | .o,_,_,_=>[]
def su:List Cell→Option (RE×Nat)
 | [.bl false,.nils,.bl false,.nils]=>some (.c 0,0)
 | _=>none
def At.parse (db:List Fc):At→List Cell→Option (RE×Nat)
 | .q,cs=>dB db cs
 | .r,cs=>iV db cs
 | .o,cs=>su cs
section
variable {β β':Nat→Rat} {ρ:Env} {W:World} {db:List Fc}
theorem At.name {a:At} {cs:List Cell} {e:RE} {k:Nat} (h:a.parse db cs=some (e,k)) (hf:∀ f∈db,(SQ β).on ρ f W):∃ c d:Nv,∀ (ρ':Env) s,ρ' s=c→ρ' (s+1)=d →
  (a.cells s).map (Cell.den ρ')=cs.map (Cell.den ρ)∧∀ (β':Nat→Rat) e' k',e'.ev β' = e.ev β→k≤k'→∀ f∈a.fact s e' k',(SQ β').on ρ' f W:=by
 cases a with
 | q =>
  obtain ⟨h1,c,d,h2⟩:=dX h hf
  refine ⟨c,d,fun ρ' s hc hd=>?_⟩
  have h3:(aJ s).map (Cell.den ρ')=cs.map (Cell.den ρ):=by
   have:=congrArg Array.toList (Value.agg.inj h2)
   simp only at this
   rw [this]
   simp [aJ,Cell.den,hc,hd]
  refine ⟨h3,fun β' e' k' he hk f hm=>?_⟩
  simp only [At.fact,List.mem_singleton] at hm
  subst hm
  show IsQ W (.agg ((aJ s).map (Cell.den ρ')).toArray) (e'.ev β')∧Fits k' (e'.ev β')
  rw [h3,he]
  exact ⟨h1.1,h1.2.mono hk⟩
 | r =>
  obtain ⟨h1,h1'⟩:=jL h hf
  obtain ⟨c,d,h2⟩:=jc h1
  refine ⟨c,d,fun ρ' s hc hd=>?_⟩
  have h3:(aV s).map (Cell.den ρ')=cs.map (Cell.den ρ):=by
   have:=congrArg Array.toList (Value.agg.inj h2)
   simp only at this
   rw [this]
   simp [aV,Cell.den,hc,hd]
  refine ⟨h3,fun β' e' k' he hk f hm=>?_⟩
  simp only [At.fact,List.mem_singleton] at hm
  subst hm
  show Z4.IsR W (.agg ((aV s).map (Cell.den ρ')).toArray) (e'.ev β')∧Fits k' (e'.ev β')
  rw [h3,he]
  exact ⟨h1,h1'.mono hk⟩
 | o =>
  refine ⟨default,default,fun ρ' s _ _=>⟨?_,fun β' e' k' _ _ f hm=>by cases hm⟩⟩
  simp only [At.parse] at h
  unfold su at h
  split at h
  ·rfl
  ·cases h
def gX (db:List Fc):List At→List Cell→Option (List (RE×Nat))
 | [],[]=>some []
 | [],_ :: _=>none
 | a :: r,cs=>match a.parse db (cs.take a.n),gX db r (cs.drop a.n) with
  | some x,some l=>some (x :: l)
  | _,_=>none
def mJ:List At→Nat→List Cell
 | [],_=>[]
 | a :: r,s=>a.cells s ++ mJ r (s+2)
def gI:List At→Nat→List (RE×Nat)→List Fc
 | a :: r,s,x :: l=>a.fact s x.1 x.2 ++ gI r (s+2) l
 | _,_,_=>[]
def rel (β' β:Nat→Rat):List (RE×Nat)→List (RE×Nat)→Prop
 | [],[]=>True
 | x :: l,y :: m=>(x.1.ev β' = y.1.ev β∧y.2≤x.2)∧rel β' β l m
 | _,_=>False
theorem F5 {β' β:Nat→Rat}:∀ {a b:List (RE×Nat)} {l:List (RE×Nat)},rel β' β l (a ++ b)→rel β' β (l.take a.length) a∧rel β' β (l.drop a.length) b
 | [],b,l,h=>by simpa [rel] using h
 | x :: a,b,[],h=>by simp [rel] at h
 | x :: a,b,y :: l,h=>by
  obtain ⟨h1,h2⟩:(y.1.ev β' = x.1.ev β∧x.2≤y.2)∧rel β' β l (a ++ b):=h
  obtain ⟨h3,h4⟩:=F5 h2
  exact ⟨⟨h1,h3⟩,h4⟩
theorem Ad:∀ {t:List At} {cs:List Cell} {xs:List (RE×Nat)},gX db t cs=some xs→xs.length=t.length
 | [],[],xs,h=>by simp [gX] at h;subst h;rfl
 | [],_ :: _,xs,h=>by simp [gX] at h
 | a :: r,cs,xs,h=>by
  simp only [gX] at h
  split at h
  ·rename_i x l h1 h2
   cases h
   simp [Ad h2]
  ·cases h
theorem zU (hf:∀ f∈db,(SQ β).on ρ f W):∀ {t:List At} {cs:List Cell} {xs:List (RE×Nat)},gX db t cs=some xs→∃ L:List Nv,L.length=2*t.length∧∀ (ρ':Env) s,(∀ i,i<2*t.length→ρ' (s+i)=L[i]?.getD default) →
  (mJ t s).map (Cell.den ρ')=cs.map (Cell.den ρ)∧∀ (β':Nat→Rat) xs',rel β' β xs' xs→∀ f∈gI t s xs',(SQ β').on ρ' f W
 | [],[],xs,h=>⟨[],rfl,fun ρ' s _=>⟨rfl,fun β' xs' _ f hm=>by simp [gI] at hm⟩⟩
 | [],_ :: _,xs,h=>by simp [gX] at h
 | a :: r,cs,xs,h=>by
  simp only [gX] at h
  split at h
  ·rename_i x l h1 h2
   cases h
   obtain ⟨c,d,h3⟩:=At.name (e:=x.1) (k:=x.2) h1 hf
   obtain ⟨L,h4,h5⟩:=zU hf h2
   refine ⟨c :: d :: L,by simp [h4];omega,fun ρ' s hρ=>?_⟩
   have c0:=hρ 0 (by simp <;> omega)
   have d0:=hρ 1 (by simp <;> omega)
   obtain ⟨g1,g2⟩:=h3 ρ' s (by simpa using c0) (by simpa using d0)
   obtain ⟨g3,g4⟩:=h5 ρ' (s+2) (fun i hi=>by
    have:=hρ (2+i) (by simp <;> omega)
    rw [← Nat.add_assoc,show 2+i=i+1+1 by omega] at this
    simpa using this)
   refine ⟨?_,fun β' xs' hr f hm=>?_⟩
   ·simp only [mJ,List.map_append,g1,g3]
    rw [← List.map_append,List.take_append_drop]
   ·cases xs' with
    | nil=>simp [rel] at hr
    | cons y l' =>
     obtain ⟨⟨r1,r2⟩,r3⟩:=hr
     simp only [gI,List.mem_append] at hm
     rcases hm with hm | hm
     ·exact g2 β' _ _ r1 r2 f hm
     ·exact g4 β' l' r3 f hm
  ·cases h
def iZ (db:List Fc):List (List At)→List SV→Option (List (RE×Nat))
 | [],[]=>some []
 | t :: r,.e (.a cs) :: l=>match gX db t cs,iZ db r l with
  | some x,some y=>some (x ++ y)
  | _,_=>none
 | _,_=>none
def rX:List (List At)→Nat→List SV
 | [],_=>[]
 | t :: r,s=>.e (.a (mJ t s)) :: rX r (s+2*t.length)
theorem Ei:∀ {t r:List At} {s:Nat} {xs:List (RE×Nat)} {f:Fc},f∈gI (t ++ r) s xs→f∈gI t s (xs.take t.length)∨f∈gI r (s+2*t.length) (xs.drop t.length)
 | [],r,s,xs,f,h=>.inr (by simpa using h)
 | a :: t,r,s,[],f,h=>by simp [gI] at h
 | a :: t,r,s,x :: xs,f,h=>by
  simp only [List.cons_append,gI,List.mem_append] at h
  simp only [List.length_cons,List.take_succ_cons,List.drop_succ_cons,gI,List.mem_append]
  rcases h with h | h
  ·exact .inl (.inl h)
  ·rcases Ei h with h | h
   ·exact .inl (.inr h)
   ·exact .inr (by rwa [show s+2*(t.length+1)=s+2+2*t.length by omega])
theorem FP:∀ {ts:List (List At)} {args:List SV} {xs:List (RE×Nat)},iZ db ts args=some xs→xs.length=ts.flatten.length
 | [],[],xs,h=>by simp [iZ] at h;subst h;rfl
 | [],_ :: _,xs,h=>by simp [iZ] at h
 | t :: r,[],xs,h=>by simp [iZ] at h
 | t :: r,x :: l,xs,h=>by
  unfold iZ at h
  split at h
  ·rename_i heq _;cases heq
  ·rename_i heq1 heq2
   cases heq1;cases heq2
   split at h
   ·rename_i x y g1 g2
    cases h
    simp [Ad g1,FP g2]
   ·cases h
  ·cases h
theorem Fv (hf:∀ f∈db,(SQ β).on ρ f W):∀ {ts:List (List At)} {args:List SV} {xs:List (RE×Nat)},iZ db ts args=some xs→∃ L:List Nv,L.length=2*ts.flatten.length∧∀ (ρ':Env) s,(∀ i,i<2*ts.flatten.length→ρ' (s+i)=L[i]?.getD default) →
  (rX ts s).map (SV.den ρ')=args.map (SV.den ρ)∧∀ (β':Nat→Rat) xs',rel β' β xs' xs→∀ f∈gI ts.flatten s xs',(SQ β').on ρ' f W
 | [],[],xs,h=>⟨[],rfl,fun ρ' s _=>⟨rfl,fun β' xs' _ f hm=>by simp [gI] at hm⟩⟩
 | [],_ :: _,xs,h=>by simp [iZ] at h
 | t :: r,[],xs,h=>by simp [iZ] at h
 | t :: r,x :: l,xs,h=>by
  unfold iZ at h
  split at h
  ·rename_i heq _;cases heq
  ·rename_i _ _ cs _ heq1 heq2
   cases heq1;cases heq2
   split at h
   ·rename_i x y h1 h2
    cases h
    obtain ⟨L,h3,h4⟩:=zU hf h1
    obtain ⟨L',h5,h6⟩:=Fv hf h2
    refine ⟨L ++ L',by simp [h3,h5,Nat.mul_add],fun ρ' s hρ=>?_⟩
    obtain ⟨g1,g2⟩:=h4 ρ' s (fun i hi=>by
     have:=hρ i (by simp <;> omega)
     rwa [List.getElem?_append_left (by omega)] at this)
    obtain ⟨g3,g4⟩:=h6 ρ' (s+2*t.length) (fun i hi=>by
     have:=hρ (2*t.length+i) (by simp;simp at hi;omega)
     rw [List.getElem?_append_right (by omega),h3,Nat.add_sub_cancel_left,← Nat.add_assoc] at this
     exact this)
    refine ⟨?_,fun β' xs' hr f hm=>?_⟩
    ·simp only [rX,List.map_cons,g3]
     congr 1
     simp only [SV.den,El.den,g1]
    ·obtain ⟨r1,r2⟩:=F5 hr
     rw [Ad h1] at r1 r2
     rcases Ei (t:=t) (r:=r.flatten) (by simpa using hm) with hm | hm
     ·exact g2 β' _ r1 f hm
     ·exact g4 β' _ r2 f hm
   ·cases h
  ·cases h
end
def RE.sub' (es:List RE):RE→RE
 | .v n=>es.getD n (.c 0)
 | .c n=>.c n
 | .add a b=>.add (a.sub' es) (b.sub' es)
 | .sub a b=>.sub (a.sub' es) (b.sub' es)
 | .mul a b=>.mul (a.sub' es) (b.sub' es)
 | .div a b=>.div (a.sub' es) (b.sub' es)
 | .neg a=>.neg (a.sub' es)
 | .abs a=>.abs (a.sub' es)
 | .flo a=>.flo (a.sub' es)
 | .num a=>.num (a.sub' es)
 | .den a=>.den (a.sub' es)
def put (β:Nat→Rat) (es:List RE):Nat→Rat:=fun n=>(es.getD n (.c 0)).ev β
theorem jP {β:Nat→Rat} {es:List RE} (e:RE):(e.sub' es).ev β=e.ev (put β es):=by
 induction e with
 | v n=>rfl
 | c n=>rfl
 | add a b ih1 ih2=>show (a.sub' es).ev β+(b.sub' es).ev β=_;rw [ih1,ih2];rfl
 | sub a b ih1 ih2=>show (a.sub' es).ev β - (b.sub' es).ev β=_;rw [ih1,ih2];rfl
 | mul a b ih1 ih2=>show (a.sub' es).ev β*(b.sub' es).ev β=_;rw [ih1,ih2];rfl
 | div a b ih1 ih2=>show (a.sub' es).ev β / (b.sub' es).ev β=_;rw [ih1,ih2];rfl
 | neg a ih=>show -(a.sub' es).ev β=_;rw [ih];rfl
 | abs a ih=>show (if ((a.sub' es).ev β).num<0 then -(a.sub' es).ev β else (a.sub' es).ev β)=_;rw [ih];rfl
 | flo a ih=>show ((((a.sub' es).ev β).num / (((a.sub' es).ev β).den:Int):Int):Rat)=_;rw [ih];rfl
 | num a ih=>show (((a.sub' es).ev β).num:Rat)=_;rw [ih];rfl
 | den a ih=>show (((((a.sub' es).ev β).den:Nat):Int):Rat)=_;rw [ih];rfl
def RE.plain:RE→RE
 | .sub a b=>.add a.plain (.neg b.plain)
 | .add a b=>.add a.plain b.plain
 | .mul a b=>.mul a.plain b.plain
 | .div a b=>.div a.plain b.plain
 | .neg a=>.neg a.plain
 | e=>e
theorem FQ {β:Nat→Rat} (e:RE):e.plain.ev β=e.ev β:=by
 induction e with
 | add a b ih1 ih2=>show a.plain.ev β+b.plain.ev β=_;rw [ih1,ih2];rfl
 | sub a b ih1 ih2=>show a.plain.ev β + -b.plain.ev β=a.ev β - b.ev β;rw [ih1,ih2,Rat.sub_eq_add_neg]
 | mul a b ih1 ih2=>show a.plain.ev β*b.plain.ev β=_;rw [ih1,ih2];rfl
 | div a b ih1 ih2=>show a.plain.ev β / b.plain.ev β=_;rw [ih1,ih2];rfl
 | neg a ih=>show -a.plain.ev β=_;rw [ih];rfl
 | _=>rfl
def alike (k:Nat):List RE→List (RE×Nat)→Bool
 | [],[]=>true
 | o :: l,y :: m=>(o.plain.beq y.1.plain && decide (y.2≤k)) && alike k l m
 | _,_=>false
theorem CJ {β:Nat→Rat} {es:List RE} {k:Nat}:∀ {os:List RE} {ys:List (RE×Nat)},alike k os ys=true→rel β (put β es) (os.map fun o=>(o.sub' es,k)) ys
 | [],[],_=>trivial
 | [],_ :: _,h=>by simp [alike] at h
 | _ :: _,[],h=>by simp [alike] at h
 | o :: os,y :: ys,h=>by
  simp only [alike,Bool.and_eq_true,decide_eq_true_eq] at h
  refine ⟨⟨?_,h.1.2⟩,CJ h.2⟩
  rw [jP,← FQ o,RE.beq_eq h.1.1,FQ]
inductive Rs
 | at (t:List At) (os:List RE)
 | atb (t:List At) (os:List RE) (x:Bool)
 | bl (x:Bool)
def Rs.sv (b:Nat):Rs→SV
 | .at t _=>.e (.a (mJ t b))
 | .atb t _ x=>.t [.a (mJ t b),.s (.bl x)]
 | .bl x=>.e (.s (.bl x))
def Rs.fs (ko b:Nat) (es:List RE):Rs→List Fc
 | .at t os | .atb t os _=>gI t b (os.map fun o=>(o.sub' es,ko))
 | .bl _=>[]
def Rs.small:Rs→Bool
 | .at t _ | .atb t _ _=>decide (2*t.length≤M)
 | .bl _=>true
def outA (ko:Nat) (t:List At) (os:List RE):Option (SV×List Fc)→Bool
 | some (.e (.a cs),fs)=>match gX fs t cs with
  | some ys=>alike ko os ys
  | none=>false
 | _=>false
def zX (ko:Nat) (t:List At) (os:List RE) (x:Bool):Option (SV×List Fc)→Bool
 | some (.t [.a cs,.s (.bl y)],fs)=>match gX fs t cs with
  | some ys=>x == y && alike ko os ys
  | none=>false
 | _=>false
def O6 (ko:Nat):Rs→Option (SV×List Fc)→Bool
 | .at t os,o=>outA ko t os o
 | .atb t os x,o=>zX ko t os x o
 | .bl x,o=>isB x o
theorem Ry {ko:Nat} {t:List At} {os:List RE} {o:Option (SV×List Fc)} (h:outA ko t os o=true):∃ cs fs ys,o=some (.e (.a cs),fs)∧gX fs t cs=some ys∧alike ko os ys=true:=by
 unfold outA at h
 split at h
 ·split at h
  ·rename_i cs fs _ ys hp;exact ⟨cs,fs,ys,rfl,hp,h⟩
  ·cases h
 ·cases h
theorem Rz {ko:Nat} {t:List At} {os:List RE} {x:Bool} {o:Option (SV×List Fc)} (h:zX ko t os x o=true):∃ cs fs ys,o=some (.t [.a cs,.s (.bl x)],fs)∧gX fs t cs=some ys∧alike ko os ys=true:=by
 unfold zX at h
 split at h
 ·split at h
  ·rename_i cs y fs _ ys hp
   simp only [Bool.and_eq_true,beq_iff_eq] at h
   exact ⟨cs,fs,ys,by rw [h.1],hp,h.2⟩
  ·cases h
 ·cases h
def hintB (h H0:Hint) (es:List RE):Bool:=
 H0.eq.all (fun p=>eqB h (p.1.sub' es) (p.2.sub' es)) && H0.ne.all (fun p=>h.ne.any fun x=>x.1.beq (p.1.sub' es) && x.2.beq (p.2.sub' es)) && H0.nz.all (fun p=>nzB h (p.sub' es)) && H0.sg.all (fun p=>sgB h (p.1.sub' es) == some p.2) && H0.cm.all (fun p=>cmB h (p.1.sub' es) (p.2.1.sub' es) == some p.2.2)
theorem Ol {β:Nat→Rat} {h H0:Hint} {es:List RE} (hh:hintB h H0 es=true) (ok:h.Ok β):H0.Ok (put β es):=by
 unfold hintB at hh
 simp only [Bool.and_eq_true,List.all_eq_true] at hh
 obtain ⟨⟨⟨⟨h1,h2⟩,h3⟩,h4⟩,h5⟩:=hh
 refine ⟨fun p hp=>?_,fun p hp=>?_,fun p hp=>?_,fun p hp=>?_,fun p hp=>?_⟩
 ·rw [← jP,← jP];exact kK ok (h1 p hp)
 ·obtain ⟨x,hx,h6⟩:=List.any_eq_true.1 (h2 p hp)
  simp only [Bool.and_eq_true] at h6
  rw [← jP,← jP,← RE.beq_eq h6.1,← RE.beq_eq h6.2]
  exact ok.2.1 x hx
 ·rw [← jP];exact lu ok (h3 p hp)
 ·rw [← jP];exact AB ok (by simpa using h4 p hp)
 ·rw [← jP,← jP];exact iE ok (by simpa using h5 p hp)
def vars (k:Nat):Nat→Nat→List (RE×Nat)
 | _,0=>[]
 | i,n+1=>(.v i,k) :: vars k (i+1) n
theorem Ht {β:Nat→Rat} {es:List RE} {k:Nat}:∀ {xs:List (RE×Nat)} {i:Nat},(∀ j x,xs[j]? = some x→(es.getD (i+j) (.c 0))=x.1∧x.2≤k)→rel (put β es) β (vars k i xs.length) xs
 | [],i,_=>trivial
 | x :: xs,i,h=>by
  have h0:=h 0 x rfl
  refine ⟨⟨?_,h0.2⟩,Ht fun j y hy=>?_⟩
  ·show (es.getD i (.c 0)).ev β=_
   rw [← h0.1];rfl
  ·have:=h (j+1) y (by simpa using hy)
   rwa [show i+1+j=i+(j+1) by omega]
def aY (β:Nat→Rat) (h:Hint) (f:FuncId) (ins:List (List At)) (kin:Nat) (H0:Hint) (out:Rs) (ko:Nat):Con (SQ β) where
 fn:=f
 app:=fun db b args=>match iZ db ins args with
  | some xs=>if xs.all (fun x=>decide (x.2≤kin)) && hintB h H0 (xs.map (·.1)) then some (out.sv b,out.fs ko b (xs.map (·.1))) else none
  | none=>none
theorem CU {ko:Nat} {β γ:Nat→Rat} {es:List RE} {ρ ρ':Env} {W':World} {fs':List Fc} {t:List At} {cs:List Cell} {ys:List (RE×Nat)} {os:List RE} {b:Nat} (hg:γ=put β es) (hp:gX fs' t cs=some ys) (ha:alike ko os ys=true) (hs:2*t.length≤M) (hfs:∀ g∈fs',(SQ γ).on ρ' g W') :
  ∃ ρ'':Env,(∀ n,n<b∨b+M≤n→ρ'' n=ρ n)∧(mJ t b).map (Cell.den ρ'')=cs.map (Cell.den ρ')∧∀ g∈gI t b (os.map fun o=>(o.sub' es,ko)),(SQ β).on ρ'' g W':=by
 subst hg
 obtain ⟨L,hL,hn⟩:=zU hfs hp
 obtain ⟨h1,h2⟩:=hn (aC ρ b L) b (fun i hi=>by
  unfold aC
  rw [if_pos (by omega),Nat.add_sub_cancel_left,List.getElem?_eq_getElem (by omega)];rfl)
 exact ⟨aC ρ b L,dS (by omega),h1,h2 β _ (CJ ha)⟩
theorem J4 {β:Nat→Rat} {h:Hint} {f:FuncId} {ins:List (List At)} {kin:Nat} {H0:Hint} {out:Rs} {ko:Nat} (ok:h.Ok β) (hs:out.small=true)
  (run:∀ γ:Nat→Rat,H0.Ok γ→∃ (H1:Hint) (ok1:H1.Ok γ) (fuel:Nat) (cons:List (Con (SQ γ))),(∀ c∈cons,c.Ok Tryz.prog (SQ γ) EV)∧O6 ko out (runF Tryz.prog (SQ γ) (HQ γ H1 ok1) cons fuel f (rX ins 0) (gI ins.flatten 0 (vars kin 0 ins.flatten.length)) (2*ins.flatten.length))=true) :
  (aY β h f ins kin H0 out ko).Ok Tryz.prog (SQ β) EV:=by
 intro db b args res new ha ρ W hf hE
 simp only [aY] at ha
 split at ha
 ·rename_i xs hx
  split at ha
  ·rename_i hh
   simp only [Bool.and_eq_true,List.all_eq_true,decide_eq_true_eq] at hh
   cases ha
   obtain ⟨es,hes⟩:∃ es,xs.map (·.1)=es:=⟨_,rfl⟩
   rw [hes] at hh ⊢
   obtain ⟨H1,ok1,fuel,cons,hc,hr⟩:=run (put β es) (Ol hh.2 ok)
   obtain ⟨L,hL,hn⟩:=Fv hf hx
   obtain ⟨h1,h2⟩:=hn (fun i=>L[i]?.getD default) 0 (fun i hi=>by simp)
   have hlen:=FP hx
   have hfacts:=h2 (put β es) (vars kin 0 ins.flatten.length) (by
    rw [← hlen]
    refine Ht fun j x hj=>⟨?_,hh.1 x (List.mem_of_getElem? hj)⟩
    rw [← hes,Nat.zero_add,List.getD_eq_getElem?_getD,List.getElem?_map,hj];rfl)
   rw [← h1]
   cases out with
   | «at» t os =>
    have hs':2*t.length≤M:=by simpa [Rs.small] using hs
    obtain ⟨cs,fs',ys,hrun,hp,hr⟩:=Ry hr
    refine (runF_ok mixed hc hrun (fM hE) hfacts).mono fun x W' ⟨ρ',_,hx',hb,hfs⟩=>?_
    obtain ⟨ρ'',a1,a2,a3⟩:=CU (ρ:=ρ) (b:=b) rfl hp hr hs' hfs
    exact ⟨ρ'',a1,by rw [hx'];simp only [Rs.sv,SV.den,El.den,a2],hb,a3⟩
   | atb t os y =>
    have hs':2*t.length≤M:=by simpa [Rs.small] using hs
    obtain ⟨cs,fs',ys,hrun,hp,hr⟩:=Rz hr
    refine (runF_ok mixed hc hrun (fM hE) hfacts).mono fun x W' ⟨ρ',_,hx',hb,hfs⟩=>?_
    obtain ⟨ρ'',a1,a2,a3⟩:=CU (ρ:=ρ) (b:=b) rfl hp hr hs' hfs
    exact ⟨ρ'',a1,by rw [hx'];simp only [Rs.sv,SV.den,El.den,List.map_cons,List.map_nil,a2];rfl,hb,a3⟩
   | bl y =>
    obtain ⟨fs',hrun⟩:=Ez hr
    refine (runF_ok mixed hc hrun (fM hE) hfacts).mono fun x W' ⟨ρ',_,hx',hb,hfs⟩=>⟨ρ,fun _ _=>rfl,?_,hb,fun g hg=>by cases hg⟩
    rw [hx'];rfl
  ·cases ha
 ·cases ha
end Rx
end Go.Proofs.YtcglmmbgoonjnaaGreatDoor
