/- What the proof rests on, part 34. -/
import Derived.Test.YtefbfbdijimanaaGreatDoorP33
import Derived.Test.YtefbfbdijimanaaGreatDoorP32
import Derived.Test.YtefbfbdijimanaaGreatDoorP15
import Derived.Test.YtefbfbdijimanaaGreatDoorP28
import Derived.Test.YtefbfbdijimanaaGreatDoorP22
namespace Go.Proofs.YtefbfbdijimanaaGreatDoor
set_option maxRecDepth 100000
set_option maxHeartbeats 80000000
namespace Rx
open Go.RowKit
def pK:List Fd→Nat→Option Nat
 | [],_=>none
 | .n b s :: r,n=>if b=n then some s else pK r n
 | _ :: r,n=>pK r n
theorem pO {n s:Nat}:∀ {db:List Fd},pK db n=some s→.n n s∈db
 | [],h=>by simp [pK] at h
 | f :: r,h=>by
  cases f with
  | n b s' =>
   simp only [pK] at h
   split at h
   ·rename_i hs;cases h;subst hs;simp
   ·exact List.mem_cons_of_mem _ (pO h)
  | l _ _ _=>exact List.mem_cons_of_mem _ (pO h)
  | z _ _ _=>exact List.mem_cons_of_mem _ (pO h)
  | r _ _ _=>exact List.mem_cons_of_mem _ (pO h)
  | i _ _=>exact List.mem_cons_of_mem _ (pO h)
def worth (db:List Fd) (s:Nat):Option RE:=match iE db s with
 | some (e,_)=>some e
 | none=>match nO db s with
  | some (e,_)=>some e
  | none=>none
def yX (h:Hint) (db:List Fd) (a:Nat):Option Bool:=match pK db a with
 | some s=>match worth db s with
  | some e=>if nzB h e then some false else if eqB h e (.c 0) then some true else none
  | none=>none
 | none=>none
section
variable {β:Nat→Rat} {ρ:Env} {W:World} {db:List Fd} {h:Hint}
theorem aaV {s:Nat} {e:RE} (hw:worth db s=some e) (hf:∀ f∈db,(SR β).on ρ f W):(ρ s).l=0↔e.ev β=0:=by
 have key:∀ xs,Z4.IsL 0 W (.slice (ρ s).p (ρ s).l (ρ s).c) xs→Z4.Dig xs→Z4.aA xs→((ρ s).l=0↔Z4.val xs=0):=fun xs h1 h2 h3=>by
  rw [← h1.len];exact Z4.oJ h2 h3
 unfold worth at hw
 split at hw
 ·rename_i e' k hx
  cases hw
  obtain ⟨xs,h1,h2,h3,h4,-⟩:=hf _ (gK hx)
  rw [key xs h1 h2 h3,← h4]
  exact ⟨fun h=>by rw [h];rfl,fun h=>by exact_mod_cast h⟩
 ·split at hw
  ·rename_i e' k hx
   cases hw
   obtain ⟨z,⟨p,l,c,xs,he,h1,h2,h3,h4⟩,h5,-⟩:=hf _ (lJ hx)
   have he':=congrArg Array.toList (Value.agg.inj he)
   simp only [zC,List.map_cons,List.map_nil,Cell.den,List.cons.injEq,Value.slice.injEq,and_true] at he'
   obtain ⟨-,rfl,rfl,rfl⟩:=he'
   rw [key xs h1 h2 h3,← h5,h4]
   constructor
   ·intro h;rw [show z=0 by omega];rfl
   ·intro h
    have:z=0:=by exact_mod_cast h
    rw [this];rfl
  ·cases hw
theorem J8 (ok:h.Ok β) {a:Nat} {x:Bool} (hh:yX h db a=some x) (hf:∀ f∈db,(SR β).on ρ f W):0≤(ρ a).u∧((ρ a).u == 0)=x:=by
 unfold yX at hh
 split at hh
 ·rename_i s hs
  split at hh
  ·rename_i e hw
   have h1:(ρ a).u=((ρ s).l:Int):=hf _ (pO hs)
   have h2:=aaV hw hf
   refine ⟨by omega,?_⟩
   split at hh
   ·rename_i hn
    cases hh
    have:=lT ok hn
    rw [beq_eq_false_iff_ne]
    intro h0
    exact this (h2.1 (by omega))
   ·split at hh
    ·rename_i hn
     cases hh
     have:=h2.2 ((kD ok hn).trans rfl)
     rw [beq_iff_eq]
     omega
    ·cases hh
  ·cases hh
 ·cases hh
end
def EL (h:Hint) (db:List Fd) (a:Nat):Option Bool:=match pK db a with
 | some s=>match iE db s with
  | some (e,_)=>if jA e then (match cmB h e (.c 10000) with
    | some (-1)=>some true
    | some 0 | some 1=>some false
    | _=>none) else none
  | none=>none
 | none=>none
def nH:List Fd→Nat→Option RE
 | [],_=>none
 | .i s e :: r,n=>if s=n then some e else nH r n
 | _ :: r,n=>nH r n
theorem nI {n:Nat} {e:RE}:∀ {db:List Fd},nH db n=some e→.i n e∈db
 | [],h=>by simp [nH] at h
 | f :: r,h=>by
  cases f with
  | i b e' =>
   simp only [nH] at h
   split at h
   ·rename_i hs;cases h;subst hs;simp
   ·exact List.mem_cons_of_mem _ (nI h)
  | l _ _ _=>exact List.mem_cons_of_mem _ (nI h)
  | z _ _ _=>exact List.mem_cons_of_mem _ (nI h)
  | r _ _ _=>exact List.mem_cons_of_mem _ (nI h)
  | n _ _=>exact List.mem_cons_of_mem _ (nI h)
def Ed (h:Hint) (db:List Fd) (a:Nat) (m:Int):Option Bool:=match nH db a with
 | some e=>if eqB h e (.c m) then some true else if h.ne.any (fun p=>p.1.beq e && p.2.beq (.c m)) then some false else none
 | none=>if m=0 then yX h db a else if m=1 then EL h db a else none
section
variable {β:Nat→Rat} {ρ:Env} {W:World} {db:List Fd} {h:Hint}
theorem X6 (ok:h.Ok β) {a:Nat} {x:Bool} (hh:EL h db a=some x) (hf:∀ f∈db,(SR β).on ρ f W):((ρ a).u == 1)=x:=by
 unfold EL at hh
 split at hh
 ·rename_i s hs
  split at hh
  ·rename_i e k hx
   split at hh
   ·rename_i hp
    have h1:(ρ a).u=((ρ s).l:Int):=hf _ (pO hs)
    obtain ⟨xs,g1,g2,g3,g4,-⟩:=(show IsG W (.slice (ρ s).p (ρ s).l (ρ s).c) (e.ev β) k from hf _ (gK hx))
    have hl:=g1.len
    have hpos:0<Z4.val xs:=by
     have:=vS (β:=β) hp
     rw [← g4] at this
     rcases Nat.eq_zero_or_pos (Z4.val xs) with h0 | h0
     ·rw [h0] at this;exact absurd this (by decide)
     ·exact h0
    have hl1:1≤xs.length:=by
     rcases Nat.eq_zero_or_pos xs.length with h0 | h0
     ·have:=(Z4.oJ g2 g3).1 h0;omega
     ·exact h0
    have hcm:∀ c,cmB h e (.c 10000)=some c→aC (Z4.val xs) 10000=c:=fun c hc=>by
     have:=kZ ok hc
     rw [← g4,show (RE.c 10000).ev β=((10000:Nat):Rat) from rfl,rG] at this
     exact this
    have hge:2≤xs.length→10000≤Z4.val xs:=fun h2=>by
     have h3:=Z4.kR g3 (by intro e;subst e;simp at hl1)
     have h4:Z4.B4 ^ 1≤Z4.B4 ^ (xs.length - 1):=Nat.pow_le_pow_right (by decide) (by omega)
     have h5:Z4.B4 ^ 1=10000:=by decide
     omega
    have hlt:xs.length≤1→Z4.val xs<10000:=fun h2=>by
     have h3:=Z4.aS g2
     have h4:Z4.B4 ^ xs.length=10000:=by rw [show xs.length=1 by omega];decide
     omega
    split at hh
    ·rename_i hc
     cases hh
     have:=hcm _ hc
     unfold aC at this
     rw [beq_iff_eq]
     split at this
     ·rcases Nat.lt_or_ge xs.length 2 with h6 | h6
      ·omega
      ·have:=hge h6;omega
     ·split at this <;> omega
    ·rename_i hc
     cases hh
     have:=hcm _ hc
     unfold aC at this
     rw [beq_eq_false_iff_ne]
     intro h7
     have:=hlt (by omega)
     rw [if_pos this] at *
     omega
    ·rename_i hc
     cases hh
     have:=hcm _ hc
     unfold aC at this
     rw [beq_eq_false_iff_ne]
     intro h7
     have:=hlt (by omega)
     rw [if_pos this] at *
     omega
    ·cases hh
   ·cases hh
  ·cases hh
 ·cases hh
theorem VH (ok:h.Ok β) {a:Nat} {m:Int} {x:Bool} (hh:Ed h db a m=some x) (hf:∀ f∈db,(SR β).on ρ f W):((ρ a).u == m)=x:=by
 unfold Ed at hh
 split at hh
 ·rename_i e hx
  have h1:(((ρ a).u:Int):Rat)=e.ev β:=hf _ (nI hx)
  split at hh
  ·rename_i he
   cases hh
   rw [kD ok he] at h1
   rw [beq_iff_eq]
   have h2:(((ρ a).u:Int):Rat)=((m:Int):Rat):=h1
   exact_mod_cast h2
  ·split at hh
   ·rename_i hn
    cases hh
    obtain ⟨p,hp,h2⟩:=List.any_eq_true.1 hn
    simp only [Bool.and_eq_true] at h2
    have:=ok.2.1 p hp
    rw [RE.beq_eq h2.1,RE.beq_eq h2.2,← h1] at this
    rw [beq_eq_false_iff_ne]
    intro h0
    exact this (by rw [h0];rfl)
   ·cases hh
 ·split at hh
  ·rename_i hm;subst hm;exact (J8 ok hh hf).2
  ·split at hh
   ·rename_i hm;subst hm;exact X6 ok hh hf
   ·cases hh
end
def Hr (h:Hint) (db:List Fd) (a a' b:Nat):Option (List Fd):=match nH db a,nH db a' with
 | some e,some e'=>if cmB h (.add e e') (.c 4611686018427387904)=some (-1) && cmB h (.c (-1)) (.add e e')=some (-1) then some [.i b (.add e e')] else none
 | _,_=>none
theorem Iy {a b:Rat} (h:aN a b = -1):a<b:=by
 unfold aN at h
 split at h
 ·assumption
 ·split at h <;> cases h
def HL (β:Nat→Rat) (h:Hint) (ok:h.Ok β):Tests (SR β) where
 eq:=fun db c d=>match c,d with
  | .oi a,.it .i64 m=>Ed h db a m
  | _,_=>none
 ok:=fun {fs c d x} hh ρ W hf=>by
  split at hh
  ·rename_i a m
   exact .inr ⟨.i64,(ρ a).u,m,rfl,rfl,VH ok hh hf⟩
  ·cases hh
 add:=Hr h
 addOk:=fun {db a a' b new} hh ρ W hf=>by
  unfold Hr at hh
  split at hh
  ·rename_i e e' h1 h2
   split at hh
   ·rename_i hc
    simp only [Bool.and_eq_true,decide_eq_true_eq] at hc
    cases hh
    have g1:(((ρ a).u:Int):Rat)=e.ev β:=hf _ (nI h1)
    have g2:(((ρ a').u:Int):Rat)=e'.ev β:=hf _ (nI h2)
    have hs:(((ρ a).u+(ρ a').u:Int):Rat)=(RE.add e e').ev β:=by rw [Rat.intCast_add,g1,g2];rfl
    have k1:=Iy (kZ ok hc.1)
    have k2:=Iy (kZ ok hc.2)
    rw [← hs] at k1 k2
    have l1:(ρ a).u+(ρ a').u<4611686018427387904:=Rat.intCast_lt_intCast.1 (show (((ρ a).u+(ρ a').u:Int):Rat)<((4611686018427387904:Int):Rat) from k1)
    have l2:-1<(ρ a).u+(ρ a').u:=Rat.intCast_lt_intCast.1 (show ((-1:Int):Rat)<(((ρ a).u+(ρ a').u:Int):Rat) from k2)
    refine ⟨by rw [IntKind.wrap_i64];omega,fun ρ' _ hu f hm=>?_⟩
    obtain rfl:=List.mem_singleton.1 hm
    show (((ρ' b).u:Int):Rat)=_
    rw [hu,hs]
   ·cases hh
  ·cases hh
 gt:=fun db c d=>match c,d with
  | .oi a,.it .i64 0=>(yX h db a).map (!·)
  | _,_=>none
 gok:=fun {fs c d x} hh ρ W hf=>by
  split at hh
  ·rename_i a
   obtain ⟨y,hy,rfl⟩:=Option.map_eq_some_iff.1 hh
   obtain ⟨h1,h2⟩:=J8 ok hy hf
   refine ⟨.i64,(ρ a).u,0,rfl,rfl,?_⟩
   rw [← h2]
   by_cases h0:(ρ a).u=0
   ·rw [h0];rfl
   ·rw [decide_eq_true (by omega),beq_eq_false_iff_ne.2 h0];rfl
  ·cases hh
section
variable (β:Nat→Rat) (h:Hint)
def CW:Con (SR β) where
 fn:=107
 app:=fun db b args=>match args with
  | [.e (.s x),.e (.s y)]=>match asG db x,asG db y with
   | some (e,k),some (e',k')=>if decide (k≤K1) && decide (k'≤K1) && nzB h e' then some (.t [.s (.os b),.s (.os (b+1))],[.l b (.flo (.div e e')) k,.l (b+1) (rem e e') k]) else none
   | _,_=>none
  | _=>none
def cf:List (Con (SR β)):=CW β h :: cz β h
end
section
variable {β:Nat→Rat} {h:Hint} {f:FuncId} {vals:Array Value} {W:World} {ρ:Env} {b:Nat}
theorem Py {n m:Nat} {e e':RE} {k:Nat} (hc:Calls Tryz.prog f vals W (Z4.wU W n m)) (hn:((n:Nat):Rat)=e.ev β) (hm:((m:Nat):Rat)=e'.ev β) (kn:n<B64 ^ k) (km:m<B64 ^ k) :
  Calls Tryz.prog f vals W (Anr β ρ b W (.t [.s (.os b),.s (.os (b+1))]) [.l b e k,.l (b+1) e' k]):=by
 refine hc.mono fun _ W' ⟨v,ds,u,es,he,hl,hd,ht,hv,gl,gd,gt,gv,hb⟩=>?_
 obtain ⟨p,l,c,rfl⟩:=hl.mk
 obtain ⟨p',l',c',rfl⟩:=gl.mk
 have h0:aF ρ b [⟨false,0,p,l,c,.empty,0,default⟩,⟨false,0,p',l',c',.empty,0,default⟩] b=⟨false,0,p,l,c,.empty,0,default⟩:=by simp [aF]
 have h1:aF ρ b [⟨false,0,p,l,c,.empty,0,default⟩,⟨false,0,p',l',c',.empty,0,default⟩] (b+1)=⟨false,0,p',l',c',.empty,0,default⟩:=by simp [aF]
 refine ⟨aF ρ b [⟨false,0,p,l,c,.empty,0,default⟩,⟨false,0,p',l',c',.empty,0,default⟩],fV (by simp [M]),?_,hb,fun g hg=>?_⟩
 ·rw [he];simp [SV.den,El.den,Cell.den,h0,h1]
 ·simp only [List.mem_cons,List.not_mem_nil,or_false] at hg
  rcases hg with rfl | rfl
  ·show IsG W' (.slice (aF ρ b _ b).p (aF ρ b _ b).l (aF ρ b _ b).c) _ _
   rw [h0]
   exact ⟨ds,hl.mono (Nat.zero_le _),hd,ht,by rw [hv];exact hn,by rw [hv];exact kn⟩
  ·show IsG W' (.slice (aF ρ b _ (b+1)).p (aF ρ b _ (b+1)).l (aF ρ b _ (b+1)).c) _ _
   rw [h1]
   exact ⟨es,gl.mono (Nat.zero_le _),gd,gt,by rw [gv];exact hm,by rw [gv];exact km⟩
theorem QG (ok:h.Ok β):(CW β h).Ok Tryz.prog (SR β) EV:=by
 refine Con.ok0 rfl ?_
 intro db b args res new ha ρ W hf hE
 simp only [CW] at ha
 split at ha
 ·split at ha
  ·rename_i x y _ _ e k e' k' hx hy
   split at ha
   ·rename_i hk
    simp only [Bool.and_eq_true,decide_eq_true_eq] at hk
    cases ha
    obtain ⟨xs,h1,h2,h3,h4,h5⟩:=kX hx hf
    obtain ⟨ys,g1,g2,g3,g4,g5⟩:=kX hy hf
    have hm:0<Z4.val ys:=by
     rcases Nat.eq_zero_or_pos (Z4.val ys) with h0 | h0
     ·exact absurd (by rw [← g4,h0];rfl) (lT ok hk.2)
     ·exact h0
    exact Py (e:=.flo (.div e e')) (e':=rem e e') (Z4.jw _ _ xs ys W h1 g1 h2 g2 g3 hm (Nat.le_trans (qm h3 h5) (by simp only [K1] at hk;omega)) (Nat.le_trans (qm g3 g5) (by simp only [K1] at hk;omega)))
     (FK hm h4 g4) (FQ hm h4 g4) (Nat.lt_of_le_of_lt (Nat.div_le_self _ _) h5) (Nat.lt_of_le_of_lt (Nat.mod_le _ _) h5)
   ·cases ha
  ·cases ha
 ·cases ha
theorem Qb (ok:h.Ok β):∀ c∈cf β h,c.Ok Tryz.prog (SR β) EV:=fun c hc=>by
 rcases List.mem_cons.1 hc with rfl | hc
 ·exact QG ok
 ·exact DL ok c hc
end
def asS (db:List Fd):List Cell→Option (Bool×RE)
 | [.bl t,c]=>match asG db c with
  | some (e,_)=>some (t,e)
  | none=>none
 | _=>none
def Eo (t:Bool) (e e':RE):Option (SV×List Fd)→Bool
 | some (.t [.a x,.a y],fs)=>match asS fs x,asS fs y with
  | some (t1,e1),some (false,e2)=>t1 == t && e1.beq e && e2.beq e'
  | _,_=>false
 | _=>false
theorem V8 {t:Bool} {e e':RE} {o:Option (SV×List Fd)} (h:Eo t e e' o=true):∃ x y fs,o=some (.t [.a x,.a y],fs)∧asS fs x=some (t,e)∧asS fs y=some (false,e'):=by
 unfold Eo at h
 split at h
 ·split at h
  ·rename_i x y fs _ _ t1 e1 e2 h1 h2
   simp only [Bool.and_eq_true,beq_iff_eq] at h
   exact ⟨x,y,fs,rfl,by rw [h1,h.1.1,RE.beq_eq h.1.2],by rw [h2,RE.beq_eq h.2]⟩
  ·cases h
 ·cases h
def Bg (w:World) (z z':Int) (e:Ending) (w':World):Prop:=∃ v v',e=.returned (.tuple #[v,v'])∧Z4.IsZ w' v z∧Z4.IsZ w' v' z'∧Below w.heap.size w w'
section
variable {a b:Int} {v1 v2:Value} {w:World}
theorem Ic {β:Nat→Rat} {ρ:Env} {W:World} {db:List Fd} {x:List Cell} {t:Bool} {e:RE} {z:Int} (h:asS db x=some (t,e)) (hf:∀ f∈db,(SR β).on ρ f W) (hz:∀ n:Nat,((n:Nat):Rat)=e.ev β→n=z.natAbs∧t=decide (z<0)):Z4.IsZ W (.agg (x.map (Cell.den ρ)).toArray) z:=by
 unfold asS at h
 split at h
 ·rename_i t' c
  split at h
  ·rename_i e' k hc
   cases h
   obtain ⟨xs,g1,g2,g3,g4,-⟩:=kX hc hf
   obtain ⟨h1,h2⟩:=hz _ g4
   obtain ⟨p,l,k,hp⟩:=g1.mk
   rw [hp] at g1
   exact ⟨p,l,k,xs,by rw [← h2];simp only [List.map_cons,List.map_nil,hp];rfl,g1,g2,g3,h1⟩
  ·cases h
 ·cases h
theorem FX {β:Nat→Rat} {h:Hint} (ok:h.Ok β) {fuel:Nat} {f:FuncId} {args:List SV} {fs:List Fd} {n0:Nat} {ρ:Env} {t:Bool} {e e':RE} {z z':Int} (hr:Eo t e e' (aV Tryz.prog (SR β) (HL β h ok) (cf β h) fuel f args fs n0)=true) (hE:EV w) (hf:∀ g∈fs,Fd.on β ρ g w)
  (hz:∀ n:Nat,((n:Nat):Rat)=e.ev β→n=z.natAbs∧t=decide (z<0)) (hz':∀ n:Nat,((n:Nat):Rat)=e'.ev β→n=z'.natAbs∧false=decide (z' < 0)):Calls Tryz.prog f (args.map (SV.den ρ)).toArray w (Bg w z z'):=by
 obtain ⟨x,y,fs',heq,hx,hy⟩:=V8 hr
 refine (fU mixed (Qb ok) heq (dU hE) hf).mono fun _ W' ⟨ρ',_,he,hb,hfs⟩=>?_
 exact ⟨_,_,he,Ic hx hfs hz,Ic hy hfs hz',hb⟩
abbrev xq:RE:=.flo (.div x0 x1)
abbrev xr:RE:=rem x0 x1
theorem ab5 (h1:Z4.IsZ w v1 a) (h2:Z4.IsZ w v2 b) (ka:a.natAbs<B64 ^ K1) (kb:b.natAbs<B64 ^ K1) (hb:0<b) (hE:EV w):Calls Tryz.prog 186 #[v1,v2] w (Bg w (a / b) (a % b)):=by
 refine Gm h1 h2 ka kb fun ρ hg=>?_
 obtain ⟨β,hβ⟩:∃ β,β=bet [((a.natAbs:Nat):Rat),((b.natAbs:Nat):Rat)]:=⟨_,rfl⟩
 have e0:((a.natAbs:Nat):Rat)=RE.ev β x0:=by rw [hβ];rfl
 have e1:((b.natAbs:Nat):Rat)=RE.ev β x1:=by rw [hβ];rfl
 rw [← hβ] at hg
 clear hβ
 obtain ⟨n,hn⟩:∃ n,a.natAbs=n:=⟨_,rfl⟩
 obtain ⟨m,hm⟩:∃ m,b.natAbs=m:=⟨_,rfl⟩
 rw [hn] at e0
 rw [hm] at e1
 have hm0:0<m:=by omega
 have hq:=FK hm0 e0 e1
 have hr:=FQ hm0 e0 e1
 have inj:∀ {x y:Nat},((x:Nat):Rat)=((y:Nat):Rat)→x=y:=fun h=>by exact_mod_cast h
 have hne:∀ {x:Nat},x≠0→((x:Nat):Rat)≠0:=fun h h0=>h (by exact_mod_cast h0)
 have hd:=Nat.div_add_mod n m
 have hlt:=Nat.mod_lt n hm0
 obtain ⟨q,hqe⟩:∃ q,n / m=q:=⟨_,rfl⟩
 obtain ⟨r,hre⟩:∃ r,n % m=r:=⟨_,rfl⟩
 rw [hqe] at hq hd
 rw [hre] at hr hd hlt
 have hdi:((n:Nat):Int)=(m:Int)*(q:Int)+(r:Int):=by exact_mod_cast hd.symm
 have nz1:RE.ev β x1≠0:=by rw [← e1];exact hne (by omega)
 have hbm:b=(m:Int):=by omega
 rw [decide_eq_false (show ¬ b<0 by omega),hbm]
 rcases Int.lt_or_le a 0 with ha | ha
 ·have han:a = -(n:Int):=by omega
  rw [decide_eq_true ha]
  by_cases h0:r=0
  ·have hp:0<q:=by
    rcases Nat.eq_zero_or_pos q with h | h
    ·rw [h,h0] at hd;omega
    ·exact h
   have ok:Hint.Ok β { nz:=[x1,xq],eq:=[(xr,.c 0)] }:=jg (fun p h=>by cases h) (fun p hp'=>by
    simp only [List.mem_cons,List.not_mem_nil,or_false] at hp'
    rcases hp' with rfl | rfl
    ·exact nz1
    ·rw [← hq];exact hne (by omega)) (fun p hp'=>by rw [List.mem_singleton] at hp';subst hp';rw [← hr,h0];rfl)
   have e:a / (m:Int) = -(q:Int)∧a % (m:Int)=0:=by
    have h3:a=(m:Int) * -(q:Int):=by rw [han,hdi,h0];grind
    rw [h3]
    exact ⟨Int.mul_ediv_cancel_left _ (by omega),Int.mul_emod_right _ _⟩
   rw [e.1,e.2]
   refine FX (t:=true) (e:=xq) (e':=.c 0) ok (fuel:=1) (n0:=2) (by kernel_rfl) hE hg (fun x hx=>?_) fun x hx=>?_
   ·have:=inj (hx.trans hq.symm)
    exact ⟨by omega,(decide_eq_true (by omega)).symm⟩
   ·have:x=0:=inj (hx.trans rfl)
    exact ⟨by omega,rfl⟩
  ·have ok:Hint.Ok β { cm:=[(x1,xr,1)],nz:=[x1,xr,.add xq (.c 1)] }:=jg (fun p hp=>by
    rw [List.mem_singleton] at hp;subst hp
    show aN (RE.ev β x1) (RE.ev β xr)=1
    rw [← e1,← hr,rG];unfold aC;rw [if_neg (by omega),if_neg (by omega)]) (fun p hp'=>by
    simp only [List.mem_cons,List.not_mem_nil,or_false] at hp'
    rcases hp' with rfl | rfl | rfl
    ·exact nz1
    ·rw [← hr];exact hne h0
    ·show RE.ev β xq+((1:Int):Rat)≠0
     rw [← hq,show ((1:Int):Rat)=((1:Nat):Rat) from rfl,← Rat.natCast_add];exact hne (by omega)) (fun p h=>by cases h)
   have e:a / (m:Int) = -((q+1:Nat):Int)∧a % (m:Int)=((m - r:Nat):Int):=by
    have h5:((m - r:Nat):Int)=(m:Int) - (r:Int):=by omega
    have h6:((q+1:Nat):Int)=(q:Int)+1:=by omega
    have h3:a=((m - r:Nat):Int)+(m:Int) * -((q+1:Nat):Int):=by
     rw [han,hdi,h5,h6]
     grind
    rw [h3,Int.add_mul_ediv_left _ _ (by omega),Int.add_mul_emod_self_left]
    rw [Int.ediv_eq_zero_of_lt (by omega) (by omega),Int.emod_eq_of_lt (by omega) (by omega)]
    exact ⟨by omega,rfl⟩
   rw [e.1,e.2]
   refine FX (t:=true) (e:=.add xq (.c 1)) (e':=.sub x1 xr) ok (fuel:=1) (n0:=2) (by kernel_rfl) hE hg (fun x hx=>?_) fun x hx=>?_
   ·have:x=q+1:=inj (by rw [hx,Rat.natCast_add,hq];rfl)
    exact ⟨by omega,(decide_eq_true (by omega)).symm⟩
   ·have:x=m - r:=by
     have h5:((x:Nat):Rat)=((m:Nat):Rat) - ((r:Nat):Rat):=by rw [hx,hr,e1];rfl
     have:=qB h5
     omega
    exact ⟨by omega,(decide_eq_false (by omega)).symm⟩
 ·have han:a=(n:Int):=by omega
  rw [decide_eq_false (show ¬ a<0 by omega)]
  have ok:Hint.Ok β { nz:=[x1] }:=jg (fun p h=>by cases h) (fun p hp=>by rw [List.mem_singleton] at hp;subst hp;exact nz1) (fun p h=>by cases h)
  rw [han,← Int.natCast_ediv,← Int.natCast_emod,hqe,hre]
  refine FX (t:=false) (e:=xq) (e':=xr) ok (fuel:=1) (n0:=2) (by kernel_rfl) hE hg (fun x hx=>?_) fun x hx=>?_
  ·have:=inj (hx.trans hq.symm)
   exact ⟨by omega,(decide_eq_false (by omega)).symm⟩
  ·have:=inj (hx.trans hr.symm)
   exact ⟨by omega,(decide_eq_false (by omega)).symm⟩
end
end Rx
namespace Rx
open Go.RowKit
section
variable (β:Nat→Rat) (h:Hint)
def Dt:Con (SR β) where
 fn:=186
 app:=fun db b args=>match args with
  | [.e (.a x),.e (.a y)]=>match asY db x,asY db y with
   | some (e,k),some (e',k')=>if decide (k≤K1) && decide (k'≤K1) && jA e' then some (.t [.a (zC b),.a (zC (b+1))],[.z b (.flo (.div e e')) k,.z (b+1) (rem e e') k']) else none
   | _,_=>none
  | _=>none
end
def yT (e:RE):Option (SV×List Fd)→Bool
 | some (.e (.a cs),fs)=>match asY fs cs with
  | some (e',_)=>e'.beq e
  | none=>false
 | _=>false
theorem J3 {e:RE} {o:Option (SV×List Fd)} (h:yT e o=true):∃ cs fs k,o=some (.e (.a cs),fs)∧asY fs cs=some (e,k):=by
 unfold yT at h
 split at h
 ·split at h
  ·rename_i cs fs _ e' k ha;exact ⟨cs,fs,k,rfl,by rw [ha,RE.beq_eq h]⟩
  ·cases h
 ·cases h
section
variable {β:Nat→Rat} {h:Hint} {f:FuncId} {vals:Array Value} {W:World} {ρ:Env} {b:Nat}
theorem ZT {ok:h.Ok β} {cons:List (Con (SR β))} {fuel:Nat} {args:List SV} {fs:List Fd} {n0:Nat} {e:RE} {z:Int} (hc:∀ c∈cons,c.Ok Tryz.prog (SR β) EV) (hr:yT e (aV Tryz.prog (SR β) (HL β h ok) cons fuel f args fs n0)=true) (he:e.ev β=(z:Rat)) (hE:EV W) (hf:∀ g∈fs,Fd.on β ρ g W):Calls Tryz.prog f (args.map (SV.den ρ)).toArray W (Z4.dB W z):=by
 obtain ⟨cs,fs',k,heq,ha⟩:=J3 hr
 refine (fU mixed hc heq (dU hE) hf).mono fun x W' ⟨ρ',_,hx,hb,hfs⟩=>?_
 exact ⟨_,hx,lM (iV ha hfs) he,hb⟩
theorem PD {z z':Int} {e e':RE} {k k':Nat} (hc:Calls Tryz.prog f vals W (Bg W z z')) (hz:(z:Rat)=e.ev β) (hz':(z':Rat)=e'.ev β) (hk:z.natAbs<B64 ^ k) (hk':z'.natAbs<B64 ^ k'):Calls Tryz.prog f vals W (Anr β ρ b W (.t [.a (zC b),.a (zC (b+1))]) [.z b e k,.z (b+1) e' k']):=by
 refine hc.mono fun _ W' ⟨v,v',he,hv,hv',hb⟩=>?_
 obtain ⟨p,l,c,xs,rfl,hx⟩:=hv
 obtain ⟨p',l',c',xs',rfl,hx'⟩:=hv'
 have h1:(zC b).map (Cell.den (aF ρ b [⟨decide (z<0),0,p,l,c,.empty,0,default⟩,⟨decide (z' < 0),0,p',l',c',.empty,0,default⟩]))=[.bool (decide (z<0)),.slice p l c]:=by simp [zC,Cell.den,aF]
 have h2:(zC (b+1)).map (Cell.den (aF ρ b [⟨decide (z<0),0,p,l,c,.empty,0,default⟩,⟨decide (z' < 0),0,p',l',c',.empty,0,default⟩]))=[.bool (decide (z' < 0)),.slice p' l' c']:=by simp [zC,Cell.den,aF]
 refine ⟨_,fV (b:=b) (L:=[⟨decide (z<0),0,p,l,c,.empty,0,default⟩,⟨decide (z' < 0),0,p',l',c',.empty,0,default⟩]) (by simp [M]),?_,hb,fun g hg=>?_⟩
 ·rw [he];simp only [SV.den,El.den,List.map_cons,List.map_nil,h1,h2]
 ·simp only [List.mem_cons,List.not_mem_nil,or_false] at hg
  rcases hg with rfl | rfl
  ·exact ⟨z,by rw [h1];exact ⟨p,l,c,xs,rfl,hx⟩,hz,hk⟩
  ·exact ⟨z',by rw [h2];exact ⟨p',l',c',xs',rfl,hx'⟩,hz',hk'⟩
theorem YO (a:Int) (m:Nat) (hm:0<m):(a / (m:Int)).natAbs≤a.natAbs:=by
 have h1:=Int.mul_ediv_add_emod a m
 have h2:=Int.emod_nonneg a (show (m:Int)≠0 by omega)
 have h3:=Int.emod_lt_of_pos a (show (0:Int)<m by omega)
 rcases Int.lt_or_le a 0 with ha | ha
 ·have:a≤a / (m:Int):=by
   rw [Int.le_ediv_iff_mul_le (by omega)]
   have:a*(m:Int)≤a*1:=Int.mul_le_mul_of_nonpos_left (by omega) (by omega)
   omega
  have:a / (m:Int)<0:=Int.ediv_neg_of_neg_of_pos ha (by omega)
  omega
 ·have h4:a / (m:Int)≤a:=Int.ediv_le_self _ ha
  have:0≤a / (m:Int):=Int.ediv_nonneg ha (by omega)
  omega
theorem QW:(Dt β).Ok Tryz.prog (SR β) EV:=by
 have pk:∀ {k:Nat},k≤K1→B64 ^ k≤B64 ^ K1:=fun h=>Nat.pow_le_pow_right (show 0<B64 by decide) h
 refine Con.ok0 rfl ?_
 intro db b args res new ha ρ W hf hE
 simp only [Dt] at ha
 split at ha
 ·split at ha
  ·rename_i x y _ _ e k e' k' hx hy
   split at ha
   ·rename_i hk
    simp only [Bool.and_eq_true,decide_eq_true_eq] at hk
    cases ha
    obtain ⟨z,h1,h2,h3⟩:=iV hx hf
    obtain ⟨z',g1,g2,g3⟩:=iV hy hf
    have hp:0<z':=by
     have:=vS (β:=β) hk.2
     rw [← g2] at this
     exact_mod_cast this
    obtain ⟨m,rfl⟩:∃ m:Nat,z' = (m:Int):=⟨z'.toNat,by omega⟩
    have hq:((z / (m:Int):Int):Rat)=(RE.flo (.div e e')).ev β:=by
     show _=((flo (e.ev β / e'.ev β):Int):Rat)
     rw [← h2,← g2,D9 _ _ (by omega)]
    refine PD (e:=.flo (.div e e')) (e':=rem e e') (ab5 h1 g1 (Nat.lt_of_lt_of_le h3 (pk hk.1.1)) (Nat.lt_of_lt_of_le g3 (pk hk.1.2)) hp hE) hq ?_ (Nat.lt_of_le_of_lt (YO _ _ (by omega)) h3) ?_
    ·show _=e.ev β - e'.ev β*(RE.flo (.div e e')).ev β
     rw [← hq,← h2,← g2,← Rat.intCast_mul]
     have h5:=congrArg (fun x:Int=>(x:Rat)) (Int.mul_ediv_add_emod z m)
     simp only [Rat.intCast_add] at h5
     grind
    ·have h6:=Int.emod_nonneg z (show (m:Int)≠0 by omega)
     have h7:=Int.emod_lt_of_pos z (show (0:Int)<m by omega)
     omega
   ·cases ha
  ·cases ha
 ·cases ha
theorem abj {x y:Int} {v v':Value} (h1:Z4.IsZ W v x) (h2:Z4.IsZ W v' y) (ka:x.natAbs<B64 ^ K2) (kb:y.natAbs<B64 ^ K2) (hE:EV W):Calls Tryz.prog 185 #[v,v'] W (Z4.dB W (x - y)):=by
 obtain ⟨p,l,c,xs,rfl,hx⟩:=h1
 obtain ⟨p',l',c',xs',rfl,hx'⟩:=h2
 exact ZT (W:=W) (β:=bet [(x:Rat),(y:Rat)]) (ok:=fQ _) (ρ:=ev [⟨decide (x<0),0,p,l,c,.empty,0,default⟩,⟨decide (y<0),0,p',l',c',.empty,0,default⟩]) (args:=[.e (.a (zC 0)),.e (.a (zC 1))]) (fs:=[.z 0 (.v 0) K2,.z 1 (.v 1) K2]) (e:=.add (.v 0) (.neg (.v 1))) (fuel:=1) (n0:=2) (iW (fQ _)) (by kernel_rfl)
  (by show (x:Rat) + -(y:Rat)=_;rw [Rat.intCast_sub,Rat.sub_eq_add_neg]) hE fun g hg=>by
  simp only [List.mem_cons,List.not_mem_nil,or_false] at hg
  rcases hg with rfl | rfl
  ·exact ⟨x,⟨p,l,c,xs,rfl,hx⟩,rfl,ka⟩
  ·exact ⟨y,⟨p',l',c',xs',rfl,hx'⟩,rfl,kb⟩
end
def Dx (β:Nat→Rat):Con (SR β) where
 fn:=185
 app:=fun db b args=>match args with
  | [.e (.a x),.e (.a y)]=>match asY db x,asY db y with
   | some (e,k),some (e',k')=>if decide (k≤K2) && decide (k'≤K2) then some (.e (.a (zC b)),[.z b (.sub e e') (max k k' + 1)]) else none
   | _,_=>none
  | _=>none
theorem QZ {β:Nat→Rat}:(Dx β).Ok Tryz.prog (SR β) EV:=by
 have pk:∀ {k k':Nat},k≤k'→B64 ^ k≤B64 ^ k':=fun h=>Nat.pow_le_pow_right (show 0<B64 by decide) h
 refine Con.ok0 rfl ?_
 intro db b args res new ha ρ W hf hE
 simp only [Dx] at ha
 split at ha
 ·split at ha
  ·rename_i x y _ _ e k e' k' hx hy
   split at ha
   ·rename_i hk
    simp only [Bool.and_eq_true,decide_eq_true_eq] at hk
    cases ha
    obtain ⟨z,h1,h2,h3⟩:=iV hx hf
    obtain ⟨z',g1,g2,g3⟩:=iV hy hf
    refine BG (e:=.sub e e') (abj h1 g1 (Nat.lt_of_lt_of_le h3 (pk hk.1)) (Nat.lt_of_lt_of_le g3 (pk hk.2)) hE) (by rw [Rat.intCast_sub,h2,g2];rfl) ?_
    have a1:=pk (Nat.le_max_left k k')
    have a2:=pk (Nat.le_max_right k k')
    rw [Nat.pow_succ]
    have:B64 ^ max k k' * 2≤B64 ^ max k k' * B64:=Nat.mul_le_mul_left _ (by decide)
    omega
   ·cases ha
  ·cases ha
 ·cases ha
end Rx
namespace Rx
open Go.RowKit
def Cell.eqB:Cell→Cell→Bool
 | .bl a,.bl b=>a == b
 | .it k n,.it k' n'=>decide (k=k') && decide (n=n')
 | .st s,.st t=>decide (s=t)
 | .nils,.nils=>true
 | .ob a,.ob b | .ou a,.ou b | .oi a,.oi b | .o8 a,.o8 b | .os a,.os b | .ot a,.ot b=>a == b
 | .ptr k o,.ptr k' o' | .elp k o,.elp k' o'=>k == k' && o == o'
 | .elv n i z,.elv n' i' z'=>n == n' && i == i' && z == z'
 | _,_=>false
theorem Cell.eqB_eq {a b:Cell} (h:a.eqB b=true):a=b:=by
 cases a <;> cases b <;> simp_all [Cell.eqB]
def Cell.fit (m:Nat→Option Nat):Cell→Option Cell
 | .ob n=>some (match m n with | some k=>.ob k | none=>.bl false)
 | .ou n=>some (match m n with | some k=>.ou k | none=>.it .u64 0)
 | .oi n=>some (match m n with | some k=>.oi k | none=>.it .i64 0)
 | .os n=>some (match m n with | some k=>.os k | none=>.nils)
 | .ptr n o=>(m n).map fun k=>.ptr k o
 | .bl b=>some (.bl b)
 | .it k n=>some (.it k n)
 | .nils=>some .nils
 | _=>none
def jP (m:Nat→Option Nat) (ρ:Env):Env:=fun n=>match m n with
 | some k=>ρ k
 | none=>⟨false,0,none,0,0,.empty,0,default⟩
theorem TW {m:Nat→Option Nat} (ρ:Env) {c d:Cell} (h:c.fit m=some d):d.den ρ=c.den (jP m ρ):=by
 cases c with
 | ob n | ou n | oi n | os n =>
  simp only [Cell.fit,Option.some.injEq] at h
  subst h
  simp only [Cell.den,jP]
  cases m n <;> rfl
 | ptr n o =>
  simp only [Cell.fit,Option.map_eq_some_iff] at h
  obtain ⟨k,h1,rfl⟩:=h
  simp only [Cell.den,jP,h1]
 | bl b=>cases h;rfl
 | it k n=>cases h;rfl
 | nils=>cases h;rfl
 | _=>cases h
def yt (m:Nat→Option Nat) (c d:Cell):Bool:=match c.fit m with
 | some e=>e.eqB d
 | none=>false
theorem Jk {m:Nat→Option Nat} (ρ:Env) {c d:Cell} (h:yt m c d=true):d.den ρ=c.den (jP m ρ):=by
 unfold yt at h
 split at h
 ·rename_i e he
  rw [← Cell.eqB_eq h]
  exact TW ρ he
 ·cases h
def pX (m:Nat→Option Nat):List Cell→List Cell→Bool
 | [],[]=>true
 | a :: r,b :: s=>yt m a b && pX m r s
 | _,_=>false
theorem Jl {m:Nat→Option Nat} (ρ:Env):∀ {a b:List Cell},pX m a b=true→b.map (Cell.den ρ)=a.map (Cell.den (jP m ρ))
 | [],[],_=>rfl
 | a :: r,b :: s,h=>by
  simp only [pX,Bool.and_eq_true] at h
  simp only [List.map_cons]
  rw [Jk ρ h.1,Jl ρ h.2]
 | [],_ :: _,h=>by simp [pX] at h
 | _ :: _,[],h=>by simp [pX] at h
abbrev Pat:=List (Option Cell)
def fD:Pat→(Nat→Value)→Nat→List SV
 | [],_,_=>[]
 | none :: p,u,i=>.o (u i) :: fD p u (i+1)
 | some c :: p,u,i=>.e (.s c) :: fD p u (i+1)
def dH (m:Nat→Option Nat):Pat→List SV→Bool
 | [],[]=>true
 | none :: p,_ :: r=>dH m p r
 | some c :: p,.e (.s d) :: r=>yt m c d && dH m p r
 | _,_=>false
def bxB (m:Nat→Option Nat) (bx0 bx:List (Nat×TypeId×List Cell)):Bool:=
 bx0.all fun x=>(match m x.1 with
  | some k=>(match lk bx k with
   | some (T,cs)=>decide (T=x.2.1) && pX m x.2.2 cs && bx0.all fun y=>x.1 == y.1 || !(decide (m y.1=some k))
   | none=>false)
  | none=>false)
theorem Ey:∀ (p:Pat) (u:Nat→Value) (i:Nat),(fD p u i).length=p.length
 | [],_,_=>rfl
 | none :: p,u,i=>by simp [fD,Ey p u]
 | some c :: p,u,i=>by simp [fD,Ey p u]
theorem Fh {m:Nat→Option Nat}:∀ {p:Pat} {r:List SV},dH m p r=true→p.length=r.length
 | [],[],_=>rfl
 | none :: p,_ :: r,h=>by simp only [List.length_cons];rw [Fh (p:=p) (r:=r) h]
 | some c :: p,.e (.s d) :: r,h=>by
  simp only [dH,Bool.and_eq_true] at h
  simp only [List.length_cons]
  rw [Fh h.2]
 | [],_ :: _,h=>by simp [dH] at h
 | none :: _,[],h=>by simp [dH] at h
 | some _ :: _,[],h=>by simp [dH] at h
 | some _ :: _,.t _ :: _,h=>by simp [dH] at h
 | some _ :: _,.und :: _,h=>by simp [dH] at h
 | some _ :: _,.o _ :: _,h=>by simp [dH] at h
 | some _ :: _,.e (.a _) :: _,h=>by simp [dH] at h
theorem Fj {m:Nat→Option Nat} {ρ:Env} {u:Nat→Value}:∀ {p:Pat} {r:List SV} {i:Nat},dH m p r=true→(∀ t,u (i+t)=(r.getD t .und).den ρ)→∀ t,u (i+t)=((fD p u i).getD t .und).den (jP m ρ)
 | [],[],i,_,hu,t=>by simpa [fD,SV.den] using hu t
 | none :: p,x :: r,i,h,hu,t=>by
  cases t with
  | zero=>rfl
  | succ t =>
   have:=Fj (p:=p) (r:=r) (i:=i+1) h (fun t=>by have:=hu (t+1);rwa [show i+(t+1)=i+1+t by omega] at this) t
   rw [show i+(t+1)=i+1+t by omega]
   exact this
 | some c :: p,.e (.s d) :: r,i,h,hu,t=>by
  simp only [dH,Bool.and_eq_true] at h
  cases t with
  | zero =>
   exact (hu 0).trans (Jk ρ h.1)
  | succ t =>
   have:=Fj (p:=p) (r:=r) (i:=i+1) h.2 (fun t=>by have:=hu (t+1);rwa [show i+(t+1)=i+1+t by omega] at this) t
   rw [show i+(t+1)=i+1+t by omega]
   exact this
 | [],_ :: _,_,h,_,_=>by simp [dH] at h
 | none :: _,[],_,h,_,_=>by simp [dH] at h
 | some _ :: _,[],_,h,_,_=>by simp [dH] at h
 | some _ :: _,.t _ :: _,_,h,_,_=>by simp [dH] at h
 | some _ :: _,.und :: _,_,h,_,_=>by simp [dH] at h
 | some _ :: _,.o _ :: _,_,h,_,_=>by simp [dH] at h
 | some _ :: _,.e (.a _) :: _,_,h,_,_=>by simp [dH] at h
theorem yY {k:Nat} {x:TypeId×List Cell}:∀ {bx:List (Nat×TypeId×List Cell)},lk bx k=some x→(k,x)∈bx
 | [],h=>by simp [lk] at h
 | (k',y) :: r,h=>by
  simp only [lk] at h
  split at h
  ·rename_i e;cases h;subst e;simp
  ·exact List.mem_cons_of_mem _ (yY h)
theorem FP {S S':Sys} {σ:State S} {p:Pat} {bx0:List (Nat×TypeId×List Cell)} {fs:List S'.F} {base:Nat} {m:Nat→Option Nat} {w0 W:World} {ρ:Env} {a:Act} (hp:dH m p σ.regs=true) (hb:bxB m bx0 σ.bx=true)
  (hs:σ.Says w0 ρ a W) (hf:∀ f∈fs,S'.on (jP m ρ) f W):State.Says (S:=S') ⟨fD p (fun t=>a.tmps.getD t undef) 0,bx0,fs,base⟩ w0 (jP m ρ) a W:=by
 have hb':∀ k T cs,lk bx0 k=some (T,cs)→∃ j cs',m k=some j∧lk σ.bx j=some (T,cs')∧pX m cs cs' = true∧∀ k' x',lk bx0 k' = some x'→k≠k'→m k'≠some j:=fun k T cs h=>by
  have h1:=List.all_eq_true.1 hb _ (yY h)
  split at h1
  ·rename_i j hj
   split at h1
   ·rename_i T' cs' hl
    simp only [Bool.and_eq_true,decide_eq_true_eq] at h1
    refine ⟨j,cs',hj,by rw [hl,h1.1.1],h1.1.2,fun k' x' h' hne he=>?_⟩
    have h2:=List.all_eq_true.1 h1.2 _ (yY h')
    simp [hne,he] at h2
   ·cases h1
  ·cases h1
 refine ⟨?_,hs.df,fun t=>?_,hs.bel,fun k T cs h=>?_,fun k k' x x' h h' hne=>?_,hf⟩
 ·rw [hs.sz,← Fh hp];exact (Ey _ _ _).symm
 ·have:=Fj (u:=fun t=>a.tmps.getD t undef) (i:=0) hp (fun t=>by rw [Nat.zero_add];exact hs.rg t) t
  rwa [Nat.zero_add] at this
 ·obtain ⟨j,cs',hj,hl,hft,-⟩:=hb' k T cs h
  obtain ⟨h1,h2⟩:=hs.bx _ _ _ hl
  rw [Jl ρ hft] at h2
  simp only [jP,hj] at h2 ⊢
  exact ⟨h1,h2⟩
 ·obtain ⟨j,cs,hj,hl,-,hne'⟩:=hb' k x.1 x.2 h
  obtain ⟨j',cs',hj',hl',-,-⟩:=hb' k' x'.1 x'.2 h'
  have:=hs.inj _ _ _ _ hl hl' (fun e=>hne' k' x' h' hne (by rw [hj',e]))
  simpa only [jP,hj,hj'] using this
def okR {S:Sys} (eqF:S.F→S.F→Bool) (p:Pat) (bx:List (Nat×TypeId×List Cell)) (m:Nat→Option Nat) (need:List S.F):Option (Ex×State S)→Bool
 | some (.normal,σ)=>dH m p σ.regs && bxB m bx σ.bx && need.all fun f=>σ.fs.any (eqF f)
 | _=>false
theorem KT {S:Sys} {eqF:S.F→S.F→Bool} (hq:∀ a b,eqF a b=true→a=b) {p:Pat} {bx:List (Nat×TypeId×List Cell)} {m:Nat→Option Nat} {need:List S.F} {o:Option (Ex×State S)} (h:okR eqF p bx m need o=true) :
  ∃ σ,o=some (.normal,σ)∧dH m p σ.regs=true∧bxB m bx σ.bx=true∧∀ f∈need,f∈σ.fs:=by
 unfold okR at h
 split at h
 ·rename_i σ
  simp only [Bool.and_eq_true,List.all_eq_true] at h
  refine ⟨σ,rfl,h.1.1,h.1.2,fun f hf=>?_⟩
  obtain ⟨g,hg,he⟩:=List.any_eq_true.1 (h.2 f hf)
  rw [hq f g he]
  exact hg
 ·cases h
def wfB (S:Sys) (p:Pat) (bx:List (Nat×TypeId×List Cell)) (fs:List S.F) (base:Nat):Bool:=
 p.all (fun o=>match o with
  | some c=>c.nm.all (· < base)
  | none=>true) && bx.all (fun x=>decide (x.1<base) && (x.2.2.flatMap Cell.nm).all (· < base)) && fs.all fun f=>(S.nm f).all (· < base)
theorem Ez {n:Nat}:∀ {p:Pat} {u:Nat→Value} {i t:Nat},n∈((fD p u i).getD t .und).nm→∃ c,some c∈p∧n∈c.nm
 | [],u,i,t,h=>by simp [fD,SV.nm] at h
 | none :: p,u,i,0,h=>by simp [fD,SV.nm] at h
 | none :: p,u,i,t+1,h=>by
  obtain ⟨c,h1,h2⟩:=Ez (p:=p) (u:=u) (i:=i+1) (t:=t) h
  exact ⟨c,by simp [h1],h2⟩
 | some c :: p,u,i,0,h=>⟨c,by simp,by simpa [fD,SV.nm,El.cells] using h⟩
 | some c :: p,u,i,t+1,h=>by
  obtain ⟨c',h1,h2⟩:=Ez (p:=p) (u:=u) (i:=i+1) (t:=t) h
  exact ⟨c',by simp [h1],h2⟩
theorem Oa {S:Sys} {p:Pat} {bx:List (Nat×TypeId×List Cell)} {fs:List S.F} {base:Nat} (h:wfB S p bx fs base=true) (u:Nat→Value):Wf (S:=S) ⟨fD p u 0,bx,fs,base⟩:=by
 unfold wfB at h
 simp only [Bool.and_eq_true,List.all_eq_true,decide_eq_true_eq] at h
 refine ⟨fun t n hn=>?_,fun k T cs hk=>h.1.2 _ (yY hk),fun f hf n hn=>h.2 f hf n hn⟩
 obtain ⟨c,h1,h2⟩:=Ez hn
 exact of_decide_eq_true (List.all_eq_true.1 (h.1.1 _ h1) n h2)
section
variable (P:Program) (S:Sys) (H:Tests S) (cons:List (Con S))
def Ac:List Code→State S→Option (Ex×State S)
 | [],σ=>some (.normal,σ)
 | c :: r,σ=>match exec P S H cons 1 c σ with
  | some (.normal,σ')=>Ac r σ'
  | _=>none
def DV (B rest:Code) (fn:Func) (σ:State S):Option (SV×List S.F):=match exec P S H cons 1 B σ with
 | some (.exit 0,σ1)=>match exec P S H cons 1 rest σ1 with
  | some (.ret,σ2)=>match kK P S σ2 fn.results.toList with
   | some l=>some (kJ l,σ2.fs)
   | none=>none
  | _=>none
 | _=>none
end
section
variable {P:Program} {Sj:Nat→Sys} {eqF:∀ j,(Sj j).F→(Sj j).F→Bool} {Hj:∀ j,Tests (Sj j)} {cj:∀ j,List (Con (Sj j))} {E:World→Prop}
theorem ZU {S:Sys} {args:List SV} {fs:List S.F} {b N:Nat} {ρ:Env} {w:World} (hf:∀ f∈fs,S.on ρ f w) :
  State.Says (S:=S) ⟨args ++ List.replicate (N - args.length) .und,[],fs,b⟩ w ρ { tmps:=(args.map (SV.den ρ)).toArray ++ Array.replicate (N - (args.map (SV.den ρ)).toArray.size) undef,defers:=[] } w:=by
 refine ⟨by simp,rfl,fun t=>?_,Below.refl _ _,fun k T cs h=>by simp [lk] at h,fun k k' x x' h=>by simp [lk] at h,hf⟩
 simp only [List.getD,Array.getD_eq_getD_getElem?,Array.getElem?_append,List.getElem?_toArray,List.getElem?_append,List.getElem?_map,List.size_toArray,List.length_map,Array.getElem?_replicate,List.getElem?_replicate]
 split
 ·rename_i ht
  simp [List.getElem?_eq_getElem ht]
 ·split <;> rfl
theorem aaT {S:Sys} {args:List SV} {fs:List S.F} {b N:Nat} (hok:tV S args fs b=true):Wf (S:=S) ⟨args ++ List.replicate (N - args.length) .und,[],fs,b⟩:=by
 unfold tV at hok
 simp only [Bool.and_eq_true,List.all_eq_true,decide_eq_true_eq] at hok
 refine ⟨fun t n hn=>?_,fun k T cs h=>by simp [lk] at h,fun f hf n hn=>hok.2 f hf n hn⟩
 simp only [List.getD] at hn
 rcases Nat.lt_or_ge t args.length with ht | ht
 ·rw [List.getElem?_append_left ht,List.getElem?_eq_getElem ht,Option.getD_some] at hn
  exact hok.1 _ (List.getElem_mem ht) n hn
 ·rw [List.getElem?_append_right ht] at hn
  cases hg:(List.replicate (N - args.length) SV.und)[t - args.length]? with
  | none=>rw [hg] at hn;simp [SV.nm] at hn
  | some x =>
   rw [hg,Option.getD_some] at hn
   have:=List.eq_of_mem_replicate (List.mem_of_getElem? hg)
   subst this
   simp [SV.nm] at hn
end
end Rx
namespace Z4
open Go.RowKit Go.Sort Go.Lib
theorem GH (z:Int) (v:Value) (w:World) (h:IsZ w v z) (k:Nat) (hk:k≤1073741824) (ka:z.natAbs<B64 ^ k):Calls Tryz.prog 105 #[v] w (gB w (iC z)):=by
 obtain ⟨p,l,c,xs,rfl,hl,dx,tx,hv⟩:=h
 have hlen:=hl.len
 rcases Nat.eq_zero_or_pos xs.length with h0 | h0
 ·have hz:=(oJ dx tx).1 h0
  have e0:z=0:=by omega
  have el:l=0:=by omega
  subst e0;subst el
  have:=Ox (decide ((0:Int)<0)) p c w
  rwa [show iC 0=[48] by unfold iC;rw [if_neg (by decide),decDigits];rfl]
 ·have hz:0<val xs:=by
   rcases Nat.eq_zero_or_pos (val xs) with h | h
   ·have:=(oJ dx tx).2 h;omega
   ·exact h
  have hle:xs.length≤5*k:=cO tx (Nat.lt_of_lt_of_le (by rw [hv];exact ka) (by rw [Nat.pow_mul];exact Nat.pow_le_pow_left (by decide) k))
  rcases hl with ⟨he,rfl⟩ | ⟨b,o,k',he,-,hb,-,hi⟩
  ·simp at h0
  ·injection he with e1 e2 e3
   subst e1;subst e2;subst e3
   have:=abk (decide (z<0)) b o c xs w hb hi dx hz (by omega)
   rw [hv] at this
   unfold iC
   by_cases hz0:z<0
   ·rw [decide_eq_true hz0] at this ⊢
    rw [if_pos rfl] at this
    rw [if_pos hz0];exact this
   ·rw [decide_eq_false hz0] at this ⊢
    rw [if_neg (by decide)] at this
    rw [if_neg hz0];exact this
theorem IV (n:Nat):decDigits n=[49]↔n=1:=by
 constructor
 ·intro h
  by_cases h10:n<10
  ·rw [decDigits,dif_pos h10] at h
   have h1:UInt8.ofNat (48+n)=49:=by simpa using h
   have h2:=congrArg UInt8.toNat h1
   rw [UInt8.toNat_ofNat'] at h2
   have:(49:UInt8).toNat=49:=rfl
   omega
  ·rw [decDigits,dif_neg h10] at h
   have h1:=congrArg List.length h
   rw [List.length_append] at h1
   obtain ⟨x,r,h2,-⟩:=IU (n:=n / 10) (by omega)
   rw [h2] at h1
   simp at h1
 ·rintro rfl;rw [decDigits];rfl
theorem Zz (r:Rat):iH r=if decDigits r.den=[49] then iC r.num else iC r.num ++ (47 :: iC (r.den:Int)):=by
 unfold iH iC
 rw [if_neg (show ¬ ((r.den:Int)<0) by omega),List.nil_append,Int.natAbs_natCast]
 by_cases h:r.den=1
 ·rw [if_pos h,if_pos ((IV _).2 h),List.append_nil]
 ·rw [if_neg h,if_neg (fun e=>h ((IV _).1 e))]
theorem Zy (r:Rat) (v:Value) (w:World) (h:IsR w v r) (k:Nat) (hk:k≤1073741824) (hf:Fits k r):Calls Tryz.prog 68 #[v] w (gB w (iH r)):=by
 obtain ⟨t1,p1,l1,k1,r1,s1,u1,rfl⟩:=h.open
 have HN:=hid (fun (W:World) (a:IsZ W (.agg #[.bool t1,.slice p1 l1 k1]) r.num)=>GH _ _ W a k hk hf.1)
 have HM:=hid (fun (W:World) (v:Value) (a:IsZ W v (r.den:Int))=>GH _ v W a k hk (by rw [Int.natAbs_natCast];exact hf.2))
 have HD:=hid (fun (W:World) (a:IsZ W (.agg #[.bool t1,.slice p1 l1 k1]) r.num) (b:IsZ W (.agg #[.bool false,.slice r1 s1 u1]) (r.den:Int))=>uX r _ W (.mk2 a b))
 have h1:=rQ _ k hf.1 hk
 have h2:=rQ _ k hf.2 hk
 have e2:iC (r.den:Int)=decDigits r.den:=by
  unfold iC
  rw [if_neg (show ¬ ((r.den:Int)<0) by omega),List.nil_append,Int.natAbs_natCast]
 have hD:(iC r.num).length≤21474836482:=by unfold iC;rw [List.length_append];split <;> simp <;> omega
 have hE:(iC (r.den:Int)).length≤21474836481:=by rw [e2];exact h2
 have hT:=Zz r
 rw [← e2] at hT
 have hn:=h.num
 have hd:=h.d
 obtain ⟨D,hD1⟩:∃ D,iC r.num=D:=⟨_,rfl⟩
 obtain ⟨E,hE1⟩:∃ E,iC (r.den:Int)=E:=⟨_,rfl⟩
 obtain ⟨T,hT1⟩:∃ T,iH r=T:=⟨_,rfl⟩
 rw [hD1] at HN hD hT
 rw [hE1] at HM hE hT
 rw [hT1] at hT ⊢
 clear hD1 hE1 hT1 e2 h h1 h2 hf
 have HI:=hid (And.intro hn hd)
 clear hn hd
 have HT:=hid hT
 clear hT
 go_enter Tryz.func68,Tryz.ntmps68
 go_wp2_with fail
 have hS0:=hid ((St.start w).alloc' (w.heap.size) (by simp) 37 [.bool t1,.slice p1 l1 k1,.bool false,.slice r1 s1 u1])
 obtain ⟨W0,hW0⟩:=aQ hS0
 rw [hW0] at hS0 ⊢
 clear hW0
 have hS1:=hid ((hS0.out.fact (.z (.agg #[.bool t1,.slice p1 l1 k1]) r.num) (HI.out.1.below hS0.out.bel)).fact (.z (.agg #[.bool false,.slice r1 s1 u1]) (r.den:Int)) (HI.out.2.below hS0.out.bel))
 clear hS0 HI
 obtain ⟨⟨cR0,cR1,cR2,cR3⟩,fR0,fR1,fR2,fR3⟩:=hS1.out.f4 0 w.heap.size 37 (.bool t1) (.slice p1 l1 k1) (.bool false) (.slice r1 s1 u1) rfl
 go_wp2_with fail
 clear cR0 cR1 cR2 cR3 fR0 fR1 fR2 fR3
 refine (HN.out _ (hS1.out.get (f:=.z (.agg #[.bool t1,.slice p1 l1 k1]) r.num) 1 rfl)).mono ?_
 rintro e w1 ⟨rfl,hB⟩
 have hS2:=hid (hS1.out.call hB)
 clear hS1 hB
 obtain ⟨⟨cR0,cR1,cR2,cR3⟩,fR0,fR1,fR2,fR3⟩:=hS2.out.f4 0 w.heap.size 37 (.bool t1) (.slice p1 l1 k1) (.bool false) (.slice r1 s1 u1) rfl
 go_wp2_with fail
 clear cR0 cR1 cR2 cR3 fR0 fR1 fR2 fR3
 refine (HD.out _ (hS2.out.get (f:=.z (.agg #[.bool t1,.slice p1 l1 k1]) r.num) 1 rfl) (hS2.out.get (f:=.z (.agg #[.bool false,.slice r1 s1 u1]) (r.den:Int)) 0 rfl)).mono ?_
 rintro e w2 ⟨v2,rfl,hz2,hB⟩
 have hS3:=hid (hS2.out.call hB)
 clear hS2 hB
 obtain ⟨t2,p2,l2,k2,rfl⟩:=hz2.open
 have hZ:=hid hz2
 clear hz2
 go_wp2_with fail
 refine (HM.out _ _ hZ.out).mono ?_
 rintro e w3 ⟨rfl,hB⟩
 have hS4:=hid (hS3.out.call hB)
 clear hS3 hB hZ
 by_cases he:E=[49]
 ·subst he
  have hT2:=HT.out
  rw [if_pos rfl] at hT2
  subst hT2
  go_wp2
  go_ret
  exact ⟨rfl,hS4.out.bel⟩
 ·have hT2:=HT.out
  rw [if_neg he] at hT2
  have hb:(E == [49])=false:=by simpa using he
  have HT2:=hid hT2
  clear hT2 he HT
  go_wp2
  go_ret
  refine ⟨?_,hS4.out.bel⟩
  rw [HT2.out]
  refine congrArg (fun s=>Ending.returned (Value.string s)) ?_
  apply ByteArray.ext
  simp [ByteArray.data_append]
end Z4
end Go.Proofs.YtefbfbdijimanaaGreatDoor
