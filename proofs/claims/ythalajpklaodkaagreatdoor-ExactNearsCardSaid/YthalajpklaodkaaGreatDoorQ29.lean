/- What the proof rests on, part 29. -/
import Derived.Test.YthalajpklaodkaaGreatDoorQ28
import Derived.Test.YthalajpklaodkaaGreatDoorQ26
import Derived.Test.YthalajpklaodkaaGreatDoorQ22
namespace Go.Proofs.YthalajpklaodkaaGreatDoor
set_option maxRecDepth 100000
set_option maxHeartbeats 80000000
namespace Rx
open Go.RowKit
def qy:List Fd→Nat→Option Nat
 | [],_=>none
 | .n b s :: r,n=>if b=n then some s else qy r n
 | _ :: r,n=>qy r n
theorem qA {n s:Nat}:∀ {db:List Fd},qy db n=some s→.n n s∈db
 | [],h=>by simp [qy] at h
 | f :: r,h=>by
  cases f with
  | n b s' =>
   simp only [qy] at h
   split at h
   ·rename_i hs;cases h;subst hs;simp
   ·exact List.mem_cons_of_mem _ (qA h)
  | l _ _ _=>exact List.mem_cons_of_mem _ (qA h)
  | z _ _ _=>exact List.mem_cons_of_mem _ (qA h)
  | r _ _ _=>exact List.mem_cons_of_mem _ (qA h)
  | i _ _=>exact List.mem_cons_of_mem _ (qA h)
def worth (db:List Fd) (s:Nat):Option RE:=match iC db s with
 | some (e,_)=>some e
 | none=>match oL db s with
  | some (e,_)=>some e
  | none=>none
def zZ (h:Hint) (db:List Fd) (a:Nat):Option Bool:=match qy db a with
 | some s=>match worth db s with
  | some e=>if nzB h e then some false else if eqB h e (.c 0) then some true else none
  | none=>none
 | none=>none
section
variable {β:Nat→Rat} {ρ:Env} {W:World} {db:List Fd} {h:Hint}
theorem abu {s:Nat} {e:RE} (hw:worth db s=some e) (hf:∀ f∈db,(SR β).on ρ f W):(ρ s).l=0↔e.ev β=0:=by
 have key:∀ xs,Z4.IsL 0 W (.slice (ρ s).p (ρ s).l (ρ s).c) xs→Z4.Dig xs→Z4.aA xs→((ρ s).l=0↔Z4.val xs=0):=fun xs h1 h2 h3=>by
  rw [← h1.len];exact Z4.uU h2 h3
 unfold worth at hw
 split at hw
 ·rename_i e' k hx
  cases hw
  obtain ⟨xs,h1,h2,h3,h4,-⟩:=hf _ (gy hx)
  rw [key xs h1 h2 h3,← h4]
  exact ⟨fun h=>by rw [h];rfl,fun h=>by exact_mod_cast h⟩
 ·split at hw
  ·rename_i e' k hx
   cases hw
   obtain ⟨z,⟨p,l,c,xs,he,h1,h2,h3,h4⟩,h5,-⟩:=hf _ (lU hx)
   have he':=congrArg Array.toList (Value.agg.inj he)
   simp only [zC,List.map_cons,List.map_nil,Cell.den,List.cons.injEq,Value.slice.injEq,and_true] at he'
   obtain ⟨-,rfl,rfl,rfl⟩:=he'
   rw [key xs h1 h2 h3,← h5,h4]
   constructor
   ·intro h;rw [show z=0 by omega];rfl
   ·intro h
    have:z=0:=by exact_mod_cast h
    rw [this];rfl
  ·cases hw
theorem Lu (ok:h.Ok β) {a:Nat} {x:Bool} (hh:zZ h db a=some x) (hf:∀ f∈db,(SR β).on ρ f W):0≤(ρ a).u∧((ρ a).u == 0)=x:=by
 unfold zZ at hh
 split at hh
 ·rename_i s hs
  split at hh
  ·rename_i e hw
   have h1:(ρ a).u=((ρ s).l:Int):=hf _ (qA hs)
   have h2:=abu hw hf
   refine ⟨by omega,?_⟩
   split at hh
   ·rename_i hn
    cases hh
    have:=jA ok hn
    rw [beq_eq_false_iff_ne]
    intro h0
    exact this (h2.1 (by omega))
   ·split at hh
    ·rename_i hn
     cases hh
     have:=h2.2 ((lK ok hn).trans rfl)
     rw [beq_iff_eq]
     omega
    ·cases hh
  ·cases hh
 ·cases hh
end
def FX (h:Hint) (db:List Fd) (a:Nat):Option Bool:=match qy db a with
 | some s=>match iC db s with
  | some (e,_)=>if jB e then (match cmB h e (.c 10000) with
    | some (-1)=>some true
    | some 0 | some 1=>some false
    | _=>none) else none
  | none=>none
 | none=>none
def oC:List Fd→Nat→Option RE
 | [],_=>none
 | .i s e :: r,n=>if s=n then some e else oC r n
 | _ :: r,n=>oC r n
theorem oD {n:Nat} {e:RE}:∀ {db:List Fd},oC db n=some e→.i n e∈db
 | [],h=>by simp [oC] at h
 | f :: r,h=>by
  cases f with
  | i b e' =>
   simp only [oC] at h
   split at h
   ·rename_i hs;cases h;subst hs;simp
   ·exact List.mem_cons_of_mem _ (oD h)
  | l _ _ _=>exact List.mem_cons_of_mem _ (oD h)
  | z _ _ _=>exact List.mem_cons_of_mem _ (oD h)
  | r _ _ _=>exact List.mem_cons_of_mem _ (oD h)
  | n _ _=>exact List.mem_cons_of_mem _ (oD h)
def EW (h:Hint) (db:List Fd) (a:Nat) (m:Int):Option Bool:=match oC db a with
 | some e=>if eqB h e (.c m) then some true else if h.ne.any (fun p=>p.1.beq e && p.2.beq (.c m)) then some false else none
 | none=>if m=0 then zZ h db a else if m=1 then FX h db a else none
section
variable {β:Nat→Rat} {ρ:Env} {W:World} {db:List Fd} {h:Hint}
theorem YV (ok:h.Ok β) {a:Nat} {x:Bool} (hh:FX h db a=some x) (hf:∀ f∈db,(SR β).on ρ f W):((ρ a).u == 1)=x:=by
 unfold FX at hh
 split at hh
 ·rename_i s hs
  split at hh
  ·rename_i e k hx
   split at hh
   ·rename_i hp
    have h1:(ρ a).u=((ρ s).l:Int):=hf _ (qA hs)
    obtain ⟨xs,g1,g2,g3,g4,-⟩:=(show IsG W (.slice (ρ s).p (ρ s).l (ρ s).c) (e.ev β) k from hf _ (gy hx))
    have hl:=g1.len
    have hpos:0<Z4.val xs:=by
     have:=wJ (β:=β) hp
     rw [← g4] at this
     rcases Nat.eq_zero_or_pos (Z4.val xs) with h0 | h0
     ·rw [h0] at this;exact absurd this (by decide)
     ·exact h0
    have hl1:1≤xs.length:=by
     rcases Nat.eq_zero_or_pos xs.length with h0 | h0
     ·have:=(Z4.uU g2 g3).1 h0;omega
     ·exact h0
    have hcm:∀ c,cmB h e (.c 10000)=some c→aC (Z4.val xs) 10000=c:=fun c hc=>by
     have:=kQ ok hc
     rw [← g4,show (RE.c 10000).ev β=((10000:Nat):Rat) from rfl,qo] at this
     exact this
    have hge:2≤xs.length→10000≤Z4.val xs:=fun h2=>by
     have h3:=Z4.lg g3 (by intro e;subst e;simp at hl1)
     have h4:Z4.B4 ^ 1≤Z4.B4 ^ (xs.length - 1):=Nat.pow_le_pow_right (by decide) (by omega)
     have h5:Z4.B4 ^ 1=10000:=by decide
     omega
    have hlt:xs.length≤1→Z4.val xs<10000:=fun h2=>by
     have h3:=Z4.aU g2
     have h4:Z4.B4 ^ xs.length=10000:=by rw [show xs.length=1 by omega];decide
     omega
    split at hh
    ·rename_i hc
     cases hh
     have:=hcm _ hc
     unfold aC at this
     rw [beq_iff_eq]
     split at this
     ·rcases Nat.lt_or_ge xs.length 2 with h6 | h6
      ·omega
      ·have:=hge h6;omega
     ·split at this <;> omega
    ·rename_i hc
     cases hh
     have:=hcm _ hc
     unfold aC at this
     rw [beq_eq_false_iff_ne]
     intro h7
     have:=hlt (by omega)
     rw [if_pos this] at *
     omega
    ·rename_i hc
     cases hh
     have:=hcm _ hc
     unfold aC at this
     rw [beq_eq_false_iff_ne]
     intro h7
     have:=hlt (by omega)
     rw [if_pos this] at *
     omega
    ·cases hh
   ·cases hh
  ·cases hh
 ·cases hh
theorem Wn (ok:h.Ok β) {a:Nat} {m:Int} {x:Bool} (hh:EW h db a m=some x) (hf:∀ f∈db,(SR β).on ρ f W):((ρ a).u == m)=x:=by
 unfold EW at hh
 split at hh
 ·rename_i e hx
  have h1:(((ρ a).u:Int):Rat)=e.ev β:=hf _ (oD hx)
  split at hh
  ·rename_i he
   cases hh
   rw [lK ok he] at h1
   rw [beq_iff_eq]
   have h2:(((ρ a).u:Int):Rat)=((m:Int):Rat):=h1
   exact_mod_cast h2
  ·split at hh
   ·rename_i hn
    cases hh
    obtain ⟨p,hp,h2⟩:=List.any_eq_true.1 hn
    simp only [Bool.and_eq_true] at h2
    have:=ok.2.1 p hp
    rw [RE.beq_eq h2.1,RE.beq_eq h2.2,← h1] at this
    rw [beq_eq_false_iff_ne]
    intro h0
    exact this (by rw [h0];rfl)
   ·cases hh
 ·split at hh
  ·rename_i hm;subst hm;exact (Lu ok hh hf).2
  ·split at hh
   ·rename_i hm;subst hm;exact YV ok hh hf
   ·cases hh
end
def IL (h:Hint) (db:List Fd) (a a' b:Nat):Option (List Fd):=match oC db a,oC db a' with
 | some e,some e'=>if cmB h (.add e e') (.c 4611686018427387904)=some (-1) && cmB h (.c (-1)) (.add e e')=some (-1) then some [.i b (.add e e')] else none
 | _,_=>none
theorem Jr {a b:Rat} (h:aF a b = -1):a<b:=by
 unfold aF at h
 split at h
 ·assumption
 ·split at h <;> cases h
def HL (β:Nat→Rat) (h:Hint) (ok:h.Ok β):Tests (SR β) where
 eq:=fun db c d=>match c,d with
  | .oi a,.it .i64 m=>EW h db a m
  | _,_=>none
 ok:=fun {fs c d x} hh ρ W hf=>by
  split at hh
  ·rename_i a m
   exact .inr ⟨.i64,(ρ a).u,m,rfl,rfl,Wn ok hh hf⟩
  ·cases hh
 add:=IL h
 addOk:=fun {db a a' b new} hh ρ W hf=>by
  unfold IL at hh
  split at hh
  ·rename_i e e' h1 h2
   split at hh
   ·rename_i hc
    simp only [Bool.and_eq_true,decide_eq_true_eq] at hc
    cases hh
    have g1:(((ρ a).u:Int):Rat)=e.ev β:=hf _ (oD h1)
    have g2:(((ρ a').u:Int):Rat)=e'.ev β:=hf _ (oD h2)
    have hs:(((ρ a).u+(ρ a').u:Int):Rat)=(RE.add e e').ev β:=by rw [Rat.intCast_add,g1,g2];rfl
    have k1:=Jr (kQ ok hc.1)
    have k2:=Jr (kQ ok hc.2)
    rw [← hs] at k1 k2
    have l1:(ρ a).u+(ρ a').u<4611686018427387904:=Rat.intCast_lt_intCast.1 (show (((ρ a).u+(ρ a').u:Int):Rat)<((4611686018427387904:Int):Rat) from k1)
    have l2:-1<(ρ a).u+(ρ a').u:=Rat.intCast_lt_intCast.1 (show ((-1:Int):Rat)<(((ρ a).u+(ρ a').u:Int):Rat) from k2)
    refine ⟨by rw [IntKind.wrap_i64];omega,fun ρ' _ hu f hm=>?_⟩
    obtain rfl:=List.mem_singleton.1 hm
    show (((ρ' b).u:Int):Rat)=_
    rw [hu,hs]
   ·cases hh
  ·cases hh
 gt:=fun db c d=>match c,d with
  | .oi a,.it .i64 0=>(zZ h db a).map (!·)
  | _,_=>none
 gok:=fun {fs c d x} hh ρ W hf=>by
  split at hh
  ·rename_i a
   obtain ⟨y,hy,rfl⟩:=Option.map_eq_some_iff.1 hh
   obtain ⟨h1,h2⟩:=Lu ok hy hf
   refine ⟨.i64,(ρ a).u,0,rfl,rfl,?_⟩
   rw [← h2]
   by_cases h0:(ρ a).u=0
   ·rw [h0];rfl
   ·rw [decide_eq_true (by omega),beq_eq_false_iff_ne.2 h0];rfl
  ·cases hh
section
variable (β:Nat→Rat) (h:Hint)
def yu:Con (SR β) where
 fn:=139
 app:=fun db b args=>match args with
  | [.e (.s x),.e (.s y)]=>match asG db x,asG db y with
   | some (e,k),some (e',k')=>if decide (k≤K1) && decide (k'≤K1) && nzB h e' then some (.t [.s (.os b),.s (.os (b+1))],[.l b (.flo (.div e e')) k,.l (b+1) (rem e e') k]) else none
   | _,_=>none
  | _=>none
def cf:List (Con (SR β)):=yu β h :: cz β h
end
section
variable {β:Nat→Rat} {h:Hint} {f:FuncId} {vals:Array Value} {W:World} {ρ:Env} {b:Nat}
theorem QA {n m:Nat} {e e':RE} {k:Nat} (hc:Calls Tryz.prog f vals W (Z4.xG W n m)) (hn:((n:Nat):Rat)=e.ev β) (hm:((m:Nat):Rat)=e'.ev β) (kn:n<B64 ^ k) (km:m<B64 ^ k) :
  Calls Tryz.prog f vals W (Anr β ρ b W (.t [.s (.os b),.s (.os (b+1))]) [.l b e k,.l (b+1) e' k]):=by
 refine hc.mono fun _ W' ⟨v,ds,u,es,he,hl,hd,ht,hv,gl,gd,gt,gv,hb⟩=>?_
 obtain ⟨p,l,c,rfl⟩:=hl.mk
 obtain ⟨p',l',c',rfl⟩:=gl.mk
 have h0:aG ρ b [⟨false,0,p,l,c,.empty,0,default⟩,⟨false,0,p',l',c',.empty,0,default⟩] b=⟨false,0,p,l,c,.empty,0,default⟩:=by simp [aG]
 have h1:aG ρ b [⟨false,0,p,l,c,.empty,0,default⟩,⟨false,0,p',l',c',.empty,0,default⟩] (b+1)=⟨false,0,p',l',c',.empty,0,default⟩:=by simp [aG]
 refine ⟨aG ρ b [⟨false,0,p,l,c,.empty,0,default⟩,⟨false,0,p',l',c',.empty,0,default⟩],iE (by simp [M]),?_,hb,fun g hg=>?_⟩
 ·rw [he];simp [SV.den,El.den,Cell.den,h0,h1]
 ·simp only [List.mem_cons,List.not_mem_nil,or_false] at hg
  rcases hg with rfl | rfl
  ·show IsG W' (.slice (aG ρ b _ b).p (aG ρ b _ b).l (aG ρ b _ b).c) _ _
   rw [h0]
   exact ⟨ds,hl.mono (Nat.zero_le _),hd,ht,by rw [hv];exact hn,by rw [hv];exact kn⟩
  ·show IsG W' (.slice (aG ρ b _ (b+1)).p (aG ρ b _ (b+1)).l (aG ρ b _ (b+1)).c) _ _
   rw [h1]
   exact ⟨es,gl.mono (Nat.zero_le _),gd,gt,by rw [gv];exact hm,by rw [gv];exact km⟩
theorem Jw (ok:h.Ok β):(yu β h).Ok Tryz.prog (SR β) EV:=by
 refine Con.ok0 rfl ?_
 intro db b args res new ha ρ W hf hE
 simp only [yu] at ha
 split at ha
 ·split at ha
  ·rename_i x y _ _ e k e' k' hx hy
   split at ha
   ·rename_i hk
    simp only [Bool.and_eq_true,decide_eq_true_eq] at hk
    cases ha
    obtain ⟨xs,h1,h2,h3,h4,h5⟩:=jT hx hf
    obtain ⟨ys,g1,g2,g3,g4,g5⟩:=jT hy hf
    have hm:0<Z4.val ys:=by
     rcases Nat.eq_zero_or_pos (Z4.val ys) with h0 | h0
     ·exact absurd (by rw [← g4,h0];rfl) (jA ok hk.2)
     ·exact h0
    exact QA (e:=.flo (.div e e')) (e':=rem e e') (Z4.AL _ _ xs ys W h1 g1 h2 g2 g3 hm (Nat.le_trans (qK h3 h5) (by simp only [K1] at hk;omega)) (Nat.le_trans (qK g3 g5) (by simp only [K1] at hk;omega)))
     (wP hm h4 g4) (AY hm h4 g4) (Nat.lt_of_le_of_lt (Nat.div_le_self _ _) h5) (Nat.lt_of_le_of_lt (Nat.mod_le _ _) h5)
   ·cases ha
  ·cases ha
 ·cases ha
theorem Q5 (ok:h.Ok β):∀ c∈cf β h,c.Ok Tryz.prog (SR β) EV:=fun c hc=>by
 rcases List.mem_cons.1 hc with rfl | hc
 ·exact Jw ok
 ·exact yN ok c hc
end
end Rx
namespace Rx
open Go.RowKit
abbrev gE:RE:=.den (.v 2)
abbrev gN (e:RE):RE:=.flo (.div e gE)
abbrev gM:RE:=rem gE (.c 10000)
def asT (h:Hint) (db:List Fd):List Cell→Option (Bool×RE×Nat)
 | [.bl t,.os s]=>match iC db s with
  | some (e,k)=>if (!t || nzB h e) && decide (k≤K1) then some (t,e,k) else none
  | none=>none
 | _=>none
def sgz (t:Bool) (n:Nat):Int:=if t then -(n:Int) else n
theorem aav {t:Bool} {n:Nat} (h:t=true→n≠0):decide (sgz t n<0)=t:=by
 cases t
 ·exact decide_eq_false (by simp [sgz])
 ·exact decide_eq_true (by have:=h rfl;simp only [sgz,if_true];omega)
theorem rD (t:Bool) (n:Nat):(sgz t n).natAbs=n:=by cases t <;> simp [sgz]
theorem C9 {β:Nat→Rat} {h:Hint} (ok:h.Ok β) {ρ:Env} {W:World} {db:List Fd} {cs:List Cell} {t:Bool} {e:RE} {k:Nat} (hh:asT h db cs=some (t,e,k)) (hf:∀ f∈db,(SR β).on ρ f W):∃ n:Nat,Z4.IsZ W (.agg (cs.map (Cell.den ρ)).toArray) (sgz t n)∧((n:Nat):Rat)=e.ev β∧n<B64 ^ k∧k≤K1∧(t=true→n≠0):=by
 unfold asT at hh
 split at hh
 ·rename_i t' s
  split at hh
  ·rename_i e' k' hx
   split at hh
   ·rename_i hc
    cases hh
    simp only [Bool.and_eq_true,Bool.or_eq_true,decide_eq_true_eq] at hc
    obtain ⟨xs,h1,h2,h3,h4,h5⟩:=(show IsG W (.slice (ρ s).p (ρ s).l (ρ s).c) (e.ev β) k from hf _ (gy hx))
    have hn:t=true→Z4.val xs≠0:=fun ht h0=>by
     rcases hc.1 with h | h
     ·rw [ht] at h;cases h
     ·exact jA ok h (by rw [← h4,h0];rfl)
    exact ⟨Z4.val xs,⟨_,_,_,xs,by rw [aav hn];rfl,h1,h2,h3,(rD t _).symm⟩,h4,h5,hc.2,hn⟩
   ·cases hh
  ·cases hh
 ·cases hh
section
variable (β:Nat→Rat) (h:Hint)
def DN:Con (SR β) where
 fn:=138
 app:=fun db b args=>match args with
  | [.e (.a x),.e (.a y)]=>match asT h db x,asT h db y with
   | some (_,.v 0,_),some (_,.v 1,k)=>if nzB h (.v 1) then some (.e (.a [.bl false,.os b]),[.l b gE k]) else none
   | _,_=>none
  | _=>none
def DV:Con (SR β) where
 fn:=108
 app:=fun db b args=>match args with
  | [.e (.a x)]=>match asT h db x with
   | some (t,e,k)=>if t then some (.e (.a [.bl false,.os b]),[.l b e k]) else
     if nzB h e then some (.e (.a [.bl true,.os b]),[.l b e k]) else
     if eqB h e (.c 0) then some (.e (.a [.bl false,.os b]),[.l b e k]) else none
   | none=>none
  | _=>none
end
section
variable {β:Nat→Rat} {h:Hint}
theorem I5 {f:FuncId} {vals:Array Value} {W:World} {ρ:Env} {b:Nat} {z:Int} {x:Bool} {e:RE} {k:Nat} (hc:Calls Tryz.prog f vals W (Z4.dA W z)) (hx:decide (z<0)=x) (hz:((z.natAbs:Nat):Rat)=e.ev β) (hk:z.natAbs<B64 ^ k):Calls Tryz.prog f vals W (Anr β ρ b W (.e (.a [.bl x,.os b])) [.l b e k]):=by
 refine hc.mono fun _ W' ⟨v,he,hv,hb⟩=>?_
 obtain ⟨p,l,c,xs,rfl,hl,hd,ht,hv⟩:=hv
 refine ⟨_,iE (b:=b) (L:=[⟨false,0,p,l,c,.empty,0,default⟩]) (by simp [M]),?_,hb,fun g hg=>?_⟩
 ·rw [he,hx];simp [SV.den,El.den,Cell.den,aG]
 ·obtain rfl:=List.mem_singleton.1 hg
  exact ⟨xs,by simpa [aG] using hl,hd,ht,by rw [hv];exact hz,by rw [hv];exact hk⟩
theorem RN (ok:h.Ok β) (hg:∀ n m:Nat,((n:Nat):Rat)=β 0→((m:Nat):Rat)=β 1→((Nat.gcd n m:Nat):Rat)=gE.ev β):(DN β h).Ok Tryz.prog (SR β) EV:=by
 refine Con.ok0 rfl ?_
 intro db b args res new ha ρ W hf hE
 simp only [DN] at ha
 split at ha
 ·split at ha
  ·rename_i hx hy
   split at ha
   ·rename_i hn
    cases ha
    obtain ⟨n,h1,h2,h3,h4,-⟩:=C9 ok hx hf
    obtain ⟨m,g1,g2,g3,g4,-⟩:=C9 ok hy hf
    have hm:0<m:=by
     rcases Nat.eq_zero_or_pos m with h0 | h0
     ·exact absurd (by rw [← g2,h0];rfl) (jA ok hn)
     ·exact h0
    have hle:=Nat.le_of_dvd hm (Nat.gcd_dvd_right n m)
    have a1:=Nat.pow_le_pow_right (show 0<B64 by decide) h4
    have a2:=Nat.pow_le_pow_right (show 0<B64 by decide) g4
    have hB:=xW K1
    have hc:=Z4.abD _ _ _ _ W h1 g1 (5*K1) (by simp only [K1];omega) (by rw [rD];omega) (by rw [rD];omega)
    rw [rD,rD] at hc
    exact I5 hc (decide_eq_false (by omega)) (by rw [Int.natAbs_natCast];exact hg n m h2 g2) (by rw [Int.natAbs_natCast];omega)
   ·cases ha
  ·cases ha
 ·cases ha
theorem RU (ok:h.Ok β):(DV β h).Ok Tryz.prog (SR β) EV:=by
 refine Con.ok0 rfl ?_
 intro db b args res new ha ρ W hf hE
 simp only [DV] at ha
 split at ha
 ·split at ha
  ·rename_i t e k hx
   obtain ⟨n,h1,h2,h3,-,h5⟩:=C9 ok hx hf
   have hc:=Z4.PE _ _ W h1
   have hr:∀ x:Bool,decide (-sgz t n<0)=x→Calls Tryz.prog 108 _ W (Anr β ρ b W (.e (.a [.bl x,.os b])) [.l b e k]):=fun x h0 =>
    I5 hc h0 (by rw [Int.natAbs_neg,rD];exact h2) (by rw [Int.natAbs_neg,rD];exact h3)
   split at ha
   ·rename_i ht
    cases ha
    exact hr false (decide_eq_false (by rw [ht];simp only [sgz,if_true];omega))
   ·rename_i ht
    have ht':t=false:=by simpa using ht
    split at ha
    ·rename_i hn
     cases ha
     have:n≠0:=fun h0=>jA ok hn (by rw [← h2,h0];rfl)
     exact hr true (decide_eq_true (by rw [ht'];simp only [sgz,Bool.false_eq_true,if_false];omega))
    ·split at ha
     ·rename_i hq
      cases ha
      have h0:((n:Nat):Rat)=((0:Nat):Rat):=h2.trans (lK ok hq)
      have hn:n=0:=by exact_mod_cast h0
      exact hr false (decide_eq_false (by rw [ht',hn];decide))
     ·cases ha
  ·cases ha
 ·cases ha
end
def qH (zero one ge eqq:Bool):Hint where
 eq:=(if zero then [(.v 0,.c 0),(gN (.v 0),.c 0)] else []) ++ if one then [(gM,.c 1)] else []
 ne:=if one || ge then [] else [(gM,.c 1)]
 nz:=.v 1 :: gE :: if zero then [] else [.v 0,gN (.v 0)]
 cm:=[(gE,.c 10000,if ge then (if eqq then 0 else 1) else -1)]
def qC (β:Nat→Rat) (h:Hint):List (Con (SR β)):=DN β h :: DV β h :: yu β h :: cz β h
def Fg (t:Bool) (e e':RE):Option (SV×List Fd)→Bool
 | some (.e (.a [.bl t1,c,.bl false,c']),fs)=>match asG fs c,asG fs c' with
  | some (x,_),some (y,_)=>t1 == t && x.beq e && y.beq e'
  | _,_=>false
 | _=>false
theorem WT {t:Bool} {e e':RE} {o:Option (SV×List Fd)} (h:Fg t e e' o=true):∃ c c' fs k k',o=some (.e (.a [.bl t,c,.bl false,c']),fs)∧asG fs c=some (e,k)∧asG fs c' = some (e',k'):=by
 unfold Fg at h
 split at h
 ·split at h
  ·rename_i t1 c c' fs _ _ x k y k' h1 h2
   simp only [Bool.and_eq_true,beq_iff_eq] at h
   exact ⟨c,c',fs,k,k',by rw [h.1.1],by rw [h1,RE.beq_eq h.1.2],by rw [h2,RE.beq_eq h.2]⟩
  ·cases h
 ·cases h
theorem Zk (β:Nat→Rat) (zero one ge eqq:Bool) (ok:(qH zero one ge eqq).Ok β) (t t':Bool):(bif zero && t then true else bif one && ge then true else Fg (!zero && (t != t')) (if one then .v 0 else gN (.v 0)) (if one then .v 1 else gN (.v 1))
  (aN Tryz.prog (SR β) (HL β (qH zero one ge eqq) ok) (qC β (qH zero one ge eqq)) 1 92 [.e (.a [.bl t,.os 0]),.e (.a [.bl t',.os 1])] [.l 0 (.v 0) K1,.l 1 (.v 1) K1] 2))=true:=by
 cases zero <;> cases one <;> cases ge <;> cases eqq <;> cases t <;> cases t' <;> kernel_rfl
theorem den_inv {g:Nat} (hg:g≠0):(mkRat 1 g).den=g:=by
 have:=(Z4.uK 1 g 1 hg (by simp)).2.2
 simpa using this
theorem Gx {z d:Int} {v1 v2:Value} {w:World} (hd:d≠0) (h1:Z4.IsZ w v1 z) (h2:Z4.IsZ w v2 d) (ka:z.natAbs<B64 ^ K1) (kb:d.natAbs<B64 ^ K1) (hE:EV w):Calls Tryz.prog 92 #[v1,v2] w (Z4.dW w ((z:Rat) / (d:Rat))):=by
 obtain ⟨p,l,c,xs,rfl,a1,a2,a3,a4⟩:=h1
 obtain ⟨p',l',c',ys,rfl,b1,b2,b3,b4⟩:=h2
 have hm:d.natAbs≠0:=by omega
 obtain ⟨g,hgg⟩:∃ g,Nat.gcd z.natAbs d.natAbs=g:=⟨_,rfl⟩
 have hg0:0<g:=by rw [← hgg];exact Nat.gcd_pos_of_pos_right _ (by omega)
 have hgn:g∣z.natAbs:=by rw [← hgg];exact Nat.gcd_dvd_left _ _
 obtain ⟨β,hβ⟩:∃ β,β=bet [((z.natAbs:Nat):Rat),((d.natAbs:Nat):Rat),mkRat 1 g]:=⟨_,rfl⟩
 have e0:((z.natAbs:Nat):Rat)=RE.ev β (.v 0):=by rw [hβ];rfl
 have e1:((d.natAbs:Nat):Rat)=RE.ev β (.v 1):=by rw [hβ];rfl
 have e2:((g:Nat):Rat)=gE.ev β:=by
  show _=((((β 2).den:Nat):Int):Rat)
  rw [hβ,show (bet [((z.natAbs:Nat):Rat),((d.natAbs:Nat):Rat),mkRat 1 g]) 2=mkRat 1 g from rfl,den_inv (by omega)];rfl
 have q0:=wP hg0 e0 e2
 have q1:=wP hg0 e1 e2
 have r0:=AY (show 0<10000 by decide) e2 (show ((10000:Nat):Rat)=RE.ev β (.c 10000) from rfl)
 have nat0:∀ n:Nat,n≠0→((n:Nat):Rat)≠0:=fun n hn h=>hn (by exact_mod_cast (show ((n:Nat):Rat)=((0:Nat):Rat) from h))
 have ok:(qH (decide (z.natAbs=0)) (decide (g=1)) (decide (10000≤g)) (decide (g=10000))).Ok β:=by
  refine ⟨fun q hq=>?_,fun q hq=>?_,fun q hq=>?_,fun q h=>(by cases h),fun q hq=>?_⟩
  ·rcases List.mem_append.1 hq with hq | hq
   ·by_cases hz:z.natAbs=0
    ·rw [decide_eq_true hz] at hq
     rcases List.mem_cons.1 hq with rfl | hq
     ·show RE.ev β (.v 0)=_
      rw [← e0,hz];rfl
     ·obtain rfl:=List.mem_singleton.1 hq
      show (gN (.v 0)).ev β=_
      rw [← q0,hz,Nat.zero_div];rfl
    ·rw [decide_eq_false hz] at hq;cases hq
   ·by_cases h1:g=1
    ·rw [decide_eq_true h1] at hq
     obtain rfl:=List.mem_singleton.1 hq
     show gM.ev β=_
     rw [← r0,h1];rfl
    ·rw [decide_eq_false h1] at hq;cases hq
  ·by_cases hc:g=1∨10000≤g
   ·rw [show (qH _ (decide (g=1)) (decide (10000≤g)) _).ne=[] from if_pos (by simpa using hc)] at hq
    cases hq
   ·rw [show (qH _ (decide (g=1)) (decide (10000≤g)) _).ne=[(gM,.c 1)] from if_neg (by simpa using hc)] at hq
    obtain rfl:=List.mem_singleton.1 hq
    show gM.ev β≠((1:Int):Rat)
    rw [← r0,Nat.mod_eq_of_lt (by omega)]
    intro h
    have:g=1:=by exact_mod_cast (show ((g:Nat):Rat)=((1:Nat):Rat) from h)
    omega
  ·rcases List.mem_cons.1 hq with rfl | hq
   ·rw [← e1];exact nat0 _ hm
   ·rcases List.mem_cons.1 hq with rfl | hq
    ·rw [← e2];exact nat0 _ (by omega)
    ·by_cases hz:z.natAbs=0
     ·rw [decide_eq_true hz] at hq;cases hq
     ·rw [decide_eq_false hz] at hq
      rcases List.mem_cons.1 hq with rfl | hq
      ·rw [← e0];exact nat0 _ hz
      ·obtain rfl:=List.mem_singleton.1 hq
       rw [← q0]
       have:=Nat.div_pos (Nat.le_of_dvd (by omega) hgn) hg0
       exact nat0 _ (by omega)
  ·obtain rfl:=List.mem_singleton.1 hq
   show aF (gE.ev β) (((10000:Nat):Rat))=_
   rw [← e2,qo]
   unfold aC
   by_cases h1:g<10000
   ·rw [if_pos h1,decide_eq_false (show ¬ 10000≤g by omega)];rfl
   ·rw [if_neg h1,decide_eq_true (show 10000≤g by omega)]
    by_cases h2:g=10000
    ·rw [if_pos h2,decide_eq_true h2];rfl
    ·rw [if_neg h2,decide_eq_false h2];rfl
 have hr:=Zk β _ _ _ _ ok (decide (z<0)) (decide (d<0))
 rw [show (decide (z.natAbs=0) && decide (z<0))=false by by_cases h:z<0 <;> simp [h];omega,show (decide (g=1) && decide (10000≤g))=false by by_cases h:g=1 <;> simp [h]] at hr
 simp only [cond_false] at hr
 have hc:∀ c∈qC β (qH (decide (z.natAbs=0)) (decide (g=1)) (decide (10000≤g)) (decide (g=10000))),c.Ok Tryz.prog (SR β) EV:=by
  unfold qC
  simp only [List.forall_mem_cons]
  refine ⟨RN ok fun n m hn hm=>?_,RU ok,Jw ok,yN ok⟩
  have i0:n=z.natAbs:=by exact_mod_cast hn.trans e0.symm
  have i1:m=d.natAbs:=by exact_mod_cast hm.trans e1.symm
  rw [i0,i1,hgg];exact e2
 have hf:∀ f∈[Fd.l 0 (.v 0) K1,.l 1 (.v 1) K1],Fd.on β (ev [⟨false,0,p,l,c,.empty,0,default⟩,⟨false,0,p',l',c',.empty,0,default⟩]) f w:=by
  simp only [List.forall_mem_cons,List.not_mem_nil,false_imp_iff,implies_true,and_true]
  exact ⟨⟨xs,a1,a2,a3,by rw [a4];exact e0,by rw [a4];exact ka⟩,⟨ys,b1,b2,b3,by rw [b4];exact e1,by rw [b4];exact kb⟩⟩
 obtain ⟨u,u',fs,k,k',heq,g1,g2⟩:=WT hr
 have he:(List.map (SV.den (ev [⟨false,0,p,l,c,.empty,0,default⟩,⟨false,0,p',l',c',.empty,0,default⟩])) [.e (.a [.bl (decide (z<0)),.os 0]),.e (.a [.bl (decide (d<0)),.os 1])]).toArray=#[.agg #[.bool (decide (z<0)),.slice p l c],.agg #[.bool (decide (d<0)),.slice p' l' c']]:=rfl
 rw [← he]
 refine (dJ mixed hc heq (bg hE) hf).mono fun x W' ⟨ρ',_,hx,hb,hfs⟩=>⟨_,hx,?_,hb⟩
 obtain ⟨us,i1,i2,i3,i4,-⟩:=jT g1 hfs
 obtain ⟨vs,j1,j2,j3,j4,-⟩:=jT g2 hfs
 have n1:Z4.val us=z.natAbs / g:=by
  have:((Z4.val us:Nat):Rat)=((z.natAbs / g:Nat):Rat):=by
   rw [i4]
   by_cases h1:g=1
   ·rw [decide_eq_true h1,h1,Nat.div_one];exact e0.symm
   ·rw [decide_eq_false h1];exact q0.symm
  exact_mod_cast this
 have n2:Z4.val vs=d.natAbs / g:=by
  have:((Z4.val vs:Nat):Rat)=((d.natAbs / g:Nat):Rat):=by
   rw [j4]
   by_cases h1:g=1
   ·rw [decide_eq_true h1,h1,Nat.div_one];exact e1.symm
   ·rw [decide_eq_false h1];exact q1.symm
  exact_mod_cast this
 have key:∀ z':Int,z'.natAbs=z.natAbs→decide (z' < 0)=(!decide (z.natAbs=0) && (decide (z<0) != decide (d<0)))→(z:Rat) / (d:Rat)=mkRat z' d.natAbs→Z4.IsR W' (.agg #[.bool (!decide (z.natAbs=0) && (decide (z<0) != decide (d<0))),u.den ρ',.bool false,u'.den ρ']) ((z:Rat) / (d:Rat)):=fun z' k1 k2 k3=>by
  rw [k3]
  obtain ⟨q1,q2,q3⟩:=Z4.uK z' d.natAbs g hm (by rw [k1];exact hgg)
  obtain ⟨s1,s2,s3,hs⟩:=i1.mk
  obtain ⟨s4,s5,s6,hs'⟩:=j1.mk
  rw [hs] at i1
  rw [hs'] at j1
  rw [hs,hs']
  exact ⟨_,_,_,_,_,_,_,rfl,⟨_,_,_,us,by rw [q2,k2],i1,i2,i3,by rw [n1,q1,k1]⟩,⟨_,_,_,vs,by rw [decide_eq_false (by omega)],j1,j2,j3,by rw [n2,q3,Int.natAbs_natCast]⟩⟩
 rcases Int.lt_or_le d 0 with h0 | h0
 ·refine key (-z) (Int.natAbs_neg z) ?_ ?_
  ·rw [decide_eq_true h0]
   rcases Int.lt_trichotomy z 0 with h | h | h
   ·rw [decide_eq_false (show ¬ -z<0 by omega),decide_eq_true h];simp
   ·subst h;rfl
   ·rw [decide_eq_true (show -z<0 by omega),decide_eq_false (show ¬ z<0 by omega),decide_eq_false (show ¬ z.natAbs=0 by omega)];rfl
  ·obtain ⟨m,rfl⟩:∃ m:Nat,d = -(m:Int):=⟨d.natAbs,by omega⟩
   rw [Int.natAbs_neg,Int.natAbs_natCast,← Rat.divInt_eq_div,← Rat.divInt_ofNat,Rat.divInt_eq_divInt_iff (by omega) (by omega)]
   grind
 ·refine key z rfl ?_ ?_
  ·rw [decide_eq_false (show ¬ d<0 by omega)]
   rcases Int.lt_trichotomy z 0 with h | h | h
   ·rw [decide_eq_true h,decide_eq_false (show ¬ z.natAbs=0 by omega)];rfl
   ·subst h;rfl
   ·rw [decide_eq_false (show ¬ z<0 by omega)];simp
  ·obtain ⟨m,rfl⟩:∃ m:Nat,d=(m:Int):=⟨d.natAbs,by omega⟩
   rw [Int.natAbs_natCast,← Rat.divInt_eq_div,← Rat.divInt_ofNat]
end Rx
namespace Z4
open Go.RowKit Go.Sort
attribute [local go_sem] takes gK gJ gI
theorem ZM (n d:Int) (h1:-9223372036854775808≤n) (h2:n≤9223372036854775807) (h3:-9223372036854775808≤d) (h4:d≤9223372036854775807) (hd:d≠0) (w:World) (hE:Rx.EV w):Calls Tryz.prog 14 #[.int .i64 n,.int .i64 d] w (dW w ((n:Rat) / (d:Rat))):=by
 have HN:=hid (fun (W:World)=>kE n h1 h2 W)
 have HD:=hid (fun (W:World)=>kE d h3 h4 W)
 have HQ:=hid (fun (W:World) (v1 v2:Value) (a:IsZ W v1 n) (b:IsZ W v2 d) (hE:Rx.EV W)=>Rx.Gx hd a b (Nat.lt_of_lt_of_le (show n.natAbs<B64 ^ 1 by rw [Nat.pow_one];unfold B64;omega) (Nat.pow_le_pow_right (by decide) (by decide))) (Nat.lt_of_lt_of_le (show d.natAbs<B64 ^ 1 by rw [Nat.pow_one];unfold B64;omega) (Nat.pow_le_pow_right (by decide) (by decide))) hE)
 have HE:=hid (Rx.bg hE)
 obtain ⟨R,hR⟩:∃ R,(n:Rat) / (d:Rat)=R:=⟨_,rfl⟩
 rw [hR] at HQ ⊢
 clear h1 h2 h3 h4 hd hR hE
 go_enter Tryz.func14,Tryz.ntmps14
 go_wp2_with fail
 have hS0:=hid ((St.start w).alloc' (w.heap.size) (by simp) 37 [.bool false,.slice none 0 0,.bool false,.slice none 0 0])
 obtain ⟨W0,hW0⟩:=bI hS0
 rw [hW0] at hS0 ⊢
 clear hW0
 refine (HN.out _).mono ?_
 rintro e w1 hret
 obtain ⟨v1,rfl,hz1,hB⟩:=hret.z
 clear hret
 obtain ⟨t1,p1,l1,k1,rfl⟩:=hz1.open
 have hS1:=hid (hS0.out.call hB)
 clear hB
 clear hS0
 have hS2:=hid (hS1.out.fact (.z (.agg #[.bool t1,.slice p1 l1 k1]) n) hz1)
 clear hS1 hz1
 go_wp2_with fail
 refine (HD.out _).mono ?_
 rintro e w2 hret
 obtain ⟨v2,rfl,hz2,hB⟩:=hret.z
 clear hret
 obtain ⟨t2,p2,l2,k2,rfl⟩:=hz2.open
 have hS3:=hid (hS2.out.call hB)
 clear hB
 clear hS2
 have hS4:=hid (hS3.out.fact (.z (.agg #[.bool t2,.slice p2 l2 k2]) d) hz2)
 clear hS3 hz2
 go_wp2_with fail
 refine (HQ.out _ _ _ (hS4.out.get (f:=.z (.agg #[.bool t1,.slice p1 l1 k1]) n) 1 rfl) (hS4.out.get (f:=.z (.agg #[.bool t2,.slice p2 l2 k2]) d) 0 rfl) (HE.out _ hS4.out.bel)).mono ?_
 rintro e w3 ⟨v3,rfl,hr,hB⟩
 have hS5:=hid (hS4.out.call hB)
 clear hB
 clear hS4
 obtain ⟨t9,p9,l9,k9,r9,s9,u9,rfl⟩:=hr.open
 have hn:=hr.num
 have hd:=hr.d
 clear hr
 have hS6:=hid (hS5.out.fact (.z (.agg #[.bool t9,.slice p9 l9 k9]) R.num) hn)
 clear hS5 hn
 have hS7:=hid (hS6.out.fact (.z (.agg #[.bool false,.slice r9 s9 u9]) (R.den:Int)) hd)
 clear hS6 hd
 obtain ⟨⟨cR0,cR1,cR2,cR3⟩,fR0,fR1,fR2,fR3⟩:=hS7.out.f4 0 w.heap.size 37 (.bool false) (.slice none 0 0) (.bool false) (.slice none 0 0) rfl
 have hS8:=hid ((((((hS7.out).store (b:=⟨w.heap.size,37,[.bool false,.slice none 0 0,.bool false,.slice none 0 0]⟩) 0 0 (.bool t9) rfl rfl).store (b:=⟨w.heap.size,37,[.bool t9,.slice none 0 0,.bool false,.slice none 0 0]⟩) 0 1 (.slice p9 l9 k9) rfl rfl).store (b:=⟨w.heap.size,37,[.bool t9,.slice p9 l9 k9,.bool false,.slice none 0 0]⟩) 0 2 (.bool false) rfl rfl).store (b:=⟨w.heap.size,37,[.bool t9,.slice p9 l9 k9,.bool false,.slice none 0 0]⟩) 0 3 (.slice r9 s9 u9) rfl rfl).as [⟨w.heap.size,37,[.bool t9,.slice p9 l9 k9,.bool false,.slice r9 s9 u9]⟩] rfl)
 go_wp2_with fail
 clear cR0 cR1 cR2 cR3 fR0 fR1 fR2 fR3
 obtain ⟨⟨zR0,zR1,zR2,zR3⟩,-⟩:=hS8.out.f4 0 w.heap.size 37 (.bool t9) (.slice p9 l9 k9) (.bool false) (.slice r9 s9 u9) rfl
 exact bodyPost_ret (v:=.agg #[.bool t9,.slice p9 l9 k9,.bool false,.slice r9 s9 u9]) (by simp [results,Tryz.results14,go_sem,zR0,zR1,zR2,zR3]) rfl ⟨_,rfl,.mk2 (hS8.out.get (f:=.z (.agg #[.bool t9,.slice p9 l9 k9]) R.num) 1 rfl) (hS8.out.get (f:=.z (.agg #[.bool false,.slice r9 s9 u9]) (R.den:Int)) 0 rfl),hS8.out.bel⟩
end Z4
namespace Z4
open Go.RowKit Go.Sort Go.Lib
theorem MZ:∀ (k r:Nat),dI (k+1) r=UInt8.ofNat (48+r / 10 ^ k % 10) :: dI k r
 | 0,r=>by simp [dI]
 | k+1,r=>by
  rw [dI,MZ k (r / 10),List.cons_append]
  conv=>rhs;rw [dI]
  rw [Nat.div_div_eq_div_mul,Nat.pow_succ,Nat.mul_comm 10]
theorem Gg:∀ (k r:Nat),(dI k r).length=k
 | 0,_=>rfl
 | k+1,r=>by rw [dI,List.length_append,Gg k];rfl
theorem Ib (i:Nat):B4 ^ i=10 ^ (4*i):=by rw [Nat.pow_mul];rfl
theorem TG {xs:List Nat} {i k x:Nat} (dx:Dig xs) (hi:i<xs.length) (hx:xs[i]?.getD 0=x) (hk:k<4):val xs / 10 ^ (4*i+k) % 10=x / 10 ^ k % 10:=by
 have h1:=cu xs i (by omega)
 have h2:val (xs.take i)<B4 ^ i:=by have:=aU (dx.take i);rwa [List.length_take,Nat.min_eq_left (by omega)] at this
 rw [fG xs i hi,hx] at h1
 have h3:val xs / 10 ^ (4*i)=x+10000*val (xs.drop (i+1)):=by
  rw [← Ib,h1,Nat.add_mul_div_left _ _ (Nat.pow_pos jP),Nat.div_eq_of_lt h2,Nat.zero_add,iY]
 rw [Nat.pow_add,← Nat.div_div_eq_div_mul,h3]
 generalize val (xs.drop (i+1))=V
 rcases (show k=0∨k=1∨k=2∨k=3 by omega) with rfl | rfl | rfl | rfl <;> simp <;> omega
theorem JJ {n:Nat} (h:0<n):∃ x r,decDigits n=x :: r∧x.toNat≠48:=by
 obtain ⟨x,r,h1,h2⟩:∃ x r,decDigits n=x :: r∧(n≠0→x.toNat≠48):=by
  induction n using Nat.strongRecOn with
  | _ n ih =>
   by_cases h10:n<10
   ·refine ⟨UInt8.ofNat (48+n),[],by rw [decDigits,dif_pos h10],fun hn=>?_⟩
    rw [UInt8.toNat_ofNat'];omega
   ·obtain ⟨x,r,h1,h2⟩:=ih (n / 10) (by omega) (by omega)
    refine ⟨x,r ++ [UInt8.ofNat (48+n % 10)],by rw [decDigits,dif_neg h10,h1];rfl,fun _=>h2 (by omega)⟩
 exact ⟨x,r,h1,h2 (by omega)⟩
theorem aaY {xs:List Nat} (dx:Dig xs) (h:0<val xs) (hs:xs.length≤549755813888):∃ j,j≤4398046511104∧dI (4*xs.length) (val xs)=List.replicate j 48 ++ decDigits (val xs):=by
 have h1:=aU dx
 rw [Ib] at h1
 have h0:xs.length≠0:=fun e=>by
  rw [List.length_eq_zero_iff] at e;subst e;simp [val] at h
 exact ⟨4*xs.length - 1+1 - nDigits (val xs),by omega,by
  rw [show 4*xs.length=4*xs.length - 1+1 by omega]
  exact Gf (4*xs.length - 1) (val xs) (by rw [show 4*xs.length - 1+1=4*xs.length by omega];exact h1)⟩
def iI (z:Int):List UInt8:=(if z<0 then [45] else []) ++ decDigits z.natAbs
theorem TK:∀ n:Nat,n<10→(⟨#[48,49,50,51,52,53,54,55,56,57]⟩:ByteArray).extract n (n+1)=⟨#[UInt8.ofNat (48+n)]⟩:=by
 intro n hn
 rcases (show n=0∨n=1∨n=2∨n=3∨n=4∨n=5∨n=6∨n=7∨n=8∨n=9 by omega) with rfl | rfl | rfl | rfl | rfl | rfl | rfl | rfl | rfl | rfl <;> rfl
theorem SX (c:UInt8) (l:List UInt8):(⟨#[c]⟩:ByteArray) ++ ⟨l.toArray⟩=⟨(c :: l).toArray⟩:=by
 apply ByteArray.ext
 simp [ByteArray.data_append]
theorem PN (t:Bool) (p:Option Addr) (k:Nat) (w:World):Calls Tryz.prog 137 #[.agg #[.bool t,.slice p 0 k]] w (gV w [48]):=by
 go_enter Tryz.func137,Tryz.ntmps137
 go_wp2
 go_ret
 exact ⟨rfl,(Below.refl _ _).alloc (Nat.le_refl _) _⟩
theorem abR (t:Bool) (b o k:Nat) (xs:List Nat) (w:World) (hb:b<w.heap.size) (hx:Ints w b o xs) (dx:Dig xs) (hv:0<val xs) (hsz:xs.length≤549755813888) :
  Calls Tryz.prog 137 #[.agg #[.bool t,.slice (some ⟨b,o,none⟩) xs.length k]] w (gV w ((if t then [45] else []) ++ decDigits (val xs))):=by
 have hl0:xs.length≠0:=fun e=>by rw [List.length_eq_zero_iff] at e;subst e;simp [val] at hv
 have hB:=(Below.refl w.heap.size w).alloc (Nat.le_refl _) (.cells #[.bool t,.slice (some ⟨b,o,none⟩) xs.length k] 35)
 have HX:=hid (hx.below hB hb)
 have HB:=hid hB
 have HS:=hid (aaY dx hv hsz)
 have HH:=hid (JJ hv)
 obtain ⟨N,hN⟩:∃ N,val xs=N:=⟨_,rfl⟩
 have HD:=hid (fun i k x (hi:i<xs.length) (hx:xs[i]?.getD 0=x) (hk:k<4)=>hN ▸ TG (k:=k) dx hi hx hk)
 have HLn:=hid (show (decDigits (val xs)).length≤4398046511104 by
  obtain ⟨j,-,h⟩:=HS.out
  have:=congrArg List.length h
  rw [Gg,List.length_append,List.length_replicate] at this
  omega)
 rw [hN] at HS HH HLn ⊢
 obtain ⟨T,hT⟩:∃ T,(if t then [45] else []) ++ decDigits N=T:=⟨_,rfl⟩
 rw [hT]
 have HT:=hid hT
 clear hT
 have c1:(w.alloc (.cells #[.bool t,.slice (some ⟨b,o,none⟩) xs.length k] 35)).cell? ⟨w.heap.size,1,none⟩=some (.slice (some ⟨b,o,none⟩) xs.length k):=by go_simp
 have c0:(w.alloc (.cells #[.bool t,.slice (some ⟨b,o,none⟩) xs.length k] 35)).cell? ⟨w.heap.size,0,none⟩=some (.bool t):=by go_simp
 have hl1:((xs.length:Int) == 0)=false:=by rw [beq_eq_false_iff_ne];omega
 clear hB hx hN hv hl0
 go_enter Tryz.func137,Tryz.ntmps137
 go_wp2
 obtain ⟨W0,hW0⟩:∃ W0,w.alloc (.cells #[.bool t,.slice (some ⟨b,o,none⟩) xs.length k] 35)=W0:=⟨_,rfl⟩
 rw [hW0] at HX HB c0 c1 ⊢
 clear hW0 hl1
 go_loop [3,4] (fun sv iv=>∃ i:Nat,iv=.int .i64 i∧i≤xs.length∧sv=.string ⟨(dI (4*i) N).toArray⟩) (fun _ iv=>xs.length - (RowKit.intOf iv).toNat)
 case atStart=>exact ⟨0,rfl,Nat.zero_le _,rfl⟩
 case round =>
  obtain ⟨i,rfl,hi,rfl⟩:=hrel
  by_cases hlt:i<xs.length
  ·obtain ⟨x,hxi⟩:∃ x,xs[i]?.getD 0=x:=⟨_,rfl⟩
   have cx:W0.cell? ⟨b,o+i,none⟩=some (.int .i64 (x:Int)):=by rw [HX.out i hlt,hxi]
   have hx1:x<10000:=hxi ▸ dx.getD i
   have HE:=hid (fun k hk=>HD.out i k x hlt hxi hk)
   clear hxi
   go_wp2
   go_loop [3,5,6] (fun sv dv kv=>∃ k:Nat,kv=.int .i64 k∧k≤4∧dv=.int .i64 ((x / 10 ^ k:Nat):Int)∧sv=.string ⟨(dI (4*i+k) N).toArray⟩) (fun _ _ kv=>4 - (RowKit.intOf kv).toNat)
   case atStart=>exact ⟨0,rfl,by omega,by simp,rfl⟩
   case round =>
    obtain ⟨k,rfl,hk4,rfl,rfl⟩:=hrel
    by_cases hk:k<4
    ·obtain ⟨d,hd⟩:∃ d,x / 10 ^ k=d:=⟨_,rfl⟩
     have hd2:x / 10 ^ (k+1)=d / 10:=by rw [Nat.pow_succ,← Nat.div_div_eq_div_mul,hd]
     have hdl:d≤10000:=by have:=Nat.div_le_self x (10 ^ k);omega
     obtain ⟨e,he⟩:∃ e:Nat,(d:Int) % 10=(e:Int):=⟨d % 10,by omega⟩
     have he1:e<10:=by omega
     have hn:dI (4*i+(k+1)) N=UInt8.ofNat (48+e) :: dI (4*i+k) N:=by
      rw [← Nat.add_assoc,MZ,HE.out k hk,hd]
      congr 2
      omega
     have hpl:=Gg (4*i+k) N
     obtain ⟨s,hs⟩:∃ s,dI (4*i+k) N=s:=⟨_,rfl⟩
     rw [hs] at hn hpl ⊢
     rw [hd]
     have hstr:=TK e he1
     obtain ⟨c,hc⟩:∃ c,UInt8.ofNat (48+e)=c:=⟨_,rfl⟩
     rw [hc] at hn hstr
     have HN:=hid hn
     have HD2:=hid hd2
     have hcs:=SX c s
     clear hn hd2 hd hs hc
     go_wp2
     go_round
     case rel=>exact ⟨k+1,by go_num,by omega,by rw [HD2.out];first | rfl | go_num,by rw [HN.out]⟩
     case measure=>simp [RowKit.intOf];omega
    ·obtain rfl:k=4:=by omega
     go_wp2
     go_round
     case rel=>exact ⟨i+1,by go_num,by omega,by rw [show 4*(i+1)=4*i+4 by omega]⟩
     case measure=>simp [RowKit.intOf];omega
  ·obtain rfl:i=xs.length:=by omega
   obtain ⟨j0,hjl,hj0⟩:=HS.out
   rw [hj0]
   clear hj0
   go_wp2
   go_loop [3] (fun sv=>∃ j:Nat,sv=.string ⟨(List.replicate j 48 ++ decDigits N).toArray⟩∧j≤4398046511104) (fun sv=>match sv with | .string s=>s.size | _=>0)
   case atStart=>exact ⟨j0,rfl,hjl⟩
   case round =>
    obtain ⟨j,rfl,hj⟩:=hrel
    cases j with
    | zero =>
     obtain ⟨x,r,hr,hne⟩:=HH.out
     rw [List.replicate_zero,List.nil_append,hr]
     have hln:=HLn.out
     rw [hr,List.length_cons] at hln
     have HR:=hid hr
     have hb:(((((⟨(x :: r).toArray⟩:ByteArray)[0]'(by simp [ByteArray.size])).toNat:Nat):Int) == 48)=false:=by rw [beq_eq_false_iff_ne];show ((x.toNat:Nat):Int)≠48;omega
     clear hr
     cases t with
     | false =>
      go_wp2
      go_ret
      refine ⟨?_,HB.out⟩
      rw [← HT.out,HR.out];rfl
     | true =>
      go_wp2
      go_ret
      refine ⟨?_,HB.out⟩
      rw [← HT.out,HR.out];rfl
    | succ j =>
     obtain ⟨s,hs⟩:∃ s,List.replicate j 48 ++ decDigits N=s:=⟨_,rfl⟩
     rw [List.replicate_succ,List.cons_append,hs]
     have HR:=hid hs
     clear hs
     have hb:(((((⟨(48 :: s).toArray⟩:ByteArray)[0]'(by simp [ByteArray.size])).toNat:Nat):Int) == 48)=true:=by rw [beq_iff_eq];rfl
     go_wp2
     go_round
     case rel=>exact ⟨j,by rw [HR.out];exact congrArg Value.string (extract_drop (48 :: s) 1),by omega⟩
     case measure=>simp [ByteArray.size]
end Z4
end Go.Proofs.YthalajpklaodkaaGreatDoor
