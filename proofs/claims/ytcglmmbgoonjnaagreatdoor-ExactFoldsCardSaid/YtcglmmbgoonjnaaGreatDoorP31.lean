/- What the proof rests on, part 31. -/
import Derived.Test.YtcglmmbgoonjnaaGreatDoorP30
import Derived.Test.YtcglmmbgoonjnaaGreatDoorP26
import Derived.Test.YtcglmmbgoonjnaaGreatDoorP22
import Derived.Test.YtcglmmbgoonjnaaGreatDoorP27
namespace Go.Proofs.YtcglmmbgoonjnaaGreatDoor
set_option maxRecDepth 100000
set_option maxHeartbeats 80000000
namespace Rx
open Go.RowKit
inductive Fd
 | l (s:Nat) (e:RE) (k:Nat)
 | z (s:Nat) (e:RE) (k:Nat)
 | r (s:Nat) (e:RE) (k:Nat)
 | n (b s:Nat)
 | i (s:Nat) (e:RE)
def Fd.nm:Fd→List Nat
 | .n b s=>[b,s]
 | .i s _=>[s]
 | .l s _ _ | .z s _ _=>[s]
 | .r s _ _=>[s,s+1]
def IsG (W:World) (v:Value) (r:Rat) (k:Nat):Prop:=∃ xs,Z4.IsL 0 W v xs∧Z4.Dig xs∧Z4.aA xs∧((Z4.val xs:Nat):Rat)=r∧Z4.val xs<B64 ^ k
def IsY (W:World) (v:Value) (r:Rat) (k:Nat):Prop:=∃ z:Int,Z4.IsZ W v z∧(z:Rat)=r∧z.natAbs<B64 ^ k
def Fd.on (β:Nat→Rat) (ρ:Env):Fd→World→Prop
 | .l s e k,W=>IsG W (.slice (ρ s).p (ρ s).l (ρ s).c) (e.ev β) k
 | .z s e k,W=>IsY W (.agg ((zC s).map (Cell.den ρ)).toArray) (e.ev β) k
 | .r s e k,W=>Z4.IsR W (.agg ((aW s).map (Cell.den ρ)).toArray) (e.ev β)∧Fits k (e.ev β)
 | .n b s,_=>(ρ b).u=((ρ s).l:Int)
 | .i s e,_=>(((ρ s).u:Int):Rat)=e.ev β
def gZ:List Fd→Nat→Option (RE×Nat)
 | [],_=>none
 | .l s e k :: r,n=>if s=n then some (e,k) else gZ r n
 | _ :: r,n=>gZ r n
theorem fP {n:Nat} {e:RE} {k:Nat}:∀ {db:List Fd},gZ db n=some (e,k)→.l n e k∈db
 | [],h=>by simp [gZ] at h
 | f :: r,h=>by
  cases f with
  | l s e' k' =>
   simp only [gZ] at h
   split at h
   ·rename_i hs;cases h;subst hs;simp
   ·exact List.mem_cons_of_mem _ (fP h)
  | z _ _ _=>exact List.mem_cons_of_mem _ (fP h)
  | r _ _ _=>exact List.mem_cons_of_mem _ (fP h)
  | n _ _=>exact List.mem_cons_of_mem _ (fP h)
  | i _ _=>exact List.mem_cons_of_mem _ (fP h)
def SR (β:Nat→Rat):Sys where
 F:=Fd
 nm:=Fd.nm
 on:=Fd.on β
 okC:=okC
 cg:=fun {ρ ρ' f W} h hf=>by
  cases f with
  | l s e k=>simp only [Fd.on] at hf ⊢;rw [← h s (by simp [Fd.nm])];exact hf
  | z s e k =>
   simp only [Fd.nm,List.mem_cons,List.not_mem_nil,or_false] at h
   simp only [Fd.on] at hf ⊢
   rwa [cells_congr (ρ:=ρ') (ρ':=ρ) (l:=zC s) fun n hn=>(h n (by simpa [zC,Cell.nm] using hn)).symm]
  | r s e k =>
   simp only [Fd.nm,List.mem_cons,List.not_mem_nil,or_false] at h
   simp only [Fd.on] at hf ⊢
   rwa [cells_congr (ρ:=ρ') (ρ':=ρ) (l:=aW s) fun n hn=>(h n (by simpa [aW,Cell.nm] using hn)).symm]
  | n b t=>simp only [Fd.on] at hf ⊢;rw [← h b (by simp [Fd.nm]),← h t (by simp [Fd.nm])];exact hf
  | i t e=>simp only [Fd.on] at hf ⊢;rw [← h t (by simp [Fd.nm])];exact hf
 bl:=fun {ρ f W W'} hb hf=>by
  cases f with
  | l s e k=>obtain ⟨xs,h1,h2⟩:=hf;exact ⟨xs,h1.below hb,h2⟩
  | z s e k=>obtain ⟨z,h1,h2⟩:=hf;exact ⟨z,h1.below hb,h2⟩
  | r s e k=>exact ⟨Z4.IsR.below hf.1 hb,hf.2⟩
  | n b t=>exact hf
  | i t e=>exact hf
 st:=fun {ρ f W b T cs i u} hok _ hb hf=>by
  have hv:=qZ ρ hok
  have hb':Go.Proofs.YtcglmmbgoonjnaaGreatDoor.Bx W b T (cs.map (Cell.den ρ)):=hb
  cases f with
  | l s e k=>obtain ⟨xs,h1,h2⟩:=hf;exact ⟨xs,h1.setBox hb' hv,h2⟩
  | z s e k=>obtain ⟨z,h1,h2⟩:=hf;exact ⟨z,h1.setBox hb' hv,h2⟩
  | r s e k=>exact ⟨Z4.IsR.setBox hf.1 hb' hv,hf.2⟩
  | n b t=>exact hf
  | i t e=>exact hf
 lit:=fun x b=>if 0<x∧x<10000 then [.l b (.c x) 1] else []
 litOk:=fun {x b f ρ W T} hm h1 h2 h3=>by
  split at hm
  ·rename_i hx
   rw [List.mem_singleton] at hm
   subst hm
   obtain ⟨m,rfl⟩:∃ m:Nat,x=(m:Int):=⟨x.toNat,by omega⟩
   show IsG _ (.slice (ρ b).p (ρ b).l (ρ b).c) _ 1
   rw [h1,h2,h3]
   refine ⟨[m],.inr ⟨W.heap.size,0,1,rfl,Nat.zero_le _,by simp,Nat.le_refl _,fun j hj=>?_⟩,fun y hy=>?_,fun _=>?_,?_,?_⟩
   ·have:j=0:=by simpa using hj
    subst this
    go_simp
   ·rw [List.mem_singleton] at hy;subst hy;show _<10000;omega
   ·simp;omega
   ·simp [Z4.val,RE.ev];rfl
   ·simp [Z4.val];unfold B64;omega
  ·cases hm
 elt:=fun db s j b=>match j,gZ db s with
  | 0,some (e,_)=>if jG e then some [.i b (rem e (.c 10000))] else none
  | _,_=>none
 eltOk:=fun {db s j b fs ρ W} h hf=>by
  split at h
  ·rename_i e k hx
   split at h
   ·rename_i hp
    cases h
    obtain ⟨xs,h1,h2,h3,h4,-⟩:=(show IsG W (.slice (ρ s).p (ρ s).l (ρ s).c) (e.ev β) k from hf _ (fP hx))
    have hpos:=AV (β:=β) hp
    rcases h1 with ⟨-,rfl⟩ | ⟨b0,o,k0,hv,-,-,-,h5⟩
    ·exfalso
     rw [← h4] at hpos
     exact absurd hpos (by decide)
    ·obtain ⟨hp1,hp2,-⟩:=Value.slice.inj hv
     cases xs with
     | nil=>exfalso;rw [← h4] at hpos;exact absurd hpos (by decide)
     | cons x r =>
      have hc:=h5 0 (by simp)
      refine ⟨by rw [hp2];simp,_,(x:Int),hp1,by rw [add_off];exact hc,fun ρ' _ hu f hm=>?_⟩
      rw [List.mem_singleton] at hm
      subst hm
      show (((ρ' b).u:Int):Rat)=_
      rw [hu]
      have hx1:x<10000:=h2 x (by simp)
      have:=Tf (β:=β) (n:=Z4.val (x :: r)) (m:=10000) (e:=e) (e':=.c 10000) (by decide) h4 rfl
      rw [← this,show Z4.val (x :: r) % 10000=x by show (x+10000*Z4.val r) % 10000=x;omega]
      rfl
   ·cases h
  ·cases h
 len:=fun s b=>[.n b s]
 lenOk:=fun {s b f ρ W} hm h=>by
  rw [List.mem_singleton] at hm
  subst hm
  exact h
def HR (β:Nat→Rat):Tests (SR β) where
 eq:=fun _ _ _=>none
 ok:=fun h=>(by cases h)
theorem iK (k:Nat):B64 ^ k≤Z4.B4 ^ (5*k):=by
 rw [Nat.pow_mul]
 exact Nat.pow_le_pow_left (by decide) k
theorem qW {xs:List Nat} {k:Nat} (t:Z4.aA xs) (h:Z4.val xs<B64 ^ k):xs.length≤5*k:=Z4.bY t (Nat.lt_of_lt_of_le h (iK k))
def asG (db:List Fd):Cell→Option (RE×Nat)
 | .os s=>gZ db s
 | .nils=>some (.c 0,0)
 | _=>none
theorem oK {β:Nat→Rat} {ρ:Env} {W:World} {db:List Fd} {c:Cell} {e:RE} {k:Nat} (h:asG db c=some (e,k)) (hf:∀ f∈db,(SR β).on ρ f W):IsG W (c.den ρ) (e.ev β) k:=by
 unfold asG at h
 split at h
 ·exact hf _ (fP h)
 ·cases h
  exact ⟨[],Z4.IsL.nil 0 W,Z4.Dig.nil,fun h=>absurd rfl h,rfl,by simp [Z4.val]⟩
 ·cases h
section
variable (β:Nat→Rat) (h:Hint)
def yM:Con (SR β) where
 fn:=167
 app:=fun db b args=>match args with
  | [.e (.s x),.e (.s y)]=>match asG db x,asG db y with
   | some (e,k),some (e',k')=>if decide (k≤K1) && decide (k'≤K1) then some (.e (.s (.os b)),[.l b (.add e e') (max k k' + 1)]) else none
   | _,_=>none
  | _=>none
def yJ:Con (SR β) where
 fn:=169
 app:=fun db b args=>match args with
  | [.e (.s x),.e (.s y)]=>match asG db x,asG db y with
   | some (e,k),some (e',k')=>if decide (k≤K1) && decide (k'≤K1) && (cmB h e e').any (0≤·) then some (.e (.s (.os b)),[.l b (.sub e e') k]) else none
   | _,_=>none
  | _=>none
def yh:Con (SR β) where
 fn:=168
 app:=fun db _ args=>match args with
  | [.e (.s x),.e (.s y)]=>match asG db x,asG db y with
   | some (e,k),some (e',k')=>if decide (k≤K1) && decide (k'≤K1) then (match cmB h e e' with
     | some c=>some (.e (.s (.it .i64 c)),[])
     | none=>none) else none
   | _,_=>none
  | _=>none
def yZ:Con (SR β) where
 fn:=134
 app:=fun db _ args=>match args with
  | [.e (.s (.bl t)),.e (.s (.os s))]=>match gZ db s with
   | some (e,_)=>if !t then some (.e (.a [.bl false,.os s]),[]) else
     if nzB h e then some (.e (.a [.bl true,.os s]),[]) else
     if eqB h e (.c 0) then some (.e (.a [.bl false,.os s]),[]) else none
   | none=>none
  | _=>none
def cz:List (Con (SR β)):=[yM β,yJ β h,yh β h,yZ β h]
end
section
variable {β:Nat→Rat} {h:Hint}
def Anr (β:Nat→Rat) (ρ:Env) (b:Nat) (W:World) (res:SV) (new:List Fd) (e:Ending) (W':World):Prop:=
 ∃ ρ':Env,(∀ n,n<b∨b+M≤n→ρ' n=ρ n)∧e=.returned (res.den ρ')∧Below W.heap.size W W'∧∀ g∈new,(SR β).on ρ' g W'
theorem SY {a b:Nat}:((a:Nat):Rat)<((b:Nat):Rat)↔a<b:=by exact_mod_cast Iff.rfl
theorem Dc {f:FuncId} {vals:Array Value} {W:World} {ρ:Env} {b:Nat} {n:Nat} {e:RE} {k:Nat} (hc:Calls Tryz.prog f vals W (Z4.iY W n)) (hn:((n:Nat):Rat)=e.ev β) (hk:n<B64 ^ k) :
  Calls Tryz.prog f vals W (Anr β ρ b W (.e (.s (.os b))) [.l b e k]):=by
 refine hc.mono fun _ W' ⟨v,ds,he,hl,hd,ht,hv,hb⟩=>?_
 obtain ⟨p,l,c,rfl⟩:=hl.mk
 refine ⟨aH ρ b [⟨false,0,p,l,c,.empty,0⟩],gu (by simp [M]),?_,hb,fun g hg=>?_⟩
 ·rw [he];simp [SV.den,El.den,Cell.den,aH]
 ·rw [List.mem_singleton] at hg
  subst hg
  refine ⟨ds,?_,hd,ht,by rw [hv];exact hn,by rw [hv];exact hk⟩
  simpa [aH] using hl.mono (Nat.zero_le _)
theorem KT:(yM β).Ok Tryz.prog (SR β) EV:=by
 intro db b args res new ha ρ W hf hE
 simp only [yM] at ha
 split at ha
 ·split at ha
  ·rename_i x y _ _ e k e' k' hx hy
   split at ha
   ·rename_i hk
    simp only [Bool.and_eq_true,decide_eq_true_eq] at hk
    cases ha
    obtain ⟨xs,h1,h2,h3,h4,h5⟩:=oK hx hf
    obtain ⟨ys,g1,g2,g3,g4,g5⟩:=oK hy hf
    refine Dc (e:=.add e e') (Z4.Sm _ _ xs ys W h1 g1 h2 g2 h3 g3 (Nat.le_trans (qW h3 h5) (by simp only [K1] at hk;omega)) (Nat.le_trans (qW g3 g5) (by simp only [K1] at hk;omega))) (by rw [Rat.natCast_add,h4,g4];rfl) ?_
    have a1:=Nat.pow_le_pow_right (show 0<B64 by decide) (Nat.le_max_left k k')
    have a2:=Nat.pow_le_pow_right (show 0<B64 by decide) (Nat.le_max_right k k')
    rw [Nat.pow_succ]
    have:B64 ^ max k k' * 2≤B64 ^ max k k' * B64:=Nat.mul_le_mul_left _ (by decide)
    omega
   ·cases ha
  ·cases ha
 ·cases ha
theorem tZ {m n:Nat}:aK ((m:Nat):Rat) ((n:Nat):Rat)=aC m n:=by
 unfold aK aC
 have e:((m:Nat):Rat)=((n:Nat):Rat)↔m=n:=by exact_mod_cast Iff.rfl
 simp only [SY,e]
theorem Kt {m n:Nat} (h:0≤aC m n):n≤m:=by
 unfold aC at h
 split at h
 ·omega
 ·omega
theorem KQ (ok:h.Ok β):(yJ β h).Ok Tryz.prog (SR β) EV:=by
 intro db b args res new ha ρ W hf hE
 simp only [yJ] at ha
 split at ha
 ·split at ha
  ·rename_i x y _ _ e k e' k' hx hy
   split at ha
   ·rename_i hk
    simp only [Bool.and_eq_true,decide_eq_true_eq] at hk
    cases ha
    obtain ⟨xs,h1,h2,h3,h4,h5⟩:=oK hx hf
    obtain ⟨ys,g1,g2,g3,g4,g5⟩:=oK hy hf
    obtain ⟨c,hc,hc0⟩:∃ c,cmB h e e' = some c∧0≤c:=by
     cases hcm:cmB h e e' with
     | none=>rw [hcm] at hk;simp at hk
     | some c=>rw [hcm] at hk;exact ⟨c,rfl,by simpa using hk.2⟩
    have hle:Z4.val ys≤Z4.val xs:=by
     have:=oL ok hc
     rw [← h4,← g4,tZ] at this
     exact Kt (by omega)
    refine Dc (e:=.sub e e') (Z4.nO _ _ xs ys W h1 g1 h2 g2 g3 hle (Nat.le_trans (qW h3 h5) (by simp only [K1] at hk;omega))) ?_ (by omega)
    show _=e.ev β - e'.ev β
    rw [← h4,← g4]
    have:Z4.val xs - Z4.val ys+Z4.val ys=Z4.val xs:=by omega
    have h6:=congrArg (fun n:Nat=>(n:Rat)) this
    simp only [Rat.natCast_add] at h6
    grind
   ·cases ha
  ·cases ha
 ·cases ha
theorem KD (ok:h.Ok β):(yh β h).Ok Tryz.prog (SR β) EV:=by
 intro db b args res new ha ρ W hf hE
 simp only [yh] at ha
 split at ha
 ·split at ha
  ·rename_i x y _ _ e k e' k' hx hy
   split at ha
   ·rename_i hk
    simp only [Bool.and_eq_true,decide_eq_true_eq] at hk
    split at ha
    ·rename_i c hc
     cases ha
     obtain ⟨xs,h1,h2,h3,h4,h5⟩:=oK hx hf
     obtain ⟨ys,g1,g2,g3,g4,g5⟩:=oK hy hf
     have hcc:=oL ok hc
     rw [← h4,← g4,tZ] at hcc
     refine (Z4.sO _ _ xs ys W h1 g1 h2 g2 h3 g3 (Nat.le_trans (qW h3 h5) (by simp only [K1] at hk;omega)) (Nat.le_trans (qW g3 g5) (by simp only [K1] at hk;omega))).mono fun _ W' ⟨he,q,hq⟩=>⟨ρ,fun _ _=>rfl,?_,?_,fun g hg=>by cases hg⟩
     ·rw [he,hcc];rfl
     ·subst hq
      exact Z4.dO (Below.refl _ _) q
    ·cases ha
   ·cases ha
  ·cases ha
 ·cases ha
theorem Lc (ok:h.Ok β):(yZ β h).Ok Tryz.prog (SR β) EV:=by
 intro db b args res new ha ρ W hf hE
 simp only [yZ] at ha
 split at ha
 ·rename_i t s
  split at ha
  ·rename_i e k hx
   obtain ⟨xs,h1,h2,h3,h4,h5⟩:=hf _ (fP hx)
   have hlen:=h1.len
   have hc:=Z4.Hr t (ρ s).p (ρ s).l (ρ s).c W
   have hpos:e.ev β≠0→decide (0<(ρ s).l)=true:=fun hne=>by
    rw [decide_eq_true_eq]
    rcases Nat.eq_zero_or_pos (ρ s).l with h0 | h0
    ·exfalso;apply hne;rw [← h4]
     have:xs=[]:=List.length_eq_zero_iff.1 (by omega)
     subst this;rfl
    ·exact h0
   have hzero:e.ev β=0→decide (0<(ρ s).l)=false:=fun h0=>by
    rw [decide_eq_false_iff_not]
    intro hp
    have hne:xs≠[]:=fun e=>by subst e;simp at hlen;omega
    have:=Z4.kF h3 hne
    have h6:((Z4.val xs:Nat):Rat)=((0:Nat):Rat):=h4.trans h0
    have:Z4.val xs=0:=by exact_mod_cast h6
    omega
   have hans:∀ x:Bool,(t && decide (0<(ρ s).l))=x→Calls Tryz.prog 134 #[.bool t,.slice (ρ s).p (ρ s).l (ρ s).c] W (Anr β ρ b W (.e (.a [.bl x,.os s])) []):=fun x hx=>by
    refine hc.mono fun _ W' ⟨he,hb⟩=>⟨ρ,fun _ _=>rfl,?_,hb,fun g hg=>by cases hg⟩
    rw [he,hx];rfl
   split at ha
   ·rename_i ht
    cases ha
    exact hans false (by simp at ht;simp [ht])
   ·rename_i ht
    have ht':t=true:=by simpa using ht
    split at ha
    ·rename_i hn
     cases ha
     exact hans true (by rw [ht',hpos (pY ok hn)];rfl)
    ·split at ha
     ·rename_i hn
      cases ha
      exact hans false (by rw [hzero ((oW ok hn).trans rfl)];simp)
     ·cases ha
  ·cases ha
 ·cases ha
theorem DU (ok:h.Ok β):∀ c∈cz β h,c.Ok Tryz.prog (SR β) EV:=by
 unfold cz
 simp only [List.forall_mem_cons,List.not_mem_nil,false_imp_iff,implies_true,and_true]
 exact ⟨KT,KQ ok,KD ok,Lc ok⟩
end
end Rx
namespace Rx
open Go.RowKit
def isY (t:Bool) (e:RE):Option (SV×List Fd)→Bool
 | some (.e (.a [.bl x,.os s]),fs)=>match gZ fs s with
  | some (e',_)=>x == t && e'.beq e
  | none=>false
 | _=>false
theorem PL {t:Bool} {e:RE} {o:Option (SV×List Fd)} (h:isY t e o=true):∃ s fs k,o=some (.e (.a [.bl t,.os s]),fs)∧gZ fs s=some (e,k):=by
 unfold isY at h
 split at h
 ·split at h
  ·rename_i x s fs _ e' k ha
   simp only [Bool.and_eq_true,beq_iff_eq] at h
   exact ⟨s,fs,k,by rw [h.1],by rw [ha,RE.beq_eq h.2]⟩
  ·cases h
 ·cases h
def isJ (x:Int):Option (SV×List Fd)→Bool
 | some (.e (.s (.it .i64 y)),_)=>x == y
 | _=>false
theorem ET {x:Int} {o:Option (SV×List Fd)} (h:isJ x o=true):∃ fs,o=some (.e (.s (.it .i64 x)),fs):=by
 unfold isJ at h
 split at h
 ·rename_i y fs
  have e:x=y:=by simpa using h
  subst e;exact ⟨fs,rfl⟩
 ·cases h
section
variable {a b:Int} {v1 v2:Value} {w:World}
theorem Ii {f:FuncId} {R:Ending→World→Prop} (h1:Z4.IsZ w v1 a) (h2:Z4.IsZ w v2 b) (ka:a.natAbs<B64 ^ K1) (kb:b.natAbs<B64 ^ K1)
  (go:∀ ρ:Env,(∀ g∈[Fd.l 0 (.v 0) K1,.l 1 (.v 1) K1],Fd.on (bet [((a.natAbs:Nat):Rat),((b.natAbs:Nat):Rat)]) ρ g w)→Calls Tryz.prog f ([.e (.a [.bl (decide (a<0)),.os 0]),.e (.a [.bl (decide (b<0)),.os 1])].map (SV.den ρ)).toArray w R):Calls Tryz.prog f #[v1,v2] w R:=by
 obtain ⟨p1,l1,c1,xs,rfl,L1,dx,tx,hv1⟩:=h1
 obtain ⟨p2,l2,c2,ys,rfl,L2,dy,ty,hv2⟩:=h2
 refine go (ev [⟨false,0,p1,l1,c1,.empty,0⟩,⟨false,0,p2,l2,c2,.empty,0⟩]) fun g hg=>?_
 simp only [List.mem_cons,List.not_mem_nil,or_false] at hg
 rcases hg with rfl | rfl
 ·exact ⟨xs,L1,dx,tx,by rw [hv1];rfl,by rw [hv1];exact ka⟩
 ·exact ⟨ys,L2,dy,ty,by rw [hv2];rfl,by rw [hv2];exact kb⟩
theorem lK {β:Nat→Rat} {h:Hint} (ok:h.Ok β) {fuel:Nat} {f:FuncId} {args:List SV} {fs:List Fd} {n0:Nat} {ρ:Env} {t:Bool} {e:RE} {z:Int} (hr:isY t e (runF Tryz.prog (SR β) (HR β) (cz β h) fuel f args fs n0)=true) (hE:EV w) (hf:∀ g∈fs,Fd.on β ρ g w)
  (hz:∀ n:Nat,((n:Nat):Rat)=e.ev β→n=z.natAbs∧t=decide (z<0)):Calls Tryz.prog f (args.map (SV.den ρ)).toArray w (Z4.iI w z):=by
 obtain ⟨s,fs',k,heq,ha⟩:=PL hr
 refine (runF_ok mixed (DU ok) heq (dM hE) hf).mono fun x W' ⟨ρ',_,hx,hb,hfs⟩=>?_
 obtain ⟨xs,g1,g2,g3,g4,g5⟩:=hfs _ (fP ha)
 obtain ⟨h1,h2⟩:=hz _ g4
 exact ⟨_,hx,⟨_,_,_,xs,by rw [h2];rfl,g1,g2,g3,h1⟩,hb⟩
theorem lI {β:Nat→Rat} {h:Hint} (ok:h.Ok β) {fuel:Nat} {f:FuncId} {args:List SV} {fs:List Fd} {n0:Nat} {ρ:Env} {y:Int} (hr:isJ y (runF Tryz.prog (SR β) (HR β) (cz β h) fuel f args fs n0)=true) (hE:EV w) (hf:∀ g∈fs,Fd.on β ρ g w):Calls Tryz.prog f (args.map (SV.den ρ)).toArray w (bD w (.int .i64 y)):=by
 obtain ⟨fs',heq⟩:=ET hr
 exact (runF_ok mixed (DU ok) heq (dM hE) hf).mono fun x W' ⟨ρ',_,hx,hb,_⟩=>⟨hx,hb⟩
theorem jE {β:Nat→Rat} {l:List (RE×RE×Int)} {nz:List RE} {eq:List (RE×RE)} (h:∀ p∈l,aK (p.1.ev β) (p.2.1.ev β)=p.2.2) (h2:∀ p∈nz,p.ev β≠0) (h3:∀ p∈eq,p.1.ev β=p.2.ev β):Hint.Ok β { cm:=l,nz:=nz,eq:=eq }:=
 ⟨h3,fun p h=>(by cases h),h2,fun p h=>(by cases h),h⟩
abbrev x0:RE:=.v 0
abbrev x1:RE:=.v 1
theorem pW {m n k:Nat} (h:((k:Nat):Rat)=((m:Nat):Rat) - ((n:Nat):Rat)):(k:Int)=m - n:=by
 have:((k+n:Nat):Rat)=((m:Nat):Rat):=by rw [Rat.natCast_add,h];grind
 have:k+n=m:=by exact_mod_cast this
 omega
theorem FX {m n k:Nat} (h:((k:Nat):Rat)=((m:Nat):Rat)+((n:Nat):Rat)):k=m+n:=by
 rw [← Rat.natCast_add] at h
 exact_mod_cast h
theorem H9 {m n:Nat} (h:m≠n):((m:Nat):Rat) - ((n:Nat):Rat)≠0:=fun e=>h (by
 have:((m:Nat):Rat)=((n:Nat):Rat):=by grind
 exact_mod_cast this)
theorem tY (m n:Nat):(aK (m:Rat) (n:Rat)=1∧aK (n:Rat) (m:Rat) = -1∧n<m)∨(aK (m:Rat) (n:Rat)=0∧aK (n:Rat) (m:Rat)=0∧m=n)∨(aK (m:Rat) (n:Rat) = -1∧aK (n:Rat) (m:Rat)=1∧m<n):=by
 rw [tZ,tZ]
 unfold aC
 rcases Nat.lt_trichotomy m n with h | h | h
 ·right;right;rw [if_pos h,if_neg (by omega),if_neg (by omega)];exact ⟨rfl,rfl,h⟩
 ·right;left;subst h;simp
 ·left;rw [if_neg (by omega),if_neg (by omega),if_pos h];exact ⟨rfl,rfl,h⟩
theorem Vh (h1:Z4.IsZ w v1 a) (h2:Z4.IsZ w v2 b) (ka:a.natAbs<B64 ^ K1) (kb:b.natAbs<B64 ^ K1) (hE:EV w):Calls Tryz.prog 118 #[v1,v2] w (Z4.iI w (a+b)):=by
 refine Ii h1 h2 ka kb fun ρ hg=>?_
 obtain ⟨β,hβ⟩:∃ β,β=bet [((a.natAbs:Nat):Rat),((b.natAbs:Nat):Rat)]:=⟨_,rfl⟩
 have e0:RE.ev β x0=((a.natAbs:Nat):Rat):=by rw [hβ];rfl
 have e1:RE.ev β x1=((b.natAbs:Nat):Rat):=by rw [hβ];rfl
 rw [← hβ] at hg
 have hadd:RE.ev β (.add x0 x1)=((a.natAbs:Nat):Rat)+((b.natAbs:Nat):Rat):=by rw [RE.ev,e0,e1]
 have hsub:RE.ev β (.sub x0 x1)=((a.natAbs:Nat):Rat) - ((b.natAbs:Nat):Rat):=by rw [RE.ev,e0,e1]
 have hbus:RE.ev β (.sub x1 x0)=((b.natAbs:Nat):Rat) - ((a.natAbs:Nat):Rat):=by rw [RE.ev,e0,e1]
 clear hβ
 rcases Int.lt_or_le a 0 with ha | ha <;> rcases Int.lt_or_le b 0 with hb | hb
 ·rw [decide_eq_true ha,decide_eq_true hb]
  have ok:Hint.Ok β { nz:=[.add x0 x1] }:=jE (fun p h=>by cases h) (fun p hp=>by simp at hp;subst hp;rw [hadd,← Rat.natCast_add];intro h;exact absurd (show a.natAbs+b.natAbs=0 by exact_mod_cast h) (by omega)) (fun p h=>by cases h)
  refine lK (t:=true) (e:=.add x0 x1) ok (fuel:=1) (n0:=2) (by kernel_rfl) hE hg fun n hn=>?_
  rw [hadd] at hn
  have:=FX hn
  exact ⟨by omega,(decide_eq_true (by omega)).symm⟩
 ·rw [decide_eq_true ha,decide_eq_false (by omega)]
  rcases tY a.natAbs b.natAbs with ⟨h3,h4,h5⟩ | ⟨h3,h4,h5⟩ | ⟨h3,h4,h5⟩
  ·have ok:Hint.Ok β { cm:=[(x0,x1,1)],nz:=[.sub x0 x1] }:=jE (fun p hp=>by simp at hp;subst hp;rw [e0,e1];exact h3) (fun p hp=>by simp at hp;subst hp;rw [hsub];exact H9 (by omega)) (fun p h=>by cases h)
   refine lK (t:=true) (e:=.sub x0 x1) ok (fuel:=1) (n0:=2) (by kernel_rfl) hE hg fun n hn=>?_
   rw [hsub] at hn
   have:=pW hn
   exact ⟨by omega,(decide_eq_true (by omega)).symm⟩
  ·have ok:Hint.Ok β { cm:=[(x0,x1,0)],eq:=[(.sub x0 x1,.c 0)] }:=jE (fun p hp=>by simp at hp;subst hp;rw [e0,e1];exact h3) (fun p h=>by cases h) (fun p hp=>by simp at hp;subst hp;rw [hsub,h5];simp [RE.ev];grind)
   refine lK (t:=false) (e:=.sub x0 x1) ok (fuel:=1) (n0:=2) (by kernel_rfl) hE hg fun n hn=>?_
   rw [hsub] at hn
   have:=pW hn
   exact ⟨by omega,(decide_eq_false (by omega)).symm⟩
  ·have ok:Hint.Ok β { cm:=[(x0,x1,-1),(x1,x0,1)] }:=jE (fun p hp=>by simp at hp;rcases hp with rfl | rfl <;> rw [e0,e1] <;> assumption) (fun p h=>by cases h) (fun p h=>by cases h)
   refine lK (t:=false) (e:=.sub x1 x0) ok (fuel:=1) (n0:=2) (by kernel_rfl) hE hg fun n hn=>?_
   rw [hbus] at hn
   have:=pW hn
   exact ⟨by omega,(decide_eq_false (by omega)).symm⟩
 ·rw [decide_eq_false (by omega),decide_eq_true hb]
  rcases tY a.natAbs b.natAbs with ⟨h3,h4,h5⟩ | ⟨h3,h4,h5⟩ | ⟨h3,h4,h5⟩
  ·have ok:Hint.Ok β { cm:=[(x0,x1,1)] }:=jE (fun p hp=>by simp at hp;subst hp;rw [e0,e1];exact h3) (fun p h=>by cases h) (fun p h=>by cases h)
   refine lK (t:=false) (e:=.sub x0 x1) ok (fuel:=1) (n0:=2) (by kernel_rfl) hE hg fun n hn=>?_
   rw [hsub] at hn
   have:=pW hn
   exact ⟨by omega,(decide_eq_false (by omega)).symm⟩
  ·have ok:Hint.Ok β { cm:=[(x0,x1,0)] }:=jE (fun p hp=>by simp at hp;subst hp;rw [e0,e1];exact h3) (fun p h=>by cases h) (fun p h=>by cases h)
   refine lK (t:=false) (e:=.sub x0 x1) ok (fuel:=1) (n0:=2) (by kernel_rfl) hE hg fun n hn=>?_
   rw [hsub] at hn
   have:=pW hn
   exact ⟨by omega,(decide_eq_false (by omega)).symm⟩
  ·have ok:Hint.Ok β { cm:=[(x0,x1,-1),(x1,x0,1)],nz:=[.sub x1 x0] }:=jE (fun p hp=>by simp at hp;rcases hp with rfl | rfl <;> rw [e0,e1] <;> assumption) (fun p hp=>by simp at hp;subst hp;rw [hbus];exact H9 (by omega)) (fun p h=>by cases h)
   refine lK (t:=true) (e:=.sub x1 x0) ok (fuel:=1) (n0:=2) (by kernel_rfl) hE hg fun n hn=>?_
   rw [hbus] at hn
   have:=pW hn
   exact ⟨by omega,(decide_eq_true (by omega)).symm⟩
 ·rw [decide_eq_false (by omega),decide_eq_false (by omega)]
  refine lK (t:=false) (e:=.add x0 x1) (fQ β) (fuel:=1) (n0:=2) (by kernel_rfl) hE hg fun n hn=>?_
  rw [hadd] at hn
  have:=FX hn
  exact ⟨by omega,(decide_eq_false (by omega)).symm⟩
theorem Vj (h1:Z4.IsZ w v1 a) (h2:Z4.IsZ w v2 b) (ka:a.natAbs<B64 ^ K1) (kb:b.natAbs<B64 ^ K1) (hE:EV w):Calls Tryz.prog 124 #[v1,v2] w (bD w (.int .i64 (if a<b then -1 else if a=b then 0 else 1))):=by
 obtain ⟨y,hy⟩:∃ y:Int,(if a<b then -1 else if a=b then 0 else 1)=y:=⟨_,rfl⟩
 rw [hy]
 refine Ii h1 h2 ka kb fun ρ hg=>?_
 obtain ⟨β,hβ⟩:∃ β,β=bet [((a.natAbs:Nat):Rat),((b.natAbs:Nat):Rat)]:=⟨_,rfl⟩
 have e0:RE.ev β x0=((a.natAbs:Nat):Rat):=by rw [hβ];rfl
 have e1:RE.ev β x1=((b.natAbs:Nat):Rat):=by rw [hβ];rfl
 rw [← hβ] at hg
 clear hβ
 have okc:∀ (x y:RE) (c:Int),aK (x.ev β) (y.ev β)=c→Hint.Ok β { cm:=[(x,y,c)] }:=fun x y c h=>jE (fun p hp=>by simp at hp;subst hp;exact h) (fun p h=>by cases h) (fun p h=>by cases h)
 rcases Int.lt_or_le a 0 with ha | ha <;> rcases Int.lt_or_le b 0 with hb | hb
 ·rw [decide_eq_true ha,decide_eq_true hb]
  rcases tY a.natAbs b.natAbs with ⟨h3,h4,h5⟩ | ⟨h3,h4,h5⟩ | ⟨h3,h4,h5⟩
  ·obtain rfl:y = -1:=by rw [← hy,if_pos (by omega)]
   exact lI (okc x1 x0 (-1) (by rw [e0,e1];exact h4)) (fuel:=1) (n0:=2) (by kernel_rfl) hE hg
  ·obtain rfl:y=0:=by rw [← hy,if_neg (by omega),if_pos (by omega)]
   exact lI (okc x1 x0 0 (by rw [e0,e1];exact h4)) (fuel:=1) (n0:=2) (by kernel_rfl) hE hg
  ·obtain rfl:y=1:=by rw [← hy,if_neg (by omega),if_neg (by omega)]
   exact lI (okc x1 x0 1 (by rw [e0,e1];exact h4)) (fuel:=1) (n0:=2) (by kernel_rfl) hE hg
 ·rw [decide_eq_true ha,decide_eq_false (by omega)]
  obtain rfl:y = -1:=by rw [← hy,if_pos (by omega)]
  exact lI (fQ β) (fuel:=1) (n0:=2) (by kernel_rfl) hE hg
 ·rw [decide_eq_false (by omega),decide_eq_true hb]
  obtain rfl:y=1:=by rw [← hy,if_neg (by omega),if_neg (by omega)]
  exact lI (fQ β) (fuel:=1) (n0:=2) (by kernel_rfl) hE hg
 ·rw [decide_eq_false (by omega),decide_eq_false (by omega)]
  rcases tY a.natAbs b.natAbs with ⟨h3,h4,h5⟩ | ⟨h3,h4,h5⟩ | ⟨h3,h4,h5⟩
  ·obtain rfl:y=1:=by rw [← hy,if_neg (by omega),if_neg (by omega)]
   exact lI (okc x0 x1 1 (by rw [e0,e1];exact h3)) (fuel:=1) (n0:=2) (by kernel_rfl) hE hg
  ·obtain rfl:y=0:=by rw [← hy,if_neg (by omega),if_pos (by omega)]
   exact lI (okc x0 x1 0 (by rw [e0,e1];exact h3)) (fuel:=1) (n0:=2) (by kernel_rfl) hE hg
  ·obtain rfl:y = -1:=by rw [← hy,if_pos (by omega)]
   exact lI (okc x0 x1 (-1) (by rw [e0,e1];exact h3)) (fuel:=1) (n0:=2) (by kernel_rfl) hE hg
end
end Rx
namespace Z4
open Go.RowKit Go.Sort Go.Lib
theorem Gi:∀ (k r:Nat),cO (k+1) r=UInt8.ofNat (48+r / 10 ^ k % 10) :: cO k r
 | 0,r=>by simp [cO]
 | k+1,r=>by
  rw [cO,Gi k (r / 10),List.cons_append]
  conv=>rhs;rw [cO]
  rw [Nat.div_div_eq_div_mul,Nat.pow_succ,Nat.mul_comm 10]
theorem AB:∀ (k r:Nat),(cO k r).length=k
 | 0,_=>rfl
 | k+1,r=>by rw [cO,List.length_append,AB k];rfl
theorem BN (i:Nat):B4 ^ i=10 ^ (4*i):=by rw [Nat.pow_mul];rfl
theorem LV {xs:List Nat} {i k x:Nat} (dx:Dig xs) (hi:i<xs.length) (hx:xs[i]?.getD 0=x) (hk:k<4):val xs / 10 ^ (4*i+k) % 10=x / 10 ^ k % 10:=by
 have h1:=bU xs i (by omega)
 have h2:val (xs.take i)<B4 ^ i:=by have:=aS (dx.take i);rwa [List.length_take,Nat.min_eq_left (by omega)] at this
 rw [dL xs i hi,hx] at h1
 have h3:val xs / 10 ^ (4*i)=x+10000*val (xs.drop (i+1)):=by
  rw [← BN,h1,Nat.add_mul_div_left _ _ (Nat.pow_pos iU),Nat.div_eq_of_lt h2,Nat.zero_add,gV]
 rw [Nat.pow_add,← Nat.div_div_eq_div_mul,h3]
 generalize val (xs.drop (i+1))=V
 rcases (show k=0∨k=1∨k=2∨k=3 by omega) with rfl | rfl | rfl | rfl <;> simp <;> omega
theorem DW {n:Nat} (h:0<n):∃ x r,decDigits n=x :: r∧x.toNat≠48:=by
 obtain ⟨x,r,h1,h2⟩:∃ x r,decDigits n=x :: r∧(n≠0→x.toNat≠48):=by
  induction n using Nat.strongRecOn with
  | _ n ih =>
   by_cases h10:n<10
   ·refine ⟨UInt8.ofNat (48+n),[],by rw [decDigits,dif_pos h10],fun hn=>?_⟩
    rw [UInt8.toNat_ofNat'];omega
   ·obtain ⟨x,r,h1,h2⟩:=ih (n / 10) (by omega) (by omega)
    refine ⟨x,r ++ [UInt8.ofNat (48+n % 10)],by rw [decDigits,dif_neg h10,h1];rfl,fun _=>h2 (by omega)⟩
 exact ⟨x,r,h1,h2 (by omega)⟩
theorem UJ {xs:List Nat} (dx:Dig xs) (h:0<val xs) (hs:xs.length≤549755813888):∃ j,j≤4398046511104∧cO (4*xs.length) (val xs)=List.replicate j 48 ++ decDigits (val xs):=by
 have h1:=aS dx
 rw [BN] at h1
 have h0:xs.length≠0:=fun e=>by
  rw [List.length_eq_zero_iff] at e;subst e;simp [val] at h
 exact ⟨4*xs.length - 1+1 - nDigits (val xs),by omega,by
  rw [show 4*xs.length=4*xs.length - 1+1 by omega]
  exact AA (4*xs.length - 1) (val xs) (by rw [show 4*xs.length - 1+1=4*xs.length by omega];exact h1)⟩
def fM (z:Int):List UInt8:=(if z<0 then [45] else []) ++ decDigits z.natAbs
theorem LY:∀ n:Nat,n<10→(⟨#[48,49,50,51,52,53,54,55,56,57]⟩:ByteArray).extract n (n+1)=⟨#[UInt8.ofNat (48+n)]⟩:=by
 intro n hn
 rcases (show n=0∨n=1∨n=2∨n=3∨n=4∨n=5∨n=6∨n=7∨n=8∨n=9 by omega) with rfl | rfl | rfl | rfl | rfl | rfl | rfl | rfl | rfl | rfl <;> rfl
theorem Ll (c:UInt8) (l:List UInt8):(⟨#[c]⟩:ByteArray) ++ ⟨l.toArray⟩=⟨(c :: l).toArray⟩:=by
 apply ByteArray.ext
 simp [ByteArray.data_append]
theorem IQ (t:Bool) (p:Option Addr) (k:Nat) (w:World):Calls Tryz.prog 172 #[.agg #[.bool t,.slice p 0 k]] w (eX w [48]):=by
 go_enter Tryz.func172,Tryz.ntmps172
 go_wp2
 go_ret
 exact ⟨rfl,(Below.refl _ _).alloc (Nat.le_refl _) _⟩
theorem Vq (t:Bool) (b o k:Nat) (xs:List Nat) (w:World) (hb:b<w.heap.size) (hx:Ints w b o xs) (dx:Dig xs) (hv:0<val xs) (hsz:xs.length≤549755813888) :
  Calls Tryz.prog 172 #[.agg #[.bool t,.slice (some ⟨b,o,none⟩) xs.length k]] w (eX w ((if t then [45] else []) ++ decDigits (val xs))):=by
 have hl0:xs.length≠0:=fun e=>by rw [List.length_eq_zero_iff] at e;subst e;simp [val] at hv
 have hB:=(Below.refl w.heap.size w).alloc (Nat.le_refl _) (.cells #[.bool t,.slice (some ⟨b,o,none⟩) xs.length k] 38)
 have HX:=hid (hx.below hB hb)
 have HB:=hid hB
 have HS:=hid (UJ dx hv hsz)
 have HH:=hid (DW hv)
 obtain ⟨N,hN⟩:∃ N,val xs=N:=⟨_,rfl⟩
 have HD:=hid (fun i k x (hi:i<xs.length) (hx:xs[i]?.getD 0=x) (hk:k<4)=>hN ▸ LV (k:=k) dx hi hx hk)
 have HLn:=hid (show (decDigits (val xs)).length≤4398046511104 by
  obtain ⟨j,-,h⟩:=HS.out
  have:=congrArg List.length h
  rw [AB,List.length_append,List.length_replicate] at this
  omega)
 rw [hN] at HS HH HLn ⊢
 obtain ⟨T,hT⟩:∃ T,(if t then [45] else []) ++ decDigits N=T:=⟨_,rfl⟩
 rw [hT]
 have HT:=hid hT
 clear hT
 have c1:(w.alloc (.cells #[.bool t,.slice (some ⟨b,o,none⟩) xs.length k] 38)).cell? ⟨w.heap.size,1,none⟩=some (.slice (some ⟨b,o,none⟩) xs.length k):=by go_simp
 have c0:(w.alloc (.cells #[.bool t,.slice (some ⟨b,o,none⟩) xs.length k] 38)).cell? ⟨w.heap.size,0,none⟩=some (.bool t):=by go_simp
 have hl1:((xs.length:Int) == 0)=false:=by rw [beq_eq_false_iff_ne];omega
 clear hB hx hN hv hl0
 go_enter Tryz.func172,Tryz.ntmps172
 go_wp2
 obtain ⟨W0,hW0⟩:∃ W0,w.alloc (.cells #[.bool t,.slice (some ⟨b,o,none⟩) xs.length k] 38)=W0:=⟨_,rfl⟩
 rw [hW0] at HX HB c0 c1 ⊢
 clear hW0 hl1
 go_loop [3,4] (fun sv iv=>∃ i:Nat,iv=.int .i64 i∧i≤xs.length∧sv=.string ⟨(cO (4*i) N).toArray⟩) (fun _ iv=>xs.length - (RowKit.intOf iv).toNat)
 case atStart=>exact ⟨0,rfl,Nat.zero_le _,rfl⟩
 case round =>
  obtain ⟨i,rfl,hi,rfl⟩:=hrel
  by_cases hlt:i<xs.length
  ·obtain ⟨x,hxi⟩:∃ x,xs[i]?.getD 0=x:=⟨_,rfl⟩
   have cx:W0.cell? ⟨b,o+i,none⟩=some (.int .i64 (x:Int)):=by rw [HX.out i hlt,hxi]
   have hx1:x<10000:=hxi ▸ dx.getD i
   have HE:=hid (fun k hk=>HD.out i k x hlt hxi hk)
   clear hxi
   go_wp2
   go_loop [3,5,6] (fun sv dv kv=>∃ k:Nat,kv=.int .i64 k∧k≤4∧dv=.int .i64 ((x / 10 ^ k:Nat):Int)∧sv=.string ⟨(cO (4*i+k) N).toArray⟩) (fun _ _ kv=>4 - (RowKit.intOf kv).toNat)
   case atStart=>exact ⟨0,rfl,by omega,by simp,rfl⟩
   case round =>
    obtain ⟨k,rfl,hk4,rfl,rfl⟩:=hrel
    by_cases hk:k<4
    ·obtain ⟨d,hd⟩:∃ d,x / 10 ^ k=d:=⟨_,rfl⟩
     have hd2:x / 10 ^ (k+1)=d / 10:=by rw [Nat.pow_succ,← Nat.div_div_eq_div_mul,hd]
     have hdl:d≤10000:=by have:=Nat.div_le_self x (10 ^ k);omega
     obtain ⟨e,he⟩:∃ e:Nat,(d:Int) % 10=(e:Int):=⟨d % 10,by omega⟩
     have he1:e<10:=by omega
     have hn:cO (4*i+(k+1)) N=UInt8.ofNat (48+e) :: cO (4*i+k) N:=by
      rw [← Nat.add_assoc,Gi,HE.out k hk,hd]
      congr 2
      omega
     have hpl:=AB (4*i+k) N
     obtain ⟨s,hs⟩:∃ s,cO (4*i+k) N=s:=⟨_,rfl⟩
     rw [hs] at hn hpl ⊢
     rw [hd]
     have hstr:=LY e he1
     obtain ⟨c,hc⟩:∃ c,UInt8.ofNat (48+e)=c:=⟨_,rfl⟩
     rw [hc] at hn hstr
     have HN:=hid hn
     have HD2:=hid hd2
     have hcs:=Ll c s
     clear hn hd2 hd hs hc
     go_wp2
     go_round
     case rel=>exact ⟨k+1,by go_num,by omega,by rw [HD2.out];first | rfl | go_num,by rw [HN.out]⟩
     case measure=>simp [RowKit.intOf];omega
    ·obtain rfl:k=4:=by omega
     go_wp2
     go_round
     case rel=>exact ⟨i+1,by go_num,by omega,by rw [show 4*(i+1)=4*i+4 by omega]⟩
     case measure=>simp [RowKit.intOf];omega
  ·obtain rfl:i=xs.length:=by omega
   obtain ⟨j0,hjl,hj0⟩:=HS.out
   rw [hj0]
   clear hj0
   go_wp2
   go_loop [3] (fun sv=>∃ j:Nat,sv=.string ⟨(List.replicate j 48 ++ decDigits N).toArray⟩∧j≤4398046511104) (fun sv=>match sv with | .string s=>s.size | _=>0)
   case atStart=>exact ⟨j0,rfl,hjl⟩
   case round =>
    obtain ⟨j,rfl,hj⟩:=hrel
    cases j with
    | zero =>
     obtain ⟨x,r,hr,hne⟩:=HH.out
     rw [List.replicate_zero,List.nil_append,hr]
     have hln:=HLn.out
     rw [hr,List.length_cons] at hln
     have HR:=hid hr
     have hb:(((((⟨(x :: r).toArray⟩:ByteArray)[0]'(by simp [ByteArray.size])).toNat:Nat):Int) == 48)=false:=by rw [beq_eq_false_iff_ne];show ((x.toNat:Nat):Int)≠48;omega
     clear hr
     cases t with
     | false =>
      go_wp2
      go_ret
      refine ⟨?_,HB.out⟩
      rw [← HT.out,HR.out];rfl
     | true =>
      go_wp2
      go_ret
      refine ⟨?_,HB.out⟩
      rw [← HT.out,HR.out];rfl
    | succ j =>
     obtain ⟨s,hs⟩:∃ s,List.replicate j 48 ++ decDigits N=s:=⟨_,rfl⟩
     rw [List.replicate_succ,List.cons_append,hs]
     have HR:=hid hs
     clear hs
     have hb:(((((⟨(48 :: s).toArray⟩:ByteArray)[0]'(by simp [ByteArray.size])).toNat:Nat):Int) == 48)=true:=by rw [beq_iff_eq];rfl
     go_wp2
     go_round
     case rel=>exact ⟨j,by rw [HR.out];exact congrArg Value.string (extract_drop (48 :: s) 1),by omega⟩
     case measure=>simp [ByteArray.size]
end Z4
end Go.Proofs.YtcglmmbgoonjnaaGreatDoor
