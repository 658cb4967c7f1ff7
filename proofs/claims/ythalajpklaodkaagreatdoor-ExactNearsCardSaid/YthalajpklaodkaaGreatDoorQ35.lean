/- What the proof rests on, part 35. -/
import Derived.Test.YthalajpklaodkaaGreatDoorQ34
import Derived.Test.YthalajpklaodkaaGreatDoorQ32
import Derived.Test.YthalajpklaodkaaGreatDoorQ31
import Derived.Test.YthalajpklaodkaaGreatDoorQ30
import Derived.Test.YthalajpklaodkaaGreatDoorQ26
namespace Go.Proofs.YthalajpklaodkaaGreatDoor
set_option maxRecDepth 100000
set_option maxHeartbeats 80000000
namespace Rx
open Go.RowKit
def wl0 (fn:Func):Code:=match fn.body with | some (.seq a _)=>a | _=>.skip
def wl1 (fn:Func):Code:=match fn.body with | some (.seq _ (.seq a _))=>a | _=>.skip
def wlB (fn:Func):Code:=match fn.body with | some (.seq _ (.seq _ (.seq (.block _ (.loop b)) _)))=>b | _=>.skip
def wlR (fn:Func):Code:=match fn.body with | some (.seq _ (.seq _ (.seq _ r)))=>r | _=>.skip
abbrev zT:TypeId:=35
abbrev zrP:Pat:=[none,some (.ptr 0 0),some (.ptr 1 0),some (.ptr 2 0),some (.ptr 3 0),none,none,none,none,none,none,none,none,none,none,none,none,none,none,none,none,none,none,none,none,none,none,none,none,none,none,none,none,none]
abbrev zrB:List (Nat×TypeId×List Cell):=[(0,zT,zC 4),(1,zT,[.bl false,.nils]),(2,zT,zC 5),(3,zT,zC 6)]
abbrev zK:Nat:=64
abbrev zrS:List Fd:=[.z 4 (.v 0) zK,.z 5 (.v 1) zK,.z 6 (.v 2) zK]
abbrev rO:RE:=.flo (.div (.add (.v 1) (.v 2)) (.c 2))
def zrH (c o:Int):Hint:={ cm:=[(.sub (.v 2) (.v 1),.c 1,c),(.mul rO rO,.v 0,o)] }
def zrC (β:Nat→Rat) (h:Hint):List (Con (SR β)):=Eh β :: yI β :: cr β h
def abM:Nat→Option Nat
 | 0=>some 1 | 1=>some 65 | 2=>some 385 | 3=>some 449 | 4=>some 0 | 6=>some 321 | _=>none
def zrm (x:Bool):Nat→Option Nat
 | 0=>some 0 | 1=>some 1 | 2=>some 2 | 3=>some 3 | 4=>some 4 | 5=>some (if x then 647 else 5) | 6=>some (if x then 6 else 647) | _=>none
def qx:Fd→Fd→Bool
 | .z s e k,.z s' e' k'=>s == s' && e.beq e' && k == k'
 | _,_=>false
theorem J6 {a b:Fd} (h:qx a b=true):a=b:=by
 unfold qx at h
 split at h
 ·simp only [Bool.and_eq_true,beq_iff_eq] at h
  rw [h.1.1,RE.beq_eq h.1.2,h.2]
 ·cases h
abbrev abN:List Fd:=[.z 321 (.add (.v 0) (.c 1)) 65,.z 0 (.v 0) 64]
def zrn (x:Bool):List Fd:=[.z 647 rO 65,.z 4 (.v 0) 64,if x then .z 6 (.v 2) 64 else .z 5 (.v 1) 64]
theorem H9 (β:Nat→Rat):kW (SR β) [.e (.a (zC 0))] [.z 0 (.v 0) zK] 1=true∧okR (S:=SR β) qx zrP zrB abM abN (mQ Tryz.prog (SR β) (HR β) (zrC β {}) [wl0 Tryz.f127,wl1 Tryz.f127] ⟨[.e (.a (zC 0))] ++ List.replicate ((Tryz.f127).ntmps - [SV.e (.a (zC 0))].length) .und,[],[.z 0 (.v 0) zK],1⟩)=true∧wfB (SR β) zrP zrB zrS 7=true:=⟨by kernel_rfl,by kernel_rfl,by kernel_rfl⟩
theorem abK (β:Nat→Rat) (u:Nat→Value):okR (S:=SR β) qx zrP zrB (zrm true) (zrn true) (exec Tryz.prog (SR β) (HR β) (zrC β (zrH 1 (-1))) 1 (wlB Tryz.f127) ⟨bV zrP u 0,zrB,zrS,7⟩)=true∧okR (S:=SR β) qx zrP zrB (zrm true) (zrn true) (exec Tryz.prog (SR β) (HR β) (zrC β (zrH 1 0)) 1 (wlB Tryz.f127) ⟨bV zrP u 0,zrB,zrS,7⟩)=true ∧
  okR (S:=SR β) qx zrP zrB (zrm false) (zrn false) (exec Tryz.prog (SR β) (HR β) (zrC β (zrH 1 1)) 1 (wlB Tryz.f127) ⟨bV zrP u 0,zrB,zrS,7⟩)=true:=⟨by kernel_rfl,by kernel_rfl,by kernel_rfl⟩
theorem abI (β:Nat→Rat) (u:Nat→Value) (o:Int):zV (.v 1) (nZ Tryz.prog (SR β) (HR β) (zrC β (zrH 0 o)) (wlB Tryz.f127) (wlR Tryz.f127) Tryz.f127 ⟨bV zrP u 0,zrB,zrS,7⟩)=true:=by kernel_rfl
theorem xk {β:Nat→Rat} {h:Hint} (ok:h.Ok β):∀ c∈zrC β h,c.Ok Tryz.prog (SR β) EV:=by
 unfold zrC
 simp only [List.forall_mem_cons]
 exact ⟨SG,JF,jr ok⟩
abbrev gU (a l h:Nat):Nat→Rat:=bet [((a:Int):Rat),((l:Int):Rat),((h:Int):Rat)]
theorem H8 (a l h:Nat):rO.ev (gU a l h)=((((l+h) / 2:Nat):Int):Rat):=by
 show ((flo ((((l:Int):Rat)+((h:Int):Rat)) / (((2:Nat):Int):Rat)):Int):Rat)=_
 rw [← Rat.intCast_add,zk _ _ (by omega)]
 rfl
theorem PG {a l h:Nat} {c o:Int} (hc:aF (((h:Int) - (l:Int):Int):Rat) ((1:Int):Rat)=c) (ho:aF (((((l+h) / 2*((l+h) / 2):Nat):Int):Rat)) ((a:Int):Rat)=o):(zrH c o).Ok (gU a l h):=
 ⟨fun p h=>(by cases h),fun p h=>(by cases h),fun p h=>(by cases h),fun p h=>(by cases h),fun p hp=>by
  rcases List.mem_cons.1 hp with rfl | hp
  ·rw [Rat.intCast_sub] at hc
   exact hc
  ·obtain rfl:=List.mem_singleton.1 hp
   show aF (rO.ev (gU a l h)*rO.ev (gU a l h)) _=o
   rw [H8,← Rat.intCast_mul,← Int.natCast_mul]
   exact ho⟩
theorem zU {W:World} {v:Value} {r r':Rat} {k k' n:Nat} (h:IsY W v r k) (hr:r=((n:Int):Rat)) (hr':r' = ((n:Int):Rat)) (hn:n<B64 ^ k'):IsY W v r' k':=by
 obtain ⟨z,h1,h2,-⟩:=h
 rw [hr] at h2
 have:z=(n:Int):=by exact_mod_cast h2
 exact ⟨z,h1,by rw [hr',this],by omega⟩
theorem abJ {a l h:Nat} (ha:a+1<B64 ^ zK) (hl:l≤a) (hh:h≤a+1) (x:Bool) {ρ:Env} {W:World} (hf:∀ f∈zrn x,(SR (gU a l h)).on ρ f W):∀ f∈zrS,(SR (if x then gU a ((l+h) / 2) h else gU a l ((l+h) / 2))).on (iw (zrm x) ρ) f W:=by
 have h1:IsY W (.agg ((zC 647).map (Cell.den ρ)).toArray) _ 65:=hf (.z 647 rO 65) (by simp [zrn])
 have h2:IsY W (.agg ((zC 4).map (Cell.den ρ)).toArray) _ 64:=hf (.z 4 (.v 0) 64) (by simp [zrn])
 intro f hm
 simp only [List.mem_cons,List.not_mem_nil,or_false] at hm
 cases x
 ·have h3:IsY W (.agg ((zC 5).map (Cell.den ρ)).toArray) _ 64:=hf (.z 5 (.v 1) 64) (by simp [zrn])
  rcases hm with rfl | rfl | rfl
  ·exact h2
  ·exact h3
  ·exact zU h1 (H8 a l h) rfl (by omega)
 ·have h3:IsY W (.agg ((zC 6).map (Cell.den ρ)).toArray) _ 64:=hf (.z 6 (.v 2) 64) (by simp [zrn])
  rcases hm with rfl | rfl | rfl
  ·exact h2
  ·exact zU h1 (H8 a l h) rfl (by omega)
  ·exact h3
theorem Ut {P:Program} {S:Sys} {H:Tests S} {cons:List (Con S)} {B rest:Code} {fn:Func} {σ:State S} {v:SV} {fsE:List S.F} (h:nZ P S H cons B rest fn σ=some (v,fsE)) :
  ∃ σ1 σ2 l,exec P S H cons 1 B σ=some (.exit 0,σ1)∧exec P S H cons 1 rest σ1=some (.ret,σ2)∧kC P S σ2 fn.results.toList=some l∧jK l=v∧σ2.fs=fsE:=by
 unfold nZ at h
 split at h
 ·rename_i σ1 hx1
  split at h
  ·rename_i σ2 hx2
   split at h
   ·rename_i l hl
    simp only [Option.some.injEq,Prod.mk.injEq] at h
    exact ⟨σ1,σ2,l,hx1,hx2,hl,h.1,h.2⟩
   ·cases h
  ·cases h
 ·cases h
theorem PI {a:Nat} (ha:a+1<B64 ^ zK) {w:World} (hE:EV w) (l h:Nat) (hl:l*l≤a) (hh:a<h*h) (h1:h=l+1) (n:Nat) (u:Nat→Value) (ρ:Env) (act:Act) (W:World) (hs:State.Says (S:=SR (gU a l h)) ⟨bV zrP u 0,zrB,zrS,7⟩ w ρ act W) :
  Code.rounds Tryz.prog (wlB Tryz.f127) (Exit.inBlock 0 (Exit.then ((wlR Tryz.f127).wp Tryz.prog (bodyPost Tryz.prog Tryz.f127 (Z4.dA w (isq a)))) (bodyPost Tryz.prog Tryz.f127 (Z4.dA w (isq a))))) (n+1) act W:=by
 have _:=ha
 have hwf:=(H9 (gU a l h)).2.2
 have hok:=PG (a:=a) (l:=l) (h:=h) (c:=0) (by rw [lI,if_neg (by omega),if_pos (by omega)]) rfl
 rw [rounds_succ]
 obtain ⟨cs,fsE,k,he,hy⟩:=Lj (abI (gU a l h) u _)
 obtain ⟨σ1,σ2,lr,hx1,hx2,hlr,hv,hfs⟩:=Ut he
 obtain ⟨wf1,-,go1⟩:=iV (w0:=w) (Nat.zero_le _) mixed (xk hok) (bg hE) (wlB Tryz.f127) _ _ _ hx1 (BH hwf u)
 obtain ⟨-,-,go2⟩:=iV (w0:=w) (Nat.zero_le _) mixed (xk hok) (bg hE) (wlR Tryz.f127) _ _ _ hx2 wf1
 refine go1 ρ act W _ hs fun ρ1 a1 W1 _ s1=>?_
 show (wlR Tryz.f127).wp Tryz.prog (bodyPost Tryz.prog Tryz.f127 (Z4.dA w (isq a))) a1 W1
 refine go2 ρ1 a1 W1 _ s1 fun ρ2 a2 W2 _ s2=>?_
 have hr:=A8 s2 hlr
 rw [hv] at hr
 refine bodyPost_ret hr s2.df ⟨_,rfl,mg (jl hy (by rw [← hfs];exact s2.fc)) ?_,s2.bel⟩
 show ((l:Int):Rat)=((isq a:Nat):Int)
 rw [Lm hl (by rw [← h1];exact hh)]
theorem abL {a:Nat} (ha:a+1<B64 ^ zK) {w:World} (hE:EV w):∀ (n l h:Nat),l*l≤a→a<h*h→h≤a+1→h - l≤n+1→∀ u ρ act W,State.Says (S:=SR (gU a l h)) ⟨bV zrP u 0,zrB,zrS,7⟩ w ρ act W →
  Code.rounds Tryz.prog (wlB Tryz.f127) (Exit.inBlock 0 (Exit.then ((wlR Tryz.f127).wp Tryz.prog (bodyPost Tryz.prog Tryz.f127 (Z4.dA w (isq a)))) (bodyPost Tryz.prog Tryz.f127 (Z4.dA w (isq a))))) (n+1) act W:=by
 intro n
 induction n with
 | zero =>
  intro l h hl hh hle hn u ρ act W hs
  have hlt:l<h:=by
   rcases Nat.lt_or_ge l h with h0 | h0
   ·exact h0
   ·have:=Nat.mul_le_mul h0 h0;omega
  exact PI ha hE l h hl hh (by omega) 0 u ρ act W hs
 | succ n ih =>
  intro l h hl hh hle hn u ρ act W hs
  have hlt:l<h:=by
   rcases Nat.lt_or_ge l h with h0 | h0
   ·exact h0
   ·have:=Nat.mul_le_mul h0 h0;omega
  have hla:l≤a:=by
   rcases Nat.eq_zero_or_pos l with h0 | h0
   ·omega
   ·exact Nat.le_trans (Nat.le_mul_of_pos_right _ h0) hl
  by_cases h1:h=l+1
  ·exact PI ha hE l h hl hh h1 (n+1) u ρ act W hs
  ·have hwf:=(H9 (gU a l h)).2.2
   have hc:aF (((h:Int) - (l:Int):Int):Rat) ((1:Int):Rat)=1:=by rw [lI,if_neg (by omega),if_neg (by omega)]
   have go:∀ (o:Int) (x:Bool),aF (((((l+h) / 2*((l+h) / 2):Nat):Int):Rat)) ((a:Int):Rat)=o→(if x then (l+h) / 2*((l+h) / 2)≤a else a<(l+h) / 2*((l+h) / 2)) →
     okR (S:=SR (gU a l h)) qx zrP zrB (zrm x) (zrn x) (exec Tryz.prog (SR (gU a l h)) (HR (gU a l h)) (zrC (gU a l h) (zrH 1 o)) 1 (wlB Tryz.f127) ⟨bV zrP u 0,zrB,zrS,7⟩)=true →
     Code.rounds Tryz.prog (wlB Tryz.f127) (Exit.inBlock 0 (Exit.then ((wlR Tryz.f127).wp Tryz.prog (bodyPost Tryz.prog Tryz.f127 (Z4.dA w (isq a)))) (bodyPost Tryz.prog Tryz.f127 (Z4.dA w (isq a))))) (n+1+1) act W:=fun o x ho hx hr=>by
    rw [rounds_succ]
    obtain ⟨σ1,hx1,hp,hb,hnd⟩:=AA (fun _ _=>J6) hr
    obtain ⟨-,-,gg⟩:=iV (w0:=w) (Nat.zero_le _) mixed (xk (PG hc ho)) (bg hE) (wlB Tryz.f127) _ _ _ hx1 (BH hwf u)
    refine gg ρ act W _ hs fun ρ1 a1 W1 _ s1=>?_
    have hnx:=abJ ha hla hle x fun f hf=>s1.fc f (hnd f hf)
    cases x
    ·have hx':a<(l+h) / 2*((l+h) / 2):=hx
     exact ih l ((l+h) / 2) hl hx' (by omega) (by omega) _ _ _ _ (wQ hp hb s1 hnx)
    ·have hx':(l+h) / 2*((l+h) / 2)≤a:=hx
     exact ih ((l+h) / 2) h hx' hh hle (by omega) _ _ _ _ (wQ hp hb s1 hnx)
   have r:=abK (gU a l h) u
   rcases Nat.lt_trichotomy ((l+h) / 2*((l+h) / 2)) a with h2 | h2 | h2
   ·exact go (-1) true (by rw [lI,if_pos (by omega)]) (Nat.le_of_lt h2) r.1
   ·exact go 0 true (by rw [lI,if_neg (by omega),if_pos (by omega)]) (Nat.le_of_eq h2) r.2.1
   ·exact go 1 false (by rw [lI,if_neg (by omega),if_neg (by omega)]) h2 r.2.2
end Rx
namespace Rx
open Go.RowKit
theorem abO {a:Nat} (ha:a+1<B64 ^ zK) {v:Value} {w:World} (hv:Z4.IsZ w v (a:Int)) (hE:EV w):Calls Tryz.prog 127 #[v] w (Z4.dA w (isq a)):=by
 obtain ⟨p,l,c,xs,rfl,hx⟩:=hv
 have hs:=H9 (gU a 0 (a+1))
 obtain ⟨σ,h1,hp,hb,hn⟩:=AA (fun _ _=>J6) hs.2.1
 obtain ⟨σ1,hx0,hx1⟩:=Om h1
 let ρ:Env:=ev [⟨decide ((a:Int)<0),0,p,l,c,.empty,0,default⟩]
 have hf:∀ f∈[Fd.z 0 (.v 0) zK],(SR (gU a 0 (a+1))).on ρ f w:=fun f hf=>by
  obtain rfl:=List.mem_singleton.1 hf
  exact ⟨a,⟨p,l,c,xs,rfl,hx⟩,rfl,by omega⟩
 obtain ⟨wf0,-,go0⟩:=iV (w0:=w) (Nat.zero_le _) mixed (xk (aV _)) (bg hE) (wl0 Tryz.f127) _ _ _ hx0 (Hu hs.1)
 obtain ⟨-,-,go1⟩:=iV (w0:=w) (Nat.zero_le _) mixed (xk (aV _)) (bg hE) (wl1 Tryz.f127) _ _ _ hx1 wf0
 have hc:(Tryz.f127).body=some ((wl0 Tryz.f127).seq ((wl1 Tryz.f127).seq ((Code.block 0 (.loop (wlB Tryz.f127))).seq (wlR Tryz.f127)))):=by kernel_rfl
 refine calls_of_wp Tryz.func127 hc (wp_seq (go0 ρ _ w _ (GU (args:=[.e (.a (zC 0))]) hf) fun ρ1 a1 W1 _ s1=>wp_seq (go1 ρ1 a1 W1 _ s1 fun ρ2 a2 W2 _ s2=>wp_seq (wp_block (wp_loop_rounds (a+1) ?_)))))
 refine abL ha hE a 0 (a+1) (by omega) (Nat.lt_of_lt_of_le (Nat.lt_succ_self a) (Nat.le_mul_of_pos_right _ (by omega))) (Nat.le_refl _) (by omega) _ _ _ _ (wQ hp hb s2 fun f hm=>?_)
 have h2:IsY W2 (.agg ((zC 321).map (Cell.den ρ2)).toArray) _ 65:=s2.fc _ (hn _ (.head _))
 have h3:IsY W2 (.agg ((zC 0).map (Cell.den ρ2)).toArray) _ 64:=s2.fc _ (hn _ (.tail _ (.head _)))
 rcases List.mem_cons.1 hm with rfl | hm
 ·exact h3
 rcases List.mem_cons.1 hm with rfl | hm
 ·refine zU (n:=0) (lZ (k:=0) (r:=0) ⟨[],Z4.IsL.nil 0 W2,Z4.Dig.nil,fun h=>absurd rfl h,rfl,by simp [Z4.val]⟩) rfl rfl ?_
  exact Nat.lt_of_le_of_lt (Nat.zero_le _) ha
 ·obtain rfl:=List.mem_singleton.1 hm
  refine zU (n:=a+1) h2 ?_ rfl ha
  show ((a:Int):Rat)+((1:Int):Rat)=_
  rw [← Rat.intCast_add];rfl
section
variable (β:Nat→Rat) (h:Hint)
end
section
variable {β:Nat→Rat} {h:Hint} {f:FuncId} {vals:Array Value} {W:World} {ρ:Env} {b:Nat}
abbrev sN:RE:=sq2 (.num (.v 0))
abbrev sD:RE:=sq2 (.den (.v 0))
end
end Rx
namespace Rx
open Go.RowKit
def tK:List Fc→Nat→Option (RE×Nat)
 | [],_=>none
 | .z s e k :: r,n=>if s=n then some (e,k) else tK r n
 | _ :: r,n=>tK r n
theorem oJ {n:Nat} {e:RE} {k:Nat}:∀ {db:List Fc},tK db n=some (e,k)→.z n e k∈db
 | [],h=>by simp [tK] at h
 | f :: r,h=>by
  cases f with
  | z s e' k' =>
   simp only [tK] at h
   split at h
   ·rename_i hs;cases h;subst hs;simp
   ·exact List.mem_cons_of_mem _ (oJ h)
  | q _ _ _=>exact List.mem_cons_of_mem _ (oJ h)
  | r _ _ _=>exact List.mem_cons_of_mem _ (oJ h)
  | x _ _=>exact List.mem_cons_of_mem _ (oJ h)
  | n _ _=>exact List.mem_cons_of_mem _ (oJ h)
  | i _ _=>exact List.mem_cons_of_mem _ (oJ h)
  | w _ _=>exact List.mem_cons_of_mem _ (oJ h)
def kL (db:List Fc):List Cell→Option (RE×Nat)
 | [.ob a,.os c]=>if a=c then (match tK db a with
  | some x=>some x
  | none=>match qB db a with
   | some (e,k)=>some (.num e,k)
   | none=>none) else none
 | _=>none
section
variable {β:Nat→Rat} {h:Hint} {f:FuncId} {vals:Array Value} {W:World} {ρ:Env} {b:Nat} {db:List Fc}
theorem nM {cs:List Cell} {e:RE} {k:Nat} (h:kL db cs=some (e,k)) (hf:∀ f∈db,(SQ β).on ρ f W):∃ z:Int,Z4.IsZ W (.agg (cs.map (Cell.den ρ)).toArray) z∧(z:Rat)=e.ev β∧z.natAbs<B64 ^ k:=by
 unfold kL at h
 split at h
 ·rename_i a c
  split at h
  ·rename_i hac
   subst hac
   split at h
   ·rename_i x hx
    cases h
    exact hf _ (oJ hx)
   ·split at h
    ·rename_i e' k' hx
     cases h
     obtain ⟨h1,h2⟩:=(show Fc.on β ρ (.r a e' k) W from hf _ (lT hx))
     exact ⟨(e'.ev β).num,Z4.IsR.num h1,rfl,h2.1⟩
    ·cases h
  ·cases h
 ·cases h
theorem rW {z:Int} {e:RE} {k:Nat} (hc:Calls Tryz.prog f vals W (Z4.dA W z)) (hz:(z:Rat)=e.ev β) (hk:z.natAbs<B64 ^ k):Calls Tryz.prog f vals W (Ans β ρ b W (.e (.a (zC b))) [.z b e k]):=by
 refine hc.mono fun _ W' ⟨v,he,hv,hb⟩=>?_
 obtain ⟨p,l,c,xs,rfl,hx⟩:=hv
 have h1:(zC b).map (Cell.den (aG ρ b [⟨decide (z<0),0,p,l,c,.empty,0,default⟩]))=[.bool (decide (z<0)),.slice p l c]:=by simp [zC,Cell.den,aG]
 refine ⟨_,iE (b:=b) (L:=[⟨decide (z<0),0,p,l,c,.empty,0,default⟩]) (by simp [M]),?_,hb,fun g hg=>?_⟩
 ·rw [he];simp only [SV.den,El.den,h1]
 ·rw [List.mem_singleton] at hg
  subst hg
  exact ⟨z,by rw [h1];exact ⟨p,l,c,xs,rfl,hx⟩,hz,hk⟩
end
section
variable (β:Nat→Rat) (h:Hint)
def Em:Con (SQ β) where
 fn:=97
 app:=fun db b args=>match args with
  | [.e (.a x)]=>match iK db x with
   | some (e,k)=>some (.e (.a (zC b)),[.z b (.den e) k])
   | none=>none
  | _=>none
def yG:Con (SQ β) where
 fn:=38
 app:=fun db b args=>match args with
  | [.e (.a x)]=>match kL db x with
   | some (e,k)=>if 1≤k then some (.e (.a (aT b)),[.r b e k]) else none
   | none=>none
  | _=>none
end
section
variable {β:Nat→Rat} {h:Hint}
theorem abt {z:Int} {v:Value} {W:World} {k:Nat} (h1:Z4.IsZ W v z) (hk:z.natAbs<B64 ^ k) (hE:EV W):Calls Tryz.prog 38 #[v] W (Z4.dW W (z:Rat)):=by
 obtain ⟨p,l,c,xs,rfl,hx⟩:=h1
 exact pz (β:=bet [(z:Rat)]) (ρ:=ev [⟨decide (z<0),0,p,l,c,.empty,0,default⟩]) (args:=[.e (.a (zC 0))]) (fs:=[.z 0 (.v 0) k]) (e:=.v 0) (fuel:=1) (n0:=1) (jr (aV _)) (by kernel_rfl) rfl hE fun g hg=>by
  rw [List.mem_singleton] at hg;subst hg
  exact ⟨z,⟨p,l,c,xs,rfl,hx⟩,rfl,hk⟩
theorem SL:(Em β).Ok Tryz.prog (SQ β) EV:=by
 refine Con.ok0 rfl ?_
 intro db b args res new ha ρ W hf hE
 simp only [Em] at ha
 split at ha
 ·split at ha
  ·rename_i e k hx
   cases ha
   obtain ⟨h1,h2⟩:=jd hx hf
   exact rW (e:=.den e) (Z4.EC _ _ W h1) rfl (by simpa using h2.2)
  ·cases ha
 ·cases ha
theorem JD:(yG β).Ok Tryz.prog (SQ β) EV:=by
 refine Con.ok0 rfl ?_
 intro db b args res new ha ρ W hf hE
 simp only [yG] at ha
 split at ha
 ·split at ha
  ·rename_i e k hx
   split at ha
   ·rename_i hk
    cases ha
    obtain ⟨z,h1,h2,h3⟩:=nM hx hf
    have hc:=abt h1 h3 hE
    have hfit:Fits k (z:Rat):=⟨by rw [Rat.num_intCast];exact h3,by rw [Rat.den_intCast];exact Nat.one_lt_pow (by omega) (by decide)⟩
    rw [h2] at hc hfit
    exact kK hc hfit
   ·cases ha
  ·cases ha
 ·cases ha
end
end Rx
namespace Rx
open Go.RowKit
section
variable (β:Nat→Rat) (h:Hint)
end
section
variable {β:Nat→Rat} {h:Hint} {f:FuncId} {vals:Array Value} {W:World} {ρ:Env} {b:Nat}
variable {a:Rat} {v1:Value}
theorem U1 (a:Rat):flo ((a.num:Rat) / (((a.den:Nat):Int):Rat))=flo a:=by
 rw [zk _ _ a.den_pos];rfl
theorem ZF (h1:Z4.IsR W v1 a) (f1:Fits K2 a) (hE:EV W):Calls Tryz.prog 43 #[v1] W (Z4.dA W (flo a)):=
 AB h1 f1 fun ρ hg=>Oi (ok:=aV _) (cons:=yI (bet [a]) :: cr (bet [a]) {}) (β:=bet [a]) (e:=.flo (.div (.num (.v 0)) (.den (.v 0)))) (fuel:=1) (n0:=4)
  (fun c hc=>by rcases List.mem_cons.1 hc with rfl | hc;exact JF;exact jr (aV _) c hc) (by kernel_rfl) (by show ((flo ((a.num:Rat) / (((a.den:Nat):Int):Rat)):Int):Rat)=_;rw [U1]) hE hg
theorem UY {r:Rat} {k:Nat} (h:Fits k r):(flo r).natAbs<B64 ^ k:=Nat.lt_of_le_of_lt (Ny _ _ r.den_pos) h.1
end
section
variable {W:World} {a:Rat} {v1:Value}
end
end Rx
namespace Rx
open Go.RowKit
section
variable (β:Nat→Rat) (h:Hint)
def yC:Con (SQ β) where
 fn:=43
 app:=fun db b args=>match args with
  | [.e (.a x)]=>match iK db x with
   | some (e,k)=>if k≤K2 then some (.e (.a (zC b)),[.z b (.flo e) k]) else none
   | none=>none
  | _=>none
def Ei:Con (SQ β) where
 fn:=106
 app:=fun db b args=>match args with
  | [.e (.a x),.e (.a y)]=>match kL db x,kL db y with
   | some (e,k),some (e',k')=>if decide (k≤K1) && decide (k'≤K1) then some (.e (.a (zC b)),[.z b (.add e e') (max k k' + 1)]) else none
   | _,_=>none
  | _=>none
def Eo:Con (SQ β) where
 fn:=93
 app:=fun db b args=>match args with
  | [.e (.s (.it .i64 n))]=>if decide (0≤n) && decide (n≤9223372036854775807) then some (.e (.a (zC b)),[.z b (.c n) 1]) else none
  | [.e (.s (.oi i))]=>match dU db i with
   | some e=>some (.e (.a (zC b)),[.z b e 1])
   | none=>none
  | _=>none
def DZ:Con (SQ β) where
 fn:=92
 app:=fun db b args=>match args with
  | [.e (.a x),.e (.a y)]=>match kL db x,kL db y with
   | some (e,k),some (e',k')=>if decide (k≤K1) && decide (k'≤K1) && (jB e' || nzB h e') then some (.e (.a (aT b)),[.r b (.div e e') (max k k')]) else none
   | _,_=>none
  | _=>none
def Ej:Con (SQ β) where
 fn:=95
 app:=fun db _ args=>match args with
  | [.e (.a x),.e (.a y)]=>match kL db x,kL db y with
   | some (e,k),some (e',k')=>if decide (k≤K1) && decide (k'≤K1) then (match cmB h e e' with
     | some c=>some (.e (.s (.it .i64 c)),[])
     | none=>none) else none
   | _,_=>none
  | _=>none
def Ep (e0:RE) (i:Nat):Con (SQ β) where
 fn:=127
 app:=fun db b args=>match args with
  | [.e (.a x)]=>match kL db x with
   | some (e,k)=>if decide (k≤60) && e0.beq e then some (.e (.a (zC b)),[.z b (.v i) k]) else none
   | none=>none
  | _=>none
def yD (f:FuncId) (e0 m0:RE) (i k0:Nat):Con (SQ β) where
 fn:=f
 app:=fun db b args=>match args with
  | [.e (.a x),.e (.s (.oi j))]=>match iK db x,dU db j with
   | some (e,k),some em=>if decide (k≤4) && e0.beq e && m0.beq em then some (.e (.a (aT b)),[.r b (.v i) k0]) else none
   | _,_=>none
  | _=>none
def D7 (f:FuncId) (m0:RE) (i k0:Nat):Con (SQ β) where
 fn:=f
 app:=fun db b args=>match args with
  | [.e (.s (.oi j))]=>match dU db j with
   | some em=>if m0.beq em then some (.e (.a (aT b)),[.r b (.v i) k0]) else none
   | none=>none
  | _=>none
end
section
variable {β:Nat→Rat} {h:Hint}
theorem mM {k k':Nat} (h:k≤k'):B64 ^ k≤B64 ^ k':=Nat.pow_le_pow_right (show 0<B64 by decide) h
theorem JA:(yC β).Ok Tryz.prog (SQ β) EV:=by
 refine Con.ok0 rfl ?_
 intro db b args res new ha ρ W hf hE
 simp only [yC] at ha
 split at ha
 ·split at ha
  ·rename_i e k hx
   split at ha
   ·rename_i hk
    cases ha
    obtain ⟨h1,h2⟩:=jd hx hf
    exact rW (e:=.flo e) (ZF h1 (h2.mono hk) hE) rfl (UY h2)
   ·cases ha
  ·cases ha
 ·cases ha
theorem SH:(Ei β).Ok Tryz.prog (SQ β) EV:=by
 refine Con.ok0 rfl ?_
 intro db b args res new ha ρ W hf hE
 simp only [Ei] at ha
 split at ha
 ·split at ha
  ·rename_i e k e' k' hx hy
   split at ha
   ·rename_i hk
    simp only [Bool.and_eq_true,decide_eq_true_eq] at hk
    cases ha
    obtain ⟨z,h1,h2,h3⟩:=nM hx hf
    obtain ⟨z',g1,g2,g3⟩:=nM hy hf
    refine rW (e:=.add e e') (Px h1 g1 (Nat.lt_of_lt_of_le h3 (mM hk.1)) (Nat.lt_of_lt_of_le g3 (mM hk.2)) hE) (by rw [Rat.intCast_add,h2,g2];rfl) ?_
    have a1:=mM (Nat.le_max_left k k')
    have a2:=mM (Nat.le_max_right k k')
    rw [Nat.pow_succ]
    have:B64 ^ max k k' * 2≤B64 ^ max k k' * B64:=Nat.mul_le_mul_left _ (by decide)
    omega
   ·cases ha
  ·cases ha
 ·cases ha
theorem PD (n:Int) (h1:-9223372036854775808≤n) (h2:n≤9223372036854775807) (W:World):Calls Tryz.prog 93 #[.int .i64 n] W (Z4.dA W n):=
 (Z4.kE n h1 h2 W).mono fun e W' ⟨s,ds,he,hl,hd,ht,hv,hb⟩=>by
  obtain ⟨p,l,c,rfl⟩:=hl.mk
  exact ⟨_,he,⟨p,l,c,ds,rfl,hl.mono (Nat.zero_le _),hd,ht,hv⟩,hb⟩
theorem SN:(Eo β).Ok Tryz.prog (SQ β) EV:=by
 refine Con.ok0 rfl ?_
 intro db b args res new ha ρ W hf hE
 simp only [Eo] at ha
 split at ha
 ·split at ha
  ·rename_i hk
   simp only [Bool.and_eq_true,decide_eq_true_eq] at hk
   cases ha
   exact rW (e:=.c _) (PD _ (by omega) hk.2 W) rfl (by rw [Nat.pow_one];unfold B64;omega)
  ·cases ha
 ·split at ha
  ·rename_i e hi
   cases ha
   obtain ⟨i1,i2,i3⟩:=(show Fc.on β ρ (.i _ e) W from hf _ (dM hi))
   exact rW (PD _ i1 i2 W) i3 (by rw [Nat.pow_one];unfold B64;omega)
  ·cases ha
 ·cases ha
theorem RZ (ok:h.Ok β):(DZ β h).Ok Tryz.prog (SQ β) EV:=by
 refine Con.ok0 rfl ?_
 intro db b args res new ha ρ W hf hE
 simp only [DZ] at ha
 split at ha
 ·split at ha
  ·rename_i e k e' k' hx hy
   split at ha
   ·rename_i hk
    simp only [Bool.and_eq_true,Bool.or_eq_true,decide_eq_true_eq] at hk
    cases ha
    obtain ⟨z,h1,h2,h3⟩:=nM hx hf
    obtain ⟨z',g1,g2,g3⟩:=nM hy hf
    have hne:e'.ev β≠0:=by
     rcases hk.2 with h | h
     ·exact AQ h
     ·exact jA ok h
    have hz':z'≠0:=fun h0=>hne (by rw [← g2,h0];rfl)
    have hc:=Gx hz' h1 g1 (Nat.lt_of_lt_of_le h3 (mM hk.1.1)) (Nat.lt_of_lt_of_le g3 (mM hk.1.2)) hE
    have hfit:=vS hz' h3 g3
    rw [h2,g2] at hc hfit
    exact kK (e:=.div e e') hc hfit
   ·cases ha
  ·cases ha
 ·cases ha
theorem SK (ok:h.Ok β):(Ej β h).Ok Tryz.prog (SQ β) EV:=by
 refine Con.ok0 rfl ?_
 intro db b args res new ha ρ W hf hE
 simp only [Ej] at ha
 split at ha
 ·split at ha
  ·rename_i e k e' k' hx hy
   split at ha
   ·rename_i hk
    simp only [Bool.and_eq_true,decide_eq_true_eq] at hk
    split at ha
    ·rename_i c hc
     cases ha
     obtain ⟨z,h1,h2,h3⟩:=nM hx hf
     obtain ⟨z',g1,g2,g3⟩:=nM hy hf
     have hcc:=kQ ok hc
     rw [← h2,← g2,lI] at hcc
     have hz:=Py h1 g1 (Nat.lt_of_lt_of_le h3 (mM hk.1)) (Nat.lt_of_lt_of_le g3 (mM hk.2)) hE
     rw [hcc] at hz
     exact nK hz rfl
    ·cases ha
   ·cases ha
  ·cases ha
 ·cases ha
theorem SS {e0:RE} {i:Nat} {m:Nat} (hm:e0.ev β=((m:Int):Rat)) (hi:β i=((isq m:Nat):Int)):(Ep β e0 i).Ok Tryz.prog (SQ β) EV:=by
 refine Con.ok0 rfl ?_
 intro db b args res new ha ρ W hf hE
 simp only [Ep] at ha
 split at ha
 ·split at ha
  ·rename_i e k hx
   split at ha
   ·rename_i hk
    simp only [Bool.and_eq_true,decide_eq_true_eq] at hk
    cases ha
    obtain ⟨z,h1,h2,h3⟩:=nM hx hf
    rw [← RE.beq_eq hk.2,hm] at h2
    obtain rfl:z=(m:Int):=intCast_inj h2
    rw [Int.natAbs_natCast] at h3
    have a1:=mM hk.1
    have a2:B64 ^ 60+1<B64 ^ zK:=by decide
    refine rW (e:=.v i) (abO (a:=m) (by omega) h1 hE) ?_ (by rw [Int.natAbs_natCast];exact Ll h3)
    show _=β i
    rw [hi]
   ·cases ha
  ·cases ha
 ·cases ha
theorem JB {f:FuncId} {e0 m0:RE} {i k0:Nat} (h:∀ v W (m:Int),(m:Rat)=m0.ev β→-9223372036854775808≤m→m≤9223372036854775807→Z4.IsR W v (e0.ev β)→Fits 4 (e0.ev β)→EV W→Calls Tryz.prog f #[v,.int .i64 m] W (Z4.dW W (β i))∧Fits k0 (β i)):(yD β f e0 m0 i k0).Ok Tryz.prog (SQ β) EV:=by
 refine Con.ok0 rfl ?_
 intro db b args res new ha ρ W hf hE
 simp only [yD] at ha
 split at ha
 ·split at ha
  ·rename_i e k em hx hj
   split at ha
   ·rename_i hk
    simp only [Bool.and_eq_true,decide_eq_true_eq] at hk
    cases ha
    obtain ⟨h1,h2⟩:=jd hx hf
    obtain ⟨i1,i2,i3⟩:=(show Fc.on β ρ (.i _ em) W from hf _ (dM hj))
    rw [← RE.beq_eq hk.1.2] at h1 h2
    rw [← RE.beq_eq hk.2] at i3
    obtain ⟨g1,g2⟩:=h _ W _ i3 i1 i2 h1 (h2.mono hk.1.1) hE
    exact kK (e:=.v i) g1 g2
   ·cases ha
  ·cases ha
 ·cases ha
theorem Sl {f:FuncId} {m0:RE} {i k0:Nat} (h:∀ W (m:Int),(m:Rat)=m0.ev β→-9223372036854775808≤m→m≤9223372036854775807→EV W→Calls Tryz.prog f #[.int .i64 m] W (Z4.dW W (β i))∧Fits k0 (β i)):(D7 β f m0 i k0).Ok Tryz.prog (SQ β) EV:=by
 refine Con.ok0 rfl ?_
 intro db b args res new ha ρ W hf hE
 simp only [D7] at ha
 split at ha
 ·split at ha
  ·rename_i em hj
   split at ha
   ·rename_i hk
    cases ha
    obtain ⟨i1,i2,i3⟩:=(show Fc.on β ρ (.i _ em) W from hf _ (dM hj))
    rw [← RE.beq_eq hk] at i3
    obtain ⟨g1,g2⟩:=h W _ i3 i1 i2 hE
    exact kK (e:=.v i) g1 g2
   ·cases ha
  ·cases ha
 ·cases ha
end
def jG (β:Nat→Rat) (L:List (RE×RE)):Prop:=∀ p∈L,∀ x:Int,(x:Rat)=p.1.ev β→-9223372036854775808≤x+1∧x+1≤9223372036854775807∧((x+1:Int):Rat)=p.2.ev β
def HAi (β:Nat→Rat) (h:Hint) (ok:h.Ok β) (T:Ari) (okT:T.Ok β) (L:List (RE×RE)) (okL:jG β L):Tests (SQ β):=
 { HAr β h ok T okT with
  inc:=fun db a m b=>if m=1 then (match dU db a with
   | some e=>(L.find? fun p=>p.1.beq e).map fun p=>[.i b p.2]
   | none=>none) else none
  incOk:=fun {db a m b new} hh ρ W hf=>by
   split at hh
   ·rename_i hm
    subst hm
    split at hh
    ·rename_i e hi
     obtain ⟨p,hp,rfl⟩:=Option.map_eq_some_iff.1 hh
     obtain ⟨-,-,i3⟩:=(show Fc.on β ρ (.i _ e) W from hf _ (dM hi))
     have hs:=List.find?_some hp
     rw [← RE.beq_eq hs] at i3
     obtain ⟨g1,g2,g3⟩:=okL p (List.mem_of_find?_eq_some hp) _ i3
     refine ⟨by rw [IntKind.wrap_i64];omega,fun ρ' _ hb f hf=>?_⟩
     obtain rfl:=List.mem_singleton.1 hf
     exact ⟨by rw [hb];exact g1,by rw [hb];exact g2,by rw [hb];exact g3⟩
    ·cases hh
   ·cases hh }
end Rx
namespace Rx
theorem MO (x:Rat):(0<x.num↔0<x)∧(x.num<0↔x<0):=by
 rw [Rat.lt_iff,Rat.lt_iff]
 simp
theorem aat {x:Rat}:sgQ x=0↔x=0:=by
 rw [Bh]
 constructor
 ·intro h
  split at h
  ·cases h
  ·split at h
   ·rename_i h0;exact Rat.num_eq_zero.1 h0
   ·cases h
 ·rintro rfl
  rfl
theorem sF {a b:Rat}:aF a b=1↔b<a:=by
 unfold aF
 constructor
 ·intro h
  split at h
  ·cases h
  ·split at h
   ·cases h
   ·grind
 ·intro h
  rw [if_neg (by grind),if_neg (by grind)]
theorem sG {a b:Rat}:aF a b = -1↔a<b:=by
 unfold aF
 constructor
 ·intro h
  split at h
  ·assumption
  ·split at h <;> cases h
 ·intro h
  rw [if_pos h]
theorem sJ {a b:Rat}:aF a b=0↔a=b:=by
 unfold aF
 constructor
 ·intro h
  split at h
  ·cases h
  ·split at h
   ·assumption
   ·cases h
 ·rintro rfl
  rw [if_neg (by grind),if_pos rfl]
def i3:List Int:=[-1,0,1]
theorem mem3 {x:Int} (h:x = -1∨x=0∨x=1):x∈i3:=by
 rcases h with rfl | rfl | rfl <;> decide
end Rx
namespace Nm
theorem qR (r:Rat):r*((r.den:Int):Rat)=(r.num:Rat):=by
 exact (Rx.qQ r).symm
theorem vN (r:Rat):(0:Rat)<((r.den:Int):Rat):=by exact_mod_cast r.den_pos
def fl (r:Rat):Int:=r.num / (r.den:Int)
theorem tN (r:Rat):flQ r=(fl r:Rat):=rfl
theorem zf (r:Rat):(fl r:Rat)≤r:=by
 have hd:=vN r
 have hn:=qR r
 have h1:fl r*(r.den:Int)≤r.num:=Int.ediv_mul_le _ (by have:=r.den_pos;omega)
 have h2:((fl r*(r.den:Int):Int):Rat)≤(r.num:Rat):=by exact_mod_cast h1
 rw [Rat.intCast_mul] at h2
 by_cases h:(fl r:Rat)≤r
 ·exact h
 ·have:=Rat.mul_pos (show 0<(fl r:Rat) - r by grind) hd
  grind
theorem Ac (r:Rat):r<(fl r:Rat)+1:=by
 have hd:=vN r
 have hn:=qR r
 have h1:r.num<(fl r+1)*(r.den:Int):=by
  have:=Int.lt_ediv_add_one_mul_self r.num (show (0:Int)<(r.den:Int) by have:=r.den_pos;omega)
  exact this
 have h2:(r.num:Rat)<(((fl r+1)*(r.den:Int):Int):Rat):=by exact_mod_cast h1
 rw [Rat.intCast_mul,Rat.intCast_add] at h2
 by_cases h:r<(fl r:Rat)+1
 ·exact h
 ·have:=Rat.mul_nonneg (show 0≤r - ((fl r:Rat)+1) by grind) (Rat.le_of_lt hd)
  have h3:((1:Int):Rat)=1:=rfl
  grind
theorem jo {a b:Int}:(a:Rat)<(b:Rat)↔a<b:=by exact_mod_cast Iff.rfl
theorem jm {a b:Int}:(a:Rat)≤(b:Rat)↔a≤b:=by exact_mod_cast Iff.rfl
theorem UR (r:Rat):(fl r).natAbs≤r.num.natAbs:=by
 unfold fl
 have hd:(1:Int)≤(r.den:Int):=by have:=r.den_pos;omega
 generalize (r.den:Int)=d at *
 generalize r.num=n
 have h1:n / d*d≤n:=Int.ediv_mul_le _ (by omega)
 have h2:n<(n / d+1)*d:=Int.lt_ediv_add_one_mul_self n (by omega)
 generalize n / d=q at *
 by_cases h:0≤q
 ·have:q*1≤q*d:=Int.mul_le_mul_of_nonneg_left hd h
  omega
 ·have:(q+1)*d≤(q+1)*1:=by
   have:=Int.mul_le_mul_of_nonneg_left hd (show 0≤-(q+1) by omega)
   grind
  omega
theorem EP {k:Nat} {r:Rat} (h:Fits k r):Fits k (flQ r):=by
 rw [tN]
 exact ⟨by rw [Rat.num_intCast];exact Nat.lt_of_le_of_lt (UR r) h.1,by rw [Rat.den_intCast];exact Nat.lt_of_le_of_lt r.den_pos h.2⟩
structure Cz where
 p:Int
 q:Int
 lp:Int
 lq:Int
def cz (a:Rat):Nat→Cz
 | 0=>⟨1,0,0,1⟩
 | i+1=>⟨(cz a i).lp+fl (cfr a i)*(cz a i).p,(cz a i).lq+fl (cfr a i)*(cz a i).q,(cz a i).p,(cz a i).q⟩
theorem vM (a:Rat):∀ i,(cv a i).p=((cz a i).p:Rat)∧(cv a i).q=((cz a i).q:Rat)∧(cv a i).lp=((cz a i).lp:Rat)∧(cv a i).lq=((cz a i).lq:Rat)
 | 0=>⟨rfl,rfl,rfl,rfl⟩
 | i+1=>by
  obtain ⟨h1,h2,h3,h4⟩:=vM a i
  simp only [cv,cz,h1,h2,h3,h4,tN,Rat.intCast_add,Rat.intCast_mul,and_self]
def er (a:Rat) (i:Nat):Rat:=a*((cz a i).q:Rat) - ((cz a i).p:Rat)
def ler (a:Rat) (i:Nat):Rat:=a*((cz a i).lq:Rat) - ((cz a i).lp:Rat)
def dt (a:Rat) (i:Nat):Int:=(cz a i).p*(cz a i).lq - (cz a i).lp*(cz a i).q
structure CI (a:Rat) (i:Nat):Prop where
 det:(dt a i=1∧er a i<0)∨(dt a i = -1∧0<er a i)
 le:ler a i = -(cfr a i*er a i)
 eb:-1≤er a i∧er a i≤1
 q0:0≤(cz a i).lq
 qn:(i=0∧(cz a i).q=0∧(cz a i).lq=1)∨(1≤(cz a i).q∧(cz a i).lq≤(cz a i).q∧1<cfr a i)
theorem Rh (a:Rat):CI a 0 where
 det:=.inl ⟨rfl,by show a*((0:Int):Rat) - ((1:Int):Rat)<0;rw [show ((0:Int):Rat)=0 from rfl,show ((1:Int):Rat)=1 from rfl];grind⟩
 le:=by
  show a*((1:Int):Rat) - ((0:Int):Rat) = -(a*(a*((0:Int):Rat) - ((1:Int):Rat)))
  rw [show ((0:Int):Rat)=0 from rfl,show ((1:Int):Rat)=1 from rfl];grind
 eb:=by
  show -1≤a*((0:Int):Rat) - ((1:Int):Rat)∧a*((0:Int):Rat) - ((1:Int):Rat)≤1
  rw [show ((0:Int):Rat)=0 from rfl,show ((1:Int):Rat)=1 from rfl]
  constructor <;> grind
 q0:=by show (0:Int)≤1;decide
 qn:=.inl ⟨rfl,rfl,rfl⟩
theorem Uw (a:Rat) (i:Nat):er a (i+1)=ler a i+(fl (cfr a i):Rat)*er a i:=by
 unfold er ler
 simp only [cz,Rat.intCast_add,Rat.intCast_mul]
 grind
theorem Xm (a:Rat) (i:Nat):ler a (i+1)=er a i:=rfl
theorem Ub (a:Rat) (i:Nat):dt a (i+1) = -dt a i:=by
 unfold dt
 simp only [cz]
 grind
theorem J8 {a:Rat} {i:Nat} (h:CI a i):er a (i+1) = -((cfr a i - (fl (cfr a i):Rat))*er a i):=by
 rw [Uw,h.le];grind
theorem ZC {x:Rat} (h:x≠flQ x):0<x - (fl x:Rat)∧x - (fl x:Rat)<1:=by
 have h1:=zf x
 have h2:=Ac x
 rw [tN] at h
 constructor <;> grind
theorem Wu {r:Rat} (h0:0<r) (h1:r<1):1<r⁻¹:=by
 have h2:r*r⁻¹=1:=Rat.mul_inv_cancel r (by grind)
 by_cases h:1<r⁻¹
 ·exact h
 ·have:=Rat.mul_nonneg (show 0≤1 - r⁻¹ by grind) (Rat.le_of_lt h0)
  grind
theorem zh {x:Rat} (h:1<x):1≤fl x:=by
 have h1:=Ac x
 have h2:((0:Int):Rat)<(fl x:Rat):=by
  have:((0:Int):Rat)=0:=rfl
  grind
 have:=jo.1 h2
 omega
theorem Rf {a:Rat} {i:Nat} (h:CI a i) (hx:cfr a i≠flQ (cfr a i)):CI a (i+1):=by
 obtain ⟨r0,r1⟩:=ZC hx
 have hn:=J8 h
 have hcf:cfr a (i+1)=(cfr a i - (fl (cfr a i):Rat))⁻¹:=rfl
 have hinv:(cfr a i - (fl (cfr a i):Rat))*(cfr a i - (fl (cfr a i):Rat))⁻¹=1:=Rat.mul_inv_cancel _ (by grind)
 have hg:=Wu r0 r1
 rw [← hcf] at hg hinv
 have hqn:=h.qn
 have hq0:=h.q0
 have hle:=h.le
 have heb:=h.eb
 have hdet:=h.det
 generalize hr:cfr a i - (fl (cfr a i):Rat)=r at *
 refine ⟨?_,?_,?_,?_,?_⟩
 ·rw [Ub,hn]
  rcases hdet with ⟨h1,h2⟩ | ⟨h1,h2⟩
  ·have:=Rat.mul_pos r0 (show 0 < -er a i by grind)
   exact .inr ⟨by omega,by grind⟩
  ·have:=Rat.mul_pos r0 h2
   exact .inl ⟨by omega,by grind⟩
 ·rw [Xm,hn]
  generalize er a i=e at *
  generalize cfr a (i+1)=y at *
  have:y * -(r*e) = -((r*y)*e):=by grind
  rw [this,hinv];grind
 ·rw [hn]
  rcases hdet with ⟨h1,h2⟩ | ⟨h1,h2⟩
  ·have:=Rat.mul_pos r0 (show 0 < -er a i by grind)
   have:=Rat.mul_pos (show 0<1 - r by grind) (show 0 < -er a i by grind)
   constructor <;> grind
  ·have:=Rat.mul_pos r0 h2
   have:=Rat.mul_pos (show 0<1 - r by grind) h2
   constructor <;> grind
 ·show 0≤(cz a i).q
  rcases hqn with ⟨-,h1,-⟩ | ⟨h1,-⟩ <;> omega
 ·refine .inr ?_
  show 1≤(cz a i).lq+fl (cfr a i)*(cz a i).q∧(cz a i).q≤(cz a i).lq+fl (cfr a i)*(cz a i).q∧1<cfr a (i+1)
  refine ⟨?_,?_,hg⟩
  ·rcases hqn with ⟨-,h1,h2⟩ | ⟨h1,h2,h3⟩
   ·rw [h1,h2];omega
   ·have:=Int.mul_le_mul_of_nonneg_right (zh h3) (show 0≤(cz a i).q by omega)
    omega
  ·rcases hqn with ⟨-,h1,h2⟩ | ⟨h1,h2,h3⟩
   ·rw [h1,h2];omega
   ·have:=Int.mul_le_mul_of_nonneg_right (zh h3) (show 0≤(cz a i).q by omega)
    omega
end Nm
namespace Nm
theorem yO {a:Rat} {p q:Int} (hq:1≤q) (h:a*(q:Rat)=(p:Rat)):(a.den:Int)≤q:=by
 have hn:=qR a
 have h1:((a.num*q:Int):Rat)=((p*(a.den:Int):Int):Rat):=by
  rw [Rat.intCast_mul,Rat.intCast_mul,← hn,← h];grind
 have h2:a.num*q=p*(a.den:Int):=by exact_mod_cast h1
 have h3:a.num.natAbs*q.natAbs=p.natAbs*a.den:=by
  have:=congrArg Int.natAbs h2
  rw [Int.natAbs_mul,Int.natAbs_mul,Int.natAbs_natCast] at this
  exact this
 have h4:a.den∣q.natAbs:=a.reduced.symm.dvd_of_dvd_mul_left ⟨p.natAbs,by rw [h3,Nat.mul_comm]⟩
 have:=Nat.le_of_dvd (by omega) h4
 omega
theorem OQ {a:Rat}:∀ i,(∀ j,j≤i→CI a j)→(i:Int)≤(cz a i).q+(cz a i).lq
 | 0,_=>by show (0:Int)≤0+1;decide
 | i+1,h=>by
  have hi:=OQ i fun j hj=>h j (by omega)
  have hc:=h i (by omega)
  show ((i+1:Nat):Int)≤(cz a i).lq+fl (cfr a i)*(cz a i).q+(cz a i).q
  rcases hc.qn with ⟨rfl,h1,h2⟩ | ⟨h1,h2,h3⟩
  ·rw [h1,h2];simp
  ·have:=Int.mul_le_mul_of_nonneg_right (zh h3) (show 0≤(cz a i).q by omega)
   have:=hc.q0
   omega
structure rU (a:Rat) (m:Int) (N:Nat):Prop where
 ci:∀ i,i≤N→CI a i
 on:∀ i,i<N→cfr a i≠flQ (cfr a i)
 le:∀ i,i<N→(cz a (i+1)).q≤m
theorem abo {a:Rat} {m:Int} {N:Nat} (hd:m<(a.den:Int)) (h:rU a m N) (hq:(cz a (N+1)).q≤m):rU a m (N+1):=by
 have hc:=h.ci N (Nat.le_refl _)
 have hx:cfr a N≠flQ (cfr a N):=fun hx=>by
  have he:=J8 hc
  rw [tN] at hx
  rw [show cfr a N - (fl (cfr a N):Rat)=0 by grind,Rat.zero_mul] at he
  have he0:a*((cz a (N+1)).q:Rat)=((cz a (N+1)).p:Rat):=by
   unfold er at he;grind
  have h1:1≤(cz a (N+1)).q:=by
   show 1≤(cz a N).lq+fl (cfr a N)*(cz a N).q
   rcases hc.qn with ⟨-,h1,h2⟩ | ⟨h1,h2,h3⟩
   ·rw [h1,h2];omega
   ·have:=Int.mul_le_mul_of_nonneg_right (zh h3) (show 0≤(cz a N).q by omega)
    have:=hc.q0
    omega
  have:=yO h1 he0
  omega
 refine ⟨fun i hi=>?_,fun i hi=>?_,fun i hi=>?_⟩
 ·rcases Nat.lt_or_ge N i with h1 | h1
  ·obtain rfl:i=N+1:=by omega
   exact Rf hc hx
  ·exact h.ci i h1
 ·rcases Nat.lt_or_ge i N with h1 | h1
  ·exact h.on i h1
  ·obtain rfl:i=N:=by omega
   exact hx
 ·rcases Nat.lt_or_ge i N with h1 | h1
  ·exact h.le i h1
  ·obtain rfl:i=N:=by omega
   exact hq
theorem abn {a:Rat} {m:Int} (hd:m<(a.den:Int)) (h1:1≤m):∃ N,rU a m N∧m<(cz a (N+1)).q:=by
 have key:∀ n N:Nat,2*m+1 - (N:Int)≤n→rU a m N→∃ N,rU a m N∧m<(cz a (N+1)).q:=by
  intro n
  induction n with
  | zero =>
   intro N hn h
   exfalso
   have hs:=OQ N h.ci
   cases N with
   | zero=>omega
   | succ M =>
    have h2:=h.le M (by omega)
    rcases (h.ci (M+1) (Nat.le_refl _)).qn with ⟨h3,-⟩ | ⟨h3,h4,-⟩
    ·cases h3
    ·omega
  | succ n ih =>
   intro N hn h
   by_cases hq:(cz a (N+1)).q≤m
   ·exact ih (N+1) (by omega) (abo hd h hq)
   ·exact ⟨N,h,by omega⟩
 exact key (2*m+1).toNat 0 (by omega) ⟨fun i hi=>(Nat.le_zero.1 hi) ▸ Rh a,fun i hi=>absurd hi (Nat.not_lt_zero i),fun i hi=>absurd hi (Nat.not_lt_zero i)⟩
theorem UQ {k:Nat} {x:Rat} (h:Fits k x):Fits k (x - flQ x):=by
 have hd:=vN x
 have hn:=qR x
 have h1:x - flQ x=((x.num % (x.den:Int):Int):Rat) / ((x.den:Int):Rat):=by
  have h2:((x.num % (x.den:Int):Int):Rat)=(x.num:Rat) - ((x.den:Int):Rat)*(fl x:Rat):=by
   rw [← Rat.intCast_mul,← Rat.intCast_sub]
   exact congrArg _ (by unfold fl;have:=Int.emod_add_mul_ediv x.num (x.den:Int);omega)
  have h3:((x.num % (x.den:Int):Int):Rat) / ((x.den:Int):Rat)*((x.den:Int):Rat)=((x.num % (x.den:Int):Int):Rat):=Rat.div_mul_cancel (by grind)
  rw [tN]
  generalize ((x.num % (x.den:Int):Int):Rat) / ((x.den:Int):Rat)=y at *
  rw [h2,← hn] at h3
  have h4:(y - (x - (fl x:Rat)))*((x.den:Int):Rat)=0:=by grind
  have:=(Rat.mul_eq_zero.1 h4).resolve_right (by grind)
  grind
 have hm:(x.num % (x.den:Int)).natAbs<x.den:=by
  have h1:=Int.emod_lt_of_pos x.num (show (0:Int)<(x.den:Int) by have:=x.den_pos;omega)
  have h2:=Int.emod_nonneg x.num (show (x.den:Int)≠0 by have:=x.den_pos;omega)
  omega
 rw [h1]
 have:=Rx.vS (z:=x.num % (x.den:Int)) (d:=(x.den:Int)) (k:=k) (k':=k) (by have:=x.den_pos;omega) (Nat.lt_trans hm h.2) (by rw [Int.natAbs_natCast];exact h.2)
 rwa [Nat.max_self] at this
theorem Ky {a:Rat} (hf:Fits 4 a):∀ i,(∀ j,j<i→cfr a j≠flQ (cfr a j))→Fits 4 (cfr a i)
 | 0,_=>hf
 | i+1,h=>(UQ (Ky hf i fun j hj=>h j (by omega))).inv (fun h0=>h i (by omega) (by grind))
end Nm
namespace Nm
theorem y8 {k:Nat} {z:Int} (h:z.natAbs<B64 ^ k) (h1:1≤k):Fits k (z:Rat):=⟨by rw [Rat.num_intCast];exact h,by rw [Rat.den_intCast];exact Nat.one_lt_pow (by omega) (by decide)⟩
theorem Jq {x y:Int} (h:x≤y):aF (x:Rat) (y:Rat)≤0:=by
 have h1:(x:Rat)≤(y:Rat):=jm.2 h
 by_cases h2:(x:Rat)=(y:Rat)
 ·rw [Rx.sJ.2 h2];decide
 ·rw [Rx.sG.2 (Rat.lt_of_le_of_ne h1 h2)];decide
theorem Jp {x y:Int} (h:y<x):aF (x:Rat) (y:Rat)=1:=by
 exact Rx.sF.2 (jo.2 h)
theorem IK (a:Rat):a≤((a.num.natAbs:Int):Rat)∧-((a.num.natAbs:Int):Rat)≤a:=by
 have hn:=qR a
 have hd:((1:Int):Rat)≤((a.den:Int):Rat):=jm.2 (by have:=a.den_pos;omega)
 have h1:(a.num:Rat)≤((a.num.natAbs:Int):Rat):=jm.2 (by omega)
 have h2:((-a.num:Int):Rat)≤((a.num.natAbs:Int):Rat):=jm.2 (by omega)
 have h3:((0:Int):Rat)≤((a.num.natAbs:Int):Rat):=jm.2 (by omega)
 rw [Rat.intCast_neg] at h2
 rw [show ((1:Int):Rat)=1 from rfl] at hd
 rw [show ((0:Int):Rat)=0 from rfl] at h3
 constructor
 ·by_cases h:a≤((a.num.natAbs:Int):Rat)
  ·exact h
  ·have:=Rat.mul_nonneg (show 0≤a by grind) (show 0≤((a.den:Int):Rat) - 1 by grind)
   grind
 ·by_cases h:-((a.num.natAbs:Int):Rat)≤a
  ·exact h
  ·have:=Rat.mul_nonneg (show 0≤-a by grind) (show 0≤((a.den:Int):Rat) - 1 by grind)
   grind
theorem MX {a:Rat} {p q:Int} (hq:0≤q) (hq2:q<9223372036854775808) (hf:Fits 4 a) (he:-1≤a*(q:Rat) - (p:Rat)∧a*(q:Rat) - (p:Rat)≤1):p.natAbs<B64 ^ 6:=by
 obtain ⟨h1,h2⟩:=IK a
 have hq':((0:Int):Rat)≤(q:Rat):=jm.2 hq
 rw [show ((0:Int):Rat)=0 from rfl] at hq'
 have m1:=Rat.mul_nonneg (show 0≤((a.num.natAbs:Int):Rat) - a by grind) hq'
 have m2:=Rat.mul_nonneg (show 0≤((a.num.natAbs:Int):Rat)+a by grind) hq'
 have b1:(p:Rat)≤(((a.num.natAbs:Int)*q+1:Int):Rat):=by
  rw [Rat.intCast_add,Rat.intCast_mul,show ((1:Int):Rat)=1 from rfl];grind
 have b2:((-((a.num.natAbs:Int)*q+1):Int):Rat)≤(p:Rat):=by
  rw [Rat.intCast_neg,Rat.intCast_add,Rat.intCast_mul,show ((1:Int):Rat)=1 from rfl];grind
 have c1:=jm.1 b1
 have c2:=jm.1 b2
 obtain ⟨n,rfl⟩:∃ n:Nat,q=n:=⟨q.toNat,by omega⟩
 have hA:=hf.1
 have hB1:B64 ^ 1=18446744073709551616:=by decide
 have hm:a.num.natAbs*n<B64 ^ 4*B64 ^ 1:=Nat.mul_lt_mul'' hA (by omega)
 have hB:B64 ^ 4*B64 ^ 1+1<B64 ^ 6:=by decide
 have e1:(a.num.natAbs:Int)*(n:Int)=((a.num.natAbs*n:Nat):Int):=by simp
 rw [e1] at c1 c2
 omega
theorem wz {z:Int} (h0:0≤z) (h1:z<9223372036854775808):Fits 1 (z:Rat):=by
 have hB:B64 ^ 1=18446744073709551616:=by decide
 exact y8 (by omega) (Nat.le_refl _)
section
variable {a:Rat} {m:Int} {N:Nat} (hf:Fits 4 a) (h1:1≤m) (h2:m<9223372036854775808) (hd:m<(a.den:Int)) (hu:rU a m N) (he:m<(cz a (N+1)).q)
include hu h1
theorem wO {i:Nat} (hi:i≤N):0≤(cz a i).q∧(cz a i).q≤m∧0≤(cz a i).lq∧(cz a i).lq≤m:=by
 have hc:=hu.ci i hi
 have h0:=hc.q0
 cases i with
 | zero=>exact ⟨by show (0:Int)≤0;omega,by show (0:Int)≤m;omega,h0,h1⟩
 | succ i =>
  have:=hu.le i (by omega)
  rcases hc.qn with ⟨h3,-⟩ | ⟨h3,h4,-⟩
  ·cases h3
  ·omega
include hf h2
theorem Np {i:Nat} (hi:i≤N):Fits 6 ((cz a i).p:Rat)∧Fits 6 ((cz a i).lp:Rat):=by
 obtain ⟨b1,b2,b3,b4⟩:=wO h1 hu hi
 refine ⟨y8 (MX b1 (by omega) hf (hu.ci i hi).eb) (by decide),?_⟩
 cases i with
 | zero=>exact y8 (by show (0:Int).natAbs<_;decide) (by decide)
 | succ i =>
  obtain ⟨b1,b2,b3,b4⟩:=wO h1 hu (show i≤N by omega)
  exact y8 (MX b1 (by omega) hf (hu.ci i (by omega)).eb) (by decide)
include he
theorem step_ok {i:Nat} (hi:i≤N):IE a m N 40 i:=by
 obtain ⟨c1,c2,c3,c4⟩:=vM a i
 obtain ⟨d1,d2,d3,d4⟩:=vM a (i+1)
 obtain ⟨b1,b2,b3,b4⟩:=wO h1 hu hi
 obtain ⟨f1,f2⟩:=Np hf h1 h2 hu hi
 have fx:=Ky hf i fun j hj=>hu.on j (by omega)
 have ft:=EP fx
 have fq:Fits 1 ((cz a i).q:Rat):=wz b1 (by omega)
 have flq:Fits 1 ((cz a i).lq:Rat):=wz b3 (by omega)
 rw [← c1] at f1
 rw [← c3] at f2
 rw [← c2] at fq
 rw [← c4] at flq
 exact {
  r:=fx.mono (by decide)
  t:=ft.mono (by decide)
  p:=f1.mono (by decide)
  q:=fq.mono (by decide)
  lp:=f2.mono (by decide)
  lq:=flq.mono (by decide)
  tp:=(ft.mul f1).mono (by decide)
  tq:=(ft.mul fq).mono (by decide)
  np:=(f2.plus (ft.mul f1)).mono (by decide)
  nq:=(flq.plus (ft.mul fq)).mono (by decide)
  on:=fun hi h=>hu.on i hi (by have:=Rx.aat.1 h;grind)
  lim1:=fun hi=>by rw [d2];exact Jq (hu.le i hi)
  lim2:=fun hi=>by subst hi;rw [d2];exact Jp he }
omit hf in
theorem last:∃ K:Int,(K:Rat)=flQ (((m:Rat) - (cv a N).lq) / (cv a N).q)∧1≤(cz a N).q∧0≤(cz a N).lq∧0≤K∧1≤(cz a N).lq+K*(cz a N).q∧(cz a N).lq+K*(cz a N).q≤m∧m<(cz a N).lq+K*(cz a N).q+(cz a N).q∧(K:Rat)<cfr a N:=by
 obtain ⟨c1,c2,c3,c4⟩:=vM a N
 have hc:=hu.ci N (Nat.le_refl _)
 obtain ⟨b1,b2,b3,b4⟩:=wO h1 hu (Nat.le_refl N)
 have hq1:1≤(cz a N).q∧(cz a N).lq≤(cz a N).q∧1<cfr a N:=by
  rcases hc.qn with ⟨rfl,h3,h4⟩ | h3
  ·exfalso
   have:(cz a (0+1)).q=1:=by
    show (1:Int)+fl (cfr a 0)*0=1
    omega
   omega
  ·exact h3
 rw [c2,c4]
 refine ⟨_,(tN _).symm,hq1.1,b3,?_⟩
 have hqp:(0:Rat)<((cz a N).q:Rat):=by
  have:((0:Int):Rat)<((cz a N).q:Rat):=jo.2 (by omega)
  exact this
 have hdm:((m:Rat) - ((cz a N).lq:Rat)) / ((cz a N).q:Rat)*((cz a N).q:Rat)=(m:Rat) - ((cz a N).lq:Rat):=Rat.div_mul_cancel (by grind)
 have g1:=zf (((m:Rat) - ((cz a N).lq:Rat)) / ((cz a N).q:Rat))
 have g2:=Ac (((m:Rat) - ((cz a N).lq:Rat)) / ((cz a N).q:Rat))
 generalize fl (((m:Rat) - ((cz a N).lq:Rat)) / ((cz a N).q:Rat))=K at *
 generalize ((m:Rat) - ((cz a N).lq:Rat)) / ((cz a N).q:Rat)=y at *
 have e1:=Rat.mul_nonneg (show 0≤y - (K:Rat) by grind) (Rat.le_of_lt hqp)
 have e2:=Rat.mul_pos (show 0<(K:Rat)+1 - y by grind) hqp
 have k1:(((cz a N).lq+K*(cz a N).q:Int):Rat)≤(m:Rat):=by
  rw [Rat.intCast_add,Rat.intCast_mul];grind
 have k2:(m:Rat)<(((cz a N).lq+K*(cz a N).q+(cz a N).q:Int):Rat):=by
  rw [Rat.intCast_add,Rat.intCast_add,Rat.intCast_mul];grind
 have k1':=jm.1 k1
 have k2':=jo.1 k2
 have hK:0≤K:=by
  rcases Int.lt_or_le K 0 with h | h
  ·have:=Int.mul_le_mul_of_nonneg_right (show K+1≤0 by omega) (show 0≤(cz a N).q by omega)
   have e:(K+1)*(cz a N).q=K*(cz a N).q+(cz a N).q:=by grind
   omega
  ·exact h
 refine ⟨hK,?_,k1',k2',?_⟩
 ·rcases Int.lt_or_le 0 K with h | h
  ·have:=Int.mul_le_mul_of_nonneg_right (show 1≤K by omega) (show 0≤(cz a N).q by omega)
   omega
  ·obtain rfl:K=0:=by omega
   rcases Nat.eq_zero_or_pos N with rfl | hN
   ·have:(cz a 0).lq=1:=rfl
    omega
   ·obtain ⟨M,rfl⟩:∃ M,N=M+1:=⟨N - 1,by omega⟩
    have hM:=hu.ci M (by omega)
    have hl:(cz a (M+1)).lq=(cz a M).q:=rfl
    rcases hM.qn with ⟨rfl,h3,h4⟩ | ⟨h3,-⟩
    ·have:(cz a (0+1)).q=1:=by
      show (1:Int)+fl (cfr a 0)*0=1
      omega
     omega
    ·omega
 ·have hlt:K*(cz a N).q<fl (cfr a N)*(cz a N).q:=by
   have:(cz a (N+1)).q=(cz a N).lq+fl (cfr a N)*(cz a N).q:=rfl
   omega
  have h4:K<fl (cfr a N):=Int.lt_of_mul_lt_mul_right hlt (by omega)
  have h5:(K:Rat)<(fl (cfr a N):Rat):=jo.2 h4
  have:=zf (cfr a N)
  grind
end
end Nm
end Go.Proofs.YthalajpklaodkaaGreatDoor
