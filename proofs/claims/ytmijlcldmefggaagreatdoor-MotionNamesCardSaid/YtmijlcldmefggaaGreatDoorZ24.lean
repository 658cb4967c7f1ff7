/- What the proof rests on, part 24. -/
import Derived.Test.YtmijlcldmefggaaGreatDoorZ23
namespace Go.Proofs.YtmijlcldmefggaaGreatDoor
set_option maxRecDepth 100000
set_option maxHeartbeats 80000000
namespace Rx.Ry
open Go.RowKit
inductive Tg where
 | f (f:FuncId)
 | y (k:Nat)
abbrev CallT (S:Sys):=List (Nat×Nat)→Tg→List SV→T (It S)→Nat→Option (Rs S)
def Called (P:Program) (ρ:Env) (W:World) (args:Array Value) (K:Ending→World→Prop):Tg→Prop
 | .f f=>Calls P f args W K
 | .y k=>∃ r:Loop,W.heap[(ρ k).pos]? = some (.loop r)∧args.size=r.params.size∧RoundIn Fence.wide 0 P (ρ k).pos r.fn ((r.params.zip args).foldl (fun tmps (t,a)=>tmps.setIfInBounds t a) r.tmps) r.assign r.body W K
def CallOk (P:Program) {S:Sys} (X:Xt S) (w00:World) (call:CallT S):Prop:=∀ fb g args hp n r,call fb g args hp n=some r→Wf hp n→Pl fb hp n r∧∀ (ρ:Env) (W:World),Inv X w00 fb ρ hp W →
 Called P ρ W (args.map (SV.den ρ)).toArray (fun e W'=>∃ v ρ',e=.returned v∧Dy X w00 fb n r ρ W v ρ' W') g
theorem T.vals_get {α:Type} {v:α}:∀ {t:T α},v∈t.vals→∃ k,t.get k=some v
 | .l,h=>by cases h
 | .n o a b,h=>by
  simp only [T.vals,List.mem_append] at h
  rcases h with h | h | h
  ·refine ⟨0,?_⟩
   cases o with
   | none=>cases h
   | some u =>
    obtain rfl:v=u:=by simpa using h
    rfl
  ·obtain ⟨k,hk⟩:=T.vals_get h
   refine ⟨2*k+1,?_⟩
   have e1:Nat.mod (2*k) 2=0:=by show 2*k % 2=0;omega
   have e2:Nat.div (2*k) 2=k:=by show 2*k / 2=k;omega
   simp only [T.get,e1,e2,Nat.beq_refl,cond_true]
   exact hk
  ·obtain ⟨k,hk⟩:=T.vals_get h
   refine ⟨2*k+2,?_⟩
   have e1:Nat.mod (2*k+1) 2=1:=by show (2*k+1) % 2=1;omega
   have e2:Nat.div (2*k+1) 2=k:=by show (2*k+1) / 2=k;omega
   simp only [T.get,e1,e2,Nat.beq,cond_false]
   exact hk
section
variable (P:Program) {S:Sys} (ev:(Tmp→Option SV)→List (Nat×Nat)→T (It S)→Nat→Op→Option (Rs S)) (call:CallT S) (fb:List (Nat×Nat)) (n0 N:Nat) (rk:Option Nat)
def loopX (f:St S→Option (Ex×St S)):Nat→St S→Option (Ex×St S)
 | 0,_=>none
 | n+1,σ=>match f σ with
  | some (.normal,σ1)=>loopX f n σ1
  | r=>r
def entY (σ:St S):Option (Nat×St S):=match rk with
 | none=>bif Nat.blt σ.n top then some (σ.n,⟨σ.regs,σ.hp.set (some .df) σ.n,σ.n+1,σ.wr,.co σ.n :: σ.df⟩) else none
 | some k=>match see fb σ.hp k with
  | some (.lp L)=>some (L.d,σ)
  | _=>none
def ptS (x:Nat×Nat):SV:=.e (.s (.ptr x.1 x.2))
def endX:Nat→Option Code→Option Ex
 | 0,none=>some .normal
 | 1,some .ret=>some .ret
 | 1,some (.exit i)=>some (.exit i)
 | _,_=>none
def outY (σ1:St S) (kl:Nat) (r:Rs S):Option (Ex×St S):=match see fb r.hp kl with
 | some (.lp L)=>match endX L.st L.pend with
  | some x=>bif Nat.blt r.n top then some (x,⟨σ1.regs,r.hp.set none kl,r.n,mrg n0 [kl] (mrg n0 r.wr σ1.wr),σ1.df⟩) else none
  | none=>none
 | _=>none
def rangeX (g:Operand) (ps:Array Tmp) (x y:Code) (σ:St S):Option (Ex×St S):=match opd (fun t=>some (rdG σ.regs t)) g with
 | some (.e (.s (.fn f l)))=>bif callB P f then (match entY fb rk σ with
  | some (d,σ1)=>bif Nat.blt (σ1.n+1) top then (match call fb (.f f) (.e (.s (.yl σ1.n)) :: l.map ptS) (σ1.hp.set (some (.lp ⟨0,none,σ1.regs,N,ps.toList,x,y,d⟩)) σ1.n) (σ1.n+1) with
   | some r=>outY fb n0 σ1 σ1.n r
   | none=>none) else none
  | none=>none) else none
 | _=>none
noncomputable def exec:Nat→Code→St S→Option (Ex×St S)
 | 0,_,_=>none
 | f+1,c,σ=>match c with
  | .skip=>some (.normal,σ)
  | .label _=>some (.normal,σ)
  | .exit id=>some (.exit id,σ)
  | .ret=>some (.ret,σ)
  | .region _ ops d=>bif lexB 0 ops.toList && dstsB ops.toList && insB N ops.toList then
    match (bif d then regD ev fb n0 ops.toList σ else runS ev fb n0 ops.toList ops.toList σ) with
    | some σ'=>some (.normal,σ')
    | none=>none
    else none
  | .seq a b=>match exec f a σ with
   | some (.normal,σ1)=>exec f b σ1
   | r=>r
  | .cond c x y=>match opd (fun t=>some (rdG σ.regs t)) c with
   | some (.e (.s (.bl true)))=>exec f x σ
   | some (.e (.s (.bl false)))=>exec f y σ
   | _=>none
  | .block id c=>match exec f c σ with
   | some (.exit i,σ')=>if i=id then some (.normal,σ') else some (.exit i,σ')
   | r=>r
  | .loop c=>loopX (exec f c) f σ
  | .scope c=>exec f c σ
  | .rangeFunc g ps x y=>rangeX P call fb n0 N rk g ps x y σ
  | _=>none
end
section
variable {P:Program} {S:Sys} {X:Xt S} {w00 w0:World} {ρ0:Env} {n0 N:Nat} {fb:List (Nat×Nat)} {rk:Option Nat} {m:Nat}
variable {ev:(Tmp→Option SV)→List (Nat×Nat)→T (It S)→Nat→Op→Option (Rs S)} {call:CallT S} {hp0:T (It S)}
def roOf (ρ0:Env) (rk:Option Nat):Option Nat:=rk.map fun k=>(ρ0 k).pos
def Good (P:Program) (X:Xt S) (w00 w0:World) (ρ0:Env) (n0 N:Nat) (fb:List (Nat×Nat)) (hp0:T (It S)) (rk:Option Nat) (m:Nat) (c:Code) (f:St S→Option (Ex×St S)):Prop:=
 ∀ σ x σ',f σ=some (x,σ')→PlS fb hp0 n0 σ→PlS fb hp0 n0 σ'∧σ.n≤σ'.n∧∀ ρ a W (Q:Exit→Act→World→Prop),Says X w00 w0 ρ0 n0 N fb σ ρ a W →
  (∀ ρ' a' W',(∀ n,n<σ.n→ρ' n=ρ n)→Says X w00 w0 ρ0 n0 N fb σ' ρ' a' W'→Q x.out a' W')→c.wpIn (fen (roOf ρ0 rk)) m P Q a W
theorem loop_good {c:Code} {f:St S→Option (Ex×St S)} (h:Good P X w00 w0 ρ0 n0 N fb hp0 rk m c f):∀ n σ x σ',loopX f n σ=some (x,σ')→PlS fb hp0 n0 σ→PlS fb hp0 n0 σ'∧σ.n≤σ'.n∧∀ ρ a W (Q:Exit→Act→World→Prop),Says X w00 w0 ρ0 n0 N fb σ ρ a W →
  (∀ ρ' a' W',(∀ n,n<σ.n→ρ' n=ρ n)→Says X w00 w0 ρ0 n0 N fb σ' ρ' a' W'→Q x.out a' W')→Code.roundsIn (fen (roOf ρ0 rk)) m P c Q n a W
 | 0,σ,x,σ',hx,_=>by simp [loopX] at hx
 | n+1,σ,x,σ',hx,wf=>by
  simp only [loopX] at hx
  split at hx
  ·rename_i σ1 h1
   obtain ⟨wf1,le1,go1⟩:=h σ _ _ h1 wf
   obtain ⟨wf2,le2,go2⟩:=loop_good h n σ1 x σ' hx wf1
   refine ⟨wf2,Nat.le_trans le1 le2,fun ρ a W Q hs hQ=>?_⟩
   rw [roundsIn_succ]
   refine go1 ρ a W _ hs fun ρ1 a1 W1 hl1 hs1=>?_
   exact go2 ρ1 a1 W1 Q hs1 fun ρ2 a2 W2 hl2 hs2=>hQ ρ2 a2 W2 (fun n hn=>(hl2 n (by omega)).trans (hl1 n hn)) hs2
  ·rename_i hr
   have hx':=hx
   obtain ⟨wf1,le1,go1⟩:=h σ x σ' hx wf
   refine ⟨wf1,le1,fun ρ a W Q hs hQ=>?_⟩
   rw [roundsIn_succ]
   refine go1 ρ a W _ hs fun ρ1 a1 W1 hl1 hs1=>?_
   have hne:x≠.normal:=fun e=>by subst e;exact hr σ' hx'
   have:=hQ ρ1 a1 W1 hl1 hs1
   cases x <;> first | exact absurd rfl hne | exact this
theorem bif_some {α:Type} {g:Bool} {x y:α} (h:(bif g then some x else none)=some y):g=true∧x=y:=by
 cases g with
 | true=>exact ⟨rfl,Option.some.inj h⟩
 | false=>cases h
theorem Says.still {σ:St S} (ps:PlS fb hp0 n0 σ) {ρ ρ':Env} {a:Act} {W W':World} (h:Says X w00 w0 ρ0 n0 N fb σ ρ a W) {x:Rs S} (pl:Pl fb σ.hp σ.n x) {v:Value} (dy:Dy X w00 fb σ.n x ρ W v ρ' W') (hN:N≤top) :
  PlS fb hp0 n0 ⟨σ.regs,x.hp,x.n,mrg n0 x.wr σ.wr,σ.df⟩∧Says X w00 w0 ρ0 n0 N fb ⟨σ.regs,x.hp,x.n,mrg n0 x.wr σ.wr,σ.df⟩ ρ' a W':=
 ⟨Pl.step ps pl (dst:=none) (fun _ h=>by cases h),Says.step ps h pl dy (dst:=none) (fun _ h=>by cases h) hN⟩
theorem Pl.still {σ:St S} (ps:PlS fb hp0 n0 σ) {x:Rs S} (pl:Pl fb σ.hp σ.n x):PlS fb hp0 n0 ⟨σ.regs,x.hp,x.n,mrg n0 x.wr σ.wr,σ.df⟩:=
 Pl.step ps pl (dst:=none) (fun _ h=>by cases h)
theorem PlS.deferred {σ:St S} (ps:PlS fb hp0 n0 σ) {l:List Dd} (h:∀ m∈l.flatMap Dd.nm,m<σ.n):PlS fb hp0 n0 ⟨σ.regs,σ.hp,σ.n,σ.wr,l⟩:=
 ⟨ps.le,ps.rg,ps.wf,ps.keep,ps.wr,h⟩
theorem Says.deferred {σ:St S} {ρ:Env} {a:Act} {W:World} (h:Says X w00 w0 ρ0 n0 N fb σ ρ a W) {l:List Dd} {ds:List Deferred} (hd:ds=l.map (Dd.den ρ)):Says X w00 w0 ρ0 n0 N fb ⟨σ.regs,σ.hp,σ.n,σ.wr,l⟩ ρ { a with defers:=ds } W:=
 ⟨h.sz,hd,h.rg,h.top,h.sat,h.lo,h.inj,h.ag,h.fsz,h.fblk,h.ffct,h.nw⟩
theorem Says.inv {σ:St S} {ρ:Env} {a:Act} {W:World} (h:Says X w00 w0 ρ0 n0 N fb σ ρ a W):Inv X w00 fb ρ σ.hp W:=Holds.inv h fun _ _ hk hf=>⟨hf,hk⟩
def atN (ρ:Env) (n p:Nat):Env:=fun m=>if m=n then { ρ m with pos:=p } else ρ m
theorem atN_ne {ρ:Env} {n p m:Nat} (h:m≠n):atN ρ n p m=ρ m:=if_neg h
theorem atN_self (ρ:Env) (n p:Nat):(atN ρ n p n).pos=p:=by simp [atN]
theorem below_alloc (W:World) (o:Obj):Below W.heap.size W (W.alloc o):=(Below.refl _ _).alloc (Nat.le_refl _) _
theorem ent_ok {σ:St S} {d:Nat} {σ1:St S} (h:entY fb rk σ=some (d,σ1)) (ps:PlS fb hp0 n0 σ) (hN:N≤top) (hrk:∀ k,rk=some k→k<n0) :
  PlS fb hp0 n0 σ1∧σ.n≤σ1.n∧d<σ1.n∧σ1.regs=σ.regs∧∀ ρ a W,Says X w00 w0 ρ0 n0 N fb σ ρ a W→∃ ρ1 mark W1,(∀ n,n<σ.n→ρ1 n=ρ n)∧Says X w00 w0 ρ0 n0 N fb σ1 ρ1 { a with defers:=mark ++ a.defers } W1 ∧
   ∀ fn ps x y,(Instr.enterLoop fn a.tmps ps x y (roOf ρ0 rk)).run P W=.ok (W1.heap.size,mark) (W1.alloc (.loop { state:=.ready,pending:=none,fn:=fn,tmps:=a.tmps,params:=ps,assign:=x,body:=y,defers:=(ρ1 d).pos })):=by
 unfold entY at h
 split at h
 ·cases hb:Nat.blt σ.n top with
  | false=>rw [hb] at h;cases h
  | true =>
   rw [hb,cond_true] at h
   obtain ⟨rfl,rfl⟩:=Prod.mk.inj (Option.some.inj h)
   have ht:σ.n<top:=Nat.le_of_ble_eq_true hb
   have pl:Pl fb σ.hp σ.n (⟨.und,σ.hp.set (some .df) σ.n,σ.n+1,[]⟩:Rs S):=newI_pl (fun m hm=>by cases hm) (fun m hm=>by cases hm) ht
   have hd:∀ m∈(Dd.co σ.n :: σ.df).flatMap Dd.nm,m<σ.n+1:=fun m hm=>by
    rw [List.flatMap_cons,List.mem_append] at hm
    rcases hm with hm | hm
    ·obtain rfl:=List.mem_singleton.1 hm;omega
    ·have:=ps.df m hm;omega
   refine ⟨(Pl.still ps pl).deferred hd,Nat.le_succ _,Nat.lt_succ_self _,rfl,fun ρ a W hs=>?_⟩
   have dy:Dy X w00 fb σ.n (⟨.und,σ.hp.set (some .df) σ.n,σ.n+1,[]⟩:Rs S) ρ W undef (atN ρ σ.n W.heap.size) (W.alloc (.deferred (some []))):=by
    refine newI_dy ht hs.inv ps.wf (fun m hm=>atN_ne hm) (fun _=>atN_self _ _ _) rfl (below_alloc _ _) ?_
    show (W.alloc _).heap[(atN ρ σ.n W.heap.size σ.n).pos]? = _
    rw [atN_self]
    exact World.alloc_heap_new _ _
   refine ⟨atN ρ σ.n W.heap.size,[{ target:=.collected W.heap.size,args:=#[] }],W.alloc (.deferred (some [])),fun n hn=>atN_ne (by omega),(Says.still ps hs pl dy hN).2.deferred ?_,fun fn ps x y=>?_⟩
   ·rw [List.map_cons,hs.df,List.singleton_append,dds_congr (l:=σ.df) (ρ':=atN ρ σ.n W.heap.size) (ρ:=ρ) fun m hm=>atN_ne (by have:=ps.df m hm;omega)]
    simp only [Dd.den,atN_self]
   ·show (Instr.enterLoop fn a.tmps ps x y none).run P W=_
    rw [run_enterLoop_outer,atN_self]
    simp
 ·rename_i k
  split at h
  ·rename_i L hL
   obtain ⟨rfl,rfl⟩:=Prod.mk.inj (Option.some.inj h)
   obtain ⟨h1,h2⟩:=see_some hL
   refine ⟨ps,Nat.le_refl _,(ps.wf k _ h1).2 _ (.head _),rfl,fun ρ a W hs=>⟨ρ,[],W,fun _ _=>rfl,hs,fun fn ps x y=>?_⟩⟩
   obtain ⟨fn0,tm,h3,-⟩:=hs.sat k _ h1 h2
   rw [hs.ag k (hrk k rfl)] at h3
   exact run_enterLoop_inner h3 fn a.tmps ps x y
  ·cases h
theorem opd_fn {σ:St S} {g:Operand} {f:FuncId} {l:List (Nat×Nat)} (h:opd (fun t=>some (rdG σ.regs t)) g=some (.e (.s (.fn f l)))) {ρ:Env} {a:Act} {W:World} (hs:Says X w00 w0 ρ0 n0 N fb σ ρ a W):a.eval g=.func (.func f) #[] (l.map (ptD ρ)).toArray:=
 opd_ok (ρ:=ρ) h fun t v hv=>by
  simp only [Option.some.injEq] at hv;subst hv;exact hs.rg t
theorem run_enterF {f:FuncId} (hb:callB P f=true) (args:Array Value) (w:World):(callFunc f args).run P w=.ok (.enter f args) w:=by
 unfold callB at hb
 split at hb
 ·rename_i fn hfn
  simp only [Bool.and_eq_true,Bool.not_eq_true',Option.isSome_iff_ne_none] at hb
  obtain ⟨h1,h2⟩:=hb
  have h3:¬ fn.name = "runtime.NumGoroutine":=by simpa using h2
  simp [callFunc,program,hfn,h1,h3,Sem.run_bind,Sem.run,Result.andThen,pure]
 ·cases hb
theorem range_good (hcall:CallOk P X w00 call) (hN:N≤top) (hrk:∀ k,rk=some k→k<n0) (g:Operand) (qs:Array Tmp) (c1 c2:Code):Good P X w00 w0 ρ0 n0 N fb hp0 rk m (.rangeFunc g qs c1 c2) (rangeX P call fb n0 N rk g qs c1 c2):=by
 intro σ x σ' h ps
 unfold rangeX at h
 split at h
 ·rename_i f l hg
  cases hcb:callB P f with
  | false=>rw [hcb] at h;cases h
  | true =>
   rw [hcb,cond_true] at h
   split at h
   ·rename_i d σ1 he
    obtain ⟨ps1,le1,hd,hregs,go1⟩:=ent_ok (P:=P) (X:=X) (w00:=w00) (w0:=w0) (ρ0:=ρ0) he ps hN hrk
    cases hb1:Nat.blt (σ1.n+1) top with
    | false=>rw [hb1] at h;cases h
    | true =>
     rw [hb1,cond_true] at h
     have ht1:σ1.n+1<top:=Nat.le_of_ble_eq_true hb1
     split at h
     ·rename_i r hr
      have pl2:Pl fb σ1.hp σ1.n (⟨.und,σ1.hp.set (some (.lp ⟨0,none,σ1.regs,N,qs.toList,c1,c2,d⟩)) σ1.n,σ1.n+1,[]⟩:Rs S):=newI_pl (fun m hm=>by
       rcases List.mem_cons.1 hm with rfl | hm
       ·exact Nat.lt_succ_of_lt hd
       ·obtain ⟨v,hv,hm⟩:=List.mem_flatMap.1 hm
        obtain ⟨t,ht⟩:=T.vals_get hv
        exact Nat.lt_succ_of_lt (ps1.rg t m (by unfold rdG;rw [ht];exact hm))) (fun m hm=>by cases hm) (by omega)
      have ps2:=Pl.still ps1 pl2
      obtain ⟨pl3,go3⟩:=hcall _ _ _ _ _ _ hr ps2.wf
      have ps3:=Pl.still ps2 pl3
      unfold outY at h
      split at h
      ·rename_i L hL
       obtain ⟨hL1,hL2⟩:=see_some hL
       split at h
       ·rename_i x' hx
        obtain ⟨hrt,h⟩:=bif_some h
        obtain ⟨rfl,rfl⟩:=Prod.mk.inj h
        have hrt:r.n<top:=Nat.le_of_ble_eq_true hrt
        have hkn:σ1.n<r.n:=Nat.lt_of_lt_of_le (Nat.lt_succ_self _) pl3.le
        have pl4:Pl fb r.hp r.n (⟨.und,r.hp.set none σ1.n,r.n,[σ1.n]⟩:Rs S):=putI_pl hkn hrt hL2 ⟨_,hL1,rfl⟩ (fun _ i hi=>by cases hi) fun m hm=>by cases hm
        have ps4:=Pl.still ps3 pl4
        refine ⟨ps4,Nat.le_trans le1 (Nat.le_trans (Nat.le_succ _) pl3.le),fun ρ a W Q hs hQ=>?_⟩
        obtain ⟨ρ1,mark,W1,ag1,hs1,hent⟩:=go1 ρ a W hs
        have hfn:=opd_fn (σ:=σ1) (g:=g) (f:=f) (l:=l) (by rw [hregs];exact hg) hs1
        refine wpIn_rangeFunc fun fn _=>?_
        have hent:=hent fn qs c1 c2
        rw [fen_round]
        obtain ⟨o,ho⟩:∃ o:Loop,o = { state:=.ready,pending:=none,fn:=fn,tmps:=a.tmps,params:=qs,assign:=c1,body:=c2,defers:=(ρ1 d).pos }:=⟨_,rfl⟩
        rw [← ho] at hent
        have dy2:Dy X w00 fb σ1.n (⟨.und,σ1.hp.set (some (.lp ⟨0,none,σ1.regs,N,qs.toList,c1,c2,d⟩)) σ1.n,σ1.n+1,[]⟩:Rs S) ρ1 W1 undef (atN ρ1 σ1.n W1.heap.size) (W1.alloc (.loop o)):=by
         refine newI_dy (by omega) hs1.inv ps1.wf (fun m hm=>atN_ne hm) (fun _=>atN_self _ _ _) rfl (below_alloc _ _) ⟨fn,a.tmps,?_,hs1.sz,fun t=>?_⟩
         ·rw [atN_self,World.alloc_heap_new,ho,atN_ne (show d≠σ1.n by omega)]
          rfl
         ·refine (hs1.rg t).trans (SV.den_congr fun m hm=>(atN_ne ?_).symm)
          have:=ps1.rg t m hm
          omega
        obtain ⟨-,hs2⟩:=Says.still ps1 hs1 pl2 dy2 hN
        have hc:=go3 _ _ hs2.inv
        refine ⟨W1.heap.size,mark,W1.alloc (.loop o),{ target:=.fn (.func f) (l.map (ptD ρ1)).toArray,args:=#[.func (.yield W1.heap.size) #[] #[]] },W1.alloc (.loop o),f,
         #[.func (.yield W1.heap.size) #[] #[]] ++ (l.map (ptD ρ1)).toArray,W1.alloc (.loop o),hent,?_,fun f' hf'=>fen_fn _ _,?_,fun h=>fen_depth h,?_⟩
        ·have hfn':a.eval g=.func (.func f) #[] (l.map (ptD ρ1)).toArray:=hfn
         simp only [resolve,hfn']
         simp [go_sem]
        ·simp [invoke,go_sem,run_enterF hcb]
        ·have hargs:((SV.e (.s (.yl σ1.n)) :: l.map ptS).map (SV.den (atN ρ1 σ1.n W1.heap.size))).toArray=#[.func (.yield W1.heap.size) #[] #[]] ++ (l.map (ptD ρ1)).toArray:=by
          rw [List.map_cons,show SV.den (atN ρ1 σ1.n W1.heap.size) (SV.e (.s (.yl σ1.n)))=.func (.yield W1.heap.size) #[] #[] by simp only [SV.den,El.den,Cell.den,atN_self],List.map_map]
          have e:l.map (SV.den (atN ρ1 σ1.n W1.heap.size) ∘ ptS)=l.map (ptD ρ1):=List.map_congr_left fun x hx=>by
           have hlt:x.1<σ1.n:=by
            have h1:∀ m∈(SV.e (.s (.fn f l))).nm,m<σ.n:=by
             have:=hg
             unfold opd at this
             split at this
             ·rename_i t
              intro m hm
              simp only [Option.some.injEq] at this
              exact ps.rg t m (by rw [this];exact hm)
             ·rename_i c
              intro m hm
              exfalso
              have h9:∀ {v:Value} {s:SV},absV v=some s→s.nm=[]:=fun {v s} hv=>by
               have key:∀ {v:Value} {c:Cell},absC v=some c→c.nm=[]:=fun {v c} hv=>by
                unfold absC at hv
                split at hv <;> first | (cases hv;rfl) | cases hv
               unfold absV at hv
               split at hv
               ·rename_i cs
                obtain ⟨l',h1,rfl⟩:=Option.map_eq_some_iff.1 hv
                have:∀ {vs:List Value} {l':List Cell},absL vs=some l'→l'.flatMap Cell.nm=[]:=by
                 intro vs
                 induction vs with
                 | nil=>intro l' h;simp only [absL,Option.some.injEq] at h;subst h;rfl
                 | cons v r ih =>
                  intro l' h
                  simp only [absL] at h
                  split at h
                  ·rename_i c l2 h1 h2
                   cases h
                   rw [List.flatMap_cons,key h1,ih h2];rfl
                  ·cases h
                exact this h1
               ·obtain ⟨c,h1,rfl⟩:=Option.map_eq_some_iff.1 hv
                show (El.s c).cells.flatMap Cell.nm=[]
                simp [El.cells,key h1]
              rw [h9 this] at hm
              cases hm
             all_goals first
              | (cases this;done)
              | (cases this;intro m hm;cases hm)
            exact Nat.lt_of_lt_of_le (h1 x.1 (by simp only [SV.nm,El.cells,List.flatMap_cons,List.flatMap_nil,List.append_nil,Cell.nm];exact List.mem_map.2 ⟨x,hx,rfl⟩)) le1
           show Value.pointer (some ⟨(atN ρ1 σ1.n W1.heap.size x.1).pos,x.2,none⟩)=_
           rw [atN_ne (by omega)]
           rfl
          rw [e]
          simp
         rw [hargs] at hc
         refine (fen_calls hc).mono ?_
         rintro e W3 ⟨v,ρ3,rfl,dy3⟩
         obtain ⟨-,hs3⟩:=Says.still ps2 hs2 pl3 dy3 hN
         obtain ⟨fn3,tm3,hb3,-,-⟩:=hs3.sat σ1.n _ hL1 hL2
         have hp3:(ρ3 σ1.n).pos=W1.heap.size:=by rw [dy3.ag σ1.n (.inl (Nat.lt_succ_self _)),atN_self]
         have hst:lpSt L.st≠.busy∧(L.pend=none∧x' = .normal∨L.pend=some .ret∧x' = .ret∨∃ i,L.pend=some (.exit i)∧x' = .exit i):=by
          unfold endX at hx
          split at hx
          ·rename_i h1 h2;rw [h1,h2];exact ⟨by decide,.inl ⟨rfl,(Option.some.inj hx).symm⟩⟩
          ·rename_i h1 h2;rw [h1,h2];exact ⟨by decide,.inr (.inl ⟨rfl,(Option.some.inj hx).symm⟩)⟩
          ·rename_i i h1 h2;rw [h1,h2];exact ⟨by decide,.inr (.inr ⟨i,rfl,(Option.some.inj hx).symm⟩)⟩
          ·cases hx
         have hend:=run_endLoop (P:=P) hb3 hst.1
         rw [hp3] at hend hb3
         have dy4:Dy X w00 fb r.n (⟨.und,r.hp.set none σ1.n,r.n,[σ1.n]⟩:Rs S) ρ3 W3 undef ρ3 (W3.putObj W1.heap.size (.loop { state:=.exhausted,pending:=L.pend,fn:=fn3,tmps:=tm3,params:=L.ps.toArray,assign:=L.x,body:=L.y,defers:=(ρ3 L.d).pos })):=by
          have h5:=hs3.inv
          rw [← hp3]
          exact obj_dy hkn hrt hL2 ⟨_,hL1,rfl⟩ h5 ps3.wf rfl (by rw [hp3];exact hb3) (fun c T z h=>by cases h) (fun i hi=>by cases hi)
         obtain ⟨-,hs4⟩:=Says.still ps3 hs3 pl4 dy4 hN
         have key:∀ (a':Act) (W4:World),Q x'.out a' W4→(match L.pend with
           | none=>Q .normal a' W4
           | some c=>c.wpIn (fen (roOf ρ0 rk)) m P Q a' W4):=fun a' W4 hQ'=>by
          rcases hst.2 with ⟨h1,h2⟩ | ⟨h1,h2⟩ | ⟨i,h1,h2⟩
          ·rw [h1];subst h2;exact hQ'
          ·rw [h1];subst h2;exact wpIn_ret hQ'
          ·rw [h1];subst h2;exact wpIn_exit hQ'
         refine ⟨L.pend,_,hend,key _ _ (hQ ρ3 _ _ (fun n hn=>?_) hs4)⟩
         have:n<σ1.n:=by omega
         rw [dy3.ag n (.inl (by omega)),atN_ne (by omega),ag1 n hn]
       ·cases h
      ·cases h
     ·cases h
   ·cases h
 ·cases h
theorem exec_good (hm:P.follows .mixedOrders=true) (hev:EvOk P X w00 ev) (hcall:CallOk P X w00 call) (hN:N≤top) (hrk:∀ k,rk=some k→k<n0):∀ f c,Good P X w00 w0 ρ0 n0 N fb hp0 rk m c (exec P ev call fb n0 N rk f c):=by
 intro f
 induction f with
 | zero=>intro c σ x σ' h;simp [exec] at h
 | succ f ih =>
 intro c
 cases c with
 | skip=>intro σ x σ' h wf;simp only [exec,Option.some.injEq,Prod.mk.injEq] at h;obtain ⟨rfl,rfl⟩:=h;exact ⟨wf,Nat.le_refl _,fun ρ a W Q hs hQ=>wpIn_skip (hQ ρ a W (fun _ _=>rfl) hs)⟩
 | label n=>intro σ x σ' h wf;simp only [exec,Option.some.injEq,Prod.mk.injEq] at h;obtain ⟨rfl,rfl⟩:=h;exact ⟨wf,Nat.le_refl _,fun ρ a W Q hs hQ=>wpIn_label (hQ ρ a W (fun _ _=>rfl) hs)⟩
 | exit n=>intro σ x σ' h wf;simp only [exec,Option.some.injEq,Prod.mk.injEq] at h;obtain ⟨rfl,rfl⟩:=h;exact ⟨wf,Nat.le_refl _,fun ρ a W Q hs hQ=>wpIn_exit (hQ ρ a W (fun _ _=>rfl) hs)⟩
 | ret=>intro σ x σ' h wf;simp only [exec,Option.some.injEq,Prod.mk.injEq] at h;obtain ⟨rfl,rfl⟩:=h;exact ⟨wf,Nat.le_refl _,fun ρ a W Q hs hQ=>wpIn_ret (hQ ρ a W (fun _ _=>rfl) hs)⟩
 | region id ops d =>
  intro σ x σ' h wf
  simp only [exec] at h
  cases hb:(lexB 0 ops.toList && dstsB ops.toList && insB N ops.toList) with
  | false=>rw [hb] at h;cases h
  | true =>
   rw [hb,cond_true] at h
   simp only [Bool.and_eq_true] at hb
   split at h
   ·rename_i σ1 h1
    simp only [Option.some.injEq,Prod.mk.injEq] at h
    obtain ⟨rfl,rfl⟩:=h
    cases d with
    | true =>
     obtain ⟨ps,le,go⟩:=regD_ok (w0:=w0) (ρ0:=ρ0) hm hev hN hb.1.1 hb.1.2 hb.2 h1 wf
     refine ⟨ps,le,fun ρ a W Q hs hQ=>?_⟩
     have:=go ρ a W Q id true hs hQ
     rwa [Array.toArray_toList] at this
    | false =>
     obtain ⟨ps,le,go⟩:=runS_ok (w0:=w0) (ρ0:=ρ0) (l:=ops.toList) hev hN (insB_ok hb.2) (i:=0) (fun j o hj=>by rwa [Nat.zero_add]) (by simp) h1 wf
     refine ⟨ps,le,fun ρ a W Q hs hQ=>wpIn_region ?_⟩
     have:=go ρ a W Q hs hQ
     rw [Array.toArray_toList] at this
     rwa [List.range_eq_range',show ops.size=ops.toList.length by simp]
   ·cases h
 | seq c1 c2 =>
  intro σ x σ' h wf
  simp only [exec] at h
  split at h
  ·rename_i σ1 h1
   obtain ⟨wf1,le1,go1⟩:=ih c1 σ _ _ h1 wf
   obtain ⟨wf2,le2,go2⟩:=ih c2 σ1 _ _ h wf1
   refine ⟨wf2,Nat.le_trans le1 le2,fun ρ a W Q hs hQ=>wpIn_seq ?_⟩
   exact go1 ρ a W _ hs fun ρ1 a1 W1 hl1 hs1=>go2 ρ1 a1 W1 Q hs1 fun ρ2 a2 W2 hl2 hs2=>hQ ρ2 a2 W2 (fun n hn=>(hl2 n (by omega)).trans (hl1 n hn)) hs2
  ·rename_i hr
   have h':=h
   obtain ⟨wf1,le1,go1⟩:=ih c1 σ x σ' h wf
   refine ⟨wf1,le1,fun ρ a W Q hs hQ=>wpIn_seq ?_⟩
   refine go1 ρ a W _ hs fun ρ1 a1 W1 hl1 hs1=>?_
   have hne:x≠.normal:=fun e=>by subst e;exact hr σ' h'
   have:=hQ ρ1 a1 W1 hl1 hs1
   cases x <;> first | exact absurd rfl hne | exact this
 | cond c x1 x2 =>
  intro σ x σ' h wf
  simp only [exec] at h
  have key:∀ ρ a W v,Says X w00 w0 ρ0 n0 N fb σ ρ a W→opd (fun t=>some (rdG σ.regs t)) c=some v→a.eval c=v.den ρ:=fun ρ a W v hs hv=>opd_ok hv fun t v h=>by
   simp only [Option.some.injEq] at h;subst h;exact hs.rg t
  split at h
  ·rename_i hv
   obtain ⟨wf1,le1,go1⟩:=ih x1 σ x σ' h wf
   exact ⟨wf1,le1,fun ρ a W Q hs hQ=>wpIn_cond_true (key ρ a W _ hs hv) (go1 ρ a W Q hs hQ)⟩
  ·rename_i hv
   obtain ⟨wf1,le1,go1⟩:=ih x2 σ x σ' h wf
   exact ⟨wf1,le1,fun ρ a W Q hs hQ=>wpIn_cond_false (key ρ a W _ hs hv) (go1 ρ a W Q hs hQ)⟩
  ·cases h
 | block id c =>
  intro σ x σ' h wf
  simp only [exec] at h
  split at h
  ·rename_i i σ1 h1
   obtain ⟨wf1,le1,go1⟩:=ih c σ _ _ h1 wf
   split at h
   ·rename_i e
    simp only [Option.some.injEq,Prod.mk.injEq] at h
    obtain ⟨rfl,rfl⟩:=h
    refine ⟨wf1,le1,fun ρ a W Q hs hQ=>wpIn_block (go1 ρ a W _ hs fun ρ1 a1 W1 hl1 hs1=>?_)⟩
    simp only [Ex.out,Exit.inBlock,e,if_true]
    exact hQ ρ1 a1 W1 hl1 hs1
   ·rename_i e
    simp only [Option.some.injEq,Prod.mk.injEq] at h
    obtain ⟨rfl,rfl⟩:=h
    refine ⟨wf1,le1,fun ρ a W Q hs hQ=>wpIn_block (go1 ρ a W _ hs fun ρ1 a1 W1 hl1 hs1=>?_)⟩
    simp only [Ex.out,Exit.inBlock,e,if_false]
    exact hQ ρ1 a1 W1 hl1 hs1
  ·rename_i hr
   have h':=h
   obtain ⟨wf1,le1,go1⟩:=ih c σ x σ' h wf
   refine ⟨wf1,le1,fun ρ a W Q hs hQ=>wpIn_block (go1 ρ a W _ hs fun ρ1 a1 W1 hl1 hs1=>?_)⟩
   have:=hQ ρ1 a1 W1 hl1 hs1
   cases x <;> first | exact absurd h' (hr _ σ') | exact this
 | loop c =>
  intro σ x σ' h wf
  simp only [exec] at h
  obtain ⟨wf1,le1,go1⟩:=loop_good (ih c) f σ x σ' h wf
  exact ⟨wf1,le1,fun ρ a W Q hs hQ=>wpIn_loop_rounds f (go1 ρ a W Q hs hQ)⟩
 | scope c =>
  intro σ x σ' h wf
  simp only [exec] at h
  obtain ⟨wf1,le1,go1⟩:=ih c σ x σ' h wf
  refine ⟨wf1,le1,fun ρ a W Q hs hQ=>wpIn_scope_straight (go1 ρ a W _ hs fun ρ1 a1 W1 hl1 hs1=>?_)⟩
  have:=hQ ρ1 a1 W1 hl1 hs1
  cases x <;> exact this
 | rangeFunc g ps x1 x2 =>
  intro σ x σ' h wf
  simp only [exec] at h
  exact range_good hcall hN hrk g ps x1 x2 σ x σ' h wf
 | goto=>intro σ x σ' h wf;simp [exec] at h
 | refuse=>intro σ x σ' h wf;simp [exec] at h
end
end Rx.Ry
end Go.Proofs.YtmijlcldmefggaaGreatDoor
