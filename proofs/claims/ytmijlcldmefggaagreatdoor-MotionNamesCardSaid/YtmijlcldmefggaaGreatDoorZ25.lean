/- What the proof rests on, part 25. -/
import Derived.Test.YtmijlcldmefggaaGreatDoorZ24
namespace Go.Proofs.YtmijlcldmefggaaGreatDoor
set_option maxRecDepth 100000
set_option maxHeartbeats 80000000
namespace Rx.Ry
open Go.RowKit
section
variable (P:Program) {S:Sys} (ev:(Tmp→Option SV)→List (Nat×Nat)→T (It S)→Nat→Op→Option (Rs S)) (call:CallT S) (fb:List (Nat×Nat))
def setA:Nat→List SV→T SV→T SV
 | _,[],g=>g
 | i,v :: r,g=>setA (i+1) r (g.set (some v) i)
def resY (σ:St S):ResultVar→Option El
 | .tmp t=>match rdG σ.regs t with
  | .e x=>some x
  | _=>none
 | .cell t ty=>match rdG σ.regs t with
  | .e (.s (.ptr k off))=>match ctOf fb σ.hp k,isAggB P ty,sizeB P ty with
   | some (_,cs),some true,some n=>bif Nat.ble (off+n) cs.length then some (.a ((cs.drop off).take n)) else none
   | some (_,cs),some false,_=>match cs[off]? with
    | some c=>some (.s c)
    | none=>none
   | _,_,_=>none
  | _=>none
def resYL (σ:St S):List ResultVar→Option (List El)
 | []=>some []
 | r :: rs=>match resY P fb σ r,resYL σ rs with
  | some x,some l=>some (x :: l)
  | _,_=>none
def leaveY (n0:Nat):List Dd→St S→Option (St S)
 | [],σ=>some σ
 | .co k :: r,σ=>match see fb σ.hp k with
  | some .df=>bif Nat.blt σ.n top then leaveY n0 r ⟨σ.regs,σ.hp.set none k,σ.n,mrg n0 [k] σ.wr,r⟩ else none
  | _=>none
 | .cl _ _ :: _,_=>none
noncomputable def runY (fuel:Nat) (f:FuncId) (args:List SV) (hp:T (It S)) (n:Nat):Option (Rs S):=
 match P.funcs[f]? with
 | some fn=>match fn.body with
  | some c=>bif Nat.ble args.length fn.ntmps && Nat.ble fn.ntmps top && args.all (okS n) then
    match exec P ev call fb n fn.ntmps none fuel c ⟨setA 0 args .l,hp,n,[],[]⟩ with
    | some (.exit _,_)=>none
    | some (_,σ0)=>match leaveY fb n σ0.df σ0 with
     | some σ=>match resYL P fb σ fn.results.toList with
      | some l=>bif okS σ.n (packR l) then some ⟨packR l,σ.hp,σ.n,σ.wr⟩ else none
      | none=>none
     | none=>none
    | none=>none
   else none
  | none=>none
 | none=>none
def setP:List Tmp→List SV→T SV→T SV
 | t :: ts,v :: vs,g=>setP ts vs (g.set (some v) t)
 | _,_,g=>g
def pendX:Ex→Nat×Option Code×Bool
 | .normal=>(0,none,true)
 | .ret=>(1,some .ret,false)
 | .exit i=>(1,some (.exit i),false)
noncomputable def roundY (fuel k:Nat) (args:List SV) (hp:T (It S)) (n:Nat):Option (Rs S):=match see fb hp k with
 | some (.lp L)=>bif Nat.beq args.length L.ps.length && L.ps.all (fun t=>Nat.blt t L.N) && Nat.ble L.N top && args.all (okS n) then
   (match exec P ev call fb n L.N (some k) fuel L.x ⟨setP L.ps args L.regs,hp,n,[],[]⟩ with
   | some (.normal,σ1)=>(match see fb σ1.hp k with
    | some (.lp L1)=>bif Nat.beq L1.st 0 && Nat.blt σ1.n top then (match exec P ev call fb n L.N (some k) fuel L.y ⟨σ1.regs,σ1.hp.set (some (.lp { L1 with st:=2 })) k,σ1.n,mrg n [k] σ1.wr,σ1.df⟩ with
     | some (x,σ2)=>(match see fb σ2.hp k with
      | some (.lp L2)=>bif Nat.blt σ2.n top then some ⟨.e (.s (.bl (pendX x).2.2)),σ2.hp.set (some (.lp { L2 with st:=(pendX x).1,pend:=(pendX x).2.1 })) k,σ2.n,mrg n [k] σ2.wr⟩ else none
      | _=>none)
     | none=>none) else none
    | _=>none)
   | _=>none) else none
 | _=>none
end
section
variable {P:Program} {S:Sys} {X:Xt S} {w00 w0:World} {ρ0:Env} {n0 N:Nat} {fb:List (Nat×Nat)}
variable {ev:(Tmp→Option SV)→List (Nat×Nat)→T (It S)→Nat→Op→Option (Rs S)} {call:CallT S} {hp0:T (It S)}
theorem setA_get {j:Nat}:∀ {args:List SV} {i:Nat} {g:T SV},i+args.length≤top→rdG (setA i args g) j=if i≤j∧j<i+args.length then args.getD (j - i) .und else rdG g j
 | [],i,g,_=>by
  rw [if_neg (by simp)]
  rfl
 | v :: r,i,g,h=>by
  simp only [List.length_cons] at h
  simp only [setA]
  rw [setA_get (by omega)]
  by_cases e:j=i
  ·subst e
   rw [if_neg (by omega),if_pos (by simp)]
   unfold rdG
   rw [set_get (by omega),if_pos rfl]
   simp
  ·by_cases e2:i+1≤j∧j<i+1+r.length
   ·rw [if_pos e2,if_pos (by simp only [List.length_cons];omega)]
    rw [show j - i=(j - (i+1))+1 by omega]
    rfl
   ·rw [if_neg e2,if_neg (by simp only [List.length_cons];omega)]
    unfold rdG
    rw [set_get (by omega),if_neg e]
theorem resY_ok {σ:St S} {r:ResultVar} {x:El} (h:resY P fb σ r=some x) {ρ:Env} {a:Act} {W:World} (hs:Says X w00 w0 ρ0 n0 N fb σ ρ a W):(resF a.tmps r).run P W=.ok (x.den ρ) W:=by
 cases r with
 | tmp t =>
  simp only [resY] at h
  split at h
  ·rename_i y hy
   cases h
   simp only [resF]
   rw [hs.rg t,hy]
   rfl
  ·cases h
 | cell t ty =>
  simp only [resY] at h
  split at h
  ·rename_i k off hy
   simp only [resF]
   rw [hs.rg t,hy]
   have hl:∀ v,(Instr.loadAt ty (.pointer (some ⟨(ρ k).pos,off,none⟩))).run P W=.ok v W→(do loadVar ty (← asAddr (SV.den ρ (.e (.s (.ptr k off)))) ):Sem Value).run P W=.ok v W:=fun v hv=>hv
   split at h
   ·rename_i T cs n hk hag hsz
    cases hb:Nat.ble (off+n) cs.length with
    | false=>rw [hb] at h;cases h
    | true =>
     rw [hb] at h
     cases h
     rw [hl _ (run_load_agg hag hsz (ctOf_ok hs.inv hk) (by simpa using Nat.le_of_ble_eq_true hb))]
     simp [El.den,List.map_drop,List.map_take]
   ·rename_i T cs hk hag
    split at h
    ·rename_i c hc
     cases h
     have hv':(cs.map (Cell.den ρ))[off]? = some (c.den ρ):=by simp [hc]
     rw [hl _ (run_load_one hag (ctOf_ok hs.inv hk) hv')]
     rfl
    ·cases h
   ·cases h
  ·cases h
theorem resYL_ok {σ:St S} {ρ:Env} {a:Act} {W:World} (hs:Says X w00 w0 ρ0 n0 N fb σ ρ a W):∀ {rs:List ResultVar} {l:List El},resYL P fb σ rs=some l→(rs.mapM (resF a.tmps)).run P W=.ok (l.map (El.den ρ)) W
 | [],l,h=>by simp only [resYL,Option.some.injEq] at h;subst h;rfl
 | r :: rs,l,h=>by
  simp only [resYL] at h
  split at h
  ·rename_i x l' h1 h2
   cases h
   have h3:=resY_ok h1 hs
   have h4:=resYL_ok hs h2
   rw [List.mapM_cons]
   simp only [Sem.run_bind]
   rw [h3]
   simp only [Result.andThen]
   rw [h4]
   rfl
  ·cases h
theorem resultsY_ok {σ:St S} {ρ:Env} {a:Act} {W:World} {fn:Func} {l:List El} (hs:Says X w00 w0 ρ0 n0 N fb σ ρ a W) (h:resYL P fb σ fn.results.toList=some l):(results fn a.tmps).run P W=.ok ((packR l).den ρ) W:=by
 rw [results_eq,Array.mapM_eq_mapM_toList]
 simp only [Sem.run_bind,map_eq_pure_bind]
 have:=resYL_ok hs h
 rw [this]
 simp only [Result.andThen]
 cases l with
 | nil=>rfl
 | cons x r =>
  cases r with
  | nil=>rfl
  | cons y r=>rfl
def mixE (b:Nat) (ρ' ρ:Env):Env:=fun m=>if m<b then ρ' m else ρ m
theorem mixE_lt {b m:Nat} {ρ' ρ:Env} (h:m<b):mixE b ρ' ρ m=ρ' m:=if_pos h
theorem mixE_ge {b m:Nat} {ρ' ρ:Env} (h:b≤m):mixE b ρ' ρ m=ρ m:=if_neg (Nat.not_lt.2 h)
theorem Says.dy {n:Nat} {σ:St S} {hp:T (It S)} (ps:PlS fb hp n σ) {ρ ρ':Env} {a:Act} {W W':World} (hs:Says X w00 W ρ n N fb σ ρ' a W') {sv:SV} (hnm:nmB σ.n sv.nm=true) {v:Value} (hv:v=sv.den ρ') :
  Dy X w00 fb n ⟨sv,σ.hp,σ.n,σ.wr⟩ ρ W v (mixE σ.n ρ' ρ) W':=by
 have hlow:∀ m,m<σ.n→mixE σ.n ρ' ρ m=ρ' m:=fun m hm=>mixE_lt hm
 have hi':=hs.inv
 refine ⟨fun m hm=>?_,?_,⟨hi'.top,fun k i hk hf=>?_,fun k hk hf=>?_,fun k k' hk hk' hf hf' hne=>?_⟩,⟨hs.fsz,fun b hb hne=>hs.fblk b hb hne,hs.ffct⟩,fun k hk hg=>?_⟩
 ·rcases hm with hm | hm
  ·rw [hlow m (Nat.lt_of_lt_of_le hm ps.le)];exact hs.ag m hm
  ·exact mixE_ge hm
 ·rw [hv];exact SV.den_congr fun m hm=>(hlow m (nmB_ok hnm m hm)).symm
 ·exact Sat.congr (hlow k (ps.wf k i hk).1) (fun m hm=>hlow m ((ps.wf k i hk).2 m hm)) (hi'.sat k i hk hf)
 ·rw [hlow k (ps.wf.lt hk)];exact hi'.lo k hk hf
 ·rw [hlow k (ps.wf.lt hk),hlow k' (ps.wf.lt hk')];exact hi'.inj k k' hk hk' hf hf' hne
 ·rw [hlow k (ps.wf.lt hg)]
  rcases hs.nw k hg hk with h4 | ⟨j,h4,h5⟩
  ·exact .inl h4
  ·exact .inr ⟨j,h4,h5⟩
theorem says_begin {n:Nat} {g:T SV} {hp:T (It S)} {ρ:Env} {W:World} (wf:Wf hp n) (hi:Inv X w00 fb ρ hp W) {tm:Array Value} (hsz:tm.size=N) (hg:∀ t,tm.getD t undef=(rdG g t).den ρ):Says X w00 W ρ n N fb (⟨g,hp,n,[],[]⟩:St S) ρ { tmps:=tm,defers:=[] } W:=
 ⟨hsz,rfl,hg,hi.top,hi.sat,hi.lo,hi.inj,fun _ _=>rfl,Nat.le_refl _,fun _ _ _=>rfl,fun _ _ h=>h,fun k hk hn=>by have:=wf.lt hk;omega⟩
theorem pls_begin {n:Nat} {g:T SV} {hp:T (It S)} (wf:Wf hp n) (hg:∀ t,∀ m∈(rdG g t).nm,m<n):PlS fb hp n (⟨g,hp,n,[],[]⟩:St S):=
 ⟨Nat.le_refl _,hg,wf,fun _ _ _=>rfl,fun k hk=>(by cases hk),fun m hm=>by cases hm⟩
theorem leave_ok {fn:Func} (hN:N≤top):∀ {l:List Dd} {σ σ':St S},leaveY fb n0 l σ=some σ'→σ.df=l→PlS fb hp0 n0 σ→PlS fb hp0 n0 σ'∧σ.n≤σ'.n∧∀ ρ (a:Act) W (R:Ending→World→Prop),Says X w00 w0 ρ0 n0 N fb σ ρ a W →
  (∀ ρ' (a':Act) W',a'.tmps=a.tmps→Says X w00 w0 ρ0 n0 N fb σ' ρ' a' W'→∃ v,(results fn a.tmps).run P W' = .ok v W'∧R (.returned v) W')→LeavesInM Fence.wide 0 P fn a.tmps R a.defers .returning W
 | [],σ,σ',h,hd,ps=>by
  simp only [leaveY,Option.some.injEq] at h
  subst h
  refine ⟨ps,Nat.le_refl _,fun ρ a W R hs hR=>?_⟩
  have h0:=hs.df
  rw [hd] at h0
  rw [h0]
  exact hR ρ a W rfl hs
 | .co k :: r,σ,σ',h,hd,ps=>by
  simp only [leaveY] at h
  split at h
  ·rename_i hk
   obtain ⟨h1,h2⟩:=see_some hk
   cases hb:Nat.blt σ.n top with
   | false=>rw [hb] at h;cases h
   | true =>
    rw [hb,cond_true] at h
    have hkn:k<σ.n:=(ps.wf k _ h1).1
    have ht:σ.n<top:=Nat.le_of_ble_eq_true hb
    have pl:Pl fb σ.hp σ.n (⟨.und,σ.hp.set none k,σ.n,[k]⟩:Rs S):=putI_pl hkn ht h2 ⟨_,h1,rfl⟩ (fun _ i hi=>by cases hi) fun m hm=>by cases hm
    have hr:∀ m∈r.flatMap Dd.nm,m<σ.n:=fun m hm=>ps.df m (by rw [hd,List.flatMap_cons];exact List.mem_append.2 (.inr hm))
    have ps1:=(Pl.still ps pl).deferred hr
    obtain ⟨ps2,le2,go2⟩:=leave_ok (fn:=fn) hN h rfl ps1
    refine ⟨ps2,le2,fun ρ a W R hs hR=>?_⟩
    have h0:=hs.df
    rw [hd,List.map_cons] at h0
    have h3:W.heap[(ρ k).pos]? = some (.deferred (some [])):=hs.sat k _ h1 h2
    have dy:Dy X w00 fb σ.n (⟨.und,σ.hp.set none k,σ.n,[k]⟩:Rs S) ρ W undef ρ (W.putObj (ρ k).pos (.deferred none)):=obj_dy hkn ht h2 ⟨_,h1,rfl⟩ hs.inv ps.wf rfl h3 (fun c T z h=>by cases h) (fun i hi=>by cases hi)
    have hs1:=(Says.still ps hs pl dy hN).2.deferred (l:=r) (ds:=r.map (Dd.den ρ)) rfl
    have hL:=go2 ρ _ _ R hs1 fun ρ' a' W' he hs'=>hR ρ' a' W' he hs'
    rw [h0]
    exact ⟨by simp,.inl ⟨(ρ k).pos,_,rfl,run_takeDeferred h3,hL⟩⟩
  ·cases h
 | .cl f l :: r,σ,σ',h,hd,ps=>by simp [leaveY] at h
theorem runY_ok (hm:P.follows .mixedOrders=true) (hev:EvOk P X w00 ev) (hcall:CallOk P X w00 call) (fuel:Nat) {fb:List (Nat×Nat)} {f:FuncId} {args:List SV} {hp:T (It S)} {n:Nat} {r:Rs S} (h:runY P ev call fb fuel f args hp n=some r) (wf:Wf hp n) :
  Pl fb hp n r∧∀ (ρ:Env) (W:World),Inv X w00 fb ρ hp W→Calls P f (args.map (SV.den ρ)).toArray W fun e W'=>∃ v ρ',e=.returned v∧Dy X w00 fb n r ρ W v ρ' W':=by
 unfold runY at h
 simp only [okS_eq,show ∀ n,okS n=fun v=>nmB n v.nm from fun n=>funext (okS_eq n)] at h
 split at h
 ·rename_i fn hfn
  split at h
  ·rename_i c hc
   cases hb:(Nat.ble args.length fn.ntmps && Nat.ble fn.ntmps top && args.all (fun v=>nmB n v.nm)) with
   | false=>rw [hb] at h;cases h
   | true =>
    rw [hb,cond_true] at h
    simp only [Bool.and_eq_true,List.all_eq_true] at hb
    obtain ⟨⟨h1,h2⟩,h3⟩:=hb
    have h1:=Nat.le_of_ble_eq_true h1
    have h2:=Nat.le_of_ble_eq_true h2
    have hget:∀ t,rdG (setA 0 args .l) t=args.getD t .und:=fun t=>by
     rw [setA_get (by omega)]
     split
     ·rfl
     ·rename_i hn
      have:args.length≤t:=by omega
      simp [List.getD,List.getElem?_eq_none this,rdG,T.get]
    have ps:PlS fb hp n (⟨setA 0 args .l,hp,n,[],[]⟩:St S):=by
     refine pls_begin wf fun t m hm=>?_
     rw [hget] at hm
     simp only [List.getD] at hm
     cases hg:args[t]? with
     | none=>rw [hg] at hm;simp [SV.nm] at hm
     | some v =>
      rw [hg,Option.getD_some] at hm
      exact nmB_ok (h3 v (List.mem_of_getElem? hg)) m hm
    have hfin:∀ x σ0 σ l,exec P ev call fb n fn.ntmps none fuel c ⟨setA 0 args .l,hp,n,[],[]⟩=some (x,σ0)→(x=.normal∨x=.ret)→leaveY fb n σ0.df σ0=some σ→resYL P fb σ fn.results.toList=some l→nmB σ.n (packR l).nm=true→r=⟨packR l,σ.hp,σ.n,σ.wr⟩ →
      Pl fb hp n r∧∀ (ρ:Env) (W:World),Inv X w00 fb ρ hp W→Calls P f (args.map (SV.den ρ)).toArray W fun e W'=>∃ v ρ',e=.returned v∧Dy X w00 fb n r ρ W v ρ' W':=fun x σ0 σ l hx hxn hlv hres hnm hr=>by
     subst hr
     have gp:=fun w0 ρ0=>exec_good (X:=X) (w00:=w00) (w0:=w0) (ρ0:=ρ0) (n0:=n) (N:=fn.ntmps) (fb:=fb) (hp0:=hp) (rk:=none) (m:=0) hm hev hcall h2 (fun k hk=>by cases hk) fuel c _ _ _ hx ps
     obtain ⟨ps0,le0,-⟩:=gp w00 default
     have lv:=fun w0 ρ0=>leave_ok (P:=P) (X:=X) (w00:=w00) (w0:=w0) (ρ0:=ρ0) (fn:=fn) h2 hlv rfl ps0
     obtain ⟨ps',le',-⟩:=lv w00 default
     refine ⟨⟨Nat.le_trans le0 le',nmB_ok hnm,fun _=>ps'.wf,ps'.keep,ps'.wr⟩,fun ρ W hi=>?_⟩
     obtain ⟨-,-,go⟩:=gp W ρ
     obtain ⟨-,-,go'⟩:=lv W ρ
     have hsays:Says X w00 W ρ n fn.ntmps fb (⟨setA 0 args .l,hp,n,[],[]⟩:St S) ρ { tmps:=(args.map (SV.den ρ)).toArray ++ Array.replicate (fn.ntmps - (args.map (SV.den ρ)).toArray.size) undef,defers:=[] } W:=by
      refine says_begin wf hi (by simp;omega) fun t=>?_
      rw [hget]
      simp only [List.getD,Array.getD_eq_getD_getElem?,Array.getElem?_append,List.getElem?_toArray,List.getElem?_map,List.size_toArray,List.length_map,Array.getElem?_replicate]
      split
      ·rename_i ht
       simp [List.getElem?_eq_getElem ht]
      ·rename_i ht
       rw [List.getElem?_eq_none (by omega)]
       split <;> rfl
     refine (callsIn_wide (n:=0)).1 (callsIn_of_wp_marks hfn hc trivial (go ρ _ W _ hsays fun ρ' a' W' hl hs=>?_))
     have hpost:LeavesInM Fence.wide 0 P fn a'.tmps (fun e W'=>∃ v ρ',e=.returned v∧Dy X w00 fb n ⟨packR l,σ.hp,σ.n,σ.wr⟩ ρ W v ρ' W') a'.defers .returning W':=
      go' ρ' a' W' _ hs fun ρ2 a2 W2 he hs2=>by
       have hr:=resultsY_ok hs2 hres
       rw [he] at hr
       exact ⟨_,hr,_,_,rfl,Says.dy ps' hs2 hnm rfl⟩
     rcases hxn with rfl | rfl
     ·exact hpost
     ·exact hpost
    split at h
    ·cases h
    ·rename_i x σ0 hne hx
     split at h
     ·rename_i σ hlv
      split at h
      ·rename_i l hl
       cases hb2:nmB σ.n (packR l).nm with
       | false=>rw [hb2] at h;cases h
       | true =>
        rw [hb2] at h
        cases h
        refine hfin x σ0 σ l hx ?_ hlv hl hb2 rfl
        cases x with
        | normal=>exact .inl rfl
        | ret=>exact .inr rfl
        | exit i=>exact absurd rfl (hne i)
      ·cases h
     ·cases h
    ·cases h
  ·cases h
 ·cases h
def putP (tm:Array Value) (x:Tmp×Value):Array Value:=tm.setIfInBounds x.1 x.2
theorem putP_eq (ts:List Tmp) (vs:List Value) (tm:Array Value):(ts.toArray.zip vs.toArray).foldl (fun tmps (t,a)=>tmps.setIfInBounds t a) tm=(ts.zip vs).foldl putP tm:=by
 rw [List.zip_toArray,List.foldl_toArray]
 rfl
theorem setP_ok {ρ:Env} {M:Nat} (hM:M≤top):∀ {ts:List Tmp} {vs:List SV} {g:T SV} {tm:Array Value},ts.length=vs.length→(∀ t∈ts,t<M)→tm.size=M→(∀ t,tm.getD t undef=(rdG g t).den ρ) →
  ((ts.zip (vs.map (SV.den ρ))).foldl putP tm).size=M∧∀ t,((ts.zip (vs.map (SV.den ρ))).foldl putP tm).getD t undef=(rdG (setP ts vs g) t).den ρ:=by
 intro ts
 induction ts with
 | nil=>intro vs g tm _ _ hs hg;exact ⟨hs,hg⟩
 | cons t ts ih =>
  intro vs g tm hl ht hs hg
  cases vs with
  | nil=>simp at hl
  | cons v vs =>
   have htM:t<M:=ht t (.head _)
   exact ih (vs:=vs) (g:=g.set (some v) t) (tm:=tm.setIfInBounds t (v.den ρ)) (by simpa using hl) (fun t' h'=>ht t' (.tail _ h')) (by simp [hs]) fun t'=>by
    have e:rdG (g.set (some v) t) t' = if some t=some t' then v else rdG g t':=rdG_set (d:=some t) (v:=v) (g:=g) (t:=t') (fun x hx=>by obtain rfl:=Option.some.inj hx;exact Nat.lt_of_lt_of_le htM hM)
    rw [e]
    by_cases h':t=t'
    ·subst h'
     have:t<tm.size:=by rw [hs];exact htM
     simp [this]
    ·rw [if_neg (by simpa using h'),← hg t']
     simp [h']
theorem setP_nm {n:Nat}:∀ {ts:List Tmp} {vs:List SV} {g:T SV},(∀ t∈ts,t<top)→(∀ v∈vs,∀ m∈v.nm,m<n)→(∀ t,∀ m∈(rdG g t).nm,m<n)→∀ t,∀ m∈(rdG (setP ts vs g) t).nm,m<n
 | [],vs,g,_,_,hg=>by simpa [setP] using hg
 | t :: ts,[],g,_,_,hg=>by simpa [setP] using hg
 | t :: ts,v :: vs,g,ht,hv,hg=>by
  simp only [setP]
  refine setP_nm (fun t' h'=>ht t' (.tail _ h')) (fun v' h'=>hv v' (.tail _ h')) fun t' m hm=>?_
  have e:rdG (g.set (some v) t) t' = if some t=some t' then v else rdG g t':=rdG_set (d:=some t) (v:=v) (g:=g) (t:=t') (fun x hx=>by cases hx;exact ht t (.head _))
  rw [e] at hm
  split at hm
  ·exact hv v (.head _) m hm
  ·exact hg t' m hm
theorem roundY_ok (hm:P.follows .mixedOrders=true) (hev:EvOk P X w00 ev) (hcall:CallOk P X w00 call) (fuel:Nat) {fb:List (Nat×Nat)} {k:Nat} {args:List SV} {hp:T (It S)} {n:Nat} {r:Rs S} (h:roundY P ev call fb fuel k args hp n=some r) (wf:Wf hp n) :
  Pl fb hp n r∧∀ (ρ:Env) (W:World),Inv X w00 fb ρ hp W→Called P ρ W (args.map (SV.den ρ)).toArray (fun e W'=>∃ v ρ',e=.returned v∧Dy X w00 fb n r ρ W v ρ' W') (.y k):=by
 unfold roundY at h
 simp only [show ∀ n,okS n=fun v=>nmB n v.nm from fun n=>funext (okS_eq n)] at h
 split at h
 ·rename_i L hL
  obtain ⟨hL1,hL2⟩:=see_some hL
  have hkn:k<n:=(wf k _ hL1).1
  cases hb:(Nat.beq args.length L.ps.length && L.ps.all (fun t=>Nat.blt t L.N) && Nat.ble L.N top && args.all (fun v=>nmB n v.nm)) with
  | false=>rw [hb] at h;cases h
  | true =>
   rw [hb,cond_true] at h
   simp only [Bool.and_eq_true,List.all_eq_true] at hb
   obtain ⟨⟨⟨b1,b2⟩,b3⟩,b4⟩:=hb
   have b1:=Nat.eq_of_beq_eq_true b1
   have b2:∀ t∈L.ps,t<L.N:=fun t ht=>Nat.le_of_ble_eq_true (b2 t ht)
   have b3:=Nat.le_of_ble_eq_true b3
   have ps:PlS fb hp n (⟨setP L.ps args L.regs,hp,n,[],[]⟩:St S):=pls_begin wf (setP_nm (fun t ht=>Nat.lt_of_lt_of_le (b2 t ht) b3) (fun v hv m hm=>nmB_ok (b4 v hv) m hm) fun t m hm=>by
    have:=(wf k _ hL1).2
    unfold rdG at hm
    cases hg:L.regs.get t with
    | none=>rw [hg] at hm;cases hm
    | some v=>rw [hg] at hm;exact this m (.tail _ (List.mem_flatMap.2 ⟨v,get_vals hg,hm⟩)))
   have gp:=fun w0 ρ0 c σ x σ' (hx:exec P ev call fb n L.N (some k) fuel c σ=some (x,σ')) (ps:PlS fb hp n σ)=>exec_good (X:=X) (w00:=w00) (w0:=w0) (ρ0:=ρ0) (n0:=n) (N:=L.N) (fb:=fb) (hp0:=hp) (rk:=some k) (m:=0) hm hev hcall b3 (fun k' hk=>by cases hk;exact hkn) fuel c _ _ _ hx ps
   split at h
   ·rename_i σ1 hx1
    obtain ⟨ps1,le1,-⟩:=gp w00 default _ _ _ _ hx1 ps
    split at h
    ·rename_i L1 hL1'
     obtain ⟨hA1,hA2⟩:=see_some hL1'
     cases hb1:(Nat.beq L1.st 0 && Nat.blt σ1.n top) with
     | false=>rw [hb1] at h;cases h
     | true =>
      rw [hb1,cond_true] at h
      simp only [Bool.and_eq_true] at hb1
      have hst:=Nat.eq_of_beq_eq_true hb1.1
      have ht1:σ1.n<top:=Nat.le_of_ble_eq_true hb1.2
      have hk1:k<σ1.n:=Nat.lt_of_lt_of_le hkn le1
      have plA:Pl fb σ1.hp σ1.n (⟨.und,σ1.hp.set (some (.lp { L1 with st:=2 })) k,σ1.n,[k]⟩:Rs S):=putI_pl hk1 ht1 hA2 ⟨_,hA1,rfl⟩ (fun wf' i hi m hm=>by
       obtain rfl:=Option.some.inj hi
       exact (wf' k _ hA1).2 m hm) fun m hm=>by cases hm
      have psA:=Pl.still ps1 plA
      split at h
      ·rename_i x σ2 hx2
       obtain ⟨ps2,le2,-⟩:=gp w00 default _ _ _ _ hx2 psA
       have le2:σ1.n≤σ2.n:=le2
       split at h
       ·rename_i L2 hL2'
        obtain ⟨hB1,hB2⟩:=see_some hL2'
        obtain ⟨ht2,rfl⟩:=bif_some h
        have ht2:σ2.n<top:=Nat.le_of_ble_eq_true ht2
        have hk2:k<σ2.n:=Nat.lt_of_lt_of_le hk1 le2
        have plB:Pl fb σ2.hp σ2.n (⟨.e (.s (.bl (pendX x).2.2)),σ2.hp.set (some (.lp { L2 with st:=(pendX x).1,pend:=(pendX x).2.1 })) k,σ2.n,[k]⟩:Rs S):=putI_pl hk2 ht2 hB2 ⟨_,hB1,rfl⟩ (fun wf' i hi m hm=>by
         obtain rfl:=Option.some.inj hi
         exact (wf' k _ hB1).2 m hm) fun m hm=>by cases hm
        have psB:=Pl.still ps2 plB
        have hnb:nmB σ2.n (SV.e (.s (.bl (pendX x).2.2))).nm=true:=rfl
        refine ⟨⟨Nat.le_trans le1 le2,fun m hm=>(by cases hm),fun _=>psB.wf,psB.keep,psB.wr⟩,fun ρ W hi=>?_⟩
        obtain ⟨-,-,go1⟩:=gp W ρ _ _ _ _ hx1 ps
        obtain ⟨-,-,go2⟩:=gp W ρ _ _ _ _ hx2 psA
        obtain ⟨fn,tm,hr,hsz,hregs⟩:=hi.sat k _ hL1 hL2
        obtain ⟨s1,s2⟩:=setP_ok (ρ:=ρ) b3 (ts:=L.ps) (vs:=args) (by omega) b2 hsz hregs
        have hsays:Says X w00 W ρ n L.N fb (⟨setP L.ps args L.regs,hp,n,[],[]⟩:St S) ρ { tmps:=_,defers:=[] } W:=says_begin wf hi s1 s2
        refine ⟨_,hr,by simp;omega,?_⟩
        simp only [putP_eq]
        refine roundIn_of_wpIn (F:=Fence.wide) (n:=0) trivial (go1 ρ _ W _ hsays fun ρ1 a1 W1 hl1 hs1=>?_)
        obtain ⟨fnA,tmA,hrA,hszA,hregsA⟩:=hs1.sat k _ hA1 hA2
        have hpA:(ρ1 k).pos=(ρ k).pos:=by rw [hs1.ag k hkn]
        have hbeg:=run_beginRound (P:=P) hrA (by rw [hst];rfl)
        rw [hpA] at hbeg
        refine ⟨_,hbeg,?_⟩
        have dyA:Dy X w00 fb σ1.n (⟨.und,σ1.hp.set (some (.lp { L1 with st:=2 })) k,σ1.n,[k]⟩:Rs S) ρ1 W1 undef ρ1 (W1.putObj (ρ1 k).pos (.loop { state:=.busy,pending:=L1.pend,fn:=fnA,tmps:=tmA,params:=L1.ps.toArray,assign:=L1.x,body:=L1.y,defers:=(ρ1 L1.d).pos })):=by
         refine obj_dy hk1 ht1 hA2 ⟨_,hA1,rfl⟩ hs1.inv ps1.wf rfl hrA (fun c T z h=>by cases h) fun i hi'=>?_
         obtain rfl:=Option.some.inj hi'
         exact ⟨fnA,tmA,World.putObj_heap_same (Array.getElem?_eq_some_iff.1 hrA).1,hszA,hregsA⟩
        rw [hpA] at dyA
        obtain ⟨-,hsA⟩:=Says.still ps1 hs1 plA dyA b3
        refine go2 ρ1 a1 _ _ hsA fun ρ2 a2 W2 hl2 hs2=>?_
        obtain ⟨fnB,tmB,hrB,hszB,hregsB⟩:=hs2.sat k _ hB1 hB2
        have hpB:(ρ2 k).pos=(ρ k).pos:=by rw [hs2.ag k hkn]
        have fin:∀ (st:LoopState) (pe:Option Code) (s:Nat) (b:Bool),lpSt s=st→(∃ v w',(Instr.endRound (ρ k).pos pe).run P W2=.ok v w'∧v=.bool b∧w' = W2.putObj (ρ k).pos (.loop { state:=st,pending:=pe,fn:=fnB,tmps:=tmB,params:=L2.ps.toArray,assign:=L2.x,body:=L2.y,defers:=(ρ2 L2.d).pos })) →
          pendX x=(s,pe,b)→∃ v w',(Instr.endRound (ρ k).pos pe).run P W2=.ok v w'∧∃ v' ρ',Ending.returned v=.returned v'∧Dy X w00 fb n (⟨.e (.s (.bl (pendX x).2.2)),σ2.hp.set (some (.lp { L2 with st:=(pendX x).1,pend:=(pendX x).2.1 })) k,σ2.n,mrg n [k] σ2.wr⟩:Rs S) ρ W v' ρ' w':=by
         rintro st pe s b hs ⟨v,w',hrun,rfl,rfl⟩ hx
         refine ⟨_,_,hrun,.bool b,mixE σ2.n ρ2 ρ,rfl,?_⟩
         have dyB:Dy X w00 fb σ2.n (⟨.e (.s (.bl (pendX x).2.2)),σ2.hp.set (some (.lp { L2 with st:=(pendX x).1,pend:=(pendX x).2.1 })) k,σ2.n,[k]⟩:Rs S) ρ2 W2 (.bool b) ρ2 (W2.putObj (ρ2 k).pos (.loop { state:=st,pending:=pe,fn:=fnB,tmps:=tmB,params:=L2.ps.toArray,assign:=L2.x,body:=L2.y,defers:=(ρ2 L2.d).pos })):=by
          refine obj_dy hk2 ht2 hB2 ⟨_,hB1,rfl⟩ hs2.inv ps2.wf (by rw [hx];rfl) hrB (fun c T z h=>by cases h) fun i hi'=>?_
          obtain rfl:=Option.some.inj hi'
          refine ⟨fnB,tmB,?_,hszB,hregsB⟩
          rw [World.putObj_heap_same (Array.getElem?_eq_some_iff.1 hrB).1,hx,hs]
         rw [hpB] at dyB
         obtain ⟨-,hsB⟩:=Says.still ps2 hs2 plB dyB b3
         exact Says.dy psB hsB hnb (by rw [hx];rfl)
        have er:=fun j=>run_endRound (P:=P) j hrB
        rw [hpB] at er
        cases x with
        | normal=>exact fin .ready none 0 true rfl ⟨_,_,er none,rfl,rfl⟩ rfl
        | ret=>exact fin .done (some .ret) 1 false rfl ⟨_,_,er (some .ret),rfl,rfl⟩ rfl
        | exit i=>exact fin .done (some (.exit i)) 1 false rfl ⟨_,_,er (some (.exit i)),rfl,rfl⟩ rfl
       ·cases h
      ·cases h
    ·cases h
   ·cases h
 ·cases h
end
end Rx.Ry
end Go.Proofs.YtmijlcldmefggaaGreatDoor
