/- What the proof rests on, part 24. -/
import Derived.Test.YteeelpcgbenjjaaGreatDoorP23
import Derived.Laws.MakeOwn
namespace Go.Proofs.YteeelpcgbenjjaaGreatDoor
set_option maxRecDepth 100000
set_option maxHeartbeats 80000000
namespace Rx.Ry
open Go.RowKit
section
variable (P:Program) {S:Sys} (ev:(Tmp→Option SV)→List (Nat×Nat)→T (It S)→Nat→Op→Option (Rs S)) (fb:List (Nat×Nat))
def setA:Nat→List SV→T SV→T SV
 | _,[],g=>g
 | i,v :: r,g=>setA (i+1) r (g.set (some v) i)
def resY (σ:St S):ResultVar→Option El
 | .tmp t=>match rdG σ.regs t with
  | .e x=>some x
  | _=>none
 | .cell t ty=>match rdG σ.regs t with
  | .e (.s (.ptr k off))=>match ctOf fb σ.hp k,isAggB P ty,sizeB P ty with
   | some (_,cs),some true,some n=>bif Nat.ble (off+n) cs.length then some (.a ((cs.drop off).take n)) else none
   | some (_,cs),some false,_=>match cs[off]? with
    | some c=>some (.s c)
    | none=>none
   | _,_,_=>none
  | _=>none
def resYL (σ:St S):List ResultVar→Option (List El)
 | []=>some []
 | r :: rs=>match resY P fb σ r,resYL σ rs with
  | some x,some l=>some (x :: l)
  | _,_=>none
def runY (fuel:Nat) (f:FuncId) (args:List SV) (hp:T (It S)) (n:Nat):Option (Rs S):=
 match P.funcs[f]? with
 | some fn=>match fn.body with
  | some c=>bif Nat.ble args.length fn.ntmps && Nat.ble fn.ntmps top && args.all (fun v=>nmB n v.nm) then
    match exec ev fb n fn.ntmps fuel c ⟨setA 0 args .l,hp,n,[]⟩ with
    | some (.exit _,_)=>none
    | some (_,σ)=>match resYL P fb σ fn.results.toList with
     | some l=>bif nmB σ.n (packR l).nm then some ⟨packR l,σ.hp,σ.n,σ.wr⟩ else none
     | none=>none
    | none=>none
   else none
  | none=>none
 | none=>none
end
section
variable {P:Program} {S:Sys} {X:Xt S} {w00 w0:World} {ρ0:Env} {n0 N:Nat} {fb:List (Nat×Nat)}
variable {ev:(Tmp→Option SV)→List (Nat×Nat)→T (It S)→Nat→Op→Option (Rs S)} {hp0:T (It S)}
theorem Says.inv {σ:St S} {ρ:Env} {a:Act} {W:World} (h:Says X w00 w0 ρ0 n0 N fb σ ρ a W):Inv X w00 fb ρ σ.hp W:=Holds.inv h fun _ _ hk hf=>⟨hf,hk⟩
theorem setA_get {j:Nat}:∀ {args:List SV} {i:Nat} {g:T SV},i+args.length≤top→rdG (setA i args g) j=if i≤j∧j<i+args.length then args.getD (j - i) .und else rdG g j
 | [],i,g,_=>by
  rw [if_neg (by simp)]
  rfl
 | v :: r,i,g,h=>by
  simp only [List.length_cons] at h
  simp only [setA]
  rw [setA_get (by omega)]
  by_cases e:j=i
  ·subst e
   rw [if_neg (by omega),if_pos (by simp)]
   unfold rdG
   rw [set_get (by omega),if_pos rfl]
   simp
  ·by_cases e2:i+1≤j∧j<i+1+r.length
   ·rw [if_pos e2,if_pos (by simp only [List.length_cons];omega)]
    rw [show j - i=(j - (i+1))+1 by omega]
    rfl
   ·rw [if_neg e2,if_neg (by simp only [List.length_cons];omega)]
    unfold rdG
    rw [set_get (by omega),if_neg e]
theorem resY_ok {σ:St S} {r:ResultVar} {x:El} (h:resY P fb σ r=some x) {ρ:Env} {a:Act} {W:World} (hs:Says X w00 w0 ρ0 n0 N fb σ ρ a W):(resF a.tmps r).run P W=.ok (x.den ρ) W:=by
 cases r with
 | tmp t =>
  simp only [resY] at h
  split at h
  ·rename_i y hy
   cases h
   simp only [resF]
   rw [hs.rg t,hy]
   rfl
  ·cases h
 | cell t ty =>
  simp only [resY] at h
  split at h
  ·rename_i k off hy
   simp only [resF]
   rw [hs.rg t,hy]
   have hl:∀ v,(Instr.loadAt ty (.pointer (some ⟨(ρ k).pos,off,none⟩))).run P W=.ok v W→(do loadVar ty (← asAddr (SV.den ρ (.e (.s (.ptr k off)))) ):Sem Value).run P W=.ok v W:=fun v hv=>hv
   split at h
   ·rename_i T cs n hk hag hsz
    cases hb:Nat.ble (off+n) cs.length with
    | false=>rw [hb] at h;cases h
    | true =>
     rw [hb] at h
     cases h
     rw [hl _ (run_load_agg hag hsz (ctOf_ok hs.inv hk) (by simpa using Nat.le_of_ble_eq_true hb))]
     simp [El.den,List.map_drop,List.map_take]
   ·rename_i T cs hk hag
    split at h
    ·rename_i c hc
     cases h
     have hv':(cs.map (Cell.den ρ))[off]? = some (c.den ρ):=by simp [hc]
     rw [hl _ (run_load_one hag (ctOf_ok hs.inv hk) hv')]
     rfl
    ·cases h
   ·cases h
  ·cases h
theorem resYL_ok {σ:St S} {ρ:Env} {a:Act} {W:World} (hs:Says X w00 w0 ρ0 n0 N fb σ ρ a W):∀ {rs:List ResultVar} {l:List El},resYL P fb σ rs=some l→(rs.mapM (resF a.tmps)).run P W=.ok (l.map (El.den ρ)) W
 | [],l,h=>by simp only [resYL,Option.some.injEq] at h;subst h;rfl
 | r :: rs,l,h=>by
  simp only [resYL] at h
  split at h
  ·rename_i x l' h1 h2
   cases h
   have h3:=resY_ok h1 hs
   have h4:=resYL_ok hs h2
   rw [List.mapM_cons]
   simp only [Sem.run_bind]
   rw [h3]
   simp only [Result.andThen]
   rw [h4]
   rfl
  ·cases h
theorem resultsY_ok {σ:St S} {ρ:Env} {a:Act} {W:World} {fn:Func} {l:List El} (hs:Says X w00 w0 ρ0 n0 N fb σ ρ a W) (h:resYL P fb σ fn.results.toList=some l):(results fn a.tmps).run P W=.ok ((packR l).den ρ) W:=by
 rw [results_eq,Array.mapM_eq_mapM_toList]
 simp only [Sem.run_bind,map_eq_pure_bind]
 have:=resYL_ok hs h
 rw [this]
 simp only [Result.andThen]
 cases l with
 | nil=>rfl
 | cons x r =>
  cases r with
  | nil=>rfl
  | cons y r=>rfl
abbrev CallT (S:Sys):=List (Nat×Nat)→FuncId→List SV→T (It S)→Nat→Option (Rs S)
def CallOk (P:Program) {S:Sys} (X:Xt S) (w00:World) (call:CallT S):Prop:=∀ fb f args hp n r,call fb f args hp n=some r→Wf hp n→Pl fb hp n r∧∀ (ρ:Env) (W:World),Inv X w00 fb ρ hp W →
 Calls P f (args.map (SV.den ρ)).toArray W fun e W'=>∃ v ρ',e=.returned v∧Dy X w00 fb n r ρ W v ρ' W'
def mixE (b:Nat) (ρ' ρ:Env):Env:=fun m=>if m<b then ρ' m else ρ m
theorem mixE_lt {b m:Nat} {ρ' ρ:Env} (h:m<b):mixE b ρ' ρ m=ρ' m:=if_pos h
theorem mixE_ge {b m:Nat} {ρ' ρ:Env} (h:b≤m):mixE b ρ' ρ m=ρ m:=if_neg (Nat.not_lt.2 h)
theorem runY_ok (hm:P.follows .mixedOrders=true) (hev:EvOk P X w00 ev) (fuel:Nat):CallOk P X w00 fun fb f args hp n=>runY P ev fb fuel f args hp n:=by
 intro fb f args hp n r h wf
 change runY P ev fb fuel f args hp n=some r at h
 unfold runY at h
 split at h
 ·rename_i fn hfn
  split at h
  ·rename_i c hc
   cases hb:(Nat.ble args.length fn.ntmps && Nat.ble fn.ntmps top && args.all (fun v=>nmB n v.nm)) with
   | false=>rw [hb] at h;cases h
   | true =>
    rw [hb,cond_true] at h
    simp only [Bool.and_eq_true,List.all_eq_true] at hb
    obtain ⟨⟨h1,h2⟩,h3⟩:=hb
    have h1:=Nat.le_of_ble_eq_true h1
    have h2:=Nat.le_of_ble_eq_true h2
    have hget:∀ t,rdG (setA 0 args .l) t=args.getD t .und:=fun t=>by
     rw [setA_get (by omega)]
     split
     ·rfl
     ·rename_i hn
      have:args.length≤t:=by omega
      simp [List.getD,List.getElem?_eq_none this,rdG,T.get]
    have ps:PlS fb hp n (⟨setA 0 args .l,hp,n,[]⟩:St S):=by
     refine ⟨Nat.le_refl _,fun t m hm=>?_,wf,fun _ _ _=>rfl,fun k hk=>by cases hk⟩
     have hm:m∈(rdG (setA 0 args .l) t).nm:=hm
     rw [hget] at hm
     simp only [List.getD] at hm
     cases hg:args[t]? with
     | none=>rw [hg] at hm;simp [SV.nm] at hm
     | some v =>
      rw [hg,Option.getD_some] at hm
      exact nmB_ok (h3 v (List.mem_of_getElem? hg)) m hm
    have hfin:∀ x σ l,exec ev fb n fn.ntmps fuel c ⟨setA 0 args .l,hp,n,[]⟩=some (x,σ)→(x=.normal∨x=.ret)→resYL P fb σ fn.results.toList=some l→nmB σ.n (packR l).nm=true→r=⟨packR l,σ.hp,σ.n,σ.wr⟩ →
      Pl fb hp n r∧∀ (ρ:Env) (W:World),Inv X w00 fb ρ hp W→Calls P f (args.map (SV.den ρ)).toArray W fun e W'=>∃ v ρ',e=.returned v∧Dy X w00 fb n r ρ W v ρ' W':=fun x σ l hx hxn hres hnm hr=>by
     subst hr
     have gp:=fun w0 ρ0=>exec_good (X:=X) (w00:=w00) (w0:=w0) (ρ0:=ρ0) (n0:=n) (N:=fn.ntmps) (fb:=fb) (hp0:=hp) hm hev h2 fuel c _ _ _ hx ps
     obtain ⟨ps',le,-⟩:=gp w00 default
     refine ⟨⟨le,nmB_ok hnm,fun _=>ps'.wf,ps'.keep,ps'.wr⟩,fun ρ W hi=>?_⟩
     obtain ⟨-,-,go⟩:=gp W ρ
     have hsays:Says X w00 W ρ n fn.ntmps fb (⟨setA 0 args .l,hp,n,[]⟩:St S) ρ { tmps:=(args.map (SV.den ρ)).toArray ++ Array.replicate (fn.ntmps - (args.map (SV.den ρ)).toArray.size) undef,defers:=[] } W:=by
      refine ⟨by simp;omega,rfl,fun t=>?_,hi.top,hi.sat,hi.lo,hi.inj,fun _ _=>rfl,Nat.le_refl _,fun _ _ _=>rfl,fun _ _ h=>h,fun k T cs e p hk hn=>by have:=(wf k _ hk).1;omega⟩
      show _=(rdG (setA 0 args .l) t).den ρ
      rw [hget]
      simp only [List.getD,Array.getD_eq_getD_getElem?,Array.getElem?_append,List.getElem?_toArray,List.getElem?_map,List.size_toArray,List.length_map,Array.getElem?_replicate]
      split
      ·rename_i ht
       simp [List.getElem?_eq_getElem ht]
      ·rename_i ht
       rw [List.getElem?_eq_none (by omega)]
       split <;> rfl
     refine calls_of_wp hfn hc (go ρ _ W _ hsays fun ρ' a' W' hl hs=>?_)
     have hr:=resultsY_ok hs hres
     have hpost:bodyPost P fn (fun e W'=>∃ v ρ',e=.returned v∧Dy X w00 fb n ⟨packR l,σ.hp,σ.n,σ.wr⟩ ρ W v ρ' W') .ret a' W':=
      bodyPost_ret hr hs.df ⟨_,mixE σ.n ρ' ρ,rfl,by
       have hlow:∀ m,m<σ.n→mixE σ.n ρ' ρ m=ρ' m:=fun m hm=>mixE_lt hm
       have hi':=hs.inv
       refine ⟨fun m hm=>?_,?_,⟨hi'.top,fun k i hk hf=>?_,fun k T cs e p hk hf=>?_,fun k k' T cs e p T' cs' e' p' hk hk' hf hf' hne=>?_⟩,⟨hs.fsz,fun b hb hne=>hs.fblk b hb hne,hs.ffct⟩,fun k T cs e p hk hg=>?_⟩
       ·rcases hm with hm | hm
        ·rw [hlow m (Nat.lt_of_lt_of_le hm le)];exact hl m hm
        ·exact mixE_ge hm
       ·exact SV.den_congr fun m hm=>(hlow m (nmB_ok hnm m hm)).symm
       ·exact Sat.congr (hlow k (ps'.wf k i hk).1) (fun m hm=>hlow m ((ps'.wf k i hk).2 m hm)) (hi'.sat k i hk hf)
       ·rw [hlow k (ps'.wf k _ hk).1];exact hi'.lo k T cs e p hk hf
       ·rw [hlow k (ps'.wf k _ hk).1,hlow k' (ps'.wf k' _ hk').1];exact hi'.inj k k' T cs e p T' cs' e' p' hk hk' hf hf' hne
       ·rw [hlow k (ps'.wf k _ hg).1]
        rcases hs.nw k T cs e p hg hk with h4 | ⟨j,h4,h5⟩
        ·exact .inl h4
        ·exact .inr ⟨j,h4,h5⟩⟩
     rcases hxn with rfl | rfl
     ·exact hpost
     ·exact hpost
    split at h
    ·cases h
    ·rename_i x σ hne hx
     split at h
     ·rename_i l hl
      cases hb2:nmB σ.n (packR l).nm with
      | false=>rw [hb2] at h;cases h
      | true =>
       rw [hb2] at h
       cases h
       refine hfin x σ l hx ?_ hl hb2 rfl
       cases x with
       | normal=>exact .inl rfl
       | ret=>exact .inr rfl
       | exit i=>exact absurd rfl (hne i)
     ·cases h
    ·cases h
  ·cases h
 ·cases h
end
end Rx.Ry
namespace Rx.Ry
open Go.RowKit
section
variable (P:Program) {S:Sys}
def opNm (rd:Tmp→Option SV):List Operand→List Nat
 | []=>[]
 | .tmp t :: r=>match rd t with
  | some v=>v.nm ++ opNm rd r
  | none=>opNm rd r
 | _ :: r=>opNm rd r
def elemZ (t:TypeId):Option Nat:=match P.underlying t with
 | some (.slice e)=>sizeB P e
 | _=>none
def arith (op:BinOp) (k:IntKind) (a b:Int):Option Int:=match op with
 | .add=>some (k.wrap (a+b))
 | .sub=>some (k.wrap (a - b))
 | .mul=>some (k.wrap (a*b))
 | .quo=>if b=0 then none else some (k.wrap (a.tdiv b))
 | .rem=>if b=0 then none else some (a.tmod b)
 | _=>none
def catS (op:BinOp) (a b:ByteArray):Option ByteArray:=match op with
 | .add=>bif Nat.ble (a.data.toList.length+b.data.toList.length) 1000000 then some ⟨(a.data.toList ++ b.data.toList).toArray⟩ else none
 | _=>none
def strS (P:Program) (c:Call):Bool:=match c.argTypes[0]? with
 | some t=>match P.underlying t with
  | some .string=>true
  | _=>false
 | none=>false
def nilEq (T:TypeId) (c d:Cell):Option Bool:=match P.underlying T,c,d with
 | some (.slice _),.sl _ _ _ _,.nils=>some false
 | some (.slice _),.nils,.nils=>some true
 | some (.pointer _),.ptr _ _,.nilp=>some false
 | some (.pointer _),.nilp,.nilp=>some true
 | _,_,_=>none
def bnd (rd:Tmp→Option SV) (d:Nat):Option Operand→Option Nat
 | none=>some d
 | some x=>match opd rd x with
  | some (.e (.s (.it .i64 (.ofNat n))))=>some n
  | _=>none
def ptrs:List SV→Option (List (Nat×Nat))
 | []=>some []
 | .e (.s (.ptr k off)) :: r=>match ptrs r with
  | some l=>some ((k,off) :: l)
  | none=>none
 | _ :: _=>none
def lenS (P:Program) (c:Call):Bool:=match c.argTypes[0]? with
 | some t=>match P.underlying t with
  | some (.slice _)=>true
  | _=>false
 | none=>false
def specP (rd:Tmp→Option SV) (fb:List (Nat×Nat)) (hp:T (It S)):Op→Option SV
 | .indexAddr t x i=>match opd rd x,opd rd i,elemZ P t with
  | some (.e (.s (.sl k off len _))),some (.e (.s (.it .i64 (.ofNat j)))),some z=>bif Nat.blt j len then some (.e (.s (.ptr k (off+j*z)))) else none
  | _,_,_=>none
 | .load t a=>match opd rd a with
  | some (.e (.s (.ptr k off)))=>match see fb hp k,isAggB P t,sizeB P t with
   | some (.blk _ cs none _),some true,some n=>bif Nat.ble (off+n) cs.length then some (.e (.a ((cs.drop off).take n))) else none
   | some (.blk _ cs none _),some false,_=>match cs[off]? with
    | some c=>some (.e (.s c))
    | none=>none
   | _,_,_=>none
  | _=>none
 | .slice t x lo hi none=>match opd rd x,elemZ P t with
  | some (.e (.s (.sl k off len d))),some z=>match bnd rd 0 lo,bnd rd len hi,see fb hp k with
   | some l,some h,some (.blk _ _ (some c) _)=>bif Nat.ble l h && Nat.ble (h+d) c then (bif Nat.beq (c - d) l then some (.e (.s (.sl k off (h - l) (d+l)))) else some (.e (.s (.sl k (off+l*z) (h - l) (d+l))))) else none
   | some l,some h,some (.blk _ cs none pat)=>bif Nat.beq pat.length z && Nat.blt 0 z && Nat.beq off (d*z) && Nat.ble (off+h*z) cs.length && (Nat.beq l 0 && Nat.ble l h || Nat.blt l h) then some (.e (.s (.sl k (off+l*z) (h - l) (d+l)))) else none
   | _,_,_=>none
  | _,_=>none
 | .binOp op T x y _=>match opd rd x,opd rd y with
  | some (.e (.s (.it k a))),some (.e (.s (.it k' b)))=>if k=k' then (match arith op k a b with
   | some c=>some (.e (.s (.it k c)))
   | none=>none) else none
  | some (.e (.s (.st a))),some (.e (.s (.st b)))=>match catS op a b with
   | some c=>some (.e (.s (.st c)))
   | none=>none
  | some (.e (.s c)),some (.e (.s d))=>match op,nilEq P T c d with
   | .eql,some b=>some (.e (.s (.bl b)))
   | .neq,some b=>some (.e (.s (.bl !b)))
   | _,_=>none
  | _,_=>none
 | .makeFunc (.func f) first captured=>match first.toList,opds rd captured.toList with
  | [],some vs=>match ptrs vs with
   | some l=>some (.e (.s (.fn f l)))
   | none=>none
  | _,_=>none
 | .convert s d x=>match opd rd x,P.underlying s,P.underlying d with
  | some (.e (.s (.it _ a))),some (.int _),some (.int k)=>some (.e (.s (.it k (k.wrap a))))
  | _,_,_=>none
 | .call c=>match c.callee,opds rd c.args.toList with
  | .builtin .len,some [.e (.s (.sl _ _ len _))]=>bif lenS P c then some (.e (.s (.it .i64 (.ofNat len)))) else none
  | .builtin .len,some [.e (.s .nils)]=>bif lenS P c then some (.e (.s (.it .i64 0))) else none
  | .builtin .len,some [.e (.s (.st s))]=>bif strS P c then some (.e (.s (.it .i64 (.ofNat s.data.toList.length)))) else none
  | _,_=>none
 | _=>none
end
section
variable {P:Program} {S:Sys} {X:Xt S} {w00 W:World} {fb:List (Nat×Nat)} {ρ:Env} {hp:T (It S)}
theorem elemZ_ok {t:TypeId} {z:Nat} (h:elemZ P t=some z):∃ e,P.underlying t=some (.slice e)∧sizeB P e=some z:=by
 unfold elemZ at h
 split at h
 ·rename_i e he;exact ⟨e,he,h⟩
 ·cases h
theorem run_sliceY {t e:TypeId} {z len cap l h:Nat} {a:Option Addr} {lo hi:Option Value} {w:World} (hu:P.underlying t=some (.slice e)) (hz:sizeB P e=some z) (hlo:(lo=none∧l=0)∨lo=some (.int .i64 (.ofNat l))) (hhi:(hi=none∧h=len)∨hi=some (.int .i64 (.ofNat h))) (hc:h≤cap) (hlh:l≤h) :
  (Instr.sliceAt t (.slice a len cap) lo hi none).run P w=.ok (.slice (if cap=l then a else a.map (·.add (l*z))) (h - l) (cap - l)) w:=by
 have hs:=run_sizeOf (P:=P) (w:=w) hz
 rcases hlo with ⟨rfl,rfl⟩ | rfl <;> rcases hhi with ⟨rfl,rfl⟩ | rfl <;>
 ·simp only [Instr.sliceAt,Instr.slice,Instr.sliceBounds,Instr.sliceBound,asIntOf,underlying,program,hu,Sem.run_bind,Sem.run,Result.andThen,pure,Int.ofNat_eq_natCast]
  simp [hc,hlh,hs]
theorem bnd_ok {rd:Tmp→Option SV} {d n:Nat} {x:Option Operand} {a:Act} (h:bnd rd d x=some n) (hr:∀ t v,rd t=some v→a.tmps.getD t undef=v.den ρ):(x.map a.eval=none∧n=d)∨x.map a.eval=some (.int .i64 (.ofNat n)):=by
 cases x with
 | none=>simp only [bnd,Option.some.injEq] at h;exact .inl ⟨rfl,h.symm⟩
 | some x =>
  simp only [bnd] at h
  split at h
  ·rename_i m hv
   cases h
   exact .inr (by rw [Option.map_some,opd_ok hv hr];rfl)
  ·cases h
theorem ptrs_ok:∀ {vs:List SV} {l:List (Nat×Nat)},ptrs vs=some l→vs.map (SV.den ρ)=l.map fun x=>Value.pointer (some ⟨(ρ x.1).pos,x.2,none⟩)
 | [],l,h=>by simp only [ptrs,Option.some.injEq] at h;subst h;rfl
 | v :: r,l,h=>by
  unfold ptrs at h
  split at h
  ·rename_i he;cases he
  ·rename_i k off r' he
   cases he
   split at h
   ·rename_i l' h1
    cases h
    rw [List.map_cons,List.map_cons,ptrs_ok h1]
    rfl
   ·cases h
  ·cases h
theorem run_arith {op:BinOp} {k:IntKind} {a b c:Int} {T:TypeId} {w:World} (h:arith op k a b=some c):(binOp op T (.int k a) (.int k b)).run P w=.ok (.int k c) w:=by
 cases op <;> simp only [arith] at h <;> try (cases h;done)
 all_goals first
  | (cases h;simp [binOp,Op.intArith,pure];done)
  | (split at h;(cases h);(rename_i hb;cases h;simp [binOp,Op.intDiv,hb,pure]))
theorem run_nilEq {T:TypeId} {c d:Cell} {b:Bool} {w:World} (h:nilEq P T c d=some b):(Op.equal T (c.den ρ) (d.den ρ)).run P w=.ok b w:=by
 show (Op.equalIn (9999+1) T (c.den ρ) (d.den ρ)).run P w=_
 generalize 9999=dd
 unfold nilEq at h
 split at h <;> first | (cases h;done) | skip
 all_goals
  rename_i hu
  cases h
  simp [Op.equalIn,underlying,program,hu,Cell.den,Sem.run_bind,Sem.run,Result.andThen,pure]
theorem catS_run {op:BinOp} {a b c:ByteArray} {T:TypeId} {w:World} (h:catS op a b=some c):(binOp op T (.string a) (.string b)).run P w=.ok (.string c) w:=by
 unfold catS at h
 split at h
 ·cases hb:Nat.ble (a.data.toList.length+b.data.toList.length) 1000000 with
  | false=>rw [hb] at h;cases h
  | true =>
   rw [hb] at h
   cases h
   have h1:=Nat.le_of_ble_eq_true hb
   have e:a ++ b=⟨(a.data.toList ++ b.data.toList).toArray⟩:=by
    apply ByteArray.ext
    simp
   have h2:¬ (9223372036854775807<((a.size:Int)+(b.size:Int))):=by
    have h3:a.size=a.data.toList.length:=by rw [Array.length_toList];rfl
    have h4:b.size=b.data.toList.length:=by rw [Array.length_toList];rfl
    omega
   simp [binOp,Op.stringOp,pure,e,h2]
 ·cases h
theorem specP_ok {rd:Tmp→Option SV} {o:Oper} {v:SV} {a:Act} (h:specP P rd fb hp o.op=some v) (hi:Inv X w00 fb ρ hp W) (hr:∀ t v,rd t=some v→a.tmps.getD t undef=v.den ρ):takes P o a W fun u W'=>u=v.den ρ∧W' = W:=by
 unfold takes execOp
 unfold specP at h
 split at h
 all_goals first | (cases h;done) | (rename_i hop;rw [hop])
 ·-- indexAddr
  split at h
  ·rename_i k off len d j z hv hj hz
   obtain ⟨e,hu,hsz⟩:=elemZ_ok hz
   simp only [opd_ok hv hr,opd_ok hj hr,SV.den,El.den,Cell.den]
   cases hb:Nat.blt j len with
   | false=>rw [hb] at h;cases h
   | true =>
    rw [hb] at h
    cases h
    have hlt:j<len:=Nat.le_of_ble_eq_true hb
    have hrun:=run_indexZ (P:=P) (w:=W) (t:=_) (a:=⟨(ρ k).pos,off,none⟩) (l:=len) (c:=(ρ k).c - d) (z:=z) (j:=Int.ofNat j) (by unfold sliceZ;rw [hu];simp [hsz]) (Int.natCast_nonneg j) (by simpa using hlt)
    refine takes_value hrun ⟨?_,rfl⟩
    simp [add_off]
  ·cases h
 ·-- load
  split at h
  ·rename_i k off hv
   simp only [opd_ok hv hr,SV.den,El.den,Cell.den]
   split at h
   ·rename_i T cs pat n hs hag hsz
    obtain ⟨h1,h2⟩:=see_some hs
    obtain ⟨rest,hb,-,-⟩:=hi.sat k _ h1 h2
    cases hle:Nat.ble (off+n) cs.length with
    | false=>rw [hle] at h;cases h
    | true =>
     rw [hle] at h
     cases h
     have hle:=Nat.le_of_ble_eq_true hle
     refine takes_value (run_load_agg hag hsz hb (by simp;omega)) ⟨?_,rfl⟩
     rw [List.drop_append_of_le_length (by simp;omega),List.take_append_of_le_length (by simp;omega)]
     simp [List.map_drop,List.map_take]
   ·rename_i T cs pat hs hag
    obtain ⟨h1,h2⟩:=see_some hs
    obtain ⟨rest,hb,-,-⟩:=hi.sat k _ h1 h2
    split at h
    ·rename_i c hc
     cases h
     have hlt:=(List.getElem?_eq_some_iff.1 hc).1
     refine takes_value (run_load_one hag hb (v:=c.den ρ) ?_) ⟨rfl,rfl⟩
     rw [List.getElem?_append_left (by simpa using hlt),List.getElem?_map,hc]
     rfl
    ·cases h
   ·cases h
  ·cases h
 ·-- slice
  split at h
  ·rename_i k off len d z hv hz
   obtain ⟨e,hu,hsz⟩:=elemZ_ok hz
   simp only [opd_ok hv hr,SV.den,El.den,Cell.den,Option.map_none]
   split at h
   ·rename_i l hh T cs c pat hlo hhi hs
    obtain ⟨h1,h2⟩:=see_some hs
    obtain ⟨rest,-,-,-,hcc⟩:=hi.sat k _ h1 h2
    cases hb:(Nat.ble l hh && Nat.ble (hh+d) c) with
    | false=>rw [hb] at h;cases h
    | true =>
     rw [hb,cond_true] at h
     simp only [Bool.and_eq_true] at hb
     have hb1:=Nat.le_of_ble_eq_true hb.1
     have hb2:=Nat.le_of_ble_eq_true hb.2
     have hrun:=run_sliceY (P:=P) (w:=W) (a:=some ⟨(ρ k).pos,off,none⟩) (cap:=(ρ k).c - d) hu hsz (bnd_ok hlo hr) (bnd_ok hhi hr) (by omega) hb1
     refine takes_value hrun ⟨?_,rfl⟩
     rw [hcc]
     cases hq:Nat.beq (c - d) l with
     | true =>
      rw [hq] at h
      cases h
      rw [if_pos (Nat.eq_of_beq_eq_true hq)]
      simp only [hcc,Nat.sub_sub]
     | false =>
      rw [hq] at h
      cases h
      rw [if_neg fun e=>by rw [e,Nat.beq_refl] at hq;cases hq]
      simp only [hcc,Nat.sub_sub,Option.map_some,add_off]
   ·rename_i l hh T cs pat hlo hhi hs
    obtain ⟨h1,h2⟩:=see_some hs
    obtain ⟨rest,-,-,hkk⟩:=hi.sat k _ h1 h2
    cases hb:(Nat.beq pat.length z && Nat.blt 0 z && Nat.beq off (d*z) && Nat.ble (off+hh*z) cs.length && (Nat.beq l 0 && Nat.ble l hh || Nat.blt l hh)) with
    | false=>rw [hb] at h;cases h
    | true =>
     rw [hb] at h
     cases h
     simp only [Bool.and_eq_true,Bool.or_eq_true] at hb
     obtain ⟨⟨⟨⟨b1,b2⟩,b3⟩,b4⟩,b5⟩:=hb
     have b1:=Nat.eq_of_beq_eq_true b1
     have b2:0<z:=Nat.le_of_ble_eq_true b2
     have b3:=Nat.eq_of_beq_eq_true b3
     have b4:=Nat.le_of_ble_eq_true b4
     have hlen:=congrArg List.length hkk
     simp only [List.length_map,List.length_append,List.length_flatten,List.map_replicate,List.sum_replicate_nat] at hlen
     have hcap:(d+hh)*z≤(ρ k).c*z:=by
      rw [Nat.add_mul,← b3]
      rw [b1] at hlen
      omega
     have hcap:=Nat.le_of_mul_le_mul_right hcap b2
     have hlh:l≤hh∧(l=0∨l<hh):=by
      rcases b5 with ⟨b5,b6⟩ | b5
      ·exact ⟨Nat.le_of_ble_eq_true b6,.inl (Nat.eq_of_beq_eq_true b5)⟩
      ·have:l<hh:=Nat.le_of_ble_eq_true b5
       exact ⟨by omega,.inr this⟩
     have hrun:=run_sliceY (P:=P) (w:=W) (a:=some ⟨(ρ k).pos,off,none⟩) (cap:=(ρ k).c - d) hu hsz (bnd_ok hlo hr) (bnd_ok hhi hr) (by omega) hlh.1
     refine takes_value hrun ⟨?_,rfl⟩
     have ha:(if (ρ k).c - d=l then some (⟨(ρ k).pos,off,none⟩:Addr) else (some (⟨(ρ k).pos,off,none⟩:Addr)).map (·.add (l*z)))=some ⟨(ρ k).pos,off+l*z,none⟩:=by
      rcases hlh.2 with e | e
      ·subst e
       simp [add_off]
      ·rw [if_neg (by omega)]
       simp [add_off]
     rw [ha]
     simp only [Nat.sub_sub]
   ·cases h
  ·cases h
 ·-- binOp
  rename_i op T x y u
  split at h
  ·rename_i k a' k' b hx hy
   split at h
   ·rename_i hk
    subst hk
    split at h
    ·rename_i c hc
     cases h
     simp only [opd_ok hx hr,opd_ok hy hr,SV.den,El.den,Cell.den]
     refine takes_value (v:=.int k c) (w':=W) ?_ ⟨rfl,rfl⟩
     simp only [Sem.run_bind,run_guard (P:=P) (op:=op) (T:=T) (x:=x) (y:=y) (a:=.int k a') (b:=.int k b) (w:=W) rfl (by simp),Result.andThen]
     exact run_arith hc
    ·cases h
   ·cases h
  ·rename_i a1 b1 hx hy
   split at h
   ·rename_i c1 hc
    cases h
    simp only [opd_ok hx hr,opd_ok hy hr,SV.den,El.den,Cell.den]
    refine takes_value (v:=.string c1) (w':=W) ?_ ⟨rfl,rfl⟩
    simp only [Sem.run_bind,run_guard (P:=P) (op:=op) (T:=T) (x:=x) (y:=y) (a:=.string a1) (b:=.string b1) (w:=W) rfl (by simp),Result.andThen]
    exact catS_run hc
   ·cases h
  ·rename_i c d _ _ hx hy
   simp only [opd_ok hx hr,opd_ok hy hr,SV.den,El.den]
   have hg:∀ op,(eqGuard op T x y (c.den ρ) (d.den ρ)).run P W=.ok () W:=fun op=>run_guard (c.flat ρ) (by cases c <;> simp [Cell.den])
   split at h
   ·rename_i b hn
    cases h
    refine takes_value (v:=.bool b) (w':=W) ?_ ⟨rfl,rfl⟩
    simp only [Sem.run_bind,hg,Result.andThen]
    have he:=run_nilEq (ρ:=ρ) (w:=W) hn
    have:binOp .eql T (c.den ρ) (d.den ρ)=(do pure (.bool (← Op.equal T (c.den ρ) (d.den ρ)))):=by
     unfold nilEq at hn
     split at hn <;> first | (cases hn;done) | rfl
    rw [this]
    simp only [Sem.run_bind,he,Result.andThen]
    rfl
   ·rename_i b hn
    cases h
    refine takes_value (v:=.bool !b) (w':=W) ?_ ⟨rfl,rfl⟩
    simp only [Sem.run_bind,hg,Result.andThen]
    have he:=run_nilEq (ρ:=ρ) (w:=W) hn
    have:binOp .neq T (c.den ρ) (d.den ρ)=(do pure (.bool (!(← Op.equal T (c.den ρ) (d.den ρ))))):=by
     unfold nilEq at hn
     split at hn <;> first | (cases hn;done) | rfl
    rw [this]
    simp only [Sem.run_bind,he,Result.andThen]
    rfl
   ·cases h
  ·cases h
 ·-- makeFunc
  rename_i f first captured
  split at h
  ·rename_i vs hf hc
   split at h
   ·rename_i l hl
    cases h
    have h1:first.map a.eval=#[]:=by apply Array.ext';rw [Array.toList_map,hf];rfl
    have h2:captured.map a.eval=(l.map fun x=>Value.pointer (some ⟨(ρ x.1).pos,x.2,none⟩)).toArray:=by
     apply Array.ext'
     rw [Array.toList_map,opds_ok hr hc,ptrs_ok hl]
    refine takes_value (v:=.func (.func f) (first.map a.eval) (captured.map a.eval)) (w':=W) rfl ⟨?_,rfl⟩
    rw [h1,h2]
    rfl
   ·cases h
  ·cases h
 ·-- convert
  rename_i s d x
  split at h
  ·rename_i k0 a' k1 k hx hu hd
   cases h
   simp only [opd_ok hx hr,SV.den,El.den,Cell.den]
   refine takes_value (v:=.int k (k.wrap a')) (w':=W) ?_ ⟨rfl,rfl⟩
   simp [convert,underlying,program,hd,hu,Conv.intToInt,Sem.run_bind,Sem.run,Result.andThen,pure]
  ·cases h
 ·-- len
  rename_i c
  split at h
  ·rename_i k off len d hc ha
   cases hb:lenS P c with
   | false=>rw [hb] at h;cases h
   | true =>
    rw [hb] at h
    cases h
    have hargs:c.args.map a.eval=#[.slice (some ⟨(ρ k).pos,off,none⟩) len ((ρ k).c - d)]:=by
     apply Array.ext'
     rw [Array.toList_map,opds_ok hr ha]
     rfl
    simp only
    rw [run_len hc (show lenB P c=true from hb) hargs]
    exact ⟨rfl,rfl⟩
  ·rename_i hc ha
   cases hb:lenS P c with
   | false=>rw [hb] at h;cases h
   | true =>
    rw [hb] at h
    cases h
    have hargs:c.args.map a.eval=#[.slice none 0 0]:=by
     apply Array.ext'
     rw [Array.toList_map,opds_ok hr ha]
     rfl
    simp only
    rw [run_len hc (show lenB P c=true from hb) hargs]
    exact ⟨rfl,rfl⟩
  ·rename_i s hc ha
   cases hb:strS P c with
   | false=>rw [hb] at h;cases h
   | true =>
    rw [hb] at h
    cases h
    have hargs:c.args.map a.eval=#[.string s]:=by
     apply Array.ext'
     rw [Array.toList_map,opds_ok hr ha]
     rfl
    unfold strS at hb
    split at hb
    ·rename_i t ht
     split at hb
     ·rename_i hu
      have hrun:(do let d ← resolve a.eval c o.type;invoke d.target d.args:Sem Next).run P W=.ok (.value (.int .i64 (s.size:Int))) W:=by
       simp [resolve,hc,invoke,builtin,Builtin.len_,hargs,ht,hu,underlying,program,goInt,Sem.run_bind,Sem.run,Result.andThen,pure]
      simp only
      rw [hrun]
      refine ⟨?_,rfl⟩
      simp only [SV.den,El.den,Cell.den]
      rfl
     ·cases hb
    ·cases hb
  ·cases h
end
end Rx.Ry
namespace Rx.Ry
open Go.RowKit
section
variable (P:Program) {S:Sys} (X:Xt S) (H:Tests S) (cons:List (Con S))
def newU (hp:T (It S)) (n:Nat) (e:TypeId) (cs:List Cell) (len:Nat) (pat:List Nat):Option (Rs S):=
 bif X.okP pat && eqL (cs.map kdC) (List.replicate len pat).flatten && nmB n (cs.flatMap Cell.nm) && Nat.blt n top then some ⟨.e (.s (.sl n 0 len 0)),hp.set (some (.blk e cs none pat)) n,n+1,[]⟩ else none
def growU (hp:T (It S)) (n k:Nat) (e:TypeId) (cs:List Cell) (len:Nat) (pat:List Nat):Option (Rs S):=
 bif X.okP pat && eqL (cs.map kdC) (List.replicate len pat).flatten && nmB n (cs.flatMap Cell.nm) && Nat.blt n top && Nat.blt k n then some ⟨.e (.s (.sl n 0 len 0)),(hp.set none k).set (some (.blk e cs none pat)) n,n+1,[k]⟩ else none
def cellsOf (fb:List (Nat×Nat)) (hp:T (It S)) (z:Nat):SV→Option (Nat×List Cell)
 | .e (.s .nils)=>some (0,[])
 | .e (.s (.sl k off len _))=>match see fb hp k with
  | some (.blk _ cs _ _)=>bif Nat.ble (off+len*z) cs.length then some (len,(cs.drop off).take (len*z)) else none
  | _=>none
 | _=>none
def appE (fb:List (Nat×Nat)) (hp:T (It S)) (n:Nat) (c:Call):List SV→Option (Rs S)
 | [s,x]=>match c.argTypes.toList with
  | [t,t']=>if t=t' then (match P.underlying t with
   | some (.slice e)=>match P.info? e,zeroB P e with
    | some i,some zc=>match cellsOf fb hp zc.length x with
     | some (m,news)=>bif Nat.beq i.size zc.length && Nat.blt 0 zc.length && Nat.blt 0 m then (match s with
      | .e (.s .nils)=>bif Nat.ble (m*i.bytes) 140737488355328 && Nat.ble m 9223372036854775807 then newU X hp n e news m (zc.map kdC) else none
      | .e (.s (.sl k 0 len 0))=>match see fb hp k with
       | some (.blk T cs (some cap) _)=>bif Nat.ble (len+m) cap then (if T=e then storeR fb hp n k (len*zc.length) news (.e (.s (.sl k 0 (len+m) 0))) else none)
        else bif Nat.ble (len*zc.length) cs.length && Nat.ble ((len+m)*i.bytes) 140737488355328 && Nat.ble (len+m) 9223372036854775807 then newU X hp n e (cs.take (len*zc.length) ++ news) (len+m) (zc.map kdC) else none
       | some (.blk T cs none pat)=>bif Nat.beq (len*zc.length) cs.length && Nat.ble ((len+m)*i.bytes) 140737488355328 && Nat.ble (len+m) 9223372036854775807 && decide (T=e) && eqL pat (zc.map kdC) then growU X hp n k e (cs ++ news) (len+m) pat else none
       | _=>none
      | _=>none) else none
     | none=>none
    | _,_=>none
   | _=>none) else none
  | _=>none
 | _=>none
def copyE (fb:List (Nat×Nat)) (hp:T (It S)) (n:Nat) (c:Call):List SV→Option (Rs S)
 | [.e (.s (.sl k off len _)),x]=>match c.argTypes.toList with
  | t :: _=>match elemZ P t with
   | some z=>match cellsOf fb hp z x with
    | some (m,news)=>storeR fb hp n k off (news.take (Nat.min m len*z)) (.e (.s (.it .i64 (.ofNat (Nat.min m len)))))
    | none=>none
   | none=>none
  | []=>none
 | _=>none
def placesZ (z len:Nat):List (Nat×Nat):=(List.range len).map fun i=>(i*z,z)
def specE (call:CallT S) (rd:Tmp→Option SV) (fb:List (Nat×Nat)) (hp:T (It S)) (n:Nat):Op→Option (Rs S)
 | .makeSlice t l c=>match opd rd l,opd rd c,P.underlying t with
  | some (.e (.s (.it _ (.ofNat l)))),some (.e (.s (.it _ (.ofNat c)))),some (.slice e)=>match P.info? e,zeroB P e with
   | some i,some zc=>bif Nat.beq i.size zc.length && Nat.blt 0 zc.length && Nat.ble l c && Nat.ble (i.bytes*c) 281474976710656 && Nat.ble c 9223372036854775807 then newR X hp n e (List.replicate c zc).flatten c (zc.map kdC) (.e (.s (.sl n 0 l 0))) else none
   | _,_=>none
  | _,_,_=>none
 | .buildSlice t len parts=>match P.underlying t,partsB rd parts.toList with
  | some (.slice e),some ps=>match P.info? e,zeroB P e with
   | some i,some zc=>bif Nat.beq i.size zc.length && Nat.blt 0 zc.length && Nat.ble (len*zc.length) 16777216 then (match fillB (placesZ zc.length len) ps (List.replicate len zc).flatten with
    | some cs=>newR X hp n e cs len (zc.map kdC) (.e (.s (.sl n 0 len 0)))
    | none=>none) else none
   | _,_=>none
  | _,_=>none
 | .call c=>match opds rd c.args.toList with
  | some args=>match c.callee with
   | .builtin .append=>appE P X fb hp n c args
   | .builtin .copy=>copyE P fb hp n c args
   | .value (.func f)=>bif callB P f then call fb f args hp n else none
   | .value (.tmp t)=>match rd t with
    | some (.e (.s (.fn f l)))=>bif callB P f then call fb f (args ++ l.map fun x=>.e (.s (.ptr x.1 x.2))) hp n else none
    | _=>none
   | _=>none
  | none=>none
 | _=>none
end
section
variable {P:Program} {S:Sys} {X:Xt S} {w00 W W':World} {fb:List (Nat×Nat)} {ρ:Env} {hp:T (It S)} {n:Nat} {r:Rs S}
theorem flat_rep {α:Type} (a b:Nat) (p:List α):(List.replicate (a+b) p).flatten=(List.replicate a p).flatten ++ (List.replicate b p).flatten:=by
 rw [← List.replicate_append_replicate,List.flatten_append]
theorem made_rep (z:List Value) (hz:0<z.length):∀ c,(madeCells z.toArray (c*z.length)).toList=(List.replicate c z).flatten
 | 0=>by simp [madeCells]
 | c+1=>by
  have ih:=made_rep z hz c
  rw [flat_rep c 1,← ih]
  unfold madeCells
  rw [Array.toList_map,Array.toList_map,Array.toList_range,Array.toList_range,Nat.succ_mul,List.range_add,List.map_append,List.map_map]
  congr 1
  have e:∀ i,i<z.length→z.toArray[(c*z.length+i) % z.toArray.size]! = z[i]!:=fun i hi=>by
   rw [List.size_toArray,Nat.mul_comm,Nat.mul_add_mod,Nat.mod_eq_of_lt hi]
   simp [hi]
  refine (List.map_congr_left (g:=fun i=>z[i]!) fun i hi=>e i (List.mem_range.1 hi)).trans ?_
  simp only [List.replicate_one,List.flatten_singleton]
  apply List.ext_getElem
  ·simp
  ·intro i h1 h2
   simp at h1
   simp [h2]
theorem zeroB_ok {t:TypeId} {zc:List Cell} (h:zeroB P t=some zc) (ρ:Env):∃ i z,P.info? t=some i∧i.zero=some z∧z.cells=(zc.map (Cell.den ρ)).toArray:=by
 unfold zeroB at h
 split at h
 ·rename_i z hz
  obtain ⟨i,hi,hz'⟩:=Option.bind_eq_some_iff.1 hz
  exact ⟨i,z,hi,hz',by rw [absL_den ρ h]⟩
 ·cases h
theorem flat_map {α β:Type} (f:α→β) (c:Nat) (l:List α):(List.replicate c l).flatten.map f=(List.replicate c (l.map f)).flatten:=by
 rw [List.map_flatten,List.map_replicate]
theorem make_ok {t e:TypeId} {i:TypeInfo} {zc:List Cell} {l c:Nat} {kl kc:IntKind} (hu:P.underlying t=some (.slice e)) (hi:P.info? e=some i) (hz:zeroB P e=some zc) (hs:i.size=zc.length) (h0:0<zc.length) (hlc:l≤c) (hb:i.bytes*c≤281474976710656) (h63:c≤9223372036854775807) (w:World) :
  (Instr.makeSlice t (.int kl (.ofNat l)) (.int kc (.ofNat c))).run P w=.ok (.slice (some ⟨w.heap.size,0,none⟩) l c) (w.alloc (.cells ((List.replicate c zc).flatten.map (Cell.den ρ)).toArray e)):=by
 obtain ⟨i',z,h1,h2,h3⟩:=zeroB_ok hz ρ
 rw [hi] at h1
 cases h1
 have hrun:=run_make (P:=P) w t e i z hu hi h2 kl kc (Int.ofNat l) (Int.ofNat c) (Int.natCast_nonneg l) (Int.ofNat_le.2 hlc) (by show (i.bytes:Int)*((c:Nat):Int)≤_;rw [← Int.natCast_mul];omega) (by show ((c:Nat):Int)≤_;omega)
 rw [hrun]
 congr 1
 congr 2
 rw [h3,hs,show zc.length=(zc.map (Cell.den ρ)).length by simp]
 apply Array.ext'
 show (madeCells (zc.map (Cell.den ρ)).toArray (c*(zc.map (Cell.den ρ)).length)).toList=_
 rw [made_rep _ (by simpa using h0),flat_map]
theorem fill_go {pl:Nat→Option (Nat×Nat)} {pl':Nat→Option (Nat×Nat)}:∀ {ps:List (Nat×Value)} {cs:Array Value} {out:Array Value},Instr.fill pl cs ps=some out→(∀ i x,pl i=some x→pl' i=some x)→Instr.fill pl' cs ps=some out
 | [],cs,out,h,_=>h
 | (i,v) :: r,cs,out,h,hp=>by
  simp only [Instr.fill] at h ⊢
  split at h
  ·cases h
  ·rename_i off size hi
   rw [hp i _ hi]
   simp only
   split at h
   ·cases h
   ·rename_i hn
    rw [if_neg hn]
    exact fill_go h hp
theorem build_ok {t e:TypeId} {i:TypeInfo} {zc cs:List Cell} {len:Nat} {ps:List (Nat×El)} {parts:Array (Nat×Value)} (hu:P.underlying t=some (.slice e)) (hi:P.info? e=some i) (hz:zeroB P e=some zc) (hs:i.size=zc.length) (h0:0<zc.length) (hb:len*zc.length≤16777216)
  (hf:fillB (placesZ zc.length len) ps (List.replicate len zc).flatten=some cs) (hp:parts.toList=ps.map fun x=>(x.1,x.2.den ρ)) (w:World) :
  (Instr.buildSlice t len parts).run P w=.ok (.slice (some ⟨w.heap.size,0,none⟩) len len) (w.alloc (.cells (cs.map (Cell.den ρ)).toArray e)):=by
 obtain ⟨i',z,h1,h2,h3⟩:=zeroB_ok hz ρ
 rw [hi] at h1
 cases h1
 have hfill:=fill_ok (ρ:=ρ) hf
 have hfill2:=fill_go (pl':=fun j=>some (j*zc.length,zc.length)) hfill fun j x hx=>by
  unfold placesZ at hx
  rw [List.getElem?_toArray,List.getElem?_map] at hx
  obtain ⟨j',hj,rfl⟩:=Option.map_eq_some_iff.1 hx
  have:=List.getElem?_eq_some_iff.1 hj
  obtain ⟨hlt,he⟩:=this
  rw [List.getElem_range] at he
  rw [he]
 have hn:¬ (len*zc.length > 16777216):=by omega
 have hmade:((Array.range (len*zc.length)).map fun x=>((zc.map (Cell.den ρ)).toArray[x % (zc.map (Cell.den ρ)).toArray.size]!))=((List.replicate len zc).flatten.map (Cell.den ρ)).toArray:=by
  apply Array.ext'
  have:=made_rep (zc.map (Cell.den ρ)) (by simpa using h0) len
  rw [List.length_map] at this
  rw [flat_map]
  exact this
 rw [← hp] at hfill2
 by_cases hl:len*zc.length=0
 ·have hlen:len=0:=by
   rcases Nat.mul_eq_zero.1 hl with h | h
   ·exact h
   ·omega
  subst hlen
  simp only [List.replicate_zero,List.flatten_nil,List.map_nil] at hfill2
  simp [Instr.buildSlice,underlying,program,hu,sizeOf,typeInfo,hi,hs,newRow,newObj,hfill2,Sem.run_bind,Sem.run,Result.andThen,pure,Array.range_zero']
 ·simp only [Instr.buildSlice,underlying,program,hu,sizeOf,typeInfo,hi,hs,zeroValue,h2,h3,Sem.run_bind,Sem.run,Result.andThen,pure,hl,if_false,show ¬ (len*zc.length > 2 ^ 24) from hn]
  rw [show (Array.map (fun x=>(zc.map (Cell.den ρ)).toArray[x % (zc.map (Cell.den ρ)).toArray.size]!) (Array.range (len*zc.length)))=((List.replicate len zc).flatten.map (Cell.den ρ)).toArray from hmade,hfill2]
  simp [newRow,newObj,Sem.run_bind,Sem.run,Result.andThen,pure]
end
end Rx.Ry
end Go.Proofs.YteeelpcgbenjjaaGreatDoor
