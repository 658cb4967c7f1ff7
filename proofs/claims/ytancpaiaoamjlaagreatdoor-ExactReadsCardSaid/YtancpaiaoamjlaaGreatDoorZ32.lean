/- What the proof rests on, part 32. -/
import Derived.Test.YtancpaiaoamjlaaGreatDoorZ15
import Derived.Test.YtancpaiaoamjlaaGreatDoorZ28
import Derived.Test.YtancpaiaoamjlaaGreatDoorZ31
import Derived.Test.YtancpaiaoamjlaaGreatDoorZ22
namespace Go.Proofs.YtancpaiaoamjlaaGreatDoor
set_option maxRecDepth 100000
set_option maxHeartbeats 80000000
namespace Rx
open Go.RowKit
def Cell.eqB:Cell→Cell→Bool
 | .bl a,.bl b=>a == b
 | .it k n,.it k' n'=>decide (k=k') && decide (n=n')
 | .st s,.st t=>decide (s=t)
 | .nils,.nils=>true
 | .ob a,.ob b | .ou a,.ou b | .oi a,.oi b | .o8 a,.o8 b | .os a,.os b | .ot a,.ot b=>a == b
 | .ptr k o,.ptr k' o' | .elp k o,.elp k' o'=>k == k' && o == o'
 | .elv n i z,.elv n' i' z'=>n == n' && i == i' && z == z'
 | _,_=>false
theorem Cell.eqB_eq {a b:Cell} (h:a.eqB b=true):a=b:=by
 cases a <;> cases b <;> simp_all [Cell.eqB]
def dz (n:Nat):Int:=bif Nat.ble 900 n then 1 else 0
def Cell.fit (m:Nat→Option Nat):Cell→Option Cell
 | .ob n=>some (match m n with | some k=>.ob k | none=>.bl false)
 | .ou n=>some (match m n with | some k=>.ou k | none=>.it .u64 (dz n))
 | .oi n=>some (match m n with | some k=>.oi k | none=>.it .i64 (dz n))
 | .os n=>some (match m n with | some k=>.os k | none=>.nils)
 | .o8 n=>some (match m n with | some k=>.o8 k | none=>.it .u8 (dz n))
 | .ot n=>(m n).map fun k=>.ot k
 | .ptr n o=>(m n).map fun k=>.ptr k o
 | .bl b=>some (.bl b)
 | .it k n=>some (.it k n)
 | .nils=>some .nils
 | _=>none
def dF (m:Nat→Option Nat) (ρ:Env):Env:=fun n=>match m n with
 | some k=>ρ k
 | none=>⟨false,dz n,none,0,0,.empty,0,default⟩
theorem TW {m:Nat→Option Nat} (ρ:Env) {c d:Cell} (h:c.fit m=some d):d.den ρ=c.den (dF m ρ):=by
 cases c with
 | ob n | ou n | oi n | os n | o8 n =>
  simp only [Cell.fit,Option.some.injEq] at h
  subst h
  simp only [Cell.den,dF]
  cases m n <;> rfl
 | ptr n o =>
  simp only [Cell.fit,Option.map_eq_some_iff] at h
  obtain ⟨k,h1,rfl⟩:=h
  simp only [Cell.den,dF,h1]
 | ot n =>
  simp only [Cell.fit,Option.map_eq_some_iff] at h
  obtain ⟨k,h1,rfl⟩:=h
  simp only [Cell.den,dF,h1]
 | bl b=>cases h;rfl
 | it k n=>cases h;rfl
 | nils=>cases h;rfl
 | _=>cases h
def yS (m:Nat→Option Nat) (c d:Cell):Bool:=match c.fit m with
 | some e=>e.eqB d
 | none=>false
theorem JG {m:Nat→Option Nat} (ρ:Env) {c d:Cell} (h:yS m c d=true):d.den ρ=c.den (dF m ρ):=by
 unfold yS at h
 split at h
 ·rename_i e he
  rw [← Cell.eqB_eq h]
  exact TW ρ he
 ·cases h
def qE (m:Nat→Option Nat):List Cell→List Cell→Bool
 | [],[]=>true
 | a :: r,b :: s=>yS m a b && qE m r s
 | _,_=>false
theorem JH {m:Nat→Option Nat} (ρ:Env):∀ {a b:List Cell},qE m a b=true→b.map (Cell.den ρ)=a.map (Cell.den (dF m ρ))
 | [],[],_=>rfl
 | a :: r,b :: s,h=>by
  simp only [qE,Bool.and_eq_true] at h
  simp only [List.map_cons]
  rw [JG ρ h.1,JH ρ h.2]
 | [],_ :: _,h=>by simp [qE] at h
 | _ :: _,[],h=>by simp [qE] at h
abbrev Pat:=List (Option Cell)
def bD:Pat→(Nat→Value)→Nat→List SV
 | [],_,_=>[]
 | none :: p,u,i=>.o (u i) :: bD p u (i+1)
 | some c :: p,u,i=>.e (.s c) :: bD p u (i+1)
def dQ (m:Nat→Option Nat):Pat→List SV→Bool
 | [],[]=>true
 | none :: p,_ :: r=>dQ m p r
 | some c :: p,.e (.s d) :: r=>yS m c d && dQ m p r
 | _,_=>false
def bxB (m:Nat→Option Nat) (bx0 bx:List (Nat×TypeId×List Cell)):Bool:=
 bx0.all fun x=>(match m x.1 with
  | some k=>(match lk bx k with
   | some (T,cs)=>decide (T=x.2.1) && qE m x.2.2 cs && bx0.all fun y=>x.1 == y.1 || !(decide (m y.1=some k))
   | none=>false)
  | none=>false)
theorem EU:∀ (p:Pat) (u:Nat→Value) (i:Nat),(bD p u i).length=p.length
 | [],_,_=>rfl
 | none :: p,u,i=>by simp [bD,EU p u]
 | some c :: p,u,i=>by simp [bD,EU p u]
theorem FP {m:Nat→Option Nat}:∀ {p:Pat} {r:List SV},dQ m p r=true→p.length=r.length
 | [],[],_=>rfl
 | none :: p,_ :: r,h=>by simp only [List.length_cons];rw [FP (p:=p) (r:=r) h]
 | some c :: p,.e (.s d) :: r,h=>by
  simp only [dQ,Bool.and_eq_true] at h
  simp only [List.length_cons]
  rw [FP h.2]
 | [],_ :: _,h=>by simp [dQ] at h
 | none :: _,[],h=>by simp [dQ] at h
 | some _ :: _,[],h=>by simp [dQ] at h
 | some _ :: _,.t _ :: _,h=>by simp [dQ] at h
 | some _ :: _,.und :: _,h=>by simp [dQ] at h
 | some _ :: _,.o _ :: _,h=>by simp [dQ] at h
 | some _ :: _,.e (.a _) :: _,h=>by simp [dQ] at h
theorem FQ {m:Nat→Option Nat} {ρ:Env} {u:Nat→Value}:∀ {p:Pat} {r:List SV} {i:Nat},dQ m p r=true→(∀ t,u (i+t)=(r.getD t .und).den ρ)→∀ t,u (i+t)=((bD p u i).getD t .und).den (dF m ρ)
 | [],[],i,_,hu,t=>by simpa [bD,SV.den] using hu t
 | none :: p,x :: r,i,h,hu,t=>by
  cases t with
  | zero=>rfl
  | succ t =>
   have:=FQ (p:=p) (r:=r) (i:=i+1) h (fun t=>by have:=hu (t+1);rwa [show i+(t+1)=i+1+t by omega] at this) t
   rw [show i+(t+1)=i+1+t by omega]
   exact this
 | some c :: p,.e (.s d) :: r,i,h,hu,t=>by
  simp only [dQ,Bool.and_eq_true] at h
  cases t with
  | zero =>
   exact (hu 0).trans (JG ρ h.1)
  | succ t =>
   have:=FQ (p:=p) (r:=r) (i:=i+1) h.2 (fun t=>by have:=hu (t+1);rwa [show i+(t+1)=i+1+t by omega] at this) t
   rw [show i+(t+1)=i+1+t by omega]
   exact this
 | [],_ :: _,_,h,_,_=>by simp [dQ] at h
 | none :: _,[],_,h,_,_=>by simp [dQ] at h
 | some _ :: _,[],_,h,_,_=>by simp [dQ] at h
 | some _ :: _,.t _ :: _,_,h,_,_=>by simp [dQ] at h
 | some _ :: _,.und :: _,_,h,_,_=>by simp [dQ] at h
 | some _ :: _,.o _ :: _,_,h,_,_=>by simp [dQ] at h
 | some _ :: _,.e (.a _) :: _,_,h,_,_=>by simp [dQ] at h
theorem zG {k:Nat} {x:TypeId×List Cell}:∀ {bx:List (Nat×TypeId×List Cell)},lk bx k=some x→(k,x)∈bx
 | [],h=>by simp [lk] at h
 | (k',y) :: r,h=>by
  simp only [lk] at h
  split at h
  ·rename_i e;cases h;subst e;simp
  ·exact List.mem_cons_of_mem _ (zG h)
theorem uN {S S':Sys} {σ:State S} {p:Pat} {bx0:List (Nat×TypeId×List Cell)} {fs:List S'.F} {base:Nat} {m:Nat→Option Nat} {w0 W:World} {ρ:Env} {a:Act} (hp:dQ m p σ.regs=true) (hb:bxB m bx0 σ.bx=true)
  (hs:σ.Says w0 ρ a W) (hf:∀ f∈fs,S'.on (dF m ρ) f W):State.Says (S:=S') ⟨bD p (fun t=>a.tmps.getD t undef) 0,bx0,fs,base⟩ w0 (dF m ρ) a W:=by
 have hb':∀ k T cs,lk bx0 k=some (T,cs)→∃ j cs',m k=some j∧lk σ.bx j=some (T,cs')∧qE m cs cs' = true∧∀ k' x',lk bx0 k' = some x'→k≠k'→m k'≠some j:=fun k T cs h=>by
  have h1:=List.all_eq_true.1 hb _ (zG h)
  split at h1
  ·rename_i j hj
   split at h1
   ·rename_i T' cs' hl
    simp only [Bool.and_eq_true,decide_eq_true_eq] at h1
    refine ⟨j,cs',hj,by rw [hl,h1.1.1],h1.1.2,fun k' x' h' hne he=>?_⟩
    have h2:=List.all_eq_true.1 h1.2 _ (zG h')
    simp [hne,he] at h2
   ·cases h1
  ·cases h1
 refine ⟨?_,hs.df,fun t=>?_,hs.bel,fun k T cs h=>?_,fun k k' x x' h h' hne=>?_,hf⟩
 ·rw [hs.sz,← FP hp];exact (EU _ _ _).symm
 ·have:=FQ (u:=fun t=>a.tmps.getD t undef) (i:=0) hp (fun t=>by rw [Nat.zero_add];exact hs.rg t) t
  rwa [Nat.zero_add] at this
 ·obtain ⟨j,cs',hj,hl,hft,-⟩:=hb' k T cs h
  obtain ⟨h1,h2⟩:=hs.bx _ _ _ hl
  rw [JH ρ hft] at h2
  simp only [dF,hj] at h2 ⊢
  exact ⟨h1,h2⟩
 ·obtain ⟨j,cs,hj,hl,-,hne'⟩:=hb' k x.1 x.2 h
  obtain ⟨j',cs',hj',hl',-,-⟩:=hb' k' x'.1 x'.2 h'
  have:=hs.inj _ _ _ _ hl hl' (fun e=>hne' k' x' h' hne (by rw [hj',e]))
  simpa only [dF,hj,hj'] using this
def okR {S:Sys} (eqF:S.F→S.F→Bool) (p:Pat) (bx:List (Nat×TypeId×List Cell)) (m:Nat→Option Nat) (need:List S.F):Option (Ex×State S)→Bool
 | some (.normal,σ)=>dQ m p σ.regs && bxB m bx σ.bx && need.all fun f=>σ.fs.any (eqF f)
 | _=>false
theorem uF {S:Sys} {eqF:S.F→S.F→Bool} (hq:∀ a b,eqF a b=true→a=b) {p:Pat} {bx:List (Nat×TypeId×List Cell)} {m:Nat→Option Nat} {need:List S.F} {o:Option (Ex×State S)} (h:okR eqF p bx m need o=true) :
  ∃ σ,o=some (.normal,σ)∧dQ m p σ.regs=true∧bxB m bx σ.bx=true∧∀ f∈need,f∈σ.fs:=by
 unfold okR at h
 split at h
 ·rename_i σ
  simp only [Bool.and_eq_true,List.all_eq_true] at h
  refine ⟨σ,rfl,h.1.1,h.1.2,fun f hf=>?_⟩
  obtain ⟨g,hg,he⟩:=List.any_eq_true.1 (h.2 f hf)
  rw [hq f g he]
  exact hg
 ·cases h
def wfB (S:Sys) (p:Pat) (bx:List (Nat×TypeId×List Cell)) (fs:List S.F) (base:Nat):Bool:=
 p.all (fun o=>match o with
  | some c=>c.nm.all (· < base)
  | none=>true) && bx.all (fun x=>decide (x.1<base) && (x.2.2.flatMap Cell.nm).all (· < base)) && fs.all fun f=>(S.nm f).all (· < base)
theorem EW {n:Nat}:∀ {p:Pat} {u:Nat→Value} {i t:Nat},n∈((bD p u i).getD t .und).nm→∃ c,some c∈p∧n∈c.nm
 | [],u,i,t,h=>by simp [bD,SV.nm] at h
 | none :: p,u,i,0,h=>by simp [bD,SV.nm] at h
 | none :: p,u,i,t+1,h=>by
  obtain ⟨c,h1,h2⟩:=EW (p:=p) (u:=u) (i:=i+1) (t:=t) h
  exact ⟨c,by simp [h1],h2⟩
 | some c :: p,u,i,0,h=>⟨c,by simp,by simpa [bD,SV.nm,El.cells] using h⟩
 | some c :: p,u,i,t+1,h=>by
  obtain ⟨c',h1,h2⟩:=EW (p:=p) (u:=u) (i:=i+1) (t:=t) h
  exact ⟨c',by simp [h1],h2⟩
theorem rP {S:Sys} {p:Pat} {bx:List (Nat×TypeId×List Cell)} {fs:List S.F} {base:Nat} (h:wfB S p bx fs base=true) (u:Nat→Value):Wf (S:=S) ⟨bD p u 0,bx,fs,base⟩:=by
 unfold wfB at h
 simp only [Bool.and_eq_true,List.all_eq_true,decide_eq_true_eq] at h
 refine ⟨fun t n hn=>?_,fun k T cs hk=>h.1.2 _ (zG hk),fun f hf n hn=>h.2 f hf n hn⟩
 obtain ⟨c,h1,h2⟩:=EW hn
 exact of_decide_eq_true (List.all_eq_true.1 (h.1.1 _ h1) n h2)
section
variable (P:Program) (S:Sys) (H:Tests S) (cons:List (Con S))
def gG:List Code→State S→Option (Ex×State S)
 | [],σ=>some (.normal,σ)
 | c :: r,σ=>match exec P S H cons 1 c σ with
  | some (.normal,σ')=>gG r σ'
  | _=>none
def yN (B rest:Code) (fn:Func) (σ:State S):Option (SV×List S.F):=match exec P S H cons 1 B σ with
 | some (.exit 0,σ1)=>match exec P S H cons 1 rest σ1 with
  | some (.ret,σ2)=>match jR P S σ2 fn.results.toList with
   | some l=>some (jQ l,σ2.fs)
   | none=>none
  | _=>none
 | _=>none
end
section
variable {P:Program} {Sj:Nat→Sys} {eqF:∀ j,(Sj j).F→(Sj j).F→Bool} {Hj:∀ j,Tests (Sj j)} {cj:∀ j,List (Con (Sj j))} {E:World→Prop} {fu:Nat}
theorem JZ (hq:∀ j a b,eqF j a b=true→a=b) (hm:P.follows .mixedOrders=true) (hcons:∀ j,∀ c∈cj j,c.Ok P (Sj j) E) {fn:Func} {B rest:Code} {n:Nat} {p:Pat} {bx:Nat→List (Nat×TypeId×List Cell)} {fs:∀ j,List (Sj j).F} {base:Nat} {m1:Nat→Nat→Option Nat} {need:∀ j,List (Sj j).F}
  (hwf:∀ j,wfB (Sj j) p (bx j) (fs j) base=true) (hrd:∀ j,j<n→∀ u,okR (eqF j) p (bx (j+1)) (m1 j) (need j) (exec P (Sj j) (Hj j) (cj j) fu B ⟨bD p u 0,bx j,fs j,base⟩)=true)
  {R:SV→List (Sj n).F→Prop} (hen:∀ u,∃ v fsE,yN P (Sj n) (Hj n) (cj n) B rest fn ⟨bD p u 0,bx n,fs n,base⟩=some (v,fsE)∧R v fsE)
  {w:World} (hlo:∀ j,(Sj j).lo≤w.heap.size) (hE:∀ W,Below w.heap.size w W→E W) (h1:∀ j,j<n→∀ ρ W,(∀ f∈need j,(Sj j).on ρ f W)→∀ f∈fs (j+1),(Sj (j+1)).on (dF (m1 j) ρ) f W)
  {Q:Ending→World→Prop} (hQ:∀ v fsE,R v fsE→∀ ρ' W',Below w.heap.size w W'→(∀ f∈fsE,(Sj n).on ρ' f W')→Q (.returned (v.den ρ')) W') :
  ∀ d j,j+d=n→∀ u ρ a W,State.Says (S:=Sj j) ⟨bD p u 0,bx j,fs j,base⟩ w ρ a W→Code.rounds P B (Exit.inBlock 0 (Exit.then (rest.wp P (bodyPost P fn Q)) (bodyPost P fn Q))) (d+1) a W
 | 0,j,hj,u,ρ,a,W,hs=>by
  obtain rfl:j=n:=by omega
  rw [rounds_succ]
  obtain ⟨v,fsE,he,hR⟩:=hen u
  unfold yN at he
  split at he
  ·rename_i σ1 hx1
   split at he
   ·rename_i σ2 hx2
    split at he
    ·rename_i l hl
     simp only [Option.some.injEq,Prod.mk.injEq] at he
     obtain ⟨hv,hfs⟩:=he
     obtain ⟨wf1,-,go1⟩:=dh (w0:=w) (hlo j) hm (hcons j) hE B _ _ _ hx1 (rP (hwf j) u)
     obtain ⟨-,-,go2⟩:=dh (w0:=w) (hlo j) hm (hcons j) hE rest _ _ _ hx2 wf1
     refine go1 ρ a W _ hs fun ρ1 a1 W1 _ s1=>?_
     show rest.wp P (bodyPost P fn Q) a1 W1
     refine go2 ρ1 a1 W1 _ s1 fun ρ2 a2 W2 _ s2=>?_
     have hr:=wS s2 hl
     rw [hv] at hr
     exact bodyPost_ret hr s2.df (hQ v fsE hR ρ2 W2 s2.bel (by rw [← hfs];exact s2.fc))
    ·cases he
   ·cases he
  ·cases he
 | d+1,j,hj,u,ρ,a,W,hs=>by
  rw [rounds_succ]
  obtain ⟨σ1,hx,hp,hb,hn⟩:=uF (hq j) (hrd j (by omega) u)
  obtain ⟨-,-,go⟩:=dh (w0:=w) (hlo j) hm (hcons j) hE B _ _ _ hx (rP (hwf j) u)
  refine go ρ a W _ hs fun ρ1 a1 W1 _ s1=>?_
  exact JZ hq hm hcons hwf hrd hen hlo hE h1 hQ d (j+1) (by omega) _ _ _ _ (uN hp hb s1 (h1 j (by omega) ρ1 W1 fun f hf=>s1.fc f (hn f hf)))
theorem yX (hq:∀ j a b,eqF j a b=true→a=b) (hm:P.follows .mixedOrders=true) (hcons:∀ j,∀ c∈cj j,c.Ok P (Sj j) E) {B:Code} {n:Nat} {p:Pat} {bx:Nat→List (Nat×TypeId×List Cell)} {fs:∀ j,List (Sj j).F} {base:Nat} {m1:Nat→Nat→Option Nat} {need:∀ j,List (Sj j).F}
  (hwf:∀ j,wfB (Sj j) p (bx j) (fs j) base=true) (hrd:∀ j,j<n→∀ u,okR (eqF j) p (bx (j+1)) (m1 j) (need j) (exec P (Sj j) (Hj j) (cj j) fu B ⟨bD p u 0,bx j,fs j,base⟩)=true)
  {w:World} (hlo:∀ j,(Sj j).lo≤w.heap.size) (hE:∀ W,Below w.heap.size w W→E W) (h1:∀ j,j<n→∀ ρ W,(∀ f∈need j,(Sj j).on ρ f W)→∀ f∈fs (j+1),(Sj (j+1)).on (dF (m1 j) ρ) f W)
  {Q:Exit→Act→World→Prop} (hlast:∀ u ρ a W,State.Says (S:=Sj n) ⟨bD p u 0,bx n,fs n,base⟩ w ρ a W→Code.rounds P B Q 1 a W) :
  ∀ d j,j+d=n→∀ u ρ a W,State.Says (S:=Sj j) ⟨bD p u 0,bx j,fs j,base⟩ w ρ a W→Code.rounds P B Q (d+1) a W
 | 0,j,hj,u,ρ,a,W,hs=>by
  obtain rfl:j=n:=by omega
  exact hlast u ρ a W hs
 | d+1,j,hj,u,ρ,a,W,hs=>by
  rw [rounds_succ]
  obtain ⟨σ1,hx,hp,hb,hn⟩:=uF (hq j) (hrd j (by omega) u)
  obtain ⟨-,-,go⟩:=dh (w0:=w) (hlo j) hm (hcons j) hE B _ _ _ hx (rP (hwf j) u)
  refine go ρ a W _ hs fun ρ1 a1 W1 _ s1=>?_
  exact yX hq hm hcons hwf hrd hlo hE h1 hlast d (j+1) (by omega) _ _ _ _ (uN hp hb s1 (h1 j (by omega) ρ1 W1 fun f hf=>s1.fc f (hn f hf)))
theorem Gj {S:Sys} {args:List SV} {fs:List S.F} {b N:Nat} {ρ:Env} {w:World} (hf:∀ f∈fs,S.on ρ f w) :
  State.Says (S:=S) ⟨args ++ List.replicate (N - args.length) .und,[],fs,b⟩ w ρ { tmps:=(args.map (SV.den ρ)).toArray ++ Array.replicate (N - (args.map (SV.den ρ)).toArray.size) undef,defers:=[] } w:=by
 refine ⟨by simp,rfl,fun t=>?_,Below.refl _ _,fun k T cs h=>by simp [lk] at h,fun k k' x x' h=>by simp [lk] at h,hf⟩
 simp only [List.getD,Array.getD_eq_getD_getElem?,Array.getElem?_append,List.getElem?_toArray,List.getElem?_append,List.getElem?_map,List.size_toArray,List.length_map,Array.getElem?_replicate,List.getElem?_replicate]
 split
 ·rename_i ht
  simp [List.getElem?_eq_getElem ht]
 ·split <;> rfl
theorem GL {S:Sys} {args:List SV} {fs:List S.F} {b N:Nat} (hok:mX S args fs b=true):Wf (S:=S) ⟨args ++ List.replicate (N - args.length) .und,[],fs,b⟩:=by
 unfold mX at hok
 simp only [Bool.and_eq_true,List.all_eq_true,decide_eq_true_eq] at hok
 refine ⟨fun t n hn=>?_,fun k T cs h=>by simp [lk] at h,fun f hf n hn=>hok.2 f hf n hn⟩
 simp only [List.getD] at hn
 rcases Nat.lt_or_ge t args.length with ht | ht
 ·rw [List.getElem?_append_left ht,List.getElem?_eq_getElem ht,Option.getD_some] at hn
  exact hok.1 _ (List.getElem_mem ht) n hn
 ·rw [List.getElem?_append_right ht] at hn
  cases hg:(List.replicate (N - args.length) SV.und)[t - args.length]? with
  | none=>rw [hg] at hn;simp [SV.nm] at hn
  | some x =>
   rw [hg,Option.getD_some] at hn
   have:=List.eq_of_mem_replicate (List.mem_of_getElem? hg)
   subst this
   simp [SV.nm] at hn
theorem Uj (hq:∀ j a b,eqF j a b=true→a=b) (hm:P.follows .mixedOrders=true) (hcons:∀ j,∀ c∈cj j,c.Ok P (Sj j) E) {f:FuncId} {fn:Func} {c0 c1 c2 B rest:Code} {n:Nat} (hfn:P.funcs[f]? = some fn) (hc:fn.body=some (c0.seq (c1.seq ((c2.seq (.block 0 (.loop B))).seq rest))))
  {args:List SV} {fs0:List (Sj 0).F} {b:Nat} (hok:mX (Sj 0) args fs0 b=true)
  {p:Pat} {bx:Nat→List (Nat×TypeId×List Cell)} {fs:∀ j,List (Sj j).F} {base:Nat} {m0:Nat→Option Nat} {m1:Nat→Nat→Option Nat} {need0:List (Sj 0).F} {need:∀ j,List (Sj j).F}
  (hst:okR (eqF 0) p (bx 0) m0 need0 (gG P (Sj 0) (Hj 0) (cj 0) [c0,c1,c2] ⟨args ++ List.replicate (fn.ntmps - args.length) .und,[],fs0,b⟩)=true)
  (hwf:∀ j,wfB (Sj j) p (bx j) (fs j) base=true) (hrd:∀ j,j<n→∀ u,okR (eqF j) p (bx (j+1)) (m1 j) (need j) (exec P (Sj j) (Hj j) (cj j) fu B ⟨bD p u 0,bx j,fs j,base⟩)=true)
  {R:SV→List (Sj n).F→Prop} (hen:∀ u,∃ v fsE,yN P (Sj n) (Hj n) (cj n) B rest fn ⟨bD p u 0,bx n,fs n,base⟩=some (v,fsE)∧R v fsE)
  {ρ:Env} {w:World} (hlo:∀ j,(Sj j).lo≤w.heap.size) (hE:∀ W,Below w.heap.size w W→E W) (hf:∀ f∈fs0,(Sj 0).on ρ f w)
  (h0:∀ ρ W,(∀ f∈need0,(Sj 0).on ρ f W)→∀ f∈fs 0,(Sj 0).on (dF m0 ρ) f W)
  (h1:∀ j,j<n→∀ ρ W,(∀ f∈need j,(Sj j).on ρ f W)→∀ f∈fs (j+1),(Sj (j+1)).on (dF (m1 j) ρ) f W)
  {Q:Ending→World→Prop} (hQ:∀ v fsE,R v fsE→∀ ρ' W',Below w.heap.size w W'→(∀ f∈fsE,(Sj n).on ρ' f W')→Q (.returned (v.den ρ')) W') :
  Calls P f (args.map (SV.den ρ)).toArray w Q:=by
 obtain ⟨σ,hx,hp,hb,hn⟩:=uF (hq 0) hst
 simp only [gG] at hx
 split at hx
 ·rename_i σ0 hx0
  split at hx
  ·rename_i σ1 hx1
   split at hx
   ·rename_i σ2 hx2
    cases hx
    obtain ⟨wf0,-,go0⟩:=dh (w0:=w) (hlo 0) hm (hcons 0) hE c0 _ _ _ hx0 (GL hok)
    obtain ⟨wf1,-,go1⟩:=dh (w0:=w) (hlo 0) hm (hcons 0) hE c1 _ _ _ hx1 wf0
    obtain ⟨-,-,go2⟩:=dh (w0:=w) (hlo 0) hm (hcons 0) hE c2 _ _ _ hx2 wf1
    refine calls_of_wp hfn hc (wp_seq (go0 ρ _ w _ (Gj hf) fun ρ1 a1 W1 _ s1=>wp_seq (go1 ρ1 a1 W1 _ s1 fun ρ2 a2 W2 _ s2=>wp_seq (wp_seq (go2 ρ2 a2 W2 _ s2 fun ρ3 a3 W3 _ s3=>wp_block (wp_loop_rounds (n+1) ?_))))))
    exact JZ hq hm hcons hwf hrd hen hlo hE h1 hQ n 0 (by omega) _ _ _ _ (uN hp hb s3 (h0 ρ3 W3 fun f hf=>s3.fc f (hn f hf)))
   ·cases hx
  ·cases hx
 ·cases hx
end
section
variable {P:Program} {S:Sys}
theorem Y8 {H:Tests S} {cons:List (Con S)} {c0 c1:Code} {σ σ':State S} (h:gG P S H cons [c0,c1] σ=some (.normal,σ')):∃ σ1,exec P S H cons 1 c0 σ=some (.normal,σ1)∧exec P S H cons 1 c1 σ1=some (.normal,σ'):=by
 simp only [gG] at h
 split at h
 ·rename_i σ1 h1
  split at h
  ·rename_i σ2 h2
   cases h
   exact ⟨σ1,h1,h2⟩
  ·cases h
 ·cases h
end
end Rx
namespace Rx
open Go.RowKit
def zf0 (fn:Func):Code:=match fn.body with | some (.seq a _)=>a | _=>.skip
def zf1 (fn:Func):Code:=match fn.body with | some (.seq _ (.seq a _))=>a | _=>.skip
def zf2 (fn:Func):Code:=match fn.body with | some (.seq _ (.seq _ (.seq (.seq a _) _)))=>a | _=>.skip
def zfB (fn:Func):Code:=match fn.body with | some (.seq _ (.seq _ (.seq (.seq _ (.block _ (.loop b))) _)))=>b | _=>.skip
def zfR (fn:Func):Code:=match fn.body with | some (.seq _ (.seq _ (.seq _ r)))=>r | _=>.skip
def jk:Fc→Fc→Bool
 | .tx s e,.tx s' e'=>s == s' && e.beq e'
 | .z s e k,.z s' e' k'=>s == s' && e.beq e' && k == k'
 | .i s e,.i s' e'=>s == s' && e.beq e'
 | _,_=>false
theorem qp {a b:Fc} (h:jk a b=true):a=b:=by
 unfold jk at h
 split at h
 ·simp only [Bool.and_eq_true,beq_iff_eq] at h
  rw [h.1,RE.beq_eq h.2]
 ·simp only [Bool.and_eq_true,beq_iff_eq] at h
  rw [h.1.1,RE.beq_eq h.1.2,h.2]
 ·simp only [Bool.and_eq_true,beq_iff_eq] at h
  rw [h.1,RE.beq_eq h.2]
 ·cases h
def vY (e:RE) (v:SV) (fs:List Fc):Bool:=match v with
 | .e (.a cs)=>match kV fs cs with
  | some (e',_)=>e'.beq e
  | none=>false
 | _=>false
theorem Vk {β:Nat→Rat} {e:RE} {v:SV} {fs:List Fc} {ρ:Env} {W:World} (h:vY e v fs=true) (hf:∀ f∈fs,(SQ β).on ρ f W):∃ z:Int,Z4.IsZ W (v.den ρ) z∧(z:Rat)=e.ev β:=by
 unfold vY at h
 split at h
 ·split at h
  ·rename_i e' k' hx
   rw [← RE.beq_eq h]
   obtain ⟨z,h1,h2,-⟩:=nR hx hf
   exact ⟨z,h1,h2⟩
  ·cases h
 ·cases h
def Em (e:RE):Option (SV×List Fc)→Bool
 | some (v,fs)=>vY e v fs
 | none=>false
theorem TJ {e:RE} {o:Option (SV×List Fc)} (h:Em e o=true):∃ v fs,o=some (v,fs)∧vY e v fs=true:=by
 unfold Em at h
 split at h
 ·exact ⟨_,_,rfl,h⟩
 ·cases h
noncomputable abbrev jo:Func:=Tryz.f68
noncomputable abbrev zpB (s:List UInt8) (j:Nat):Nat→Rat:=bet [((enc s:Nat):Rat),((s.length:Int):Rat),((j:Int):Rat),((dv (s.take j):Int):Rat),(((s.getD j 48).toNat:Int):Rat),((((s.getD j 48).toNat:Int) - 48:Int):Rat),(((j+1:Nat):Int):Rat)]
def zpT (more:Bool):Ari:={ gt:=[(.v 1,.v 2,more)],ar:=if more then [(.sub,.u8,.v 4,.c 48,.v 5)] else [],cv:=if more then [(.i64,.v 5,.v 5)] else [] }
def zpX (more:Bool):Txt:={ len:=[(.v 0,.v 1)],idx:=if more then [(.v 0,.v 2,.v 4)] else [] }
def zpL (more:Bool):List (RE×RE):=if more then [(.v 2,.v 6)] else []
def zpC (β:Nat→Rat):List (Con (SQ β)):=[yx β,yu β,yw β]
theorem OH {β:Nat→Rat}:∀ c∈zpC β,c.Ok Tryz.prog (SQ β) EV:=by
 unfold zpC
 simp only [List.forall_mem_cons,List.not_mem_nil,false_imp_iff,implies_true,and_true]
 exact ⟨Ja,I8,I9⟩
def zpP:Pat:=[some (.ot 0),none,some (.ptr 3 0),some (.ptr 4 0),some (.oi 2)] ++ List.replicate 17 none
def zpK:List (Nat×TypeId×List Cell):=[(3,35,[.bl false,.nils]),(4,35,zC 1)]
def zpF:List Fc:=[.tx 0 (.v 0),.z 1 (.v 3) 1001,.i 2 (.v 2)]
def G5:Nat→Option Nat
 | 0=>some 0 | 3=>some 1 | 4=>some 65 | _=>none
def OI:List Fc:=[.tx 0 (.v 0)]
def zpm:Nat→Option Nat
 | 0=>some 0 | 1=>some 837 | 2=>some 1029 | 3=>some 3 | 4=>some 4 | _=>none
def zpn:List Fc:=[.tx 0 (.v 0),.z 837 (.add (.mul (.v 3) (.c 10)) (.v 5)) 1003,.i 1029 (.v 6)]
section
variable (β:Nat→Rat)
theorem GZ (more:Bool) (ok:(zpT more).Ok β) (okX:(zpX more).Ok β) (okL:dH β (zpL more)):mX (SQ β) [.e (.s (.ot 0))] [.tx 0 (.v 0)] 1=true ∧
  okR (S:=SQ β) jk zpP zpK G5 OI (gG Tryz.prog (SQ β) (HTi β {} (bP β) (zpT more) ok (zpX more) okX (zpL more) okL) (zpC β) [zf0 jo,zf1 jo,zf2 jo] ⟨[.e (.s (.ot 0))] ++ List.replicate (jo.ntmps - [SV.e (.s (.ot 0))].length) .und,[],[.tx 0 (.v 0)],1⟩)=true∧wfB (SQ β) zpP zpK zpF 5=true:=⟨by kernel_rfl,by kernel_rfl,by kernel_rfl⟩
theorem aam {more:Bool} (hm:more=false) (ok:(zpT more).Ok β) (okX:(zpX more).Ok β) (okL:dH β (zpL more)) (u:Nat→Value):Em (.v 3) (yN Tryz.prog (SQ β) (HTi β {} (bP β) (zpT more) ok (zpX more) okX (zpL more) okL) (zpC β) (zfB jo) (zfR jo) jo ⟨bD zpP u 0,zpK,zpF,5⟩)=true:=by
 subst hm
 kernel_rfl
theorem aan {more:Bool} (hm:more=true) (ok:(zpT more).Ok β) (okX:(zpX more).Ok β) (okL:dH β (zpL more)) (u:Nat→Value):okR (S:=SQ β) jk zpP zpK zpm zpn (exec Tryz.prog (SQ β) (HTi β {} (bP β) (zpT more) ok (zpX more) okX (zpL more) okL) (zpC β) 1 (zfB jo) ⟨bD zpP u 0,zpK,zpF,5⟩)=true:=by
 subst hm
 kernel_rfl
end
section
variable {s:List UInt8} {j:Nat} {more:Bool}
theorem Jl {x:UInt8} (h:aN x=true):48≤x.toNat∧x.toNat≤57:=by simpa [aN] using h
theorem aak (hd:s.all aN=true) (h:more=decide (j<s.length)):(zpT more).Ok (zpB s j):=by
 by_cases hj:j<s.length
 ·obtain rfl:more=true:=by rw [h];exact decide_eq_true hj
  have hx:s.getD j 48=s[j]:=by simp [List.getD,List.getElem?_eq_getElem hj]
  obtain ⟨g1,g2⟩:=Jl (List.all_eq_true.1 hd _ (List.getElem_mem hj))
  rw [← hx] at g1 g2
  refine ⟨fun p hp x hx=>?_,fun p hp x y hx hy=>?_,fun p hp x y hx hy=>?_⟩
  ·obtain rfl:=List.mem_singleton.1 hp
   obtain rfl:x=((s.getD j 48).toNat:Int) - 48:=intCast_inj hx
   have hw:IntKind.i64.wrap (((s.getD j 48).toNat:Int) - 48)=((s.getD j 48).toNat:Int) - 48:=by rw [IntKind.wrap_i64];omega
   rw [hw]
   refine ⟨?_,rfl⟩
   generalize (s.getD j 48).toNat=y at g1 g2 ⊢
   simp only [inK,Bool.and_eq_true,decide_eq_true_eq];omega
  ·obtain rfl:=List.mem_singleton.1 hp
   obtain rfl:x=((s.getD j 48).toNat:Int):=intCast_inj hx
   obtain rfl:y=48:=intCast_inj hy
   refine ⟨((s.getD j 48).toNat:Int) - 48,?_,?_,rfl⟩
   ·show some (IntKind.u8.wrap (((s.getD j 48).toNat:Int) - 48))=_
    rw [IntKind.wrap_u8]
    exact congrArg some (by omega)
   ·generalize (s.getD j 48).toNat=y at g1 g2 ⊢
    simp only [inK,Bool.and_eq_true,decide_eq_true_eq];omega
  ·obtain rfl:=List.mem_singleton.1 hp
   obtain rfl:x=(s.length:Int):=intCast_inj hx
   obtain rfl:y=(j:Int):=intCast_inj hy
   exact decide_eq_true (by omega)
 ·obtain rfl:more=false:=by rw [h];exact decide_eq_false hj
  refine ⟨fun p h=>(by cases h),fun p h=>(by cases h),fun p hp x y hx hy=>?_⟩
  obtain rfl:=List.mem_singleton.1 hp
  obtain rfl:x=(s.length:Int):=intCast_inj hx
  obtain rfl:y=(j:Int):=intCast_inj hy
  exact decide_eq_false (by omega)
theorem aal (hl:s.length≤1000) (h:more=decide (j<s.length)):(zpX more).Ok (zpB s j):=by
 refine ⟨fun p hp=>?_,fun p h=>(by cases h),fun p hp=>?_,fun p h=>(by cases h),fun p h=>(by cases h),fun p h=>(by cases h),fun p h=>(by cases h)⟩
 ·obtain rfl:=List.mem_singleton.1 hp
  show (txt ((enc s:Nat):Rat)).length≤9223372036854775807∧((((txt ((enc s:Nat):Rat)).length:Nat):Int):Rat)=_
  rw [bI]
  exact ⟨by omega,rfl⟩
 ·by_cases hj:j<s.length
  ·obtain rfl:more=true:=by rw [h];exact decide_eq_true hj
   obtain rfl:=List.mem_singleton.1 hp
   refine ⟨j,s[j],rfl,?_,?_⟩
   ·show (txt ((enc s:Nat):Rat))[j]? = _
    rw [bI]
    exact List.getElem?_eq_getElem hj
   ·show _=(((s.getD j 48).toNat:Int):Rat)
    rw [show s.getD j 48=s[j] by simp [List.getD,List.getElem?_eq_getElem hj]]
  ·obtain rfl:more=false:=by rw [h];exact decide_eq_false hj
   cases hp
theorem aaj (hl:s.length≤1000) (h:more=decide (j<s.length)):dH (zpB s j) (zpL more):=by
 subst h
 intro p hp x hx
 by_cases hj:j<s.length
 ·rw [decide_eq_true hj] at hp
  obtain rfl:=List.mem_singleton.1 hp
  obtain rfl:x=(j:Int):=intCast_inj hx
  exact ⟨by omega,by omega,rfl⟩
 ·rw [decide_eq_false hj] at hp
  cases hp
theorem Iw (k:Nat):0<B64 ^ k:=Nat.pow_pos (by decide)
end
theorem aao {s:List UInt8} (hd:s.all aN=true) (hl:s.length≤1000) {w:World} (hE:EV w):Calls Tryz.prog 68 #[.string ⟨s.toArray⟩] w (Z4.iO w (dv s:Int)):=by
 have hc:jo.body=some ((zf0 jo).seq ((zf1 jo).seq (((zf2 jo).seq (.block 0 (.loop (zfB jo)))).seq (zfR jo)))):=by kernel_rfl
 have okT:∀ j,(zpT (decide (j<s.length))).Ok (zpB s j):=fun j=>aak hd rfl
 have okX:∀ j,(zpX (decide (j<s.length))).Ok (zpB s j):=fun j=>aal hl rfl
 have okL:∀ j,dH (zpB s j) (zpL (decide (j<s.length))):=fun j=>aaj hl rfl
 have hs:(List.map (SV.den (ev [⟨false,0,none,0,0,⟨s.toArray⟩,0,default⟩])) [.e (.s (.ot 0))]).toArray=#[.string ⟨s.toArray⟩]:=rfl
 rw [← hs]
 refine Uj (Sj:=fun j=>SQ (zpB s j)) (eqF:=fun _=>jk) (Hj:=fun j=>HTi (zpB s j) {} (bP _) (zpT (decide (j<s.length))) (okT j) (zpX (decide (j<s.length))) (okX j) (zpL (decide (j<s.length))) (okL j)) (cj:=fun j=>zpC (zpB s j)) (E:=EV) (n:=s.length) (fu:=1)
  (args:=[.e (.s (.ot 0))]) (fs0:=[.tx 0 (.v 0)]) (b:=1) (p:=zpP) (bx:=fun _=>zpK) (fs:=fun _=>zpF) (base:=5) (m0:=G5) (m1:=fun _=>zpm) (need0:=OI) (need:=fun _=>zpn) (R:=fun v fs=>vY (.v 3) v fs=true) (ρ:=ev [⟨false,0,none,0,0,⟨s.toArray⟩,0,default⟩])
  (fun _ _ _ h=>qp h) mixed (fun j=>OH) Tryz.func68 hc (GZ _ _ (okT 0) (okX 0) (okL 0)).1 (GZ _ _ (okT 0) (okX 0) (okL 0)).2.1 (fun j=>(GZ _ _ (okT j) (okX j) (okL j)).2.2) (fun j hj u=>aan _ (decide_eq_true hj) (okT j) (okX j) (okL j) u) (fun u=>TJ (aam _ (decide_eq_false (Nat.lt_irrefl _)) (okT _) (okX _) (okL _) u)) (fun _=>Nat.zero_le _) (aY hE) (fun f=>?_) (fun ρ W h=>?_) (fun j hj ρ W h=>?_) (fun v fs hv ρ' W' hb hfs=>?_)
 ·revert f
  show ∀ f∈[Fc.tx 0 (.v 0)],Fc.on (zpB s 0) (ev [⟨false,0,none,0,0,⟨s.toArray⟩,0,default⟩]) f w
  simp only [List.forall_mem_cons,List.not_mem_nil,false_imp_iff,implies_true,and_true]
  show (⟨s.toArray⟩:ByteArray)=⟨(txt ((enc s:Nat):Rat)).toArray⟩
  rw [bI]
 ·have g1:=h (Fc.tx 0 (.v 0)) (.head _)
  show ∀ f∈[Fc.tx 0 (.v 0),.z 1 (.v 3) 1001,.i 2 (.v 2)],Fc.on (zpB s 0) (dF G5 ρ) f W
  simp only [List.forall_mem_cons,List.not_mem_nil,false_imp_iff,implies_true,and_true]
  exact ⟨g1,⟨0,⟨none,0,0,[],rfl,Z4.IsL.nil 0 W,Z4.Dig.nil,fun h=>absurd rfl h,by simp [Z4.val]⟩,rfl,Iw 1001⟩,⟨(by decide:(-9223372036854775808:Int)≤0),(by decide:(0:Int)≤9223372036854775807),rfl⟩⟩
 ·have g1:=h (Fc.tx 0 (.v 0)) (.head _)
  obtain ⟨z,g2,g3,-⟩:Fc.on (zpB s j) ρ (.z 837 (.add (.mul (.v 3) (.c 10)) (.v 5)) 1003) W:=h _ (.tail _ (.head _))
  have g4:=h (Fc.i 1029 (.v 6)) (.tail _ (.tail _ (.head _)))
  obtain ⟨d1,d2,d3,-⟩:=Ju s j hj hd
  have hx:s.getD j 48=s[j]:=by simp [List.getD,List.getElem?_eq_getElem hj]
  have hz:z=(dv (s.take (j+1)):Int):=by
   apply intCast_inj
   rw [g3]
   show ((dv (s.take j):Int):Rat)*((10:Int):Rat)+((((s.getD j 48).toNat:Int) - 48:Int):Rat)=_
   rw [← Rat.intCast_mul,← Rat.intCast_add,d1,hx]
   congr 1
   omega
  subst hz
  show ∀ f∈[Fc.tx 0 (.v 0),.z 1 (.v 3) 1001,.i 2 (.v 2)],Fc.on (zpB s (j+1)) (dF zpm ρ) f W
  simp only [List.forall_mem_cons,List.not_mem_nil,false_imp_iff,implies_true,and_true]
  refine ⟨g1,⟨_,g2,rfl,?_⟩,g4⟩
  rw [Int.natAbs_natCast]
  have a0:(s.take (j+1)).length≤1000:=by rw [List.length_take];omega
  exact Nat.lt_trans (ku (s.take (j+1)) (List.all_eq_true.2 fun x hx=>List.all_eq_true.1 hd x (List.mem_of_mem_take hx))) (iJ (K:=1001) (Nat.lt_succ_of_le a0))
 ·obtain ⟨z,h1,h2⟩:=Vk hv hfs
  have hz:z=(dv s:Int):=by
   have:(z:Rat)=((dv (s.take s.length):Int):Rat):=h2
   rw [List.take_length] at this
   exact intCast_inj this
  subst hz
  exact ⟨_,rfl,h1,hb⟩
end Rx
namespace Rx
open Go.RowKit
section
variable (β:Nat→Rat) (h:Hint)
def CW (L:List (RE×RE×Bool)):Con (SQ β) where
 fn:=60
 app:=fun db b args=>match args with
  | [.e (.s (.ot s)),.e (.s (.st t))]=>if t.data.toList=[45] then (match fJ db s with
   | some e=>(L.find? fun p=>p.1.beq e).map fun p=>(.t [.s (.ot b),.s (.bl p.2.2)],[.tx b p.2.1])
   | none=>none) else none
  | _=>none
def CV (L:List (RE×UInt8×RE×RE×Bool)):Con (SQ β) where
 fn:=61
 app:=fun db b args=>match args with
  | [.e (.s (.ot s)),.e (.s (.st t))]=>match fJ db s with
   | some e=>(L.find? fun p=>p.1.beq e && decide (t.data.toList=[p.2.1])).map fun p=>(.t [.s (.ot b),.s (.ot (b+1)),.s (.bl p.2.2.2.2)],[.tx b p.2.2.1,.tx (b+1) p.2.2.2.1])
   | none=>none
  | _=>none
def nT (f:FuncId) (L:List (RE×Bool)):Con (SQ β) where
 fn:=f
 app:=fun db _ args=>match args with
  | [.e (.s (.ot s))]=>match fJ db s with
   | some e=>(L.find? fun p=>p.1.beq e).map fun p=>(.e (.s (.bl p.2)),[])
   | none=>none
  | _=>none
def Di (L:List (RE×RE×Nat)):Con (SQ β) where
 fn:=64
 app:=fun db b args=>match args with
  | [.e (.s (.ot s))]=>match fJ db s with
   | some e=>(L.find? fun p=>p.1.beq e).map fun p=>(.e (.a [.ou b,.os b]),[.q b p.2.1 p.2.2])
   | none=>none
  | _=>none
def Du (L:List (RE×RE×Nat)):Con (SQ β) where
 fn:=65
 app:=fun db b args=>match args with
  | [.e (.s (.oi s))]=>match jE db s with
   | some e=>(L.find? fun p=>p.1.beq e).map fun p=>(.e (.a [.ou b,.os b]),[.q b p.2.1 p.2.2])
   | none=>none
  | _=>none
def vJ (db:List Fc):List Cell→Option (RE×Nat)
 | [.ou a,.os b]=>if a=b then qy db a else none
 | [.it .u64 1,.nils]=>some (.c 1,1)
 | _=>none
def Dh:Con (SQ β) where
 fn:=50
 app:=fun db _ args=>match args with
  | [.e (.a x)]=>match vJ db x with
   | some (e,_)=>if nzB h e || je e then some (.e (.s (.bl false)),[]) else if eqB h e (.c 0) then some (.e (.s (.bl true)),[]) else none
   | none=>none
  | _=>none
def DK (N:List RE):Con (SQ β) where
 fn:=31
 app:=fun db b args=>match args with
  | [.e (.a (.bl t :: x)),.e (.a y)]=>match vJ db x,vJ db y with
   | some (e,k),some (e',k')=>if (nzB h e' || je e') && decide (k≤1048576) && decide (k'≤1048576) && (N.any fun r=>r.beq e) && (N.any fun r=>r.beq e') then some (.e (.a (aO b)),[.q b (if t then .div (.neg e) e' else .div e e') (k+k' + 1)]) else none
   | _,_=>none
  | _=>none
end
section
variable {β:Nat→Rat} {h:Hint} {db:List Fc} {ρ:Env} {W:World}
theorem NZ {t:ByteArray} {l:List UInt8} (h:t.data.toList=l):(Cell.st t).den ρ=.string ⟨l.toArray⟩:=by
 subst h
 simp only [Cell.den]
theorem QF {L:List (RE×RE×Bool)} (hL:∀ p∈L,Lib.trimPrefix (txt (p.1.ev β)) [45]=txt (p.2.1.ev β)∧Lib.hasPrefix (txt (p.1.ev β)) [45]=p.2.2):(CW β L).Ok Tryz.prog (SQ β) EV:=by
 refine Con.ok0 rfl ?_
 intro db b args res new ha ρ W hf hE
 simp only [CW] at ha
 split at ha
 ·rename_i s t
  split at ha
  ·rename_i ht
   split at ha
   ·rename_i e he
    obtain ⟨p,hp,hr⟩:=Option.map_eq_some_iff.1 ha
    cases hr
    have hs:=List.find?_some hp
    obtain ⟨l1,l2⟩:=hL p (List.mem_of_find?_eq_some hp)
    rw [RE.beq_eq hs] at l1 l2
    have hc:=D8 (txt (e.ev β)) W
    rw [l1,l2] at hc
    rw [show (List.map (SV.den ρ) [.e (.s (.ot s)),.e (.s (.st t))]).toArray=#[(Cell.ot s).den ρ,(Cell.st t).den ρ] from rfl,ji he hf,NZ ht]
    refine hc.mono fun _ W' ⟨hr,hb⟩=>⟨aH ρ b [⟨false,0,none,0,0,⟨(txt (p.2.1.ev β)).toArray⟩,0,default⟩],gI (by simp [M]),?_,hb,fun f hm=>?_⟩
    ·rw [hr];simp [SV.den,El.den,Cell.den,aH]
    ·obtain rfl:=List.mem_singleton.1 hm
     show (aH ρ b _ b).t=_
     simp [aH]
   ·cases ha
  ·cases ha
 ·cases ha
theorem QG {L:List (RE×UInt8×RE×RE×Bool)} (hL:∀ p∈L,(txt (p.1.ev β)).length≤1000000∧Lib.cut (txt (p.1.ev β)) [p.2.1]=(txt (p.2.2.1.ev β),txt (p.2.2.2.1.ev β),p.2.2.2.2)):(CV β L).Ok Tryz.prog (SQ β) EV:=by
 refine Con.ok0 rfl ?_
 intro db b args res new ha ρ W hf hE
 simp only [CV] at ha
 split at ha
 ·rename_i s t
  split at ha
  ·rename_i e he
   obtain ⟨p,hp,hr⟩:=Option.map_eq_some_iff.1 ha
   cases hr
   have hs:=List.find?_some hp
   simp only [Bool.and_eq_true,decide_eq_true_eq] at hs
   obtain ⟨l0,l1⟩:=hL p (List.mem_of_find?_eq_some hp)
   rw [RE.beq_eq hs.1] at l0 l1
   have hc:=yE (txt (e.ev β)) p.2.1 W l0 hE.max
   rw [l1] at hc
   rw [show (List.map (SV.den ρ) [.e (.s (.ot s)),.e (.s (.st t))]).toArray=#[(Cell.ot s).den ρ,(Cell.st t).den ρ] from rfl,ji he hf,NZ hs.2]
   refine hc.mono fun _ W' ⟨hr,hb⟩=>⟨aH ρ b [⟨false,0,none,0,0,⟨(txt (p.2.2.1.ev β)).toArray⟩,0,default⟩,⟨false,0,none,0,0,⟨(txt (p.2.2.2.1.ev β)).toArray⟩,0,default⟩],gI (by simp [M]),?_,hb,fun f hm=>?_⟩
   ·rw [hr];simp [SV.den,El.den,Cell.den,aH]
   ·rcases List.mem_cons.1 hm with rfl | hm
    ·show (aH ρ b _ b).t=_
     simp [aH]
    ·obtain rfl:=List.mem_singleton.1 hm
     show (aH ρ b _ (b+1)).t=_
     simp [aH]
  ·cases ha
 ·cases ha
theorem yh {f:FuncId} {L:List (RE×Bool)} (hL:∀ p∈L,∀ W,EV W→Calls Tryz.prog f #[.string ⟨(txt (p.1.ev β)).toArray⟩] W (aX W (.bool p.2))):(nT β f L).Ok Tryz.prog (SQ β) EV:=by
 refine Con.ok0 rfl ?_
 intro db b args res new ha ρ W hf hE
 simp only [nT] at ha
 split at ha
 ·rename_i s
  split at ha
  ·rename_i e he
   obtain ⟨p,hp,hr⟩:=Option.map_eq_some_iff.1 ha
   cases hr
   have hs:=List.find?_some hp
   have hc:=hL p (List.mem_of_find?_eq_some hp) W hE
   rw [RE.beq_eq hs] at hc
   rw [show (List.map (SV.den ρ) [.e (.s (.ot s))]).toArray=#[(Cell.ot s).den ρ] from rfl,ji he hf]
   exact lW hc rfl
  ·cases ha
 ·cases ha
theorem I5 {f:FuncId} {L:List (RE×Bool)} (hL:∀ p∈L,∀ W,Calls Tryz.prog f #[.string ⟨(txt (p.1.ev β)).toArray⟩] W (aX W (.bool p.2))):(nT β f L).Ok Tryz.prog (SQ β) EV:=yh fun p hp W _=>hL p hp W
theorem Iq {f:FuncId} {vals:Array Value} {b n:Nat} {e:RE} {k:Nat} (hc:Calls Tryz.prog f vals W (aW W n)) (hn:((n:Nat):Rat)=e.ev β) (h1:1≤k) (hk:n<B64 ^ k):Calls Tryz.prog f vals W (Ans β ρ b W (.e (.a [.ou b,.os b])) [.q b e k]):=by
 refine hc.mono fun _ W' ⟨c,d,hr,hm,hb⟩=>?_
 obtain ⟨x,p,l,q,rfl,rfl⟩:=hm.shape
 have h0:aH ρ b [⟨false,x,p,l,q,.empty,0,default⟩,⟨false,0,none,0,0,.empty,0,default⟩] b=⟨false,x,p,l,q,.empty,0,default⟩:=by simp [aH]
 have h2:aH ρ b [⟨false,x,p,l,q,.empty,0,default⟩,⟨false,0,none,0,0,.empty,0,default⟩] (b+1)=⟨false,0,none,0,0,.empty,0,default⟩:=by simp [aH]
 refine ⟨aH ρ b [⟨false,x,p,l,q,.empty,0,default⟩,⟨false,0,none,0,0,.empty,0,default⟩],gI (by simp [M]),?_,hb,fun g hg=>?_⟩
 ·rw [hr];simp [SV.den,El.den,Cell.den,h0]
 ·obtain rfl:=List.mem_singleton.1 hg
  have hz:((n:Int):Rat)=e.ev β:=hn
  have hq:=qG (w:=W') (n:Int) hm
  rw [decide_eq_false (show ¬ (n:Int)<0 by omega),hz] at hq
  refine ⟨by simpa [aO,Cell.den,h0,h2] using hq,?_⟩
  rw [← hz]
  exact ⟨by rw [Rat.num_intCast];exact hk,by rw [Rat.den_intCast];exact Nat.one_lt_pow (by omega) (by decide)⟩
theorem QM {L:List (RE×RE×Nat)} (hL:∀ p∈L,(txt (p.1.ev β)).all aN=true∧(txt (p.1.ev β)).length≤1000000∧((dv (txt (p.1.ev β)):Nat):Rat)=p.2.1.ev β∧1≤p.2.2∧dv (txt (p.1.ev β))<B64 ^ p.2.2):(Di β L).Ok Tryz.prog (SQ β) EV:=by
 refine Con.ok0 rfl ?_
 intro db b args res new ha ρ W hf hE
 simp only [Di] at ha
 split at ha
 ·rename_i s
  split at ha
  ·rename_i e he
   obtain ⟨p,hp,hr⟩:=Option.map_eq_some_iff.1 ha
   cases hr
   have hs:=List.find?_some hp
   obtain ⟨l1,l2,l3,l4,l5⟩:=hL p (List.mem_of_find?_eq_some hp)
   rw [RE.beq_eq hs] at l1 l2 l3 l5
   rw [show (List.map (SV.den ρ) [.e (.s (.ot s))]).toArray=#[(Cell.ot s).den ρ] from rfl,ji he hf]
   exact Iq (wH _ W l1 l2) l3 l4 l5
  ·cases ha
 ·cases ha
theorem QW {L:List (RE×RE×Nat)} (hL:∀ p∈L,∃ n:Nat,((n:Int):Rat)=p.1.ev β∧((10 ^ n:Nat):Rat)=p.2.1.ev β∧1≤p.2.2∧p.2.2≤17179869184∧10 ^ n<B64 ^ p.2.2):(Du β L).Ok Tryz.prog (SQ β) EV:=by
 refine Con.ok0 rfl ?_
 intro db b args res new ha ρ W hf hE
 simp only [Du] at ha
 split at ha
 ·rename_i s
  split at ha
  ·rename_i e he
   obtain ⟨p,hp,hr⟩:=Option.map_eq_some_iff.1 ha
   cases hr
   have hs:=List.find?_some hp
   obtain ⟨n,l1,l2,l3,l4,l5⟩:=hL p (List.mem_of_find?_eq_some hp)
   rw [RE.beq_eq hs] at l1
   obtain ⟨-,-,i3⟩:=(show Fc.on β ρ (.i s e) W from hf _ (iE he))
   have hn:=intCast_inj (i3.trans l1.symm)
   rw [show (List.map (SV.den ρ) [.e (.s (.oi s))]).toArray=#[.int .i64 (ρ s).u] from rfl,hn]
   exact Iq (FV n p.2.2 W l5 l4) l2 l3 l5
  ·cases ha
 ·cases ha
theorem BO {cs:List Cell} {e:RE} {k:Nat} (h:vJ db cs=some (e,k)) (hf:∀ f∈db,Fc.on β ρ f W):∃ c d:Value,cs.map (Cell.den ρ)=[c,d]∧ah W c d (e.ev β).num.natAbs∧Fits k (e.ev β):=by
 unfold vJ at h
 split at h
 ·rename_i a b
  split at h
  ·rename_i hab
   subst hab
   obtain ⟨h1,h2⟩:=(show Fc.on β ρ (.q a e k) W from hf _ (kF h))
   obtain ⟨t,x,p,l,q,y,p',s,u,hv,i,-,-⟩:=IsQ.shape h1
   have hv':=congrArg Array.toList (Value.agg.inj hv)
   simp only [aO,List.map_cons,List.map_nil,Cell.den,List.cons.injEq,Value.slice.injEq,Value.int.injEq,true_and,and_true] at hv'
   obtain ⟨-,rfl,⟨rfl,rfl,rfl⟩,-⟩:=hv'
   exact ⟨_,_,rfl,i,h2⟩
  ·cases h
 ·cases h
  exact ⟨_,_,rfl,oM W 1 (by decide),fits_int (n:=1) (by decide) (by decide)⟩
 ·cases h
theorem QL (ok:h.Ok β):(Dh β h).Ok Tryz.prog (SQ β) EV:=by
 refine Con.ok0 rfl ?_
 intro db b args res new ha ρ W hf hE
 simp only [Dh] at ha
 split at ha
 ·rename_i x
  split at ha
  ·rename_i e k hx
   obtain ⟨c,d,h1,h2,-⟩:=BO hx hf
   have hc:=dJ c d _ W h2
   rw [show (List.map (SV.den ρ) [.e (.a x)]).toArray=#[.agg #[c,d]] by simp only [List.map_cons,List.map_nil,SV.den,El.den,h1]]
   split at ha
   ·rename_i hn
    cases ha
    have hne:e.ev β≠0:=by
     rcases Bool.or_eq_true _ _ ▸ hn with h | h
     ·exact jd ok h
     ·exact qX h
    have:((e.ev β).num.natAbs == 0)=false:=by
     rw [beq_eq_false_iff_ne]
     intro h0
     exact hne (Rat.num_eq_zero.1 (by omega))
    rw [this] at hc
    exact lW hc rfl
   ·split at ha
    ·rename_i hz
     cases ha
     have h0:e.ev β=0:=(kD ok hz).trans rfl
     rw [h0] at hc
     exact lW hc rfl
    ·cases ha
  ·cases ha
 ·cases ha
theorem Rf (ok:h.Ok β) {N:List RE} (hN:∀ e∈N,∃ n:Nat,((n:Nat):Rat)=e.ev β):(DK β h N).Ok Tryz.prog (SQ β) EV:=by
 have nat:∀ {e:RE} {n:Nat},((n:Nat):Rat)=e.ev β→(e.ev β).num.natAbs=n:=fun {e n} h=>by
  rw [← h,show ((n:Nat):Rat)=(((n:Int)):Rat) from rfl,Rat.num_intCast,Int.natAbs_natCast]
 have inN:∀ e:RE,(N.any fun r=>r.beq e)=true→∃ n:Nat,((n:Nat):Rat)=e.ev β:=fun e h=>by
  obtain ⟨r,hr,hb⟩:=List.any_eq_true.1 h
  rw [← RE.beq_eq hb]
  exact hN r hr
 refine Con.ok0 rfl ?_
 intro db b args res new ha ρ W hf hE
 simp only [DK] at ha
 split at ha
 ·rename_i t x y
  split at ha
  ·rename_i e k e' k' hx hy
   split at ha
   ·rename_i hh
    simp only [Bool.and_eq_true,decide_eq_true_eq,Bool.or_eq_true] at hh
    obtain ⟨⟨⟨⟨q1,q2⟩,q3⟩,q4⟩,q5⟩:=hh
    cases ha
    obtain ⟨c,d,h1,h2,h3⟩:=BO hx hf
    obtain ⟨c',d',g1,g2,g3⟩:=BO hy hf
    have hne:e'.ev β≠0:=by
     rcases q1 with h | h
     ·exact jd ok h
     ·exact qX h
    obtain ⟨n,hn⟩:=inN e q4
    obtain ⟨m,hm⟩:=inN e' q5
    rw [nat hn] at h2
    rw [nat hm] at g2
    have a1:=Nat.pow_le_pow_right (show 0<B64 by decide) (Nat.le_max_left k k')
    have a2:=Nat.pow_le_pow_right (show 0<B64 by decide) (Nat.le_max_right k k')
    have b1:=h3.1
    have b2:=g3.1
    rw [nat hn] at b1
    rw [nat hm] at b2
    have hm0:m≠0:=fun h0=>hne (by rw [← hm,h0];rfl)
    have hc:=F9 t c d c' d' n m (max k k') W h2 g2 hm0 (by omega) (by omega) (by omega) hE.tz
    have hv:mkRat (zs t n) m=(if t then RE.div (.neg e) e' else .div e e').ev β:=by
     rw [show mkRat (zs t n) m=((zs t n:Int):Rat) / (((m:Int)):Rat) by rw [← Rat.divInt_eq_div,← Rat.divInt_ofNat]]
     cases t
     ·show ((n:Int):Rat) / ((m:Int):Rat)=e.ev β / e'.ev β
      rw [← hn,← hm];rfl
     ·show ((-(n:Int):Int):Rat) / ((m:Int):Rat) = -e.ev β / e'.ev β
      rw [← hn,← hm,Rat.intCast_neg];rfl
    have hf':Fits (k+k' + 1) ((if t then RE.div (.neg e) e' else .div e e').ev β):=by
     cases t
     ·exact h3.over g3
     ·exact h3.neg.over g3
    rw [hv] at hc
    rw [show (List.map (SV.den ρ) [.e (.a (.bl t :: x)),.e (.a y)]).toArray=#[.agg #[.bool t,c,d],.agg #[c',d']] by simp only [List.map_cons,List.map_nil,SV.den,El.den,h1,g1];rfl]
    exact vH hc hf'
   ·cases ha
  ·cases ha
 ·cases ha
end
end Rx
namespace Rx
open Go.RowKit
def vX (n:Int) (e:RE):Option (SV×List Fc)→Bool
 | some (.t [.a cs,.s (.it .i64 m)],fs)=>match fF fs cs with
  | some (e',_)=>e'.beq e && n == m
  | none=>false
 | _=>false
theorem U6 {n:Int} {e:RE} {o:Option (SV×List Fc)} (h:vX n e o=true):∃ cs fs k,o=some (.t [.a cs,.s (.it .i64 n)],fs)∧fF fs cs=some (e,k):=by
 unfold vX at h
 split at h
 ·split at h
  ·rename_i cs m fs _ e' k ha
   simp only [Bool.and_eq_true,beq_iff_eq] at h
   exact ⟨cs,fs,k,by rw [h.2],by rw [ha,RE.beq_eq h.1]⟩
  ·cases h
 ·cases h
theorem Nq {β:Nat→Rat} {H:Tests (SQ β)} {cons:List (Con (SQ β))} {fuel:Nat} {f:FuncId} {args:List SV} {fs:List Fc} {b:Nat} {ρ:Env} {w:World} {n:Int} {e:RE} (hc:∀ c∈cons,c.Ok Tryz.prog (SQ β) EV) (hr:vX n e (bg Tryz.prog (SQ β) H cons fuel f args fs b)=true) (hE:EV w) (hf:∀ g∈fs,Fc.on β ρ g w):Calls Tryz.prog f (args.map (SV.den ρ)).toArray w (dS w (e.ev β) n):=by
 obtain ⟨cs,fs',k,heq,ha⟩:=U6 hr
 exact (iw mixed hc heq (aY hE) hf).mono fun x W' ⟨ρ',_,hx,hb,hfs⟩=>⟨_,hx,(iC ha hfs).1.1,hb⟩
structure PrK where
 κ:Nat
 neg:Bool
 t:Bool
 u:Bool
 dz:Bool
 z:Bool
def PrK.tp (K:PrK):RE:=if K.κ=2 then .v 1 else .v 2
def PrK.sz (K:PrK):RE:=if K.κ=1 then .v 9 else .v 6
def PrK.dn (K:PrK):RE:=if K.κ=0 then .v 7 else if K.κ=1 then .v 10 else .c 1
def prT (big:Bool):Ari:={ gt:=[(.v 4,.c 1000,big)] }
def prX:Txt:={ len:=[(.v 0,.v 4),(.v 3,.v 5)],cat:=[(.v 2,.v 3,.v 8)] }
def PrK.h (K:PrK):Hint where
 eq:=(if K.κ=0 && K.dz then [(.v 7,.c 0)] else []) ++ if K.z then [(K.sz,.c 0)] else []
 nz:=(if K.κ=0 && !K.dz then [.v 7] else []) ++ (if K.z then [] else [K.sz]) ++ if K.κ=1 then [.v 10] else []
def PrK.cuts (K:PrK):List (RE×UInt8×RE×RE×Bool):=
 if K.κ=0 then [(.v 1,47,.v 2,.v 3,true)] else if K.κ=1 then [(.v 1,47,.v 1,.v 11,false),(.v 1,46,.v 2,.v 3,true)] else [(.v 1,47,.v 1,.v 11,false),(.v 1,46,.v 1,.v 11,false)]
def PrK.ints (K:PrK):List (RE×Bool):=(K.tp,K.t) :: if K.κ=0 then [(.v 3,K.u)] else []
def PrK.aK (K:PrK):List (RE×Bool):=if K.κ=1 then [(.v 3,K.u)] else []
def PrK.mags (K:PrK):List (RE×RE×Nat):=(if K.t then [(K.tp,.v 6,1001)] else []) ++ (if K.κ=0 && K.u then [(.v 3,.v 7,1001)] else []) ++ if K.κ=1 && K.t && K.u then [(.v 8,.v 9,1001)] else []
def PrK.pows (K:PrK):List (RE×RE×Nat):=if K.κ=1 then [(.v 5,.v 10,1001)] else []
def prN:List RE:=[.v 6,.v 7,.v 9,.v 10,.c 1]
def prC (β:Nat→Rat) (K:PrK):List (Con (SQ β)):=
 [CW β [(.v 0,.v 1,K.neg)],CV β K.cuts,nT β 62 K.ints,nT β 63 K.aK,Di β K.mags,Du β K.pows,Dh β K.h,DK β K.h prN]
def PrK.res (K:PrK):Int×RE:=
 if !K.t || (decide (K.κ≤1) && !K.u) then (4,.c 0) else if decide (K.κ=0) && K.dz then (9,.c 0) else (0,if K.neg && !K.z then .div (.neg K.sz) K.dn else .div K.sz K.dn)
theorem XK (β:Nat→Rat) (okT:(prT true).Ok β) (okX:prX.Ok β):vX 5 (.c 0) (bg Tryz.prog (SQ β) (HTx β {} (bP β) (prT true) okT prX okX) [] 1 28 [.e (.s (.ot 0))] [.tx 0 (.v 0)] 1)=true:=by kernel_rfl
theorem XL (β:Nat→Rat) (okT:(prT false).Ok β) (okX:prX.Ok β) (κ:Nat) (hκ:κ<3) (neg t u dz z:Bool):vX (PrK.res ⟨κ,neg,t,u,dz,z⟩).1 (PrK.res ⟨κ,neg,t,u,dz,z⟩).2 (bg Tryz.prog (SQ β) (HTx β {} (bP β) (prT false) okT prX okX) (prC β ⟨κ,neg,t,u,dz,z⟩) 1 28 [.e (.s (.ot 0))] [.tx 0 (.v 0)] 1)=true:=by
 rcases (show κ=0∨κ=1∨κ=2 by omega) with rfl | rfl | rfl <;> cases neg <;> cases t <;> cases u <;> cases dz <;> cases z <;> kernel_rfl
end Rx
end Go.Proofs.YtancpaiaoamjlaaGreatDoor
