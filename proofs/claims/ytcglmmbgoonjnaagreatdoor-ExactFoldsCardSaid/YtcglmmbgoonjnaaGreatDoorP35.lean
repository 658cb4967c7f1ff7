/- What the proof rests on, part 35. -/
import Derived.Test.YtcglmmbgoonjnaaGreatDoorP15
import Derived.Test.YtcglmmbgoonjnaaGreatDoorP34
namespace Go.Proofs.YtcglmmbgoonjnaaGreatDoor
set_option maxRecDepth 100000
set_option maxHeartbeats 80000000
namespace Rx
open Go.RowKit
def Cell.eqB:Cell→Cell→Bool
 | .bl a,.bl b=>a == b
 | .it k n,.it k' n'=>decide (k=k') && decide (n=n')
 | .st s,.st t=>decide (s=t)
 | .nils,.nils=>true
 | .ob a,.ob b | .ou a,.ou b | .oi a,.oi b | .o8 a,.o8 b | .os a,.os b | .ot a,.ot b=>a == b
 | .ptr k o,.ptr k' o' | .elp k o,.elp k' o'=>k == k' && o == o'
 | .elv n i z,.elv n' i' z'=>n == n' && i == i' && z == z'
 | _,_=>false
theorem Cell.eqB_eq {a b:Cell} (h:a.eqB b=true):a=b:=by
 cases a <;> cases b <;> simp_all [Cell.eqB]
def Cell.fit (m:Nat→Option Nat):Cell→Option Cell
 | .ob n=>some (match m n with | some k=>.ob k | none=>.bl false)
 | .ou n=>some (match m n with | some k=>.ou k | none=>.it .u64 0)
 | .oi n=>some (match m n with | some k=>.oi k | none=>.it .i64 0)
 | .os n=>some (match m n with | some k=>.os k | none=>.nils)
 | .ptr n o=>(m n).map fun k=>.ptr k o
 | .bl b=>some (.bl b)
 | .it k n=>some (.it k n)
 | .nils=>some .nils
 | _=>none
def fZ (m:Nat→Option Nat) (ρ:Env):Env:=fun n=>match m n with
 | some k=>ρ k
 | none=>⟨false,0,none,0,0,.empty,0⟩
theorem Nu {m:Nat→Option Nat} (ρ:Env) {c d:Cell} (h:c.fit m=some d):d.den ρ=c.den (fZ m ρ):=by
 cases c with
 | ob n | ou n | oi n | os n =>
  simp only [Cell.fit,Option.some.injEq] at h
  subst h
  simp only [Cell.den,fZ]
  cases m n <;> rfl
 | ptr n o =>
  simp only [Cell.fit,Option.map_eq_some_iff] at h
  obtain ⟨k,h1,rfl⟩:=h
  simp only [Cell.den,fZ,h1]
 | bl b=>cases h;rfl
 | it k n=>cases h;rfl
 | nils=>cases h;rfl
 | st _=>cases h
 | o8 _=>cases h
 | ot _=>cases h
 | elp _ _=>cases h
 | elv _ _ _=>cases h
def uN (m:Nat→Option Nat) (c d:Cell):Bool:=match c.fit m with
 | some e=>e.eqB d
 | none=>false
theorem Eo {m:Nat→Option Nat} (ρ:Env) {c d:Cell} (h:uN m c d=true):d.den ρ=c.den (fZ m ρ):=by
 unfold uN at h
 split at h
 ·rename_i e he
  rw [← Cell.eqB_eq h]
  exact Nu ρ he
 ·cases h
def nG (m:Nat→Option Nat):List Cell→List Cell→Bool
 | [],[]=>true
 | a :: r,b :: s=>uN m a b && nG m r s
 | _,_=>false
theorem Ep {m:Nat→Option Nat} (ρ:Env):∀ {a b:List Cell},nG m a b=true→b.map (Cell.den ρ)=a.map (Cell.den (fZ m ρ))
 | [],[],_=>rfl
 | a :: r,b :: s,h=>by
  simp only [nG,Bool.and_eq_true] at h
  simp only [List.map_cons]
  rw [Eo ρ h.1,Ep ρ h.2]
 | [],_ :: _,h=>by simp [nG] at h
 | _ :: _,[],h=>by simp [nG] at h
abbrev Pat:=List (Option Cell)
def bH:Pat→(Nat→Value)→Nat→List SV
 | [],_,_=>[]
 | none :: p,u,i=>.o (u i) :: bH p u (i+1)
 | some c :: p,u,i=>.e (.s c) :: bH p u (i+1)
def dB (m:Nat→Option Nat):Pat→List SV→Bool
 | [],[]=>true
 | none :: p,_ :: r=>dB m p r
 | some c :: p,.e (.s d) :: r=>uN m c d && dB m p r
 | _,_=>false
def bxB (m:Nat→Option Nat) (bx0 bx:List (Nat×TypeId×List Cell)):Bool:=
 bx0.all fun x=>(match m x.1 with
  | some k=>(match lk bx k with
   | some (T,cs)=>decide (T=x.2.1) && nG m x.2.2 cs && bx0.all fun y=>x.1 == y.1 || !(decide (m y.1=some k))
   | none=>false)
  | none=>false)
theorem qX:∀ (p:Pat) (u:Nat→Value) (i:Nat),(bH p u i).length=p.length
 | [],_,_=>rfl
 | none :: p,u,i=>by simp [bH,qX p u]
 | some c :: p,u,i=>by simp [bH,qX p u]
theorem qg {m:Nat→Option Nat}:∀ {p:Pat} {r:List SV},dB m p r=true→p.length=r.length
 | [],[],_=>rfl
 | none :: p,_ :: r,h=>by simp only [List.length_cons];rw [qg (p:=p) (r:=r) h]
 | some c :: p,.e (.s d) :: r,h=>by
  simp only [dB,Bool.and_eq_true] at h
  simp only [List.length_cons]
  rw [qg h.2]
 | [],_ :: _,h=>by simp [dB] at h
 | none :: _,[],h=>by simp [dB] at h
 | some _ :: _,[],h=>by simp [dB] at h
 | some _ :: _,.t _ :: _,h=>by simp [dB] at h
 | some _ :: _,.und :: _,h=>by simp [dB] at h
 | some _ :: _,.o _ :: _,h=>by simp [dB] at h
 | some _ :: _,.e (.a _) :: _,h=>by simp [dB] at h
theorem AQ {m:Nat→Option Nat} {ρ:Env} {u:Nat→Value}:∀ {p:Pat} {r:List SV} {i:Nat},dB m p r=true→(∀ t,u (i+t)=(r.getD t .und).den ρ)→∀ t,u (i+t)=((bH p u i).getD t .und).den (fZ m ρ)
 | [],[],i,_,hu,t=>by simpa [bH,SV.den] using hu t
 | none :: p,x :: r,i,h,hu,t=>by
  cases t with
  | zero=>rfl
  | succ t =>
   have:=AQ (p:=p) (r:=r) (i:=i+1) h (fun t=>by have:=hu (t+1);rwa [show i+(t+1)=i+1+t by omega] at this) t
   rw [show i+(t+1)=i+1+t by omega]
   exact this
 | some c :: p,.e (.s d) :: r,i,h,hu,t=>by
  simp only [dB,Bool.and_eq_true] at h
  cases t with
  | zero =>
   exact (hu 0).trans (Eo ρ h.1)
  | succ t =>
   have:=AQ (p:=p) (r:=r) (i:=i+1) h.2 (fun t=>by have:=hu (t+1);rwa [show i+(t+1)=i+1+t by omega] at this) t
   rw [show i+(t+1)=i+1+t by omega]
   exact this
 | [],_ :: _,_,h,_,_=>by simp [dB] at h
 | none :: _,[],_,h,_,_=>by simp [dB] at h
 | some _ :: _,[],_,h,_,_=>by simp [dB] at h
 | some _ :: _,.t _ :: _,_,h,_,_=>by simp [dB] at h
 | some _ :: _,.und :: _,_,h,_,_=>by simp [dB] at h
 | some _ :: _,.o _ :: _,_,h,_,_=>by simp [dB] at h
 | some _ :: _,.e (.a _) :: _,_,h,_,_=>by simp [dB] at h
theorem vG {k:Nat} {x:TypeId×List Cell}:∀ {bx:List (Nat×TypeId×List Cell)},lk bx k=some x→(k,x)∈bx
 | [],h=>by simp [lk] at h
 | (k',y) :: r,h=>by
  simp only [lk] at h
  split at h
  ·rename_i e;cases h;subst e;simp
  ·exact List.mem_cons_of_mem _ (vG h)
theorem rJ {S S':Sys} {σ:State S} {p:Pat} {bx0:List (Nat×TypeId×List Cell)} {fs:List S'.F} {base:Nat} {m:Nat→Option Nat} {w0 W:World} {ρ:Env} {a:Act} (hp:dB m p σ.regs=true) (hb:bxB m bx0 σ.bx=true)
  (hs:σ.Says w0 ρ a W) (hf:∀ f∈fs,S'.on (fZ m ρ) f W):State.Says (S:=S') ⟨bH p (fun t=>a.tmps.getD t undef) 0,bx0,fs,base⟩ w0 (fZ m ρ) a W:=by
 have hb':∀ k T cs,lk bx0 k=some (T,cs)→∃ j cs',m k=some j∧lk σ.bx j=some (T,cs')∧nG m cs cs' = true∧∀ k' x',lk bx0 k' = some x'→k≠k'→m k'≠some j:=fun k T cs h=>by
  have h1:=List.all_eq_true.1 hb _ (vG h)
  split at h1
  ·rename_i j hj
   split at h1
   ·rename_i T' cs' hl
    simp only [Bool.and_eq_true,decide_eq_true_eq] at h1
    refine ⟨j,cs',hj,by rw [hl,h1.1.1],h1.1.2,fun k' x' h' hne he=>?_⟩
    have h2:=List.all_eq_true.1 h1.2 _ (vG h')
    simp [hne,he] at h2
   ·cases h1
  ·cases h1
 refine ⟨?_,hs.df,fun t=>?_,hs.bel,fun k T cs h=>?_,fun k k' x x' h h' hne=>?_,hf⟩
 ·rw [hs.sz,← qg hp];exact (qX _ _ _).symm
 ·have:=AQ (u:=fun t=>a.tmps.getD t undef) (i:=0) hp (fun t=>by rw [Nat.zero_add];exact hs.rg t) t
  rwa [Nat.zero_add] at this
 ·obtain ⟨j,cs',hj,hl,hft,-⟩:=hb' k T cs h
  obtain ⟨h1,h2⟩:=hs.bx _ _ _ hl
  rw [Ep ρ hft] at h2
  simp only [fZ,hj] at h2 ⊢
  exact ⟨h1,h2⟩
 ·obtain ⟨j,cs,hj,hl,-,hne'⟩:=hb' k x.1 x.2 h
  obtain ⟨j',cs',hj',hl',-,-⟩:=hb' k' x'.1 x'.2 h'
  have:=hs.inj _ _ _ _ hl hl' (fun e=>hne' k' x' h' hne (by rw [hj',e]))
  simpa only [fZ,hj,hj'] using this
def okR {S:Sys} (eqF:S.F→S.F→Bool) (p:Pat) (bx:List (Nat×TypeId×List Cell)) (m:Nat→Option Nat) (need:List S.F):Option (Ex×State S)→Bool
 | some (.normal,σ)=>dB m p σ.regs && bxB m bx σ.bx && need.all fun f=>σ.fs.any (eqF f)
 | _=>false
theorem ru {S:Sys} {eqF:S.F→S.F→Bool} (hq:∀ a b,eqF a b=true→a=b) {p:Pat} {bx:List (Nat×TypeId×List Cell)} {m:Nat→Option Nat} {need:List S.F} {o:Option (Ex×State S)} (h:okR eqF p bx m need o=true) :
  ∃ σ,o=some (.normal,σ)∧dB m p σ.regs=true∧bxB m bx σ.bx=true∧∀ f∈need,f∈σ.fs:=by
 unfold okR at h
 split at h
 ·rename_i σ
  simp only [Bool.and_eq_true,List.all_eq_true] at h
  refine ⟨σ,rfl,h.1.1,h.1.2,fun f hf=>?_⟩
  obtain ⟨g,hg,he⟩:=List.any_eq_true.1 (h.2 f hf)
  rw [hq f g he]
  exact hg
 ·cases h
def wfB (S:Sys) (p:Pat) (bx:List (Nat×TypeId×List Cell)) (fs:List S.F) (base:Nat):Bool:=
 p.all (fun o=>match o with
  | some c=>c.nm.all (· < base)
  | none=>true) && bx.all (fun x=>decide (x.1<base) && (x.2.2.flatMap Cell.nm).all (· < base)) && fs.all fun f=>(S.nm f).all (· < base)
theorem Ae {n:Nat}:∀ {p:Pat} {u:Nat→Value} {i t:Nat},n∈((bH p u i).getD t .und).nm→∃ c,some c∈p∧n∈c.nm
 | [],u,i,t,h=>by simp [bH,SV.nm] at h
 | none :: p,u,i,0,h=>by simp [bH,SV.nm] at h
 | none :: p,u,i,t+1,h=>by
  obtain ⟨c,h1,h2⟩:=Ae (p:=p) (u:=u) (i:=i+1) (t:=t) h
  exact ⟨c,by simp [h1],h2⟩
 | some c :: p,u,i,0,h=>⟨c,by simp,by simpa [bH,SV.nm,El.cells] using h⟩
 | some c :: p,u,i,t+1,h=>by
  obtain ⟨c',h1,h2⟩:=Ae (p:=p) (u:=u) (i:=i+1) (t:=t) h
  exact ⟨c',by simp [h1],h2⟩
theorem rU {S:Sys} {p:Pat} {bx:List (Nat×TypeId×List Cell)} {fs:List S.F} {base:Nat} (h:wfB S p bx fs base=true) (u:Nat→Value):Wf (S:=S) ⟨bH p u 0,bx,fs,base⟩:=by
 unfold wfB at h
 simp only [Bool.and_eq_true,List.all_eq_true,decide_eq_true_eq] at h
 refine ⟨fun t n hn=>?_,fun k T cs hk=>h.1.2 _ (vG hk),fun f hf n hn=>h.2 f hf n hn⟩
 obtain ⟨c,h1,h2⟩:=Ae hn
 exact of_decide_eq_true (List.all_eq_true.1 (h.1.1 _ h1) n h2)
section
variable (P:Program) (S:Sys) (H:Tests S) (cons:List (Con S))
def lN:List Code→State S→Option (Ex×State S)
 | [],σ=>some (.normal,σ)
 | c :: r,σ=>match exec P S H cons 1 c σ with
  | some (.normal,σ')=>lN r σ'
  | _=>none
def oV (B rest:Code) (fn:Func) (σ:State S):Option (SV×List S.F):=match exec P S H cons 1 B σ with
 | some (.exit 0,σ1)=>match exec P S H cons 1 rest σ1 with
  | some (.ret,σ2)=>match resL P S σ2 fn.results.toList with
   | some l=>some (packR l,σ2.fs)
   | none=>none
  | _=>none
 | _=>none
end
section
variable {P:Program} {Sj:Nat→Sys} {eqF:∀ j,(Sj j).F→(Sj j).F→Bool} {Hj:∀ j,Tests (Sj j)} {cj:∀ j,List (Con (Sj j))} {E:World→Prop}
theorem EK (hq:∀ j a b,eqF j a b=true→a=b) (hm:P.follows .mixedOrders=true) (hcons:∀ j,∀ c∈cj j,c.Ok P (Sj j) E) {fn:Func} {B rest:Code} {n:Nat} {p:Pat} {bx:Nat→List (Nat×TypeId×List Cell)} {fs:∀ j,List (Sj j).F} {base:Nat} {m1:Nat→Nat→Option Nat} {need:∀ j,List (Sj j).F}
  (hwf:∀ j,wfB (Sj j) p (bx j) (fs j) base=true) (hrd:∀ j,j<n→∀ u,okR (eqF j) p (bx (j+1)) (m1 j) (need j) (exec P (Sj j) (Hj j) (cj j) 1 B ⟨bH p u 0,bx j,fs j,base⟩)=true)
  {R:SV→List (Sj n).F→Prop} (hen:∀ u,∃ v fsE,oV P (Sj n) (Hj n) (cj n) B rest fn ⟨bH p u 0,bx n,fs n,base⟩=some (v,fsE)∧R v fsE)
  {w:World} (hlo:∀ j,(Sj j).lo≤w.heap.size) (hE:∀ W,Below w.heap.size w W→E W) (h1:∀ j,j<n→∀ ρ W,(∀ f∈need j,(Sj j).on ρ f W)→∀ f∈fs (j+1),(Sj (j+1)).on (fZ (m1 j) ρ) f W)
  {Q:Ending→World→Prop} (hQ:∀ v fsE,R v fsE→∀ ρ' W',Below w.heap.size w W'→(∀ f∈fsE,(Sj n).on ρ' f W')→Q (.returned (v.den ρ')) W') :
  ∀ d j,j+d=n→∀ u ρ a W,State.Says (S:=Sj j) ⟨bH p u 0,bx j,fs j,base⟩ w ρ a W→Code.rounds P B (Exit.inBlock 0 (Exit.then (rest.wp P (bodyPost P fn Q)) (bodyPost P fn Q))) (d+1) a W
 | 0,j,hj,u,ρ,a,W,hs=>by
  obtain rfl:j=n:=by omega
  rw [rounds_succ]
  obtain ⟨v,fsE,he,hR⟩:=hen u
  unfold oV at he
  split at he
  ·rename_i σ1 hx1
   split at he
   ·rename_i σ2 hx2
    split at he
    ·rename_i l hl
     simp only [Option.some.injEq,Prod.mk.injEq] at he
     obtain ⟨hv,hfs⟩:=he
     obtain ⟨wf1,-,go1⟩:=exec_good (w0:=w) (hlo j) hm (hcons j) hE B _ _ _ hx1 (rU (hwf j) u)
     obtain ⟨-,-,go2⟩:=exec_good (w0:=w) (hlo j) hm (hcons j) hE rest _ _ _ hx2 wf1
     refine go1 ρ a W _ hs fun ρ1 a1 W1 _ s1=>?_
     show rest.wp P (bodyPost P fn Q) a1 W1
     refine go2 ρ1 a1 W1 _ s1 fun ρ2 a2 W2 _ s2=>?_
     have hr:=results_ok s2 hl
     rw [hv] at hr
     exact bodyPost_ret hr s2.df (hQ v fsE hR ρ2 W2 s2.bel (by rw [← hfs];exact s2.fc))
    ·cases he
   ·cases he
  ·cases he
 | d+1,j,hj,u,ρ,a,W,hs=>by
  rw [rounds_succ]
  obtain ⟨σ1,hx,hp,hb,hn⟩:=ru (hq j) (hrd j (by omega) u)
  obtain ⟨-,-,go⟩:=exec_good (w0:=w) (hlo j) hm (hcons j) hE B _ _ _ hx (rU (hwf j) u)
  refine go ρ a W _ hs fun ρ1 a1 W1 _ s1=>?_
  exact EK hq hm hcons hwf hrd hen hlo hE h1 hQ d (j+1) (by omega) _ _ _ _ (rJ hp hb s1 (h1 j (by omega) ρ1 W1 fun f hf=>s1.fc f (hn f hf)))
theorem G5 {S:Sys} {args:List SV} {fs:List S.F} {b N:Nat} {ρ:Env} {w:World} (hf:∀ f∈fs,S.on ρ f w) :
  State.Says (S:=S) ⟨args ++ List.replicate (N - args.length) .und,[],fs,b⟩ w ρ { tmps:=(args.map (SV.den ρ)).toArray ++ Array.replicate (N - (args.map (SV.den ρ)).toArray.size) undef,defers:=[] } w:=by
 refine ⟨by simp,rfl,fun t=>?_,Below.refl _ _,fun k T cs h=>by simp [lk] at h,fun k k' x x' h=>by simp [lk] at h,hf⟩
 simp only [List.getD,Array.getD_eq_getD_getElem?,Array.getElem?_append,List.getElem?_toArray,List.getElem?_append,List.getElem?_map,List.size_toArray,List.length_map,Array.getElem?_replicate,List.getElem?_replicate]
 split
 ·rename_i ht
  simp [List.getElem?_eq_getElem ht]
 ·split <;> rfl
theorem Ir {S:Sys} {args:List SV} {fs:List S.F} {b N:Nat} (hok:okIn S args fs b=true):Wf (S:=S) ⟨args ++ List.replicate (N - args.length) .und,[],fs,b⟩:=by
 unfold okIn at hok
 simp only [Bool.and_eq_true,List.all_eq_true,decide_eq_true_eq] at hok
 refine ⟨fun t n hn=>?_,fun k T cs h=>by simp [lk] at h,fun f hf n hn=>hok.2 f hf n hn⟩
 simp only [List.getD] at hn
 rcases Nat.lt_or_ge t args.length with ht | ht
 ·rw [List.getElem?_append_left ht,List.getElem?_eq_getElem ht,Option.getD_some] at hn
  exact hok.1 _ (List.getElem_mem ht) n hn
 ·rw [List.getElem?_append_right ht] at hn
  cases hg:(List.replicate (N - args.length) SV.und)[t - args.length]? with
  | none=>rw [hg] at hn;simp [SV.nm] at hn
  | some x =>
   rw [hg,Option.getD_some] at hn
   have:=List.eq_of_mem_replicate (List.mem_of_getElem? hg)
   subst this
   simp [SV.nm] at hn
theorem NK (hq:∀ j a b,eqF j a b=true→a=b) (hm:P.follows .mixedOrders=true) (hcons:∀ j,∀ c∈cj j,c.Ok P (Sj j) E) {f:FuncId} {fn:Func} {c0 c1 c2 B rest:Code} {n:Nat} (hfn:P.funcs[f]? = some fn) (hc:fn.body=some (c0.seq (c1.seq ((c2.seq (.block 0 (.loop B))).seq rest))))
  {args:List SV} {fs0:List (Sj 0).F} {b:Nat} (hok:okIn (Sj 0) args fs0 b=true)
  {p:Pat} {bx:Nat→List (Nat×TypeId×List Cell)} {fs:∀ j,List (Sj j).F} {base:Nat} {m0:Nat→Option Nat} {m1:Nat→Nat→Option Nat} {need0:List (Sj 0).F} {need:∀ j,List (Sj j).F}
  (hst:okR (eqF 0) p (bx 0) m0 need0 (lN P (Sj 0) (Hj 0) (cj 0) [c0,c1,c2] ⟨args ++ List.replicate (fn.ntmps - args.length) .und,[],fs0,b⟩)=true)
  (hwf:∀ j,wfB (Sj j) p (bx j) (fs j) base=true) (hrd:∀ j,j<n→∀ u,okR (eqF j) p (bx (j+1)) (m1 j) (need j) (exec P (Sj j) (Hj j) (cj j) 1 B ⟨bH p u 0,bx j,fs j,base⟩)=true)
  {R:SV→List (Sj n).F→Prop} (hen:∀ u,∃ v fsE,oV P (Sj n) (Hj n) (cj n) B rest fn ⟨bH p u 0,bx n,fs n,base⟩=some (v,fsE)∧R v fsE)
  {ρ:Env} {w:World} (hlo:∀ j,(Sj j).lo≤w.heap.size) (hE:∀ W,Below w.heap.size w W→E W) (hf:∀ f∈fs0,(Sj 0).on ρ f w)
  (h0:∀ ρ W,(∀ f∈need0,(Sj 0).on ρ f W)→∀ f∈fs 0,(Sj 0).on (fZ m0 ρ) f W)
  (h1:∀ j,j<n→∀ ρ W,(∀ f∈need j,(Sj j).on ρ f W)→∀ f∈fs (j+1),(Sj (j+1)).on (fZ (m1 j) ρ) f W)
  {Q:Ending→World→Prop} (hQ:∀ v fsE,R v fsE→∀ ρ' W',Below w.heap.size w W'→(∀ f∈fsE,(Sj n).on ρ' f W')→Q (.returned (v.den ρ')) W') :
  Calls P f (args.map (SV.den ρ)).toArray w Q:=by
 obtain ⟨σ,hx,hp,hb,hn⟩:=ru (hq 0) hst
 simp only [lN] at hx
 split at hx
 ·rename_i σ0 hx0
  split at hx
  ·rename_i σ1 hx1
   split at hx
   ·rename_i σ2 hx2
    cases hx
    obtain ⟨wf0,-,go0⟩:=exec_good (w0:=w) (hlo 0) hm (hcons 0) hE c0 _ _ _ hx0 (Ir hok)
    obtain ⟨wf1,-,go1⟩:=exec_good (w0:=w) (hlo 0) hm (hcons 0) hE c1 _ _ _ hx1 wf0
    obtain ⟨-,-,go2⟩:=exec_good (w0:=w) (hlo 0) hm (hcons 0) hE c2 _ _ _ hx2 wf1
    refine calls_of_wp hfn hc (wp_seq (go0 ρ _ w _ (G5 hf) fun ρ1 a1 W1 _ s1=>wp_seq (go1 ρ1 a1 W1 _ s1 fun ρ2 a2 W2 _ s2=>wp_seq (wp_seq (go2 ρ2 a2 W2 _ s2 fun ρ3 a3 W3 _ s3=>wp_block (wp_loop_rounds (n+1) ?_))))))
    exact EK hq hm hcons hwf hrd hen hlo hE h1 hQ n 0 (by omega) _ _ _ _ (rJ hp hb s3 (h0 ρ3 W3 fun f hf=>s3.fc f (hn f hf)))
   ·cases hx
  ·cases hx
 ·cases hx
end
end Rx
namespace Rx
open Go.RowKit
def yw (β:Nat→Rat):Con (SR β) where
 fn:=125
 app:=fun _ b args=>match args with
  | [.e (.a [.bl false,.nils,.bl false,.nils])]=>some (.e (.a [.bl false,.os b]),[.l b (.c 1) 1])
  | _=>none
theorem KI {β:Nat→Rat}:(yw β).Ok Tryz.prog (SR β) EV:=by
 intro db b args res new ha ρ W hf hE
 simp only [yw] at ha
 split at ha
 ·cases ha
  exact sV (e:=.c 1) (z:=1) (Z4.D5 W) (by decide) rfl (by decide)
 ·cases ha
theorem Vl (b:Rat):((0:Int):Rat)*(((b.den:Nat):Int):Rat)+(b.num:Rat)*((1:Int):Rat)=b*(((1:Int):Rat)*(((b.den:Nat):Int):Rat)):=by
 have:=nS b
 rw [show ((0:Int):Rat)=0 from rfl,show ((1:Int):Rat)=1 from rfl]
 grind
theorem SN {b:Rat} {v:Value} {W:World} (h1:Z4.IsR W v b) (f1:Fits K2 b) (hE:EV W):Calls Tryz.prog 29 #[.agg #[.bool false,.slice none 0 0,.bool false,.slice none 0 0],v] W (Z4.dW W (((0:Int):Rat)+b)):=by
 obtain ⟨c,d,rfl⟩:=lM h1
 refine lJ (β:=bet [b]) (ρ:=ev [c,d]) (args:=[.e (.a [.bl false,.nils,.bl false,.nils]),rr 0]) (fs:=[.r 0 (.v 0) K2]) (e:=.div (.add (.mul (.c 0) (dd (.v 0))) (.mul (nn (.v 0)) (.c 1))) (.mul (.c 1) (dd (.v 0)))) (fuel:=1) (n0:=2) (cons:=yw (bet [b]) :: cr (bet [b]) {}) (fun c hc=>by
  rcases List.mem_cons.1 hc with rfl | hc
  ·exact KI
  ·exact jw (fQ _) c hc) (by kernel_rfl) ?_ hE (fun g hg=>by
  obtain rfl:=List.mem_singleton.1 hg
  exact ⟨h1,f1⟩)
 show (((0:Int):Rat)*(((b.den:Nat):Int):Rat)+(b.num:Rat)*((1:Int):Rat)) / (((1:Int):Rat)*(((b.den:Nat):Int):Rat))=((0:Int):Rat)+b
 have hd:((1:Int):Rat)*(((b.den:Nat):Int):Rat)≠0:=by
  rw [show ((1:Int):Rat)=1 from rfl,Rat.one_mul]
  exact jS b
 rw [Vl,show ((0:Int):Rat)=0 from rfl,Rat.zero_add,Rat.mul_div_cancel hd]
def yj (β:Nat→Rat):Con (SQ β) where
 fn:=29
 app:=fun db b args=>match args with
  | [.e (.a [.bl false,.nils,.bl false,.nils]),.e (.a y)]=>match iJ db y with
   | some (e,k)=>if k≤64 then some (.e (.a (aW b)),[.r b (.add (.c 0) e) (k+2)]) else none
   | none=>none
  | _=>none
theorem KE {β:Nat→Rat}:(yj β).Ok Tryz.prog (SQ β) EV:=by
 intro db b args res new ha ρ W hf hE
 simp only [yj] at ha
 split at ha
 ·split at ha
  ·rename_i e k hx
   split at ha
   ·rename_i hk
    cases ha
    obtain ⟨h1,h2⟩:=jr hx hf
    exact oI (e:=.add (.c 0) e) (SN h1 (h2.mono (Nat.le_trans hk (by decide))) hE) ((Fits.plus (fits_int (n:=0) (by decide) (by decide)) h2).mono (by omega))
   ·cases ha
  ·cases ha
 ·cases ha
def aG (k:Bool) (c d:Nv):List Value:=if k then [.bool c.b,.int .u64 c.u,.slice c.p c.l c.c,.int .u64 d.u,.slice d.p d.l d.c] else [.bool c.b,.slice c.p c.l c.c,.bool false,.slice d.p d.l d.c]
def isK (k:Bool) (W:World) (v:Value) (r:Rat):Prop:=if k then IsQ W v r else Z4.IsR W v r
def zK (k:Bool):Nat:=if k then 5 else 4
def cK (k:Bool) (s:Nat):List Cell:=if k then aI s else aW s
theorem isK.below {k:Bool} {W W':World} {v:Value} {r:Rat} (h:isK k W v r) (hb:Below W.heap.size W W'):isK k W' v r:=by
 cases k
 ·exact Z4.IsR.below h hb
 ·exact IsQ.below h hb
def bG (k:Bool) (W:World) (B:Nat) (c:Nv) (L:List Rat):Prop:=
 c.l=L.length∧∀ i,i<L.length→∃ b o x y,c.p=some ⟨b,o,none⟩∧b<B∧b<W.heap.size∧(∀ j v,(aG k x y)[j]? = some v→W.cell? ⟨b,o+i*zK k+j,none⟩=some v)∧isK k W (.agg (aG k x y).toArray) (L.getD i 0)∧Fits 4 (L.getD i 0)
theorem bG.below {k:Bool} {W W':World} {B:Nat} {c:Nv} {L:List Rat} (h:bG k W B c L) (hb:Below W.heap.size W W'):bG k W' B c L:=
 ⟨h.1,fun i hi=>by
  obtain ⟨b,o,x,y,h1,h2,h3,h4,h5,h6⟩:=h.2 i hi
  exact ⟨b,o,x,y,h1,h2,Nat.lt_of_lt_of_le h3 hb.size,fun j v hv=>cB hb (h4 j v hv) h3,h5.below hb,h6⟩⟩
theorem add_block (a:Addr) (n:Nat):(a.add n).block=a.block:=by
 unfold Addr.add
 split <;> rfl
def fE (W:World) (B:Nat) (c:Nv) (L:List Rat):Prop:=
 c.l=L.length∧∀ i,i<L.length→∃ a x y z,c.p=some a∧a.block<B∧a.block<W.heap.size∧W.cell? ((a.add (i*3)).add 0)=some (.int .i64 x)∧W.cell? ((a.add (i*3)).add 1)=some (.int .i64 y)∧W.cell? ((a.add (i*3)).add 2)=some (.int .u8 z)∧IsN x y z (L.getD i 0)
theorem fE.below {W W':World} {B:Nat} {c:Nv} {L:List Rat} (h:fE W B c L) (hb:Below W.heap.size W W'):fE W' B c L:=
 ⟨h.1,fun i hi=>by
  obtain ⟨a,x,y,z,h1,h2,h3,h4,h5,h6,h7⟩:=h.2 i hi
  have hc:∀ n m,W'.cell? ((a.add n).add m)=W.cell? ((a.add n).add m):=fun n m=>hb.cell (by rw [add_block,add_block];exact h3)
  exact ⟨a,x,y,z,h1,h2,Nat.lt_of_lt_of_le h3 hb.size,(hc _ _).trans h4,(hc _ _).trans h5,(hc _ _).trans h6,h7⟩⟩
inductive Lf
 | f (x:Fc)
 | l (k:Bool) (s:Nat)
 | h (s:Nat)
 | le (i s:Nat)
 | ix (i:Nat)
 | nx (i:Nat)
def Lf.nm:Lf→List Nat
 | .f x=>x.nm
 | .l _ s=>[s]
 | .h s=>[s]
 | .le i s=>[i,s]
 | .ix i | .nx i=>[i]
structure Rd where
 L:List Rat
 j:Nat
 lo:Nat
 acc:Rat
def Rd.β (R:Rd):Nat→Rat:=bet [R.acc,R.L.getD R.j 0]
def Lf.on (R:Rd) (ρ:Env):Lf→World→Prop
 | .f x,W=>Fc.on R.β ρ x W
 | .l k s,W=>bG k W R.lo (ρ s) R.L
 | .h s,W=>fE W R.lo (ρ s) R.L
 | .le i s,_=>(ρ i).u=((ρ s).l:Int)
 | .ix i,_=>(ρ i).u=(R.j:Int)∧R.j≤1000
 | .nx i,_=>(ρ i).u=((R.j+1:Nat):Int)
def jd:List Lf→Nat→Option Bool
 | [],_=>none
 | .l k s :: r,n=>if s=n then some k else jd r n
 | _ :: r,n=>jd r n
def jD:List Lf→Nat→Bool
 | [],_=>false
 | .ix i :: r,n=>decide (i=n) || jD r n
 | _ :: r,n=>jD r n
def findLe:List Lf→Nat→Option Nat
 | [],_=>none
 | .le i s :: r,n=>if i=n then some s else findLe r n
 | _ :: r,n=>findLe r n
theorem iO {n:Nat} {k:Bool}:∀ {db:List Lf},jd db n=some k→.l k n∈db
 | [],h=>by simp [jd] at h
 | .l k' s :: r,h=>by
  simp only [jd] at h
  split at h
  ·rename_i hs;cases h;subst hs;simp
  ·exact List.mem_cons_of_mem _ (iO h)
 | .f _ :: r,h=>List.mem_cons_of_mem _ (iO (db:=r) h)
 | .h _ :: r,h=>List.mem_cons_of_mem _ (iO (db:=r) h)
 | .le _ _ :: r,h=>List.mem_cons_of_mem _ (iO (db:=r) h)
 | .ix _ :: r,h=>List.mem_cons_of_mem _ (iO (db:=r) h)
 | .nx _ :: r,h=>List.mem_cons_of_mem _ (iO (db:=r) h)
theorem jf {n:Nat}:∀ {db:List Lf},jD db n=true→.ix n∈db
 | [],h=>by simp [jD] at h
 | .ix i :: r,h=>by
  simp only [jD,Bool.or_eq_true,decide_eq_true_eq] at h
  rcases h with rfl | h
  ·simp
  ·exact List.mem_cons_of_mem _ (jf h)
 | .f _ :: r,h=>List.mem_cons_of_mem _ (jf (db:=r) h)
 | .h _ :: r,h=>List.mem_cons_of_mem _ (jf (db:=r) h)
 | .le _ _ :: r,h=>List.mem_cons_of_mem _ (jf (db:=r) h)
 | .l _ _ :: r,h=>List.mem_cons_of_mem _ (jf (db:=r) h)
 | .nx _ :: r,h=>List.mem_cons_of_mem _ (jf (db:=r) h)
theorem kT {n s:Nat}:∀ {db:List Lf},findLe db n=some s→.le n s∈db
 | [],h=>by simp [findLe] at h
 | .le i s' :: r,h=>by
  simp only [findLe] at h
  split at h
  ·rename_i hs;cases h;subst hs;simp
  ·exact List.mem_cons_of_mem _ (kT h)
 | .f _ :: r,h=>List.mem_cons_of_mem _ (kT (db:=r) h)
 | .h _ :: r,h=>List.mem_cons_of_mem _ (kT (db:=r) h)
 | .l _ _ :: r,h=>List.mem_cons_of_mem _ (kT (db:=r) h)
 | .ix _ :: r,h=>List.mem_cons_of_mem _ (kT (db:=r) h)
 | .nx _ :: r,h=>List.mem_cons_of_mem _ (kT (db:=r) h)
def jC:List Lf→Nat→Bool
 | [],_=>false
 | .h s :: r,n=>decide (s=n) || jC r n
 | _ :: r,n=>jC r n
theorem je {n:Nat}:∀ {db:List Lf},jC db n=true→.h n∈db
 | [],h=>by simp [jC] at h
 | .h s :: r,h=>by
  simp only [jC,Bool.or_eq_true,decide_eq_true_eq] at h
  rcases h with rfl | h
  ·simp
  ·exact List.mem_cons_of_mem _ (je h)
 | .f _ :: r,h=>List.mem_cons_of_mem _ (je (db:=r) h)
 | .l _ _ :: r,h=>List.mem_cons_of_mem _ (je (db:=r) h)
 | .le _ _ :: r,h=>List.mem_cons_of_mem _ (je (db:=r) h)
 | .ix _ :: r,h=>List.mem_cons_of_mem _ (je (db:=r) h)
 | .nx _ :: r,h=>List.mem_cons_of_mem _ (je (db:=r) h)
theorem xY (k:Bool) (ρ:Env) (b:Nat) (x y:Nv):(cK k b).map (Cell.den (aH ρ b [x,y]))=aG k x y:=by
 cases k <;> simp [cK,aI,aW,aG,Cell.den,aH]
def uX (more:Bool) (db:List Lf) (s i:Nat):Option Nat:=if more && jD db i then (if jC db s then some 3 else (jd db s).map zK) else none
def SL (more:Bool) (R:Rd) (hm:more=decide (R.j<R.L.length)):Sys where
 F:=Lf
 nm:=Lf.nm
 on:=Lf.on R
 okC:=okC
 cg:=fun {ρ ρ' f W} h hf=>by
  cases f with
  | f x=>exact (SQ R.β).cg (f:=x) h hf
  | l k s=>simp only [Lf.on] at hf ⊢;rw [← h s (by simp [Lf.nm])];exact hf
  | h s=>simp only [Lf.on] at hf ⊢;rw [← h s (by simp [Lf.nm])];exact hf
  | le i s=>simp only [Lf.on] at hf ⊢;rw [← h s (by simp [Lf.nm]),← h i (by simp [Lf.nm])];exact hf
  | ix i=>simp only [Lf.on] at hf ⊢;rw [← h i (by simp [Lf.nm])];exact hf
  | nx i=>simp only [Lf.on] at hf ⊢;rw [← h i (by simp [Lf.nm])];exact hf
 bl:=fun {ρ f W W'} hb hf=>by
  cases f with
  | f x=>exact (SQ R.β).bl (f:=x) hb hf
  | l k s=>exact bG.below hf hb
  | h s=>exact fE.below hf hb
  | le i s=>exact hf
  | ix i=>exact hf
  | nx i=>exact hf
 lo:=R.lo
 st:=fun {ρ f W b T cs i u} hok hlo hb hf=>by
  cases f with
  | f x=>exact (SQ R.β).st (f:=x) hok (Nat.zero_le _) hb hf
  | l k s =>
   have hv:=qZ ρ hok
   have hb':Go.Proofs.YtcglmmbgoonjnaaGreatDoor.Bx W b T (cs.map (Cell.den ρ)):=hb
   refine ⟨hf.1,fun i' hi=>?_⟩
   obtain ⟨b',o,x,y,h1,h2,h3,h4,h5,h6⟩:=hf.2 i' hi
   have hne:b'≠b:=fun e=>by subst e;exact absurd h2 (Nat.not_lt.2 hlo)
   refine ⟨b',o,x,y,h1,h2,by simpa using h3,fun j v hv=>?_,?_,h6⟩
   ·rw [World.cell?_of_block (w:=W) (Below.heap_setCell W ⟨b,i,none⟩ u b' hne)]
    exact h4 j v hv
   ·cases k
    ·exact Z4.IsR.setBox h5 hb' hv
    ·exact IsQ.setBox h5 hb' hv
  | h s =>
   refine ⟨hf.1,fun i' hi=>?_⟩
   obtain ⟨a,x,y,z,h1,h2,h3,h4,h5,h6,h7⟩:=hf.2 i' hi
   have hne:a.block≠b:=fun e=>by rw [e] at h2;exact absurd h2 (Nat.not_lt.2 hlo)
   have hc:∀ n m,(W.setCell ⟨b,i,none⟩ u).cell? ((a.add n).add m)=W.cell? ((a.add n).add m):=fun n m=>World.cell?_of_block (w:=W) (Below.heap_setCell W ⟨b,i,none⟩ u _ (by rw [add_block,add_block];exact hne))
   exact ⟨a,x,y,z,h1,h2,by simpa using h3,(hc _ _).trans h4,(hc _ _).trans h5,(hc _ _).trans h6,h7⟩
  | le i s=>exact hf
  | ix i=>exact hf
  | nx i=>exact hf
 len:=fun s b=>[.le b s]
 lenOk:=fun {s b f ρ W} h hu=>by
  obtain rfl:=List.mem_singleton.1 h
  exact hu
 idx:=uX more
 idxOk:=fun {db s i z ρ W} h hf=>by
  unfold uX at h
  split at h
  ·rename_i hh
   simp only [Bool.and_eq_true] at hh
   have h1:=hf _ (jf hh.2)
   have h5:=h1.1
   have hj:R.j<R.L.length:=by rw [hh.1] at hm;exact of_decide_eq_true hm.symm
   split at h
   ·rename_i hs
    have h2:=hf _ (je hs)
    obtain ⟨a,x,y,z,h3,-⟩:=h2.2 _ hj
    have h4:=h2.1
    exact ⟨by omega,by omega,⟨_,h3⟩⟩
   ·obtain ⟨k,hk,-⟩:=Option.map_eq_some_iff.1 h
    have h2:=hf _ (iO hk)
    obtain ⟨b,o,x,y,h3,-⟩:=h2.2 _ hj
    have h4:=h2.1
    exact ⟨by omega,by omega,⟨_,h3⟩⟩
  ·cases h
 ldv:=fun db s i b=>if more && jD db i then (if jC db s then some (uS b,[.f (.n b (.v 1))]) else (jd db s).map fun k=>(cK k b,[.f (if k then .q b (.v 1) 4 else .r b (.v 1) 4)])) else none
 ldvOk:=fun {db s i b cs fs ρ W} h hf=>by
  split at h
  ·rename_i hh
   have hh':=hh
   simp only [Bool.and_eq_true] at hh
   have h1:=(hf _ (jf hh.2)).1
   have hj:R.j<R.L.length:=by rw [hh.1] at hm;exact of_decide_eq_true hm.symm
   have hadd:∀ (b' o z j:Nat),((⟨b',o,none⟩:Addr).add z).add j=⟨b',o+z+j,none⟩:=fun b' o z j=>by
    unfold Addr.add
    split <;> split <;> simp_all
   split at h
   ·rename_i hs
    cases h
    have h2:=hf _ (je hs)
    obtain ⟨a,x,y,z,h3,-,-,h4,h5,h6,h7⟩:=h2.2 _ hj
    have h8:(uS b).map (Cell.den (aH ρ b [⟨false,x,none,0,0,.empty,0⟩,⟨false,y,none,0,0,.empty,0⟩,⟨false,z,none,0,0,.empty,0⟩]))=[.int .i64 x,.int .i64 y,.int .u8 z]:=by
     simp [uS,Cell.den,aH]
    refine ⟨_,3,by unfold uX;rw [if_pos hh',if_pos hs],h3,_,gu (b:=b) (L:=[⟨false,x,none,0,0,.empty,0⟩,⟨false,y,none,0,0,.empty,0⟩,⟨false,z,none,0,0,.empty,0⟩]) (by simp [M]),fun j v hv=>?_,fun f hf'=>?_⟩
    ·rw [h8] at hv
     rw [h1,Int.toNat_natCast]
     match j,hv with
     | 0,hv=>cases hv;exact h4
     | 1,hv=>cases hv;exact h5
     | 2,hv=>cases hv;exact h6
    ·obtain rfl:=List.mem_singleton.1 hf'
     show IsN _ _ _ ((RE.v 1).ev R.β)
     rw [show (RE.v 1).ev R.β=R.L.getD R.j 0 from rfl]
     simpa [aH] using h7
   ·rename_i hs
    obtain ⟨k,hk,he⟩:=Option.map_eq_some_iff.1 h
    cases he
    have h2:=hf _ (iO hk)
    obtain ⟨b',o,x,y,h3,-,-,h4,h5,h6⟩:=h2.2 _ hj
    refine ⟨_,zK k,by unfold uX;rw [if_pos hh',if_neg hs,hk];rfl,h3,aH ρ b [x,y],gu (by simp [M]),fun j v hv=>?_,fun f hf'=>?_⟩
    ·rw [xY] at hv
     rw [h1,Int.toNat_natCast,hadd]
     exact h4 j v hv
    ·obtain rfl:=List.mem_singleton.1 hf'
     have h8:R.L.getD R.j 0=(RE.v 1).ev R.β:=rfl
     rw [h8] at h5 h6
     cases k
     ·refine ⟨?_,h6⟩
      rw [show aW b=cK false b from rfl,xY];exact h5
     ·refine ⟨?_,h6⟩
      rw [show aI b=cK true b from rfl,xY];exact h5
  ·cases h
def gtL (more:Bool) (db:List Lf):Cell→Cell→Option Bool
 | .oi n,.oi i=>if jD db i then (match findLe db n with
  | some s=>if jC db s || (jd db s).isSome then some more else none
  | none=>none) else none
 | _,_=>none
def eqX (first:Bool) (db:List Lf):Cell→Cell→Option Bool
 | .oi i,.it .i64 0=>if jD db i then some first else none
 | _,_=>none
def HLs (more first:Bool) (R:Rd) (hm:more=decide (R.j<R.L.length)) (h0:first=decide (R.j=0)):Tests (SL more R hm) where
 eq:=eqX first
 ok:=fun {fs c d x} hh ρ W hf=>by
  unfold eqX at hh
  split at hh
  ·rename_i i
   split at hh
   ·rename_i hi
    cases hh
    refine .inr ⟨.i64,(ρ i).u,0,rfl,rfl,?_⟩
    have h1:=(hf _ (jf hi)).1
    rw [h0,h1]
    by_cases hz:R.j=0
    ·simp [hz]
    ·have:¬ ((R.j:Int)=0):=by omega
     simp [hz]
   ·cases hh
  ·cases hh
 gt:=gtL more
 gok:=fun {fs c d x} hh ρ W hf=>by
  unfold gtL at hh
  split at hh
  ·rename_i n i
   split at hh
   ·rename_i hi
    split at hh
    ·rename_i s hs
     split at hh
     ·rename_i hl
      cases hh
      have h1:=(hf _ (jf hi)).1
      have h2:(ρ s).l=R.L.length:=by
       rcases Bool.or_eq_true _ _ ▸ hl with hl | hl
       ·exact (hf _ (je hl)).1
       ·obtain ⟨k,hk⟩:=Option.isSome_iff_exists.1 hl
        exact (hf _ (iO hk)).1
      have h3:=hf _ (kT hs)
      refine ⟨.i64,(ρ n).u,(ρ i).u,rfl,rfl,?_⟩
      rw [hm,show (ρ n).u=((ρ s).l:Int) from h3,h1,h2]
      simp
     ·cases hh
    ·cases hh
   ·cases hh
  ·cases hh
 inc:=fun db a m b=>if jD db a && decide (m=1) then some [.nx b] else none
 incOk:=fun {db a m b new} hh ρ W hf=>by
  split at hh
  ·rename_i hi
   simp only [Bool.and_eq_true,decide_eq_true_eq] at hi
   cases hh
   obtain ⟨h1,h2⟩:=hf _ (jf hi.1)
   obtain rfl:=hi.2
   refine ⟨?_,fun ρ' _ hu f hf'=>?_⟩
   ·rw [h1]
    rw [IntKind.wrap_i64];omega
   ·obtain rfl:=List.mem_singleton.1 hf'
    show (ρ' b).u=_
    rw [hu,h1];rfl
  ·cases hh
def unL:List Lf→List Fc
 | []=>[]
 | .f x :: r=>x :: unL r
 | _ :: r=>unL r
theorem jK {x:Fc}:∀ {db:List Lf},x∈unL db→.f x∈db
 | [],h=>by simp [unL] at h
 | .f y :: r,h=>by
  simp only [unL,List.mem_cons] at h
  rcases h with rfl | h
  ·simp
  ·exact List.mem_cons_of_mem _ (jK h)
 | .l _ _ :: r,h=>List.mem_cons_of_mem _ (jK (db:=r) h)
 | .h _ :: r,h=>List.mem_cons_of_mem _ (jK (db:=r) h)
 | .le _ _ :: r,h=>List.mem_cons_of_mem _ (jK (db:=r) h)
 | .ix _ :: r,h=>List.mem_cons_of_mem _ (jK (db:=r) h)
 | .nx _ :: r,h=>List.mem_cons_of_mem _ (jK (db:=r) h)
section
variable {more:Bool} {R:Rd} {hm:more=decide (R.j<R.L.length)}
def Aa (hm:more=decide (R.j<R.L.length)) (c:Con (SQ R.β)):Con (SL more R hm) where
 fn:=c.fn
 app:=fun db b args=>(c.app (unL db) b args).map fun x=>(x.1,x.2.map .f)
theorem Ac {E:World→Prop} {c:Con (SQ R.β)} (h:c.Ok Tryz.prog (SQ R.β) E):(Aa hm c).Ok Tryz.prog (SL more R hm) E:=by
 intro db b args res new ha ρ W hf hE
 obtain ⟨⟨v,fs⟩,h1,h2⟩:=Option.map_eq_some_iff.1 ha
 cases h2
 refine (h (unL db) b args v fs h1 ρ W (fun g hg=>hf _ (jK hg)) hE).mono fun e W' ⟨ρ',g1,g2,g3,g4⟩=>⟨ρ',g1,g2,g3,fun f hf'=>?_⟩
 obtain ⟨x,hx,rfl⟩:=List.mem_map.1 hf'
 exact g4 x hx
def cL (hm:more=decide (R.j<R.L.length)) (h:Hint):List (Con (SL more R hm)):=(yj R.β :: c0 R.β h).map (Aa hm)
theorem J7 {h:Hint} (ok:h.Ok R.β):∀ c∈cL hm h,c.Ok Tryz.prog (SL more R hm) EV:=fun c hc=>by
 obtain ⟨x,hx,rfl⟩:=List.mem_map.1 hc
 rcases List.mem_cons.1 hx with rfl | hx
 ·exact Ac KE
 ·exact Ac (qH ok x hx)
end
def Ei:Fc→Fc→Bool
 | .q s e k,.q s' e' k' | .r s e k,.r s' e' k'=>s == s' && e.beq e' && k == k'
 | _,_=>false
def kR:Lf→Lf→Bool
 | .f x,.f y=>Ei x y
 | .l k s,.l k' s'=>k == k' && s == s'
 | .le i s,.le i' s'=>i == i' && s == s'
 | .ix i,.ix i' | .nx i,.nx i'=>i == i'
 | _,_=>false
theorem uM {a b:Lf} (h:kR a b=true):a=b:=by
 cases a <;> cases b <;> simp only [kR,Bool.false_eq_true,Bool.and_eq_true,beq_iff_eq] at h
 ·rename_i x y
  cases x <;> cases y <;> simp only [Ei,Bool.false_eq_true,Bool.and_eq_true,beq_iff_eq] at h
  ·obtain ⟨⟨rfl,h2⟩,rfl⟩:=h;rw [RE.beq_eq h2]
  ·obtain ⟨⟨rfl,h2⟩,rfl⟩:=h;rw [RE.beq_eq h2]
 ·obtain ⟨rfl,rfl⟩:=h;rfl
 ·obtain ⟨rfl,rfl⟩:=h;rfl
 ·subst h;rfl
 ·subst h;rfl
end Rx
namespace Rx
open Go.RowKit
def hdS:Code→Code
 | .seq a _=>a
 | c=>c
def tlS:Code→Code
 | .seq _ b=>b
 | c=>c
def lpS:Code→Code
 | .block _ (.loop b)=>b
 | c=>c
def fo0 (fn:Func):Code:=hdS (fn.body.getD .skip)
def fo1 (fn:Func):Code:=hdS (tlS (fn.body.getD .skip))
def fo2 (fn:Func):Code:=hdS (hdS (tlS (tlS (fn.body.getD .skip))))
def foB (fn:Func):Code:=lpS (tlS (hdS (tlS (tlS (fn.body.getD .skip)))))
def foR (fn:Func):Code:=tlS (tlS (tlS (fn.body.getD .skip)))
def fq (k:Bool) (s:Nat) (e:RE) (n:Nat):Lf:=.f (if k then .q s e n else .r s e n)
def fsL (k:Bool) (le:List Lf) (K:Nat):Nat→List Lf
 | 0=>.l k 0 :: .ix 2 :: le
 | _+1=>.l k 0 :: .ix 2 :: fq k 10 (.v 0) K :: le
def zC5 (k:Bool):List Cell:=if k then [.bl false,.it .u64 0,.nils,.it .u64 0,.nils] else [.bl false,.nils,.bl false,.nils]
def bxL (k:Bool) (T:TypeId):Nat→List (Nat×TypeId×List Cell)
 | 0=>[(3,T,zC5 k),(4,T,zC5 k)]
 | _+1=>[(3,T,zC5 k),(4,T,cK k 10)]
def mL (i nb:Nat):Nat→Option Nat
 | 2=>some i
 | 10=>some nb
 | 11=>some (nb+1)
 | n=>some n
def m0L (n r b:Nat):Nat→Option Nat
 | 0=>some 0
 | 1=>some n
 | 3=>some r
 | 4=>some b
 | _=>none
def nR (k:Bool) (le:List Lf) (i nb:Nat) (e:RE) (K:Nat):List Lf:=.l k 0 :: .nx i :: fq k nb e K :: le
theorem Dl (k:Bool) (i nb:Nat) (ρ:Env):(cK k 10).map (Cell.den (fZ (mL i nb) ρ))=(cK k nb).map (Cell.den ρ):=by
 cases k <;> rfl
theorem Rw {k:Bool} {L:List Rat} {j lo:Nat} {a a':Rat} {le:List Lf} {i nb K K':Nat} {e:RE} (hle:le=[]∨le=[.le 1 0]) (hj:j+1≤1000) (he:e.ev (Rd.β ⟨L,j,lo,a⟩)=a') (hK:Fits K' a') {ρ:Env} {W:World}
  (h:∀ f∈nR k le i nb e K,Lf.on ⟨L,j,lo,a⟩ ρ f W):∀ f∈fsL k le K' (j+1),Lf.on ⟨L,j+1,lo,a'⟩ (fZ (mL i nb) ρ) f W:=by
 intro f hf
 simp only [fsL,List.mem_cons] at hf
 rcases hf with rfl | rfl | rfl | hf
 ·exact h (.l k 0) (by simp [nR])
 ·exact ⟨h (.nx i) (by simp [nR]),hj⟩
 ·have h1:=h (fq k nb e K) (by simp [nR])
  cases k
  ·obtain ⟨h2,-⟩:=h1
   refine ⟨?_,hK⟩
   rw [show aW 10=cK false 10 from rfl,Dl]
   rw [he] at h2;exact h2
  ·obtain ⟨h2,-⟩:=h1
   refine ⟨?_,hK⟩
   rw [show aI 10=cK true 10 from rfl,Dl]
   rw [he] at h2;exact h2
 ·rcases hle with rfl | rfl
  ·cases hf
  ·obtain rfl:=List.mem_singleton.1 hf
   exact h (.le 1 0) (by simp [nR])
theorem UE {k:Bool} {L:List Rat} {lo n r b:Nat} {a:Rat} {le le':List Lf} (hle:le=[]∨le=[.le 1 0]∧.le n 0∈le') {ρ:Env} {W:World}
  (h:∀ f∈.l k 0 :: le',Lf.on ⟨L,0,lo,a⟩ ρ f W) (K:Nat):∀ f∈fsL k le K 0,Lf.on ⟨L,0,lo,a⟩ (fZ (m0L n r b) ρ) f W:=by
 intro f hf
 simp only [fsL,List.mem_cons] at hf
 rcases hf with rfl | rfl | hf
 ·exact h (.l k 0) (by simp)
 ·exact ⟨rfl,Nat.zero_le _⟩
 ·rcases hle with rfl | ⟨rfl,h2⟩
  ·cases hf
  ·obtain rfl:=List.mem_singleton.1 hf
   exact h (.le n 0) (by simp [h2])
def nI (k:Bool) (e:RE) (v:SV) (fs:List Lf):Bool:=match v with
 | .e (.a cs)=>match (if k then dX (unL fs) cs else iJ (unL fs) cs) with
  | some (e',_)=>e'.beq e
  | none=>false
 | _=>false
theorem qU {k:Bool} {e:RE} {v:SV} {fs:List Lf} (h:nI k e v fs=true) {R:Rd} {ρ:Env} {W:World} (hf:∀ f∈fs,Lf.on R ρ f W):isK k W (v.den ρ) (e.ev R.β):=by
 unfold nI at h
 split at h
 ·rename_i cs
  cases k
  ·simp only [Bool.false_eq_true,if_false] at h
   split at h
   ·rename_i e' n ha
    rw [← RE.beq_eq h]
    exact (jr ha fun g hg=>hf _ (jK hg)).1
   ·cases h
  ·simp only [if_true] at h
   split at h
   ·rename_i e' n ha
    rw [← RE.beq_eq h]
    exact (fF ha fun g hg=>hf _ (jK hg)).1.1
   ·cases h
 ·cases h
def jT (t:SV→List Lf→Bool):Option (SV×List Lf)→Bool
 | some (v,fs)=>t v fs
 | none=>false
theorem qM {t:SV→List Lf→Bool} {o:Option (SV×List Lf)} (h:jT t o=true):∃ v fs,o=some (v,fs)∧t v fs=true:=by
 unfold jT at h
 split at h
 ·exact ⟨_,_,rfl,h⟩
 ·cases h
theorem qN {k:Bool} {f:FuncId} {fn:Func} {L:List Rat} {acc:Nat→Rat} {hint:Nat→Hint} {args:List SV} {p:Pat} {T:TypeId} {le le':List Lf} {K n r b:Nat} {iN nb K1:Nat→Nat} {e:Nat→RE} {t:Nat→SV→List Lf→Bool} {w:World} {ρ:Env}
  (hfn:(Tryz.prog).funcs[f]? = some fn) (hc:fn.body=some ((fo0 fn).seq ((fo1 fn).seq (((fo2 fn).seq (.block 0 (.loop (foB fn)))).seq (foR fn)))))
  (hlen:L.length≤1000) (hh:∀ j,(hint j).Ok (Rd.β ⟨L,j,w.heap.size,acc j⟩)) (hE:EV w) (hls:bG k w w.heap.size (ρ 0) L) (hle:le=[]∨le=[.le 1 0]∧.le n 0∈le')
  (hst:∀ (more first:Bool) (R:Rd) (hm:more=decide (R.j<R.L.length)) (h0:first=decide (R.j=0)) (h:Hint),okIn (SL more R hm) args [.l k 0] 1=true∧okR (S:=SL more R hm) kR p (bxL k T 0) (m0L n r b) (.l k 0 :: le') (lN Tryz.prog (SL more R hm) (HLs more first R hm h0) (cL hm h) [fo0 fn,fo1 fn,fo2 fn] ⟨args ++ List.replicate (fn.ntmps - args.length) .und,[],[.l k 0],1⟩)=true∧∀ j,wfB (SL more R hm) p (bxL k T j) (fsL k le K j) 12=true)
  (hrd:∀ (more first:Bool) (R:Rd) (hm:more=decide (R.j<R.L.length)) (h0:first=decide (R.j=0)) (j:Nat),more=true→first=decide (j=0)→∀ u,okR (S:=SL more R hm) kR p (bxL k T (j+1)) (mL (iN j) (nb j)) (nR k le (iN j) (nb j) (e j) (K1 j)) (exec Tryz.prog (SL more R hm) (HLs more first R hm h0) (cL hm (hint j)) 1 (foB fn) ⟨bH p u 0,bxL k T j,fsL k le K j,12⟩)=true)
  (hen:∀ (more first:Bool) (R:Rd) (hm:more=decide (R.j<R.L.length)) (h0:first=decide (R.j=0)) (h:Hint) (j:Nat),more=false→∀ u,jT (t j) (oV Tryz.prog (SL more R hm) (HLs more first R hm h0) (cL hm h) (foB fn) (foR fn) fn ⟨bH p u 0,bxL k T j,fsL k le K j,12⟩)=true)
  (hacc:∀ j,j<L.length→(e j).ev (Rd.β ⟨L,j,w.heap.size,acc j⟩)=acc (j+1)∧Fits K (acc (j+1)))
  {Q:Ending→World→Prop} (hQ:∀ v fs,t L.length v fs=true→∀ ρ' W',Below w.heap.size w W'→(∀ f∈fs,Lf.on ⟨L,L.length,w.heap.size,acc L.length⟩ ρ' f W')→Q (.returned (v.den ρ')) W') :
  Calls Tryz.prog f (args.map (SV.den ρ)).toArray w Q:=by
 have hs:=hst (decide (0<L.length)) (decide (0=0)) ⟨L,0,w.heap.size,acc 0⟩ rfl rfl (hint 0)
 refine NK (Sj:=fun j=>SL (decide (j<L.length)) ⟨L,j,w.heap.size,acc j⟩ rfl) (eqF:=fun _=>kR) (Hj:=fun j=>HLs _ (decide (j=0)) _ rfl rfl) (cj:=fun j=>cL rfl (hint j)) (E:=EV) (n:=L.length)
  (fs0:=[.l k 0]) (fs:=fsL k le K) (m1:=fun j=>mL (iN j) (nb j)) (need0:=.l k 0 :: le') (need:=fun j=>nR k le (iN j) (nb j) (e j) (K1 j)) (R:=fun v fs=>t L.length v fs=true)
  (fun _ _ _ h=>uM h) mixed (fun j=>J7 (hh j)) hfn hc hs.1 hs.2.1 (fun j=>(hst _ (decide (j=0)) _ rfl rfl (hint j)).2.2 j) (fun j hj u=>hrd _ _ _ rfl rfl j (decide_eq_true hj) rfl u) (fun u=>qM (hen _ _ _ rfl rfl (hint L.length) L.length (decide_eq_false (Nat.lt_irrefl _)) u))
  (fun j=>Nat.le_refl _) (dM hE) (fun f hf=>?_) (fun ρ W h=>UE hle h K) (fun j hj ρ W h=>Rw (hle.imp id And.left) (by omega) (hacc j hj).1 (hacc j hj).2 h) hQ
 obtain rfl:=List.mem_singleton.1 hf
 exact hls
def xUp (o c:Int):Nat→Bool
 | 0=>true
 | _+1=>c == o
def aO (o:Int) (L:List Rat):Nat→Rat
 | 0=>0
 | j+1=>if xUp o (aK (L.getD j 0) (aO o L j)) j then L.getD j 0 else aO o L j
theorem kJ {o:Int} {L:List Rat} (h:∀ i,i<L.length→Fits 4 (L.getD i 0)):∀ j,j≤L.length→Fits 4 (aO o L j)
 | 0,_=>fits_int (by decide) (by decide) |>.mono (by decide)
 | j+1,hj=>by
  simp only [aO]
  split
  ·exact h j (by omega)
  ·exact kJ h j (by omega)
theorem bG.fits {k:Bool} {W:World} {B:Nat} {c:Nv} {L:List Rat} (h:bG k W B c L):∀ i,i<L.length→Fits 4 (L.getD i 0):=fun i hi=>by
 obtain ⟨_,_,_,_,_,_,_,_,_,h⟩:=h.2 i hi
 exact h
def hc (c:Int):Hint:={ cm:=[(.v 1,.v 0,c)] }
theorem zM {β:Nat→Rat} {c:Int} (h:aK (β 1) (β 0)=c):(hc c).Ok β:=
 ⟨fun p h=>(by cases h),fun p h=>(by cases h),fun p h=>(by cases h),fun p h=>(by cases h),fun p hp=>by
  obtain rfl:=List.mem_singleton.1 hp
  exact h⟩
theorem CS {k:Bool} {W:World} {v:Value} {L:List Rat} {lo:Nat} {acc:Nat→Rat} (h0:acc 0=0) (h:isK k W v ((if L.length=0 then RE.c 0 else .v 0).ev (Rd.β ⟨L,L.length,lo,acc L.length⟩))):isK k W v (acc L.length):=by
 by_cases hl:L.length=0
 ·rw [hl,h0]
  rw [if_pos hl] at h
  exact h
 ·rw [if_neg hl] at h
  exact h
theorem xK {o:Int} {L:List Rat} {j lo:Nat}:(if xUp o (aK (L.getD j 0) (aO o L j)) j then RE.v 1 else .v 0).ev (Rd.β ⟨L,j,lo,aO o L j⟩)=aO o L (j+1):=by
 simp only [aO]
 split <;> rfl
abbrev xT:TypeId:=31
def xP (o:Int):Pat:=[some (.os 0),some (.it .i64 o),none,none,some (.ptr 3 0),some (.ptr 4 0),none,none,some (.os 0),some (.oi 1),some (.oi 2),none,none,none,none,none,none,none,none,none,none,none,none,none,none,none,none]
theorem Nl {o:Int} (ho:o = -1∨o=1) {L:List Rat} (hlen:L.length≤1000) {c:Nv} {w:World} (h:bG true w w.heap.size c L) (hE:EV w):Calls Tryz.prog 151 #[.slice c.p c.l c.c,.int .i64 o] w (aU w (aO o L L.length)):=by
 refine qN (k:=true) (fn:=Tryz.f151) (L:=L) (acc:=aO o L) (hint:=fun j=>hc (aK (L.getD j 0) (aO o L j))) (args:=[.e (.s (.os 0)),.e (.s (.it .i64 o))]) (p:=xP o) (T:=xT) (le:=[.le 1 0]) (le':=[.le 193 0]) (K:=4) (n:=193) (r:=1) (b:=65)
  (iN:=fun j=>if xUp o (aK (L.getD j 0) (aO o L j)) j then 1164 else 1036) (nb:=fun j=>if xUp o (aK (L.getD j 0) (aO o L j)) j then 204 else 10) (K1:=fun _=>4) (e:=fun j=>if xUp o (aK (L.getD j 0) (aO o L j)) j then .v 1 else .v 0)
  (t:=fun j=>nI true (if j=0 then .c 0 else .v 0)) (ρ:=ev [c]) Tryz.func151 (by kernel_rfl) hlen (fun j=>zM rfl) hE h (.inr ⟨rfl,by simp⟩) ?_ ?_ ?_ (fun j hj=>⟨xK,kJ h.fits _ hj⟩) ?_
 ·intro more first R hm h0 h
  refine ⟨by rcases ho with rfl | rfl <;> kernel_rfl,by rcases ho with rfl | rfl <;> kernel_rfl,fun j=>?_⟩
  rcases ho with rfl | rfl <;> cases j <;> kernel_rfl
 ·intro more first R hm h0 j hmt hft u
  obtain ⟨cc,hcc⟩:∃ cc,aK (L.getD j 0) (aO o L j)=cc:=⟨_,rfl⟩
  have h3:=tN (L.getD j 0) (aO o L j)
  simp only [hcc] at h3 ⊢
  clear hcc
  subst hmt
  cases j with
  | zero =>
   obtain rfl:first=true:=by simpa using hft
   rcases ho with rfl | rfl <;> (show _=true;kernel_rfl)
  | succ j =>
   obtain rfl:first=false:=by simpa using hft
   rcases ho with rfl | rfl <;> rcases h3 with rfl | rfl | rfl <;> (show _=true;kernel_rfl)
 ·intro more first R hm h0 h j hmt u
  subst hmt
  rcases ho with rfl | rfl <;> cases j <;> kernel_rfl
 ·intro v fs ht ρ' W' hb hf
  exact ⟨_,rfl,CS (k:=true) rfl (qU ht hf),hb⟩
end Rx
end Go.Proofs.YtcglmmbgoonjnaaGreatDoor
