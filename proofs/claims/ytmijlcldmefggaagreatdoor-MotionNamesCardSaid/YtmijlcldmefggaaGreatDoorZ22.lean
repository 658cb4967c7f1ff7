/- What the proof rests on, part 22. -/
import Derived.Test.YtmijlcldmefggaaGreatDoorZ21
namespace Go.Proofs.YtmijlcldmefggaaGreatDoor
set_option maxRecDepth 100000
set_option maxHeartbeats 80000000
namespace Rx.Ry
open Go.RowKit
def EvOk (P:Program) {S:Sys} (X:Xt S) (w00:World) (ev:(Tmp→Option SV)→List (Nat×Nat)→T (It S)→Nat→Op→Option (Rs S)):Prop:=
 ∀ rd fb hp n (o:Oper) r,ev rd fb hp n o.op=some r→Wf hp n→Pl fb hp n r∧∀ (ρ:Env) (W:World) (a:Act),Inv X w00 fb ρ hp W→(∀ t v,rd t=some v→a.tmps.getD t undef=v.den ρ)→(∀ t v,rd t=some v→∀ m∈v.nm,m<n) →
  tk P o a W fun v W'=>∃ ρ',Dy X w00 fb n r ρ W v ρ' W'
inductive Dd where
 | co (k:Nat)
 | cl (f:FuncId) (l:List (Nat×Nat))
def Dd.den (ρ:Env):Dd→Deferred
 | .co k=>{ target:=.collected (ρ k).pos,args:=#[] }
 | .cl f l=>{ target:=.fn (.func f) (l.map (ptD ρ)).toArray,args:=#[] }
def Dd.nm:Dd→List Nat
 | .co k=>[k]
 | .cl _ l=>l.map (·.1)
theorem dds_congr {ρ ρ':Env} {l:List Dd} (h:∀ m∈l.flatMap Dd.nm,ρ' m=ρ m):l.map (Dd.den ρ')=l.map (Dd.den ρ):=
 List.map_congr_left fun d hd=>by
  have h1:∀ m∈d.nm,ρ' m=ρ m:=fun m hm=>h m (List.mem_flatMap.2 ⟨d,hd,hm⟩)
  cases d with
  | co k=>simp only [Dd.den];rw [h1 k (.head _)]
  | cl f l=>simp only [Dd.den];rw [pts_congr h1]
structure St (S:Sys) where
 regs:T SV
 hp:T (It S)
 n:Nat
 wr:List Nat
 df:List Dd
def setD (g:T SV) (d:Option Tmp) (v:SV):T SV:=match d with
 | none=>g
 | some d=>g.set (some v) d
def mrg (n0:Nat):List Nat→List Nat→List Nat
 | [],w=>w
 | k :: r,w=>bif Nat.blt k n0 && !(w.any (Nat.beq k)) then mrg n0 r (k :: w) else mrg n0 r w
theorem mem_mrg {n0 k:Nat}:∀ {l w:List Nat},k∈mrg n0 l w↔k∈w∨k∈l∧k<n0
 | [],w=>by simp [mrg]
 | j :: r,w=>by
  have hany:(w.any (Nat.beq j))=true↔j∈w:=by
   rw [List.any_eq_true]
   exact ⟨fun ⟨x,hx,h⟩=>by rw [Nat.eq_of_beq_eq_true h];exact hx,fun h=>⟨j,h,Nat.beq_refl j⟩⟩
  have hlt:Nat.blt j n0=true↔j<n0:=⟨Nat.le_of_ble_eq_true,Nat.ble_eq_true_of_le⟩
  simp only [mrg]
  cases hb:(Nat.blt j n0 && !(w.any (Nat.beq j))) with
  | true =>
   simp only [Bool.and_eq_true] at hb
   have:=hlt.1 hb.1
   simp only [cond_true]
   rw [mem_mrg]
   simp only [List.mem_cons]
   constructor
   ·rintro ((rfl | h) | h)
    ·exact .inr ⟨.inl rfl,this⟩
    ·exact .inl h
    ·exact .inr ⟨.inr h.1,h.2⟩
   ·rintro (h | ⟨rfl | h,h2⟩)
    ·exact .inl (.inr h)
    ·exact .inl (.inl rfl)
    ·exact .inr ⟨h,h2⟩
  | false =>
   simp only [cond_false]
   rw [mem_mrg]
   simp only [List.mem_cons]
   constructor
   ·rintro (h | h)
    ·exact .inl h
    ·exact .inr ⟨.inr h.1,h.2⟩
   ·rintro (h | ⟨rfl | h,h2⟩)
    ·exact .inl h
    ·left
     rw [hlt.2 h2,Bool.true_and,Bool.not_eq_false'] at hb
     exact hany.1 hb
    ·exact .inr ⟨h,h2⟩
structure Holds {S:Sys} (X:Xt S) (w00 w0:World) (ρ0:Env) (n0 N:Nat) (fb:List (Nat×Nat)) (rgs:Tmp→SV) (dfs:List Dd) (vw:Nat→Option (It S)) (WR:Nat→Prop) (ρ:Env) (a:Act) (W:World):Prop where
 sz:a.tmps.size=N
 df:a.defers=dfs.map (Dd.den ρ)
 rg:∀ t,a.tmps.getD t undef=(rgs t).den ρ
 top:Below w00.heap.size w00 W
 sat:∀ k i,vw k=some i→inR fb k=false→Sat X ρ W k i
 lo:∀ k,IsB (vw k)→inR fb k=false→w00.heap.size≤(ρ k).pos
 inj:∀ k k',IsB (vw k)→IsB (vw k')→inR fb k=false→inR fb k' = false→k≠k'→(ρ k).pos≠(ρ k').pos
 ag:∀ m,m<n0→ρ m=ρ0 m
 fsz:w0.heap.size≤W.heap.size
 fblk:∀ b,b<w0.heap.size→(∀ k,WR k→(ρ0 k).pos≠b)→W.heap[b]? = w0.heap[b]?
 ffct:∀ ρ' f,S.on ρ' f w0→S.on ρ' f W
 nw:∀ k,IsB (vw k)→n0≤k→w0.heap.size≤(ρ k).pos∨∃ j,WR j∧(ρ k).pos=(ρ0 j).pos
def tch {S:Sys} (n:Nat) (x:Rs S) (k:Nat):Prop:=(n≤k∧k<x.n)∨k∈x.wr
section
variable {P:Program} {S:Sys} {X:Xt S} {w00 w0:World} {ρ0:Env} {n0 N:Nat} {fb:List (Nat×Nat)}
theorem Holds.step {rgs rgs':Tmp→SV} {dfs:List Dd} {vw vw':Nat→Option (It S)} {WR WR':Nat→Prop} {ρ ρ':Env} {a:Act} {W W':World} {fbl:List (Nat×Nat)} {hpx:T (It S)} {nx:Nat} {x:Rs S} {v:Value} {dst:Option Tmp}
  (h:Holds X w00 w0 ρ0 n0 N fb rgs dfs vw WR ρ a W) (pl:Pl (fbl ++ fb) hpx nx x) (dy:Dy X w00 (fbl ++ fb) nx x ρ W v ρ' W') (hn0:n0≤nx) (hfb:∀ k,inR (fbl ++ fb) k=false↔inR fbl k=false∧inR fb k=false) (hfl:∀ k,nx≤k→inR fbl k=false)
  (hv1:∀ k,tch nx x k→vw' k=x.hp.get k) (hv2:∀ k,¬ tch nx x k→vw' k=vw k)
  (hr:∀ t,rgs' t=if dst=some t then x.v else rgs t) (hd:∀ t,dst=some t→t<N)
  (hW:∀ k,WR' k↔WR k∨k∈x.wr∧k<n0)
  (hnr:∀ t,∀ m∈(rgs t).nm,m<nx∨x.n≤m) (hnd:∀ m∈dfs.flatMap Dd.nm,m<nx∨x.n≤m) (hnv:∀ k i,vw k=some i→¬ tch nx x k→(k<nx∨x.n≤k)∧∀ m∈i.nm,m<nx∨x.n≤m)
  (hwv:∀ k∈x.wr,vw k=hpx.get k):Holds X w00 w0 ρ0 n0 N fb rgs' dfs vw' WR' ρ' (a.put dst v) W':=by
 have hwb:∀ k∈x.wr,k<nx∧inR fb k=false∧inR fbl k=false∧IsB (vw k):=fun k hk=>by
  obtain ⟨h1,h2,h3⟩:=pl.wr k hk
  exact ⟨h1,((hfb k).1 h2).2,((hfb k).1 h2).1,by rw [hwv k hk];exact h3⟩
 have hvis:∀ k,tch nx x k→inR fb k=false→inR (fbl ++ fb) k=false:=fun k hk hf=>(hfb k).2 ⟨by
  rcases hk with hk | hk
  ·exact hfl k hk.1
  ·exact (hwb k hk).2.2.1,hf⟩
 have hre:∀ k i,vw k=some i→¬ tch nx x k→ρ' k=ρ k:=fun k i hk ht=>dy.ag k (hnv k i hk ht).1
 have hreB:∀ k,IsB (vw k)→¬ tch nx x k→ρ' k=ρ k:=fun k ⟨i,hk,_⟩ ht=>hre k i hk ht
 have hlt:∀ k,IsB (vw k)→inR fb k=false→(ρ k).pos<W.heap.size:=fun k ⟨i,hk,hb⟩ hf=>(h.sat k i hk hf).lt hb
 have hpos:∀ k,IsB (vw k)→n0≤k→w0.heap.size≤(ρ k).pos∨∃ j,WR' j∧(ρ k).pos=(ρ0 j).pos:=fun k hk hn=>by
  rcases h.nw k hk hn with h1 | ⟨j,h1,h2⟩
  ·exact .inl h1
  ·exact .inr ⟨j,(hW j).2 (.inl h1),h2⟩
 have hwr:∀ k∈x.wr,w0.heap.size≤(ρ k).pos∨∃ j,WR' j∧(ρ k).pos=(ρ0 j).pos:=fun k hk=>by
  obtain ⟨-,-,-,h3⟩:=hwb k hk
  rcases Nat.lt_or_ge k n0 with h4 | h4
  ·exact .inr ⟨k,(hW k).2 (.inr ⟨hk,h4⟩),by rw [h.ag k h4]⟩
  ·exact hpos k h3 h4
 have hto:∀ {k},IsB (vw' k)→tch nx x k→IsB (x.hp.get k):=fun {k} hk ht=>by rwa [hv1 k ht] at hk
 have hof:∀ {k},IsB (vw' k)→¬ tch nx x k→IsB (vw k):=fun {k} hk ht=>by rwa [hv2 k ht] at hk
 refine ⟨?_,?_,fun t=>?_,dy.inv.top,fun k i hk hf=>?_,fun k hk hf=>?_,fun k k' hk hk' hf hf' hne=>?_,fun m hm=>(dy.ag m (.inl (by omega))).trans (h.ag m hm),Nat.le_trans h.fsz dy.fr.sz,fun b hb hne=>?_,fun ρ1 f hf=>dy.fr.fct _ _ (h.ffct _ _ hf),fun k hk hn=>?_⟩
 ·unfold Act.put
  split
  ·simp [h.sz]
  ·exact h.sz
 ·have:(a.put dst v).defers=a.defers:=by unfold Act.put;split <;> rfl
  rw [this,h.df]
  exact (dds_congr fun m hm=>dy.ag m (hnd m hm)).symm
 ·rw [hr]
  unfold Act.put
  cases hdst:dst with
  | none =>
   simp only
   rw [if_neg (by simp),h.rg]
   exact SV.den_congr fun m hm=>(dy.ag m (hnr t m hm)).symm
  | some d =>
   simp only
   by_cases e:d=t
   ·subst e
    have hlt:d<a.tmps.size:=by rw [h.sz];exact hd d hdst
    rw [if_pos rfl,← dy.v]
    simp [hlt]
   ·rw [if_neg (by simpa using e)]
    have h1:=h.rg t
    rw [show (a.tmps.setIfInBounds d v).getD t undef=a.tmps.getD t undef by simp [e],h1]
    exact SV.den_congr fun m hm=>(dy.ag m (hnr t m hm)).symm
 ·by_cases ht:tch nx x k
  ·rw [hv1 k ht] at hk
   exact dy.inv.sat k i hk (hvis k ht hf)
  ·rw [hv2 k ht] at hk
   refine Sat.congr (ρ:=ρ) (hre k i hk ht) (fun m hm=>dy.ag m ((hnv k i hk ht).2 m hm)) ?_
   have h1:=h.sat k i hk hf
   refine h1.carry (fun hB=>dy.fr.blk _ (h1.lt hB) fun j hj e'=>?_) fun f hf'=>dy.fr.fct _ _ hf'
   obtain ⟨-,h2,-,h3⟩:=hwb j hj
   exact h.inj j k h3 ⟨i,hk,hB⟩ h2 hf (fun e3=>ht (.inr (e3 ▸ hj))) e'
 ·by_cases ht:tch nx x k
  ·exact dy.inv.lo k (hto hk ht) (hvis k ht hf)
  ·rw [hreB k (hof hk ht) ht]
   exact h.lo k (hof hk ht) hf
 ·have key:∀ k k',IsB (vw' k)→IsB (vw' k')→inR fb k' = false→k≠k'→tch nx x k→¬ tch nx x k'→(ρ' k).pos≠(ρ' k').pos:=fun k k' hk hk' hf' hne ht ht'=>by
   have hk:=hto hk ht
   have hk':=hof hk' ht'
   have hlt:=hlt k' hk' hf'
   rw [hreB k' hk' ht']
   have hj:∀ j∈x.wr,(ρ j).pos≠(ρ k').pos:=fun j hj=>by
    obtain ⟨-,h2,-,h3⟩:=hwb j hj
    exact h.inj j k' h3 hk' h2 hf' fun e3=>ht' (.inr (e3 ▸ hj))
   rcases ht with ht | ht
   ·rcases dy.nw k ht.1 hk with h1 | ⟨j,h1,h2⟩
    ·omega
    ·rw [h2];exact hj j h1
   ·rw [dy.ag k (.inl (hwb k ht).1)]
    exact hj k ht
  by_cases ht:tch nx x k
  ·by_cases ht':tch nx x k'
   ·exact dy.inv.inj k k' (hto hk ht) (hto hk' ht') (hvis k ht hf) (hvis k' ht' hf') hne
   ·exact key k k' hk hk' hf' hne ht ht'
  ·by_cases ht':tch nx x k'
   ·exact (key k' k hk' hk hf hne.symm ht' ht).symm
   ·rw [hreB k (hof hk ht) ht,hreB k' (hof hk' ht') ht']
    exact h.inj k k' (hof hk ht) (hof hk' ht') hf hf' hne
 ·rw [dy.fr.blk b (Nat.lt_of_lt_of_le hb h.fsz) fun k hk e=>?_]
  ·exact h.fblk b hb fun k hk=>hne k ((hW k).2 (.inl hk))
  ·rcases hwr k hk with h1 | ⟨j,h1,h2⟩
   ·omega
   ·exact hne j h1 (h2.symm.trans e)
 ·by_cases ht:tch nx x k
  ·rcases ht with ht | ht
   ·rcases dy.nw k ht.1 (hto hk (.inl ht)) with h1 | ⟨j,h1,h2⟩
    ·exact .inl (Nat.le_trans h.fsz h1)
    ·rw [h2];exact hwr j h1
   ·rw [dy.ag k (.inl (hwb k ht).1)]
    exact hwr k ht
  ·rw [hreB k (hof hk ht) ht]
   exact hpos k (hof hk ht) hn
structure PlS (fb:List (Nat×Nat)) (hp0:T (It S)) (n0:Nat) (σ:St S):Prop where
 le:n0≤σ.n
 rg:∀ t,∀ m∈(rdG σ.regs t).nm,m<σ.n
 wf:Wf σ.hp σ.n
 keep:∀ k,k<n0→k ∉ σ.wr→σ.hp.get k=hp0.get k
 wr:∀ k∈σ.wr,k<n0∧inR fb k=false∧IsB (hp0.get k)
 df:∀ m∈σ.df.flatMap Dd.nm,m<σ.n
def Says (X:Xt S) (w00 w0:World) (ρ0:Env) (n0 N:Nat) (fb:List (Nat×Nat)) (σ:St S) (ρ:Env) (a:Act) (W:World):Prop:=Holds X w00 w0 ρ0 n0 N fb (rdG σ.regs) σ.df σ.hp.get (fun k=>k∈σ.wr) ρ a W
theorem rdG_set {g:T SV} {d:Option Tmp} {v:SV} {t:Tmp} (hd:∀ t,d=some t→t<top):rdG (setD g d v) t=if d=some t then v else rdG g t:=by
 unfold rdG setD
 cases d with
 | none=>simp
 | some d =>
  simp only
  rw [set_get (hd d rfl)]
  by_cases e:t=d
  ·subst e;simp
  ·rw [if_neg e,if_neg (by simpa using fun e'=>e e'.symm)]
theorem Holds.inv {vw:Nat→Option (It S)} {rgs:Tmp→SV} {dfs:List Dd} {WR:Nat→Prop} {ρ:Env} {a:Act} {W:World} {fbx:List (Nat×Nat)} {hpx:T (It S)} (h:Holds X w00 w0 ρ0 n0 N fb rgs dfs vw WR ρ a W) (hf:∀ k i,hpx.get k=some i→inR fbx k=false→inR fb k=false∧vw k=some i):Inv X w00 fbx ρ hpx W:=
 have hB:∀ k,IsB (hpx.get k)→inR fbx k=false→inR fb k=false∧IsB (vw k):=fun k ⟨i,hk,hb⟩ hv=>⟨(hf k i hk hv).1,i,(hf k i hk hv).2,hb⟩
 ⟨h.top,fun k i hk hv=>h.sat k i (hf k i hk hv).2 (hf k i hk hv).1,fun k hk hv=>h.lo k (hB k hk hv).2 (hB k hk hv).1,
  fun k k' hk hk' hv hv' hne=>h.inj k k' (hB k hk hv).2 (hB k' hk' hv').2 (hB k hk hv).1 (hB k' hk' hv').1 hne⟩
theorem Pl.step {hp0:T (It S)} {σ:St S} (ps:PlS fb hp0 n0 σ) {x:Rs S} (pl:Pl fb σ.hp σ.n x) {dst:Option Tmp} (hd:∀ t,dst=some t→t<top):PlS fb hp0 n0 ⟨setD σ.regs dst x.v,x.hp,x.n,mrg n0 x.wr σ.wr,σ.df⟩:=by
 refine ⟨Nat.le_trans ps.le pl.le,fun t m hm=>?_,pl.wf ps.wf,fun k hk hn=>?_,fun k hk=>?_,fun m hm=>Nat.lt_of_lt_of_le (ps.df m hm) pl.le⟩
 ·have hm:m∈(rdG (setD σ.regs dst x.v) t).nm:=hm
  rw [rdG_set hd] at hm
  split at hm
  ·exact pl.v m hm
  ·exact Nat.lt_of_lt_of_le (ps.rg t m hm) pl.le
 ·have hn:¬ (k∈σ.wr∨k∈x.wr∧k<n0):=fun h=>hn (mem_mrg.2 h)
  show x.hp.get k=_
  rw [pl.keep k (Nat.lt_of_lt_of_le hk ps.le) fun h=>hn (.inr ⟨h,hk⟩)]
  exact ps.keep k hk fun h=>hn (.inl h)
 ·rcases mem_mrg.1 hk with hk | ⟨hk,hlt⟩
  ·exact ps.wr k hk
  ·obtain ⟨-,h2,h3⟩:=pl.wr k hk
   by_cases hw:k∈σ.wr
   ·exact ps.wr k hw
   ·rw [ps.keep k hlt hw] at h3
    exact ⟨hlt,h2,h3⟩
theorem Says.step {hp0:T (It S)} {σ:St S} (ps:PlS fb hp0 n0 σ) {ρ ρ':Env} {a:Act} {W W':World} (h:Says X w00 w0 ρ0 n0 N fb σ ρ a W) {x:Rs S} (pl:Pl fb σ.hp σ.n x) {v:Value} (dy:Dy X w00 fb σ.n x ρ W v ρ' W') {dst:Option Tmp} (hd:∀ t,dst=some t→t<N) (hN:N≤top) :
  Says X w00 w0 ρ0 n0 N fb ⟨setD σ.regs dst x.v,x.hp,x.n,mrg n0 x.wr σ.wr,σ.df⟩ ρ' (a.put dst v) W':=by
 refine Holds.step (fbl:=[]) (hpx:=σ.hp) (nx:=σ.n) (x:=x) h (by simpa using pl) (by simpa using dy) ps.le (fun k=>by simp [inR]) (fun _ _=>rfl) (fun k hk=>rfl) (fun k hk=>?_) (fun t=>rdG_set fun t ht=>Nat.lt_of_lt_of_le (hd t ht) hN) hd (fun k=>mem_mrg) (fun t m hm=>.inl (ps.rg t m hm)) (fun m hm=>.inl (ps.df m hm)) (fun k i hk _=>⟨.inl (ps.wf k i hk).1,fun m hm=>.inl ((ps.wf k i hk).2 m hm)⟩) (fun k _=>rfl)
 have h1:¬ (σ.n≤k∧k<x.n):=fun h=>hk (.inl h)
 have h2:k ∉ x.wr:=fun h=>hk (.inr h)
 rcases Nat.lt_or_ge k σ.n with h3 | h3
 ·exact pl.keep k h3 h2
 ·have n1:σ.hp.get k=none:=by
   cases hg:σ.hp.get k with
   | none=>rfl
   | some i=>have:=(ps.wf k i hg).1;omega
  have n2:x.hp.get k=none:=by
   cases hg:x.hp.get k with
   | none=>rfl
   | some i=>have:=(pl.wf ps.wf k i hg).1;omega
  show x.hp.get k=σ.hp.get k
  rw [n1,n2]
end
end Rx.Ry
namespace Rx.Ry
open Go.RowKit
section
variable {S:Sys} (ev:(Tmp→Option SV)→List (Nat×Nat)→T (It S)→Nat→Op→Option (Rs S))
def guardG (l:List Oper) (rd:Tmp→Option SV) (o:Oper):Option Bool:=match o.guard with
 | none=>some true
 | some (j,want)=>match (l[j]?).bind (·.dst) with
  | some t=>match rd t with
   | some (.e (.s (.bl b)))=>some (b == want)
   | some .und=>some false
   | _=>none
  | none=>none
def evalG (l:List Oper) (rd:Tmp→Option SV) (fb:List (Nat×Nat)) (hp:T (It S)) (n:Nat) (o:Oper):Option (Rs S):=match guardG l rd o with
 | some true=>ev rd fb hp n o.op
 | some false=>some ⟨.und,hp,n,[]⟩
 | none=>none
def runS (fb:List (Nat×Nat)) (n0:Nat) (l:List Oper):List Oper→St S→Option (St S)
 | [],σ=>some σ
 | o :: r,σ=>match evalG ev l (fun t=>some (rdG σ.regs t)) fb σ.hp σ.n o with
  | some x=>runS fb n0 l r ⟨setD σ.regs o.dst x.v,x.hp,x.n,mrg n0 x.wr σ.wr,σ.df⟩
  | none=>none
end
section
variable {P:Program} {S:Sys} {X:Xt S} {w00 w0:World} {ρ0:Env} {n0 N:Nat} {fb:List (Nat×Nat)}
variable {ev:(Tmp→Option SV)→List (Nat×Nat)→T (It S)→Nat→Op→Option (Rs S)}
theorem guard_ok {l:List Oper} {rd:Tmp→Option SV} {o:Oper} {x:Bool} (h:guardG l rd o=some x) {ρ:Env} {a:Act} (hr:∀ t v,rd t=some v→a.tmps.getD t undef=v.den ρ):Region.wanted o (yielded l.toArray a.tmps)=x:=by
 unfold guardG at h
 unfold Region.wanted
 split at h
 ·rename_i hg;rw [hg];exact Option.some.inj h
 ·rename_i j want hg
  rw [hg]
  simp only
  split at h
  ·rename_i t ht
   have hy:yielded l.toArray a.tmps j=match a.tmps[t]? with | some (.bool b)=>some b | _=>none:=by
    unfold yielded
    rw [List.getElem?_toArray,ht]
    rfl
   rw [hy]
   split at h
   ·rename_i b hb
    have h1:=hr t _ hb
    have h2:a.tmps[t]? = some (.bool b):=by
     cases hg2:a.tmps[t]? with
     | none=>rw [Array.getD_eq_getD_getElem?,hg2] at h1;simp [SV.den,El.den,Cell.den,undef] at h1
     | some u=>rw [Array.getD_eq_getD_getElem?,hg2] at h1;exact congrArg some h1
    rw [h2,← Option.some.inj h]
    rfl
   ·rename_i hb
    have h1:=hr t _ hb
    rw [← Option.some.inj h]
    cases hg2:a.tmps[t]? with
    | none=>rfl
    | some u =>
     rw [Array.getD_eq_getD_getElem?,hg2] at h1
     have h1:u=undef:=h1
     rw [h1];rfl
   ·cases h
  ·cases h
theorem evalG_ok (hev:EvOk P X w00 ev) {l:List Oper} {rd:Tmp→Option SV} {hp:T (It S)} {n:Nat} {o:Oper} {r:Rs S} (h:evalG ev l rd fb hp n o=some r) (wf:Wf hp n) :
  Pl fb hp n r∧∀ (ρ:Env) (W:World) (a:Act),Inv X w00 fb ρ hp W→(∀ t v,rd t=some v→a.tmps.getD t undef=v.den ρ)→(∀ t v,rd t=some v→∀ m∈v.nm,m<n) →
   if Region.wanted o (yielded l.toArray a.tmps) then tk P o a W fun v W'=>∃ ρ',Dy X w00 fb n r ρ W v ρ' W' else Dy X w00 fb n r ρ W undef ρ W:=by
 unfold evalG at h
 split at h
 ·rename_i hg
  obtain ⟨h1,h2⟩:=hev rd fb hp n o r h wf
  refine ⟨h1,fun ρ W a hi hr hn=>?_⟩
  rw [if_pos (guard_ok hg hr)]
  exact h2 ρ W a hi hr hn
 ·rename_i hg
  cases h
  refine ⟨⟨Nat.le_refl _,fun m hm=>(by cases hm),fun h=>h,fun _ _ _=>rfl,fun k hk=>by cases hk⟩,fun ρ W a hi hr _=>?_⟩
  rw [if_neg (by rw [guard_ok hg hr];decide)]
  exact ⟨fun _ _=>rfl,rfl,hi,fr_refl S ρ W,fun k hk hg=>by have:=wf.lt hg;omega⟩
 ·cases h
theorem runS_ok {ro:Option Nat} {m:Nat} (hev:EvOk P X w00 ev) (hN:N≤top) {hp0:T (It S)} {l:List Oper} (hd:∀ o∈l,∀ t,o.dst=some t→t<N):∀ {r:List Oper} {i:Nat} {σ σ':St S},(∀ j o,r[j]? = some o→l[i+j]? = some o)→i+r.length=l.length→runS ev fb n0 l r σ=some σ'→PlS fb hp0 n0 σ →
  PlS fb hp0 n0 σ'∧σ.n≤σ'.n∧∀ ρ a W (Q:Exit→Act→World→Prop),Says X w00 w0 ρ0 n0 N fb σ ρ a W→(∀ ρ' a' W',(∀ n,n<σ.n→ρ' n=ρ n)→Says X w00 w0 ρ0 n0 N fb σ' ρ' a' W'→Q .normal a' W')→wpOpsIn (fen ro) m P l.toArray Q (List.range' i r.length) a W
 | [],i,σ,σ',_,_,h,ps=>by
  simp only [runS,Option.some.injEq] at h
  subst h
  exact ⟨ps,Nat.le_refl _,fun ρ a W Q hs hQ=>hQ ρ a W (fun _ _=>rfl) hs⟩
 | o :: r,i,σ,σ',hl,hlen,h,ps=>by
  simp only [runS] at h
  split at h
  ·rename_i x hx
   have ho:l[i]? = some o:=by simpa using hl 0 o rfl
   have hdo:=hd o (List.mem_of_getElem? ho)
   obtain ⟨pl,go⟩:=evalG_ok hev hx ps.wf
   have ps1:=Pl.step ps pl (dst:=o.dst) fun t ht=>Nat.lt_of_lt_of_le (hdo t ht) hN
   obtain ⟨ps2,le2,go2⟩:=runS_ok hev hN hd (i:=i+1) (fun j o' hj=>by have:=hl (j+1) o' (by simpa using hj);rwa [show i+(j+1)=i+1+j by omega] at this) (by simp only [List.length_cons] at hlen;omega) h ps1
   refine ⟨ps2,Nat.le_trans pl.le le2,fun ρ a W Q hs hQ=>?_⟩
   have hi:Inv X w00 fb ρ σ.hp W:=Holds.inv hs fun k i hk hf=>⟨hf,hk⟩
   have h1:=go ρ W a hi (fun t v hv=>by cases hv;exact hs.rg t) (fun t v hv=>by cases hv;exact ps.rg t)
   rw [List.length_cons,List.range'_succ,wpOpsIn_cons]
   unfold wpOpIn
   rw [show l.toArray[i]? = some o by simpa using ho]
   simp only
   split
   ·rename_i hw
    rw [if_pos hw] at h1
    refine wpIn_of_tk h1 fun v W' ⟨ρ',dy⟩=>?_
    exact go2 ρ' _ W' Q (Says.step ps hs pl dy hdo hN) fun ρ2 a2 W2 hl2 hs2=>hQ ρ2 a2 W2 (fun n hn=>(hl2 n (Nat.lt_of_lt_of_le hn pl.le)).trans (dy.ag n (.inl hn))) hs2
   ·rename_i hw
    rw [if_neg hw] at h1
    exact ⟨fun f _=>fen_fn ro f,go2 ρ _ W Q (Says.step ps hs pl h1 hdo hN) fun ρ2 a2 W2 hl2 hs2=>hQ ρ2 a2 W2 (fun n hn=>hl2 n (Nat.lt_of_lt_of_le hn pl.le)) hs2⟩
  ·cases h
end
end Rx.Ry
namespace Rx.Ry
open Go.RowKit
structure Rd (S:Sys) where
 n:Nat
 x:Rs S
instance {S:Sys}:Inhabited (Rd S):=⟨⟨0,⟨.und,.l,0,[]⟩⟩⟩
section
variable {S:Sys} (ev:(Tmp→Option SV)→List (Nat×Nat)→T (It S)→Nat→Op→Option (Rs S))
def rngs (b:Nat):Nat→List (Rd S)→List (Nat×Nat)
 | _,[]=>[]
 | j,r :: rest=>bif b.testBit j || Nat.beq r.n r.x.n then rngs b (j+1) rest else (r.n,r.x.n) :: rngs b (j+1) rest
def sing (bs:List Nat) (i n:Nat):Nat→List (List Nat)→List (Nat×Nat)
 | _,[]=>[]
 | j,w :: rest=>(bif Nat.beq j i || (bs.getD i 0).testBit j || (bs.getD j 0).testBit i then [] else (w.filter fun k=>Nat.blt k n).map fun k=>(k,k+1)) ++ sing bs i n (j+1) rest
def rdD (l:List Oper) (bs:List Nat) (i:Nat) (g:T SV) (t:Tmp):Option SV:=match wr l t 0 with
 | none=>some (rdG g t)
 | some j=>bif Nat.beq j i || (bs.getD i 0).testBit j || (bs.getD j 0).testBit i then some (rdG g t) else none
def okD (rg:List (Nat×Nat)) (n:Nat) (x:Rs S):Bool:=match rg with
 | []=>true
 | _=>(x.v.nm.all fun m=>!inR rg m) && (List.range' n (x.n - n) ++ x.wr).all fun k=>match x.hp.get k with
  | some it=>it.nm.all fun m=>!inR rg m
  | none=>true
def runD (fb:List (Nat×Nat)) (n0:Nat) (bs:List Nat) (wrs:List (List Nat)) (l:List Oper):List Oper→Nat→List (Rd S)→St S→Option (List (Rd S)×St S)
 | [],_,rs,σ=>some (rs,σ)
 | o :: r,i,rs,σ=>match evalG ev l (rdD l bs i σ.regs) ((rngs (bs.getD i 0) 0 rs ++ sing bs i σ.n 0 wrs) ++ fb) σ.hp σ.n o with
  | some x=>bif okD (rngs (bs.getD i 0) 0 rs) σ.n x then runD fb n0 bs wrs l r (i+1) (rs ++ [⟨σ.n,x⟩]) ⟨setD σ.regs o.dst x.v,x.hp,x.n,mrg n0 x.wr σ.wr,σ.df⟩ else none
  | none=>none
def subL (a b:List Nat):Bool:=a.all fun k=>b.any (Nat.beq k)
noncomputable def nilW (l:List (Rd S)):Bool:=List.rec true (fun r _ ih=>List.rec ih (fun _ _ _=>false) r.x.wr) l
noncomputable def regD (fb:List (Nat×Nat)) (n0:Nat) (l:List Oper) (σ:St S):Option (St S):=
 match runD ev fb n0 (befs l []) [] l l 0 [] σ with
 | some (rs,σ') =>
  bif nilW rs || (List.range l.length).all (fun i=>(sing (befs l []) i σ'.n 0 (rs.map (·.x.wr))).isEmpty) then some σ' else
  match runD ev fb n0 (befs l []) (rs.map (·.x.wr)) l l 0 [] σ with
  | some (rs',σ'')=>bif (List.range l.length).all (fun i=>subL (rs'.getD i default).x.wr (rs.getD i default).x.wr) then some σ'' else none
  | none=>none
 | none=>none
end
theorem nilW_sing {S:Sys} {bs:List Nat} {i n:Nat}:∀ {rs:List (Rd S)} {j:Nat},nilW rs=true→(sing bs i n j (rs.map (·.x.wr))).isEmpty=true
 | [],j,_=>rfl
 | r :: rest,j,h=>by
  have h:(List.rec (nilW rest) (fun _ _ _=>false) r.x.wr:Bool)=true:=h
  cases hw:r.x.wr with
  | cons a b=>rw [hw] at h;cases h
  | nil =>
   rw [hw] at h
   have ih:=nilW_sing (bs:=bs) (i:=i) (n:=n) (rs:=rest) (j:=j+1) h
   simp only [List.map_cons,sing,hw,List.filter_nil,List.map_nil]
   rw [List.isEmpty_iff] at ih ⊢
   rw [ih]
   cases (Nat.beq j i || (bs.getD i 0).testBit j || (bs.getD j 0).testBit i) <;> rfl
theorem inR_app {a b:List (Nat×Nat)} {k:Nat}:inR (a ++ b) k=(inR a k || inR b k):=by
 induction a with
 | nil=>simp [inR]
 | cons p r ih=>simp only [List.cons_append,inR,ih,Bool.or_assoc]
theorem inR_map {l:List Nat} {k:Nat}:inR (l.map fun k=>(k,k+1)) k=true↔k∈l:=by
 induction l with
 | nil=>simp [inR]
 | cons a r ih =>
  simp only [List.map_cons,inR,Bool.or_eq_true,Bool.and_eq_true,ih,List.mem_cons]
  constructor
  ·rintro (⟨h1,h2⟩ | h)
   ·have h1:=Nat.le_of_ble_eq_true h1
    have h2:k<a+1:=Nat.le_of_ble_eq_true h2
    exact .inl (by omega)
   ·exact .inr h
  ·rintro (rfl | h)
   ·exact .inl ⟨Nat.ble_eq_true_of_le (Nat.le_refl _),Nat.ble_eq_true_of_le (Nat.le_refl _)⟩
   ·exact .inr h
section
variable {S:Sys}
theorem rngs_in {b k:Nat}:∀ {rs:List (Rd S)} {j0:Nat},inR (rngs b j0 rs) k=true↔∃ j r,rs[j]? = some r∧b.testBit (j0+j)=false∧r.n≤k∧k<r.x.n
 | [],j0=>by simp [rngs,inR]
 | r :: rest,j0=>by
  have ih:=rngs_in (b:=b) (k:=k) (rs:=rest) (j0:=j0+1)
  have hs:(∃ j r',(r :: rest)[j]? = some r'∧b.testBit (j0+j)=false∧r'.n≤k∧k<r'.x.n)↔(b.testBit j0=false∧r.n≤k∧k<r.x.n)∨∃ j r',rest[j]? = some r'∧b.testBit (j0+1+j)=false∧r'.n≤k∧k<r'.x.n:=by
   constructor
   ·rintro ⟨j,r',h1,h2,h3⟩
    cases j with
    | zero =>
     obtain rfl:r=r':=by simpa using h1
     exact .inl ⟨h2,h3⟩
    | succ j=>exact .inr ⟨j,r',by simpa using h1,by rwa [show j0+1+j=j0+(j+1) by omega],h3⟩
   ·rintro (⟨h2,h3⟩ | ⟨j,r',h1,h2,h3⟩)
    ·exact ⟨0,r,rfl,h2,h3⟩
    ·exact ⟨j+1,r',by simpa using h1,by rwa [show j0+(j+1)=j0+1+j by omega],h3⟩
  rw [hs,← ih]
  simp only [rngs]
  cases hb:(b.testBit j0 || Nat.beq r.n r.x.n) with
  | true =>
   simp only [cond_true]
   constructor
   ·exact .inr
   ·rintro (⟨h1,h2,h3⟩ | h)
    ·rw [h1,Bool.false_or] at hb
     have:=Nat.eq_of_beq_eq_true hb
     omega
    ·exact h
  | false =>
   rw [Bool.or_eq_false_iff] at hb
   simp only [cond_false,inR,Bool.or_eq_true,Bool.and_eq_true]
   constructor
   ·rintro (⟨h1,h2⟩ | h)
    ·exact .inl ⟨hb.1,Nat.le_of_ble_eq_true h1,Nat.le_of_ble_eq_true h2⟩
    ·exact .inr h
   ·rintro (⟨_,h1,h2⟩ | h)
    ·exact .inl ⟨Nat.ble_eq_true_of_le h1,Nat.ble_eq_true_of_le h2⟩
    ·exact .inr h
theorem sing_in {bs:List Nat} {i n k:Nat}:∀ {ws:List (List Nat)} {j0:Nat},inR (sing bs i n j0 ws) k=true↔∃ j w,ws[j]? = some w∧k∈w∧k<n∧j0+j≠i∧(bs.getD i 0).testBit (j0+j)=false∧(bs.getD (j0+j) 0).testBit i=false
 | [],j0=>by simp [sing,inR]
 | w :: rest,j0=>by
  have ih:=sing_in (bs:=bs) (i:=i) (n:=n) (k:=k) (ws:=rest) (j0:=j0+1)
  have hs:(∃ j w',(w :: rest)[j]? = some w'∧k∈w'∧k<n∧j0+j≠i∧(bs.getD i 0).testBit (j0+j)=false∧(bs.getD (j0+j) 0).testBit i=false)↔(k∈w∧k<n∧j0≠i∧(bs.getD i 0).testBit j0=false∧(bs.getD j0 0).testBit i=false)∨∃ j w',rest[j]? = some w'∧k∈w'∧k<n∧j0+1+j≠i∧(bs.getD i 0).testBit (j0+1+j)=false∧(bs.getD (j0+1+j) 0).testBit i=false:=by
   constructor
   ·rintro ⟨j,w',h1,h2⟩
    cases j with
    | zero =>
     obtain rfl:w=w':=by simpa using h1
     exact .inl h2
    | succ j=>exact .inr ⟨j,w',by simpa using h1,by rwa [show j0+1+j=j0+(j+1) by omega]⟩
   ·rintro (h2 | ⟨j,w',h1,h2⟩)
    ·exact ⟨0,w,rfl,h2⟩
    ·exact ⟨j+1,w',by simpa using h1,by rwa [show j0+(j+1)=j0+1+j by omega]⟩
  rw [hs,← ih]
  simp only [sing,inR_app,Bool.or_eq_true]
  refine or_congr ?_ Iff.rfl
  cases hb:(Nat.beq j0 i || (bs.getD i 0).testBit j0 || (bs.getD j0 0).testBit i) with
  | true =>
   simp only [cond_true,inR,Bool.false_eq_true,false_iff]
   rintro ⟨-,-,h1,h2,h3⟩
   rw [h2,h3,Bool.or_false,Bool.or_false] at hb
   exact h1 (Nat.eq_of_beq_eq_true hb)
  | false =>
   simp only [cond_false,inR_map,List.mem_filter]
   rw [Bool.or_eq_false_iff,Bool.or_eq_false_iff] at hb
   constructor
   ·rintro ⟨h1,h2⟩
    exact ⟨h1,Nat.le_of_ble_eq_true h2,(fun e=>by rw [e,Nat.beq_refl] at hb;cases hb.1.1),hb.1.2,hb.2⟩
   ·rintro ⟨h1,h2,-⟩
    exact ⟨h1,Nat.ble_eq_true_of_le h2⟩
def lastV {α:Type} (wt:Nat→Bool) (val:Nat→α) (init:α):Nat→α
 | 0=>init
 | m+1=>bif wt m then val m else lastV wt val init m
theorem lastV_none {α:Type} {wt:Nat→Bool} {val:Nat→α} {init:α} {i:Nat}:∀ {m:Nat},i≤m→(∀ j,i≤j→j<m→wt j=false)→lastV wt val init m=lastV wt val init i
 | 0,hi,_=>by rw [Nat.le_zero.1 hi]
 | m+1,hi,h=>by
  rcases Nat.eq_or_lt_of_le hi with e | e
  ·rw [e]
  ·simp only [lastV]
   rw [h m (by omega) (by omega),cond_false]
   exact lastV_none (by omega) fun j h1 h2=>h j h1 (by omega)
theorem lastV_congr {α:Type} {wt wt':Nat→Bool} {val:Nat→α} {init:α}:∀ {m:Nat},(∀ j,j<m→wt j=wt' j)→lastV wt val init m=lastV wt' val init m
 | 0,_=>rfl
 | m+1,h=>by
  simp only [lastV]
  rw [h m (by omega),lastV_congr fun j hj=>h j (by omega)]
theorem lastV_at {α:Type} {wt:Nat→Bool} {val:Nat→α} {init:α} {i m:Nat} (hi:i<m) (hw:wt i=true) (h:∀ j,i<j→j<m→wt j=false):lastV wt val init m=val i:=by
 rw [lastV_none (i:=i+1) hi fun j h1 h2=>h j h1 h2]
 simp [lastV,hw]
theorem lastV_cases {α:Type} (wt:Nat→Bool) (val:Nat→α) (init:α):∀ m,lastV wt val init m=init∧(∀ j,j<m→wt j=false)∨∃ j,j<m∧wt j=true∧lastV wt val init m=val j
 | 0=>.inl ⟨rfl,fun _ h=>by omega⟩
 | m+1=>by
  cases hw:wt m with
  | true=>exact .inr ⟨m,by omega,hw,by simp [lastV,hw]⟩
  | false =>
   rcases lastV_cases wt val init m with ⟨h1,h2⟩ | ⟨j,h1,h2,h3⟩
   ·exact .inl ⟨by simpa [lastV,hw] using h1,fun j hj=>by
     by_cases e:j=m
     ·rw [e];exact hw
     ·exact h2 j (by omega)⟩
   ·exact .inr ⟨j,by omega,h2,by simpa [lastV,hw] using h3⟩
end
section
variable {S:Sys}
def pre (n0:Nat) (l:List Oper) (σ:St S) (rs:List (Rd S)):Nat→St S
 | 0=>σ
 | i+1=>⟨setD (pre n0 l σ rs i).regs ((l[i]?).bind (·.dst)) (rs.getD i default).x.v,(rs.getD i default).x.hp,(rs.getD i default).x.n,mrg n0 (rs.getD i default).x.wr (pre n0 l σ rs i).wr,(pre n0 l σ rs i).df⟩
theorem pre_congr {n0:Nat} {l:List Oper} {σ:St S} {rs rs':List (Rd S)}:∀ {i:Nat},(∀ j,j<i→rs.getD j default=rs'.getD j default)→pre n0 l σ rs i=pre n0 l σ rs' i
 | 0,_=>rfl
 | i+1,h=>by
  simp only [pre]
  rw [h i (by omega),pre_congr fun j hj=>h j (by omega)]
variable {ev:(Tmp→Option SV)→List (Nat×Nat)→T (It S)→Nat→Op→Option (Rs S)} {fb:List (Nat×Nat)} {n0:Nat} {bs:List Nat} {l:List Oper}
theorem runD_get {wrs:List (List Nat)} {σ0:St S}:∀ {r:List Oper} {i:Nat} {rs full:List (Rd S)} {σ σ':St S},(∀ j o,r[j]? = some o→l[i+j]? = some o)→runD ev fb n0 bs wrs l r i rs σ=some (full,σ')→rs.length=i→σ=pre n0 l σ0 rs i →
  full.take i=rs∧full.length=i+r.length∧σ' = pre n0 l σ0 full (i+r.length)∧∀ j o,r[j]? = some o→(full.getD (i+j) default).n=(pre n0 l σ0 full (i+j)).n ∧
   evalG ev l (rdD l bs (i+j) (pre n0 l σ0 full (i+j)).regs) ((rngs (bs.getD (i+j) 0) 0 (full.take (i+j)) ++ sing bs (i+j) (pre n0 l σ0 full (i+j)).n 0 wrs) ++ fb) (pre n0 l σ0 full (i+j)).hp (pre n0 l σ0 full (i+j)).n o=some (full.getD (i+j) default).x ∧
   okD (rngs (bs.getD (i+j) 0) 0 (full.take (i+j))) (pre n0 l σ0 full (i+j)).n (full.getD (i+j) default).x=true
 | [],i,rs,full,σ,σ',_,h,hl,hσ=>by
  simp only [runD,Option.some.injEq,Prod.mk.injEq] at h
  obtain ⟨rfl,rfl⟩:=h
  exact ⟨by rw [← hl];simp,by simp [hl],hσ,fun j o h=>by simp at h⟩
 | o :: r,i,rs,full,σ,σ',hlr,h,hl,hσ=>by
  simp only [runD] at h
  split at h
  ·rename_i x hx
   cases hok:okD (rngs (bs.getD i 0) 0 rs) σ.n x with
   | false=>rw [hok] at h;cases h
   | true =>
    rw [hok] at h
    have ho:l[i]? = some o:=by simpa using hlr 0 o rfl
    have hgi:(rs ++ [(⟨σ.n,x⟩:Rd S)]).getD i default=⟨σ.n,x⟩:=by rw [← hl];simp [List.getD]
    have hpi:pre n0 l σ0 (rs ++ [(⟨σ.n,x⟩:Rd S)]) i=σ:=by
     rw [hσ]
     exact pre_congr fun j hj=>by simp [List.getD,List.getElem?_append_left (show j<rs.length by omega)]
    obtain ⟨h1,h2,h3,h4⟩:=runD_get (σ0:=σ0) (i:=i+1) (fun j o' hj=>by have:=hlr (j+1) o' (by simpa using hj);rwa [show i+(j+1)=i+1+j by omega] at this) h (by simp [hl]) (by
     simp only [pre,hgi,hpi,ho,Option.bind_some])
    have h5:full.take i=rs:=by
     have:(full.take (i+1)).take i=(rs ++ [(⟨σ.n,x⟩:Rd S)]).take i:=by rw [h1]
     rw [List.take_take,Nat.min_eq_left (by omega)] at this
     rw [this,← hl];simp
    have hfi:full.getD i default=⟨σ.n,x⟩:=by
     have:(full.take (i+1))[i]? = (rs ++ [(⟨σ.n,x⟩:Rd S)])[i]?:=by rw [h1]
     rw [List.getElem?_take_of_lt (by omega)] at this
     rw [List.getD,this,← List.getD,hgi]
    have hpf:pre n0 l σ0 full i=σ:=by
     rw [hσ]
     exact pre_congr fun j hj=>by
      have:(full.take i)[j]? = rs[j]?:=by rw [h5]
      rw [List.getElem?_take_of_lt hj] at this
      simp only [List.getD,this]
    refine ⟨h5,by simp [h2];omega,by rw [h3];congr 1;simp;omega,fun j o' hj=>?_⟩
    cases j with
    | zero =>
     obtain rfl:o=o':=by simpa using hj
     simp only [Nat.add_zero]
     rw [hfi,hpf,h5]
     exact ⟨rfl,hx,hok⟩
    | succ j =>
     have:=h4 j o' (by simpa using hj)
     rwa [show i+1+j=i+(j+1) by omega] at this
  ·cases h
end
end Rx.Ry
end Go.Proofs.YtmijlcldmefggaaGreatDoor
