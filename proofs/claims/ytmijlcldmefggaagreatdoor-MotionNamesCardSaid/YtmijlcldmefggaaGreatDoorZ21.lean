/- What the proof rests on, part 21. -/
import Derived.Test.YtmijlcldmefggaaGreatDoorZ20
namespace Go.Proofs.YtmijlcldmefggaaGreatDoor
set_option maxRecDepth 100000
set_option maxHeartbeats 80000000
namespace Rx.Ry
open Go.RowKit
inductive T (α:Type) where
 | l
 | n (v:Option α) (a b:T α)
def T.get {α:Type}:T α→Nat→Option α
 | .l,_=>none
 | .n v a b,k=>match k with
  | 0=>v
  | k+1=>bif Nat.beq (Nat.mod k 2) 0 then a.get (Nat.div k 2) else b.get (Nat.div k 2)
def T.one {α:Type} (v:α):Nat→Nat→T α
 | 0,_=>.l
 | f+1,k=>match k with
  | 0=>.n (some v) .l .l
  | k+1=>bif Nat.beq (Nat.mod k 2) 0 then (match T.one v f (Nat.div k 2) with
    | .l=>.n none .l .l
    | .n x a b=>.n none (.n x a b) .l) else (match T.one v f (Nat.div k 2) with
    | .l=>.n none .l .l
    | .n x a b=>.n none .l (.n x a b))
def T.set {α:Type} (o:Option α):T α→Nat→T α
 | .l,k=>match o with
  | none=>.l
  | some v=>T.one v 40 k
 | .n v a b,k=>match k with
  | 0=>.n o a b
  | k+1=>bif Nat.beq (Nat.mod k 2) 0 then (match a.set o (Nat.div k 2) with
    | .l=>.n v .l b
    | .n x p q=>.n v (.n x p q) b) else (match b.set o (Nat.div k 2) with
    | .l=>.n v a .l
    | .n x p q=>.n v a (.n x p q))
theorem half {k j:Nat} (h:Nat.beq (Nat.mod k 2) 0=Nat.beq (Nat.mod j 2) 0) (hd:Nat.div k 2=Nat.div j 2):k=j:=by
 have h1:(Nat.beq (Nat.mod k 2) 0=true)↔(Nat.beq (Nat.mod j 2) 0=true):=by rw [h]
 have h2:k / 2=j / 2:=hd
 have e:∀ x y,(Nat.beq x y=true)↔x=y:=fun x y=>⟨Nat.eq_of_beq_eq_true,fun h=>by subst h;exact Nat.beq_refl x⟩
 rw [e,e] at h1
 have h3:k % 2=0↔j % 2=0:=h1
 omega
theorem one_get {α:Type} {v:α}:∀ {f k j:Nat},k+1<2 ^ f→(T.one v f k).get j=if j=k then some v else none
 | 0,k,j,h=>by simp at h
 | f+1,0,j,_=>by
  cases j with
  | zero=>rfl
  | succ j=>simp only [T.one,T.get];cases Nat.beq (Nat.mod j 2) 0 <;> simp
 | f+1,k+1,j,h=>by
  have h1:k / 2+1<2 ^ f:=by rw [Nat.pow_succ] at h;omega
  have ih:=fun j=>one_get (v:=v) (f:=f) (k:=Nat.div k 2) (j:=j) h1
  cases hb:Nat.beq (Nat.mod k 2) 0 with
  | true =>
   have e:T.one v (f+1) (k+1)=.n none (T.one v f (Nat.div k 2)) .l:=by
    simp only [T.one,hb,cond_true]
    split <;> simp_all
   rw [e]
   cases j with
   | zero=>simp [T.get]
   | succ j =>
    simp only [T.get]
    cases hj:Nat.beq (Nat.mod j 2) 0 with
    | true =>
     simp only [cond_true,ih]
     by_cases e2:Nat.div j 2=Nat.div k 2
     ·rw [if_pos e2,if_pos (by rw [half (hj.trans hb.symm) e2])]
     ·rw [if_neg e2,if_neg fun e3=>e2 (by rw [Nat.succ.inj e3])]
    | false =>
     simp only [cond_false]
     rw [if_neg fun e3=>by rw [Nat.succ.inj e3,hb] at hj;cases hj]
  | false =>
   have e:T.one v (f+1) (k+1)=.n none .l (T.one v f (Nat.div k 2)):=by
    simp only [T.one,hb,cond_false]
    split <;> simp_all
   rw [e]
   cases j with
   | zero=>simp [T.get]
   | succ j =>
    simp only [T.get]
    cases hj:Nat.beq (Nat.mod j 2) 0 with
    | false =>
     simp only [cond_false,ih]
     by_cases e2:Nat.div j 2=Nat.div k 2
     ·rw [if_pos e2,if_pos (by rw [half (hj.trans hb.symm) e2])]
     ·rw [if_neg e2,if_neg fun e3=>e2 (by rw [Nat.succ.inj e3])]
    | true =>
     simp only [cond_true]
     rw [if_neg fun e3=>by rw [Nat.succ.inj e3,hb] at hj;cases hj]
abbrev top:Nat:=1000000000
theorem set_get {α:Type} {o:Option α}:∀ {t:T α} {k j:Nat},k<top→(t.set o k).get j=if j=k then o else t.get j
 | .l,k,j,h=>by
  cases o with
  | none=>simp [T.set,T.get]
  | some v =>
   simp only [T.set]
   rw [one_get (show k+1<2 ^ 40 by simp only [top] at h;omega)]
   rfl
 | .n v a b,0,j,h=>by
  cases j with
  | zero=>rfl
  | succ j=>simp only [T.set,T.get];rw [if_neg (by omega)]
 | .n v a b,k+1,j,h=>by
  have h1:Nat.div k 2<top:=Nat.lt_of_le_of_lt (Nat.div_le_self k 2) (by omega)
  have iha:=fun j=>set_get (o:=o) (t:=a) (k:=Nat.div k 2) (j:=j) h1
  have ihb:=fun j=>set_get (o:=o) (t:=b) (k:=Nat.div k 2) (j:=j) h1
  cases hb:Nat.beq (Nat.mod k 2) 0 with
  | true =>
   have e:(T.n v a b).set o (k+1)=.n v (a.set o (Nat.div k 2)) b:=by
    simp only [T.set,hb,cond_true]
    split <;> simp_all
   rw [e]
   cases j with
   | zero=>simp [T.get]
   | succ j =>
    simp only [T.get]
    cases hj:Nat.beq (Nat.mod j 2) 0 with
    | true =>
     simp only [cond_true,iha]
     by_cases e2:Nat.div j 2=Nat.div k 2
     ·rw [if_pos e2,if_pos (by rw [half (hj.trans hb.symm) e2])]
     ·rw [if_neg e2,if_neg fun e3=>e2 (by rw [Nat.succ.inj e3])]
    | false =>
     simp only [cond_false]
     rw [if_neg fun e3=>by rw [Nat.succ.inj e3,hb] at hj;cases hj]
  | false =>
   have e:(T.n v a b).set o (k+1)=.n v a (b.set o (Nat.div k 2)):=by
    simp only [T.set,hb,cond_false]
    split <;> simp_all
   rw [e]
   cases j with
   | zero=>simp [T.get]
   | succ j =>
    simp only [T.get]
    cases hj:Nat.beq (Nat.mod j 2) 0 with
    | false =>
     simp only [cond_false,ihb]
     by_cases e2:Nat.div j 2=Nat.div k 2
     ·rw [if_pos e2,if_pos (by rw [half (hj.trans hb.symm) e2])]
     ·rw [if_neg e2,if_neg fun e3=>e2 (by rw [Nat.succ.inj e3])]
    | true =>
     simp only [cond_true]
     rw [if_neg fun e3=>by rw [Nat.succ.inj e3,hb] at hj;cases hj]
def kdV:Value→Nat
 | .int .u64 _=>1
 | .int .i64 _=>2
 | _=>0
def kdC:Cell→Nat
 | .it .u64 _ | .ou _=>1
 | .it .i64 _ | .oi _=>2
 | _=>0
theorem kd_den (ρ:Env) (c:Cell):kdV (c.den ρ)=kdC c:=by
 cases c with
 | it k n=>cases k <;> rfl
 | _=>rfl
def T.vals {α:Type}:T α→List α
 | .l=>[]
 | .n v a b=>v.toList ++ (a.vals ++ b.vals)
theorem get_vals {α:Type}:∀ {t:T α} {k:Nat} {v:α},t.get k=some v→v∈t.vals
 | .l,_,_,h=>by cases h
 | .n o a b,0,v,h=>by
  have h:o=some v:=h
  subst h
  simp [T.vals]
 | .n o a b,k+1,v,h=>by
  simp only [T.get] at h
  cases hb:Nat.beq (Nat.mod k 2) 0 with
  | true=>rw [hb,cond_true] at h;have:=get_vals h;simp [T.vals,this]
  | false=>rw [hb,cond_false] at h;have:=get_vals h;simp [T.vals,this]
def rdG (g:T SV) (t:Tmp):SV:=match g.get t with
 | some v=>v
 | none=>.und
structure Lp where
 st:Nat
 pend:Option Code
 regs:T SV
 N:Nat
 ps:List Tmp
 x:Code
 y:Code
 d:Nat
def lpSt:Nat→LoopState
 | 0=>.ready
 | 1=>.done
 | _=>.busy
inductive It (S:Sys) where
 | blk (T:TypeId) (cs:List Cell) (ex:Option Nat) (pat:List Nat)
 | fc (l:List S.F)
 | mp (es:List (Cell×El×Nat)) (ck:Nat)
 | lp (L:Lp)
 | df
 | cl (f:FuncId) (first:List El) (l:List (Nat×Nat))
def elN (x:El):List Nat:=x.cells.flatMap Cell.nm
def It.nm {S:Sys}:It S→List Nat
 | .blk _ cs _ _=>cs.flatMap Cell.nm
 | .fc l=>l.flatMap S.nm
 | .mp es _=>es.flatMap fun e=>e.1.nm ++ elN e.2.1
 | .lp L=>L.d :: L.regs.vals.flatMap SV.nm
 | .df=>[]
 | .cl _ first l=>first.flatMap elN ++ l.map (·.1)
def It.isB {S:Sys}:It S→Bool
 | .fc _ | .cl _ _ _=>false
 | _=>true
def IsB {S:Sys} (o:Option (It S)):Prop:=∃ i,o=some i∧i.isB=true
structure Xt (S:Sys) where
 okK:List Nat→Bool
 okP:List Nat→Bool
 key:S.F→Nat
 rep:∀ {p:List Nat} (c:Nat),okP p=true→okK (List.replicate c p).flatten=true
 chg:∀ {ρ:Env} {f:S.F} {W W':World},S.on ρ f W→W.heap.size≤W'.heap.size→(∀ b,b<W.heap.size→W'.heap[b]? = W.heap[b]?∨(∃ T vs,Bx W b T vs∧okK (vs.map kdV)=true)∨∀ c T z,W.heap[b]?≠some (.cells c T z))→S.on ρ f W'
section
variable {S:Sys} (X:Xt S)
def enD (ρ:Env) (e:Cell×El×Nat):MapEntry:={ key:=e.1.den ρ,val:=e.2.1.den ρ,born:=e.2.2 }
def ptD (ρ:Env) (x:Nat×Nat):Value:=.pointer (some ⟨(ρ x.1).pos,x.2,none⟩)
def Sat (ρ:Env) (W:World) (k:Nat):It S→Prop
 | .blk T cs ex pat=>∃ rest,Bx W (ρ k).pos T (cs.map (Cell.den ρ) ++ rest)∧X.okK ((cs.map (Cell.den ρ) ++ rest).map kdV)=true ∧
   match ex with
   | some c=>rest=[]∧(ρ k).c=c
   | none=>(cs.map (Cell.den ρ) ++ rest).map kdV=(List.replicate (ρ k).c pat).flatten
 | .fc l=>∀ f∈l,S.on ρ f W
 | .mp es ck=>W.heap[(ρ k).pos]? = some (.map (es.map (enD ρ)).toArray ck)
 | .lp L=>∃ fn tm,W.heap[(ρ k).pos]? = some (.loop { state:=lpSt L.st,pending:=L.pend,fn:=fn,tmps:=tm,params:=L.ps.toArray,assign:=L.x,body:=L.y,defers:=(ρ L.d).pos })∧tm.size=L.N∧∀ t,tm.getD t undef=(rdG L.regs t).den ρ
 | .df=>W.heap[(ρ k).pos]? = some (.deferred (some []))
 | .cl f first l=>(ρ k).g=(f,(first.map (El.den ρ)).toArray,(l.map (ptD ρ)).toArray)
def inR:List (Nat×Nat)→Nat→Bool
 | [],_=>false
 | p :: r,k=>(Nat.ble p.1 k && Nat.blt k p.2) || inR r k
structure Inv (w00:World) (fb:List (Nat×Nat)) (ρ:Env) (hp:T (It S)) (W:World):Prop where
 top:Below w00.heap.size w00 W
 sat:∀ k i,hp.get k=some i→inR fb k=false→Sat X ρ W k i
 lo:∀ k,IsB (hp.get k)→inR fb k=false→w00.heap.size≤(ρ k).pos
 inj:∀ k k',IsB (hp.get k)→IsB (hp.get k')→inR fb k=false→inR fb k' = false→k≠k'→(ρ k).pos≠(ρ k').pos
end
def Wf {S:Sys} (hp:T (It S)) (n:Nat):Prop:=∀ k i,hp.get k=some i→k<n∧∀ m∈i.nm,m<n
structure Fr (S:Sys) (ρ:Env) (wr:List Nat) (W W':World):Prop where
 sz:W.heap.size≤W'.heap.size
 blk:∀ b,b<W.heap.size→(∀ k∈wr,(ρ k).pos≠b)→W'.heap[b]? = W.heap[b]?
 fct:∀ ρ' f,S.on ρ' f W→S.on ρ' f W'
structure Rs (S:Sys) where
 v:SV
 hp:T (It S)
 n:Nat
 wr:List Nat
structure Pl {S:Sys} (fb:List (Nat×Nat)) (hp:T (It S)) (n:Nat) (r:Rs S):Prop where
 le:n≤r.n
 v:∀ m∈r.v.nm,m<r.n
 wf:Wf hp n→Wf r.hp r.n
 keep:∀ k,k<n→k ∉ r.wr→r.hp.get k=hp.get k
 wr:∀ k∈r.wr,k<n∧inR fb k=false∧IsB (hp.get k)
structure Dy {S:Sys} (X:Xt S) (w00:World) (fb:List (Nat×Nat)) (n:Nat) (r:Rs S) (ρ:Env) (W:World) (v:Value) (ρ':Env) (W':World):Prop where
 ag:∀ m,m<n∨r.n≤m→ρ' m=ρ m
 v:v=r.v.den ρ'
 inv:Inv X w00 fb ρ' r.hp W'
 fr:Fr S ρ r.wr W W'
 nw:∀ k,n≤k→IsB (r.hp.get k)→W.heap.size≤(ρ' k).pos∨∃ j∈r.wr,(ρ' k).pos=(ρ j).pos
theorem enD_congr {ρ ρ':Env} {es:List (Cell×El×Nat)} (h:∀ m∈es.flatMap (fun e=>e.1.nm ++ elN e.2.1),ρ' m=ρ m):es.map (enD ρ')=es.map (enD ρ):=by
 refine List.map_congr_left fun e he=>?_
 unfold enD
 rw [Cell.den_congr (ρ:=ρ') (ρ':=ρ) fun m hm=>h m (List.mem_flatMap.2 ⟨e,he,List.mem_append.2 (.inl hm)⟩),El.den_congr (ρ:=ρ') (ρ':=ρ) fun m hm=>h m (List.mem_flatMap.2 ⟨e,he,List.mem_append.2 (.inr hm)⟩)]
theorem els_congr {ρ ρ':Env} {l:List El} (h:∀ m∈l.flatMap elN,ρ' m=ρ m):l.map (El.den ρ')=l.map (El.den ρ):=
 List.map_congr_left fun x hx=>El.den_congr fun m hm=>h m (List.mem_flatMap.2 ⟨x,hx,hm⟩)
theorem pts_congr {ρ ρ':Env} {l:List (Nat×Nat)} (h:∀ m∈l.map (·.1),ρ' m=ρ m):l.map (ptD ρ')=l.map (ptD ρ):=
 List.map_congr_left fun x hx=>by unfold ptD;rw [h x.1 (List.mem_map.2 ⟨x,hx,rfl⟩)]
theorem regs_congr {ρ ρ':Env} {g:T SV} (h:∀ m∈g.vals.flatMap SV.nm,ρ' m=ρ m) (t:Tmp):(rdG g t).den ρ' = (rdG g t).den ρ:=by
 refine SV.den_congr fun m hm=>?_
 unfold rdG at hm
 cases hg:g.get t with
 | none=>rw [hg] at hm;cases hm
 | some v=>rw [hg] at hm;exact h m (List.mem_flatMap.2 ⟨v,get_vals hg,hm⟩)
theorem Sat.congr {S:Sys} {X:Xt S} {ρ ρ':Env} {W:World} {k:Nat} {i:It S} (hk:ρ' k=ρ k) (h:∀ m∈i.nm,ρ' m=ρ m) (hs:Sat X ρ W k i):Sat X ρ' W k i:=by
 cases i with
 | blk T cs ex pat =>
  have e:cs.map (Cell.den ρ')=cs.map (Cell.den ρ):=cells_congr fun m hm=>h m hm
  simp only [Sat] at hs ⊢
  rw [e,hk]
  exact hs
 | fc l=>exact fun f hf=>S.cg (fun m hm=>(h m (List.mem_flatMap.2 ⟨f,hf,hm⟩)).symm) (hs f hf)
 | mp es ck =>
  simp only [Sat] at hs ⊢
  rw [hk,enD_congr h]
  exact hs
 | lp L =>
  obtain ⟨fn,tm,h1,h2,h3⟩:=hs
  refine ⟨fn,tm,?_,h2,fun t=>?_⟩
  ·rw [hk,h L.d (.head _)];exact h1
  ·rw [regs_congr (fun m hm=>h m (.tail _ hm)) t];exact h3 t
 | df =>
  simp only [Sat] at hs ⊢
  rw [hk];exact hs
 | cl f first l =>
  simp only [Sat] at hs ⊢
  rw [hk,els_congr fun m hm=>h m (List.mem_append.2 (.inl hm)),pts_congr fun m hm=>h m (List.mem_append.2 (.inr hm))]
  exact hs
theorem Sat.carry {S:Sys} {X:Xt S} {ρ:Env} {W W':World} {k:Nat} {i:It S} (hs:Sat X ρ W k i) (h:i.isB=true→W'.heap[(ρ k).pos]? = W.heap[(ρ k).pos]?) (hf:∀ f,S.on ρ f W→S.on ρ f W'):Sat X ρ W' k i:=by
 cases i with
 | blk T cs ex pat =>
  obtain ⟨rest,h1,h2,h3⟩:=hs
  exact ⟨rest,(h rfl).trans h1,h2,h3⟩
 | fc l=>exact fun f hm=>hf f (hs f hm)
 | mp es ck=>exact (h rfl).trans hs
 | lp L =>
  obtain ⟨fn,tm,h1,h2⟩:=hs
  exact ⟨fn,tm,(h rfl).trans h1,h2⟩
 | df=>exact (h rfl).trans hs
 | cl f first l=>exact hs
theorem Sat.lt {S:Sys} {X:Xt S} {ρ:Env} {W:World} {k:Nat} {i:It S} (hs:Sat X ρ W k i) (hi:i.isB=true):(ρ k).pos<W.heap.size:=by
 have key:∀ {o:Obj},W.heap[(ρ k).pos]? = some o→(ρ k).pos<W.heap.size:=fun h=>(Array.getElem?_eq_some_iff.1 h).1
 cases i with
 | blk T cs ex pat =>
  obtain ⟨rest,h1,-⟩:=hs
  exact h1.lt
 | fc l=>cases hi
 | mp es ck=>exact key hs
 | lp L =>
  obtain ⟨fn,tm,h1,-⟩:=hs
  exact key h1
 | df=>exact key hs
 | cl f first l=>cases hi
theorem Inv.lt {S:Sys} {X:Xt S} {w00 W:World} {fb:List (Nat×Nat)} {ρ:Env} {hp:T (It S)} (h:Inv X w00 fb ρ hp W) {k:Nat} (hk:IsB (hp.get k)) (hf:inR fb k=false):(ρ k).pos<W.heap.size:=by
 obtain ⟨i,hi,hb⟩:=hk
 exact (h.sat k i hi hf).lt hb
theorem Wf.lt {S:Sys} {hp:T (It S)} {n:Nat} (wf:Wf hp n) {k:Nat} (h:IsB (hp.get k)):k<n:=by
 obtain ⟨i,hi,-⟩:=h
 exact (wf k i hi).1
theorem fr_refl (S:Sys) (ρ:Env) (W:World):Fr S ρ [] W W:=⟨Nat.le_refl _,fun _ _ _=>rfl,fun _ _ h=>h⟩
theorem fr_below {S:Sys} {ρ:Env} {W W':World} (h:Below W.heap.size W W'):Fr S ρ [] W W':=⟨h.size,fun b hb _=>h.block b hb,fun _ _ hf=>S.bl h hf⟩
theorem Inv.quiet {S:Sys} {X:Xt S} {w00 W W':World} {fb:List (Nat×Nat)} {ρ ρ':Env} {hp:T (It S)} {n:Nat} (hi:Inv X w00 fb ρ hp W) (wf:Wf hp n) (hb:Below W.heap.size W W') (ag:∀ m,m<n→ρ' m=ρ m):Inv X w00 fb ρ' hp W':=by
 have hk:∀ k i,hp.get k=some i→ρ' k=ρ k:=fun k i h=>ag k (wf k i h).1
 have hkB:∀ k,IsB (hp.get k)→ρ' k=ρ k:=fun k h=>ag k (wf.lt h)
 refine ⟨hi.top.trans (hb.mono hi.top.size),fun k i h hf=>?_,fun k h hf=>?_,fun k k' h h' hf hf' hne=>?_⟩
 ·have h1:=hi.sat k i h hf
  exact Sat.congr (ρ:=ρ) (hk k i h) (fun m hm=>ag m ((wf k i h).2 m hm)) (h1.carry (fun hB=>hb.block _ (h1.lt hB)) fun f hf'=>S.bl hb hf')
 ·rw [hkB k h];exact hi.lo k h hf
 ·rw [hkB k h,hkB k' h'];exact hi.inj k k' h h' hf hf' hne
end Rx.Ry
namespace Rx.Ry
open Go.RowKit
def nmB (n:Nat) (l:List Nat):Bool:=l.all fun m=>Nat.blt m n
def okC (n:Nat):Cell→Bool
 | .bl _ | .it _ _ | .st _ | .nils | .nilp | .nilf | .nilm=>true
 | .ob m | .ou m | .oi m | .o8 m | .os m | .ot m | .ptr m _ | .elp m _ | .sl m _ _ _ | .mp m | .yl m | .og m | .slx m _ _ _ | .sle m _ _ _ _=>Nat.blt m n
 | .elv m i _=>Nat.blt m n && Nat.blt i n
 | .fn _ l=>nmB n (l.map (·.1))
noncomputable def okL (n:Nat) (l:List Cell):Bool:=List.rec true (fun c _ ih=>Bool.rec false ih (okC n c)) l
noncomputable def okEs (n:Nat) (l:List El):Bool:=List.rec true (fun x _ ih=>Bool.rec false ih (okL n x.cells)) l
noncomputable def okS (n:Nat):SV→Bool
 | .e x=>okL n x.cells
 | .t l=>okEs n l
 | .und=>true
 | .o _=>true
theorem okC_eq (n:Nat) (c:Cell):okC n c=nmB n c.nm:=by cases c <;> simp [okC,nmB,Cell.nm]
theorem nmB_app (n:Nat) (a b:List Nat):nmB n (a ++ b)=(nmB n a && nmB n b):=by simp [nmB]
theorem okL_eq (n:Nat):∀ l:List Cell,okL n l=nmB n (l.flatMap Cell.nm)
 | []=>rfl
 | c :: r=>by
  have ih:=okL_eq n r
  show (Bool.rec false (okL n r) (okC n c):Bool)=_
  rw [List.flatMap_cons,nmB_app,ih,okC_eq]
  cases nmB n c.nm <;> rfl
theorem okEs_eq (n:Nat):∀ l:List El,okEs n l=nmB n (l.flatMap fun x=>x.cells.flatMap Cell.nm)
 | []=>rfl
 | x :: r=>by
  have ih:=okEs_eq n r
  show (Bool.rec false (okEs n r) (okL n x.cells):Bool)=_
  rw [List.flatMap_cons,nmB_app,ih,okL_eq]
  cases nmB n (x.cells.flatMap Cell.nm) <;> rfl
theorem okS_eq (n:Nat) (v:SV):okS n v=nmB n v.nm:=by
 cases v with
 | e x=>exact okL_eq n x.cells
 | t l=>exact okEs_eq n l
 | und=>rfl
 | o v=>rfl
def eqL:List Nat→List Nat→Bool
 | [],[]=>true
 | a :: r,b :: s=>Nat.beq a b && eqL r s
 | _,_=>false
theorem eqL_eq:∀ {a b:List Nat},eqL a b=true→a=b
 | [],[],_=>rfl
 | a :: r,b :: s,h=>by
  simp only [eqL,Bool.and_eq_true] at h
  rw [Nat.eq_of_beq_eq_true h.1,eqL_eq h.2]
 | [],_ :: _,h | _ :: _,[],h=>by simp [eqL] at h
theorem nmB_ok {n:Nat} {l:List Nat} (h:nmB n l=true):∀ m∈l,m<n:=fun m hm=>by
 have:=List.all_eq_true.1 h m hm
 exact Nat.le_of_ble_eq_true this
section
variable (P:Program) {S:Sys} (X:Xt S) (H:Tests S) (cons:List (Con S))
def see (fb:List (Nat×Nat)) (hp:T (It S)) (k:Nat):Option (It S):=bif inR fb k then none else hp.get k
def ded:List Nat→List Nat
 | a :: b :: r=>bif Nat.beq a b then ded (b :: r) else a :: ded (b :: r)
 | l=>l
def factsOf (fb:List (Nat×Nat)) (hp:T (It S)):List Nat→List S.F
 | []=>[]
 | m :: r=>match see fb hp m with
  | some (.fc l)=>l ++ factsOf fb hp r
  | _=>factsOf fb hp r
def addF (hp:T (It S)):List S.F→T (It S)
 | []=>hp
 | f :: r=>addF (match hp.get (X.key f) with
  | some (.fc l)=>hp.set (some (.fc (f :: l))) (X.key f)
  | _=>hp.set (some (.fc [f])) (X.key f)) r
def ctOf (fb:List (Nat×Nat)) (hp:T (It S)) (k:Nat):Option (TypeId×List Cell):=match see fb hp k with
 | some (.blk T cs (some _) _)=>some (T,cs)
 | _=>none
noncomputable def pureR (hp:T (It S)) (n:Nat) (v:SV):Option (Rs S):=bif okS n v then some ⟨v,hp,n,[]⟩ else none
noncomputable def newR (hp:T (It S)) (n:Nat) (T:TypeId) (cs:List Cell) (c:Nat) (pat:List Nat) (v:SV):Option (Rs S):=
 bif X.okK (cs.map kdC) && okL n cs && okS (n+1) v && Nat.blt n top then some ⟨v,hp.set (some (.blk T cs (some c) pat)) n,n+1,[]⟩ else none
noncomputable def storeR (fb:List (Nat×Nat)) (hp:T (It S)) (n k off:Nat) (new:List Cell) (v:SV):Option (Rs S):=match see fb hp k with
 | some (.blk T cs ex pat)=>bif Nat.ble (off+new.length) cs.length && eqL (new.map kdC) (((cs.drop off).take new.length).map kdC) && okL n new && Nat.blt k n && Nat.blt n top && okS n v then
   some ⟨v,hp.set (some (.blk T (splice off new cs) ex pat)) k,n,[k]⟩ else none
 | _=>none
noncomputable def factR (hp:T (It S)) (n:Nat) (v:SV) (fs:List S.F):Option (Rs S):=
 bif okS (n+M) v && Nat.blt (n+M) top && fs.all (fun f=>Nat.ble n (X.key f) && Nat.blt (X.key f) (n+M) && nmB (n+M) (S.nm f)) then some ⟨v,addF X hp fs,n+M,[]⟩ else none
noncomputable def conv (fb:List (Nat×Nat)) (hp:T (It S)) (n:Nat):Option (Rec S.F)→Option (Rs S)
 | some ⟨v,.no,[],_⟩=>match pureR hp n v with
  | some r=>some r
  | none=>factR X hp n v []
 | some ⟨v,.no,fs,_⟩=>factR X hp n v fs
 | some ⟨.e (.s (.ptr k 0)),.new T cs,[],_⟩=>bif Nat.beq k n then newR X hp n T cs 0 [] (.e (.s (.ptr n 0))) else none
 | some ⟨v,.put k off cs,[],_⟩=>storeR fb hp n k off cs v
 | _=>none
end
section
variable {P:Program} {S:Sys} {X:Xt S} {w00 W W':World} {fb:List (Nat×Nat)} {ρ:Env} {hp:T (It S)} {n:Nat} {r:Rs S}
theorem see_some {k:Nat} {i:It S} (h:see fb hp k=some i):hp.get k=some i∧inR fb k=false:=by
 unfold see at h
 cases hb:inR fb k with
 | true=>rw [hb] at h;cases h
 | false=>rw [hb] at h;exact ⟨h,rfl⟩
theorem factsOf_ok (hi:Inv X w00 fb ρ hp W):∀ {L:List Nat} {f:S.F},f∈factsOf fb hp L→S.on ρ f W
 | [],f,h=>by simp [factsOf] at h
 | m :: r,f,h=>by
  simp only [factsOf] at h
  split at h
  ·rename_i l hl
   obtain ⟨h1,h2⟩:=see_some hl
   rcases List.mem_append.1 h with h | h
   ·exact hi.sat m _ h1 h2 f h
   ·exact factsOf_ok hi h
  ·exact factsOf_ok hi h
theorem ctOf_ok (hi:Inv X w00 fb ρ hp W) {k:Nat} {T:TypeId} {cs:List Cell} (h:ctOf fb hp k=some (T,cs)):Bx W (ρ k).pos T (cs.map (Cell.den ρ)):=by
 unfold ctOf at h
 split at h
 ·rename_i T' cs' c pat hs
  cases h
  obtain ⟨h1,h2⟩:=see_some hs
  obtain ⟨rest,h3,-,h4,-⟩:=hi.sat k _ h1 h2
  rw [h4,List.append_nil] at h3
  exact h3
 ·cases h
theorem addF_get (hw:Wf hp n) {n':Nat} (hn':n'≤top):∀ {fs:List S.F} {hp0:T (It S)},(∀ f∈fs,n≤X.key f∧X.key f<n')→(∀ k,k<n→hp0.get k=hp.get k)→∀ (L:S.F→Prop),(∀ k i,n≤k→hp0.get k=some i→k<n'∧∃ l,i=.fc l∧∀ f∈l,L f)→(∀ f∈fs,L f) →
  (∀ k,k<n→(addF X hp0 fs).get k=hp.get k)∧∀ k i,n≤k→(addF X hp0 fs).get k=some i→k<n'∧∃ l,i=.fc l∧∀ f∈l,L f
 | [],hp0,_,h1,L,h2,_=>⟨h1,h2⟩
 | f :: r,hp0,hf,h1,L,h2,hL=>by
  have hk:=hf f (by simp)
  simp only [addF]
  have key:∀ l,(∀ g∈l,L g)→(∀ k,k<n→(hp0.set (some (.fc (f :: l))) (X.key f)).get k=hp.get k)∧∀ k i,n≤k→(hp0.set (some (.fc (f :: l))) (X.key f)).get k=some i→k<n'∧∃ l,i=.fc l∧∀ f∈l,L f:=fun l hl=>by
   refine ⟨fun k hkn=>?_,fun k i hkn h=>?_⟩
   ·rw [set_get (by omega),if_neg (by omega)];exact h1 k hkn
   ·rw [set_get (by omega)] at h
    split at h
    ·rename_i e
     cases h
     subst e
     exact ⟨hk.2,_,rfl,fun g hg=>by
      rcases List.mem_cons.1 hg with rfl | hg
      ·exact hL g (by simp)
      ·exact hl g hg⟩
    ·exact h2 k i hkn h
  split
  ·rename_i l hl
   obtain ⟨-,l',e,h3⟩:=h2 _ _ hk.1 hl
   cases e
   obtain ⟨h4,h5⟩:=key l h3
   exact addF_get hw hn' (fun g hg=>hf g (by simp [hg])) h4 L h5 fun g hg=>hL g (by simp [hg])
  ·obtain ⟨h4,h5⟩:=key [] (by simp)
   exact addF_get hw hn' (fun g hg=>hf g (by simp [hg])) h4 L h5 fun g hg=>hL g (by simp [hg])
theorem pure_pl {v:SV} (h:pureR hp n v=some r):Pl fb hp n r:=by
 unfold pureR at h
 simp only [okS_eq] at h
 cases hb:nmB n v.nm with
 | false=>rw [hb] at h;cases h
 | true =>
  rw [hb] at h
  cases h
  exact ⟨Nat.le_refl _,nmB_ok hb,fun h=>h,fun _ _ _=>rfl,fun k hk=>by cases hk⟩
theorem pure_dy {sv:SV} (h:pureR hp n sv=some r) (hi:Inv X w00 fb ρ hp W) (wf:Wf hp n) {v:Value} (hv:v=sv.den ρ):Dy X w00 fb n r ρ W v ρ W:=by
 unfold pureR at h
 simp only [okS_eq] at h
 cases hb:nmB n sv.nm with
 | false=>rw [hb] at h;cases h
 | true =>
  rw [hb] at h
  cases h
  exact ⟨fun _ _=>rfl,hv,hi,fr_refl S ρ W,fun k hk hg=>by have:=wf.lt hg;omega⟩
theorem fact_pl {v:SV} {fs:List S.F} (h:factR X hp n v fs=some r) (wf:Wf hp n):Pl fb hp n r:=by
 unfold factR at h
 simp only [okS_eq] at h
 cases hb:(nmB (n+M) v.nm && Nat.blt (n+M) top && fs.all (fun f=>Nat.ble n (X.key f) && Nat.blt (X.key f) (n+M) && nmB (n+M) (S.nm f))) with
 | false=>rw [hb] at h;cases h
 | true =>
  rw [hb] at h
  cases h
  simp only [Bool.and_eq_true,List.all_eq_true] at hb
  obtain ⟨⟨h1,h2⟩,h3⟩:=hb
  have h2:=Nat.le_of_ble_eq_true h2
  obtain ⟨h4,h5⟩:=addF_get (X:=X) (n':=n+M) (fs:=fs) (hp0:=hp) wf (by omega) (fun f hf=>by
   have:=h3 f hf
   exact ⟨Nat.le_of_ble_eq_true this.1.1,Nat.le_of_ble_eq_true this.1.2⟩) (fun _ _=>rfl) (fun f=>f∈fs) (fun k i hk hg=>by have:=(wf k i hg).1;omega) (fun _ h=>h)
  refine ⟨Nat.le_add_right _ _,nmB_ok h1,fun _ k i hg=>?_,fun k hk _=>h4 k hk,fun k hk=>by cases hk⟩
  rcases Nat.lt_or_ge k n with hk | hk
  ·have hg:(addF X hp fs).get k=some i:=hg
   rw [h4 k hk] at hg
   have:=wf k i hg
   exact ⟨Nat.lt_add_right _ hk,fun m hm=>Nat.lt_add_right _ (this.2 m hm)⟩
  ·obtain ⟨h6,l,rfl,h7⟩:=h5 k i hk hg
   refine ⟨h6,fun m hm=>?_⟩
   obtain ⟨f,hf,hm⟩:=List.mem_flatMap.1 hm
   exact nmB_ok (h3 f (h7 f hf)).2 m hm
theorem fact_dy {sv:SV} {fs:List S.F} (h:factR X hp n sv fs=some r) (hi:Inv X w00 fb ρ hp W) (wf:Wf hp n) {v:Value} {ρ':Env} (hag:∀ m,m<n∨n+M≤m→ρ' m=ρ m) (hv:v=sv.den ρ') (hB:Below W.heap.size W W') (hfs:∀ f∈fs,S.on ρ' f W') :
  Dy X w00 fb n r ρ W v ρ' W':=by
 unfold factR at h
 simp only [okS_eq] at h
 cases hb:(nmB (n+M) sv.nm && Nat.blt (n+M) top && fs.all (fun f=>Nat.ble n (X.key f) && Nat.blt (X.key f) (n+M) && nmB (n+M) (S.nm f))) with
 | false=>rw [hb] at h;cases h
 | true =>
  rw [hb] at h
  cases h
  simp only [Bool.and_eq_true,List.all_eq_true] at hb
  obtain ⟨⟨h1,h2⟩,h3⟩:=hb
  have h2:=Nat.le_of_ble_eq_true h2
  obtain ⟨h4,h5⟩:=addF_get (X:=X) (n':=n+M) (fs:=fs) (hp0:=hp) wf (by omega) (fun f hf=>by
   have:=h3 f hf
   exact ⟨Nat.le_of_ble_eq_true this.1.1,Nat.le_of_ble_eq_true this.1.2⟩) (fun _ _=>rfl) (fun f=>f∈fs) (fun k i hk hg=>by have:=(wf k i hg).1;omega) (fun _ h=>h)
  have hq:=hi.quiet wf hB fun m hm=>hag m (.inl hm)
  have hold:∀ k,IsB ((addF X hp fs).get k)→IsB (hp.get k):=fun k hg=>by
   rcases Nat.lt_or_ge k n with hk | hk
   ·rwa [h4 k hk] at hg
   ·obtain ⟨i,hg,hB⟩:=hg
    obtain ⟨-,l,rfl,-⟩:=h5 k _ hk hg;cases hB
  refine ⟨hag,hv,⟨hq.top,fun k i hg hf=>?_,fun k hg hf=>hq.lo k (hold _ hg) hf,fun k k' hg hg' hf hf' hne=>hq.inj k k' (hold _ hg) (hold _ hg') hf hf' hne⟩,?_,fun k hk hg=>?_⟩
  ·rcases Nat.lt_or_ge k n with hk | hk
   ·have hg:(addF X hp fs).get k=some i:=hg
    rw [h4 k hk] at hg
    exact hq.sat k i hg hf
   ·obtain ⟨-,l,rfl,h7⟩:=h5 k i hk hg
    exact fun f hf=>hfs f (h7 f hf)
  ·exact fr_below hB
  ·have:=wf.lt (hold _ hg);omega
theorem newI_pl {i:It S} {v:SV} (h1:∀ m∈i.nm,m<n+1) (h2:∀ m∈v.nm,m<n+1) (h3:n<top):Pl fb hp n (⟨v,hp.set (some i) n,n+1,[]⟩:Rs S):=by
 refine ⟨Nat.le_succ _,h2,fun wf k j hg=>?_,fun k hk _=>?_,fun k hk=>by cases hk⟩
 ·change (hp.set (some i) n).get k=some j at hg
  rw [set_get h3] at hg
  split at hg
  ·rename_i e
   subst e
   obtain rfl:=Option.some.inj hg
   exact ⟨Nat.lt_succ_self _,h1⟩
  ·have:=wf k j hg
   exact ⟨Nat.lt_succ_of_lt this.1,fun m hm=>Nat.lt_succ_of_lt (this.2 m hm)⟩
 ·show (hp.set _ n).get k=_
  rw [set_get h3,if_neg (by omega)]
theorem newI_dy {i:It S} {sv:SV} {ρ':Env} (h3:n<top) (hi:Inv X w00 fb ρ hp W) (wf:Wf hp n) {v:Value} (hag:∀ m,m≠n→ρ' m=ρ m) (hpos:i.isB=true→(ρ' n).pos=W.heap.size) (hv:v=sv.den ρ') (hB:Below W.heap.size W W') (hs:Sat X ρ' W' n i) :
  Dy X w00 fb n (⟨sv,hp.set (some i) n,n+1,[]⟩:Rs S) ρ W v ρ' W':=by
 have hq:=hi.quiet wf hB fun m hm=>hag m (by omega)
 have hold:∀ k j,k≠n→(hp.set (some i) n).get k=some j→hp.get k=some j:=fun k j hk hg=>by
  rwa [set_get h3,if_neg hk] at hg
 have holdB:∀ k,k≠n→IsB ((hp.set (some i) n).get k)→IsB (hp.get k):=fun k hk ⟨j,hg,hb⟩=>⟨j,hold k j hk hg,hb⟩
 have hself:IsB ((hp.set (some i) n).get n)→(ρ' n).pos=W.heap.size:=fun ⟨j,hg,hb⟩=>by
  rw [set_get h3,if_pos rfl] at hg
  obtain rfl:=Option.some.inj hg
  exact hpos hb
 have hlt:∀ k,k≠n→IsB ((hp.set (some i) n).get k)→inR fb k=false→(ρ' k).pos<W.heap.size:=fun k hk hg hf=>by
  rw [hag k hk]
  exact hi.lt (holdB k hk hg) hf
 refine ⟨fun m hm=>hag m (fun e=>by subst e;exact hm.elim (Nat.lt_irrefl _) (Nat.not_succ_le_self _)),hv,⟨hq.top,fun k j hg hf=>?_,fun k hg hf=>?_,fun k k' hg hg' hf hf' hne=>?_⟩,fr_below hB,fun k hk hg=>?_⟩
 ·by_cases e:k=n
  ·subst e
   change (hp.set (some i) k).get k=some j at hg
   rw [set_get h3,if_pos rfl] at hg
   obtain rfl:=Option.some.inj hg
   exact hs
  ·exact hq.sat k j (hold k j e hg) hf
 ·by_cases e':k=n
  ·subst e'
   rw [hself hg];exact hi.top.size
  ·exact hq.lo k (holdB k e' hg) hf
 ·by_cases e:k=n
  ·subst e
   have h6:=hlt k' (fun e'=>hne e'.symm) hg' hf'
   rw [hself hg];omega
  ·by_cases e':k' = n
   ·subst e'
    have h6:=hlt k e hg hf
    rw [hself hg'];omega
   ·exact hq.inj k k' (holdB k e hg) (holdB k' e' hg') hf hf' hne
 ·by_cases e':k=n
  ·subst e'
   rw [hself hg];exact .inl (Nat.le_refl _)
  ·have:=wf.lt (holdB k e' hg);omega
theorem putI_pl {k:Nat} {o:Option (It S)} {v:SV} (hk:k<n) (ht:n<top) (hf:inR fb k=false) (ho:IsB (hp.get k)) (h1:Wf hp n→∀ i,o=some i→∀ m∈i.nm,m<n) (h2:∀ m∈v.nm,m<n):Pl fb hp n (⟨v,hp.set o k,n,[k]⟩:Rs S):=by
 have hkt:k<top:=Nat.lt_trans hk ht
 refine ⟨Nat.le_refl _,h2,fun wf j i' hg=>?_,fun j hj hne=>?_,fun j hj=>?_⟩
 ·change (hp.set o k).get j=some i' at hg
  rw [set_get hkt] at hg
  split at hg
  ·rename_i e
   subst e
   exact ⟨hk,h1 wf i' hg⟩
  ·exact wf j i' hg
 ·show (hp.set _ k).get j=_
  rw [set_get hkt,if_neg (by simpa using hne)]
 ·obtain rfl:=List.mem_singleton.1 hj
  exact ⟨hk,hf,ho⟩
theorem putI_dy {k:Nat} {o:Option (It S)} {sv:SV} (hk:k<n) (ht:n<top) (hf:inR fb k=false) (ho:IsB (hp.get k)) (hi:Inv X w00 fb ρ hp W) (wf:Wf hp n) {v:Value} (hv:v=sv.den ρ)
  (h5:W'.heap.size=W.heap.size) (h6:∀ b,b≠(ρ k).pos→W'.heap[b]? = W.heap[b]?) (h7:∀ B w0,Below B w0 W→B≤(ρ k).pos→Below B w0 W') (hfct:∀ ρ' f,S.on ρ' f W→S.on ρ' f W') (hs:∀ i,o=some i→Sat X ρ W' k i):Dy X w00 fb n (⟨sv,hp.set o k,n,[k]⟩:Rs S) ρ W v ρ W':=by
 have hkt:k<top:=Nat.lt_trans hk ht
 have hlo:=hi.lo k ho hf
 have hb:∀ j,IsB ((hp.set o k).get j)→IsB (hp.get j):=fun j ⟨i',hg,hb⟩=>by
  rw [set_get hkt] at hg
  split at hg
  ·rename_i e';subst e';exact ho
  ·exact ⟨i',hg,hb⟩
 refine ⟨fun _ _=>rfl,hv,⟨h7 _ _ hi.top hlo,fun j i' hg hf'=>?_,fun j hg hf'=>hi.lo j (hb j hg) hf',fun j j' hg hg' hf1 hf2 hne=>hi.inj j j' (hb j hg) (hb j' hg') hf1 hf2 hne⟩,⟨Nat.le_of_eq h5.symm,fun b hb hne=>h6 b fun e=>hne k (by simp) e.symm,hfct⟩,fun j hj hg=>?_⟩
 ·change (hp.set o k).get j=some i' at hg
  rw [set_get hkt] at hg
  split at hg
  ·rename_i e
   subst e
   exact hs i' hg
  ·rename_i hne
   exact (hi.sat j i' hg hf').carry (fun hB=>h6 _ (hi.inj j k ⟨i',hg,hB⟩ ho hf' hf hne)) (hfct ρ)
 ·have:=wf.lt (hb j hg);omega
theorem obj_dy {k:Nat} {o:Option (It S)} {sv:SV} {b1 b2:Obj} (hk:k<n) (ht:n<top) (hf:inR fb k=false) (ho:IsB (hp.get k)) (hi:Inv X w00 fb ρ hp W) (wf:Wf hp n) {v:Value} (hv:v=sv.den ρ)
  (hb1:W.heap[(ρ k).pos]? = some b1) (hc:∀ c T z,b1≠.cells c T z) (hs:∀ i,o=some i→Sat X ρ (W.putObj (ρ k).pos b2) k i):Dy X w00 fb n (⟨sv,hp.set o k,n,[k]⟩:Rs S) ρ W v ρ (W.putObj (ρ k).pos b2):=by
 refine putI_dy hk ht hf ho hi wf hv World.putObj_size (fun b hb=>World.putObj_heap_other hb) (fun B w0 hB hp=>?_) (fun ρ' f h=>X.chg h (Nat.le_of_eq World.putObj_size.symm) fun b _=>?_) hs
 ·exact ⟨hB.os,hB.tape,hB.output,by rw [World.putObj_size];exact hB.size,fun j hj=>(World.putObj_heap_other (by omega)).trans (hB.block j hj)⟩
 ·by_cases e:b=(ρ k).pos
  ·refine .inr (.inr fun c T z h=>?_)
   rw [e,hb1] at h
   exact hc c T z (Option.some.inj h)
  ·exact .inl (World.putObj_heap_other e)
theorem new_pl {T:TypeId} {cs:List Cell} {c:Nat} {pat:List Nat} {v:SV} (h:newR X hp n T cs c pat v=some r):Pl fb hp n r:=by
 unfold newR at h
 simp only [okS_eq,okL_eq] at h
 cases hb:(X.okK (cs.map kdC) && nmB n (cs.flatMap Cell.nm) && nmB (n+1) v.nm && Nat.blt n top) with
 | false=>rw [hb] at h;cases h
 | true =>
  rw [hb] at h
  cases h
  simp only [Bool.and_eq_true] at hb
  obtain ⟨⟨⟨-,h1⟩,h2⟩,h3⟩:=hb
  exact newI_pl (fun m hm=>Nat.lt_succ_of_lt (nmB_ok h1 m hm)) (nmB_ok h2) (Nat.le_of_ble_eq_true h3)
def putN (ρ:Env) (n p c:Nat):Env:=fun m=>if m=n then { ρ m with pos:=p,c:=c } else ρ m
theorem putN_ne {ρ:Env} {n p c m:Nat} (h:m≠n):putN ρ n p c m=ρ m:=if_neg h
theorem putN_self (ρ:Env) (n p c:Nat):(putN ρ n p c n).pos=p∧(putN ρ n p c n).c=c:=by simp [putN]
theorem okK_den (ρ:Env) (cs:List Cell):(cs.map (Cell.den ρ)).map kdV=cs.map kdC:=by
 rw [List.map_map]
 exact List.map_congr_left fun c _=>kd_den ρ c
theorem new_dy {T:TypeId} {cs:List Cell} {c:Nat} {pat:List Nat} {sv:SV} (h:newR X hp n T cs c pat sv=some r) (hi:Inv X w00 fb ρ hp W) (wf:Wf hp n) {v:Value} (hv:v=sv.den (putN ρ n W.heap.size c)) (hB:Below W.heap.size W W') (hb:Bx W' W.heap.size T (cs.map (Cell.den ρ))) :
  Dy X w00 fb n r ρ W v (putN ρ n W.heap.size c) W':=by
 unfold newR at h
 simp only [okS_eq,okL_eq] at h
 cases hb':(X.okK (cs.map kdC) && nmB n (cs.flatMap Cell.nm) && nmB (n+1) sv.nm && Nat.blt n top) with
 | false=>rw [hb'] at h;cases h
 | true =>
  rw [hb'] at h
  cases h
  simp only [Bool.and_eq_true] at hb'
  obtain ⟨⟨⟨h0,h1⟩,h2⟩,h3⟩:=hb'
  have ec:cs.map (Cell.den (putN ρ n W.heap.size c))=cs.map (Cell.den ρ):=cells_congr fun m hm=>putN_ne (by have:=nmB_ok h1 m hm;omega)
  refine newI_dy (Nat.le_of_ble_eq_true h3) hi wf (fun m hm=>putN_ne hm) (fun _=>(putN_self _ _ _ _).1) hv hB ⟨[],?_,?_,rfl,(putN_self _ _ _ _).2⟩
  ·rw [List.append_nil,(putN_self _ _ _ _).1,ec];exact hb
  ·rw [List.append_nil,okK_den];exact h0
theorem setMany_bx {T:TypeId} {p:Nat}:∀ {new vs:List Value} {off:Nat} {W:World},Bx W p T vs→off+new.length≤vs.length →
  Bx (setMany W p off new) p T (vs.take off ++ new ++ vs.drop (off+new.length))∧(setMany W p off new).heap.size=W.heap.size∧(∀ b,b≠p→(setMany W p off new).heap[b]? = W.heap[b]?)∧∀ B w0,Below B w0 W→B≤p→Below B w0 (setMany W p off new)
 | [],vs,off,W,h,_=>by
  refine ⟨?_,rfl,fun _ _=>rfl,fun _ _ h _=>h⟩
  simpa [setMany] using h
 | v :: r,vs,off,W,h,hl=>by
  simp only [List.length_cons] at hl
  obtain ⟨h1,h2,h3,h4⟩:=setMany_bx (new:=r) (off:=off+1) (h.set off v) (by simp;omega)
  simp only [setMany]
  refine ⟨?_,by rw [h2];simp,fun b hb=>by rw [h3 b hb];exact Below.heap_setCell W ⟨p,off,none⟩ v b hb,fun B w0 hB hp=>h4 B w0 (hB.setCell (p:=⟨p,off,none⟩) hp v) hp⟩
  have e:(vs.set off v).take (off+1) ++ r ++ (vs.set off v).drop (off+1+r.length)=vs.take off ++ v :: r ++ vs.drop (off+(v :: r).length):=by
   rw [List.take_add_one,List.take_set_of_le (Nat.le_refl off)]
   simp only [List.getElem?_set_self (show off<vs.length by omega),Option.toList]
   rw [List.drop_set_of_lt (by omega)]
   simp only [List.length_cons,List.append_assoc,List.cons_append,List.nil_append]
   rw [show off+1+r.length=off+(r.length+1) by omega]
  rw [e] at h1
  exact h1
theorem splice_rest {off:Nat} {new cs:List Cell} (ρ:Env) {rest:List Value} (h:off+new.length≤cs.length) :
  ((cs.map (Cell.den ρ)) ++ rest).take off ++ new.map (Cell.den ρ) ++ ((cs.map (Cell.den ρ)) ++ rest).drop (off+(new.map (Cell.den ρ)).length)=(splice off new cs).map (Cell.den ρ) ++ rest:=by
 unfold splice
 rw [List.take_append_of_le_length (by simp;omega),List.drop_append_of_le_length (by simp;omega)]
 simp [List.map_append,List.map_take,List.map_drop]
theorem kinds_splice {off:Nat} {new cs:List Cell} (_h:off+new.length≤cs.length) (hk:new.map kdC=((cs.drop off).take new.length).map kdC):(splice off new cs).map kdC=cs.map kdC:=by
 unfold splice
 rw [List.map_append,List.map_append,hk,← List.map_append,← List.map_append]
 congr 1
 rw [List.append_assoc,show cs.drop (off+new.length)=(cs.drop off).drop new.length by rw [List.drop_drop],List.take_append_drop,List.take_append_drop]
theorem splice_nm {off:Nat} {new cs:List Cell} {m:Nat} (h:m∈(splice off new cs).flatMap Cell.nm):m∈new.flatMap Cell.nm∨m∈cs.flatMap Cell.nm:=by
 unfold splice at h
 simp only [List.flatMap_append,List.mem_append] at h
 rcases h with (h | h) | h
 ·obtain ⟨c,hc,hn⟩:=List.mem_flatMap.1 h
  exact .inr (List.mem_flatMap.2 ⟨c,List.mem_of_mem_take hc,hn⟩)
 ·exact .inl h
 ·obtain ⟨c,hc,hn⟩:=List.mem_flatMap.1 h
  exact .inr (List.mem_flatMap.2 ⟨c,List.mem_of_mem_drop hc,hn⟩)
structure StoreIn (fb:List (Nat×Nat)) (hp:T (It S)) (n k off:Nat) (new:List Cell) (v:SV) (r:Rs S) (T:TypeId) (cs:List Cell) (ex:Option Nat) (pat:List Nat):Prop where
 see:hp.get k=some (.blk T cs ex pat)∧inR fb k=false
 le:off+new.length≤cs.length
 kd:new.map kdC=((cs.drop off).take new.length).map kdC
 nm:∀ m∈new.flatMap Cell.nm,m<n
 vn:∀ m∈v.nm,m<n
 kn:k<n
 nt:n<top
 eq:r=⟨v,hp.set (some (.blk T (splice off new cs) ex pat)) k,n,[k]⟩
theorem store_in {k off:Nat} {new:List Cell} {v:SV} (h:storeR fb hp n k off new v=some r):∃ T cs ex pat,StoreIn fb hp n k off new v r T cs ex pat:=by
 unfold storeR at h
 simp only [okS_eq,okL_eq] at h
 split at h
 ·rename_i T cs ex pat hs
  cases hb:(Nat.ble (off+new.length) cs.length && eqL (new.map kdC) (((cs.drop off).take new.length).map kdC) && nmB n (new.flatMap Cell.nm) && Nat.blt k n && Nat.blt n top && nmB n v.nm) with
  | false=>rw [hb] at h;cases h
  | true =>
   rw [hb] at h
   cases h
   simp only [Bool.and_eq_true] at hb
   obtain ⟨⟨⟨⟨⟨h1,h2⟩,h3⟩,h4⟩,h5⟩,h6⟩:=hb
   exact ⟨T,cs,ex,pat,see_some hs,Nat.le_of_ble_eq_true h1,eqL_eq h2,nmB_ok h3,nmB_ok h6,Nat.le_of_ble_eq_true h4,Nat.le_of_ble_eq_true h5,rfl⟩
 ·cases h
theorem store_pl {k off:Nat} {new:List Cell} {v:SV} (h:storeR fb hp n k off new v=some r):Pl fb hp n r:=by
 obtain ⟨T,cs,ex,pat,s⟩:=store_in h
 rw [s.eq]
 exact putI_pl s.kn s.nt s.see.2 ⟨_,s.see.1,rfl⟩ (fun wf i hi m hm=>by
  obtain rfl:=Option.some.inj hi
  rcases splice_nm hm with hm | hm
  ·exact s.nm m hm
  ·exact (wf k _ s.see.1).2 m hm) s.vn
theorem store_dy' {k off:Nat} {new:List Cell} {sv:SV} (h:storeR fb hp n k off new sv=some r) (hi:Inv X w00 fb ρ hp W) (wf:Wf hp n) {v:Value} (hv:v=sv.den ρ)
  (hW:∀ T cs rest,Bx W (ρ k).pos T (cs.map (Cell.den ρ) ++ rest)→off+new.length≤cs.length→Bx W' (ρ k).pos T ((splice off new cs).map (Cell.den ρ) ++ rest)∧W'.heap.size=W.heap.size∧(∀ b,b≠(ρ k).pos→W'.heap[b]? = W.heap[b]?)∧∀ B w0,Below B w0 W→B≤(ρ k).pos→Below B w0 W'):Dy X w00 fb n r ρ W v ρ W':=by
 obtain ⟨T,cs,ex,pat,s⟩:=store_in h
 obtain ⟨rest,h1,h2,h3⟩:=hi.sat k _ s.see.1 s.see.2
 obtain ⟨h4,h5,h6,h7⟩:=hW T cs rest h1 s.le
 have hkk:((splice off new cs).map (Cell.den ρ) ++ rest).map kdV=(cs.map (Cell.den ρ) ++ rest).map kdV:=by
  rw [List.map_append,List.map_append,okK_den,okK_den,kinds_splice s.le s.kd]
 have hfct:∀ ρ' f,S.on ρ' f W→S.on ρ' f W':=fun ρ' f hf=>X.chg hf (Nat.le_of_eq h5.symm) fun b hb=>by
  by_cases e:b=(ρ k).pos
  ·exact .inr (.inl ⟨T,_,by rw [e];exact h1,h2⟩)
  ·exact .inl (h6 b e)
 rw [s.eq]
 refine putI_dy s.kn s.nt s.see.2 ⟨_,s.see.1,rfl⟩ hi wf hv h5 h6 h7 hfct fun i hi'=>?_
 obtain rfl:=Option.some.inj hi'
 refine ⟨rest,h4,by rw [hkk];exact h2,?_⟩
 cases ex with
 | some c=>exact h3
 | none=>show _=_;rw [hkk];exact h3
theorem store_dy {k off:Nat} {new:List Cell} {sv:SV} (h:storeR fb hp n k off new sv=some r) (hi:Inv X w00 fb ρ hp W) (wf:Wf hp n) {v:Value} (hv:v=sv.den ρ) (hW:W' = setMany W (ρ k).pos off (new.map (Cell.den ρ))):Dy X w00 fb n r ρ W v ρ W':=
 store_dy' h hi wf hv fun T cs rest h1 hle=>by
  obtain ⟨h4,h5,h6,h7⟩:=setMany_bx (new:=new.map (Cell.den ρ)) (off:=off) h1 (by simp;omega)
  rw [splice_rest ρ hle,← hW] at h4
  rw [← hW] at h5 h6 h7
  exact ⟨h4,h5,h6,h7⟩
theorem conv_pl {o:Option (Rec S.F)} (h:conv X fb hp n o=some r) (wf:Wf hp n):Pl fb hp n r:=by
 unfold conv at h
 split at h
 ·split at h
  ·rename_i r' h1;cases h;exact pure_pl h1
  ·exact fact_pl h wf
 ·exact fact_pl h wf
 ·rename_i k T cs acc
  cases hk:Nat.beq k n with
  | true=>rw [hk] at h;exact new_pl h
  | false=>rw [hk] at h;cases h
 ·exact store_pl h
 ·cases h
theorem conv_dy {ct:Nat→Option (TypeId×List Cell)} {rc:Rec S.F} (h:conv X fb hp n (some rc)=some r) (hi:Inv X w00 fb ρ hp W) (wf:Wf hp n) {v:Value} (ha:After S ct n rc ρ W v W'):∃ ρ',Dy X w00 fb n r ρ W v ρ' W':=by
 obtain ⟨ρ',h1,h2,h3,h4⟩:=ha
 unfold conv at h
 split at h
 ·rename_i o v' acc he
  cases he
  have hB:Below W.heap.size W W':=h3
  split at h
  ·rename_i r' h5
   cases h
   have hn:∀ m∈v'.nm,m<n:=(by
    unfold pureR at h5
    simp only [okS_eq] at h5
    cases hb:nmB n v'.nm with
    | false=>rw [hb] at h5;cases h5
    | true=>exact nmB_ok hb)
   have hv:v=v'.den ρ:=by rw [h2];exact SV.den_congr fun m hm=>h1 m (.inl (hn m hm))
   have hr:r=⟨v',hp,n,[]⟩:=by
    unfold pureR at h5
    simp only [okS_eq] at h5
    cases hb:nmB n v'.nm with
    | false=>rw [hb] at h5;cases h5
    | true=>rw [hb] at h5;cases h5;rfl
   subst hr
   exact ⟨ρ,fun _ _=>rfl,hv,hi.quiet wf hB fun _ _=>rfl,fr_below hB,fun k hk hg=>by have:=wf.lt hg;omega⟩
  ·exact ⟨ρ',fact_dy h hi wf h1 h2 hB h4⟩
 ·rename_i o v' fs acc _ he
  cases he
  exact ⟨ρ',fact_dy h hi wf h1 h2 h3 h4⟩
 ·rename_i o k T cs acc he
  cases he
  cases hk:Nat.beq k n with
  | false=>rw [hk] at h;cases h
  | true =>
   rw [hk] at h
   obtain rfl:=Nat.eq_of_beq_eq_true hk
   obtain ⟨h5,h6⟩:=(show (ρ' k).pos=W.heap.size∧W' = W.alloc (.cells (cs.map (Cell.den ρ')).toArray T) from h3)
   have h7:nmB k (cs.flatMap Cell.nm)=true:=by
    simp only [cond_true] at h
    unfold newR at h
    simp only [okS_eq,okL_eq] at h
    cases hb:(X.okK (cs.map kdC) && nmB k (cs.flatMap Cell.nm) && nmB (k+1) (SV.e (.s (.ptr k 0))).nm && Nat.blt k top) with
    | false=>rw [hb] at h;cases h
    | true=>simp only [Bool.and_eq_true] at hb;exact hb.1.1.2
   have ec:cs.map (Cell.den ρ')=cs.map (Cell.den ρ):=cells_congr fun m hm=>h1 m (.inl (nmB_ok h7 m hm))
   rw [ec] at h6
   refine ⟨_,new_dy h hi wf ?_ (by rw [h6];exact (Below.refl _ _).alloc (Nat.le_refl _) _) (by rw [h6];exact Bx.new W T _)⟩
   rw [h2]
   simp only [SV.den,El.den,Cell.den,h5,(putN_self _ _ _ _).1]
 ·rename_i o v' k off cs acc he
  cases he
  obtain ⟨T,cs',-,-,-,h5,h6⟩:=(show ∃ T cs',ct k=some (T,cs')∧off+cs.length≤cs'.length∧okPuts S off cs cs' = true∧W' = setMany W (ρ k).pos off (cs.map (Cell.den ρ))∧ρ' = ρ from h3)
  subst h6
  exact ⟨_,store_dy h hi wf h2 h5⟩
 ·cases h
end
end Rx.Ry
end Go.Proofs.YtmijlcldmefggaaGreatDoor
