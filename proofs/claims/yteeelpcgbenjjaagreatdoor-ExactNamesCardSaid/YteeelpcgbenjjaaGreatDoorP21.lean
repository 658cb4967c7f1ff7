/- What the proof rests on, part 21. -/
import Derived.Test.YteeelpcgbenjjaaGreatDoorP13
namespace Go.Proofs.YteeelpcgbenjjaaGreatDoor
set_option maxRecDepth 100000
set_option maxHeartbeats 80000000
namespace Rx.Ry
open Go.RowKit
inductive T (α:Type) where
 | l
 | n (v:Option α) (a b:T α)
def T.get {α:Type}:T α→Nat→Option α
 | .l,_=>none
 | .n v a b,k=>match k with
  | 0=>v
  | k+1=>bif Nat.beq (Nat.mod k 2) 0 then a.get (Nat.div k 2) else b.get (Nat.div k 2)
def T.one {α:Type} (v:α):Nat→Nat→T α
 | 0,_=>.l
 | f+1,k=>match k with
  | 0=>.n (some v) .l .l
  | k+1=>bif Nat.beq (Nat.mod k 2) 0 then (match T.one v f (Nat.div k 2) with
    | .l=>.n none .l .l
    | .n x a b=>.n none (.n x a b) .l) else (match T.one v f (Nat.div k 2) with
    | .l=>.n none .l .l
    | .n x a b=>.n none .l (.n x a b))
def T.set {α:Type} (o:Option α):T α→Nat→T α
 | .l,k=>match o with
  | none=>.l
  | some v=>T.one v 40 k
 | .n v a b,k=>match k with
  | 0=>.n o a b
  | k+1=>bif Nat.beq (Nat.mod k 2) 0 then (match a.set o (Nat.div k 2) with
    | .l=>.n v .l b
    | .n x p q=>.n v (.n x p q) b) else (match b.set o (Nat.div k 2) with
    | .l=>.n v a .l
    | .n x p q=>.n v a (.n x p q))
theorem half {k j:Nat} (h:Nat.beq (Nat.mod k 2) 0=Nat.beq (Nat.mod j 2) 0) (hd:Nat.div k 2=Nat.div j 2):k=j:=by
 have h1:(Nat.beq (Nat.mod k 2) 0=true)↔(Nat.beq (Nat.mod j 2) 0=true):=by rw [h]
 have h2:k / 2=j / 2:=hd
 have e:∀ x y,(Nat.beq x y=true)↔x=y:=fun x y=>⟨Nat.eq_of_beq_eq_true,fun h=>by subst h;exact Nat.beq_refl x⟩
 rw [e,e] at h1
 have h3:k % 2=0↔j % 2=0:=h1
 omega
theorem one_get {α:Type} {v:α}:∀ {f k j:Nat},k+1<2 ^ f→(T.one v f k).get j=if j=k then some v else none
 | 0,k,j,h=>by simp at h
 | f+1,0,j,_=>by
  cases j with
  | zero=>rfl
  | succ j=>simp only [T.one,T.get];cases Nat.beq (Nat.mod j 2) 0 <;> simp
 | f+1,k+1,j,h=>by
  have h1:k / 2+1<2 ^ f:=by rw [Nat.pow_succ] at h;omega
  have ih:=fun j=>one_get (v:=v) (f:=f) (k:=Nat.div k 2) (j:=j) h1
  cases hb:Nat.beq (Nat.mod k 2) 0 with
  | true =>
   have e:T.one v (f+1) (k+1)=.n none (T.one v f (Nat.div k 2)) .l:=by
    simp only [T.one,hb,cond_true]
    split <;> simp_all
   rw [e]
   cases j with
   | zero=>simp [T.get]
   | succ j =>
    simp only [T.get]
    cases hj:Nat.beq (Nat.mod j 2) 0 with
    | true =>
     simp only [cond_true,ih]
     by_cases e2:Nat.div j 2=Nat.div k 2
     ·rw [if_pos e2,if_pos (by rw [half (hj.trans hb.symm) e2])]
     ·rw [if_neg e2,if_neg fun e3=>e2 (by rw [Nat.succ.inj e3])]
    | false =>
     simp only [cond_false]
     rw [if_neg fun e3=>by rw [Nat.succ.inj e3,hb] at hj;cases hj]
  | false =>
   have e:T.one v (f+1) (k+1)=.n none .l (T.one v f (Nat.div k 2)):=by
    simp only [T.one,hb,cond_false]
    split <;> simp_all
   rw [e]
   cases j with
   | zero=>simp [T.get]
   | succ j =>
    simp only [T.get]
    cases hj:Nat.beq (Nat.mod j 2) 0 with
    | false =>
     simp only [cond_false,ih]
     by_cases e2:Nat.div j 2=Nat.div k 2
     ·rw [if_pos e2,if_pos (by rw [half (hj.trans hb.symm) e2])]
     ·rw [if_neg e2,if_neg fun e3=>e2 (by rw [Nat.succ.inj e3])]
    | true =>
     simp only [cond_true]
     rw [if_neg fun e3=>by rw [Nat.succ.inj e3,hb] at hj;cases hj]
abbrev top:Nat:=1000000000
theorem set_get {α:Type} {o:Option α}:∀ {t:T α} {k j:Nat},k<top→(t.set o k).get j=if j=k then o else t.get j
 | .l,k,j,h=>by
  cases o with
  | none=>simp [T.set,T.get]
  | some v =>
   simp only [T.set]
   rw [one_get (show k+1<2 ^ 40 by simp only [top] at h;omega)]
   rfl
 | .n v a b,0,j,h=>by
  cases j with
  | zero=>rfl
  | succ j=>simp only [T.set,T.get];rw [if_neg (by omega)]
 | .n v a b,k+1,j,h=>by
  have h1:Nat.div k 2<top:=Nat.lt_of_le_of_lt (Nat.div_le_self k 2) (by omega)
  have iha:=fun j=>set_get (o:=o) (t:=a) (k:=Nat.div k 2) (j:=j) h1
  have ihb:=fun j=>set_get (o:=o) (t:=b) (k:=Nat.div k 2) (j:=j) h1
  cases hb:Nat.beq (Nat.mod k 2) 0 with
  | true =>
   have e:(T.n v a b).set o (k+1)=.n v (a.set o (Nat.div k 2)) b:=by
    simp only [T.set,hb,cond_true]
    split <;> simp_all
   rw [e]
   cases j with
   | zero=>simp [T.get]
   | succ j =>
    simp only [T.get]
    cases hj:Nat.beq (Nat.mod j 2) 0 with
    | true =>
     simp only [cond_true,iha]
     by_cases e2:Nat.div j 2=Nat.div k 2
     ·rw [if_pos e2,if_pos (by rw [half (hj.trans hb.symm) e2])]
     ·rw [if_neg e2,if_neg fun e3=>e2 (by rw [Nat.succ.inj e3])]
    | false =>
     simp only [cond_false]
     rw [if_neg fun e3=>by rw [Nat.succ.inj e3,hb] at hj;cases hj]
  | false =>
   have e:(T.n v a b).set o (k+1)=.n v a (b.set o (Nat.div k 2)):=by
    simp only [T.set,hb,cond_false]
    split <;> simp_all
   rw [e]
   cases j with
   | zero=>simp [T.get]
   | succ j =>
    simp only [T.get]
    cases hj:Nat.beq (Nat.mod j 2) 0 with
    | false =>
     simp only [cond_false,ihb]
     by_cases e2:Nat.div j 2=Nat.div k 2
     ·rw [if_pos e2,if_pos (by rw [half (hj.trans hb.symm) e2])]
     ·rw [if_neg e2,if_neg fun e3=>e2 (by rw [Nat.succ.inj e3])]
    | true =>
     simp only [cond_true]
     rw [if_neg fun e3=>by rw [Nat.succ.inj e3,hb] at hj;cases hj]
def kdV:Value→Nat
 | .int .u64 _=>1
 | .int .i64 _=>2
 | _=>0
def kdC:Cell→Nat
 | .it .u64 _ | .ou _=>1
 | .it .i64 _ | .oi _=>2
 | _=>0
theorem kd_den (ρ:Env) (c:Cell):kdV (c.den ρ)=kdC c:=by
 cases c with
 | it k n=>cases k <;> rfl
 | _=>rfl
inductive It (S:Sys) where
 | blk (T:TypeId) (cs:List Cell) (ex:Option Nat) (pat:List Nat)
 | fc (l:List S.F)
def It.nm {S:Sys}:It S→List Nat
 | .blk _ cs _ _=>cs.flatMap Cell.nm
 | .fc l=>l.flatMap S.nm
structure Xt (S:Sys) where
 okK:List Nat→Bool
 okP:List Nat→Bool
 key:S.F→Nat
 rep:∀ {p:List Nat} (c:Nat),okP p=true→okK (List.replicate c p).flatten=true
 chg:∀ {ρ:Env} {f:S.F} {W W':World},S.on ρ f W→W.heap.size≤W'.heap.size→(∀ b,b<W.heap.size→W'.heap[b]? = W.heap[b]?∨∃ T vs,Bx W b T vs∧okK (vs.map kdV)=true)→S.on ρ f W'
section
variable {S:Sys} (X:Xt S)
def Sat (ρ:Env) (W:World) (k:Nat):It S→Prop
 | .blk T cs ex pat=>∃ rest,Bx W (ρ k).pos T (cs.map (Cell.den ρ) ++ rest)∧X.okK ((cs.map (Cell.den ρ) ++ rest).map kdV)=true ∧
   match ex with
   | some c=>rest=[]∧(ρ k).c=c
   | none=>(cs.map (Cell.den ρ) ++ rest).map kdV=(List.replicate (ρ k).c pat).flatten
 | .fc l=>∀ f∈l,S.on ρ f W
def inR:List (Nat×Nat)→Nat→Bool
 | [],_=>false
 | p :: r,k=>(Nat.ble p.1 k && Nat.blt k p.2) || inR r k
structure Inv (w00:World) (fb:List (Nat×Nat)) (ρ:Env) (hp:T (It S)) (W:World):Prop where
 top:Below w00.heap.size w00 W
 sat:∀ k i,hp.get k=some i→inR fb k=false→Sat X ρ W k i
 lo:∀ k T cs e p,hp.get k=some (.blk T cs e p)→inR fb k=false→w00.heap.size≤(ρ k).pos
 inj:∀ k k' T cs e p T' cs' e' p',hp.get k=some (.blk T cs e p)→hp.get k' = some (.blk T' cs' e' p')→inR fb k=false→inR fb k' = false→k≠k'→(ρ k).pos≠(ρ k').pos
end
def Wf {S:Sys} (hp:T (It S)) (n:Nat):Prop:=∀ k i,hp.get k=some i→k<n∧∀ m∈i.nm,m<n
structure Fr (S:Sys) (ρ:Env) (wr:List Nat) (W W':World):Prop where
 sz:W.heap.size≤W'.heap.size
 blk:∀ b,b<W.heap.size→(∀ k∈wr,(ρ k).pos≠b)→W'.heap[b]? = W.heap[b]?
 fct:∀ ρ' f,S.on ρ' f W→S.on ρ' f W'
structure Rs (S:Sys) where
 v:SV
 hp:T (It S)
 n:Nat
 wr:List Nat
structure Pl {S:Sys} (fb:List (Nat×Nat)) (hp:T (It S)) (n:Nat) (r:Rs S):Prop where
 le:n≤r.n
 v:∀ m∈r.v.nm,m<r.n
 wf:Wf hp n→Wf r.hp r.n
 keep:∀ k,k<n→k ∉ r.wr→r.hp.get k=hp.get k
 wr:∀ k∈r.wr,k<n∧inR fb k=false∧∃ T cs e p,hp.get k=some (.blk T cs e p)
structure Dy {S:Sys} (X:Xt S) (w00:World) (fb:List (Nat×Nat)) (n:Nat) (r:Rs S) (ρ:Env) (W:World) (v:Value) (ρ':Env) (W':World):Prop where
 ag:∀ m,m<n∨r.n≤m→ρ' m=ρ m
 v:v=r.v.den ρ'
 inv:Inv X w00 fb ρ' r.hp W'
 fr:Fr S ρ r.wr W W'
 nw:∀ k T cs e p,n≤k→r.hp.get k=some (.blk T cs e p)→W.heap.size≤(ρ' k).pos∨∃ j∈r.wr,(ρ' k).pos=(ρ j).pos
theorem Sat.congr {S:Sys} {X:Xt S} {ρ ρ':Env} {W:World} {k:Nat} {i:It S} (hk:ρ' k=ρ k) (h:∀ m∈i.nm,ρ' m=ρ m) (hs:Sat X ρ W k i):Sat X ρ' W k i:=by
 cases i with
 | blk T cs ex pat =>
  have e:cs.map (Cell.den ρ')=cs.map (Cell.den ρ):=cells_congr fun m hm=>h m hm
  simp only [Sat] at hs ⊢
  rw [e,hk]
  exact hs
 | fc l=>exact fun f hf=>S.cg (fun m hm=>(h m (List.mem_flatMap.2 ⟨f,hf,hm⟩)).symm) (hs f hf)
theorem Sat.block {S:Sys} {X:Xt S} {ρ:Env} {W W':World} {k:Nat} {T:TypeId} {cs:List Cell} {e:Option Nat} {p:List Nat} (hs:Sat X ρ W k (.blk T cs e p)) (h:W'.heap[(ρ k).pos]? = W.heap[(ρ k).pos]?):Sat X ρ W' k (.blk T cs e p):=by
 obtain ⟨rest,h1,h2,h3⟩:=hs
 exact ⟨rest,h.trans h1,h2,h3⟩
theorem Sat.lt {S:Sys} {X:Xt S} {ρ:Env} {W:World} {k:Nat} {T:TypeId} {cs:List Cell} {e:Option Nat} {p:List Nat} (hs:Sat X ρ W k (.blk T cs e p)):(ρ k).pos<W.heap.size:=by
 obtain ⟨rest,h1,-⟩:=hs
 exact h1.lt
theorem fr_refl (S:Sys) (ρ:Env) (W:World):Fr S ρ [] W W:=⟨Nat.le_refl _,fun _ _ _=>rfl,fun _ _ h=>h⟩
theorem fr_below {S:Sys} {ρ:Env} {W W':World} (h:Below W.heap.size W W'):Fr S ρ [] W W':=⟨h.size,fun b hb _=>h.block b hb,fun _ _ hf=>S.bl h hf⟩
theorem Fr.trans {S:Sys} {ρ ρ1:Env} {wr wr1 wr2:List Nat} {W W1 W2:World} (h:Fr S ρ wr W W1) (h1:Fr S ρ1 wr1 W1 W2) (hw:∀ k∈wr,k∈wr2) (hn:∀ k∈wr1,(k∈wr2∧(ρ1 k).pos=(ρ k).pos)∨W.heap.size≤(ρ1 k).pos∨∃ j∈wr,(ρ1 k).pos=(ρ j).pos):Fr S ρ wr2 W W2:=by
 refine ⟨Nat.le_trans h.sz h1.sz,fun b hb hne=>?_,fun ρ' f hf=>h1.fct _ _ (h.fct _ _ hf)⟩
 rw [h1.blk b (Nat.lt_of_lt_of_le hb h.sz) fun k hk=>?_]
 ·exact h.blk b hb fun k hk=>hne k (hw k hk)
 ·rcases hn k hk with ⟨h2,h3⟩ | h2 | ⟨j,hj,h3⟩
  ·rw [h3];exact hne k h2
  ·omega
  ·rw [h3];exact hne j (hw j hj)
theorem Inv.quiet {S:Sys} {X:Xt S} {w00 W W':World} {fb:List (Nat×Nat)} {ρ ρ':Env} {hp:T (It S)} {n:Nat} (hi:Inv X w00 fb ρ hp W) (wf:Wf hp n) (hb:Below W.heap.size W W') (ag:∀ m,m<n→ρ' m=ρ m):Inv X w00 fb ρ' hp W':=by
 have hk:∀ k i,hp.get k=some i→ρ' k=ρ k:=fun k i h=>ag k (wf k i h).1
 refine ⟨hi.top.trans (hb.mono hi.top.size),fun k i h hf=>?_,fun k T cs e p h hf=>?_,fun k k' T cs e p T' cs' e' p' h h' hf hf' hne=>?_⟩
 ·have h1:=hi.sat k i h hf
  refine Sat.congr (ρ:=ρ) (hk k i h) (fun m hm=>ag m ((wf k i h).2 m hm)) ?_
  cases i with
  | blk T cs e p=>exact h1.block (hb.block _ h1.lt)
  | fc l=>exact fun f hf'=>S.bl hb (h1 f hf')
 ·rw [hk k _ h];exact hi.lo k T cs e p h hf
 ·rw [hk k _ h,hk k' _ h'];exact hi.inj k k' T cs e p T' cs' e' p' h h' hf hf' hne
end Rx.Ry
namespace Rx.Ry
open Go.RowKit
def nmB (n:Nat) (l:List Nat):Bool:=l.all fun m=>Nat.blt m n
def eqL:List Nat→List Nat→Bool
 | [],[]=>true
 | a :: r,b :: s=>Nat.beq a b && eqL r s
 | _,_=>false
theorem eqL_eq:∀ {a b:List Nat},eqL a b=true→a=b
 | [],[],_=>rfl
 | a :: r,b :: s,h=>by
  simp only [eqL,Bool.and_eq_true] at h
  rw [Nat.eq_of_beq_eq_true h.1,eqL_eq h.2]
 | [],_ :: _,h | _ :: _,[],h=>by simp [eqL] at h
theorem nmB_ok {n:Nat} {l:List Nat} (h:nmB n l=true):∀ m∈l,m<n:=fun m hm=>by
 have:=List.all_eq_true.1 h m hm
 exact Nat.le_of_ble_eq_true this
section
variable (P:Program) {S:Sys} (X:Xt S) (H:Tests S) (cons:List (Con S))
def see (fb:List (Nat×Nat)) (hp:T (It S)) (k:Nat):Option (It S):=bif inR fb k then none else hp.get k
def ded:List Nat→List Nat
 | a :: b :: r=>bif Nat.beq a b then ded (b :: r) else a :: ded (b :: r)
 | l=>l
def factsOf (fb:List (Nat×Nat)) (hp:T (It S)):List Nat→List S.F
 | []=>[]
 | m :: r=>match see fb hp m with
  | some (.fc l)=>l ++ factsOf fb hp r
  | _=>factsOf fb hp r
def addF (hp:T (It S)):List S.F→T (It S)
 | []=>hp
 | f :: r=>addF (match hp.get (X.key f) with
  | some (.fc l)=>hp.set (some (.fc (f :: l))) (X.key f)
  | _=>hp.set (some (.fc [f])) (X.key f)) r
def ctOf (fb:List (Nat×Nat)) (hp:T (It S)) (k:Nat):Option (TypeId×List Cell):=match see fb hp k with
 | some (.blk T cs (some _) _)=>some (T,cs)
 | _=>none
def pureR (hp:T (It S)) (n:Nat) (v:SV):Option (Rs S):=bif nmB n v.nm then some ⟨v,hp,n,[]⟩ else none
def newR (hp:T (It S)) (n:Nat) (T:TypeId) (cs:List Cell) (c:Nat) (pat:List Nat) (v:SV):Option (Rs S):=
 bif X.okK (cs.map kdC) && nmB n (cs.flatMap Cell.nm) && nmB (n+1) v.nm && Nat.blt n top then some ⟨v,hp.set (some (.blk T cs (some c) pat)) n,n+1,[]⟩ else none
def storeR (fb:List (Nat×Nat)) (hp:T (It S)) (n k off:Nat) (new:List Cell) (v:SV):Option (Rs S):=match see fb hp k with
 | some (.blk T cs ex pat)=>bif Nat.ble (off+new.length) cs.length && eqL (new.map kdC) (((cs.drop off).take new.length).map kdC) && nmB n (new.flatMap Cell.nm) && Nat.blt k n && Nat.blt n top && nmB n v.nm then
   some ⟨v,hp.set (some (.blk T (splice off new cs) ex pat)) k,n,[k]⟩ else none
 | _=>none
def factR (hp:T (It S)) (n:Nat) (v:SV) (fs:List S.F):Option (Rs S):=
 bif nmB (n+M) v.nm && Nat.blt (n+M) top && fs.all (fun f=>Nat.ble n (X.key f) && Nat.blt (X.key f) (n+M) && nmB (n+M) (S.nm f)) then some ⟨v,addF X hp fs,n+M,[]⟩ else none
def conv (fb:List (Nat×Nat)) (hp:T (It S)) (n:Nat):Option (Rec S.F)→Option (Rs S)
 | some ⟨v,.no,[],_⟩=>match pureR hp n v with
  | some r=>some r
  | none=>factR X hp n v []
 | some ⟨v,.no,fs,_⟩=>factR X hp n v fs
 | some ⟨.e (.s (.ptr k 0)),.new T cs,[],_⟩=>bif Nat.beq k n then newR X hp n T cs 0 [] (.e (.s (.ptr n 0))) else none
 | some ⟨v,.put k off cs,[],_⟩=>storeR fb hp n k off cs v
 | _=>none
end
section
variable {P:Program} {S:Sys} {X:Xt S} {w00 W W':World} {fb:List (Nat×Nat)} {ρ:Env} {hp:T (It S)} {n:Nat} {r:Rs S}
theorem see_some {k:Nat} {i:It S} (h:see fb hp k=some i):hp.get k=some i∧inR fb k=false:=by
 unfold see at h
 cases hb:inR fb k with
 | true=>rw [hb] at h;cases h
 | false=>rw [hb] at h;exact ⟨h,rfl⟩
theorem factsOf_ok (hi:Inv X w00 fb ρ hp W):∀ {L:List Nat} {f:S.F},f∈factsOf fb hp L→S.on ρ f W
 | [],f,h=>by simp [factsOf] at h
 | m :: r,f,h=>by
  simp only [factsOf] at h
  split at h
  ·rename_i l hl
   obtain ⟨h1,h2⟩:=see_some hl
   rcases List.mem_append.1 h with h | h
   ·exact hi.sat m _ h1 h2 f h
   ·exact factsOf_ok hi h
  ·exact factsOf_ok hi h
theorem ctOf_ok (hi:Inv X w00 fb ρ hp W) {k:Nat} {T:TypeId} {cs:List Cell} (h:ctOf fb hp k=some (T,cs)):Bx W (ρ k).pos T (cs.map (Cell.den ρ)):=by
 unfold ctOf at h
 split at h
 ·rename_i T' cs' c pat hs
  cases h
  obtain ⟨h1,h2⟩:=see_some hs
  obtain ⟨rest,h3,-,h4,-⟩:=hi.sat k _ h1 h2
  rw [h4,List.append_nil] at h3
  exact h3
 ·cases h
theorem addF_get (hw:Wf hp n) {n':Nat} (hn':n'≤top):∀ {fs:List S.F} {hp0:T (It S)},(∀ f∈fs,n≤X.key f∧X.key f<n')→(∀ k,k<n→hp0.get k=hp.get k)→∀ (L:S.F→Prop),(∀ k i,n≤k→hp0.get k=some i→k<n'∧∃ l,i=.fc l∧∀ f∈l,L f)→(∀ f∈fs,L f) →
  (∀ k,k<n→(addF X hp0 fs).get k=hp.get k)∧∀ k i,n≤k→(addF X hp0 fs).get k=some i→k<n'∧∃ l,i=.fc l∧∀ f∈l,L f
 | [],hp0,_,h1,L,h2,_=>⟨h1,h2⟩
 | f :: r,hp0,hf,h1,L,h2,hL=>by
  have hk:=hf f (by simp)
  simp only [addF]
  have key:∀ l,(∀ g∈l,L g)→(∀ k,k<n→(hp0.set (some (.fc (f :: l))) (X.key f)).get k=hp.get k)∧∀ k i,n≤k→(hp0.set (some (.fc (f :: l))) (X.key f)).get k=some i→k<n'∧∃ l,i=.fc l∧∀ f∈l,L f:=fun l hl=>by
   refine ⟨fun k hkn=>?_,fun k i hkn h=>?_⟩
   ·rw [set_get (by omega),if_neg (by omega)];exact h1 k hkn
   ·rw [set_get (by omega)] at h
    split at h
    ·rename_i e
     cases h
     subst e
     exact ⟨hk.2,_,rfl,fun g hg=>by
      rcases List.mem_cons.1 hg with rfl | hg
      ·exact hL g (by simp)
      ·exact hl g hg⟩
    ·exact h2 k i hkn h
  split
  ·rename_i l hl
   obtain ⟨-,l',e,h3⟩:=h2 _ _ hk.1 hl
   cases e
   obtain ⟨h4,h5⟩:=key l h3
   exact addF_get hw hn' (fun g hg=>hf g (by simp [hg])) h4 L h5 fun g hg=>hL g (by simp [hg])
  ·obtain ⟨h4,h5⟩:=key [] (by simp)
   exact addF_get hw hn' (fun g hg=>hf g (by simp [hg])) h4 L h5 fun g hg=>hL g (by simp [hg])
theorem pure_pl {v:SV} (h:pureR hp n v=some r):Pl fb hp n r:=by
 unfold pureR at h
 cases hb:nmB n v.nm with
 | false=>rw [hb] at h;cases h
 | true =>
  rw [hb] at h
  cases h
  exact ⟨Nat.le_refl _,nmB_ok hb,fun h=>h,fun _ _ _=>rfl,fun k hk=>by cases hk⟩
theorem pure_dy {sv:SV} (h:pureR hp n sv=some r) (hi:Inv X w00 fb ρ hp W) (wf:Wf hp n) {v:Value} (hv:v=sv.den ρ):Dy X w00 fb n r ρ W v ρ W:=by
 unfold pureR at h
 cases hb:nmB n sv.nm with
 | false=>rw [hb] at h;cases h
 | true =>
  rw [hb] at h
  cases h
  exact ⟨fun _ _=>rfl,hv,hi,fr_refl S ρ W,fun k T cs e p hk hg=>by have:=(wf k _ hg).1;omega⟩
theorem fact_pl {v:SV} {fs:List S.F} (h:factR X hp n v fs=some r) (wf:Wf hp n):Pl fb hp n r:=by
 unfold factR at h
 cases hb:(nmB (n+M) v.nm && Nat.blt (n+M) top && fs.all (fun f=>Nat.ble n (X.key f) && Nat.blt (X.key f) (n+M) && nmB (n+M) (S.nm f))) with
 | false=>rw [hb] at h;cases h
 | true =>
  rw [hb] at h
  cases h
  simp only [Bool.and_eq_true,List.all_eq_true] at hb
  obtain ⟨⟨h1,h2⟩,h3⟩:=hb
  have h2:=Nat.le_of_ble_eq_true h2
  obtain ⟨h4,h5⟩:=addF_get (X:=X) (n':=n+M) (fs:=fs) (hp0:=hp) wf (by omega) (fun f hf=>by
   have:=h3 f hf
   exact ⟨Nat.le_of_ble_eq_true this.1.1,Nat.le_of_ble_eq_true this.1.2⟩) (fun _ _=>rfl) (fun f=>f∈fs) (fun k i hk hg=>by have:=(wf k i hg).1;omega) (fun _ h=>h)
  refine ⟨Nat.le_add_right _ _,nmB_ok h1,fun _ k i hg=>?_,fun k hk _=>h4 k hk,fun k hk=>by cases hk⟩
  rcases Nat.lt_or_ge k n with hk | hk
  ·have hg:(addF X hp fs).get k=some i:=hg
   rw [h4 k hk] at hg
   have:=wf k i hg
   exact ⟨Nat.lt_add_right _ hk,fun m hm=>Nat.lt_add_right _ (this.2 m hm)⟩
  ·obtain ⟨h6,l,rfl,h7⟩:=h5 k i hk hg
   refine ⟨h6,fun m hm=>?_⟩
   obtain ⟨f,hf,hm⟩:=List.mem_flatMap.1 hm
   exact nmB_ok (h3 f (h7 f hf)).2 m hm
theorem fact_dy {sv:SV} {fs:List S.F} (h:factR X hp n sv fs=some r) (hi:Inv X w00 fb ρ hp W) (wf:Wf hp n) {v:Value} {ρ':Env} (hag:∀ m,m<n∨n+M≤m→ρ' m=ρ m) (hv:v=sv.den ρ') (hB:Below W.heap.size W W') (hfs:∀ f∈fs,S.on ρ' f W') :
  Dy X w00 fb n r ρ W v ρ' W':=by
 unfold factR at h
 cases hb:(nmB (n+M) sv.nm && Nat.blt (n+M) top && fs.all (fun f=>Nat.ble n (X.key f) && Nat.blt (X.key f) (n+M) && nmB (n+M) (S.nm f))) with
 | false=>rw [hb] at h;cases h
 | true =>
  rw [hb] at h
  cases h
  simp only [Bool.and_eq_true,List.all_eq_true] at hb
  obtain ⟨⟨h1,h2⟩,h3⟩:=hb
  have h2:=Nat.le_of_ble_eq_true h2
  obtain ⟨h4,h5⟩:=addF_get (X:=X) (n':=n+M) (fs:=fs) (hp0:=hp) wf (by omega) (fun f hf=>by
   have:=h3 f hf
   exact ⟨Nat.le_of_ble_eq_true this.1.1,Nat.le_of_ble_eq_true this.1.2⟩) (fun _ _=>rfl) (fun f=>f∈fs) (fun k i hk hg=>by have:=(wf k i hg).1;omega) (fun _ h=>h)
  have hq:=hi.quiet wf hB fun m hm=>hag m (.inl hm)
  have hold:∀ k T cs e p,(addF X hp fs).get k=some (.blk T cs e p)→hp.get k=some (.blk T cs e p):=fun k T cs e p hg=>by
   rcases Nat.lt_or_ge k n with hk | hk
   ·rwa [h4 k hk] at hg
   ·obtain ⟨-,l,e,-⟩:=h5 k _ hk hg;cases e
  refine ⟨hag,hv,⟨hq.top,fun k i hg hf=>?_,fun k T cs e p hg hf=>hq.lo k T cs e p (hold _ _ _ _ _ hg) hf,fun k k' T cs e p T' cs' e' p' hg hg' hf hf' hne=>hq.inj k k' T cs e p T' cs' e' p' (hold _ _ _ _ _ hg) (hold _ _ _ _ _ hg') hf hf' hne⟩,?_,fun k T cs e p hk hg=>?_⟩
  ·rcases Nat.lt_or_ge k n with hk | hk
   ·have hg:(addF X hp fs).get k=some i:=hg
    rw [h4 k hk] at hg
    exact hq.sat k i hg hf
   ·obtain ⟨-,l,rfl,h7⟩:=h5 k i hk hg
    exact fun f hf=>hfs f (h7 f hf)
  ·exact fr_below hB
  ·have:=(wf k _ (hold _ _ _ _ _ hg)).1;omega
theorem new_pl {T:TypeId} {cs:List Cell} {c:Nat} {pat:List Nat} {v:SV} (h:newR X hp n T cs c pat v=some r):Pl fb hp n r:=by
 unfold newR at h
 cases hb:(X.okK (cs.map kdC) && nmB n (cs.flatMap Cell.nm) && nmB (n+1) v.nm && Nat.blt n top) with
 | false=>rw [hb] at h;cases h
 | true =>
  rw [hb] at h
  cases h
  simp only [Bool.and_eq_true] at hb
  obtain ⟨⟨⟨-,h1⟩,h2⟩,h3⟩:=hb
  have h3:n<top:=Nat.le_of_ble_eq_true h3
  refine ⟨Nat.le_succ _,nmB_ok h2,fun wf k i hg=>?_,fun k hk _=>?_,fun k hk=>by cases hk⟩
  ·change (hp.set (some (.blk T cs (some c) pat)) n).get k=some i at hg
   rw [set_get h3] at hg
   split at hg
   ·rename_i e
    subst e
    obtain rfl:=Option.some.inj hg
    exact ⟨Nat.lt_succ_self _,fun m hm=>Nat.lt_succ_of_lt (nmB_ok h1 m hm)⟩
   ·have:=wf k i hg
    exact ⟨Nat.lt_succ_of_lt this.1,fun m hm=>Nat.lt_succ_of_lt (this.2 m hm)⟩
  ·show (hp.set _ n).get k=_
   rw [set_get h3,if_neg (by omega)]
def putN (ρ:Env) (n p c:Nat):Env:=fun m=>if m=n then { ρ m with pos:=p,c:=c } else ρ m
theorem putN_ne {ρ:Env} {n p c m:Nat} (h:m≠n):putN ρ n p c m=ρ m:=if_neg h
theorem putN_self (ρ:Env) (n p c:Nat):(putN ρ n p c n).pos=p∧(putN ρ n p c n).c=c:=by simp [putN]
theorem okK_den (ρ:Env) (cs:List Cell):(cs.map (Cell.den ρ)).map kdV=cs.map kdC:=by
 rw [List.map_map]
 exact List.map_congr_left fun c _=>kd_den ρ c
theorem new_dy {T:TypeId} {cs:List Cell} {c:Nat} {pat:List Nat} {sv:SV} (h:newR X hp n T cs c pat sv=some r) (hi:Inv X w00 fb ρ hp W) (wf:Wf hp n) {v:Value} (hv:v=sv.den (putN ρ n W.heap.size c)) (hB:Below W.heap.size W W') (hb:Bx W' W.heap.size T (cs.map (Cell.den ρ))) :
  Dy X w00 fb n r ρ W v (putN ρ n W.heap.size c) W':=by
 unfold newR at h
 cases hb':(X.okK (cs.map kdC) && nmB n (cs.flatMap Cell.nm) && nmB (n+1) sv.nm && Nat.blt n top) with
 | false=>rw [hb'] at h;cases h
 | true =>
  rw [hb'] at h
  cases h
  simp only [Bool.and_eq_true] at hb'
  obtain ⟨⟨⟨h0,h1⟩,h2⟩,h3⟩:=hb'
  have h3:n<top:=Nat.le_of_ble_eq_true h3
  have hag:∀ m,m<n→putN ρ n W.heap.size c m=ρ m:=fun m hm=>putN_ne (by omega)
  have hq:=hi.quiet wf hB hag
  have hold:∀ k i,k≠n→(hp.set (some (.blk T cs (some c) pat)) n).get k=some i→hp.get k=some i:=fun k i hk hg=>by
   rwa [set_get h3,if_neg hk] at hg
  have hlt:∀ k T' cs' e p,k≠n→(hp.set (some (.blk T cs (some c) pat)) n).get k=some (.blk T' cs' e p)→inR fb k=false→(putN ρ n W.heap.size c k).pos<W.heap.size:=fun k T' cs' e p hk hg hf=>by
   rw [putN_ne hk]
   exact (hi.sat k _ (hold k _ hk hg) hf).lt
  refine ⟨fun m hm=>putN_ne (fun e=>by subst e;exact hm.elim (Nat.lt_irrefl _) (Nat.not_succ_le_self _)),hv,⟨hq.top,fun k i hg hf=>?_,fun k T' cs' e p hg hf=>?_,fun k k' T1 cs1 e1 p1 T2 cs2 e2 p2 hg hg' hf hf' hne=>?_⟩,fr_below hB,fun k T' cs' e p hk hg=>?_⟩
  ·by_cases e:k=n
   ·subst e
    change (hp.set (some (.blk T cs (some c) pat)) k).get k=some i at hg
    rw [set_get h3,if_pos rfl] at hg
    obtain rfl:=Option.some.inj hg
    have ec:cs.map (Cell.den (putN ρ k W.heap.size c))=cs.map (Cell.den ρ):=cells_congr fun m hm=>putN_ne (by have:=nmB_ok h1 m hm;omega)
    refine ⟨[],?_,?_,rfl,(putN_self _ _ _ _).2⟩
    ·rw [List.append_nil,(putN_self _ _ _ _).1,ec];exact hb
    ·rw [List.append_nil,okK_den];exact h0
   ·exact hq.sat k i (hold k i e hg) hf
  ·by_cases e':k=n
   ·subst e'
    rw [(putN_self _ _ _ _).1];exact hi.top.size
   ·exact hq.lo k T' cs' e p (hold k _ e' hg) hf
  ·by_cases e:k=n
   ·have h6:=hlt k' _ _ _ _ (fun e'=>hne (e.trans e'.symm)) hg' hf'
    rw [e,(putN_self _ _ _ _).1];omega
   ·by_cases e':k' = n
    ·have h6:=hlt k _ _ _ _ e hg hf
     rw [e',(putN_self _ _ _ _).1];omega
    ·exact hq.inj k k' _ _ _ _ _ _ _ _ (hold k _ e hg) (hold k' _ e' hg') hf hf' hne
  ·by_cases e':k=n
   ·subst e'
    rw [(putN_self _ _ _ _).1];exact .inl (Nat.le_refl _)
   ·have:=(wf k _ (hold k _ e' hg)).1;omega
theorem setMany_bx {T:TypeId} {p:Nat}:∀ {new vs:List Value} {off:Nat} {W:World},Bx W p T vs→off+new.length≤vs.length →
  Bx (setMany W p off new) p T (vs.take off ++ new ++ vs.drop (off+new.length))∧(setMany W p off new).heap.size=W.heap.size∧(∀ b,b≠p→(setMany W p off new).heap[b]? = W.heap[b]?)∧∀ B w0,Below B w0 W→B≤p→Below B w0 (setMany W p off new)
 | [],vs,off,W,h,_=>by
  refine ⟨?_,rfl,fun _ _=>rfl,fun _ _ h _=>h⟩
  simpa [setMany] using h
 | v :: r,vs,off,W,h,hl=>by
  simp only [List.length_cons] at hl
  obtain ⟨h1,h2,h3,h4⟩:=setMany_bx (new:=r) (off:=off+1) (h.set off v) (by simp;omega)
  simp only [setMany]
  refine ⟨?_,by rw [h2];simp,fun b hb=>by rw [h3 b hb];exact Below.heap_setCell W ⟨p,off,none⟩ v b hb,fun B w0 hB hp=>h4 B w0 (hB.setCell (p:=⟨p,off,none⟩) hp v) hp⟩
  have e:(vs.set off v).take (off+1) ++ r ++ (vs.set off v).drop (off+1+r.length)=vs.take off ++ v :: r ++ vs.drop (off+(v :: r).length):=by
   rw [List.take_add_one,List.take_set_of_le (Nat.le_refl off)]
   simp only [List.getElem?_set_self (show off<vs.length by omega),Option.toList]
   rw [List.drop_set_of_lt (by omega)]
   simp only [List.length_cons,List.append_assoc,List.cons_append,List.nil_append]
   rw [show off+1+r.length=off+(r.length+1) by omega]
  rw [e] at h1
  exact h1
theorem splice_rest {off:Nat} {new cs:List Cell} (ρ:Env) {rest:List Value} (h:off+new.length≤cs.length) :
  ((cs.map (Cell.den ρ)) ++ rest).take off ++ new.map (Cell.den ρ) ++ ((cs.map (Cell.den ρ)) ++ rest).drop (off+(new.map (Cell.den ρ)).length)=(splice off new cs).map (Cell.den ρ) ++ rest:=by
 unfold splice
 rw [List.take_append_of_le_length (by simp;omega),List.drop_append_of_le_length (by simp;omega)]
 simp [List.map_append,List.map_take,List.map_drop]
theorem kinds_splice {off:Nat} {new cs:List Cell} (_h:off+new.length≤cs.length) (hk:new.map kdC=((cs.drop off).take new.length).map kdC):(splice off new cs).map kdC=cs.map kdC:=by
 unfold splice
 rw [List.map_append,List.map_append,hk,← List.map_append,← List.map_append]
 congr 1
 rw [List.append_assoc,show cs.drop (off+new.length)=(cs.drop off).drop new.length by rw [List.drop_drop],List.take_append_drop,List.take_append_drop]
theorem splice_nm {off:Nat} {new cs:List Cell} {m:Nat} (h:m∈(splice off new cs).flatMap Cell.nm):m∈new.flatMap Cell.nm∨m∈cs.flatMap Cell.nm:=by
 unfold splice at h
 simp only [List.flatMap_append,List.mem_append] at h
 rcases h with (h | h) | h
 ·obtain ⟨c,hc,hn⟩:=List.mem_flatMap.1 h
  exact .inr (List.mem_flatMap.2 ⟨c,List.mem_of_mem_take hc,hn⟩)
 ·exact .inl h
 ·obtain ⟨c,hc,hn⟩:=List.mem_flatMap.1 h
  exact .inr (List.mem_flatMap.2 ⟨c,List.mem_of_mem_drop hc,hn⟩)
structure StoreIn (fb:List (Nat×Nat)) (hp:T (It S)) (n k off:Nat) (new:List Cell) (v:SV) (r:Rs S) (T:TypeId) (cs:List Cell) (ex:Option Nat) (pat:List Nat):Prop where
 see:hp.get k=some (.blk T cs ex pat)∧inR fb k=false
 le:off+new.length≤cs.length
 kd:new.map kdC=((cs.drop off).take new.length).map kdC
 nm:∀ m∈new.flatMap Cell.nm,m<n
 vn:∀ m∈v.nm,m<n
 kn:k<n
 nt:n<top
 eq:r=⟨v,hp.set (some (.blk T (splice off new cs) ex pat)) k,n,[k]⟩
theorem store_in {k off:Nat} {new:List Cell} {v:SV} (h:storeR fb hp n k off new v=some r):∃ T cs ex pat,StoreIn fb hp n k off new v r T cs ex pat:=by
 unfold storeR at h
 split at h
 ·rename_i T cs ex pat hs
  cases hb:(Nat.ble (off+new.length) cs.length && eqL (new.map kdC) (((cs.drop off).take new.length).map kdC) && nmB n (new.flatMap Cell.nm) && Nat.blt k n && Nat.blt n top && nmB n v.nm) with
  | false=>rw [hb] at h;cases h
  | true =>
   rw [hb] at h
   cases h
   simp only [Bool.and_eq_true] at hb
   obtain ⟨⟨⟨⟨⟨h1,h2⟩,h3⟩,h4⟩,h5⟩,h6⟩:=hb
   exact ⟨T,cs,ex,pat,see_some hs,Nat.le_of_ble_eq_true h1,eqL_eq h2,nmB_ok h3,nmB_ok h6,Nat.le_of_ble_eq_true h4,Nat.le_of_ble_eq_true h5,rfl⟩
 ·cases h
theorem store_pl {k off:Nat} {new:List Cell} {v:SV} (h:storeR fb hp n k off new v=some r):Pl fb hp n r:=by
 obtain ⟨T,cs,ex,pat,s⟩:=store_in h
 have ht:k<top:=Nat.lt_trans s.kn s.nt
 rw [s.eq]
 refine ⟨Nat.le_refl _,s.vn,fun wf j i hg=>?_,fun j hj hne=>?_,fun j hj=>?_⟩
 ·change (hp.set (some (.blk T (splice off new cs) ex pat)) k).get j=some i at hg
  rw [set_get ht] at hg
  split at hg
  ·rename_i e
   subst e
   obtain rfl:=Option.some.inj hg
   refine ⟨s.kn,fun m hm=>?_⟩
   rcases splice_nm hm with hm | hm
   ·exact s.nm m hm
   ·exact (wf j _ s.see.1).2 m hm
  ·exact wf j i hg
 ·show (hp.set _ k).get j=_
  rw [set_get ht,if_neg (by simpa using hne)]
 ·obtain rfl:=List.mem_singleton.1 hj
  exact ⟨s.kn,s.see.2,T,cs,ex,pat,s.see.1⟩
theorem store_dy' {k off:Nat} {new:List Cell} {sv:SV} (h:storeR fb hp n k off new sv=some r) (hi:Inv X w00 fb ρ hp W) (wf:Wf hp n) {v:Value} (hv:v=sv.den ρ)
  (hW:∀ T cs rest,Bx W (ρ k).pos T (cs.map (Cell.den ρ) ++ rest)→off+new.length≤cs.length→Bx W' (ρ k).pos T ((splice off new cs).map (Cell.den ρ) ++ rest)∧W'.heap.size=W.heap.size∧(∀ b,b≠(ρ k).pos→W'.heap[b]? = W.heap[b]?)∧∀ B w0,Below B w0 W→B≤(ρ k).pos→Below B w0 W'):Dy X w00 fb n r ρ W v ρ W':=by
 obtain ⟨T,cs,ex,pat,s⟩:=store_in h
 have ht:k<top:=Nat.lt_trans s.kn s.nt
 obtain ⟨rest,h1,h2,h3⟩:=hi.sat k _ s.see.1 s.see.2
 have hlo:=hi.lo k _ _ _ _ s.see.1 s.see.2
 obtain ⟨h4,h5,h6,h7⟩:=hW T cs rest h1 s.le
 have hkk:((splice off new cs).map (Cell.den ρ) ++ rest).map kdV=(cs.map (Cell.den ρ) ++ rest).map kdV:=by
  rw [List.map_append,List.map_append,okK_den,okK_den,kinds_splice s.le s.kd]
 have hfct:∀ ρ' f,S.on ρ' f W→S.on ρ' f W':=fun ρ' f hf=>X.chg hf (Nat.le_of_eq h5.symm) fun b hb=>by
  by_cases e:b=(ρ k).pos
  ·exact .inr ⟨T,_,by rw [e];exact h1,h2⟩
  ·exact .inl (h6 b e)
 rw [s.eq]
 refine ⟨fun _ _=>rfl,hv,⟨h7 _ _ hi.top hlo,fun j i hg hf=>?_,fun j T' cs' e p hg hf=>?_,fun j j' T1 cs1 e1 p1 T2 cs2 e2 p2 hg hg' hf hf' hne=>?_⟩,⟨Nat.le_of_eq h5.symm,fun b hb hne=>h6 b fun e=>hne k (by simp) e.symm,hfct⟩,fun j T' cs' e p hj hg=>?_⟩
 ·change (hp.set (some (.blk T (splice off new cs) ex pat)) k).get j=some i at hg
  rw [set_get ht] at hg
  split at hg
  ·rename_i e
   subst e
   obtain rfl:=Option.some.inj hg
   refine ⟨rest,h4,by rw [hkk];exact h2,?_⟩
   cases ex with
   | some c=>exact h3
   | none=>show _=_;rw [hkk];exact h3
  ·rename_i hne
   have h8:=hi.sat j i hg hf
   cases i with
   | blk T' cs' e' p'=>exact h8.block (h6 _ (hi.inj j k _ _ _ _ _ _ _ _ hg s.see.1 hf s.see.2 hne))
   | fc l=>exact fun f hf'=>hfct _ _ (h8 f hf')
 ·change (hp.set (some (.blk T (splice off new cs) ex pat)) k).get j=some (.blk T' cs' e p) at hg
  rw [set_get ht] at hg
  split at hg
  ·rename_i e';subst e';exact hlo
  ·exact hi.lo j _ _ _ _ hg hf
 ·have hb:∀ j T' cs' e p,(hp.set (some (.blk T (splice off new cs) ex pat)) k).get j=some (.blk T' cs' e p)→∃ T' cs' e p,hp.get j=some (.blk T' cs' e p):=fun j T' cs' e p hg=>by
   rw [set_get ht] at hg
   split at hg
   ·rename_i e';subst e';exact ⟨_,_,_,_,s.see.1⟩
   ·exact ⟨_,_,_,_,hg⟩
  obtain ⟨_,_,_,_,hg1⟩:=hb j _ _ _ _ hg
  obtain ⟨_,_,_,_,hg2⟩:=hb j' _ _ _ _ hg'
  exact hi.inj j j' _ _ _ _ _ _ _ _ hg1 hg2 hf hf' hne
 ·change (hp.set (some (.blk T (splice off new cs) ex pat)) k).get j=some (.blk T' cs' e p) at hg
  rw [set_get ht] at hg
  split at hg
  ·rename_i e';subst e';exact absurd s.kn (by omega)
  ·have:=(wf j _ hg).1;omega
theorem store_dy {k off:Nat} {new:List Cell} {sv:SV} (h:storeR fb hp n k off new sv=some r) (hi:Inv X w00 fb ρ hp W) (wf:Wf hp n) {v:Value} (hv:v=sv.den ρ) (hW:W' = setMany W (ρ k).pos off (new.map (Cell.den ρ))):Dy X w00 fb n r ρ W v ρ W':=
 store_dy' h hi wf hv fun T cs rest h1 hle=>by
  obtain ⟨h4,h5,h6,h7⟩:=setMany_bx (new:=new.map (Cell.den ρ)) (off:=off) h1 (by simp;omega)
  rw [splice_rest ρ hle,← hW] at h4
  rw [← hW] at h5 h6 h7
  exact ⟨h4,h5,h6,h7⟩
theorem conv_pl {o:Option (Rec S.F)} (h:conv X fb hp n o=some r) (wf:Wf hp n):Pl fb hp n r:=by
 unfold conv at h
 split at h
 ·split at h
  ·rename_i r' h1;cases h;exact pure_pl h1
  ·exact fact_pl h wf
 ·exact fact_pl h wf
 ·rename_i k T cs acc
  cases hk:Nat.beq k n with
  | true=>rw [hk] at h;exact new_pl h
  | false=>rw [hk] at h;cases h
 ·exact store_pl h
 ·cases h
theorem conv_dy {ct:Nat→Option (TypeId×List Cell)} {rc:Rec S.F} (h:conv X fb hp n (some rc)=some r) (hi:Inv X w00 fb ρ hp W) (wf:Wf hp n) {v:Value} (ha:After S ct n rc ρ W v W'):∃ ρ',Dy X w00 fb n r ρ W v ρ' W':=by
 obtain ⟨ρ',h1,h2,h3,h4⟩:=ha
 unfold conv at h
 split at h
 ·rename_i o v' acc he
  cases he
  have hB:Below W.heap.size W W':=h3
  split at h
  ·rename_i r' h5
   cases h
   have hn:∀ m∈v'.nm,m<n:=(by
    unfold pureR at h5
    cases hb:nmB n v'.nm with
    | false=>rw [hb] at h5;cases h5
    | true=>exact nmB_ok hb)
   have hv:v=v'.den ρ:=by rw [h2];exact SV.den_congr fun m hm=>h1 m (.inl (hn m hm))
   have hr:r=⟨v',hp,n,[]⟩:=by
    unfold pureR at h5
    cases hb:nmB n v'.nm with
    | false=>rw [hb] at h5;cases h5
    | true=>rw [hb] at h5;cases h5;rfl
   subst hr
   exact ⟨ρ,fun _ _=>rfl,hv,hi.quiet wf hB fun _ _=>rfl,fr_below hB,fun k T cs e p hk hg=>by have:=(wf k _ hg).1;omega⟩
  ·exact ⟨ρ',fact_dy h hi wf h1 h2 hB h4⟩
 ·rename_i o v' fs acc _ he
  cases he
  exact ⟨ρ',fact_dy h hi wf h1 h2 h3 h4⟩
 ·rename_i o k T cs acc he
  cases he
  cases hk:Nat.beq k n with
  | false=>rw [hk] at h;cases h
  | true =>
   rw [hk] at h
   obtain rfl:=Nat.eq_of_beq_eq_true hk
   obtain ⟨h5,h6⟩:=(show (ρ' k).pos=W.heap.size∧W' = W.alloc (.cells (cs.map (Cell.den ρ')).toArray T) from h3)
   have h7:nmB k (cs.flatMap Cell.nm)=true:=by
    simp only [cond_true] at h
    unfold newR at h
    cases hb:(X.okK (cs.map kdC) && nmB k (cs.flatMap Cell.nm) && nmB (k+1) (SV.e (.s (.ptr k 0))).nm && Nat.blt k top) with
    | false=>rw [hb] at h;cases h
    | true=>simp only [Bool.and_eq_true] at hb;exact hb.1.1.2
   have ec:cs.map (Cell.den ρ')=cs.map (Cell.den ρ):=cells_congr fun m hm=>h1 m (.inl (nmB_ok h7 m hm))
   rw [ec] at h6
   refine ⟨_,new_dy h hi wf ?_ (by rw [h6];exact (Below.refl _ _).alloc (Nat.le_refl _) _) (by rw [h6];exact Bx.new W T _)⟩
   rw [h2]
   simp only [SV.den,El.den,Cell.den,h5,(putN_self _ _ _ _).1]
 ·rename_i o v' k off cs acc he
  cases he
  obtain ⟨T,cs',-,-,-,h5,h6⟩:=(show ∃ T cs',ct k=some (T,cs')∧off+cs.length≤cs'.length∧okPuts S off cs cs' = true∧W' = setMany W (ρ k).pos off (cs.map (Cell.den ρ))∧ρ' = ρ from h3)
  subst h6
  exact ⟨_,store_dy h hi wf h2 h5⟩
 ·cases h
end
end Rx.Ry
end Go.Proofs.YteeelpcgbenjjaaGreatDoor
