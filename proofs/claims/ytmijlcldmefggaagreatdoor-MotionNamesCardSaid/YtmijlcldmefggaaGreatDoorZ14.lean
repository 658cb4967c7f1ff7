/- What the proof rests on, part 14. -/
import Derived.Test.YtmijlcldmefggaaGreatDoorZ13
namespace Go.Proofs.YtmijlcldmefggaaGreatDoor
set_option maxRecDepth 100000
set_option maxHeartbeats 80000000
namespace Rx
open Go.RowKit
def mask (acc:List Nat):List Edge→Nat
 | []=>0
 | e :: r=>if Region.binds .any e then (2 ^ e.on ||| acc.getD e.on 0) ||| mask acc r else mask acc r
def befs:List Oper→List Nat→List Nat
 | [],acc=>acc
 | o :: r,acc=>befs r (acc ++ [mask acc o.after.toList])
theorem mask_congr {acc acc':List Nat}:∀ {l:List Edge},(∀ e∈l,Region.binds .any e=true→acc.getD e.on 0=acc'.getD e.on 0)→mask acc l=mask acc' l
 | [],_=>rfl
 | e :: r,h=>by
  simp only [mask]
  split
  ·rename_i hb
   rw [h e (by simp) hb,mask_congr fun e' he'=>h e' (by simp [he'])]
  ·exact mask_congr fun e' he'=>h e' (by simp [he'])
theorem mask_bit {acc:List Nat} {j:Nat}:∀ {l:List Edge},(mask acc l).testBit j=true→∃ e∈l,Region.binds .any e=true∧(e.on=j∨(acc.getD e.on 0).testBit j=true)
 | [],h=>by simp [mask] at h
 | e :: r,h=>by
  simp only [mask] at h
  split at h
  ·rename_i hb
   simp only [Nat.testBit_or,Bool.or_eq_true,Nat.testBit_two_pow,decide_eq_true_eq] at h
   rcases h with (h | h) | h
   ·exact ⟨e,by simp,hb,.inl h⟩
   ·exact ⟨e,by simp,hb,.inr h⟩
   ·obtain ⟨e',h1,h2⟩:=mask_bit h
    exact ⟨e',by simp [h1],h2⟩
  ·obtain ⟨e',h1,h2⟩:=mask_bit h
   exact ⟨e',by simp [h1],h2⟩
theorem befs_keep:∀ (l:List Oper) (acc:List Nat) (k:Nat),k<acc.length→(befs l acc).getD k 0=acc.getD k 0
 | [],_,_,_=>rfl
 | o :: r,acc,k,h=>by
  rw [befs,befs_keep r _ k (by simp;omega)]
  simp [List.getD,List.getElem?_append_left h]
theorem befs_get:∀ {l:List Oper} {acc:List Nat} {i:Nat} {o:Oper},lexB acc.length l=true→l[i]? = some o→(befs l acc).getD (acc.length+i) 0=mask (befs l acc) o.after.toList
 | [],_,_,_,_,h=>by simp at h
 | x :: r,acc,0,o,hl,h=>by
  simp only [List.getElem?_cons_zero,Option.some.injEq] at h
  subst h
  have hlx:=fun e he hb=>lexB_get (i:=0) hl rfl e he hb
  rw [befs,Nat.add_zero,befs_keep r _ _ (by simp)]
  rw [show (acc ++ [mask acc x.after.toList]).getD acc.length 0=mask acc x.after.toList by simp [List.getD]]
  refine mask_congr fun e he hb=>?_
  have h1:=hlx e (by simpa using he) hb
  rw [befs_keep r _ _ (by simp;omega)]
  simp [List.getD,List.getElem?_append_left (show e.on<acc.length by omega)]
 | x :: r,acc,i+1,o,hl,h=>by
  simp only [lexB,Bool.and_eq_true] at hl
  have:=befs_get (l:=r) (acc:=acc ++ [mask acc x.after.toList]) (i:=i) (o:=o) (by simpa using hl.2) (by simpa using h)
  rw [befs]
  rw [← this]
  congr 1
  simp
  omega
section
variable {l:List Oper}
def bf (l:List Oper) (i j:Nat):Bool:=((befs l []).getD i 0).testBit j
theorem bf_edge (hl:lexB 0 l=true) {i j:Nat} {o:Oper} (ho:l[i]? = some o) (h:bf l i j=true):∃ e∈o.after,Region.binds .any e=true∧(e.on=j∨bf l e.on j=true):=by
 unfold bf at h
 have h1:=befs_get (l:=l) (acc:=[]) (i:=i) (by simpa using hl) ho
 simp only [List.length_nil,Nat.zero_add] at h1
 rw [h1] at h
 obtain ⟨e,he,hb,hh⟩:=mask_bit h
 exact ⟨e,by simpa using he,hb,hh⟩
theorem bf_none {i j:Nat} (hi:l[i]? = none):bf l i j=false:=by
 have hlen:∀ (l:List Oper) (acc:List Nat),(befs l acc).length=acc.length+l.length:=fun l=>by
  induction l with
  | nil=>intro acc;rfl
  | cons o r ih=>intro acc;rw [befs,ih];simp;omega
 unfold bf
 have h2:l.length≤i:=by simpa using hi
 have:(befs l [])[i]? = none:=by
  apply List.getElem?_eq_none
  rw [hlen];simpa using h2
 simp [List.getD,this]
theorem bf_lt (hl:lexB 0 l=true):∀ {i j:Nat},bf l i j=true→j<i:=by
 intro i
 induction i using Nat.strongRecOn with
 | _ i ih =>
  intro j h
  cases ho:l[i]? with
  | none=>rw [bf_none ho] at h;cases h
  | some o =>
   obtain ⟨e,he,hb,hh⟩:=bf_edge hl ho h
   have h1:=lexB_get hl ho e he hb
   rw [Nat.zero_add] at h1
   rcases hh with rfl | hh
   ·exact h1
   ·have:=ih e.on h1 hh;omega
theorem bf_done (hl:lexB 0 l=true) {dn:Nat→Bool} (hc:Closed l dn):∀ {i j:Nat},dn i=true→bf l i j=true→dn j=true:=by
 intro i
 induction i using Nat.strongRecOn with
 | _ i ih =>
  intro j hi h
  cases ho:l[i]? with
  | none=>rw [bf_none ho] at h;cases h
  | some o =>
   obtain ⟨e,he,hb,hh⟩:=bf_edge hl ho h
   have h1:=lexB_get hl ho e he hb
   have h2:=hc i o ho hi e he hb
   rcases hh with rfl | hh
   ·exact h2
   ·exact ih e.on (by omega) h2 hh
theorem bf_ready (hl:lexB 0 l=true) {dn:Nat→Bool} (hc:Closed l dn) {i j:Nat} {o:Oper} (ho:l[i]? = some o) (hw:∀ e∈o.after,Region.binds .any e=true→dn e.on=true) (h:bf l i j=true):dn j=true:=by
 obtain ⟨e,he,hb,hh⟩:=bf_edge hl ho h
 rcases hh with rfl | hh
 ·exact hw e he hb
 ·exact bf_done hl hc (hw e he hb) hh
end
def wr:List Oper→Tmp→Nat→Option Nat
 | [],_,_=>none
 | o :: r,t,i=>if o.dst=some t then some i else wr r t (i+1)
theorem wr_some:∀ {l:List Oper} {t:Tmp} {i j:Nat},wr l t i=some j→i≤j∧∃ o,l[j - i]? = some o∧o.dst=some t
 | [],_,_,_,h=>by simp [wr] at h
 | o :: r,t,i,j,h=>by
  simp only [wr] at h
  split at h
  ·rename_i hd
   cases h
   exact ⟨Nat.le_refl _,o,by simp,hd⟩
  ·obtain ⟨h1,o',h2,h3⟩:=wr_some h
   refine ⟨by omega,o',?_,h3⟩
   rw [show j - i=(j - (i+1))+1 by omega]
   simpa using h2
theorem wr_of:∀ {l:List Oper} {t:Tmp} {i j:Nat} {o:Oper},dstsB l=true→l[j]? = some o→o.dst=some t→wr l t i=some (i+j)
 | [],_,_,_,_,_,h,_=>by simp at h
 | x :: r,t,i,0,o,hB,h,hd=>by
  simp only [List.getElem?_cons_zero,Option.some.injEq] at h
  subst h
  simp [wr,hd]
 | x :: r,t,i,j+1,o,hB,h,hd=>by
  simp only [dstsB,Bool.and_eq_true,Bool.or_eq_true,List.all_eq_true] at hB
  have h':r[j]? = some o:=by simpa using h
  have hne:¬ x.dst=some t:=fun e=>by
   rcases hB.1 with h1 | h1
   ·rw [e] at h1;cases h1
   ·have:=h1 o (List.mem_of_getElem? h')
    rw [hd,e] at this
    simp at this
  rw [wr,if_neg hne,wr_of hB.2 h' hd]
  congr 1
  omega
def lk:List (Nat×TypeId×List Cell)→Nat→Option (TypeId×List Cell)
 | [],_=>none
 | (k',x) :: r,k=>if k' = k then some x else lk r k
structure State (S:Sys) where
 regs:List SV
 bx:List (Nat×TypeId×List Cell)
 fs:List S.F
 base:Nat
section
variable (P:Program) (S:Sys) (H:Tests S) (cons:List (Con S)) (σ:State S) (l:List Oper)
def putOne (r:Rec S.F) (k:Nat) (cs:List Cell):List Cell:=
 match r.ef with
 | .put k' off new=>if k' = k then splice off new cs else cs
 | _=>cs
def putsAt (sel:Nat→Bool) (rs:List (Rec S.F)) (k:Nat):List Nat→List Cell→List Cell
 | [],cs=>cs
 | j :: r,cs=>putsAt sel rs k r (if sel j then putOne S (rs.getD j default) k cs else cs)
def startAt (sel:Nat→Bool) (rs:List (Rec S.F)) (k:Nat):Option (TypeId×List Cell):=
 if k<σ.base then lk σ.bx k else
  if sel ((k - σ.base) / M) && (k - σ.base) % M == 0 then
   (rs.getD ((k - σ.base) / M) default).ef.made
  else none
def ctAt (sel:Nat→Bool) (rs:List (Rec S.F)) (k:Nat):Option (TypeId×List Cell):=
 match startAt S σ sel rs k with
 | some (T,cs)=>some (T,putsAt S sel rs k (List.range l.length) cs)
 | none=>none
def dbFrom (sel:Nat→Bool) (rs:List (Rec S.F)):List Nat→List S.F
 | []=>[]
 | j :: r=>if sel j then (rs.getD j default).fs ++ dbFrom sel rs r else dbFrom sel rs r
def dbAt (sel:Nat→Bool) (rs:List (Rec S.F)):List S.F:=dbFrom S sel rs (List.range l.length) ++ σ.fs
def rdAt (bs:List Nat) (i:Nat) (rs:List (Rec S.F)) (t:Tmp):Option SV:=
 match wr l t 0 with
 | none=>some (σ.regs.getD t .und)
 | some j=>if j=i then some (σ.regs.getD t .und) else
  if (bs.getD i 0).testBit j then some (rs.getD j default).v else
  if (bs.getD j 0).testBit i then some (σ.regs.getD t .und) else none
def guardAt (bs:List Nat) (i:Nat) (rs:List (Rec S.F)) (o:Oper):Option Bool:=
 match o.guard with
 | none=>some true
 | some (j,want)=>if (bs.getD i 0).testBit j then
   match (rs.getD j default).v,(l[j]?).bind (·.dst) with
   | .e (.s (.bl b)),some _=>some (b == want)
   | .und,_=>some false
   | _,_=>none
  else none
def effNm:Eff→List Nat
 | .no=>[]
 | .new _ cs | .got _ cs=>cs.flatMap Cell.nm
 | .put k _ cs=>k :: cs.flatMap Cell.nm
def okNm (bs:List Nat) (i n:Nat):Bool:=decide (n<σ.base) || (n - σ.base) / M == i || (bs.getD i 0).testBit ((n - σ.base) / M)
def okRec (bs:List Nat) (i:Nat) (r:Rec S.F):Bool:=r.v.nm.all (okNm S σ bs i) && (effNm r.ef).all (okNm S σ bs i) && r.fs.all fun f=>(S.nm f).all (okNm S σ bs i)
def evalAt (bs:List Nat) (i:Nat) (o:Oper) (rs:List (Rec S.F)):Option (Rec S.F):=
 match guardAt S l bs i rs o with
 | some true =>
  match evalOp P H cons (rdAt S σ l bs i rs) (ctAt S σ l (fun j=>(bs.getD i 0).testBit j) rs) (dbAt S σ l (fun j=>(bs.getD i 0).testBit j) rs) (σ.base+M*i) o.op with
  | some r=>if okRec S σ bs i r then some r else none
  | none=>none
 | some false=>some default
 | none=>none
def runOps (bs:List Nat):List Oper→Nat→List (Rec S.F)→Option (List (Rec S.F))
 | [],_,rs=>some rs
 | o :: r,i,rs=>match evalAt P S H cons σ l bs i o rs with
  | some x=>runOps bs r (i+1) (rs ++ [x])
  | none=>none
def confB (bs:List Nat) (rs:List (Rec S.F)):Bool:=
 (List.range l.length).all fun j=>match (rs.getD j default).ef with
  | .put k _ _=>(List.range l.length).all fun i=>i == j || !((rs.getD i default).acc.contains k) || (bs.getD i 0).testBit j || (bs.getD j 0).testBit i
  | _=>true
def regAt (dn:Nat→Bool) (rs:List (Rec S.F)) (t:Tmp):SV:=
 match wr l t 0 with
 | none=>σ.regs.getD t .und
 | some j=>if dn j then (rs.getD j default).v else σ.regs.getD t .und
def keysAt:List Nat:=σ.bx.map (·.1) ++ (List.range l.length).map fun j=>σ.base+M*j
def pickBx (sel:Nat→Bool) (rs:List (Rec S.F)):List Nat→List (Nat×TypeId×List Cell)
 | []=>[]
 | k :: r=>match ctAt S σ l sel rs k with
  | some x=>(k,x) :: pickBx sel rs r
  | none=>pickBx sel rs r
def upTo (n:Nat) (j:Nat):Bool:=decide (j<n)
def regionX:Option (State S):=
 if lexB 0 l && dstsB l && l.all (fun o=>o.dst.all (· < σ.regs.length)) then
  match runOps P S H cons σ l (befs l []) l 0 [] with
  | some rs=>if confB S l (befs l []) rs then
    some ⟨(List.range σ.regs.length).map (regAt S σ l (upTo l.length) rs),pickBx S σ l (upTo l.length) rs (keysAt S σ l),dbAt S σ l (upTo l.length) rs,σ.base+M*l.length⟩
   else none
  | none=>none
 else none
end
end Rx
namespace Rx
open Go.RowKit
section
variable {P:Program} {S:Sys} {H:Tests S} {cons:List (Con S)} {σ:State S} {l:List Oper}
theorem runOps_get {bs:List Nat}:∀ {r:List Oper} {i:Nat} {rs full:List (Rec S.F)},runOps P S H cons σ l bs r i rs=some full→rs.length=i →
  full.take i=rs∧full.length=i+r.length∧∀ j o,r[j]? = some o→∃ x,full[i+j]? = some x∧evalAt P S H cons σ l bs (i+j) o (full.take (i+j))=some x
 | [],i,rs,full,h,hl=>by
  simp only [runOps,Option.some.injEq] at h
  subst h
  exact ⟨by rw [← hl];simp,by simp [hl],fun j o h=>by simp at h⟩
 | o :: r,i,rs,full,h,hl=>by
  simp only [runOps] at h
  split at h
  ·rename_i x hx
   obtain ⟨h1,h2,h3⟩:=runOps_get h (by simp [hl])
   have h4:full.take i=rs:=by
    have:(full.take (i+1)).take i=(rs ++ [x]).take i:=by rw [h1]
    rw [List.take_take,Nat.min_eq_left (by omega)] at this
    rw [this,← hl];simp
   refine ⟨h4,by simp [h2];omega,fun j o' hj=>?_⟩
   cases j with
   | zero =>
    simp only [List.getElem?_cons_zero,Option.some.injEq] at hj
    subst hj
    refine ⟨x,?_,by rw [Nat.add_zero,h4];exact hx⟩
    have:(full.take (i+1))[i]? = (rs ++ [x])[i]?:=by rw [h1]
    rw [List.getElem?_take_of_lt (by omega)] at this
    rw [Nat.add_zero,this,← hl];simp
   | succ j =>
    have:=h3 j o' (by simpa using hj)
    rwa [show i+1+j=i+(j+1) by omega] at this
  ·cases h
theorem puts_congr {sel sel':Nat→Bool} {rs rs':List (Rec S.F)} {k:Nat}:∀ {L:List Nat} {cs:List Cell},
  (∀ j∈L,(∀ cs,(if sel j then putOne S (rs.getD j default) k cs else cs)=if sel' j then putOne S (rs'.getD j default) k cs else cs))→putsAt S sel rs k L cs=putsAt S sel' rs' k L cs
 | [],_,_=>rfl
 | j :: r,cs,h=>by
  simp only [putsAt]
  rw [h j (by simp)]
  exact puts_congr fun j hj=>h j (by simp [hj])
theorem puts_append {sel:Nat→Bool} {rs:List (Rec S.F)} {k:Nat}:∀ {L L':List Nat} {cs:List Cell},putsAt S sel rs k (L ++ L') cs=putsAt S sel rs k L' (putsAt S sel rs k L cs)
 | [],_,_=>rfl
 | j :: r,L',cs=>by simp only [List.cons_append,putsAt];exact puts_append
theorem puts_none {sel:Nat→Bool} {rs:List (Rec S.F)} {k:Nat}:∀ {L:List Nat} {cs:List Cell},(∀ j∈L,sel j=true→∀ cs,putOne S (rs.getD j default) k cs=cs)→putsAt S sel rs k L cs=cs
 | [],_,_=>rfl
 | j :: r,cs,h=>by
  simp only [putsAt]
  rw [show (if sel j=true then putOne S (rs.getD j default) k cs else cs)=cs by
   split
   ·rename_i hs;exact h j (by simp) hs cs
   ·rfl]
  exact puts_none fun j hj=>h j (by simp [hj])
theorem mem_dbFrom {sel:Nat→Bool} {rs:List (Rec S.F)} {f:S.F}:∀ {L:List Nat},f∈dbFrom S sel rs L↔∃ j∈L,sel j=true∧f∈(rs.getD j default).fs
 | []=>by simp [dbFrom]
 | j :: r=>by
  simp only [dbFrom]
  split
  ·rename_i hs
   simp [mem_dbFrom (L:=r),hs]
  ·rename_i hs
   simp [mem_dbFrom (L:=r),hs]
theorem ct_congr {sel sel':Nat→Bool} {rs rs':List (Rec S.F)} (h:∀ j,sel j=sel' j∧(sel j=true→rs.getD j default=rs'.getD j default)):ctAt S σ l sel rs=ctAt S σ l sel' rs':=by
 have hs:∀ k,startAt S σ sel rs k=startAt S σ sel' rs' k:=fun k=>by
  unfold startAt
  split
  ·rfl
  ·obtain ⟨h1,h2⟩:=h ((k - σ.base) / M)
   rw [← h1]
   by_cases hb:sel ((k - σ.base) / M)=true
   ·rw [h2 hb]
   ·simp [hb]
 funext k
 unfold ctAt
 rw [hs]
 split
 ·rename_i T cs _
  rw [puts_congr (sel':=sel') (rs':=rs') fun j _ cs=>by
   obtain ⟨h1,h2⟩:=h j
   rw [← h1]
   split
   ·rename_i hb;rw [h2 hb]
   ·rfl]
 ·rfl
theorem dbFrom_congr {sel sel':Nat→Bool} {rs rs':List (Rec S.F)}:∀ {L:List Nat},(∀ j∈L,sel j=sel' j∧(sel j=true→rs.getD j default=rs'.getD j default))→dbFrom S sel rs L=dbFrom S sel' rs' L
 | [],_=>rfl
 | j :: r,h=>by
  obtain ⟨h1,h2⟩:=h j (by simp)
  simp only [dbFrom]
  rw [dbFrom_congr (L:=r) fun j hj=>h j (by simp [hj]),← h1]
  split
  ·rename_i hb;rw [h2 hb]
  ·rfl
theorem evalAt_congr {bs:List Nat} {i:Nat} {o:Oper} {rs rs':List (Rec S.F)} (h:∀ j,(bs.getD i 0).testBit j=true→rs.getD j default=rs'.getD j default) :
  evalAt P S H cons σ l bs i o rs=evalAt P S H cons σ l bs i o rs':=by
 have hg:guardAt S l bs i rs o=guardAt S l bs i rs' o:=by
  unfold guardAt
  split
  ·rfl
  ·rename_i j want _
   split
   ·rename_i hb;rw [h j hb]
   ·rfl
 have hr:rdAt S σ l bs i rs=rdAt S σ l bs i rs':=by
  funext t
  unfold rdAt
  split
  ·rfl
  ·split
   ·rfl
   ·split
    ·rename_i hb;rw [h _ hb]
    ·rfl
 have hc:ctAt S σ l (fun j=>(bs.getD i 0).testBit j) rs=ctAt S σ l (fun j=>(bs.getD i 0).testBit j) rs':=ct_congr fun j=>⟨rfl,h j⟩
 have hd:dbAt S σ l (fun j=>(bs.getD i 0).testBit j) rs=dbAt S σ l (fun j=>(bs.getD i 0).testBit j) rs':=by
  unfold dbAt
  rw [dbFrom_congr fun j _=>⟨rfl,h j⟩]
 unfold evalAt
 rw [hg,hr,hc,hd]
theorem run_all {rs:List (Rec S.F)} (hl:lexB 0 l=true) (h:runOps P S H cons σ l (befs l []) l 0 []=some rs) :
  rs.length=l.length∧∀ i o,l[i]? = some o→evalAt P S H cons σ l (befs l []) i o rs=some (rs.getD i default):=by
 obtain ⟨-,h2,h3⟩:=runOps_get h rfl
 refine ⟨by omega,fun i o ho=>?_⟩
 obtain ⟨x,h4,h5⟩:=h3 i o ho
 rw [Nat.zero_add] at h4 h5
 rw [List.getD,h4,Option.getD_some,← h5]
 refine evalAt_congr fun j hb=>?_
 have:=bf_lt hl (i:=i) (j:=j) hb
 simp only [List.getD]
 rw [List.getElem?_take_of_lt this]
end
theorem splice_nm {off:Nat} {new cs:List Cell} {n:Nat} (h:n∈(splice off new cs).flatMap Cell.nm):n∈new.flatMap Cell.nm∨n∈cs.flatMap Cell.nm:=by
 unfold splice at h
 simp only [List.flatMap_append,List.mem_append] at h
 rcases h with (h | h) | h
 ·obtain ⟨c,hc,hn⟩:=List.mem_flatMap.1 h
  exact .inr (List.mem_flatMap.2 ⟨c,List.mem_of_mem_take hc,hn⟩)
 ·exact .inl h
 ·obtain ⟨c,hc,hn⟩:=List.mem_flatMap.1 h
  exact .inr (List.mem_flatMap.2 ⟨c,List.mem_of_mem_drop hc,hn⟩)
structure Stored (S:Sys) (ρ:Env) (p:Nat) (T:TypeId) (cs:List Cell) (W W':World):Prop where
 bx:Bx W' p T (cs.map (Cell.den ρ))
 sz:W'.heap.size=W.heap.size
 far:∀ b,b≠p→W'.heap[b]? = W.heap[b]?
 on:∀ f,S.on ρ f W→S.on ρ f W'
 bel:∀ B w0,Below B w0 W→B≤p→Below B w0 W'
theorem setMany_ok {S:Sys} {ρ:Env} {p off:Nat} {T:TypeId} {cs new:List Cell} (hok:okPuts S off new cs=true) (hlo:S.lo≤p) (hle:off+new.length≤cs.length):∀ (rest done:List Cell) {W:World},done ++ rest=new →
  Bx W p T ((splice off done cs).map (Cell.den ρ))→Stored S ρ p T (splice off new cs) W (setMany W p (off+done.length) (rest.map (Cell.den ρ)))
 | [],done,W,hd,hb=>by
  rw [List.append_nil] at hd
  subst hd
  exact ⟨hb,rfl,fun _ _=>rfl,fun _ h=>h,fun _ _ h _=>h⟩
 | c :: rest,done,W,hd,hb=>by
  have hlen:done.length+(rest.length+1)=new.length:=by rw [← hd];simp
  have hsp:=set_splice (off:=off) (done:=done) (c:=c) (cs:=cs) (by omega)
  have hb':=hb.set (off+done.length) (c.den ρ)
  rw [← List.map_set,hsp] at hb'
  have hkk:S.okC (splice off done cs)=true:=by
   have h1:=List.all_eq_true.1 hok done.length (List.mem_range.2 (by omega))
   rwa [← hd,List.take_left' rfl] at h1
  have ih:=setMany_ok hok hlo hle rest (done ++ [c]) (by rw [← hd];simp) hb'
  rw [List.length_append,List.length_singleton,← Nat.add_assoc] at ih
  simp only [List.map_cons,setMany]
  refine ⟨ih.bx,by rw [ih.sz];simp,fun b hne=>?_,fun f hf=>ih.on f (S.st hkk hlo hb hf),fun B w0 h hB=>ih.bel B w0 (h.setCell (p:=⟨p,off+done.length,none⟩) hB _) hB⟩
  rw [ih.far b hne]
  exact Below.heap_setCell W ⟨p,off+done.length,none⟩ _ b hne
end Rx
namespace Rx
open Go.RowKit
structure Wf {S:Sys} (σ:State S):Prop where
 nr:∀ t,∀ n∈(σ.regs.getD t .und).nm,n<σ.base
 nb:∀ k T cs,lk σ.bx k=some (T,cs)→k<σ.base∧∀ n∈cs.flatMap Cell.nm,n<σ.base
 nf:∀ f∈σ.fs,∀ n∈S.nm f,n<σ.base
structure Holds {S:Sys} (w0:World) (n:Nat) (rgs:Tmp→SV) (bxs:Nat→Option (TypeId×List Cell)) (fcs:S.F→Prop) (ρ:Env) (a:Act) (W:World):Prop where
 sz:a.tmps.size=n
 df:a.defers=[]
 rg:∀ t,a.tmps.getD t undef=(rgs t).den ρ
 bel:Below w0.heap.size w0 W
 bx:∀ k T cs,bxs k=some (T,cs)→w0.heap.size≤(ρ k).pos∧Bx W (ρ k).pos T (cs.map (Cell.den ρ))
 inj:∀ k k' x x',bxs k=some x→bxs k' = some x'→k≠k'→(ρ k).pos≠(ρ k').pos
 fc:∀ f,fcs f→S.on ρ f W
def State.Says {S:Sys} (σ:State S) (w0:World) (ρ:Env) (a:Act) (W:World):Prop:=
 Holds (S:=S) w0 σ.regs.length (fun t=>σ.regs.getD t .und) (lk σ.bx) (fun f=>f∈σ.fs) ρ a W
section
variable {P:Program} {S:Sys} {H:Tests S} {cons:List (Con S)} {σ:State S} {l:List Oper}
structure Ran (P:Program) (S:Sys) (H:Tests S) (cons:List (Con S)) (σ:State S) (l:List Oper) (rs:List (Rec S.F)):Prop where
 lex:lexB 0 l=true
 dst:dstsB l=true
 ins:∀ o∈l,∀ t,o.dst=some t→t<σ.regs.length
 len:rs.length=l.length
 ev:∀ i o,l[i]? = some o→evalAt P S H cons σ l (befs l []) i o rs=some (rs.getD i default)
 cf:confB S l (befs l []) rs=true
def Jx (σ:State S) (l:List Oper) (rs:List (Rec S.F)) (w0:World) (ρ0:Env) (dn:Nat→Bool) (a:Act) (W:World):Prop:=
 ∃ ρ:Env,(∀ n,n<σ.base→ρ n=ρ0 n)∧Holds (S:=S) w0 σ.regs.length (regAt S σ l dn rs) (ctAt S σ l dn rs) (fun f=>f∈dbAt S σ l dn rs) ρ a W
variable {rs:List (Rec S.F)}
theorem getD_out {i:Nat} (h:rs.length≤i):rs.getD i default=default:=by simp [List.getD,List.getElem?_eq_none h]
theorem Ran.okRec (R:Ran P S H cons σ l rs) (j:Nat):okRec S σ (befs l []) j (rs.getD j default)=true:=by
 cases ho:l[j]? with
 | none =>
  rw [getD_out (by rw [R.len];simpa using ho)]
  rfl
 | some o =>
  have h:=R.ev j o ho
  unfold evalAt at h
  split at h
  ·split at h
   ·rename_i r _
    split at h
    ·rename_i hk
     cases h
     rename_i h'
     exact hk
    ·cases h
   ·cases h
  ·rw [← Option.some.inj h];rfl
  ·cases h
def Away (σ:State S) (i n:Nat):Prop:=n<σ.base+M*i∨σ.base+M*i+M≤n
theorem away_of {i n j:Nat} {dn:Nat→Bool} (R:Ran P S H cons σ l rs) (hc:Closed l dn) (hd:dn i=false) (hj:dn j=true) (h:okNm S σ (befs l []) j n=true):Away σ i n:=by
 unfold okNm at h
 simp only [Bool.or_eq_true,decide_eq_true_eq,beq_iff_eq] at h
 unfold Away
 by_cases hlt:n<σ.base+M*i
 ·exact .inl hlt
 ·right
  rcases Nat.lt_or_ge n (σ.base+M*i+M) with h1 | h1
  ·exfalso
   have e:(n - σ.base) / M=i:=by
    rw [show n - σ.base=M*i+(n - σ.base - M*i) by omega,Nat.mul_add_div (by decide),Nat.div_eq_of_lt (by omega),Nat.add_zero]
   rw [e] at h
   rcases h with (h | h) | h
   ·omega
   ·subst h;rw [hd] at hj;cases hj
   ·have:=bf_done R.lex hc hj (show bf l j i=true from h)
    rw [hd] at this;cases this
  ·exact h1
theorem away_old (i:Nat) {n:Nat} (h:n<σ.base):Away σ i n:=.inl (by omega)
theorem Ran.nmV (R:Ran P S H cons σ l rs) {dn:Nat→Bool} (hc:Closed l dn) {i j:Nat} (hd:dn i=false) (hj:dn j=true):∀ n∈(rs.getD j default).v.nm,Away σ i n:=fun n hn=>by
 have h:=R.okRec j
 unfold Rx.okRec at h
 simp only [Bool.and_eq_true,List.all_eq_true] at h
 exact away_of R hc hd hj (h.1.1 n hn)
theorem Ran.nmE (R:Ran P S H cons σ l rs) {dn:Nat→Bool} (hc:Closed l dn) {i j:Nat} (hd:dn i=false) (hj:dn j=true):∀ n∈effNm (rs.getD j default).ef,Away σ i n:=fun n hn=>by
 have h:=R.okRec j
 unfold Rx.okRec at h
 simp only [Bool.and_eq_true,List.all_eq_true] at h
 exact away_of R hc hd hj (h.1.2 n hn)
theorem Ran.nmF (R:Ran P S H cons σ l rs) {dn:Nat→Bool} (hc:Closed l dn) {i j:Nat} (hd:dn i=false) (hj:dn j=true):∀ f∈(rs.getD j default).fs,∀ n∈S.nm f,Away σ i n:=fun f hf n hn=>by
 have h:=R.okRec j
 unfold Rx.okRec at h
 simp only [Bool.and_eq_true,List.all_eq_true] at h
 exact away_of R hc hd hj (h.2 f hf n hn)
theorem putOne_nm {r:Rec S.F} {k:Nat} {cs:List Cell} {n:Nat} (h:n∈(putOne S r k cs).flatMap Cell.nm):n∈effNm r.ef∨n∈cs.flatMap Cell.nm:=by
 unfold putOne at h
 split at h
 ·rename_i k' off new he
  split at h
  ·rcases splice_nm h with h | h
   ·left;rw [he];simp only [effNm,List.mem_cons];exact .inr h
   ·exact .inr h
  ·exact .inr h
 ·exact .inr h
theorem puts_nm {sel:Nat→Bool} {k n:Nat}:∀ {L:List Nat} {cs:List Cell},n∈(putsAt S sel rs k L cs).flatMap Cell.nm→(∃ j,sel j=true∧n∈effNm (rs.getD j default).ef)∨n∈cs.flatMap Cell.nm
 | [],_,h=>.inr h
 | j :: r,cs,h=>by
  simp only [putsAt] at h
  rcases puts_nm h with h | h
  ·exact .inl h
  ·split at h
   ·rename_i hs
    rcases putOne_nm h with h | h
    ·exact .inl ⟨j,hs,h⟩
    ·exact .inr h
   ·exact .inr h
theorem made_nm {x:Eff} {T:TypeId} {cs:List Cell} (h:x.made=some (T,cs)) {n:Nat} (hn:n∈cs.flatMap Cell.nm):n∈effNm x:=by
 cases x with
 | new T' cs'=>cases h;exact hn
 | got T' cs'=>cases h;exact hn
 | no=>cases h
 | put _ _ _=>cases h
theorem Ran.ctNm (R:Ran P S H cons σ l rs) (wf:Wf σ) {dn:Nat→Bool} (hc:Closed l dn) {i:Nat} (hd:dn i=false) {k:Nat} {T:TypeId} {cs:List Cell} (h:ctAt S σ l dn rs k=some (T,cs)) :
  Away σ i k∧∀ n∈cs.flatMap Cell.nm,Away σ i n:=by
 unfold ctAt at h
 split at h
 ·rename_i T' cs' hs
  simp only [Option.some.injEq,Prod.mk.injEq] at h
  obtain ⟨rfl,rfl⟩:=h
  unfold startAt at hs
  have key:Away σ i k∧∀ n∈cs'.flatMap Cell.nm,Away σ i n:=by
   split at hs
   ·rename_i hk
    obtain ⟨h1,h2⟩:=wf.nb k _ _ hs
    exact ⟨away_old i h1,fun n hn=>away_old i (h2 n hn)⟩
   ·rename_i hk
    split at hs
    ·rename_i hsel
     simp only [Bool.and_eq_true,beq_iff_eq] at hsel
     have hj:=hsel.1
     have hme:=R.nmE hc hd hj
     refine ⟨?_,fun n hn=>hme n (made_nm hs hn)⟩
     have hne:(k - σ.base) / M≠i:=fun e=>by rw [e,hd] at hj;cases hj
     have hk2:=Nat.div_add_mod (k - σ.base) M
     rw [hsel.2,Nat.add_zero] at hk2
     unfold Away
     rcases Nat.lt_or_gt_of_ne hne with hlt | hgt
     ·left;have:=Nat.mul_le_mul_left M hlt;simp only [M] at *;omega
     ·right;have:=Nat.mul_le_mul_left M hgt;simp only [M] at *;omega
    ·cases hs
  refine ⟨key.1,fun n hn=>?_⟩
  rcases puts_nm hn with ⟨j,hj,h⟩ | h
  ·exact R.nmE hc hd hj n h
  ·exact key.2 n h
 ·cases h
theorem Ran.regNm (R:Ran P S H cons σ l rs) (wf:Wf σ) {dn:Nat→Bool} (hc:Closed l dn) {i:Nat} (hd:dn i=false) (t:Tmp):∀ n∈(regAt S σ l dn rs t).nm,Away σ i n:=by
 unfold regAt
 split
 ·exact fun n hn=>away_old i (wf.nr t n hn)
 ·rename_i j _
  split
  ·rename_i hj;exact R.nmV hc hd hj
  ·exact fun n hn=>away_old i (wf.nr t n hn)
theorem Ran.dbNm (R:Ran P S H cons σ l rs) (wf:Wf σ) {dn:Nat→Bool} (hc:Closed l dn) {i:Nat} (hd:dn i=false) {f:S.F} (hf:f∈dbAt S σ l dn rs):∀ n∈S.nm f,Away σ i n:=by
 unfold dbAt at hf
 rcases List.mem_append.1 hf with h | h
 ·obtain ⟨j,-,hj,h⟩:=mem_dbFrom.1 h
  exact R.nmF hc hd hj f h
 ·exact fun n hn=>away_old i (wf.nf f h n hn)
theorem Ran.rd (R:Ran P S H cons σ l rs) {dn:Nat→Bool} (hc:Closed l dn) {i:Nat} {o:Oper} (ho:l[i]? = some o) (hw:∀ e∈o.after,Region.binds .any e=true→dn e.on=true) (hd:dn i=false) {t:Tmp} {v:SV}
  (h:rdAt S σ l (befs l []) i rs t=some v):v=regAt S σ l dn rs t:=by
 unfold rdAt at h
 unfold regAt
 split at h
 ·simpa using h.symm
 ·rename_i j hwr
  split at h
  ·rename_i e;subst e;rw [if_neg (by rw [hd];decide)];simpa using h.symm
  ·split at h
   ·rename_i hb
    rw [if_pos (bf_ready R.lex hc ho hw hb)];simpa using h.symm
   ·split at h
    ·rename_i hb
     have:dn j=false:=by
      cases hj:dn j with
      | false=>rfl
      | true=>have:=bf_done R.lex hc hj (show bf l j i=true from hb);rw [hd] at this;cases this
     rw [if_neg (by rw [this];decide)];simpa using h.symm
    ·cases h
theorem Ran.ct (R:Ran P S H cons σ l rs) {dn:Nat→Bool} (hc:Closed l dn) {i:Nat} {o:Oper} (ho:l[i]? = some o) (hw:∀ e∈o.after,Region.binds .any e=true→dn e.on=true) (hd:dn i=false) {k:Nat} (hk:k∈(rs.getD i default).acc) {x:TypeId×List Cell}
  (h:ctAt S σ l (fun j=>((befs l []).getD i 0).testBit j) rs k=some x):ctAt S σ l dn rs k=some x:=by
 have hi:i<l.length:=(List.getElem?_eq_some_iff.1 ho).1
 unfold ctAt at h ⊢
 split at h
 ·rename_i T cs hs
  have hs':startAt S σ dn rs k=some (T,cs):=by
   unfold startAt at hs ⊢
   split at hs
   ·rename_i hlt;rw [if_pos hlt];exact hs
   ·rename_i hlt
    rw [if_neg hlt]
    split at hs
    ·rename_i hb
     simp only [Bool.and_eq_true] at hb
     rw [if_pos (by rw [Bool.and_eq_true];exact ⟨bf_ready R.lex hc ho hw hb.1,hb.2⟩)]
     exact hs
    ·cases hs
  rw [hs']
  simp only at h ⊢
  rw [← h]
  congr 2
  refine puts_congr fun j hj cs=>?_
  have hjl:=List.mem_range.1 hj
  have hcf:=List.all_eq_true.1 R.cf j hj
  by_cases hsel:((befs l []).getD i 0).testBit j=true
  ·rw [if_pos (bf_ready R.lex hc ho hw hsel),if_pos hsel]
  ·rw [if_neg hsel]
   split
   ·rename_i hdj
    unfold putOne
    split
    ·rename_i k' off new hef
     split
     ·rename_i e
      subst e
      exfalso
      rw [hef] at hcf
      simp only at hcf
      have h1:=List.all_eq_true.1 hcf i (List.mem_range.2 hi)
      simp only [Bool.or_eq_true,beq_iff_eq,Bool.not_eq_true',List.contains_eq_mem,decide_eq_false_iff_not] at h1
      rcases h1 with ((h1 | h1) | h1) | h1
      ·subst h1;rw [hd] at hdj;cases hdj
      ·exact h1 hk
      ·exact hsel h1
      ·have:=bf_done R.lex hc hdj (show bf l j i=true from h1);rw [hd] at this;cases this
     ·rfl
    ·rfl
   ·rfl
 ·cases h
theorem Ran.db (R:Ran P S H cons σ l rs) {dn:Nat→Bool} (hc:Closed l dn) {i:Nat} {o:Oper} (ho:l[i]? = some o) (hw:∀ e∈o.after,Region.binds .any e=true→dn e.on=true) {f:S.F}
  (h:f∈dbAt S σ l (fun j=>((befs l []).getD i 0).testBit j) rs):f∈dbAt S σ l dn rs:=by
 unfold dbAt at h ⊢
 rcases List.mem_append.1 h with h | h
 ·obtain ⟨j,hj,hb,hf⟩:=mem_dbFrom.1 h
  exact List.mem_append_left _ (mem_dbFrom.2 ⟨j,hj,bf_ready R.lex hc ho hw hb,hf⟩)
 ·exact List.mem_append_right _ h
end
end Rx
namespace Rx
open Go.RowKit
section
variable {P:Program} {S:Sys} {H:Tests S} {cons:List (Con S)} {σ:State S} {l:List Oper} {rs:List (Rec S.F)}
theorem more_self (dn:Nat→Bool) (i:Nat):more dn i i=true:=by simp [more]
theorem more_ne {dn:Nat→Bool} {i j:Nat} (h:j≠i):more dn i j=dn j:=by unfold more;rw [beq_false_of_ne h,Bool.or_false]
theorem Ran.regMore (R:Ran P S H cons σ l rs) {dn:Nat→Bool} {i:Nat} {o:Oper} (ho:l[i]? = some o) (t:Tmp) :
  regAt S σ l (more dn i) rs t=if o.dst=some t then (rs.getD i default).v else regAt S σ l dn rs t:=by
 unfold regAt
 by_cases hd:o.dst=some t
 ·rw [if_pos hd,wr_of R.dst ho hd,Nat.zero_add]
  simp only
  rw [if_pos (more_self dn i)]
 ·rw [if_neg hd]
  cases hw:wr l t 0 with
  | none=>rfl
  | some j =>
   simp only
   obtain ⟨-,o',h1,h2⟩:=wr_some hw
   have hne:j≠i:=fun e=>by
    subst e
    rw [Nat.sub_zero,ho] at h1
    rw [Option.some.inj h1] at hd
    exact hd h2
   rw [more_ne hne]
theorem putOne_id {r:Rec S.F} {k:Nat} (h:∀ k' off new,r.ef=.put k' off new→k'≠k) (cs:List Cell):putOne S r k cs=cs:=by
 unfold putOne
 split
 ·rename_i k' off new he
  rw [if_neg (h k' off new he)]
 ·rfl
theorem Ran.startMore (R:Ran P S H cons σ l rs) {dn:Nat→Bool} {i:Nat} (k:Nat) (hk:∀ T cs,(rs.getD i default).ef.made=some (T,cs)→k≠σ.base+M*i):startAt S σ (more dn i) rs k=startAt S σ dn rs k:=by
 have _:=R
 unfold startAt
 split
 ·rfl
 ·rename_i hlt
  by_cases e:(k - σ.base) / M=i
  ·rw [e,more_self]
   have h1:∀ T cs,(rs.getD i default).ef.made=some (T,cs)→((k - σ.base) % M == 0)=false:=fun T cs h=>by
    rw [beq_eq_false_iff_ne]
    intro h0
    have h2:=Nat.div_add_mod (k - σ.base) M
    rw [e,h0,Nat.add_zero] at h2
    exact hk T cs h (by omega)
   cases hm:(rs.getD i default).ef.made with
   | none=>rw [ite_self,ite_self]
   | some x=>rw [h1 x.1 x.2 hm,Bool.and_false,Bool.and_false]
  ·rw [more_ne e]
theorem Ran.ctMore (R:Ran P S H cons σ l rs) {dn:Nat→Bool} {i:Nat} (k:Nat) (hk:∀ T cs,(rs.getD i default).ef.made=some (T,cs)→k≠σ.base+M*i) (hp:∀ k' off new,(rs.getD i default).ef=.put k' off new→k'≠k) :
  ctAt S σ l (more dn i) rs k=ctAt S σ l dn rs k:=by
 unfold ctAt
 rw [R.startMore k hk]
 split
 ·rename_i T cs _
  rw [puts_congr (sel':=dn) (rs':=rs) fun j _ cs=>by
   by_cases e:j=i
   ·subst e;rw [putOne_id hp];simp
   ·rw [more_ne e]]
 ·rfl
theorem Ran.ctNew (R:Ran P S H cons σ l rs) {dn:Nat→Bool} (hc:Closed l dn) {i:Nat} (hd:dn i=false) {T:TypeId} {cs:List Cell} (he:(rs.getD i default).ef.made=some (T,cs)):ctAt S σ l (more dn i) rs (σ.base+M*i)=some (T,cs):=by
 have hs:startAt S σ (more dn i) rs (σ.base+M*i)=some (T,cs):=by
  unfold startAt
  rw [if_neg (by omega),show σ.base+M*i - σ.base=M*i by omega,Nat.mul_div_cancel_left _ (by decide),Nat.mul_mod_right,more_self]
  rw [he]
  rfl
 unfold ctAt
 rw [hs]
 simp only
 rw [puts_none fun j _ hj cs=>putOne_id (fun k' off new hef=>?_) cs]
 by_cases e:j=i
 ·subst e;rw [hef] at he;cases he
 ·rw [more_ne e] at hj
  have:=R.nmE hc hd hj k' (by rw [hef];simp [effNm])
  unfold Away at this
  simp only [M] at *
  omega
theorem Ran.ctPut (R:Ran P S H cons σ l rs) {dn:Nat→Bool} (hc:Closed l dn) {i:Nat} {o:Oper} (ho:l[i]? = some o) (hd:dn i=false) {k off:Nat} {new:List Cell} (he:(rs.getD i default).ef=.put k off new) (hk:k∈(rs.getD i default).acc) {T:TypeId} {cs:List Cell}
  (h:ctAt S σ l dn rs k=some (T,cs)):ctAt S σ l (more dn i) rs k=some (T,splice off new cs):=by
 have hi:i<l.length:=(List.getElem?_eq_some_iff.1 ho).1
 unfold ctAt at h ⊢
 rw [R.startMore k (fun T cs h'=>by rw [he] at h';cases h')]
 split at h
 ·rename_i T' cs' hs
  simp only [Option.some.injEq,Prod.mk.injEq] at h
  obtain ⟨rfl,hcs⟩:=h
  congr 2
  have hr:List.range l.length=List.range i ++ i :: List.range' (i+1) (l.length - i - 1):=by
   rw [List.range_eq_range',List.range_eq_range',show l.length=i+(1+(l.length - i - 1)) by omega,← List.range'_append_1,Nat.zero_add,Nat.add_comm 1,List.range'_succ]
   congr 3
   omega
  have htail:∀ (sel:Nat→Bool) (cs:List Cell),(∀ j,j≠i→sel j=dn j)→putsAt S sel rs k (List.range' (i+1) (l.length - i - 1)) cs=cs:=fun sel cs hsel=>by
   refine puts_none fun j hj hsj cs=>putOne_id (fun k' off' new' hef e=>?_) cs
   subst e
   have hj2:=List.mem_range'_1.1 hj
   rw [hsel j (by omega)] at hsj
   have hcf:=List.all_eq_true.1 R.cf j (List.mem_range.2 (by omega))
   rw [hef] at hcf
   have h1:=List.all_eq_true.1 hcf i (List.mem_range.2 hi)
   simp only [Bool.or_eq_true,beq_iff_eq,Bool.not_eq_true',List.contains_eq_mem,decide_eq_false_iff_not] at h1
   rcases h1 with ((h1 | h1) | h1) | h1
   ·omega
   ·exact h1 hk
   ·have:=bf_lt R.lex (i:=i) (j:=j) h1;omega
   ·have:=bf_done R.lex hc hsj (show bf l j i=true from h1);rw [hd] at this;cases this
  have hhead:putsAt S (more dn i) rs k (List.range i) cs' = putsAt S dn rs k (List.range i) cs':=puts_congr fun j hj cs=>by
   rw [more_ne (by have:=List.mem_range.1 hj;omega)]
  rw [hr,puts_append] at hcs ⊢
  simp only [putsAt] at hcs ⊢
  rw [htail _ _ (fun j hj=>rfl)] at hcs
  rw [htail _ _ (fun j hj=>more_ne hj),more_self,if_pos rfl,hhead]
  rw [hd,if_neg (by decide)] at hcs
  rw [hcs]
  unfold putOne
  rw [he]
  simp
 ·cases h
theorem mem_dbMore {dn:Nat→Bool} {i:Nat} {f:S.F} (h:f∈dbAt S σ l (more dn i) rs):f∈dbAt S σ l dn rs∨f∈(rs.getD i default).fs:=by
 unfold dbAt at h ⊢
 rcases List.mem_append.1 h with h | h
 ·obtain ⟨j,hj,hs,hf⟩:=mem_dbFrom.1 h
  by_cases e:j=i
  ·subst e;exact .inr hf
  ·rw [more_ne e] at hs
   exact .inl (List.mem_append_left _ (mem_dbFrom.2 ⟨j,hj,hs,hf⟩))
 ·exact .inl (List.mem_append_right _ h)
theorem Ran.advance (R:Ran P S H cons σ l rs) (wf:Wf σ) {w0:World} (hlo:S.lo≤w0.heap.size) {ρ0 ρ ρ':Env} {dn:Nat→Bool} {a:Act} {W W':World} {i:Nat} {o:Oper} (ho:l[i]? = some o) (hd:dn i=false) (hw:∀ e∈o.after,Region.binds .any e=true→dn e.on=true) (hc:Closed l dn)
  (hlow:∀ n,n<σ.base→ρ n=ρ0 n) (hJ:Holds (S:=S) w0 σ.regs.length (regAt S σ l dn rs) (ctAt S σ l dn rs) (fun f=>f∈dbAt S σ l dn rs) ρ a W)
  (hag:∀ n,Away σ i n→ρ' n=ρ n) (hD:Done S (ctAt S σ l (fun j=>((befs l []).getD i 0).testBit j) rs) (σ.base+M*i) ρ ρ' W W' (rs.getD i default).ef)
  (hacc:∀ k off new,(rs.getD i default).ef=.put k off new→k∈(rs.getD i default).acc) (hF:∀ f∈(rs.getD i default).fs,S.on ρ' f W') :
  Jx σ l rs w0 ρ0 (more dn i) (a.put o.dst ((rs.getD i default).v.den ρ')) W':=by
 have hrg:∀ t,(regAt S σ l dn rs t).den ρ' = (regAt S σ l dn rs t).den ρ:=fun t=>SV.den_congr fun n hn=>hag n (R.regNm wf hc hd t n hn)
 have hcl:∀ k T cs,ctAt S σ l dn rs k=some (T,cs)→(ρ' k).pos=(ρ k).pos∧cs.map (Cell.den ρ')=cs.map (Cell.den ρ):=fun k T cs h=>by
  obtain ⟨h1,h2⟩:=R.ctNm wf hc hd h
  exact ⟨by rw [hag k h1],cells_congr fun n hn=>hag n (h2 n hn)⟩
 have hfc:∀ f,f∈dbAt S σ l dn rs→S.on ρ' f W:=fun f hf=>S.cg (fun n hn=>(hag n (R.dbNm wf hc hd hf n hn)).symm) (hJ.fc f hf)
 have hsz:(a.put o.dst ((rs.getD i default).v.den ρ')).tmps.size=σ.regs.length:=by
  unfold Act.put
  split
  ·simp [hJ.sz]
  ·exact hJ.sz
 have hdf:(a.put o.dst ((rs.getD i default).v.den ρ')).defers=[]:=by
  unfold Act.put
  split <;> exact hJ.df
 have hregs:∀ t,(a.put o.dst ((rs.getD i default).v.den ρ')).tmps.getD t undef=(regAt S σ l (more dn i) rs t).den ρ':=fun t=>by
  rw [R.regMore ho]
  unfold Act.put
  cases hdst:o.dst with
  | none=>simp only;rw [if_neg (by simp),hJ.rg,hrg]
  | some d =>
   simp only
   by_cases e:d=t
   ·subst e
    have hlt:d<a.tmps.size:=by rw [hJ.sz];exact R.ins o (List.mem_of_getElem? ho) d hdst
    rw [if_pos rfl]
    simp [hlt]
   ·rw [if_neg (by simpa using e),hrg,← hJ.rg]
    simp [e]
 have hlow':∀ n,n<σ.base→ρ' n=ρ0 n:=fun n hn=>(hag n (away_old i hn)).trans (hlow n hn)
 cases he:(rs.getD i default).ef with
 | no =>
  rw [he] at hD
  have hB:Below W.heap.size W W':=hD
  have hct:∀ k,ctAt S σ l (more dn i) rs k=ctAt S σ l dn rs k:=fun k=>R.ctMore k (fun T cs h=>by rw [he] at h;cases h) (fun k' off new h=>by rw [he] at h;cases h)
  refine ⟨ρ',hlow',hsz,hdf,hregs,hJ.bel.trans (hB.mono hJ.bel.size),fun k T cs h=>?_,fun k k' x x' h h' hne=>?_,fun f hf=>?_⟩
  ·rw [hct] at h
   obtain ⟨h1,h2⟩:=hcl k T cs h
   obtain ⟨h3,h4⟩:=hJ.bx k T cs h
   rw [h1,h2]
   exact ⟨h3,h4.below hB⟩
  ·rw [hct] at h h'
   rw [(hcl k x.1 x.2 h).1,(hcl k' x'.1 x'.2 h').1]
   exact hJ.inj k k' x x' h h' hne
  ·rcases mem_dbMore hf with h | h
   ·exact S.bl hB (hfc f h)
   ·exact hF f h
 | new T0 cs0 =>
  rw [he] at hD
  obtain ⟨hpos,rfl⟩:=hD
  have hB:Below W.heap.size W (W.alloc (.cells (cs0.map (Cell.den ρ')).toArray T0)):=(Below.refl _ _).alloc (Nat.le_refl _) _
  have hnew:=R.ctNew hc hd (show (rs.getD i default).ef.made=some (T0,cs0) by rw [he];rfl)
  have hct:∀ k,k≠σ.base+M*i→ctAt S σ l (more dn i) rs k=ctAt S σ l dn rs k:=fun k hk=>R.ctMore k (fun _ _ _=>hk) (fun k' off new h=>by rw [he] at h;cases h)
  refine ⟨ρ',hlow',hsz,hdf,hregs,hJ.bel.trans (hB.mono hJ.bel.size),fun k T cs h=>?_,fun k k' x x' h h' hne=>?_,fun f hf=>?_⟩
  ·by_cases e:k=σ.base+M*i
   ·subst e
    rw [hnew] at h
    simp only [Option.some.injEq,Prod.mk.injEq] at h
    obtain ⟨rfl,rfl⟩:=h
    rw [hpos]
    exact ⟨hJ.bel.size,Bx.new W _ _⟩
   ·rw [hct k e] at h
    obtain ⟨h1,h2⟩:=hcl k T cs h
    obtain ⟨h3,h4⟩:=hJ.bx k T cs h
    rw [h1,h2]
    exact ⟨h3,h4.below hB⟩
  ·have hold:∀ k x,k≠σ.base+M*i→ctAt S σ l (more dn i) rs k=some x→(ρ' k).pos<W.heap.size:=fun k x e h=>by
    rw [hct k e] at h
    rw [(hcl k x.1 x.2 h).1]
    exact (hJ.bx k x.1 x.2 h).2.lt
   by_cases e:k=σ.base+M*i
   ·have h2:=hold k' x' (fun e'=>hne (e.trans e'.symm)) h'
    rw [e,hpos];omega
   ·by_cases e':k' = σ.base+M*i
    ·have h2:=hold k x e h
     rw [e',hpos];omega
    ·rw [hct k e] at h
     rw [hct k' e'] at h'
     rw [(hcl k x.1 x.2 h).1,(hcl k' x'.1 x'.2 h').1]
     exact hJ.inj k k' x x' h h' hne
  ·rcases mem_dbMore hf with h | h
   ·exact S.bl hB (hfc f h)
   ·exact hF f h
 | put k0 off new =>
  rw [he] at hD
  obtain ⟨T0,cs0,hct0,hle,hok,rfl,rfl⟩:=hD
  have hk0:=hacc k0 off new he
  have hct0':=R.ct hc ho hw hd hk0 hct0
  obtain ⟨h5,h6⟩:=hJ.bx k0 T0 cs0 hct0'
  have hst:=setMany_ok (S:=S) (ρ:=ρ') hok (Nat.le_trans hlo h5) hle new [] (W:=W) (p:=(ρ' k0).pos) (T:=T0) rfl (by rw [splice_nil];exact h6)
  rw [List.length_nil,Nat.add_zero] at hst
  have hput:=R.ctPut hc ho hd he hk0 hct0'
  have hct:∀ k,k≠k0→ctAt S σ l (more dn i) rs k=ctAt S σ l dn rs k:=fun k hk=>R.ctMore k (fun _ _ h=>by rw [he] at h;cases h) (fun k' off' new' h=>by rw [he] at h;cases h;exact fun e=>hk e.symm)
  have hpre:∀ k x,ctAt S σ l (more dn i) rs k=some x→∃ y,ctAt S σ l dn rs k=some y:=fun k x h=>by
   by_cases e:k=k0
   ·subst e;exact ⟨_,hct0'⟩
   ·rw [hct k e] at h;exact ⟨x,h⟩
  refine ⟨ρ',hlow',hsz,hdf,hregs,hst.bel _ _ hJ.bel h5,fun k T cs h=>?_,fun k k' x x' h h' hne=>?_,fun f hf=>?_⟩
  ·by_cases e:k=k0
   ·subst e
    rw [hput] at h
    simp only [Option.some.injEq,Prod.mk.injEq] at h
    obtain ⟨rfl,rfl⟩:=h
    exact ⟨h5,hst.bx⟩
   ·rw [hct k e] at h
    obtain ⟨h3,h4⟩:=hJ.bx k T cs h
    exact ⟨h3,(hst.far _ (hJ.inj k k0 _ _ h hct0' e)).trans h4⟩
  ·obtain ⟨y,hy⟩:=hpre k x h
   obtain ⟨y',hy'⟩:=hpre k' x' h'
   exact hJ.inj k k' y y' hy hy' hne
  ·rcases mem_dbMore hf with h | h
   ·exact hst.on f (hfc f h)
   ·exact hF f h
 | got T0 cs0 =>
  rw [he] at hD
  obtain ⟨hpos,hB,hnx⟩:=hD
  have hnew:=R.ctNew hc hd (show (rs.getD i default).ef.made=some (T0,cs0) by rw [he];rfl)
  have hct:∀ k,k≠σ.base+M*i→ctAt S σ l (more dn i) rs k=ctAt S σ l dn rs k:=fun k hk=>R.ctMore k (fun _ _ _=>hk) (fun k' off new h=>by rw [he] at h;cases h)
  refine ⟨ρ',hlow',hsz,hdf,hregs,hJ.bel.trans (hB.mono hJ.bel.size),fun k T cs h=>?_,fun k k' x x' h h' hne=>?_,fun f hf=>?_⟩
  ·by_cases e:k=σ.base+M*i
   ·subst e
    rw [hnew] at h
    simp only [Option.some.injEq,Prod.mk.injEq] at h
    obtain ⟨rfl,rfl⟩:=h
    exact ⟨Nat.le_trans hJ.bel.size hpos,hnx⟩
   ·rw [hct k e] at h
    obtain ⟨h1,h2⟩:=hcl k T cs h
    obtain ⟨h3,h4⟩:=hJ.bx k T cs h
    rw [h1,h2]
    exact ⟨h3,h4.below hB⟩
  ·have hold:∀ k x,k≠σ.base+M*i→ctAt S σ l (more dn i) rs k=some x→(ρ' k).pos<W.heap.size:=fun k x e h=>by
    rw [hct k e] at h
    rw [(hcl k x.1 x.2 h).1]
    exact (hJ.bx k x.1 x.2 h).2.lt
   by_cases e:k=σ.base+M*i
   ·have h2:=hold k' x' (fun e'=>hne (e.trans e'.symm)) h'
    rw [e];omega
   ·by_cases e':k' = σ.base+M*i
    ·have h2:=hold k x e h
     rw [e'];omega
    ·rw [hct k e] at h
     rw [hct k' e'] at h'
     rw [(hcl k x.1 x.2 h).1,(hcl k' x'.1 x'.2 h').1]
     exact hJ.inj k k' x x' h h' hne
  ·rcases mem_dbMore hf with h | h
   ·exact S.bl hB (hfc f h)
   ·exact hF f h
theorem acc_of {rd:Tmp→Option SV} {ct:Nat→Option (TypeId×List Cell)} {db:List S.F} {b:Nat} {o:Op} {r:Rec S.F} (h:evalOp P H cons rd ct db b o=some r) {k off:Nat} {new:List Cell} (he:r.ef=.put k off new):k∈r.acc:=by
 unfold evalOp at h
 repeat' split at h
 all_goals first
  | (cases h;done)
  | (cases h;cases he;done)
  | (cases h;cases he;simp;done)
  | (obtain ⟨v,hv,rfl⟩:=Option.map_eq_some_iff.1 h;cases he)
theorem Ran.step (R:Ran P S H cons σ l rs) (wf:Wf σ) {E:World→Prop} {w0:World} (hlo:S.lo≤w0.heap.size) {ρ0:Env} (hcons:∀ c∈cons,c.Ok P S E) (hE:∀ W,Below w0.heap.size w0 W→E W):Step P l (Jx σ l rs w0 ρ0):=by
 intro dn a W i o ho hd hw hc hJ
 obtain ⟨ρ,hlow,hH⟩:=hJ
 have hev:=R.ev i o ho
 have hy:∀ j (t:Tmp),(l[j]?).bind (·.dst)=some t→dn j=true→yielded l.toArray a.tmps j=match (rs.getD j default).v.den ρ with | .bool b=>some b | _=>none:=fun j t hj hdj=>by
  obtain ⟨oj,hoj,hdt⟩:=Option.bind_eq_some_iff.1 hj
  have hlt:t<a.tmps.size:=by rw [hH.sz];exact R.ins oj (List.mem_of_getElem? hoj) t hdt
  have hrg:=hH.rg t
  unfold regAt at hrg
  rw [wr_of R.dst hoj hdt,Nat.zero_add] at hrg
  simp only at hrg
  rw [if_pos hdj] at hrg
  have h1:a.tmps[t]? = some ((rs.getD j default).v.den ρ):=by
   rw [← hrg];simp [hlt]
  unfold yielded
  rw [List.getElem?_toArray,hoj]
  simp only [Option.bind_some,hdt,h1]
  split <;> simp_all
 unfold evalAt at hev
 split at hev
 ·rename_i hg
  have hwant:Region.wanted o (yielded l.toArray a.tmps)=true:=by
   unfold guardAt at hg
   unfold Region.wanted
   split at hg
   ·rename_i hgd;rw [hgd]
   ·rename_i j want hgd
    rw [hgd]
    simp only
    split at hg
    ·rename_i hb
     have hdj:=bf_ready R.lex hc ho hw (show bf l i j=true from hb)
     split at hg
     ·rename_i b t hv hdst
      rw [hy j t hdst hdj,hv]
      simp only [Option.some.injEq] at hg
      have e:b=want:=by simpa using hg
      subst e
      simp [SV.den,El.den,Cell.den]
     ·cases hg
     ·cases hg
    ·cases hg
  rw [if_pos hwant]
  split at hev
  ·rename_i r hr
   split at hev
   ·rename_i hok
    have hrr:r=rs.getD i default:=Option.some.inj hev
    have hEW:E W:=hE W hH.bel
    have h:=evalOp_ok (o:=o) (a:=a) (W:=W) (ρ:=ρ) hcons hr (fun t v h=>by rw [R.rd hc ho hw hd h];exact hH.rg t)
     (fun t v h=>by rw [R.rd hc ho hw hd h];exact R.regNm wf hc hd t)
     (fun k T cs hk h=>(hH.bx k T cs (R.ct hc ho hw hd (by rw [← hrr];exact hk) h)).2) (fun f hf=>hH.fc f (R.db hc ho hw hf)) hEW
    have hmono:∀ {K K':Value→World→Prop},(∀ v w,K v w→K' v w)→takes P o a W K→takes P o a W K':=fun {K K'} hKK ht=>by
     unfold takes at ht ⊢
     generalize (execOp a.eval o).run P W=q at *
     cases q with
     | ok n w' =>
      cases n <;> simp only [takesUpon] at ht ⊢
      case value v=>exact hKK _ _ ht
      case skip=>exact hKK _ _ ht
      case enter f args=>exact ht.mono fun e w'' ⟨v,he,hk⟩=>⟨v,he,hKK _ _ hk⟩
     | halt x w'=>simp only [takesUpon] at ht
    refine hmono (fun v W' hA=>?_) h
    obtain ⟨ρ',h1,rfl,h3,h4⟩:=hA
    rw [hrr] at h3 h4 ⊢
    exact R.advance wf hlo ho hd hw hc hlow hH (fun n hn=>h1 n hn) h3 (fun k off new he=>acc_of hr (by rw [hrr];exact he) |> fun h=>by rw [hrr] at h;exact h) h4
   ·cases hev
  ·cases hev
 ·rename_i hg
  have hx:(default:Rec S.F)=rs.getD i default:=Option.some.inj hev
  have hwant:Region.wanted o (yielded l.toArray a.tmps)=false:=by
   unfold guardAt at hg
   unfold Region.wanted
   split at hg
   ·cases hg
   ·rename_i j want hgd
    rw [hgd]
    simp only
    split at hg
    ·rename_i hb
     have hdj:=bf_ready R.lex hc ho hw (show bf l i j=true from hb)
     split at hg
     ·rename_i b t hv hdst
      rw [hy j t hdst hdj,hv]
      simp only [Option.some.injEq] at hg
      have e:b≠want:=by simpa using hg
      simp [SV.den,El.den,Cell.den,e]
     ·rename_i hv
      cases hdst:(l[j]?).bind (·.dst) with
      | none=>unfold yielded;rw [List.getElem?_toArray,hdst];rfl
      | some t=>rw [hy j t hdst hdj,hv];rfl
     ·cases hg
    ·cases hg
  rw [if_neg (by rw [hwant];decide)]
  have:=R.advance wf hlo (ρ':=ρ) (W':=W) ho hd hw hc hlow hH (fun _ _=>rfl) (by rw [← hx];exact Below.refl _ _) (fun k off new he=>by rw [← hx] at he;cases he) (fun f hf=>by rw [← hx] at hf;cases hf)
  rw [← hx] at this
  exact this
 ·cases hev
end
end Rx
end Go.Proofs.YtmijlcldmefggaaGreatDoor
