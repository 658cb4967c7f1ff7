/- What the proof rests on, part 14. -/
import Derived.Test.YtefbfbdijimanaaGreatDoorP13
import Derived.LoopN
import Derived.Scope
namespace Go.Proofs.YtefbfbdijimanaaGreatDoor
set_option maxRecDepth 100000
set_option maxHeartbeats 80000000
namespace Rx
open Go.RowKit
structure Wf {S:Sys} (σ:State S):Prop where
 nr:∀ t,∀ n∈(σ.regs.getD t .und).nm,n<σ.base
 nb:∀ k T cs,lk σ.bx k=some (T,cs)→k<σ.base∧∀ n∈cs.flatMap Cell.nm,n<σ.base
 nf:∀ f∈σ.fs,∀ n∈S.nm f,n<σ.base
structure Holds {S:Sys} (w0:World) (n:Nat) (rgs:Tmp→SV) (bxs:Nat→Option (TypeId×List Cell)) (fcs:S.F→Prop) (ρ:Env) (a:Act) (W:World):Prop where
 sz:a.tmps.size=n
 df:a.defers=[]
 rg:∀ t,a.tmps.getD t undef=(rgs t).den ρ
 bel:Below w0.heap.size w0 W
 bx:∀ k T cs,bxs k=some (T,cs)→w0.heap.size≤(ρ k).pos∧Bx W (ρ k).pos T (cs.map (Cell.den ρ))
 inj:∀ k k' x x',bxs k=some x→bxs k' = some x'→k≠k'→(ρ k).pos≠(ρ k').pos
 fc:∀ f,fcs f→S.on ρ f W
def State.Says {S:Sys} (σ:State S) (w0:World) (ρ:Env) (a:Act) (W:World):Prop:=
 Holds (S:=S) w0 σ.regs.length (fun t=>σ.regs.getD t .und) (lk σ.bx) (fun f=>f∈σ.fs) ρ a W
section
variable {P:Program} {S:Sys} {H:Tests S} {cons:List (Con S)} {σ:State S} {l:List Oper}
structure Ran (P:Program) (S:Sys) (H:Tests S) (cons:List (Con S)) (σ:State S) (l:List Oper) (rs:List (Rec S.F)):Prop where
 lex:lexB 0 l=true
 dst:jX l=true
 ins:∀ o∈l,∀ t,o.dst=some t→t<σ.regs.length
 len:rs.length=l.length
 ev:∀ i o,l[i]? = some o→kZ P S H cons σ l (bW l []) i o rs=some (rs.getD i default)
 cf:CO S l (bW l []) rs=true
def Jx (σ:State S) (l:List Oper) (rs:List (Rec S.F)) (w0:World) (ρ0:Env) (dn:Nat→Bool) (a:Act) (W:World):Prop:=
 ∃ ρ:Env,(∀ n,n<σ.base→ρ n=ρ0 n)∧Holds (S:=S) w0 σ.regs.length (dS S σ l dn rs) (aN S σ l dn rs) (fun f=>f∈dw S σ l dn rs) ρ a W
variable {rs:List (Rec S.F)}
theorem IK {i:Nat} (h:rs.length≤i):rs.getD i default=default:=by simp [List.getD,List.getElem?_eq_none h]
theorem Ran.jI (R:Ran P S H cons σ l rs) (j:Nat):jI S σ (bW l []) j (rs.getD j default)=true:=by
 cases ho:l[j]? with
 | none =>
  rw [IK (by rw [R.len];simpa using ho)]
  rfl
 | some o =>
  have h:=R.ev j o ho
  unfold kZ at h
  split at h
  ·split at h
   ·rename_i r _
    split at h
    ·rename_i hk
     cases h
     rename_i h'
     exact hk
    ·cases h
   ·cases h
  ·rw [← Option.some.inj h];rfl
  ·cases h
def iC (σ:State S) (i n:Nat):Prop:=n<σ.base+M*i∨σ.base+M*i+M≤n
theorem BF {i n j:Nat} {dn:Nat→Bool} (R:Ran P S H cons σ l rs) (hc:Closed l dn) (hd:dn i=false) (hj:dn j=true) (h:pW S σ (bW l []) j n=true):iC σ i n:=by
 unfold pW at h
 simp only [Bool.or_eq_true,decide_eq_true_eq,beq_iff_eq] at h
 unfold iC
 by_cases hlt:n<σ.base+M*i
 ·exact .inl hlt
 ·right
  rcases Nat.lt_or_ge n (σ.base+M*i+M) with h1 | h1
  ·exfalso
   have e:(n - σ.base) / M=i:=by
    rw [show n - σ.base=M*i+(n - σ.base - M*i) by omega,Nat.mul_add_div (by decide),Nat.div_eq_of_lt (by omega),Nat.add_zero]
   rw [e] at h
   rcases h with (h | h) | h
   ·omega
   ·subst h;rw [hd] at hj;cases hj
   ·have:=uK R.lex hc hj (show bf l j i=true from h)
    rw [hd] at this;cases this
  ·exact h1
theorem qK (i:Nat) {n:Nat} (h:n<σ.base):iC σ i n:=.inl (by omega)
theorem Ran.nmV (R:Ran P S H cons σ l rs) {dn:Nat→Bool} (hc:Closed l dn) {i j:Nat} (hd:dn i=false) (hj:dn j=true):∀ n∈(rs.getD j default).v.nm,iC σ i n:=fun n hn=>by
 have h:=R.jI j
 unfold Rx.jI at h
 simp only [Bool.and_eq_true,List.all_eq_true] at h
 exact BF R hc hd hj (h.1.1 n hn)
theorem Ran.nmE (R:Ran P S H cons σ l rs) {dn:Nat→Bool} (hc:Closed l dn) {i j:Nat} (hd:dn i=false) (hj:dn j=true):∀ n∈mQ (rs.getD j default).ef,iC σ i n:=fun n hn=>by
 have h:=R.jI j
 unfold Rx.jI at h
 simp only [Bool.and_eq_true,List.all_eq_true] at h
 exact BF R hc hd hj (h.1.2 n hn)
theorem Ran.nmF (R:Ran P S H cons σ l rs) {dn:Nat→Bool} (hc:Closed l dn) {i j:Nat} (hd:dn i=false) (hj:dn j=true):∀ f∈(rs.getD j default).fs,∀ n∈S.nm f,iC σ i n:=fun f hf n hn=>by
 have h:=R.jI j
 unfold Rx.jI at h
 simp only [Bool.and_eq_true,List.all_eq_true] at h
 exact BF R hc hd hj (h.2 f hf n hn)
theorem Xj {r:Rec S.F} {k:Nat} {cs:List Cell} {n:Nat} (h:n∈(jL S r k cs).flatMap Cell.nm):n∈mQ r.ef∨n∈cs.flatMap Cell.nm:=by
 unfold jL at h
 split at h
 ·rename_i k' off new he
  split at h
  ·rcases Y5 h with h | h
   ·left;rw [he];simp only [mQ,List.mem_cons];exact .inr h
   ·exact .inr h
  ·exact .inr h
 ·exact .inr h
theorem Ew {sel:Nat→Bool} {k n:Nat}:∀ {L:List Nat} {cs:List Cell},n∈(gQ S sel rs k L cs).flatMap Cell.nm→(∃ j,sel j=true∧n∈mQ (rs.getD j default).ef)∨n∈cs.flatMap Cell.nm
 | [],_,h=>.inr h
 | j :: r,cs,h=>by
  simp only [gQ] at h
  rcases Ew h with h | h
  ·exact .inl h
  ·split at h
   ·rename_i hs
    rcases Xj h with h | h
    ·exact .inl ⟨j,hs,h⟩
    ·exact .inr h
   ·exact .inr h
theorem Jk {x:Eff} {T:TypeId} {cs:List Cell} (h:x.made=some (T,cs)) {n:Nat} (hn:n∈cs.flatMap Cell.nm):n∈mQ x:=by
 cases x with
 | new T' cs'=>cases h;exact hn
 | got T' cs'=>cases h;exact hn
 | no=>cases h
 | put _ _ _=>cases h
theorem Ran.ctNm (R:Ran P S H cons σ l rs) (wf:Wf σ) {dn:Nat→Bool} (hc:Closed l dn) {i:Nat} (hd:dn i=false) {k:Nat} {T:TypeId} {cs:List Cell} (h:aN S σ l dn rs k=some (T,cs)) :
  iC σ i k∧∀ n∈cs.flatMap Cell.nm,iC σ i n:=by
 unfold aN at h
 split at h
 ·rename_i T' cs' hs
  simp only [Option.some.injEq,Prod.mk.injEq] at h
  obtain ⟨rfl,rfl⟩:=h
  unfold gV at hs
  have key:iC σ i k∧∀ n∈cs'.flatMap Cell.nm,iC σ i n:=by
   split at hs
   ·rename_i hk
    obtain ⟨h1,h2⟩:=wf.nb k _ _ hs
    exact ⟨qK i h1,fun n hn=>qK i (h2 n hn)⟩
   ·rename_i hk
    split at hs
    ·rename_i hsel
     simp only [Bool.and_eq_true,beq_iff_eq] at hsel
     have hj:=hsel.1
     have hme:=R.nmE hc hd hj
     refine ⟨?_,fun n hn=>hme n (Jk hs hn)⟩
     have hne:(k - σ.base) / M≠i:=fun e=>by rw [e,hd] at hj;cases hj
     have hk2:=Nat.div_add_mod (k - σ.base) M
     rw [hsel.2,Nat.add_zero] at hk2
     unfold iC
     rcases Nat.lt_or_gt_of_ne hne with hlt | hgt
     ·left;have:=Nat.mul_le_mul_left M hlt;simp only [M] at *;omega
     ·right;have:=Nat.mul_le_mul_left M hgt;simp only [M] at *;omega
    ·cases hs
  refine ⟨key.1,fun n hn=>?_⟩
  rcases Ew hn with ⟨j,hj,h⟩ | h
  ·exact R.nmE hc hd hj n h
  ·exact key.2 n h
 ·cases h
theorem Ran.regNm (R:Ran P S H cons σ l rs) (wf:Wf σ) {dn:Nat→Bool} (hc:Closed l dn) {i:Nat} (hd:dn i=false) (t:Tmp):∀ n∈(dS S σ l dn rs t).nm,iC σ i n:=by
 unfold dS
 split
 ·exact fun n hn=>qK i (wf.nr t n hn)
 ·rename_i j _
  split
  ·rename_i hj;exact R.nmV hc hd hj
  ·exact fun n hn=>qK i (wf.nr t n hn)
theorem Ran.dbNm (R:Ran P S H cons σ l rs) (wf:Wf σ) {dn:Nat→Bool} (hc:Closed l dn) {i:Nat} (hd:dn i=false) {f:S.F} (hf:f∈dw S σ l dn rs):∀ n∈S.nm f,iC σ i n:=by
 unfold dw at hf
 rcases List.mem_append.1 hf with h | h
 ·obtain ⟨j,-,hj,h⟩:=lu.1 h
  exact R.nmF hc hd hj f h
 ·exact fun n hn=>qK i (wf.nf f h n hn)
theorem Ran.rd (R:Ran P S H cons σ l rs) {dn:Nat→Bool} (hc:Closed l dn) {i:Nat} {o:Oper} (ho:l[i]? = some o) (hw:∀ e∈o.after,Region.binds .any e=true→dn e.on=true) (hd:dn i=false) {t:Tmp} {v:SV}
  (h:sZ S σ l (bW l []) i rs t=some v):v=dS S σ l dn rs t:=by
 unfold sZ at h
 unfold dS
 split at h
 ·simpa using h.symm
 ·rename_i j hwr
  split at h
  ·rename_i e;subst e;rw [if_neg (by rw [hd];decide)];simpa using h.symm
  ·split at h
   ·rename_i hb
    rw [if_pos (qL R.lex hc ho hw hb)];simpa using h.symm
   ·split at h
    ·rename_i hb
     have:dn j=false:=by
      cases hj:dn j with
      | false=>rfl
      | true=>have:=uK R.lex hc hj (show bf l j i=true from hb);rw [hd] at this;cases this
     rw [if_neg (by rw [this];decide)];simpa using h.symm
    ·cases h
theorem Ran.ct (R:Ran P S H cons σ l rs) {dn:Nat→Bool} (hc:Closed l dn) {i:Nat} {o:Oper} (ho:l[i]? = some o) (hw:∀ e∈o.after,Region.binds .any e=true→dn e.on=true) (hd:dn i=false) {k:Nat} (hk:k∈(rs.getD i default).acc) {x:TypeId×List Cell}
  (h:aN S σ l (fun j=>((bW l []).getD i 0).testBit j) rs k=some x):aN S σ l dn rs k=some x:=by
 have hi:i<l.length:=(List.getElem?_eq_some_iff.1 ho).1
 unfold aN at h ⊢
 split at h
 ·rename_i T cs hs
  have hs':gV S σ dn rs k=some (T,cs):=by
   unfold gV at hs ⊢
   split at hs
   ·rename_i hlt;rw [if_pos hlt];exact hs
   ·rename_i hlt
    rw [if_neg hlt]
    split at hs
    ·rename_i hb
     simp only [Bool.and_eq_true] at hb
     rw [if_pos (by rw [Bool.and_eq_true];exact ⟨qL R.lex hc ho hw hb.1,hb.2⟩)]
     exact hs
    ·cases hs
  rw [hs']
  simp only at h ⊢
  rw [← h]
  congr 2
  refine sQ fun j hj cs=>?_
  have hjl:=List.mem_range.1 hj
  have hcf:=List.all_eq_true.1 R.cf j hj
  by_cases hsel:((bW l []).getD i 0).testBit j=true
  ·rw [if_pos (qL R.lex hc ho hw hsel),if_pos hsel]
  ·rw [if_neg hsel]
   split
   ·rename_i hdj
    unfold jL
    split
    ·rename_i k' off new hef
     split
     ·rename_i e
      subst e
      exfalso
      rw [hef] at hcf
      simp only at hcf
      have h1:=List.all_eq_true.1 hcf i (List.mem_range.2 hi)
      simp only [Bool.or_eq_true,beq_iff_eq,Bool.not_eq_true',List.contains_eq_mem,decide_eq_false_iff_not] at h1
      rcases h1 with ((h1 | h1) | h1) | h1
      ·subst h1;rw [hd] at hdj;cases hdj
      ·exact h1 hk
      ·exact hsel h1
      ·have:=uK R.lex hc hdj (show bf l j i=true from h1);rw [hd] at this;cases this
     ·rfl
    ·rfl
   ·rfl
 ·cases h
theorem Ran.db (R:Ran P S H cons σ l rs) {dn:Nat→Bool} (hc:Closed l dn) {i:Nat} {o:Oper} (ho:l[i]? = some o) (hw:∀ e∈o.after,Region.binds .any e=true→dn e.on=true) {f:S.F}
  (h:f∈dw S σ l (fun j=>((bW l []).getD i 0).testBit j) rs):f∈dw S σ l dn rs:=by
 unfold dw at h ⊢
 rcases List.mem_append.1 h with h | h
 ·obtain ⟨j,hj,hb,hf⟩:=lu.1 h
  exact List.mem_append_left _ (lu.2 ⟨j,hj,qL R.lex hc ho hw hb,hf⟩)
 ·exact List.mem_append_right _ h
end
end Rx
namespace Rx
open Go.RowKit
section
variable {P:Program} {S:Sys} {H:Tests S} {cons:List (Con S)} {σ:State S} {l:List Oper} {rs:List (Rec S.F)}
theorem yX (dn:Nat→Bool) (i:Nat):more dn i i=true:=by simp [more]
theorem pR {dn:Nat→Bool} {i j:Nat} (h:j≠i):more dn i j=dn j:=by unfold more;rw [beq_false_of_ne h,Bool.or_false]
theorem Ran.regMore (R:Ran P S H cons σ l rs) {dn:Nat→Bool} {i:Nat} {o:Oper} (ho:l[i]? = some o) (t:Tmp) :
  dS S σ l (more dn i) rs t=if o.dst=some t then (rs.getD i default).v else dS S σ l dn rs t:=by
 unfold dS
 by_cases hd:o.dst=some t
 ·rw [if_pos hd,Fh R.dst ho hd,Nat.zero_add]
  simp only
  rw [if_pos (yX dn i)]
 ·rw [if_neg hd]
  cases hw:wr l t 0 with
  | none=>rfl
  | some j =>
   simp only
   obtain ⟨-,o',h1,h2⟩:=Fj hw
   have hne:j≠i:=fun e=>by
    subst e
    rw [Nat.sub_zero,ho] at h1
    rw [Option.some.inj h1] at hd
    exact hd h2
   rw [pR hne]
theorem Eu {r:Rec S.F} {k:Nat} (h:∀ k' off new,r.ef=.put k' off new→k'≠k) (cs:List Cell):jL S r k cs=cs:=by
 unfold jL
 split
 ·rename_i k' off new he
  rw [if_neg (h k' off new he)]
 ·rfl
theorem Ran.startMore (R:Ran P S H cons σ l rs) {dn:Nat→Bool} {i:Nat} (k:Nat) (hk:∀ T cs,(rs.getD i default).ef.made=some (T,cs)→k≠σ.base+M*i):gV S σ (more dn i) rs k=gV S σ dn rs k:=by
 have _:=R
 unfold gV
 split
 ·rfl
 ·rename_i hlt
  by_cases e:(k - σ.base) / M=i
  ·rw [e,yX]
   have h1:∀ T cs,(rs.getD i default).ef.made=some (T,cs)→((k - σ.base) % M == 0)=false:=fun T cs h=>by
    rw [beq_eq_false_iff_ne]
    intro h0
    have h2:=Nat.div_add_mod (k - σ.base) M
    rw [e,h0,Nat.add_zero] at h2
    exact hk T cs h (by omega)
   cases hm:(rs.getD i default).ef.made with
   | none=>rw [ite_self,ite_self]
   | some x=>rw [h1 x.1 x.2 hm,Bool.and_false,Bool.and_false]
  ·rw [pR e]
theorem Ran.ctMore (R:Ran P S H cons σ l rs) {dn:Nat→Bool} {i:Nat} (k:Nat) (hk:∀ T cs,(rs.getD i default).ef.made=some (T,cs)→k≠σ.base+M*i) (hp:∀ k' off new,(rs.getD i default).ef=.put k' off new→k'≠k) :
  aN S σ l (more dn i) rs k=aN S σ l dn rs k:=by
 unfold aN
 rw [R.startMore k hk]
 split
 ·rename_i T cs _
  rw [sQ (sel':=dn) (rs':=rs) fun j _ cs=>by
   by_cases e:j=i
   ·subst e;rw [Eu hp];simp
   ·rw [pR e]]
 ·rfl
theorem Ran.ctNew (R:Ran P S H cons σ l rs) {dn:Nat→Bool} (hc:Closed l dn) {i:Nat} (hd:dn i=false) {T:TypeId} {cs:List Cell} (he:(rs.getD i default).ef.made=some (T,cs)):aN S σ l (more dn i) rs (σ.base+M*i)=some (T,cs):=by
 have hs:gV S σ (more dn i) rs (σ.base+M*i)=some (T,cs):=by
  unfold gV
  rw [if_neg (by omega),show σ.base+M*i - σ.base=M*i by omega,Nat.mul_div_cancel_left _ (by decide),Nat.mul_mod_right,yX]
  rw [he]
  rfl
 unfold aN
 rw [hs]
 simp only
 rw [zI fun j _ hj cs=>Eu (fun k' off new hef=>?_) cs]
 by_cases e:j=i
 ·subst e;rw [hef] at he;cases he
 ·rw [pR e] at hj
  have:=R.nmE hc hd hj k' (by rw [hef];simp [mQ])
  unfold iC at this
  simp only [M] at *
  omega
theorem Ran.ctPut (R:Ran P S H cons σ l rs) {dn:Nat→Bool} (hc:Closed l dn) {i:Nat} {o:Oper} (ho:l[i]? = some o) (hd:dn i=false) {k off:Nat} {new:List Cell} (he:(rs.getD i default).ef=.put k off new) (hk:k∈(rs.getD i default).acc) {T:TypeId} {cs:List Cell}
  (h:aN S σ l dn rs k=some (T,cs)):aN S σ l (more dn i) rs k=some (T,splice off new cs):=by
 have hi:i<l.length:=(List.getElem?_eq_some_iff.1 ho).1
 unfold aN at h ⊢
 rw [R.startMore k (fun T cs h'=>by rw [he] at h';cases h')]
 split at h
 ·rename_i T' cs' hs
  simp only [Option.some.injEq,Prod.mk.injEq] at h
  obtain ⟨rfl,hcs⟩:=h
  congr 2
  have hr:List.range l.length=List.range i ++ i :: List.range' (i+1) (l.length - i - 1):=by
   rw [List.range_eq_range',List.range_eq_range',show l.length=i+(1+(l.length - i - 1)) by omega,← List.range'_append_1,Nat.zero_add,Nat.add_comm 1,List.range'_succ]
   congr 3
   omega
  have htail:∀ (sel:Nat→Bool) (cs:List Cell),(∀ j,j≠i→sel j=dn j)→gQ S sel rs k (List.range' (i+1) (l.length - i - 1)) cs=cs:=fun sel cs hsel=>by
   refine zI fun j hj hsj cs=>Eu (fun k' off' new' hef e=>?_) cs
   subst e
   have hj2:=List.mem_range'_1.1 hj
   rw [hsel j (by omega)] at hsj
   have hcf:=List.all_eq_true.1 R.cf j (List.mem_range.2 (by omega))
   rw [hef] at hcf
   have h1:=List.all_eq_true.1 hcf i (List.mem_range.2 hi)
   simp only [Bool.or_eq_true,beq_iff_eq,Bool.not_eq_true',List.contains_eq_mem,decide_eq_false_iff_not] at h1
   rcases h1 with ((h1 | h1) | h1) | h1
   ·omega
   ·exact h1 hk
   ·have:=BI R.lex (i:=i) (j:=j) h1;omega
   ·have:=uK R.lex hc hsj (show bf l j i=true from h1);rw [hd] at this;cases this
  have hhead:gQ S (more dn i) rs k (List.range i) cs' = gQ S dn rs k (List.range i) cs':=sQ fun j hj cs=>by
   rw [pR (by have:=List.mem_range.1 hj;omega)]
  rw [hr,J4] at hcs ⊢
  simp only [gQ] at hcs ⊢
  rw [htail _ _ (fun j hj=>rfl)] at hcs
  rw [htail _ _ (fun j hj=>pR hj),yX,if_pos rfl,hhead]
  rw [hd,if_neg (by decide)] at hcs
  rw [hcs]
  unfold jL
  rw [he]
  simp
 ·cases h
theorem yN {dn:Nat→Bool} {i:Nat} {f:S.F} (h:f∈dw S σ l (more dn i) rs):f∈dw S σ l dn rs∨f∈(rs.getD i default).fs:=by
 unfold dw at h ⊢
 rcases List.mem_append.1 h with h | h
 ·obtain ⟨j,hj,hs,hf⟩:=lu.1 h
  by_cases e:j=i
  ·subst e;exact .inr hf
  ·rw [pR e] at hs
   exact .inl (List.mem_append_left _ (lu.2 ⟨j,hj,hs,hf⟩))
 ·exact .inl (List.mem_append_right _ h)
theorem Ran.advance (R:Ran P S H cons σ l rs) (wf:Wf σ) {w0:World} (hlo:S.lo≤w0.heap.size) {ρ0 ρ ρ':Env} {dn:Nat→Bool} {a:Act} {W W':World} {i:Nat} {o:Oper} (ho:l[i]? = some o) (hd:dn i=false) (hw:∀ e∈o.after,Region.binds .any e=true→dn e.on=true) (hc:Closed l dn)
  (hlow:∀ n,n<σ.base→ρ n=ρ0 n) (hJ:Holds (S:=S) w0 σ.regs.length (dS S σ l dn rs) (aN S σ l dn rs) (fun f=>f∈dw S σ l dn rs) ρ a W)
  (hag:∀ n,iC σ i n→ρ' n=ρ n) (hD:Done S (aN S σ l (fun j=>((bW l []).getD i 0).testBit j) rs) (σ.base+M*i) ρ ρ' W W' (rs.getD i default).ef)
  (hacc:∀ k off new,(rs.getD i default).ef=.put k off new→k∈(rs.getD i default).acc) (hF:∀ f∈(rs.getD i default).fs,S.on ρ' f W') :
  Jx σ l rs w0 ρ0 (more dn i) (a.put o.dst ((rs.getD i default).v.den ρ')) W':=by
 have hrg:∀ t,(dS S σ l dn rs t).den ρ' = (dS S σ l dn rs t).den ρ:=fun t=>SV.den_congr fun n hn=>hag n (R.regNm wf hc hd t n hn)
 have hcl:∀ k T cs,aN S σ l dn rs k=some (T,cs)→(ρ' k).pos=(ρ k).pos∧cs.map (Cell.den ρ')=cs.map (Cell.den ρ):=fun k T cs h=>by
  obtain ⟨h1,h2⟩:=R.ctNm wf hc hd h
  exact ⟨by rw [hag k h1],jU fun n hn=>hag n (h2 n hn)⟩
 have hfc:∀ f,f∈dw S σ l dn rs→S.on ρ' f W:=fun f hf=>S.cg (fun n hn=>(hag n (R.dbNm wf hc hd hf n hn)).symm) (hJ.fc f hf)
 have hsz:(a.put o.dst ((rs.getD i default).v.den ρ')).tmps.size=σ.regs.length:=by
  unfold Act.put
  split
  ·simp [hJ.sz]
  ·exact hJ.sz
 have hdf:(a.put o.dst ((rs.getD i default).v.den ρ')).defers=[]:=by
  unfold Act.put
  split <;> exact hJ.df
 have hregs:∀ t,(a.put o.dst ((rs.getD i default).v.den ρ')).tmps.getD t undef=(dS S σ l (more dn i) rs t).den ρ':=fun t=>by
  rw [R.regMore ho]
  unfold Act.put
  cases hdst:o.dst with
  | none=>simp only;rw [if_neg (by simp),hJ.rg,hrg]
  | some d =>
   simp only
   by_cases e:d=t
   ·subst e
    have hlt:d<a.tmps.size:=by rw [hJ.sz];exact R.ins o (List.mem_of_getElem? ho) d hdst
    rw [if_pos rfl]
    simp [hlt]
   ·rw [if_neg (by simpa using e),hrg,← hJ.rg]
    simp [e]
 have hlow':∀ n,n<σ.base→ρ' n=ρ0 n:=fun n hn=>(hag n (qK i hn)).trans (hlow n hn)
 cases he:(rs.getD i default).ef with
 | no =>
  rw [he] at hD
  have hB:Below W.heap.size W W':=hD
  have hct:∀ k,aN S σ l (more dn i) rs k=aN S σ l dn rs k:=fun k=>R.ctMore k (fun T cs h=>by rw [he] at h;cases h) (fun k' off new h=>by rw [he] at h;cases h)
  refine ⟨ρ',hlow',hsz,hdf,hregs,hJ.bel.trans (hB.mono hJ.bel.size),fun k T cs h=>?_,fun k k' x x' h h' hne=>?_,fun f hf=>?_⟩
  ·rw [hct] at h
   obtain ⟨h1,h2⟩:=hcl k T cs h
   obtain ⟨h3,h4⟩:=hJ.bx k T cs h
   rw [h1,h2]
   exact ⟨h3,h4.below hB⟩
  ·rw [hct] at h h'
   rw [(hcl k x.1 x.2 h).1,(hcl k' x'.1 x'.2 h').1]
   exact hJ.inj k k' x x' h h' hne
  ·rcases yN hf with h | h
   ·exact S.bl hB (hfc f h)
   ·exact hF f h
 | new T0 cs0 =>
  rw [he] at hD
  obtain ⟨hpos,rfl⟩:=hD
  have hB:Below W.heap.size W (W.alloc (.cells (cs0.map (Cell.den ρ')).toArray T0)):=(Below.refl _ _).alloc (Nat.le_refl _) _
  have hnew:=R.ctNew hc hd (show (rs.getD i default).ef.made=some (T0,cs0) by rw [he];rfl)
  have hct:∀ k,k≠σ.base+M*i→aN S σ l (more dn i) rs k=aN S σ l dn rs k:=fun k hk=>R.ctMore k (fun _ _ _=>hk) (fun k' off new h=>by rw [he] at h;cases h)
  refine ⟨ρ',hlow',hsz,hdf,hregs,hJ.bel.trans (hB.mono hJ.bel.size),fun k T cs h=>?_,fun k k' x x' h h' hne=>?_,fun f hf=>?_⟩
  ·by_cases e:k=σ.base+M*i
   ·subst e
    rw [hnew] at h
    simp only [Option.some.injEq,Prod.mk.injEq] at h
    obtain ⟨rfl,rfl⟩:=h
    rw [hpos]
    exact ⟨hJ.bel.size,Bx.new W _ _⟩
   ·rw [hct k e] at h
    obtain ⟨h1,h2⟩:=hcl k T cs h
    obtain ⟨h3,h4⟩:=hJ.bx k T cs h
    rw [h1,h2]
    exact ⟨h3,h4.below hB⟩
  ·have hold:∀ k x,k≠σ.base+M*i→aN S σ l (more dn i) rs k=some x→(ρ' k).pos<W.heap.size:=fun k x e h=>by
    rw [hct k e] at h
    rw [(hcl k x.1 x.2 h).1]
    exact (hJ.bx k x.1 x.2 h).2.lt
   by_cases e:k=σ.base+M*i
   ·have h2:=hold k' x' (fun e'=>hne (e.trans e'.symm)) h'
    rw [e,hpos];omega
   ·by_cases e':k' = σ.base+M*i
    ·have h2:=hold k x e h
     rw [e',hpos];omega
    ·rw [hct k e] at h
     rw [hct k' e'] at h'
     rw [(hcl k x.1 x.2 h).1,(hcl k' x'.1 x'.2 h').1]
     exact hJ.inj k k' x x' h h' hne
  ·rcases yN hf with h | h
   ·exact S.bl hB (hfc f h)
   ·exact hF f h
 | put k0 off new =>
  rw [he] at hD
  obtain ⟨T0,cs0,hct0,hle,hok,rfl,rfl⟩:=hD
  have hk0:=hacc k0 off new he
  have hct0':=R.ct hc ho hw hd hk0 hct0
  obtain ⟨h5,h6⟩:=hJ.bx k0 T0 cs0 hct0'
  have hst:=Lj (S:=S) (ρ:=ρ') hok (Nat.le_trans hlo h5) hle new [] (W:=W) (p:=(ρ' k0).pos) (T:=T0) rfl (by rw [LQ];exact h6)
  rw [List.length_nil,Nat.add_zero] at hst
  have hput:=R.ctPut hc ho hd he hk0 hct0'
  have hct:∀ k,k≠k0→aN S σ l (more dn i) rs k=aN S σ l dn rs k:=fun k hk=>R.ctMore k (fun _ _ h=>by rw [he] at h;cases h) (fun k' off' new' h=>by rw [he] at h;cases h;exact fun e=>hk e.symm)
  have hpre:∀ k x,aN S σ l (more dn i) rs k=some x→∃ y,aN S σ l dn rs k=some y:=fun k x h=>by
   by_cases e:k=k0
   ·subst e;exact ⟨_,hct0'⟩
   ·rw [hct k e] at h;exact ⟨x,h⟩
  refine ⟨ρ',hlow',hsz,hdf,hregs,hst.bel _ _ hJ.bel h5,fun k T cs h=>?_,fun k k' x x' h h' hne=>?_,fun f hf=>?_⟩
  ·by_cases e:k=k0
   ·subst e
    rw [hput] at h
    simp only [Option.some.injEq,Prod.mk.injEq] at h
    obtain ⟨rfl,rfl⟩:=h
    exact ⟨h5,hst.bx⟩
   ·rw [hct k e] at h
    obtain ⟨h3,h4⟩:=hJ.bx k T cs h
    exact ⟨h3,(hst.far _ (hJ.inj k k0 _ _ h hct0' e)).trans h4⟩
  ·obtain ⟨y,hy⟩:=hpre k x h
   obtain ⟨y',hy'⟩:=hpre k' x' h'
   exact hJ.inj k k' y y' hy hy' hne
  ·rcases yN hf with h | h
   ·exact hst.on f (hfc f h)
   ·exact hF f h
 | got T0 cs0 =>
  rw [he] at hD
  obtain ⟨hpos,hB,hnx⟩:=hD
  have hnew:=R.ctNew hc hd (show (rs.getD i default).ef.made=some (T0,cs0) by rw [he];rfl)
  have hct:∀ k,k≠σ.base+M*i→aN S σ l (more dn i) rs k=aN S σ l dn rs k:=fun k hk=>R.ctMore k (fun _ _ _=>hk) (fun k' off new h=>by rw [he] at h;cases h)
  refine ⟨ρ',hlow',hsz,hdf,hregs,hJ.bel.trans (hB.mono hJ.bel.size),fun k T cs h=>?_,fun k k' x x' h h' hne=>?_,fun f hf=>?_⟩
  ·by_cases e:k=σ.base+M*i
   ·subst e
    rw [hnew] at h
    simp only [Option.some.injEq,Prod.mk.injEq] at h
    obtain ⟨rfl,rfl⟩:=h
    exact ⟨Nat.le_trans hJ.bel.size hpos,hnx⟩
   ·rw [hct k e] at h
    obtain ⟨h1,h2⟩:=hcl k T cs h
    obtain ⟨h3,h4⟩:=hJ.bx k T cs h
    rw [h1,h2]
    exact ⟨h3,h4.below hB⟩
  ·have hold:∀ k x,k≠σ.base+M*i→aN S σ l (more dn i) rs k=some x→(ρ' k).pos<W.heap.size:=fun k x e h=>by
    rw [hct k e] at h
    rw [(hcl k x.1 x.2 h).1]
    exact (hJ.bx k x.1 x.2 h).2.lt
   by_cases e:k=σ.base+M*i
   ·have h2:=hold k' x' (fun e'=>hne (e.trans e'.symm)) h'
    rw [e];omega
   ·by_cases e':k' = σ.base+M*i
    ·have h2:=hold k x e h
     rw [e'];omega
    ·rw [hct k e] at h
     rw [hct k' e'] at h'
     rw [(hcl k x.1 x.2 h).1,(hcl k' x'.1 x'.2 h').1]
     exact hJ.inj k k' x x' h h' hne
  ·rcases yN hf with h | h
   ·exact S.bl hB (hfc f h)
   ·exact hF f h
theorem NT {rd:Tmp→Option SV} {ct:Nat→Option (TypeId×List Cell)} {db:List S.F} {b:Nat} {o:Op} {r:Rec S.F} (h:evalOp P H cons rd ct db b o=some r) {k off:Nat} {new:List Cell} (he:r.ef=.put k off new):k∈r.acc:=by
 unfold evalOp at h
 repeat' split at h
 all_goals first
  | (cases h;done)
  | (cases h;cases he;done)
  | (cases h;cases he;simp;done)
  | (obtain ⟨v,hv,rfl⟩:=Option.map_eq_some_iff.1 h;cases he)
theorem Ran.step (R:Ran P S H cons σ l rs) (wf:Wf σ) {E:World→Prop} {w0:World} (hlo:S.lo≤w0.heap.size) {ρ0:Env} (hcons:∀ c∈cons,c.Ok P S E) (hE:∀ W,Below w0.heap.size w0 W→E W):Step P l (Jx σ l rs w0 ρ0):=by
 intro dn a W i o ho hd hw hc hJ
 obtain ⟨ρ,hlow,hH⟩:=hJ
 have hev:=R.ev i o ho
 have hy:∀ j (t:Tmp),(l[j]?).bind (·.dst)=some t→dn j=true→yielded l.toArray a.tmps j=match (rs.getD j default).v.den ρ with | .bool b=>some b | _=>none:=fun j t hj hdj=>by
  obtain ⟨oj,hoj,hdt⟩:=Option.bind_eq_some_iff.1 hj
  have hlt:t<a.tmps.size:=by rw [hH.sz];exact R.ins oj (List.mem_of_getElem? hoj) t hdt
  have hrg:=hH.rg t
  unfold dS at hrg
  rw [Fh R.dst hoj hdt,Nat.zero_add] at hrg
  simp only at hrg
  rw [if_pos hdj] at hrg
  have h1:a.tmps[t]? = some ((rs.getD j default).v.den ρ):=by
   rw [← hrg];simp [hlt]
  unfold yielded
  rw [List.getElem?_toArray,hoj]
  simp only [Option.bind_some,hdt,h1]
  split <;> simp_all
 unfold kZ at hev
 split at hev
 ·rename_i hg
  have hwant:Region.wanted o (yielded l.toArray a.tmps)=true:=by
   unfold rJ at hg
   unfold Region.wanted
   split at hg
   ·rename_i hgd;rw [hgd]
   ·rename_i j want hgd
    rw [hgd]
    simp only
    split at hg
    ·rename_i hb
     have hdj:=qL R.lex hc ho hw (show bf l i j=true from hb)
     split at hg
     ·rename_i b t hv hdst
      rw [hy j t hdst hdj,hv]
      simp only [Option.some.injEq] at hg
      have e:b=want:=by simpa using hg
      subst e
      simp [SV.den,El.den,Cell.den]
     ·cases hg
     ·cases hg
    ·cases hg
  rw [if_pos hwant]
  split at hev
  ·rename_i r hr
   split at hev
   ·rename_i hok
    have hrr:r=rs.getD i default:=Option.some.inj hev
    have hEW:E W:=hE W hH.bel
    have h:=Rj (o:=o) (a:=a) (W:=W) (ρ:=ρ) hcons hr (fun t v h=>by rw [R.rd hc ho hw hd h];exact hH.rg t)
     (fun t v h=>by rw [R.rd hc ho hw hd h];exact R.regNm wf hc hd t)
     (fun k T cs hk h=>(hH.bx k T cs (R.ct hc ho hw hd (by rw [← hrr];exact hk) h)).2) (fun f hf=>hH.fc f (R.db hc ho hw hf)) hEW
    have hmono:∀ {K K':Value→World→Prop},(∀ v w,K v w→K' v w)→takes P o a W K→takes P o a W K':=fun {K K'} hKK ht=>by
     unfold takes at ht ⊢
     generalize (execOp a.eval o).run P W=q at *
     cases q with
     | ok n w' =>
      cases n <;> simp only [lS] at ht ⊢
      case value v=>exact hKK _ _ ht
      case skip=>exact hKK _ _ ht
      case enter f args=>exact ht.mono fun e w'' ⟨v,he,hk⟩=>⟨v,he,hKK _ _ hk⟩
     | halt x w'=>simp only [lS] at ht
    refine hmono (fun v W' hA=>?_) h
    obtain ⟨ρ',h1,rfl,h3,h4⟩:=hA
    rw [hrr] at h3 h4 ⊢
    exact R.advance wf hlo ho hd hw hc hlow hH (fun n hn=>h1 n hn) h3 (fun k off new he=>NT hr (by rw [hrr];exact he) |> fun h=>by rw [hrr] at h;exact h) h4
   ·cases hev
  ·cases hev
 ·rename_i hg
  have hx:(default:Rec S.F)=rs.getD i default:=Option.some.inj hev
  have hwant:Region.wanted o (yielded l.toArray a.tmps)=false:=by
   unfold rJ at hg
   unfold Region.wanted
   split at hg
   ·cases hg
   ·rename_i j want hgd
    rw [hgd]
    simp only
    split at hg
    ·rename_i hb
     have hdj:=qL R.lex hc ho hw (show bf l i j=true from hb)
     split at hg
     ·rename_i b t hv hdst
      rw [hy j t hdst hdj,hv]
      simp only [Option.some.injEq] at hg
      have e:b≠want:=by simpa using hg
      simp [SV.den,El.den,Cell.den,e]
     ·rename_i hv
      cases hdst:(l[j]?).bind (·.dst) with
      | none=>unfold yielded;rw [List.getElem?_toArray,hdst];rfl
      | some t=>rw [hy j t hdst hdj,hv];rfl
     ·cases hg
    ·cases hg
  rw [if_neg (by rw [hwant];decide)]
  have:=R.advance wf hlo (ρ':=ρ) (W':=W) ho hd hw hc hlow hH (fun _ _=>rfl) (by rw [← hx];exact Below.refl _ _) (fun k off new he=>by rw [← hx] at he;cases he) (fun f hf=>by rw [← hx] at hf;cases hf)
  rw [← hx] at this
  exact this
 ·cases hev
end
end Rx
namespace Rx
open Go.RowKit
section
variable {P:Program} {S:Sys} {H:Tests S} {cons:List (Con S)} {σ:State S} {l:List Oper} {rs:List (Rec S.F)}
theorem rX {sel:Nat→Bool} {k:Nat} {x:TypeId×List Cell}:∀ {L:List Nat},lk (pX S σ l sel rs L) k=some x→aN S σ l sel rs k=some x
 | [],h=>by simp [pX,lk] at h
 | k' :: r,h=>by
  simp only [pX] at h
  split at h
  ·rename_i y hy
   simp only [lk] at h
   split at h
   ·rename_i e;subst e;rw [hy];exact h
   ·exact rX h
  ·exact rX h
theorem CP (hlen:rs.length=l.length) {dn:Nat→Bool} (hd:∀ k,k<l.length→dn k=true):aN S σ l (upTo l.length) rs=aN S σ l dn rs:=by
 have hs:∀ k,gV S σ (upTo l.length) rs k=gV S σ dn rs k:=fun k=>by
  unfold gV
  split
  ·rfl
  ·by_cases hj:(k - σ.base) / M<l.length
   ·rw [hd _ hj];simp [upTo,hj]
   ·rw [IK (by omega)]
    show (if _=true then (none:Option (TypeId×List Cell)) else none)=if _=true then none else none
    rw [ite_self,ite_self]
 funext k
 unfold aN
 rw [hs]
 split
 ·rw [sQ (sel':=dn) (rs':=rs) fun j hj cs=>by
   have:=List.mem_range.1 hj
   rw [hd j this];simp [upTo,this]]
 ·rfl
theorem Qh {dn:Nat→Bool} (hd:∀ k,k<l.length→dn k=true):dw S σ l (upTo l.length) rs=dw S σ l dn rs:=by
 unfold dw
 rw [CS (sel':=dn) (rs':=rs) fun j hj=>by
  have:=List.mem_range.1 hj
  rw [hd j this];simp [upTo,this]]
theorem XL {dn:Nat→Bool} (hd:∀ k,k<l.length→dn k=true) (t:Tmp):dS S σ l (upTo l.length) rs t=dS S σ l dn rs t:=by
 unfold dS
 split
 ·rfl
 ·rename_i j hw
  obtain ⟨-,o,h1,-⟩:=Fj hw
  have:j<l.length:=(List.getElem?_eq_some_iff.1 (by simpa using h1)).1
  rw [hd j this];simp [upTo,this]
theorem J9 {rs:List (Rec S.F)} (h1:(lexB 0 l && jX l && l.all (fun o=>o.dst.all (· < σ.regs.length)))=true) (h2:qh P S H cons σ l (bW l []) l 0 []=some rs) (h3:CO S l (bW l []) rs=true):Ran P S H cons σ l rs:=by
 simp only [Bool.and_eq_true] at h1
 obtain ⟨h4,h5⟩:=Ye h1.1.1 h2
 refine ⟨h1.1.1,h1.1.2,fun o ho t ht=>?_,h4,h5,h3⟩
 have:=List.all_eq_true.1 h1.2 o ho
 rw [ht] at this
 simpa using this
theorem DW {j n m:Nat} (hl:lexB 0 l=true) (h:pW S σ (bW l []) j n=true) (hj:j<m):n<σ.base+M*m:=by
 unfold pW at h
 simp only [Bool.or_eq_true,decide_eq_true_eq,beq_iff_eq] at h
 rcases h with (h | h) | h
 ·omega
 ·have:=Nat.mul_le_mul_left M hj
  have h2:=Nat.div_add_mod (n - σ.base) M
  have h3:=Nat.mod_lt (n - σ.base) (show 0<M by decide)
  rw [h] at h2
  simp only [M] at *
  omega
 ·have h1:=BI (l:=l) hl (i:=j) h
  have:=Nat.mul_le_mul_left M (show (n - σ.base) / M+1≤m by omega)
  have h2:=Nat.div_add_mod (n - σ.base) M
  have h3:=Nat.mod_lt (n - σ.base) (show 0<M by decide)
  simp only [M] at *
  omega
theorem Ran.nmLt (R:Ran P S H cons σ l rs) {j:Nat} (hj:j<l.length):(∀ n∈(rs.getD j default).v.nm,n<σ.base+M*l.length)∧(∀ n∈mQ (rs.getD j default).ef,n<σ.base+M*l.length)∧∀ f∈(rs.getD j default).fs,∀ n∈S.nm f,n<σ.base+M*l.length:=by
 have h:=R.jI j
 unfold Rx.jI at h
 simp only [Bool.and_eq_true,List.all_eq_true] at h
 exact ⟨fun n hn=>DW R.lex (h.1.1 n hn) hj,fun n hn=>DW R.lex (h.1.2 n hn) hj,fun f hf n hn=>DW R.lex (h.2 f hf n hn) hj⟩
theorem Ran.wf (R:Ran P S H cons σ l rs) (wf:Wf σ):Wf (S:=S) ⟨(List.range σ.regs.length).map (dS S σ l (upTo l.length) rs),pX S σ l (upTo l.length) rs (Jd S σ l),dw S σ l (upTo l.length) rs,σ.base+M*l.length⟩:=by
 have hout:∀ j,upTo l.length j=true→j<l.length:=fun j hj=>by simpa [upTo] using hj
 refine ⟨fun t n hn=>?_,fun k T cs h=>?_,fun f hf n hn=>?_⟩
 ·show n<σ.base+M*l.length
  simp only [List.getD,List.getElem?_map] at hn
  rcases Nat.lt_or_ge t σ.regs.length with ht | ht
  ·simp only [List.getElem?_range ht,Option.map_some,Option.getD_some] at hn
   unfold dS at hn
   split at hn
   ·have:=wf.nr t n hn;omega
   ·rename_i j _
    split at hn
    ·rename_i hj;exact (R.nmLt (hout j hj)).1 n hn
    ·have:=wf.nr t n hn;omega
  ·rw [List.getElem?_eq_none (by simpa using ht)] at hn
   simp [SV.nm] at hn
 ·have h:=rX h
  unfold aN at h
  split at h
  ·rename_i T' cs' hs
   simp only [Option.some.injEq,Prod.mk.injEq] at h
   obtain ⟨rfl,rfl⟩:=h
   have key:k<σ.base+M*l.length∧∀ n∈cs'.flatMap Cell.nm,n<σ.base+M*l.length:=by
    unfold gV at hs
    split at hs
    ·obtain ⟨h1,h2⟩:=wf.nb k _ _ hs
     exact ⟨by omega,fun n hn=>by have:=h2 n hn;omega⟩
    ·split at hs
     ·rename_i hk hsel
      simp only [Bool.and_eq_true,beq_iff_eq] at hsel
      have hj:=hout _ hsel.1
      refine ⟨?_,fun n hn=>(R.nmLt hj).2.1 n (Jk hs hn)⟩
      have h2:=Nat.div_add_mod (k - σ.base) M
      have:=Nat.mul_le_mul_left M hj
      rw [hsel.2] at h2
      simp only [M] at *
      omega
     ·cases hs
   refine ⟨key.1,fun n hn=>?_⟩
   rcases Ew hn with ⟨j,hj,h⟩ | h
   ·exact (R.nmLt (hout j hj)).2.1 n h
   ·exact key.2 n h
  ·cases h
 ·unfold dw at hf
  rcases List.mem_append.1 hf with h | h
  ·obtain ⟨j,-,hj,h⟩:=lu.1 h
   exact (R.nmLt (hout j hj)).2.2 f h n hn
  ·have:=wf.nf f h n hn
   show n<σ.base+M*l.length
   omega
theorem XO {σ':State S} (wf:Wf σ) (h:vO P S H cons σ l=some σ'):Wf σ'∧σ.base≤σ'.base∧σ'.regs.length=σ.regs.length:=by
 unfold vO at h
 split at h
 ·rename_i h1
  split at h
  ·rename_i rs h2
   split at h
   ·rename_i h3
    cases h
    exact ⟨(J9 h1 h2 h3).wf wf,Nat.le_add_right _ _,by simp⟩
   ·cases h
  ·cases h
 ·cases h
theorem Says.drew {w0 W:World} {ρ:Env} {a:Act} {n:Nat} {rg:Tmp→SV} {bx:Nat→Option (TypeId×List Cell)} {fc:S.F→Prop} (h:Holds (S:=S) w0 n rg bx fc ρ a W):Holds (S:=S) w0 n rg bx fc ρ a W.drew:=
 ⟨h.sz,h.df,h.rg,h.bel.drew,fun k T cs hk=>⟨(h.bx k T cs hk).1,(h.bx k T cs hk).2⟩,h.inj,fun f hf=>S.bl (Below.refl _ _).drew (h.fc f hf)⟩
theorem XM {σ':State S} {E:World→Prop} {w0:World} (hlo:S.lo≤w0.heap.size) (hm:P.follows .mixedOrders=true) (wf:Wf σ) (hcons:∀ c∈cons,c.Ok P S E) (hE:∀ W,Below w0.heap.size w0 W→E W) (h:vO P S H cons σ l=some σ') {ρ:Env} {a:Act} {W:World} (hs:σ.Says w0 ρ a W)
  {id:Nat} {b:Bool} {Q:Exit→Act→World→Prop} (hQ:∀ ρ' a' W',(∀ n,n<σ.base→ρ' n=ρ n)→σ'.Says w0 ρ' a' W'→Q .normal a' W'):(Code.region id l.toArray b).wp P Q a W:=by
 unfold vO at h
 split at h
 ·rename_i h1
  split at h
  ·rename_i rs h2
   split at h
   ·rename_i h3
    cases h
    have R:=J9 h1 h2 h3
    have h0:Holds (S:=S) w0 σ.regs.length (dS S σ l (fun _=>false) rs) (aN S σ l (fun _=>false) rs) (fun f=>f∈dw S σ l (fun _=>false) rs) ρ a W:=by
     have hct:∀ k x,aN S σ l (fun _=>false) rs k=some x→lk σ.bx k=some x:=fun k x h=>by
      unfold aN at h
      split at h
      ·rename_i T cs hs'
       rw [zI (fun j _ hj=>by cases hj)] at h
       unfold gV at hs'
       split at hs'
       ·rw [hs'];exact h
       ·simp at hs'
      ·cases h
     refine ⟨hs.sz,hs.df,fun t=>?_,hs.bel,fun k T cs h=>hs.bx k T cs (hct k _ h),fun k k' x x' h h'=>hs.inj k k' x x' (hct k x h) (hct k' x' h'),fun f hf=>?_⟩
     ·rw [hs.rg t]
      unfold dS
      split <;> rfl
     ·unfold dw at hf
      rcases List.mem_append.1 hf with h | h
      ·obtain ⟨j,-,hj,-⟩:=lu.1 h;cases hj
      ·exact hs.fc f h
    refine XP (J:=Jx σ l rs w0 ρ) hm R.lex (R.step wf hlo hcons hE) ⟨ρ,fun _ _=>rfl,h0⟩ ⟨ρ,fun _ _=>rfl,Says.drew h0⟩ fun dn a' W' hd hJ=>?_
    obtain ⟨ρ',hlow,hH⟩:=hJ
    refine hQ ρ' a' W' hlow ⟨by rw [hH.sz];simp,hH.df,fun t=>?_,hH.bel,fun k T cs h=>hH.bx k T cs ?_,fun k k' x x' h h'=>hH.inj k k' x x' ?_ ?_,fun f hf=>hH.fc f ?_⟩
    ·simp only [List.getD,List.getElem?_map]
     rcases Nat.lt_or_ge t σ.regs.length with ht | ht
     ·rw [hH.rg t,List.getElem?_range ht,Option.map_some,Option.getD_some,XL hd]
     ·rw [List.getElem?_eq_none (by simpa using ht)]
      have:a'.tmps.size≤t:=by rw [hH.sz];exact ht
      simp [this,SV.den]
    ·rw [← CP R.len hd];exact rX h
    ·rw [← CP R.len hd];exact rX h
    ·rw [← CP R.len hd];exact rX h'
    ·show f∈dw S σ l dn rs
     rw [← Qh hd];exact hf
   ·cases h
  ·cases h
 ·cases h
end
inductive Ex
 | normal
 | exit (id:Nat)
 | ret
def Ex.out:Ex→Exit
 | .normal=>.normal
 | .exit id=>.exit id
 | .ret=>.ret
section
variable (P:Program) (S:Sys) (H:Tests S) (cons:List (Con S))
def vw (f:State S→Option (Ex×State S)):Nat→State S→Option (Ex×State S)
 | 0,_=>none
 | n+1,σ=>match f σ with
  | some (.normal,σ')=>vw f n σ'
  | r=>r
def exec (fuel:Nat):Code→State S→Option (Ex×State S)
 | .skip,σ=>some (.normal,σ)
 | .label _,σ=>some (.normal,σ)
 | .region _ ops _,σ=>match vO P S H cons σ ops.toList with
  | some σ'=>some (.normal,σ')
  | none=>none
 | .seq x y,σ=>match exec fuel x σ with
  | some (.normal,σ')=>exec fuel y σ'
  | r=>r
 | .cond c x y,σ=>match opd (fun t=>some (σ.regs.getD t .und)) c with
  | some (.e (.s (.bl true)))=>exec fuel x σ
  | some (.e (.s (.bl false)))=>exec fuel y σ
  | _=>none
 | .block id c,σ=>match exec fuel c σ with
  | some (.exit i,σ')=>if i=id then some (.normal,σ') else some (.exit i,σ')
  | r=>r
 | .loop c,σ=>vw S (exec fuel c) fuel σ
 | .scope c,σ=>exec fuel c σ
 | .exit id,σ=>some (.exit id,σ)
 | .ret,σ=>some (.ret,σ)
 | _,_=>none
end
section
variable {P:Program} {S:Sys} {H:Tests S} {cons:List (Con S)} {fuel:Nat}
def Good (P:Program) (S:Sys) (w0:World) (c:Code) (f:State S→Option (Ex×State S)):Prop:=
 ∀ σ x σ',f σ=some (x,σ')→Wf σ→Wf σ'∧σ.base≤σ'.base∧∀ ρ a W (Q:Exit→Act→World→Prop),σ.Says w0 ρ a W →
  (∀ ρ' a' W',(∀ n,n<σ.base→ρ' n=ρ n)→σ'.Says w0 ρ' a' W'→Q x.out a' W')→c.wp P Q a W
theorem Jh {w0:World} {c:Code} {f:State S→Option (Ex×State S)} (h:Good P S w0 c f):∀ n σ x σ',vw S f n σ=some (x,σ')→Wf σ→Wf σ'∧σ.base≤σ'.base∧∀ ρ a W (Q:Exit→Act→World→Prop),σ.Says w0 ρ a W →
  (∀ ρ' a' W',(∀ n,n<σ.base→ρ' n=ρ n)→σ'.Says w0 ρ' a' W'→Q x.out a' W')→Code.rounds P c Q n a W
 | 0,σ,x,σ',hx,_=>by simp [vw] at hx
 | n+1,σ,x,σ',hx,wf=>by
  simp only [vw] at hx
  split at hx
  ·rename_i σ1 h1
   obtain ⟨wf1,le1,go1⟩:=h σ _ _ h1 wf
   obtain ⟨wf2,le2,go2⟩:=Jh h n σ1 x σ' hx wf1
   refine ⟨wf2,Nat.le_trans le1 le2,fun ρ a W Q hs hQ=>?_⟩
   rw [rounds_succ]
   refine go1 ρ a W _ hs fun ρ1 a1 W1 hl1 hs1=>?_
   exact go2 ρ1 a1 W1 Q hs1 fun ρ2 a2 W2 hl2 hs2=>hQ ρ2 a2 W2 (fun n hn=>(hl2 n (by omega)).trans (hl1 n hn)) hs2
  ·rename_i hr
   have hx':=hx
   obtain ⟨wf1,le1,go1⟩:=h σ x σ' hx wf
   refine ⟨wf1,le1,fun ρ a W Q hs hQ=>?_⟩
   rw [rounds_succ]
   refine go1 ρ a W _ hs fun ρ1 a1 W1 hl1 hs1=>?_
   have hne:x≠.normal:=fun e=>by subst e;exact hr σ' hx'
   have:=hQ ρ1 a1 W1 hl1 hs1
   cases x <;> first | exact absurd rfl hne | exact this
theorem Ru {E:World→Prop} {w0:World} (hlo:S.lo≤w0.heap.size) (hm:P.follows .mixedOrders=true) (hcons:∀ c∈cons,c.Ok P S E) (hE:∀ W,Below w0.heap.size w0 W→E W):∀ c,Good P S w0 c (exec P S H cons fuel c):=by
 intro c
 induction c with
 | skip=>intro σ x σ' h wf;simp only [exec,Option.some.injEq,Prod.mk.injEq] at h;obtain ⟨rfl,rfl⟩:=h;exact ⟨wf,Nat.le_refl _,fun ρ a W Q hs hQ=>wp_skip (hQ ρ a W (fun _ _=>rfl) hs)⟩
 | label n=>intro σ x σ' h wf;simp only [exec,Option.some.injEq,Prod.mk.injEq] at h;obtain ⟨rfl,rfl⟩:=h;exact ⟨wf,Nat.le_refl _,fun ρ a W Q hs hQ=>wp_label (hQ ρ a W (fun _ _=>rfl) hs)⟩
 | exit n=>intro σ x σ' h wf;simp only [exec,Option.some.injEq,Prod.mk.injEq] at h;obtain ⟨rfl,rfl⟩:=h;exact ⟨wf,Nat.le_refl _,fun ρ a W Q hs hQ=>wp_exit (hQ ρ a W (fun _ _=>rfl) hs)⟩
 | ret=>intro σ x σ' h wf;simp only [exec,Option.some.injEq,Prod.mk.injEq] at h;obtain ⟨rfl,rfl⟩:=h;exact ⟨wf,Nat.le_refl _,fun ρ a W Q hs hQ=>wp_ret (hQ ρ a W (fun _ _=>rfl) hs)⟩
 | region id ops d =>
  intro σ x σ' h wf
  simp only [exec] at h
  split at h
  ·rename_i σ1 h1
   simp only [Option.some.injEq,Prod.mk.injEq] at h
   obtain ⟨rfl,rfl⟩:=h
   obtain ⟨wf1,le1,-⟩:=XO wf h1
   refine ⟨wf1,le1,fun ρ a W Q hs hQ=>?_⟩
   have:=XM hlo hm wf hcons hE h1 hs (id:=id) (b:=d) (Q:=Q) hQ
   rwa [Array.toArray_toList] at this
  ·cases h
 | seq c1 c2 ih1 ih2 =>
  intro σ x σ' h wf
  simp only [exec] at h
  split at h
  ·rename_i σ1 h1
   obtain ⟨wf1,le1,go1⟩:=ih1 σ _ _ h1 wf
   obtain ⟨wf2,le2,go2⟩:=ih2 σ1 _ _ h wf1
   refine ⟨wf2,Nat.le_trans le1 le2,fun ρ a W Q hs hQ=>wp_seq ?_⟩
   exact go1 ρ a W _ hs fun ρ1 a1 W1 hl1 hs1=>go2 ρ1 a1 W1 Q hs1 fun ρ2 a2 W2 hl2 hs2=>hQ ρ2 a2 W2 (fun n hn=>(hl2 n (by omega)).trans (hl1 n hn)) hs2
  ·rename_i hr
   have h':=h
   obtain ⟨wf1,le1,go1⟩:=ih1 σ x σ' h wf
   refine ⟨wf1,le1,fun ρ a W Q hs hQ=>wp_seq ?_⟩
   refine go1 ρ a W _ hs fun ρ1 a1 W1 hl1 hs1=>?_
   have hne:x≠.normal:=fun e=>by subst e;exact hr σ' h'
   have:=hQ ρ1 a1 W1 hl1 hs1
   cases x <;> first | exact absurd rfl hne | exact this
 | cond c x1 x2 ih1 ih2 =>
  intro σ x σ' h wf
  simp only [exec] at h
  have key:∀ ρ a W v,σ.Says w0 ρ a W→opd (fun t=>some (σ.regs.getD t .und)) c=some v→a.eval c=v.den ρ:=fun ρ a W v hs hv=>aV hv fun t v h=>by
   simp only [Option.some.injEq] at h;subst h;exact hs.rg t
  split at h
  ·rename_i hv
   obtain ⟨wf1,le1,go1⟩:=ih1 σ x σ' h wf
   exact ⟨wf1,le1,fun ρ a W Q hs hQ=>wp_cond_true (key ρ a W _ hs hv) (go1 ρ a W Q hs hQ)⟩
  ·rename_i hv
   obtain ⟨wf1,le1,go1⟩:=ih2 σ x σ' h wf
   exact ⟨wf1,le1,fun ρ a W Q hs hQ=>wp_cond_false (key ρ a W _ hs hv) (go1 ρ a W Q hs hQ)⟩
  ·cases h
 | block id c ih =>
  intro σ x σ' h wf
  simp only [exec] at h
  split at h
  ·rename_i i σ1 h1
   obtain ⟨wf1,le1,go1⟩:=ih σ _ _ h1 wf
   split at h
   ·rename_i e
    simp only [Option.some.injEq,Prod.mk.injEq] at h
    obtain ⟨rfl,rfl⟩:=h
    refine ⟨wf1,le1,fun ρ a W Q hs hQ=>wp_block (go1 ρ a W _ hs fun ρ1 a1 W1 hl1 hs1=>?_)⟩
    simp only [Ex.out,Exit.inBlock,e,if_true]
    exact hQ ρ1 a1 W1 hl1 hs1
   ·rename_i e
    simp only [Option.some.injEq,Prod.mk.injEq] at h
    obtain ⟨rfl,rfl⟩:=h
    refine ⟨wf1,le1,fun ρ a W Q hs hQ=>wp_block (go1 ρ a W _ hs fun ρ1 a1 W1 hl1 hs1=>?_)⟩
    simp only [Ex.out,Exit.inBlock,e,if_false]
    exact hQ ρ1 a1 W1 hl1 hs1
  ·rename_i hr
   have h':=h
   obtain ⟨wf1,le1,go1⟩:=ih σ x σ' h wf
   refine ⟨wf1,le1,fun ρ a W Q hs hQ=>wp_block (go1 ρ a W _ hs fun ρ1 a1 W1 hl1 hs1=>?_)⟩
   have:=hQ ρ1 a1 W1 hl1 hs1
   cases x <;> first | exact absurd h' (hr _ σ') | exact this
 | loop c ih =>
  intro σ x σ' h wf
  simp only [exec] at h
  obtain ⟨wf1,le1,go1⟩:=Jh ih fuel σ x σ' h wf
  exact ⟨wf1,le1,fun ρ a W Q hs hQ=>wp_loop_rounds fuel (go1 ρ a W Q hs hQ)⟩
 | scope c ih =>
  intro σ x σ' h wf
  simp only [exec] at h
  obtain ⟨wf1,le1,go1⟩:=ih σ x σ' h wf
  refine ⟨wf1,le1,fun ρ a W Q hs hQ=>wp_scope_straight (go1 ρ a W _ hs fun ρ1 a1 W1 hl1 hs1=>?_)⟩
  have:=hQ ρ1 a1 W1 hl1 hs1
  cases x <;> exact this
 | rangeFunc=>intro σ x σ' h wf;simp [exec] at h
 | goto=>intro σ x σ' h wf;simp [exec] at h
 | refuse=>intro σ x σ' h wf;simp [exec] at h
end
end Rx
end Go.Proofs.YtefbfbdijimanaaGreatDoor
