/- What the proof rests on, part 15. -/
import Derived.Test.YtmijlcldmefggaaGreatDoorZ14
import Derived.LoopN
import Derived.Scope
import Derived.Test.YtmijlcldmefggaaGreatDoorZ11
import Derived.Test.YtmijlcldmefggaaGreatDoorZ06
namespace Go.Proofs.YtmijlcldmefggaaGreatDoor
set_option maxRecDepth 100000
set_option maxHeartbeats 80000000
namespace Rx
open Go.RowKit
section
variable {P:Program} {S:Sys} {H:Tests S} {cons:List (Con S)} {σ:State S} {l:List Oper} {rs:List (Rec S.F)}
theorem lk_pick {sel:Nat→Bool} {k:Nat} {x:TypeId×List Cell}:∀ {L:List Nat},lk (pickBx S σ l sel rs L) k=some x→ctAt S σ l sel rs k=some x
 | [],h=>by simp [pickBx,lk] at h
 | k' :: r,h=>by
  simp only [pickBx] at h
  split at h
  ·rename_i y hy
   simp only [lk] at h
   split at h
   ·rename_i e;subst e;rw [hy];exact h
   ·exact lk_pick h
  ·exact lk_pick h
theorem ct_upTo (hlen:rs.length=l.length) {dn:Nat→Bool} (hd:∀ k,k<l.length→dn k=true):ctAt S σ l (upTo l.length) rs=ctAt S σ l dn rs:=by
 have hs:∀ k,startAt S σ (upTo l.length) rs k=startAt S σ dn rs k:=fun k=>by
  unfold startAt
  split
  ·rfl
  ·by_cases hj:(k - σ.base) / M<l.length
   ·rw [hd _ hj];simp [upTo,hj]
   ·rw [getD_out (by omega)]
    show (if _=true then (none:Option (TypeId×List Cell)) else none)=if _=true then none else none
    rw [ite_self,ite_self]
 funext k
 unfold ctAt
 rw [hs]
 split
 ·rw [puts_congr (sel':=dn) (rs':=rs) fun j hj cs=>by
   have:=List.mem_range.1 hj
   rw [hd j this];simp [upTo,this]]
 ·rfl
theorem db_upTo {dn:Nat→Bool} (hd:∀ k,k<l.length→dn k=true):dbAt S σ l (upTo l.length) rs=dbAt S σ l dn rs:=by
 unfold dbAt
 rw [dbFrom_congr (sel':=dn) (rs':=rs) fun j hj=>by
  have:=List.mem_range.1 hj
  rw [hd j this];simp [upTo,this]]
theorem reg_upTo {dn:Nat→Bool} (hd:∀ k,k<l.length→dn k=true) (t:Tmp):regAt S σ l (upTo l.length) rs t=regAt S σ l dn rs t:=by
 unfold regAt
 split
 ·rfl
 ·rename_i j hw
  obtain ⟨-,o,h1,-⟩:=wr_some hw
  have:j<l.length:=(List.getElem?_eq_some_iff.1 (by simpa using h1)).1
  rw [hd j this];simp [upTo,this]
theorem ran_of {rs:List (Rec S.F)} (h1:(lexB 0 l && dstsB l && l.all (fun o=>o.dst.all (· < σ.regs.length)))=true) (h2:runOps P S H cons σ l (befs l []) l 0 []=some rs) (h3:confB S l (befs l []) rs=true):Ran P S H cons σ l rs:=by
 simp only [Bool.and_eq_true] at h1
 obtain ⟨h4,h5⟩:=run_all h1.1.1 h2
 refine ⟨h1.1.1,h1.1.2,fun o ho t ht=>?_,h4,h5,h3⟩
 have:=List.all_eq_true.1 h1.2 o ho
 rw [ht] at this
 simpa using this
theorem okNm_lt {j n m:Nat} (hl:lexB 0 l=true) (h:okNm S σ (befs l []) j n=true) (hj:j<m):n<σ.base+M*m:=by
 unfold okNm at h
 simp only [Bool.or_eq_true,decide_eq_true_eq,beq_iff_eq] at h
 rcases h with (h | h) | h
 ·omega
 ·have:=Nat.mul_le_mul_left M hj
  have h2:=Nat.div_add_mod (n - σ.base) M
  have h3:=Nat.mod_lt (n - σ.base) (show 0<M by decide)
  rw [h] at h2
  simp only [M] at *
  omega
 ·have h1:=bf_lt (l:=l) hl (i:=j) h
  have:=Nat.mul_le_mul_left M (show (n - σ.base) / M+1≤m by omega)
  have h2:=Nat.div_add_mod (n - σ.base) M
  have h3:=Nat.mod_lt (n - σ.base) (show 0<M by decide)
  simp only [M] at *
  omega
theorem Ran.nmLt (R:Ran P S H cons σ l rs) {j:Nat} (hj:j<l.length):(∀ n∈(rs.getD j default).v.nm,n<σ.base+M*l.length)∧(∀ n∈effNm (rs.getD j default).ef,n<σ.base+M*l.length)∧∀ f∈(rs.getD j default).fs,∀ n∈S.nm f,n<σ.base+M*l.length:=by
 have h:=R.okRec j
 unfold Rx.okRec at h
 simp only [Bool.and_eq_true,List.all_eq_true] at h
 exact ⟨fun n hn=>okNm_lt R.lex (h.1.1 n hn) hj,fun n hn=>okNm_lt R.lex (h.1.2 n hn) hj,fun f hf n hn=>okNm_lt R.lex (h.2 f hf n hn) hj⟩
theorem Ran.wf (R:Ran P S H cons σ l rs) (wf:Wf σ):Wf (S:=S) ⟨(List.range σ.regs.length).map (regAt S σ l (upTo l.length) rs),pickBx S σ l (upTo l.length) rs (keysAt S σ l),dbAt S σ l (upTo l.length) rs,σ.base+M*l.length⟩:=by
 have hout:∀ j,upTo l.length j=true→j<l.length:=fun j hj=>by simpa [upTo] using hj
 refine ⟨fun t n hn=>?_,fun k T cs h=>?_,fun f hf n hn=>?_⟩
 ·show n<σ.base+M*l.length
  simp only [List.getD,List.getElem?_map] at hn
  rcases Nat.lt_or_ge t σ.regs.length with ht | ht
  ·simp only [List.getElem?_range ht,Option.map_some,Option.getD_some] at hn
   unfold regAt at hn
   split at hn
   ·have:=wf.nr t n hn;omega
   ·rename_i j _
    split at hn
    ·rename_i hj;exact (R.nmLt (hout j hj)).1 n hn
    ·have:=wf.nr t n hn;omega
  ·rw [List.getElem?_eq_none (by simpa using ht)] at hn
   simp [SV.nm] at hn
 ·have h:=lk_pick h
  unfold ctAt at h
  split at h
  ·rename_i T' cs' hs
   simp only [Option.some.injEq,Prod.mk.injEq] at h
   obtain ⟨rfl,rfl⟩:=h
   have key:k<σ.base+M*l.length∧∀ n∈cs'.flatMap Cell.nm,n<σ.base+M*l.length:=by
    unfold startAt at hs
    split at hs
    ·obtain ⟨h1,h2⟩:=wf.nb k _ _ hs
     exact ⟨by omega,fun n hn=>by have:=h2 n hn;omega⟩
    ·split at hs
     ·rename_i hk hsel
      simp only [Bool.and_eq_true,beq_iff_eq] at hsel
      have hj:=hout _ hsel.1
      refine ⟨?_,fun n hn=>(R.nmLt hj).2.1 n (made_nm hs hn)⟩
      have h2:=Nat.div_add_mod (k - σ.base) M
      have:=Nat.mul_le_mul_left M hj
      rw [hsel.2] at h2
      simp only [M] at *
      omega
     ·cases hs
   refine ⟨key.1,fun n hn=>?_⟩
   rcases puts_nm hn with ⟨j,hj,h⟩ | h
   ·exact (R.nmLt (hout j hj)).2.1 n h
   ·exact key.2 n h
  ·cases h
 ·unfold dbAt at hf
  rcases List.mem_append.1 hf with h | h
  ·obtain ⟨j,-,hj,h⟩:=mem_dbFrom.1 h
   exact (R.nmLt (hout j hj)).2.2 f h n hn
  ·have:=wf.nf f h n hn
   show n<σ.base+M*l.length
   omega
theorem regionX_wf {σ':State S} (wf:Wf σ) (h:regionX P S H cons σ l=some σ'):Wf σ'∧σ.base≤σ'.base∧σ'.regs.length=σ.regs.length:=by
 unfold regionX at h
 split at h
 ·rename_i h1
  split at h
  ·rename_i rs h2
   split at h
   ·rename_i h3
    cases h
    exact ⟨(ran_of h1 h2 h3).wf wf,Nat.le_add_right _ _,by simp⟩
   ·cases h
  ·cases h
 ·cases h
theorem Says.drew {w0 W:World} {ρ:Env} {a:Act} {n:Nat} {rg:Tmp→SV} {bx:Nat→Option (TypeId×List Cell)} {fc:S.F→Prop} (h:Holds (S:=S) w0 n rg bx fc ρ a W):Holds (S:=S) w0 n rg bx fc ρ a W.drew:=
 ⟨h.sz,h.df,h.rg,h.bel.drew,fun k T cs hk=>⟨(h.bx k T cs hk).1,(h.bx k T cs hk).2⟩,h.inj,fun f hf=>S.bl (Below.refl _ _).drew (h.fc f hf)⟩
theorem regionX_ok {σ':State S} {E:World→Prop} {w0:World} (hlo:S.lo≤w0.heap.size) (hm:P.follows .mixedOrders=true) (wf:Wf σ) (hcons:∀ c∈cons,c.Ok P S E) (hE:∀ W,Below w0.heap.size w0 W→E W) (h:regionX P S H cons σ l=some σ') {ρ:Env} {a:Act} {W:World} (hs:σ.Says w0 ρ a W)
  {id:Nat} {b:Bool} {Q:Exit→Act→World→Prop} (hQ:∀ ρ' a' W',(∀ n,n<σ.base→ρ' n=ρ n)→σ'.Says w0 ρ' a' W'→Q .normal a' W'):(Code.region id l.toArray b).wp P Q a W:=by
 unfold regionX at h
 split at h
 ·rename_i h1
  split at h
  ·rename_i rs h2
   split at h
   ·rename_i h3
    cases h
    have R:=ran_of h1 h2 h3
    have h0:Holds (S:=S) w0 σ.regs.length (regAt S σ l (fun _=>false) rs) (ctAt S σ l (fun _=>false) rs) (fun f=>f∈dbAt S σ l (fun _=>false) rs) ρ a W:=by
     have hct:∀ k x,ctAt S σ l (fun _=>false) rs k=some x→lk σ.bx k=some x:=fun k x h=>by
      unfold ctAt at h
      split at h
      ·rename_i T cs hs'
       rw [puts_none (fun j _ hj=>by cases hj)] at h
       unfold startAt at hs'
       split at hs'
       ·rw [hs'];exact h
       ·simp at hs'
      ·cases h
     refine ⟨hs.sz,hs.df,fun t=>?_,hs.bel,fun k T cs h=>hs.bx k T cs (hct k _ h),fun k k' x x' h h'=>hs.inj k k' x x' (hct k x h) (hct k' x' h'),fun f hf=>?_⟩
     ·rw [hs.rg t]
      unfold regAt
      split <;> rfl
     ·unfold dbAt at hf
      rcases List.mem_append.1 hf with h | h
      ·obtain ⟨j,-,hj,-⟩:=mem_dbFrom.1 h;cases hj
      ·exact hs.fc f h
    refine region_of (J:=Jx σ l rs w0 ρ) hm R.lex (R.step wf hlo hcons hE) ⟨ρ,fun _ _=>rfl,h0⟩ ⟨ρ,fun _ _=>rfl,Says.drew h0⟩ fun dn a' W' hd hJ=>?_
    obtain ⟨ρ',hlow,hH⟩:=hJ
    refine hQ ρ' a' W' hlow ⟨by rw [hH.sz];simp,hH.df,fun t=>?_,hH.bel,fun k T cs h=>hH.bx k T cs ?_,fun k k' x x' h h'=>hH.inj k k' x x' ?_ ?_,fun f hf=>hH.fc f ?_⟩
    ·simp only [List.getD,List.getElem?_map]
     rcases Nat.lt_or_ge t σ.regs.length with ht | ht
     ·rw [hH.rg t,List.getElem?_range ht,Option.map_some,Option.getD_some,reg_upTo hd]
     ·rw [List.getElem?_eq_none (by simpa using ht)]
      have:a'.tmps.size≤t:=by rw [hH.sz];exact ht
      simp [this,SV.den]
    ·rw [← ct_upTo R.len hd];exact lk_pick h
    ·rw [← ct_upTo R.len hd];exact lk_pick h
    ·rw [← ct_upTo R.len hd];exact lk_pick h'
    ·show f∈dbAt S σ l dn rs
     rw [← db_upTo hd];exact hf
   ·cases h
  ·cases h
 ·cases h
end
inductive Ex
 | normal
 | exit (id:Nat)
 | ret
def Ex.out:Ex→Exit
 | .normal=>.normal
 | .exit id=>.exit id
 | .ret=>.ret
section
variable (P:Program) (S:Sys) (H:Tests S) (cons:List (Con S))
def loopX (f:State S→Option (Ex×State S)):Nat→State S→Option (Ex×State S)
 | 0,_=>none
 | n+1,σ=>match f σ with
  | some (.normal,σ')=>loopX f n σ'
  | r=>r
def exec (fuel:Nat):Code→State S→Option (Ex×State S)
 | .skip,σ=>some (.normal,σ)
 | .label _,σ=>some (.normal,σ)
 | .region _ ops _,σ=>match regionX P S H cons σ ops.toList with
  | some σ'=>some (.normal,σ')
  | none=>none
 | .seq x y,σ=>match exec fuel x σ with
  | some (.normal,σ')=>exec fuel y σ'
  | r=>r
 | .cond c x y,σ=>match opd (fun t=>some (σ.regs.getD t .und)) c with
  | some (.e (.s (.bl true)))=>exec fuel x σ
  | some (.e (.s (.bl false)))=>exec fuel y σ
  | _=>none
 | .block id c,σ=>match exec fuel c σ with
  | some (.exit i,σ')=>if i=id then some (.normal,σ') else some (.exit i,σ')
  | r=>r
 | .loop c,σ=>loopX S (exec fuel c) fuel σ
 | .scope c,σ=>exec fuel c σ
 | .exit id,σ=>some (.exit id,σ)
 | .ret,σ=>some (.ret,σ)
 | _,_=>none
end
section
variable {P:Program} {S:Sys} {H:Tests S} {cons:List (Con S)} {fuel:Nat}
def Good (P:Program) (S:Sys) (w0:World) (c:Code) (f:State S→Option (Ex×State S)):Prop:=
 ∀ σ x σ',f σ=some (x,σ')→Wf σ→Wf σ'∧σ.base≤σ'.base∧∀ ρ a W (Q:Exit→Act→World→Prop),σ.Says w0 ρ a W →
  (∀ ρ' a' W',(∀ n,n<σ.base→ρ' n=ρ n)→σ'.Says w0 ρ' a' W'→Q x.out a' W')→c.wp P Q a W
theorem loop_good {w0:World} {c:Code} {f:State S→Option (Ex×State S)} (h:Good P S w0 c f):∀ n σ x σ',loopX S f n σ=some (x,σ')→Wf σ→Wf σ'∧σ.base≤σ'.base∧∀ ρ a W (Q:Exit→Act→World→Prop),σ.Says w0 ρ a W →
  (∀ ρ' a' W',(∀ n,n<σ.base→ρ' n=ρ n)→σ'.Says w0 ρ' a' W'→Q x.out a' W')→Code.rounds P c Q n a W
 | 0,σ,x,σ',hx,_=>by simp [loopX] at hx
 | n+1,σ,x,σ',hx,wf=>by
  simp only [loopX] at hx
  split at hx
  ·rename_i σ1 h1
   obtain ⟨wf1,le1,go1⟩:=h σ _ _ h1 wf
   obtain ⟨wf2,le2,go2⟩:=loop_good h n σ1 x σ' hx wf1
   refine ⟨wf2,Nat.le_trans le1 le2,fun ρ a W Q hs hQ=>?_⟩
   rw [rounds_succ]
   refine go1 ρ a W _ hs fun ρ1 a1 W1 hl1 hs1=>?_
   exact go2 ρ1 a1 W1 Q hs1 fun ρ2 a2 W2 hl2 hs2=>hQ ρ2 a2 W2 (fun n hn=>(hl2 n (by omega)).trans (hl1 n hn)) hs2
  ·rename_i hr
   have hx':=hx
   obtain ⟨wf1,le1,go1⟩:=h σ x σ' hx wf
   refine ⟨wf1,le1,fun ρ a W Q hs hQ=>?_⟩
   rw [rounds_succ]
   refine go1 ρ a W _ hs fun ρ1 a1 W1 hl1 hs1=>?_
   have hne:x≠.normal:=fun e=>by subst e;exact hr σ' hx'
   have:=hQ ρ1 a1 W1 hl1 hs1
   cases x <;> first | exact absurd rfl hne | exact this
theorem exec_good {E:World→Prop} {w0:World} (hlo:S.lo≤w0.heap.size) (hm:P.follows .mixedOrders=true) (hcons:∀ c∈cons,c.Ok P S E) (hE:∀ W,Below w0.heap.size w0 W→E W):∀ c,Good P S w0 c (exec P S H cons fuel c):=by
 intro c
 induction c with
 | skip=>intro σ x σ' h wf;simp only [exec,Option.some.injEq,Prod.mk.injEq] at h;obtain ⟨rfl,rfl⟩:=h;exact ⟨wf,Nat.le_refl _,fun ρ a W Q hs hQ=>wp_skip (hQ ρ a W (fun _ _=>rfl) hs)⟩
 | label n=>intro σ x σ' h wf;simp only [exec,Option.some.injEq,Prod.mk.injEq] at h;obtain ⟨rfl,rfl⟩:=h;exact ⟨wf,Nat.le_refl _,fun ρ a W Q hs hQ=>wp_label (hQ ρ a W (fun _ _=>rfl) hs)⟩
 | exit n=>intro σ x σ' h wf;simp only [exec,Option.some.injEq,Prod.mk.injEq] at h;obtain ⟨rfl,rfl⟩:=h;exact ⟨wf,Nat.le_refl _,fun ρ a W Q hs hQ=>wp_exit (hQ ρ a W (fun _ _=>rfl) hs)⟩
 | ret=>intro σ x σ' h wf;simp only [exec,Option.some.injEq,Prod.mk.injEq] at h;obtain ⟨rfl,rfl⟩:=h;exact ⟨wf,Nat.le_refl _,fun ρ a W Q hs hQ=>wp_ret (hQ ρ a W (fun _ _=>rfl) hs)⟩
 | region id ops d =>
  intro σ x σ' h wf
  simp only [exec] at h
  split at h
  ·rename_i σ1 h1
   simp only [Option.some.injEq,Prod.mk.injEq] at h
   obtain ⟨rfl,rfl⟩:=h
   obtain ⟨wf1,le1,-⟩:=regionX_wf wf h1
   refine ⟨wf1,le1,fun ρ a W Q hs hQ=>?_⟩
   have:=regionX_ok hlo hm wf hcons hE h1 hs (id:=id) (b:=d) (Q:=Q) hQ
   rwa [Array.toArray_toList] at this
  ·cases h
 | seq c1 c2 ih1 ih2 =>
  intro σ x σ' h wf
  simp only [exec] at h
  split at h
  ·rename_i σ1 h1
   obtain ⟨wf1,le1,go1⟩:=ih1 σ _ _ h1 wf
   obtain ⟨wf2,le2,go2⟩:=ih2 σ1 _ _ h wf1
   refine ⟨wf2,Nat.le_trans le1 le2,fun ρ a W Q hs hQ=>wp_seq ?_⟩
   exact go1 ρ a W _ hs fun ρ1 a1 W1 hl1 hs1=>go2 ρ1 a1 W1 Q hs1 fun ρ2 a2 W2 hl2 hs2=>hQ ρ2 a2 W2 (fun n hn=>(hl2 n (by omega)).trans (hl1 n hn)) hs2
  ·rename_i hr
   have h':=h
   obtain ⟨wf1,le1,go1⟩:=ih1 σ x σ' h wf
   refine ⟨wf1,le1,fun ρ a W Q hs hQ=>wp_seq ?_⟩
   refine go1 ρ a W _ hs fun ρ1 a1 W1 hl1 hs1=>?_
   have hne:x≠.normal:=fun e=>by subst e;exact hr σ' h'
   have:=hQ ρ1 a1 W1 hl1 hs1
   cases x <;> first | exact absurd rfl hne | exact this
 | cond c x1 x2 ih1 ih2 =>
  intro σ x σ' h wf
  simp only [exec] at h
  have key:∀ ρ a W v,σ.Says w0 ρ a W→opd (fun t=>some (σ.regs.getD t .und)) c=some v→a.eval c=v.den ρ:=fun ρ a W v hs hv=>opd_ok hv fun t v h=>by
   simp only [Option.some.injEq] at h;subst h;exact hs.rg t
  split at h
  ·rename_i hv
   obtain ⟨wf1,le1,go1⟩:=ih1 σ x σ' h wf
   exact ⟨wf1,le1,fun ρ a W Q hs hQ=>wp_cond_true (key ρ a W _ hs hv) (go1 ρ a W Q hs hQ)⟩
  ·rename_i hv
   obtain ⟨wf1,le1,go1⟩:=ih2 σ x σ' h wf
   exact ⟨wf1,le1,fun ρ a W Q hs hQ=>wp_cond_false (key ρ a W _ hs hv) (go1 ρ a W Q hs hQ)⟩
  ·cases h
 | block id c ih =>
  intro σ x σ' h wf
  simp only [exec] at h
  split at h
  ·rename_i i σ1 h1
   obtain ⟨wf1,le1,go1⟩:=ih σ _ _ h1 wf
   split at h
   ·rename_i e
    simp only [Option.some.injEq,Prod.mk.injEq] at h
    obtain ⟨rfl,rfl⟩:=h
    refine ⟨wf1,le1,fun ρ a W Q hs hQ=>wp_block (go1 ρ a W _ hs fun ρ1 a1 W1 hl1 hs1=>?_)⟩
    simp only [Ex.out,Exit.inBlock,e,if_true]
    exact hQ ρ1 a1 W1 hl1 hs1
   ·rename_i e
    simp only [Option.some.injEq,Prod.mk.injEq] at h
    obtain ⟨rfl,rfl⟩:=h
    refine ⟨wf1,le1,fun ρ a W Q hs hQ=>wp_block (go1 ρ a W _ hs fun ρ1 a1 W1 hl1 hs1=>?_)⟩
    simp only [Ex.out,Exit.inBlock,e,if_false]
    exact hQ ρ1 a1 W1 hl1 hs1
  ·rename_i hr
   have h':=h
   obtain ⟨wf1,le1,go1⟩:=ih σ x σ' h wf
   refine ⟨wf1,le1,fun ρ a W Q hs hQ=>wp_block (go1 ρ a W _ hs fun ρ1 a1 W1 hl1 hs1=>?_)⟩
   have:=hQ ρ1 a1 W1 hl1 hs1
   cases x <;> first | exact absurd h' (hr _ σ') | exact this
 | loop c ih =>
  intro σ x σ' h wf
  simp only [exec] at h
  obtain ⟨wf1,le1,go1⟩:=loop_good ih fuel σ x σ' h wf
  exact ⟨wf1,le1,fun ρ a W Q hs hQ=>wp_loop_rounds fuel (go1 ρ a W Q hs hQ)⟩
 | scope c ih =>
  intro σ x σ' h wf
  simp only [exec] at h
  obtain ⟨wf1,le1,go1⟩:=ih σ x σ' h wf
  refine ⟨wf1,le1,fun ρ a W Q hs hQ=>wp_scope_straight (go1 ρ a W _ hs fun ρ1 a1 W1 hl1 hs1=>?_)⟩
  have:=hQ ρ1 a1 W1 hl1 hs1
  cases x <;> exact this
 | rangeFunc=>intro σ x σ' h wf;simp [exec] at h
 | goto=>intro σ x σ' h wf;simp [exec] at h
 | refuse=>intro σ x σ' h wf;simp [exec] at h
end
end Rx
namespace Rx
open Go.RowKit
section
variable (P:Program) (S:Sys) (H:Tests S) (cons:List (Con S))
def resX (σ:State S):ResultVar→Option El
 | .tmp t=>match σ.regs.getD t .und with
  | .e x=>some x
  | _=>none
 | .cell t ty=>match σ.regs.getD t .und with
  | .e (.s (.ptr k off))=>match lk σ.bx k,isAggB P ty,sizeB P ty with
   | some (_,cs),some true,some n=>if off+n≤cs.length then some (.a ((cs.drop off).take n)) else none
   | some (_,cs),some false,_=>match cs[off]? with
    | some c=>some (.s c)
    | none=>none
   | _,_,_=>none
  | _=>none
def resL (σ:State S):List ResultVar→Option (List El)
 | []=>some []
 | r :: rs=>match resX P S σ r,resL σ rs with
  | some x,some l=>some (x :: l)
  | _,_=>none
def packR:List El→SV
 | [x]=>.e x
 | l=>.t l
def okIn (args:List SV) (fs:List S.F) (b:Nat):Bool:=args.all (fun v=>v.nm.all (· < b)) && fs.all fun f=>(S.nm f).all (· < b)
def runF (fuel:Nat) (f:FuncId) (args:List SV) (fs:List S.F) (b:Nat):Option (SV×List S.F):=
 match P.funcs[f]? with
 | some fn=>match fn.body with
  | some c=>if okIn S args fs b then
   match exec P S H cons fuel c ⟨args ++ List.replicate (fn.ntmps - args.length) .und,[],fs,b⟩ with
   | some (.exit _,_)=>none
   | some (_,σ)=>match resL P S σ fn.results.toList with
    | some l=>some (packR l,σ.fs)
    | none=>none
   | none=>none
   else none
  | none=>none
 | none=>none
def runB (fuel:Nat) (f:FuncId) (args:List SV) (fs:List S.F) (b:Nat):Option (SV×List S.F×List (Nat×TypeId×List Cell)):=
 match P.funcs[f]? with
 | some fn=>match fn.body with
  | some c=>if okIn S args fs b then
   match exec P S H cons fuel c ⟨args ++ List.replicate (fn.ntmps - args.length) .und,[],fs,b⟩ with
   | some (.exit _,_)=>none
   | some (_,σ)=>match resL P S σ fn.results.toList with
    | some l=>some (packR l,σ.fs,σ.bx)
    | none=>none
   | none=>none
   else none
  | none=>none
 | none=>none
end
section
variable {P:Program} {S:Sys} {H:Tests S} {cons:List (Con S)}
def resF (tmps:Array Value):ResultVar→Sem Value
 | .tmp t=>pure (tmps.getD t undef)
 | .cell t ty=>do loadVar ty (← asAddr (tmps.getD t undef))
theorem results_eq (fn:Func) (tmps:Array Value):results fn tmps=(do
  let vs ← fn.results.mapM (resF tmps)
  pure (if h:vs.size=1 then vs[0] else .tuple vs)):=by
 unfold results
 congr 1
theorem resX_ok {σ:State S} {r:ResultVar} {x:El} (h:resX P S σ r=some x) {w0 W:World} {ρ:Env} {a:Act} (hs:σ.Says w0 ρ a W) :
  (resF a.tmps r).run P W=.ok (x.den ρ) W:=by
 cases r with
 | tmp t =>
  simp only [resX] at h
  split at h
  ·rename_i y hy
   cases h
   simp only [resF]
   rw [hs.rg t,hy]
   rfl
  ·cases h
 | cell t ty =>
  simp only [resX] at h
  split at h
  ·rename_i k off hy
   simp only [resF]
   rw [hs.rg t,hy]
   have hl:∀ v,(Instr.loadAt ty (.pointer (some ⟨(ρ k).pos,off,none⟩))).run P W=.ok v W→(do loadVar ty (← asAddr (SV.den ρ (.e (.s (.ptr k off)))) ):Sem Value).run P W=.ok v W:=fun v hv=>hv
   split at h
   ·rename_i T cs n hk hag hsz
    split at h
    ·rename_i hle
     cases h
     rw [hl _ (run_load_agg hag hsz (hs.bx k T cs hk).2 (by simpa using hle))]
     simp [El.den,List.map_drop,List.map_take]
    ·cases h
   ·rename_i T cs hk hag
    split at h
    ·rename_i c hc
     cases h
     have hv':(cs.map (Cell.den ρ))[off]? = some (c.den ρ):=by simp [hc]
     rw [hl _ (run_load_one hag (hs.bx k T cs hk).2 hv')]
     rfl
    ·cases h
   ·cases h
  ·cases h
theorem resL_ok {σ:State S} {w0 W:World} {ρ:Env} {a:Act} (hs:σ.Says w0 ρ a W):∀ {rs:List ResultVar} {l:List El},resL P S σ rs=some l →
  (rs.mapM (resF a.tmps)).run P W=.ok (l.map (El.den ρ)) W
 | [],l,h=>by simp only [resL,Option.some.injEq] at h;subst h;rfl
 | r :: rs,l,h=>by
  simp only [resL] at h
  split at h
  ·rename_i x l' h1 h2
   cases h
   have h3:=resX_ok h1 hs
   have h4:=resL_ok hs h2
   rw [List.mapM_cons]
   simp only [Sem.run_bind]
   rw [h3]
   simp only [Result.andThen]
   rw [h4]
   rfl
  ·cases h
theorem results_ok {σ:State S} {w0 W:World} {ρ:Env} {a:Act} {fn:Func} {l:List El} (hs:σ.Says w0 ρ a W) (h:resL P S σ fn.results.toList=some l):(results fn a.tmps).run P W=.ok ((packR l).den ρ) W:=by
 rw [results_eq,Array.mapM_eq_mapM_toList]
 simp only [Sem.run_bind,map_eq_pure_bind]
 have:=resL_ok hs h
 rw [this]
 simp only [Result.andThen]
 cases l with
 | nil=>rfl
 | cons x r =>
  cases r with
  | nil=>rfl
  | cons y r=>rfl
theorem runB_ok {E:World→Prop} (hm:P.follows .mixedOrders=true) (hcons:∀ c∈cons,c.Ok P S E) {fuel:Nat} {f:FuncId} {args:List SV} {fs:List S.F} {b:Nat} {v:SV} {fs':List S.F} {bx:List (Nat×TypeId×List Cell)} (h:runB P S H cons fuel f args fs b=some (v,fs',bx))
  {ρ:Env} {w:World} (hE:∀ W,Below w.heap.size w W→E W) (hf:∀ f∈fs,S.on ρ f w) (hlo:S.lo≤w.heap.size:=by exact Nat.zero_le _) :
  Calls P f (args.map (SV.den ρ)).toArray w fun e W'=>∃ ρ':Env,(∀ n,n<b→ρ' n=ρ n)∧e=.returned (v.den ρ')∧Below w.heap.size w W'∧(∀ f∈fs',S.on ρ' f W')∧∀ k T cs,lk bx k=some (T,cs)→w.heap.size≤(ρ' k).pos∧Go.Proofs.YtmijlcldmefggaaGreatDoor.Rx.Bx W' (ρ' k).pos T (cs.map (Cell.den ρ')):=by
 unfold runB at h
 split at h
 ·rename_i fn hfn
  split at h
  ·rename_i c hc
   split at h
   ·rename_i hok
    have hwf:Wf (S:=S) ⟨args ++ List.replicate (fn.ntmps - args.length) .und,[],fs,b⟩:=by
     unfold okIn at hok
     simp only [Bool.and_eq_true,List.all_eq_true,decide_eq_true_eq] at hok
     refine ⟨fun t n hn=>?_,fun k T cs h=>by simp [lk] at h,fun f hf n hn=>hok.2 f hf n hn⟩
     simp only [List.getD] at hn
     rcases Nat.lt_or_ge t args.length with ht | ht
     ·rw [List.getElem?_append_left ht,List.getElem?_eq_getElem ht,Option.getD_some] at hn
      exact hok.1 _ (List.getElem_mem ht) n hn
     ·rw [List.getElem?_append_right ht] at hn
      cases hg:(List.replicate (fn.ntmps - args.length) SV.und)[t - args.length]? with
      | none=>rw [hg] at hn;simp [SV.nm] at hn
      | some x =>
       rw [hg,Option.getD_some] at hn
       have:=List.eq_of_mem_replicate (List.mem_of_getElem? hg)
       subst this
       simp [SV.nm] at hn
    have hsays:State.Says (S:=S) ⟨args ++ List.replicate (fn.ntmps - args.length) .und,[],fs,b⟩ w ρ { tmps:=(args.map (SV.den ρ)).toArray ++ Array.replicate (fn.ntmps - (args.map (SV.den ρ)).toArray.size) undef,defers:=[] } w:=by
     refine ⟨by simp,rfl,fun t=>?_,Below.refl _ _,fun k T cs h=>by simp [lk] at h,fun k k' x x' h=>by simp [lk] at h,hf⟩
     simp only [List.getD,Array.getD_eq_getD_getElem?,Array.getElem?_append,List.getElem?_toArray,List.getElem?_append,List.getElem?_map,List.size_toArray,List.length_map,Array.getElem?_replicate,List.getElem?_replicate]
     split
     ·rename_i ht
      simp [List.getElem?_eq_getElem ht]
     ·split <;> rfl
    have hfin:∀ x σ l,exec P S H cons fuel c ⟨args ++ List.replicate (fn.ntmps - args.length) .und,[],fs,b⟩=some (x,σ)→(x=.normal∨x=.ret)→resL P S σ fn.results.toList=some l→packR l=v→σ.fs=fs'→σ.bx=bx →
      Calls P f (args.map (SV.den ρ)).toArray w fun e W'=>∃ ρ':Env,(∀ n,n<b→ρ' n=ρ n)∧e=.returned (v.den ρ')∧Below w.heap.size w W'∧(∀ f∈fs',S.on ρ' f W')∧∀ k T cs,lk bx k=some (T,cs)→w.heap.size≤(ρ' k).pos∧Go.Proofs.YtmijlcldmefggaaGreatDoor.Rx.Bx W' (ρ' k).pos T (cs.map (Cell.den ρ')):=fun x σ l hx hxn hres hpk hfs hbx=>by
     obtain ⟨-,-,go⟩:=exec_good hlo hm hcons hE c _ _ _ hx hwf
     refine calls_of_wp hfn hc (go ρ _ w _ hsays fun ρ' a' W' hl hs=>?_)
     have hr:=results_ok hs hres
     rw [hpk] at hr
     have hpost:bodyPost P fn (fun e W'=>∃ ρ':Env,(∀ n,n<b→ρ' n=ρ n)∧e=.returned (v.den ρ')∧Below w.heap.size w W'∧(∀ f∈fs',S.on ρ' f W')∧∀ k T cs,lk bx k=some (T,cs)→w.heap.size≤(ρ' k).pos∧Go.Proofs.YtmijlcldmefggaaGreatDoor.Rx.Bx W' (ρ' k).pos T (cs.map (Cell.den ρ'))) .ret a' W':=
      bodyPost_ret hr hs.df ⟨ρ',hl,rfl,hs.bel,by rw [← hfs];exact hs.fc,by rw [← hbx];exact hs.bx⟩
     rcases hxn with rfl | rfl
     ·exact hpost
     ·exact hpost
    split at h
    ·cases h
    ·rename_i x σ hne hx
     split at h
     ·rename_i l hl
      simp only [Option.some.injEq,Prod.mk.injEq] at h
      obtain ⟨h1,h2,h3⟩:=h
      refine hfin x σ l hx ?_ hl h1 h2 h3
      cases x with
      | normal=>exact .inl rfl
      | ret=>exact .inr rfl
      | exit i=>exact absurd rfl (hne i)
     ·cases h
    ·cases h
   ·cases h
  ·cases h
 ·cases h
theorem runF_runB {fuel:Nat} {f:FuncId} {args:List SV} {fs:List S.F} {b:Nat} {v:SV} {fs':List S.F} (h:runF P S H cons fuel f args fs b=some (v,fs')):∃ bx,runB P S H cons fuel f args fs b=some (v,fs',bx):=by
 unfold runF at h
 unfold runB
 split at h
 ·split at h
  ·split at h
   ·rename_i hok
    rw [if_pos hok]
    split at h
    ·cases h
    ·rename_i x σ hne hx
     split at h
     ·rename_i l hl
      cases h
      exact ⟨_,rfl⟩
     ·cases h
    ·cases h
   ·cases h
  ·cases h
 ·cases h
theorem runF_ok {E:World→Prop} (hm:P.follows .mixedOrders=true) (hcons:∀ c∈cons,c.Ok P S E) {fuel:Nat} {f:FuncId} {args:List SV} {fs:List S.F} {b:Nat} {v:SV} {fs':List S.F} (h:runF P S H cons fuel f args fs b=some (v,fs'))
  {ρ:Env} {w:World} (hE:∀ W,Below w.heap.size w W→E W) (hf:∀ f∈fs,S.on ρ f w) (hlo:S.lo≤w.heap.size:=by exact Nat.zero_le _) :
  Calls P f (args.map (SV.den ρ)).toArray w fun e W'=>∃ ρ':Env,(∀ n,n<b→ρ' n=ρ n)∧e=.returned (v.den ρ')∧Below w.heap.size w W'∧∀ f∈fs',S.on ρ' f W':=by
 obtain ⟨bx,h'⟩:=runF_runB h
 exact (runB_ok hm hcons h' hE hf hlo).mono fun e W' ⟨ρ',h1,h2,h3,h4,_⟩=>⟨ρ',h1,h2,h3,h4⟩
end
end Rx
namespace Rx
open Go.RowKit
theorem mixed:(Tryz.prog).follows .mixedOrders=true:=by kernel_rfl
def numC (s:Nat):List Cell:=[.ob s,.ou s,.os s,.ou (s+1),.os (s+1)]
def okC:List Cell→Bool
 | []=>true
 | .it .i64 _ :: _ | .oi _ :: _=>false
 | [_]=>true
 | a :: b :: r=>!((match a with | .it .u64 _ | .ou _=>true | _=>false) && (match b with | .it .u64 _ | .ou _=>true | _=>false)) && okC (b :: r)
theorem isI_den {ρ:Env} {c:Cell} (h:isI (c.den ρ)=true):(∃ n,c=.it .i64 n)∨∃ n,c=.oi n:=by
 cases c <;> simp [Cell.den,isI] at h ⊢
 rename_i k n
 cases k <;> simp at h ⊢
theorem isU_den {ρ:Env} {c:Cell}:isU (c.den ρ)=(match c with | .it .u64 _ | .ou _=>true | _=>false):=by
 cases c <;> simp [Cell.den,isU]
 rename_i k n
 cases k <;> rfl
theorem okC_okVs (ρ:Env):∀ {l:List Cell},okC l=true→okVs (l.map (Cell.den ρ))=true
 | [],_=>rfl
 | [c],h=>by
  simp only [List.map_cons,List.map_nil,okVs]
  cases hi:isI (c.den ρ) with
  | false=>rfl
  | true =>
   rcases isI_den hi with ⟨n,rfl⟩ | ⟨n,rfl⟩ <;> simp [okC] at h
 | c :: d :: r,h=>by
  have hi:isI (c.den ρ)=false:=by
   cases hi:isI (c.den ρ) with
   | false=>rfl
   | true=>rcases isI_den hi with ⟨n,rfl⟩ | ⟨n,rfl⟩ <;> simp [okC] at h
  have h2:(!(isU (c.den ρ) && isU (d.den ρ)) && okC (d :: r))=true:=by
   rw [isU_den,isU_den]
   unfold okC at h
   split at h <;> first | (cases h;done) | skip
   all_goals first | (simp_all;done) | (rename_i he;cases he;exact h)
  simp only [Bool.and_eq_true] at h2
  have ih:=okC_okVs ρ h2.2
  simp only [List.map_cons] at ih ⊢
  simp only [okVs,hi,ih,h2.1]
  rfl
def setL (ρ:Env) (b:Nat) (L:List Nv):Env:=fun n=>if b≤n then L[n - b]?.getD (ρ n) else ρ n
theorem setL_out {ρ:Env} {b:Nat} {L:List Nv} (hL:L.length≤M):∀ n,n<b∨b+M≤n→setL ρ b L n=ρ n:=fun n hn=>by
 unfold setL
 split
 ·rw [List.getElem?_eq_none (by simp only [M] at *;omega)];rfl
 ·rfl
end Rx
section
open Go.RowKit Go.Sort
def sgn (b:Bool) (n:Nat):Int:=if b then -1 else if n=0 then 0 else 1
theorem sign_calls (b:Bool) (c d:Value) (n:Nat) (w:World) (h:IsMag w c d n):Calls Tryz.prog 44 #[.agg #[.bool b,c,d]] w (RetI w (.int .i64 (sgn b n))):=by
 obtain ⟨x,p,l,k,rfl,rfl⟩:=h.shape
 have hb:=(Below.refl w.heap.size w).alloc (Nat.le_refl _) (.cells #[.bool b,.int .u64 x,.slice p l k] 30)
 have hz:=hid (isZero_calls _ _ n _ (h.below hb))
 have HB:=hid hb
 clear hb h
 cases b
 ·go_enter Tryz.func44,Tryz.ntmps44
  go_wp2_with fail
  refine hz.out.mono ?_
  rintro e w1 ⟨rfl,hB1⟩
  have HB1:=hid (HB.out.trans (hB1.mono HB.out.size))
  clear hz hB1
  by_cases h0:n=0
  ·have t:(n == 0)=true:=by rw [beq_iff_eq];exact h0
   clear h0
   have hs:Hid (sgn false n=0):=by show _=_;unfold sgn;rw [beq_iff_eq] at t;simp [t]
   go_wp2_with fail
   go_ret
   exact ⟨by rw [hs.out];rfl,HB1.out⟩
  ·have t:(n == 0)=false:=by rw [beq_eq_false_iff_ne];exact h0
   have hs:Hid (sgn false n=1):=by show _=_;unfold sgn;simp [h0]
   clear h0
   go_wp2_with fail
   go_ret
   exact ⟨by rw [hs.out];rfl,HB1.out⟩
 ·go_enter Tryz.func44,Tryz.ntmps44
  go_wp2_with fail
  go_ret
  exact ⟨rfl,HB.out⟩
theorem isWhole_calls (v0 c d e f:Value) (m:Nat) (w:World) (h:IsMag w e f m):Calls Tryz.prog 53 #[.agg #[v0,c,d,e,f]] w (RetI w (.bool (m == 0))):=by
 obtain ⟨x,p,l,k,rfl,rfl⟩:=h.shape
 have hb:=(Below.refl w.heap.size w).alloc (Nat.le_refl _) (.cells #[v0,c,d,.int .u64 x,.slice p l k] 32)
 have hz:=hid (isZero_calls _ _ m _ (h.below hb))
 have HB:=hid hb
 clear hb h
 go_enter Tryz.func53,Tryz.ntmps53
 go_wp2_with fail
 refine hz.out.mono ?_
 rintro e w1 ⟨rfl,hB1⟩
 go_wp2_with fail
 go_ret
 exact ⟨rfl,HB.out.trans (hB1.mono HB.out.size)⟩
theorem Sign_calls (b:Bool) (c d e f:Value) (n:Nat) (w:World) (h:IsMag w c d n):Calls Tryz.prog 7 #[.agg #[.bool b,c,d,e,f]] w (RetI w (.int .i64 (sgn b n))):=by
 obtain ⟨x,p,l,k,rfl,rfl⟩:=h.shape
 have hb:=(Below.refl w.heap.size w).alloc (Nat.le_refl _) (.cells #[.bool b,.int .u64 x,.slice p l k,e,f] 32)
 have hz:=hid (sign_calls b _ _ n _ (h.below hb))
 have HB:=hid hb
 clear hb h
 go_enter Tryz.func7,Tryz.ntmps7
 go_wp2_with fail
 refine hz.out.mono ?_
 rintro e w1 ⟨rfl,hB1⟩
 go_wp2_with fail
 go_ret
 exact ⟨rfl,HB.out.trans (hB1.mono HB.out.size)⟩
def undN (m:Nat):Nat:=if m=0 then 1 else m
theorem under_calls (v0 c d e f:Value) (m:Nat) (w:World) (h:IsMag w e f m):Calls Tryz.prog 55 #[.agg #[v0,c,d,e,f]] w (RetM w (undN m)):=by
 obtain ⟨x,p,l,k,rfl,rfl⟩:=h.shape
 have hb:=((Below.refl w.heap.size w).alloc (Nat.le_refl _) (.cells #[v0,c,d,.int .u64 x,.slice p l k] 32)).alloc (by simp) (.cells #[.int .u64 0,.slice none 0 0] 28)
 have hz:=hid (isWhole_calls v0 c d _ _ m _ (h.below hb))
 have hs:Slot ((w.alloc (.cells #[v0,c,d,.int .u64 x,.slice p l k] 32)).alloc (.cells #[.int .u64 0,.slice none 0 0] 28)) (w.heap.size+1):=by
  refine ⟨⟨.int .u64 0,?_⟩,⟨none,0,0,?_⟩,?_,?_⟩ <;> go_simp
 have hc:C5 ((w.alloc (.cells #[v0,c,d,.int .u64 x,.slice p l k] 32)).alloc (.cells #[.int .u64 0,.slice none 0 0] 28)) w.heap.size v0 c d (.int .u64 x) (.slice p l k):=by
  refine ⟨?_,?_,?_,?_,?_⟩ <;> go_simp
 have hsz:((w.alloc (.cells #[v0,c,d,.int .u64 x,.slice p l k] 32)).alloc (.cells #[.int .u64 0,.slice none 0 0] 28)).heap.size=w.heap.size+1+1:=by simp
 have HH:=hid (And.intro hb (And.intro (h.below hb) (And.intro hs (And.intro hc hsz))))
 clear hb h hs hc hsz
 go_enter Tryz.func55,Tryz.ntmps55
 go_wp2_with fail
 obtain ⟨W0,hW0⟩:∃ W0,(w.alloc (.cells #[v0,c,d,.int .u64 x,.slice p l k] 32)).alloc (.cells #[.int .u64 0,.slice none 0 0] 28)=W0:=⟨_,rfl⟩
 rw [hW0] at hz HH ⊢
 clear hW0
 refine hz.out.mono ?_
 rintro e w1 ⟨rfl,hB1⟩
 obtain ⟨hb,hm,hs,hc,hsz⟩:=HH.out
 have hb1:=hb.trans (hB1.mono hb.size)
 have hm1:=hm.below hB1
 have hs1:=hs.below hB1 (by omega)
 obtain ⟨a0,a1,a2,a3,a4⟩:=hc.below hB1 (by omega)
 obtain ⟨⟨y1,f1⟩,⟨u1,u2,u3,f2⟩,f3,f4⟩:=id hs1
 clear hz HH hb hm hs hc hB1 hsz
 have HB1:=hid (And.intro hb1 (And.intro hm1 hs1))
 clear hb1 hm1 hs1
 by_cases h0:m=0
 ·have t:(m == 0)=true:=by rw [beq_iff_eq];exact h0
  have hs:Hid (undN m=1):=by show _=_;unfold undN;rw [if_pos h0]
  clear h0
  obtain ⟨z1,z2⟩:=HB1.out.2.2.read (.int .u64 1) (.slice none 0 0)
  go_wp2_with fail
  refine bodyPost_ret (v:=.agg #[.int .u64 1,.slice none 0 0]) (by simp [results,Tryz.results55,go_sem,z1,z2]) rfl ?_
  rw [hs.out]
  exact ⟨_,_,rfl,.inl ⟨by decide,rfl,rfl⟩,(HB1.out.1.setCell (by simp) _).setCell (by simp) _⟩
 ·have t:(m == 0)=false:=by rw [beq_eq_false_iff_ne];exact h0
  have hs:Hid (undN m=m):=by show _=_;unfold undN;rw [if_neg h0]
  clear h0
  obtain ⟨z1,z2⟩:=HB1.out.2.2.read (.int .u64 x) (.slice p l k)
  go_wp2_with fail
  refine bodyPost_ret (v:=.agg #[.int .u64 x,.slice p l k]) (by simp [results,Tryz.results55,go_sem,z1,z2]) rfl ?_
  rw [hs.out]
  exact ⟨_,_,rfl,HB1.out.2.2.mag HB1.out.2.1,(HB1.out.1.setCell (by simp) _).setCell (by simp) _⟩
theorem whole_calls (b:Bool) (x:Int) (p:Option Addr) (l k:Nat) (w:World):Calls Tryz.prog 52 #[.agg #[.bool b,.int .u64 x,.slice p l k]] w fun e w'=>e=.returned (.agg #[.bool b,.int .u64 x,.slice p l k,.int .u64 0,.slice none 0 0])∧Below w.heap.size w w':=by
 go_enter Tryz.func52,Tryz.ntmps52
 go_wp2_with fail
 refine bodyPost_ret (v:=.agg #[.bool b,.int .u64 x,.slice p l k,.int .u64 0,.slice none 0 0]) (by simp [results,Tryz.results52,go_sem]) rfl ⟨rfl,?_⟩
 exact ((Below.refl _ _).alloc (Nat.le_refl _) _).alloc (by simp) _
theorem integer_pos (n:Nat) (hn:n<9223372036854775808) (w:World):Calls Tryz.prog 42 #[.int .i64 (n:Int)] w fun e w'=>e=.returned (.agg #[.bool false,.int .u64 (n:Int),.slice none 0 0])∧Below w.heap.size w w':=by
 have h0:0≤(n:Int):=by omega
 have t:decide ((n:Int)<0)=false:=by simp
 have hw:IntKind.u64.wrap (n:Int)=(n:Int):=by rw [wrap_nat,Nat.mod_eq_of_lt (by unfold B64;omega)]
 clear hn
 go_enter Tryz.func42,Tryz.ntmps42
 go_wp2_with fail
 refine bodyPost_ret (v:=.agg #[.bool false,.int .u64 (n:Int),.slice none 0 0]) (by simp [results,Tryz.results42,go_sem]) rfl ⟨rfl,?_⟩
 exact (Below.refl _ _).alloc (Nat.le_refl _) _
end
section
def zs (b:Bool) (n:Nat):Int:=if b then -(n:Int) else n
theorem zs_natAbs (b:Bool) (n:Nat):(zs b n).natAbs=n:=by cases b <;> simp [zs]
theorem zs_of (z:Int):zs (decide (z<0)) z.natAbs=z:=by
 unfold zs
 by_cases h:z<0
 ·simp [h];omega
 ·simp [h];omega
theorem zs_zero (b:Bool):zs b 0=0:=by cases b <;> rfl
theorem zs_neg {b:Bool} {n:Nat} (h:n≠0):decide (zs b n<0)=b:=by cases b <;> simp [zs] <;> omega
theorem zs_mul (b c:Bool) (n m:Nat):zs b n*zs c m=zs (b != c) (n*m):=by
 cases b <;> cases c <;> simp [zs,Int.neg_mul,Int.mul_neg]
theorem zs_mul_nat (b:Bool) (n m:Nat):zs b (n*m)=zs b n*m:=by cases b <;> simp [zs,Int.neg_mul]
theorem mk_low {z:Int} {m:Nat} (hm:m≠0) (hc:Nat.Coprime z.natAbs m):(mkRat z m).num=z∧(mkRat z m).den=m:=by
 have:=Rat.mkRat_self ⟨z,m,hm,hc⟩
 simp only at this
 rw [this]
 exact ⟨rfl,rfl⟩
theorem gcd_parts (n m:Nat) (hm:m≠0):Nat.gcd n m≠0∧Nat.Coprime (n / Nat.gcd n m) (m / Nat.gcd n m)∧m / Nat.gcd n m≠0:=by
 have h0:0<Nat.gcd n m:=Nat.gcd_pos_of_pos_right _ (by omega)
 refine ⟨by omega,Nat.coprime_div_gcd_div_gcd h0,?_⟩
 have:=Nat.div_pos (Nat.gcd_le_right n (by omega:0<m)) h0
 omega
end
section
open Go.RowKit Go.Sort
theorem integer_neg (m X:Nat) (hm:1≤m) (hX:m+X=B64) (w:World) (hm2:m≤9223372036854775808):Calls Tryz.prog 42 #[.int .i64 (-(m:Int))] w fun e w'=>e=.returned (.agg #[.bool true,.int .u64 (m:Int),.slice none 0 0])∧Below w.heap.size w w':=by
 have t:0<m:=hm
 have hw:IntKind.u64.wrap (-(m:Int))=(X:Int):=by rw [IntKind.wrap_u64];unfold B64 at hX;omega
 have hw2:IntKind.u64.wrap (-(X:Int))=(m:Int):=by rw [IntKind.wrap_u64];unfold B64 at hX;omega
 clear hm hX hm2
 go_enter Tryz.func42,Tryz.ntmps42
 go_wp2_with fail
 refine bodyPost_ret (v:=.agg #[.bool true,.int .u64 (m:Int),.slice none 0 0]) (by simp [results,Tryz.results42,go_sem]) rfl ⟨rfl,?_⟩
 exact (Below.refl _ _).alloc (Nat.le_refl _) _
theorem integer_calls (n:Int) (h1:-9223372036854775808≤n) (h2:n<9223372036854775808) (w:World):Calls Tryz.prog 42 #[.int .i64 n] w fun e w'=>e=.returned (.agg #[.bool (decide (n<0)),.int .u64 (n.natAbs:Int),.slice none 0 0])∧Below w.heap.size w w':=by
 by_cases h:n<0
 ·obtain ⟨m,rfl⟩:∃ m:Nat,n = -(m:Int):=⟨n.natAbs,by omega⟩
  have:=integer_neg m (B64 - m) (by omega) (by unfold B64;omega) w (by omega)
  rw [show decide (-(m:Int)<0)=true by simp;omega,show (-(m:Int)).natAbs=m by omega]
  exact this
 ·obtain ⟨m,rfl⟩:∃ m:Nat,n=(m:Int):=⟨n.toNat,by omega⟩
  have:=integer_pos m (by omega) w
  rw [show decide ((m:Int)<0)=false by simp,show ((m:Int)).natAbs=m by omega]
  exact this
theorem isMag_u64 (w:World) {n:Nat} (h:n<B64):IsMag w (.int .u64 (n:Int)) (.slice none 0 0) n:=.inl ⟨h,rfl,rfl⟩
theorem isMag_nil (w:World):IsMag w (.int .u64 0) (.slice none 0 0) 0:=.inl ⟨B64_pos,rfl,rfl⟩
theorem isQ_int {w:World} {c d:Value} (z:Int) (h:IsMag w c d z.natAbs):IsQ w (.agg #[.bool (decide (z<0)),c,d,.int .u64 0,.slice none 0 0]) (z:Rat):=
 ⟨c,d,_,_,by rw [Rat.num_intCast],by rw [Rat.num_intCast];exact h,by unfold denOf;rw [Rat.den_intCast,if_pos rfl];exact isMag_nil w⟩
theorem isQ_low {w:World} {b:Bool} {c d e f:Value} {n m:Nat} (h0:n≠0) (hc:Nat.Coprime n m) (h1:IsMag w c d n) (hm:m≠0) (h2:IsMag w e f (if m=1 then 0 else m)):IsQ w (.agg #[.bool b,c,d,e,f]) (mkRat (zs b n) m):=by
 obtain ⟨k1,k2⟩:=mk_low (z:=zs b n) hm (by rw [zs_natAbs];exact hc)
 refine ⟨c,d,e,f,by rw [k1,zs_neg h0],by rw [k1,zs_natAbs];exact h1,?_⟩
 unfold denOf
 rw [k2]
 exact h2
theorem isQ_zero (w:World):IsQ w (.agg #[.bool false,.int .u64 0,.slice none 0 0,.int .u64 0,.slice none 0 0]) 0:=
 isQ_int 0 (isMag_nil w)
theorem Int_calls (n:Int) (h1:-9223372036854775808≤n) (h2:n<9223372036854775808) (w:World):Calls Tryz.prog 13 #[.int .i64 n] w (RetQ w (n:Rat)):=by
 have hb:=(Below.refl w.heap.size w).alloc (Nat.le_refl _) (.cells #[.bool false,.int .u64 0,.slice none 0 0,.int .u64 0,.slice none 0 0] 32)
 have hs:QSlot (w.alloc (.cells #[.bool false,.int .u64 0,.slice none 0 0,.int .u64 0,.slice none 0 0] 32)) w.heap.size:=by
  refine ⟨⟨false,?_⟩,⟨0,?_⟩,⟨none,0,0,?_⟩,⟨0,?_⟩,⟨none,0,0,?_⟩,?_,?_,?_,?_,?_⟩ <;> go_simp
 have hsz:(w.alloc (.cells #[.bool false,.int .u64 0,.slice none 0 0,.int .u64 0,.slice none 0 0] 32)).heap.size=w.heap.size+1:=by simp
 have HI:=hid (integer_calls n h1 h2)
 have HB:=hid (And.intro hb (And.intro hs hsz))
 have HN:=hid (And.intro h1 h2)
 clear hb hs hsz h1 h2
 go_enter Tryz.func13,Tryz.ntmps13
 go_wp2_with fail
 obtain ⟨W0,hW0⟩:∃ W0,w.alloc (.cells #[.bool false,.int .u64 0,.slice none 0 0,.int .u64 0,.slice none 0 0] 32)=W0:=⟨_,rfl⟩
 rw [hW0] at HB ⊢
 clear hW0
 refine (HI.out _).mono ?_
 rintro e w1 ⟨rfl,hB1⟩
 go_wp2_with fail
 refine (whole_calls _ _ _ _ _ _).mono ?_
 rintro e w2 ⟨rfl,hB2⟩
 obtain ⟨k1,k2,k3⟩:=HB.out
 have hb2:=k1.trans ((hB1.trans (hB2.mono hB1.size)).mono k1.size)
 have hs2:=(k2.below hB1 (by omega)).below hB2 (by have:=hB1.size;omega)
 obtain ⟨r0,r1,r2,r3,r4,⟨c0,c1,c2,c3,c4⟩,f0,f1,f2,f3,f4⟩:=hs2.facts
 obtain ⟨⟨z0,z1,z2,z3,z4⟩,hH⟩:=hs2.done (v0:=.bool (decide (n<0))) hb2 (Nat.le_refl _) (isMag_u64 w2 (n:=n.natAbs) (by have:=HN.out;unfold B64;omega)) (isMag_nil w2)
 clear k1 k2 k3 hB1 hB2 hb2 hs2 HI HB
 go_wp2_with fail
 exact bodyPost_ret (v:=.agg #[.bool (decide (n<0)),.int .u64 (n.natAbs:Int),.slice none 0 0,.int .u64 0,.slice none 0 0]) (by simp [results,Tryz.results13,go_sem,z0,z1,z2,z3,z4]) rfl ⟨_,rfl,isQ_int n hH.out.1,hH.out.2.2⟩
end
section
open Go.RowKit Go.Sort
theorem lowest_calls (b:Bool) (c d e f:Value) (n m:Nat) (w:World) (h1:IsMag w c d n) (h2:IsMag w e f m) (hc:Nat.Coprime n m) (hm:m≠0) :
  Calls Tryz.prog 59 #[.agg #[.bool b,c,d],.agg #[e,f]] w (RetQ w (mkRat (zs b n) m)):=by
 obtain ⟨x,p,l,k,rfl,rfl⟩:=h1.shape
 obtain ⟨x',p',l',k',rfl,rfl⟩:=h2.shape
 have hb:=(((Below.refl w.heap.size w).alloc (Nat.le_refl _) (.cells #[.bool b,.int .u64 x,.slice p l k] 30)).alloc (by simp) (.cells #[.int .u64 x',.slice p' l' k'] 28)).alloc (by simp;omega) (.cells #[.bool false,.int .u64 0,.slice none 0 0,.int .u64 0,.slice none 0 0] 32)
 have hs:QSlot (((w.alloc (.cells #[.bool b,.int .u64 x,.slice p l k] 30)).alloc (.cells #[.int .u64 x',.slice p' l' k'] 28)).alloc (.cells #[.bool false,.int .u64 0,.slice none 0 0,.int .u64 0,.slice none 0 0] 32)) (w.heap.size+1+1):=by
  refine ⟨⟨false,?_⟩,⟨0,?_⟩,⟨none,0,0,?_⟩,⟨0,?_⟩,⟨none,0,0,?_⟩,?_,?_,?_,?_,?_⟩ <;> go_simp
 have hx:C3 (((w.alloc (.cells #[.bool b,.int .u64 x,.slice p l k] 30)).alloc (.cells #[.int .u64 x',.slice p' l' k'] 28)).alloc (.cells #[.bool false,.int .u64 0,.slice none 0 0,.int .u64 0,.slice none 0 0] 32)) w.heap.size (.bool b) (.int .u64 x) (.slice p l k):=by
  refine ⟨?_,?_,?_⟩ <;> go_simp
 have hy:C2 (((w.alloc (.cells #[.bool b,.int .u64 x,.slice p l k] 30)).alloc (.cells #[.int .u64 x',.slice p' l' k'] 28)).alloc (.cells #[.bool false,.int .u64 0,.slice none 0 0,.int .u64 0,.slice none 0 0] 32)) (w.heap.size+1) (.int .u64 x') (.slice p' l' k'):=by
  refine ⟨?_,?_⟩ <;> go_simp
 have hsz:(((w.alloc (.cells #[.bool b,.int .u64 x,.slice p l k] 30)).alloc (.cells #[.int .u64 x',.slice p' l' k'] 28)).alloc (.cells #[.bool false,.int .u64 0,.slice none 0 0,.int .u64 0,.slice none 0 0] 32)).heap.size=w.heap.size+3:=by simp
 have m1:=h1.below hb
 have m2:=h2.below hb
 have HH:=hid (And.intro hb (And.intro hs (And.intro hx (And.intro hy (And.intro hsz (And.intro m1 m2))))))
 have HC:=hid (And.intro hc hm)
 clear h1 h2 hb hs hx hy hsz m1 m2 hc hm
 go_enter Tryz.func59,Tryz.ntmps59
 go_wp2_with fail
 obtain ⟨W0,hW0⟩:∃ W0,((w.alloc (.cells #[.bool b,.int .u64 x,.slice p l k] 30)).alloc (.cells #[.int .u64 x',.slice p' l' k'] 28)).alloc (.cells #[.bool false,.int .u64 0,.slice none 0 0,.int .u64 0,.slice none 0 0] 32)=W0:=⟨_,rfl⟩
 rw [hW0] at HH ⊢
 clear hW0
 refine (isZero_calls _ _ n _ HH.out.2.2.2.2.2.1).mono ?_
 rintro e w1 ⟨rfl,hB1⟩
 obtain ⟨hb,hs,hx,hy,hsz,m1,m2⟩:=HH.out
 have hb1:=hb.trans (hB1.mono hb.size)
 have hs1:=hs.below hB1 (by omega)
 have hx1:=hx.below hB1 (by omega)
 have hy1:=hy.below hB1 (by omega)
 have n1:=m1.below hB1
 have n2:=m2.below hB1
 have hsz1:w.heap.size+3≤w1.heap.size:=by have:=hB1.size;omega
 clear hb hs hx hy hsz m1 m2 HH hB1
 by_cases h0:n=0
 ·have t:(n == 0)=true:=by rw [beq_iff_eq];exact h0
  obtain ⟨r0,r1,r2,r3,r4,⟨c0,c1,c2,c3,c4⟩,f0,f1,f2,f3,f4⟩:=hs1.facts
  obtain ⟨⟨z0,z1,z2,z3,z4⟩,hH⟩:=hs1.done (v0:=.bool false) hb1 (by omega) (isMag_nil w1) (isMag_nil w1)
  have HZ:Hid (mkRat (zs b n) m=0):=by show _=_;rw [h0,zs_zero,Rat.zero_mkRat]
  clear hb1 hs1 hx1 hy1 n1 n2 hsz1 h0 HC
  go_wp2_with fail
  refine bodyPost_ret (v:=.agg #[.bool false,.int .u64 0,.slice none 0 0,.int .u64 0,.slice none 0 0]) (by simp [results,Tryz.results59,go_sem,z0,z1,z2,z3,z4]) rfl ?_
  rw [HZ.out]
  exact ⟨_,rfl,isQ_zero _,hH.out.2.2⟩
 ·have t:(n == 0)=false:=by rw [beq_eq_false_iff_ne];exact h0
  have H0:=hid h0
  clear h0
  obtain ⟨c0,c1,c2⟩:=hx1
  obtain ⟨d0,d1⟩:=hy1
  go_wp2_with fail
  refine (isOne_calls _ _ m _ n2).mono ?_
  rintro e w2 ⟨rfl,hB2⟩
  have hb2:=hb1.trans (hB2.mono hb1.size)
  have hs2:=hs1.below hB2 (by omega)
  obtain ⟨c0',c1',c2'⟩:=C3.below ⟨c0,c1,c2⟩ hB2 (by omega)
  obtain ⟨d0',d1'⟩:=C2.below ⟨d0,d1⟩ hB2 (by omega)
  have k1:=n1.below hB2
  have k2:=n2.below hB2
  have hsz2:w.heap.size+3≤w2.heap.size:=by have:=hB2.size;omega
  clear c0 c1 c2 d0 d1 n1 n2 hb1 hs1 hB2 hsz1
  by_cases h1:m=1
  ·have t1:(m == 1)=true:=by rw [beq_iff_eq];exact h1
   have H1:=hid h1
   clear h1
   have HK:=hid (And.intro hb2 (And.intro hs2 k1))
   clear hb2 hs2 k1 k2
   go_wp2_with fail
   refine (whole_calls _ _ _ _ _ _).mono ?_
   rintro e w3 ⟨rfl,hB3⟩
   obtain ⟨hb2,hs2,k1⟩:=HK.out
   have hs3:=hs2.below hB3 (by omega)
   have hb3:=hb2.trans (hB3.mono hb2.size)
   obtain ⟨r0,r1,r2,r3,r4,⟨e0,e1,e2,e3,e4⟩,f0,f1,f2,f3,f4⟩:=hs3.facts
   obtain ⟨⟨z0,z1,z2,z3,z4⟩,hH⟩:=hs3.done (v0:=.bool b) hb3 (by omega) (k1.below hB3) (isMag_nil w3)
   clear hb2 hs2 k1 hs3 hb3 hB3 HK c0' c1' c2' d0' d1'
   go_wp2_with fail
   exact bodyPost_ret (v:=.agg #[.bool b,.int .u64 x,.slice p l k,.int .u64 0,.slice none 0 0]) (by simp [results,Tryz.results59,go_sem,z0,z1,z2,z3,z4]) rfl ⟨_,rfl,isQ_low H0.out HC.out.1 hH.out.1 HC.out.2 (by rw [if_pos H1.out];exact hH.out.2.1),hH.out.2.2⟩
  ·have t1:(m == 1)=false:=by rw [beq_eq_false_iff_ne];exact h1
   have H1:=hid h1
   clear h1
   obtain ⟨r0,r1,r2,r3,r4,⟨e0,e1,e2,e3,e4⟩,f0,f1,f2,f3,f4⟩:=hs2.facts
   obtain ⟨⟨z0,z1,z2,z3,z4⟩,hH⟩:=hs2.done (v0:=.bool b) hb2 (by omega) k1 k2
   clear hb2 hs2 k1 k2
   go_wp2_with fail
   exact bodyPost_ret (v:=.agg #[.bool b,.int .u64 x,.slice p l k,.int .u64 x',.slice p' l' k']) (by simp [results,Tryz.results59,go_sem,z0,z1,z2,z3,z4]) rfl ⟨_,rfl,isQ_low H0.out HC.out.1 hH.out.1 HC.out.2 (by rw [if_neg H1.out];exact hH.out.2.1),hH.out.2.2⟩
end
end Go.Proofs.YtmijlcldmefggaaGreatDoor
