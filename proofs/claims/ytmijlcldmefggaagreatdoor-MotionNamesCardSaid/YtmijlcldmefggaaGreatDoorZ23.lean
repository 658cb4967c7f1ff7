/- What the proof rests on, part 23. -/
import Derived.Test.YtmijlcldmefggaaGreatDoorZ22
import Derived.Test.YtmijlcldmefggaaGreatDoorZ15
namespace Go.Proofs.YtmijlcldmefggaaGreatDoor
set_option maxRecDepth 100000
set_option maxHeartbeats 80000000
namespace Rx.Ry
open Go.RowKit
theorem takes_mono {P:Program} {o:Oper} {a:Act} {W:World} {K K':Value→World→Prop} (h:takes P o a W K) (hK:∀ v w,K v w→K' v w):takes P o a W K':=by
 unfold takes at h ⊢
 generalize (execOp a.eval o).run P W=q at *
 cases q with
 | ok n w' =>
  cases n <;> simp only [takesUpon] at h ⊢
  case value v=>exact hK _ _ h
  case skip=>exact hK _ _ h
  case enter f args=>exact h.mono fun e w'' ⟨v,he,hk⟩=>⟨v,he,hK _ _ hk⟩
 | halt x w'=>simp only [takesUpon] at h
theorem Pl.weaken {S:Sys} {a fb:List (Nat×Nat)} {hp:T (It S)} {n:Nat} {r:Rs S} (h:Pl (a ++ fb) hp n r):Pl fb hp n r:=
 ⟨h.le,h.v,h.wf,h.keep,fun k hk=>by
  obtain ⟨h1,h2,h3⟩:=h.wr k hk
  rw [inR_app,Bool.or_eq_false_iff] at h2
  exact ⟨h1,h2.2,h3⟩⟩
def tchB {S:Sys} (n:Nat) (x:Rs S) (k:Nat):Bool:=(Nat.ble n k && Nat.blt k x.n) || x.wr.any (Nat.beq k)
theorem any_beq {l:List Nat} {k:Nat}:l.any (Nat.beq k)=true↔k∈l:=by
 rw [List.any_eq_true]
 exact ⟨fun ⟨x,hx,h⟩=>by rw [Nat.eq_of_beq_eq_true h];exact hx,fun h=>⟨k,h,Nat.beq_refl k⟩⟩
theorem tchB_iff {S:Sys} {n:Nat} {x:Rs S} {k:Nat}:tchB n x k=true↔tch n x k:=by
 unfold tchB tch
 rw [Bool.or_eq_true,Bool.and_eq_true,any_beq]
 refine or_congr (and_congr ⟨Nat.le_of_ble_eq_true,Nat.ble_eq_true_of_le⟩ ⟨Nat.le_of_ble_eq_true,Nat.ble_eq_true_of_le⟩) Iff.rfl
section
variable {P:Program} {S:Sys} {X:Xt S} {w00 w0:World} {ρ0:Env} {n0 N:Nat} {fb:List (Nat×Nat)}
variable {ev:(Tmp→Option SV)→List (Nat×Nat)→T (It S)→Nat→Op→Option (Rs S)} {l:List Oper} {σ:St S} {rs:List (Rd S)} {sg:Nat→List (Nat×Nat)}
structure Ran (n0 N:Nat) (fb:List (Nat×Nat)) (ev:(Tmp→Option SV)→List (Nat×Nat)→T (It S)→Nat→Op→Option (Rs S)) (l:List Oper) (σ:St S) (rs:List (Rd S)) (sg:Nat→List (Nat×Nat)):Prop where
 lex:lexB 0 l=true
 dst:dstsB l=true
 ins:∀ o∈l,∀ t,o.dst=some t→t<N
 len:rs.length=l.length
 nn:∀ i,i<l.length→(rs.getD i default).n=(pre n0 l σ rs i).n
 ev:∀ i o,l[i]? = some o→evalG ev l (rdD l (befs l []) i (pre n0 l σ rs i).regs) ((rngs ((befs l []).getD i 0) 0 (rs.take i) ++ sg i) ++ fb) (pre n0 l σ rs i).hp (pre n0 l σ rs i).n o=some (rs.getD i default).x
 ok:∀ i,i<l.length→okD (rngs ((befs l []).getD i 0) 0 (rs.take i)) (pre n0 l σ rs i).n (rs.getD i default).x=true
 s1:∀ i k,i<l.length→inR (sg i) k=true→k<(pre n0 l σ rs i).n
 s2:∀ i j k,i<l.length→j<l.length→j≠i→bf l i j=false→bf l j i=false→k∈(rs.getD j default).x.wr→k<(pre n0 l σ rs i).n→inR (sg i) k=true
def hv (n0:Nat) (l:List Oper) (σ:St S) (rs:List (Rd S)) (dn:Nat→Bool) (k:Nat):Option (It S):=
 lastV (fun j=>dn j && tchB (pre n0 l σ rs j).n (rs.getD j default).x k) (fun j=>(rs.getD j default).x.hp.get k) (σ.hp.get k) l.length
def rv (l:List Oper) (σ:St S) (rs:List (Rd S)) (dn:Nat→Bool) (t:Tmp):SV:=match wr l t 0 with
 | some j=>if dn j then (rs.getD j default).x.v else rdG σ.regs t
 | none=>rdG σ.regs t
def WRd (n0:Nat) (l:List Oper) (σ:St S) (rs:List (Rd S)) (dn:Nat→Bool) (k:Nat):Prop:=k∈σ.wr∨∃ j,j<l.length∧dn j=true∧k∈(rs.getD j default).x.wr∧k<n0
theorem get_of {i:Nat} (hi:i<l.length):∃ o,l[i]? = some o:=⟨l[i],List.getElem?_eq_getElem hi⟩
theorem Ran.pl (R:Ran n0 N fb ev l σ rs sg) (hev:EvOk P X w00 ev) {i:Nat} (hi:i<l.length) (wf:Wf (pre n0 l σ rs i).hp (pre n0 l σ rs i).n) :
  Pl ((rngs ((befs l []).getD i 0) 0 (rs.take i) ++ sg i) ++ fb) (pre n0 l σ rs i).hp (pre n0 l σ rs i).n (rs.getD i default).x:=by
 obtain ⟨o,ho⟩:=get_of hi
 exact (evalG_ok hev (R.ev i o ho) wf).1
theorem Ran.ps (R:Ran n0 N fb ev l σ rs sg) (hev:EvOk P X w00 ev) (hN:N≤top) {hp0:T (It S)} (ps:PlS fb hp0 n0 σ):∀ i,i≤l.length→PlS fb hp0 n0 (pre n0 l σ rs i)
 | 0,_=>ps
 | i+1,h=>by
  have ih:=R.ps hev hN ps i (by omega)
  obtain ⟨o,ho⟩:=get_of (l:=l) (i:=i) (by omega)
  have:=Pl.step ih (R.pl hev (by omega) ih.wf).weaken (dst:=(l[i]?).bind (·.dst)) fun t ht=>by
   rw [ho] at ht
   exact Nat.lt_of_lt_of_le (R.ins o (List.mem_of_getElem? ho) t ht) hN
  exact this
theorem Ran.mono (R:Ran n0 N fb ev l σ rs sg) (hev:EvOk P X w00 ev) (hN:N≤top) {hp0:T (It S)} (ps:PlS fb hp0 n0 σ) {i:Nat}:∀ {j:Nat},i≤j→j≤l.length→(pre n0 l σ rs i).n≤(pre n0 l σ rs j).n
 | 0,h,_=>by rw [Nat.le_zero.1 h];exact Nat.le_refl _
 | j+1,h,hj=>by
  rcases Nat.eq_or_lt_of_le h with e | e
  ·rw [e];exact Nat.le_refl _
  ·exact Nat.le_trans (R.mono hev hN ps (j:=j) (by omega) (by omega)) (R.pl hev (i:=j) (by omega) (R.ps hev hN ps j (by omega)).wf).le
theorem Ran.canon (R:Ran n0 N fb ev l σ rs sg) (hev:EvOk P X w00 ev) (hN:N≤top) {hp0:T (It S)} (ps:PlS fb hp0 n0 σ) (k:Nat):∀ i,i≤l.length →
  (pre n0 l σ rs i).hp.get k=lastV (fun j=>tchB (pre n0 l σ rs j).n (rs.getD j default).x k) (fun j=>(rs.getD j default).x.hp.get k) (σ.hp.get k) i
 | 0,_=>rfl
 | i+1,h=>by
  have ih:=R.canon hev hN ps k i (by omega)
  have p:=R.ps hev hN ps i (by omega)
  have pl:=R.pl hev (i:=i) (by omega) p.wf
  simp only [lastV]
  cases ht:tchB (pre n0 l σ rs i).n (rs.getD i default).x k with
  | true=>rfl
  | false =>
   rw [cond_false,← ih]
   have hn:¬ tch (pre n0 l σ rs i).n (rs.getD i default).x k:=fun h=>by rw [tchB_iff.2 h] at ht;cases ht
   show (rs.getD i default).x.hp.get k=_
   rcases Nat.lt_or_ge k (pre n0 l σ rs i).n with h3 | h3
   ·exact pl.keep k h3 fun h=>hn (.inr h)
   ·have n1:(pre n0 l σ rs i).hp.get k=none:=by
     cases hg:(pre n0 l σ rs i).hp.get k with
     | none=>rfl
     | some it=>have:=(p.wf k it hg).1;omega
    have n2:(rs.getD i default).x.hp.get k=none:=by
     cases hg:(rs.getD i default).x.hp.get k with
     | none=>rfl
     | some it =>
      have:=(pl.wf p.wf k it hg).1
      exact absurd (Or.inl ⟨h3,this⟩) hn
    rw [n1,n2]
theorem Ran.canonR (R:Ran n0 N fb ev l σ rs sg) (hN:N≤top) (t:Tmp):∀ i,i≤l.length→rdG (pre n0 l σ rs i).regs t=rv l σ rs (fun j=>decide (j<i)) t
 | 0,_=>by
  show rdG σ.regs t=_
  unfold rv
  split <;> simp
 | i+1,h=>by
  have ih:=R.canonR hN t i (by omega)
  obtain ⟨o,ho⟩:=get_of (l:=l) (i:=i) (by omega)
  have hd:∀ t,(l[i]?).bind (·.dst)=some t→t<top:=fun t ht=>by
   rw [ho] at ht
   exact Nat.lt_of_lt_of_le (R.ins o (List.mem_of_getElem? ho) t ht) hN
  show rdG (setD (pre n0 l σ rs i).regs ((l[i]?).bind (·.dst)) (rs.getD i default).x.v) t=_
  rw [rdG_set hd,ih,ho,Option.bind_some]
  unfold rv
  by_cases hdt:o.dst=some t
  ·rw [if_pos hdt,wr_of R.dst ho hdt,Nat.zero_add]
   simp
  ·rw [if_neg hdt]
   cases hw:wr l t 0 with
   | none=>rfl
   | some j =>
    simp only
    obtain ⟨-,o',h1,h2⟩:=wr_some hw
    have hne:j≠i:=fun e=>by
     subst e
     rw [Nat.sub_zero,ho] at h1
     rw [Option.some.inj h1] at hdt
     exact hdt h2
    have:(j<i)↔(j<i+1):=by omega
    simp only [this]
section
variable {hp0:T (It S)} {dn:Nat→Bool} {i:Nat} {o:Oper}
theorem Ran.free (R:Ran n0 N fb ev l σ rs sg) (hc:Closed l dn) (hd:dn i=false) {j:Nat} (hj:dn j=true):bf l j i=false:=by
 cases hb:bf l j i with
 | false=>rfl
 | true=>have:=bf_done R.lex hc hj hb;rw [hd] at this;cases this
theorem bf_ge (R:Ran n0 N fb ev l σ rs sg) {j:Nat} (h:i≤j):bf l i j=false:=by
 cases hb:bf l i j with
 | false=>rfl
 | true=>have:=bf_lt R.lex hb;omega
theorem rng_of (R:Ran n0 N fb ev l σ rs sg) {i j k:Nat} (hij:i<j) (hj:j<l.length) (hb:bf l j i=false) (h1:(pre n0 l σ rs i).n≤k) (h2:k<(rs.getD i default).x.n):inR (rngs ((befs l []).getD j 0) 0 (rs.take j)) k=true:=by
 have hr:rs[i]? = some (rs.getD i default):=by
  have:i<rs.length:=by rw [R.len];omega
  simp [List.getD,this]
 refine rngs_in.2 ⟨i,rs.getD i default,by rw [List.getElem?_take_of_lt hij];exact hr,by rw [Nat.zero_add];exact hb,by rw [R.nn i (by omega)];exact h1,h2⟩
theorem rng_lt (R:Ran n0 N fb ev l σ rs sg) (hev:EvOk P X w00 ev) (hN:N≤top) (ps:PlS fb hp0 n0 σ) {i k:Nat} (hi:i<l.length) (h:inR (rngs ((befs l []).getD i 0) 0 (rs.take i)) k=true):k<(pre n0 l σ rs i).n:=by
 obtain ⟨j,r,h1,-,-,h2⟩:=rngs_in.1 h
 have hj:j<i:=by
  have:=(List.getElem?_eq_some_iff.1 h1).1
  rw [List.length_take] at this
  omega
 rw [List.getElem?_take_of_lt hj] at h1
 have e:rs.getD j default=r:=by simp [List.getD,h1]
 rw [← e] at h2
 have:(rs.getD j default).x.n=(pre n0 l σ rs (j+1)).n:=rfl
 have:=R.mono hev hN ps (i:=j+1) (j:=i) (by omega) (by omega)
 omega
theorem Ran.view (R:Ran n0 N fb ev l σ rs sg) (hev:EvOk P X w00 ev) (hN:N≤top) (ps:PlS fb hp0 n0 σ) (ho:l[i]? = some o) (hd:dn i=false) (hw:∀ e∈o.after,Region.binds .any e=true→dn e.on=true) (hc:Closed l dn) {k:Nat}
  (hk:k<(pre n0 l σ rs i).n) (hf:inR (rngs ((befs l []).getD i 0) 0 (rs.take i) ++ sg i) k=false):hv n0 l σ rs dn k=(pre n0 l σ rs i).hp.get k:=by
 have hi:i<l.length:=(List.getElem?_eq_some_iff.1 ho).1
 rw [inR_app,Bool.or_eq_false_iff] at hf
 rw [R.canon hev hN ps k i (by omega)]
 unfold hv
 rw [lastV_none (i:=i) (by omega) fun j h1 h2=>?_]
 ·refine lastV_congr fun j hj=>?_
  cases ht:tchB (pre n0 l σ rs j).n (rs.getD j default).x k with
  | false=>rw [Bool.and_false]
  | true =>
   rw [Bool.and_true]
   cases hb:bf l i j with
   | true=>exact bf_ready R.lex hc ho hw hb
   | false =>
    exfalso
    rcases tchB_iff.1 ht with ⟨h3,h4⟩ | h3
    ·rw [rng_of R hj hi hb h3 h4] at hf
     cases hf.1
    ·have h5:=R.s2 i j k hi (by omega) (by omega) hb (bf_ge R (by omega)) h3 hk
     rw [h5] at hf
     cases hf.2
 ·cases hdj:dn j with
  | false=>rfl
  | true =>
   rw [Bool.true_and]
   cases ht:tchB (pre n0 l σ rs j).n (rs.getD j default).x k with
   | false=>rfl
   | true =>
    exfalso
    have hne:j≠i:=fun e=>by rw [e,hd] at hdj;cases hdj
    rcases tchB_iff.1 ht with ⟨h3,h4⟩ | h3
    ·have:=R.mono hev hN ps (i:=i) (j:=j) h1 (by omega)
     omega
    ·have h5:=R.s2 i j k hi h2 hne (bf_ge R h1) (R.free hc hd hdj) h3 hk
     rw [h5] at hf
     cases hf.2
theorem Ran.away (R:Ran n0 N fb ev l σ rs sg) (hev:EvOk P X w00 ev) (hN:N≤top) (ps:PlS fb hp0 n0 σ) (hi:i<l.length) (hc:Closed l dn) (hd:dn i=false) {j:Nat} (hj:j<l.length) (hdj:dn j=true) :
  (∀ m∈(rs.getD j default).x.v.nm,m<(pre n0 l σ rs i).n∨(rs.getD i default).x.n≤m)∧∀ k it,tch (pre n0 l σ rs j).n (rs.getD j default).x k→(rs.getD j default).x.hp.get k=some it→∀ m∈it.nm,m<(pre n0 l σ rs i).n∨(rs.getD i default).x.n≤m:=by
 have hne:j≠i:=fun e=>by rw [e,hd] at hdj;cases hdj
 have pj:=R.ps hev hN ps j (by omega)
 have plj:=R.pl hev hj pj.wf
 rcases Nat.lt_or_ge j i with h | h
 ·have hle:(rs.getD j default).x.n≤(pre n0 l σ rs i).n:=R.mono hev hN ps (i:=j+1) (j:=i) (by omega) (by omega)
  exact ⟨fun m hm=>.inl (Nat.lt_of_lt_of_le (plj.v m hm) hle),fun k it _ hg m hm=>.inl (Nat.lt_of_lt_of_le ((plj.wf pj.wf k it hg).2 m hm) hle)⟩
 ·have hb:=R.free hc hd hdj
  have key:∀ m,inR (rngs ((befs l []).getD j 0) 0 (rs.take j)) m=false→m<(pre n0 l σ rs i).n∨(rs.getD i default).x.n≤m:=fun m hm=>by
   rcases Nat.lt_or_ge m (pre n0 l σ rs i).n with h1 | h1
   ·exact .inl h1
   ·rcases Nat.lt_or_ge m (rs.getD i default).x.n with h2 | h2
    ·rw [rng_of R (by omega) hj hb h1 h2] at hm;cases hm
    ·exact .inr h2
  have hok:=R.ok j hj
  unfold okD at hok
  split at hok
  ·rename_i he
   have e:∀ m,inR (rngs ((befs l []).getD j 0) 0 (rs.take j)) m=false:=fun m=>by rw [he];rfl
   exact ⟨fun m _=>key m (e m),fun k it _ _ m _=>key m (e m)⟩
  ·rw [Bool.and_eq_true,List.all_eq_true,List.all_eq_true] at hok
   refine ⟨fun m hm=>key m (by simpa using hok.1 m hm),fun k it ht hg m hm=>key m ?_⟩
   have h1:=hok.2 k (by
    rw [List.mem_append]
    rcases ht with ht | ht
    ·exact .inl (List.mem_range'_1.2 (by omega))
    ·exact .inr ht)
   rw [hg] at h1
   simpa using List.all_eq_true.1 h1 m hm
theorem Ran.step (R:Ran n0 N fb ev l σ rs sg) (hev:EvOk P X w00 ev) (hN:N≤top) (ps:PlS fb hp0 n0 σ) {ρσ:Env} :
  StepY P l fun dn a W=>∃ ρ:Env,(∀ n,n<σ.n→ρ n=ρσ n)∧Holds X w00 w0 ρ0 n0 N fb (rv l σ rs dn) σ.df (hv n0 l σ rs dn) (WRd n0 l σ rs dn) ρ a W:=by
 intro dn a W i o ho hd hw hc ⟨ρ,hag,hJ⟩
 have hi:i<l.length:=(List.getElem?_eq_some_iff.1 ho).1
 have p:=R.ps hev hN ps i (by omega)
 have pl:=R.pl hev hi p.wf
 have hsp:∀ k,inR ((rngs ((befs l []).getD i 0) 0 (rs.take i) ++ sg i) ++ fb) k=false↔inR (rngs ((befs l []).getD i 0) 0 (rs.take i) ++ sg i) k=false∧inR fb k=false:=fun k=>by rw [inR_app,Bool.or_eq_false_iff]
 have hlow:∀ k,(pre n0 l σ rs i).n≤k→inR (rngs ((befs l []).getD i 0) 0 (rs.take i) ++ sg i) k=false:=fun k hk=>by
  rw [inR_app,Bool.or_eq_false_iff]
  constructor
  ·cases h:inR (rngs ((befs l []).getD i 0) 0 (rs.take i)) k with
   | false=>rfl
   | true=>have:=rng_lt R hev hN ps hi h;omega
  ·cases h:inR (sg i) k with
   | false=>rfl
   | true=>have:=R.s1 i k hi h;omega
 have hinv:Inv X w00 ((rngs ((befs l []).getD i 0) 0 (rs.take i) ++ sg i) ++ fb) ρ (pre n0 l σ rs i).hp W:=hJ.inv fun k it hk hf=>by
  rw [hsp] at hf
  exact ⟨hf.2,by rw [R.view hev hN ps ho hd hw hc (p.wf k it hk).1 hf.1];exact hk⟩
 have hrd:∀ t v,rdD l (befs l []) i (pre n0 l σ rs i).regs t=some v→a.tmps.getD t undef=v.den ρ:=fun t v h=>by
  rw [hJ.rg t]
  congr 1
  unfold rdD at h
  have hcan:=R.canonR hN t i (by omega)
  unfold rv at hcan ⊢
  split at h
  ·rename_i hwr
   rw [hwr] at hcan ⊢
   rw [← Option.some.inj h,hcan]
  ·rename_i j hwr
   rw [hwr] at hcan ⊢
   simp only at hcan ⊢
   cases hb:(Nat.beq j i || ((befs l []).getD i 0).testBit j || ((befs l []).getD j 0).testBit i) with
   | false=>rw [hb] at h;cases h
   | true =>
    rw [hb,cond_true] at h
    rw [← Option.some.inj h,hcan]
    simp only [Bool.or_eq_true] at hb
    have:dn j=decide (j<i):=by
     rcases hb with (hb | hb) | hb
     ·rw [Nat.eq_of_beq_eq_true hb,hd];simp
     ·rw [bf_ready R.lex hc ho hw (show bf l i j=true from hb)]
      have:=bf_lt R.lex (show bf l i j=true from hb)
      simp [this]
     ·have h1:=bf_lt R.lex (show bf l j i=true from hb)
      have:dn j=false:=by
       cases hdj:dn j with
       | false=>rfl
       | true=>have:=bf_done R.lex hc hdj (show bf l j i=true from hb);rw [hd] at this;cases this
      rw [this]
      simp;omega
    rw [this]
 have hmain:∀ ρ' v W',Dy X w00 ((rngs ((befs l []).getD i 0) 0 (rs.take i) ++ sg i) ++ fb) (pre n0 l σ rs i).n (rs.getD i default).x ρ W v ρ' W' →
   ∃ ρ:Env,(∀ n,n<σ.n→ρ n=ρσ n)∧Holds X w00 w0 ρ0 n0 N fb (rv l σ rs (more dn i)) σ.df (hv n0 l σ rs (more dn i)) (WRd n0 l σ rs (more dn i)) ρ (a.put o.dst v) W':=fun ρ' v W' dy=>by
  have hge:σ.n≤(pre n0 l σ rs i).n:=R.mono hev hN ps (i:=0) (j:=i) (by omega) (by omega)
  have hms:more dn i i=true:=by simp [more]
  have hmn:∀ j,j≠i→more dn i j=dn j:=fun j h=>by unfold more;rw [beq_false_of_ne h,Bool.or_false]
  refine ⟨ρ',fun n hn=>(dy.ag n (.inl (by omega))).trans (hag n hn),?_⟩
  refine Holds.step hJ pl dy p.le hsp hlow (fun k hk=>?_) (fun k hk=>?_) (fun t=>?_) (R.ins o (List.mem_of_getElem? ho)) (fun k=>?_) (fun t m hm=>?_) (fun m hm=>.inl (by have:=ps.df m hm;omega)) (fun k it hk ht=>?_) (fun k hk=>?_)
  ·unfold hv
   refine lastV_at (val:=fun j=>(rs.getD j default).x.hp.get k) hi (by simp only [hms,Bool.true_and];exact tchB_iff.2 hk) fun j h1 h2=>?_
   rw [hmn j (by omega)]
   cases hdj:dn j with
   | false=>rfl
   | true =>
    rw [Bool.true_and]
    cases ht:tchB (pre n0 l σ rs j).n (rs.getD j default).x k with
    | false=>rfl
    | true =>
     exfalso
     have hb:=R.free hc hd hdj
     have hmo:=R.mono hev hN ps (i:=i+1) (j:=j) (by omega) (by omega)
     have hmo:(rs.getD i default).x.n≤(pre n0 l σ rs j).n:=hmo
     have hkn:k<(rs.getD i default).x.n:=by
      rcases hk with hk | hk
      ·exact hk.2
      ·exact Nat.lt_of_lt_of_le (pl.wr k hk).1 pl.le
     rcases tchB_iff.1 ht with h3 | h3
     ·omega
     ·have h4:=(R.pl hev h2 (R.ps hev hN ps j (by omega)).wf).wr k h3
      have h5:=h4.2.1
      rw [inR_app,inR_app,Bool.or_eq_false_iff,Bool.or_eq_false_iff] at h5
      rcases hk with hk | hk
      ·rw [rng_of R h1 h2 hb hk.1 hk.2] at h5
       cases h5.1.1
      ·rw [R.s2 j i k h2 hi (by omega) hb (bf_ge R (by omega)) hk (by omega)] at h5
       cases h5.1.2
  ·unfold hv
   refine lastV_congr fun j _=>?_
   by_cases e:j=i
   ·subst e
    cases ht:tchB (pre n0 l σ rs j).n (rs.getD j default).x k with
    | false=>rw [Bool.and_false,Bool.and_false]
    | true=>exact absurd (tchB_iff.1 ht) hk
   ·rw [hmn j e]
  ·unfold rv
   by_cases hdt:o.dst=some t
   ·rw [if_pos hdt,wr_of R.dst ho hdt,Nat.zero_add]
    simp only
    rw [if_pos hms]
   ·rw [if_neg hdt]
    cases hwt:wr l t 0 with
    | none=>rfl
    | some j =>
     simp only
     obtain ⟨-,o',h1,h2⟩:=wr_some hwt
     have hne:j≠i:=fun e=>by
      subst e
      rw [Nat.sub_zero,ho] at h1
      rw [Option.some.inj h1] at hdt
      exact hdt h2
     rw [hmn j hne]
  ·unfold WRd
   constructor
   ·rintro (h | ⟨j,h1,h2,h3,h4⟩)
    ·exact .inl (.inl h)
    ·by_cases e:j=i
     ·subst e;exact .inr ⟨h3,h4⟩
     ·rw [hmn j e] at h2
      exact .inl (.inr ⟨j,h1,h2,h3,h4⟩)
   ·rintro ((h | ⟨j,h1,h2,h3,h4⟩) | ⟨h3,h4⟩)
    ·exact .inl h
    ·refine .inr ⟨j,h1,?_,h3,h4⟩
     unfold more
     rw [h2];rfl
    ·exact .inr ⟨i,hi,hms,h3,h4⟩
  ·unfold rv at hm
   split at hm
   ·rename_i j hwt
    split at hm
    ·rename_i hdj
     obtain ⟨-,o',h1,-⟩:=wr_some hwt
     have hj:j<l.length:=(List.getElem?_eq_some_iff.1 (by simpa using h1)).1
     exact (R.away hev hN ps hi hc hd hj hdj).1 m hm
    ·have:=ps.rg t m hm;exact .inl (by omega)
   ·have:=ps.rg t m hm;exact .inl (by omega)
  ·have hk1:k<(pre n0 l σ rs i).n∨(rs.getD i default).x.n≤k:=by
    rcases Nat.lt_or_ge k (pre n0 l σ rs i).n with h | h
    ·exact .inl h
    ·rcases Nat.lt_or_ge k (rs.getD i default).x.n with h2 | h2
     ·exact absurd (Or.inl ⟨h,h2⟩) ht
     ·exact .inr h2
   refine ⟨hk1,?_⟩
   unfold hv at hk
   rcases lastV_cases (fun j=>dn j && tchB (pre n0 l σ rs j).n (rs.getD j default).x k) (fun j=>(rs.getD j default).x.hp.get k) (σ.hp.get k) l.length with ⟨h1,-⟩ | ⟨j,h1,h2,h3⟩
   ·rw [h1] at hk
    intro m hm
    have:=(ps.wf k it hk).2 m hm
    exact .inl (by omega)
   ·rw [h3] at hk
    simp only [Bool.and_eq_true] at h2
    exact (R.away hev hN ps hi hc hd h1 h2.1).2 k it (tchB_iff.1 h2.2) hk
  ·obtain ⟨h1,h2,-⟩:=pl.wr k hk
   exact R.view hev hN ps ho hd hw hc h1 ((hsp k).1 h2).1
 obtain ⟨-,go⟩:=evalG_ok hev (R.ev i o ho) p.wf
 have h:=go ρ W a hinv hrd fun t v hv=>by
  have e:v=rdG (pre n0 l σ rs i).regs t:=by
   unfold rdD at hv
   split at hv
   ·exact (Option.some.inj hv).symm
   ·rename_i j _
    cases hb:(Nat.beq j i || ((befs l []).getD i 0).testBit j || ((befs l []).getD j 0).testBit i) with
    | false=>rw [hb] at hv;cases hv
    | true=>rw [hb] at hv;exact (Option.some.inj hv).symm
  rw [e]
  exact p.rg t
 split
 ·rename_i hwt
  rw [if_pos hwt] at h
  exact tk_mono h fun v W' ⟨ρ',dy⟩=>hmain ρ' v W' dy
 ·rename_i hwt
  rw [if_neg hwt] at h
  exact hmain ρ undef W h
end
end
end Rx.Ry
namespace Rx.Ry
open Go.RowKit
section
variable {P:Program} {S:Sys} {X:Xt S} {w00 w0:World} {ρ0:Env} {n0 N:Nat} {fb:List (Nat×Nat)}
variable {ev:(Tmp→Option SV)→List (Nat×Nat)→T (It S)→Nat→Op→Option (Rs S)} {l:List Oper} {σ:St S} {rs:List (Rd S)} {sg:Nat→List (Nat×Nat)} {hp0:T (It S)}
theorem below_drew (W:World):Below W.heap.size W W.drew:=(Below.refl _ W).drew
theorem Holds.drew {rgs:Tmp→SV} {dfs:List Dd} {vw:Nat→Option (It S)} {WR:Nat→Prop} {ρ:Env} {a:Act} {W:World} (h:Holds X w00 w0 ρ0 n0 N fb rgs dfs vw WR ρ a W):Holds X w00 w0 ρ0 n0 N fb rgs dfs vw WR ρ a W.drew:=
 ⟨h.sz,h.df,h.rg,h.top.drew,fun k i hk hf=>(h.sat k i hk hf).carry (fun _=>rfl) fun _ hf'=>S.bl (below_drew W) hf',h.lo,h.inj,h.ag,h.fsz,h.fblk,fun ρ' f hf=>S.bl (below_drew W) (h.ffct ρ' f hf),h.nw⟩
theorem Holds.same {rgs rgs':Tmp→SV} {dfs:List Dd} {vw vw':Nat→Option (It S)} {WR WR':Nat→Prop} {ρ:Env} {a:Act} {W:World} (h:Holds X w00 w0 ρ0 n0 N fb rgs dfs vw WR ρ a W) (h1:∀ t,rgs' t=rgs t) (h2:∀ k,vw' k=vw k) (h3:∀ k,WR' k↔WR k):Holds X w00 w0 ρ0 n0 N fb rgs' dfs vw' WR' ρ a W:=by
 obtain rfl:rgs' = rgs:=funext h1
 obtain rfl:vw' = vw:=funext h2
 obtain rfl:WR' = WR:=funext fun k=>propext (h3 k)
 exact h
theorem pre_wr {k:Nat}:∀ {i:Nat},k∈(pre n0 l σ rs i).wr↔k∈σ.wr∨∃ j,j<i∧k∈(rs.getD j default).x.wr∧k<n0
 | 0=>by simp [pre]
 | i+1=>by
  simp only [pre]
  rw [mem_mrg,pre_wr]
  constructor
  ·rintro ((h | ⟨j,h1,h2⟩) | h)
   ·exact .inl h
   ·exact .inr ⟨j,by omega,h2⟩
   ·exact .inr ⟨i,by omega,h⟩
  ·rintro (h | ⟨j,h1,h2⟩)
   ·exact .inl (.inl h)
   ·by_cases e:j=i
    ·subst e;exact .inr h2
    ·exact .inl (.inr ⟨j,by omega,h2⟩)
theorem pre_df:∀ {i:Nat},(pre n0 l σ rs i).df=σ.df
 | 0=>rfl
 | i+1=>pre_df (i:=i)
theorem Ran.region {ro:Option Nat} {m:Nat} (R:Ran n0 N fb ev l σ rs sg) (hm:P.follows .mixedOrders=true) (hev:EvOk P X w00 ev) (hN:N≤top) (ps:PlS fb hp0 n0 σ) {id:Nat} {d:Bool} {ρ:Env} {a:Act} {W:World} {Q:Exit→Act→World→Prop} (hs:Says X w00 w0 ρ0 n0 N fb σ ρ a W)
  (hQ:∀ ρ' a' W',(∀ n,n<σ.n→ρ' n=ρ n)→Says X w00 w0 ρ0 n0 N fb (pre n0 l σ rs l.length) ρ' a' W'→Q .normal a' W'):(Code.region id l.toArray d).wpIn (fen ro) m P Q a W:=by
 have h0:∀ t,rv l σ rs (fun _=>false) t=rdG σ.regs t:=fun t=>by unfold rv;split <;> simp
 have h1:∀ k,hv n0 l σ rs (fun _=>false) k=σ.hp.get k:=fun k=>by
  unfold hv
  rw [lastV_none (i:=0) (by omega) fun j _ _=>by simp]
  rfl
 have h2:∀ k,WRd n0 l σ rs (fun _=>false) k↔k∈σ.wr:=fun k=>by unfold WRd;simp
 refine regionIn_of hm R.lex (R.step hev hN ps (ρσ:=ρ)) ⟨ρ,fun _ _=>rfl,hs.same h0 h1 h2⟩ ⟨ρ,fun _ _=>rfl,(hs.same h0 h1 h2).drew⟩ fun dn a' W' hall ⟨ρ',hag,hJ⟩=>?_
 refine hQ ρ' a' W' hag ?_
 unfold Says
 rw [pre_df]
 refine hJ.same (fun t=>?_) (fun k=>?_) (fun k=>?_)
 ·rw [R.canonR hN t l.length (Nat.le_refl _)]
  unfold rv
  cases hw:wr l t 0 with
  | none=>rfl
  | some j =>
   simp only
   obtain ⟨-,o,h3,-⟩:=wr_some hw
   have hj:j<l.length:=(List.getElem?_eq_some_iff.1 (by simpa using h3)).1
   rw [hall j hj]
   simp [hj]
 ·rw [R.canon hev hN ps k l.length (Nat.le_refl _)]
  exact lastV_congr fun j hj=>by rw [hall j hj,Bool.true_and]
 ·rw [pre_wr]
  unfold WRd
  refine or_congr Iff.rfl ⟨fun ⟨j,h3,h4⟩=>⟨j,h3,hall j h3,h4⟩,fun ⟨j,h3,_,h4⟩=>⟨j,h3,h4⟩⟩
def insB (N:Nat) (l:List Oper):Bool:=l.all fun o=>match o.dst with
 | some t=>Nat.blt t N
 | none=>true
theorem insB_ok (h:insB N l=true):∀ o∈l,∀ t,o.dst=some t→t<N:=fun o ho t ht=>by
 have:=List.all_eq_true.1 h o ho
 rw [ht] at this
 exact Nat.le_of_ble_eq_true this
theorem regD_ok {ro:Option Nat} {m:Nat} (hm:P.follows .mixedOrders=true) (hev:EvOk P X w00 ev) (hN:N≤top) (h1:lexB 0 l=true) (h2:dstsB l=true) (h3:insB N l=true) {σ':St S} (h:regD ev fb n0 l σ=some σ') (ps:PlS fb hp0 n0 σ) :
  PlS fb hp0 n0 σ'∧σ.n≤σ'.n∧∀ ρ a W (Q:Exit→Act→World→Prop) id d,Says X w00 w0 ρ0 n0 N fb σ ρ a W→(∀ ρ' a' W',(∀ n,n<σ.n→ρ' n=ρ n)→Says X w00 w0 ρ0 n0 N fb σ' ρ' a' W'→Q .normal a' W')→(Code.region id l.toArray d).wpIn (fen ro) m P Q a W:=by
 have fin:∀ {rs:List (Rd S)} {sg},Ran n0 N fb ev l σ rs sg→σ' = pre n0 l σ rs l.length→PlS fb hp0 n0 σ'∧σ.n≤σ'.n∧∀ ρ a W (Q:Exit→Act→World→Prop) id d,Says X w00 w0 ρ0 n0 N fb σ ρ a W→(∀ ρ' a' W',(∀ n,n<σ.n→ρ' n=ρ n)→Says X w00 w0 ρ0 n0 N fb σ' ρ' a' W'→Q .normal a' W')→(Code.region id l.toArray d).wpIn (fen ro) m P Q a W:=fun {rs sg} R e=>by
  subst e
  exact ⟨R.ps hev hN ps _ (Nat.le_refl _),R.mono hev hN ps (i:=0) (j:=l.length) (by omega) (Nat.le_refl _),fun ρ a W Q id d hs hQ=>R.region hm hev hN ps hs hQ⟩
 have mk:∀ {wrs:List (List Nat)} {rs:List (Rd S)} {σ'':St S},runD ev fb n0 (befs l []) wrs l l 0 [] σ=some (rs,σ'') →
   rs.length=l.length∧σ'' = pre n0 l σ rs l.length∧((∀ i j k,i<l.length→j<l.length→j≠i→bf l i j=false→bf l j i=false→k∈(rs.getD j default).x.wr→k<(pre n0 l σ rs i).n→inR (sing (befs l []) i (pre n0 l σ rs i).n 0 wrs) k=true) →
    Ran n0 N fb ev l σ rs fun i=>sing (befs l []) i (pre n0 l σ rs i).n 0 wrs):=fun {wrs rs σ''} hr=>by
  obtain ⟨-,h5,h6,h7⟩:=runD_get (σ0:=σ) (l:=l) (i:=0) (fun j o ho=>by rwa [Nat.zero_add]) hr rfl rfl
  simp only [Nat.zero_add] at h5 h6 h7
  refine ⟨h5,h6,fun s2=>⟨h1,h2,insB_ok h3,h5,fun i hi=>?_,fun i o ho=>(h7 i o ho).2.1,fun i hi=>?_,fun i k _ hk=>?_,s2⟩⟩
  ·obtain ⟨o,ho⟩:=get_of hi
   exact (h7 i o ho).1
  ·obtain ⟨o,ho⟩:=get_of hi
   exact (h7 i o ho).2.2
  ·obtain ⟨j,w,-,-,h8,-⟩:=sing_in.1 hk
   exact h8
 unfold regD at h
 split at h
 ·rename_i rs σ1 hr
  obtain ⟨h5,h6,R0⟩:=mk hr
  cases hal0:(nilW rs || (List.range l.length).all (fun i=>(sing (befs l []) i σ1.n 0 (rs.map (·.x.wr))).isEmpty)) with
  | true =>
   rw [hal0,cond_true] at h
   cases h
   have hall:(List.range l.length).all (fun i=>(sing (befs l []) i σ'.n 0 (rs.map (·.x.wr))).isEmpty)=true:=by
    rcases Bool.or_eq_true_iff.1 hal0 with h0 | h0
    ·exact List.all_eq_true.2 fun i _=>nilW_sing h0
    ·exact h0
   have hmono:∀ i,i<l.length→(pre n0 l σ rs i).n≤σ'.n:=fun i hi=>by
    have key:∀ j,j≤l.length→PlS fb hp0 n0 (pre n0 l σ rs j)∧(pre n0 l σ rs i).n≤(pre n0 l σ rs (max i j)).n:=fun j=>by
     obtain ⟨-,-,-,h7⟩:=runD_get (σ0:=σ) (l:=l) (i:=0) (fun j o ho=>by rwa [Nat.zero_add]) hr rfl rfl
     simp only [Nat.zero_add] at h7
     induction j with
     | zero=>intro _;exact ⟨ps,by rw [Nat.max_eq_left (by omega)];exact Nat.le_refl _⟩
     | succ j ih =>
      intro hj
      obtain ⟨p,hle⟩:=ih (by omega)
      obtain ⟨o,ho⟩:=get_of (l:=l) (i:=j) (by omega)
      obtain ⟨pl,-⟩:=evalG_ok hev (h7 j o ho).2.1 p.wf
      refine ⟨Pl.step p pl.weaken (dst:=(l[j]?).bind (·.dst)) fun t ht=>?_,?_⟩
      ·rw [ho] at ht
       exact Nat.lt_of_lt_of_le (insB_ok h3 o (List.mem_of_getElem? ho) t ht) hN
      ·rcases Nat.lt_or_ge j i with e | e
       ·rw [Nat.max_eq_left (by omega)];exact Nat.le_refl _
       ·rw [Nat.max_eq_right (by omega)] at hle ⊢
        exact Nat.le_trans hle pl.le
    have:=(key l.length (Nat.le_refl _)).2
    rw [Nat.max_eq_right (by omega),← h6] at this
    exact this
   refine fin (R0 fun i j k hi hj hne hb1 hb2 hk hlt=>?_) h6
   exfalso
   have he:=List.all_eq_true.1 hall i (List.mem_range.2 hi)
   have hin:inR (sing (befs l []) i σ'.n 0 (rs.map (·.x.wr))) k=true:=sing_in.2 ⟨j,(rs.getD j default).x.wr,by
    have:j<rs.length:=by omega
    simp [List.getD,this],hk,Nat.lt_of_lt_of_le hlt (hmono i hi),by omega,by rw [Nat.zero_add];exact hb1,by rw [Nat.zero_add];exact hb2⟩
   rw [List.isEmpty_iff.1 he] at hin
   cases hin
  | false =>
   rw [hal0,cond_false] at h
   split at h
   ·rename_i rs' σ2 hr'
    obtain ⟨h5',h6',R1⟩:=mk hr'
    cases hsub:(List.range l.length).all (fun i=>subL (rs'.getD i default).x.wr (rs.getD i default).x.wr) with
    | false=>rw [hsub] at h;cases h
    | true =>
     rw [hsub,cond_true] at h
     cases h
     refine fin (R1 fun i j k hi hj hne hb1 hb2 hk hlt=>?_) h6'
     have h7:=List.all_eq_true.1 (List.all_eq_true.1 hsub j (List.mem_range.2 hj)) k hk
     exact sing_in.2 ⟨j,(rs.getD j default).x.wr,by
      have:j<rs.length:=by omega
      simp [List.getD,this],any_beq.1 h7,hlt,by omega,by rw [Nat.zero_add];exact hb1,by rw [Nat.zero_add];exact hb2⟩
   ·cases h
 ·cases h
end
end Rx.Ry
end Go.Proofs.YtmijlcldmefggaaGreatDoor
