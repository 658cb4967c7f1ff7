/- What the proof rests on, part 37. -/
import Derived.Test.YtmijlcldmefggaaGreatDoorZ36
namespace Go.Proofs.YtmijlcldmefggaaGreatDoor
set_option maxRecDepth 100000
set_option maxHeartbeats 80000000
namespace Rx.Ry
open Go.RowKit
noncomputable def strN {β:Type} (k:Nat→β) (n:Nat):β:=Nat.rec (motive:=fun _=>β) (k 0) (fun m _=>k (Nat.succ m)) n
theorem strN_eq {β:Type} (k:Nat→β) (n:Nat):strN k n=k n:=by cases n <;> rfl
noncomputable def strT {α β:Type} (k:T α→β) (t:T α):β:=T.rec (motive:=fun _=>β) (k .l) (fun v a b _ _=>k (.n v a b)) t
theorem strT_eq {α β:Type} (k:T α→β) (t:T α):strT k t=k t:=by cases t <;> rfl
section
variable (P:Program) {S:Sys} (X:Xt S) (H:Tests S) (cons:List (Con S)) (call:CallT S)
theorem evF_fast {rd:Rdr} {fb:List (Nat×Nat)} {hp:T (It S)} {n:Nat} {op:Op} {g:Bx1 (FT S)} {r:Rs S} (hg:fE P X cons call op=some g) (h:g.f rd fb hp n=some r):evF P X H cons call rd fb hp n op=some r:=by
 unfold evF eOp
 rw [hg]
 simp only [h]
theorem oO_fast {l:List Oper} {o:Oper} {rd:Rdr} {fb:List (Nat×Nat)} {hp:T (It S)} {n:Nat} {g:Bx1 (Rdr→Option SV)} {v:SV} (hg:o.guard=none) (hf:fP P o.op=some g) (hv:g.f rd=some v) (hk:okSR v n=true):(oO P X H cons call l o).f rd fb hp n=some ⟨v,hp,n,[]⟩:=by
 unfold oO
 simp only [hg]
 refine evF_fast P X H cons call (g:=⟨fun rd _ hp n=>bo (fun v=>bb (some ⟨v,hp,n,[]⟩) (okSR v n)) (g.f rd)⟩) (by unfold fE;rw [hf]) ?_
 simp only [hv,bo,hk,bb]
noncomputable def tE (op:Op):Bx1 (Rdr→List (Nat×Nat)→T (It S)→Nat→Option (List Nat)):=match fP P op with
 | some g=>⟨fun rd _ _ n=>bo (fun v=>bb (some []) (okSR v n)) (g.f rd)⟩
 | none=>match op with
  | .load t a=>match fLo (S:=S) P t a with
   | some g=>⟨fun rd fb hp n=>bo (fun _=>bo (fun p=>some [p.1]) (ptrV ((rO a).f rd))) (g.f rd fb hp n)⟩
   | none=>⟨fun _ _ _ _=>none⟩
  | .box T x=>match fBo X T x with
   | some g=>⟨fun rd fb hp n=>bo (fun _=>some []) (g.f rd fb hp n)⟩
   | none=>⟨fun _ _ _ _=>none⟩
  | .alloc T=>match fAl P X T with
   | some g=>⟨fun rd fb hp n=>bo (fun _=>some []) (g.f rd fb hp n)⟩
   | none=>⟨fun _ _ _ _=>none⟩
  | .build t ps=>match fBu (S:=S) P t ps with
   | some g=>⟨fun rd fb hp n=>bo (fun _=>some []) (g.f rd fb hp n)⟩
   | none=>⟨fun _ _ _ _=>none⟩
  | _=>⟨fun _ _ _ _=>none⟩
theorem fLo_fb {t:TypeId} {a:Operand} {g:Bx1 (FT S)} (hg:fLo P t a=some g) {rd:Rdr} {fb fb':List (Nat×Nat)} {hp:T (It S)} {n:Nat} {p:Nat×Nat} (hp':ptrV ((rO a).f rd)=some p) (hf:inR fb' p.1=inR fb p.1):g.f rd fb' hp n=g.f rd fb hp n:=by
 have e:seeR fb' hp p.1=seeR fb hp p.1:=by
  unfold seeR
  rw [inRR_eq,inRR_eq,hf]
 unfold fLo at hg
 split at hg
 ·split at hg
  ·obtain rfl:=Option.some.inj hg
   simp only [hp',bo,e]
  ·cases hg
 ·obtain rfl:=Option.some.inj hg
  simp only [hp',bo,e]
 ·cases hg
theorem fBo_fb {T:TypeId} {x:Operand} {g:Bx1 (FT S)} (hg:fBo X T x=some g) {rd:Rdr} {fb fb':List (Nat×Nat)} {hp:Ry.T (It S)} {n:Nat}:g.f rd fb' hp n=g.f rd fb hp n:=by
 obtain rfl:=Option.some.inj hg
 rfl
theorem fAl_fb {T:TypeId} {g:Bx1 (FT S)} (hg:fAl P X T=some g) {rd:Rdr} {fb fb':List (Nat×Nat)} {hp:Ry.T (It S)} {n:Nat}:g.f rd fb' hp n=g.f rd fb hp n:=by
 unfold fAl at hg
 split at hg
 ·split at hg
  ·split at hg
   ·obtain rfl:=Option.some.inj hg;rfl
   ·cases hg
  ·cases hg
 ·cases hg
theorem fBu_fb {t:TypeId} {ps:Array (Nat×Operand)} {g:Bx1 (FT S)} (hg:fBu P t ps=some g) {rd:Rdr} {fb fb':List (Nat×Nat)} {hp:T (It S)} {n:Nat}:g.f rd fb' hp n=g.f rd fb hp n:=by
 unfold fBu at hg
 split at hg
 ·split at hg
  ·obtain rfl:=Option.some.inj hg;rfl
  ·cases hg
 ·cases hg
theorem tE_ok {rd:Rdr} {fb fb':List (Nat×Nat)} {hp:T (It S)} {n:Nat} {op:Op} {ks:List Nat} (h:(tE P X op).f rd fb hp n=some ks) (hf:∀ k∈ks,inR fb' k=inR fb k):evF P X H cons call rd fb' hp n op=evF P X H cons call rd fb hp n op:=by
 have key:∀ {g:Bx1 (FT S)} {r:Rs S},fE P X cons call op=some g→g.f rd fb hp n=some r→g.f rd fb' hp n=g.f rd fb hp n→evF P X H cons call rd fb' hp n op=evF P X H cons call rd fb hp n op:=fun {g r} h1 h2 h3=>by
  rw [evF_fast P X H cons call h1 h2,evF_fast P X H cons call h1 (h3.trans h2)]
 unfold tE at h
 split at h
 ·rename_i g hg
  obtain ⟨v,h1,h2⟩:=bo_some h
  obtain ⟨h3,-⟩:=bb_some h2
  refine key (g:=⟨fun rd _ hp n=>bo (fun v=>bb (some ⟨v,hp,n,[]⟩) (okSR v n)) (g.f rd)⟩) (r:=⟨v,hp,n,[]⟩) (by unfold fE;rw [hg]) ?_ rfl
  simp only [h1,bo,h3,bb]
 ·rename_i hg
  have hE:fE P X cons call op=fMo P X cons call op:=by unfold fE;rw [hg]
  cases op with
  | load t a =>
   simp only at h
   split at h
   ·rename_i g hl
    obtain ⟨r,h1,h2⟩:=bo_some h
    obtain ⟨p,h3,h4⟩:=bo_some h2
    obtain rfl:=Option.some.inj h4
    exact key (hE.trans hl) h1 (fLo_fb P hl h3 (hf _ (.head _)))
   ·cases h
  | box T x =>
   simp only at h
   split at h
   ·rename_i g hl
    obtain ⟨r,h1,h2⟩:=bo_some h
    exact key (hE.trans hl) h1 (fBo_fb X hl)
   ·cases h
  | alloc T =>
   simp only at h
   split at h
   ·rename_i g hl
    obtain ⟨r,h1,h2⟩:=bo_some h
    exact key (hE.trans hl) h1 (fAl_fb P X hl)
   ·cases h
  | build t ps =>
   simp only at h
   split at h
   ·rename_i g hl
    obtain ⟨r,h1,h2⟩:=bo_some h
    exact key (hE.trans hl) h1 (fBu_fb P hl)
   ·cases h
  | _=>cases h
noncomputable def tG (l:List Oper) (o:Oper):Bx1 (Rdr→List (Nat×Nat)→T (It S)→Nat→Option (List Nat)):=match o.guard with
 | none=>tE P X o.op
 | some (j,want)=>match (l[j]?).bind (·.dst) with
  | some t=>match want with
   | true=>⟨fun rd fb hp n=>bo (fun ob=>Option.rec (motive:=fun _=>Option (List Nat)) (some []) (fun b=>Bool.rec (motive:=fun _=>Option (List Nat)) (some []) ((tE P X o.op).f rd fb hp n) b) ob) (bo gV (rd t))⟩
   | false=>⟨fun rd fb hp n=>bo (fun ob=>Option.rec (motive:=fun _=>Option (List Nat)) (some []) (fun b=>Bool.rec (motive:=fun _=>Option (List Nat)) ((tE P X o.op).f rd fb hp n) (some []) b) ob) (bo gV (rd t))⟩
  | none=>⟨fun _ _ _ _=>none⟩
theorem tG_ok {l:List Oper} {o:Oper} {rd:Rdr} {fb fb':List (Nat×Nat)} {hp:T (It S)} {n:Nat} {ks:List Nat} (h:(tG P X l o).f rd fb hp n=some ks) (hf:∀ k∈ks,inR fb' k=inR fb k):(oO P X H cons call l o).f rd fb' hp n=(oO P X H cons call l o).f rd fb hp n:=by
 unfold tG at h
 unfold oO
 split at h
 ·rename_i hg
  simp only [hg]
  exact tE_ok P X H cons call h hf
 ·rename_i j want hg
  split at h
  ·rename_i t ht
   cases want with
   | true =>
    simp only at h
    simp only [hg,ht]
    obtain ⟨ob,h1,h2⟩:=bo_some h
    rw [h1]
    cases ob with
    | none=>rfl
    | some b =>
     cases b with
     | false=>rfl
     | true =>
      show (eOp P X H cons call o.op).f rd fb' hp n=(eOp P X H cons call o.op).f rd fb hp n
      exact tE_ok P X H cons call h2 hf
   | false =>
    simp only at h
    simp only [hg,ht]
    obtain ⟨ob,h1,h2⟩:=bo_some h
    rw [h1]
    cases ob with
    | none=>rfl
    | some b =>
     cases b with
     | true=>rfl
     | false =>
      show (eOp P X H cons call o.op).f rd fb' hp n=(eOp P X H cons call o.op).f rd fb hp n
      exact tE_ok P X H cons call h2 hf
  ·cases h
noncomputable def cnd (t:Option (List Nat)) (sg:List (Nat×Nat)):Bool:=List.rec (motive:=fun _=>Bool) true (fun _ _ _=>Option.rec (motive:=fun _=>Bool) false (fun ks=>allR (fun k=>notR (inRR sg k)) ks) t) sg
abbrev Ts:=Nat×Option (List Nat)
def Cnds (bs:List Nat) (wrs:List (List Nat)):Nat→List Ts→Prop
 | _,[]=>True
 | i,t :: r=>cnd t.2 (sing bs i t.1 0 wrs)=true∧Cnds bs wrs (i+1) r
noncomputable def rgA (b:Nat) (al:List (Nat×Nat×Nat)):List (Nat×Nat):=List.rec (motive:=fun _=>List (Nat×Nat)) [] (fun t _ ih=>Bool.rec (motive:=fun _=>List (Nat×Nat)) (t.2 :: ih) ih (Nat.beq (Nat.mod (Nat.shiftRight b t.1) 2) 1)) al
theorem rgA_app (b:Nat) (t:Nat×Nat×Nat):∀ al,rgA b (al ++ [t])=rgA b al ++ (bif b.testBit t.1 then [] else [t.2])
 | []=>by
  show (Bool.rec (motive:=fun _=>List (Nat×Nat)) [t.2] [] (Nat.beq (Nat.mod (Nat.shiftRight b t.1) 2) 1))=_
  rw [tb]
  cases b.testBit t.1 <;> rfl
 | s :: r=>by
  show (Bool.rec (motive:=fun _=>List (Nat×Nat)) (s.2 :: rgA b (r ++ [t])) (rgA b (r ++ [t])) (Nat.beq (Nat.mod (Nat.shiftRight b s.1) 2) 1))=(Bool.rec (motive:=fun _=>List (Nat×Nat)) (s.2 :: rgA b r) (rgA b r) (Nat.beq (Nat.mod (Nat.shiftRight b s.1) 2) 1)) ++ _
  rw [rgA_app b t r]
  cases Nat.beq (Nat.mod (Nat.shiftRight b s.1) 2) 1 <;> rfl
theorem rngs_app (b:Nat) (x:Rd S):∀ (rs:List (Rd S)) (j:Nat),rngs b j (rs ++ [x])=rngs b j rs ++ (bif b.testBit (j+rs.length) || Nat.beq x.n x.x.n then [] else [(x.n,x.x.n)])
 | [],j=>by simp only [List.nil_append,rngs,List.length_nil,Nat.add_zero]
 | r :: rest,j=>by
  simp only [List.cons_append,rngs]
  rw [rngs_app b x rest (j+1),show j+1+rest.length=j+(r :: rest).length by simp only [List.length_cons];omega]
  cases (b.testBit j || Nat.beq r.n r.x.n) <;> rfl
noncomputable def adA (i n m:Nat) (al:List (Nat×Nat×Nat)):List (Nat×Nat×Nat):=Bool.rec (motive:=fun _=>List (Nat×Nat×Nat)) (appR al [(i,n,m)]) al (Nat.beq n m)
noncomputable def singR (bs:List Nat) (i n:Nat) (rs:List (Rd S)):Nat→List (Nat×Nat):=
 List.rec (motive:=fun _=>Nat→List (Nat×Nat)) (fun _=>[]) (fun r _ ih j=>List.rec (motive:=fun _=>List (Nat×Nat)) (ih (Nat.succ j)) (fun _ _ _=>appR (Bool.rec (motive:=fun _=>List (Nat×Nat)) ((r.x.wr.filter fun k=>Nat.blt k n).map fun k=>(k,k+1)) [] (orR (Nat.beq j i) (orR ((bs.getD i 0).testBit j) ((bs.getD j 0).testBit i)))) (ih (Nat.succ j))) r.x.wr) rs
theorem singR_eq (bs:List Nat) (i n:Nat):∀ (rs:List (Rd S)) (j:Nat),singR bs i n rs j=sing bs i n j (rs.map (·.x.wr))
 | [],_=>rfl
 | r :: rest,j=>by
  have ih:=singR_eq bs i n rest (Nat.succ j)
  show (List.rec (motive:=fun _=>List (Nat×Nat)) (singR bs i n rest (Nat.succ j)) (fun _ _ _=>appR (Bool.rec (motive:=fun _=>List (Nat×Nat)) ((r.x.wr.filter fun k=>Nat.blt k n).map fun k=>(k,k+1)) [] (orR (Nat.beq j i) (orR ((bs.getD i 0).testBit j) ((bs.getD j 0).testBit i)))) (singR bs i n rest (Nat.succ j))) r.x.wr)=_
  rw [ih]
  simp only [List.map_cons,sing]
  cases hw:r.x.wr with
  | nil=>cases (Nat.beq j i || (bs.getD i 0).testBit j || (bs.getD j 0).testBit i) <;> rfl
  | cons k w =>
   simp only [orR_eq,appR_eq]
   cases Nat.beq j i <;> cases (bs.getD i 0).testBit j <;> cases (bs.getD j 0).testBit i <;> rfl
noncomputable def chkT (bs:List Nat) (rs:List (Rd S)) (ts:List Ts):Nat→Bool:=
 List.rec (motive:=fun _=>Nat→Bool) (fun _=>true) (fun t _ ih i=>Bool.rec (motive:=fun _=>Bool) false (ih (Nat.succ i)) (cnd t.2 (singR bs i t.1 rs 0))) ts
theorem chkT_ok {bs:List Nat} {rs:List (Rd S)}:∀ {ts:List Ts} {i:Nat},chkT bs rs ts i=true→Cnds bs (rs.map (·.x.wr)) i ts
 | [],_,_=>trivial
 | t :: r,i,h=>by
  have h:(Bool.rec (motive:=fun _=>Bool) false (chkT bs rs r (Nat.succ i)) (cnd t.2 (singR bs i t.1 rs 0)))=true:=h
  cases hc:cnd t.2 (singR bs i t.1 rs 0) with
  | false=>rw [hc] at h;cases h
  | true =>
   rw [hc] at h
   rw [singR_eq] at hc
   exact ⟨hc,chkT_ok h⟩
noncomputable def wsR (rs:List (Rd S)):Nat→List (Nat×List Nat):=
 List.rec (motive:=fun _=>Nat→List (Nat×List Nat)) (fun _=>[]) (fun r _ ih j=>List.rec (motive:=fun _=>List (Nat×List Nat)) (ih (Nat.succ j)) (fun _ _ _=>(j,r.x.wr) :: ih (Nat.succ j)) r.x.wr) rs
noncomputable def singW (bs:List Nat) (i n:Nat) (ws:List (Nat×List Nat)):List (Nat×Nat):=
 List.rec (motive:=fun _=>List (Nat×Nat)) [] (fun w _ ih=>appR (Bool.rec (motive:=fun _=>List (Nat×Nat)) ((w.2.filter fun k=>Nat.blt k n).map fun k=>(k,k+1)) [] (orR (Nat.beq w.1 i) (orR ((bs.getD i 0).testBit w.1) ((bs.getD w.1 0).testBit i)))) ih) ws
theorem singW_eq (bs:List Nat) (i n:Nat):∀ (rs:List (Rd S)) (j:Nat),singW bs i n (wsR rs j)=singR bs i n rs j
 | [],_=>rfl
 | r :: rest,j=>by
  have ih:=singW_eq bs i n rest (Nat.succ j)
  show singW bs i n (List.rec (motive:=fun _=>List (Nat×List Nat)) (wsR rest (Nat.succ j)) (fun _ _ _=>(j,r.x.wr) :: wsR rest (Nat.succ j)) r.x.wr)=(List.rec (motive:=fun _=>List (Nat×Nat)) (singR bs i n rest (Nat.succ j)) (fun _ _ _=>appR (Bool.rec (motive:=fun _=>List (Nat×Nat)) ((r.x.wr.filter fun k=>Nat.blt k n).map fun k=>(k,k+1)) [] (orR (Nat.beq j i) (orR ((bs.getD i 0).testBit j) ((bs.getD j 0).testBit i)))) (singR bs i n rest (Nat.succ j))) r.x.wr)
  rw [← ih]
  cases r.x.wr <;> rfl
noncomputable def chkW (bs:List Nat) (ws:List (Nat×List Nat)) (ts:List Ts):Nat→Bool:=
 List.rec (motive:=fun _=>Nat→Bool) (fun _=>true) (fun t _ ih i=>Bool.rec (motive:=fun _=>Bool) false (ih (Nat.succ i)) (cnd t.2 (singW bs i t.1 ws))) ts
theorem chkW_eq (bs:List Nat) (rs:List (Rd S)):∀ (ts:List Ts) (i:Nat),chkW bs (wsR rs 0) ts i=chkT bs rs ts i
 | [],_=>rfl
 | t :: r,i=>by
  show (Bool.rec (motive:=fun _=>Bool) false (chkW bs (wsR rs 0) r (Nat.succ i)) (cnd t.2 (singW bs i t.1 (wsR rs 0))))=(Bool.rec (motive:=fun _=>Bool) false (chkT bs rs r (Nat.succ i)) (cnd t.2 (singR bs i t.1 rs 0)))
  rw [singW_eq,chkW_eq bs rs r (Nat.succ i)]
theorem subL_refl (w:List Nat):subL w w=true:=by
 unfold subL
 rw [List.all_eq_true]
 exact fun k hk=>List.any_eq_true.2 ⟨k,hk,Nat.beq_refl k⟩
noncomputable def dT (bs:List Nat) (l:List Oper):List Oper→Nat→Bx1 (List (Nat×Nat)→Nat→List (Nat×Nat×Nat)→St S→Option (List (Rd S)×List Ts×St S))
 | [],_=>⟨fun _ _ _ σ=>some ([],[],σ)⟩
 | o :: r,i=>⟨fun fb n0 al σ=>bo (fun x=>bb (bo (fun q=>some (⟨σ.n,x⟩ :: q.1,(σ.n,(tG P X l o).f (rdQ l bs i σ.regs) (appR (rgA (bs.getD i 0) al) fb) σ.hp σ.n) :: q.2.1,q.2.2)) (strN (fun n=>strT (fun hp=>(dT bs l r (i+1)).f fb n0 (adA i σ.n n al) ⟨(sD o.dst).f σ.regs x.v,hp,n,mrgR n0 x.wr σ.wr,σ.df⟩) x.hp) x.n)) (okDR (rgA (bs.getD i 0) al) σ.n x))
   ((oO P X H cons call l o).f (rdQ l bs i σ.regs) (appR (rgA (bs.getD i 0) al) fb) σ.hp σ.n)⟩
theorem dT_ok (bs:List Nat) (l:List Oper) (fb:List (Nat×Nat)) (n0:Nat):∀ (r:List Oper) (i:Nat) {rs:List (Rd S)} {al:List (Nat×Nat×Nat)} {p:List (Rd S)×List Ts×St S} {σ:St S},rs.length=i→(∀ b,rgA b al=rngs b 0 rs)→(dT P X H cons call bs l r i).f fb n0 al σ=some p →
  ∀ wrs,(wrs=[]∨Cnds bs wrs i p.2.1)→runD (evF P X H cons call) fb n0 bs wrs l r i rs σ=some (rs ++ p.1,p.2.2)
 | [],i,rs,al,p,σ,_,_,h=>by
  obtain rfl:([],[],σ)=p:=Option.some.inj h
  exact fun _ _=>by simp only [List.append_nil];rfl
 | o :: r,i,rs,al,p,σ,hi,ha,h=>by
  obtain ⟨x,h1,h2⟩:=bo_some h
  obtain ⟨h5,h2⟩:=bb_some h2
  obtain ⟨q,h6,h7⟩:=bo_some h2
  obtain rfl:=Option.some.inj h7
  rw [okDR_eq,ha] at h5
  rw [strN_eq,strT_eq] at h6
  have ha':∀ b,rgA b (adA i σ.n x.n al)=rngs b 0 (rs ++ [⟨σ.n,x⟩]):=fun b=>by
   rw [rngs_app,Nat.zero_add,hi,← ha]
   unfold adA
   cases hb:Nat.beq σ.n x.n with
   | true=>simp only [Bool.or_true,cond_true,List.append_nil]
   | false =>
    simp only [Bool.or_false]
    rw [appR_eq,rgA_app]
  have h8:=dT_ok bs l fb n0 r (i+1) (rs:=rs ++ [⟨σ.n,x⟩]) (by rw [List.length_append,hi];rfl) ha' h6
  have h1':=h1
  rw [oO_eq,funext (rdQ_eq l bs i σ.regs),appR_eq,ha] at h1
  have e:∀ w:List (Rd S),rs ++ [⟨σ.n,x⟩] ++ w=rs ++ ⟨σ.n,x⟩ :: w:=fun w=>by rw [List.append_assoc];rfl
  rw [e,sD_eq,mrgR_eq] at h8
  intro wrs hc
  have h9:evalG (evF P X H cons call) l (rdD l bs i σ.regs) ((rngs (bs.getD i 0) 0 rs ++ sing bs i σ.n 0 wrs) ++ fb) σ.hp σ.n o=some x:=by
   cases hs:sing bs i σ.n 0 wrs with
   | nil=>rw [List.append_nil];exact h1
   | cons z zs =>
    rcases hc with rfl | ⟨hc1,-⟩
    ·cases hs
    simp only at hc1
    rw [hs] at hc1
    cases ht:(tG P X l o).f (rdQ l bs i σ.regs) (appR (rgA (bs.getD i 0) al) fb) σ.hp σ.n with
    | none=>rw [ht] at hc1;cases hc1
    | some ks =>
     rw [ht] at hc1
     have hc1:allR (fun k=>notR (inRR (z :: zs) k)) ks=true:=hc1
     rw [allR_eq,List.all_eq_true] at hc1
     have h10:=tG_ok P X H cons call ht (fb':=(rngs (bs.getD i 0) 0 rs ++ (z :: zs)) ++ fb) fun k hk=>by
      have:=hc1 k hk
      rw [notR_eq,inRR_eq,Bool.not_eq_true'] at this
      rw [appR_eq,ha,inR_app,inR_app,inR_app,this,Bool.or_false]
     rw [← oO_eq,← funext (rdQ_eq l bs i σ.regs),h10]
     exact h1'
  simp only [runD,h9,h5,cond_true]
  exact h8 wrs (hc.imp id And.right)
noncomputable def rgT (l:List Oper):Bx1 (List (Nat×Nat)→Nat→St S→Option (St S)):=
 ⟨fun fb n0 σ=>bo (fun p=>Bool.rec (motive:=fun _=>Option (St S)) (Bool.rec (motive:=fun _=>Option (St S)) (regD (evF P X H cons call) fb n0 l σ) (some p.2.2) (chkW (befs l []) (wsR p.1 0) p.2.1 0)) (some p.2.2) (nilW p.1)) ((dT P X H cons call (befs l []) l l 0).f fb n0 [] σ)⟩
theorem rgT_ok (l:List Oper) (fb:List (Nat×Nat)) (n0:Nat) {σ τ:St S} (h:(rgT P X H cons call l).f fb n0 σ=some τ):regD (evF P X H cons call) fb n0 l σ=some τ:=by
 obtain ⟨p,h1,h2⟩:=bo_some h
 have h5:=dT_ok P X H cons call (befs l []) l fb n0 l 0 (rs:=[]) rfl (fun _=>rfl) h1
 have h3:=h5 [] (.inl rfl)
 rw [List.nil_append] at h3
 cases hn:nilW p.1 with
 | true =>
  rw [hn] at h2
  obtain rfl:p.2.2=τ:=Option.some.inj h2
  unfold regD
  rw [h3]
  simp only [hn,Bool.true_or,cond_true]
 | false =>
  rw [hn] at h2
  cases h6:chkW (befs l []) (wsR p.1 0) p.2.1 0 with
  | false=>rw [h6] at h2;exact h2
  | true =>
   rw [h6] at h2
   obtain rfl:p.2.2=τ:=Option.some.inj h2
   rw [chkW_eq] at h6
   have h8:=h5 _ (.inr (chkT_ok h6))
   rw [List.nil_append] at h8
   unfold regD
   rw [h3]
   simp only [hn,Bool.false_or]
   cases (List.range l.length).all (fun i=>(sing (befs l []) i p.2.2.n 0 (p.1.map (·.x.wr))).isEmpty) with
   | true=>rfl
   | false =>
    simp only [cond_false,h8]
    rw [show (List.range l.length).all (fun i=>subL (p.1.getD i default).x.wr (p.1.getD i default).x.wr)=true from List.all_eq_true.2 fun i _=>subL_refl _]
    rfl
noncomputable def cT (N:Nat):Nat→Code→Bx1 (List (Nat×Nat)→Nat→Option Nat→St S→Option (Ex×St S))
 | 0,_=>⟨fun _ _ _ _=>none⟩
 | f+1,c=>match c with
  | .skip=>⟨fun _ _ _ σ=>some (.normal,σ)⟩
  | .label _=>⟨fun _ _ _ σ=>some (.normal,σ)⟩
  | .exit id=>⟨fun _ _ _ σ=>some (.exit id,σ)⟩
  | .ret=>⟨fun _ _ _ σ=>some (.ret,σ)⟩
  | .region _ ops d=>match lexB 0 ops.toList && dstsB ops.toList && insB N ops.toList with
   | true=>match d with
    | true=>⟨fun fb n0 _ σ=>bo (fun σ'=>some (.normal,σ')) ((rgT P X H cons call ops.toList).f fb n0 σ)⟩
    | false=>⟨fun fb n0 _ σ=>bo (fun σ'=>some (.normal,σ')) ((sO P X H cons call ops.toList ops.toList).f fb n0 σ)⟩
   | false=>⟨fun _ _ _ _=>none⟩
  | .seq a b=>⟨fun fb n0 rk σ=>seqX ((cT N f b).f fb n0 rk) ((cT N f a).f fb n0 rk σ)⟩
  | .cond c x y=>⟨fun fb n0 rk σ=>bo (fun b=>Bool.rec (motive:=fun _=>Option (Ex×St S)) ((cT N f y).f fb n0 rk σ) ((cT N f x).f fb n0 rk σ) b) (bo bolC (oneV ((rO c).f (rdF σ.regs))))⟩
  | .block id c=>⟨fun fb n0 rk σ=>blkX id ((cT N f c).f fb n0 rk σ)⟩
  | .loop c=>⟨fun fb n0 rk σ=>loopR ((cT N f c).f fb n0 rk) f σ⟩
  | .scope c=>⟨fun fb n0 rk σ=>(cT N f c).f fb n0 rk σ⟩
  | .rangeFunc g ps x y=>⟨fun fb n0 rk σ=>rangeX P call fb n0 N rk g ps x y σ⟩
  | _=>⟨fun _ _ _ _=>none⟩
def Imp (g f:St S→Option (Ex×St S)):Prop:=∀ σ r,g σ=some r→f σ=some r
theorem seqX_imp {g k f m:St S→Option (Ex×St S)} (h1:Imp g f) (h2:Imp k m):Imp (fun σ=>seqX k (g σ)) (fun σ=>match f σ with
  | some (.normal,σ1)=>m σ1
  | r=>r):=fun σ r h=>by
 obtain ⟨⟨y,c⟩,h3,h4⟩:=bo_some h
 simp only [h1 _ _ h3]
 cases y with
 | normal=>exact h2 _ _ h4
 | exit i=>exact h4
 | ret=>exact h4
theorem loopR_imp {g f:St S→Option (Ex×St S)} (h1:Imp g f):∀ n,Imp (loopR g n) (loopX f n)
 | 0=>fun σ r h=>by cases h
 | n+1=>fun σ r h=>seqX_imp h1 (loopR_imp h1 n) σ r h
theorem cT_ok (N:Nat) (fb:List (Nat×Nat)) (n0:Nat) (rk:Option Nat):∀ (f:Nat) (c:Code),Imp ((cT P X H cons call N f c).f fb n0 rk) (exec P (evF P X H cons call) call fb n0 N rk f c)
 | 0,_=>fun σ r h=>by cases h
 | f+1,c=>fun σ r h=>by
  have ih:=cT_ok N fb n0 rk f
  cases c with
  | region id ops d =>
   simp only [cT] at h
   simp only [exec]
   cases hb:lexB 0 ops.toList && dstsB ops.toList && insB N ops.toList with
   | false=>rw [hb] at h;cases h
   | true =>
    rw [hb] at h
    cases d with
    | true =>
     obtain ⟨b',h1,h2⟩:=bo_some h
     simp only [cond_true,rgT_ok P X H cons call _ _ _ h1]
     exact h2
    | false =>
     obtain ⟨b',h1,h2⟩:=bo_some h
     rw [sO_eq] at h1
     simp only [cond_true,cond_false,h1]
     exact h2
  | seq a b=>exact seqX_imp (ih a) (ih b) σ r h
  | cond c x y =>
   obtain ⟨v,h1,h2⟩:=bo_some h
   obtain ⟨d,h3,h4⟩:=bo_some h1
   have h3:=oneV_some h3
   rw [rO_eq,show rdF σ.regs=(fun t=>some (rdG σ.regs t)) from funext (rdF_eq σ.regs),bolC_some h4] at h3
   simp only [exec,h3]
   cases v with
   | true=>exact ih x _ _ h2
   | false=>exact ih y _ _ h2
  | block id c =>
   have h:blkX id ((cT P X H cons call N f c).f fb n0 rk σ)=some r:=h
   rw [blkX_eq] at h
   cases h1:(cT P X H cons call N f c).f fb n0 rk σ with
   | none=>rw [h1] at h;cases h
   | some p =>
    rw [h1] at h
    simp only [exec,ih c _ _ h1]
    exact h
  | loop c=>exact loopR_imp (ih c) f σ r h
  | scope c=>exact ih c σ r h
  | skip=>exact h
  | label l=>exact h
  | exit i=>exact h
  | ret=>exact h
  | rangeFunc g ps x y=>exact h
  | _=>cases h
noncomputable def endT (rs:List ResultVar) (fb:List (Nat×Nat)) (n:Nat) (σ0:St S):Option (Rs S):=match leaveY fb n σ0.df σ0 with
 | some σ=>match resYL P fb σ rs with
  | some l=>bif okS σ.n (packR l) then some ⟨packR l,σ.hp,σ.n,σ.wr⟩ else none
  | none=>none
 | none=>none
noncomputable def fnT (fuel:Nat) (fn:Func) (c:Code):Bx1 (List (Nat×Nat)→List SV→T (It S)→Nat→Option (Rs S)):=
 ⟨fun fb args hp n=>bb (bo (fun p=>Ex.rec (motive:=fun _=>Option (Rs S)) (endT P fn.results.toList fb n p.2) (fun _=>none) (endT P fn.results.toList fb n p.2) p.1) ((cT P X H cons call fn.ntmps fuel c).f fb n none ⟨setA 0 args .l,hp,n,[],[]⟩)) (Nat.ble args.length fn.ntmps && Nat.ble fn.ntmps top && args.all (okS n))⟩
theorem fnT_ok {fuel:Nat} {f:FuncId} {fn:Func} {c:Code} {fb:List (Nat×Nat)} {args:List SV} {hp:T (It S)} {n:Nat} {r:Rs S} (hfn:P.funcs[f]? = some fn) (hc:fn.body=some c) (h:(fnT P X H cons call fuel fn c).f fb args hp n=some r):runY P (evF P X H cons call) call fb fuel f args hp n=some r:=by
 obtain ⟨h1,h2⟩:=bb_some h
 obtain ⟨⟨x,σ⟩,h3,h4⟩:=bo_some h2
 unfold runY
 rw [hfn]
 simp only [hc,h1,cond_true,cT_ok P X H cons call _ _ _ _ _ _ _ _ h3]
 cases x with
 | exit i=>cases h4
 | _=>exact h4
noncomputable def roundT (fuel:Nat) (fb:List (Nat×Nat)) (k:Nat) (args:List SV) (hp:T (It S)) (n:Nat):Option (Rs S):=match see fb hp k with
 | some (.lp ⟨_,_,rg,N,ps,x,y,_⟩)=>strN (fun N=>bb (match (cT P X H cons call N fuel x).f fb n (some k) ⟨setP ps args rg,hp,n,[],[]⟩ with
   | some (.normal,σ1)=>(match see fb σ1.hp k with
    | some (.lp ⟨st,pe,rg,N1,ps,x,y1,d⟩)=>bb (match (cT P X H cons call N fuel y).f fb n (some k) ⟨σ1.regs,σ1.hp.set (some (.lp ⟨2,pe,rg,N1,ps,x,y1,d⟩)) k,σ1.n,mrg n [k] σ1.wr,σ1.df⟩ with
     | some (e,σ2)=>(match see fb σ2.hp k with
      | some (.lp ⟨_,_,rg,N,ps,x,y,d⟩)=>bb (some ⟨.e (.s (.bl (pendX e).2.2)),σ2.hp.set (some (.lp ⟨(pendX e).1,(pendX e).2.1,rg,N,ps,x,y,d⟩)) k,σ2.n,mrg n [k] σ2.wr⟩) (Nat.blt σ2.n top)
      | _=>none)
     | none=>none) (Nat.beq st 0 && Nat.blt σ1.n top)
    | _=>none)
   | _=>none) (Nat.beq args.length ps.length && ps.all (fun t=>Nat.blt t N) && Nat.ble N top && args.all (okS n))) N
 | _=>none
theorem roundT_ok {fuel k:Nat} {fb:List (Nat×Nat)} {args:List SV} {hp:T (It S)} {n:Nat} {r:Rs S} (h:roundT P X H cons call fuel fb k args hp n=some r):roundY P (evF P X H cons call) call fb fuel k args hp n=some r:=by
 unfold roundT at h
 unfold roundY
 split at h
 ·rename_i hL
  rw [strN_eq] at h
  obtain ⟨h1,h2⟩:=bb_some h
  rw [hL]
  simp only [h1,cond_true]
  split at h2
  ·rename_i hx
   simp only [cT_ok P X H cons call _ _ _ _ _ _ _ _ hx]
   split at h2
   ·rename_i hL1
    obtain ⟨h3,h4⟩:=bb_some h2
    simp only [hL1,h3,cond_true]
    split at h4
    ·rename_i hy
     simp only [cT_ok P X H cons call _ _ _ _ _ _ _ _ hy]
     split at h4
     ·rename_i hL2
      obtain ⟨h5,h6⟩:=bb_some h4
      simp only [hL2,h5,cond_true]
      exact h6
     ·cases h4
    ·cases h4
   ·cases h2
  ·cases h2
 ·cases h
end
end Rx.Ry
end Go.Proofs.YtmijlcldmefggaaGreatDoor
