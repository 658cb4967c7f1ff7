/- What the proof rests on, part 36. -/
import Derived.Test.YtefbfbdijimanaaGreatDoorP35
namespace Go.Proofs.YtefbfbdijimanaaGreatDoor
set_option maxRecDepth 100000
set_option maxHeartbeats 80000000
namespace Rx
open Go.RowKit
section
variable {β:Nat→Rat}
theorem Za (x B D B' D':Rat):gB x B D B' D' = -1∨gB x B D B' D' = 0∨gB x B D B' D' = 1:=by
 unfold gB
 have h1:=ql 0 B D
 have h2:=ql 0 B' D'
 have h3:=oM (B*B*D) (B' * B' * D')
 have h4:=sg3 x
 have h5:=ql (x*x - B*B*D - B' * B' * D') (-(B*B' + B*B')) (D*D')
 generalize sgS 0 B D=p at *
 generalize sgS 0 B' D' = q at *
 generalize aS (B*B*D) (B' * B' * D')=o at *
 generalize sgQ x=s at *
 generalize sgS (x*x - B*B*D - B' * B' * D') (-(B*B' + B*B')) (D*D')=d at *
 have hr:(if p=0 then q else if q = -p then p*o else p) = -1∨(if p=0 then q else if q = -p then p*o else p)=0∨(if p=0 then q else if q = -p then p*o else p)=1:=by
  split
  ·exact h2
  ·split
   ·exact qc h1 h3
   ·exact h1
 unfold lN
 generalize (if p=0 then q else if q = -p then p*o else p)=r at *
 split
 ·exact h4
 ·split
  ·exact hr
  ·exact qc h4 h5
theorem Gv {v:Int} (hv:v = -1∨v=0∨v=1) (h:v≠0):(([]:List Int),v)∈cb0:=by
 rcases hv with rfl | rfl | rfl <;> first | exact absurd rfl h | decide
theorem Gw {k v:Int} (hk:k = -1∨k=0∨k=1) (hv:v = -1∨v=0∨v=1) (h:k=0↔v=0):([k],v)∈cb1:=by
 rcases hk with rfl | rfl | rfl <;> rcases hv with rfl | rfl | rfl <;> first | (exfalso;omega) | decide
theorem Gx {k l v:Int} (hk:k = -1∨k=0∨k=1) (hl:l = -1∨l=0∨l=1) (hv:v = -1∨v=0∨v=1) (h:(k=0∨l=0)↔v=0):([k,l],v)∈cb2:=by
 rcases hk with rfl | rfl | rfl <;> rcases hl with rfl | rfl | rfl <;> rcases hv with rfl | rfl | rfl <;> first | (exfalso;omega) | decide
def ord (β:Nat→Rat) (r:Tri):Int:=gB (β 3 - r.1.ev β) (β 4) (β 5) (-r.2.1.ev β) (r.2.2.ev β)
def vS (β:Nat→Rat):Int:=sgS ((iU me).1.ev β) ((iU me).2.1.ev β) (β 5)
def Goal (β:Nat→Rat):Prop:=∃ (h:Hint) (rs:List Tri) (L:SgL) (ks:List Int) (N:List RE),(∀ c∈uf β h L (cLs rs ks) N,c.Ok Tryz.prog (SQ β) EV)∧uj β h rs L ks N=true
theorem qE {h:Hint} {rs:List Tri} {cb:List (List Int×Int)} (hz:dJ h rs cb) (ok:h.Ok β) (hL:jB β (sL0 rs)) (hN:iD β (rs.map (·.2.2))) (ks:List Int) (hC:lW β (cLs rs ks)) (hC0:lW β (cLs rs [])) (hcb:(sgQ (β 5)=0∨sgQ (β 5)=1)→(ks,vS β)∈cb):Goal β:=by
 have hr:=hz β
 rw [Bool.and_eq_true] at hr
 rcases sg3 (β 5) with hd | hd
 ·have ok':(noD h).Ok β:=⟨ok.1,ok.2.1,ok.2.2.1,fun p hp=>by
   rcases List.mem_cons.1 hp with rfl | hp
   ·exact hd
   ·exact ok.2.2.2.1 p hp,ok.2.2.2.2⟩
  have hc:=MX (β:=β) (h:=noD h) (L:=sL0 rs) (C:=cLs rs []) (N:=rs.map (·.2.2)) ok' hL hC0 hN
  have h1:=hr.1
  have t3:(∀ c∈uf β (noD h) (sL0 rs) (cLs rs []) (rs.map (·.2.2)),c.Ok Tryz.prog (SQ β) EV)∧uj β (noD h) rs (sL0 rs) [] (rs.map (·.2.2))=true:=And.intro hc h1
  unfold Goal
  refine ⟨noD h,rs,sL0 rs,[],rs.map (·.2.2),?_⟩
  exact t3
 ·have hr2:=List.all_eq_true.1 hr.2 (ks,vS β) (hcb hd)
  have hN':iD β (y5 :: rs.map (·.2.2)):=fun e he=>by
   rcases List.mem_cons.1 he with rfl | he
   ·exact hd
   ·exact hN e he
  have hL':jB β (sLs rs (vS β)):=fun p hp=>by
   rcases List.mem_cons.1 hp with rfl | hp
   ·rfl
   ·exact hL p hp
  have hc:=MX (β:=β) (h:=h) (L:=sLs rs (vS β)) (C:=cLs rs ks) (N:=y5 :: rs.map (·.2.2)) ok hL' hC hN'
  have t3:(∀ c∈uf β h (sLs rs (vS β)) (cLs rs ks) (y5 :: rs.map (·.2.2)),c.Ok Tryz.prog (SQ β) EV)∧uj β h rs (sLs rs (vS β)) ks (y5 :: rs.map (·.2.2))=true:=And.intro hc hr2
  unfold Goal
  refine ⟨h,rs,sLs rs (vS β),ks,y5 :: rs.map (·.2.2),?_⟩
  exact t3
theorem yK:(iU me).1.ev β=β 0*(β 3*β 3+β 4*β 4*β 5)+β 1*β 3+β 2:=rfl
theorem yM:(iU me).2.1.ev β=β 0*((1+1)*β 3*β 4)+β 1*β 4:=by
 show β 0*(((2:Int):Rat)*β 3*β 4)+β 1*β 4=_
 rw [Fa]
theorem KJ (r:Tri):(iU r).1.ev β=β 0*(r.1.ev β*r.1.ev β+r.2.1.ev β*r.2.1.ev β*r.2.2.ev β)+β 1*r.1.ev β+β 2:=rfl
theorem KL (r:Tri):(iU r).2.1.ev β=β 0*((1+1)*r.1.ev β*r.2.1.ev β)+β 1*r.2.1.ev β:=by
 show β 0*(((2:Int):Rat)*r.1.ev β*r.2.1.ev β)+β 1*r.2.1.ev β=_
 rw [Fa]
theorem EJ {A B D:Rat} (hA:A=0) (hB:B=0):sgS A B D=0:=by
 rw [vX,hB,show sgQ 0=0 from rfl,Int.zero_mul,iI];exact hA
theorem JF:iD β [c00]:=fun e he=>by
 obtain rfl:=List.mem_singleton.1 he
 exact .inl rfl
theorem mG {L:CmL} (h:L=[]):lW β L:=by subst h;exact fun p hp=>by cases hp
theorem CZ:rU.ev β=β 1*β 1 - (β 0+β 0)*β 2*(1+1):=by
 show β 1*β 1 - (β 0+β 0)*β 2*((2:Int):Rat)=_
 rw [Fa]
theorem CY (h:β 0≠0):rM.ev β*(β 0+β 0) = -β 1:=Rat.div_mul_cancel (nM h)
def qQ (β:Nat→Rat):Rat:=rU.ev β / ((β 0+β 0)*(β 0+β 0))
theorem Hf (h:β 0≠0):0<(β 0+β 0)*(β 0+β 0):=sq_pos (nM h)
theorem zJ (h:β 0≠0):qQ β*((β 0+β 0)*(β 0+β 0))=β 1*β 1 - (β 0+β 0)*β 2*(1+1):=by
 rw [← CZ]
 exact Rat.div_mul_cancel (fun h0=>by have:=Hf h;rw [h0] at this;exact Rat.lt_irrefl this)
theorem Ey (h:β 0≠0):sgQ (qQ β)=sgQ (rU.ev β):=by
 have h1:=Hf h
 have h2:qQ β*((β 0+β 0)*(β 0+β 0))=rU.ev β:=by rw [zJ h,CZ]
 rw [← h2,lJ,fO.2 h1,Int.mul_one]
theorem Ah (h:β 0≠0):vS β=0↔zS (sgQ (β 3 - rM.ev β)*(sgQ (β 4)*sgQ (β 5))) (4*((β 3 - rM.ev β)*(β 3 - rM.ev β)*(β 4*β 4*β 5))) ((β 3 - rM.ev β)*(β 3 - rM.ev β)+β 4*β 4*β 5 - qQ β):=by
 unfold vS
 rw [yK,yM]
 exact val_zero h (CY h) (zJ h)
theorem vS3:vS β = -1∨vS β=0∨vS β=1:=ql _ _ _
theorem sJ (r:Tri):ord β r = -1∨ord β r=0∨ord β r=1:=Za _ _ _ _ _
theorem at_root (h:β 0≠0) (r:Tri) (h1:(r.1.ev β - rM.ev β)*(r.1.ev β - rM.ev β)+r.2.1.ev β*r.2.1.ev β*r.2.2.ev β=qQ β) (h2:(r.1.ev β - rM.ev β)*r.2.1.ev β=0):sgS ((iU r).1.ev β) ((iU r).2.1.ev β) (r.2.2.ev β)=0:=by
 refine EJ ?_ ?_
 ·rw [KJ,MH h (CY h) (zJ h),h1]
  grind
 ·rw [KL,MI (CY h),show (r.1.ev β - rM.ev β+(r.1.ev β - rM.ev β))*r.2.1.ev β=(r.1.ev β - rM.ev β)*r.2.1.ev β+(r.1.ev β - rM.ev β)*r.2.1.ev β by grind,h2]
  grind
theorem zK (e:RE):ord β (e,c00,c00)=0↔zS (sgQ (β 4)*sgQ (β 5)) (β 4*β 4*β 5) (β 3 - e.ev β):=by
 unfold ord
 show gB (β 3 - e.ev β) (β 4) (β 5) (-(0:Rat)) 0=0↔_
 rw [EX,show -(0:Rat)=0 from rfl,show sgQ 0=0 from rfl,Int.zero_mul,show (0:Rat)*0*0=0 by grind]
 exact WO
theorem OH (h0:β 0=0) (h1:β 1=0) (h2:β 2=0):Goal β:=by
 have z:∀ {x:Rat},x=0→sgQ x=0:=fun h=>dU.2 h
 refine qE ZK ⟨fun p h=>(by cases h),fun p h=>(by cases h),fun p h=>(by cases h),?_,fun p h=>(by cases h)⟩ (fun p hp=>by cases hp) (fun e he=>by cases he) [] (mG rfl) (mG rfl) fun _=>?_
 ·simp only [z0,List.forall_mem_cons,List.not_mem_nil,false_imp_iff,implies_true,and_true]
  exact ⟨z h0,z h1,z h2⟩
 ·have:vS β=0:=EJ (by rw [yK,h0,h1,h2];grind) (by rw [yM,h0,h1];grind)
  rw [this];decide
theorem OI (h0:β 0=0) (h1:β 1=0) (h2:β 2≠0):Goal β:=by
 have hv:vS β≠0:=fun h=>by
  unfold vS at h
  rw [yK,yM,h0,h1,vX,show (0:Rat)*((1+1)*β 3*β 4)+0*β 4=0 by grind,show sgQ 0=0 from rfl,Int.zero_mul,iI] at h
  exact h2 (by grind)
 have go:∀ {s:Int},dJ (z1 s) [] cb0→sgQ (β 2)=s→Goal β:=fun {s} hz hs=>by
  refine qE hz ⟨fun p h=>(by cases h),fun p h=>(by cases h),fun p h=>(by cases h),?_,fun p h=>(by cases h)⟩ (fun p hp=>by cases hp) (fun e he=>by cases he) [] (mG rfl) (mG rfl) fun _=>Gv vS3 hv
  simp only [z1,List.forall_mem_cons,List.not_mem_nil,false_imp_iff,implies_true,and_true]
  exact ⟨dU.2 h0,dU.2 h1,hs⟩
 rcases tK h2 rfl with h | h
 ·exact go ZM h
 ·exact go ZL h
theorem OJ (h0:β 0=0) (h1:β 1≠0):Goal β:=by
 obtain ⟨q,hq⟩:∃ q,q=(RE.div (.neg y2) y1).ev β:=⟨_,rfl⟩
 have hqb:q*β 1 = -β 2:=by rw [hq];exact Rat.div_mul_cancel h1
 have hk:ord β (.div (.neg y2) y1,c00,c00)=0↔vS β=0:=by
  rw [zK,← hq]
  unfold vS
  rw [yK,yM,h0,vX,show 0*(β 3*β 3+β 4*β 4*β 5)+β 1*β 3+β 2=β 1*(β 3 - q) by grind,show 0*((1+1)*β 3*β 4)+β 1*β 4=β 1*β 4 by grind,lJ,Int.mul_assoc,show β 1*β 4*(β 1*β 4)*β 5=β 1*β 1*(β 4*β 4*β 5) by grind]
  exact (MW h1).symm
 have go:∀ {s:Int},dJ (z2 s) r2 cb1→sgQ (β 1)=s→Goal β:=fun {s} hz hs=>by
  refine qE hz ⟨fun p h=>(by cases h),fun p h=>(by cases h),fun p hp=>(by obtain rfl:=List.mem_singleton.1 hp;exact h1),?_,fun p h=>(by cases h)⟩ (fun p hp=>?_) JF [ord β (.div (.neg y2) y1,c00,c00)] (fun p hp=>?_) (mG rfl) fun _=>Gw (sJ _) vS3 hk
  ·simp only [z2,List.forall_mem_cons,List.not_mem_nil,false_imp_iff,implies_true,and_true]
   exact ⟨dU.2 h0,hs,rfl⟩
  ·obtain rfl:=List.mem_singleton.1 hp
   refine EJ ?_ ?_
   ·show (iU (.div (.neg y2) y1,c00,c00)).1.ev β=0
    rw [KJ,h0]
    show 0*((RE.div (.neg y2) y1).ev β*(RE.div (.neg y2) y1).ev β+0*0*0)+β 1*(RE.div (.neg y2) y1).ev β+β 2=0
    rw [← hq];grind
   ·show (iU (.div (.neg y2) y1,c00,c00)).2.1.ev β=0
    rw [KL]
    show β 0*((1+1)*(RE.div (.neg y2) y1).ev β*0)+β 1*0=0
    grind
  ·obtain rfl:=List.mem_singleton.1 hp
   rfl
 rcases tK h1 rfl with h | h
 ·exact go ZO h
 ·exact go ZN h
theorem OL (h0:β 0≠0) (hu:sgQ (rU.ev β) = -1):Goal β:=by
 have hq:=jf.1 ((Ey h0).trans hu)
 have go:∀ {s:Int},dJ (z3 s) [] cb0→sgQ (β 0)=s→Goal β:=fun {s} hz hs=>by
  refine qE hz ⟨fun p h=>(by cases h),fun p h=>(by cases h),fun p hp=>(by obtain rfl:=List.mem_singleton.1 hp;exact nM h0),?_,fun p h=>(by cases h)⟩ (fun p hp=>by cases hp) (fun e he=>by cases he) [] (mG rfl) (mG rfl) fun hd=>Gv vS3 ?_
  ·simp only [z3,List.forall_mem_cons,List.not_mem_nil,false_imp_iff,implies_true,and_true]
   exact ⟨hs,hu⟩
  ·intro h
   obtain ⟨-,g1,g2⟩:=zO (B:=β 4) hd
   refine neg_zero ?_ hq ((Ah h0).1 h)
   by_cases hz:sgQ (β 4)*sgQ (β 5)=0
   ·rw [g1 hz];exact Rat.le_refl
   ·exact Rat.le_of_lt (g2 hz)
 rcases tK h0 rfl with h | h
 ·exact go ZQ h
 ·exact go ZP h
theorem OM (h0:β 0≠0) (hu:sgQ (rU.ev β)=0):Goal β:=by
 have hq:=dU.1 ((Ey h0).trans hu)
 have go:∀ {s:Int},dJ (z4 s) r4 cb1→sgQ (β 0)=s→Goal β:=fun {s} hz hs=>by
  refine qE hz ⟨fun p h=>(by cases h),fun p h=>(by cases h),fun p hp=>(by obtain rfl:=List.mem_singleton.1 hp;exact nM h0),?_,fun p h=>(by cases h)⟩ (fun p hp=>?_) JF [ord β (rM,c00,c00)] (fun p hp=>?_) (mG rfl) fun hd=>Gw (sJ _) vS3 ?_
  ·simp only [z4,List.forall_mem_cons,List.not_mem_nil,false_imp_iff,implies_true,and_true]
   exact ⟨hs,hu,rfl⟩
  ·obtain rfl:=List.mem_singleton.1 hp
   refine at_root h0 (rM,c00,c00) ?_ ?_
   ·rw [hq]
    show (rM.ev β - rM.ev β)*(rM.ev β - rM.ev β)+0*0*0=0
    grind
   ·show (rM.ev β - rM.ev β)*0=0
    grind
  ·obtain rfl:=List.mem_singleton.1 hp
   rfl
  ·obtain ⟨g0,g1,g2⟩:=zO (B:=β 4) hd
   rw [zK,Ah h0,hq,show ∀ x:Rat,x - 0=x from fun x=>by grind]
   exact Qi g0 g1 g2
 rcases tK h0 rfl with h | h
 ·exact go ZT h
 ·exact go ZR h
theorem IL (h0:β 0≠0):rH.ev β*rH.ev β*rU.ev β=qQ β:=by
 have h1:(RE.div (.c 1) rD).ev β*(β 0+β 0)=1:=Rat.div_mul_cancel (nM h0)
 have h2:rH.ev β*rH.ev β=(RE.div (.c 1) rD).ev β*(RE.div (.c 1) rD).ev β:=by
  show (if ((RE.div (.c 1) rD).ev β).num<0 then -(RE.div (.c 1) rD).ev β else (RE.div (.c 1) rD).ev β)*(if ((RE.div (.c 1) rD).ev β).num<0 then -(RE.div (.c 1) rD).ev β else (RE.div (.c 1) rD).ev β)=_
  split <;> grind
 have h3:=zJ h0
 rw [← CZ] at h3
 rw [h2]
 generalize (RE.div (.c 1) rD).ev β=i at *
 generalize β 0+β 0=d at *
 rw [← h3]
 grind
theorem h_pos (h0:β 0≠0):0<rH.ev β:=fO.1 (vY h0)
theorem Yc (hu:sgQ (rU.ev β)=1) (n1:(sq2 (.num rU)).ev β=(RE.num rU).ev β) (n2:(sq2 (.den rU)).ev β=(RE.den rU).ev β):(rtE rU).ev β*(rtE rU).ev β=rU.ev β∧0<(rtE rU).ev β:=by
 have hd:(RE.den rU).ev β≠0:=xO _
 have hn:(rU.ev β)*(RE.den rU).ev β=(RE.num rU).ev β:=(JG _).symm
 have hrd:(RE.rt (.den rU)).ev β≠0:=fun h=>hd (by
  rw [← n2]
  show (RE.rt (.den rU)).ev β*(RE.rt (.den rU)).ev β=0
  rw [h,Rat.zero_mul])
 have hx:(rtE rU).ev β*(RE.rt (.den rU)).ev β=(RE.rt (.num rU)).ev β:=Rat.div_mul_cancel hrd
 have m1:(RE.rt (.num rU)).ev β*(RE.rt (.num rU)).ev β=(RE.num rU).ev β:=n1
 have m2:(RE.rt (.den rU)).ev β*(RE.rt (.den rU)).ev β=(RE.den rU).ev β:=n2
 have hsq:(rtE rU).ev β*(rtE rU).ev β=rU.ev β:=by
  generalize (rtE rU).ev β=x at *
  generalize (RE.rt (.den rU)).ev β=p at *
  generalize (RE.rt (.num rU)).ev β=q at *
  generalize (RE.den rU).ev β=d at *
  have:(x*x - rU.ev β)*d=0:=by grind
  have:=(Rat.mul_eq_zero.1 this).resolve_right hd
  grind
 refine ⟨hsq,?_⟩
 have hne:(rtE rU).ev β≠0:=fun h=>by
  rw [h,Rat.zero_mul] at hsq
  rw [← hsq] at hu
  cases hu
 have hnn:¬ (rtE rU).ev β<0:=fun h=>by
  have p1:0<(RE.rt (.den rU)).ev β:=Rat.lt_of_le_of_ne (show (0:Rat)≤(((isq ((RE.den rU).ev β).num.natAbs:Nat):Int):Rat) by exact_mod_cast Nat.zero_le _) (Ne.symm hrd)
  have p2:0≤(RE.rt (.num rU)).ev β:=show (0:Rat)≤(((isq ((RE.num rU).ev β).num.natAbs:Nat):Int):Rat) by exact_mod_cast Nat.zero_le _
  have:=Rat.mul_pos (show 0 < -(rtE rU).ev β by grind) p1
  rw [← hx] at p2
  grind
 rcases Ko hne with h | h
 ·exact absurd h hnn
 ·exact h
theorem OO (h0:β 0≠0) (hu:sgQ (rU.ev β)=1) (n1:(sq2 (.num rU)).ev β=(RE.num rU).ev β) (n2:(sq2 (.den rU)).ev β=(RE.den rU).ev β):Goal β:=by
 obtain ⟨hs2,hp2⟩:=Yc hu n1 n2
 have hh:=h_pos h0
 have hqq:=Rat.mul_pos hh hp2
 obtain ⟨q,hq⟩:∃ q,q=rH.ev β*(rtE rU).ev β:=⟨_,rfl⟩
 rw [← hq] at hqq
 have hqs:q*q=qQ β:=by
  rw [← IL h0,← hs2,hq];grind
 have hr1:(RE.add rM (.mul (.neg rH) (rtE rU))).ev β=rM.ev β - q:=by
  show rM.ev β + -rH.ev β*(rtE rU).ev β=_
  rw [hq];grind
 have hr2:(RE.add rM (.mul rH (rtE rU))).ev β=rM.ev β+q:=by
  show rM.ev β+rH.ev β*(rtE rU).ev β=_
  rw [hq]
 have hC:lW β [((.add rM (.mul (.neg rH) (rtE rU)),c00,c00),(.add rM (.mul rH (rtE rU)),c00,c00),-1)]:=fun p hp=>by
  obtain rfl:=List.mem_singleton.1 hp
  show gB ((RE.add rM (.mul (.neg rH) (rtE rU))).ev β - (RE.add rM (.mul rH (rtE rU))).ev β) 0 0 (-(0:Rat)) 0 = -1
  rw [hr1,hr2]
  unfold gB lN
  rw [tJ,tJ,show -(0:Rat)=0 from rfl,show sgQ 0=0 from rfl,Int.zero_mul,if_pos rfl,if_pos rfl]
  exact jf.2 (by grind)
 have go:∀ {s:Int},dJ (z5 s) r5 cb2→sgQ (β 0)=s→Goal β:=fun {s} hz hs=>by
  refine qE hz ⟨?_,fun p h=>(by cases h),fun p hp=>(by obtain rfl:=List.mem_singleton.1 hp;exact nM h0),?_,fun p h=>(by cases h)⟩ (fun p hp=>?_) (fun e he=>?_) [ord β (.add rM (.mul (.neg rH) (rtE rU)),c00,c00),ord β (.add rM (.mul rH (rtE rU)),c00,c00)] (fun p hp=>?_) hC fun hd=>Gx (sJ _) (sJ _) vS3 ?_
  ·simp only [z5,List.forall_mem_cons,List.not_mem_nil,false_imp_iff,implies_true,and_true]
   exact ⟨n1,n2⟩
  ·simp only [z5,List.forall_mem_cons,List.not_mem_nil,false_imp_iff,implies_true,and_true]
   exact ⟨hs,hu,vY h0,EK (vY h0),rfl⟩
  ·rcases List.mem_cons.1 hp with rfl | hp
   ·refine at_root h0 (.add rM (.mul (.neg rH) (rtE rU)),c00,c00) ?_ ?_
    ·show ((RE.add rM (.mul (.neg rH) (rtE rU))).ev β - rM.ev β)*((RE.add rM (.mul (.neg rH) (rtE rU))).ev β - rM.ev β)+0*0*0=qQ β
     rw [hr1,← hqs];grind
    ·show ((RE.add rM (.mul (.neg rH) (rtE rU))).ev β - rM.ev β)*0=0
     grind
   ·obtain rfl:=List.mem_singleton.1 hp
    refine at_root h0 (.add rM (.mul rH (rtE rU)),c00,c00) ?_ ?_
    ·show ((RE.add rM (.mul rH (rtE rU))).ev β - rM.ev β)*((RE.add rM (.mul rH (rtE rU))).ev β - rM.ev β)+0*0*0=qQ β
     rw [hr2,← hqs];grind
    ·show ((RE.add rM (.mul rH (rtE rU))).ev β - rM.ev β)*0=0
     grind
  ·rcases List.mem_cons.1 he with rfl | he
   ·exact .inl rfl
   ·obtain rfl:=List.mem_singleton.1 he
    exact .inl rfl
  ·rcases List.mem_cons.1 hp with rfl | hp
   ·exact hC _ (.head _)
   ·rcases List.mem_cons.1 hp with rfl | hp
    ·rfl
    ·obtain rfl:=List.mem_singleton.1 hp
     rfl
  ·obtain ⟨g0,g1,g2⟩:=zO (B:=β 4) hd
   rw [zK,zK,Ah h0,hr1,hr2,← hqs,show β 3 - (rM.ev β - q)=β 3 - rM.ev β+q by grind,show β 3 - (rM.ev β+q)=β 3 - rM.ev β - q by grind]
   exact XK g0 g2 g1 hqq
 rcases tK h0 rfl with h | h
 ·exact go ZV h
 ·exact go ZU h
theorem Gu {n:Bool} (h0:β 0≠0) (hu:sgQ (rU.ev β)=1) (hn:(noS n rU).1.ev β≠(noS n rU).2.ev β):Goal β:=by
 have hup:=fO.1 hu
 have hh:=h_pos h0
 have hd:(RE.den rU).ev β≠0:=xO _
 have hdp:0<(RE.den rU).ev β:=by
  show (0:Rat)<((((rU.ev β).den:Nat):Int):Rat)
  exact_mod_cast (rU.ev β).den_pos
 have hnn:(rU.ev β)*(RE.den rU).ev β=(RE.num rU).ev β:=(JG _).symm
 have hnp:0<(RE.num rU).ev β:=by rw [← hnn];exact Rat.mul_pos hup hdp
 have hb:bP.ev β*(RE.den rU).ev β=rH.ev β:=Rat.div_mul_cancel hd
 have hbm:bM.ev β = -bP.ev β:=by
  show -rH.ev β / (RE.den rU).ev β = -(rH.ev β / (RE.den rU).ev β)
  rw [Rat.div_def,Rat.div_def,Rat.neg_mul]
 have hbp:0<bP.ev β:=by
  by_cases h:0<bP.ev β
  ·exact h
  ·have:=Rat.mul_nonneg (show 0≤-bP.ev β by grind) (Rat.le_of_lt hdp)
   grind
 have hdB:dB.ev β=(RE.num rU).ev β*(RE.den rU).ev β:=rfl
 have hdBp:0<dB.ev β:=Rat.mul_pos hnp hdp
 have hq:bP.ev β*bP.ev β*dB.ev β=qQ β:=by
  rw [← IL h0,hdB,← hnn,← hb];grind
 have hqm:bM.ev β*bM.ev β*dB.ev β=qQ β:=by rw [hbm,← hq];grind
 have hqp:0<qQ β:=fO.1 ((Ey h0).trans hu)
 have sP:sgQ (bP.ev β)=1:=fO.2 hbp
 have sM':sgQ (bM.ev β) = -1:=by rw [hbm];exact EK sP
 have sD':sgQ (dB.ev β)=1:=fO.2 hdBp
 have eD:dB.ev β=((((rU.ev β).num*((rU.ev β).den:Int):Int)):Rat):=by
  show (((rU.ev β).num:Int):Rat)*((((rU.ev β).den:Nat):Int):Rat)=_
  rw [← Rat.intCast_mul]
 have hden:(RE.den dB).ev β=1:=by
  show ((((dB.ev β).den:Nat):Int):Rat)=1
  rw [eD,Rat.den_intCast];rfl
 have hnum:(RE.num dB).ev β=dB.ev β:=by
  show (((dB.ev β).num:Int):Rat)=dB.ev β
  rw [eD,Rat.num_intCast]
 have hns:(sq2 (.num dB)).ev β≠(RE.num dB).ev β:=fun h=>by
  have hpn:¬ (dB.ev β).num<0:=fun h=>by have:=(zo _).2.1 h;grind
  have h1:=(Ac hpn).1 h
  rw [eD,Rat.num_intCast] at h1
  have hz:0<(rU.ev β).num:=(zo _).1.2 hup
  have h2:((rU.ev β).num*((rU.ev β).den:Int)).natAbs=(rU.ev β).num.natAbs*(rU.ev β).den:=by rw [Int.natAbs_mul,Int.natAbs_natCast]
  rw [h2] at h1
  have c1:=LV (rU.ev β).reduced h1.symm
  have c2:=LV (rU.ev β).reduced.symm (by rw [Nat.mul_comm];exact h1.symm)
  cases n
  ·exact hn (ES.2 c2)
  ·exact hn ((Ac (by omega)).2 c1)
 have hC:lW β [((rM,bM,dB),(rM,bP,dB),-1)]:=fun p hp=>by
  obtain rfl:=List.mem_singleton.1 hp
  show gB (rM.ev β - rM.ev β) (bM.ev β) (dB.ev β) (-bP.ev β) (dB.ev β) = -1
  unfold gB lN
  rw [tJ,tJ,← hbm,sM',sD',show rM.ev β - rM.ev β=0 by grind,show sgQ 0=0 from rfl]
  rfl
 have go:∀ {s:Int},dJ (z6 s n) r6 cb2→sgQ (β 0)=s→Goal β:=fun {s} hz hs=>by
  refine qE hz ⟨?_,?_,?_,?_,fun p h=>(by cases h)⟩ (fun p hp=>?_) (fun e he=>?_) [ord β (rM,bM,dB),ord β (rM,bP,dB)] (fun p hp=>?_) hC fun hd'=>Gx (sJ _) (sJ _) vS3 ?_
  ·simp only [z6,List.forall_mem_cons,List.not_mem_nil,false_imp_iff,implies_true,and_true]
   refine ⟨?_,?_,?_⟩
   ·show bM.ev β / (RE.den dB).ev β=bM.ev β
    rw [hden];grind
   ·show bP.ev β / (RE.den dB).ev β=bP.ev β
    rw [hden];grind
   ·show (RE.num dB).ev β*(RE.den dB).ev β=dB.ev β
    rw [hden,hnum,Rat.mul_one]
  ·simp only [z6,List.forall_mem_cons,List.not_mem_nil,false_imp_iff,implies_true,and_true]
   exact ⟨hn,hns⟩
  ·simp only [z6,List.forall_mem_cons,List.not_mem_nil,false_imp_iff,implies_true,and_true]
   exact ⟨nM h0,hd,xO _⟩
  ·simp only [z6,List.forall_mem_cons,List.not_mem_nil,false_imp_iff,implies_true,and_true]
   exact ⟨hs,hu,vY h0,EK (vY h0),sM',sP,sD'⟩
  ·rcases List.mem_cons.1 hp with rfl | hp
   ·refine at_root h0 (rM,bM,dB) ?_ ?_
    ·show (rM.ev β - rM.ev β)*(rM.ev β - rM.ev β)+bM.ev β*bM.ev β*dB.ev β=qQ β
     rw [hqm];grind
    ·show (rM.ev β - rM.ev β)*bM.ev β=0
     grind
   ·obtain rfl:=List.mem_singleton.1 hp
    refine at_root h0 (rM,bP,dB) ?_ ?_
    ·show (rM.ev β - rM.ev β)*(rM.ev β - rM.ev β)+bP.ev β*bP.ev β*dB.ev β=qQ β
     rw [hq];grind
    ·show (rM.ev β - rM.ev β)*bP.ev β=0
     grind
  ·rcases List.mem_cons.1 he with rfl | he
   ·exact .inr sD'
   ·obtain rfl:=List.mem_singleton.1 he
    exact .inr sD'
  ·rcases List.mem_cons.1 hp with rfl | hp
   ·exact hC _ (.head _)
   ·rcases List.mem_cons.1 hp with rfl | hp
    ·rfl
    ·obtain rfl:=List.mem_singleton.1 hp
     rfl
  ·obtain ⟨g0,g1,g2⟩:=zO (B:=β 4) hd'
   have k0:ord β (rM,bM,dB)=0↔zW (β 3 - rM.ev β) (sgQ (β 4)*sgQ (β 5)) (β 4*β 4*β 5) 1 (qQ β):=by
    unfold ord
    show gB (β 3 - rM.ev β) (β 4) (β 5) (-bM.ev β) (dB.ev β)=0↔_
    rw [EX,hbm,show - -bP.ev β=bP.ev β by grind,sP,sD',hq];rfl
   have k1:ord β (rM,bP,dB)=0↔zW (β 3 - rM.ev β) (sgQ (β 4)*sgQ (β 5)) (β 4*β 4*β 5) (-1) (qQ β):=by
    unfold ord
    show gB (β 3 - rM.ev β) (β 4) (β 5) (-bP.ev β) (dB.ev β)=0↔_
    rw [EX,← hbm,sM',sD',hqm];rfl
   rw [k0,k1,Ah h0]
   rcases g0 with g | g | g
   ·rw [g,g1 g]
    exact Zv hqp
   ·have:=MB (x:=β 3 - rM.ev β) (.inl g) (g2 (by omega)) hqp
    rw [g] at this ⊢
    exact this
   ·have:=MB (x:=β 3 - rM.ev β) (.inr g) (g2 (by omega)) hqp
    rw [g] at this ⊢
    rw [or_comm]
    exact this
 rcases tK h0 rfl with h | h
 ·cases n
  ·exact go ZY h
  ·exact go Z5 h
 ·cases n
  ·exact go ZW h
  ·exact go ZX h
theorem aa0 (β:Nat→Rat):Goal β:=by
 by_cases h0:β 0=0
 ·by_cases h1:β 1=0
  ·by_cases h2:β 2=0
   ·exact OH h0 h1 h2
   ·exact OI h0 h1 h2
  ·exact OJ h0 h1
 ·rcases sg3 (rU.ev β) with hu | hu | hu
  ·exact OL h0 hu
  ·exact OM h0 hu
  ·by_cases n1:(sq2 (.num rU)).ev β=(RE.num rU).ev β
   ·by_cases n2:(sq2 (.den rU)).ev β=(RE.den rU).ev β
    ·exact OO h0 hu n1 n2
    ·exact Gu (n:=false) h0 hu n2
   ·exact Gu (n:=true) h0 hu n1
end
theorem aa1 {n1 d1 b1 n2 d2 b2 n3 d3 b3 n4 d4 b4 n5 d5 b5 n6 d6 b6:Int} {q1 q2 q3 q4 q5 q6:Rat} {W:World} (h1:IsN n1 d1 b1 q1) (h2:IsN n2 d2 b2 q2) (h3:IsN n3 d3 b3 q3) (h4:IsN n4 d4 b4 q4) (h5:IsN n5 d5 b5 q5) (h6:IsN n6 d6 b6 q6) (hE:EV W) :
  Calls Tryz.prog 6 #[.agg #[.int .i64 n1,.int .i64 d1,.int .u8 b1],.agg #[.int .i64 n2,.int .i64 d2,.int .u8 b2],.agg #[.int .i64 n3,.int .i64 d3,.int .u8 b3],.agg #[.int .i64 n4,.int .i64 d4,.int .u8 b4,.int .i64 n5,.int .i64 d5,.int .u8 b5,.int .i64 n6,.int .i64 d6,.int .u8 b6]] W (bF W (.bool true)):=by
 obtain ⟨h,rs,L,ks,N,hc,hr⟩:=aa0 (bet [q1,q2,q3,q4,q5,q6])
 unfold uj at hr
 obtain ⟨ρ,hρ⟩:∃ ρ,ρ=ev [nu n1,nu d1,nu b1,nu n2,nu d2,nu b2,nu n3,nu d3,nu b3,nu n4,nu d4,nu b4,nu n5,nu d5,nu b5,nu n6,nu d6,nu b6]:=⟨_,rfl⟩
 have he:(List.map (SV.den ρ) zAs).toArray=#[.agg #[.int .i64 n1,.int .i64 d1,.int .u8 b1],.agg #[.int .i64 n2,.int .i64 d2,.int .u8 b2],.agg #[.int .i64 n3,.int .i64 d3,.int .u8 b3],.agg #[.int .i64 n4,.int .i64 d4,.int .u8 b4,.int .i64 n5,.int .i64 d5,.int .u8 b5,.int .i64 n6,.int .i64 d6,.int .u8 b6]]:=by
  rw [hρ];kernel_rfl
 have hg:∀ g∈zFs,Fc.on (bet [q1,q2,q3,q4,q5,q6]) ρ g W:=by
  rw [hρ]
  simp only [zFs,List.forall_mem_cons,List.not_mem_nil,false_imp_iff,implies_true,and_true]
  exact ⟨h1,h2,h3,h4,h5,h6⟩
 rw [← he]
 exact KT hc hr hE hg
end Rx
end Go.Proofs.YtefbfbdijimanaaGreatDoor
