/- What the proof rests on, part 29. -/
import Derived.Test.YtmijlcldmefggaaGreatDoorZ28
import Derived.Test.YtmijlcldmefggaaGreatDoorZ11
namespace Go.Proofs.YtmijlcldmefggaaGreatDoor
set_option maxRecDepth 100000
set_option maxHeartbeats 80000000
namespace Rx.Ry
open Go.RowKit
section
variable {P:Program} {S:Sys} {X:Xt S} {w00 W W':World} {fb:List (Nat×Nat)} {ρ:Env} {hp:T (It S)} {n:Nat} {r:Rs S}
theorem run_copyY {ats:Array TypeId} {t ty e:TypeId} {z b off dl dc m k:Nat} {src:Value} {news vs:List Value} {T:TypeId} {w:World} (ha:ats[0]? = some t) (hu:P.underlying t=some (.slice e)) (hz:sizeB P e=some z) (hk:k=Nat.min m dl)
  (hs:(Builtin.lenOf src).run P w=.ok m w) (hf:(Builtin.firstCells z k src).run P w=.ok news.toArray w) (hb:Bx w b T vs) (hl:off+news.length≤vs.length) (hfl:∀ v∈news,flat v=true) :
  (Builtin.copy_ ats ty #[.slice (some ⟨b,off,none⟩) dl dc,src]).run P w=.ok (.int .i64 (.ofNat k)) (setMany w b off news):=by
 subst hk
 have h1:=run_sizeOf (P:=P) (w:=w) hz
 have h2:=run_storeCells (P:=P) news off 0 hb (by omega) hfl
 rw [Nat.add_zero] at h2
 simp [Builtin.copy_,ha,underlying,program,hu,Sem.run_bind,Sem.run,Result.andThen,pure,hs,h1,hf,h2,goInt]
theorem copyE_ok {c:Call} {args:List SV} (h:copyE P fb hp n c args=some r) (wf:Wf hp n) (ty:TypeId):Pl fb hp n r∧∀ (ρ:Env) (W:World),Inv X w00 fb ρ hp W →
  ∃ v W' ρ',(Builtin.copy_ c.argTypes ty (args.map (SV.den ρ)).toArray).run P W=.ok v W'∧Dy X w00 fb n r ρ W v ρ' W':=by
 unfold copyE at h
 split at h
 ·rename_i k off len d x
  split at h
  ·rename_i t tr hty
   split at h
   ·rename_i z hz
    obtain ⟨e,hu,hsz⟩:=elemZ_ok hz
    split at h
    ·rename_i m news hcx
     refine ⟨store_pl h,fun ρ W hi=>?_⟩
     obtain ⟨T,cs,ex,pat,si⟩:=store_in h
     obtain ⟨rest,hbx,-⟩:=hi.sat k _ si.see.1 si.see.2
     have hle:=si.le
     have h0:c.argTypes[0]? = some t:=by rw [← Array.getElem?_toList,hty];rfl
     have hfl:∀ v∈((news.take (Nat.min m len*z)).map (Cell.den ρ)),flat v=true:=fun v hv=>by
      obtain ⟨c,-,rfl⟩:=List.mem_map.1 hv
      exact c.flat ρ
     have hfit:off+((news.take (Nat.min m len*z)).map (Cell.den ρ)).length≤(cs.map (Cell.den ρ) ++ rest).length:=by
      simp only [List.length_map,List.length_append] at hle ⊢
      omega
     rcases cellsOf_ok hcx hi with ⟨h1,h2,h3⟩ | ⟨b,o,cc,h1,h2,h3⟩
     ·subst h1 h2
      have hrun:=run_copyY (P:=P) (ty:=ty) (dc:=(ρ k).c - d) (m:=0) (dl:=len) (src:=.slice none 0 0) (news:=((List.take (Nat.min 0 len*z) ([]:List Cell)).map (Cell.den ρ))) (w:=W) h0 hu hsz (k:=Nat.min 0 len) rfl rfl (by simp [Builtin.firstCells,pure]) hbx hfit hfl
      refine ⟨_,_,_,?_,store_dy (v:=.int .i64 (.ofNat (Nat.min 0 len))) h hi wf rfl rfl⟩
      show (Builtin.copy_ c.argTypes ty #[Value.slice (some ⟨(ρ k).pos,off,none⟩) len ((ρ k).c - d),x.den ρ]).run P W=_
      rw [h3]
      exact hrun
     ·have hmin:Nat.min m len*z≤m*z:=Nat.mul_le_mul_right _ (Nat.min_le_left _ _)
      have hfc:=run_firstCells_some (P:=P) W z (Nat.min m len) ⟨b,o,none⟩ m cc ((news.take (Nat.min m len*z)).map (Cell.den ρ)) (by rw [List.length_map,List.length_take];omega) (fun j v hv=>by
       rw [List.map_take,List.getElem?_take] at hv
       split at hv
       ·exact h3 j v hv
       ·cases hv)
      have hrun:=run_copyY (P:=P) (ty:=ty) (dc:=(ρ k).c - d) (m:=m) (dl:=len) (src:=.slice (some ⟨b,o,none⟩) m cc) (w:=W) h0 hu hsz (k:=Nat.min m len) rfl rfl hfc hbx hfit hfl
      refine ⟨_,_,_,?_,store_dy (v:=.int .i64 (.ofNat (Nat.min m len))) h hi wf rfl rfl⟩
      show (Builtin.copy_ c.argTypes ty #[Value.slice (some ⟨(ρ k).pos,off,none⟩) len ((ρ k).c - d),x.den ρ]).run P W=_
      rw [h1]
      exact hrun
    ·cases h
   ·cases h
  ·cases h
 ·cases h
theorem setLen_ok {z k off len cap l c':Nat} {s:Cell} {ρ:Env} {a:Option Addr} (h:capC fb hp z s=some (k,off,len,cap)) (hd:s.den ρ=.slice a len c'):(setLen s l).den ρ=.slice a l c':=by
 unfold capC at h
 split at h
 ·simp only [Cell.den,Value.slice.injEq] at hd
  simp only [setLen,Cell.den,Value.slice.injEq,true_and]
  exact ⟨hd.1,hd.2.2⟩
 ·simp only [Cell.den,Value.slice.injEq] at hd
  simp only [setLen,Cell.den,Value.slice.injEq,true_and]
  exact ⟨hd.1,hd.2.2⟩
 ·cases h
theorem run_append_in {t ty e:TypeId} {z b off len cap m:Nat} {x:Value} {news vs:List Value} {T:TypeId} {w:World} (hu:P.underlying t=some (.slice e)) (hz:sizeB P e=some z) (hle:len+m≤cap)
  (hs:(Builtin.lenOf x).run P w=.ok m w) (hf:(Builtin.firstCells z m x).run P w=.ok news.toArray w) (hb:Bx w b T vs) (hl:off+len*z+news.length≤vs.length) (hfl:∀ v∈news,flat v=true) :
  (Builtin.append_ #[t,t] ty #[.slice (some ⟨b,off,none⟩) len cap,x]).run P w=.ok (.slice (some ⟨b,off,none⟩) (len+m) cap) (setMany w b (off+len*z) news):=by
 have h1:=run_sizeOf (P:=P) (w:=w) hz
 have h2:=run_storeCells (P:=P) news (off+len*z) 0 hb (by omega) hfl
 rw [Nat.add_zero] at h2
 simp [Builtin.append_,run_underlying hu,h1,hs,hf,hle,add_off,h2]
theorem appI_ok {c:Call} {args:List SV} (h:appI P fb hp n c args=some r) (wf:Wf hp n) (ty:TypeId):Pl fb hp n r∧∀ (ρ:Env) (W:World),Inv X w00 fb ρ hp W →
  ∃ v W' ρ',(Builtin.append_ c.argTypes ty (args.map (SV.den ρ)).toArray).run P W=.ok v W'∧Dy X w00 fb n r ρ W v ρ' W':=by
 unfold appI at h
 split at h
 ·rename_i s x
  split at h
  ·rename_i t t' hty
   split at h
   ·rename_i e0
    subst e0
    have hat:c.argTypes=#[t,t]:=by apply Array.ext';rw [hty]
    split at h
    ·rename_i z hz
     obtain ⟨e,hu,hsz⟩:=elemZ_ok hz
     split at h
     ·rename_i m news k off len cap hcx hcp
      obtain ⟨hle,h⟩:Nat.ble (len+m) cap=true∧storeR fb hp n k (off+len*z) news (.e (.s (setLen s (len+m))))=some r:=by
       cases hb:Nat.ble (len+m) cap with
       | false=>rw [hb] at h;cases h
       | true=>rw [hb] at h;exact ⟨rfl,h⟩
      have hle:=Nat.le_of_ble_eq_true hle
      refine ⟨store_pl h,fun ρ W hi=>?_⟩
      obtain ⟨T,cs,ex,pat,si⟩:=store_in h
      obtain ⟨rest,hbx,-⟩:=hi.sat k _ si.see.1 si.see.2
      have hfit:=si.le
      obtain ⟨cap',hcap,hden⟩:=capC_ok hcp hi
      have hfl:∀ v∈news.map (Cell.den ρ),flat v=true:=fun v hv=>by
       obtain ⟨c,-,rfl⟩:=List.mem_map.1 hv
       exact c.flat ρ
      have hx:(Builtin.lenOf (x.den ρ)).run P W=.ok m W∧(Builtin.firstCells z m (x.den ρ)).run P W=.ok (news.map (Cell.den ρ)).toArray W:=by
       rcases cellsOf_ok hcx hi with ⟨h1,h2,h3⟩ | ⟨b,o,cc,h1,h2,h3⟩
       ·subst h1 h2
        rw [h3]
        exact ⟨rfl,run_firstCells_none W z 0 0 0⟩
       ·rw [h1]
        exact ⟨rfl,run_firstCells_some W z m ⟨b,o,none⟩ m cc (news.map (Cell.den ρ)) (by rw [List.length_map,h2]) h3⟩
      have hrun:=run_append_in (P:=P) (ty:=ty) (len:=len) (cap:=cap') (off:=off) hu hsz (by omega) hx.1 hx.2 hbx (by simp only [List.length_map,List.length_append];omega) hfl
      refine ⟨_,_,_,?_,store_dy (v:=.slice (some ⟨(ρ k).pos,off,none⟩) (len+m) cap') h hi wf (setLen_ok hcp hden).symm rfl⟩
      rw [hat]
      show (Builtin.append_ #[t,t] ty #[s.den ρ,x.den ρ]).run P W=_
      rw [hden]
      exact hrun
     ·cases h
    ·cases h
   ·cases h
  ·cases h
 ·cases h
theorem clrE_ok {c:Call} {args:List SV} (h:clrE P fb hp n c args=some r) (wf:Wf hp n) (ty:TypeId):Pl fb hp n r∧∀ (ρ:Env) (W:World),Inv X w00 fb ρ hp W →
  ∃ v W' ρ',(Builtin.clear_ c.argTypes ty (args.map (SV.den ρ)).toArray).run P W=.ok v W'∧Dy X w00 fb n r ρ W v ρ' W':=by
 unfold clrE at h
 split at h
 ·rename_i s
  split at h
  ·rename_i t tr hty
   split at h
   ·rename_i e hu
    split at h
    ·rename_i zc hz
     split at h
     ·rename_i k off len cap hcp
      obtain ⟨hz0,h⟩:Nat.blt 0 zc.length=true∧storeR fb hp n k off (List.replicate len zc).flatten (.t [])=some r:=by
       cases hb:Nat.blt 0 zc.length with
       | false=>rw [hb] at h;cases h
       | true=>rw [hb] at h;exact ⟨rfl,h⟩
      have hz0:0<zc.length:=Nat.le_of_ble_eq_true hz0
      refine ⟨store_pl h,fun ρ W hi=>?_⟩
      obtain ⟨T,cs,ex,pat,si⟩:=store_in h
      obtain ⟨rest,hbx,-⟩:=hi.sat k _ si.see.1 si.see.2
      have hfit:=si.le
      obtain ⟨cap',hcap,hden⟩:=capC_ok hcp hi
      obtain ⟨i,z,hi1,hi2,hi3⟩:=zeroB_ok hz ρ
      have h0:c.argTypes[0]? = some t:=by rw [← Array.getElem?_toList,hty];rfl
      have hzc:(Builtin.zeroCells z.cells len).toList=((List.replicate len zc).flatten).map (Cell.den ρ):=by
       have:=made_rep (zc.map (Cell.den ρ)) (by simpa using hz0) len
       rw [hi3,show Builtin.zeroCells (zc.map (Cell.den ρ)).toArray len=madeCells (zc.map (Cell.den ρ)).toArray (len*(zc.map (Cell.den ρ)).length) from rfl,this,flat_map]
      have hfl:∀ v∈((List.replicate len zc).flatten).map (Cell.den ρ),flat v=true:=fun v hv=>by
       obtain ⟨c,-,rfl⟩:=List.mem_map.1 hv
       exact c.flat ρ
      have h2:=run_storeCells (P:=P) (((List.replicate len zc).flatten).map (Cell.den ρ)) off 0 hbx (by simp only [List.length_map,List.length_append] at hfit ⊢;omega) hfl
      rw [Nat.add_zero] at h2
      refine ⟨.tuple #[],_,_,?_,store_dy (v:=.tuple #[]) h hi wf rfl rfl⟩
      show (Builtin.clear_ c.argTypes ty #[s.den ρ]).run P W=_
      rw [hden]
      cases len with
      | zero=>simp [Builtin.clear_,h0,run_underlying hu,setMany]
      | succ l =>
       generalize ((List.replicate (l+1) zc).flatten).map (Cell.den ρ)=vs at hzc h2 ⊢
       simp [Builtin.clear_,h0,run_underlying hu,zeroValue,typeInfo,hi1,hi2,hzc,h2]
     ·cases h
    ·cases h
   ·cases h
  ·cases h
 ·cases h
theorem run_clearC {c:Call} {ty:TypeId} {a:Act} {v:Value} {w w':World} (hc:c.callee=.builtin .clear) (h:(Builtin.clear_ c.argTypes ty (c.args.map a.eval)).run P w=.ok v w'):(do let d ← resolve a.eval c ty;invoke d.target d.args:Sem Next).run P w=.ok (.value v) w':=by
 simp only [resolve,hc,invoke,builtin,Sem.run_bind,Sem.run,Result.andThen,pure,h]
theorem run_appendC {c:Call} {ty:TypeId} {a:Act} {v:Value} {w w':World} (hc:c.callee=.builtin .append) (h:(Builtin.append_ c.argTypes ty (c.args.map a.eval)).run P w=.ok v w'):(do let d ← resolve a.eval c ty;invoke d.target d.args:Sem Next).run P w=.ok (.value v) w':=by
 simp only [resolve,hc,invoke,builtin,Sem.run_bind,Sem.run,Result.andThen,pure,h]
theorem run_copyC {c:Call} {ty:TypeId} {a:Act} {v:Value} {w w':World} (hc:c.callee=.builtin .copy) (h:(Builtin.copy_ c.argTypes ty (c.args.map a.eval)).run P w=.ok v w'):(do let d ← resolve a.eval c ty;invoke d.target d.args:Sem Next).run P w=.ok (.value v) w':=by
 simp only [resolve,hc,invoke,builtin,Sem.run_bind,Sem.run,Result.andThen,pure,h]
theorem run_closure {c:Call} {t:Tmp} {f:FuncId} {ty:TypeId} {a:Act} {cap:Array Value} {w:World} (hc:c.callee=.value (.tmp t)) (hb:callB P f=true) (hv:a.eval (.tmp t)=.func (.func f) #[] cap) :
  (do let d ← resolve a.eval c ty;invoke d.target d.args:Sem Next).run P w=.ok (.enter f (c.args.map a.eval ++ cap)) w:=by
 unfold callB at hb
 split at hb
 ·rename_i fn hfn
  simp only [Bool.and_eq_true,Bool.not_eq_true',Option.isSome_iff_ne_none] at hb
  obtain ⟨h1,h2⟩:=hb
  have h3:¬ fn.name = "runtime.NumGoroutine":=by simpa using h2
  simp [resolve,hc,hv,Deferred.ofValue,invoke,callFunc,program,hfn,h1,h3,Sem.run_bind,Sem.run,Result.andThen,pure]
 ·cases hb
theorem run_first {c:Call} {t:Tmp} {f:FuncId} {ty:TypeId} {a:Act} {fst cap:Array Value} {w:World} (hc:c.callee=.value (.tmp t)) (hb:callB P f=true) (hv:a.eval (.tmp t)=.func (.func f) fst cap) :
  (do let d ← resolve a.eval c ty;invoke d.target d.args:Sem Next).run P w=.ok (.enter f (fst ++ c.args.map a.eval ++ cap)) w:=by
 unfold callB at hb
 split at hb
 ·rename_i fn hfn
  simp only [Bool.and_eq_true,Bool.not_eq_true',Option.isSome_iff_ne_none] at hb
  obtain ⟨h1,h2⟩:=hb
  have h3:¬ fn.name = "runtime.NumGoroutine":=by simpa using h2
  simp [resolve,hc,hv,Deferred.ofValue,invoke,callFunc,program,hfn,h1,h3,Sem.run_bind,Sem.run,Result.andThen,pure]
 ·cases hb
theorem run_yieldC {c:Call} {t:Tmp} {l:Nat} {ty:TypeId} {a:Act} {w:World} {r:Loop} (hc:c.callee=.value (.tmp t)) (hv:a.eval (.tmp t)=.func (.yield l) #[] #[]) (hr:w.heap[l]? = some (.loop r)) (hs:(c.args.map a.eval).size=r.params.size) :
  (do let d ← resolve a.eval c ty;invoke d.target d.args:Sem Next).run P w=.ok (.round l r.fn ((r.params.zip (c.args.map a.eval)).foldl (fun tmps (t,a)=>tmps.setIfInBounds t a) r.tmps) r.assign r.body) w:=by
 have h:=run_yield (P:=P) hr hs
 have e:(do let d ← resolve a.eval c ty;invoke d.target d.args:Sem Next).run P w=(Instr.yield l (c.args.map a.eval)).run P w:=by
  simp only [resolve,hc,hv,Deferred.ofValue,Sem.run_bind,Sem.run,Result.andThen,pure]
  simp [invoke]
 rw [e,h]
theorem elsOf_ok:∀ {vs:List SV} {l:List El},elsOf vs=some l→vs.map (SV.den ρ)=l.map (El.den ρ)
 | [],l,h=>by simp only [elsOf,Option.some.injEq] at h;subst h;rfl
 | v :: r,l,h=>by
  unfold elsOf at h
  split at h
  ·rename_i he;cases he
  ·rename_i x r' he
   cases he
   split at h
   ·rename_i l' h1
    cases h
    rw [List.map_cons,List.map_cons,elsOf_ok h1]
    rfl
   ·cases h
  ·cases h
theorem setM_den (ρ:Env):∀ (es:List (Cell×El×Nat)) (i:Nat) (x:El),(setM es i x).map (enD ρ)=((es.map (enD ρ)).toArray.modify i fun e=>{ e with val:=x.den ρ }).toList
 | [],i,x=>by simp [setM]
 | e :: r,0,x=>by
  apply List.ext_getElem?
  intro j
  cases j with
  | zero=>simp [setM,enD]
  | succ j=>simp [setM]
 | e :: r,i+1,x=>by
  have ih:=setM_den ρ r i x
  apply List.ext_getElem?
  intro j
  cases j with
  | zero=>simp [setM]
  | succ j =>
   have:=congrArg (fun l=>l[j]?) ih
   simp only [setM,List.map_cons,List.getElem?_cons_succ]
   rw [this]
   simp
theorem setM_nm {m:Nat}:∀ {es:List (Cell×El×Nat)} {i:Nat} {x:El},m∈(setM es i x).flatMap (fun e=>e.1.nm ++ elN e.2.1)→m∈elN x∨m∈es.flatMap (fun e=>e.1.nm ++ elN e.2.1)
 | [],i,x,h=>by simp [setM] at h
 | e :: r,0,x,h=>by
  simp only [setM,List.flatMap_cons,List.mem_append] at h ⊢
  rcases h with (h | h) | h
  ·exact .inr (.inl (.inl h))
  ·exact .inl h
  ·exact .inr (.inr h)
 | e :: r,i+1,x,h=>by
  simp only [setM,List.flatMap_cons,List.mem_append] at h ⊢
  rcases h with (h | h) | h
  ·exact .inr (.inl (.inl h))
  ·exact .inr (.inl (.inr h))
  ·rcases setM_nm (List.mem_flatMap.2 (List.mem_flatMap.1 h)) with h | h
   ·exact .inl h
   ·exact .inr (.inr h)
theorem eqK_den {kd:TypeDesc} {c d:Cell} (h:eqK kd c d=some true):c.den ρ=d.den ρ∧Instr.sameBits 10000 (d.den ρ) (c.den ρ)=true:=by
 have key:c.den ρ=d.den ρ∧∀ dd,Instr.sameBits (dd+1) (c.den ρ) (c.den ρ)=true:=by
  unfold eqK at h
  split at h
  ·rename_i k a k' b
   split at h
   ·rename_i hk
    have h:=Option.some.inj h
    simp only [beq_iff_eq] at h
    subst hk h
    exact ⟨rfl,fun dd=>by simp [Cell.den,Instr.sameBits]⟩
   ·cases h
  ·rename_i a b
   have h:=Option.some.inj h
   have h2:a.data.toList=b.data.toList:=by simpa using h
   obtain rfl:a=b:=ByteArray.ext (Array.toList_inj.1 h2)
   refine ⟨rfl,fun dd=>?_⟩
   show (a.data == a.data)=true
   simp
  ·rename_i a b
   have h:=Option.some.inj h
   simp only [beq_iff_eq] at h
   subst h
   exact ⟨rfl,fun dd=>by simp [Cell.den,Instr.sameBits]⟩
  ·cases h
 refine ⟨key.1,?_⟩
 rw [← key.1]
 exact key.2 9999
theorem insE_ok {rd:Tmp→Option SV} {o:Oper} {t:TypeId} {m k v:Operand} (hop:o.op=.insert t m k v∨o.op=.mapUpdate t m k v) (h:insE P rd fb hp n t m k v=some r) (wf:Wf hp n) :
  Pl fb hp n r∧∀ (ρ:Env) (W:World) (a:Act),Inv X w00 fb ρ hp W→(∀ t v,rd t=some v→a.tmps.getD t undef=v.den ρ)→takes P o a W fun v W'=>∃ ρ',Dy X w00 fb n r ρ W v ρ' W':=by
 unfold insE at h
 simp only [okC_eq,okL_eq,show ∀ x:El,x.cells.flatMap Cell.nm=elN x from fun _=>rfl] at h
 split at h
 ·rename_i j c x hm hk hv
  split at h
  ·rename_i es ck kd e hs ht
   obtain ⟨h1,h2⟩:=see_some hs
   obtain ⟨kt,hu,hkt,hck⟩:=mapB_ok ht
   cases hb:(nmB n c.nm && nmB n (elN x) && Nat.blt n top) with
   | false=>rw [hb] at h;cases h
   | true =>
    rw [hb,cond_true] at h
    simp only [Bool.and_eq_true] at hb
    have hjn:j<n:=(wf j _ h1).1
    have hnt:n<top:=Nat.le_of_ble_eq_true hb.2
    have hcn:=nmB_ok hb.1.1
    have hxn:=nmB_ok hb.1.2
    have hes:=fun m hm=>(wf j _ h1).2 m hm
    have htk:∀ (ρ:Env) (W:World) (a:Act) (es':List (Cell×El×Nat)) (ck':Nat),Inv X w00 fb ρ hp W→(∀ t v,rd t=some v→a.tmps.getD t undef=v.den ρ)→r=⟨.und,hp.set (some (.mp es' ck')) j,n,[j]⟩ →
      (Instr.mapUpdate t (.map (some (ρ j).pos)) (c.den ρ) (x.den ρ)).run P W=.ok () (W.putObj (ρ j).pos (.map (es'.map (enD ρ)).toArray ck'))→takes P o a W fun v W'=>∃ ρ',Dy X w00 fb n r ρ W v ρ' W':=fun ρ W a es' ck' hi hr he hrun=>by
     have hsat:W.heap[(ρ j).pos]? = some (.map (es.map (enD ρ)).toArray ck):=hi.sat j _ h1 h2
     have dy:Dy X w00 fb n r ρ W undef ρ (W.putObj (ρ j).pos (.map (es'.map (enD ρ)).toArray ck')):=by
      rw [he]
      refine obj_dy hjn hnt h2 ⟨_,h1,rfl⟩ hi wf rfl hsat (fun c T z h=>by cases h) fun i hi'=>?_
      obtain rfl:=Option.some.inj hi'
      exact World.putObj_heap_same (Array.getElem?_eq_some_iff.1 hsat).1
     have e1:a.eval m=.map (some (ρ j).pos):=opd_ok hm hr
     have e2:a.eval k=c.den ρ:=opd_ok hk hr
     have e3:a.eval v=x.den ρ:=opd_ok hv hr
     unfold takes execOp
     rcases hop with hop | hop <;>
     ·rw [hop]
      simp only [e1,e2,e3,Sem.run_bind,hrun,Result.andThen]
      exact ⟨ρ,dy⟩
    have hfind:∀ (ρ:Env) (o:Option Nat),findK kd c es 0=some o→∀ (w:World),(Instr.findKey kt (c.den ρ) (es.map (enD ρ))).run P w=.ok (o.map fun j=>(j,((es[j - 0]?).map fun e=>e.2.1.den ρ).getD undef)) w:=fun ρ o hf w=>by
     obtain ⟨g1,-⟩:=findK_ok (ρ:=ρ) hf
     simp [Instr.findKey,underlying,program,hkt,g1,Sem.run_bind,Sem.run,Result.andThen,pure]
    have hup:∀ (ρ:Env) (W:World),W.heap[(ρ j).pos]? = some (.map (es.map (enD ρ)).toArray ck)→∀ o,findK kd c es 0=some o→(Instr.mapUpdate t (.map (some (ρ j).pos)) (c.den ρ) (x.den ρ)).run P W=(match o with
      | some i=>setObj (ρ j).pos (.map ((es.map (enD ρ)).toArray.modify i fun e=>{ e with key:=c.den ρ,val:=x.den ρ }) ck)
      | none=>setObj (ρ j).pos (.map ((es.map (enD ρ)).toArray.push { key:=c.den ρ,val:=x.den ρ,born:=ck }) (ck+1))).run P W:=fun ρ W hW o hf=>by
     have hg:=hfind ρ o hf
     unfold Instr.mapUpdate
     simp only [underlying,program,Sem.run_bind,Sem.run,Result.andThen,hu,getObj,hW,pure,hck,hg] at hck hg ⊢
     cases o with
     | none=>simp
     | some i =>
      obtain ⟨-,g2⟩:=findK_ok (ρ:=ρ) hf
      obtain ⟨-,-,e',g3,g4⟩:=g2 i rfl
      simp only [Nat.sub_zero] at g3
      have hsb:=(eqK_den (ρ:=ρ) g4).2
      simp [Sem.run_bind,Result.andThen,Instr.keyThatStays,g3,enD,hsb,Sem.run,pure]
    have hset:∀ (r:Nat) (ob:Obj) (W:World) (es0:Array MapEntry) (c0:Nat),W.heap[r]? = some (.map es0 c0)→(setObj r ob).run P W=.ok () (W.putObj r ob):=fun r ob W es0 c0 h0=>by
     simp [setObj,Sem.run,h0,World.putObj]
    split at h
    ·rename_i i hf
     have he:=(Option.some.inj h).symm
     refine ⟨he ▸ putI_pl hjn hnt h2 ⟨_,h1,rfl⟩ (fun _ i' hi' m hm=>?_) (fun m hm=>by cases hm),fun ρ W a hi hr=>?_⟩
     ·obtain rfl:=Option.some.inj hi'
      rcases setM_nm hm with hm | hm
      ·exact hxn m hm
      ·exact hes m hm
     ·have hW:W.heap[(ρ j).pos]? = some (.map (es.map (enD ρ)).toArray ck):=hi.sat j _ h1 h2
      refine htk ρ W a _ ck hi hr he ?_
      rw [hup ρ W hW _ hf]
      simp only
      rw [hset _ _ _ _ _ hW,setM_den,Array.toArray_toList]
      obtain ⟨-,g2⟩:=findK_ok (ρ:=ρ) hf
      obtain ⟨-,-,e',g3,g4⟩:=g2 i rfl
      simp only [Nat.sub_zero] at g3
      have e:((es.map (enD ρ)).toArray.modify i fun e=>{ e with key:=c.den ρ,val:=x.den ρ })=(es.map (enD ρ)).toArray.modify i fun e=>{ e with val:=x.den ρ }:=by
       apply Array.ext_getElem?
       intro q
       simp only [Array.getElem?_modify]
       split
       ·rename_i hq
        subst hq
        simp only [List.getElem?_toArray,List.getElem?_map,g3,Option.map_some,Option.some.injEq]
        simp only [enD,(eqK_den (ρ:=ρ) g4).1]
       ·rfl
      rw [e]
    ·rename_i hf
     have he:=(Option.some.inj h).symm
     refine ⟨he ▸ putI_pl hjn hnt h2 ⟨_,h1,rfl⟩ (fun _ i' hi' m hm=>?_) (fun m hm=>by cases hm),fun ρ W a hi hr=>?_⟩
     ·obtain rfl:=Option.some.inj hi'
      have hm:m∈(es ++ [(c,x,ck)]).flatMap (fun e=>e.1.nm ++ elN e.2.1):=hm
      rw [List.flatMap_append,List.mem_append] at hm
      rcases hm with hm | hm
      ·exact hes m hm
      ·simp only [List.flatMap_cons,List.flatMap_nil,List.append_nil,List.mem_append] at hm
       rcases hm with hm | hm
       ·exact hcn m hm
       ·exact hxn m hm
     ·have hW:W.heap[(ρ j).pos]? = some (.map (es.map (enD ρ)).toArray ck):=hi.sat j _ h1 h2
      refine htk ρ W a _ (ck+1) hi hr he ?_
      rw [hup ρ W hW _ hf]
      simp only
      rw [hset _ _ _ _ _ hW]
      congr 3
      simp [enD]
    ·cases h
  ·cases h
 ·cases h
theorem tk_value {K:Value→World→Prop} {s:Sem Value} {v:Value} {w w':World} (h:s.run P w=.ok v w') (hK:K v w'):tkU P K ((do pure (.value (← s)):Sem Next).run P w):=by
 simp only [Sem.run_bind,h,Result.andThen]
 exact hK
theorem specE_ok {call:CallT S} (hcall:CallOk P X w00 call) {rd:Tmp→Option SV} {o:Oper} (h:specE P X call rd fb hp n o.op=some r) (wf:Wf hp n) :
  Pl fb hp n r∧∀ (ρ:Env) (W:World) (a:Act),Inv X w00 fb ρ hp W→(∀ t v,rd t=some v→a.tmps.getD t undef=v.den ρ)→tk P o a W fun v W'=>∃ ρ',Dy X w00 fb n r ρ W v ρ' W':=by
 unfold tk execOp
 unfold specE at h
 split at h
 all_goals first | (cases h;done) | (rename_i hop;rw [hop])
 ·-- makeSlice
  split at h
  ·rename_i kl l kc c e hl hc hu
   split at h
   ·rename_i i zc hi hz
    cases hb:(Nat.beq i.size zc.length && Nat.blt 0 zc.length && Nat.ble l c && Nat.ble (i.bytes*c) 281474976710656 && Nat.ble c 9223372036854775807) with
    | false=>rw [hb] at h;cases h
    | true =>
     rw [hb,cond_true] at h
     simp only [Bool.and_eq_true] at hb
     obtain ⟨⟨⟨⟨b1,b2⟩,b3⟩,b4⟩,b5⟩:=hb
     refine ⟨new_pl h,fun ρ W a hinv hr=>?_⟩
     simp only [opd_ok hl hr,opd_ok hc hr,SV.den,El.den,Cell.den]
     refine tk_value (make_ok (ρ:=ρ) hu hi hz (Nat.eq_of_beq_eq_true b1) (Nat.le_of_ble_eq_true b2) (Nat.le_of_ble_eq_true b3) (Nat.le_of_ble_eq_true b4) (Nat.le_of_ble_eq_true b5) W) ⟨_,new_dy h hinv wf ?_ ((Below.refl _ _).alloc (Nat.le_refl _) _) (Bx.new W e _)⟩
     simp only [SV.den,El.den,Cell.den,(putN_self _ _ _ _).1,(putN_self _ _ _ _).2,Nat.sub_zero]
   ·cases h
  ·cases h
 ·-- buildSlice
  rename_i t len parts
  split at h
  ·rename_i e ps hu hps
   split at h
   ·rename_i i zc hi hz
    cases hb:(Nat.beq i.size zc.length && Nat.blt 0 zc.length && Nat.ble (len*zc.length) 16777216) with
    | false=>rw [hb] at h;cases h
    | true =>
     rw [hb,cond_true] at h
     simp only [Bool.and_eq_true] at hb
     obtain ⟨⟨b1,b2⟩,b3⟩:=hb
     split at h
     ·rename_i cs hf
      refine ⟨new_pl h,fun ρ W a hinv hr=>?_⟩
      have hp':(parts.map fun (x:Nat×Operand)=>(x.1,a.eval x.2)).toList=ps.map fun x=>(x.1,x.2.den ρ):=by rw [Array.toList_map];exact parts_ok hr hps
      refine tk_value (build_ok (ρ:=ρ) hu hi hz (Nat.eq_of_beq_eq_true b1) (Nat.le_of_ble_eq_true b2) (Nat.le_of_ble_eq_true b3) hf hp' W) ⟨_,new_dy h hinv wf ?_ ((Below.refl _ _).alloc (Nat.le_refl _) _) (Bx.new W e _)⟩
      simp only [SV.den,El.den,Cell.den,(putN_self _ _ _ _).1,(putN_self _ _ _ _).2,Nat.sub_zero]
     ·cases h
   ·cases h
  ·cases h
 ·-- call
  rename_i c
  split at h
  ·rename_i args ha
   have hargs:∀ (ρ:Env) (a:Act),(∀ t v,rd t=some v→a.tmps.getD t undef=v.den ρ)→c.args.map a.eval=(args.map (SV.den ρ)).toArray:=fun ρ a hr=>by
    apply Array.ext'
    rw [Array.toList_map,opds_ok hr ha]
   split at h
   ·rename_i hc
    have hap:Pl fb hp n r∧∀ (ρ:Env) (W:World),Inv X w00 fb ρ hp W→∃ v W' ρ',(Builtin.append_ c.argTypes o.type (args.map (SV.den ρ)).toArray).run P W=.ok v W'∧Dy X w00 fb n r ρ W v ρ' W':=by
     split at h
     ·rename_i r' h1
      cases h
      exact appE_ok h1 wf o.type
     ·split at h
      ·rename_i r' h1
       cases h
       exact appG_ok h1 wf o.type
      ·exact appI_ok h wf o.type
    obtain ⟨pl,go⟩:=hap
    refine ⟨pl,fun ρ W a hinv hr=>?_⟩
    obtain ⟨v,W',ρ',hrun,dy⟩:=go ρ W hinv
    simp only
    rw [run_appendC hc (by rw [hargs ρ a hr];exact hrun)]
    exact ⟨ρ',dy⟩
   ·rename_i hc
    obtain ⟨pl,go⟩:=copyE_ok (P:=P) (X:=X) (w00:=w00) h wf o.type
    refine ⟨pl,fun ρ W a hinv hr=>?_⟩
    obtain ⟨v,W',ρ',hrun,dy⟩:=go ρ W hinv
    simp only
    rw [run_copyC hc (by rw [hargs ρ a hr];exact hrun)]
    exact ⟨ρ',dy⟩
   ·rename_i hc
    obtain ⟨pl,go⟩:=clrE_ok (P:=P) (X:=X) (w00:=w00) h wf o.type
    refine ⟨pl,fun ρ W a hinv hr=>?_⟩
    obtain ⟨v,W',ρ',hrun,dy⟩:=go ρ W hinv
    simp only
    rw [run_clearC hc (by rw [hargs ρ a hr];exact hrun)]
    exact ⟨ρ',dy⟩
   ·rename_i f hc
    cases hb:callB P f with
    | false=>rw [hb] at h;cases h
    | true =>
     rw [hb,cond_true] at h
     obtain ⟨pl,go⟩:=hcall _ _ _ _ _ _ h wf
     refine ⟨pl,fun ρ W a hinv hr=>?_⟩
     simp only
     rw [run_call hc hb (hargs ρ a hr)]
     exact Calls.mono (show Calls P f _ W _ from go ρ W hinv) fun e W' ⟨v,ρ',he,dy⟩=>⟨v,he,ρ',dy⟩
   ·rename_i t hc
    split at h
    ·rename_i f l hv
     cases hb:callB P f with
     | false=>rw [hb] at h;cases h
     | true =>
      rw [hb,cond_true] at h
      obtain ⟨pl,go⟩:=hcall _ _ _ _ _ _ h wf
      refine ⟨pl,fun ρ W a hinv hr=>?_⟩
      simp only
      have hv':a.eval (.tmp t)=.func (.func f) #[] (l.map fun x:Nat×Nat=>Value.pointer (some ⟨(ρ x.1).pos,x.2,none⟩)).toArray:=hr t _ hv
      rw [run_closure hc hb hv',hargs ρ a hr]
      have:=go ρ W hinv
      rw [List.map_append,List.map_map] at this
      rw [List.append_toArray]
      exact Calls.mono (show Calls P f _ W _ from this) fun e W' ⟨v,ρ',he,dy⟩=>⟨v,he,ρ',dy⟩
    ·rename_i k hv
     obtain ⟨pl,go⟩:=hcall _ _ _ _ _ _ h wf
     refine ⟨pl,fun ρ W a hinv hr=>?_⟩
     obtain ⟨lr,hlr,hsz,hround⟩:=go ρ W hinv
     have hv':a.eval (.tmp t)=.func (.yield (ρ k).pos) #[] #[]:=hr t _ hv
     simp only
     rw [run_yieldC hc hv' hlr (by rw [hargs ρ a hr];exact hsz),hargs ρ a hr]
     exact hround.mono fun e W' ⟨v,ρ',he,dy⟩=>⟨v,he,ρ',dy⟩
    ·rename_i k hv
     split at h
     ·rename_i f first l hs
      obtain ⟨hs1,hs2⟩:=see_some hs
      cases hb:callB P f with
      | false=>rw [hb] at h;cases h
      | true =>
       rw [hb,cond_true] at h
       obtain ⟨pl,go⟩:=hcall _ _ _ _ _ _ h wf
       refine ⟨pl,fun ρ W a hinv hr=>?_⟩
       have hg:(ρ k).g=(f,(first.map (El.den ρ)).toArray,(l.map (ptD ρ)).toArray):=hinv.sat k _ hs1 hs2
       have hv':a.eval (.tmp t)=.func (.func f) (first.map (El.den ρ)).toArray (l.map (ptD ρ)).toArray:=by
        have h0:a.eval (.tmp t)=.func (.func (ρ k).g.1) (ρ k).g.2.1 (ρ k).g.2.2:=hr t _ hv
        rw [h0,hg]
       simp only
       rw [run_first hc hb hv',hargs ρ a hr]
       have:=go ρ W hinv
       rw [List.map_append,List.map_append,List.map_map,List.map_map] at this
       rw [List.append_toArray,List.append_toArray]
       exact Calls.mono (show Calls P f _ W _ from this) fun e W' ⟨v,ρ',he,dy⟩=>⟨v,he,ρ',dy⟩
     ·cases h
    ·cases h
   ·cases h
  ·cases h
 ·-- makeFunc
  rename_i f first captured
  split at h
  ·rename_i fs vs hf hc
   split at h
   ·rename_i els l hl hp'
    obtain ⟨hb,rfl⟩:=bif_some h
    simp only [Bool.and_eq_true,okEs_eq] at hb
    have b1:∀ m∈els.flatMap elN,m<n:=nmB_ok hb.1.1
    have b2:=nmB_ok hb.1.2
    have b3:n<top:=Nat.le_of_ble_eq_true hb.2
    refine ⟨newI_pl (fun m hm=>?_) (fun m hm=>?_) b3,fun ρ W a hi hr=>?_⟩
    ·rcases List.mem_append.1 hm with hm | hm
     ·exact Nat.lt_succ_of_lt (b1 m hm)
     ·exact Nat.lt_succ_of_lt (b2 m hm)
    ·obtain rfl:m=n:=by simpa [SV.nm,El.cells,Cell.nm] using hm
     exact Nat.lt_succ_self _
    ·have h1:first.map a.eval=(els.map (El.den ρ)).toArray:=by
      apply Array.ext'
      rw [Array.toList_map,opds_ok hr hf,elsOf_ok hl]
     have h2:captured.map a.eval=(l.map (ptD ρ)).toArray:=by
      apply Array.ext'
      rw [Array.toList_map,opds_ok hr hc,ptrs_ok hp']
      rfl
     let ρ':Env:=fun m=>if m=n then { ρ m with g:=(f,(els.map (El.den ρ)).toArray,(l.map (ptD ρ)).toArray) } else ρ m
     have hne:∀ m,m≠n→ρ' m=ρ m:=fun m hm=>if_neg hm
     have hself:(ρ' n).g=(f,(els.map (El.den ρ)).toArray,(l.map (ptD ρ)).toArray):=by simp [ρ']
     have e1:els.map (El.den ρ')=els.map (El.den ρ):=els_congr fun m hm=>hne m (by have:=b1 m hm;omega)
     have e2:l.map (ptD ρ')=l.map (ptD ρ):=pts_congr fun m hm=>hne m (by have:=b2 m hm;omega)
     refine ⟨ρ',newI_dy (v:=.func (.func f) (first.map a.eval) (captured.map a.eval)) b3 hi wf hne (fun hB=>by cases hB) ?_ (Below.refl _ _) ?_⟩
     ·rw [h1,h2]
      show _=Value.func (.func (ρ' n).g.1) (ρ' n).g.2.1 (ρ' n).g.2.2
      rw [hself]
     ·show (ρ' n).g=_
      rw [hself,e1,e2]
   ·cases h
  ·cases h
 ·-- makeMap
  obtain ⟨hb,rfl⟩:=bif_some h
  have b3:n<top:=Nat.le_of_ble_eq_true hb
  refine ⟨newI_pl (fun m hm=>by cases hm) (fun m hm=>?_) b3,fun ρ W a hi hr=>?_⟩
  ·obtain rfl:m=n:=by simpa [SV.nm,El.cells,Cell.nm] using hm
   exact Nat.lt_succ_self _
  ·refine ⟨atN ρ n W.heap.size,newI_dy (v:=.map (some W.heap.size)) (W':=W.alloc (.map #[] 0)) b3 hi wf (fun m hm=>atN_ne hm) (fun _=>atN_self _ _ _) ?_ (below_alloc _ _) ?_⟩
   ·simp only [SV.den,El.den,Cell.den,atN_self]
   ·show (W.alloc _).heap[(atN ρ n W.heap.size n).pos]? = _
    rw [atN_self]
    exact World.alloc_heap_new _ _
 ·rename_i t m k v
  obtain ⟨pl,go⟩:=insE_ok (X:=X) (w00:=w00) (.inl hop) h wf
  exact ⟨pl,fun ρ W a hi hr=>by
   have:=tk_of_takes (go ρ W a hi hr)
   unfold tk execOp at this
   rw [hop] at this
   exact this⟩
 ·rename_i t m k v
  obtain ⟨pl,go⟩:=insE_ok (X:=X) (w00:=w00) (.inr hop) h wf
  exact ⟨pl,fun ρ W a hi hr=>by
   have:=tk_of_takes (go ρ W a hi hr)
   unfold tk execOp at this
   rw [hop] at this
   exact this⟩
end
section
variable (P:Program) {S:Sys} (X:Xt S) (H:Tests S) (cons:List (Con S))
noncomputable def rxE (rd:Tmp→Option SV) (fb:List (Nat×Nat)) (hp:T (It S)) (n:Nat) (op:Op):Option (Rs S):=conv X fb hp n (Rx.evalOp P H cons rd (ctOf fb hp) (factsOf fb hp (ded (opNm rd op.operands.toList))) n op)
noncomputable def pureE (rd:Tmp→Option SV) (fb:List (Nat×Nat)) (hp:T (It S)) (n:Nat) (op:Op):Option (Rs S):=match specP P rd fb hp op with
 | some v=>pureR hp n v
 | none=>none
def isCall:Op→Bool
 | .call _=>true
 | _=>false
noncomputable def stE (rd:Tmp→Option SV) (fb:List (Nat×Nat)) (hp:T (It S)) (n:Nat):Op→Option (Rs S)
 | .store t a x=>match opd rd a,opd rd x,sizeB P t with
  | some (.e (.s (.ptr k off))),some (.e x),some z=>bif Nat.beq x.cells.length z then storeR fb hp n k off x.cells .und else none
  | _,_,_=>none
 | _=>none
def isStore:Op→Bool
 | .store ..=>true
 | _=>false
noncomputable def evalOp (call:CallT S) (rd:Tmp→Option SV) (fb:List (Nat×Nat)) (hp:T (It S)) (n:Nat) (op:Op):Option (Rs S):=
 bif isCall op then (match rxE P X H cons rd fb hp n op with
  | some r=>some r
  | none=>match specE P X call rd fb hp n op with
   | some r=>some r
   | none=>pureE P rd fb hp n op)
 else bif isStore op then (match stE P rd fb hp n op with
  | some r=>some r
  | none=>rxE P X H cons rd fb hp n op)
 else match pureE P rd fb hp n op with
  | some r=>some r
  | none=>match rxE P X H cons rd fb hp n op with
   | some r=>some r
   | none=>specE P X call rd fb hp n op
end
section
variable {P:Program} {S:Sys} {X:Xt S} {H:Tests S} {cons:List (Con S)} {w00:World} {E:World→Prop}
theorem stE_ok {fb:List (Nat×Nat)} {hp:T (It S)} {n:Nat} {r:Rs S} {rd:Tmp→Option SV} {o:Oper} (h:stE P rd fb hp n o.op=some r) (wf:Wf hp n) :
  Pl fb hp n r∧∀ (ρ:Env) (W:World) (a:Act),Inv X w00 fb ρ hp W→(∀ t v,rd t=some v→a.tmps.getD t undef=v.den ρ)→takes P o a W fun v W'=>∃ ρ',Dy X w00 fb n r ρ W v ρ' W':=by
 unfold takes execOp
 unfold stE at h
 split at h
 ·rename_i hop
  rw [hop]
  split at h
  ·rename_i k off x z hv hx hz
   cases hb:Nat.beq x.cells.length z with
   | false=>rw [hb] at h;cases h
   | true =>
    rw [hb,cond_true] at h
    refine ⟨store_pl h,fun ρ W a hi hr=>?_⟩
    obtain ⟨T,cs,ex,pat,s⟩:=store_in h
    obtain ⟨rest,h1,-,-⟩:=hi.sat k _ s.see.1 s.see.2
    have hd:=opd_ok hv hr
    have hdx:=opd_ok hx hr
    simp only [hd,hdx]
    rw [show ((do Instr.storeAt _ (SV.den ρ (.e (.s (.ptr k off)))) (SV.den ρ (.e x));pure .skip:Sem Next).run P W)=.ok .skip (setMany W (ρ k).pos off (x.cells.map (Cell.den ρ))) by
     simp only [Sem.run_bind]
     rw [show SV.den ρ (.e (.s (.ptr k off)))=.pointer (some ⟨(ρ k).pos,off,none⟩) from rfl,show SV.den ρ (.e x)=El.den ρ x from rfl,
      run_store (x.den_cells ρ) (by rw [List.length_map,Nat.eq_of_beq_eq_true hb];exact hz) h1 (by have:=s.le;simp;omega) (fun v hv'=>by obtain ⟨c,-,rfl⟩:=List.mem_map.1 hv';exact c.flat ρ)]
     rfl]
    exact ⟨ρ,store_dy h hi wf rfl rfl⟩
  ·cases h
 ·cases h
theorem evalOp_ev (hc:∀ c∈cons,c.Ok P S E) (hE:∀ W,Below w00.heap.size w00 W→E W) {call:CallT S} (hcall:CallOk P X w00 call):EvOk P X w00 (evalOp P X H cons call):=by
 intro rd fb hp n o r h wf
 have k1:∀ r,rxE P X H cons rd fb hp n o.op=some r→Pl fb hp n r∧∀ (ρ:Env) (W:World) (a:Act),Inv X w00 fb ρ hp W→(∀ t v,rd t=some v→a.tmps.getD t undef=v.den ρ)→(∀ t v,rd t=some v→∀ m∈v.nm,m<n) →
   tk P o a W fun v W'=>∃ ρ',Dy X w00 fb n r ρ W v ρ' W':=fun r h=>by
  unfold rxE at h
  refine ⟨conv_pl h wf,fun ρ W a hi hr hn=>?_⟩
  cases hrc:Rx.evalOp P H cons rd (ctOf fb hp) (factsOf fb hp (ded (opNm rd o.op.operands.toList))) n o.op with
  | none=>rw [hrc] at h;simp [conv] at h
  | some rc =>
   rw [hrc] at h
   have ht:=Rx.evalOp_ok (o:=o) (a:=a) (W:=W) (ρ:=ρ) hc hrc hr (fun t v hv m hm=>.inl (hn t v hv m hm)) (fun k T cs _ hk=>ctOf_ok hi hk) (fun f hf=>factsOf_ok hi hf) (hE W hi.top)
   exact tk_of_takes (takes_mono ht fun v W' ha=>conv_dy h hi wf ha)
 have k2:∀ r,pureE P rd fb hp n o.op=some r→Pl fb hp n r∧∀ (ρ:Env) (W:World) (a:Act),Inv X w00 fb ρ hp W→(∀ t v,rd t=some v→a.tmps.getD t undef=v.den ρ)→(∀ t v,rd t=some v→∀ m∈v.nm,m<n) →
   tk P o a W fun v W'=>∃ ρ',Dy X w00 fb n r ρ W v ρ' W':=fun r h=>by
  unfold pureE at h
  split at h
  ·rename_i v hv
   refine ⟨pure_pl h,fun ρ W a hi hr _=>?_⟩
   exact tk_of_takes (takes_mono (specP_ok hv hi hr) fun u W' ⟨h1,h2⟩=>by subst h2;exact ⟨ρ,pure_dy h hi wf h1⟩)
  ·cases h
 have k3:∀ r,specE P X call rd fb hp n o.op=some r→Pl fb hp n r∧∀ (ρ:Env) (W:World) (a:Act),Inv X w00 fb ρ hp W→(∀ t v,rd t=some v→a.tmps.getD t undef=v.den ρ)→(∀ t v,rd t=some v→∀ m∈v.nm,m<n) →
   tk P o a W fun v W'=>∃ ρ',Dy X w00 fb n r ρ W v ρ' W':=fun r h=>by
  obtain ⟨pl,go⟩:=specE_ok hcall h wf
  exact ⟨pl,fun ρ W a hi hr _=>go ρ W a hi hr⟩
 unfold evalOp at h
 cases hic:isCall o.op with
 | true =>
  rw [hic,cond_true] at h
  split at h
  ·rename_i r' h1;cases h;exact k1 _ h1
  ·split at h
   ·rename_i r' h1;cases h;exact k3 _ h1
   ·exact k2 _ h
 | false =>
  rw [hic,cond_false] at h
  cases his:isStore o.op with
  | true =>
   rw [his,cond_true] at h
   split at h
   ·rename_i r' h1
    cases h
    obtain ⟨pl,go⟩:=stE_ok (X:=X) (w00:=w00) h1 wf
    exact ⟨pl,fun ρ W a hi hr _=>tk_of_takes (go ρ W a hi hr)⟩
   ·exact k1 _ h
  | false =>
   rw [his,cond_false] at h
   split at h
   ·rename_i r' h1;cases h;exact k2 _ h1
   ·split at h
    ·rename_i r' h1;cases h;exact k1 _ h1
    ·exact k3 _ h
end
end Rx.Ry
namespace Rx.Ry
open Go.RowKit
def okK:List Nat→Bool
 | a :: b :: r=>!(Nat.beq a 1 && Nat.beq b 1) && okK (b :: r)
 | _=>true
theorem okK_two:∀ {l:List Nat} {i:Nat},okK l=true→l[i]? = some 1→l[i+1]? = some 1→False
 | [],i,_,h,_=>by simp at h
 | [a],i,_,_,h=>by cases i <;> simp at h
 | a :: b :: r,0,hk,h,h2=>by
  simp only [List.getElem?_cons_zero,Option.some.injEq] at h
  simp only [Nat.zero_add,List.getElem?_cons_succ,List.getElem?_cons_zero,Option.some.injEq] at h2
  subst h h2
  simp [okK] at hk
 | a :: b :: r,i+1,hk,h,h2=>by
  simp only [okK,Bool.and_eq_true] at hk
  exact okK_two hk.2 (by simpa using h) (by simpa using h2)
theorem okK_of:∀ {l:List Nat},(∀ i,l[i]? = some 1→l[i+1]? = some 1→False)→okK l=true
 | [],_=>rfl
 | [a],_=>rfl
 | a :: b :: r,h=>by
  simp only [okK,Bool.and_eq_true]
  refine ⟨?_,okK_of fun i h1 h2=>h (i+1) (by simpa using h1) (by simpa using h2)⟩
  cases hb:(Nat.beq a 1 && Nat.beq b 1) with
  | false=>rfl
  | true =>
   simp only [Bool.and_eq_true] at hb
   exact (h 0 (by rw [Nat.eq_of_beq_eq_true hb.1];rfl) (by rw [Nat.eq_of_beq_eq_true hb.2];rfl)).elim
theorem okK_rep {p:List Nat} (h:okK (p ++ p)=true):∀ c,okK (List.replicate c p).flatten=true
 | 0=>rfl
 | 1=>by
  rw [List.replicate_one,List.flatten_singleton]
  refine okK_of fun i h1 h2=>okK_two h (i:=i) ?_ ?_
  ·rw [List.getElem?_append_left (List.getElem?_eq_some_iff.1 h1).1];exact h1
  ·rw [List.getElem?_append_left (List.getElem?_eq_some_iff.1 h2).1];exact h2
 | c+2=>by
  have ih:=okK_rep h (c+1)
  rw [Nat.add_comm (c+1) 1,flat_rep,List.replicate_one,List.flatten_singleton]
  refine okK_of fun i h1 h2=>?_
  rcases Nat.lt_or_ge (i+1) p.length with h3 | h3
  ·rw [List.getElem?_append_left (by omega)] at h1
   rw [List.getElem?_append_left h3] at h2
   exact okK_two h (i:=i) (by rw [List.getElem?_append_left (by omega)];exact h1) (by rw [List.getElem?_append_left h3];exact h2)
  ·rcases Nat.lt_or_ge i p.length with h4 | h4
   ·rw [List.getElem?_append_left h4] at h1
    have e:i+1 - p.length=0:=by omega
    rw [List.getElem?_append_right h3,e,Nat.add_comm c 1,flat_rep,List.replicate_one,List.flatten_singleton,List.getElem?_append_left (by omega)] at h2
    refine okK_two h (i:=i) (by rw [List.getElem?_append_left h4];exact h1) (by rw [List.getElem?_append_right h3,e];exact h2)
   ·rw [List.getElem?_append_right h4] at h1
    rw [List.getElem?_append_right h3,show i+1 - p.length=(i - p.length)+1 by omega] at h2
    exact okK_two ih h1 h2
theorem mag_chg {W W':World} {c d:Value} {n:Nat} (h:IsMag W c d n) (hs:W.heap.size≤W'.heap.size) (hc:∀ b,b<W.heap.size→W'.heap[b]? = W.heap[b]?∨(∃ T vs,Rx.Bx W b T vs∧okK (vs.map kdV)=true)∨∀ c T z,W.heap[b]?≠some (.cells c T z)):IsMag W' c d n:=by
 rcases h with h | ⟨b,o,k,xs,k1,k2,k3,k4,k5,k6,k7,k8,k9⟩
 ·exact .inl h
 ·refine .inr ⟨b,o,k,xs,k1,k2,Nat.lt_of_lt_of_le k3 hs,k4,k5,k6,k7,k8,fun j hj=>?_⟩
  rcases hc b k3 with h1 | ⟨T,vs,h1,h2⟩ | h1
  ·exact (World.cell?_of_block h1).trans (k9 j hj)
  ·exfalso
   have h3:=k9 0 (by omega)
   have h4:=k9 1 (by omega)
   rw [Nat.add_zero,h1.cell] at h3
   rw [h1.cell] at h4
   exact okK_two (i:=o) h2 (by rw [List.getElem?_map,h3];rfl) (by rw [List.getElem?_map,h4];rfl)
  ·exfalso
   have h3:=k9 0 (by omega)
   unfold World.cell? at h3
   split at h3
   ·rename_i c T z h4
    exact h1 c T z h4
   ·cases h3
end Rx.Ry
end Go.Proofs.YtmijlcldmefggaaGreatDoor
