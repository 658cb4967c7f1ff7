/- What the proof rests on, part 22. -/
import Derived.Test.YtnmlkobogofadaaGreatDoorP21
import Derived.Laws.Cells
import Derived.Laws.Rows
namespace Go.Proofs.YtnmlkobogofadaaGreatDoor
set_option maxRecDepth 100000
set_option maxHeartbeats 80000000
namespace Rx
open Go.RowKit
def setMany (W:World) (b:Nat):Nat→List Value→World
 | _,[]=>W
 | off,v :: r=>setMany (W.setCell ⟨b,off,none⟩ v) b (off+1) r
theorem Bx.lt {W:World} {b:Nat} {T:TypeId} {vs:List Value} (h:Bx W b T vs):b<W.heap.size:=by
 rcases Nat.lt_or_ge b W.heap.size with hlt | hge
 ·exact hlt
 ·unfold Bx at h;rw [Array.getElem?_eq_none hge] at h;cases h
theorem Bx.cell {W:World} {b:Nat} {T:TypeId} {vs:List Value} (h:Bx W b T vs) (i:Nat):W.cell? ⟨b,i,none⟩=vs[i]?:=by
 unfold Bx at h
 simp [World.cell?,h]
theorem Bx.frozen {W:World} {b:Nat} {T:TypeId} {vs:List Value} (h:Bx W b T vs) (i:Nat):W.frozen? ⟨b,i,none⟩=false:=by
 unfold Bx at h
 simp [World.frozen?,h]
theorem Bx.below {W W':World} {b:Nat} {T:TypeId} {vs:List Value} (h:Bx W b T vs) (hb:Below W.heap.size W W'):Bx W' b T vs:=(hb.block b h.lt).trans h
theorem Bx.new (W:World) (T:TypeId) (vs:List Value):Bx (W.alloc (.cells vs.toArray T)) W.heap.size T vs:=heap_alloc_new W _
theorem Bx.set {W:World} {b:Nat} {T:TypeId} {vs:List Value} (h:Bx W b T vs) (i:Nat) (u:Value):Bx (W.setCell ⟨b,i,none⟩ u) b T (vs.set i u):=by
 unfold Bx at h ⊢
 simp [World.setCell,Array.getElem?_modify,h]
theorem Bx.far {W:World} {b:Nat} {T:TypeId} {vs:List Value} (h:Bx W b T vs) {a:Addr} (ha:b≠a.block) (u:Value):Bx (W.setCell a u) b T vs:=(Below.heap_setCell W a u b ha).trans h
def flat:Value→Bool
 | .agg _ | .tuple _=>false
 | _=>true
theorem Cell.flat (ρ:Env) (c:Cell):Rx.flat (c.den ρ)=true:=by cases c <;> rfl
theorem Gp {off:Nat} {done:List Cell} {c:Cell} {cs:List Cell} (h:off+done.length<cs.length):(splice off done cs).set (off+done.length) c=splice off (done ++ [c]) cs:=by
 have hl:(cs.take off).length=off:=by simp;omega
 unfold splice
 rw [List.set_append_right _ _ (by simp;omega)]
 simp only [List.length_append,hl,List.length_singleton]
 rw [show off+done.length - (off+done.length)=0 by omega]
 have hd:cs.drop (off+done.length)=cs[off+done.length] :: cs.drop (off+done.length+1):=(List.drop_eq_getElem_cons h)
 rw [hd,List.set_cons_zero,show off+(done.length+1)=off+done.length+1 by omega]
 simp
theorem Gw (off:Nat) (cs:List Cell):splice off [] cs=cs:=by simp [splice]
theorem DY (ρ:Env) {off:Nat} {cs new:List Cell} (hle:off+new.length≤cs.length):∀ (rest done:List Cell),done ++ rest=new →
  ((rest.map (Cell.den ρ)).zipIdx done.length).foldl (fun (A:Array Value) (x:Value×Nat)=>A.setIfInBounds (off+x.2) x.1) ((splice off done cs).map (Cell.den ρ)).toArray=((splice off new cs).map (Cell.den ρ)).toArray
 | [],done,hd=>by
  rw [List.append_nil] at hd
  subst hd
  rfl
 | c :: rest,done,hd=>by
  have hlen:done.length+(rest.length+1)=new.length:=by rw [← hd];simp
  have hsp:=Gp (off:=off) (done:=done) (c:=c) (cs:=cs) (by omega)
  have ih:=DY ρ hle rest (done ++ [c]) (by rw [← hd];simp)
  rw [List.length_append,List.length_singleton] at ih
  simp only [List.map_cons,List.zipIdx_cons,List.foldl_cons]
  rw [← ih,← hsp]
  congr 1
  simp [List.map_set]
section
variable {P:Program}
theorem xg (b off i:Nat):(⟨b,off,none⟩:Addr).add i=⟨b,off+i,none⟩:=by
 unfold Addr.add
 split
 ·rename_i h;subst h;rfl
 ·rfl
theorem wF {t:TypeId} {x:Bool} {w:World} (h:kK P t=some x):(isAgg t).run P w=.ok x w:=by
 unfold kK at h
 unfold isAgg
 cases hu:P.underlying t with
 | none=>rw [hu] at h;cases h
 | some d =>
  rw [hu] at h
  cases d <;> simp_all [Sem.run_bind,underlying,program,Sem.run,Result.andThen,pure]
theorem run_sizeOf {t:TypeId} {n:Nat} {w:World} (h:iO P t=some n):(sizeOf t).run P w=.ok n w:=by
 unfold iO at h
 obtain ⟨i,hi,rfl⟩:=Option.map_eq_some_iff.1 h
 simp [sizeOf,typeInfo,hi,Sem.run_bind,program,Sem.run,Result.andThen,pure]
theorem F5 {t:TypeId} {n b off:Nat} {T:TypeId} {vs:List Value} {w:World} (ha:kK P t=some true) (hn:iO P t=some n) (hb:Bx w b T vs) (hle:off+n≤vs.length) :
  (Instr.loadAt t (.pointer (some ⟨b,off,none⟩))).run P w=.ok (.agg ((vs.drop off).take n).toArray) w:=by
 have hlen:((vs.drop off).take n).length=n:=by simp;omega
 have h1:=run_loadCells_list (P:=P) w ⟨b,off,none⟩ ((vs.drop off).take n) (fun j v hv=>by
  rw [xg,hb.cell]
  rw [List.getElem?_take] at hv
  split at hv
  ·rwa [List.getElem?_drop] at hv
  ·cases hv)
 rw [hlen] at h1
 simp only [Instr.loadAt,loadVar,Instr.sureAddr,Sem.run_bind,Sem.run,Result.andThen,pure,wF ha,run_sizeOf hn,if_true,h1]
theorem F9 {t:TypeId} {b off:Nat} {T:TypeId} {vs:List Value} {v:Value} {w:World} (ha:kK P t=some false) (hb:Bx w b T vs) (hv:vs[off]? = some v) :
  (Instr.loadAt t (.pointer (some ⟨b,off,none⟩))).run P w=.ok v w:=by
 have hc:w.cell? ⟨b,off,none⟩=some v:=(hb.cell off).trans hv
 simp [Instr.loadAt,loadVar,Instr.sureAddr,Sem.run_bind,Sem.run,Result.andThen,pure,wF ha,load,hc]
theorem TV {b off:Nat} {T:TypeId} {vs:List Value} {v:Value} {w:World} (hb:Bx w b T vs) (ho:off<vs.length) (hf:flat v=true):(store ⟨b,off,none⟩ v).run P w=.ok () (w.setCell ⟨b,off,none⟩ v):=by
 have hc:w.cell? ⟨b,off,none⟩=some vs[off]:=(hb.cell off).trans (by simp [ho])
 have hz:=hb.frozen off
 cases v <;> first | (cases hf;done) | simp [store,Sem.run,hc,hz]
theorem Gj {b:Nat} {T:TypeId}:∀ (new:List Value) (off i:Nat) {vs:List Value} {w:World},Bx w b T vs→off+i+new.length≤vs.length→(∀ v∈new,flat v=true) →
  (storeCells ⟨b,off,none⟩ new i).run P w=.ok () (setMany w b (off+i) new)
 | [],off,i,vs,w,_,_,_=>rfl
 | v :: r,off,i,vs,w,hb,hl,hf=>by
  simp only [List.length_cons] at hl
  have h1:=TV (P:=P) hb (off:=off+i) (v:=v) (by omega) (hf v (by simp))
  have h2:=Gj r off (i+1) (hb.set (off+i) v) (by simp;omega) (fun x hx=>hf x (by simp [hx]))
  simp only [storeCells,Sem.run_bind,xg,h1,Result.andThen,setMany]
  exact h2
theorem run_store {t:TypeId} {b off:Nat} {T:TypeId} {vs:List Value} {v:Value} {new:List Value} {w:World} (hc:v.cells=new.toArray) (hn:iO P t=some new.length) (hb:Bx w b T vs) (hle:off+new.length≤vs.length) (hf:∀ v∈new,flat v=true) :
  (Instr.storeAt t (.pointer (some ⟨b,off,none⟩)) v).run P w=.ok () (setMany w b off new):=by
 have h1:=Gj (P:=P) new off 0 hb (by omega) hf
 simp only [Instr.storeAt,Instr.sureAddr,storeVar,Sem.run_bind,Sem.run,Result.andThen,pure,run_sizeOf hn,hc]
 simpa using h1
theorem TF {T:TypeId} {v:Value} {new:List Value} {w:World} (hc:v.cells=new.toArray):(Instr.box T v).run P w=.ok (.pointer (some ⟨w.heap.size,0,none⟩)) (w.alloc (.cells new.toArray T)):=by
 simp [Instr.box,newVar,newRow,newObj,hc,Sem.run_bind,Sem.run,Result.andThen,pure]
theorem Tv {T:TypeId} {v:Value} {new:List Value} {w:World} (hz:(P.info? T).bind (·.zero)=some v) (hc:v.cells=new.toArray):(Instr.alloc T true (.tuple #[])).run P w=.ok (.pointer (some ⟨w.heap.size,0,none⟩)) (w.alloc (.cells new.toArray T)):=by
 obtain ⟨i,hi,hz'⟩:=Option.bind_eq_some_iff.1 hz
 simp [Instr.alloc,zeroValue,typeInfo,program,hi,hz',newVar,newRow,newObj,hc,Sem.run_bind,Sem.run,Result.andThen,pure]
theorem TP {s:TypeId} {f:Nat} {fd:Field} {b off:Nat} {w:World} (h:lG P s f=some fd) (hs:(iO P fd.type).any (· != 0)=true):(Instr.fieldAt s (.pointer (some ⟨b,off,none⟩)) f).run P w=.ok (.pointer (some ⟨b,off+fd.offset,none⟩)) w:=by
 unfold lG at h
 split at h
 ·rename_i fs hu
  cases hn:iO P fd.type with
  | none=>rw [hn] at hs;cases hs
  | some n =>
   rw [hn] at hs
   have hn0:n≠0:=by simpa using hs
   simp [Instr.fieldAt,underlying,program,hu,h,Instr.sureAddr,fieldPlace,run_sizeOf hn,hn0,xg,Sem.run_bind,Sem.run,Result.andThen,pure]
 ·cases h
theorem TQ {s:TypeId} {f n:Nat} {fd:Field} {cs:List Value} {w:World} (h:lG P s f=some fd) (ha:kK P fd.type=some true) (hn:iO P fd.type=some n):(Instr.field s (.agg cs.toArray) f).run P w=.ok (.agg ((cs.drop fd.offset).take n).toArray) w:=by
 unfold lG at h
 split at h
 ·rename_i fs hu
  simp [Instr.field,underlying,program,hu,h,asAgg,part,wF ha,run_sizeOf hn,Sem.run_bind,Sem.run,Result.andThen,pure,List.take_drop]
 ·cases h
theorem TR {s:TypeId} {f:Nat} {fd:Field} {cs:List Value} {v:Value} {w:World} (h:lG P s f=some fd) (ha:kK P fd.type=some false) (hv:cs[fd.offset]? = some v):(Instr.field s (.agg cs.toArray) f).run P w=.ok v w:=by
 unfold lG at h
 split at h
 ·rename_i fs hu
  simp [Instr.field,underlying,program,hu,h,asAgg,part,wF ha,hv,Sem.run_bind,Sem.run,Result.andThen,pure]
 ·cases h
theorem run_places {w:World}:∀ {fs:List Field} {pl:List (Nat×Nat)},qF P fs=some pl→(fs.mapM (m:=Sem) fun f=>do pure (f.offset,← sizeOf f.type)).run P w=.ok pl w
 | [],pl,h=>by simp only [qF,Option.some.injEq] at h;subst h;rfl
 | f :: r,pl,h=>by
  simp only [qF] at h
  split at h
  ·rename_i n l h1 h2
   cases h
   have h3:=run_places (w:=w) h2
   rw [List.mapM_cons]
   simp only [Sem.run_bind,run_sizeOf h1,Result.andThen,pure,Sem.run] at h3 ⊢
   rw [h3]
  ·cases h
theorem DT {ρ:Env} {pl:List (Nat×Nat)}:∀ {ps:List (Nat×El)} {cs out:List Cell},pU pl ps cs=some out →
  Instr.fill (fun i=>pl.toArray[i]?) (cs.map (Cell.den ρ)).toArray (ps.map fun x=>(x.1,x.2.den ρ))=some (out.map (Cell.den ρ)).toArray
 | [],cs,out,h=>by simp only [pU,Option.some.injEq] at h;subst h;rfl
 | (i,x) :: r,cs,out,h=>by
  simp only [pU] at h
  split at h
  ·rename_i off n hp
   split at h
   ·rename_i hc
    simp only [Bool.and_eq_true,decide_eq_true_eq] at hc
    have ih:=DT (ρ:=ρ) h
    have hfold:=DY ρ (off:=off) (cs:=cs) (new:=x.cells) (by omega) x.cells [] rfl
    rw [Gw,List.length_nil] at hfold
    simp only [List.map_cons,Instr.fill]
    rw [show pl.toArray[i]? = some (off,n) by simpa using hp]
    simp only
    rw [x.den_cells ρ]
    rw [if_neg (by simp;omega)]
    rw [← ih,← hfold]
    congr 1
    rw [← Array.foldl_toList,Array.toList_zipIdx]
   ·cases h
  ·cases h
theorem run_build {t:TypeId} {fs:Array Field} {pl:List (Nat×Nat)} {zc out:List Cell} {ps:List (Nat×El)} {ρ:Env} {w:World} (hu:P.underlying t=some (.struct fs)) (hp:qF P fs.toList=some pl) (hz:BP P t=some zc) (hf:pU pl ps zc=some out) (parts:Array (Nat×Value)) (hps:parts.toList=ps.map fun x=>(x.1,x.2.den ρ)) :
  (Instr.build t parts).run P w=.ok (.agg (out.map (Cell.den ρ)).toArray) w:=by
 unfold BP at hz
 split at hz
 ·rename_i z hz0
  obtain ⟨i,hi,hz'⟩:=Option.bind_eq_some_iff.1 hz0
  have h1:=wZ ρ hz
  have h2:z.cells=(zc.map (Cell.den ρ)).toArray:=by rw [h1]
  have h3:=run_places (w:=w) hp
  have h4:=DT (ρ:=ρ) hf
  simp only [Instr.build,Sem.run_bind,zeroValue,typeInfo,program,hi,hz',Sem.run,Result.andThen,pure,underlying,hu,Array.mapM_eq_mapM_toList,map_eq_pure_bind]
  rw [show (List.mapM (m:=Sem) (fun f:Field=>do let n ← sizeOf f.type;Sem.pure (f.offset,n)) fs.toList).run P w=.ok pl w from h3]
  simp only [h2,hps]
  rw [show Instr.fill (fun x=>pl.toArray[x]?) (zc.map (Cell.den ρ)).toArray (ps.map fun x=>(x.1,x.2.den ρ))=some (out.map (Cell.den ρ)).toArray from h4]
  rfl
 ·cases hz
end
end Rx
namespace Rx
open Go.RowKit
section
variable {P:Program} {S:Sys} {H:Tests S}
theorem BH {op:BinOp} {k:IntKind} {a b:Int} {x:Bool} {T:TypeId} {w:World} (h:yu op a b=some x):(binOp op T (.int k a) (.int k b)).run P w=.ok (.bool x) w:=by
 cases op <;> simp only [yu,Option.some.injEq] at h <;> first | cases h;done | (subst h;simp [binOp,Op.intCmp,pure])
theorem TS {op:BinOp} {T:TypeId} {x y:Operand} {a b:Value} {w:World} (ha:flat a=true) (hi:a≠.nilIface):(eqGuard op T x y a b).run P w=.ok () w:=by
 unfold eqGuard
 cases op <;> first | rfl | (cases a <;> first | (cases ha;done) | (exact absurd rfl hi) | (cases b <;> rfl))
theorem FT {T:TypeId} {a b:Bool} {w:World} (hu:P.underlying T=some .bool):(Op.equal T (.bool a) (.bool b)).run P w=.ok (a == b) w:=by
 show (Op.equalIn (9999+1) T (.bool a) (.bool b)).run P w=_
 generalize 9999=d
 simp [Op.equalIn,underlying,program,hu,Sem.run_bind,Sem.run,Result.andThen,pure]
theorem IU {db:List S.F} {op:BinOp} {T:TypeId} {c d:Cell} {x:Bool} (h:xO P H db op T c d=some x) (ρ:Env) (w:World) (hf:∀ f∈db,S.on ρ f w):(binOp op T (c.den ρ) (d.den ρ)).run P w=.ok (.bool x) w:=by
 unfold xO at h
 split at h
 ·split at h
  ·rename_i hk;subst hk;exact BH h
  ·cases h
 ·rename_i a b
  split at h
  ·rename_i hu
   cases h
   simp only [Cell.den,binOp,Sem.run_bind,FT hu,Result.andThen]
   rfl
  ·rename_i hu
   cases h
   simp only [Cell.den,binOp,Sem.run_bind,FT hu,Result.andThen]
   rfl
  ·cases h
 ·split at h
  ·rename_i he
   cases h
   rcases H.ok he ρ w hf with ⟨s,t,h1,h2,h3⟩ | ⟨k,a,b,h1,h2,h3⟩
   ·rw [h1,h2,← h3]
    simp [binOp,Op.stringOp,pure]
   ·rw [h1,h2,← h3]
    exact BH (op:=.eql) rfl
  ·rename_i y he
   cases h
   rcases H.ok he ρ w hf with ⟨s,t,h1,h2,h3⟩ | ⟨k,a,b,h1,h2,h3⟩
   ·rw [h1,h2,← h3]
    simp [binOp,Op.stringOp,pure]
   ·rw [h1,h2,← h3]
    exact BH (op:=.neq) rfl
  ·cases h
theorem dR {rd:Tmp→Option SV} {x:Operand} {v:SV} {ρ:Env} {a:Act} (h:opd rd x=some v) (hr:∀ t v,rd t=some v→a.tmps.getD t undef=v.den ρ):a.eval x=v.den ρ:=by
 cases x with
 | tmp t=>exact hr t v h
 | const c=>exact (CQ ρ h).symm
 | global g=>cases h
 | func f=>cases h
theorem EP {rd:Tmp→Option SV} {ρ:Env} {a:Act} (hr:∀ t v,rd t=some v→a.tmps.getD t undef=v.den ρ):∀ {l:List Operand} {vs:List SV},sG rd l=some vs→l.map a.eval=vs.map (SV.den ρ)
 | [],vs,h=>by simp only [sG,Option.some.injEq] at h;subst h;rfl
 | x :: r,vs,h=>by
  simp only [sG] at h
  split at h
  ·rename_i v l h1 h2
   cases h
   simp [dR h1 hr,EP hr h2]
  ·cases h
theorem EU {rd:Tmp→Option SV} {ρ:Env} {a:Act} (hr:∀ t v,rd t=some v→a.tmps.getD t undef=v.den ρ):∀ {l:List (Nat×Operand)} {vs:List (Nat×El)},sK rd l=some vs→l.map (fun x=>(x.1,a.eval x.2))=vs.map fun x=>(x.1,x.2.den ρ)
 | [],vs,h=>by simp only [sK,Option.some.injEq] at h;subst h;rfl
 | (i,x) :: r,vs,h=>by
  simp only [sK] at h
  split at h
  ·rename_i v l h1 h2
   cases h
   simp only [List.map_cons,EU hr h2]
   rw [dR h1 hr]
   rfl
  ·cases h
theorem UE {s:Sem Value} {v:Value} {K:Value→World→Prop} {w w':World} (h:s.run P w=.ok v w') (hK:K v w'):kC P K ((do pure (.value (← s)):Sem Next).run P w):=by
 simp only [Sem.run_bind,h,Result.andThen]
 exact hK
theorem zX {E:World→Prop}:∀ {cons:List (Con S)} {f:FuncId} {db:List S.F} {b:Nat} {args:List SV} {res:SV} {new:List S.F},(∀ c∈cons,c.Ok P S E)→pW cons f db b args=some (res,new) →
  ∀ ρ W,(∀ f∈db,S.on ρ f W)→E W →
  Calls P f (args.map (SV.den ρ)).toArray W fun e W'=>∃ ρ':Env,(∀ n,n<b∨b+M≤n→ρ' n=ρ n)∧e=.returned (res.den ρ')∧Below W.heap.size W W'∧∀ f∈new,S.on ρ' f W'
 | [],_,_,_,_,_,_,_,h=>by simp [pW] at h
 | c :: r,f,db,b,args,res,new,hc,h=>by
  simp only [pW] at h
  split at h
  ·rename_i hf
   subst hf
   split at h
   ·rename_i x hx
    cases h
    exact hc c (by simp) _ _ _ _ _ hx
   ·exact zX (fun c' h'=>hc c' (by simp [h'])) h
  ·exact zX (fun c' h'=>hc c' (by simp [h'])) h
theorem TK {c:Call} {f:FuncId} {t:TypeId} {a:Act} {args:Array Value} {w:World} (hc:c.callee=.value (.func f)) (hb:xU P f=true) (ha:c.args.map a.eval=args) :
  (do let d ← resolve a.eval c t;invoke d.target d.args:Sem Next).run P w=.ok (.enter f args) w:=by
 unfold xU at hb
 split at hb
 ·rename_i fn hfn
  simp only [Bool.and_eq_true,Bool.not_eq_true',Option.isSome_iff_ne_none] at hb
  obtain ⟨h1,h2⟩:=hb
  have h3:¬ fn.name = "runtime.NumGoroutine":=by simpa using h2
  simp [resolve,hc,Act.eval,Deferred.ofValue,invoke,callFunc,program,hfn,h1,h3,ha,Sem.run_bind,Sem.run,Result.andThen,pure]
 ·cases hb
def Done (S:Sys) (ct:Nat→Option (TypeId×List Cell)) (b:Nat) (ρ ρ':Env) (W W':World):Eff→Prop
 | .no=>Below W.heap.size W W'
 | .new T cs=>(ρ' b).pos=W.heap.size∧W' = W.alloc (.cells (cs.map (Cell.den ρ')).toArray T)
 | .put k off new=>∃ T cs,ct k=some (T,cs)∧off+new.length≤cs.length∧AP S off new cs=true∧W' = setMany W (ρ k).pos off (new.map (Cell.den ρ))∧ρ' = ρ
def After (S:Sys) (ct:Nat→Option (TypeId×List Cell)) (b:Nat) (r:Rec S.F) (ρ:Env) (W:World) (v:Value) (W':World):Prop:=
 ∃ ρ':Env,(∀ n,n<b∨b+M≤n→ρ' n=ρ n)∧v=r.v.den ρ'∧Done S ct b ρ ρ' W W' r.ef∧∀ f∈r.fs,S.on ρ' f W'
theorem iK {ct:Nat→Option (TypeId×List Cell)} {b:Nat} {r:Rec S.F} {ρ:Env} {W:World} {v:Value} (hv:v=r.v.den ρ) (he:r.ef=.no) (hf:r.fs=[]):After S ct b r ρ W v W:=
 ⟨ρ,fun _ _=>rfl,hv,by rw [he];exact Below.refl _ _,by rw [hf];simp⟩
theorem CS {ct:Nat→Option (TypeId×List Cell)} {b:Nat} {T:TypeId} {cs:List Cell} {acc:List Nat} {ρ:Env} {W:World} (hn:∀ n∈cs.flatMap Cell.nm,n<b∨b+M≤n) :
  After S ct b ⟨.e (.s (.ptr b 0)),.new T cs,[],acc⟩ ρ W (.pointer (some ⟨W.heap.size,0,none⟩)) (W.alloc (.cells (cs.map (Cell.den ρ)).toArray T)):=by
 let ρ':Env:=fun n=>if n=b then { ρ n with pos:=W.heap.size } else ρ n
 have h1:∀ n,n<b∨b+M≤n→ρ' n=ρ n:=fun n hn=>if_neg (by rcases hn with h | h <;> simp only [M] at * <;> omega)
 have h2:(ρ' b).pos=W.heap.size:=by simp [ρ']
 refine ⟨ρ',h1,?_,⟨h2,?_⟩,by simp⟩
 ·simp only [SV.den,El.den,Cell.den,h2]
 ·rw [mM (ρ:=ρ') (ρ':=ρ) fun n hx=>h1 n (hn n hx)]
def Old (b:Nat) (v:SV):Prop:=∀ n∈v.nm,n<b∨b+M≤n
theorem Kw {E:World→Prop} {cons:List (Con S)} (hc:∀ c∈cons,c.Ok P S E) {rd:Tmp→Option SV} {ct:Nat→Option (TypeId×List Cell)} {db:List S.F} {b:Nat} {o:Oper} {r:Rec S.F} {a:Act} {W:World} {ρ:Env}
  (h:evalOp P H cons rd ct db b o.op=some r) (hr:∀ t v,rd t=some v→a.tmps.getD t undef=v.den ρ) (ho:∀ t v,rd t=some v→Old b v)
  (hb:∀ k T cs,k∈r.acc→ct k=some (T,cs)→Bx W (ρ k).pos T (cs.map (Cell.den ρ))) (hf:∀ f∈db,S.on ρ f W) (hE:E W) :
  takes P o a W (After S ct b r ρ W):=by
 have hold:∀ x v,opd rd x=some v→Old b v:=fun x v h=>by
  cases x with
  | tmp t=>exact ho t v h
  | const c =>
   intro n hn
   have:v.nm=[]:=by
    clear hn
    simp only [opd] at h
    unfold qU at h
    have hC:∀ {v:Value} {c:Cell},oO v=some c→c.nm=[]:=fun {v c} h=>by unfold oO at h;split at h <;> first | (cases h;rfl) | cases h
    have hL:∀ {vs:List Value} {l:List Cell},jZ vs=some l→l.flatMap Cell.nm=[]:=fun {vs}=>by
     induction vs with
     | nil=>intro l h;simp only [jZ,Option.some.injEq] at h;subst h;rfl
     | cons v r ih =>
      intro l h
      simp only [jZ] at h
      split at h
      ·rename_i c l' h1 h2
       cases h
       simp [hC h1,ih h2]
      ·cases h
    split at h
    ·obtain ⟨l,h1,rfl⟩:=Option.map_eq_some_iff.1 h
     exact hL h1
    ·obtain ⟨c,h1,rfl⟩:=Option.map_eq_some_iff.1 h
     simp [SV.nm,El.cells,hC h1]
   rw [this] at hn
   cases hn
  | global g=>cases h
  | func f=>cases h
 unfold takes execOp
 unfold evalOp at h
 split at h
 all_goals first | (cases h;done) | (rename_i hop;rw [hop])
 ·-- move
  obtain ⟨v,hv,rfl⟩:=Option.map_eq_some_iff.1 h
  exact iK (dR hv hr) rfl rfl
 ·obtain ⟨v,hv,rfl⟩:=Option.map_eq_some_iff.1 h
  exact iK (dR hv hr) rfl rfl
 ·-- pick
  split at h
  ·rename_i hc
   obtain ⟨v,hv,rfl⟩:=Option.map_eq_some_iff.1 h
   have hd:=dR hc hr
   simp only [hd]
   exact iK (dR hv hr) rfl rfl
  ·rename_i hc
   obtain ⟨v,hv,rfl⟩:=Option.map_eq_some_iff.1 h
   have hd:=dR hc hr
   simp only [hd]
   exact iK (dR hv hr) rfl rfl
  ·cases h
 ·-- box
  split at h
  ·rename_i x hv
   cases h
   have hd:=dR hv hr
   simp only [hd]
   have hx:(SV.den ρ (.e x)).cells=(x.cells.map (Cell.den ρ)).toArray:=x.den_cells ρ
   rw [show ((do pure (.value (← Instr.box _ (SV.den ρ (.e x)))):Sem Next).run P W)=.ok (.value (.pointer (some ⟨W.heap.size,0,none⟩))) (W.alloc (.cells (x.cells.map (Cell.den ρ)).toArray _)) by
    simp only [Sem.run_bind,TF hx,Result.andThen];rfl]
   exact CS (hold _ _ hv)
  ·cases h
 ·-- alloc
  split at h
  ·rename_i z hz
   split at h
   ·rename_i x hv
    cases h
    have hd:=CQ ρ hv
    have hx:z.cells=(x.cells.map (Cell.den ρ)).toArray:=by rw [← hd];exact x.den_cells ρ
    rw [show ((do pure (.value (← Instr.alloc _ true (.tuple #[]))):Sem Next).run P W)=.ok (.value (.pointer (some ⟨W.heap.size,0,none⟩))) (W.alloc (.cells (x.cells.map (Cell.den ρ)).toArray _)) by
     simp only [Sem.run_bind,Tv hz hx,Result.andThen];rfl]
    exact CS (hold (.const z) _ hv)
   ·cases h
  ·cases h
 ·-- load
  split at h
  ·rename_i k off hv
   have hd:=dR hv hr
   simp only [hd,SV.den,El.den,Cell.den]
   split at h
   ·rename_i T cs n hct hag hsz
    split at h
    ·rename_i hle
     cases h
     have hbx:=hb k _ cs (by simp) hct
     rw [show ((do pure (.value (← Instr.loadAt _ (.pointer (some ⟨(ρ k).pos,off,none⟩)))):Sem Next).run P W)=.ok (.value (.agg (((cs.map (Cell.den ρ)).drop off).take n).toArray)) W by
      simp only [Sem.run_bind,F5 hag hsz hbx (by simpa using hle),Result.andThen];rfl]
     refine iK ?_ rfl rfl
     simp [SV.den,El.den,List.map_drop,List.map_take]
    ·cases h
   ·rename_i T cs hct hag
    split at h
    ·rename_i c hcv
     cases h
     have hbx:=hb k _ cs (by simp) hct
     have hv':(cs.map (Cell.den ρ))[off]? = some (c.den ρ):=by simp [hcv]
     rw [show ((do pure (.value (← Instr.loadAt _ (.pointer (some ⟨(ρ k).pos,off,none⟩)))):Sem Next).run P W)=.ok (.value (c.den ρ)) W by
      simp only [Sem.run_bind,F9 hag hbx hv',Result.andThen];rfl]
     exact iK rfl rfl rfl
    ·cases h
   ·cases h
  ·cases h
 ·-- store
  split at h
  ·rename_i k off x hv hx
   have hd:=dR hv hr
   have hdx:=dR hx hr
   simp only [hd,hdx]
   split at h
   ·rename_i T cs n hct hsz
    split at h
    ·rename_i hcond
     simp only [Bool.and_eq_true,decide_eq_true_eq] at hcond
     obtain ⟨⟨hlen,hle⟩,hok⟩:=hcond
     cases h
     have hbx:=hb k _ cs (by simp) hct
     rw [show ((do Instr.storeAt _ (SV.den ρ (.e (.s (.ptr k off)))) (SV.den ρ (.e x));pure .skip:Sem Next).run P W)=.ok .skip (setMany W (ρ k).pos off (x.cells.map (Cell.den ρ))) by
      simp only [Sem.run_bind]
      rw [show SV.den ρ (.e (.s (.ptr k off)))=.pointer (some ⟨(ρ k).pos,off,none⟩) from rfl,show SV.den ρ (.e x)=El.den ρ x from rfl,
       run_store (x.den_cells ρ) (by rw [List.length_map,hlen];exact hsz) hbx (by simp;omega) (fun v hv'=>by obtain ⟨c,-,rfl⟩:=List.mem_map.1 hv';exact c.flat ρ)]
      rfl]
     exact ⟨ρ,fun _ _=>rfl,rfl,⟨_,cs,hct,by omega,hok,rfl,rfl⟩,by simp⟩
    ·cases h
   ·cases h
  ·cases h
 ·-- fieldAddr
  split at h
  ·rename_i k off fd hv hfd
   have hd:=dR hv hr
   simp only [hd,SV.den,El.den,Cell.den]
   split at h
   ·rename_i hs
    cases h
    rw [show ((do pure (.value (← Instr.fieldAt _ (.pointer (some ⟨(ρ k).pos,off,none⟩)) _)):Sem Next).run P W)=.ok (.value (.pointer (some ⟨(ρ k).pos,off+fd.offset,none⟩))) W by
     simp only [Sem.run_bind,TP hfd hs,Result.andThen];rfl]
    exact iK rfl rfl rfl
   ·cases h
  ·cases h
 ·-- field
  split at h
  ·rename_i cs fd hv hfd
   have hd:=dR hv hr
   simp only [hd,SV.den,El.den]
   split at h
   ·rename_i n hag hsz
    cases h
    rw [show ((do pure (.value (← Instr.field _ (.agg (cs.map (Cell.den ρ)).toArray) _)):Sem Next).run P W)=.ok (.value (.agg (((cs.map (Cell.den ρ)).drop fd.offset).take n).toArray)) W by
     simp only [Sem.run_bind,TQ hfd hag hsz,Result.andThen];rfl]
    refine iK ?_ rfl rfl
    simp [SV.den,El.den,List.map_drop,List.map_take]
   ·rename_i hag
    split at h
    ·rename_i c hcv
     cases h
     have hv':(cs.map (Cell.den ρ))[fd.offset]? = some (c.den ρ):=by simp [hcv]
     rw [show ((do pure (.value (← Instr.field _ (.agg (cs.map (Cell.den ρ)).toArray) _)):Sem Next).run P W)=.ok (.value (c.den ρ)) W by
      simp only [Sem.run_bind,TR hfd hag hv',Result.andThen];rfl]
     exact iK rfl rfl rfl
    ·cases h
   ·cases h
  ·cases h
 ·-- binOp
  split at h
  ·rename_i c d hv hx
   obtain ⟨y,hy,rfl⟩:=Option.map_eq_some_iff.1 h
   have hd:=dR hv hr
   have hdx:=dR hx hr
   simp only [hd,hdx]
   have hg:=fun op T (x y:Operand)=>TS (P:=P) (op:=op) (T:=T) (x:=x) (y:=y) (a:=SV.den ρ (.e (.s c))) (b:=SV.den ρ (.e (.s d))) (w:=W) (c.flat ρ) (by cases c <;> simp [SV.den,El.den,Cell.den])
   simp only [Sem.run_bind,hg,Result.andThen]
   rw [show (binOp _ _ (SV.den ρ (.e (.s c))) (SV.den ρ (.e (.s d)))).run P W=.ok (.bool y) W from IU hy ρ W hf]
   exact iK rfl rfl rfl
  ·cases h
 ·-- not
  split at h
  ·rename_i x hv
   cases h
   have hd:=dR hv hr
   simp only [hd]
   exact iK rfl rfl rfl
  ·cases h
 ·-- extract
  split at h
  ·rename_i l hv
   split at h
   ·rename_i i e he
    cases h
    have hd:=dR hv hr
    simp only [hd]
    rw [show ((do pure (.value (← Instr.extract (SV.den ρ (.t l)) _)):Sem Next).run P W)=.ok (.value (e.den ρ)) W by
     simp only [SV.den,Instr.extract,List.getElem?_toArray,List.getElem?_map,he,Option.map_some,Sem.run_bind];rfl]
    exact iK rfl rfl rfl
   ·cases h
  ·cases h
 ·-- build
  split at h
  ·rename_i fs hu
   split at h
   ·rename_i pl zc ps hp hz hps
    split at h
    ·rename_i cs hf
     cases h
     have hparts:=EU hr hps
     exact UE (run_build hu hp hz hf _ (by rw [Array.toList_map];exact hparts)) (iK rfl rfl rfl)
    ·cases h
   ·cases h
  ·cases h
 ·-- call
  rename_i c
  split at h
  ·rename_i f args hcal hargs
   split at h
   ·rename_i hcb
    split at h
    ·rename_i v fs hfc
     cases h
     have hcall:=zX hc hfc ρ W hf hE
     have hargs':c.args.map a.eval=(args.map (SV.den ρ)).toArray:=by
      apply Array.ext'
      rw [Array.toList_map,EP hr hargs]
     rw [TK hcal hcb hargs']
     refine hcall.mono fun e W' hh=>?_
     obtain ⟨ρ',h1,rfl,h3,h4⟩:=hh
     exact ⟨_,rfl,ρ',h1,rfl,h3,h4⟩
    ·cases h
   ·cases h
  ·cases h
end
end Rx
namespace Rx
open Go.RowKit
def mask (acc:List Nat):List Edge→Nat
 | []=>0
 | e :: r=>if Region.binds .any e then (2 ^ e.on ||| acc.getD e.on 0) ||| mask acc r else mask acc r
def befs:List Oper→List Nat→List Nat
 | [],acc=>acc
 | o :: r,acc=>befs r (acc ++ [mask acc o.after.toList])
theorem Au {acc acc':List Nat}:∀ {l:List Edge},(∀ e∈l,Region.binds .any e=true→acc.getD e.on 0=acc'.getD e.on 0)→mask acc l=mask acc' l
 | [],_=>rfl
 | e :: r,h=>by
  simp only [mask]
  split
  ·rename_i hb
   rw [h e (by simp) hb,Au fun e' he'=>h e' (by simp [he'])]
  ·exact Au fun e' he'=>h e' (by simp [he'])
theorem Aq {acc:List Nat} {j:Nat}:∀ {l:List Edge},(mask acc l).testBit j=true→∃ e∈l,Region.binds .any e=true∧(e.on=j∨(acc.getD e.on 0).testBit j=true)
 | [],h=>by simp [mask] at h
 | e :: r,h=>by
  simp only [mask] at h
  split at h
  ·rename_i hb
   simp only [Nat.testBit_or,Bool.or_eq_true,Nat.testBit_two_pow,decide_eq_true_eq] at h
   rcases h with (h | h) | h
   ·exact ⟨e,by simp,hb,.inl h⟩
   ·exact ⟨e,by simp,hb,.inr h⟩
   ·obtain ⟨e',h1,h2⟩:=Aq h
    exact ⟨e',by simp [h1],h2⟩
  ·obtain ⟨e',h1,h2⟩:=Aq h
   exact ⟨e',by simp [h1],h2⟩
theorem xG:∀ (l:List Oper) (acc:List Nat) (k:Nat),k<acc.length→(befs l acc).getD k 0=acc.getD k 0
 | [],_,_,_=>rfl
 | o :: r,acc,k,h=>by
  rw [befs,xG r _ k (by simp;omega)]
  simp [List.getD,List.getElem?_append_left h]
theorem Di:∀ {l:List Oper} {acc:List Nat} {i:Nat} {o:Oper},lexB acc.length l=true→l[i]? = some o→(befs l acc).getD (acc.length+i) 0=mask (befs l acc) o.after.toList
 | [],_,_,_,_,h=>by simp at h
 | x :: r,acc,0,o,hl,h=>by
  simp only [List.getElem?_cons_zero,Option.some.injEq] at h
  subst h
  have hlx:=fun e he hb=>ng (i:=0) hl rfl e he hb
  rw [befs,Nat.add_zero,xG r _ _ (by simp)]
  rw [show (acc ++ [mask acc x.after.toList]).getD acc.length 0=mask acc x.after.toList by simp [List.getD]]
  refine Au fun e he hb=>?_
  have h1:=hlx e (by simpa using he) hb
  rw [xG r _ _ (by simp;omega)]
  simp [List.getD,List.getElem?_append_left (show e.on<acc.length by omega)]
 | x :: r,acc,i+1,o,hl,h=>by
  simp only [lexB,Bool.and_eq_true] at hl
  have:=Di (l:=r) (acc:=acc ++ [mask acc x.after.toList]) (i:=i) (o:=o) (by simpa using hl.2) (by simpa using h)
  rw [befs]
  rw [← this]
  congr 1
  simp
  omega
section
variable {l:List Oper}
def bf (l:List Oper) (i j:Nat):Bool:=((befs l []).getD i 0).testBit j
theorem xI (hl:lexB 0 l=true) {i j:Nat} {o:Oper} (ho:l[i]? = some o) (h:bf l i j=true):∃ e∈o.after,Region.binds .any e=true∧(e.on=j∨bf l e.on j=true):=by
 unfold bf at h
 have h1:=Di (l:=l) (acc:=[]) (i:=i) (by simpa using hl) ho
 simp only [List.length_nil,Nat.zero_add] at h1
 rw [h1] at h
 obtain ⟨e,he,hb,hh⟩:=Aq h
 exact ⟨e,by simpa using he,hb,hh⟩
theorem Dj {i j:Nat} (hi:l[i]? = none):bf l i j=false:=by
 have hlen:∀ (l:List Oper) (acc:List Nat),(befs l acc).length=acc.length+l.length:=fun l=>by
  induction l with
  | nil=>intro acc;rfl
  | cons o r ih=>intro acc;rw [befs,ih];simp;omega
 unfold bf
 have h2:l.length≤i:=by simpa using hi
 have:(befs l [])[i]? = none:=by
  apply List.getElem?_eq_none
  rw [hlen];simpa using h2
 simp [List.getD,this]
theorem xM (hl:lexB 0 l=true):∀ {i j:Nat},bf l i j=true→j<i:=by
 intro i
 induction i using Nat.strongRecOn with
 | _ i ih =>
  intro j h
  cases ho:l[i]? with
  | none=>rw [Dj ho] at h;cases h
  | some o =>
   obtain ⟨e,he,hb,hh⟩:=xI hl ho h
   have h1:=ng hl ho e he hb
   rw [Nat.zero_add] at h1
   rcases hh with rfl | hh
   ·exact h1
   ·have:=ih e.on h1 hh;omega
theorem qW (hl:lexB 0 l=true) {dn:Nat→Bool} (hc:Closed l dn):∀ {i j:Nat},dn i=true→bf l i j=true→dn j=true:=by
 intro i
 induction i using Nat.strongRecOn with
 | _ i ih =>
  intro j hi h
  cases ho:l[i]? with
  | none=>rw [Dj ho] at h;cases h
  | some o =>
   obtain ⟨e,he,hb,hh⟩:=xI hl ho h
   have h1:=ng hl ho e he hb
   have h2:=hc i o ho hi e he hb
   rcases hh with rfl | hh
   ·exact h2
   ·exact ih e.on (by omega) h2 hh
theorem pJ (hl:lexB 0 l=true) {dn:Nat→Bool} (hc:Closed l dn) {i j:Nat} {o:Oper} (ho:l[i]? = some o) (hw:∀ e∈o.after,Region.binds .any e=true→dn e.on=true) (h:bf l i j=true):dn j=true:=by
 obtain ⟨e,he,hb,hh⟩:=xI hl ho h
 rcases hh with rfl | hh
 ·exact hw e he hb
 ·exact qW hl hc (hw e he hb) hh
end
def wr:List Oper→Tmp→Nat→Option Nat
 | [],_,_=>none
 | o :: r,t,i=>if o.dst=some t then some i else wr r t (i+1)
theorem BO:∀ {l:List Oper} {t:Tmp} {i j:Nat},wr l t i=some j→i≤j∧∃ o,l[j - i]? = some o∧o.dst=some t
 | [],_,_,_,h=>by simp [wr] at h
 | o :: r,t,i,j,h=>by
  simp only [wr] at h
  split at h
  ·rename_i hd
   cases h
   exact ⟨Nat.le_refl _,o,by simp,hd⟩
  ·obtain ⟨h1,o',h2,h3⟩:=BO h
   refine ⟨by omega,o',?_,h3⟩
   rw [show j - i=(j - (i+1))+1 by omega]
   simpa using h2
theorem BN:∀ {l:List Oper} {t:Tmp} {i j:Nat} {o:Oper},dstsB l=true→l[j]? = some o→o.dst=some t→wr l t i=some (i+j)
 | [],_,_,_,_,_,h,_=>by simp at h
 | x :: r,t,i,0,o,hB,h,hd=>by
  simp only [List.getElem?_cons_zero,Option.some.injEq] at h
  subst h
  simp [wr,hd]
 | x :: r,t,i,j+1,o,hB,h,hd=>by
  simp only [dstsB,Bool.and_eq_true,Bool.or_eq_true,List.all_eq_true] at hB
  have h':r[j]? = some o:=by simpa using h
  have hne:¬ x.dst=some t:=fun e=>by
   rcases hB.1 with h1 | h1
   ·rw [e] at h1;cases h1
   ·have:=h1 o (List.mem_of_getElem? h')
    rw [hd,e] at this
    simp at this
  rw [wr,if_neg hne,BN hB.2 h' hd]
  congr 1
  omega
def lk:List (Nat×TypeId×List Cell)→Nat→Option (TypeId×List Cell)
 | [],_=>none
 | (k',x) :: r,k=>if k' = k then some x else lk r k
structure State (S:Sys) where
 regs:List SV
 bx:List (Nat×TypeId×List Cell)
 fs:List S.F
 base:Nat
section
variable (P:Program) (S:Sys) (H:Tests S) (cons:List (Con S)) (σ:State S) (l:List Oper)
def jo (r:Rec S.F) (k:Nat) (cs:List Cell):List Cell:=
 match r.ef with
 | .put k' off new=>if k' = k then splice off new cs else cs
 | _=>cs
def fO (sel:Nat→Bool) (rs:List (Rec S.F)) (k:Nat):List Nat→List Cell→List Cell
 | [],cs=>cs
 | j :: r,cs=>fO sel rs k r (if sel j then jo S (rs.getD j default) k cs else cs)
def fP (sel:Nat→Bool) (rs:List (Rec S.F)) (k:Nat):Option (TypeId×List Cell):=
 if k<σ.base then lk σ.bx k else
  if sel ((k - σ.base) / M) && (k - σ.base) % M == 0 then
   match (rs.getD ((k - σ.base) / M) default).ef with
   | .new T cs=>some (T,cs)
   | _=>none
  else none
def aO (sel:Nat→Bool) (rs:List (Rec S.F)) (k:Nat):Option (TypeId×List Cell):=
 match fP S σ sel rs k with
 | some (T,cs)=>some (T,fO S sel rs k (List.range l.length) cs)
 | none=>none
def kF (sel:Nat→Bool) (rs:List (Rec S.F)):List Nat→List S.F
 | []=>[]
 | j :: r=>if sel j then (rs.getD j default).fs ++ kF sel rs r else kF sel rs r
def bH (sel:Nat→Bool) (rs:List (Rec S.F)):List S.F:=kF S sel rs (List.range l.length) ++ σ.fs
def qO (bs:List Nat) (i:Nat) (rs:List (Rec S.F)) (t:Tmp):Option SV:=
 match wr l t 0 with
 | none=>some (σ.regs.getD t .und)
 | some j=>if j=i then some (σ.regs.getD t .und) else
  if (bs.getD i 0).testBit j then some (rs.getD j default).v else
  if (bs.getD j 0).testBit i then some (σ.regs.getD t .und) else none
def guardAt (bs:List Nat) (i:Nat) (rs:List (Rec S.F)) (o:Oper):Option Bool:=
 match o.guard with
 | none=>some true
 | some (j,want)=>if (bs.getD i 0).testBit j then
   match (rs.getD j default).v,(l[j]?).bind (·.dst) with
   | .e (.s (.bl b)),some _=>some (b == want)
   | .und,_=>some false
   | _,_=>none
  else none
def mQ:Eff→List Nat
 | .no=>[]
 | .new _ cs=>cs.flatMap Cell.nm
 | .put k _ cs=>k :: cs.flatMap Cell.nm
def nT (bs:List Nat) (i n:Nat):Bool:=decide (n<σ.base) || (n - σ.base) / M == i || (bs.getD i 0).testBit ((n - σ.base) / M)
def ji (bs:List Nat) (i:Nat) (r:Rec S.F):Bool:=r.v.nm.all (nT S σ bs i) && (mQ r.ef).all (nT S σ bs i) && r.fs.all fun f=>(S.nm f).all (nT S σ bs i)
def evalAt (bs:List Nat) (i:Nat) (o:Oper) (rs:List (Rec S.F)):Option (Rec S.F):=
 match guardAt S l bs i rs o with
 | some true =>
  match evalOp P H cons (qO S σ l bs i rs) (aO S σ l (fun j=>(bs.getD i 0).testBit j) rs) (bH S σ l (fun j=>(bs.getD i 0).testBit j) rs) (σ.base+M*i) o.op with
  | some r=>if ji S σ bs i r then some r else none
  | none=>none
 | some false=>some default
 | none=>none
def oG (bs:List Nat):List Oper→Nat→List (Rec S.F)→Option (List (Rec S.F))
 | [],_,rs=>some rs
 | o :: r,i,rs=>match evalAt P S H cons σ l bs i o rs with
  | some x=>oG bs r (i+1) (rs ++ [x])
  | none=>none
def confB (bs:List Nat) (rs:List (Rec S.F)):Bool:=
 (List.range l.length).all fun j=>match (rs.getD j default).ef with
  | .put k _ _=>(List.range l.length).all fun i=>i == j || !((rs.getD i default).acc.contains k) || (bs.getD i 0).testBit j || (bs.getD j 0).testBit i
  | _=>true
def bV (dn:Nat→Bool) (rs:List (Rec S.F)) (t:Tmp):SV:=
 match wr l t 0 with
 | none=>σ.regs.getD t .und
 | some j=>if dn j then (rs.getD j default).v else σ.regs.getD t .und
def Et:List Nat:=σ.bx.map (·.1) ++ (List.range l.length).map fun j=>σ.base+M*j
def oh (sel:Nat→Bool) (rs:List (Rec S.F)):List Nat→List (Nat×TypeId×List Cell)
 | []=>[]
 | k :: r=>match aO S σ l sel rs k with
  | some x=>(k,x) :: oh sel rs r
  | none=>oh sel rs r
def upTo (n:Nat) (j:Nat):Bool:=decide (j<n)
def regionX:Option (State S):=
 if lexB 0 l && dstsB l && l.all (fun o=>o.dst.all (· < σ.regs.length)) then
  match oG P S H cons σ l (befs l []) l 0 [] with
  | some rs=>if confB S l (befs l []) rs then
    some ⟨(List.range σ.regs.length).map (bV S σ l (upTo l.length) rs),oh S σ l (upTo l.length) rs (Et S σ l),bH S σ l (upTo l.length) rs,σ.base+M*l.length⟩
   else none
  | none=>none
 else none
end
end Rx
namespace Rx
open Go.RowKit
section
variable {P:Program} {S:Sys} {H:Tests S} {cons:List (Con S)} {σ:State S} {l:List Oper}
theorem FP {bs:List Nat}:∀ {r:List Oper} {i:Nat} {rs full:List (Rec S.F)},oG P S H cons σ l bs r i rs=some full→rs.length=i →
  full.take i=rs∧full.length=i+r.length∧∀ j o,r[j]? = some o→∃ x,full[i+j]? = some x∧evalAt P S H cons σ l bs (i+j) o (full.take (i+j))=some x
 | [],i,rs,full,h,hl=>by
  simp only [oG,Option.some.injEq] at h
  subst h
  exact ⟨by rw [← hl];simp,by simp [hl],fun j o h=>by simp at h⟩
 | o :: r,i,rs,full,h,hl=>by
  simp only [oG] at h
  split at h
  ·rename_i x hx
   obtain ⟨h1,h2,h3⟩:=FP h (by simp [hl])
   have h4:full.take i=rs:=by
    have:(full.take (i+1)).take i=(rs ++ [x]).take i:=by rw [h1]
    rw [List.take_take,Nat.min_eq_left (by omega)] at this
    rw [this,← hl];simp
   refine ⟨h4,by simp [h2];omega,fun j o' hj=>?_⟩
   cases j with
   | zero =>
    simp only [List.getElem?_cons_zero,Option.some.injEq] at hj
    subst hj
    refine ⟨x,?_,by rw [Nat.add_zero,h4];exact hx⟩
    have:(full.take (i+1))[i]? = (rs ++ [x])[i]?:=by rw [h1]
    rw [List.getElem?_take_of_lt (by omega)] at this
    rw [Nat.add_zero,this,← hl];simp
   | succ j =>
    have:=h3 j o' (by simpa using hj)
    rwa [show i+1+j=i+(j+1) by omega] at this
  ·cases h
theorem qK {sel sel':Nat→Bool} {rs rs':List (Rec S.F)} {k:Nat}:∀ {L:List Nat} {cs:List Cell},
  (∀ j∈L,(∀ cs,(if sel j then jo S (rs.getD j default) k cs else cs)=if sel' j then jo S (rs'.getD j default) k cs else cs))→fO S sel rs k L cs=fO S sel' rs' k L cs
 | [],_,_=>rfl
 | j :: r,cs,h=>by
  simp only [fO]
  rw [h j (by simp)]
  exact qK fun j hj=>h j (by simp [hj])
theorem EX {sel:Nat→Bool} {rs:List (Rec S.F)} {k:Nat}:∀ {L L':List Nat} {cs:List Cell},fO S sel rs k (L ++ L') cs=fO S sel rs k L' (fO S sel rs k L cs)
 | [],_,_=>rfl
 | j :: r,L',cs=>by simp only [List.cons_append,fO];exact EX
theorem vS {sel:Nat→Bool} {rs:List (Rec S.F)} {k:Nat}:∀ {L:List Nat} {cs:List Cell},(∀ j∈L,sel j=true→∀ cs,jo S (rs.getD j default) k cs=cs)→fO S sel rs k L cs=cs
 | [],_,_=>rfl
 | j :: r,cs,h=>by
  simp only [fO]
  rw [show (if sel j=true then jo S (rs.getD j default) k cs else cs)=cs by
   split
   ·rename_i hs;exact h j (by simp) hs cs
   ·rfl]
  exact vS fun j hj=>h j (by simp [hj])
theorem kQ {sel:Nat→Bool} {rs:List (Rec S.F)} {f:S.F}:∀ {L:List Nat},f∈kF S sel rs L↔∃ j∈L,sel j=true∧f∈(rs.getD j default).fs
 | []=>by simp [kF]
 | j :: r=>by
  simp only [kF]
  split
  ·rename_i hs
   simp [kQ (L:=r),hs]
  ·rename_i hs
   simp [kQ (L:=r),hs]
theorem J5 {sel sel':Nat→Bool} {rs rs':List (Rec S.F)} (h:∀ j,sel j=sel' j∧(sel j=true→rs.getD j default=rs'.getD j default)):aO S σ l sel rs=aO S σ l sel' rs':=by
 have hs:∀ k,fP S σ sel rs k=fP S σ sel' rs' k:=fun k=>by
  unfold fP
  split
  ·rfl
  ·obtain ⟨h1,h2⟩:=h ((k - σ.base) / M)
   rw [← h1]
   by_cases hb:sel ((k - σ.base) / M)=true
   ·rw [h2 hb]
   ·simp [hb]
 funext k
 unfold aO
 rw [hs]
 split
 ·rename_i T cs _
  rw [qK (sel':=sel') (rs':=rs') fun j _ cs=>by
   obtain ⟨h1,h2⟩:=h j
   rw [← h1]
   split
   ·rename_i hb;rw [h2 hb]
   ·rfl]
 ·rfl
theorem zW {sel sel':Nat→Bool} {rs rs':List (Rec S.F)}:∀ {L:List Nat},(∀ j∈L,sel j=sel' j∧(sel j=true→rs.getD j default=rs'.getD j default))→kF S sel rs L=kF S sel' rs' L
 | [],_=>rfl
 | j :: r,h=>by
  obtain ⟨h1,h2⟩:=h j (by simp)
  simp only [kF]
  rw [zW (L:=r) fun j hj=>h j (by simp [hj]),← h1]
  split
  ·rename_i hb;rw [h2 hb]
  ·rfl
theorem Kv {bs:List Nat} {i:Nat} {o:Oper} {rs rs':List (Rec S.F)} (h:∀ j,(bs.getD i 0).testBit j=true→rs.getD j default=rs'.getD j default) :
  evalAt P S H cons σ l bs i o rs=evalAt P S H cons σ l bs i o rs':=by
 have hg:guardAt S l bs i rs o=guardAt S l bs i rs' o:=by
  unfold guardAt
  split
  ·rfl
  ·rename_i j want _
   split
   ·rename_i hb;rw [h j hb]
   ·rfl
 have hr:qO S σ l bs i rs=qO S σ l bs i rs':=by
  funext t
  unfold qO
  split
  ·rfl
  ·split
   ·rfl
   ·split
    ·rename_i hb;rw [h _ hb]
    ·rfl
 have hc:aO S σ l (fun j=>(bs.getD i 0).testBit j) rs=aO S σ l (fun j=>(bs.getD i 0).testBit j) rs':=J5 fun j=>⟨rfl,h j⟩
 have hd:bH S σ l (fun j=>(bs.getD i 0).testBit j) rs=bH S σ l (fun j=>(bs.getD i 0).testBit j) rs':=by
  unfold bH
  rw [zW fun j _=>⟨rfl,h j⟩]
 unfold evalAt
 rw [hg,hr,hc,hd]
theorem Ti {rs:List (Rec S.F)} (hl:lexB 0 l=true) (h:oG P S H cons σ l (befs l []) l 0 []=some rs) :
  rs.length=l.length∧∀ i o,l[i]? = some o→evalAt P S H cons σ l (befs l []) i o rs=some (rs.getD i default):=by
 obtain ⟨-,h2,h3⟩:=FP h rfl
 refine ⟨by omega,fun i o ho=>?_⟩
 obtain ⟨x,h4,h5⟩:=h3 i o ho
 rw [Nat.zero_add] at h4 h5
 rw [List.getD,h4,Option.getD_some,← h5]
 refine Kv fun j hb=>?_
 have:=xM hl (i:=i) (j:=j) hb
 simp only [List.getD]
 rw [List.getElem?_take_of_lt this]
end
theorem Ut {off:Nat} {new cs:List Cell} {n:Nat} (h:n∈(splice off new cs).flatMap Cell.nm):n∈new.flatMap Cell.nm∨n∈cs.flatMap Cell.nm:=by
 unfold splice at h
 simp only [List.flatMap_append,List.mem_append] at h
 rcases h with (h | h) | h
 ·obtain ⟨c,hc,hn⟩:=List.mem_flatMap.1 h
  exact .inr (List.mem_flatMap.2 ⟨c,List.mem_of_mem_take hc,hn⟩)
 ·exact .inl h
 ·obtain ⟨c,hc,hn⟩:=List.mem_flatMap.1 h
  exact .inr (List.mem_flatMap.2 ⟨c,List.mem_of_mem_drop hc,hn⟩)
structure Stored (S:Sys) (ρ:Env) (p:Nat) (T:TypeId) (cs:List Cell) (W W':World):Prop where
 bx:Bx W' p T (cs.map (Cell.den ρ))
 sz:W'.heap.size=W.heap.size
 far:∀ b,b≠p→W'.heap[b]? = W.heap[b]?
 on:∀ f,S.on ρ f W→S.on ρ f W'
 bel:∀ B w0,Below B w0 W→B≤p→Below B w0 W'
theorem Gl {S:Sys} {ρ:Env} {p off:Nat} {T:TypeId} {cs new:List Cell} (hok:AP S off new cs=true) (hle:off+new.length≤cs.length):∀ (rest done:List Cell) {W:World},done ++ rest=new →
  Bx W p T ((splice off done cs).map (Cell.den ρ))→Stored S ρ p T (splice off new cs) W (setMany W p (off+done.length) (rest.map (Cell.den ρ)))
 | [],done,W,hd,hb=>by
  rw [List.append_nil] at hd
  subst hd
  exact ⟨hb,rfl,fun _ _=>rfl,fun _ h=>h,fun _ _ h _=>h⟩
 | c :: rest,done,W,hd,hb=>by
  have hlen:done.length+(rest.length+1)=new.length:=by rw [← hd];simp
  have hsp:=Gp (off:=off) (done:=done) (c:=c) (cs:=cs) (by omega)
  have hb':=hb.set (off+done.length) (c.den ρ)
  rw [← List.map_set,hsp] at hb'
  have hkk:S.okC (splice off done cs)=true:=by
   have h1:=List.all_eq_true.1 hok done.length (List.mem_range.2 (by omega))
   rwa [← hd,List.take_left' rfl] at h1
  have ih:=Gl hok hle rest (done ++ [c]) (by rw [← hd];simp) hb'
  rw [List.length_append,List.length_singleton,← Nat.add_assoc] at ih
  simp only [List.map_cons,setMany]
  refine ⟨ih.bx,by rw [ih.sz];simp,fun b hne=>?_,fun f hf=>ih.on f (S.st hkk hb hf),fun B w0 h hB=>ih.bel B w0 (h.setCell (p:=⟨p,off+done.length,none⟩) hB _) hB⟩
  rw [ih.far b hne]
  exact Below.heap_setCell W ⟨p,off+done.length,none⟩ _ b hne
end Rx
end Go.Proofs.YtnmlkobogofadaaGreatDoor
