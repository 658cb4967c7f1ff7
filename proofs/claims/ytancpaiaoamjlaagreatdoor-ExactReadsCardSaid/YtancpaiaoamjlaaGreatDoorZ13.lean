/- What the proof rests on, part 13. -/
import Derived.Test.YtancpaiaoamjlaaGreatDoorZ12
namespace Go.Proofs.YtancpaiaoamjlaaGreatDoor
set_option maxRecDepth 100000
set_option maxHeartbeats 80000000
namespace Rx
open Go.RowKit
section
variable {P:Program} {S:Sys} {H:Tests S}
theorem ru {op:BinOp} {k:IntKind} {a b:Int} {x:Bool} {T:TypeId} {w:World} (h:CG op a b=some x):(binOp op T (.int k a) (.int k b)).run P w=.ok (.bool x) w:=by
 cases op <;> simp only [CG,Option.some.injEq] at h <;> first | cases h;done | (subst h;simp [binOp,Op.intCmp,pure])
theorem uO {op:BinOp} {T:TypeId} {x y:Operand} {a b:Value} {w:World} (ha:flat a=true) (hi:a≠.nilIface):(eqGuard op T x y a b).run P w=.ok () w:=by
 unfold eqGuard
 cases op <;> first | rfl | (cases a <;> first | (cases ha;done) | (exact absurd rfl hi) | (cases b <;> rfl))
theorem Nc {T:TypeId} {a b:Bool} {w:World} (hu:P.underlying T=some .bool):(Op.equal T (.bool a) (.bool b)).run P w=.ok (a == b) w:=by
 show (Op.equalIn (9999+1) T (.bool a) (.bool b)).run P w=_
 generalize 9999=d
 simp [Op.equalIn,underlying,program,hu,Sem.run_bind,Sem.run,Result.andThen,pure]
theorem Qg {db:List S.F} {op:BinOp} {T:TypeId} {c d:Cell} {x:Bool} (h:Ce P H db op T c d=some x) (ρ:Env) (w:World) (hf:∀ f∈db,S.on ρ f w):(binOp op T (c.den ρ) (d.den ρ)).run P w=.ok (.bool x) w:=by
 unfold Ce at h
 split at h
 ·split at h
  ·rename_i hk;subst hk;exact ru h
  ·cases h
 ·rename_i a b
  split at h
  ·rename_i hu
   cases h
   simp only [Cell.den,binOp,Sem.run_bind,Nc hu,Result.andThen]
   rfl
  ·rename_i hu
   cases h
   simp only [Cell.den,binOp,Sem.run_bind,Nc hu,Result.andThen]
   rfl
  ·cases h
 ·split at h
  ·rename_i he
   cases h
   rcases H.ok he ρ w hf with ⟨s,t,h1,h2,h3⟩ | ⟨k,a,b,h1,h2,h3⟩
   ·rw [h1,h2,← h3]
    simp [binOp,Op.stringOp,pure]
   ·rw [h1,h2,← h3]
    exact ru (op:=.eql) rfl
  ·rename_i y he
   cases h
   rcases H.ok he ρ w hf with ⟨s,t,h1,h2,h3⟩ | ⟨k,a,b,h1,h2,h3⟩
   ·rw [h1,h2,← h3]
    simp [binOp,Op.stringOp,pure]
   ·rw [h1,h2,← h3]
    exact ru (op:=.neq) rfl
  ·obtain ⟨k,a,b,h1,h2,h3⟩:=H.gok h ρ w hf
   rw [h1,h2,← h3]
   exact ru (op:=.gtr) rfl
  ·obtain ⟨k,a,b,h1,h2,h3⟩:=H.gok h ρ w hf
   rw [h1,h2,← h3]
   exact ru (op:=.lss) rfl
  ·obtain ⟨y,hy,rfl⟩:=Option.map_eq_some_iff.1 h
   obtain ⟨k,a,b,h1,h2,h3⟩:=H.gok hy ρ w hf
   rw [h1,h2,← h3,show (!decide (a > b))=decide (a≤b) by rw [← decide_not];exact decide_eq_decide.2 (by omega)]
   exact ru (op:=.leq) rfl
  ·obtain ⟨y,hy,rfl⟩:=Option.map_eq_some_iff.1 h
   obtain ⟨k,a,b,h1,h2,h3⟩:=H.gok hy ρ w hf
   rw [h1,h2,← h3,show (!decide (a > b))=decide (b≥a) by rw [← decide_not];exact decide_eq_decide.2 (by omega)]
   exact ru (op:=.geq) rfl
  ·cases h
theorem aP {rd:Tmp→Option SV} {x:Operand} {v:SV} {ρ:Env} {a:Act} (h:opd rd x=some v) (hr:∀ t v,rd t=some v→a.tmps.getD t undef=v.den ρ):a.eval x=v.den ρ:=by
 cases x with
 | tmp t=>exact hr t v h
 | const c=>exact (Ia ρ h).symm
 | global g=>cases h
 | func f=>cases h;rfl
theorem Fj {rd:Tmp→Option SV} {ρ:Env} {a:Act} (hr:∀ t v,rd t=some v→a.tmps.getD t undef=v.den ρ):∀ {l:List Operand} {vs:List SV},mY rd l=some vs→l.map a.eval=vs.map (SV.den ρ)
 | [],vs,h=>by simp only [mY,Option.some.injEq] at h;subst h;rfl
 | x :: r,vs,h=>by
  simp only [mY] at h
  split at h
  ·rename_i v l h1 h2
   cases h
   simp [aP h1 hr,Fj hr h2]
  ·cases h
theorem FN {rd:Tmp→Option SV} {ρ:Env} {a:Act} (hr:∀ t v,rd t=some v→a.tmps.getD t undef=v.den ρ):∀ {l:List (Nat×Operand)} {vs:List (Nat×El)},mZ rd l=some vs→l.map (fun x=>(x.1,a.eval x.2))=vs.map fun x=>(x.1,x.2.den ρ)
 | [],vs,h=>by simp only [mZ,Option.some.injEq] at h;subst h;rfl
 | (i,x) :: r,vs,h=>by
  simp only [mZ] at h
  split at h
  ·rename_i v l h1 h2
   cases h
   simp only [List.map_cons,FN hr h2]
   rw [aP h1 hr]
   rfl
  ·cases h
theorem uS {s:Sem Value} {v:Value} {K:Value→World→Prop} {w w':World} (h:s.run P w=.ok v w') (hK:K v w'):nD P K ((do pure (.value (← s)):Sem Next).run P w):=by
 simp only [Sem.run_bind,h,Result.andThen]
 exact hK
theorem Ep {E:World→Prop}:∀ {cons:List (Con S)} {f:FuncId} {db:List S.F} {b:Nat} {args:List SV} {res:SV} {new:List S.F},(∀ c∈cons,c.Ok P S E)→tu cons f db b args=some (res,new) →
  ∀ ρ W,(∀ f∈db,S.on ρ f W)→E W →
  Calls P f (args.map (SV.den ρ)).toArray W fun e W'=>∃ ρ':Env,(∀ n,n<b∨b+M≤n→ρ' n=ρ n)∧e=.returned (res.den ρ')∧Below W.heap.size W W'∧∀ f∈new,S.on ρ' f W'
 | [],_,_,_,_,_,_,_,h=>by simp [tu] at h
 | c :: r,f,db,b,args,res,new,hc,h=>by
  simp only [tu] at h
  split at h
  ·rename_i hf
   subst hf
   split at h
   ·rename_i x hx
    cases h
    exact (hc c (by simp)).1 _ _ _ _ _ hx
   ·exact Ep (fun c' h'=>hc c' (by simp [h'])) h
  ·exact Ep (fun c' h'=>hc c' (by simp [h'])) h
theorem Et {E:World→Prop}:∀ {cons:List (Con S)} {f:FuncId} {db:List S.F} {b:Nat} {args:List SV} {res:SV} {new:List S.F} {T:TypeId} {cs:List Cell},(∀ c∈cons,c.Ok P S E)→tK cons f db b args=some (res,new,T,cs) →
  ∀ ρ W,(∀ f∈db,S.on ρ f W)→E W →
  Calls P f (args.map (SV.den ρ)).toArray W fun e W'=>∃ ρ':Env,(∀ n,n<b∨b+M≤n→ρ' n=ρ n)∧e=.returned (res.den ρ')∧Below W.heap.size W W'∧(∀ f∈new,S.on ρ' f W')∧W.heap.size≤(ρ' b).pos∧Bx W' (ρ' b).pos T (cs.map (Cell.den ρ'))
 | [],_,_,_,_,_,_,_,_,_,h=>by simp [tK] at h
 | c :: r,f,db,b,args,res,new,T,cs,hc,h=>by
  simp only [tK] at h
  split at h
  ·rename_i hf
   subst hf
   split at h
   ·rename_i x hx
    cases h
    exact (hc c (by simp)).2 _ _ _ _ _ _ _ hx
   ·exact Et (fun c' h'=>hc c' (by simp [h'])) h
  ·exact Et (fun c' h'=>hc c' (by simp [h'])) h
theorem Nh {c:Call} {f:FuncId} {t:TypeId} {a:Act} {args:Array Value} {w:World} (hc:c.callee=.value (.func f)) (hb:CB P f=true) (ha:c.args.map a.eval=args) :
  (do let d ← resolve a.eval c t;invoke d.target d.args:Sem Next).run P w=.ok (.enter f args) w:=by
 unfold CB at hb
 split at hb
 ·rename_i fn hfn
  simp only [Bool.and_eq_true,Bool.not_eq_true',Option.isSome_iff_ne_none] at hb
  obtain ⟨h1,h2⟩:=hb
  have h3:¬ fn.name = "runtime.NumGoroutine":=by simpa using h2
  simp [resolve,hc,Act.eval,Deferred.ofValue,invoke,callFunc,program,hfn,h1,h3,ha,Sem.run_bind,Sem.run,Result.andThen,pure]
 ·cases hb
def Done (S:Sys) (ct:Nat→Option (TypeId×List Cell)) (b:Nat) (ρ ρ':Env) (W W':World):Eff→Prop
 | .no=>Below W.heap.size W W'
 | .new T cs=>(ρ' b).pos=W.heap.size∧W' = W.alloc (.cells (cs.map (Cell.den ρ')).toArray T)
 | .got T cs=>W.heap.size≤(ρ' b).pos∧Below W.heap.size W W'∧Bx W' (ρ' b).pos T (cs.map (Cell.den ρ'))
 | .put k off new=>∃ T cs,ct k=some (T,cs)∧off+new.length≤cs.length∧Fb S off new cs=true∧W' = setMany W (ρ k).pos off (new.map (Cell.den ρ))∧ρ' = ρ
def After (S:Sys) (ct:Nat→Option (TypeId×List Cell)) (b:Nat) (r:Rec S.F) (ρ:Env) (W:World) (v:Value) (W':World):Prop:=
 ∃ ρ':Env,(∀ n,n<b∨b+M≤n→ρ' n=ρ n)∧v=r.v.den ρ'∧Done S ct b ρ ρ' W W' r.ef∧∀ f∈r.fs,S.on ρ' f W'
theorem dY {ct:Nat→Option (TypeId×List Cell)} {b:Nat} {r:Rec S.F} {ρ:Env} {W:World} {v:Value} (hv:v=r.v.den ρ) (he:r.ef=.no) (hf:r.fs=[]):After S ct b r ρ W v W:=
 ⟨ρ,fun _ _=>rfl,hv,by rw [he];exact Below.refl _ _,by rw [hf];simp⟩
theorem Ii {ct:Nat→Option (TypeId×List Cell)} {b:Nat} {T:TypeId} {cs:List Cell} {acc:List Nat} {ρ:Env} {W:World} (hn:∀ n∈cs.flatMap Cell.nm,n<b∨b+M≤n) :
  After S ct b ⟨.e (.s (.ptr b 0)),.new T cs,[],acc⟩ ρ W (.pointer (some ⟨W.heap.size,0,none⟩)) (W.alloc (.cells (cs.map (Cell.den ρ)).toArray T)):=by
 let ρ':Env:=fun n=>if n=b then { ρ n with pos:=W.heap.size } else ρ n
 have h1:∀ n,n<b∨b+M≤n→ρ' n=ρ n:=fun n hn=>if_neg (by rcases hn with h | h <;> simp only [M] at * <;> omega)
 have h2:(ρ' b).pos=W.heap.size:=by simp [ρ']
 refine ⟨ρ',h1,?_,⟨h2,?_⟩,by simp⟩
 ·simp only [SV.den,El.den,Cell.den,h2]
 ·rw [kW (ρ:=ρ') (ρ':=ρ) fun n hx=>h1 n (hn n hx)]
theorem PL {ct:Nat→Option (TypeId×List Cell)} {b n:Nat} {T:TypeId} {cs:List Cell} {acc:List Nat} {ρ:Env} {W:World} (hn:∀ n∈cs.flatMap Cell.nm,n<b∨b+M≤n) :
  After S ct b ⟨.e (.s (.slx b 0 n n)),.got T cs,[],acc⟩ ρ W (.slice (some ⟨W.heap.size,0,none⟩) n n) (W.alloc (.cells (cs.map (Cell.den ρ)).toArray T)):=by
 let ρ':Env:=fun n=>if n=b then { ρ n with pos:=W.heap.size } else ρ n
 have h1:∀ n,n<b∨b+M≤n→ρ' n=ρ n:=fun n hn=>if_neg (by rcases hn with h | h <;> simp only [M] at * <;> omega)
 have h2:(ρ' b).pos=W.heap.size:=by simp [ρ']
 refine ⟨ρ',h1,?_,⟨by rw [h2];exact Nat.le_refl _,(Below.refl _ _).alloc (Nat.le_refl _) _,?_⟩,by simp⟩
 ·simp only [SV.den,El.den,Cell.den,h2]
 ·rw [h2,kW (ρ:=ρ') (ρ':=ρ) fun n hx=>h1 n (hn n hx)];exact Bx.new W T _
theorem jC {ct:Nat→Option (TypeId×List Cell)} {b:Nat} {sv:SV} {fs:List S.F} {ρ:Env} {W W':World} {v:Value} (nv:Nv) (hv:v=sv.den (fun n=>if n=b then nv else ρ n)) (hb:Below W.heap.size W W') (hf:∀ f∈fs,S.on (fun n=>if n=b then nv else ρ n) f W'):After S ct b ⟨sv,.no,fs,[]⟩ ρ W v W':=
 ⟨_,fun n hn=>if_neg (by rcases hn with h | h <;> first | omega | (simp only [M] at *;omega)),hv,hb,hf⟩
theorem zY {rd:Tmp→Option SV} {l:List Operand} {v:SV} (h:mY rd l=some [v]):∃ x,l=[x]∧opd rd x=some v:=by
 cases l with
 | nil=>simp [mY] at h
 | cons x r =>
  simp only [mY] at h
  split at h
  ·rename_i v' l' h1 h2
   cases h
   cases r with
   | nil=>exact ⟨x,rfl,h1⟩
   | cons y r' =>
    simp only [mY] at h2
    split at h2 <;> cases h2
  ·cases h
theorem Gi {c:Call} {ty:TypeId} {a:Act} {p:Option Addr} {l k:Nat} {w:World} (hc:c.callee=.builtin .len) (ht:wF P c=true) (ha:c.args.map a.eval=#[.slice p l k]):(do let d ← resolve a.eval c ty;invoke d.target d.args:Sem Next).run P w=.ok (.value (.int .i64 (l:Int))) w:=by
 unfold wF at ht
 split at ht
 ·rename_i t h1
  split at ht
  ·rename_i e h2
   simp [resolve,hc,invoke,builtin,Builtin.len_,ha,h1,h2,underlying,program,goInt,Sem.run_bind,Sem.run,Result.andThen,pure]
  ·cases ht
 ·cases ht
theorem YW {c:Call} {ty:TypeId} {a:Act} {s v:Value} {w:World} (hc:c.callee=.builtin .len) (ht:EO P c=true) (ha:c.args.map a.eval=#[s]) (hv:iy .len [s]=some v):(do let d ← resolve a.eval c ty;invoke d.target d.args:Sem Next).run P w=.ok (.value v) w:=by
 unfold EO at ht
 split at ht
 ·rename_i t h1
  split at ht
  ·rename_i h2
   cases s <;> simp only [iy,Option.some.injEq,reduceCtorEq] at hv
   subst hv
   simp [resolve,hc,invoke,builtin,Builtin.len_,ha,h1,h2,underlying,program,goInt,Sem.run_bind,Sem.run,Result.andThen,pure]
  ·cases ht
 ·cases ht
theorem YN {T:TypeId} {x y v:Value} {w:World} (hv:iy .cat [x,y]=some v):(binOp .add T x y).run P w=.ok v w:=by
 cases x <;> try (cases hv;done)
 cases y <;> try (cases hv;done)
 simp only [iy] at hv
 split at hv
 ·rename_i a b h
  cases hv
  have h2:¬ (9223372036854775807<((a.size:Int)+(b.size:Int))):=by omega
  simp [binOp,Op.stringOp,pure,h2]
 ·cases hv
theorem Qn {x y v:Value} (hv:iy .cat [x,y]=some v):∃ a b,x=.string a∧y=.string b:=by
 cases x <;> try (cases hv;done)
 cases y <;> try (cases hv;done)
 exact ⟨_,_,rfl,rfl⟩
theorem YS {t:TypeId} {x i v:Value} {w:World} (hu:P.underlying t=some .string) (hv:iy .idx [x,i]=some v):(Instr.index t x i).run P w=.ok v w:=by
 cases x <;> try (cases hv;done)
 cases i with
 | int k n =>
  cases k <;> try (cases hv;done)
  simp only [iy] at hv
  split at hv
  ·rename_i s h0
   obtain ⟨c,h1,rfl⟩:=Option.map_eq_some_iff.1 hv
   simp [Instr.index,asIntOf,underlying,program,hu,h0,h1,Sem.run_bind,Sem.run,Result.andThen,pure]
  ·cases hv
 | _=>cases hv
theorem YZ {t:TypeId} {x l v:Value} {w:World} (hu:P.underlying t=some .string) (hv:iy .lo [x,l]=some v):(Instr.sliceAt t x (some l) none none).run P w=.ok v w:=by
 cases x <;> try (cases hv;done)
 cases l with
 | int k n =>
  cases k <;> try (cases hv;done)
  simp only [iy] at hv
  split at hv
  ·rename_i s h0
   cases hv
   simp [Instr.sliceAt,Instr.slice,Instr.sliceBounds,Instr.sliceBound,underlying,program,hu,Sem.run_bind,Sem.run,Result.andThen,pure,asIntOf,h0]
  ·cases hv
 | _=>cases hv
theorem YR {t:TypeId} {x l v:Value} {w:World} (hu:P.underlying t=some .string) (hv:iy .hi [x,l]=some v):(Instr.sliceAt t x none (some l) none).run P w=.ok v w:=by
 cases x <;> try (cases hv;done)
 cases l with
 | int k n =>
  cases k <;> try (cases hv;done)
  simp only [iy] at hv
  split at hv
  ·rename_i s h0
   cases hv
   simp [Instr.sliceAt,Instr.slice,Instr.sliceBounds,Instr.sliceBound,underlying,program,hu,Sem.run_bind,Sem.run,Result.andThen,pure,asIntOf,h0]
  ·cases hv
 | _=>cases hv
theorem YX {t:TypeId} {n:Nat} {parts:Array (Nat×Operand)} {x:Int} {a:Act} {w:World} (h:Fe P t n parts.toList=some x):∃ e,(Instr.buildSlice t n (parts.map fun (i,y)=>(i,a.eval y))).run P w=.ok (.slice (some ⟨w.heap.size,0,none⟩) 1 1) (w.alloc (.cells #[.int .i64 x] e)):=by
 unfold Fe at h
 split at h
 ·rename_i e y hu hp
  split at h
  ·rename_i hh
   simp only [Bool.and_eq_true,decide_eq_true_eq] at hh
   cases h
   have hpa:parts.map (fun (i,y)=>(i,a.eval y))=#[(0,.int .i64 x)]:=by
    apply Array.ext'
    rw [Array.toList_map,hp]
    rfl
   refine ⟨e,?_⟩
   obtain ⟨z,hz⟩:=Option.isSome_iff_exists.1 hh.2
   obtain ⟨i,hi,hz'⟩:=Option.bind_eq_some_iff.1 hz
   have hs:=run_sizeOf (P:=P) (w:=w) hh.1
   rw [hpa]
   have hrow:∀ f:Nat→Value,((Array.range 1).map f).setIfInBounds 0 (.int .i64 x)=#[.int .i64 x]:=fun f=>by apply Array.ext';simp [show List.range 1=[0] from rfl]
   simp [Instr.buildSlice,Instr.fill,zeroValue,typeInfo,underlying,program,hu,hi,hz',hs,newRow,newObj,Value.cells,Sem.run_bind,Sem.run,Result.andThen,pure,hrow]
  ·cases h
 ·cases h
def Old (b:Nat) (v:SV):Prop:=∀ n∈v.nm,n<b∨b+M≤n
theorem LU {rd:Tmp→Option SV} {b:Nat} (ho:∀ x v,opd rd x=some v→Old b v):∀ {l:List (Nat×Operand)} {vs:List (Nat×El)},mZ rd l=some vs→∀ x∈vs,∀ n∈x.2.cells.flatMap Cell.nm,n<b∨b+M≤n
 | [],vs,h=>by simp only [mZ,Option.some.injEq] at h;subst h;simp
 | (i,x) :: r,vs,h=>by
  simp only [mZ] at h
  split at h
  ·rename_i v l h1 h2
   cases h
   intro y hy
   rcases List.mem_cons.1 hy with rfl | hy
   ·exact ho _ _ h1
   ·exact LU ho h2 y hy
  ·cases h
theorem TN {E:World→Prop} {cons:List (Con S)} (hc:∀ c∈cons,c.Ok P S E) {rd:Tmp→Option SV} {ct:Nat→Option (TypeId×List Cell)} {db:List S.F} {b:Nat} {o:Oper} {r:Rec S.F} {a:Act} {W:World} {ρ:Env}
  (h:evalOp P H cons rd ct db b o.op=some r) (hr:∀ t v,rd t=some v→a.tmps.getD t undef=v.den ρ) (ho:∀ t v,rd t=some v→Old b v)
  (hb:∀ k T cs,k∈r.acc→ct k=some (T,cs)→Bx W (ρ k).pos T (cs.map (Cell.den ρ))) (hf:∀ f∈db,S.on ρ f W) (hE:E W) :
  takes P o a W (After S ct b r ρ W):=by
 have hold:∀ x v,opd rd x=some v→Old b v:=fun x v h=>by
  cases x with
  | tmp t=>exact ho t v h
  | const c =>
   intro n hn
   have:v.nm=[]:=by
    clear hn
    simp only [opd] at h
    unfold vF at h
    have hC:∀ {v:Value} {c:Cell},nO v=some c→c.nm=[]:=fun {v c} h=>by unfold nO at h;split at h <;> first | (cases h;rfl) | cases h
    have hL:∀ {vs:List Value} {l:List Cell},jL vs=some l→l.flatMap Cell.nm=[]:=fun {vs}=>by
     induction vs with
     | nil=>intro l h;simp only [jL,Option.some.injEq] at h;subst h;rfl
     | cons v r ih =>
      intro l h
      simp only [jL] at h
      split at h
      ·rename_i c l' h1 h2
       cases h
       simp [hC h1,ih h2]
      ·cases h
    split at h
    ·obtain ⟨l,h1,rfl⟩:=Option.map_eq_some_iff.1 h
     exact hL h1
    ·obtain ⟨c,h1,rfl⟩:=Option.map_eq_some_iff.1 h
     simp [SV.nm,El.cells,hC h1]
   rw [this] at hn
   cases hn
  | global g=>cases h
  | func f =>
   cases h
   intro n hn
   cases hn
 unfold takes execOp
 unfold evalOp at h
 split at h
 all_goals first | (cases h;done) | (rename_i hop;rw [hop])
 ·-- move
  obtain ⟨v,hv,rfl⟩:=Option.map_eq_some_iff.1 h
  exact dY (aP hv hr) rfl rfl
 ·obtain ⟨v,hv,rfl⟩:=Option.map_eq_some_iff.1 h
  exact dY (aP hv hr) rfl rfl
 ·-- pick
  split at h
  ·rename_i hc
   obtain ⟨v,hv,rfl⟩:=Option.map_eq_some_iff.1 h
   have hd:=aP hc hr
   simp only [hd]
   exact dY (aP hv hr) rfl rfl
  ·rename_i hc
   obtain ⟨v,hv,rfl⟩:=Option.map_eq_some_iff.1 h
   have hd:=aP hc hr
   simp only [hd]
   exact dY (aP hv hr) rfl rfl
  ·cases h
 ·-- box
  split at h
  ·rename_i x hv
   cases h
   have hd:=aP hv hr
   simp only [hd]
   have hx:(SV.den ρ (.e x)).cells=(x.cells.map (Cell.den ρ)).toArray:=x.den_cells ρ
   rw [show ((do pure (.value (← Instr.box _ (SV.den ρ (.e x)))):Sem Next).run P W)=.ok (.value (.pointer (some ⟨W.heap.size,0,none⟩))) (W.alloc (.cells (x.cells.map (Cell.den ρ)).toArray _)) by
    simp only [Sem.run_bind,YM hx,Result.andThen];rfl]
   exact Ii (hold _ _ hv)
  ·cases h
 ·-- alloc
  split at h
  ·rename_i z hz
   split at h
   ·rename_i x hv
    cases h
    have hd:=Ia ρ hv
    have hx:z.cells=(x.cells.map (Cell.den ρ)).toArray:=by rw [← hd];exact x.den_cells ρ
    rw [show ((do pure (.value (← Instr.alloc _ true (.tuple #[]))):Sem Next).run P W)=.ok (.value (.pointer (some ⟨W.heap.size,0,none⟩))) (W.alloc (.cells (x.cells.map (Cell.den ρ)).toArray _)) by
     simp only [Sem.run_bind,YJ hz hx,Result.andThen];rfl]
    exact Ii (hold (.const z) _ hv)
   ·cases h
  ·cases h
 ·-- load
  split at h
  ·rename_i k off hv
   have hd:=aP hv hr
   simp only [hd,SV.den,El.den,Cell.den]
   split at h
   ·rename_i T cs n hct hag hsz
    split at h
    ·rename_i hle
     cases h
     have hbx:=hb k _ cs (by simp) hct
     rw [show ((do pure (.value (← Instr.loadAt _ (.pointer (some ⟨(ρ k).pos,off,none⟩)))):Sem Next).run P W)=.ok (.value (.agg (((cs.map (Cell.den ρ)).drop off).take n).toArray)) W by
      simp only [Sem.run_bind,Nl hag hsz hbx (by simpa using hle),Result.andThen];rfl]
     refine dY ?_ rfl rfl
     simp [SV.den,El.den,List.map_drop,List.map_take]
    ·cases h
   ·rename_i T cs hct hag
    split at h
    ·rename_i c hcv
     cases h
     have hbx:=hb k _ cs (by simp) hct
     have hv':(cs.map (Cell.den ρ))[off]? = some (c.den ρ):=by simp [hcv]
     rw [show ((do pure (.value (← Instr.loadAt _ (.pointer (some ⟨(ρ k).pos,off,none⟩)))):Sem Next).run P W)=.ok (.value (c.den ρ)) W by
      simp only [Sem.run_bind,Np hag hbx hv',Result.andThen];rfl]
     exact dY rfl rfl rfl
    ·cases h
   ·cases h
  ·rename_i s j hv
   have hd:=aP hv hr
   simp only [hd,SV.den,El.den,Cell.den]
   split at h
   ·rename_i fs hel hag
    cases h
    obtain ⟨-,ad,x,hp,hcell,hfs⟩:=S.eltOk hel hf
    rw [hp,Option.map_some,show ((do pure (.value (← Instr.loadAt _ (.pointer (some (ad.add j))))):Sem Next).run P W)=.ok (.value (.int .i64 x)) W by
     simp only [Sem.run_bind,Y0 hag hcell,Result.andThen];rfl]
    exact jC ⟨false,x,none,0,0,.empty,0,default⟩ (by simp [SV.den,El.den,Cell.den]) (Below.refl _ _) (hfs _ (fun n hn=>if_neg hn) (by rw [if_pos rfl]))
   ·cases h
  ·rename_i s i z hv
   have hd:=aP hv hr
   simp only [hd,SV.den,El.den,Cell.den]
   split at h
   ·rename_i cs fs n hld hag hsz
    split at h
    ·rename_i hh
     simp only [Bool.and_eq_true,decide_eq_true_eq] at hh
     cases h
     obtain ⟨ad,z',hz,hp,ρ',h1,h2,h3⟩:=S.ldvOk hld hf
     obtain rfl:z' = z:=Option.some.inj (hz.symm.trans hh.2)
     rw [hp,Option.map_some,show ((do pure (.value (← Instr.loadAt _ (.pointer (some (ad.add ((ρ i).u.toNat*z')))))):Sem Next).run P W)=.ok (.value (.agg (cs.map (Cell.den ρ')).toArray)) W by
      simp only [Sem.run_bind,Y1 hag hsz (vs:=cs.map (Cell.den ρ')) (by rw [List.length_map];exact hh.1.symm) h2,Result.andThen];rfl]
     exact ⟨ρ',h1,rfl,Below.refl _ _,h3⟩
    ·cases h
   ·cases h
  ·cases h
 ·-- store
  split at h
  ·rename_i k off x hv hx
   have hd:=aP hv hr
   have hdx:=aP hx hr
   simp only [hd,hdx]
   split at h
   ·rename_i T cs n hct hsz
    split at h
    ·rename_i hcond
     simp only [Bool.and_eq_true,decide_eq_true_eq] at hcond
     obtain ⟨⟨hlen,hle⟩,hok⟩:=hcond
     cases h
     have hbx:=hb k _ cs (by simp) hct
     rw [show ((do Instr.storeAt _ (SV.den ρ (.e (.s (.ptr k off)))) (SV.den ρ (.e x));pure .skip:Sem Next).run P W)=.ok .skip (setMany W (ρ k).pos off (x.cells.map (Cell.den ρ))) by
      simp only [Sem.run_bind]
      rw [show SV.den ρ (.e (.s (.ptr k off)))=.pointer (some ⟨(ρ k).pos,off,none⟩) from rfl,show SV.den ρ (.e x)=El.den ρ x from rfl,
       run_store (x.den_cells ρ) (by rw [List.length_map,hlen];exact hsz) hbx (by simp;omega) (fun v hv'=>by obtain ⟨c,-,rfl⟩:=List.mem_map.1 hv';exact c.flat ρ)]
      rfl]
     exact ⟨ρ,fun _ _=>rfl,rfl,⟨_,cs,hct,by omega,hok,rfl,rfl⟩,by simp⟩
    ·cases h
   ·cases h
  ·cases h
 ·-- fieldAddr
  split at h
  ·rename_i k off fd hv hfd
   have hd:=aP hv hr
   simp only [hd,SV.den,El.den,Cell.den]
   split at h
   ·rename_i hs
    cases h
    rw [show ((do pure (.value (← Instr.fieldAt _ (.pointer (some ⟨(ρ k).pos,off,none⟩)) _)):Sem Next).run P W)=.ok (.value (.pointer (some ⟨(ρ k).pos,off+fd.offset,none⟩))) W by
     simp only [Sem.run_bind,YO hfd hs,Result.andThen];rfl]
    exact dY rfl rfl rfl
   ·cases h
  ·cases h
 ·-- field
  split at h
  ·rename_i cs fd hv hfd
   have hd:=aP hv hr
   simp only [hd,SV.den,El.den]
   split at h
   ·rename_i n hag hsz
    cases h
    rw [show ((do pure (.value (← Instr.field _ (.agg (cs.map (Cell.den ρ)).toArray) _)):Sem Next).run P W)=.ok (.value (.agg (((cs.map (Cell.den ρ)).drop fd.offset).take n).toArray)) W by
     simp only [Sem.run_bind,YP hfd hag hsz,Result.andThen];rfl]
    refine dY ?_ rfl rfl
    simp [SV.den,El.den,List.map_drop,List.map_take]
   ·rename_i hag
    split at h
    ·rename_i c hcv
     cases h
     have hv':(cs.map (Cell.den ρ))[fd.offset]? = some (c.den ρ):=by simp [hcv]
     rw [show ((do pure (.value (← Instr.field _ (.agg (cs.map (Cell.den ρ)).toArray) _)):Sem Next).run P W)=.ok (.value (c.den ρ)) W by
      simp only [Sem.run_bind,YQ hfd hag hv',Result.andThen];rfl]
     exact dY rfl rfl rfl
    ·cases h
   ·cases h
  ·cases h
 ·-- indexAddr
  split at h
  ·rename_i s j hv hi
   have hd:=aP hv hr
   have hdi:=aP hi hr
   simp only [hd,hdi,SV.den,El.den,Cell.den]
   split at h
   ·rename_i hh
    simp only [Bool.and_eq_true,decide_eq_true_eq] at hh
    cases h
    obtain ⟨fs,hel⟩:=Option.isSome_iff_exists.1 hh.2
    obtain ⟨hlt,ad,x,hp,-,-⟩:=S.eltOk hel hf
    rw [hp,show ((do pure (.value (← Instr.indexAt _ (.slice (some ad) (ρ s).l (ρ s).c) (.int .i64 j))):Sem Next).run P W)=.ok (.value (.pointer (some (ad.add j.toNat)))) W by
     simp only [Sem.run_bind,YT hh.1.1 hh.1.2 hlt,Result.andThen];rfl]
    exact dY (by simp [SV.den,El.den,Cell.den,hp]) rfl rfl
   ·cases h
  ·rename_i s j hv hi
   have hd:=aP hv hr
   have hdi:=aP hi hr
   simp only [hd,hdi,SV.den,El.den,Cell.den]
   split at h
   ·rename_i z hz
    split at h
    ·rename_i ht
     cases h
     obtain ⟨h0,h1,ad,hp⟩:=S.idxOk hz hf
     rw [hp,show ((do pure (.value (← Instr.indexAt _ (.slice (some ad) (ρ s).l (ρ s).c) (.int .i64 (ρ j).u))):Sem Next).run P W)=.ok (.value (.pointer (some (ad.add ((ρ j).u.toNat*z))))) W by
      simp only [Sem.run_bind,YV ht h0 h1,Result.andThen];rfl]
     exact dY (by simp [SV.den,El.den,Cell.den,hp]) rfl rfl
    ·cases h
   ·cases h
  ·rename_i k off len cap j hv hi
   have hd:=aP hv hr
   have hdi:=aP hi hr
   simp only [hd,hdi,SV.den,El.den,Cell.den]
   split at h
   ·rename_i z hz
    split at h
    ·rename_i hh
     simp only [Bool.and_eq_true,decide_eq_true_eq] at hh
     cases h
     rw [show ((do pure (.value (← Instr.indexAt _ (.slice (some ⟨(ρ k).pos,off,none⟩) len cap) (.int .i64 j))):Sem Next).run P W)=.ok (.value (.pointer (some ⟨(ρ k).pos,off+j.toNat*z,none⟩))) W by
      simp only [Sem.run_bind,YU hz hh.1 hh.2,vG,Result.andThen];rfl]
     exact dY rfl rfl rfl
    ·cases h
   ·cases h
  ·cases h
 ·-- index
  split at h
  ·rename_i c d hv hx hu
   have hd:=aP hv hr
   have hdx:=aP hx hr
   simp only [hd,hdx,SV.den,El.den]
   split at h
   ·rename_i r new hnew
    cases h
    obtain ⟨v,x,e1,e2⟩:=H.soOk hnew ρ W hf
    obtain ⟨g1,g2⟩:=e2 (fun n=>if n=b then x else ρ n) (fun n hn=>if_neg hn) (if_pos rfl)
    exact uS (YS hu e1) (jC x g1.symm (Below.refl _ _) g2)
   ·cases h
  ·cases h
 ·-- slice
  split at h
  ·rename_i c d hv hx hu
   have hd:=aP hv hr
   have hdx:=aP hx hr
   simp only [hd,hdx,SV.den,El.den,Option.map_some,Option.map_none]
   split at h
   ·rename_i r new hnew
    cases h
    obtain ⟨v,x,e1,e2⟩:=H.soOk hnew ρ W hf
    obtain ⟨g1,g2⟩:=e2 (fun n=>if n=b then x else ρ n) (fun n hn=>if_neg hn) (if_pos rfl)
    exact uS (YZ hu e1) (jC x g1.symm (Below.refl _ _) g2)
   ·cases h
  ·cases h
 ·-- slice
  split at h
  ·rename_i c d hv hx hu
   have hd:=aP hv hr
   have hdx:=aP hx hr
   simp only [hd,hdx,SV.den,El.den,Option.map_some,Option.map_none]
   split at h
   ·rename_i r new hnew
    cases h
    obtain ⟨v,x,e1,e2⟩:=H.soOk hnew ρ W hf
    obtain ⟨g1,g2⟩:=e2 (fun n=>if n=b then x else ρ n) (fun n hn=>if_neg hn) (if_pos rfl)
    exact uS (YR hu e1) (jC x g1.symm (Below.refl _ _) g2)
   ·cases h
  ·cases h
 ·-- add
  split at h
  ·rename_i i i' hv hx
   have hd:=aP hv hr
   have hdx:=aP hx hr
   simp only [hd,hdx,SV.den,El.den,Cell.den]
   split at h
   ·rename_i new hnew
    cases h
    obtain ⟨hw,hfs⟩:=H.addOk hnew ρ W hf
    have hg:=fun T (x y:Operand)=>uO (P:=P) (op:=.add) (T:=T) (x:=x) (y:=y) (a:=.int .i64 (ρ i).u) (b:=.int .i64 (ρ i').u) (w:=W) rfl (by simp)
    simp only [Sem.run_bind,hg,Result.andThen]
    rw [show (binOp .add _ (.int .i64 (ρ i).u) (.int .i64 (ρ i').u)).run P W=.ok (.int .i64 ((ρ i).u+(ρ i').u)) W by
     simp [binOp,Op.intArith,hw,pure]]
    exact jC ⟨false,(ρ i).u+(ρ i').u,none,0,0,.empty,0,default⟩ (by simp [SV.den,El.den,Cell.den]) (Below.refl _ _) (hfs _ (fun n hn=>if_neg hn) (by rw [if_pos rfl]))
   ·cases h
  ·rename_i i m hv hx
   have hd:=aP hv hr
   have hdx:=aP hx hr
   simp only [hd,hdx,SV.den,El.den,Cell.den]
   split at h
   ·rename_i new hnew
    cases h
    obtain ⟨hw,hfs⟩:=H.incOk hnew ρ W hf
    have hg:=fun T (x y:Operand)=>uO (P:=P) (op:=.add) (T:=T) (x:=x) (y:=y) (a:=.int .i64 (ρ i).u) (b:=.int .i64 m) (w:=W) rfl (by simp)
    simp only [Sem.run_bind,hg,Result.andThen]
    rw [show (binOp .add _ (.int .i64 (ρ i).u) (.int .i64 m)).run P W=.ok (.int .i64 ((ρ i).u+m)) W by
     simp [binOp,Op.intArith,hw,pure]]
    exact jC ⟨false,(ρ i).u+m,none,0,0,.empty,0,default⟩ (by simp [SV.den,El.den,Cell.den]) (Below.refl _ _) (hfs _ (fun n hn=>if_neg hn) (by rw [if_pos rfl]))
   ·cases h
  ·rename_i z m hv hx
   have hd:=aP hv hr
   have hdx:=aP hx hr
   simp only [hd,hdx,SV.den,El.den,Cell.den]
   cases h
   have hg:=fun T (x y:Operand)=>uO (P:=P) (op:=.add) (T:=T) (x:=x) (y:=y) (a:=.int .i64 z) (b:=.int .i64 m) (w:=W) rfl (by simp)
   simp only [Sem.run_bind,hg,Nb (op:=.add) rfl,Result.andThen]
   exact dY rfl rfl rfl
  ·rename_i m i hv hx
   have hd:=aP hv hr
   have hdx:=aP hx hr
   simp only [hd,hdx]
   split at h
   ·rename_i r new hnew
    cases h
    obtain ⟨k,x1,y1,z1,e1,e2,e3,e4⟩:=H.arOk hnew ρ W hf
    have hg:=fun T (x y:Operand)=>uO (P:=P) (op:=.add) (T:=T) (x:=x) (y:=y) (a:=.int k x1) (b:=.int k y1) (w:=W) rfl (by simp)
    simp only [SV.den,El.den,e1,e2,Sem.run_bind,hg,e3,Result.andThen]
    obtain ⟨g1,g2⟩:=e4 (fun n=>if n=b then ⟨false,z1,none,0,0,.empty,0,default⟩ else ρ n) (fun n hn=>if_neg hn) (by rw [if_pos rfl])
    exact jC ⟨false,z1,none,0,0,.empty,0,default⟩ g1.symm (Below.refl _ _) g2
   ·split at h
    ·rename_i r new hnew
     cases h
     obtain ⟨v,nv,e1,e2⟩:=H.soOk hnew ρ W hf
     obtain ⟨s1,s2,ea,eb⟩:=Qn e1
     have hg:=fun T (x y:Operand)=>uO (P:=P) (op:=.add) (T:=T) (x:=x) (y:=y) (a:=.string s1) (b:=.string s2) (w:=W) rfl (by simp)
     rw [show List.map (Cell.den ρ) _=[.string s1,.string s2] by rw [← ea,← eb];rfl] at e1
     simp only [SV.den,El.den,ea,eb,Sem.run_bind,hg,YN e1,Result.andThen]
     obtain ⟨g1,g2⟩:=e2 (fun n=>if n=b then nv else ρ n) (fun n hn=>if_neg hn) (if_pos rfl)
     exact jC nv g1.symm (Below.refl _ _) g2
    ·cases h
  ·cases h
 ·-- binOp
  split at h
  ·rename_i c d hv hx
   have hd:=aP hv hr
   have hdx:=aP hx hr
   simp only [hd,hdx]
   have hg:=fun op T (x y:Operand)=>uO (P:=P) (op:=op) (T:=T) (x:=x) (y:=y) (a:=SV.den ρ (.e (.s c))) (b:=SV.den ρ (.e (.s d))) (w:=W) (c.flat ρ) (by cases c <;> simp [SV.den,El.den,Cell.den])
   simp only [Sem.run_bind,hg,Result.andThen]
   split at h
   ·rename_i y hy
    cases h
    rw [show (binOp _ _ (SV.den ρ (.e (.s c))) (SV.den ρ (.e (.s d)))).run P W=.ok (.bool y) W from Qg hy ρ W hf]
    exact dY rfl rfl rfl
   ·split at h
    ·rename_i r new hnew
     cases h
     obtain ⟨k,x1,y1,z1,e1,e2,e3,e4⟩:=H.arOk hnew ρ W hf
     simp only [SV.den,El.den,e1,e2,e3]
     obtain ⟨g1,g2⟩:=e4 (fun n=>if n=b then ⟨false,z1,none,0,0,.empty,0,default⟩ else ρ n) (fun n hn=>if_neg hn) (by rw [if_pos rfl])
     exact jC ⟨false,z1,none,0,0,.empty,0,default⟩ g1.symm (Below.refl _ _) g2
    ·split at h
     ·obtain ⟨y,hy,rfl⟩:=Option.map_eq_some_iff.1 h
      simp only [SV.den,El.den,Cell.den,Nb hy]
      exact dY rfl rfl rfl
     ·cases h
  ·cases h
 ·-- not
  split at h
  ·rename_i x hv
   cases h
   have hd:=aP hv hr
   simp only [hd]
   exact dY rfl rfl rfl
  ·cases h
 ·-- neg
  split at h
  ·rename_i k n hv
   cases h
   have hd:=aP hv hr
   simp only [hd]
   exact dY rfl rfl rfl
  ·cases h
 ·-- convert
  split at h
  ·rename_i c k0 k hv hu ht
   have hd:=aP hv hr
   simp only [hd]
   split at h
   ·rename_i r new hnew
    cases h
    obtain ⟨k1,x1,e1,e4⟩:=H.cvOk hnew ρ W hf
    obtain ⟨g1,g2⟩:=e4 (fun n=>if n=b then ⟨false,k.wrap x1,none,0,0,.empty,0,default⟩ else ρ n) (fun n hn=>if_neg hn) (by rw [if_pos rfl])
    rw [show ((do pure (.value (← convert _ _ (SV.den ρ (.e (.s c))))):Sem Next).run P W)=.ok (.value (.int k (k.wrap x1))) W by
     simp [SV.den,El.den,e1,convert,underlying,program,ht,hu,Conv.intToInt,Sem.run_bind,Sem.run,Result.andThen,pure]]
    exact jC ⟨false,k.wrap x1,none,0,0,.empty,0,default⟩ g1.symm (Below.refl _ _) g2
   ·cases h
  ·cases h
 ·-- extract
  split at h
  ·rename_i l hv
   split at h
   ·rename_i i e he
    cases h
    have hd:=aP hv hr
    simp only [hd]
    rw [show ((do pure (.value (← Instr.extract (SV.den ρ (.t l)) _)):Sem Next).run P W)=.ok (.value (e.den ρ)) W by
     simp only [SV.den,Instr.extract,List.getElem?_toArray,List.getElem?_map,he,Option.map_some,Sem.run_bind];rfl]
    exact dY rfl rfl rfl
   ·cases h
  ·cases h
 ·-- build
  split at h
  ·rename_i fs hu
   split at h
   ·rename_i pl zc ps hp hz hps
    split at h
    ·rename_i cs hf
     cases h
     have hparts:=FN hr hps
     exact uS (run_build hu hp hz hf _ (by rw [Array.toList_map];exact hparts)) (dY rfl rfl rfl)
    ·cases h
   ·cases h
  ·cases h
 ·-- call
  rename_i c
  split at h
  ·rename_i f args hcal hargs
   split at h
   ·rename_i hcb
    split at h
    ·rename_i v fs hfc
     cases h
     have hcall:=Ep hc hfc ρ W hf hE
     have hargs':c.args.map a.eval=(args.map (SV.den ρ)).toArray:=by
      apply Array.ext'
      rw [Array.toList_map,Fj hr hargs]
     rw [Nh hcal hcb hargs']
     refine hcall.mono fun e W' hh=>?_
     obtain ⟨ρ',h1,rfl,h3,h4⟩:=hh
     exact ⟨_,rfl,ρ',h1,rfl,h3,h4⟩
    ·split at h
     ·rename_i v fs T cs hfm
      cases h
      have hcall:=Et hc hfm ρ W hf hE
      have hargs':c.args.map a.eval=(args.map (SV.den ρ)).toArray:=by
       apply Array.ext'
       rw [Array.toList_map,Fj hr hargs]
      rw [Nh hcal hcb hargs']
      refine hcall.mono fun e W' hh=>?_
      obtain ⟨ρ',h1,rfl,h3,h4,h5,h6⟩:=hh
      exact ⟨_,rfl,ρ',h1,rfl,⟨h5,h3,h6⟩,h4⟩
     ·cases h
   ·cases h
  ·rename_i s hcal hargs
   split at h
   ·rename_i hl
    cases h
    obtain ⟨x,hx,hv⟩:=zY hargs
    have hs:=hold _ _ hv s (by simp [SV.nm,El.cells,Cell.nm])
    have hargs':c.args.map a.eval=#[.slice (ρ s).p (ρ s).l (ρ s).c]:=by
     apply Array.ext'
     rw [Array.toList_map,hx,List.map_singleton,aP hv hr]
     rfl
    rw [Gi hcal hl hargs']
    refine jC ⟨false,(ρ s).l,none,0,0,.empty,0,default⟩ (by simp [SV.den,El.den,Cell.den]) (Below.refl _ _) fun f hf'=>S.lenOk hf' ?_
    rw [if_pos rfl,if_neg (by rcases hs with h | h <;> first | omega | (simp only [M] at *;omega))]
   ·cases h
  ·rename_i k off n cap hcal hargs
   split at h
   ·rename_i hl
    cases h
    obtain ⟨x,hx,hv⟩:=zY hargs
    have hargs':c.args.map a.eval=#[.slice (some ⟨(ρ k).pos,off,none⟩) n cap]:=by
     apply Array.ext'
     rw [Array.toList_map,hx,List.map_singleton,aP hv hr]
     rfl
    rw [Gi hcal hl hargs']
    exact dY rfl rfl rfl
   ·cases h
  ·rename_i hcal hargs
   split at h
   ·rename_i hl
    cases h
    obtain ⟨x,hx,hv⟩:=zY hargs
    have hargs':c.args.map a.eval=#[.slice none 0 0]:=by
     apply Array.ext'
     rw [Array.toList_map,hx,List.map_singleton,aP hv hr]
     rfl
    rw [Gi hcal hl hargs']
    exact dY rfl rfl rfl
   ·cases h
  ·rename_i s hcal hargs
   split at h
   ·rename_i hl
    split at h
    ·rename_i r new hnew
     cases h
     obtain ⟨y,hy,hv⟩:=zY hargs
     obtain ⟨v,nv,e1,e2⟩:=H.soOk hnew ρ W hf
     have hargs':c.args.map a.eval=#[(Cell.ot s).den ρ]:=by
      apply Array.ext'
      rw [Array.toList_map,hy,List.map_singleton,aP hv hr]
      rfl
     rw [YW hcal hl hargs' e1]
     obtain ⟨g1,g2⟩:=e2 (fun n=>if n=b then nv else ρ n) (fun n hn=>if_neg hn) (if_pos rfl)
     exact jC nv g1.symm (Below.refl _ _) g2
    ·cases h
   ·cases h
  ·cases h
 ·-- a row of one integer
  split at h
  ·rename_i x hx
   cases h
   obtain ⟨e,he⟩:=YX (a:=a) (w:=W) hx
   refine uS he ?_
   exact jC ⟨false,0,some ⟨W.heap.size,0,none⟩,1,1,.empty,0,default⟩ (by simp [SV.den,El.den,Cell.den]) ((Below.refl _ _).alloc (Nat.le_refl _) _) fun f hf'=>S.litOk hf' (by rw [if_pos rfl]) (by rw [if_pos rfl]) (by rw [if_pos rfl])
  ·split at h
   ·rename_i e ps hu hps
    split at h
    ·rename_i i zc hi hz
     split at h
     ·rename_i hh
      simp only [Bool.and_eq_true,decide_eq_true_eq] at hh
      split at h
      ·rename_i cs hfl
       cases h
       refine uS (Ql (ρ:=ρ) hu hi hz hh.1.1 hh.1.2 hh.2 hfl (by rw [Array.toList_map];exact FN hr hps) W) ?_
       refine PL fun n hn=>?_
       rcases JE hfl hn with ⟨x,hx,hn⟩ | hn
       ·exact LU hold hps x hx n hn
       ·obtain ⟨c,hc1,hc2⟩:=List.mem_flatMap.1 hn
        obtain ⟨l,hl,hcl⟩:=List.mem_flatten.1 hc1
        rw [List.eq_of_mem_replicate hl] at hcl
        rw [aaf hz hcl] at hc2
        cases hc2
      ·cases h
     ·cases h
    ·cases h
   ·cases h
end
end Rx
namespace Rx
open Go.RowKit
def mask (acc:List Nat):List Edge→Nat
 | []=>0
 | e :: r=>if Region.binds .any e then (2 ^ e.on ||| acc.getD e.on 0) ||| mask acc r else mask acc r
def cZ:List Oper→List Nat→List Nat
 | [],acc=>acc
 | o :: r,acc=>cZ r (acc ++ [mask acc o.after.toList])
theorem ES {acc acc':List Nat}:∀ {l:List Edge},(∀ e∈l,Region.binds .any e=true→acc.getD e.on 0=acc'.getD e.on 0)→mask acc l=mask acc' l
 | [],_=>rfl
 | e :: r,h=>by
  simp only [mask]
  split
  ·rename_i hb
   rw [h e (by simp) hb,ES fun e' he'=>h e' (by simp [he'])]
  ·exact ES fun e' he'=>h e' (by simp [he'])
theorem EP {acc:List Nat} {j:Nat}:∀ {l:List Edge},(mask acc l).testBit j=true→∃ e∈l,Region.binds .any e=true∧(e.on=j∨(acc.getD e.on 0).testBit j=true)
 | [],h=>by simp [mask] at h
 | e :: r,h=>by
  simp only [mask] at h
  split at h
  ·rename_i hb
   simp only [Nat.testBit_or,Bool.or_eq_true,Nat.testBit_two_pow,decide_eq_true_eq] at h
   rcases h with (h | h) | h
   ·exact ⟨e,by simp,hb,.inl h⟩
   ·exact ⟨e,by simp,hb,.inr h⟩
   ·obtain ⟨e',h1,h2⟩:=EP h
    exact ⟨e',by simp [h1],h2⟩
  ·obtain ⟨e',h1,h2⟩:=EP h
   exact ⟨e',by simp [h1],h2⟩
theorem BZ:∀ (l:List Oper) (acc:List Nat) (k:Nat),k<acc.length→(cZ l acc).getD k 0=acc.getD k 0
 | [],_,_,_=>rfl
 | o :: r,acc,k,h=>by
  rw [cZ,BZ r _ k (by simp;omega)]
  simp [List.getD,List.getElem?_append_left h]
theorem Iy:∀ {l:List Oper} {acc:List Nat} {i:Nat} {o:Oper},lexB acc.length l=true→l[i]? = some o→(cZ l acc).getD (acc.length+i) 0=mask (cZ l acc) o.after.toList
 | [],_,_,_,_,h=>by simp at h
 | x :: r,acc,0,o,hl,h=>by
  simp only [List.getElem?_cons_zero,Option.some.injEq] at h
  subst h
  have hlx:=fun e he hb=>qN (i:=0) hl rfl e he hb
  rw [cZ,Nat.add_zero,BZ r _ _ (by simp)]
  rw [show (acc ++ [mask acc x.after.toList]).getD acc.length 0=mask acc x.after.toList by simp [List.getD]]
  refine ES fun e he hb=>?_
  have h1:=hlx e (by simpa using he) hb
  rw [BZ r _ _ (by simp;omega)]
  simp [List.getD,List.getElem?_append_left (show e.on<acc.length by omega)]
 | x :: r,acc,i+1,o,hl,h=>by
  simp only [lexB,Bool.and_eq_true] at hl
  have:=Iy (l:=r) (acc:=acc ++ [mask acc x.after.toList]) (i:=i) (o:=o) (by simpa using hl.2) (by simpa using h)
  rw [cZ]
  rw [← this]
  congr 1
  simp
  omega
section
variable {l:List Oper}
def bf (l:List Oper) (i j:Nat):Bool:=((cZ l []).getD i 0).testBit j
theorem Cb (hl:lexB 0 l=true) {i j:Nat} {o:Oper} (ho:l[i]? = some o) (h:bf l i j=true):∃ e∈o.after,Region.binds .any e=true∧(e.on=j∨bf l e.on j=true):=by
 unfold bf at h
 have h1:=Iy (l:=l) (acc:=[]) (i:=i) (by simpa using hl) ho
 simp only [List.length_nil,Nat.zero_add] at h1
 rw [h1] at h
 obtain ⟨e,he,hb,hh⟩:=EP h
 exact ⟨e,by simpa using he,hb,hh⟩
theorem Iz {i j:Nat} (hi:l[i]? = none):bf l i j=false:=by
 have hlen:∀ (l:List Oper) (acc:List Nat),(cZ l acc).length=acc.length+l.length:=fun l=>by
  induction l with
  | nil=>intro acc;rfl
  | cons o r ih=>intro acc;rw [cZ,ih];simp;omega
 unfold bf
 have h2:l.length≤i:=by simpa using hi
 have:(cZ l [])[i]? = none:=by
  apply List.getElem?_eq_none
  rw [hlen];simpa using h2
 simp [List.getD,this]
theorem Cc (hl:lexB 0 l=true):∀ {i j:Nat},bf l i j=true→j<i:=by
 intro i
 induction i using Nat.strongRecOn with
 | _ i ih =>
  intro j h
  cases ho:l[i]? with
  | none=>rw [Iz ho] at h;cases h
  | some o =>
   obtain ⟨e,he,hb,hh⟩:=Cb hl ho h
   have h1:=qN hl ho e he hb
   rw [Nat.zero_add] at h1
   rcases hh with rfl | hh
   ·exact h1
   ·have:=ih e.on h1 hh;omega
theorem vN (hl:lexB 0 l=true) {dn:Nat→Bool} (hc:Closed l dn):∀ {i j:Nat},dn i=true→bf l i j=true→dn j=true:=by
 intro i
 induction i using Nat.strongRecOn with
 | _ i ih =>
  intro j hi h
  cases ho:l[i]? with
  | none=>rw [Iz ho] at h;cases h
  | some o =>
   obtain ⟨e,he,hb,hh⟩:=Cb hl ho h
   have h1:=qN hl ho e he hb
   have h2:=hc i o ho hi e he hb
   rcases hh with rfl | hh
   ·exact h2
   ·exact ih e.on (by omega) h2 hh
theorem sK (hl:lexB 0 l=true) {dn:Nat→Bool} (hc:Closed l dn) {i j:Nat} {o:Oper} (ho:l[i]? = some o) (hw:∀ e∈o.after,Region.binds .any e=true→dn e.on=true) (h:bf l i j=true):dn j=true:=by
 obtain ⟨e,he,hb,hh⟩:=Cb hl ho h
 rcases hh with rfl | hh
 ·exact hw e he hb
 ·exact vN hl hc (hw e he hb) hh
end
def wr:List Oper→Tmp→Nat→Option Nat
 | [],_,_=>none
 | o :: r,t,i=>if o.dst=some t then some i else wr r t (i+1)
theorem GU:∀ {l:List Oper} {t:Tmp} {i j:Nat},wr l t i=some j→i≤j∧∃ o,l[j - i]? = some o∧o.dst=some t
 | [],_,_,_,h=>by simp [wr] at h
 | o :: r,t,i,j,h=>by
  simp only [wr] at h
  split at h
  ·rename_i hd
   cases h
   exact ⟨Nat.le_refl _,o,by simp,hd⟩
  ·obtain ⟨h1,o',h2,h3⟩:=GU h
   refine ⟨by omega,o',?_,h3⟩
   rw [show j - i=(j - (i+1))+1 by omega]
   simpa using h2
theorem GR:∀ {l:List Oper} {t:Tmp} {i j:Nat} {o:Oper},kZ l=true→l[j]? = some o→o.dst=some t→wr l t i=some (i+j)
 | [],_,_,_,_,_,h,_=>by simp at h
 | x :: r,t,i,0,o,hB,h,hd=>by
  simp only [List.getElem?_cons_zero,Option.some.injEq] at h
  subst h
  simp [wr,hd]
 | x :: r,t,i,j+1,o,hB,h,hd=>by
  simp only [kZ,Bool.and_eq_true,Bool.or_eq_true,List.all_eq_true] at hB
  have h':r[j]? = some o:=by simpa using h
  have hne:¬ x.dst=some t:=fun e=>by
   rcases hB.1 with h1 | h1
   ·rw [e] at h1;cases h1
   ·have:=h1 o (List.mem_of_getElem? h')
    rw [hd,e] at this
    simp at this
  rw [wr,if_neg hne,GR hB.2 h' hd]
  congr 1
  omega
def lk:List (Nat×TypeId×List Cell)→Nat→Option (TypeId×List Cell)
 | [],_=>none
 | (k',x) :: r,k=>if k' = k then some x else lk r k
structure State (S:Sys) where
 regs:List SV
 bx:List (Nat×TypeId×List Cell)
 fs:List S.F
 base:Nat
section
variable (P:Program) (S:Sys) (H:Tests S) (cons:List (Con S)) (σ:State S) (l:List Oper)
def kP (r:Rec S.F) (k:Nat) (cs:List Cell):List Cell:=
 match r.ef with
 | .put k' off new=>if k' = k then splice off new cs else cs
 | _=>cs
def iG (sel:Nat→Bool) (rs:List (Rec S.F)) (k:Nat):List Nat→List Cell→List Cell
 | [],cs=>cs
 | j :: r,cs=>iG sel rs k r (if sel j then kP S (rs.getD j default) k cs else cs)
def iI (sel:Nat→Bool) (rs:List (Rec S.F)) (k:Nat):Option (TypeId×List Cell):=
 if k<σ.base then lk σ.bx k else
  if sel ((k - σ.base) / M) && (k - σ.base) % M == 0 then
   (rs.getD ((k - σ.base) / M) default).ef.made
  else none
def aQ (sel:Nat→Bool) (rs:List (Rec S.F)) (k:Nat):Option (TypeId×List Cell):=
 match iI S σ sel rs k with
 | some (T,cs)=>some (T,iG S sel rs k (List.range l.length) cs)
 | none=>none
def mF (sel:Nat→Bool) (rs:List (Rec S.F)):List Nat→List S.F
 | []=>[]
 | j :: r=>if sel j then (rs.getD j default).fs ++ mF sel rs r else mF sel rs r
def dI (sel:Nat→Bool) (rs:List (Rec S.F)):List S.F:=mF S sel rs (List.range l.length) ++ σ.fs
def uM (bs:List Nat) (i:Nat) (rs:List (Rec S.F)) (t:Tmp):Option SV:=
 match wr l t 0 with
 | none=>some (σ.regs.getD t .und)
 | some j=>if j=i then some (σ.regs.getD t .und) else
  if (bs.getD i 0).testBit j then some (rs.getD j default).v else
  if (bs.getD j 0).testBit i then some (σ.regs.getD t .und) else none
def tX (bs:List Nat) (i:Nat) (rs:List (Rec S.F)) (o:Oper):Option Bool:=
 match o.guard with
 | none=>some true
 | some (j,want)=>if (bs.getD i 0).testBit j then
   match (rs.getD j default).v,(l[j]?).bind (·.dst) with
   | .e (.s (.bl b)),some _=>some (b == want)
   | .und,_=>some false
   | _,_=>none
  else none
def oh:Eff→List Nat
 | .no=>[]
 | .new _ cs | .got _ cs=>cs.flatMap Cell.nm
 | .put k _ cs=>k :: cs.flatMap Cell.nm
def qV (bs:List Nat) (i n:Nat):Bool:=decide (n<σ.base) || (n - σ.base) / M == i || (bs.getD i 0).testBit ((n - σ.base) / M)
def kK (bs:List Nat) (i:Nat) (r:Rec S.F):Bool:=r.v.nm.all (qV S σ bs i) && (oh r.ef).all (qV S σ bs i) && r.fs.all fun f=>(S.nm f).all (qV S σ bs i)
def mJ (bs:List Nat) (i:Nat) (o:Oper) (rs:List (Rec S.F)):Option (Rec S.F):=
 match tX S l bs i rs o with
 | some true =>
  match evalOp P H cons (uM S σ l bs i rs) (aQ S σ l (fun j=>(bs.getD i 0).testBit j) rs) (dI S σ l (fun j=>(bs.getD i 0).testBit j) rs) (σ.base+M*i) o.op with
  | some r=>if kK S σ bs i r then some r else none
  | none=>none
 | some false=>some default
 | none=>none
def qZ (bs:List Nat):List Oper→Nat→List (Rec S.F)→Option (List (Rec S.F))
 | [],_,rs=>some rs
 | o :: r,i,rs=>match mJ P S H cons σ l bs i o rs with
  | some x=>qZ bs r (i+1) (rs ++ [x])
  | none=>none
def DX (bs:List Nat) (rs:List (Rec S.F)):Bool:=
 (List.range l.length).all fun j=>match (rs.getD j default).ef with
  | .put k _ _=>(List.range l.length).all fun i=>i == j || !((rs.getD i default).acc.contains k) || (bs.getD i 0).testBit j || (bs.getD j 0).testBit i
  | _=>true
def fC (dn:Nat→Bool) (rs:List (Rec S.F)) (t:Tmp):SV:=
 match wr l t 0 with
 | none=>σ.regs.getD t .und
 | some j=>if dn j then (rs.getD j default).v else σ.regs.getD t .und
def Kz:List Nat:=σ.bx.map (·.1) ++ (List.range l.length).map fun j=>σ.base+M*j
def qW (sel:Nat→Bool) (rs:List (Rec S.F)):List Nat→List (Nat×TypeId×List Cell)
 | []=>[]
 | k :: r=>match aQ S σ l sel rs k with
  | some x=>(k,x) :: qW sel rs r
  | none=>qW sel rs r
def upTo (n:Nat) (j:Nat):Bool:=decide (j<n)
def wQ:Option (State S):=
 if lexB 0 l && kZ l && l.all (fun o=>o.dst.all (· < σ.regs.length)) then
  match qZ P S H cons σ l (cZ l []) l 0 [] with
  | some rs=>if DX S l (cZ l []) rs then
    some ⟨(List.range σ.regs.length).map (fC S σ l (upTo l.length) rs),qW S σ l (upTo l.length) rs (Kz S σ l),dI S σ l (upTo l.length) rs,σ.base+M*l.length⟩
   else none
  | none=>none
 else none
end
end Rx
end Go.Proofs.YtancpaiaoamjlaaGreatDoor
