/- What the proof rests on, part 13. -/
import Derived.Test.YtmijlcldmefggaaGreatDoorZ12
namespace Go.Proofs.YtmijlcldmefggaaGreatDoor
set_option maxRecDepth 100000
set_option maxHeartbeats 80000000
namespace Rx
open Go.RowKit
section
variable {P:Program} {S:Sys} {H:Tests S}
theorem run_cmp {op:BinOp} {k:IntKind} {a b:Int} {x:Bool} {T:TypeId} {w:World} (h:cmpB op a b=some x):(binOp op T (.int k a) (.int k b)).run P w=.ok (.bool x) w:=by
 cases op <;> simp only [cmpB,Option.some.injEq] at h <;> first | cases h;done | (subst h;simp [binOp,Op.intCmp,pure])
theorem run_guard {op:BinOp} {T:TypeId} {x y:Operand} {a b:Value} {w:World} (ha:flat a=true) (hi:a≠.nilIface):(eqGuard op T x y a b).run P w=.ok () w:=by
 unfold eqGuard
 cases op <;> first | rfl | (cases a <;> first | (cases ha;done) | (exact absurd rfl hi) | (cases b <;> rfl))
theorem run_bools {T:TypeId} {a b:Bool} {w:World} (hu:P.underlying T=some .bool):(Op.equal T (.bool a) (.bool b)).run P w=.ok (a == b) w:=by
 show (Op.equalIn (9999+1) T (.bool a) (.bool b)).run P w=_
 generalize 9999=d
 simp [Op.equalIn,underlying,program,hu,Sem.run_bind,Sem.run,Result.andThen,pure]
theorem bin_ok {db:List S.F} {op:BinOp} {T:TypeId} {c d:Cell} {x:Bool} (h:binB P H db op T c d=some x) (ρ:Env) (w:World) (hf:∀ f∈db,S.on ρ f w):(binOp op T (c.den ρ) (d.den ρ)).run P w=.ok (.bool x) w:=by
 unfold binB at h
 split at h
 ·split at h
  ·rename_i hk;subst hk;exact run_cmp h
  ·cases h
 ·rename_i a b
  split at h
  ·rename_i hu
   cases h
   simp only [Cell.den,binOp,Sem.run_bind,run_bools hu,Result.andThen]
   rfl
  ·rename_i hu
   cases h
   simp only [Cell.den,binOp,Sem.run_bind,run_bools hu,Result.andThen]
   rfl
  ·cases h
 ·split at h
  ·rename_i he
   cases h
   rcases H.ok he ρ w hf with ⟨s,t,h1,h2,h3⟩ | ⟨k,a,b,h1,h2,h3⟩
   ·rw [h1,h2,← h3]
    simp [binOp,Op.stringOp,pure]
   ·rw [h1,h2,← h3]
    exact run_cmp (op:=.eql) rfl
  ·rename_i y he
   cases h
   rcases H.ok he ρ w hf with ⟨s,t,h1,h2,h3⟩ | ⟨k,a,b,h1,h2,h3⟩
   ·rw [h1,h2,← h3]
    simp [binOp,Op.stringOp,pure]
   ·rw [h1,h2,← h3]
    exact run_cmp (op:=.neq) rfl
  ·obtain ⟨k,a,b,h1,h2,h3⟩:=H.gok h ρ w hf
   rw [h1,h2,← h3]
   exact run_cmp (op:=.gtr) rfl
  ·obtain ⟨k,a,b,h1,h2,h3⟩:=H.gok h ρ w hf
   rw [h1,h2,← h3]
   exact run_cmp (op:=.lss) rfl
  ·obtain ⟨y,hy,rfl⟩:=Option.map_eq_some_iff.1 h
   obtain ⟨k,a,b,h1,h2,h3⟩:=H.gok hy ρ w hf
   rw [h1,h2,← h3,show (!decide (a > b))=decide (a≤b) by rw [← decide_not];exact decide_eq_decide.2 (by omega)]
   exact run_cmp (op:=.leq) rfl
  ·obtain ⟨y,hy,rfl⟩:=Option.map_eq_some_iff.1 h
   obtain ⟨k,a,b,h1,h2,h3⟩:=H.gok hy ρ w hf
   rw [h1,h2,← h3,show (!decide (a > b))=decide (b≥a) by rw [← decide_not];exact decide_eq_decide.2 (by omega)]
   exact run_cmp (op:=.geq) rfl
  ·cases h
theorem opd_ok {rd:Tmp→Option SV} {x:Operand} {v:SV} {ρ:Env} {a:Act} (h:opd rd x=some v) (hr:∀ t v,rd t=some v→a.tmps.getD t undef=v.den ρ):a.eval x=v.den ρ:=by
 cases x with
 | tmp t=>exact hr t v h
 | const c=>exact (absV_den ρ h).symm
 | global g=>cases h
 | func f=>cases h;rfl
theorem opds_ok {rd:Tmp→Option SV} {ρ:Env} {a:Act} (hr:∀ t v,rd t=some v→a.tmps.getD t undef=v.den ρ):∀ {l:List Operand} {vs:List SV},opds rd l=some vs→l.map a.eval=vs.map (SV.den ρ)
 | [],vs,h=>by simp only [opds,Option.some.injEq] at h;subst h;rfl
 | x :: r,vs,h=>by
  simp only [opds] at h
  split at h
  ·rename_i v l h1 h2
   cases h
   simp [opd_ok h1 hr,opds_ok hr h2]
  ·cases h
theorem parts_ok {rd:Tmp→Option SV} {ρ:Env} {a:Act} (hr:∀ t v,rd t=some v→a.tmps.getD t undef=v.den ρ):∀ {l:List (Nat×Operand)} {vs:List (Nat×El)},partsB rd l=some vs→l.map (fun x=>(x.1,a.eval x.2))=vs.map fun x=>(x.1,x.2.den ρ)
 | [],vs,h=>by simp only [partsB,Option.some.injEq] at h;subst h;rfl
 | (i,x) :: r,vs,h=>by
  simp only [partsB] at h
  split at h
  ·rename_i v l h1 h2
   cases h
   simp only [List.map_cons,parts_ok hr h2]
   rw [opd_ok h1 hr]
   rfl
  ·cases h
theorem takes_value {s:Sem Value} {v:Value} {K:Value→World→Prop} {w w':World} (h:s.run P w=.ok v w') (hK:K v w'):takesUpon P K ((do pure (.value (← s)):Sem Next).run P w):=by
 simp only [Sem.run_bind,h,Result.andThen]
 exact hK
theorem findCon_ok {E:World→Prop}:∀ {cons:List (Con S)} {f:FuncId} {db:List S.F} {b:Nat} {args:List SV} {res:SV} {new:List S.F},(∀ c∈cons,c.Ok P S E)→findCon cons f db b args=some (res,new) →
  ∀ ρ W,(∀ f∈db,S.on ρ f W)→E W →
  Calls P f (args.map (SV.den ρ)).toArray W fun e W'=>∃ ρ':Env,(∀ n,n<b∨b+M≤n→ρ' n=ρ n)∧e=.returned (res.den ρ')∧Below W.heap.size W W'∧∀ f∈new,S.on ρ' f W'
 | [],_,_,_,_,_,_,_,h=>by simp [findCon] at h
 | c :: r,f,db,b,args,res,new,hc,h=>by
  simp only [findCon] at h
  split at h
  ·rename_i hf
   subst hf
   split at h
   ·rename_i x hx
    cases h
    exact (hc c (by simp)).1 _ _ _ _ _ hx
   ·exact findCon_ok (fun c' h'=>hc c' (by simp [h'])) h
  ·exact findCon_ok (fun c' h'=>hc c' (by simp [h'])) h
theorem findMk_ok {E:World→Prop}:∀ {cons:List (Con S)} {f:FuncId} {db:List S.F} {b:Nat} {args:List SV} {res:SV} {new:List S.F} {T:TypeId} {cs:List Cell},(∀ c∈cons,c.Ok P S E)→findMk cons f db b args=some (res,new,T,cs) →
  ∀ ρ W,(∀ f∈db,S.on ρ f W)→E W →
  Calls P f (args.map (SV.den ρ)).toArray W fun e W'=>∃ ρ':Env,(∀ n,n<b∨b+M≤n→ρ' n=ρ n)∧e=.returned (res.den ρ')∧Below W.heap.size W W'∧(∀ f∈new,S.on ρ' f W')∧W.heap.size≤(ρ' b).pos∧Bx W' (ρ' b).pos T (cs.map (Cell.den ρ'))
 | [],_,_,_,_,_,_,_,_,_,h=>by simp [findMk] at h
 | c :: r,f,db,b,args,res,new,T,cs,hc,h=>by
  simp only [findMk] at h
  split at h
  ·rename_i hf
   subst hf
   split at h
   ·rename_i x hx
    cases h
    exact (hc c (by simp)).2 _ _ _ _ _ _ _ hx
   ·exact findMk_ok (fun c' h'=>hc c' (by simp [h'])) h
  ·exact findMk_ok (fun c' h'=>hc c' (by simp [h'])) h
theorem run_call {c:Call} {f:FuncId} {t:TypeId} {a:Act} {args:Array Value} {w:World} (hc:c.callee=.value (.func f)) (hb:callB P f=true) (ha:c.args.map a.eval=args) :
  (do let d ← resolve a.eval c t;invoke d.target d.args:Sem Next).run P w=.ok (.enter f args) w:=by
 unfold callB at hb
 split at hb
 ·rename_i fn hfn
  simp only [Bool.and_eq_true,Bool.not_eq_true',Option.isSome_iff_ne_none] at hb
  obtain ⟨h1,h2⟩:=hb
  have h3:¬ fn.name = "runtime.NumGoroutine":=by simpa using h2
  simp [resolve,hc,Act.eval,Deferred.ofValue,invoke,callFunc,program,hfn,h1,h3,ha,Sem.run_bind,Sem.run,Result.andThen,pure]
 ·cases hb
def Done (S:Sys) (ct:Nat→Option (TypeId×List Cell)) (b:Nat) (ρ ρ':Env) (W W':World):Eff→Prop
 | .no=>Below W.heap.size W W'
 | .new T cs=>(ρ' b).pos=W.heap.size∧W' = W.alloc (.cells (cs.map (Cell.den ρ')).toArray T)
 | .got T cs=>W.heap.size≤(ρ' b).pos∧Below W.heap.size W W'∧Bx W' (ρ' b).pos T (cs.map (Cell.den ρ'))
 | .put k off new=>∃ T cs,ct k=some (T,cs)∧off+new.length≤cs.length∧okPuts S off new cs=true∧W' = setMany W (ρ k).pos off (new.map (Cell.den ρ))∧ρ' = ρ
def After (S:Sys) (ct:Nat→Option (TypeId×List Cell)) (b:Nat) (r:Rec S.F) (ρ:Env) (W:World) (v:Value) (W':World):Prop:=
 ∃ ρ':Env,(∀ n,n<b∨b+M≤n→ρ' n=ρ n)∧v=r.v.den ρ'∧Done S ct b ρ ρ' W W' r.ef∧∀ f∈r.fs,S.on ρ' f W'
theorem after_same {ct:Nat→Option (TypeId×List Cell)} {b:Nat} {r:Rec S.F} {ρ:Env} {W:World} {v:Value} (hv:v=r.v.den ρ) (he:r.ef=.no) (hf:r.fs=[]):After S ct b r ρ W v W:=
 ⟨ρ,fun _ _=>rfl,hv,by rw [he];exact Below.refl _ _,by rw [hf];simp⟩
theorem after_new {ct:Nat→Option (TypeId×List Cell)} {b:Nat} {T:TypeId} {cs:List Cell} {acc:List Nat} {ρ:Env} {W:World} (hn:∀ n∈cs.flatMap Cell.nm,n<b∨b+M≤n) :
  After S ct b ⟨.e (.s (.ptr b 0)),.new T cs,[],acc⟩ ρ W (.pointer (some ⟨W.heap.size,0,none⟩)) (W.alloc (.cells (cs.map (Cell.den ρ)).toArray T)):=by
 let ρ':Env:=fun n=>if n=b then { ρ n with pos:=W.heap.size } else ρ n
 have h1:∀ n,n<b∨b+M≤n→ρ' n=ρ n:=fun n hn=>if_neg (by rcases hn with h | h <;> simp only [M] at * <;> omega)
 have h2:(ρ' b).pos=W.heap.size:=by simp [ρ']
 refine ⟨ρ',h1,?_,⟨h2,?_⟩,by simp⟩
 ·simp only [SV.den,El.den,Cell.den,h2]
 ·rw [cells_congr (ρ:=ρ') (ρ':=ρ) fun n hx=>h1 n (hn n hx)]
theorem after_got {ct:Nat→Option (TypeId×List Cell)} {b n:Nat} {T:TypeId} {cs:List Cell} {acc:List Nat} {ρ:Env} {W:World} (hn:∀ n∈cs.flatMap Cell.nm,n<b∨b+M≤n) :
  After S ct b ⟨.e (.s (.slx b 0 n n)),.got T cs,[],acc⟩ ρ W (.slice (some ⟨W.heap.size,0,none⟩) n n) (W.alloc (.cells (cs.map (Cell.den ρ)).toArray T)):=by
 let ρ':Env:=fun n=>if n=b then { ρ n with pos:=W.heap.size } else ρ n
 have h1:∀ n,n<b∨b+M≤n→ρ' n=ρ n:=fun n hn=>if_neg (by rcases hn with h | h <;> simp only [M] at * <;> omega)
 have h2:(ρ' b).pos=W.heap.size:=by simp [ρ']
 refine ⟨ρ',h1,?_,⟨by rw [h2];exact Nat.le_refl _,(Below.refl _ _).alloc (Nat.le_refl _) _,?_⟩,by simp⟩
 ·simp only [SV.den,El.den,Cell.den,h2]
 ·rw [h2,cells_congr (ρ:=ρ') (ρ':=ρ) fun n hx=>h1 n (hn n hx)];exact Bx.new W T _
theorem after_one {ct:Nat→Option (TypeId×List Cell)} {b:Nat} {sv:SV} {fs:List S.F} {ρ:Env} {W W':World} {v:Value} (nv:Nv) (hv:v=sv.den (fun n=>if n=b then nv else ρ n)) (hb:Below W.heap.size W W') (hf:∀ f∈fs,S.on (fun n=>if n=b then nv else ρ n) f W'):After S ct b ⟨sv,.no,fs,[]⟩ ρ W v W':=
 ⟨_,fun n hn=>if_neg (by rcases hn with h | h <;> first | omega | (simp only [M] at *;omega)),hv,hb,hf⟩
theorem opds_one {rd:Tmp→Option SV} {l:List Operand} {v:SV} (h:opds rd l=some [v]):∃ x,l=[x]∧opd rd x=some v:=by
 cases l with
 | nil=>simp [opds] at h
 | cons x r =>
  simp only [opds] at h
  split at h
  ·rename_i v' l' h1 h2
   cases h
   cases r with
   | nil=>exact ⟨x,rfl,h1⟩
   | cons y r' =>
    simp only [opds] at h2
    split at h2 <;> cases h2
  ·cases h
theorem run_len {c:Call} {ty:TypeId} {a:Act} {p:Option Addr} {l k:Nat} {w:World} (hc:c.callee=.builtin .len) (ht:lenB P c=true) (ha:c.args.map a.eval=#[.slice p l k]):(do let d ← resolve a.eval c ty;invoke d.target d.args:Sem Next).run P w=.ok (.value (.int .i64 (l:Int))) w:=by
 unfold lenB at ht
 split at ht
 ·rename_i t h1
  split at ht
  ·rename_i e h2
   simp [resolve,hc,invoke,builtin,Builtin.len_,ha,h1,h2,underlying,program,goInt,Sem.run_bind,Sem.run,Result.andThen,pure]
  ·cases ht
 ·cases ht
theorem run_lenT {c:Call} {ty:TypeId} {a:Act} {s v:Value} {w:World} (hc:c.callee=.builtin .len) (ht:lenU P c=true) (ha:c.args.map a.eval=#[s]) (hv:strV .len [s]=some v):(do let d ← resolve a.eval c ty;invoke d.target d.args:Sem Next).run P w=.ok (.value v) w:=by
 unfold lenU at ht
 split at ht
 ·rename_i t h1
  split at ht
  ·rename_i h2
   cases s <;> simp only [strV,Option.some.injEq,reduceCtorEq] at hv
   subst hv
   simp [resolve,hc,invoke,builtin,Builtin.len_,ha,h1,h2,underlying,program,goInt,Sem.run_bind,Sem.run,Result.andThen,pure]
  ·cases ht
 ·cases ht
theorem run_cat {T:TypeId} {x y v:Value} {w:World} (hv:strV .cat [x,y]=some v):(binOp .add T x y).run P w=.ok v w:=by
 cases x <;> try (cases hv;done)
 cases y <;> try (cases hv;done)
 simp only [strV] at hv
 split at hv
 ·rename_i a b h
  cases hv
  have h2:¬ (9223372036854775807<((a.size:Int)+(b.size:Int))):=by omega
  simp [binOp,Op.stringOp,pure,h2]
 ·cases hv
theorem cat_shape {x y v:Value} (hv:strV .cat [x,y]=some v):∃ a b,x=.string a∧y=.string b:=by
 cases x <;> try (cases hv;done)
 cases y <;> try (cases hv;done)
 exact ⟨_,_,rfl,rfl⟩
theorem run_idx {t:TypeId} {x i v:Value} {w:World} (hu:P.underlying t=some .string) (hv:strV .idx [x,i]=some v):(Instr.index t x i).run P w=.ok v w:=by
 cases x <;> try (cases hv;done)
 cases i with
 | int k n =>
  cases k <;> try (cases hv;done)
  simp only [strV] at hv
  split at hv
  ·rename_i s h0
   obtain ⟨c,h1,rfl⟩:=Option.map_eq_some_iff.1 hv
   simp [Instr.index,asIntOf,underlying,program,hu,h0,h1,Sem.run_bind,Sem.run,Result.andThen,pure]
  ·cases hv
 | _=>cases hv
theorem run_lo {t:TypeId} {x l v:Value} {w:World} (hu:P.underlying t=some .string) (hv:strV .lo [x,l]=some v):(Instr.sliceAt t x (some l) none none).run P w=.ok v w:=by
 cases x <;> try (cases hv;done)
 cases l with
 | int k n =>
  cases k <;> try (cases hv;done)
  simp only [strV] at hv
  split at hv
  ·rename_i s h0
   cases hv
   simp [Instr.sliceAt,Instr.slice,Instr.sliceBounds,Instr.sliceBound,underlying,program,hu,Sem.run_bind,Sem.run,Result.andThen,pure,asIntOf,h0]
  ·cases hv
 | _=>cases hv
theorem run_hi {t:TypeId} {x l v:Value} {w:World} (hu:P.underlying t=some .string) (hv:strV .hi [x,l]=some v):(Instr.sliceAt t x none (some l) none).run P w=.ok v w:=by
 cases x <;> try (cases hv;done)
 cases l with
 | int k n =>
  cases k <;> try (cases hv;done)
  simp only [strV] at hv
  split at hv
  ·rename_i s h0
   cases hv
   simp [Instr.sliceAt,Instr.slice,Instr.sliceBounds,Instr.sliceBound,underlying,program,hu,Sem.run_bind,Sem.run,Result.andThen,pure,asIntOf,h0]
  ·cases hv
 | _=>cases hv
theorem run_lit {t:TypeId} {n:Nat} {parts:Array (Nat×Operand)} {x:Int} {a:Act} {w:World} (h:oneB P t n parts.toList=some x):∃ e,(Instr.buildSlice t n (parts.map fun (i,y)=>(i,a.eval y))).run P w=.ok (.slice (some ⟨w.heap.size,0,none⟩) 1 1) (w.alloc (.cells #[.int .i64 x] e)):=by
 unfold oneB at h
 split at h
 ·rename_i e y hu hp
  split at h
  ·rename_i hh
   simp only [Bool.and_eq_true,decide_eq_true_eq] at hh
   cases h
   have hpa:parts.map (fun (i,y)=>(i,a.eval y))=#[(0,.int .i64 x)]:=by
    apply Array.ext'
    rw [Array.toList_map,hp]
    rfl
   refine ⟨e,?_⟩
   obtain ⟨z,hz⟩:=Option.isSome_iff_exists.1 hh.2
   obtain ⟨i,hi,hz'⟩:=Option.bind_eq_some_iff.1 hz
   have hs:=run_sizeOf (P:=P) (w:=w) hh.1
   rw [hpa]
   have hrow:∀ f:Nat→Value,((Array.range 1).map f).setIfInBounds 0 (.int .i64 x)=#[.int .i64 x]:=fun f=>by apply Array.ext';simp [show List.range 1=[0] from rfl]
   simp [Instr.buildSlice,Instr.fill,zeroValue,typeInfo,underlying,program,hu,hi,hz',hs,newRow,newObj,Value.cells,Sem.run_bind,Sem.run,Result.andThen,pure,hrow]
  ·cases h
 ·cases h
def Old (b:Nat) (v:SV):Prop:=∀ n∈v.nm,n<b∨b+M≤n
theorem parts_old {rd:Tmp→Option SV} {b:Nat} (ho:∀ x v,opd rd x=some v→Old b v):∀ {l:List (Nat×Operand)} {vs:List (Nat×El)},partsB rd l=some vs→∀ x∈vs,∀ n∈x.2.cells.flatMap Cell.nm,n<b∨b+M≤n
 | [],vs,h=>by simp only [partsB,Option.some.injEq] at h;subst h;simp
 | (i,x) :: r,vs,h=>by
  simp only [partsB] at h
  split at h
  ·rename_i v l h1 h2
   cases h
   intro y hy
   rcases List.mem_cons.1 hy with rfl | hy
   ·exact ho _ _ h1
   ·exact parts_old ho h2 y hy
  ·cases h
theorem evalOp_ok {E:World→Prop} {cons:List (Con S)} (hc:∀ c∈cons,c.Ok P S E) {rd:Tmp→Option SV} {ct:Nat→Option (TypeId×List Cell)} {db:List S.F} {b:Nat} {o:Oper} {r:Rec S.F} {a:Act} {W:World} {ρ:Env}
  (h:evalOp P H cons rd ct db b o.op=some r) (hr:∀ t v,rd t=some v→a.tmps.getD t undef=v.den ρ) (ho:∀ t v,rd t=some v→Old b v)
  (hb:∀ k T cs,k∈r.acc→ct k=some (T,cs)→Bx W (ρ k).pos T (cs.map (Cell.den ρ))) (hf:∀ f∈db,S.on ρ f W) (hE:E W) :
  takes P o a W (After S ct b r ρ W):=by
 have hold:∀ x v,opd rd x=some v→Old b v:=fun x v h=>by
  cases x with
  | tmp t=>exact ho t v h
  | const c =>
   intro n hn
   have:v.nm=[]:=by
    clear hn
    simp only [opd] at h
    unfold absV at h
    have hC:∀ {v:Value} {c:Cell},absC v=some c→c.nm=[]:=fun {v c} h=>by unfold absC at h;split at h <;> first | (cases h;rfl) | cases h
    have hL:∀ {vs:List Value} {l:List Cell},absL vs=some l→l.flatMap Cell.nm=[]:=fun {vs}=>by
     induction vs with
     | nil=>intro l h;simp only [absL,Option.some.injEq] at h;subst h;rfl
     | cons v r ih =>
      intro l h
      simp only [absL] at h
      split at h
      ·rename_i c l' h1 h2
       cases h
       simp [hC h1,ih h2]
      ·cases h
    split at h
    ·obtain ⟨l,h1,rfl⟩:=Option.map_eq_some_iff.1 h
     exact hL h1
    ·obtain ⟨c,h1,rfl⟩:=Option.map_eq_some_iff.1 h
     simp [SV.nm,El.cells,hC h1]
   rw [this] at hn
   cases hn
  | global g=>cases h
  | func f =>
   cases h
   intro n hn
   cases hn
 unfold takes execOp
 unfold evalOp at h
 split at h
 all_goals first | (cases h;done) | (rename_i hop;rw [hop])
 ·-- move
  obtain ⟨v,hv,rfl⟩:=Option.map_eq_some_iff.1 h
  exact after_same (opd_ok hv hr) rfl rfl
 ·obtain ⟨v,hv,rfl⟩:=Option.map_eq_some_iff.1 h
  exact after_same (opd_ok hv hr) rfl rfl
 ·-- pick
  split at h
  ·rename_i hc
   obtain ⟨v,hv,rfl⟩:=Option.map_eq_some_iff.1 h
   have hd:=opd_ok hc hr
   simp only [hd]
   exact after_same (opd_ok hv hr) rfl rfl
  ·rename_i hc
   obtain ⟨v,hv,rfl⟩:=Option.map_eq_some_iff.1 h
   have hd:=opd_ok hc hr
   simp only [hd]
   exact after_same (opd_ok hv hr) rfl rfl
  ·cases h
 ·-- box
  split at h
  ·rename_i x hv
   cases h
   have hd:=opd_ok hv hr
   simp only [hd]
   have hx:(SV.den ρ (.e x)).cells=(x.cells.map (Cell.den ρ)).toArray:=x.den_cells ρ
   rw [show ((do pure (.value (← Instr.box _ (SV.den ρ (.e x)))):Sem Next).run P W)=.ok (.value (.pointer (some ⟨W.heap.size,0,none⟩))) (W.alloc (.cells (x.cells.map (Cell.den ρ)).toArray _)) by
    simp only [Sem.run_bind,run_box hx,Result.andThen];rfl]
   exact after_new (hold _ _ hv)
  ·cases h
 ·-- alloc
  split at h
  ·rename_i z hz
   split at h
   ·rename_i x hv
    cases h
    have hd:=absV_den ρ hv
    have hx:z.cells=(x.cells.map (Cell.den ρ)).toArray:=by rw [← hd];exact x.den_cells ρ
    rw [show ((do pure (.value (← Instr.alloc _ true (.tuple #[]))):Sem Next).run P W)=.ok (.value (.pointer (some ⟨W.heap.size,0,none⟩))) (W.alloc (.cells (x.cells.map (Cell.den ρ)).toArray _)) by
     simp only [Sem.run_bind,run_alloc hz hx,Result.andThen];rfl]
    exact after_new (hold (.const z) _ hv)
   ·cases h
  ·cases h
 ·-- load
  split at h
  ·rename_i k off hv
   have hd:=opd_ok hv hr
   simp only [hd,SV.den,El.den,Cell.den]
   split at h
   ·rename_i T cs n hct hag hsz
    split at h
    ·rename_i hle
     cases h
     have hbx:=hb k _ cs (by simp) hct
     rw [show ((do pure (.value (← Instr.loadAt _ (.pointer (some ⟨(ρ k).pos,off,none⟩)))):Sem Next).run P W)=.ok (.value (.agg (((cs.map (Cell.den ρ)).drop off).take n).toArray)) W by
      simp only [Sem.run_bind,run_load_agg hag hsz hbx (by simpa using hle),Result.andThen];rfl]
     refine after_same ?_ rfl rfl
     simp [SV.den,El.den,List.map_drop,List.map_take]
    ·cases h
   ·rename_i T cs hct hag
    split at h
    ·rename_i c hcv
     cases h
     have hbx:=hb k _ cs (by simp) hct
     have hv':(cs.map (Cell.den ρ))[off]? = some (c.den ρ):=by simp [hcv]
     rw [show ((do pure (.value (← Instr.loadAt _ (.pointer (some ⟨(ρ k).pos,off,none⟩)))):Sem Next).run P W)=.ok (.value (c.den ρ)) W by
      simp only [Sem.run_bind,run_load_one hag hbx hv',Result.andThen];rfl]
     exact after_same rfl rfl rfl
    ·cases h
   ·cases h
  ·rename_i s j hv
   have hd:=opd_ok hv hr
   simp only [hd,SV.den,El.den,Cell.den]
   split at h
   ·rename_i fs hel hag
    cases h
    obtain ⟨-,ad,x,hp,hcell,hfs⟩:=S.eltOk hel hf
    rw [hp,Option.map_some,show ((do pure (.value (← Instr.loadAt _ (.pointer (some (ad.add j))))):Sem Next).run P W)=.ok (.value (.int .i64 x)) W by
     simp only [Sem.run_bind,run_load_at hag hcell,Result.andThen];rfl]
    exact after_one ⟨false,x,none,0,0,.empty,0,default⟩ (by simp [SV.den,El.den,Cell.den]) (Below.refl _ _) (hfs _ (fun n hn=>if_neg hn) (by rw [if_pos rfl]))
   ·cases h
  ·rename_i s i z hv
   have hd:=opd_ok hv hr
   simp only [hd,SV.den,El.den,Cell.den]
   split at h
   ·rename_i cs fs n hld hag hsz
    split at h
    ·rename_i hh
     simp only [Bool.and_eq_true,decide_eq_true_eq] at hh
     cases h
     obtain ⟨ad,z',hz,hp,ρ',h1,h2,h3⟩:=S.ldvOk hld hf
     obtain rfl:z' = z:=Option.some.inj (hz.symm.trans hh.2)
     rw [hp,Option.map_some,show ((do pure (.value (← Instr.loadAt _ (.pointer (some (ad.add ((ρ i).u.toNat*z')))))):Sem Next).run P W)=.ok (.value (.agg (cs.map (Cell.den ρ')).toArray)) W by
      simp only [Sem.run_bind,run_load_row hag hsz (vs:=cs.map (Cell.den ρ')) (by rw [List.length_map];exact hh.1.symm) h2,Result.andThen];rfl]
     exact ⟨ρ',h1,rfl,Below.refl _ _,h3⟩
    ·cases h
   ·cases h
  ·cases h
 ·-- store
  split at h
  ·rename_i k off x hv hx
   have hd:=opd_ok hv hr
   have hdx:=opd_ok hx hr
   simp only [hd,hdx]
   split at h
   ·rename_i T cs n hct hsz
    split at h
    ·rename_i hcond
     simp only [Bool.and_eq_true,decide_eq_true_eq] at hcond
     obtain ⟨⟨hlen,hle⟩,hok⟩:=hcond
     cases h
     have hbx:=hb k _ cs (by simp) hct
     rw [show ((do Instr.storeAt _ (SV.den ρ (.e (.s (.ptr k off)))) (SV.den ρ (.e x));pure .skip:Sem Next).run P W)=.ok .skip (setMany W (ρ k).pos off (x.cells.map (Cell.den ρ))) by
      simp only [Sem.run_bind]
      rw [show SV.den ρ (.e (.s (.ptr k off)))=.pointer (some ⟨(ρ k).pos,off,none⟩) from rfl,show SV.den ρ (.e x)=El.den ρ x from rfl,
       run_store (x.den_cells ρ) (by rw [List.length_map,hlen];exact hsz) hbx (by simp;omega) (fun v hv'=>by obtain ⟨c,-,rfl⟩:=List.mem_map.1 hv';exact c.flat ρ)]
      rfl]
     exact ⟨ρ,fun _ _=>rfl,rfl,⟨_,cs,hct,by omega,hok,rfl,rfl⟩,by simp⟩
    ·cases h
   ·cases h
  ·cases h
 ·-- fieldAddr
  split at h
  ·rename_i k off fd hv hfd
   have hd:=opd_ok hv hr
   simp only [hd,SV.den,El.den,Cell.den]
   split at h
   ·rename_i hs
    cases h
    rw [show ((do pure (.value (← Instr.fieldAt _ (.pointer (some ⟨(ρ k).pos,off,none⟩)) _)):Sem Next).run P W)=.ok (.value (.pointer (some ⟨(ρ k).pos,off+fd.offset,none⟩))) W by
     simp only [Sem.run_bind,run_fieldAt hfd hs,Result.andThen];rfl]
    exact after_same rfl rfl rfl
   ·cases h
  ·cases h
 ·-- field
  split at h
  ·rename_i cs fd hv hfd
   have hd:=opd_ok hv hr
   simp only [hd,SV.den,El.den]
   split at h
   ·rename_i n hag hsz
    cases h
    rw [show ((do pure (.value (← Instr.field _ (.agg (cs.map (Cell.den ρ)).toArray) _)):Sem Next).run P W)=.ok (.value (.agg (((cs.map (Cell.den ρ)).drop fd.offset).take n).toArray)) W by
     simp only [Sem.run_bind,run_field_agg hfd hag hsz,Result.andThen];rfl]
    refine after_same ?_ rfl rfl
    simp [SV.den,El.den,List.map_drop,List.map_take]
   ·rename_i hag
    split at h
    ·rename_i c hcv
     cases h
     have hv':(cs.map (Cell.den ρ))[fd.offset]? = some (c.den ρ):=by simp [hcv]
     rw [show ((do pure (.value (← Instr.field _ (.agg (cs.map (Cell.den ρ)).toArray) _)):Sem Next).run P W)=.ok (.value (c.den ρ)) W by
      simp only [Sem.run_bind,run_field_one hfd hag hv',Result.andThen];rfl]
     exact after_same rfl rfl rfl
    ·cases h
   ·cases h
  ·cases h
 ·-- indexAddr
  split at h
  ·rename_i s j hv hi
   have hd:=opd_ok hv hr
   have hdi:=opd_ok hi hr
   simp only [hd,hdi,SV.den,El.den,Cell.den]
   split at h
   ·rename_i hh
    simp only [Bool.and_eq_true,decide_eq_true_eq] at hh
    cases h
    obtain ⟨fs,hel⟩:=Option.isSome_iff_exists.1 hh.2
    obtain ⟨hlt,ad,x,hp,-,-⟩:=S.eltOk hel hf
    rw [hp,show ((do pure (.value (← Instr.indexAt _ (.slice (some ad) (ρ s).l (ρ s).c) (.int .i64 j))):Sem Next).run P W)=.ok (.value (.pointer (some (ad.add j.toNat)))) W by
     simp only [Sem.run_bind,run_index hh.1.1 hh.1.2 hlt,Result.andThen];rfl]
    exact after_same (by simp [SV.den,El.den,Cell.den,hp]) rfl rfl
   ·cases h
  ·rename_i s j hv hi
   have hd:=opd_ok hv hr
   have hdi:=opd_ok hi hr
   simp only [hd,hdi,SV.den,El.den,Cell.den]
   split at h
   ·rename_i z hz
    split at h
    ·rename_i ht
     cases h
     obtain ⟨h0,h1,ad,hp⟩:=S.idxOk hz hf
     rw [hp,show ((do pure (.value (← Instr.indexAt _ (.slice (some ad) (ρ s).l (ρ s).c) (.int .i64 (ρ j).u))):Sem Next).run P W)=.ok (.value (.pointer (some (ad.add ((ρ j).u.toNat*z))))) W by
      simp only [Sem.run_bind,run_indexZ ht h0 h1,Result.andThen];rfl]
     exact after_same (by simp [SV.den,El.den,Cell.den,hp]) rfl rfl
    ·cases h
   ·cases h
  ·rename_i k off len cap j hv hi
   have hd:=opd_ok hv hr
   have hdi:=opd_ok hi hr
   simp only [hd,hdi,SV.den,El.den,Cell.den]
   split at h
   ·rename_i z hz
    split at h
    ·rename_i hh
     simp only [Bool.and_eq_true,decide_eq_true_eq] at hh
     cases h
     rw [show ((do pure (.value (← Instr.indexAt _ (.slice (some ⟨(ρ k).pos,off,none⟩) len cap) (.int .i64 j))):Sem Next).run P W)=.ok (.value (.pointer (some ⟨(ρ k).pos,off+j.toNat*z,none⟩))) W by
      simp only [Sem.run_bind,run_indexX hz hh.1 hh.2,add_off,Result.andThen];rfl]
     exact after_same rfl rfl rfl
    ·cases h
   ·cases h
  ·cases h
 ·-- index
  split at h
  ·rename_i c d hv hx hu
   have hd:=opd_ok hv hr
   have hdx:=opd_ok hx hr
   simp only [hd,hdx,SV.den,El.den]
   split at h
   ·rename_i r new hnew
    cases h
    obtain ⟨v,x,e1,e2⟩:=H.soOk hnew ρ W hf
    obtain ⟨g1,g2⟩:=e2 (fun n=>if n=b then x else ρ n) (fun n hn=>if_neg hn) (if_pos rfl)
    exact takes_value (run_idx hu e1) (after_one x g1.symm (Below.refl _ _) g2)
   ·cases h
  ·cases h
 ·-- slice
  split at h
  ·rename_i c d hv hx hu
   have hd:=opd_ok hv hr
   have hdx:=opd_ok hx hr
   simp only [hd,hdx,SV.den,El.den,Option.map_some,Option.map_none]
   split at h
   ·rename_i r new hnew
    cases h
    obtain ⟨v,x,e1,e2⟩:=H.soOk hnew ρ W hf
    obtain ⟨g1,g2⟩:=e2 (fun n=>if n=b then x else ρ n) (fun n hn=>if_neg hn) (if_pos rfl)
    exact takes_value (run_lo hu e1) (after_one x g1.symm (Below.refl _ _) g2)
   ·cases h
  ·cases h
 ·-- slice
  split at h
  ·rename_i c d hv hx hu
   have hd:=opd_ok hv hr
   have hdx:=opd_ok hx hr
   simp only [hd,hdx,SV.den,El.den,Option.map_some,Option.map_none]
   split at h
   ·rename_i r new hnew
    cases h
    obtain ⟨v,x,e1,e2⟩:=H.soOk hnew ρ W hf
    obtain ⟨g1,g2⟩:=e2 (fun n=>if n=b then x else ρ n) (fun n hn=>if_neg hn) (if_pos rfl)
    exact takes_value (run_hi hu e1) (after_one x g1.symm (Below.refl _ _) g2)
   ·cases h
  ·cases h
 ·-- add
  split at h
  ·rename_i i i' hv hx
   have hd:=opd_ok hv hr
   have hdx:=opd_ok hx hr
   simp only [hd,hdx,SV.den,El.den,Cell.den]
   split at h
   ·rename_i new hnew
    cases h
    obtain ⟨hw,hfs⟩:=H.addOk hnew ρ W hf
    have hg:=fun T (x y:Operand)=>run_guard (P:=P) (op:=.add) (T:=T) (x:=x) (y:=y) (a:=.int .i64 (ρ i).u) (b:=.int .i64 (ρ i').u) (w:=W) rfl (by simp)
    simp only [Sem.run_bind,hg,Result.andThen]
    rw [show (binOp .add _ (.int .i64 (ρ i).u) (.int .i64 (ρ i').u)).run P W=.ok (.int .i64 ((ρ i).u+(ρ i').u)) W by
     simp [binOp,Op.intArith,hw,pure]]
    exact after_one ⟨false,(ρ i).u+(ρ i').u,none,0,0,.empty,0,default⟩ (by simp [SV.den,El.den,Cell.den]) (Below.refl _ _) (hfs _ (fun n hn=>if_neg hn) (by rw [if_pos rfl]))
   ·cases h
  ·rename_i i m hv hx
   have hd:=opd_ok hv hr
   have hdx:=opd_ok hx hr
   simp only [hd,hdx,SV.den,El.den,Cell.den]
   split at h
   ·rename_i new hnew
    cases h
    obtain ⟨hw,hfs⟩:=H.incOk hnew ρ W hf
    have hg:=fun T (x y:Operand)=>run_guard (P:=P) (op:=.add) (T:=T) (x:=x) (y:=y) (a:=.int .i64 (ρ i).u) (b:=.int .i64 m) (w:=W) rfl (by simp)
    simp only [Sem.run_bind,hg,Result.andThen]
    rw [show (binOp .add _ (.int .i64 (ρ i).u) (.int .i64 m)).run P W=.ok (.int .i64 ((ρ i).u+m)) W by
     simp [binOp,Op.intArith,hw,pure]]
    exact after_one ⟨false,(ρ i).u+m,none,0,0,.empty,0,default⟩ (by simp [SV.den,El.den,Cell.den]) (Below.refl _ _) (hfs _ (fun n hn=>if_neg hn) (by rw [if_pos rfl]))
   ·cases h
  ·rename_i z m hv hx
   have hd:=opd_ok hv hr
   have hdx:=opd_ok hx hr
   simp only [hd,hdx,SV.den,El.den,Cell.den]
   cases h
   have hg:=fun T (x y:Operand)=>run_guard (P:=P) (op:=.add) (T:=T) (x:=x) (y:=y) (a:=.int .i64 z) (b:=.int .i64 m) (w:=W) rfl (by simp)
   simp only [Sem.run_bind,hg,run_arX (op:=.add) rfl,Result.andThen]
   exact after_same rfl rfl rfl
  ·rename_i m i hv hx
   have hd:=opd_ok hv hr
   have hdx:=opd_ok hx hr
   simp only [hd,hdx]
   split at h
   ·rename_i r new hnew
    cases h
    obtain ⟨k,x1,y1,z1,e1,e2,e3,e4⟩:=H.arOk hnew ρ W hf
    have hg:=fun T (x y:Operand)=>run_guard (P:=P) (op:=.add) (T:=T) (x:=x) (y:=y) (a:=.int k x1) (b:=.int k y1) (w:=W) rfl (by simp)
    simp only [SV.den,El.den,e1,e2,Sem.run_bind,hg,e3,Result.andThen]
    obtain ⟨g1,g2⟩:=e4 (fun n=>if n=b then ⟨false,z1,none,0,0,.empty,0,default⟩ else ρ n) (fun n hn=>if_neg hn) (by rw [if_pos rfl])
    exact after_one ⟨false,z1,none,0,0,.empty,0,default⟩ g1.symm (Below.refl _ _) g2
   ·split at h
    ·rename_i r new hnew
     cases h
     obtain ⟨v,nv,e1,e2⟩:=H.soOk hnew ρ W hf
     obtain ⟨s1,s2,ea,eb⟩:=cat_shape e1
     have hg:=fun T (x y:Operand)=>run_guard (P:=P) (op:=.add) (T:=T) (x:=x) (y:=y) (a:=.string s1) (b:=.string s2) (w:=W) rfl (by simp)
     rw [show List.map (Cell.den ρ) _=[.string s1,.string s2] by rw [← ea,← eb];rfl] at e1
     simp only [SV.den,El.den,ea,eb,Sem.run_bind,hg,run_cat e1,Result.andThen]
     obtain ⟨g1,g2⟩:=e2 (fun n=>if n=b then nv else ρ n) (fun n hn=>if_neg hn) (if_pos rfl)
     exact after_one nv g1.symm (Below.refl _ _) g2
    ·cases h
  ·cases h
 ·-- binOp
  split at h
  ·rename_i c d hv hx
   have hd:=opd_ok hv hr
   have hdx:=opd_ok hx hr
   simp only [hd,hdx]
   have hg:=fun op T (x y:Operand)=>run_guard (P:=P) (op:=op) (T:=T) (x:=x) (y:=y) (a:=SV.den ρ (.e (.s c))) (b:=SV.den ρ (.e (.s d))) (w:=W) (c.flat ρ) (by cases c <;> simp [SV.den,El.den,Cell.den])
   simp only [Sem.run_bind,hg,Result.andThen]
   split at h
   ·rename_i y hy
    cases h
    rw [show (binOp _ _ (SV.den ρ (.e (.s c))) (SV.den ρ (.e (.s d)))).run P W=.ok (.bool y) W from bin_ok hy ρ W hf]
    exact after_same rfl rfl rfl
   ·split at h
    ·rename_i r new hnew
     cases h
     obtain ⟨k,x1,y1,z1,e1,e2,e3,e4⟩:=H.arOk hnew ρ W hf
     simp only [SV.den,El.den,e1,e2,e3]
     obtain ⟨g1,g2⟩:=e4 (fun n=>if n=b then ⟨false,z1,none,0,0,.empty,0,default⟩ else ρ n) (fun n hn=>if_neg hn) (by rw [if_pos rfl])
     exact after_one ⟨false,z1,none,0,0,.empty,0,default⟩ g1.symm (Below.refl _ _) g2
    ·split at h
     ·obtain ⟨y,hy,rfl⟩:=Option.map_eq_some_iff.1 h
      simp only [SV.den,El.den,Cell.den,run_arX hy]
      exact after_same rfl rfl rfl
     ·cases h
  ·cases h
 ·-- not
  split at h
  ·rename_i x hv
   cases h
   have hd:=opd_ok hv hr
   simp only [hd]
   exact after_same rfl rfl rfl
  ·cases h
 ·-- neg
  split at h
  ·rename_i k n hv
   cases h
   have hd:=opd_ok hv hr
   simp only [hd]
   exact after_same rfl rfl rfl
  ·cases h
 ·-- convert
  split at h
  ·rename_i c k0 k hv hu ht
   have hd:=opd_ok hv hr
   simp only [hd]
   split at h
   ·rename_i r new hnew
    cases h
    obtain ⟨k1,x1,e1,e4⟩:=H.cvOk hnew ρ W hf
    obtain ⟨g1,g2⟩:=e4 (fun n=>if n=b then ⟨false,k.wrap x1,none,0,0,.empty,0,default⟩ else ρ n) (fun n hn=>if_neg hn) (by rw [if_pos rfl])
    rw [show ((do pure (.value (← convert _ _ (SV.den ρ (.e (.s c))))):Sem Next).run P W)=.ok (.value (.int k (k.wrap x1))) W by
     simp [SV.den,El.den,e1,convert,underlying,program,ht,hu,Conv.intToInt,Sem.run_bind,Sem.run,Result.andThen,pure]]
    exact after_one ⟨false,k.wrap x1,none,0,0,.empty,0,default⟩ g1.symm (Below.refl _ _) g2
   ·cases h
  ·cases h
 ·-- extract
  split at h
  ·rename_i l hv
   split at h
   ·rename_i i e he
    cases h
    have hd:=opd_ok hv hr
    simp only [hd]
    rw [show ((do pure (.value (← Instr.extract (SV.den ρ (.t l)) _)):Sem Next).run P W)=.ok (.value (e.den ρ)) W by
     simp only [SV.den,Instr.extract,List.getElem?_toArray,List.getElem?_map,he,Option.map_some,Sem.run_bind];rfl]
    exact after_same rfl rfl rfl
   ·cases h
  ·cases h
 ·-- build
  split at h
  ·rename_i fs hu
   split at h
   ·rename_i pl zc ps hp hz hps
    split at h
    ·rename_i cs hf
     cases h
     have hparts:=parts_ok hr hps
     exact takes_value (run_build hu hp hz hf _ (by rw [Array.toList_map];exact hparts)) (after_same rfl rfl rfl)
    ·cases h
   ·cases h
  ·cases h
 ·-- call
  rename_i c
  split at h
  ·rename_i f args hcal hargs
   split at h
   ·rename_i hcb
    split at h
    ·rename_i v fs hfc
     cases h
     have hcall:=findCon_ok hc hfc ρ W hf hE
     have hargs':c.args.map a.eval=(args.map (SV.den ρ)).toArray:=by
      apply Array.ext'
      rw [Array.toList_map,opds_ok hr hargs]
     rw [run_call hcal hcb hargs']
     refine hcall.mono fun e W' hh=>?_
     obtain ⟨ρ',h1,rfl,h3,h4⟩:=hh
     exact ⟨_,rfl,ρ',h1,rfl,h3,h4⟩
    ·split at h
     ·rename_i v fs T cs hfm
      cases h
      have hcall:=findMk_ok hc hfm ρ W hf hE
      have hargs':c.args.map a.eval=(args.map (SV.den ρ)).toArray:=by
       apply Array.ext'
       rw [Array.toList_map,opds_ok hr hargs]
      rw [run_call hcal hcb hargs']
      refine hcall.mono fun e W' hh=>?_
      obtain ⟨ρ',h1,rfl,h3,h4,h5,h6⟩:=hh
      exact ⟨_,rfl,ρ',h1,rfl,⟨h5,h3,h6⟩,h4⟩
     ·cases h
   ·cases h
  ·rename_i s hcal hargs
   split at h
   ·rename_i hl
    cases h
    obtain ⟨x,hx,hv⟩:=opds_one hargs
    have hs:=hold _ _ hv s (by simp [SV.nm,El.cells,Cell.nm])
    have hargs':c.args.map a.eval=#[.slice (ρ s).p (ρ s).l (ρ s).c]:=by
     apply Array.ext'
     rw [Array.toList_map,hx,List.map_singleton,opd_ok hv hr]
     rfl
    rw [run_len hcal hl hargs']
    refine after_one ⟨false,(ρ s).l,none,0,0,.empty,0,default⟩ (by simp [SV.den,El.den,Cell.den]) (Below.refl _ _) fun f hf'=>S.lenOk hf' ?_
    rw [if_pos rfl,if_neg (by rcases hs with h | h <;> first | omega | (simp only [M] at *;omega))]
   ·cases h
  ·rename_i k off n cap hcal hargs
   split at h
   ·rename_i hl
    cases h
    obtain ⟨x,hx,hv⟩:=opds_one hargs
    have hargs':c.args.map a.eval=#[.slice (some ⟨(ρ k).pos,off,none⟩) n cap]:=by
     apply Array.ext'
     rw [Array.toList_map,hx,List.map_singleton,opd_ok hv hr]
     rfl
    rw [run_len hcal hl hargs']
    exact after_same rfl rfl rfl
   ·cases h
  ·rename_i hcal hargs
   split at h
   ·rename_i hl
    cases h
    obtain ⟨x,hx,hv⟩:=opds_one hargs
    have hargs':c.args.map a.eval=#[.slice none 0 0]:=by
     apply Array.ext'
     rw [Array.toList_map,hx,List.map_singleton,opd_ok hv hr]
     rfl
    rw [run_len hcal hl hargs']
    exact after_same rfl rfl rfl
   ·cases h
  ·rename_i s hcal hargs
   split at h
   ·rename_i hl
    split at h
    ·rename_i r new hnew
     cases h
     obtain ⟨y,hy,hv⟩:=opds_one hargs
     obtain ⟨v,nv,e1,e2⟩:=H.soOk hnew ρ W hf
     have hargs':c.args.map a.eval=#[(Cell.ot s).den ρ]:=by
      apply Array.ext'
      rw [Array.toList_map,hy,List.map_singleton,opd_ok hv hr]
      rfl
     rw [run_lenT hcal hl hargs' e1]
     obtain ⟨g1,g2⟩:=e2 (fun n=>if n=b then nv else ρ n) (fun n hn=>if_neg hn) (if_pos rfl)
     exact after_one nv g1.symm (Below.refl _ _) g2
    ·cases h
   ·cases h
  ·cases h
 ·-- a row of one integer
  split at h
  ·rename_i x hx
   cases h
   obtain ⟨e,he⟩:=run_lit (a:=a) (w:=W) hx
   refine takes_value he ?_
   exact after_one ⟨false,0,some ⟨W.heap.size,0,none⟩,1,1,.empty,0,default⟩ (by simp [SV.den,El.den,Cell.den]) ((Below.refl _ _).alloc (Nat.le_refl _) _) fun f hf'=>S.litOk hf' (by rw [if_pos rfl]) (by rw [if_pos rfl]) (by rw [if_pos rfl])
  ·split at h
   ·rename_i e ps hu hps
    split at h
    ·rename_i i zc hi hz
     split at h
     ·rename_i hh
      simp only [Bool.and_eq_true,decide_eq_true_eq] at hh
      split at h
      ·rename_i cs hfl
       cases h
       refine takes_value (buildX_ok (ρ:=ρ) hu hi hz hh.1.1 hh.1.2 hh.2 hfl (by rw [Array.toList_map];exact parts_ok hr hps) W) ?_
       refine after_got fun n hn=>?_
       rcases fillX_nm hfl hn with ⟨x,hx,hn⟩ | hn
       ·exact parts_old hold hps x hx n hn
       ·obtain ⟨c,hc1,hc2⟩:=List.mem_flatMap.1 hn
        obtain ⟨l,hl,hcl⟩:=List.mem_flatten.1 hc1
        rw [List.eq_of_mem_replicate hl] at hcl
        rw [zeroX_nm hz hcl] at hc2
        cases hc2
      ·cases h
     ·cases h
    ·cases h
   ·cases h
end
end Rx
end Go.Proofs.YtmijlcldmefggaaGreatDoor
