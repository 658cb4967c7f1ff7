/- What the proof rests on, part 12. -/
import Derived.Test.YtmijlcldmefggaaGreatDoorZ11
import Derived.Laws.Cells
import Derived.Laws.Rows
import Derived.Laws.MakeOwn
namespace Go.Proofs.YtmijlcldmefggaaGreatDoor
set_option maxRecDepth 100000
set_option maxHeartbeats 80000000
namespace Rx
open Go.RowKit
def Bx (W:World) (b:Nat) (T:TypeId) (vs:List Value):Prop:=W.heap[b]? = some (.cells vs.toArray T (0,0))
structure Nv where
 b:Bool
 u:Int
 p:Option Addr
 l:Nat
 c:Nat
 t:ByteArray
 pos:Nat
 g:Nat×Array Value×Array Value
instance:Inhabited Nv:=⟨⟨false,0,none,0,0,.empty,0,default⟩⟩
abbrev Env:=Nat→Nv
inductive Cell
 | bl (b:Bool)
 | it (k:IntKind) (n:Int)
 | st (s:ByteArray)
 | nils
 | ob (n:Nat)
 | ou (n:Nat)
 | oi (n:Nat)
 | o8 (n:Nat)
 | os (n:Nat)
 | ot (n:Nat)
 | ptr (k off:Nat)
 | elp (n j:Nat)
 | elv (n i z:Nat)
 | nilp
 | sl (k off len d:Nat)
 | fn (f:FuncId) (l:List (Nat×Nat))
 | nilf
 | nilm
 | mp (k:Nat)
 | yl (k:Nat)
 | og (n:Nat)
 | slx (k off len cap:Nat)
 | sle (k off d z l:Nat)
def Cell.den (ρ:Env):Cell→Value
 | .bl b=>.bool b
 | .it k n=>.int k n
 | .st s=>.string s
 | .nils=>.slice none 0 0
 | .ob n=>.bool (ρ n).b
 | .ou n=>.int .u64 (ρ n).u
 | .oi n=>.int .i64 (ρ n).u
 | .o8 n=>.int .u8 (ρ n).u
 | .os n=>.slice (ρ n).p (ρ n).l (ρ n).c
 | .ot n=>.string (ρ n).t
 | .ptr k off=>.pointer (some ⟨(ρ k).pos,off,none⟩)
 | .elp n j=>.pointer ((ρ n).p.map (·.add j))
 | .elv n i z=>.pointer ((ρ n).p.map (·.add ((ρ i).u.toNat*z)))
 | .nilp=>.pointer none
 | .sl k off len d=>.slice (some ⟨(ρ k).pos,off,none⟩) len ((ρ k).c - d)
 | .fn f l=>.func (.func f) #[] (l.map fun x=>Value.pointer (some ⟨(ρ x.1).pos,x.2,none⟩)).toArray
 | .nilf=>.nilFunc
 | .nilm=>.map none
 | .mp k=>.map (some (ρ k).pos)
 | .yl k=>.func (.yield (ρ k).pos) #[] #[]
 | .og n=>.func (.func (ρ n).g.1) (ρ n).g.2.1 (ρ n).g.2.2
 | .slx k off len cap=>.slice (some ⟨(ρ k).pos,off,none⟩) len cap
 | .sle k off d z l=>.slice (some ⟨(ρ k).pos,if (ρ k).c - d=l then off else off+l*z,none⟩) 0 ((ρ k).c - d - l)
def Cell.nm:Cell→List Nat
 | .ob n | .ou n | .oi n | .o8 n | .os n | .ot n=>[n]
 | .ptr k _=>[k]
 | .elp n _=>[n]
 | .elv n i _=>[n,i]
 | .sl k _ _ _=>[k]
 | .fn _ l=>l.map (·.1)
 | .mp k | .yl k | .og k | .slx k _ _ _ | .sle k _ _ _ _=>[k]
 | _=>[]
inductive El
 | s (c:Cell)
 | a (l:List Cell)
def El.den (ρ:Env):El→Value
 | .s c=>c.den ρ
 | .a l=>.agg (l.map (Cell.den ρ)).toArray
def El.cells:El→List Cell
 | .s c=>[c]
 | .a l=>l
inductive SV
 | e (x:El)
 | t (l:List El)
 | und
 | o (v:Value)
def SV.den (ρ:Env):SV→Value
 | .e x=>x.den ρ
 | .t l=>.tuple (l.map (El.den ρ)).toArray
 | .und=>undef
 | .o v=>v
def SV.nm:SV→List Nat
 | .e x=>x.cells.flatMap Cell.nm
 | .t l=>l.flatMap fun x=>x.cells.flatMap Cell.nm
 | .und=>[]
 | .o _=>[]
theorem Cell.den_congr {ρ ρ':Env} {c:Cell} (h:∀ n∈c.nm,ρ n=ρ' n):c.den ρ=c.den ρ':=by
 cases c with
 | fn f l =>
  simp only [Cell.den]
  rw [List.map_congr_left fun x hx=>by rw [h x.1 (List.mem_map.2 ⟨x,hx,rfl⟩)]]
 | _=>simp_all [Cell.den,Cell.nm]
theorem cells_congr {ρ ρ':Env} {l:List Cell} (h:∀ n∈l.flatMap Cell.nm,ρ n=ρ' n):l.map (Cell.den ρ)=l.map (Cell.den ρ'):=
 List.map_congr_left fun c hc=>Cell.den_congr fun n hn=>h n (List.mem_flatMap.2 ⟨c,hc,hn⟩)
theorem El.den_congr {ρ ρ':Env} {x:El} (h:∀ n∈x.cells.flatMap Cell.nm,ρ n=ρ' n):x.den ρ=x.den ρ':=by
 cases x with
 | s c=>exact Cell.den_congr fun n hn=>h n (by simpa [El.cells] using hn)
 | a l=>simp only [El.den];rw [cells_congr (show ∀ n∈l.flatMap Cell.nm,ρ n=ρ' n from h)]
theorem SV.den_congr {ρ ρ':Env} {x:SV} (h:∀ n∈x.nm,ρ n=ρ' n):x.den ρ=x.den ρ':=by
 cases x with
 | e x=>exact El.den_congr h
 | t l =>
  simp only [SV.den]
  rw [List.map_congr_left fun x hx=>El.den_congr fun n hn=>h n (List.mem_flatMap.2 ⟨x,hx,hn⟩)]
 | und=>rfl
 | o v=>rfl
theorem Cell.plain (ρ:Env) (c:Cell):(c.den ρ).cells=#[c.den ρ]:=by cases c <;> rfl
theorem El.den_cells (ρ:Env) (x:El):(x.den ρ).cells=(x.cells.map (Cell.den ρ)).toArray:=by
 cases x with
 | s c=>exact c.plain ρ
 | a l=>rfl
def absC:Value→Option Cell
 | .bool b=>some (.bl b)
 | .int k n=>some (.it k n)
 | .string s=>some (.st s)
 | .slice none 0 0=>some .nils
 | .pointer none=>some .nilp
 | .nilFunc=>some .nilf
 | .map none=>some .nilm
 | _=>none
def absL:List Value→Option (List Cell)
 | []=>some []
 | v :: r=>match absC v,absL r with
  | some c,some l=>some (c :: l)
  | _,_=>none
def absV:Value→Option SV
 | .agg cs=>(absL cs.toList).map fun l=>.e (.a l)
 | v=>(absC v).map fun c=>.e (.s c)
theorem absC_den {v:Value} {c:Cell} (ρ:Env) (h:absC v=some c):c.den ρ=v:=by
 unfold absC at h
 split at h <;> first | (cases h;rfl) | cases h
theorem absL_den (ρ:Env):∀ {vs:List Value} {l:List Cell},absL vs=some l→l.map (Cell.den ρ)=vs
 | [],l,h=>by simp only [absL,Option.some.injEq] at h;subst h;rfl
 | v :: r,l,h=>by
  simp only [absL] at h
  split at h
  ·rename_i c l' h1 h2
   cases h
   simp [absC_den ρ h1,absL_den ρ h2]
  ·cases h
theorem absV_den {v:Value} {x:SV} (ρ:Env) (h:absV v=some x):x.den ρ=v:=by
 unfold absV at h
 split at h
 ·obtain ⟨l,h1,rfl⟩:=Option.map_eq_some_iff.1 h
  simp only [SV.den,El.den]
  rw [absL_den ρ h1]
 ·obtain ⟨c,h1,rfl⟩:=Option.map_eq_some_iff.1 h
  exact absC_den ρ h1
structure Sys where
 F:Type
 nm:F→List Nat
 on:Env→F→World→Prop
 okC:List Cell→Bool
 cg:∀ {ρ ρ' f W},(∀ n∈nm f,ρ n=ρ' n)→on ρ f W→on ρ' f W
 bl:∀ {ρ f W W'},Below W.heap.size W W'→on ρ f W→on ρ f W'
 lo:Nat:=0
 st:∀ {ρ f W b T cs i u},okC cs=true→lo≤b→Bx W b T (cs.map (Cell.den ρ))→on ρ f W→on ρ f (W.setCell ⟨b,i,none⟩ u)
 lit:Int→Nat→List F:=fun _ _=>[]
 litOk:∀ {x:Int} {b:Nat} {f:F} {ρ:Env} {W:World} {T:TypeId},f∈lit x b→(ρ b).p=some ⟨W.heap.size,0,none⟩→(ρ b).l=1→(ρ b).c=1→on ρ f (W.alloc (.cells #[.int .i64 x] T)):=by intro _ _ _ _ _ _ h;simp at h
 idx:List F→Nat→Nat→Option Nat:=fun _ _ _=>none
 idxOk:∀ {db:List F} {s i z:Nat} {ρ:Env} {W:World},idx db s i=some z→(∀ f∈db,on ρ f W)→0≤(ρ i).u∧(ρ i).u<((ρ s).l:Int)∧∃ a,(ρ s).p=some a:=by intro _ _ _ _ _ _ h;simp at h
 ldv:List F→Nat→Nat→Nat→Option (List Cell×List F):=fun _ _ _ _=>none
 ldvOk:∀ {db:List F} {s i b:Nat} {cs:List Cell} {fs:List F} {ρ:Env} {W:World},ldv db s i b=some (cs,fs)→(∀ f∈db,on ρ f W)→∃ (a:Addr) (z:Nat),idx db s i=some z∧(ρ s).p=some a∧∃ ρ':Env,(∀ n,n<b∨b+64≤n→ρ' n=ρ n)∧(∀ j v,(cs.map (Cell.den ρ'))[j]? = some v→W.cell? ((a.add ((ρ i).u.toNat*z)).add j)=some v)∧∀ f∈fs,on ρ' f W:=by intro _ _ _ _ _ _ _ _ h;simp at h
 elt:List F→Nat→Nat→Nat→Option (List F):=fun _ _ _ _=>none
 eltOk:∀ {db:List F} {s j b:Nat} {fs:List F} {ρ:Env} {W:World},elt db s j b=some fs→(∀ f∈db,on ρ f W)→j<(ρ s).l∧∃ a x,(ρ s).p=some a∧W.cell? (a.add j)=some (.int .i64 x)∧∀ ρ':Env,(∀ n,n≠b→ρ' n=ρ n)→(ρ' b).u=x→∀ f∈fs,on ρ' f W:=by intro _ _ _ _ _ _ _ h;simp at h
 len:Nat→Nat→List F:=fun _ _=>[]
 lenOk:∀ {s b:Nat} {f:F} {ρ:Env} {W:World},f∈len s b→(ρ b).u=((ρ s).l:Int)→on ρ f W:=by intro _ _ _ _ _ h;simp at h
abbrev M:Nat:=64
structure Con (S:Sys) where
 fn:FuncId
 app:List S.F→Nat→List SV→Option (SV×List S.F)
 bk:List S.F→Nat→List SV→Option (SV×List S.F×TypeId×List Cell):=fun _ _ _=>none
def Con.Ok0 (P:Program) (S:Sys) (E:World→Prop) (c:Con S):Prop:=
 ∀ fs b args res new,c.app fs b args=some (res,new)→∀ ρ W,(∀ f∈fs,S.on ρ f W)→E W →
  Calls P c.fn (args.map (SV.den ρ)).toArray W fun e W'=>∃ ρ':Env,(∀ n,n<b∨b+M≤n→ρ' n=ρ n)∧e=.returned (res.den ρ')∧Below W.heap.size W W'∧∀ f∈new,S.on ρ' f W'
def Con.OkM (P:Program) (S:Sys) (E:World→Prop) (c:Con S):Prop:=
 ∀ fs b args res new T cs,c.bk fs b args=some (res,new,T,cs)→∀ ρ W,(∀ f∈fs,S.on ρ f W)→E W →
  Calls P c.fn (args.map (SV.den ρ)).toArray W fun e W'=>∃ ρ':Env,(∀ n,n<b∨b+M≤n→ρ' n=ρ n)∧e=.returned (res.den ρ')∧Below W.heap.size W W'∧(∀ f∈new,S.on ρ' f W')∧W.heap.size≤(ρ' b).pos∧Bx W' (ρ' b).pos T (cs.map (Cell.den ρ'))
def Con.Ok (P:Program) (S:Sys) (E:World→Prop) (c:Con S):Prop:=c.Ok0 P S E∧c.OkM P S E
theorem Con.ok0 {P:Program} {S:Sys} {E:World→Prop} {c:Con S} (hm:c.bk=fun _ _ _=>none) (h:c.Ok0 P S E):c.Ok P S E:=⟨h,fun _ _ _ _ _ _ _ h'=>by rw [hm] at h';cases h'⟩
inductive Eff
 | no
 | new (T:TypeId) (cs:List Cell)
 | put (k off:Nat) (cs:List Cell)
 | got (T:TypeId) (cs:List Cell)
def Eff.made:Eff→Option (TypeId×List Cell)
 | .new T cs | .got T cs=>some (T,cs)
 | _=>none
structure Rec (F:Type) where
 v:SV
 ef:Eff
 fs:List F
 acc:List Nat
instance {F:Type}:Inhabited (Rec F):=⟨⟨.und,.no,[],[]⟩⟩
def isAggB (P:Program) (t:TypeId):Option Bool:=
 match P.underlying t with
 | some (.struct _) | some (.array _ _)=>some true
 | some _=>some false
 | none=>none
def sizeB (P:Program) (t:TypeId):Option Nat:=(P.info? t).map (·.size)
def fieldB (P:Program) (t:TypeId) (f:Nat):Option Field:=
 match P.underlying t with
 | some (.struct fs)=>fs[f]?
 | _=>none
def splice (off:Nat) (new cs:List Cell):List Cell:=cs.take off ++ new ++ cs.drop (off+new.length)
def cmpB:BinOp→Int→Int→Option Bool
 | .eql,a,b=>some (a == b)
 | .neq,a,b=>some (a != b)
 | .lss,a,b=>some (decide (a<b))
 | .leq,a,b=>some (decide (a≤b))
 | .gtr,a,b=>some (decide (a > b))
 | .geq,a,b=>some (decide (a≥b))
 | _,_,_=>none
inductive StrOp | len | cat | idx | lo | hi
def strV:StrOp→List Value→Option Value
 | .len,[.string s]=>some (.int .i64 (s.size:Int))
 | .cat,[.string a,.string b]=>if (a.size:Int)+(b.size:Int)≤9223372036854775807 then some (.string (a ++ b)) else none
 | .idx,[.string s,.int .i64 i]=>if 0≤i then (s[i.toNat]?).map fun x=>.int .u8 (x.toNat:Int) else none
 | .lo,[.string s,.int .i64 l]=>if 0≤l∧l≤(s.size:Int) then some (.string (s.extract l.toNat s.size)) else none
 | .hi,[.string s,.int .i64 h]=>if 0≤h∧h≤(s.size:Int) then some (.string (s.extract 0 h.toNat)) else none
 | _,_=>none
structure Tests (S:Sys) where
 eq:List S.F→Cell→Cell→Option Bool
 ok:∀ {fs c d x},eq fs c d=some x→∀ ρ W,(∀ f∈fs,S.on ρ f W)→(∃ s t:ByteArray,c.den ρ=.string s∧d.den ρ=.string t∧(s.toList == t.toList)=x)∨∃ (k:IntKind) (a b:Int),c.den ρ=.int k a∧d.den ρ=.int k b∧(a == b)=x
 add:List S.F→Nat→Nat→Nat→Option (List S.F):=fun _ _ _ _=>none
 addOk:∀ {db:List S.F} {a a' b:Nat} {new:List S.F},add db a a' b=some new→∀ ρ W,(∀ f∈db,S.on ρ f W)→IntKind.i64.wrap ((ρ a).u+(ρ a').u)=(ρ a).u+(ρ a').u∧∀ ρ':Env,(∀ n,n≠b→ρ' n=ρ n)→(ρ' b).u=(ρ a).u+(ρ a').u→∀ f∈new,S.on ρ' f W:=by intro _ _ _ _ _ h;simp at h
 inc:List S.F→Nat→Int→Nat→Option (List S.F):=fun _ _ _ _=>none
 incOk:∀ {db:List S.F} {a:Nat} {m:Int} {b:Nat} {new:List S.F},inc db a m b=some new→∀ ρ W,(∀ f∈db,S.on ρ f W)→IntKind.i64.wrap ((ρ a).u+m)=(ρ a).u+m∧∀ ρ':Env,(∀ n,n≠b→ρ' n=ρ n)→(ρ' b).u=(ρ a).u+m→∀ f∈new,S.on ρ' f W:=by intro _ _ _ _ _ h;simp at h
 gt:List S.F→Cell→Cell→Option Bool:=fun _ _ _=>none
 gok:∀ {fs c d x},gt fs c d=some x→∀ ρ W,(∀ f∈fs,S.on ρ f W)→∃ (k:IntKind) (a b:Int),c.den ρ=.int k a∧d.den ρ=.int k b∧decide (a > b)=x:=by intro _ _ _ _ h;simp at h
 ar:List S.F→BinOp→Cell→Cell→Nat→Option (Cell×List S.F):=fun _ _ _ _ _=>none
 arOk:∀ {db:List S.F} {op:BinOp} {c d r:Cell} {b:Nat} {new:List S.F},ar db op c d b=some (r,new)→∀ ρ W,(∀ f∈db,S.on ρ f W)→∃ (k:IntKind) (x y z:Int),c.den ρ=.int k x∧d.den ρ=.int k y∧(∀ P T w,(binOp op T (.int k x) (.int k y)).run P w=.ok (.int k z) w)∧∀ ρ':Env,(∀ n,n≠b→ρ' n=ρ n)→(ρ' b).u=z→r.den ρ' = .int k z∧∀ f∈new,S.on ρ' f W:=by intro _ _ _ _ _ _ _ h;simp at h
 cv:List S.F→IntKind→Cell→Nat→Option (Cell×List S.F):=fun _ _ _ _=>none
 cvOk:∀ {db:List S.F} {k':IntKind} {c r:Cell} {b:Nat} {new:List S.F},cv db k' c b=some (r,new)→∀ ρ W,(∀ f∈db,S.on ρ f W)→∃ (k:IntKind) (x:Int),c.den ρ=.int k x∧∀ ρ':Env,(∀ n,n≠b→ρ' n=ρ n)→(ρ' b).u=k'.wrap x→r.den ρ' = .int k' (k'.wrap x)∧∀ f∈new,S.on ρ' f W:=by intro _ _ _ _ _ _ h;simp at h
 so:List S.F→StrOp→List Cell→Nat→Option (Cell×List S.F):=fun _ _ _ _=>none
 soOk:∀ {db:List S.F} {o:StrOp} {cs:List Cell} {b:Nat} {r:Cell} {new:List S.F},so db o cs b=some (r,new)→∀ ρ W,(∀ f∈db,S.on ρ f W)→∃ (v:Value) (x:Nv),strV o (cs.map (Cell.den ρ))=some v∧∀ ρ':Env,(∀ n,n≠b→ρ' n=ρ n)→ρ' b=x→r.den ρ' = v∧∀ f∈new,S.on ρ' f W:=by intro _ _ _ _ _ _ h;simp at h
def sliceB (P:Program) (t:TypeId):Bool:=match P.underlying t with
 | some (.slice e)=>decide (sizeB P e=some 1)
 | _=>false
def sliceZ (P:Program) (t:TypeId) (z:Nat):Bool:=match P.underlying t with
 | some (.slice e)=>decide (sizeB P e=some z)
 | _=>false
def binB {S:Sys} (P:Program) (H:Tests S) (db:List S.F) (op:BinOp) (T:TypeId):Cell→Cell→Option Bool
 | .it k a,.it k' b=>if k=k' then cmpB op a b else none
 | .bl a,.bl b=>match P.underlying T,op with
  | some .bool,.eql=>some (a == b)
  | some .bool,.neq=>some (!(a == b))
  | _,_=>none
 | c,d=>match op,H.eq db c d with
  | .eql,some x=>some x
  | .neq,some x=>some (!x)
  | .gtr,_=>H.gt db c d
  | .lss,_=>H.gt db d c
  | .leq,_=>(H.gt db c d).map (!·)
  | .geq,_=>(H.gt db d c).map (!·)
  | _,_=>none
def opd (rd:Tmp→Option SV):Operand→Option SV
 | .tmp t=>rd t
 | .const v=>absV v
 | .func f=>some (.e (.s (.fn f [])))
 | _=>none
def opds (rd:Tmp→Option SV):List Operand→Option (List SV)
 | []=>some []
 | x :: r=>match opd rd x,opds rd r with
  | some v,some l=>some (v :: l)
  | _,_=>none
def findCon {S:Sys}:List (Con S)→FuncId→List S.F→Nat→List SV→Option (SV×List S.F)
 | [],_,_,_,_=>none
 | c :: r,f,db,b,args=>if c.fn=f then (match c.app db b args with
   | some x=>some x
   | none=>findCon r f db b args) else findCon r f db b args
def findMk {S:Sys}:List (Con S)→FuncId→List S.F→Nat→List SV→Option (SV×List S.F×TypeId×List Cell)
 | [],_,_,_,_=>none
 | c :: r,f,db,b,args=>if c.fn=f then (match c.bk db b args with
   | some x=>some x
   | none=>findMk r f db b args) else findMk r f db b args
def elX (P:Program) (t:TypeId):Option Nat:=match P.underlying t with
 | some (.slice e)=>sizeB P e
 | _=>none
def placesX (z len:Nat):List (Nat×Nat):=(List.range len).map fun i=>(i*z,z)
def arX (op:BinOp) (a b:Int):Option Int:=match op with
 | .add=>some (IntKind.i64.wrap (a+b))
 | .sub=>some (IntKind.i64.wrap (a - b))
 | .mul=>some (IntKind.i64.wrap (a*b))
 | _=>none
def okPuts (S:Sys) (off:Nat) (new cs:List Cell):Bool:=(List.range (new.length+1)).all fun m=>S.okC (splice off (new.take m) cs)
def callB (P:Program) (f:FuncId):Bool:=
 match P.funcs[f]? with
 | some fn=>fn.body.isSome && !(fn.name == "runtime.NumGoroutine")
 | none=>false
def placesB (P:Program):List Field→Option (List (Nat×Nat))
 | []=>some []
 | f :: r=>match sizeB P f.type,placesB P r with
  | some n,some l=>some ((f.offset,n) :: l)
  | _,_=>none
def fillB (pl:List (Nat×Nat)):List (Nat×El)→List Cell→Option (List Cell)
 | [],cs=>some cs
 | (i,x) :: r,cs=>match pl[i]? with
  | some (off,n)=>if x.cells.length=n && decide (off+n≤cs.length) then fillB pl r (splice off x.cells cs) else none
  | none=>none
def partsB (rd:Tmp→Option SV):List (Nat×Operand)→Option (List (Nat×El))
 | []=>some []
 | (i,x) :: r=>match opd rd x,partsB rd r with
  | some (.e v),some l=>some ((i,v) :: l)
  | _,_=>none
def zeroB (P:Program) (t:TypeId):Option (List Cell):=
 match (P.info? t).bind (·.zero) with
 | some z=>absL z.cells.toList
 | none=>none
def lenB (P:Program) (c:Call):Bool:=match c.argTypes[0]? with
 | some t=>match P.underlying t with
  | some (.slice _)=>true
  | _=>false
 | none=>false
def lenU (P:Program) (c:Call):Bool:=match c.argTypes[0]? with
 | some t=>match P.underlying t with
  | some .string=>true
  | _=>false
 | none=>false
def oneB (P:Program) (t:TypeId) (n:Nat) (l:List (Nat×Operand)):Option Int:=match P.underlying t,n,l with
 | some (.slice e),1,[(0,.const (.int .i64 x))]=>if sizeB P e=some 1 && ((P.info? e).bind (·.zero)).isSome then some x else none
 | _,_,_=>none
def evalOp {S:Sys} (P:Program) (H:Tests S) (cons:List (Con S)) (rd:Tmp→Option SV) (ct:Nat→Option (TypeId×List Cell)) (db:List S.F) (b:Nat):Op→Option (Rec S.F)
 | .move x | .assign x=>(opd rd x).map fun v=>⟨v,.no,[],[]⟩
 | .pick c x y=>match opd rd c with
  | some (.e (.s (.bl true)))=>(opd rd x).map fun v=>⟨v,.no,[],[]⟩
  | some (.e (.s (.bl false)))=>(opd rd y).map fun v=>⟨v,.no,[],[]⟩
  | _=>none
 | .box T x=>match opd rd x with
  | some (.e x)=>some ⟨.e (.s (.ptr b 0)),.new T x.cells,[],[]⟩
  | _=>none
 | .alloc T=>match (P.info? T).bind (·.zero) with
  | some z=>match absV z with
   | some (.e x)=>some ⟨.e (.s (.ptr b 0)),.new T x.cells,[],[]⟩
   | _=>none
  | none=>none
 | .load t a=>match opd rd a with
  | some (.e (.s (.ptr k off)))=>match ct k,isAggB P t,sizeB P t with
   | some (_,cs),some true,some n=>if off+n≤cs.length then some ⟨.e (.a ((cs.drop off).take n)),.no,[],[k]⟩ else none
   | some (_,cs),some false,_=>match cs[off]? with
    | some c=>some ⟨.e (.s c),.no,[],[k]⟩
    | none=>none
   | _,_,_=>none
  | some (.e (.s (.elp s j)))=>match S.elt db s j b,isAggB P t with
   | some fs,some false=>some ⟨.e (.s (.oi b)),.no,fs,[]⟩
   | _,_=>none
  | some (.e (.s (.elv s i z)))=>match S.ldv db s i b,isAggB P t,sizeB P t with
   | some (cs,fs),some true,some n=>if n=cs.length && decide (S.idx db s i=some z) then some ⟨.e (.a cs),.no,fs,[]⟩ else none
   | _,_,_=>none
  | _=>none
 | .store t a x=>match opd rd a,opd rd x with
  | some (.e (.s (.ptr k off))),some (.e x)=>match ct k,sizeB P t with
   | some (_,cs),some n=>if x.cells.length=n && decide (off+n≤cs.length) && okPuts S off x.cells cs then some ⟨.und,.put k off x.cells,[],[k]⟩ else none
   | _,_=>none
  | _,_=>none
 | .fieldAddr s x f=>match opd rd x,fieldB P s f with
  | some (.e (.s (.ptr k off))),some fd=>if (sizeB P fd.type).any (· != 0) then some ⟨.e (.s (.ptr k (off+fd.offset))),.no,[],[]⟩ else none
  | _,_=>none
 | .field s x f=>match opd rd x,fieldB P s f with
  | some (.e (.a cs)),some fd=>match isAggB P fd.type,sizeB P fd.type with
   | some true,some n=>some ⟨.e (.a ((cs.drop fd.offset).take n)),.no,[],[]⟩
   | some false,_=>match cs[fd.offset]? with
    | some c=>some ⟨.e (.s c),.no,[],[]⟩
    | none=>none
   | _,_=>none
  | _,_=>none
 | .indexAddr t x i=>match opd rd x,opd rd i with
  | some (.e (.s (.os s))),some (.e (.s (.it .i64 j)))=>if sliceB P t && decide (0≤j) && (S.elt db s j.toNat b).isSome then some ⟨.e (.s (.elp s j.toNat)),.no,[],[]⟩ else none
  | some (.e (.s (.os s))),some (.e (.s (.oi j)))=>match S.idx db s j with
   | some z=>if sliceZ P t z then some ⟨.e (.s (.elv s j z)),.no,[],[]⟩ else none
   | none=>none
  | some (.e (.s (.slx k off len _))),some (.e (.s (.it .i64 j)))=>match elX P t with
   | some z=>if decide (0≤j) && decide (j<(len:Int)) then some ⟨.e (.s (.ptr k (off+j.toNat*z))),.no,[],[]⟩ else none
   | none=>none
  | _,_=>none
 | .index t x i=>match opd rd x,opd rd i,P.underlying t with
  | some (.e (.s c)),some (.e (.s d)),some .string=>match H.so db .idx [c,d] b with
   | some (r,new)=>some ⟨.e (.s r),.no,new,[]⟩
   | none=>none
  | _,_,_=>none
 | .slice t x (some l) none none=>match opd rd x,opd rd l,P.underlying t with
  | some (.e (.s c)),some (.e (.s d)),some .string=>match H.so db .lo [c,d] b with
   | some (r,new)=>some ⟨.e (.s r),.no,new,[]⟩
   | none=>none
  | _,_,_=>none
 | .slice t x none (some l) none=>match opd rd x,opd rd l,P.underlying t with
  | some (.e (.s c)),some (.e (.s d)),some .string=>match H.so db .hi [c,d] b with
   | some (r,new)=>some ⟨.e (.s r),.no,new,[]⟩
   | none=>none
  | _,_,_=>none
 | .binOp .add _ x y _=>match opd rd x,opd rd y with
  | some (.e (.s (.oi a))),some (.e (.s (.oi a')))=>match H.add db a a' b with
   | some new=>some ⟨.e (.s (.oi b)),.no,new,[]⟩
   | none=>none
  | some (.e (.s (.oi a))),some (.e (.s (.it .i64 m)))=>match H.inc db a m b with
   | some new=>some ⟨.e (.s (.oi b)),.no,new,[]⟩
   | none=>none
  | some (.e (.s (.it .i64 a))),some (.e (.s (.it .i64 m)))=>some ⟨.e (.s (.it .i64 (IntKind.i64.wrap (a+m)))),.no,[],[]⟩
  | some (.e (.s c)),some (.e (.s d))=>match H.ar db .add c d b with
   | some (r,new)=>some ⟨.e (.s r),.no,new,[]⟩
   | none=>match H.so db .cat [c,d] b with
    | some (r,new)=>some ⟨.e (.s r),.no,new,[]⟩
    | none=>none
  | _,_=>none
 | .binOp op T x y _=>match opd rd x,opd rd y with
  | some (.e (.s c)),some (.e (.s d))=>match binB P H db op T c d with
   | some x=>some ⟨.e (.s (.bl x)),.no,[],[]⟩
   | none=>match H.ar db op c d b with
    | some (r,new)=>some ⟨.e (.s r),.no,new,[]⟩
    | none=>match c,d with
     | .it .i64 a,.it .i64 m=>(arX op a m).map fun z=>⟨.e (.s (.it .i64 z)),.no,[],[]⟩
     | _,_=>none
  | _,_=>none
 | .unOp .not _ x=>match opd rd x with
  | some (.e (.s (.bl x)))=>some ⟨.e (.s (.bl !x)),.no,[],[]⟩
  | _=>none
 | .unOp .neg _ x=>match opd rd x with
  | some (.e (.s (.it k n)))=>some ⟨.e (.s (.it k (k.wrap (0 - n)))),.no,[],[]⟩
  | _=>none
 | .convert s t x=>match opd rd x,P.underlying s,P.underlying t with
  | some (.e (.s c)),some (.int _),some (.int k)=>match H.cv db k c b with
   | some (r,new)=>some ⟨.e (.s r),.no,new,[]⟩
   | none=>none
  | _,_,_=>none
 | .extract x i=>match opd rd x with
  | some (.t l)=>match l[i]? with
   | some e=>some ⟨.e e,.no,[],[]⟩
   | none=>none
  | _=>none
 | .build t parts=>match P.underlying t with
  | some (.struct fs)=>match placesB P fs.toList,zeroB P t,partsB rd parts.toList with
   | some pl,some zc,some ps=>match fillB pl ps zc with
    | some cs=>some ⟨.e (.a cs),.no,[],[]⟩
    | none=>none
   | _,_,_=>none
  | _=>none
 | .call c=>match c.callee,opds rd c.args.toList with
  | .value (.func f),some args=>if callB P f then (match findCon cons f db b args with
   | some (v,fs)=>some ⟨v,.no,fs,[]⟩
   | none=>match findMk cons f db b args with
    | some (v,fs,T,cs)=>some ⟨v,.got T cs,fs,[]⟩
    | none=>none) else none
  | .builtin .len,some [.e (.s (.os s))]=>if lenB P c then some ⟨.e (.s (.oi b)),.no,S.len s b,[]⟩ else none
  | .builtin .len,some [.e (.s (.slx _ _ n _))]=>if lenB P c then some ⟨.e (.s (.it .i64 (n:Int))),.no,[],[]⟩ else none
  | .builtin .len,some [.e (.s .nils)]=>if lenB P c then some ⟨.e (.s (.it .i64 0)),.no,[],[]⟩ else none
  | .builtin .len,some [.e (.s (.ot s))]=>if lenU P c then (match H.so db .len [.ot s] b with
   | some (r,new)=>some ⟨.e (.s r),.no,new,[]⟩
   | none=>none) else none
  | _,_=>none
 | .buildSlice t n parts=>match oneB P t n parts.toList with
  | some x=>some ⟨.e (.s (.os b)),.no,S.lit x b,[]⟩
  | none=>match P.underlying t,partsB rd parts.toList with
   | some (.slice e),some ps=>match P.info? e,zeroB P e with
    | some i,some zc=>if decide (i.size=zc.length) && decide (0<zc.length) && decide (n*zc.length≤16777216) then (match fillB (placesX zc.length n) ps (List.replicate n zc).flatten with
     | some cs=>some ⟨.e (.s (.slx b 0 n n)),.got e cs,[],[]⟩
     | none=>none) else none
    | _,_=>none
   | _,_=>none
 | _=>none
end Rx
namespace Rx
open Go.RowKit
def setMany (W:World) (b:Nat):Nat→List Value→World
 | _,[]=>W
 | off,v :: r=>setMany (W.setCell ⟨b,off,none⟩ v) b (off+1) r
theorem Bx.lt {W:World} {b:Nat} {T:TypeId} {vs:List Value} (h:Bx W b T vs):b<W.heap.size:=by
 rcases Nat.lt_or_ge b W.heap.size with hlt | hge
 ·exact hlt
 ·unfold Bx at h;rw [Array.getElem?_eq_none hge] at h;cases h
theorem Bx.cell {W:World} {b:Nat} {T:TypeId} {vs:List Value} (h:Bx W b T vs) (i:Nat):W.cell? ⟨b,i,none⟩=vs[i]?:=by
 unfold Bx at h
 simp [World.cell?,h]
theorem Bx.frozen {W:World} {b:Nat} {T:TypeId} {vs:List Value} (h:Bx W b T vs) (i:Nat):W.frozen? ⟨b,i,none⟩=false:=by
 unfold Bx at h
 simp [World.frozen?,h]
theorem Bx.below {W W':World} {b:Nat} {T:TypeId} {vs:List Value} (h:Bx W b T vs) (hb:Below W.heap.size W W'):Bx W' b T vs:=(hb.block b h.lt).trans h
theorem Bx.new (W:World) (T:TypeId) (vs:List Value):Bx (W.alloc (.cells vs.toArray T)) W.heap.size T vs:=heap_alloc_new W _
theorem Bx.set {W:World} {b:Nat} {T:TypeId} {vs:List Value} (h:Bx W b T vs) (i:Nat) (u:Value):Bx (W.setCell ⟨b,i,none⟩ u) b T (vs.set i u):=by
 unfold Bx at h ⊢
 simp [World.setCell,Array.getElem?_modify,h]
theorem Bx.far {W:World} {b:Nat} {T:TypeId} {vs:List Value} (h:Bx W b T vs) {a:Addr} (ha:b≠a.block) (u:Value):Bx (W.setCell a u) b T vs:=(Below.heap_setCell W a u b ha).trans h
def flat:Value→Bool
 | .agg _ | .tuple _=>false
 | _=>true
theorem Cell.flat (ρ:Env) (c:Cell):Rx.flat (c.den ρ)=true:=by cases c <;> rfl
theorem set_splice {off:Nat} {done:List Cell} {c:Cell} {cs:List Cell} (h:off+done.length<cs.length):(splice off done cs).set (off+done.length) c=splice off (done ++ [c]) cs:=by
 have hl:(cs.take off).length=off:=by simp;omega
 unfold splice
 rw [List.set_append_right _ _ (by simp;omega)]
 simp only [List.length_append,hl,List.length_singleton]
 rw [show off+done.length - (off+done.length)=0 by omega]
 have hd:cs.drop (off+done.length)=cs[off+done.length] :: cs.drop (off+done.length+1):=(List.drop_eq_getElem_cons h)
 rw [hd,List.set_cons_zero,show off+(done.length+1)=off+done.length+1 by omega]
 simp
theorem splice_nil (off:Nat) (cs:List Cell):splice off [] cs=cs:=by simp [splice]
theorem foldl_splice (ρ:Env) {off:Nat} {cs new:List Cell} (hle:off+new.length≤cs.length):∀ (rest done:List Cell),done ++ rest=new →
  ((rest.map (Cell.den ρ)).zipIdx done.length).foldl (fun (A:Array Value) (x:Value×Nat)=>A.setIfInBounds (off+x.2) x.1) ((splice off done cs).map (Cell.den ρ)).toArray=((splice off new cs).map (Cell.den ρ)).toArray
 | [],done,hd=>by
  rw [List.append_nil] at hd
  subst hd
  rfl
 | c :: rest,done,hd=>by
  have hlen:done.length+(rest.length+1)=new.length:=by rw [← hd];simp
  have hsp:=set_splice (off:=off) (done:=done) (c:=c) (cs:=cs) (by omega)
  have ih:=foldl_splice ρ hle rest (done ++ [c]) (by rw [← hd];simp)
  rw [List.length_append,List.length_singleton] at ih
  simp only [List.map_cons,List.zipIdx_cons,List.foldl_cons]
  rw [← ih,← hsp]
  congr 1
  simp [List.map_set]
section
variable {P:Program}
theorem add_off (b off i:Nat):(⟨b,off,none⟩:Addr).add i=⟨b,off+i,none⟩:=by
 unfold Addr.add
 split
 ·rename_i h;subst h;rfl
 ·rfl
theorem run_isAgg {t:TypeId} {x:Bool} {w:World} (h:isAggB P t=some x):(isAgg t).run P w=.ok x w:=by
 unfold isAggB at h
 unfold isAgg
 cases hu:P.underlying t with
 | none=>rw [hu] at h;cases h
 | some d =>
  rw [hu] at h
  cases d <;> simp_all [Sem.run_bind,underlying,program,Sem.run,Result.andThen,pure]
theorem run_sizeOf {t:TypeId} {n:Nat} {w:World} (h:sizeB P t=some n):(sizeOf t).run P w=.ok n w:=by
 unfold sizeB at h
 obtain ⟨i,hi,rfl⟩:=Option.map_eq_some_iff.1 h
 simp [sizeOf,typeInfo,hi,Sem.run_bind,program,Sem.run,Result.andThen,pure]
theorem run_load_agg {t:TypeId} {n b off:Nat} {T:TypeId} {vs:List Value} {w:World} (ha:isAggB P t=some true) (hn:sizeB P t=some n) (hb:Bx w b T vs) (hle:off+n≤vs.length) :
  (Instr.loadAt t (.pointer (some ⟨b,off,none⟩))).run P w=.ok (.agg ((vs.drop off).take n).toArray) w:=by
 have hlen:((vs.drop off).take n).length=n:=by simp;omega
 have h1:=run_loadCells_list (P:=P) w ⟨b,off,none⟩ ((vs.drop off).take n) (fun j v hv=>by
  rw [add_off,hb.cell]
  rw [List.getElem?_take] at hv
  split at hv
  ·rwa [List.getElem?_drop] at hv
  ·cases hv)
 rw [hlen] at h1
 simp only [Instr.loadAt,loadVar,Instr.sureAddr,Sem.run_bind,Sem.run,Result.andThen,pure,run_isAgg ha,run_sizeOf hn,if_true,h1]
theorem run_load_one {t:TypeId} {b off:Nat} {T:TypeId} {vs:List Value} {v:Value} {w:World} (ha:isAggB P t=some false) (hb:Bx w b T vs) (hv:vs[off]? = some v) :
  (Instr.loadAt t (.pointer (some ⟨b,off,none⟩))).run P w=.ok v w:=by
 have hc:w.cell? ⟨b,off,none⟩=some v:=(hb.cell off).trans hv
 simp [Instr.loadAt,loadVar,Instr.sureAddr,Sem.run_bind,Sem.run,Result.andThen,pure,run_isAgg ha,load,hc]
theorem run_load_at {t:TypeId} {a:Addr} {x:Int} {w:World} (ha:isAggB P t=some false) (hc:w.cell? a=some (.int .i64 x)):(Instr.loadAt t (.pointer (some a))).run P w=.ok (.int .i64 x) w:=by
 simp [Instr.loadAt,loadVar,Instr.sureAddr,Sem.run_bind,Sem.run,Result.andThen,pure,run_isAgg ha,load,hc]
theorem run_load_row {t:TypeId} {n:Nat} {a:Addr} {vs:List Value} {w:World} (ha:isAggB P t=some true) (hn:sizeB P t=some n) (hl:vs.length=n) (hc:∀ j v,vs[j]? = some v→w.cell? (a.add j)=some v) :
  (Instr.loadAt t (.pointer (some a))).run P w=.ok (.agg vs.toArray) w:=by
 have h1:=run_loadCells_list (P:=P) w a vs hc
 rw [hl] at h1
 simp only [Instr.loadAt,loadVar,Instr.sureAddr,Sem.run_bind,Sem.run,Result.andThen,pure,run_isAgg ha,run_sizeOf hn,if_true,h1]
theorem run_indexZ {t:TypeId} {a:Addr} {l c z:Nat} {j:Int} {w:World} (ht:sliceZ P t z=true) (h0:0≤j) (h1:j<(l:Int)):(Instr.indexAt t (.slice (some a) l c) (.int .i64 j)).run P w=.ok (.pointer (some (a.add (j.toNat*z)))) w:=by
 unfold sliceZ at ht
 split at ht
 ·rename_i e hu
  have hs:=run_sizeOf (P:=P) (w:=w) (of_decide_eq_true ht)
  simp [Instr.indexAt,asIntOf,underlying,program,hu,hs,h0,h1,Sem.run_bind,Sem.run,Result.andThen,pure]
 ·cases ht
theorem run_index {t:TypeId} {a:Addr} {l c:Nat} {j:Int} {w:World} (ht:sliceB P t=true) (h0:0≤j) (h1:j.toNat<l):(Instr.indexAt t (.slice (some a) l c) (.int .i64 j)).run P w=.ok (.pointer (some (a.add j.toNat))) w:=by
 unfold sliceB at ht
 split at ht
 ·rename_i e hu
  have hs:=run_sizeOf (P:=P) (w:=w) (of_decide_eq_true ht)
  have hj:j<(l:Int):=by omega
  simp [Instr.indexAt,asIntOf,underlying,program,hu,hs,h0,hj,Sem.run_bind,Sem.run,Result.andThen,pure]
 ·cases ht
theorem run_store1 {b off:Nat} {T:TypeId} {vs:List Value} {v:Value} {w:World} (hb:Bx w b T vs) (ho:off<vs.length) (hf:flat v=true):(store ⟨b,off,none⟩ v).run P w=.ok () (w.setCell ⟨b,off,none⟩ v):=by
 have hc:w.cell? ⟨b,off,none⟩=some vs[off]:=(hb.cell off).trans (by simp [ho])
 have hz:=hb.frozen off
 cases v <;> first | (cases hf;done) | simp [store,Sem.run,hc,hz]
theorem run_storeCells {b:Nat} {T:TypeId}:∀ (new:List Value) (off i:Nat) {vs:List Value} {w:World},Bx w b T vs→off+i+new.length≤vs.length→(∀ v∈new,flat v=true) →
  (storeCells ⟨b,off,none⟩ new i).run P w=.ok () (setMany w b (off+i) new)
 | [],off,i,vs,w,_,_,_=>rfl
 | v :: r,off,i,vs,w,hb,hl,hf=>by
  simp only [List.length_cons] at hl
  have h1:=run_store1 (P:=P) hb (off:=off+i) (v:=v) (by omega) (hf v (by simp))
  have h2:=run_storeCells r off (i+1) (hb.set (off+i) v) (by simp;omega) (fun x hx=>hf x (by simp [hx]))
  simp only [storeCells,Sem.run_bind,add_off,h1,Result.andThen,setMany]
  exact h2
theorem run_store {t:TypeId} {b off:Nat} {T:TypeId} {vs:List Value} {v:Value} {new:List Value} {w:World} (hc:v.cells=new.toArray) (hn:sizeB P t=some new.length) (hb:Bx w b T vs) (hle:off+new.length≤vs.length) (hf:∀ v∈new,flat v=true) :
  (Instr.storeAt t (.pointer (some ⟨b,off,none⟩)) v).run P w=.ok () (setMany w b off new):=by
 have h1:=run_storeCells (P:=P) new off 0 hb (by omega) hf
 simp only [Instr.storeAt,Instr.sureAddr,storeVar,Sem.run_bind,Sem.run,Result.andThen,pure,run_sizeOf hn,hc]
 simpa using h1
theorem run_box {T:TypeId} {v:Value} {new:List Value} {w:World} (hc:v.cells=new.toArray):(Instr.box T v).run P w=.ok (.pointer (some ⟨w.heap.size,0,none⟩)) (w.alloc (.cells new.toArray T)):=by
 simp [Instr.box,newVar,newRow,newObj,hc,Sem.run_bind,Sem.run,Result.andThen,pure]
theorem run_alloc {T:TypeId} {v:Value} {new:List Value} {w:World} (hz:(P.info? T).bind (·.zero)=some v) (hc:v.cells=new.toArray):(Instr.alloc T true (.tuple #[])).run P w=.ok (.pointer (some ⟨w.heap.size,0,none⟩)) (w.alloc (.cells new.toArray T)):=by
 obtain ⟨i,hi,hz'⟩:=Option.bind_eq_some_iff.1 hz
 simp [Instr.alloc,zeroValue,typeInfo,program,hi,hz',newVar,newRow,newObj,hc,Sem.run_bind,Sem.run,Result.andThen,pure]
theorem run_fieldAt {s:TypeId} {f:Nat} {fd:Field} {b off:Nat} {w:World} (h:fieldB P s f=some fd) (hs:(sizeB P fd.type).any (· != 0)=true):(Instr.fieldAt s (.pointer (some ⟨b,off,none⟩)) f).run P w=.ok (.pointer (some ⟨b,off+fd.offset,none⟩)) w:=by
 unfold fieldB at h
 split at h
 ·rename_i fs hu
  cases hn:sizeB P fd.type with
  | none=>rw [hn] at hs;cases hs
  | some n =>
   rw [hn] at hs
   have hn0:n≠0:=by simpa using hs
   simp [Instr.fieldAt,underlying,program,hu,h,Instr.sureAddr,fieldPlace,run_sizeOf hn,hn0,add_off,Sem.run_bind,Sem.run,Result.andThen,pure]
 ·cases h
theorem run_field_agg {s:TypeId} {f n:Nat} {fd:Field} {cs:List Value} {w:World} (h:fieldB P s f=some fd) (ha:isAggB P fd.type=some true) (hn:sizeB P fd.type=some n):(Instr.field s (.agg cs.toArray) f).run P w=.ok (.agg ((cs.drop fd.offset).take n).toArray) w:=by
 unfold fieldB at h
 split at h
 ·rename_i fs hu
  simp [Instr.field,underlying,program,hu,h,asAgg,part,run_isAgg ha,run_sizeOf hn,Sem.run_bind,Sem.run,Result.andThen,pure,List.take_drop]
 ·cases h
theorem run_field_one {s:TypeId} {f:Nat} {fd:Field} {cs:List Value} {v:Value} {w:World} (h:fieldB P s f=some fd) (ha:isAggB P fd.type=some false) (hv:cs[fd.offset]? = some v):(Instr.field s (.agg cs.toArray) f).run P w=.ok v w:=by
 unfold fieldB at h
 split at h
 ·rename_i fs hu
  simp [Instr.field,underlying,program,hu,h,asAgg,part,run_isAgg ha,hv,Sem.run_bind,Sem.run,Result.andThen,pure]
 ·cases h
theorem run_places {w:World}:∀ {fs:List Field} {pl:List (Nat×Nat)},placesB P fs=some pl→(fs.mapM (m:=Sem) fun f=>do pure (f.offset,← sizeOf f.type)).run P w=.ok pl w
 | [],pl,h=>by simp only [placesB,Option.some.injEq] at h;subst h;rfl
 | f :: r,pl,h=>by
  simp only [placesB] at h
  split at h
  ·rename_i n l h1 h2
   cases h
   have h3:=run_places (w:=w) h2
   rw [List.mapM_cons]
   simp only [Sem.run_bind,run_sizeOf h1,Result.andThen,pure,Sem.run] at h3 ⊢
   rw [h3]
  ·cases h
theorem fill_ok {ρ:Env} {pl:List (Nat×Nat)}:∀ {ps:List (Nat×El)} {cs out:List Cell},fillB pl ps cs=some out →
  Instr.fill (fun i=>pl.toArray[i]?) (cs.map (Cell.den ρ)).toArray (ps.map fun x=>(x.1,x.2.den ρ))=some (out.map (Cell.den ρ)).toArray
 | [],cs,out,h=>by simp only [fillB,Option.some.injEq] at h;subst h;rfl
 | (i,x) :: r,cs,out,h=>by
  simp only [fillB] at h
  split at h
  ·rename_i off n hp
   split at h
   ·rename_i hc
    simp only [Bool.and_eq_true,decide_eq_true_eq] at hc
    have ih:=fill_ok (ρ:=ρ) h
    have hfold:=foldl_splice ρ (off:=off) (cs:=cs) (new:=x.cells) (by omega) x.cells [] rfl
    rw [splice_nil,List.length_nil] at hfold
    simp only [List.map_cons,Instr.fill]
    rw [show pl.toArray[i]? = some (off,n) by simpa using hp]
    simp only
    rw [x.den_cells ρ]
    rw [if_neg (by simp;omega)]
    rw [← ih,← hfold]
    congr 1
    rw [← Array.foldl_toList,Array.toList_zipIdx]
   ·cases h
  ·cases h
theorem run_build {t:TypeId} {fs:Array Field} {pl:List (Nat×Nat)} {zc out:List Cell} {ps:List (Nat×El)} {ρ:Env} {w:World} (hu:P.underlying t=some (.struct fs)) (hp:placesB P fs.toList=some pl) (hz:zeroB P t=some zc) (hf:fillB pl ps zc=some out) (parts:Array (Nat×Value)) (hps:parts.toList=ps.map fun x=>(x.1,x.2.den ρ)) :
  (Instr.build t parts).run P w=.ok (.agg (out.map (Cell.den ρ)).toArray) w:=by
 unfold zeroB at hz
 split at hz
 ·rename_i z hz0
  obtain ⟨i,hi,hz'⟩:=Option.bind_eq_some_iff.1 hz0
  have h1:=absL_den ρ hz
  have h2:z.cells=(zc.map (Cell.den ρ)).toArray:=by rw [h1]
  have h3:=run_places (w:=w) hp
  have h4:=fill_ok (ρ:=ρ) hf
  simp only [Instr.build,Sem.run_bind,zeroValue,typeInfo,program,hi,hz',Sem.run,Result.andThen,pure,underlying,hu,Array.mapM_eq_mapM_toList,map_eq_pure_bind]
  rw [show (List.mapM (m:=Sem) (fun f:Field=>do let n ← sizeOf f.type;Sem.pure (f.offset,n)) fs.toList).run P w=.ok pl w from h3]
  simp only [h2,hps]
  rw [show Instr.fill (fun x=>pl.toArray[x]?) (zc.map (Cell.den ρ)).toArray (ps.map fun x=>(x.1,x.2.den ρ))=some (out.map (Cell.den ρ)).toArray from h4]
  rfl
 ·cases hz
end
end Rx
namespace Rx
open Go.RowKit
section
variable {P:Program} {ρ:Env}
theorem run_indexX {t:TypeId} {a:Addr} {l c z:Nat} {j:Int} {w:World} (ht:elX P t=some z) (h0:0≤j) (h1:j<(l:Int)):(Instr.indexAt t (.slice (some a) l c) (.int .i64 j)).run P w=.ok (.pointer (some (a.add (j.toNat*z)))) w:=by
 unfold elX at ht
 split at ht
 ·rename_i e hu
  have hs:=run_sizeOf (P:=P) (w:=w) ht
  simp [Instr.indexAt,asIntOf,underlying,program,hu,hs,h0,h1,Sem.run_bind,Sem.run,Result.andThen,pure]
 ·cases ht
theorem run_arX {op:BinOp} {a b c:Int} {T:TypeId} {w:World} (h:arX op a b=some c):(binOp op T (.int .i64 a) (.int .i64 b)).run P w=.ok (.int .i64 c) w:=by
 cases op <;> simp only [arX] at h <;> first | (cases h;done) | (cases h;simp [binOp,Op.intArith,pure];done)
theorem zeroX_nm {t:TypeId} {zc:List Cell} (h:zeroB P t=some zc) {c:Cell} (hc:c∈zc):c.nm=[]:=by
 have hC:∀ {v:Value} {c:Cell},absC v=some c→c.nm=[]:=fun {v c} h=>by unfold absC at h;split at h <;> first | (cases h;rfl) | cases h
 have hL:∀ {vs:List Value} {l:List Cell},absL vs=some l→∀ c∈l,c.nm=[]:=fun {vs}=>by
  induction vs with
  | nil=>intro l h;simp only [absL,Option.some.injEq] at h;subst h;simp
  | cons v r ih =>
   intro l h
   simp only [absL] at h
   split at h
   ·rename_i c l' h1 h2
    cases h
    intro c' hc'
    rcases List.mem_cons.1 hc' with rfl | hc'
    ·exact hC h1
    ·exact ih h2 c' hc'
   ·cases h
 unfold zeroB at h
 split at h
 ·exact hL h c hc
 ·cases h
theorem spliceX_nm {off:Nat} {new cs:List Cell} {n:Nat} (h:n∈(splice off new cs).flatMap Cell.nm):n∈new.flatMap Cell.nm∨n∈cs.flatMap Cell.nm:=by
 unfold splice at h
 simp only [List.flatMap_append,List.mem_append] at h
 rcases h with (h | h) | h
 ·obtain ⟨c,hc,hn⟩:=List.mem_flatMap.1 h
  exact .inr (List.mem_flatMap.2 ⟨c,List.mem_of_mem_take hc,hn⟩)
 ·exact .inl h
 ·obtain ⟨c,hc,hn⟩:=List.mem_flatMap.1 h
  exact .inr (List.mem_flatMap.2 ⟨c,List.mem_of_mem_drop hc,hn⟩)
theorem fillX_nm {pl:List (Nat×Nat)} {n:Nat}:∀ {ps:List (Nat×El)} {cs out:List Cell},fillB pl ps cs=some out→n∈out.flatMap Cell.nm→(∃ x∈ps,n∈x.2.cells.flatMap Cell.nm)∨n∈cs.flatMap Cell.nm
 | [],cs,out,h,hn=>by simp only [fillB,Option.some.injEq] at h;subst h;exact .inr hn
 | (i,x) :: r,cs,out,h,hn=>by
  simp only [fillB] at h
  split at h
  ·split at h
   ·rcases fillX_nm h hn with ⟨y,hy,h1⟩ | h1
    ·exact .inl ⟨y,List.mem_cons_of_mem _ hy,h1⟩
    ·rcases spliceX_nm h1 with h1 | h1
     ·exact .inl ⟨(i,x),by simp,h1⟩
     ·exact .inr h1
   ·cases h
  ·cases h
theorem flat_rep {α:Type} (a b:Nat) (p:List α):(List.replicate (a+b) p).flatten=(List.replicate a p).flatten ++ (List.replicate b p).flatten:=by
 rw [← List.replicate_append_replicate,List.flatten_append]
theorem made_rep (z:List Value) (hz:0<z.length):∀ c,(madeCells z.toArray (c*z.length)).toList=(List.replicate c z).flatten
 | 0=>by simp [madeCells]
 | c+1=>by
  have ih:=made_rep z hz c
  rw [flat_rep c 1,← ih]
  unfold madeCells
  rw [Array.toList_map,Array.toList_map,Array.toList_range,Array.toList_range,Nat.succ_mul,List.range_add,List.map_append,List.map_map]
  congr 1
  have e:∀ i,i<z.length→z.toArray[(c*z.length+i) % z.toArray.size]! = z[i]!:=fun i hi=>by
   rw [List.size_toArray,Nat.mul_comm,Nat.mul_add_mod,Nat.mod_eq_of_lt hi]
   simp [hi]
  refine (List.map_congr_left (g:=fun i=>z[i]!) fun i hi=>e i (List.mem_range.1 hi)).trans ?_
  simp only [List.replicate_one,List.flatten_singleton]
  apply List.ext_getElem
  ·simp
  ·intro i h1 h2
   simp at h1
   simp [h2]
theorem zeroB_ok {t:TypeId} {zc:List Cell} (h:zeroB P t=some zc) (ρ:Env):∃ i z,P.info? t=some i∧i.zero=some z∧z.cells=(zc.map (Cell.den ρ)).toArray:=by
 unfold zeroB at h
 split at h
 ·rename_i z hz
  obtain ⟨i,hi,hz'⟩:=Option.bind_eq_some_iff.1 hz
  exact ⟨i,z,hi,hz',by rw [absL_den ρ h]⟩
 ·cases h
theorem flat_map {α β:Type} (f:α→β) (c:Nat) (l:List α):(List.replicate c l).flatten.map f=(List.replicate c (l.map f)).flatten:=by
 rw [List.map_flatten,List.map_replicate]
theorem fill_go {pl:Nat→Option (Nat×Nat)} {pl':Nat→Option (Nat×Nat)}:∀ {ps:List (Nat×Value)} {cs:Array Value} {out:Array Value},Instr.fill pl cs ps=some out→(∀ i x,pl i=some x→pl' i=some x)→Instr.fill pl' cs ps=some out
 | [],cs,out,h,_=>h
 | (i,v) :: r,cs,out,h,hp=>by
  simp only [Instr.fill] at h ⊢
  split at h
  ·cases h
  ·rename_i off size hi
   rw [hp i _ hi]
   simp only
   split at h
   ·cases h
   ·rename_i hn
    rw [if_neg hn]
    exact fill_go h hp
theorem buildX_ok {t e:TypeId} {i:TypeInfo} {zc cs:List Cell} {len:Nat} {ps:List (Nat×El)} {parts:Array (Nat×Value)} (hu:P.underlying t=some (.slice e)) (hi:P.info? e=some i) (hz:zeroB P e=some zc) (hs:i.size=zc.length) (h0:0<zc.length) (hb:len*zc.length≤16777216)
  (hf:fillB (placesX zc.length len) ps (List.replicate len zc).flatten=some cs) (hp:parts.toList=ps.map fun x=>(x.1,x.2.den ρ)) (w:World) :
  (Instr.buildSlice t len parts).run P w=.ok (.slice (some ⟨w.heap.size,0,none⟩) len len) (w.alloc (.cells (cs.map (Cell.den ρ)).toArray e)):=by
 obtain ⟨i',z,h1,h2,h3⟩:=zeroB_ok hz ρ
 rw [hi] at h1
 cases h1
 have hfill:=fill_ok (ρ:=ρ) hf
 have hfill2:=fill_go (pl':=fun j=>some (j*zc.length,zc.length)) hfill fun j x hx=>by
  unfold placesX at hx
  rw [List.getElem?_toArray,List.getElem?_map] at hx
  obtain ⟨j',hj,rfl⟩:=Option.map_eq_some_iff.1 hx
  have:=List.getElem?_eq_some_iff.1 hj
  obtain ⟨hlt,he⟩:=this
  rw [List.getElem_range] at he
  rw [he]
 have hn:¬ (len*zc.length > 16777216):=by omega
 have hmade:((Array.range (len*zc.length)).map fun x=>((zc.map (Cell.den ρ)).toArray[x % (zc.map (Cell.den ρ)).toArray.size]!))=((List.replicate len zc).flatten.map (Cell.den ρ)).toArray:=by
  apply Array.ext'
  have:=made_rep (zc.map (Cell.den ρ)) (by simpa using h0) len
  rw [List.length_map] at this
  rw [flat_map]
  exact this
 rw [← hp] at hfill2
 by_cases hl:len*zc.length=0
 ·have hlen:len=0:=by
   rcases Nat.mul_eq_zero.1 hl with h | h
   ·exact h
   ·omega
  subst hlen
  simp only [List.replicate_zero,List.flatten_nil,List.map_nil] at hfill2
  simp [Instr.buildSlice,underlying,program,hu,sizeOf,typeInfo,hi,hs,newRow,newObj,hfill2,Sem.run_bind,Sem.run,Result.andThen,pure,Array.range_zero']
 ·simp only [Instr.buildSlice,underlying,program,hu,sizeOf,typeInfo,hi,hs,zeroValue,h2,h3,Sem.run_bind,Sem.run,Result.andThen,pure,hl,if_false,show ¬ (len*zc.length > 2 ^ 24) from hn]
  rw [show (Array.map (fun x=>(zc.map (Cell.den ρ)).toArray[x % (zc.map (Cell.den ρ)).toArray.size]!) (Array.range (len*zc.length)))=((List.replicate len zc).flatten.map (Cell.den ρ)).toArray from hmade,hfill2]
  simp [newRow,newObj,Sem.run_bind,Sem.run,Result.andThen,pure]
end
end Rx
end Go.Proofs.YtmijlcldmefggaaGreatDoor
