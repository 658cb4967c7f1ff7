/- What the proof rests on, part 35. -/
import Derived.Test.YtmijlcldmefggaaGreatDoorZ29
namespace Go.Proofs.YtmijlcldmefggaaGreatDoor
set_option maxRecDepth 100000
set_option maxHeartbeats 80000000
namespace Rx.Ry
open Go.RowKit
section
variable {α:Type}
noncomputable def getR (t:T α):Nat→Option α:=
 T.rec (motive:=fun _=>Nat→Option α) (fun _=>none) (fun v _ _ ga gb k=>Nat.rec (motive:=fun _=>Option α) v (fun j _=>Bool.rec (motive:=fun _=>Option α) (gb (Nat.div j 2)) (ga (Nat.div j 2)) (Nat.beq (Nat.mod j 2) 0)) k) t
theorem getR_eq:∀ (t:T α) (k:Nat),getR t k=t.get k
 | .l,_=>rfl
 | .n v a b,0=>rfl
 | .n v a b,k+1=>by
  have iha:=getR_eq a (Nat.div k 2)
  have ihb:=getR_eq b (Nat.div k 2)
  show (Bool.rec (getR b (Nat.div k 2)) (getR a (Nat.div k 2)) (Nat.beq (Nat.mod k 2) 0):Option α)=_
  rw [iha,ihb]
  simp only [T.get]
  cases Nat.beq (Nat.mod k 2) 0 <;> rfl
noncomputable def ndA (v:Option α) (b x:T α):T α:=T.rec (motive:=fun _=>T α) (.n v .l b) (fun y p q _ _=>.n v (.n y p q) b) x
noncomputable def ndB (v:Option α) (a x:T α):T α:=T.rec (motive:=fun _=>T α) (.n v a .l) (fun y p q _ _=>.n v a (.n y p q)) x
noncomputable def oneR (v:α) (f:Nat):Nat→T α:=
 Nat.rec (motive:=fun _=>Nat→T α) (fun _=>.l) (fun _ ih k=>Nat.rec (motive:=fun _=>T α) (.n (some v) .l .l) (fun j _=>Bool.rec (motive:=fun _=>T α) (ndB none .l (ih (Nat.div j 2))) (ndA none .l (ih (Nat.div j 2))) (Nat.beq (Nat.mod j 2) 0)) k) f
theorem oneR_eq (v:α):∀ f k,oneR v f k=T.one v f k
 | 0,_=>rfl
 | f+1,0=>rfl
 | f+1,k+1=>by
  have ih:=oneR_eq v f (Nat.div k 2)
  show (Bool.rec (ndB none .l (oneR v f (Nat.div k 2))) (ndA none .l (oneR v f (Nat.div k 2))) (Nat.beq (Nat.mod k 2) 0):T α)=_
  rw [ih]
  simp only [T.one]
  cases Nat.beq (Nat.mod k 2) 0 <;> cases T.one v f (Nat.div k 2) <;> rfl
noncomputable def setR (o:Option α) (t:T α):Nat→T α:=
 T.rec (motive:=fun _=>Nat→T α) (fun k=>Option.rec (motive:=fun _=>T α) .l (fun v=>oneR v 40 k) o)
  (fun v a b sa sb k=>Nat.rec (motive:=fun _=>T α) (.n o a b) (fun j _=>Bool.rec (motive:=fun _=>T α) (ndB v a (sb (Nat.div j 2))) (ndA v b (sa (Nat.div j 2))) (Nat.beq (Nat.mod j 2) 0)) k) t
theorem setR_eq (o:Option α):∀ (t:T α) (k:Nat),setR o t k=t.set o k
 | .l,k=>by
  cases o with
  | none=>rfl
  | some v=>exact oneR_eq v 40 k
 | .n v a b,0=>rfl
 | .n v a b,k+1=>by
  have iha:=setR_eq o a (Nat.div k 2)
  have ihb:=setR_eq o b (Nat.div k 2)
  show (Bool.rec (ndB v a (setR o b (Nat.div k 2))) (ndA v b (setR o a (Nat.div k 2))) (Nat.beq (Nat.mod k 2) 0):T α)=_
  rw [iha,ihb]
  simp only [T.set]
  cases Nat.beq (Nat.mod k 2) 0 with
  | true=>cases a.set o (Nat.div k 2) <;> rfl
  | false=>cases b.set o (Nat.div k 2) <;> rfl
noncomputable def nthR (l:List α):Nat→Option α:=
 List.rec (motive:=fun _=>Nat→Option α) (fun _=>none) (fun a _ ih k=>Nat.rec (motive:=fun _=>Option α) (some a) (fun j _=>ih j) k) l
theorem nthR_eq:∀ (l:List α) (k:Nat),nthR l k=l[k]?
 | [],_=>rfl
 | _ :: _,0=>rfl
 | _ :: r,k+1=>nthR_eq r k
noncomputable def dropR (l:List α):Nat→List α:=
 List.rec (motive:=fun _=>Nat→List α) (fun _=>[]) (fun a r ih k=>Nat.rec (motive:=fun _=>List α) (a :: r) (fun j _=>ih j) k) l
theorem dropR_eq:∀ (l:List α) (k:Nat),dropR l k=l.drop k
 | [],k=>by simp [dropR]
 | _ :: _,0=>rfl
 | _ :: r,k+1=>dropR_eq r k
noncomputable def takeX (n:Nat):List α→Option (List α):=
 Nat.rec (motive:=fun _=>List α→Option (List α)) (fun _=>some []) (fun _ ih l=>List.rec (motive:=fun _=>Option (List α)) none (fun a r _=>Option.rec (motive:=fun _=>Option (List α)) none (fun s=>some (a :: s)) (ih r)) l) n
theorem takeX_eq:∀ {n:Nat} {l s:List α},takeX n l=some s→n≤l.length∧s=l.take n
 | 0,l,s,h=>by
  obtain rfl:[]=s:=Option.some.inj h
  exact ⟨Nat.zero_le _,rfl⟩
 | n+1,[],s,h=>by cases h
 | n+1,a :: r,s,h=>by
  have h:(Option.rec none (fun s=>some (a :: s)) (takeX n r):Option (List α))=some s:=h
  cases hr:takeX n r with
  | none=>rw [hr] at h;cases h
  | some s' =>
   rw [hr] at h
   obtain rfl:a :: s' = s:=Option.some.inj h
   obtain ⟨h1,rfl⟩:=takeX_eq hr
   exact ⟨Nat.succ_le_succ h1,rfl⟩
end
section
noncomputable def andR (a b:Bool):Bool:=Bool.rec (motive:=fun _=>Bool) false b a
theorem andR_eq (a b:Bool):andR a b=(a && b):=by cases a <;> rfl
noncomputable def inRR (fb:List (Nat×Nat)) (k:Nat):Bool:=
 List.rec (motive:=fun _=>Bool) false (fun p _ ih=>Bool.rec (motive:=fun _=>Bool) ih (Bool.rec (motive:=fun _=>Bool) ih true (Nat.blt k p.2)) (Nat.ble p.1 k)) fb
theorem inRR_eq:∀ (fb:List (Nat×Nat)) (k:Nat),inRR fb k=inR fb k
 | [],_=>rfl
 | p :: r,k=>by
  have ih:=inRR_eq r k
  show (Bool.rec (inRR r k) (Bool.rec (inRR r k) true (Nat.blt k p.2)) (Nat.ble p.1 k):Bool)=_
  rw [ih]
  simp only [inR]
  cases Nat.ble p.1 k <;> cases Nat.blt k p.2 <;> rfl
variable {S:Sys}
noncomputable def seeR (fb:List (Nat×Nat)) (hp:T (It S)) (k:Nat):Option (It S):=Bool.rec (motive:=fun _=>Option (It S)) (getR hp k) none (inRR fb k)
theorem seeR_eq (fb:List (Nat×Nat)) (hp:T (It S)) (k:Nat):seeR fb hp k=see fb hp k:=by
 unfold seeR see
 rw [inRR_eq,getR_eq]
 cases inR fb k <;> rfl
noncomputable def blkI (i:It S):Option (TypeId×List Cell):=It.rec (motive:=fun _=>Option (TypeId×List Cell)) (fun T cs _ _=>some (T,cs)) (fun _=>none) (fun _ _=>none) (fun _=>none) none (fun _ _ _=>none) i
theorem blkI_some {i:It S} {T:TypeId} {cs:List Cell} (h:blkI i=some (T,cs)):∃ ex pat,i=.blk T cs ex pat:=by
 cases i with
 | blk T' cs' ex pat =>
  obtain ⟨rfl,rfl⟩:=Prod.mk.inj (Option.some.inj h)
  exact ⟨ex,pat,rfl⟩
 | _=>cases h
end
noncomputable def ptrC (c:Cell):Option (Nat×Nat):=Cell.rec (motive:=fun _=>Option (Nat×Nat)) (fun _=>none) (fun _ _=>none) (fun _=>none) none (fun _=>none) (fun _=>none) (fun _=>none) (fun _=>none) (fun _=>none) (fun _=>none) (fun k off=>some (k,off)) (fun _ _=>none) (fun _ _ _=>none) none (fun _ _ _ _=>none) (fun _ _=>none) none none (fun _=>none) (fun _=>none) (fun _=>none) (fun _ _ _ _=>none) (fun _ _ _ _ _=>none) c
theorem ptrC_some {c:Cell} {x:Nat×Nat} (h:ptrC c=some x):c=.ptr x.1 x.2:=by
 cases c with
 | ptr k off=>obtain rfl:=Option.some.inj h;rfl
 | _=>cases h
noncomputable def elC (v:SV):Option El:=SV.rec (motive:=fun _=>Option El) (fun x=>some x) (fun _=>none) none (fun _=>none) v
theorem elC_some {v:SV} {x:El} (h:elC v=some x):v=.e x:=by
 cases v with
 | e y=>obtain rfl:y=x:=Option.some.inj h;rfl
 | _=>cases h
noncomputable def tupC (v:SV):Option (List El):=SV.rec (motive:=fun _=>Option (List El)) (fun _=>none) (fun l=>some l) none (fun _=>none) v
theorem tupC_some {v:SV} {x:List El} (h:tupC v=some x):v=.t x:=by
 cases v with
 | t y=>obtain rfl:y=x:=Option.some.inj h;rfl
 | _=>cases h
noncomputable def cellsE (x:El):List Cell:=El.rec (motive:=fun _=>List Cell) (fun c=>[c]) (fun l=>l) x
theorem cellsE_eq (x:El):cellsE x=x.cells:=by cases x <;> rfl
noncomputable def intC (c:Cell):Option (IntKind×Int):=Cell.rec (motive:=fun _=>Option (IntKind×Int)) (fun _=>none) (fun k n=>some (k,n)) (fun _=>none) none (fun _=>none) (fun _=>none) (fun _=>none) (fun _=>none) (fun _=>none) (fun _=>none) (fun _ _=>none) (fun _ _=>none) (fun _ _ _=>none) none (fun _ _ _ _=>none) (fun _ _=>none) none none (fun _=>none) (fun _=>none) (fun _=>none) (fun _ _ _ _=>none) (fun _ _ _ _ _=>none) c
theorem intC_some {c:Cell} {x:IntKind×Int} (h:intC c=some x):c=.it x.1 x.2:=by
 cases c with
 | it k n=>obtain rfl:=Option.some.inj h;rfl
 | _=>cases h
noncomputable def bolC (c:Cell):Option Bool:=Cell.rec (motive:=fun _=>Option Bool) (fun b=>some b) (fun _ _=>none) (fun _=>none) none (fun _=>none) (fun _=>none) (fun _=>none) (fun _=>none) (fun _=>none) (fun _=>none) (fun _ _=>none) (fun _ _=>none) (fun _ _ _=>none) none (fun _ _ _ _=>none) (fun _ _=>none) none none (fun _=>none) (fun _=>none) (fun _=>none) (fun _ _ _ _=>none) (fun _ _ _ _ _=>none) c
theorem bolC_some {c:Cell} {x:Bool} (h:bolC c=some x):c=.bl x:=by
 cases c with
 | bl b=>obtain rfl:b=x:=Option.some.inj h;rfl
 | _=>cases h
noncomputable def slcC (c:Cell):Option (Nat×Nat×Nat):=Cell.rec (motive:=fun _=>Option (Nat×Nat×Nat)) (fun _=>none) (fun _ _=>none) (fun _=>none) none (fun _=>none) (fun _=>none) (fun _=>none) (fun _=>none) (fun _=>none) (fun _=>none) (fun _ _=>none) (fun _ _=>none) (fun _ _ _=>none) none (fun k off len _=>some (k,off,len)) (fun _ _=>none) none none (fun _=>none) (fun _=>none) (fun _=>none) (fun k off len _=>some (k,off,len)) (fun _ _ _ _ _=>none) c
theorem slcC_some {c:Cell} {x:Nat×Nat×Nat} (h:slcC c=some x):(∃ d,c=.sl x.1 x.2.1 x.2.2 d)∨∃ cap,c=.slx x.1 x.2.1 x.2.2 cap:=by
 cases c with
 | sl k off len d=>obtain rfl:=Option.some.inj h;exact .inl ⟨d,rfl⟩
 | slx k off len cap=>obtain rfl:=Option.some.inj h;exact .inr ⟨cap,rfl⟩
 | _=>cases h
noncomputable def kdR (c:Cell):Nat:=Cell.rec (motive:=fun _=>Nat) (fun _=>0) (fun k _=>IntKind.rec (motive:=fun _=>Nat) 0 0 0 2 0 0 0 1 k) (fun _=>0) 0 (fun _=>0) (fun _=>1) (fun _=>2) (fun _=>0) (fun _=>0) (fun _=>0) (fun _ _=>0) (fun _ _=>0) (fun _ _ _=>0) 0 (fun _ _ _ _=>0) (fun _ _=>0) 0 0 (fun _=>0) (fun _=>0) (fun _=>0) (fun _ _ _ _=>0) (fun _ _ _ _ _=>0) c
theorem kdR_eq (c:Cell):kdR c=kdC c:=by
 cases c with
 | it k n=>cases k <;> rfl
 | _=>rfl
end Rx.Ry
namespace Rx.Ry
open Go.RowKit
structure Bx1 (β:Type) where
 f:β
abbrev Rdr:=Tmp→Option SV
noncomputable def bo {α β:Type} (f:α→Option β) (o:Option α):Option β:=Option.rec (motive:=fun _=>Option β) none f o
noncomputable def bb {β:Type} (x:Option β) (b:Bool):Option β:=Bool.rec (motive:=fun _=>Option β) none x b
theorem bo_some {α β:Type} {f:α→Option β} {o:Option α} {y:β} (h:bo f o=some y):∃ a,o=some a∧f a=some y:=by
 cases o with
 | none=>cases h
 | some a=>exact ⟨a,rfl,h⟩
theorem bb_some {β:Type} {x:Option β} {b:Bool} {y:β} (h:bb x b=some y):b=true∧x=some y:=by
 cases b with
 | false=>cases h
 | true=>exact ⟨rfl,h⟩
def rO:Operand→Bx1 (Rdr→Option SV)
 | .tmp t=>⟨fun rd=>rd t⟩
 | .const v=>match absV v with
  | some x=>⟨fun _=>some x⟩
  | none=>⟨fun _=>none⟩
 | .func f=>⟨fun _=>some (.e (.s (.fn f [])))⟩
 | _=>⟨fun _=>none⟩
theorem rO_eq (rd:Rdr) (x:Operand):(rO x).f rd=opd rd x:=by
 cases x with
 | const v =>
  simp only [rO,opd]
  cases absV v <;> rfl
 | _=>rfl
noncomputable def ptrV (o:Option SV):Option (Nat×Nat):=Option.rec (motive:=fun _=>Option (Nat×Nat)) none (fun v=>SV.rec (motive:=fun _=>Option (Nat×Nat)) (fun x=>El.rec (motive:=fun _=>Option (Nat×Nat)) (fun c=>ptrC c) (fun _=>none) x) (fun _=>none) none (fun _=>none) v) o
theorem ptrV_some {o:Option SV} {p:Nat×Nat} (h:ptrV o=some p):o=some (.e (.s (.ptr p.1 p.2))):=by
 cases o with
 | none=>cases h
 | some v =>
  cases v with
  | e x =>
   cases x with
   | s c=>rw [ptrC_some (show ptrC c=some p from h)]
   | a l=>cases h
  | _=>cases h
noncomputable def slcV (o:Option SV):Option (Nat×Nat×Nat):=Option.rec (motive:=fun _=>Option (Nat×Nat×Nat)) none (fun v=>SV.rec (motive:=fun _=>Option (Nat×Nat×Nat)) (fun x=>El.rec (motive:=fun _=>Option (Nat×Nat×Nat)) (fun c=>slcC c) (fun _=>none) x) (fun _=>none) none (fun _=>none) v) o
theorem slcV_some {o:Option SV} {p:Nat×Nat×Nat} (h:slcV o=some p):(∃ d,o=some (.e (.s (.sl p.1 p.2.1 p.2.2 d))))∨∃ cap,o=some (.e (.s (.slx p.1 p.2.1 p.2.2 cap))):=by
 cases o with
 | none=>cases h
 | some v =>
  cases v with
  | e x =>
   cases x with
   | s c =>
    rcases slcC_some (show slcC c=some p from h) with ⟨d,rfl⟩ | ⟨d,rfl⟩
    ·exact .inl ⟨d,rfl⟩
    ·exact .inr ⟨d,rfl⟩
   | a l=>cases h
  | _=>cases h
noncomputable def oneV (o:Option SV):Option Cell:=Option.rec (motive:=fun _=>Option Cell) none (fun v=>SV.rec (motive:=fun _=>Option Cell) (fun x=>El.rec (motive:=fun _=>Option Cell) (fun c=>some c) (fun _=>none) x) (fun _=>none) none (fun _=>none) v) o
theorem oneV_some {o:Option SV} {c:Cell} (h:oneV o=some c):o=some (.e (.s c)):=by
 cases o with
 | none=>cases h
 | some v =>
  cases v with
  | e x =>
   cases x with
   | s d=>obtain rfl:=Option.some.inj h;rfl
   | a l=>cases h
  | _=>cases h
noncomputable def aggV (o:Option SV):Option (List Cell):=Option.rec (motive:=fun _=>Option (List Cell)) none (fun v=>SV.rec (motive:=fun _=>Option (List Cell)) (fun x=>El.rec (motive:=fun _=>Option (List Cell)) (fun _=>none) (fun l=>some l) x) (fun _=>none) none (fun _=>none) v) o
theorem aggV_some {o:Option SV} {c:List Cell} (h:aggV o=some c):o=some (.e (.a c)):=by
 cases o with
 | none=>cases h
 | some v =>
  cases v with
  | e x =>
   cases x with
   | s d=>cases h
   | a l=>obtain rfl:=Option.some.inj h;rfl
  | _=>cases h
noncomputable def tupV (o:Option SV):Option (List El):=bo tupC o
theorem tupV_some {o:Option SV} {c:List El} (h:tupV o=some c):o=some (.t c):=by
 obtain ⟨v,rfl,h3⟩:=bo_some h
 rw [tupC_some h3]
noncomputable def elV (o:Option SV):Option El:=bo elC o
theorem elV_some {o:Option SV} {c:El} (h:elV o=some c):o=some (.e c):=by
 obtain ⟨v,rfl,h3⟩:=bo_some h
 rw [elC_some h3]
noncomputable def kN (k:IntKind):Nat:=IntKind.rec (motive:=fun _=>Nat) 0 1 2 3 4 5 6 7 k
theorem kN_inj {k k':IntKind} (h:Nat.beq (kN k) (kN k')=true):k=k':=by
 have h:=Nat.eq_of_beq_eq_true h
 cases k <;> cases k' <;> first | rfl | exact absurd h (by decide)
noncomputable def natI (n:Int):Option Nat:=Int.rec (motive:=fun _=>Option Nat) (fun m=>some m) (fun _=>none) n
theorem natI_some {n:Int} {m:Nat} (h:natI n=some m):n=.ofNat m:=by
 cases n with
 | ofNat k=>obtain rfl:=Option.some.inj h;rfl
 | negSucc k=>cases h
noncomputable def natV (o:Option SV):Option Nat:=bo (fun x=>bb (natI x.2) (Nat.beq (kN x.1) 3)) (bo intC (oneV o))
theorem natV_some {o:Option SV} {j:Nat} (h:natV o=some j):o=some (.e (.s (.it .i64 (.ofNat j)))):=by
 obtain ⟨x,h1,h2⟩:=bo_some h
 obtain ⟨c,h3,h4⟩:=bo_some h1
 have h3:=oneV_some h3
 obtain ⟨h6,h7⟩:=bb_some h2
 rw [h3,intC_some h4,kN_inj (k':=.i64) h6,natI_some h7]
noncomputable def ltI (a b:Int):Bool:=Int.rec (motive:=fun _=>Bool) (fun m=>Int.rec (motive:=fun _=>Bool) (fun k=>Nat.blt m k) (fun _=>false) b) (fun m=>Int.rec (motive:=fun _=>Bool) (fun _=>true) (fun k=>Nat.blt k m) b) a
theorem ltI_eq (a b:Int):ltI a b=decide (a<b):=by
 have hb:∀ x y,Nat.blt x y=decide (x<y):=fun x y=>by
  rw [Bool.eq_iff_iff,decide_eq_true_iff]
  exact ⟨Nat.le_of_ble_eq_true,Nat.ble_eq_true_of_le⟩
 cases a with
 | ofNat m =>
  cases b with
  | ofNat k=>show Nat.blt m k=_;rw [hb];simp
  | negSucc k=>show false=_;symm;rw [decide_eq_false_iff_not];simp only [Int.ofNat_eq_natCast,Int.negSucc_eq];omega
 | negSucc m =>
  cases b with
  | ofNat k=>show true=_;symm;rw [decide_eq_true_iff];simp only [Int.ofNat_eq_natCast,Int.negSucc_eq];omega
  | negSucc k=>show Nat.blt k m=_;rw [hb];simp only [Int.negSucc_eq];congr 1;apply propext;omega
noncomputable def eqI (a b:Int):Bool:=Int.rec (motive:=fun _=>Bool) (fun m=>Int.rec (motive:=fun _=>Bool) (fun k=>Nat.beq m k) (fun _=>false) b) (fun m=>Int.rec (motive:=fun _=>Bool) (fun _=>false) (fun k=>Nat.beq m k) b) a
theorem eqI_eq (a b:Int):eqI a b=decide (a=b):=by
 have hb:∀ x y,Nat.beq x y=decide (x=y):=fun x y=>by
  rw [Bool.eq_iff_iff,decide_eq_true_iff]
  exact ⟨Nat.eq_of_beq_eq_true,fun h=>by subst h;exact Nat.beq_refl x⟩
 cases a with
 | ofNat m =>
  cases b with
  | ofNat k=>show Nat.beq m k=_;rw [hb];congr 1;apply propext;exact ⟨fun h=>by rw [h],fun h=>Int.ofNat.inj h⟩
  | negSucc k=>show false=_;symm;rw [decide_eq_false_iff_not];exact fun h=>by cases h
 | negSucc m =>
  cases b with
  | ofNat k=>show false=_;symm;rw [decide_eq_false_iff_not];exact fun h=>by cases h
  | negSucc k=>show Nat.beq m k=_;rw [hb];congr 1;apply propext;exact ⟨fun h=>by rw [h],fun h=>Int.negSucc.inj h⟩
noncomputable def notR (b:Bool):Bool:=Bool.rec (motive:=fun _=>Bool) true false b
theorem notR_eq (b:Bool):notR b = !b:=by cases b <;> rfl
noncomputable def cmpO:BinOp→Option (Bx1 (Int→Int→Bool))
 | .eql=>some ⟨fun a b=>eqI a b⟩
 | .neq=>some ⟨fun a b=>notR (eqI a b)⟩
 | .lss=>some ⟨fun a b=>ltI a b⟩
 | .leq=>some ⟨fun a b=>notR (ltI b a)⟩
 | .gtr=>some ⟨fun a b=>ltI b a⟩
 | .geq=>some ⟨fun a b=>notR (ltI a b)⟩
 | _=>none
theorem cmpO_some {op:BinOp} {g:Bx1 (Int→Int→Bool)} (h:cmpO op=some g) (a b:Int):cmpB op a b=some (g.f a b):=by
 have e:∀ x y:Int,decide (x≤y) = !decide (y<x):=fun x y=>by
  rw [Bool.eq_iff_iff]
  simp
 cases op <;> first | cases h;done | skip
 all_goals obtain rfl:=Option.some.inj h
 ·show some (a == b)=some (eqI a b);rw [eqI_eq];rfl
 ·show some (a != b)=some (notR (eqI a b));rw [notR_eq,eqI_eq];rfl
 ·show some (decide (a<b))=some (ltI a b);rw [ltI_eq]
 ·show some (decide (a≤b))=some (notR (ltI b a));rw [notR_eq,ltI_eq,e]
 ·show some (decide (a > b))=some (ltI b a);rw [ltI_eq]
 ·show some (decide (a≥b))=some (notR (ltI a b));rw [notR_eq,ltI_eq,← e]
noncomputable def ariO:BinOp→Option (Bx1 (Nat→Nat→Option Nat))
 | .add=>some ⟨fun a b=>bb (some (Nat.add a b)) (Nat.blt (Nat.add a b) 9223372036854775808)⟩
 | .sub=>some ⟨fun a b=>bb (bb (some (Nat.sub a b)) (Nat.ble b a)) (Nat.blt a 9223372036854775808)⟩
 | .mul=>some ⟨fun a b=>bb (some (Nat.mul a b)) (Nat.blt (Nat.mul a b) 9223372036854775808)⟩
 | _=>none
theorem wrapN {s:Nat} (h:s<9223372036854775808):IntKind.i64.wrap (Int.ofNat s)=Int.ofNat s:=by
 rw [IntKind.wrap_i64]
 simp only [Int.ofNat_eq_natCast]
 omega
theorem ariO_some {op:BinOp} {g:Bx1 (Nat→Nat→Option Nat)} (h:ariO op=some g) {a b s:Nat} (hg:g.f a b=some s):arith op .i64 (.ofNat a) (.ofNat b)=some (.ofNat s):=by
 unfold ariO at h
 split at h
 ·obtain rfl:=Option.some.inj h
  obtain ⟨h1,h2⟩:=bb_some hg
  obtain rfl:=Option.some.inj h2
  show some (IntKind.i64.wrap (Int.ofNat a+Int.ofNat b))=_
  rw [show Int.ofNat a+Int.ofNat b=Int.ofNat (Nat.add a b) from rfl,wrapN (Nat.le_of_ble_eq_true h1)]
 ·obtain rfl:=Option.some.inj h
  obtain ⟨h1,h2⟩:=bb_some hg
  obtain ⟨h3,h4⟩:=bb_some h2
  obtain rfl:=Option.some.inj h4
  have h3:b≤a:=Nat.le_of_ble_eq_true h3
  have h1:a<9223372036854775808:=Nat.le_of_ble_eq_true h1
  show some (IntKind.i64.wrap (Int.ofNat a - Int.ofNat b))=_
  rw [show Int.ofNat a - Int.ofNat b=Int.ofNat (Nat.sub a b) by simp only [Int.ofNat_eq_natCast,Nat.sub_eq];omega,wrapN (by simp only [Nat.sub_eq];omega)]
 ·obtain rfl:=Option.some.inj h
  obtain ⟨h1,h2⟩:=bb_some hg
  obtain rfl:=Option.some.inj h2
  show some (IntKind.i64.wrap (Int.ofNat a*Int.ofNat b))=_
  rw [show Int.ofNat a*Int.ofNat b=Int.ofNat (Nat.mul a b) from rfl,wrapN (Nat.le_of_ble_eq_true h1)]
 ·cases h
section
variable (P:Program) {S:Sys}
noncomputable def fP:Op→Option (Bx1 (Rdr→Option SV))
 | .move x | .assign x=>some (rO x)
 | .fieldAddr s x f=>match fieldB P s f with
  | some fd=>match (sizeB P fd.type).any (· != 0) with
   | true=>some ⟨fun rd=>bo (fun p=>some (.e (.s (.ptr p.1 (Nat.add p.2 fd.offset))))) (ptrV ((rO x).f rd))⟩
   | false=>none
  | none=>none
 | .field s x f=>match fieldB P s f with
  | some fd=>match isAggB P fd.type,sizeB P fd.type with
   | some true,some z=>some ⟨fun rd=>bo (fun l=>bo (fun cs=>some (.e (.a cs))) (takeX z (dropR l fd.offset))) (aggV ((rO x).f rd))⟩
   | some false,_=>some ⟨fun rd=>bo (fun l=>bo (fun c=>some (.e (.s c))) (nthR l fd.offset)) (aggV ((rO x).f rd))⟩
   | _,_=>none
  | none=>none
 | .indexAddr t x i=>match elemZ P t with
  | some z=>some ⟨fun rd=>bo (fun s=>bo (fun j=>bb (some (.e (.s (.ptr s.1 (Nat.add s.2.1 (Nat.mul j z)))))) (Nat.blt j s.2.2)) (natV ((rO i).f rd))) (slcV ((rO x).f rd))⟩
  | none=>none
 | .binOp op _ x y _=>match cmpO op with
  | some g=>some ⟨fun rd=>bo (fun c=>bo (fun d=>bb (some (.e (.s (.bl (g.f c.2 d.2))))) (Nat.beq (kN c.1) (kN d.1))) (bo intC (oneV ((rO y).f rd)))) (bo intC (oneV ((rO x).f rd)))⟩
  | none=>match ariO op with
   | some g=>some ⟨fun rd=>bo (fun a=>bo (fun b=>bo (fun s=>some (.e (.s (.it .i64 (.ofNat s))))) (g.f a b)) (natV ((rO y).f rd))) (natV ((rO x).f rd))⟩
   | none=>none
 | .unOp .not _ x=>some ⟨fun rd=>bo (fun b=>some (.e (.s (.bl (notR b))))) (bo bolC (oneV ((rO x).f rd)))⟩
 | .extract x i=>some ⟨fun rd=>bo (fun l=>bo (fun e=>some (.e e)) (nthR l i)) (tupV ((rO x).f rd))⟩
 | .call c=>match c.callee,c.args.toList with
  | .builtin .len,[x]=>match lenS P c with
   | true=>some ⟨fun rd=>bo (fun s=>some (.e (.s (.it .i64 (.ofNat s.2.2))))) (slcV ((rO x).f rd))⟩
   | false=>none
  | _,_=>none
 | .nilCheck x=>some ⟨fun rd=>bo (fun p=>some (.e (.s (.ptr p.1 p.2)))) (ptrV ((rO x).f rd))⟩
 | _=>none
def Said (H:Tests S) (rd:Rdr) (fb:List (Nat×Nat)) (hp:T (It S)) (n:Nat) (op:Op) (v:SV):Prop:=
 specP P rd fb hp op=some v∨∃ acc,Rx.evalOp P H [] rd (ctOf fb hp) [] n op=some ⟨v,.no,[],acc⟩∧∀ k∈acc,False
theorem fP_ok {H:Tests S} {rd:Rdr} {fb:List (Nat×Nat)} {hp:T (It S)} {n:Nat} {op:Op} {g:Bx1 (Rdr→Option SV)} {v:SV} (hg:fP P op=some g) (h:g.f rd=some v):Said P H rd fb hp n op v:=by
 unfold fP at hg
 split at hg
 ·obtain rfl:=Option.some.inj hg
  rw [rO_eq] at h
  exact .inr ⟨[],by simp only [Rx.evalOp,h,Option.map_some],fun _ h=>by cases h⟩
 ·obtain rfl:=Option.some.inj hg
  rw [rO_eq] at h
  exact .inr ⟨[],by simp only [Rx.evalOp,h,Option.map_some],fun _ h=>by cases h⟩
 ·split at hg
  ·rename_i s x f fd hfd
   split at hg
   ·rename_i hz
    obtain rfl:=Option.some.inj hg
    obtain ⟨p,h1,h2⟩:=bo_some h
    obtain rfl:=Option.some.inj h2
    have h1:=ptrV_some h1
    rw [rO_eq] at h1
    exact .inr ⟨[],by simp only [Rx.evalOp,h1,hfd,hz,if_true];rfl,fun _ h=>by cases h⟩
   ·cases hg
  ·cases hg
 ·split at hg
  ·rename_i s x f fd hfd
   split at hg
   ·rename_i z ha hz
    obtain rfl:=Option.some.inj hg
    obtain ⟨l,h1,h2⟩:=bo_some h
    obtain ⟨cs,h3,h4⟩:=bo_some h2
    obtain rfl:=Option.some.inj h4
    have h1:=aggV_some h1
    rw [rO_eq] at h1
    obtain ⟨-,rfl⟩:=takeX_eq h3
    exact .inr ⟨[],by simp only [Rx.evalOp,h1,hfd,ha,hz,dropR_eq],fun _ h=>by cases h⟩
   ·rename_i ha
    obtain rfl:=Option.some.inj hg
    obtain ⟨l,h1,h2⟩:=bo_some h
    obtain ⟨c,h3,h4⟩:=bo_some h2
    obtain rfl:=Option.some.inj h4
    have h1:=aggV_some h1
    rw [rO_eq] at h1
    rw [nthR_eq] at h3
    exact .inr ⟨[],by simp only [Rx.evalOp,h1,hfd,ha,h3],fun _ h=>by cases h⟩
   ·cases hg
  ·cases hg
 ·split at hg
  ·rename_i t x i z hz
   obtain rfl:=Option.some.inj hg
   obtain ⟨s,h1,h2⟩:=bo_some h
   obtain ⟨j,h3,h4⟩:=bo_some h2
   obtain ⟨h5,h6⟩:=bb_some h4
   obtain rfl:=Option.some.inj h6
   have h3:=natV_some h3
   rw [rO_eq] at h3
   refine .inl ?_
   rcases slcV_some h1 with ⟨d,h1⟩ | ⟨d,h1⟩ <;>
   ·rw [rO_eq] at h1
    simp only [specP,h1,h3,hz,h5,cond_true]
    rfl
  ·cases hg
 ·split at hg
  ·rename_i op T x y _ _ g' hc
   obtain rfl:=Option.some.inj hg
   obtain ⟨c,h1,h2⟩:=bo_some h
   obtain ⟨d,h3,h4⟩:=bo_some h2
   obtain ⟨h5,h6⟩:=bb_some h4
   obtain rfl:=Option.some.inj h6
   obtain ⟨c',h7,h8⟩:=bo_some h1
   obtain ⟨d',h9,h10⟩:=bo_some h3
   have h7:=oneV_some h7
   have h9:=oneV_some h9
   rw [rO_eq] at h7 h9
   rw [intC_some h8] at h7
   rw [intC_some h10] at h9
   have hk:=kN_inj h5
   have hc':=cmpO_some hc c.2 d.2
   refine .inr ⟨[],?_,fun _ h=>by cases h⟩
   cases op <;> first | (cases hc;done) | simp only [Rx.evalOp,h7,h9,binB,hk,if_true,hc']
  ·rename_i op T x y _ _ hc
   split at hg
   ·rename_i g' ha
    obtain rfl:=Option.some.inj hg
    obtain ⟨a,h1,h2⟩:=bo_some h
    obtain ⟨b,h3,h4⟩:=bo_some h2
    obtain ⟨s,h5,h6⟩:=bo_some h4
    obtain rfl:=Option.some.inj h6
    have h1:=natV_some h1
    have h3:=natV_some h3
    rw [rO_eq] at h1 h3
    refine .inl ?_
    simp only [specP,h1,h3,if_true,ariO_some ha h5]
   ·cases hg
 ·obtain rfl:=Option.some.inj hg
  obtain ⟨b,h1,h2⟩:=bo_some h
  obtain rfl:=Option.some.inj h2
  obtain ⟨c,h3,h4⟩:=bo_some h1
  have h3:=oneV_some h3
  rw [rO_eq,bolC_some h4] at h3
  exact .inr ⟨[],by simp only [Rx.evalOp,h3,notR_eq],fun _ h=>by cases h⟩
 ·obtain rfl:=Option.some.inj hg
  obtain ⟨l,h1,h2⟩:=bo_some h
  obtain ⟨e,h3,h4⟩:=bo_some h2
  obtain rfl:=Option.some.inj h4
  have h1:=tupV_some h1
  rw [rO_eq] at h1
  rw [nthR_eq] at h3
  exact .inr ⟨[],by simp only [Rx.evalOp,h1,h3],fun _ h=>by cases h⟩
 ·rename_i c
  split at hg
  ·rename_i x hb hx
   split at hg
   ·rename_i hl
    obtain rfl:=Option.some.inj hg
    obtain ⟨s,h1,h2⟩:=bo_some h
    obtain rfl:=Option.some.inj h2
    refine .inl ?_
    rcases slcV_some h1 with ⟨d,h1⟩ | ⟨d,h1⟩ <;>
    ·rw [rO_eq] at h1
     simp only [specP,hb,hx,opds,h1,hl,cond_true]
   ·cases hg
  ·cases hg
 ·obtain rfl:=Option.some.inj hg
  obtain ⟨p,h1,h2⟩:=bo_some h
  obtain rfl:=Option.some.inj h2
  have h1:=ptrV_some h1
  rw [rO_eq] at h1
  exact .inl (by simp only [specP,h1])
 ·cases hg
end
end Rx.Ry
end Go.Proofs.YtmijlcldmefggaaGreatDoor
