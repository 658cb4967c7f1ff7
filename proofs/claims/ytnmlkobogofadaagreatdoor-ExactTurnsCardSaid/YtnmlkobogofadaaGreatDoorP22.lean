/- What the proof rests on, part 22: What Parse calls, and where the library's globals lie. From a row's condition to what the walks ask of the world; numbers as they are handed in. A region, in whatever order it comes: an invariant over the set of what has come up. No program. Straight code, run over names in the place of values: the  -/
import Derived.Test.YtnmlkobogofadaaGreatDoorP21
import Derived.Test.YtnmlkobogofadaaGreatDoorP02
import Derived.Test.YtnmlkobogofadaaGreatDoorRows
import Derived.ProofKit
import Derived.Handy
import Derived.Lay
import Derived.SevenTiedAt
import Derived.Lib.SmallJoins
import Derived.Stop.LaidErr
import Derived.Shelf.Vars
import Derived.Test.YtnmlkobogofadaaGreatDoorP10
import Derived.Laws.Cells
import Derived.Laws.Rows
namespace Go.Proofs.YtnmlkobogofadaaGreatDoor
open Go.RowKit Go.Sort
def TabM (w:World):Prop:=0<w.heap.size∧∃ m:Int,w.cell? ⟨0,0,none⟩=some (.int .i64 m)
theorem TabM.below {B:Nat} {w w':World} (h:TabM w) (hb:Below B w w') (hB:w.heap.size≤B):TabM w':=by
 obtain ⟨h1,m,h2⟩:=h
 exact ⟨Nat.lt_of_lt_of_le h1 hb.size,m,(hb.cell (p:=⟨0,0,none⟩) (Nat.lt_of_lt_of_le h1 hB)).trans h2⟩
structure Env (w:World):Prop where
 tz:Tab w
 ten:Tab10 w
 max:TabM w
theorem Env.below {B:Nat} {w w':World} (h:Env w) (hb:Below B w w') (hB:w.heap.size≤B):Env w':=⟨h.tz.below hb hB,h.ten.below hb hB,h.max.below hb hB⟩
theorem cutp_calls (l:List UInt8) (w:World):Calls Tryz.prog 104 #[.string ⟨l.toArray⟩,.string ⟨#[45]⟩] w
  fun e w'=>e=.returned (.tuple #[.string ⟨(Lib.trimPrefix l [45]).toArray⟩,.bool (Lib.hasPrefix l [45])])∧Below w.heap.size w w':=by
 refine (Tryz.strings_CutPrefix ⟨l.toArray⟩ ⟨#[45]⟩ w).mono ?_
 rintro e w' ⟨rfl,rfl⟩
 exact ⟨by simp,Below.refl _ _⟩
theorem cut_calls (l:List UInt8) (c:UInt8) (w:World) (hl:l.length≤1000000) (hM:TabM w):Calls Tryz.prog 105 #[.string ⟨l.toArray⟩,.string ⟨#[c]⟩] w
  fun e w'=>e=.returned (.tuple #[.string ⟨(Lib.cut l [c]).1.toArray⟩,.string ⟨(Lib.cut l [c]).2.1.toArray⟩,.bool (Lib.cut l [c]).2.2])∧Below w.heap.size w w':=by
 obtain ⟨-,m,hm⟩:=hM
 refine (Tryz.strings_Cut ⟨l.toArray⟩ ⟨#[c]⟩ m w (by simp [ByteArray.size];omega) hm).mono ?_
 rintro e w' ⟨rfl,n,rfl⟩
 exact ⟨by simp,below_drewN _ _⟩
end Go.Proofs.YtnmlkobogofadaaGreatDoor
namespace Go.Proofs.YtnmlkobogofadaaGreatDoor
set_option maxRecDepth 100000
set_option maxHeartbeats 80000000
open Go.ChangeShapes Go.WideShapes Go.ChangeAt Go.RowKit Go.Joins
def laidT:List (String×DataW Unit):=[("math/bits.deBruijn32tab",Rows.laid_math_bits_deBruijn32tab),("math/bits.deBruijn64tab",Rows.laid_math_bits_deBruijn64tab),("internal/strconv.uint64pow10",Rows.laid_internal_strconv_uint64pow10)]
theorem ownK:ownKnob Tryz.prog.godebug=none:=by kernel_rfl
theorem cell_lt {W:World} {b o:Nat} {v:Value} (h:W.cell? ⟨b,o,none⟩=some v):b<W.heap.size:=by
 rcases Nat.lt_or_ge b W.heap.size with hlt | hge
 ·exact hlt
 ·unfold World.cell? at h;simp only [Array.getElem?_eq_none hge] at h;cases h
theorem env_of {W:World} (hL:laidMetH Tryz.prog laidT W) (hS:W.ShapedOpen Tryz.prog):Env W:=by
 rw [MakeChecks.laidMetH_plain _ _ _ (by kernel_rfl)] at hL
 have t64:Lib.TabIs Tryz.prog W "math/bits.deBruijn64tab" .u8 (Lib.deBruijn64tab.map fun (n:Nat)=>(n:Int)):=
  Lib.tabIs_of_head (g:=1) (t:=257) (e:=5) (n:=64) (by kernel_rfl) (by kernel_rfl) Tryz.underlying257 Tryz.underlying5 (by kernel_rfl) (by kernel_rfl) (show laidMet Tryz.prog ((_,Lib.tabData .u8 _) :: _) W from Go.laidMet.tail hL)
 have t10:Lib.TabIs Tryz.prog W "internal/strconv.uint64pow10" .u64 Lib.pow10Tab:=
  Lib.tabIs_of_head (g:=4) (t:=277) (e:=23) (n:=20) (by kernel_rfl) (by kernel_rfl) Tryz.underlying277 Tryz.underlying23 (by kernel_rfl) (by kernel_rfl) (show laidMet Tryz.prog ((_,Lib.tabData .u64 _) :: _) W from Go.laidMet.tail (Go.laidMet.tail hL))
 have c64:TabAt 1 Lib.deBruijn64tab W:=fun j hj=>by
  have:=t64.cell (g:=1) (by kernel_rfl) j (by simpa using hj)
  rw [this]
  simp [List.getD,hj]
 have c10:=t10.cell (g:=4) (by kernel_rfl) 0 (by decide)
 obtain ⟨m,hm⟩:=cell_of_shapedOpen_int (g:=0) (t:=3) (zero:=#[.int .i64 0]) (k:=.i64) hS (of_decide_eq_true (by kernel_rfl)) (by kernel_rfl) rfl (by kernel_rfl) (by kernel_rfl) Tryz.underlying3
 exact ⟨⟨cell_lt (c64 0 (by decide)),c64⟩,⟨cell_lt c10,t10⟩,⟨cell_lt hm,m,hm⟩⟩
section
variable {H:Type} {enc:TypeId×Value→H}
theorem handed_shaped {C:Checked} {os:Os} {f:FuncId} {fn:Func} {s:ChangeSpec} {X:World→Prop} (hX:∀ w w':World,w.heap=w'.heap→X w→X w')
  (own:ownKnob C.prog.godebug=none) (started:os.Started) (noInit:C.prog.inits.idxOf? f=none) (hfn:C.prog.funcs[f]? = some fn)
  (witness:∃ (w:World) (tape:Tape) (i:Input),w.os=os∧(w.forCall tape i).Shaped C.prog∧i.vars=[]∧Input.okWide C.prog (w.forCall tape i) .any w.heap.size f i ∧
   ((s.pre enc C.prog fn [] false (w.forCall tape i).memory i.args∧X (w.forCall tape i).memory)∧sizedMet enc C.prog fn (OpenSpec.ofChange s) false (w.forCall tape i).memory i.args)∧({}:Assume).holds C.prog (lone (Frame.enter C.prog f i.args .normal) [] (w.forCall tape i)))
  (contract:∀ (W:World) (base:Nat) (args:Array Value) (ds gs:List (DataW H)) (before:List MemPlace),
   (∀ (j:Nat) t v,fn.params[j]? = some t→args[j]? = some v→Value.okWide C.prog W .any base t v) →
   DataW.Whole enc C.prog fn.params.toList s.vars false W args.toList ds gs before→W.ShapedOpen C.prog→X W →
   Calls C.prog f args W fun e W'=>∃ v,e=.returned v∧s.post enc C.prog fn false true false false W args v W') :
  ReturnsInHanded {} C os f .any (fun w args=>(s.pre enc C.prog fn [] false w args∧X w)∧sizedMet enc C.prog fn (OpenSpec.ofChange s) false w args) (s.post enc C.prog fn false true false false):=by
 refine returnsInHanded_of_calls own started noInit witness ?_
 intro w tape i _ hsh _ hok hpre _
 obtain ⟨_,_,_,fn',hfn',_,_,_,_,hval⟩:=hok
 have e:fn' = fn:=Option.some.inj (hfn'.symm.trans hfn)
 subst e
 obtain ⟨⟨⟨ds,gs,before,hw,hc⟩,hx⟩,hz⟩:=hpre
 have hw':=DataW.Whole.of_heap (w':=w.forCall tape i) (by rfl) hw
 refine (contract (w.forCall tape i) w.heap.size i.args ds gs before hval hw' hsh (hX _ _ (by rfl) hx)).mono fun e W' ⟨v,he,hp⟩=>?_
 subst he
 exact ChangeSpec.post_blind hp
theorem i64_bounds {n:Int} (h:(Lit.int .i64 n).wf=true):-9223372036854775808≤n∧n≤9223372036854775807:=by simpa [Lit.wf,IntKind.min,IntKind.max,IntKind.signed,IntKind.bits] using h
theorem u8_bounds {n:Int} (h:(Lit.int .u8 n).wf=true):0≤n∧n≤255:=by simpa [Lit.wf,IntKind.min,IntKind.max,IntKind.signed,IntKind.bits] using h
structure NumIn (n d:Int) (b:Nat):Prop where
 wn:(Lit.int .i64 n).wf=true
 wd:(Lit.int .i64 d).wf=true
 wb:(Lit.int .u8 (b:Int)).wf=true
theorem NumIn.n1 {n d:Int} {b:Nat} (h:NumIn n d b):-9223372036854775808≤n:=(i64_bounds h.wn).1
theorem NumIn.n2 {n d:Int} {b:Nat} (h:NumIn n d b):n≤9223372036854775807:=(i64_bounds h.wn).2
theorem NumIn.d1 {n d:Int} {b:Nat} (h:NumIn n d b):-9223372036854775808≤d:=(i64_bounds h.wd).1
theorem NumIn.d2 {n d:Int} {b:Nat} (h:NumIn n d b):d≤9223372036854775807:=(i64_bounds h.wd).2
theorem NumIn.b1 {n d:Int} {b:Nat} (h:NumIn n d b):b<256:=by have:=(u8_bounds h.wb).2;omega
theorem numCells:Tryz.prog.cellsOf 46=3:=by kernel_rfl
theorem open_num {W:World} {base:Nat} {v:Value} {x:DataW H} {p:List MemPlace} (hv:Value.okWide Tryz.prog W .any base 46 v) (h:DataW.Trod enc Tryz.prog W 0 (fun _=>true) true 46 v x p) :
  ∃ (n d:Int) (b:Nat),v=.agg #[.int .i64 n,.int .i64 d,.int .u8 (b:Int)]∧x=.agg [.lit (.int .i64 n),.lit (.int .i64 d),.lit (.int .u8 (b:Int))]∧p=[]∧NumIn n d b:=by
 obtain ⟨c0,c1,c2,y0,y1,y2,m,rfl,rfl,rfl,hy0,hy1,hy2⟩:=open_agg3 Tryz.underlying46 (by kernel_rfl) numCells hv h
 obtain ⟨n,e0,rfl,wn⟩:=DataW.trod_int Tryz.underlying2 hy0
 obtain ⟨d,e1,rfl,wd⟩:=DataW.trod_int Tryz.underlying2 hy1
 obtain ⟨b,e2,rfl,wb⟩:=DataW.trod_int Tryz.underlying5 hy2
 simp at e0 e1 e2
 subst e0 e1 e2
 have:=u8_bounds wb
 obtain ⟨k,rfl⟩:∃ k:Nat,b=(k:Int):=⟨b.toNat,by omega⟩
 exact ⟨n,d,k,rfl,rfl,rfl,wn,wd,wb⟩
theorem shut_num {W:World} {base:Nat} {sp:Nat→Bool} {held:Bool} {n d:Int} {b:Nat} (h:NumIn n d b):DataW.Trod enc Tryz.prog W base sp held 46 (.agg #[.int .i64 n,.int .i64 d,.int .u8 (b:Int)]) (.agg [.lit (.int .i64 n),.lit (.int .i64 d),.lit (.int .u8 (b:Int))]) []:=by
 have g0:∃ m,DataW.trod enc Tryz.prog W base sp held m 2 [.int .i64 n]=some (.lit (.int .i64 n),[]):=⟨1,by simp [DataW.trod,Tryz.underlying2,h.wn]⟩
 have g1:∃ m,DataW.trod enc Tryz.prog W base sp held m 2 [.int .i64 d]=some (.lit (.int .i64 d),[]):=⟨1,by simp [DataW.trod,Tryz.underlying2,h.wd]⟩
 have g2:∃ m,DataW.trod enc Tryz.prog W base sp held m 5 [.int .u8 (b:Int)]=some (.lit (.int .u8 (b:Int)),[]):=⟨1,by simp [DataW.trod,Tryz.underlying5,h.wb]⟩
 simpa using shut_agg3 (enc:=enc) (w:=W) (base:=base) (spare:=sp) (held:=held) Tryz.underlying46 (by kernel_rfl) numCells g0 g1 g2
end
end Go.Proofs.YtnmlkobogofadaaGreatDoor
namespace Go.Proofs.YtnmlkobogofadaaGreatDoor.Rx
open Go.RowKit
variable {P:Program}
def lexB:Nat→List Oper→Bool
 | _,[]=>true
 | i,o :: r=>(o.after.toList.all fun e=>!Region.binds .any e || decide (e.on<i)) && lexB (i+1) r
theorem lexB_get:∀ {l:List Oper} {k i:Nat} {o:Oper},lexB k l=true→l[i]? = some o→∀ e∈o.after,Region.binds .any e=true→e.on<k+i
 | [],_,_,_,_,h=>by simp at h
 | x :: r,k,0,o,hb,h=>by
  simp only [List.getElem?_cons_zero,Option.some.injEq] at h
  subst h
  simp only [lexB,Bool.and_eq_true,List.all_eq_true,Bool.or_eq_true,decide_eq_true_eq] at hb
  intro e he hbi
  rcases hb.1 e (by simpa using he) with h2 | h2
  ·simp [hbi] at h2
  ·omega
 | x :: r,k,i+1,o,hb,h=>by
  simp only [lexB,Bool.and_eq_true] at hb
  intro e he hbi
  have:=lexB_get hb.2 (by simpa using h) e he hbi
  omega
def more (dn:Nat→Bool) (i:Nat):Nat→Bool:=fun k=>dn k || k == i
def Closed (l:List Oper) (dn:Nat→Bool):Prop:=∀ j oj,l[j]? = some oj→dn j=true→∀ e∈oj.after,Region.binds .any e=true→dn e.on=true
def Step (P:Program) (l:List Oper) (J:(Nat→Bool)→Act→World→Prop):Prop:=
 ∀ (dn:Nat→Bool) a W i o,l[i]? = some o→dn i=false→(∀ e∈o.after,Region.binds .any e=true→dn e.on=true)→Closed l dn→J dn a W →
  if Region.wanted o (yielded l.toArray a.tmps) then takes P o a W (fun v W'=>J (more dn i) (a.put o.dst v) W') else J (more dn i) (a.put o.dst undef) W
theorem wpOp_of_step {l:List Oper} {J:(Nat→Bool)→Act→World→Prop} {Q:Exit→Act→World→Prop} (hs:Step P l J) {dn:Nat→Bool} {a:Act} {W:World} {i:Nat} {o:Oper} (ho:l[i]? = some o) (hd:dn i=false)
  (hw:∀ e∈o.after,Region.binds .any e=true→dn e.on=true) (hc:Closed l dn) (hJ:J dn a W) {K:Act→World→Prop} (hK:∀ a' W',J (more dn i) a' W'→K a' W'):wpOp P l.toArray Q i K a W:=by
 have h:=hs dn a W i o ho hd hw hc hJ
 unfold wpOp
 rw [show l.toArray[i]? = some o by simpa using ho]
 simp only
 split
 ·rename_i hh
  rw [if_pos hh] at h
  exact .inl (wp_of_takes h fun v w' h'=>hK _ _ h')
 ·rename_i hh
  rw [if_neg hh] at h
  exact hK _ _ h
theorem Closed.more {l:List Oper} {dn:Nat→Bool} (h:Closed l dn) {i:Nat} {o:Oper} (ho:l[i]? = some o) (hw:∀ e∈o.after,Region.binds .any e=true→dn e.on=true):Closed l (more dn i):=by
 intro j oj hj hd e he hb
 unfold Rx.more at hd ⊢
 by_cases hji:j=i
 ·subst hji
  have:oj=o:=Option.some.inj (hj.symm.trans ho)
  subst this
  simp [hw e he hb]
 ·have:dn j=true:=by simpa [hji] using hd
  simp [h j oj hj this e he hb]
theorem any_of {l:List Oper} {J:(Nat→Bool)→Act→World→Prop} {Q:Exit→Act→World→Prop} (hl:lexB 0 l=true) (hs:Step P l J) (hE:∀ dn a W,(∀ k,k<l.length→dn k=true)→J dn a W→Q .normal a W) :
  ∀ (f:Nat) (listed:Array Bool) (dn:Nat→Bool) (a:Act) (W:World),listed.size=l.length→(∀ k,k<l.length→dn k=listed.getD k true)→Closed l dn→J dn a W→left listed l.length=f →
   wpAny P .any l.toArray Q f listed a W:=by
 intro f
 induction f with
 | zero =>
  intro listed dn a W hsz hdn hc hJ hleft
  have hall:=left_zero hleft
  refine ⟨?_,hE dn a W (fun k hk=>by rw [hdn k hk];exact hall k hk) hJ⟩
  apply List.eq_nil_iff_forall_not_mem.2
  intro i hi
  obtain ⟨h1,o,ho,_⟩:=mem_ready.1 hi
  have hlt:i<l.length:=by have:=(Array.getElem?_eq_some_iff.1 ho).1;simpa using this
  rw [hall i hlt] at h1
  cases h1
 | succ f ih =>
  intro listed dn a W hsz hdn hc hJ hleft
  obtain ⟨i0,hi0,hu0,hm0⟩:=left_pos (listed:=listed) (n:=l.length) (by omega)
  have hready0:i0∈Region.ready .any l.toArray listed:=by
   have ho:l[i0]? = some l[i0]:=List.getElem?_eq_getElem hi0
   refine mem_ready.2 ⟨hu0,l[i0],by simp [hi0],fun e he hb=>?_⟩
   have hlx:=lexB_get hl ho e he hb
   have h1:=hm0 e.on (by omega)
   have hlt:e.on<listed.size:=by omega
   simpa [hlt] using h1
  refine ⟨fun h0=>(by rw [h0] at hready0;cases hready0),fun i hi=>?_⟩
  obtain ⟨hun,o,ho,hdone⟩:=mem_ready.1 hi
  have ho':l[i]? = some o:=by simpa using ho
  have hlt:i<l.length:=(List.getElem?_eq_some_iff.1 ho').1
  have hisz:i<listed.size:=by omega
  have hw:∀ e∈o.after,Region.binds .any e=true→dn e.on=true:=fun e he hb=>by
   have h1:=hdone e he hb
   have hlx:=lexB_get hl ho' e he hb
   have hk:e.on<l.length:=by omega
   have hk2:e.on<listed.size:=by omega
   rw [hdn e.on hk]
   simpa [hk2] using h1
  refine wpOp_of_step hs ho' (by rw [hdn i hlt];exact hun) hw hc hJ fun a' W' hJ'=>?_
  refine ih _ (more dn i) a' W' (by simp [hsz]) (fun k hk=>?_) (hc.more ho' hw) hJ' (by have:=left_set hisz hun hlt;omega)
  unfold more
  by_cases e:k=i
  ·subst e;simp [hisz]
  ·rw [getD_set_ne true (Ne.symm e),hdn k hk,beq_false_of_ne e,Bool.or_false]
theorem seq_of {l:List Oper} {J:(Nat→Bool)→Act→World→Prop} {Q:Exit→Act→World→Prop} (hl:lexB 0 l=true) (hs:Step P l J) (hE:∀ dn a W,(∀ k,k<l.length→dn k=true)→J dn a W→Q .normal a W) :
  ∀ (n i:Nat) (dn:Nat→Bool) (a:Act) (W:World),i+n=l.length→(∀ k,dn k=decide (k<i))→Closed l dn→J dn a W→wpOps P l.toArray Q (List.range' i n) a W:=by
 intro n
 induction n with
 | zero =>
  intro i dn a W hi hdn _ hJ
  exact hE dn a W (fun k hk=>by rw [hdn];simp;omega) hJ
 | succ n ih =>
  intro i dn a W hi hdn hc hJ
  rw [List.range'_succ,wpOps_cons]
  have hlt:i<l.length:=by omega
  have ho:l[i]? = some l[i]:=by simp [hlt]
  have hw:∀ e∈l[i].after,Region.binds .any e=true→dn e.on=true:=fun e he hb=>by
   have:=lexB_get hl ho e he hb
   rw [hdn];simp;omega
  refine wpOp_of_step hs ho (by rw [hdn];simp) hw hc hJ fun a' W' hJ'=>?_
  refine ih (i+1) (more dn i) a' W' (by omega) (fun k=>?_) (hc.more ho hw) hJ'
  unfold more
  rw [hdn,Bool.eq_iff_iff]
  simp
  omega
theorem region_of {id:Nat} {b:Bool} {l:List Oper} {a0:Act} {w:World} {J:(Nat→Bool)→Act→World→Prop} {Q:Exit→Act→World→Prop} (hm:P.follows .mixedOrders=true) (hl:lexB 0 l=true) (hs:Step P l J)
  (h0:J (fun _=>false) a0 w) (h1:J (fun _=>false) a0 w.drew) (hE:∀ dn a W,(∀ k,k<l.length→dn k=true)→J dn a W→Q .normal a W):(Code.region id l.toArray b).wp P Q a0 w:=by
 have hc:Closed l (fun _=>false):=fun _ _ _ h=>by cases h
 cases b with
 | false =>
  refine wp_region ?_
  rw [List.range_eq_range']
  exact seq_of hl hs hE _ 0 _ a0 w (by simp) (fun k=>by simp) hc h0
 | true =>
  refine wp_region_any hm ?_
  refine any_of hl hs hE _ _ (fun _=>false) a0 w.drew (by simp) (fun k hk=>?_) hc h1 ?_
  ·exact (getD_in (by simpa using hk) (getD_replicate_false _ _)).symm
  ·have:=left_all l.length 0 l.length (Nat.le_refl _)
   simpa using this
end Go.Proofs.YtnmlkobogofadaaGreatDoor.Rx
namespace Go.Proofs.YtnmlkobogofadaaGreatDoor.Rx
open Go.RowKit
def Bx (W:World) (b:Nat) (T:TypeId) (vs:List Value):Prop:=W.heap[b]? = some (.cells vs.toArray T (0,0))
structure Nv where
 b:Bool
 u:Int
 p:Option Addr
 l:Nat
 c:Nat
 t:ByteArray
 pos:Nat
instance:Inhabited Nv:=⟨⟨false,0,none,0,0,.empty,0⟩⟩
abbrev Env:=Nat→Nv
inductive Cell
 | bl (b:Bool)
 | it (k:IntKind) (n:Int)
 | st (s:ByteArray)
 | nils
 | ob (n:Nat)
 | ou (n:Nat)
 | oi (n:Nat)
 | o8 (n:Nat)
 | os (n:Nat)
 | ot (n:Nat)
 | ptr (k off:Nat)
def Cell.den (ρ:Env):Cell→Value
 | .bl b=>.bool b
 | .it k n=>.int k n
 | .st s=>.string s
 | .nils=>.slice none 0 0
 | .ob n=>.bool (ρ n).b
 | .ou n=>.int .u64 (ρ n).u
 | .oi n=>.int .i64 (ρ n).u
 | .o8 n=>.int .u8 (ρ n).u
 | .os n=>.slice (ρ n).p (ρ n).l (ρ n).c
 | .ot n=>.string (ρ n).t
 | .ptr k off=>.pointer (some ⟨(ρ k).pos,off,none⟩)
def Cell.nm:Cell→List Nat
 | .ob n | .ou n | .oi n | .o8 n | .os n | .ot n=>[n]
 | .ptr k _=>[k]
 | _=>[]
inductive El
 | s (c:Cell)
 | a (l:List Cell)
def El.den (ρ:Env):El→Value
 | .s c=>c.den ρ
 | .a l=>.agg (l.map (Cell.den ρ)).toArray
def El.cells:El→List Cell
 | .s c=>[c]
 | .a l=>l
inductive SV
 | e (x:El)
 | t (l:List El)
 | und
def SV.den (ρ:Env):SV→Value
 | .e x=>x.den ρ
 | .t l=>.tuple (l.map (El.den ρ)).toArray
 | .und=>undef
def SV.nm:SV→List Nat
 | .e x=>x.cells.flatMap Cell.nm
 | .t l=>l.flatMap fun x=>x.cells.flatMap Cell.nm
 | .und=>[]
theorem Cell.den_congr {ρ ρ':Env} {c:Cell} (h:∀ n∈c.nm,ρ n=ρ' n):c.den ρ=c.den ρ':=by
 cases c <;> simp_all [Cell.den,Cell.nm]
theorem cells_congr {ρ ρ':Env} {l:List Cell} (h:∀ n∈l.flatMap Cell.nm,ρ n=ρ' n):l.map (Cell.den ρ)=l.map (Cell.den ρ'):=
 List.map_congr_left fun c hc=>Cell.den_congr fun n hn=>h n (List.mem_flatMap.2 ⟨c,hc,hn⟩)
theorem El.den_congr {ρ ρ':Env} {x:El} (h:∀ n∈x.cells.flatMap Cell.nm,ρ n=ρ' n):x.den ρ=x.den ρ':=by
 cases x with
 | s c=>exact Cell.den_congr fun n hn=>h n (by simpa [El.cells] using hn)
 | a l=>simp only [El.den];rw [cells_congr (show ∀ n∈l.flatMap Cell.nm,ρ n=ρ' n from h)]
theorem SV.den_congr {ρ ρ':Env} {x:SV} (h:∀ n∈x.nm,ρ n=ρ' n):x.den ρ=x.den ρ':=by
 cases x with
 | e x=>exact El.den_congr h
 | t l =>
  simp only [SV.den]
  rw [List.map_congr_left fun x hx=>El.den_congr fun n hn=>h n (List.mem_flatMap.2 ⟨x,hx,hn⟩)]
 | und=>rfl
theorem Cell.plain (ρ:Env) (c:Cell):(c.den ρ).cells=#[c.den ρ]:=by cases c <;> rfl
theorem El.den_cells (ρ:Env) (x:El):(x.den ρ).cells=(x.cells.map (Cell.den ρ)).toArray:=by
 cases x with
 | s c=>exact c.plain ρ
 | a l=>rfl
def absC:Value→Option Cell
 | .bool b=>some (.bl b)
 | .int k n=>some (.it k n)
 | .string s=>some (.st s)
 | .slice none 0 0=>some .nils
 | _=>none
def absL:List Value→Option (List Cell)
 | []=>some []
 | v :: r=>match absC v,absL r with
  | some c,some l=>some (c :: l)
  | _,_=>none
def absV:Value→Option SV
 | .agg cs=>(absL cs.toList).map fun l=>.e (.a l)
 | v=>(absC v).map fun c=>.e (.s c)
theorem absC_den {v:Value} {c:Cell} (ρ:Env) (h:absC v=some c):c.den ρ=v:=by
 unfold absC at h
 split at h <;> first | (cases h;rfl) | cases h
theorem absL_den (ρ:Env):∀ {vs:List Value} {l:List Cell},absL vs=some l→l.map (Cell.den ρ)=vs
 | [],l,h=>by simp only [absL,Option.some.injEq] at h;subst h;rfl
 | v :: r,l,h=>by
  simp only [absL] at h
  split at h
  ·rename_i c l' h1 h2
   cases h
   simp [absC_den ρ h1,absL_den ρ h2]
  ·cases h
theorem absV_den {v:Value} {x:SV} (ρ:Env) (h:absV v=some x):x.den ρ=v:=by
 unfold absV at h
 split at h
 ·obtain ⟨l,h1,rfl⟩:=Option.map_eq_some_iff.1 h
  simp only [SV.den,El.den]
  rw [absL_den ρ h1]
 ·obtain ⟨c,h1,rfl⟩:=Option.map_eq_some_iff.1 h
  exact absC_den ρ h1
structure Sys where
 F:Type
 nm:F→List Nat
 on:Env→F→World→Prop
 okC:List Cell→Bool
 cg:∀ {ρ ρ' f W},(∀ n∈nm f,ρ n=ρ' n)→on ρ f W→on ρ' f W
 bl:∀ {ρ f W W'},Below W.heap.size W W'→on ρ f W→on ρ f W'
 st:∀ {ρ f W b T cs i u},okC cs=true→Bx W b T (cs.map (Cell.den ρ))→on ρ f W→on ρ f (W.setCell ⟨b,i,none⟩ u)
abbrev M:Nat:=64
structure Con (S:Sys) where
 fn:FuncId
 app:List S.F→Nat→List SV→Option (SV×List S.F)
def Con.Ok (P:Program) (S:Sys) (E:World→Prop) (c:Con S):Prop:=
 ∀ fs b args res new,c.app fs b args=some (res,new)→∀ ρ W,(∀ f∈fs,S.on ρ f W)→E W →
  Calls P c.fn (args.map (SV.den ρ)).toArray W fun e W'=>∃ ρ':Env,(∀ n,n<b∨b+M≤n→ρ' n=ρ n)∧e=.returned (res.den ρ')∧Below W.heap.size W W'∧∀ f∈new,S.on ρ' f W'
inductive Eff
 | no
 | new (T:TypeId) (cs:List Cell)
 | put (k off:Nat) (cs:List Cell)
structure Rec (F:Type) where
 v:SV
 ef:Eff
 fs:List F
 acc:List Nat
instance {F:Type}:Inhabited (Rec F):=⟨⟨.und,.no,[],[]⟩⟩
def isAggB (P:Program) (t:TypeId):Option Bool:=
 match P.underlying t with
 | some (.struct _) | some (.array _ _)=>some true
 | some _=>some false
 | none=>none
def sizeB (P:Program) (t:TypeId):Option Nat:=(P.info? t).map (·.size)
def fieldB (P:Program) (t:TypeId) (f:Nat):Option Field:=
 match P.underlying t with
 | some (.struct fs)=>fs[f]?
 | _=>none
def splice (off:Nat) (new cs:List Cell):List Cell:=cs.take off ++ new ++ cs.drop (off+new.length)
def cmpB:BinOp→Int→Int→Option Bool
 | .eql,a,b=>some (a == b)
 | .neq,a,b=>some (a != b)
 | .lss,a,b=>some (decide (a<b))
 | .leq,a,b=>some (decide (a≤b))
 | .gtr,a,b=>some (decide (a > b))
 | .geq,a,b=>some (decide (a≥b))
 | _,_,_=>none
structure Tests (S:Sys) where
 eq:List S.F→Cell→Cell→Option Bool
 ok:∀ {fs c d x},eq fs c d=some x→∀ ρ W,(∀ f∈fs,S.on ρ f W)→∃ s t:ByteArray,c.den ρ=.string s∧d.den ρ=.string t∧(s.toList == t.toList)=x
def binB {S:Sys} (P:Program) (H:Tests S) (db:List S.F) (op:BinOp) (T:TypeId):Cell→Cell→Option Bool
 | .it k a,.it k' b=>if k=k' then cmpB op a b else none
 | .bl a,.bl b=>match P.underlying T,op with
  | some .bool,.eql=>some (a == b)
  | some .bool,.neq=>some (!(a == b))
  | _,_=>none
 | c,d=>match op,H.eq db c d with
  | .eql,some x=>some x
  | .neq,some x=>some (!x)
  | _,_=>none
def opd (rd:Tmp→Option SV):Operand→Option SV
 | .tmp t=>rd t
 | .const v=>absV v
 | _=>none
def opds (rd:Tmp→Option SV):List Operand→Option (List SV)
 | []=>some []
 | x :: r=>match opd rd x,opds rd r with
  | some v,some l=>some (v :: l)
  | _,_=>none
def findCon {S:Sys}:List (Con S)→FuncId→List S.F→Nat→List SV→Option (SV×List S.F)
 | [],_,_,_,_=>none
 | c :: r,f,db,b,args=>if c.fn=f then (match c.app db b args with
   | some x=>some x
   | none=>findCon r f db b args) else findCon r f db b args
def okPuts (S:Sys) (off:Nat) (new cs:List Cell):Bool:=(List.range (new.length+1)).all fun m=>S.okC (splice off (new.take m) cs)
def callB (P:Program) (f:FuncId):Bool:=
 match P.funcs[f]? with
 | some fn=>fn.body.isSome && !(fn.name == "runtime.NumGoroutine")
 | none=>false
def placesB (P:Program):List Field→Option (List (Nat×Nat))
 | []=>some []
 | f :: r=>match sizeB P f.type,placesB P r with
  | some n,some l=>some ((f.offset,n) :: l)
  | _,_=>none
def fillB (pl:List (Nat×Nat)):List (Nat×El)→List Cell→Option (List Cell)
 | [],cs=>some cs
 | (i,x) :: r,cs=>match pl[i]? with
  | some (off,n)=>if x.cells.length=n && decide (off+n≤cs.length) then fillB pl r (splice off x.cells cs) else none
  | none=>none
def partsB (rd:Tmp→Option SV):List (Nat×Operand)→Option (List (Nat×El))
 | []=>some []
 | (i,x) :: r=>match opd rd x,partsB rd r with
  | some (.e v),some l=>some ((i,v) :: l)
  | _,_=>none
def zeroB (P:Program) (t:TypeId):Option (List Cell):=
 match (P.info? t).bind (·.zero) with
 | some z=>absL z.cells.toList
 | none=>none
def evalOp {S:Sys} (P:Program) (H:Tests S) (cons:List (Con S)) (rd:Tmp→Option SV) (ct:Nat→Option (TypeId×List Cell)) (db:List S.F) (b:Nat):Op→Option (Rec S.F)
 | .move x | .assign x=>(opd rd x).map fun v=>⟨v,.no,[],[]⟩
 | .pick c x y=>match opd rd c with
  | some (.e (.s (.bl true)))=>(opd rd x).map fun v=>⟨v,.no,[],[]⟩
  | some (.e (.s (.bl false)))=>(opd rd y).map fun v=>⟨v,.no,[],[]⟩
  | _=>none
 | .box T x=>match opd rd x with
  | some (.e x)=>some ⟨.e (.s (.ptr b 0)),.new T x.cells,[],[]⟩
  | _=>none
 | .alloc T=>match (P.info? T).bind (·.zero) with
  | some z=>match absV z with
   | some (.e x)=>some ⟨.e (.s (.ptr b 0)),.new T x.cells,[],[]⟩
   | _=>none
  | none=>none
 | .load t a=>match opd rd a with
  | some (.e (.s (.ptr k off)))=>match ct k,isAggB P t,sizeB P t with
   | some (_,cs),some true,some n=>if off+n≤cs.length then some ⟨.e (.a ((cs.drop off).take n)),.no,[],[k]⟩ else none
   | some (_,cs),some false,_=>match cs[off]? with
    | some c=>some ⟨.e (.s c),.no,[],[k]⟩
    | none=>none
   | _,_,_=>none
  | _=>none
 | .store t a x=>match opd rd a,opd rd x with
  | some (.e (.s (.ptr k off))),some (.e x)=>match ct k,sizeB P t with
   | some (_,cs),some n=>if x.cells.length=n && decide (off+n≤cs.length) && okPuts S off x.cells cs then some ⟨.und,.put k off x.cells,[],[k]⟩ else none
   | _,_=>none
  | _,_=>none
 | .fieldAddr s x f=>match opd rd x,fieldB P s f with
  | some (.e (.s (.ptr k off))),some fd=>if (sizeB P fd.type).any (· != 0) then some ⟨.e (.s (.ptr k (off+fd.offset))),.no,[],[]⟩ else none
  | _,_=>none
 | .field s x f=>match opd rd x,fieldB P s f with
  | some (.e (.a cs)),some fd=>match isAggB P fd.type,sizeB P fd.type with
   | some true,some n=>some ⟨.e (.a ((cs.drop fd.offset).take n)),.no,[],[]⟩
   | some false,_=>match cs[fd.offset]? with
    | some c=>some ⟨.e (.s c),.no,[],[]⟩
    | none=>none
   | _,_=>none
  | _,_=>none
 | .binOp op T x y _=>match opd rd x,opd rd y with
  | some (.e (.s c)),some (.e (.s d))=>(binB P H db op T c d).map fun x=>⟨.e (.s (.bl x)),.no,[],[]⟩
  | _,_=>none
 | .unOp .not _ x=>match opd rd x with
  | some (.e (.s (.bl x)))=>some ⟨.e (.s (.bl !x)),.no,[],[]⟩
  | _=>none
 | .extract x i=>match opd rd x with
  | some (.t l)=>match l[i]? with
   | some e=>some ⟨.e e,.no,[],[]⟩
   | none=>none
  | _=>none
 | .build t parts=>match P.underlying t with
  | some (.struct fs)=>match placesB P fs.toList,zeroB P t,partsB rd parts.toList with
   | some pl,some zc,some ps=>match fillB pl ps zc with
    | some cs=>some ⟨.e (.a cs),.no,[],[]⟩
    | none=>none
   | _,_,_=>none
  | _=>none
 | .call c=>match c.callee,opds rd c.args.toList with
  | .value (.func f),some args=>if callB P f then (match findCon cons f db b args with
   | some (v,fs)=>some ⟨v,.no,fs,[]⟩
   | none=>none) else none
  | _,_=>none
 | _=>none
end Go.Proofs.YtnmlkobogofadaaGreatDoor.Rx
namespace Go.Proofs.YtnmlkobogofadaaGreatDoor.Rx
open Go.RowKit
def setMany (W:World) (b:Nat):Nat→List Value→World
 | _,[]=>W
 | off,v :: r=>setMany (W.setCell ⟨b,off,none⟩ v) b (off+1) r
theorem Bx.lt {W:World} {b:Nat} {T:TypeId} {vs:List Value} (h:Bx W b T vs):b<W.heap.size:=by
 rcases Nat.lt_or_ge b W.heap.size with hlt | hge
 ·exact hlt
 ·unfold Bx at h;rw [Array.getElem?_eq_none hge] at h;cases h
theorem Bx.cell {W:World} {b:Nat} {T:TypeId} {vs:List Value} (h:Bx W b T vs) (i:Nat):W.cell? ⟨b,i,none⟩=vs[i]?:=by
 unfold Bx at h
 simp [World.cell?,h]
theorem Bx.frozen {W:World} {b:Nat} {T:TypeId} {vs:List Value} (h:Bx W b T vs) (i:Nat):W.frozen? ⟨b,i,none⟩=false:=by
 unfold Bx at h
 simp [World.frozen?,h]
theorem Bx.below {W W':World} {b:Nat} {T:TypeId} {vs:List Value} (h:Bx W b T vs) (hb:Below W.heap.size W W'):Bx W' b T vs:=(hb.block b h.lt).trans h
theorem Bx.new (W:World) (T:TypeId) (vs:List Value):Bx (W.alloc (.cells vs.toArray T)) W.heap.size T vs:=heap_alloc_new W _
theorem Bx.set {W:World} {b:Nat} {T:TypeId} {vs:List Value} (h:Bx W b T vs) (i:Nat) (u:Value):Bx (W.setCell ⟨b,i,none⟩ u) b T (vs.set i u):=by
 unfold Bx at h ⊢
 simp [World.setCell,Array.getElem?_modify,h]
theorem Bx.far {W:World} {b:Nat} {T:TypeId} {vs:List Value} (h:Bx W b T vs) {a:Addr} (ha:b≠a.block) (u:Value):Bx (W.setCell a u) b T vs:=(Below.heap_setCell W a u b ha).trans h
def flat:Value→Bool
 | .agg _ | .tuple _=>false
 | _=>true
theorem Cell.flat (ρ:Env) (c:Cell):Rx.flat (c.den ρ)=true:=by cases c <;> rfl
theorem set_splice {off:Nat} {done:List Cell} {c:Cell} {cs:List Cell} (h:off+done.length<cs.length):(splice off done cs).set (off+done.length) c=splice off (done ++ [c]) cs:=by
 have hl:(cs.take off).length=off:=by simp;omega
 unfold splice
 rw [List.set_append_right _ _ (by simp;omega)]
 simp only [List.length_append,hl,List.length_singleton]
 rw [show off+done.length - (off+done.length)=0 by omega]
 have hd:cs.drop (off+done.length)=cs[off+done.length] :: cs.drop (off+done.length+1):=(List.drop_eq_getElem_cons h)
 rw [hd,List.set_cons_zero,show off+(done.length+1)=off+done.length+1 by omega]
 simp
theorem splice_nil (off:Nat) (cs:List Cell):splice off [] cs=cs:=by simp [splice]
theorem splice_length {off:Nat} {new cs:List Cell} (h:off+new.length≤cs.length):(splice off new cs).length=cs.length:=by simp [splice];omega
theorem foldl_splice (ρ:Env) {off:Nat} {cs new:List Cell} (hle:off+new.length≤cs.length):∀ (rest done:List Cell),done ++ rest=new →
  ((rest.map (Cell.den ρ)).zipIdx done.length).foldl (fun (A:Array Value) (x:Value×Nat)=>A.setIfInBounds (off+x.2) x.1) ((splice off done cs).map (Cell.den ρ)).toArray=((splice off new cs).map (Cell.den ρ)).toArray
 | [],done,hd=>by
  rw [List.append_nil] at hd
  subst hd
  rfl
 | c :: rest,done,hd=>by
  have hlen:done.length+(rest.length+1)=new.length:=by rw [← hd];simp
  have hsp:=set_splice (off:=off) (done:=done) (c:=c) (cs:=cs) (by omega)
  have ih:=foldl_splice ρ hle rest (done ++ [c]) (by rw [← hd];simp)
  rw [List.length_append,List.length_singleton] at ih
  simp only [List.map_cons,List.zipIdx_cons,List.foldl_cons]
  rw [← ih,← hsp]
  congr 1
  simp [List.map_set]
section
variable {P:Program}
theorem add_off (b off i:Nat):(⟨b,off,none⟩:Addr).add i=⟨b,off+i,none⟩:=by
 unfold Addr.add
 split
 ·rename_i h;subst h;rfl
 ·rfl
theorem run_isAgg {t:TypeId} {x:Bool} {w:World} (h:isAggB P t=some x):(isAgg t).run P w=.ok x w:=by
 unfold isAggB at h
 unfold isAgg
 cases hu:P.underlying t with
 | none=>rw [hu] at h;cases h
 | some d =>
  rw [hu] at h
  cases d <;> simp_all [Sem.run_bind,underlying,program,Sem.run,Result.andThen,pure]
theorem run_sizeOf {t:TypeId} {n:Nat} {w:World} (h:sizeB P t=some n):(sizeOf t).run P w=.ok n w:=by
 unfold sizeB at h
 obtain ⟨i,hi,rfl⟩:=Option.map_eq_some_iff.1 h
 simp [sizeOf,typeInfo,hi,Sem.run_bind,program,Sem.run,Result.andThen,pure]
theorem run_load_agg {t:TypeId} {n b off:Nat} {T:TypeId} {vs:List Value} {w:World} (ha:isAggB P t=some true) (hn:sizeB P t=some n) (hb:Bx w b T vs) (hle:off+n≤vs.length) :
  (Instr.loadAt t (.pointer (some ⟨b,off,none⟩))).run P w=.ok (.agg ((vs.drop off).take n).toArray) w:=by
 have hlen:((vs.drop off).take n).length=n:=by simp;omega
 have h1:=run_loadCells_list (P:=P) w ⟨b,off,none⟩ ((vs.drop off).take n) (fun j v hv=>by
  rw [add_off,hb.cell]
  rw [List.getElem?_take] at hv
  split at hv
  ·rwa [List.getElem?_drop] at hv
  ·cases hv)
 rw [hlen] at h1
 simp only [Instr.loadAt,loadVar,Instr.sureAddr,Sem.run_bind,Sem.run,Result.andThen,pure,run_isAgg ha,run_sizeOf hn,if_true,h1]
theorem run_load_one {t:TypeId} {b off:Nat} {T:TypeId} {vs:List Value} {v:Value} {w:World} (ha:isAggB P t=some false) (hb:Bx w b T vs) (hv:vs[off]? = some v) :
  (Instr.loadAt t (.pointer (some ⟨b,off,none⟩))).run P w=.ok v w:=by
 have hc:w.cell? ⟨b,off,none⟩=some v:=(hb.cell off).trans hv
 simp [Instr.loadAt,loadVar,Instr.sureAddr,Sem.run_bind,Sem.run,Result.andThen,pure,run_isAgg ha,load,hc]
theorem run_store1 {b off:Nat} {T:TypeId} {vs:List Value} {v:Value} {w:World} (hb:Bx w b T vs) (ho:off<vs.length) (hf:flat v=true):(store ⟨b,off,none⟩ v).run P w=.ok () (w.setCell ⟨b,off,none⟩ v):=by
 have hc:w.cell? ⟨b,off,none⟩=some vs[off]:=(hb.cell off).trans (by simp [ho])
 have hz:=hb.frozen off
 cases v <;> first | (cases hf;done) | simp [store,Sem.run,hc,hz]
theorem run_storeCells {b:Nat} {T:TypeId}:∀ (new:List Value) (off i:Nat) {vs:List Value} {w:World},Bx w b T vs→off+i+new.length≤vs.length→(∀ v∈new,flat v=true) →
  (storeCells ⟨b,off,none⟩ new i).run P w=.ok () (setMany w b (off+i) new)
 | [],off,i,vs,w,_,_,_=>rfl
 | v :: r,off,i,vs,w,hb,hl,hf=>by
  simp only [List.length_cons] at hl
  have h1:=run_store1 (P:=P) hb (off:=off+i) (v:=v) (by omega) (hf v (by simp))
  have h2:=run_storeCells r off (i+1) (hb.set (off+i) v) (by simp;omega) (fun x hx=>hf x (by simp [hx]))
  simp only [storeCells,Sem.run_bind,add_off,h1,Result.andThen,setMany]
  exact h2
theorem run_store {t:TypeId} {b off:Nat} {T:TypeId} {vs:List Value} {v:Value} {new:List Value} {w:World} (hc:v.cells=new.toArray) (hn:sizeB P t=some new.length) (hb:Bx w b T vs) (hle:off+new.length≤vs.length) (hf:∀ v∈new,flat v=true) :
  (Instr.storeAt t (.pointer (some ⟨b,off,none⟩)) v).run P w=.ok () (setMany w b off new):=by
 have h1:=run_storeCells (P:=P) new off 0 hb (by omega) hf
 simp only [Instr.storeAt,Instr.sureAddr,storeVar,Sem.run_bind,Sem.run,Result.andThen,pure,run_sizeOf hn,hc]
 simpa using h1
theorem run_box {T:TypeId} {v:Value} {new:List Value} {w:World} (hc:v.cells=new.toArray):(Instr.box T v).run P w=.ok (.pointer (some ⟨w.heap.size,0,none⟩)) (w.alloc (.cells new.toArray T)):=by
 simp [Instr.box,newVar,newRow,newObj,hc,Sem.run_bind,Sem.run,Result.andThen,pure]
theorem run_alloc {T:TypeId} {v:Value} {new:List Value} {w:World} (hz:(P.info? T).bind (·.zero)=some v) (hc:v.cells=new.toArray):(Instr.alloc T true (.tuple #[])).run P w=.ok (.pointer (some ⟨w.heap.size,0,none⟩)) (w.alloc (.cells new.toArray T)):=by
 obtain ⟨i,hi,hz'⟩:=Option.bind_eq_some_iff.1 hz
 simp [Instr.alloc,zeroValue,typeInfo,program,hi,hz',newVar,newRow,newObj,hc,Sem.run_bind,Sem.run,Result.andThen,pure]
theorem run_fieldAt {s:TypeId} {f:Nat} {fd:Field} {b off:Nat} {w:World} (h:fieldB P s f=some fd) (hs:(sizeB P fd.type).any (· != 0)=true):(Instr.fieldAt s (.pointer (some ⟨b,off,none⟩)) f).run P w=.ok (.pointer (some ⟨b,off+fd.offset,none⟩)) w:=by
 unfold fieldB at h
 split at h
 ·rename_i fs hu
  cases hn:sizeB P fd.type with
  | none=>rw [hn] at hs;cases hs
  | some n =>
   rw [hn] at hs
   have hn0:n≠0:=by simpa using hs
   simp [Instr.fieldAt,underlying,program,hu,h,Instr.sureAddr,fieldPlace,run_sizeOf hn,hn0,add_off,Sem.run_bind,Sem.run,Result.andThen,pure]
 ·cases h
theorem run_field_agg {s:TypeId} {f n:Nat} {fd:Field} {cs:List Value} {w:World} (h:fieldB P s f=some fd) (ha:isAggB P fd.type=some true) (hn:sizeB P fd.type=some n):(Instr.field s (.agg cs.toArray) f).run P w=.ok (.agg ((cs.drop fd.offset).take n).toArray) w:=by
 unfold fieldB at h
 split at h
 ·rename_i fs hu
  simp [Instr.field,underlying,program,hu,h,asAgg,part,run_isAgg ha,run_sizeOf hn,Sem.run_bind,Sem.run,Result.andThen,pure,List.take_drop]
 ·cases h
theorem run_field_one {s:TypeId} {f:Nat} {fd:Field} {cs:List Value} {v:Value} {w:World} (h:fieldB P s f=some fd) (ha:isAggB P fd.type=some false) (hv:cs[fd.offset]? = some v):(Instr.field s (.agg cs.toArray) f).run P w=.ok v w:=by
 unfold fieldB at h
 split at h
 ·rename_i fs hu
  simp [Instr.field,underlying,program,hu,h,asAgg,part,run_isAgg ha,hv,Sem.run_bind,Sem.run,Result.andThen,pure]
 ·cases h
theorem run_places {w:World}:∀ {fs:List Field} {pl:List (Nat×Nat)},placesB P fs=some pl→(fs.mapM (m:=Sem) fun f=>do pure (f.offset,← sizeOf f.type)).run P w=.ok pl w
 | [],pl,h=>by simp only [placesB,Option.some.injEq] at h;subst h;rfl
 | f :: r,pl,h=>by
  simp only [placesB] at h
  split at h
  ·rename_i n l h1 h2
   cases h
   have h3:=run_places (w:=w) h2
   rw [List.mapM_cons]
   simp only [Sem.run_bind,run_sizeOf h1,Result.andThen,pure,Sem.run] at h3 ⊢
   rw [h3]
  ·cases h
theorem fill_ok {ρ:Env} {pl:List (Nat×Nat)}:∀ {ps:List (Nat×El)} {cs out:List Cell},fillB pl ps cs=some out →
  Instr.fill (fun i=>pl.toArray[i]?) (cs.map (Cell.den ρ)).toArray (ps.map fun x=>(x.1,x.2.den ρ))=some (out.map (Cell.den ρ)).toArray
 | [],cs,out,h=>by simp only [fillB,Option.some.injEq] at h;subst h;rfl
 | (i,x) :: r,cs,out,h=>by
  simp only [fillB] at h
  split at h
  ·rename_i off n hp
   split at h
   ·rename_i hc
    simp only [Bool.and_eq_true,decide_eq_true_eq] at hc
    have ih:=fill_ok (ρ:=ρ) h
    have hfold:=foldl_splice ρ (off:=off) (cs:=cs) (new:=x.cells) (by omega) x.cells [] rfl
    rw [splice_nil,List.length_nil] at hfold
    simp only [List.map_cons,Instr.fill]
    rw [show pl.toArray[i]? = some (off,n) by simpa using hp]
    simp only
    rw [x.den_cells ρ]
    rw [if_neg (by simp;omega)]
    rw [← ih,← hfold]
    congr 1
    rw [← Array.foldl_toList,Array.toList_zipIdx]
   ·cases h
  ·cases h
theorem run_build {t:TypeId} {fs:Array Field} {pl:List (Nat×Nat)} {zc out:List Cell} {ps:List (Nat×El)} {ρ:Env} {w:World} (hu:P.underlying t=some (.struct fs)) (hp:placesB P fs.toList=some pl) (hz:zeroB P t=some zc) (hf:fillB pl ps zc=some out) (parts:Array (Nat×Value)) (hps:parts.toList=ps.map fun x=>(x.1,x.2.den ρ)) :
  (Instr.build t parts).run P w=.ok (.agg (out.map (Cell.den ρ)).toArray) w:=by
 unfold zeroB at hz
 split at hz
 ·rename_i z hz0
  obtain ⟨i,hi,hz'⟩:=Option.bind_eq_some_iff.1 hz0
  have h1:=absL_den ρ hz
  have h2:z.cells=(zc.map (Cell.den ρ)).toArray:=by rw [h1]
  have h3:=run_places (w:=w) hp
  have h4:=fill_ok (ρ:=ρ) hf
  simp only [Instr.build,Sem.run_bind,zeroValue,typeInfo,program,hi,hz',Sem.run,Result.andThen,pure,underlying,hu,Array.mapM_eq_mapM_toList,map_eq_pure_bind]
  rw [show (List.mapM (m:=Sem) (fun f:Field=>do let n ← sizeOf f.type;Sem.pure (f.offset,n)) fs.toList).run P w=.ok pl w from h3]
  simp only [h2,hps]
  rw [show Instr.fill (fun x=>pl.toArray[x]?) (zc.map (Cell.den ρ)).toArray (ps.map fun x=>(x.1,x.2.den ρ))=some (out.map (Cell.den ρ)).toArray from h4]
  rfl
 ·cases hz
end
end Go.Proofs.YtnmlkobogofadaaGreatDoor.Rx
