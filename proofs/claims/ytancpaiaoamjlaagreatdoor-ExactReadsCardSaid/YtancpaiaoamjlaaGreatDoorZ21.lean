/- What the proof rests on, part 21. -/
import Derived.Test.YtancpaiaoamjlaaGreatDoorZ11
import Derived.Test.YtancpaiaoamjlaaGreatDoorZ18
import Derived.Test.YtancpaiaoamjlaaGreatDoorZ20
import Derived.Test.YtancpaiaoamjlaaGreatDoorZ02
import Derived.Lib.ItoaMem
import Derived.Lib.Builder
import Derived.Lib.ItoaNum
import Derived.Test.YtancpaiaoamjlaaGreatDoorZ00
import Derived.Test.YtancpaiaoamjlaaGreatDoorZ03
import Derived.Shelf.Strings.Repeat
namespace Go.Proofs.YtancpaiaoamjlaaGreatDoor
set_option maxRecDepth 100000
set_option maxHeartbeats 80000000
section
open Go.RowKit Go.Sort
structure Bk where
 pos:Nat
 ty:TypeId
 vs:List Value
namespace Z4
def IsZ (W:World) (v:Value) (z:Int):Prop:=∃ (p:Option Addr) (l k:Nat) (xs:List Nat),v=.agg #[.bool (decide (z<0)),.slice p l k]∧IsL 0 W (.slice p l k) xs∧Dig xs∧aC xs∧val xs=z.natAbs
theorem IsZ.below {W W':World} {v:Value} {z:Int} (h:IsZ W v z) (hb:Below W.heap.size W W'):IsZ W' v z:=by
 obtain ⟨p,l,k,xs,h1,h2,h3⟩:=h
 exact ⟨p,l,k,xs,h1,h2.below hb,h3⟩
theorem IsZ.setBox {W:World} {v:Value} {z:Int} {b i:Nat} {T:TypeId} {vs:List Value} {u:Value} (h:IsZ W v z) (hb:Bx W b T vs) (ok:fQ vs=true):IsZ (W.setCell ⟨b,i,none⟩ u) v z:=by
 obtain ⟨p,l,k,xs,h1,h2,h3⟩:=h
 exact ⟨p,l,k,xs,h1,h2.setBox hb ok,h3⟩
end Z4
inductive Fc
 | q (v:Value) (r:Rat)
 | m (c d:Value) (n:Nat)
 | l (B:Nat) (v:Value) (xs:List Nat)
 | z (v:Value) (n:Int)
def Fc.on:Fc→World→Prop
 | .q v r,W=>IsQ W v r
 | .m c d n,W=>ah W c d n
 | .l B v xs,W=>Z4.IsL B W v xs
 | .z v n,W=>Z4.IsZ W v n
theorem Fc.below {f:Fc} {W W':World} (h:f.on W) (hb:Below W.heap.size W W'):f.on W':=by
 cases f
 ·exact IsQ.below h hb
 ·exact ah.below h hb
 ·exact Z4.IsL.below h hb
 ·exact Z4.IsZ.below h hb
theorem Fc.setBox {f:Fc} {W:World} {b i:Nat} {T:TypeId} {vs:List Value} {u:Value} (h:f.on W) (hb:Bx W b T vs) (ok:fQ vs=true):f.on (W.setCell ⟨b,i,none⟩ u):=by
 cases f
 ·exact IsQ.setBox h hb ok
 ·exact ah.setBox h hb ok
 ·exact Z4.IsL.setBox h hb ok
 ·exact Z4.IsZ.setBox h hb ok
def dA (w W:World):List Bk→Prop
 | []=>True
 | b :: r=>(w.heap.size≤b.pos∧Bx W b.pos b.ty b.vs∧∀ c∈r,b.pos≠c.pos)∧dA w W r
def Facts (W:World):List Fc→Prop
 | []=>True
 | f :: r=>f.on W∧Facts W r
theorem dA.below {w W W':World} (hb:Below W.heap.size W W'):∀ {bs:List Bk},dA w W bs→dA w W' bs
 | [],_=>trivial
 | _ :: _,h=>⟨⟨h.1.1,h.1.2.1.below hb,h.1.2.2⟩,h.2.below hb⟩
theorem Facts.below {W W':World} (hb:Below W.heap.size W W'):∀ {fs:List Fc},Facts W fs→Facts W' fs
 | [],_=>trivial
 | _ :: _,h=>⟨Fc.below h.1 hb,h.2.below hb⟩
theorem dA.far {w W:World} {a:Addr} (u:Value):∀ {bs:List Bk},(∀ c∈bs,a.block≠c.pos)→dA w W bs→dA w (W.setCell a u) bs
 | [],_,_=>trivial
 | _ :: _,hn,h=>⟨⟨h.1.1,h.1.2.1.far (Ne.symm (hn _ (by simp))) u,h.1.2.2⟩,h.2.far u fun c hc=>hn c (by simp [hc])⟩
theorem Facts.setBox {W:World} {b i:Nat} {T:TypeId} {vs:List Value} {u:Value} (hb:Bx W b T vs) (ok:fQ vs=true):∀ {fs:List Fc},Facts W fs→Facts (W.setCell ⟨b,i,none⟩ u) fs
 | [],_=>trivial
 | _ :: _,h=>⟨Fc.setBox h.1 hb ok,h.2.setBox hb ok⟩
theorem dA.get {w W:World}:∀ {bs:List Bk} {k:Nat} {b:Bk},dA w W bs→bs[k]? = some b→w.heap.size≤b.pos∧Bx W b.pos b.ty b.vs
 | [],_,_,_,h=>by simp at h
 | _ :: _,0,_,h,e=>by simp at e;subst e;exact ⟨h.1.1,h.1.2.1⟩
 | _ :: _,k+1,_,h,e=>h.2.get (by simpa using e)
def rE:List Bk→Nat→Nat→Value→List Bk
 | [],_,_,_=>[]
 | b :: r,0,i,u=>⟨b.pos,b.ty,b.vs.set i u⟩ :: r
 | b :: r,k+1,i,u=>b :: rE r k i u
theorem Ny:∀ {bs:List Bk} {k i:Nat} {u:Value} {c:Bk},c∈rE bs k i u→∃ c'∈bs,c'.pos=c.pos
 | [],_,_,_,_,h=>by simp [rE] at h
 | b :: r,0,i,u,c,h=>by
  simp only [rE,List.mem_cons] at h
  rcases h with rfl | h
  ·exact ⟨b,by simp,rfl⟩
  ·exact ⟨c,by simp [h],rfl⟩
 | b :: r,k+1,i,u,c,h=>by
  simp only [rE,List.mem_cons] at h
  rcases h with rfl | h
  ·exact ⟨c,by simp,rfl⟩
  ·obtain ⟨c',h1,h2⟩:=Ny h
   exact ⟨c',by simp [h1],h2⟩
theorem dA.set {w W:World} (i:Nat) (u:Value):∀ {bs:List Bk} {k:Nat} {b:Bk},dA w W bs→bs[k]? = some b→dA w (W.setCell ⟨b.pos,i,none⟩ u) (rE bs k i u)
 | [],_,_,_,h=>by simp at h
 | c :: r,0,b,h,e=>by
  simp at e
  subst e
  exact ⟨⟨h.1.1,h.1.2.1.set i u,h.1.2.2⟩,h.2.far u fun d hd=>h.1.2.2 d hd⟩
 | c :: r,k+1,b,h,e=>by
  have e':r[k]? = some b:=by simpa using e
  have hb:b∈r:=List.mem_of_getElem? e'
  refine ⟨⟨h.1.1,h.1.2.1.far (h.1.2.2 b hb) u,fun d hd=>?_⟩,h.2.set i u e'⟩
  obtain ⟨d',h1,h2⟩:=Ny hd
  rw [← h2]
  exact h.1.2.2 d' h1
structure St (w:World) (bs:List Bk) (fs:List Fc) (W:World):Prop where
 bel:Below w.heap.size w W
 box:dA w W bs
 fct:Facts W fs
theorem St.start (w:World):St w [] [] w:=⟨Below.refl _ _,trivial,trivial⟩
theorem St.call {w W W':World} {bs:List Bk} {fs:List Fc} (h:St w bs fs W) (hb:Below W.heap.size W W'):St w bs fs W':=
 ⟨h.bel.trans (hb.mono h.bel.size),h.box.below hb,h.fct.below hb⟩
theorem St.drew {w W:World} {bs:List Bk} {fs:List Fc} (h:St w bs fs W):St w bs fs W.drew:=h.call (Below.refl _ _).drew
theorem St.fact {w W:World} {bs:List Bk} {fs:List Fc} (h:St w bs fs W) (f:Fc) (hf:f.on W):St w bs (f :: fs) W:=⟨h.bel,h.box,hf,h.fct⟩
theorem St.alloc {w W:World} {bs:List Bk} {fs:List Fc} (h:St w bs fs W) (T:TypeId) (vs:List Value):St w (⟨W.heap.size,T,vs⟩ :: bs) fs (W.alloc (.cells vs.toArray T)):=by
 have hb:=(Below.refl W.heap.size W).alloc (Nat.le_refl _) (.cells vs.toArray T)
 refine ⟨h.bel.trans (hb.mono h.bel.size),⟨⟨h.bel.size,Bx.new W T vs,fun c hc=>?_⟩,h.box.below hb⟩,h.fct.below hb⟩
 obtain ⟨k,hk⟩:=List.getElem?_of_mem hc
 have:=(h.box.get hk).2.lt
 show W.heap.size≠c.pos
 omega
theorem St.alloc' {w W:World} {bs:List Bk} {fs:List Fc} (h:St w bs fs W) (n:Nat) (hn:W.heap.size=n) (T:TypeId) (vs:List Value):St w (⟨n,T,vs⟩ :: bs) fs (W.alloc (.cells vs.toArray T)):=by
 subst hn
 exact h.alloc T vs
theorem St.store {w W:World} {bs:List Bk} {fs:List Fc} (h:St w bs fs W) (k i:Nat) (u:Value) {b:Bk} (hk:bs[k]? = some b) (ok:fQ b.vs=true):St w (rE bs k i u) fs (W.setCell ⟨b.pos,i,none⟩ u):=by
 obtain ⟨h1,h2⟩:=h.box.get hk
 exact ⟨h.bel.setCell h1 u,h.box.set i u hk,h.fct.setBox h2 ok⟩
theorem St.bx {w W:World} {bs:List Bk} {fs:List Fc} (h:St w bs fs W) (k:Nat) {b:Bk} (hk:bs[k]? = some b):Bx W b.pos b.ty b.vs:=(h.box.get hk).2
theorem Facts.get {W:World}:∀ {fs:List Fc} {k:Nat} {f:Fc},Facts W fs→fs[k]? = some f→f.on W
 | [],_,_,_,h=>by simp at h
 | _ :: _,0,_,h,e=>by simp at e;subst e;exact h.1
 | _ :: _,k+1,_,h,e=>h.2.get (by simpa using e)
theorem St.get {w W:World} {bs:List Bk} {fs:List Fc} (h:St w bs fs W) (k:Nat) {f:Fc} (hk:fs[k]? = some f):f.on W:=h.fct.get hk
theorem St.add {w W:World} {bs:List Bk} {fs:List Fc} (h:St w bs fs W) {L:Nat} {T:TypeId} {vs:List Value} (h1:w.heap.size≤L) (h2:Bx W L T vs) (h3:∀ c∈bs,L≠c.pos):St w (⟨L,T,vs⟩ :: bs) fs W:=
 ⟨h.bel,⟨⟨h1,h2,h3⟩,h.box⟩,h.fct⟩
theorem dA.old {w W:World} {N:Nat} (hN:W.heap.size≤N):∀ {bs:List Bk},dA w W bs→∀ c∈bs,N≠c.pos
 | [],_,c,hc=>by simp at hc
 | b :: r,h,c,hc=>by
  rcases List.mem_cons.1 hc with rfl | h1
  ·have:=h.1.2.1.lt;omega
  ·exact h.2.old hN c h1
theorem St.old {w W:World} {bs:List Bk} {fs:List Fc} (h:St w bs fs W) {N:Nat} (hN:W.heap.size≤N):∀ c∈bs,N≠c.pos:=h.box.old hN
def jg (B:Nat) (T:TypeId) (vs:List Value) (v:Value) (W:World):Prop:=∃ L,v=.pointer (some ⟨L,0,none⟩)∧B≤L∧L<W.heap.size∧Bx W L T vs
theorem zV {B:Nat} {T:TypeId} {vs:List Value}:∀ v W W',Below W.heap.size W W'→jg B T vs v W→jg B T vs v W':=
 fun _ _ _ hb ⟨L,e,h1,h2,h3⟩=>⟨L,e,h1,Nat.lt_of_lt_of_le h2 hb.size,h3.below hb⟩
theorem Vg {z:Int}:∀ v W W',Below W.heap.size W W'→(fun v W=>Z4.IsZ W v z) v W→(fun v W=>Z4.IsZ W v z) v W':=fun _ _ _ hb h=>Z4.IsZ.below h hb
theorem Bx.f1 {W:World} {b:Nat} {T:TypeId} {v0:Value} (h:Bx W b T [v0]):W.cell? ⟨b,0,none⟩=some v0∧W.frozen? ⟨b,0,none⟩=false:=⟨h.cell 0,h.frozen 0⟩
theorem Bx.f2 {W:World} {b:Nat} {T:TypeId} {v0 v1:Value} (h:Bx W b T [v0,v1]) :
  (W.cell? ⟨b,0,none⟩=some v0∧W.cell? ⟨b,1,none⟩=some v1)∧W.frozen? ⟨b,0,none⟩=false∧W.frozen? ⟨b,1,none⟩=false:=⟨⟨h.cell 0,h.cell 1⟩,h.frozen 0,h.frozen 1⟩
theorem Bx.f3 {W:World} {b:Nat} {T:TypeId} {v0 v1 v2:Value} (h:Bx W b T [v0,v1,v2]) :
  (W.cell? ⟨b,0,none⟩=some v0∧W.cell? ⟨b,1,none⟩=some v1∧W.cell? ⟨b,2,none⟩=some v2)∧W.frozen? ⟨b,0,none⟩=false∧W.frozen? ⟨b,1,none⟩=false∧W.frozen? ⟨b,2,none⟩=false:=⟨⟨h.cell 0,h.cell 1,h.cell 2⟩,h.frozen 0,h.frozen 1,h.frozen 2⟩
theorem Bx.f4 {W:World} {b:Nat} {T:TypeId} {v0 v1 v2 v3:Value} (h:Bx W b T [v0,v1,v2,v3]) :
  (W.cell? ⟨b,0,none⟩=some v0∧W.cell? ⟨b,1,none⟩=some v1∧W.cell? ⟨b,2,none⟩=some v2∧W.cell? ⟨b,3,none⟩=some v3)∧W.frozen? ⟨b,0,none⟩=false∧W.frozen? ⟨b,1,none⟩=false∧W.frozen? ⟨b,2,none⟩=false∧W.frozen? ⟨b,3,none⟩=false:=
 ⟨⟨h.cell 0,h.cell 1,h.cell 2,h.cell 3⟩,h.frozen 0,h.frozen 1,h.frozen 2,h.frozen 3⟩
theorem Bx.f5 {W:World} {b:Nat} {T:TypeId} {v0 v1 v2 v3 v4:Value} (h:Bx W b T [v0,v1,v2,v3,v4]) :
  (W.cell? ⟨b,0,none⟩=some v0∧W.cell? ⟨b,1,none⟩=some v1∧W.cell? ⟨b,2,none⟩=some v2∧W.cell? ⟨b,3,none⟩=some v3∧W.cell? ⟨b,4,none⟩=some v4) ∧
  W.frozen? ⟨b,0,none⟩=false∧W.frozen? ⟨b,1,none⟩=false∧W.frozen? ⟨b,2,none⟩=false∧W.frozen? ⟨b,3,none⟩=false∧W.frozen? ⟨b,4,none⟩=false:=
 ⟨⟨h.cell 0,h.cell 1,h.cell 2,h.cell 3,h.cell 4⟩,h.frozen 0,h.frozen 1,h.frozen 2,h.frozen 3,h.frozen 4⟩
theorem St.f1 {w W:World} {bs:List Bk} {fs:List Fc} (h:St w bs fs W) (k b:Nat) (T:TypeId) (v0:Value) (hk:bs[k]? = some ⟨b,T,[v0]⟩):W.cell? ⟨b,0,none⟩=some v0∧W.frozen? ⟨b,0,none⟩=false:=(h.bx k hk).f1
theorem St.f2 {w W:World} {bs:List Bk} {fs:List Fc} (h:St w bs fs W) (k b:Nat) (T:TypeId) (v0 v1:Value) (hk:bs[k]? = some ⟨b,T,[v0,v1]⟩) :
  (W.cell? ⟨b,0,none⟩=some v0∧W.cell? ⟨b,1,none⟩=some v1)∧W.frozen? ⟨b,0,none⟩=false∧W.frozen? ⟨b,1,none⟩=false:=(h.bx k hk).f2
theorem St.f3 {w W:World} {bs:List Bk} {fs:List Fc} (h:St w bs fs W) (k b:Nat) (T:TypeId) (v0 v1 v2:Value) (hk:bs[k]? = some ⟨b,T,[v0,v1,v2]⟩) :
  (W.cell? ⟨b,0,none⟩=some v0∧W.cell? ⟨b,1,none⟩=some v1∧W.cell? ⟨b,2,none⟩=some v2)∧W.frozen? ⟨b,0,none⟩=false∧W.frozen? ⟨b,1,none⟩=false∧W.frozen? ⟨b,2,none⟩=false:=(h.bx k hk).f3
theorem St.f4 {w W:World} {bs:List Bk} {fs:List Fc} (h:St w bs fs W) (k b:Nat) (T:TypeId) (v0 v1 v2 v3:Value) (hk:bs[k]? = some ⟨b,T,[v0,v1,v2,v3]⟩) :
  (W.cell? ⟨b,0,none⟩=some v0∧W.cell? ⟨b,1,none⟩=some v1∧W.cell? ⟨b,2,none⟩=some v2∧W.cell? ⟨b,3,none⟩=some v3)∧W.frozen? ⟨b,0,none⟩=false∧W.frozen? ⟨b,1,none⟩=false∧W.frozen? ⟨b,2,none⟩=false∧W.frozen? ⟨b,3,none⟩=false:=(h.bx k hk).f4
theorem St.f5 {w W:World} {bs:List Bk} {fs:List Fc} (h:St w bs fs W) (k b:Nat) (T:TypeId) (v0 v1 v2 v3 v4:Value) (hk:bs[k]? = some ⟨b,T,[v0,v1,v2,v3,v4]⟩) :
  (W.cell? ⟨b,0,none⟩=some v0∧W.cell? ⟨b,1,none⟩=some v1∧W.cell? ⟨b,2,none⟩=some v2∧W.cell? ⟨b,3,none⟩=some v3∧W.cell? ⟨b,4,none⟩=some v4)∧W.frozen? ⟨b,0,none⟩=false∧W.frozen? ⟨b,1,none⟩=false∧W.frozen? ⟨b,2,none⟩=false∧W.frozen? ⟨b,3,none⟩=false∧W.frozen? ⟨b,4,none⟩=false:=(h.bx k hk).f5
theorem St.ne {w W:World} {bs:List Bk} {fs:List Fc} (h:St w bs fs W) (k b:Nat) (T:TypeId) (vs:List Value) (hk:bs[k]? = some ⟨b,T,vs⟩):b<W.heap.size∧¬ W.heap.size=b∧¬ b=W.heap.size:=by
 have:b<W.heap.size:=(h.bx k hk).lt
 omega
theorem St.q5 {w W:World} {bs:List Bk} {fs:List Fc} (h:St w bs fs W) (k j b:Nat) (T:TypeId) (t:Bool) (x:Int) (p:Option Addr) (l q:Nat) (y:Int) (p':Option Addr) (l' q':Nat) (r:Rat)
  (hk:bs[k]? = some ⟨b,T,[.bool t,.int .u64 x,.slice p l q,.int .u64 y,.slice p' l' q']⟩) (hj:fs[j]? = some (.q (.agg #[.bool t,.int .u64 x,.slice p l q,.int .u64 y,.slice p' l' q']) r)) :
  (W.cell? ⟨b,0,none⟩=some (.bool t)∧W.cell? ⟨b,1,none⟩=some (.int .u64 x)∧W.cell? ⟨b,2,none⟩=some (.slice p l q)∧W.cell? ⟨b,3,none⟩=some (.int .u64 y)∧W.cell? ⟨b,4,none⟩=some (.slice p' l' q'))∧IsQ W (.agg #[.bool t,.int .u64 x,.slice p l q,.int .u64 y,.slice p' l' q']) r:=
 ⟨(h.bx k hk).f5.1,h.get j hj⟩
abbrev oQ (r:Rat):List Value→World→Prop:=one fun v W=>IsQ W v r
abbrev oE (x:Value):List Value→World→Prop:=one fun v _=>v=x
theorem bQ {r:Rat}:∀ vs W W',Below W.heap.size W W'→oQ r vs W→oQ r vs W':=aS jv
theorem bE {x:Value}:∀ vs W W',Below W.heap.size W W'→oE x vs W→oE x vs W':=aS jP
theorem cu {w W:World} {bs:List Bk} {fs:List Fc} (_:Hid (St w bs fs W)):∃ W',W=W':=⟨W,rfl⟩
theorem St.as {w W:World} {bs:List Bk} {fs:List Fc} (h:St w bs fs W) (bs':List Bk) (e:bs=bs'):St w bs' fs W:=e ▸ h
theorem St.fq {w W:World} {bs:List Bk} {fs:List Fc} (h:St w bs fs W) {v:Value} {r:Rat} (hf:IsQ W v r):St w bs (.q v r :: fs) W:=h.fact (.q v r) hf
theorem St.gq {w W:World} {bs:List Bk} {fs:List Fc} (h:St w bs fs W) (k:Nat) {v:Value} {r:Rat} (hk:fs[k]? = some (.q v r)):IsQ W v r:=h.get k hk
theorem size_setCell (W:World) (a:Addr) (u:Value):(W.setCell a u).heap.size=W.heap.size:=by simp
theorem IsQ.open {W:World} {v:Value} {r:Rat} (h:IsQ W v r):∃ (t:Bool) (x:Int) (p:Option Addr) (l k:Nat) (x':Int) (p':Option Addr) (l' k':Nat),v=.agg #[.bool t,.int .u64 x,.slice p l k,.int .u64 x',.slice p' l' k']:=by
 obtain ⟨t,x,p,l,k,x',p',l',k',e,-⟩:=h.shape
 exact ⟨t,x,p,l,k,x',p',l',k',e⟩
end
section
open Go.RowKit Go.Sort
def dU (w:World):Prop:=4<w.heap.size∧Lib.TabIs Tryz.prog w "internal/strconv.uint64pow10" .u64 Lib.pow10Tab
theorem dU.below {B:Nat} {w w':World} (h:dU w) (hb:Below B w w') (hB:w.heap.size≤B):dU w':=by
 refine ⟨Nat.lt_of_lt_of_le h.1 hb.size,?_⟩
 have h2:=h.2
 unfold Lib.TabIs World.var? at *
 have hg:Tryz.prog.globalNamed "internal/strconv.uint64pow10" = some 4:=by kernel_rfl
 rw [hg] at h2 ⊢
 simp only [Option.bind_some] at h2 ⊢
 rw [hb.block _ (Nat.lt_of_lt_of_le h.1 hB)]
 exact h2
abbrev E8 (b:UInt8):Value:=.int .u8 (b.toNat:Int)
theorem UF (w:World) (T:TypeId) (nd:Nat) (hs:nd≤20):Holds E8 (w.alloc (.cells Lib.zeros24 T)) w.heap.size 0 (Array.replicate nd (0:UInt8)):=fun j hj=>by
 have hj':j<nd:=by simpa using hj
 refine ⟨?_,World.frozen?_alloc_new _ _ _ _⟩
 rw [World.cell?_alloc_new,Lib.zeros24_at _ (by omega),getElem!_pos _ j hj]
 simp
theorem UC (w:World) (b o:Nat) (xs:Array UInt8) (k:Nat) (h:k≠b):(putRow E8 w b o xs).heap[k]? = w.heap[k]?:=by
 unfold putRow mapBlock
 simp only [Array.getElem?_modify]
 rw [if_neg (by omega)]
theorem Qd {B:Nat} (w:World) (b o:Nat) (xs:Array UInt8) (h:B≤b):Below B w (putRow E8 w b o xs):=
 ⟨rfl,rfl,rfl,by rw [size_putRow];exact Nat.le_refl _,fun k hk=>UC _ _ _ _ _ (by omega)⟩
def gW (w:World) (l:List UInt8) (e:Ending) (w':World):Prop:=e=.returned (.string ⟨l.toArray⟩)∧Below w.heap.size w w'
theorem Ui (u:Nat) (hu:u<100) (w:World):Calls Tryz.prog 128 #[.int .u64 (u:Int),.int .i64 10] w (gW w (Lib.decDigits u)):=by
 go_enter Tryz.func128,Tryz.ntmps128
 go_wp2_with fail
 refine (Tryz.internal_strconv_small u hu _).mono ?_
 rintro e w' ⟨rfl,rfl⟩
 go_wp2
 go_ret
 exact ⟨rfl,Below.refl _ _⟩
theorem Uh (u:Nat) (hu:100≤u) (hu64:u<18446744073709551616) (w:World) (hT:dU w):Calls Tryz.prog 128 #[.int .u64 (u:Int),.int .i64 10] w (gW w (Lib.decDigits u)):=by
 have hnd20:Lib.nDigits u≤20:=by have:=Lib.numDigits_eq u (by omega) hu64;split at this <;> omega
 have hal:Tryz.prog.arrayLen 165=24:=by kernel_rfl
 have hH0:=UF w 165 (Lib.nDigits u) hnd20
 have hfmt:=Tryz.internal_strconv_formatBase10 w.heap.size 0 24 u (Array.replicate (Lib.nDigits u) 0) (w.alloc (.cells Lib.zeros24 165)) hH0 (by rw [Array.size_replicate];exact Lib.lt_pow_nDigits u) hu64 (by rw [Array.size_replicate];omega)
 rw [Array.size_replicate] at hfmt
 have hb0:=(Below.refl w.heap.size w).alloc (Nat.le_refl _) (.cells Lib.zeros24 165)
 have hnum:=Tryz.internal_strconv_numDigits u (by omega) hu64 (w.alloc (.cells Lib.zeros24 165)) (hT.below hb0 (Nat.le_refl _)).2
 have hsl1:∀ W,(Instr.sliceAt 165 (.pointer (some ⟨w.heap.size,0,none⟩)) none (some (.int .i64 (Lib.nDigits u:Int))) none).run Tryz.prog W=.ok (.slice (some ⟨w.heap.size,0,none⟩) (Lib.nDigits u) 24) W:=fun W=>by
  rw [run_sliceAt_array_h W 165 ⟨w.heap.size,0,none⟩ (by kernel_rfl) .i64 (Lib.nDigits u:Int) (by omega) (by rw [hal];omega)]
  go_simp
 have HH0:=hid hH0
 have HF:=hid hfmt
 have HN:=hid hnum
 have HB0:=hid hb0
 have HU:=hid hu64
 clear hH0 hal hfmt hnum hb0 hu64 hT
 go_enter Tryz.func128,Tryz.ntmps128
 go_wp2_with fail
 refine HN.out.mono ?_
 rintro e w' ⟨rfl,rfl⟩
 go_wp2_with fail
 refine HF.out.mono ?_
 rintro e w' ⟨rfl,k,v',dk,rfl,hF⟩
 have hcv:(convert 141 9 (.slice (some ⟨w.heap.size,0,none⟩) (Lib.nDigits u) 24)).run Tryz.prog ((putRow E8 (w.alloc (.cells Lib.zeros24 165)) w.heap.size 0 dk).drewN k)=.ok (.string ⟨(Lib.decDigits u).toArray⟩) ((putRow E8 (w.alloc (.cells Lib.zeros24 165)) w.heap.size 0 dk).drewN k):=by
  have h:=run_convert_bytes_back (P:=Tryz.prog) ((putRow E8 (w.alloc (.cells Lib.zeros24 165)) w.heap.size 0 dk).drewN k) 141 9 5 ⟨w.heap.size,0,none⟩ 24 (Lib.decDigits u) Tryz.underlying141 Tryz.underlying5 Tryz.underlying9 (fun j hj=>by
   rw [Lib.row_is_numeral hF j hj,Lib.add_plain,World.cell?_drewN]
   exact cell?_putRow E8 _ w.heap.size 0 _ dk HH0.out (by rw [hF.size,Array.size_replicate]) j (by rw [hF.size];rw [Lib.decDigits_length] at hj;exact hj))
  rw [Lib.decDigits_length] at h
  exact h
 have HBB:Hid (Below w.heap.size w ((putRow E8 (w.alloc (.cells Lib.zeros24 165)) w.heap.size 0 dk).drewN k)):=Z4.fG (HB0.out.trans (Qd _ _ _ _ (Nat.le_refl _))) k
 clear hF
 go_wp2
 go_ret
 exact ⟨rfl,HBB.out⟩
theorem JO (u:Nat) (hu64:u<B64) (w:World) (hT:dU w):Calls Tryz.prog 102 #[.int .u64 (u:Int),.int .i64 10] w (gW w (Lib.decDigits u)):=by
 have H:=hid (show Calls Tryz.prog 128 #[.int .u64 (u:Int),.int .i64 10] w (gW w (Lib.decDigits u)) by
  rcases Nat.lt_or_ge u 100 with h | h
  ·exact Ui u h w
  ·exact Uh u h hu64 w hT)
 clear hu64 hT
 go_enter Tryz.func102,Tryz.ntmps102
 go_wp2_with fail
 refine H.out.mono ?_
 rintro e w' ⟨rfl,hb⟩
 have HB:=hid hb
 clear hb
 go_wp2
 go_ret
 exact ⟨rfl,HB.out⟩
end
section
open Go.RowKit Go.Sort
theorem IC:(Tryz.prog.info? 143).map (·.size)=some 2:=by kernel_rfl
theorem Qk:liesAt Tryz.prog Tryz.prog.depth 143 (2 / Tryz.prog.cellsOf 143) 0 143 1=true:=by kernel_rfl
theorem Qm:(Tryz.prog.info? 5).map (fun i=>(i.zero,i.size,i.bytes))=some (some (.int .u8 0),1,1):=by kernel_rfl
abbrev jK (b:Nat):Value:=.pointer (some ⟨b,0,none⟩)
theorem Qq (b:Nat) (w:World) (h0:w.cell? ⟨b,0,none⟩=some (jK b)) :
  Calls Tryz.prog 146 #[jK b] w fun e w'=>e=.returned (.tuple #[])∧w' = w:=by
 obtain ⟨j,hj,_⟩:=Option.map_eq_some_iff.1 IC
 go_enter Tryz.func146,Tryz.ntmps146
 go_wp2
 rw [Lib.run_neq_ptr_same w _ Tryz.underlying140 hj]
 go_wp2
 go_end0
 exact ⟨rfl,rfl⟩
theorem Qp (b:Nat) (w:World) (h0:w.cell? ⟨b,0,none⟩=some (.pointer none)) (hsh:w.shape? b=some (143,2)) (hfz:w.frozen? ⟨b,0,none⟩=false) :
  Calls Tryz.prog 146 #[jK b] w fun e w'=>e=.returned (.tuple #[])∧w' = w.setCell ⟨b,0,none⟩ (jK b):=by
 obtain ⟨j,hj,hjs⟩:=Option.map_eq_some_iff.1 IC
 go_enter Tryz.func146,Tryz.ntmps146
 go_wp2
 rw [Lib.run_to_unsafe w ⟨b,0,none⟩ Tryz.underlying140 Tryz.underlying173 hj (by rw [hjs];decide) hsh (Nat.zero_lt_succ 1)]
 simp only [Result.andThen]
 rw [Oper.upon_value]
 go_wp2
 rw [run_callFunc_extern Tryz.func160 (by kernel_rfl) (by kernel_rfl) (by kernel_rfl) (e:=Extern.AbiNoEscape.same) (by kernel_rfl)]
 rw [Lib.run_noEscape]
 simp only [Result.andThen]
 rw [Oper.upon_value]
 go_wp2
 rw [Lib.run_from_unsafe w ⟨b,0,none⟩ Tryz.underlying173 Tryz.underlying140 hj hsh Qk]
 simp only [Result.andThen]
 rw [Oper.upon_value]
 go_wp2
 go_end0
 exact ⟨rfl,rfl⟩
theorem Qo (B b:Nat) (bs:List Value) (w:World) (h:Lib.IsBuilder 143 5 B b bs w) :
  Calls Tryz.prog 146 #[jK b] w fun e w'=>e=.returned (.tuple #[])∧(Lib.BuilderAt 143 5 B b (jK b) bs w'∧Below B w w'):=by
 rcases h with h | h
 ·refine (Qp b w h.cell0 h.shape h.frozen0).mono ?_
  rintro e w' ⟨rfl,rfl⟩
  exact ⟨rfl,h.used _,(Below.refl B w).setCell (p:=⟨b,0,none⟩) h.1 _⟩
 ·refine (Qq b w h.cell0).mono ?_
  rintro e w' ⟨rfl,rfl⟩
  exact ⟨rfl,h,Below.refl B _⟩
theorem aa9 (B b:Nat) (bs:List Value) (s:ByteArray) (w:World) (h:Lib.IsBuilder 143 5 B b bs w) (hlen:bs.length+s.size≤140737488355328) (hBw:B≤w.heap.size) :
  Calls Tryz.prog 125 #[jK b,.string s] w fun e w'=>e=.returned (.tuple #[.int .i64 s.size,.nilIface])∧(Lib.BuilderAt 143 5 B b (jK b) (bs ++ Lib.strCells s) w'∧Below B w w'):=by
 obtain ⟨i0,hi,hz0,hz1,hz2⟩:=info_parts Qm
 go_enter Tryz.func125,Tryz.ntmps125
 go_wp2_with (go_at_call 146;refine (Qo B b bs _ h).mono ?_)
 rintro e w1 ⟨rfl,h1,hb1⟩
 obtain ⟨hB,v,hbk,hown,hne⟩:=h1
 have c0:w1.cell? ⟨b,0,none⟩=some (jK b):=by rw [Lib.cell_of_heap hbk];rfl
 have c1:w1.cell? ⟨b,1,none⟩=some v:=by rw [Lib.cell_of_heap hbk];rfl
 go_wp2_with (at_builtin;refine Lib.wpList_append_own_string _ rfl _ _ 141 9 rfl B 5 i0 Tryz.underlying141 Tryz.underlying9 hi hz0 hz1 hz2 _ _ _ rfl hown s rfl ?c3 ?c4 ?c5 ?_)
 case c3=>unfold maxLen;omega
 case c4=>omega
 case c5=>have:=hb1.size;omega
 intro v' w2 hown' hgrow _
 have hlt:b<w1.heap.size:=by
  rcases Nat.lt_or_ge b w1.heap.size with h' | h'
  ·exact h'
  ·simp [Array.getElem?_eq_none h'] at hbk
 have hb2:w2.heap[b]? = some (.cells #[jK b,v] 143 (0,0)):=by
  rw [hgrow.block b hlt (fun e=>hne e.symm)]
  exact hbk
 have d0:w2.cell? ⟨b,0,none⟩=some (jK b):=by rw [Lib.cell_of_heap hb2];rfl
 have d1:w2.cell? ⟨b,1,none⟩=some v:=by rw [Lib.cell_of_heap hb2];rfl
 have f1:w2.frozen? ⟨b,1,none⟩=false:=Lib.frozen_of_heap hb2 1
 obtain ⟨ao,n',cap,rfl⟩:∃ ao n' cap,v' = .slice ao n' cap:=by
  rcases hown'.2 with ⟨hv,_⟩ | ⟨g,cap,cur,hv,_⟩
  ·exact ⟨_,_,_,hv⟩
  ·exact ⟨_,_,_,hv⟩
 go_wp2
 go_ret2
 refine ⟨rfl,?_,?_⟩
 ·exact Lib.BuilderAt.put (T:=143) (e:=5) hB hb2 (bs':=bs ++ Lib.strCells s) (by simpa [Lib.strCells_length] using hown') (by decide)
 ·exact (hb1.grown hgrow (by have:=hb1.size;omega) (fun k hk=>(hown.lt k hk).1)).setCell (p:=⟨b,1,none⟩) hB _
theorem GX (B b:Nat) (l m:List UInt8) (w:World) (h:Lib.IsBuilder 143 5 B b (Lib.byteCells l) w) (hlen:l.length+m.length≤140737488355328) (hBw:B≤w.heap.size) :
  Calls Tryz.prog 125 #[jK b,.string ⟨m.toArray⟩] w fun e w'=>e=.returned (.tuple #[.int .i64 (m.length:Int),.nilIface])∧(Lib.IsBuilder 143 5 B b (Lib.byteCells (l ++ m)) w'∧Below B w w'):=by
 have hl:(Lib.byteCells l).length=l.length:=by simp [Lib.byteCells]
 have hm:(⟨m.toArray⟩:ByteArray).size=m.length:=by simp [ByteArray.size]
 refine (aa9 B b _ ⟨m.toArray⟩ w h (by rw [hl,hm];exact hlen) hBw).mono ?_
 rintro e w' ⟨rfl,h1,h2⟩
 refine ⟨by rw [hm],.inr ?_,h2⟩
 have e:Lib.byteCells l ++ Lib.strCells ⟨m.toArray⟩=Lib.byteCells (l ++ m):=by simp [Lib.byteCells,Lib.strCells]
 rw [← e]
 exact h1
end
section
open Go.Lib
def dL:Nat→Nat→List UInt8
 | 0,_=>[]
 | k+1,r=>dL k (r / 10) ++ [UInt8.ofNat (48+r % 10)]
theorem Jh:∀ (k q r:Nat),0<q→r<10 ^ k→decDigits (q*10 ^ k+r)=decDigits q ++ dL k r
 | 0,q,r,_,hr=>by
  have:r=0:=by simpa using hr
  subst this
  simp [dL]
 | k+1,q,r,hq,hr=>by
  have hp:1≤10 ^ k:=Nat.one_le_pow _ _ (by decide)
  have hqp:1*1≤q*10 ^ k:=Nat.mul_le_mul hq hp
  rw [Nat.pow_succ] at hr ⊢
  have e:q*(10 ^ k*10)=q*10 ^ k*10:=by rw [Nat.mul_assoc]
  rw [e,decDigits,dif_neg (by omega),dL,← List.append_assoc,← Jh k q (r / 10) hq (by omega)]
  rw [show (q*10 ^ k*10+r) / 10=q*10 ^ k+r / 10 by omega,show (q*10 ^ k*10+r) % 10=r % 10 by omega]
theorem LM:∀ k:Nat,dL k 0=List.replicate k 48
 | 0=>rfl
 | k+1=>by rw [dL,Nat.zero_div,LM k,List.replicate_succ'];rfl
theorem FH:∀ (k r:Nat),r<10 ^ (k+1)→dL (k+1) r=List.replicate (k+1 - nDigits r) 48 ++ decDigits r
 | 0,r,hr=>by
  have h:r<10:=by simpa using hr
  rw [dL,dL,nDigits_small h,decDigits_one h,Nat.mod_eq_of_lt h]
  rfl
 | k+1,r,hr=>by
  by_cases h:r<10
  ·rw [dL,nDigits_small h,decDigits_one h,Nat.mod_eq_of_lt h,Nat.div_eq_of_lt h,LM]
   rfl
  ·rw [dL,FH k (r / 10) (by rw [Nat.pow_succ] at hr;omega),nDigits_big h]
   conv=>rhs;rw [decDigits,dif_neg h]
   rw [show k+1+1 - (nDigits (r / 10)+1)=k+1 - nDigits (r / 10) by omega,List.append_assoc]
theorem zU:∀ (m x:Nat),x<10 ^ (m+1)→nDigits x≤m+1
 | 0,x,h=>by rw [nDigits_small (by simpa using h)];exact Nat.le_refl _
 | m+1,x,h=>by
  by_cases h10:x<10
  ·rw [nDigits_small h10];omega
  ·rw [nDigits_big h10]
   have:=zU m (x / 10) (by rw [Nat.pow_succ] at h;omega)
   omega
def TT:Nat:=10000000000000000000
theorem Bz:TT=10 ^ 19:=by decide
def vT:List Nat→Nat
 | []=>0
 | r :: rs=>r+TT*vT rs
theorem Om (rs:List Nat) (r:Nat):vT (rs ++ [r])=vT rs+TT ^ rs.length*r:=by
 induction rs with
 | nil=>simp [vT]
 | cons x xs ih =>
  simp only [List.cons_append,vT,ih,List.length_cons,Nat.pow_succ]
  generalize vT xs=V
  generalize TT ^ xs.length=P
  grind
theorem aa2 {rs:List Nat} (h:∀ r∈rs,r<TT):vT rs<TT ^ rs.length:=by
 induction rs with
 | nil=>simp [vT]
 | cons x xs ih =>
  have h1:=h x (by simp)
  have h2:=ih (fun r hr=>h r (by simp [hr]))
  simp only [vT,List.length_cons,Nat.pow_succ,Nat.mul_comm _ TT]
  have h3:TT*(vT xs+1)≤TT*TT ^ xs.length:=Nat.mul_le_mul_left _ h2
  rw [Nat.mul_add] at h3
  omega
theorem aa3 {rs:List Nat} (hne:rs≠[]) (hl:rs.getLast hne≠0):0<vT rs:=by
 induction rs with
 | nil=>exact absurd rfl hne
 | cons x xs ih =>
  cases xs with
  | nil=>simp at hl;simp only [vT];omega
  | cons y ys =>
   have:=ih (by simp) (by simpa using hl)
   have h2:1*1≤TT*vT (y :: ys):=Nat.mul_le_mul (by decide) this
   simp only [vT] at h2 ⊢
   omega
theorem Ol (rs:List Nat) (k:Nat) (hk:k<rs.length):vT (rs.drop k)=rs[k]?.getD 0+TT*vT (rs.drop (k+1)):=by
 rw [List.drop_eq_getElem_cons hk,vT,List.getElem?_eq_getElem hk];rfl
theorem RH {r V:Nat} (hr:r<TT) (hV:0<V):decDigits (r+TT*V)=decDigits V ++ (List.replicate (19 - nDigits r) 48 ++ decDigits r):=by
 rw [Bz] at *
 rw [← FH 18 r hr,← Jh 19 V r hV hr,Nat.mul_comm,Nat.add_comm]
theorem IE {V L j:Nat} (h:TT ^ j≤V) (h2:V<B64 ^ L):j≤2*L:=by
 rcases Nat.lt_or_ge (2*L) j with h3 | h3
 ·have h4:B64 ^ L≤TT ^ (2*L):=by
   rw [Nat.pow_mul]
   exact Nat.pow_le_pow_left (by decide) L
  have h5:TT ^ (2*L)≤TT ^ j:=Nat.pow_le_pow_right (by decide) (by omega)
  omega
 ·exact h3
theorem Lh {r:Nat} (h:r<TT):nDigits r≤19:=zU 18 r (by rw [Bz] at h;exact h)
theorem WO {rs:List Nat} (h:∀ r∈rs,r<TT) (hne:rs.length≠0):nDigits (vT rs)≤19*rs.length:=by
 have h1:=aa2 h
 rw [Bz,← Nat.pow_mul] at h1
 have:=zU (19*rs.length - 1) (vT rs) (by rw [show 19*rs.length - 1+1=19*rs.length by omega];exact h1)
 omega
end
section
open Go.RowKit Go.Sort
abbrev encS (r:Nat):Value:=.string ⟨(Lib.decDigits r).toArray⟩
theorem ZI:(Tryz.prog.info? 9).map (fun i=>(i.zero,i.size,i.bytes))=some (some (.string ⟨#[]⟩),1,16):=by kernel_rfl
theorem ZA (rs:List Nat) (r:Nat):(rs ++ [r]).map encS=rs.map encS ++ [encS r]:=by simp
theorem Fz {w w':World} {base:Nat} {e:TypeId} {k:Nat} {v:Value} {n:Nat} {xs:List Value} (h:w.ownsRow base e k v n xs) (hb:∀ g,base≤g→g<w.heap.size→w'.heap[g]? = w.heap[g]?):w'.ownsRow base e k v n xs:=by
 refine ⟨h.1,?_⟩
 rcases h.2 with h0 | ⟨g,cap,cur,rfl,h1,h2,h3⟩
 ·exact .inl h0
 ·exact .inr ⟨g,cap,cur,rfl,h1,(hb g h1 (Array.getElem?_eq_some_iff.1 h2).1).trans h2,h3⟩
structure TxR (w:World) (L V:Nat) (g n:Nat) (pv:Value) (ds rs:List Nat) (W:World):Prop where
 len:ds.length=n
 hn:n≤L
 hold:aB W w.heap.size 0 ds
 dig:Dig ds
 trim:aC ds
 vg:val ds=g
 own:W.ownsRow (w.heap.size+1) 9 1 pv rs.length (rs.map encS)
 lt:∀ r∈rs,r<TT
 eq:vT rs+TT ^ rs.length*g=V
 last:g=0→∃ h:rs≠[],rs.getLast h≠0
 bel:Below w.heap.size w W
 sz:w.heap.size+1≤W.heap.size
theorem MO:∀ c:Nat,Lib.repeatL ([48]:List UInt8) c=List.replicate c 48
 | 0=>rfl
 | c+1=>by rw [Lib.repeatL,MO c,List.replicate_succ];rfl
theorem Xe (b o cp L:Nat) (xs:List Nat) (w:World) (hx:aF w b o xs) (hb:b<w.heap.size) (dx:Dig xs) (tx:aC xs) (hl:xs.length=L) (h0:0<L) (hL:L≤1073741824) (hT:dU w) :
  Calls Tryz.prog 101 #[.slice (some ⟨b,o,none⟩) L cp] w (gW w (Lib.decDigits (val xs))):=by
 subst hl
 obtain ⟨i0,hi,hz0,hz1,hz2⟩:=info_parts ZI
 have hmk:=ig xs.length (by omega)
 have hcp:=kX 3 (aI w xs.length) w.heap.size 0 xs.length xs.length b o cp _ xs (dP w xs.length) (hx.below (bG w _) hb) (by simp) (by omega)
 have e1:(List.replicate xs.length 0).drop xs.length=([]:List Nat):=by rw [List.drop_replicate,Nat.sub_self];rfl
 rw [e1,List.append_nil] at hcp
 have hS:TxR w xs.length (val xs) (val xs) xs.length (.slice none 0 0) xs [] (aj (aI w xs.length) 0 w.heap.size 0 xs):=
  ⟨rfl,Nat.le_refl _,bH _ _ _ _ _ _ (dP w xs.length) (by simp),dx,tx,rfl,World.ownsRow_nil _ _ _ _,fun r hr=>by simp at hr,by simp [vT],fun h=>by
   have:=nH tx (by intro e;subst e;simp at h0);omega,(bG w _).trans (dV _ _ _ _ _ (Nat.le_refl _)),by rw [size_putL,dG];omega⟩
 have HS:=hid hS
 have HT:=hid hT
 obtain ⟨V,hV⟩:∃ V,val xs=V:=⟨_,rfl⟩
 have hVL:Hid (V<B64 ^ xs.length):=by show _<_;rw [← hV];exact aV dx
 obtain ⟨L,hLe⟩:∃ L,xs.length=L:=⟨_,rfl⟩
 rw [hV] at HS ⊢
 rw [hLe] at HS hmk hcp hL h0 hVL ⊢
 clear hx hb dx tx e1 hS hT hV
 go_enter Tryz.func101,Tryz.ntmps101
 go_wp2
 obtain ⟨W0,hW0⟩:∃ W0,aj (aI w L) 0 w.heap.size 0 xs=W0:=⟨_,rfl⟩
 rw [hW0] at HS ⊢
 clear hW0 hmk hcp hLe
 go_loopg [3,4] V (fun g lv pv wr=>∃ (n:Nat) (ds rs:List Nat),lv=.slice (some ⟨w.heap.size,0,none⟩) n n∧TxR w L V g n pv ds rs wr)
 case atStart=>exact ⟨L,xs,[],rfl,HS.out⟩
 case round =>
  clear HS
  obtain ⟨n,ds,rs,rfl,hR⟩:=hrel
  have HR:=hid hR
  have hn1:=hR.hn
  clear hR
  have hrs:Hid (rs.length≤2*L):=by
   show _≤_
   have h1:=HR.out.eq
   by_cases hg:gk=0
   ·obtain ⟨hne,hl⟩:=HR.out.last hg
    have h2:=List.dropLast_concat_getLast hne
    have h3:=Om rs.dropLast (rs.getLast hne)
    rw [h2] at h3
    have h4:TT ^ rs.dropLast.length*1≤TT ^ rs.dropLast.length*rs.getLast hne:=Nat.mul_le_mul_left _ (by omega)
    have h5:=IE (j:=rs.dropLast.length) (V:=V) (L:=L) (by omega) hVL.out
    rw [List.length_dropLast] at h5
    have h6:rs.length≠0:=by intro e;exact hne (List.length_eq_zero_iff.1 e)
    have h7:2*L - 1<2*L:=by omega
    rcases Nat.lt_or_ge (2*L) rs.length with h8 | h8
    ·exfalso
     have h9:rs.length=2*L+1:=by omega
     have ha:TT ^ (2*L)≤V:=by
      rw [List.length_dropLast,h9,Nat.add_sub_cancel] at h4
      rw [List.length_dropLast,h9,Nat.add_sub_cancel] at h3
      omega
     have hb:B64 ^ L≤TT ^ (2*L):=by
      rw [Nat.pow_mul]
      exact Nat.pow_le_pow_left (by decide) L
     have hc:=hVL.out
     omega
    ·exact h8
   ·have h4:TT ^ rs.length*1≤TT ^ rs.length*gk:=Nat.mul_le_mul_left _ (by omega)
    exact IE (j:=rs.length) (V:=V) (L:=L) (by omega) hVL.out
  by_cases hn0:0<n
  ·have hgp:Hid (0<gk):=by
    show _<_
    rw [← HR.out.vg]
    exact nH HR.out.trim (by intro e;have:=HR.out.len;subst e;simp at this;omega)
   obtain ⟨p3,cap3,rfl⟩:=Z4.FB HR.out.own
   go_wp2_with fail
   refine (NY n TT w.heap.size 0 n ds _ (by decide) (by decide) HR.out.hold HR.out.dig (by rw [HR.out.len];omega) HR.out.len).mono ?_
   rintro e w1 ⟨es,r,q,rfl,rfl,hel,hed,hr,hev⟩
   have hHold1:=bH wr q w.heap.size 0 ds es HR.out.hold hel
   have hB1:Below w.heap.size w (aj wr q w.heap.size 0 es):=HR.out.bel.trans (dV _ _ _ _ _ (Nat.le_refl _))
   have hO1:(aj wr q w.heap.size 0 es).ownsRow (w.heap.size+1) 9 1 (.slice p3 rs.length cap3) rs.length (rs.map encS):=Fz HR.out.own fun g h1 _=>yY _ _ _ _ _ _ (by omega)
   have hs1:w.heap.size+1≤(aj wr q w.heap.size 0 es).heap.size:=by rw [size_putL];exact HR.out.sz
   obtain ⟨W1,hW1⟩:∃ W1,aj wr q w.heap.size 0 es=W1:=⟨_,rfl⟩
   rw [hW1] at hHold1 hB1 hO1 hs1 ⊢
   have HE:=hid (And.intro hel (And.intro hed (And.intro hr (And.intro hev (And.intro hHold1 (And.intro hB1 (And.intro hO1 hs1)))))))
   clear hel hed hr hev hHold1 hB1 hO1 hW1 hs1
   go_wp2_with fail
   refine (JO r (Nat.lt_trans HE.out.2.2.1 (by decide)) _ (HT.out.below HE.out.2.2.2.2.2.1 (Nat.le_refl _))).mono ?_
   rintro e w2 ⟨rfl,hB2⟩
   have hO2:w2.ownsRow (w.heap.size+1) 9 1 (.slice p3 rs.length cap3) rs.length (rs.map encS):=Fz HE.out.2.2.2.2.2.2.1 fun g _ h2=>hB2.block g h2
   have hs2:w.heap.size+1≤w2.heap.size:=Nat.le_trans HE.out.2.2.2.2.2.2.2 hB2.size
   have hH2:=HE.out.2.2.2.2.1.below hB2 (by have:=HE.out.2.2.2.2.2.2.2;omega)
   have hBw2:=HE.out.2.2.2.2.2.1.trans (hB2.mono HE.out.2.2.2.2.2.1.size)
   have HO2:=hid hO2
   have HF:=hid (And.intro hH2 (And.intro hBw2 hs2))
   have hrl:=hrs.out
   clear hO2 hH2 hBw2 hB2
   go_wp2_with (at_builtin;refine wpList_append_own _ rfl _ _ 139 rfl (w.heap.size+1) 9 i0 (.string ⟨#[]⟩) 1 16 Tryz.underlying139 hi hz0 hz1 hz2 rfl (by decide) _ _ _ rfl (HO2.out.alloc _) ⟨w2.heap.size,0,none⟩ 1 1 [encS r] rfl rfl ?c1 ?c2 ?c3 ?c4 ?c5 ?_)
   try (case c1 =>
    intro j u hj
    match j,hj with
    | 0,hj=>simp at hj;subst hj;first | simp | simp [Addr.add])
   try (case c2=>first | rfl | (intro u hu;simp at hu;subst hu;rfl))
   case c3=>first | (unfold maxLen;omega) | omega
   case c4=>omega
   case c5=>first | omega | (simp;omega)
   intro v' w3 hown' hgrow _
   have hB3:Below (w.heap.size+1) w2 w3:=((Below.refl _ w2).alloc hs2 _).grown hgrow (by simp;omega) (fun k hk=>(HO2.out.lt k hk).1)
   rw [← ZA] at hown'
   have HO3:=hid hown'
   have HG:=hid (And.intro (HF.out.1.below hB3 (by omega)) (And.intro (HF.out.2.1.trans (hB3.mono (by omega))) (Nat.le_trans hs2 hB3.size)))
   clear hown' hgrow hB3 HF
   go_wp2_with fail
   refine (jT n w.heap.size 0 n es _ HG.out.1.aK (by rw [HE.out.1,HR.out.len];omega) (by rw [HE.out.1,HR.out.len];exact Nat.le_refl _) (by rw [HE.out.1,HR.out.len])).mono ?_
   rintro e w4 ⟨m,rfl,ht,rfl⟩
   have HTl:=hid ht
   clear ht hrl
   go_wp2
   go_roundg (val es)
   case rel =>
    have h1:=HTl.out.1
    have h2:=HE.out.1
    have h3:=HR.out.len
    refine ⟨m,es.take m,rs ++ [r],rfl,⟨by rw [List.length_take];omega,by omega,HG.out.1.take m,HE.out.2.1.take m,HTl.out.trimmed,HTl.out.val,by rw [List.length_append];exact HO3.out,fun x hx=>?_,?_,fun h=>⟨by simp,?_⟩,HG.out.2.1,HG.out.2.2⟩⟩
    ·rcases List.mem_append.1 hx with h | h
     ·exact HR.out.lt x h
     ·simp at h;subst h;exact HE.out.2.2.1
    ·have e1:=HR.out.eq
     have e2:=HE.out.2.2.2.1
     rw [HR.out.vg] at e2
     rw [Om,List.length_append,List.length_singleton,Nat.pow_succ,← e1,e2]
     generalize TT ^ rs.length=P
     generalize TT=T
     grind
    ·have e2:=HE.out.2.2.2.1
     rw [HR.out.vg,h] at e2
     have:=hgp.out
     simp
     omega
   case measure =>
    have e2:=HE.out.2.2.2.1
    rw [HR.out.vg] at e2
    have:=hgp.out
    have h2:val es*2≤val es*TT:=Nat.mul_le_mul_left _ (by decide)
    omega
  ·obtain rfl:n=0:=by omega
   have hg0:gk=0:=by
    have:=HR.out.vg
    rw [List.length_eq_zero_iff.1 HR.out.len] at this
    exact this.symm
   subst hg0
   obtain ⟨hne,hlast⟩:=HR.out.last rfl
   have hV:Hid (vT rs=V):=by have:=HR.out.eq;rwa [Nat.mul_zero,Nat.add_zero] at this
   have hlen:rs.length≠0:=fun e=>hne (List.length_eq_zero_iff.1 e)
   obtain ⟨m,hm⟩:∃ m,rs.length=m+1:=⟨rs.length - 1,by omega⟩
   have hml:m≤2147483648:=by have:=hrs.out;omega
   have hown:=HR.out.own
   rw [hm] at hown
   obtain ⟨g,cap,rfl⟩:=Z4.Aa hown
   have hcell:∀ k:Nat,k≤m→wr.cell? ⟨g,k,none⟩=some (encS (rs[k]?.getD 0)):=fun k hk=>by
    have:=hown.cellAt k (by omega)
    rw [this,List.getElem?_map,List.getElem?_eq_getElem (by omega)]
    rfl
   have hgl:g<wr.heap.size:=(hown.lt g rfl).2
   have hpos:∀ k:Nat,k≤m→Hid (0<vT (rs.drop k)):=fun k hk=>by
    have h1:rs.drop k≠[]:=by intro e;have:=congrArg List.length e;simp at this;omega
    exact aa3 h1 (by rw [List.getLast_drop];exact hlast)
   have hdl:∀ k:Nat,k≤m→Hid ((Lib.decDigits (vT (rs.drop k))).length≤19*(m+1)):=fun k hk=>by
    show _≤_
    rw [Lib.decDigits_length]
    have:=WO (rs:=rs.drop k) (fun r hr=>HR.out.lt r (List.mem_of_mem_drop hr)) (by rw [List.length_drop];omega)
    rw [List.length_drop] at this
    omega
   have hch:∀ k:Nat,k≤m→rs[k]?.getD 0<TT:=fun k hk=>by
    rw [List.getElem?_eq_getElem (by omega)]
    exact HR.out.lt _ (List.getElem_mem _)
   have HC:=hid (And.intro hcell (And.intro hpos (And.intro hdl hch)))
   have HBw:=hid HR.out.bel
   have HM:=hid hm
   have ha:=Lib.fresh_isBuilder 143 5 wr
   have HA:=hid ha
   have cl:wr.cell? ⟨g,m,none⟩=some (encS (rs[m]?.getD 0)):=hcell m (Nat.le_refl _)
   obtain ⟨rl,hrl⟩:∃ r,rs[m]?.getD 0=r:=⟨_,rfl⟩
   rw [hrl] at cl
   have HRL:=hid hrl
   clear hown hcell hpos hdl hch hm ha hne hlast hlen HR hrl
   go_wp2_with fail
   have hw0:=GX wr.heap.size wr.heap.size [] (Lib.decDigits rl) _ HA.out (by have:=HC.out.2.2.2 m (Nat.le_refl _);rw [HRL.out] at this;rw [Lib.decDigits_length];have:=Lh this;simp;omega) (by simp)
   have hln:(⟨(Lib.decDigits rl).toArray⟩:ByteArray).size=(Lib.decDigits rl).length:=by simp [ByteArray.size]
   refine hw0.mono ?_
   rintro e w5 ⟨rfl,hb5,hB5⟩
   rw [List.nil_append] at hb5
   have hB5':Below wr.heap.size wr w5:=((Below.refl _ wr).alloc (Nat.le_refl _) _).trans hB5
   have HB5:=hid (And.intro hb5 hB5')
   clear hw0 hln hb5 hB5 hB5' cl HA
   go_wp2
   go_loopw [7] (fun iv w6=>∃ k:Nat,iv=.int .i64 ((k:Int) - 1)∧k≤m∧Lib.IsBuilder 143 5 wr.heap.size wr.heap.size (Lib.byteCells (Lib.decDigits (vT (rs.drop k)))) w6∧Below wr.heap.size wr w6) (fun iv _=>(intOf iv+1).toNat)
   case atStart =>
    refine ⟨m,rfl,Nat.le_refl _,?_,HB5.out.2⟩
    have:vT (rs.drop m)=rl:=by
     rw [Ol rs m (by rw [HM.out];omega),HRL.out,List.drop_of_length_le (by rw [HM.out];omega)]
     simp [vT]
    rw [this]
    exact HB5.out.1
   case round =>
    rename World=>w6
    clear HB5
    obtain ⟨k,rfl,hk,hbl,hB6⟩:=hrel
    have HB6:=hid (And.intro hbl hB6)
    clear hbl hB6
    by_cases hk0:k=0
    ·subst hk0
     rw [show (((0:Nat):Int) - 1) = -1 from rfl]
     have hst:=Tryz.Builder_String_any wr.heap.size wr.heap.size (Lib.decDigits (vT (rs.drop 0))) w6 HB6.out.1 HB6.out.2.size
     rw [List.drop_zero,hV.out] at hst
     have HST:=hid hst
     clear hst
     go_wp2_with fail
     refine HST.out.mono ?_
     rintro e w7 ⟨rfl,hB7⟩
     have HB7:=hid (HBw.out.trans ((HB6.out.2.trans hB7).mono HBw.out.size))
     clear hB7
     go_wp2
     go_ret
     exact ⟨rfl,HB7.out⟩
    ·obtain ⟨j,rfl⟩:∃ j,k=j+1:=⟨k - 1,by omega⟩
     obtain ⟨r,hr⟩:∃ r,rs[j]?.getD 0=r:=⟨_,rfl⟩
     have cj:w6.cell? ⟨g,j,none⟩=some (encS r):=by rw [HB6.out.2.cell (p:=⟨g,j,none⟩) hgl,HC.out.1 j (by omega),hr]
     have hrT:r<TT:=by rw [← hr];exact HC.out.2.2.2 j (by omega)
     have hnd:=Lh hrT
     have hln:(⟨(Lib.decDigits r).toArray⟩:ByteArray).size=Lib.nDigits r:=by rw [← Lib.decDigits_length];simp [ByteArray.size]
     obtain ⟨nd,hnde⟩:∃ nd,Lib.nDigits r=nd:=⟨_,rfl⟩
     rw [hnde] at hnd hln
     have hlen1:=(HC.out.2.2.1 (j+1) hk).out
     have hstep:Hid (Lib.decDigits (vT (rs.drop j))=Lib.decDigits (vT (rs.drop (j+1))) ++ (List.replicate (19 - nd) 48 ++ Lib.decDigits r)):=by
      show _=_
      rw [Ol rs j (by rw [HM.out];omega),hr,RH hrT (HC.out.2.1 (j+1) hk).out,hnde]
     have hdr:(Lib.decDigits r).length=nd:=by rw [Lib.decDigits_length,hnde]
     have hrep:=Tryz.strings_Repeat ⟨#[48]⟩ (19 - nd) w6 (by omega) (by simp [ByteArray.size];omega)
     rw [show (((19 - nd:Nat):Int))=19 - (nd:Int) from by omega] at hrep
     have HREP:=hid hrep
     have HDR:=hid hdr
     have HLN1:=hid hlen1
     have HRJ:=hid hr
     obtain ⟨D,hD⟩:∃ D,Lib.decDigits (vT (rs.drop (j+1)))=D:=⟨_,rfl⟩
     rw [hD] at HB6 hstep HLN1
     clear hrep hdr hlen1 hr hnde hrT hk0 hD
     go_wp2_with fail
     refine HREP.out.mono ?_
     rintro e w7 ⟨rfl,hB7⟩
     rw [MO]
     have hbl7:Lib.IsBuilder 143 5 wr.heap.size wr.heap.size (Lib.byteCells D) w7:=by
      have hlt:wr.heap.size<w6.heap.size:=by rcases HB6.out.1 with h | h <;> exact h.lt
      have ho:∀ {p:Value},Lib.BuilderAt 143 5 wr.heap.size wr.heap.size p (Lib.byteCells D) w6→Lib.BuilderAt 143 5 wr.heap.size wr.heap.size p (Lib.byteCells D) w7:=fun h=>by
       obtain ⟨h1,v,h2,h3,h4⟩:=h
       exact ⟨h1,v,(hB7.block _ hlt).trans h2,Fz h3 fun g _ hg=>hB7.block g hg,h4⟩
      exact HB6.out.1.imp ho ho
     have HB7:=hid (And.intro hbl7 (HB6.out.2.trans (hB7.mono HB6.out.2.size)))
     clear hbl7 hB7
     go_wp2_with fail
     refine (GX wr.heap.size wr.heap.size D (List.replicate (19 - nd) 48) _ HB7.out.1 (by have:=HLN1.out;rw [List.length_replicate];omega) HB7.out.2.size).mono ?_
     rintro e w8 ⟨rfl,hbl8,hB8⟩
     have HB8:=hid (And.intro hbl8 (HB7.out.2.trans hB8))
     have cj8:w8.cell? ⟨g,j,none⟩=some (encS r):=by rw [HB8.out.2.cell (p:=⟨g,j,none⟩) hgl,HC.out.1 j (by omega),HRJ.out]
     clear hbl8 hB8 cj
     go_wp2_with fail
     refine (GX wr.heap.size wr.heap.size (D ++ List.replicate (19 - nd) 48) (Lib.decDigits r) _ HB8.out.1 (by have:=HLN1.out;rw [List.length_append,List.length_replicate,HDR.out];omega) HB8.out.2.size).mono ?_
     rintro e w9 ⟨rfl,hbl9,hB9⟩
     have HB9:=hid (And.intro hbl9 (HB8.out.2.trans hB9))
     clear hbl9 hB9 cj8
     go_wp2
     go_roundw
     case rel=>exact ⟨j,by go_num,by omega,by rw [hstep.out,← List.append_assoc];exact HB9.out.1,HB9.out.2⟩
     case measure=>simp [intOf]
end
end Go.Proofs.YtancpaiaoamjlaaGreatDoor
