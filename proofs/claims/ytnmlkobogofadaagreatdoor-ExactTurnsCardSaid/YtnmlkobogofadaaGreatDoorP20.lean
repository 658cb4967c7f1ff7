/- What the proof rests on, part 20: Blocks of a call's own, and what is known of values, from world to world. Words in decimal digits. strings.Builder: what is written. Decimal digits, nineteen at a time: plain mathematics, no program. -/
import Derived.Test.YtnmlkobogofadaaGreatDoorP16
import Derived.Test.YtnmlkobogofadaaGreatDoorP19
import Derived.Test.YtnmlkobogofadaaGreatDoorP02
import Derived.Lib.ItoaMem
import Derived.Lib.Builder
import Derived.Lib.ItoaNum
import Derived.Test.YtnmlkobogofadaaGreatDoorP00
namespace Go.Proofs.YtnmlkobogofadaaGreatDoor
open Go.RowKit Go.Sort
structure Bk where
 pos:Nat
 ty:TypeId
 vs:List Value
def isU:Value→Bool
 | .int .u64 _=>true
 | _=>false
def isI:Value→Bool
 | .int .i64 _=>true
 | _=>false
def okVs:List Value→Bool
 | []=>true
 | [a]=>!isI a
 | a :: b :: r=>!(isU a && isU b) && !isI a && okVs (b :: r)
theorem okVs_tail {a:Value} {r:List Value} (h:okVs (a :: r)=true):okVs r=true:=by
 cases r with
 | nil=>rfl
 | cons b r=>simp only [okVs,Bool.and_eq_true] at h;exact h.2
theorem okVs_i:∀ {vs:List Value} {i:Nat} {x:Int},okVs vs=true→vs[i]? = some (.int .i64 x)→False
 | [],i,x,_,h=>by simp at h
 | a :: r,0,x,hk,h=>by
  simp only [List.getElem?_cons_zero,Option.some.injEq] at h
  subst h
  cases r <;> simp [okVs,isI] at hk
 | a :: r,i+1,x,hk,h=>okVs_i (okVs_tail hk) (by simpa using h)
theorem okVs_u:∀ {vs:List Value} {i:Nat} {x y:Int},okVs vs=true→vs[i]? = some (.int .u64 x)→vs[i+1]? = some (.int .u64 y)→False
 | [],i,x,y,_,h,_=>by simp at h
 | [a],0,x,y,hk,h,h2=>by simp at h2
 | a :: b :: r,0,x,y,hk,h,h2=>by
  simp only [List.getElem?_cons_zero,Option.some.injEq] at h
  simp only [Nat.zero_add,List.getElem?_cons_succ,List.getElem?_cons_zero,Option.some.injEq] at h2
  subst h h2
  simp [okVs,isU] at hk
 | a :: r,i+1,x,y,hk,h,h2=>okVs_u (okVs_tail hk) (by simpa using h) (by simpa using h2)
abbrev c5 (t:Bool) (x:Int) (p:Option Addr) (l q:Nat) (y:Int) (p':Option Addr) (l' q':Nat):List Value:=[.bool t,.int .u64 x,.slice p l q,.int .u64 y,.slice p' l' q']
abbrev z5:List Value:=[.bool false,.int .u64 0,.slice none 0 0,.int .u64 0,.slice none 0 0]
def Bx (W:World) (b:Nat) (T:TypeId) (vs:List Value):Prop:=W.heap[b]? = some (.cells vs.toArray T (0,0))
theorem Bx.lt {W:World} {b:Nat} {T:TypeId} {vs:List Value} (h:Bx W b T vs):b<W.heap.size:=by
 rcases Nat.lt_or_ge b W.heap.size with hlt | hge
 ·exact hlt
 ·unfold Bx at h;rw [Array.getElem?_eq_none hge] at h;cases h
theorem Bx.cell {W:World} {b:Nat} {T:TypeId} {vs:List Value} (h:Bx W b T vs) (i:Nat):W.cell? ⟨b,i,none⟩=vs[i]?:=by
 unfold Bx at h
 simp [World.cell?,h]
theorem Bx.frozen {W:World} {b:Nat} {T:TypeId} {vs:List Value} (h:Bx W b T vs) (i:Nat):W.frozen? ⟨b,i,none⟩=false:=by
 unfold Bx at h
 simp [World.frozen?,h]
theorem Bx.below {W W':World} {b:Nat} {T:TypeId} {vs:List Value} (h:Bx W b T vs) (hb:Below W.heap.size W W'):Bx W' b T vs:=(hb.block b h.lt).trans h
theorem Bx.new (W:World) (T:TypeId) (vs:List Value):Bx (W.alloc (.cells vs.toArray T)) W.heap.size T vs:=heap_alloc_new W _
theorem Bx.set {W:World} {b:Nat} {T:TypeId} {vs:List Value} (h:Bx W b T vs) (i:Nat) (u:Value):Bx (W.setCell ⟨b,i,none⟩ u) b T (vs.set i u):=by
 unfold Bx at h ⊢
 simp [World.setCell,Array.getElem?_modify,h]
theorem Bx.far {W:World} {b:Nat} {T:TypeId} {vs:List Value} (h:Bx W b T vs) {a:Addr} (ha:b≠a.block) (u:Value):Bx (W.setCell a u) b T vs:=(Below.heap_setCell W a u b ha).trans h
theorem IsMag.setBox {W:World} {c d:Value} {n b i:Nat} {T:TypeId} {vs:List Value} {u:Value} (h:IsMag W c d n) (hb:Bx W b T vs) (ok:okVs vs=true):IsMag (W.setCell ⟨b,i,none⟩ u) c d n:=by
 rcases h with h | ⟨b1,o,k,xs,k1,k2,k3,k4,k5,k6,k7,k8,k9⟩
 ·exact .inl h
 ·have hne:b1≠b:=fun e=>by
   subst e
   have h0:=k9 0 (by omega)
   have h1:=k9 1 (by omega)
   rw [Nat.add_zero,hb.cell] at h0
   rw [hb.cell] at h1
   exact okVs_u ok h0 h1
  refine .inr ⟨b1,o,k,xs,k1,k2,by simpa using k3,k4,k5,k6,k7,k8,fun j hj=>?_⟩
  rw [World.cell?_setCell_other _ _ _ _ (fun e=>hne (by have:=congrArg Addr.block e;simpa using this.symm))]
  exact k9 j hj
theorem IsQ.setBox {W:World} {v:Value} {r:Rat} {b i:Nat} {T:TypeId} {vs:List Value} {u:Value} (h:IsQ W v r) (hb:Bx W b T vs) (ok:okVs vs=true):IsQ (W.setCell ⟨b,i,none⟩ u) v r:=by
 obtain ⟨c,d,e,f,rfl,h1,h2⟩:=h
 exact ⟨c,d,e,f,rfl,h1.setBox hb ok,h2.setBox hb ok⟩
namespace Z4
theorem IsL.setBox {W:World} {B:Nat} {v:Value} {xs:List Nat} {b i:Nat} {T:TypeId} {vs:List Value} {u:Value} (h:IsL B W v xs) (hb:Bx W b T vs) (ok:okVs vs=true):IsL B (W.setCell ⟨b,i,none⟩ u) v xs:=by
 rcases h with h | ⟨b1,o,k,rfl,k1,k2,k3,k4⟩
 ·exact .inl h
 ·refine .inr ⟨b1,o,k,rfl,k1,by simpa using k2,k3,fun j hj=>?_⟩
  have hne:b1≠b:=fun e=>by
   subst e
   have h0:=k4 j hj
   rw [hb.cell] at h0
   exact okVs_i ok h0
  rw [World.cell?_setCell_other _ _ _ _ (fun e=>hne (by have:=congrArg Addr.block e;simpa using this.symm))]
  exact k4 j hj
def IsZ (W:World) (v:Value) (z:Int):Prop:=∃ (p:Option Addr) (l k:Nat) (xs:List Nat),v=.agg #[.bool (decide (z<0)),.slice p l k]∧IsL 0 W (.slice p l k) xs∧Dig xs∧Trimmed xs∧val xs=z.natAbs
theorem IsZ.below {W W':World} {v:Value} {z:Int} (h:IsZ W v z) (hb:Below W.heap.size W W'):IsZ W' v z:=by
 obtain ⟨p,l,k,xs,h1,h2,h3⟩:=h
 exact ⟨p,l,k,xs,h1,h2.below hb,h3⟩
theorem IsZ.setBox {W:World} {v:Value} {z:Int} {b i:Nat} {T:TypeId} {vs:List Value} {u:Value} (h:IsZ W v z) (hb:Bx W b T vs) (ok:okVs vs=true):IsZ (W.setCell ⟨b,i,none⟩ u) v z:=by
 obtain ⟨p,l,k,xs,h1,h2,h3⟩:=h
 exact ⟨p,l,k,xs,h1,h2.setBox hb ok,h3⟩
end Z4
inductive Fc
 | q (v:Value) (r:Rat)
 | m (c d:Value) (n:Nat)
 | l (B:Nat) (v:Value) (xs:List Nat)
 | z (v:Value) (n:Int)
def Fc.on:Fc→World→Prop
 | .q v r,W=>IsQ W v r
 | .m c d n,W=>IsMag W c d n
 | .l B v xs,W=>Z4.IsL B W v xs
 | .z v n,W=>Z4.IsZ W v n
theorem Fc.below {f:Fc} {W W':World} (h:f.on W) (hb:Below W.heap.size W W'):f.on W':=by
 cases f
 ·exact IsQ.below h hb
 ·exact IsMag.below h hb
 ·exact Z4.IsL.below h hb
 ·exact Z4.IsZ.below h hb
theorem Fc.setBox {f:Fc} {W:World} {b i:Nat} {T:TypeId} {vs:List Value} {u:Value} (h:f.on W) (hb:Bx W b T vs) (ok:okVs vs=true):f.on (W.setCell ⟨b,i,none⟩ u):=by
 cases f
 ·exact IsQ.setBox h hb ok
 ·exact IsMag.setBox h hb ok
 ·exact Z4.IsL.setBox h hb ok
 ·exact Z4.IsZ.setBox h hb ok
def Boxes (w W:World):List Bk→Prop
 | []=>True
 | b :: r=>(w.heap.size≤b.pos∧Bx W b.pos b.ty b.vs∧∀ c∈r,b.pos≠c.pos)∧Boxes w W r
def Facts (W:World):List Fc→Prop
 | []=>True
 | f :: r=>f.on W∧Facts W r
theorem Boxes.below {w W W':World} (hb:Below W.heap.size W W'):∀ {bs:List Bk},Boxes w W bs→Boxes w W' bs
 | [],_=>trivial
 | _ :: _,h=>⟨⟨h.1.1,h.1.2.1.below hb,h.1.2.2⟩,h.2.below hb⟩
theorem Facts.below {W W':World} (hb:Below W.heap.size W W'):∀ {fs:List Fc},Facts W fs→Facts W' fs
 | [],_=>trivial
 | _ :: _,h=>⟨Fc.below h.1 hb,h.2.below hb⟩
theorem Boxes.far {w W:World} {a:Addr} (u:Value):∀ {bs:List Bk},(∀ c∈bs,a.block≠c.pos)→Boxes w W bs→Boxes w (W.setCell a u) bs
 | [],_,_=>trivial
 | _ :: _,hn,h=>⟨⟨h.1.1,h.1.2.1.far (Ne.symm (hn _ (by simp))) u,h.1.2.2⟩,h.2.far u fun c hc=>hn c (by simp [hc])⟩
theorem Facts.setBox {W:World} {b i:Nat} {T:TypeId} {vs:List Value} {u:Value} (hb:Bx W b T vs) (ok:okVs vs=true):∀ {fs:List Fc},Facts W fs→Facts (W.setCell ⟨b,i,none⟩ u) fs
 | [],_=>trivial
 | _ :: _,h=>⟨Fc.setBox h.1 hb ok,h.2.setBox hb ok⟩
theorem Boxes.get {w W:World}:∀ {bs:List Bk} {k:Nat} {b:Bk},Boxes w W bs→bs[k]? = some b→w.heap.size≤b.pos∧Bx W b.pos b.ty b.vs
 | [],_,_,_,h=>by simp at h
 | _ :: _,0,_,h,e=>by simp at e;subst e;exact ⟨h.1.1,h.1.2.1⟩
 | _ :: _,k+1,_,h,e=>h.2.get (by simpa using e)
def setBk:List Bk→Nat→Nat→Value→List Bk
 | [],_,_,_=>[]
 | b :: r,0,i,u=>⟨b.pos,b.ty,b.vs.set i u⟩ :: r
 | b :: r,k+1,i,u=>b :: setBk r k i u
theorem setBk_pos:∀ {bs:List Bk} {k i:Nat} {u:Value} {c:Bk},c∈setBk bs k i u→∃ c'∈bs,c'.pos=c.pos
 | [],_,_,_,_,h=>by simp [setBk] at h
 | b :: r,0,i,u,c,h=>by
  simp only [setBk,List.mem_cons] at h
  rcases h with rfl | h
  ·exact ⟨b,by simp,rfl⟩
  ·exact ⟨c,by simp [h],rfl⟩
 | b :: r,k+1,i,u,c,h=>by
  simp only [setBk,List.mem_cons] at h
  rcases h with rfl | h
  ·exact ⟨c,by simp,rfl⟩
  ·obtain ⟨c',h1,h2⟩:=setBk_pos h
   exact ⟨c',by simp [h1],h2⟩
theorem Boxes.set {w W:World} (i:Nat) (u:Value):∀ {bs:List Bk} {k:Nat} {b:Bk},Boxes w W bs→bs[k]? = some b→Boxes w (W.setCell ⟨b.pos,i,none⟩ u) (setBk bs k i u)
 | [],_,_,_,h=>by simp at h
 | c :: r,0,b,h,e=>by
  simp at e
  subst e
  exact ⟨⟨h.1.1,h.1.2.1.set i u,h.1.2.2⟩,h.2.far u fun d hd=>h.1.2.2 d hd⟩
 | c :: r,k+1,b,h,e=>by
  have e':r[k]? = some b:=by simpa using e
  have hb:b∈r:=List.mem_of_getElem? e'
  refine ⟨⟨h.1.1,h.1.2.1.far (h.1.2.2 b hb) u,fun d hd=>?_⟩,h.2.set i u e'⟩
  obtain ⟨d',h1,h2⟩:=setBk_pos hd
  rw [← h2]
  exact h.1.2.2 d' h1
structure St (w:World) (bs:List Bk) (fs:List Fc) (W:World):Prop where
 bel:Below w.heap.size w W
 box:Boxes w W bs
 fct:Facts W fs
theorem St.start (w:World):St w [] [] w:=⟨Below.refl _ _,trivial,trivial⟩
theorem St.call {w W W':World} {bs:List Bk} {fs:List Fc} (h:St w bs fs W) (hb:Below W.heap.size W W'):St w bs fs W':=
 ⟨h.bel.trans (hb.mono h.bel.size),h.box.below hb,h.fct.below hb⟩
theorem St.drew {w W:World} {bs:List Bk} {fs:List Fc} (h:St w bs fs W):St w bs fs W.drew:=h.call (Below.refl _ _).drew
theorem St.fact {w W:World} {bs:List Bk} {fs:List Fc} (h:St w bs fs W) (f:Fc) (hf:f.on W):St w bs (f :: fs) W:=⟨h.bel,h.box,hf,h.fct⟩
theorem St.alloc {w W:World} {bs:List Bk} {fs:List Fc} (h:St w bs fs W) (T:TypeId) (vs:List Value):St w (⟨W.heap.size,T,vs⟩ :: bs) fs (W.alloc (.cells vs.toArray T)):=by
 have hb:=(Below.refl W.heap.size W).alloc (Nat.le_refl _) (.cells vs.toArray T)
 refine ⟨h.bel.trans (hb.mono h.bel.size),⟨⟨h.bel.size,Bx.new W T vs,fun c hc=>?_⟩,h.box.below hb⟩,h.fct.below hb⟩
 obtain ⟨k,hk⟩:=List.getElem?_of_mem hc
 have:=(h.box.get hk).2.lt
 show W.heap.size≠c.pos
 omega
theorem St.alloc' {w W:World} {bs:List Bk} {fs:List Fc} (h:St w bs fs W) (n:Nat) (hn:W.heap.size=n) (T:TypeId) (vs:List Value):St w (⟨n,T,vs⟩ :: bs) fs (W.alloc (.cells vs.toArray T)):=by
 subst hn
 exact h.alloc T vs
theorem St.store {w W:World} {bs:List Bk} {fs:List Fc} (h:St w bs fs W) (k i:Nat) (u:Value) {b:Bk} (hk:bs[k]? = some b) (ok:okVs b.vs=true):St w (setBk bs k i u) fs (W.setCell ⟨b.pos,i,none⟩ u):=by
 obtain ⟨h1,h2⟩:=h.box.get hk
 exact ⟨h.bel.setCell h1 u,h.box.set i u hk,h.fct.setBox h2 ok⟩
theorem St.bx {w W:World} {bs:List Bk} {fs:List Fc} (h:St w bs fs W) (k:Nat) {b:Bk} (hk:bs[k]? = some b):Bx W b.pos b.ty b.vs:=(h.box.get hk).2
theorem Facts.get {W:World}:∀ {fs:List Fc} {k:Nat} {f:Fc},Facts W fs→fs[k]? = some f→f.on W
 | [],_,_,_,h=>by simp at h
 | _ :: _,0,_,h,e=>by simp at e;subst e;exact h.1
 | _ :: _,k+1,_,h,e=>h.2.get (by simpa using e)
theorem St.get {w W:World} {bs:List Bk} {fs:List Fc} (h:St w bs fs W) (k:Nat) {f:Fc} (hk:fs[k]? = some f):f.on W:=h.fct.get hk
theorem St.add {w W:World} {bs:List Bk} {fs:List Fc} (h:St w bs fs W) {L:Nat} {T:TypeId} {vs:List Value} (h1:w.heap.size≤L) (h2:Bx W L T vs) (h3:∀ c∈bs,L≠c.pos):St w (⟨L,T,vs⟩ :: bs) fs W:=
 ⟨h.bel,⟨⟨h1,h2,h3⟩,h.box⟩,h.fct⟩
theorem Boxes.old {w W:World} {N:Nat} (hN:W.heap.size≤N):∀ {bs:List Bk},Boxes w W bs→∀ c∈bs,N≠c.pos
 | [],_,c,hc=>by simp at hc
 | b :: r,h,c,hc=>by
  rcases List.mem_cons.1 hc with rfl | h1
  ·have:=h.1.2.1.lt;omega
  ·exact h.2.old hN c h1
theorem St.old {w W:World} {bs:List Bk} {fs:List Fc} (h:St w bs fs W) {N:Nat} (hN:W.heap.size≤N):∀ c∈bs,N≠c.pos:=h.box.old hN
def NewV (B:Nat) (T:TypeId) (vs:List Value) (v:Value) (W:World):Prop:=∃ L,v=.pointer (some ⟨L,0,none⟩)∧B≤L∧L<W.heap.size∧Bx W L T vs
theorem newV_below {B:Nat} {T:TypeId} {vs:List Value}:∀ v W W',Below W.heap.size W W'→NewV B T vs v W→NewV B T vs v W':=
 fun _ _ _ hb ⟨L,e,h1,h2,h3⟩=>⟨L,e,h1,Nat.lt_of_lt_of_le h2 hb.size,h3.below hb⟩
theorem isZ_below {z:Int}:∀ v W W',Below W.heap.size W W'→(fun v W=>Z4.IsZ W v z) v W→(fun v W=>Z4.IsZ W v z) v W':=fun _ _ _ hb h=>Z4.IsZ.below h hb
theorem isL_below {B:Nat} {xs:List Nat}:∀ v W W',Below W.heap.size W W'→(fun v W=>Z4.IsL B W v xs) v W→(fun v W=>Z4.IsL B W v xs) v W':=fun _ _ _ hb h=>Z4.IsL.below h hb
theorem Bx.f1 {W:World} {b:Nat} {T:TypeId} {v0:Value} (h:Bx W b T [v0]):W.cell? ⟨b,0,none⟩=some v0∧W.frozen? ⟨b,0,none⟩=false:=⟨h.cell 0,h.frozen 0⟩
theorem Bx.f2 {W:World} {b:Nat} {T:TypeId} {v0 v1:Value} (h:Bx W b T [v0,v1]) :
  (W.cell? ⟨b,0,none⟩=some v0∧W.cell? ⟨b,1,none⟩=some v1)∧W.frozen? ⟨b,0,none⟩=false∧W.frozen? ⟨b,1,none⟩=false:=⟨⟨h.cell 0,h.cell 1⟩,h.frozen 0,h.frozen 1⟩
theorem Bx.f3 {W:World} {b:Nat} {T:TypeId} {v0 v1 v2:Value} (h:Bx W b T [v0,v1,v2]) :
  (W.cell? ⟨b,0,none⟩=some v0∧W.cell? ⟨b,1,none⟩=some v1∧W.cell? ⟨b,2,none⟩=some v2)∧W.frozen? ⟨b,0,none⟩=false∧W.frozen? ⟨b,1,none⟩=false∧W.frozen? ⟨b,2,none⟩=false:=⟨⟨h.cell 0,h.cell 1,h.cell 2⟩,h.frozen 0,h.frozen 1,h.frozen 2⟩
theorem Bx.f4 {W:World} {b:Nat} {T:TypeId} {v0 v1 v2 v3:Value} (h:Bx W b T [v0,v1,v2,v3]) :
  (W.cell? ⟨b,0,none⟩=some v0∧W.cell? ⟨b,1,none⟩=some v1∧W.cell? ⟨b,2,none⟩=some v2∧W.cell? ⟨b,3,none⟩=some v3)∧W.frozen? ⟨b,0,none⟩=false∧W.frozen? ⟨b,1,none⟩=false∧W.frozen? ⟨b,2,none⟩=false∧W.frozen? ⟨b,3,none⟩=false:=
 ⟨⟨h.cell 0,h.cell 1,h.cell 2,h.cell 3⟩,h.frozen 0,h.frozen 1,h.frozen 2,h.frozen 3⟩
theorem Bx.f5 {W:World} {b:Nat} {T:TypeId} {v0 v1 v2 v3 v4:Value} (h:Bx W b T [v0,v1,v2,v3,v4]) :
  (W.cell? ⟨b,0,none⟩=some v0∧W.cell? ⟨b,1,none⟩=some v1∧W.cell? ⟨b,2,none⟩=some v2∧W.cell? ⟨b,3,none⟩=some v3∧W.cell? ⟨b,4,none⟩=some v4) ∧
  W.frozen? ⟨b,0,none⟩=false∧W.frozen? ⟨b,1,none⟩=false∧W.frozen? ⟨b,2,none⟩=false∧W.frozen? ⟨b,3,none⟩=false∧W.frozen? ⟨b,4,none⟩=false:=
 ⟨⟨h.cell 0,h.cell 1,h.cell 2,h.cell 3,h.cell 4⟩,h.frozen 0,h.frozen 1,h.frozen 2,h.frozen 3,h.frozen 4⟩
theorem St.f1 {w W:World} {bs:List Bk} {fs:List Fc} (h:St w bs fs W) (k b:Nat) (T:TypeId) (v0:Value) (hk:bs[k]? = some ⟨b,T,[v0]⟩):W.cell? ⟨b,0,none⟩=some v0∧W.frozen? ⟨b,0,none⟩=false:=(h.bx k hk).f1
theorem St.f2 {w W:World} {bs:List Bk} {fs:List Fc} (h:St w bs fs W) (k b:Nat) (T:TypeId) (v0 v1:Value) (hk:bs[k]? = some ⟨b,T,[v0,v1]⟩) :
  (W.cell? ⟨b,0,none⟩=some v0∧W.cell? ⟨b,1,none⟩=some v1)∧W.frozen? ⟨b,0,none⟩=false∧W.frozen? ⟨b,1,none⟩=false:=(h.bx k hk).f2
theorem St.f3 {w W:World} {bs:List Bk} {fs:List Fc} (h:St w bs fs W) (k b:Nat) (T:TypeId) (v0 v1 v2:Value) (hk:bs[k]? = some ⟨b,T,[v0,v1,v2]⟩) :
  (W.cell? ⟨b,0,none⟩=some v0∧W.cell? ⟨b,1,none⟩=some v1∧W.cell? ⟨b,2,none⟩=some v2)∧W.frozen? ⟨b,0,none⟩=false∧W.frozen? ⟨b,1,none⟩=false∧W.frozen? ⟨b,2,none⟩=false:=(h.bx k hk).f3
theorem St.f4 {w W:World} {bs:List Bk} {fs:List Fc} (h:St w bs fs W) (k b:Nat) (T:TypeId) (v0 v1 v2 v3:Value) (hk:bs[k]? = some ⟨b,T,[v0,v1,v2,v3]⟩) :
  (W.cell? ⟨b,0,none⟩=some v0∧W.cell? ⟨b,1,none⟩=some v1∧W.cell? ⟨b,2,none⟩=some v2∧W.cell? ⟨b,3,none⟩=some v3)∧W.frozen? ⟨b,0,none⟩=false∧W.frozen? ⟨b,1,none⟩=false∧W.frozen? ⟨b,2,none⟩=false∧W.frozen? ⟨b,3,none⟩=false:=(h.bx k hk).f4
theorem St.f5 {w W:World} {bs:List Bk} {fs:List Fc} (h:St w bs fs W) (k b:Nat) (T:TypeId) (v0 v1 v2 v3 v4:Value) (hk:bs[k]? = some ⟨b,T,[v0,v1,v2,v3,v4]⟩) :
  (W.cell? ⟨b,0,none⟩=some v0∧W.cell? ⟨b,1,none⟩=some v1∧W.cell? ⟨b,2,none⟩=some v2∧W.cell? ⟨b,3,none⟩=some v3∧W.cell? ⟨b,4,none⟩=some v4)∧W.frozen? ⟨b,0,none⟩=false∧W.frozen? ⟨b,1,none⟩=false∧W.frozen? ⟨b,2,none⟩=false∧W.frozen? ⟨b,3,none⟩=false∧W.frozen? ⟨b,4,none⟩=false:=(h.bx k hk).f5
theorem St.ne {w W:World} {bs:List Bk} {fs:List Fc} (h:St w bs fs W) (k b:Nat) (T:TypeId) (vs:List Value) (hk:bs[k]? = some ⟨b,T,vs⟩):b<W.heap.size∧¬ W.heap.size=b∧¬ b=W.heap.size:=by
 have:b<W.heap.size:=(h.bx k hk).lt
 omega
theorem St.q5 {w W:World} {bs:List Bk} {fs:List Fc} (h:St w bs fs W) (k j b:Nat) (T:TypeId) (t:Bool) (x:Int) (p:Option Addr) (l q:Nat) (y:Int) (p':Option Addr) (l' q':Nat) (r:Rat)
  (hk:bs[k]? = some ⟨b,T,[.bool t,.int .u64 x,.slice p l q,.int .u64 y,.slice p' l' q']⟩) (hj:fs[j]? = some (.q (.agg #[.bool t,.int .u64 x,.slice p l q,.int .u64 y,.slice p' l' q']) r)) :
  (W.cell? ⟨b,0,none⟩=some (.bool t)∧W.cell? ⟨b,1,none⟩=some (.int .u64 x)∧W.cell? ⟨b,2,none⟩=some (.slice p l q)∧W.cell? ⟨b,3,none⟩=some (.int .u64 y)∧W.cell? ⟨b,4,none⟩=some (.slice p' l' q'))∧IsQ W (.agg #[.bool t,.int .u64 x,.slice p l q,.int .u64 y,.slice p' l' q']) r:=
 ⟨(h.bx k hk).f5.1,h.get j hj⟩
abbrev oQ (r:Rat):List Value→World→Prop:=one fun v W=>IsQ W v r
abbrev oE (x:Value):List Value→World→Prop:=one fun v _=>v=x
theorem bQ {r:Rat}:∀ vs W W',Below W.heap.size W W'→oQ r vs W→oQ r vs W':=one_below isQ_below
theorem bE {x:Value}:∀ vs W W',Below W.heap.size W W'→oE x vs W→oE x vs W':=one_below is_below
theorem St.swap {w W:World} {a b:Bk} {bs:List Bk} {fs:List Fc} (h:St w (a :: b :: bs) fs W):St w (b :: a :: bs) fs W:=
 ⟨h.bel,⟨⟨h.box.2.1.1,h.box.2.1.2.1,fun c hc=>by
  rcases List.mem_cons.1 hc with rfl | hc
  ·exact (h.box.1.2.2 b (by simp)).symm
  ·exact h.box.2.1.2.2 c hc⟩,⟨h.box.1.1,h.box.1.2.1,fun c hc=>h.box.1.2.2 c (by simp [hc])⟩,h.box.2.2⟩,h.fct⟩
theorem Boxes.apart {w W:World}:∀ {bs:List Bk} (i j:Nat) {b c:Bk},Boxes w W bs→bs[i]? = some b→bs[j]? = some c→i<j→b.pos≠c.pos
 | [],_,_,_,_,_,h,_,_=>by simp at h
 | a :: r,0,j+1,b,c,h,hb,hc,_=>by
  simp at hb hc
  subst hb
  exact h.1.2.2 c (List.mem_of_getElem? hc)
 | a :: r,i+1,j+1,b,c,h,hb,hc,hl=>Boxes.apart i j h.2 (by simpa using hb) (by simpa using hc) (by omega)
 | a :: r,0,0,_,_,_,_,_,hl=>by omega
 | a :: r,i+1,0,_,_,_,_,_,hl=>by omega
theorem St.apart {w W:World} {bs:List Bk} {fs:List Fc} (h:St w bs fs W) (i j:Nat) {b c:Bk} (hb:bs[i]? = some b) (hc:bs[j]? = some c) (hl:i<j):¬ b.pos=c.pos∧¬ c.pos=b.pos:=
 ⟨h.box.apart i j hb hc hl,fun e=>h.box.apart i j hb hc hl e.symm⟩
theorem nameW {w W:World} {bs:List Bk} {fs:List Fc} (_:Hid (St w bs fs W)):∃ W',W=W':=⟨W,rfl⟩
theorem St.as {w W:World} {bs:List Bk} {fs:List Fc} (h:St w bs fs W) (bs':List Bk) (e:bs=bs'):St w bs' fs W:=e ▸ h
theorem St.fq {w W:World} {bs:List Bk} {fs:List Fc} (h:St w bs fs W) {v:Value} {r:Rat} (hf:IsQ W v r):St w bs (.q v r :: fs) W:=h.fact (.q v r) hf
theorem St.gq {w W:World} {bs:List Bk} {fs:List Fc} (h:St w bs fs W) (k:Nat) {v:Value} {r:Rat} (hk:fs[k]? = some (.q v r)):IsQ W v r:=h.get k hk
theorem size_setCell (W:World) (a:Addr) (u:Value):(W.setCell a u).heap.size=W.heap.size:=by simp
theorem IsQ.open {W:World} {v:Value} {r:Rat} (h:IsQ W v r):∃ (t:Bool) (x:Int) (p:Option Addr) (l k:Nat) (x':Int) (p':Option Addr) (l' k':Nat),v=.agg #[.bool t,.int .u64 x,.slice p l k,.int .u64 x',.slice p' l' k']:=by
 obtain ⟨t,x,p,l,k,x',p',l',k',e,-⟩:=h.shape
 exact ⟨t,x,p,l,k,x',p',l',k',e⟩
end Go.Proofs.YtnmlkobogofadaaGreatDoor
namespace Go.Proofs.YtnmlkobogofadaaGreatDoor
set_option maxRecDepth 100000
set_option maxHeartbeats 80000000
open Go.RowKit Go.Sort
def Tab10 (w:World):Prop:=4<w.heap.size∧Lib.TabIs Tryz.prog w "internal/strconv.uint64pow10" .u64 Lib.pow10Tab
theorem Tab10.below {B:Nat} {w w':World} (h:Tab10 w) (hb:Below B w w') (hB:w.heap.size≤B):Tab10 w':=by
 refine ⟨Nat.lt_of_lt_of_le h.1 hb.size,?_⟩
 have h2:=h.2
 unfold Lib.TabIs World.var? at *
 have hg:Tryz.prog.globalNamed "internal/strconv.uint64pow10" = some 4:=by kernel_rfl
 rw [hg] at h2 ⊢
 simp only [Option.bind_some] at h2 ⊢
 rw [hb.block _ (Nat.lt_of_lt_of_le h.1 hB)]
 exact h2
abbrev E8 (b:UInt8):Value:=.int .u8 (b.toNat:Int)
theorem holds_zero24 (w:World) (T:TypeId) (nd:Nat) (hs:nd≤20):Holds E8 (w.alloc (.cells Lib.zeros24 T)) w.heap.size 0 (Array.replicate nd (0:UInt8)):=fun j hj=>by
 have hj':j<nd:=by simpa using hj
 refine ⟨?_,World.frozen?_alloc_new _ _ _ _⟩
 rw [World.cell?_alloc_new,Lib.zeros24_at _ (by omega),getElem!_pos _ j hj]
 simp
theorem heap_putRow8 (w:World) (b o:Nat) (xs:Array UInt8) (k:Nat) (h:k≠b):(putRow E8 w b o xs).heap[k]? = w.heap[k]?:=by
 unfold putRow mapBlock
 simp only [Array.getElem?_modify]
 rw [if_neg (by omega)]
theorem below_putRow8 {B:Nat} (w:World) (b o:Nat) (xs:Array UInt8) (h:B≤b):Below B w (putRow E8 w b o xs):=
 ⟨rfl,rfl,rfl,by rw [size_putRow];exact Nat.le_refl _,fun k hk=>heap_putRow8 _ _ _ _ _ (by omega)⟩
def RetT (w:World) (l:List UInt8) (e:Ending) (w':World):Prop:=e=.returned (.string ⟨l.toArray⟩)∧Below w.heap.size w w'
theorem fmt_small (u:Nat) (hu:u<100) (w:World):Calls Tryz.prog 237 #[.int .u64 (u:Int),.int .i64 10] w (RetT w (Lib.decDigits u)):=by
 go_enter Tryz.func237,Tryz.ntmps237
 go_wp2_with fail
 refine (Tryz.internal_strconv_small u hu _).mono ?_
 rintro e w' ⟨rfl,rfl⟩
 go_wp2
 go_ret
 exact ⟨rfl,Below.refl _ _⟩
theorem fmt_big (u:Nat) (hu:100≤u) (hu64:u<18446744073709551616) (w:World) (hT:Tab10 w):Calls Tryz.prog 237 #[.int .u64 (u:Int),.int .i64 10] w (RetT w (Lib.decDigits u)):=by
 have hnd20:Lib.nDigits u≤20:=by have:=Lib.numDigits_eq u (by omega) hu64;split at this <;> omega
 have hal:Tryz.prog.arrayLen 266=24:=by kernel_rfl
 have hH0:=holds_zero24 w 266 (Lib.nDigits u) hnd20
 have hfmt:=Tryz.internal_strconv_formatBase10 w.heap.size 0 24 u (Array.replicate (Lib.nDigits u) 0) (w.alloc (.cells Lib.zeros24 266)) hH0 (by rw [Array.size_replicate];exact Lib.lt_pow_nDigits u) hu64 (by rw [Array.size_replicate];omega)
 rw [Array.size_replicate] at hfmt
 have hb0:=(Below.refl w.heap.size w).alloc (Nat.le_refl _) (.cells Lib.zeros24 266)
 have hnum:=Tryz.internal_strconv_numDigits u (by omega) hu64 (w.alloc (.cells Lib.zeros24 266)) (hT.below hb0 (Nat.le_refl _)).2
 have hsl1:∀ W,(Instr.sliceAt 266 (.pointer (some ⟨w.heap.size,0,none⟩)) none (some (.int .i64 (Lib.nDigits u:Int))) none).run Tryz.prog W=.ok (.slice (some ⟨w.heap.size,0,none⟩) (Lib.nDigits u) 24) W:=fun W=>by
  rw [run_sliceAt_array_h W 266 ⟨w.heap.size,0,none⟩ (by kernel_rfl) .i64 (Lib.nDigits u:Int) (by omega) (by rw [hal];omega)]
  go_simp
 have HH0:=hid hH0
 have HF:=hid hfmt
 have HN:=hid hnum
 have HB0:=hid hb0
 have HU:=hid hu64
 clear hH0 hal hfmt hnum hb0 hu64 hT
 go_enter Tryz.func237,Tryz.ntmps237
 go_wp2_with fail
 refine HN.out.mono ?_
 rintro e w' ⟨rfl,rfl⟩
 go_wp2_with fail
 refine HF.out.mono ?_
 rintro e w' ⟨rfl,k,v',dk,rfl,hF⟩
 have hcv:(convert 246 9 (.slice (some ⟨w.heap.size,0,none⟩) (Lib.nDigits u) 24)).run Tryz.prog ((putRow E8 (w.alloc (.cells Lib.zeros24 266)) w.heap.size 0 dk).drewN k)=.ok (.string ⟨(Lib.decDigits u).toArray⟩) ((putRow E8 (w.alloc (.cells Lib.zeros24 266)) w.heap.size 0 dk).drewN k):=by
  have h:=run_convert_bytes_back (P:=Tryz.prog) ((putRow E8 (w.alloc (.cells Lib.zeros24 266)) w.heap.size 0 dk).drewN k) 246 9 5 ⟨w.heap.size,0,none⟩ 24 (Lib.decDigits u) Tryz.underlying246 Tryz.underlying5 Tryz.underlying9 (fun j hj=>by
   rw [Lib.row_is_numeral hF j hj,Lib.add_plain,World.cell?_drewN]
   exact cell?_putRow E8 _ w.heap.size 0 _ dk HH0.out (by rw [hF.size,Array.size_replicate]) j (by rw [hF.size];rw [Lib.decDigits_length] at hj;exact hj))
  rw [Lib.decDigits_length] at h
  exact h
 have HBB:Hid (Below w.heap.size w ((putRow E8 (w.alloc (.cells Lib.zeros24 266)) w.heap.size 0 dk).drewN k)):=Z4.bdrewN (HB0.out.trans (below_putRow8 _ _ _ _ (Nat.le_refl _))) k
 clear hF
 go_wp2
 go_ret
 exact ⟨rfl,HBB.out⟩
theorem fmt_calls (u:Nat) (hu64:u<B64) (w:World) (hT:Tab10 w):Calls Tryz.prog 209 #[.int .u64 (u:Int),.int .i64 10] w (RetT w (Lib.decDigits u)):=by
 have H:=hid (show Calls Tryz.prog 237 #[.int .u64 (u:Int),.int .i64 10] w (RetT w (Lib.decDigits u)) by
  rcases Nat.lt_or_ge u 100 with h | h
  ·exact fmt_small u h w
  ·exact fmt_big u h hu64 w hT)
 clear hu64 hT
 go_enter Tryz.func209,Tryz.ntmps209
 go_wp2_with fail
 refine H.out.mono ?_
 rintro e w' ⟨rfl,hb⟩
 have HB:=hid hb
 clear hb
 go_wp2
 go_ret
 exact ⟨rfl,HB.out⟩
end Go.Proofs.YtnmlkobogofadaaGreatDoor
namespace Go.Proofs.YtnmlkobogofadaaGreatDoor
set_option maxRecDepth 100000
set_option maxHeartbeats 80000000
open Go.RowKit Go.Sort
theorem bldSize:(Tryz.prog.info? 248).map (·.size)=some 2:=by kernel_rfl
theorem bldLies:liesAt Tryz.prog Tryz.prog.depth 248 (2 / Tryz.prog.cellsOf 248) 0 248 1=true:=by kernel_rfl
theorem byteInfo:(Tryz.prog.info? 5).map (fun i=>(i.zero,i.size,i.bytes))=some (some (.int .u8 0),1,1):=by kernel_rfl
abbrev BldP (b:Nat):Value:=.pointer (some ⟨b,0,none⟩)
theorem check_used (b:Nat) (w:World) (h0:w.cell? ⟨b,0,none⟩=some (BldP b)) :
  Calls Tryz.prog 249 #[BldP b] w fun e w'=>e=.returned (.tuple #[])∧w' = w:=by
 obtain ⟨j,hj,_⟩:=Option.map_eq_some_iff.1 bldSize
 go_enter Tryz.func249,Tryz.ntmps249
 go_wp2
 rw [Lib.run_neq_ptr_same w _ Tryz.underlying245 hj]
 go_wp2
 go_end0
 exact ⟨rfl,rfl⟩
theorem check_fresh (b:Nat) (w:World) (h0:w.cell? ⟨b,0,none⟩=some (.pointer none)) (hsh:w.shape? b=some (248,2)) (hfz:w.frozen? ⟨b,0,none⟩=false) :
  Calls Tryz.prog 249 #[BldP b] w fun e w'=>e=.returned (.tuple #[])∧w' = w.setCell ⟨b,0,none⟩ (BldP b):=by
 obtain ⟨j,hj,hjs⟩:=Option.map_eq_some_iff.1 bldSize
 go_enter Tryz.func249,Tryz.ntmps249
 go_wp2
 rw [Lib.run_to_unsafe w ⟨b,0,none⟩ Tryz.underlying245 Tryz.underlying273 hj (by rw [hjs];decide) hsh (Nat.zero_lt_succ 1)]
 simp only [Result.andThen]
 rw [Oper.upon_value]
 go_wp2
 rw [run_callFunc_extern Tryz.func260 (by kernel_rfl) (by kernel_rfl) (by kernel_rfl) (e:=Extern.AbiNoEscape.same) (by kernel_rfl)]
 rw [Lib.run_noEscape]
 simp only [Result.andThen]
 rw [Oper.upon_value]
 go_wp2
 rw [Lib.run_from_unsafe w ⟨b,0,none⟩ Tryz.underlying273 Tryz.underlying245 hj hsh bldLies]
 simp only [Result.andThen]
 rw [Oper.upon_value]
 go_wp2
 go_end0
 exact ⟨rfl,rfl⟩
theorem check_calls (B b:Nat) (bs:List Value) (w:World) (h:Lib.IsBuilder 248 5 B b bs w) :
  Calls Tryz.prog 249 #[BldP b] w fun e w'=>e=.returned (.tuple #[])∧(Lib.BuilderAt 248 5 B b (BldP b) bs w'∧Below B w w'):=by
 rcases h with h | h
 ·refine (check_fresh b w h.cell0 h.shape h.frozen0).mono ?_
  rintro e w' ⟨rfl,rfl⟩
  exact ⟨rfl,h.used _,(Below.refl B w).setCell (p:=⟨b,0,none⟩) h.1 _⟩
 ·refine (check_used b w h.cell0).mono ?_
  rintro e w' ⟨rfl,rfl⟩
  exact ⟨rfl,h,Below.refl B _⟩
theorem write_calls (B b:Nat) (bs:List Value) (s:ByteArray) (w:World) (h:Lib.IsBuilder 248 5 B b bs w) (hlen:bs.length+s.size≤140737488355328) (hBw:B≤w.heap.size) :
  Calls Tryz.prog 234 #[BldP b,.string s] w fun e w'=>e=.returned (.tuple #[.int .i64 s.size,.nilIface])∧(Lib.BuilderAt 248 5 B b (BldP b) (bs ++ Lib.strCells s) w'∧Below B w w'):=by
 obtain ⟨i0,hi,hz0,hz1,hz2⟩:=info_parts byteInfo
 go_enter Tryz.func234,Tryz.ntmps234
 go_wp2_with (go_at_call 249;refine (check_calls B b bs _ h).mono ?_)
 rintro e w1 ⟨rfl,h1,hb1⟩
 obtain ⟨hB,v,hbk,hown,hne⟩:=h1
 have c0:w1.cell? ⟨b,0,none⟩=some (BldP b):=by rw [Lib.cell_of_heap hbk];rfl
 have c1:w1.cell? ⟨b,1,none⟩=some v:=by rw [Lib.cell_of_heap hbk];rfl
 go_wp2_with (at_builtin;refine Lib.wpList_append_own_string _ rfl _ _ 246 9 rfl B 5 i0 Tryz.underlying246 Tryz.underlying9 hi hz0 hz1 hz2 _ _ _ rfl hown s rfl ?c3 ?c4 ?c5 ?_)
 case c3=>unfold maxLen;omega
 case c4=>omega
 case c5=>have:=hb1.size;omega
 intro v' w2 hown' hgrow _
 have hlt:b<w1.heap.size:=by
  rcases Nat.lt_or_ge b w1.heap.size with h' | h'
  ·exact h'
  ·simp [Array.getElem?_eq_none h'] at hbk
 have hb2:w2.heap[b]? = some (.cells #[BldP b,v] 248 (0,0)):=by
  rw [hgrow.block b hlt (fun e=>hne e.symm)]
  exact hbk
 have d0:w2.cell? ⟨b,0,none⟩=some (BldP b):=by rw [Lib.cell_of_heap hb2];rfl
 have d1:w2.cell? ⟨b,1,none⟩=some v:=by rw [Lib.cell_of_heap hb2];rfl
 have f1:w2.frozen? ⟨b,1,none⟩=false:=Lib.frozen_of_heap hb2 1
 obtain ⟨ao,n',cap,rfl⟩:∃ ao n' cap,v' = .slice ao n' cap:=by
  rcases hown'.2 with ⟨hv,_⟩ | ⟨g,cap,cur,hv,_⟩
  ·exact ⟨_,_,_,hv⟩
  ·exact ⟨_,_,_,hv⟩
 go_wp2
 go_ret2
 refine ⟨rfl,?_,?_⟩
 ·exact Lib.BuilderAt.put (T:=248) (e:=5) hB hb2 (bs':=bs ++ Lib.strCells s) (by simpa [Lib.strCells_length] using hown') (by decide)
 ·exact (hb1.grown hgrow (by have:=hb1.size;omega) (fun k hk=>(hown.lt k hk).1)).setCell (p:=⟨b,1,none⟩) hB _
theorem write_list (B b:Nat) (l m:List UInt8) (w:World) (h:Lib.IsBuilder 248 5 B b (Lib.byteCells l) w) (hlen:l.length+m.length≤140737488355328) (hBw:B≤w.heap.size) :
  Calls Tryz.prog 234 #[BldP b,.string ⟨m.toArray⟩] w fun e w'=>e=.returned (.tuple #[.int .i64 (m.length:Int),.nilIface])∧(Lib.IsBuilder 248 5 B b (Lib.byteCells (l ++ m)) w'∧Below B w w'):=by
 have hl:(Lib.byteCells l).length=l.length:=by simp [Lib.byteCells]
 have hm:(⟨m.toArray⟩:ByteArray).size=m.length:=by simp [ByteArray.size]
 refine (write_calls B b _ ⟨m.toArray⟩ w h (by rw [hl,hm];exact hlen) hBw).mono ?_
 rintro e w' ⟨rfl,h1,h2⟩
 refine ⟨by rw [hm],.inr ?_,h2⟩
 have e:Lib.byteCells l ++ Lib.strCells ⟨m.toArray⟩=Lib.byteCells (l ++ m):=by simp [Lib.byteCells,Lib.strCells]
 rw [← e]
 exact h1
end Go.Proofs.YtnmlkobogofadaaGreatDoor
namespace Go.Proofs.YtnmlkobogofadaaGreatDoor
open Go.Lib
def padZ:Nat→Nat→List UInt8
 | 0,_=>[]
 | k+1,r=>padZ k (r / 10) ++ [UInt8.ofNat (48+r % 10)]
theorem dec_pad:∀ (k q r:Nat),0<q→r<10 ^ k→decDigits (q*10 ^ k+r)=decDigits q ++ padZ k r
 | 0,q,r,_,hr=>by
  have:r=0:=by simpa using hr
  subst this
  simp [padZ]
 | k+1,q,r,hq,hr=>by
  have hp:1≤10 ^ k:=Nat.one_le_pow _ _ (by decide)
  have hqp:1*1≤q*10 ^ k:=Nat.mul_le_mul hq hp
  rw [Nat.pow_succ] at hr ⊢
  have e:q*(10 ^ k*10)=q*10 ^ k*10:=by rw [Nat.mul_assoc]
  rw [e,decDigits,dif_neg (by omega),padZ,← List.append_assoc,← dec_pad k q (r / 10) hq (by omega)]
  rw [show (q*10 ^ k*10+r) / 10=q*10 ^ k+r / 10 by omega,show (q*10 ^ k*10+r) % 10=r % 10 by omega]
theorem padZ_zero:∀ k:Nat,padZ k 0=List.replicate k 48
 | 0=>rfl
 | k+1=>by rw [padZ,Nat.zero_div,padZ_zero k,List.replicate_succ'];rfl
theorem padZ_eq:∀ (k r:Nat),r<10 ^ (k+1)→padZ (k+1) r=List.replicate (k+1 - nDigits r) 48 ++ decDigits r
 | 0,r,hr=>by
  have h:r<10:=by simpa using hr
  rw [padZ,padZ,nDigits_small h,decDigits_one h,Nat.mod_eq_of_lt h]
  rfl
 | k+1,r,hr=>by
  by_cases h:r<10
  ·rw [padZ,nDigits_small h,decDigits_one h,Nat.mod_eq_of_lt h,Nat.div_eq_of_lt h,padZ_zero]
   rfl
  ·rw [padZ,padZ_eq k (r / 10) (by rw [Nat.pow_succ] at hr;omega),nDigits_big h]
   conv=>rhs;rw [decDigits,dif_neg h]
   rw [show k+1+1 - (nDigits (r / 10)+1)=k+1 - nDigits (r / 10) by omega,List.append_assoc]
theorem nDigits_le:∀ (m x:Nat),x<10 ^ (m+1)→nDigits x≤m+1
 | 0,x,h=>by rw [nDigits_small (by simpa using h)];exact Nat.le_refl _
 | m+1,x,h=>by
  by_cases h10:x<10
  ·rw [nDigits_small h10];omega
  ·rw [nDigits_big h10]
   have:=nDigits_le m (x / 10) (by rw [Nat.pow_succ] at h;omega)
   omega
def TT:Nat:=10000000000000000000
theorem TT_eq:TT=10 ^ 19:=by decide
def vT:List Nat→Nat
 | []=>0
 | r :: rs=>r+TT*vT rs
theorem vT_snoc (rs:List Nat) (r:Nat):vT (rs ++ [r])=vT rs+TT ^ rs.length*r:=by
 induction rs with
 | nil=>simp [vT]
 | cons x xs ih =>
  simp only [List.cons_append,vT,ih,List.length_cons,Nat.pow_succ]
  generalize vT xs=V
  generalize TT ^ xs.length=P
  grind
theorem vT_lt {rs:List Nat} (h:∀ r∈rs,r<TT):vT rs<TT ^ rs.length:=by
 induction rs with
 | nil=>simp [vT]
 | cons x xs ih =>
  have h1:=h x (by simp)
  have h2:=ih (fun r hr=>h r (by simp [hr]))
  simp only [vT,List.length_cons,Nat.pow_succ,Nat.mul_comm _ TT]
  have h3:TT*(vT xs+1)≤TT*TT ^ xs.length:=Nat.mul_le_mul_left _ h2
  rw [Nat.mul_add] at h3
  omega
theorem vT_pos {rs:List Nat} (hne:rs≠[]) (hl:rs.getLast hne≠0):0<vT rs:=by
 induction rs with
 | nil=>exact absurd rfl hne
 | cons x xs ih =>
  cases xs with
  | nil=>simp at hl;simp only [vT];omega
  | cons y ys =>
   have:=ih (by simp) (by simpa using hl)
   have h2:1*1≤TT*vT (y :: ys):=Nat.mul_le_mul (by decide) this
   simp only [vT] at h2 ⊢
   omega
theorem vT_drop (rs:List Nat) (k:Nat) (hk:k<rs.length):vT (rs.drop k)=rs[k]?.getD 0+TT*vT (rs.drop (k+1)):=by
 rw [List.drop_eq_getElem_cons hk,vT,List.getElem?_eq_getElem hk];rfl
theorem dec_step {r V:Nat} (hr:r<TT) (hV:0<V):decDigits (r+TT*V)=decDigits V ++ (List.replicate (19 - nDigits r) 48 ++ decDigits r):=by
 rw [TT_eq] at *
 rw [← padZ_eq 18 r hr,← dec_pad 19 V r hV hr,Nat.mul_comm,Nat.add_comm]
theorem chunks_few {V L j:Nat} (h:TT ^ j≤V) (h2:V<B64 ^ L):j≤2*L:=by
 rcases Nat.lt_or_ge (2*L) j with h3 | h3
 ·have h4:B64 ^ L≤TT ^ (2*L):=by
   rw [Nat.pow_mul]
   exact Nat.pow_le_pow_left (by decide) L
  have h5:TT ^ (2*L)≤TT ^ j:=Nat.pow_le_pow_right (by decide) (by omega)
  omega
 ·exact h3
theorem nDigits_chunk {r:Nat} (h:r<TT):nDigits r≤19:=nDigits_le 18 r (by rw [TT_eq] at h;exact h)
theorem nDigits_vT {rs:List Nat} (h:∀ r∈rs,r<TT) (hne:rs.length≠0):nDigits (vT rs)≤19*rs.length:=by
 have h1:=vT_lt h
 rw [TT_eq,← Nat.pow_mul] at h1
 have:=nDigits_le (19*rs.length - 1) (vT rs) (by rw [show 19*rs.length - 1+1=19*rs.length by omega];exact h1)
 omega
end Go.Proofs.YtnmlkobogofadaaGreatDoor
