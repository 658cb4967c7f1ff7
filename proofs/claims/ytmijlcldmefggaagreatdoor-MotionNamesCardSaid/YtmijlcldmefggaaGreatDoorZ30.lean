/- What the proof rests on, part 30. -/
import Derived.Test.YtmijlcldmefggaaGreatDoorZ10
import Derived.RangeFuncOwn
import Derived.RangeFuncRecord
import Derived.OrdersIn
import Derived.Test.YtmijlcldmefggaaGreatDoorZ18
namespace Go.Proofs.YtmijlcldmefggaaGreatDoor
set_option maxRecDepth 100000
set_option maxHeartbeats 80000000
namespace Kp
open Go.RowKit
variable {P:Program} {ops:Array Oper}
def Kept (sp:List Spec) (gs:List (List Value→World→Prop)) (u:Nat→Value) (i:Nat) (W W':World):Prop:=
 Below W.heap.size W W'∨∀ k,k≠i→factOf sp gs k u W→factOf sp gs k u W'
def owes (sp:List Spec) (gs:List (List Value→World→Prop)) (S:(Nat→Value)→World→Prop) (s:Spec) (g:List Value→World→Prop) (u:Nat→Value) (i:Nat) (W:World) (v:Value) (W':World):Prop:=
 Kept sp gs u i W W'∧S (upd u i v) W'∧g (s.supp.map (upd u i v)) W'
def debt (P:Program) (ops:Array Oper) (S:(Nat→Value)→World→Prop) (sp:List Spec) (gs:List (List Value→World→Prop)) (u:Nat→Value) (a:Act) (i:Nat) (o:Oper) (s:Spec) (g:List Value→World→Prop):Prop:=
 ∀ W,S u W→factsOf sp gs u W s.deps→if Region.wanted o (yielded ops a.tmps) then takes P o a W (owes sp gs S s g u i W) else owes sp gs S s g u i W undef W
def debts (P:Program) (ops:Array Oper) (S:(Nat→Value)→World→Prop) (sp0:List Spec) (gs0:List (List Value→World→Prop)) (u:Nat→Value) (a:Act):Nat→List Oper→List Spec→List (List Value→World→Prop)→Prop
 | i,o :: l,s :: sp,g :: gs=>debt P ops S sp0 gs0 u a i o s g∧debts P ops S sp0 gs0 u a (i+1) l sp gs
 | _,[],_,_=>True
 | _,_,_,_=>False
theorem debts_cons {S:(Nat→Value)→World→Prop} {sp0:List Spec} {gs0:List (List Value→World→Prop)} {u:Nat→Value} {a:Act} {i:Nat} {o:Oper} {l:List Oper} {s:Spec} {sp:List Spec} {g:List Value→World→Prop} {gs:List (List Value→World→Prop)}
  (h:∀ W,S u W→factsOf sp0 gs0 u W s.deps→∀ K:Value→World→Prop,(∀ v W',Kept sp0 gs0 u i W W'→S (upd u i v) W'→g (s.supp.map (upd u i v)) W'→K v W')→if Region.wanted o (yielded ops a.tmps) then takes P o a W K else K undef W)
  (hr:debts P ops S sp0 gs0 u a (i+1) l sp gs):debts P ops S sp0 gs0 u a i (o :: l) (s :: sp) (g :: gs):=
 ⟨fun W hS hF=>h W hS hF _ (fun _ _ h1 h2 h3=>⟨h1,h2,h3⟩),hr⟩
theorem debts_nil {S:(Nat→Value)→World→Prop} {sp0:List Spec} {gs0:List (List Value→World→Prop)} {u:Nat→Value} {a:Act} {i:Nat} {sp:List Spec} {gs:List (List Value→World→Prop)}:debts P ops S sp0 gs0 u a i [] sp gs:=by
 cases sp <;> cases gs <;> trivial
theorem debts_get {S:(Nat→Value)→World→Prop} {sp0:List Spec} {gs0:List (List Value→World→Prop)} {u:Nat→Value} {a:Act}:∀ {l:List Oper} {sp:List Spec} {gs:List (List Value→World→Prop)} {k:Nat} (i:Nat) {o:Oper},
  debts P ops S sp0 gs0 u a k l sp gs→l[i]? = some o→∃ s g,sp[i]? = some s∧gs[i]? = some g∧debt P ops S sp0 gs0 u a (k+i) o s g
 | [],_,_,_,_,_,_,h=>by simp at h
 | x :: l,[],_,_,_,_,h,_=>by simp [debts] at h
 | x :: l,s :: sp,[],_,_,_,h,_=>by simp [debts] at h
 | x :: l,s :: sp,g :: gs,k,0,o,h,hi=>by
  simp only [List.getElem?_cons_zero,Option.some.injEq] at hi
  subst hi
  exact ⟨s,g,rfl,rfl,h.1⟩
 | x :: l,s :: sp,g :: gs,k,i+1,o,h,hi=>by
  simp only [List.getElem?_cons_succ] at hi ⊢
  have:=debts_get i h.2 hi
  rwa [show k+1+i=k+(i+1) by omega] at this
section main
variable {l:List Oper} {n:Nat} {sp:List Spec} {gs:List (List Value→World→Prop)} {S:(Nat→Value)→World→Prop}
theorem inv_any {Q:Exit→Act→World→Prop} {a0:Act} (hB:invB l n sp=true) (hT:∀ g∈gs,∀ vs W W',Below W.heap.size W W'→g vs W→g vs W')
  (hO:∀ u,debts P l.toArray S sp gs u (putAll u 0 (l.take n) a0) 0 (l.take n) sp gs)
  (hE:∀ u W,S u W→(∀ k,k<n→factOf sp gs k u W)→wpList P l.toArray Q (l.drop n) (putAll u 0 (l.take n) a0) W) :
  ∀ (f:Nat) (listed:Array Bool) (u:Nat→Value) (W:World),HeadInv .any l.toArray n listed→S u W →
   (∀ k,k<n→listed.getD k true=true→factOf sp gs k u W)→left listed n=f →
   wpAny P .any l.toArray Q (f+(l.length - n)) listed (putAll u 0 (l.take n) a0) W:=by
 simp only [invB,Bool.and_eq_true,decide_eq_true_eq] at hB
 obtain ⟨⟨⟨⟨⟨hn,hsp⟩,hd⟩,hops⟩,htail⟩,hseq⟩:=hB
 have hat:∀ i,i<n→∃ o s,l[i]? = some o∧sp[i]? = some s∧(∀ e∈o.after,Region.binds .any e=true→e.on<i)∧(∀ k∈s.deps,k<n∧waits o k=true) ∧
   (∀ t∈s.supp,t=i∨waits o t=true):=fun i hi=>by
  have h1:=List.all_eq_true.1 hops i (List.mem_range.2 hi)
  split at h1
  ·rename_i o s ho hs
   simp only [Bool.and_eq_true,List.all_eq_true,decide_eq_true_eq,Bool.or_eq_true] at h1
   refine ⟨o,s,ho,hs,fun e he hb=>?_,fun k hk=>h1.1.2 k hk,fun t ht=>h1.2 t ht⟩
   rcases h1.1.1 e (by simpa using he) with h2 | h2
   ·simp [hb] at h2
   ·exact h2
  ·cases h1
 intro f
 induction f with
 | zero =>
  intro listed u W inv hS hF hl
  have hall:=left_zero hl
  have hcan:listed=Array.replicate n true ++ Array.replicate (l.length - n) false:=by
   apply Array.ext
   ·rw [inv.size];simp;omega
   ·intro i h1 h2
    rcases Nat.lt_or_ge i n with h | h
    ·have:=hall i h
     rw [Array.getElem_append_left (by simpa using h)]
     simpa [h1] using this
    ·have:=inv.tail i h (by have:=inv.size;omega)
     rw [Array.getElem_append_right (by simpa using h)]
     simpa [h1] using this
  rw [Nat.zero_add,← List.length_drop]
  refine wpAny_of_seq (l.drop n) n listed _ W (fun j=>by simp) ?_ (hE u W hS fun k hk=>hF k hk (hall k hk))
  rw [hcan,List.length_drop]
  exact hseq
 | succ f ih =>
  intro listed u W inv hS hF hl
  obtain ⟨i0,hi0,hu0,hm0⟩:=left_pos (listed:=listed) (n:=n) (by omega)
  have hready0:i0∈Region.ready .any l.toArray listed:=by
   obtain ⟨o,s,ho,_,hlex,_⟩:=hat i0 hi0
   refine mem_ready.2 ⟨hu0,o,by simpa using ho,fun e he hb=>?_⟩
   have h1:=hm0 e.on (hlex e he hb)
   have hlt:e.on<listed.size:=by rw [inv.size];have:=hlex e he hb;simp;omega
   simpa [hlt] using h1
  have hlow:∀ i∈Region.ready .any l.toArray listed,i<n:=fun i hi=>by
   rcases Nat.lt_or_ge i n with h | h
   ·exact h
   ·simp only [Bool.or_eq_true,decide_eq_true_eq,Bool.and_eq_true] at htail
    rcases htail with h2 | h2
    ·obtain ⟨_,o,ho,_⟩:=mem_ready.1 hi
     have:=(Array.getElem?_eq_some_iff.1 ho).1
     simp at this
     omega
    ·have hnn:n<l.toArray.size:=by
      obtain ⟨_,o,ho,_⟩:=mem_ready.1 hi
      have:=(Array.getElem?_eq_some_iff.1 ho).1
      omega
     exact absurd hi (tail_waits h2.1 h2.2 hnn inv _ i0 rfl hi0 hu0 i h)
  rw [show f+1+(l.length - n)=(f+(l.length - n))+1 by omega]
  refine ⟨fun h0=>(by rw [h0] at hready0;cases hready0),fun i hi=>?_⟩
  have hin:=hlow i hi
  obtain ⟨hun,o',ho',hdone⟩:=mem_ready.1 hi
  obtain ⟨o,s,ho,hs,hlex,hdeps,hsupp⟩:=hat i hin
  have hoo:o' = o:=by
   have:l.toArray[i]? = some o:=by simpa using ho
   exact Option.some.inj (ho'.symm.trans this)
  subst hoo
  have hot:(l.take n)[i]? = some o':=by rw [List.getElem?_take_of_lt hin];exact ho
  obtain ⟨s',g,hs',hg,hdebt⟩:=debts_get i (hO u) hot
  have hss:s' = s:=Option.some.inj (hs'.symm.trans hs)
  subst hss
  have hisz:i<listed.size:=by rw [inv.size];exact (Array.getElem?_eq_some_iff.1 ho').1
  have hfacts:factsOf sp gs u W s'.deps:=factsOf_mk fun k hk=>by
   obtain ⟨hkn,hw⟩:=hdeps k hk
   obtain ⟨e,he,hb,hon⟩:=waits_spec hw
   have h1:=hdone e he hb
   rw [hon] at h1
   have hksz:k<listed.size:=by rw [inv.size];simp;omega
   refine hF k hkn ?_
   simpa [hksz] using h1
  rw [Nat.zero_add] at hdebt
  have hnext:∀ v W',owes sp gs S s' g u i W v W'→wpAny P .any l.toArray Q (f+(l.length - n)) (listed.setIfInBounds i true) ((putAll u 0 (l.take n) a0).put o'.dst v) W':=fun v W' ⟨hBel,hS',hg'⟩=>by
   have hput:=putAll_set u v (l.take n) 0 i o' a0 hd hot
   rw [Nat.zero_add] at hput
   have hleft:=left_set hisz hun hin
   rw [hput]
   refine ih _ _ W' (inv.set hi hin) hS' (fun k hk hlk=>?_) (by omega)
   by_cases hki:k=i
   ·subst hki
    unfold factOf
    rw [hs',hg]
    exact hg'
   ·rw [getD_set_ne true (Ne.symm hki)] at hlk
    have hfk:=hF k hk hlk
    have hfk0:=hfk
    obtain ⟨ok,sk,hok,hsk,hlexk,_,hsuppk⟩:=hat k hk
    unfold factOf at hfk ⊢
    rw [hsk] at hfk ⊢
    cases hgk:gs[k]? with
    | none=>trivial
    | some gk =>
     rw [hgk] at hfk
     simp only at hfk ⊢
     have hmap:sk.supp.map (fun k=>if k=i then v else u k)=sk.supp.map u:=List.map_congr_left fun t ht=>by
      rcases hsuppk t ht with h1 | h1
      ·rw [if_neg (by omega)]
      ·obtain ⟨e,he,hb,hon⟩:=waits_spec h1
       have hksz:k<listed.size:=by rw [inv.size];simp;omega
       have h2:=inv.closed k ok (by simpa using hok) (by simpa [hksz] using hlk) e he hb
       have hti:t≠i:=fun e'=>by
        rw [hon,e'] at h2
        have:listed.getD i true=true:=by simpa [hisz] using h2
        rw [this] at hun
        cases hun
       rw [if_neg hti]
     rw [hmap]
     rcases hBel with hBel | hBel
     ·exact hT gk (List.mem_of_getElem? hgk) _ _ _ hBel hfk
     ·have h9:=hBel k hki hfk0
      unfold factOf at h9
      rw [hsk,hgk] at h9
      exact h9
  have hd1:=hdebt W hS hfacts
  unfold wpOp
  rw [ho']
  simp only
  split
  ·rename_i hw
   rw [if_pos hw] at hd1
   exact .inl (wp_of_takes hd1 hnext)
  ·rename_i hw
   rw [if_neg hw] at hd1
   exact hnext undef W hd1
end main
end Kp
section
open Go.RowKit
variable {P:Program} {ops:Array Oper} {Q:Exit→Act→World→Prop} {l n:Nat}
theorem rowsIn_of {row:String} {args:Array Value} {w:World} {R:Value→World→Prop} (h:Rows P row args w R):RowsIn Fence.wide n P row args w R:=
 fun c cs _=>let ⟨v,w',r,s⟩:=h c cs;⟨v,w',r,stepsIn_wide.2 s⟩
theorem wide_depth {m:Nat}:(Fence.wide.inRound l).depth.isSome=true→1≤m:=fun h=>by simp [Fence.wide] at h
theorem round_oper {o:Oper} {a:Act} {w:World} {K:Act→World→Prop} (hd:∀ c,o.op≠.defer c) (h:o.wp P a w K Q):o.wpIn (Fence.wide.inRound l) n P a w K Q:=by
 refine ⟨fun _ _=>trivial,?_⟩
 unfold Oper.wp at h
 rw [Oper.semAt_eq _ _ _ hd]
 generalize (execOp a.eval o).run P w=r at *
 cases r with
 | ok x w' =>
  cases x <;> simp only [Oper.upon] at h <;> simp only [Oper.uponIn]
  case value v=>exact h
  case skip=>exact h
  case defer d=>exact h
  case enter f args=>exact ⟨wide_depth,callsIn_wide.2 h⟩
  case row r args=>exact ⟨wide_depth,rowsIn_of h⟩
 | halt x w'=>cases x <;> simp only [Oper.upon] at h <;> exact h
def noDefer (ops:List Oper):Bool:=ops.all fun o=>match o.op with | .defer _=>false | _=>true
theorem noDefer_spec {l:List Oper} (h:noDefer l=true) {i:Nat} {o:Oper} (hi:l.toArray[i]? = some o) (c:Call):o.op≠.defer c:=fun e=>by
 have:=List.all_eq_true.1 h o (List.mem_of_getElem? (by simpa using hi))
 rw [e] at this
 cases this
theorem round_op {l':List Oper} (hd:noDefer l' = true) (hQ:¬ LetsOut Q) {i:Nat} {K:Act→World→Prop} {a:Act} {w:World} (h:wpOp P l'.toArray Q i K a w):wpOpIn (Fence.wide.inRound l) n P l'.toArray Q i K a w:=by
 unfold wpOp at h
 unfold wpOpIn
 split
 ·rename_i ho
  rw [ho] at h
  exact h
 ·rename_i o ho
  rw [ho] at h
  simp only at h
  split
  ·rename_i hw
   rw [if_pos hw] at h
   rcases h with h | h
   ·exact round_oper (noDefer_spec hd ho) h
   ·exact absurd h.2 hQ
  ·rename_i hw
   rw [if_neg hw] at h
   exact ⟨fun _ _=>trivial,h⟩
theorem round_any {l':List Oper} {md:Region.Mode} (hd:noDefer l' = true) (hQ:¬ LetsOut Q):∀ (f:Nat) (listed:Array Bool) (a:Act) (w:World),wpAny P md l'.toArray Q f listed a w→wpAnyIn (Fence.wide.inRound l) n P md l'.toArray Q f listed a w
 | 0,_,_,_,h=>h
 | f+1,_,_,_,h=>⟨h.1,fun i hi=>round_op hd hQ (wpOp_mono (fun a' w' h'=>round_any hd hQ f _ a' w' h') (h.2 i hi))⟩
theorem round_ops {l':List Oper} (hd:noDefer l' = true) (hQ:¬ LetsOut Q):∀ (is:List Nat) (a:Act) (w:World),wpOps P l'.toArray Q is a w→wpOpsIn (Fence.wide.inRound l) n P l'.toArray Q is a w
 | [],_,_,h=>h
 | i :: is,_,_,h=>by
  rw [wpOpsIn_cons]
  rw [wpOps_cons] at h
  exact round_op hd hQ (wpOp_mono (fun a' w' h'=>round_ops hd hQ is a' w' h') h)
theorem round_draw {l':List Oper} {id:Nat} {a:Act} {w:World} (hm:P.follows .mixedOrders=true) (hd:noDefer l' = true) (hQ:¬ LetsOut Q)
  (h:wpAny P .any l'.toArray Q l'.toArray.size (Array.replicate l'.toArray.size false) a w.drew):(Code.region id l'.toArray true).wpIn (Fence.wide.inRound l) n P Q a w:=
 wpIn_region_any hm (round_any hd hQ _ _ _ _ h)
theorem round_list {l':List Oper} {id:Nat} {a:Act} {w:World} (hd:noDefer l' = true) (hQ:¬ LetsOut Q) (h:wpList P l'.toArray Q l' a w):(Code.region id l'.toArray false).wpIn (Fence.wide.inRound l) n P Q a w:=by
 refine wpIn_region (round_ops hd hQ _ _ _ ?_)
 rw [List.range_eq_range',show l'.toArray.size=l'.length by simp,wpOps_eq_wpList l' 0 (by simp)]
 exact h
end
section
open Go.RowKit
theorem IsMag.cells {W W':World} {c d:Value} {n:Nat} (h:IsMag W c d n) (hs:W.heap.size≤W'.heap.size) (hc:∀ (b o:Nat) (v:Value),W.cell? ⟨b,o,none⟩=some v→W'.cell? ⟨b,o,none⟩=some v):IsMag W' c d n:=by
 rcases h with h | ⟨b,o,k,xs,h1,h2,h3,h4,h5,h6,h7,h8,h9⟩
 ·exact .inl h
 ·exact .inr ⟨b,o,k,xs,h1,h2,by omega,h4,h5,h6,h7,h8,fun j hj=>hc _ _ _ (h9 j hj)⟩
theorem isL_cells {B:Nat} {W W':World} {v:Value} {xs:List Nat} (h:Z4.IsL B W v xs) (hs:W.heap.size≤W'.heap.size) (hc:∀ (b o:Nat) (v:Value),W.cell? ⟨b,o,none⟩=some v→W'.cell? ⟨b,o,none⟩=some v):Z4.IsL B W' v xs:=by
 rcases h with h | ⟨b,o,k,rfl,h1,h2,h3,h4⟩
 ·exact .inl h
 ·exact .inr ⟨b,o,k,rfl,h1,by omega,h3,fun j hj=>hc _ _ _ (h4 j hj)⟩
theorem Fc.cells {f:Fc} {W W':World} (h:f.on W) (hs:W.heap.size≤W'.heap.size) (hc:∀ (b o:Nat) (v:Value),W.cell? ⟨b,o,none⟩=some v→W'.cell? ⟨b,o,none⟩=some v):f.on W':=by
 cases f with
 | q v r =>
  obtain ⟨c,d,e,f,rfl,h1,h2⟩:=h
  exact ⟨c,d,e,f,rfl,h1.cells hs hc,h2.cells hs hc⟩
 | m c d n=>exact IsMag.cells h hs hc
 | l B v xs=>exact isL_cells h hs hc
 | z v n =>
  obtain ⟨p,l,k,xs,h1,h2,h3⟩:=h
  exact ⟨p,l,k,xs,h1,isL_cells h2 hs hc,h3⟩
structure Off (S:Nat→Prop) (W W':World):Prop where
 os:W'.os=W.os
 tape:W'.tape=W.tape
 output:W'.output=W.output
 size:W.heap.size≤W'.heap.size
 block:∀ k,k<W.heap.size→¬ S k→W'.heap[k]? = W.heap[k]?
 fct:∀ f:Fc,f.on W→f.on W'
theorem Off.of_below {S:Nat→Prop} {W W':World} (h:Below W.heap.size W W'):Off S W W':=⟨h.os,h.tape,h.output,h.size,fun k hk _=>h.block k hk,fun _ hf=>Fc.below hf h⟩
theorem Off.refl {S:Nat→Prop} (W:World):Off S W W:=Off.of_below (Below.refl _ _)
theorem Off.trans {S:Nat→Prop} {A B C:World} (h:Off S A B) (k:Off S B C):Off S A C:=
 ⟨k.os.trans h.os,k.tape.trans h.tape,k.output.trans h.output,Nat.le_trans h.size k.size,fun i hi hs=>(k.block i (Nat.lt_of_lt_of_le hi h.size) hs).trans (h.block i hi hs),fun f hf=>k.fct f (h.fct f hf)⟩
theorem Off.mono {S S':Nat→Prop} {W W':World} (h:Off S W W') (hs:∀ k,k<W.heap.size→S k→S' k):Off S' W W':=⟨h.os,h.tape,h.output,h.size,fun k hk hn=>h.block k hk fun e=>hn (hs k hk e),h.fct⟩
theorem Off.setCell {S:Nat→Prop} {W:World} {b i:Nat} {T:TypeId} {vs:List Value} {u:Value} (hb:Bx W b T vs) (ok:okVs vs=true) (hS:S b):Off S W (W.setCell ⟨b,i,none⟩ u):=
 ⟨rfl,rfl,rfl,by simp,fun k _ hk=>Below.heap_setCell _ _ _ _ fun e=>hk (e ▸ hS),fun _ hf=>Fc.setBox hf hb ok⟩
theorem Off.putObj {S:Nat→Prop} {W:World} {l:Nat} {o:Obj} (o':Obj) (h:W.heap[l]? = some o) (ho:o.isCells=false) (hS:S l):Off S W (W.putObj l o'):=by
 refine ⟨rfl,rfl,rfl,by simp,fun k _ hk=>World.putObj_heap_other fun e=>hk (e ▸ hS),fun _ hf=>Fc.cells hf (by simp) fun b i v hc=>?_⟩
 have hne:b≠l:=fun e=>by
  subst e
  unfold World.cell? at hc
  simp only [h] at hc
  cases o <;> simp [Obj.isCells] at ho hc
 unfold World.cell? at hc ⊢
 simp only [World.putObj_heap_other hne]
 exact hc
theorem Off.heap {S:Nat→Prop} {W W':World} (h:Off S W W') {k:Nat} {o:Obj} (hk:W.heap[k]? = some o) (hS:¬ S k):W'.heap[k]? = some o:=
 (h.block k (Array.getElem?_eq_some_iff.1 hk).1 hS).trans hk
theorem Boxes.off {S:Nat→Prop} {w W W':World} (h:Off S W W'):∀ {bs:List Bk},(∀ b∈bs,¬ S b.pos)→Boxes w W bs→Boxes w W' bs
 | [],_,_=>trivial
 | b :: _,hn,hb=>⟨⟨hb.1.1,h.heap hb.1.2.1 (hn b (by simp)),hb.1.2.2⟩,hb.2.off h fun c hc=>hn c (by simp [hc])⟩
theorem Facts.off {S:Nat→Prop} {W W':World} (h:Off S W W'):∀ {fs:List Fc},Facts W fs→Facts W' fs
 | [],_=>trivial
 | _ :: _,hf=>⟨h.fct _ hf.1,hf.2.off h⟩
theorem St.off {S:Nat→Prop} {w W W':World} {bs:List Bk} {fs:List Fc} (h:St w bs fs W) (ho:Off S W W') (hn:∀ b∈bs,¬ S b.pos) (hS:∀ k,S k→w.heap.size≤k):St w bs fs W':=
 ⟨h.bel.trans ⟨ho.os,ho.tape,ho.output,ho.size,fun k hk=>ho.block k (Nat.lt_of_lt_of_le hk h.bel.size) fun e=>by have:=hS k e;omega⟩,h.box.off ho hn,h.fct.off ho⟩
def roundEnd (S:Nat→Prop) (I:Nat→World→Prop) (Ix:Code→World→Prop) (N i:Nat) (W:World):Exit→Act→World→Prop
 | .normal,_,W'=>i<N∧Off S W W'∧I (i+1) W'
 | .exit id,_,W'=>i=N∧Off S W W'∧Ix (.exit id) W'
 | _,_,_=>False
def Iter (P:Program) (gf:Nat) (lb:Array Value) (Ba N:Nat) (G:Nat→Value→World→Prop) (B0:Nat) (W0:World):Prop:=
 ∀ (l:Nat) (S:Nat→Prop) (J:Nat→World→Prop) (Jx:World→Prop) (W1:World),Off (fun _=>False) W0 W1→¬ S Ba→(∀ k,S k→B0≤k∧k<W1.heap.size) →
  (∀ i W W',Off (fun k=>k=Ba∨W1.heap.size≤k) W W'→J i W→J i W')→(∀ W W',Off (fun k=>k=Ba∨W1.heap.size≤k) W W'→Jx W→Jx W') →
  (∀ i W v,i≤N→J i W→G i v W→YieldAt Fence.wide 0 P l #[v] W fun e W' =>
   Off S W W'∧((i<N∧e=.returned (.bool true)∧J (i+1) W')∨(i=N∧e=.returned (.bool false)∧Jx W'))) →
  J 0 W1→CallsIn Fence.wide 1 P gf (#[.func (.yield l) #[] #[]] ++ lb) W1 fun e W'=>(∃ v,e=.returned v)∧Jx W'
theorem wp_iter {P:Program} {g:Operand} {ps:Array Tmp} {assign body:Code} {Q:Exit→Act→World→Prop} {a:Act} {W0:World}
  {gf:Nat} {lb:Array Value} (hg:a.eval g=.func (.func gf) #[] lb) (eg:∀ args w,(callFunc gf args).run P w=.ok (.enter gf args) w) {Ba N B0:Nat} {G:Nat→Value→World→Prop} (hit:Iter P gf lb Ba N G B0 W0) (hps:ps.size=1)
  (S:Nat→Prop) (hBa:¬ S Ba) (hBl:Ba<W0.heap.size) (hB0:B0≤W0.heap.size) (hS:∀ k,S k→B0≤k∧k<W0.heap.size) (I:Nat→World→Prop) (Ix:Code→World→Prop)
  (hI:∀ i W W',Off (fun k=>k=Ba∨W0.heap.size≤k) W W'→I i W→I i W') (hIx:∀ c W W',Off (fun k=>k=Ba∨W0.heap.size≤k) W W'→Ix c W→Ix c W') (h0:I 0 W0)
  (hround:∀ (l i:Nat) (v:Value) (W:World),W0.heap.size≤l→l<W.heap.size→i≤N→I i W→G i v W →
   ∀ K:Act→World→Prop,(∀ a1 W1,Off S W W1→(∀ W2,Off (fun k=>k=l) W1 W2→body.wpIn (Fence.wide.inRound l) 0 P (roundEnd S I Ix N i W2) a1 W2)→K a1 W1) →
   assign.wpIn (Fence.wide.inRound l) 0 P (Exit.then K (fun _ _ _=>False)) { tmps:=(ps.zip #[v]).foldl (fun t (p,v)=>t.setIfInBounds p v) a.tmps,defers:=[] } W)
  (hstop:∀ (D:Nat) (c:Code) (W:World),W0.heap.size≤D→Ix c W→W.heap[D]? = some (.deferred (some []))→c.wpIn Fence.wide 2 P Q { a with defers:={ target:=.collected D,args:=#[] } :: a.defers } W) :
  (Code.rangeFunc g ps assign body).wpIn Fence.wide 2 P Q a W0:=by
 refine wpIn_rangeFunc ?_
 intro fn hfn
 obtain ⟨rec,hrec⟩:∃ rec:LoopState→Option Code→Loop,rec=fun st pe=>{ state:=st,pending:=pe,fn,tmps:=a.tmps,params:=ps,assign,body,defers:=W0.heap.size }:=⟨_,rfl⟩
 obtain ⟨W1,hW1⟩:∃ W1,(W0.alloc (.deferred (some []))).alloc (.loop (rec .ready none))=W1:=⟨_,rfl⟩
 have hL1:W1.heap[W0.heap.size+1]? = some (.loop (rec .ready none)):=by
  rw [← hW1];have:=World.alloc_heap_new (W0.alloc (.deferred (some []))) (.loop (rec .ready none));rwa [World.size_alloc] at this
 have hK1:W1.heap[W0.heap.size]? = some (.deferred (some [])):=by
  rw [← hW1];exact (Below.heap_alloc _ _ _ (by simp)).trans (World.alloc_heap_new W0 _)
 have hb1:Below W0.heap.size W0 W1:=by
  rw [← hW1];exact ((Below.refl _ W0).alloc (Nat.le_refl _) _).alloc (by simp) _
 have hz1:W1.heap.size=W0.heap.size+2:=by rw [← hW1];simp
 refine ⟨W0.heap.size+1,[{ target:=.collected W0.heap.size,args:=#[] }],W1,{ target:=.fn (.func gf) lb,args:=#[.func (.yield (W0.heap.size+1)) #[] #[]] },W1,gf,
  #[.func (.yield (W0.heap.size+1)) #[] #[]] ++ lb,W1,?_,?_,?_,?_,fun h=>by simp [Fence.wide] at h,?_⟩
 ·rw [← hW1,hrec];exact run_enterLoop_outer _ _ _ _ _
 ·simp only [resolve,hg]
  simp [go_sem]
 ·intro f' hf';exact trivial
 ·simp [invoke,go_sem,eg]
 have hT:∀ {k:Nat},(k=Ba∨W1.heap.size≤k)→(k=Ba∨W0.heap.size≤k):=fun h=>h.imp id fun h=>by omega
 refine (hit (W0.heap.size+1) (fun k=>S k∨k=W0.heap.size+1)
  (fun i W=>I i W∧W.heap[W0.heap.size+1]? = some (.loop (rec .ready none))∧W.heap[W0.heap.size]? = some (.deferred (some [])))
  (fun W=>∃ c,Ix c W∧W.heap[W0.heap.size+1]? = some (.loop (rec .done (some c)))∧W.heap[W0.heap.size]? = some (.deferred (some [])))
  W1 (Off.of_below hb1) (fun h=>h.elim hBa fun h=>by omega) (fun k hk=>hk.elim (fun h=>by have:=hS k h;omega) fun h=>by omega)
  (fun i W W' ho ⟨hi,hl,hk⟩=>⟨hI i W W' (ho.mono fun k _ h=>hT h) hi,ho.heap hl (by omega),ho.heap hk (by omega)⟩)
  (fun W W' ho ⟨c,hi,hl,hk⟩=>⟨c,hIx c W W' (ho.mono fun k _ h=>hT h) hi,ho.heap hl (by omega),ho.heap hk (by omega)⟩) ?_
  ⟨hI 0 W0 W1 (Off.of_below hb1) h0,hL1,hK1⟩).mono ?_
 ·rintro i W v hiN ⟨hi,hl,hk⟩ hG
  have hlt:W0.heap.size+1<W.heap.size:=(Array.getElem?_eq_some_iff.1 hl).1
  have hy:=run_yield (P:=P) (args:=#[v]) hl (by rw [hrec];simp [hps])
  rw [hrec] at hy
  refine ⟨fn,_,assign,body,hy,roundIn_of_wpIn hfn (hround _ i v W (by omega) hlt hiN hi hG _ ?_)⟩
  clear hy
  intro a1 Wa hoA hbody
  have hla:=hoA.heap hl fun h=>by have:=hS _ h;omega
  have hka:=hoA.heap hk fun h=>by have:=hS _ h;omega
  refine ⟨_,run_beginRound hla (by rw [hrec]),?_⟩
  have hlta:W0.heap.size+1<Wa.heap.size:=(Array.getElem?_eq_some_iff.1 hla).1
  have hl2:(Wa.putObj (W0.heap.size+1) (.loop { rec .ready none with state:=.busy })).heap[W0.heap.size+1]? = some (.loop { rec .ready none with state:=.busy }):=World.putObj_heap_same hlta
  have hk2:(Wa.putObj (W0.heap.size+1) (.loop { rec .ready none with state:=.busy })).heap[W0.heap.size]? = some (.deferred (some [])):=(World.putObj_heap_other (by omega)).trans hka
  have ho2:Off (fun k=>k=W0.heap.size+1) Wa (Wa.putObj (W0.heap.size+1) (.loop { rec .ready none with state:=.busy })):=Off.putObj _ hla rfl rfl
  have hup:∀ {A B:World},Off S A B→Off (fun k=>S k∨k=W0.heap.size+1) A B:=fun h=>h.mono fun _ _ h=>.inl h
  have hur:∀ {A B:World},Off (fun k=>k=W0.heap.size+1) A B→Off (fun k=>S k∨k=W0.heap.size+1) A B:=fun h=>h.mono fun _ _ h=>.inr h
  have hu0:∀ {A B:World},Off (fun k=>k=W0.heap.size+1) A B→Off (fun k=>k=Ba∨W0.heap.size≤k) A B:=fun h=>h.mono fun _ _ h=>.inr (by omega)
  refine wpIn_mono (hbody _ ho2) ?_
  have fin:∀ (jump:Option Code) (W3:World),Off S (Wa.putObj (W0.heap.size+1) (.loop { rec .ready none with state:=.busy })) W3 →
    (Instr.endRound (W0.heap.size+1) jump).run P W3=.ok (.bool jump.isNone) (W3.putObj (W0.heap.size+1) (.loop (rec (if jump.isNone then .ready else .done) jump))) ∧
    Off (fun k=>k=W0.heap.size+1) W3 (W3.putObj (W0.heap.size+1) (.loop (rec (if jump.isNone then .ready else .done) jump))) ∧
    (W3.putObj (W0.heap.size+1) (.loop (rec (if jump.isNone then .ready else .done) jump))).heap[W0.heap.size+1]? = some (.loop (rec (if jump.isNone then .ready else .done) jump)) ∧
    (W3.putObj (W0.heap.size+1) (.loop (rec (if jump.isNone then .ready else .done) jump))).heap[W0.heap.size]? = some (.deferred (some [])):=fun jump W3 hk3=>by
   have hl3:=hk3.heap hl2 fun h=>by have:=hS _ h;omega
   have:=run_endRound (P:=P) jump hl3
   rw [hrec] at this ⊢
   exact ⟨this,Off.putObj _ hl3 rfl rfl,World.putObj_heap_same (Array.getElem?_eq_some_iff.1 hl3).1,(World.putObj_heap_other (by omega)).trans (hk3.heap hk2 fun h=>by have:=hS _ h;omega)⟩
  rintro e a3 W3 hp
  cases e with
  | normal =>
   obtain ⟨hin,hk3,hi3⟩:=hp
   obtain ⟨hr,ho4,hl4,hk4⟩:=fin none W3 hk3
   exact ⟨_,_,hr,((hup hoA).trans (hur ho2)).trans ((hup hk3).trans (hur ho4)),.inl ⟨hin,rfl,hI _ _ _ (hu0 ho4) hi3,hl4,hk4⟩⟩
  | exit id =>
   obtain ⟨hin,hk3,hi3⟩:=hp
   obtain ⟨hr,ho4,hl4,hk4⟩:=fin (some (.exit id)) W3 hk3
   exact ⟨_,_,hr,((hup hoA).trans (hur ho2)).trans ((hup hk3).trans (hur ho4)),.inr ⟨hin,rfl,_,hIx _ _ _ (hu0 ho4) hi3,hl4,hk4⟩⟩
  | ret=>exact hp.elim
  | goto t=>exact hp.elim
  | panic ch=>exact hp.elim
  | outgrown=>exact hp.elim
 ·rintro e W2 ⟨⟨v,rfl⟩,c,hi,hl,hk⟩
  refine ⟨some c,_,by have:=run_endLoop (P:=P) hl (by rw [hrec];simp);rw [hrec] at this;exact this,hstop _ c _ (Nat.le_refl _) ?_ ((World.putObj_heap_other (by omega)).trans hk)⟩
  exact hIx c _ _ ((Off.putObj (S:=fun k=>k=W0.heap.size+1) _ hl rfl rfl).mono fun _ _ h=>.inr (by omega)) hi
end
namespace Dn
open Go.RowKit
open Kp (Kept)
variable {P:Program} {ops:Array Oper}
def more (dn:Nat→Bool) (i:Nat):Nat→Bool:=fun k=>dn k || k == i
def owes (sp:List Spec) (gs:List (List Value→World→Prop)) (S:(Nat→Bool)→(Nat→Value)→World→Prop) (s:Spec) (g:List Value→World→Prop) (dn:Nat→Bool) (u:Nat→Value) (i:Nat) (W:World) (v:Value) (W':World):Prop:=
 Kept sp gs u i W W'∧S (more dn i) (upd u i v) W'∧g (s.supp.map (upd u i v)) W'
def debt (P:Program) (ops:Array Oper) (S:(Nat→Bool)→(Nat→Value)→World→Prop) (sp:List Spec) (gs:List (List Value→World→Prop)) (u:Nat→Value) (a:Act) (i:Nat) (o:Oper) (s:Spec) (g:List Value→World→Prop):Prop:=
 ∀ (dn:Nat→Bool) W,dn i=false→(∀ k o',ops[k]? = some o'→waits o' i=true→dn k=false)→S dn u W→factsOf sp gs u W s.deps→if Region.wanted o (yielded ops a.tmps) then takes P o a W (owes sp gs S s g dn u i W) else owes sp gs S s g dn u i W undef W
def debts (P:Program) (ops:Array Oper) (S:(Nat→Bool)→(Nat→Value)→World→Prop) (sp0:List Spec) (gs0:List (List Value→World→Prop)) (u:Nat→Value) (a:Act):Nat→List Oper→List Spec→List (List Value→World→Prop)→Prop
 | i,o :: l,s :: sp,g :: gs=>debt P ops S sp0 gs0 u a i o s g∧debts P ops S sp0 gs0 u a (i+1) l sp gs
 | _,[],_,_=>True
 | _,_,_,_=>False
theorem debts_cons {S:(Nat→Bool)→(Nat→Value)→World→Prop} {sp0:List Spec} {gs0:List (List Value→World→Prop)} {u:Nat→Value} {a:Act} {i:Nat} {o:Oper} {l:List Oper} {s:Spec} {sp:List Spec} {g:List Value→World→Prop} {gs:List (List Value→World→Prop)}
  (h:∀ (dn:Nat→Bool) W,dn i=false→(∀ k o',ops[k]? = some o'→waits o' i=true→dn k=false)→S dn u W→factsOf sp0 gs0 u W s.deps→∀ K:Value→World→Prop,(∀ v W',Kept sp0 gs0 u i W W'→S (more dn i) (upd u i v) W'→g (s.supp.map (upd u i v)) W'→K v W')→if Region.wanted o (yielded ops a.tmps) then takes P o a W K else K undef W)
  (hr:debts P ops S sp0 gs0 u a (i+1) l sp gs):debts P ops S sp0 gs0 u a i (o :: l) (s :: sp) (g :: gs):=
 ⟨fun dn W h1 h2 hS hF=>h dn W h1 h2 hS hF _ (fun _ _ h1 h2 h3=>⟨h1,h2,h3⟩),hr⟩
theorem debts_nil {S:(Nat→Bool)→(Nat→Value)→World→Prop} {sp0:List Spec} {gs0:List (List Value→World→Prop)} {u:Nat→Value} {a:Act} {i:Nat} {sp:List Spec} {gs:List (List Value→World→Prop)}:debts P ops S sp0 gs0 u a i [] sp gs:=by
 cases sp <;> cases gs <;> trivial
theorem debts_get {S:(Nat→Bool)→(Nat→Value)→World→Prop} {sp0:List Spec} {gs0:List (List Value→World→Prop)} {u:Nat→Value} {a:Act}:∀ {l:List Oper} {sp:List Spec} {gs:List (List Value→World→Prop)} {k:Nat} (i:Nat) {o:Oper},
  debts P ops S sp0 gs0 u a k l sp gs→l[i]? = some o→∃ s g,sp[i]? = some s∧gs[i]? = some g∧debt P ops S sp0 gs0 u a (k+i) o s g
 | [],_,_,_,_,_,_,h=>by simp at h
 | x :: l,[],_,_,_,_,h,_=>by simp [debts] at h
 | x :: l,s :: sp,[],_,_,_,h,_=>by simp [debts] at h
 | x :: l,s :: sp,g :: gs,k,0,o,h,hi=>by
  simp only [List.getElem?_cons_zero,Option.some.injEq] at hi
  subst hi
  exact ⟨s,g,rfl,rfl,h.1⟩
 | x :: l,s :: sp,g :: gs,k,i+1,o,h,hi=>by
  simp only [List.getElem?_cons_succ] at hi ⊢
  have:=debts_get i h.2 hi
  rwa [show k+1+i=k+(i+1) by omega] at this
section main
variable {l:List Oper} {n:Nat} {sp:List Spec} {gs:List (List Value→World→Prop)} {S:(Nat→Bool)→(Nat→Value)→World→Prop}
theorem inv_any {Q:Exit→Act→World→Prop} {a0:Act} (hB:invB l n sp=true) (hT:∀ g∈gs,∀ vs W W',Below W.heap.size W W'→g vs W→g vs W')
  (hO:∀ u,debts P l.toArray S sp gs u (putAll u 0 (l.take n) a0) 0 (l.take n) sp gs)
  (hE:∀ dn u W,(∀ k,k<n→dn k=true)→S dn u W→(∀ k,k<n→factOf sp gs k u W)→wpList P l.toArray Q (l.drop n) (putAll u 0 (l.take n) a0) W) :
  ∀ (f:Nat) (listed:Array Bool) (u:Nat→Value) (W:World),HeadInv .any l.toArray n listed→∀ dn:Nat→Bool,(∀ k,k<n→dn k=listed.getD k true)→(∀ k,n≤k→dn k=false)→S dn u W →
   (∀ k,k<n→listed.getD k true=true→factOf sp gs k u W)→left listed n=f →
   wpAny P .any l.toArray Q (f+(l.length - n)) listed (putAll u 0 (l.take n) a0) W:=by
 simp only [invB,Bool.and_eq_true,decide_eq_true_eq] at hB
 obtain ⟨⟨⟨⟨⟨hn,hsp⟩,hd⟩,hops⟩,htail⟩,hseq⟩:=hB
 have hat:∀ i,i<n→∃ o s,l[i]? = some o∧sp[i]? = some s∧(∀ e∈o.after,Region.binds .any e=true→e.on<i)∧(∀ k∈s.deps,k<n∧waits o k=true) ∧
   (∀ t∈s.supp,t=i∨waits o t=true):=fun i hi=>by
  have h1:=List.all_eq_true.1 hops i (List.mem_range.2 hi)
  split at h1
  ·rename_i o s ho hs
   simp only [Bool.and_eq_true,List.all_eq_true,decide_eq_true_eq,Bool.or_eq_true] at h1
   refine ⟨o,s,ho,hs,fun e he hb=>?_,fun k hk=>h1.1.2 k hk,fun t ht=>h1.2 t ht⟩
   rcases h1.1.1 e (by simpa using he) with h2 | h2
   ·simp [hb] at h2
   ·exact h2
  ·cases h1
 intro f
 induction f with
 | zero =>
  intro listed u W inv dn hdn hdm hS hF hl
  have hall:=left_zero hl
  have hcan:listed=Array.replicate n true ++ Array.replicate (l.length - n) false:=by
   apply Array.ext
   ·rw [inv.size];simp;omega
   ·intro i h1 h2
    rcases Nat.lt_or_ge i n with h | h
    ·have:=hall i h
     rw [Array.getElem_append_left (by simpa using h)]
     simpa [h1] using this
    ·have:=inv.tail i h (by have:=inv.size;omega)
     rw [Array.getElem_append_right (by simpa using h)]
     simpa [h1] using this
  rw [Nat.zero_add,← List.length_drop]
  refine wpAny_of_seq (l.drop n) n listed _ W (fun j=>by simp) ?_ (hE dn u W (fun k hk=>(hdn k hk).trans (hall k hk)) hS fun k hk=>hF k hk (hall k hk))
  rw [hcan,List.length_drop]
  exact hseq
 | succ f ih =>
  intro listed u W inv dn hdn hdm hS hF hl
  obtain ⟨i0,hi0,hu0,hm0⟩:=left_pos (listed:=listed) (n:=n) (by omega)
  have hready0:i0∈Region.ready .any l.toArray listed:=by
   obtain ⟨o,s,ho,_,hlex,_⟩:=hat i0 hi0
   refine mem_ready.2 ⟨hu0,o,by simpa using ho,fun e he hb=>?_⟩
   have h1:=hm0 e.on (hlex e he hb)
   have hlt:e.on<listed.size:=by rw [inv.size];have:=hlex e he hb;simp;omega
   simpa [hlt] using h1
  have hlow:∀ i∈Region.ready .any l.toArray listed,i<n:=fun i hi=>by
   rcases Nat.lt_or_ge i n with h | h
   ·exact h
   ·simp only [Bool.or_eq_true,decide_eq_true_eq,Bool.and_eq_true] at htail
    rcases htail with h2 | h2
    ·obtain ⟨_,o,ho,_⟩:=mem_ready.1 hi
     have:=(Array.getElem?_eq_some_iff.1 ho).1
     simp at this
     omega
    ·have hnn:n<l.toArray.size:=by
      obtain ⟨_,o,ho,_⟩:=mem_ready.1 hi
      have:=(Array.getElem?_eq_some_iff.1 ho).1
      omega
     exact absurd hi (tail_waits h2.1 h2.2 hnn inv _ i0 rfl hi0 hu0 i h)
  rw [show f+1+(l.length - n)=(f+(l.length - n))+1 by omega]
  refine ⟨fun h0=>(by rw [h0] at hready0;cases hready0),fun i hi=>?_⟩
  have hin:=hlow i hi
  obtain ⟨hun,o',ho',hdone⟩:=mem_ready.1 hi
  obtain ⟨o,s,ho,hs,hlex,hdeps,hsupp⟩:=hat i hin
  have hoo:o' = o:=by
   have:l.toArray[i]? = some o:=by simpa using ho
   exact Option.some.inj (ho'.symm.trans this)
  subst hoo
  have hot:(l.take n)[i]? = some o':=by rw [List.getElem?_take_of_lt hin];exact ho
  obtain ⟨s',g,hs',hg,hdebt⟩:=debts_get i (hO u) hot
  have hss:s' = s:=Option.some.inj (hs'.symm.trans hs)
  subst hss
  have hisz:i<listed.size:=by rw [inv.size];exact (Array.getElem?_eq_some_iff.1 ho').1
  have hfacts:factsOf sp gs u W s'.deps:=factsOf_mk fun k hk=>by
   obtain ⟨hkn,hw⟩:=hdeps k hk
   obtain ⟨e,he,hb,hon⟩:=waits_spec hw
   have h1:=hdone e he hb
   rw [hon] at h1
   have hksz:k<listed.size:=by rw [inv.size];simp;omega
   refine hF k hkn ?_
   simpa [hksz] using h1
  rw [Nat.zero_add] at hdebt
  have hnext:∀ v W',owes sp gs S s' g dn u i W v W'→wpAny P .any l.toArray Q (f+(l.length - n)) (listed.setIfInBounds i true) ((putAll u 0 (l.take n) a0).put o'.dst v) W':=fun v W' ⟨hBel,hS',hg'⟩=>by
   have hput:=putAll_set u v (l.take n) 0 i o' a0 hd hot
   rw [Nat.zero_add] at hput
   have hleft:=left_set hisz hun hin
   rw [hput]
   refine ih _ _ W' (inv.set hi hin) (more dn i) (fun k hk=>?_) (fun k hk=>?_) hS' (fun k hk hlk=>?_) (by omega)
   ·unfold more
    by_cases e:k=i
    ·subst e;simp [hisz]
    ·rw [getD_set_ne true (Ne.symm e),hdn k hk,beq_false_of_ne e,Bool.or_false]
   ·unfold more
    rw [hdm k hk,beq_false_of_ne (by omega)];rfl
   by_cases hki:k=i
   ·subst hki
    unfold factOf
    rw [hs',hg]
    exact hg'
   ·rw [getD_set_ne true (Ne.symm hki)] at hlk
    have hfk:=hF k hk hlk
    have hfk0:=hfk
    obtain ⟨ok,sk,hok,hsk,hlexk,_,hsuppk⟩:=hat k hk
    unfold factOf at hfk ⊢
    rw [hsk] at hfk ⊢
    cases hgk:gs[k]? with
    | none=>trivial
    | some gk =>
     rw [hgk] at hfk
     simp only at hfk ⊢
     have hmap:sk.supp.map (fun k=>if k=i then v else u k)=sk.supp.map u:=List.map_congr_left fun t ht=>by
      rcases hsuppk t ht with h1 | h1
      ·rw [if_neg (by omega)]
      ·obtain ⟨e,he,hb,hon⟩:=waits_spec h1
       have hksz:k<listed.size:=by rw [inv.size];simp;omega
       have h2:=inv.closed k ok (by simpa using hok) (by simpa [hksz] using hlk) e he hb
       have hti:t≠i:=fun e'=>by
        rw [hon,e'] at h2
        have:listed.getD i true=true:=by simpa [hisz] using h2
        rw [this] at hun
        cases hun
       rw [if_neg hti]
     rw [hmap]
     rcases hBel with hBel | hBel
     ·exact hT gk (List.mem_of_getElem? hgk) _ _ _ hBel hfk
     ·have h9:=hBel k hki hfk0
      unfold factOf at h9
      rw [hsk,hgk] at h9
      exact h9
  have hd1:=hdebt dn W ((hdn i hin).trans hun) (fun k ok hok hw=>by
   rcases Nat.lt_or_ge k n with hkn | hkn
   ·obtain ⟨e,he,hb,hon⟩:=waits_spec hw
    rcases hdk:dn k with _ | _
    ·rfl
    ·have hlk:listed.getD k true=true:=by rw [← hdn k hkn];exact hdk
     have hksz:k<listed.size:=by rw [inv.size];exact (Array.getElem?_eq_some_iff.1 hok).1
     have h2:=inv.closed k ok hok (by simpa [hksz] using hlk) e he hb
     rw [hon] at h2
     have:listed.getD i true=true:=by simpa [hisz] using h2
     rw [this] at hun
     cases hun
   ·exact hdm k hkn) hS hfacts
  unfold wpOp
  rw [ho']
  simp only
  split
  ·rename_i hw
   rw [if_pos hw] at hd1
   exact .inl (wp_of_takes hd1 hnext)
  ·rename_i hw
   rw [if_neg hw] at hd1
   exact hnext undef W hd1
theorem done_all {Q:Exit→Act→World→Prop} {a0:Act} {w:World} (n:Nat) (sp:List Spec) (gs:List (List Value→World→Prop)) (S:(Nat→Bool)→(Nat→Value)→World→Prop) (hB:invB l n sp=true)
  (hT:∀ g∈gs,∀ vs W W',Below W.heap.size W W'→g vs W→g vs W') (h0:S (fun _=>false) (initU (l.take n) a0) w.drew)
  (hO:∀ u,debts P l.toArray S sp gs u (putAll u 0 (l.take n) a0) 0 (l.take n) sp gs)
  (hE:∀ dn u W,(∀ k,k<n→dn k=true)→S dn u W→factsOf sp gs u W (List.range n)→wpList P l.toArray Q (l.drop n) (putAll u 0 (l.take n) a0) W) :
  wpAny P .any l.toArray Q l.toArray.size (Array.replicate l.toArray.size false) a0 w.drew:=by
 have hn:n≤l.length:=by
  simp only [invB,Bool.and_eq_true,decide_eq_true_eq] at hB
  exact hB.1.1.1.1.1
 have hu:=putAll_start (l.take n) a0
 have inv0:HeadInv .any l.toArray n (Array.replicate l.toArray.size false):=
  ⟨by simp,fun j oj _ hl=>(by rw [getD_replicate_false] at hl;cases hl),fun t _ ht=>getD_in (by simpa using ht) (getD_replicate_false _ _)⟩
 have hl0:left (Array.replicate l.toArray.size false) n=n:=by
  have:=left_all n (l.length - n) n (Nat.le_refl _)
  rwa [show n+(l.length - n)=l.toArray.size by simp;omega] at this
 have hfl:∀ k,k<n→(Array.replicate l.toArray.size false).getD k true=false:=fun k hk=>getD_in (by simp;omega) (getD_replicate_false _ _)
 have key:=inv_any (P:=P) (S:=S) (gs:=gs) (a0:=a0) (Q:=Q) hB hT hO (fun dn u W hd hS hF=>hE dn u W hd hS (factsOf_mk fun k hk=>hF k (List.mem_range.1 hk))) n _ (initU (l.take n) a0) w.drew inv0 (fun _=>false) (fun k hk=>(hfl k hk).symm) (fun _ _=>rfl) h0 (fun k hk hlk=>by
  rw [hfl k hk] at hlk
  cases hlk) hl0
 rw [hu,show n+(l.length - n)=l.toArray.size by simp;omega] at key
 exact key
end main
end Dn
section
open Go.RowKit
theorem one_keep {f:Value→World→Prop} {W W':World} (h:∀ v,f v W→f v W'):∀ vs,one f vs W→one f vs W'
 | [v],hf=>h v hf
 | [],hf=>hf
 | _ :: _ :: _,hf=>hf
def keepL (W W':World) (i:Nat):Nat→List (List Value→World→Prop)→Prop
 | _,[]=>True
 | k,g :: r=>(k=i∨∀ vs,g vs W→g vs W')∧keepL W W' i (k+1) r
theorem keepL_get {W W':World} {i:Nat}:∀ {gs:List (List Value→World→Prop)} (k j:Nat) {g:List Value→World→Prop},keepL W W' i k gs→gs[j]? = some g→k+j≠i→∀ vs,g vs W→g vs W'
 | [],_,_,_,_,h,_=>by simp at h
 | x :: r,k,0,g,h,hg,hne=>by
  simp only [List.getElem?_cons_zero,Option.some.injEq] at hg
  subst hg
  exact h.1.resolve_left hne
 | x :: r,k,j+1,g,h,hg,hne=>keepL_get (k+1) j h.2 (by simpa using hg) (by omega)
theorem kept_of {sp:List Spec} {gs:List (List Value→World→Prop)} {u:Nat→Value} {i:Nat} {W W':World} (h:keepL W W' i 0 gs):Kp.Kept sp gs u i W W':=
 .inr fun k hk hf=>by
  unfold factOf at hf ⊢
  cases hs:sp[k]? with
  | none=>trivial
  | some s =>
   cases hg:gs[k]? with
   | none=>trivial
   | some g =>
    rw [hs,hg] at hf
    exact keepL_get 0 k h hg (by omega) _ hf
def M2V (n m:Nat) (v:Value) (W:World):Prop:=∃ x p l q x' p' l' q',v=.tuple #[.agg #[.int .u64 x,.slice p l q],.agg #[.int .u64 x',.slice p' l' q']]∧IsMag W (.int .u64 x) (.slice p l q) n∧IsMag W (.int .u64 x') (.slice p' l' q') m
theorem M2V.elim {G:Prop} {n m:Nat} {v:Value} {W:World} (h:M2V n m v W) (k:∀ x p l q x' p' l' q',v=.tuple #[.agg #[.int .u64 x,.slice p l q],.agg #[.int .u64 x',.slice p' l' q']]→IsMag W (.int .u64 x) (.slice p l q) n→IsMag W (.int .u64 x') (.slice p' l' q') m→G):G:=by
 obtain ⟨x,p,l,q,x',p',l',q',e,h1,h2⟩:=h
 exact k _ _ _ _ _ _ _ _ e h1 h2
theorem MagV.elim {G:Prop} {n:Nat} {v:Value} {W:World} (h:MagV n v W) (k:∀ x p l q,v=.agg #[.int .u64 x,.slice p l q]→IsMag W (.int .u64 x) (.slice p l q) n→G):G:=by
 obtain ⟨x,p,l,q,e,h1⟩:=h
 exact k _ _ _ _ e h1
abbrev setM (W:World) (L:Nat) (x:Int) (p:Option Addr) (l q:Nat):World:=(W.setCell ⟨L,0,none⟩ (.int .u64 x)).setCell ⟨L,1,none⟩ (.slice p l q)
def NewM (B:Nat) (T:TypeId) (v:Value) (W:World):Prop:=∃ L x p l q,v=.pointer (some ⟨L,0,none⟩)∧B≤L∧L<W.heap.size∧Bx W L T [.int .u64 x,.slice p l q]
theorem NewM.elim {G:Prop} {B:Nat} {T:TypeId} {v:Value} {W:World} (h:NewM B T v W) (k:∀ L x p l q,v=.pointer (some ⟨L,0,none⟩)→B≤L→L<W.heap.size→Bx W L T [.int .u64 x,.slice p l q]→G):G:=by
 obtain ⟨L,x,p,l,q,e,h1,h2,h3⟩:=h
 exact k _ _ _ _ _ e h1 h2 h3
def FulM (T:TypeId) (a b:Value) (W:World):Prop:=∃ L x p l q,a=.pointer (some ⟨L,0,none⟩)∧b=.agg #[.int .u64 x,.slice p l q]∧Bx W L T [.int .u64 x,.slice p l q]
theorem FulM.all {B:Nat} {T T':TypeId} {a b:Value} {n:Nat} {W:World} (h9:NewM B T a W) (h:FulM T' a b W) (hm:MagV n b W):∃ L x p l q,a=.pointer (some ⟨L,0,none⟩)∧b=.agg #[.int .u64 x,.slice p l q]∧B≤L∧Bx W L T' [.int .u64 x,.slice p l q]∧IsMag W (.int .u64 x) (.slice p l q) n:=by
 obtain ⟨L,x,p,l,q,rfl,h1,-,-⟩:=h9
 obtain ⟨L',x',p',l',q',e,rfl,h2⟩:=h
 cases e
 obtain ⟨x1,p1,l1,q1,e1,h3⟩:=hm
 cases e1
 exact ⟨L,x',p',l',q',rfl,rfl,h1,h2,h3⟩
section store
variable {W:World} {L:Nat} {T:TypeId} {x x':Int} {p p':Option Addr} {l q l' q':Nat}
theorem IsMag.setM (hb:Bx W L T [.int .u64 x,.slice p l q]) {c d:Value} {n:Nat} (h:IsMag W c d n):IsMag (setM W L x' p' l' q') c d n:=(h.setBox hb rfl).setBox (hb.set 0 _) rfl
theorem Bx.setM (hb:Bx W L T [.int .u64 x,.slice p l q]):Bx (setM W L x' p' l' q') L T [.int .u64 x',.slice p' l' q']:=(hb.set 0 _).set 1 _
end store
end
section
open Go.RowKit Go.Sort
end
end Go.Proofs.YtmijlcldmefggaaGreatDoor
