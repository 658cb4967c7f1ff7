/- What the proof rests on, part 25. -/
import Derived.Test.YtnmlkobogofadaaGreatDoorP24
import Derived.Test.YtnmlkobogofadaaGreatDoorP19
namespace Go.Proofs.YtnmlkobogofadaaGreatDoor
set_option maxRecDepth 100000
set_option maxHeartbeats 80000000
namespace Dn
open Go.RowKit
open Kp (Kept)
variable {P:Program} {ops:Array Oper}
def more (dn:Nat→Bool) (i:Nat):Nat→Bool:=fun k=>dn k || k == i
def owes (sp:List Spec) (gs:List (List Value→World→Prop)) (S:(Nat→Bool)→(Nat→Value)→World→Prop) (s:Spec) (g:List Value→World→Prop) (dn:Nat→Bool) (u:Nat→Value) (i:Nat) (W:World) (v:Value) (W':World):Prop:=
 Kept sp gs u i W W'∧S (more dn i) (upd u i v) W'∧g (s.supp.map (upd u i v)) W'
def kZ (P:Program) (ops:Array Oper) (S:(Nat→Bool)→(Nat→Value)→World→Prop) (sp:List Spec) (gs:List (List Value→World→Prop)) (u:Nat→Value) (a:Act) (i:Nat) (o:Oper) (s:Spec) (g:List Value→World→Prop):Prop:=
 ∀ (dn:Nat→Bool) W,dn i=false→(∀ k o',ops[k]? = some o'→waits o' i=true→dn k=false)→S dn u W→gQ sp gs u W s.deps→if Region.wanted o (yielded ops a.tmps) then takes P o a W (owes sp gs S s g dn u i W) else owes sp gs S s g dn u i W undef W
def bJ (P:Program) (ops:Array Oper) (S:(Nat→Bool)→(Nat→Value)→World→Prop) (sp0:List Spec) (gs0:List (List Value→World→Prop)) (u:Nat→Value) (a:Act):Nat→List Oper→List Spec→List (List Value→World→Prop)→Prop
 | i,o :: l,s :: sp,g :: gs=>kZ P ops S sp0 gs0 u a i o s g∧bJ P ops S sp0 gs0 u a (i+1) l sp gs
 | _,[],_,_=>True
 | _,_,_,_=>False
theorem aX {S:(Nat→Bool)→(Nat→Value)→World→Prop} {sp0:List Spec} {gs0:List (List Value→World→Prop)} {u:Nat→Value} {a:Act} {i:Nat} {o:Oper} {l:List Oper} {s:Spec} {sp:List Spec} {g:List Value→World→Prop} {gs:List (List Value→World→Prop)}
  (h:∀ (dn:Nat→Bool) W,dn i=false→(∀ k o',ops[k]? = some o'→waits o' i=true→dn k=false)→S dn u W→gQ sp0 gs0 u W s.deps→∀ K:Value→World→Prop,(∀ v W',Kept sp0 gs0 u i W W'→S (more dn i) (upd u i v) W'→g (s.supp.map (upd u i v)) W'→K v W')→if Region.wanted o (yielded ops a.tmps) then takes P o a W K else K undef W)
  (hr:bJ P ops S sp0 gs0 u a (i+1) l sp gs):bJ P ops S sp0 gs0 u a i (o :: l) (s :: sp) (g :: gs):=
 ⟨fun dn W h1 h2 hS hF=>h dn W h1 h2 hS hF _ (fun _ _ h1 h2 h3=>⟨h1,h2,h3⟩),hr⟩
theorem aV {S:(Nat→Bool)→(Nat→Value)→World→Prop} {sp0:List Spec} {gs0:List (List Value→World→Prop)} {u:Nat→Value} {a:Act} {i:Nat} {sp:List Spec} {gs:List (List Value→World→Prop)}:bJ P ops S sp0 gs0 u a i [] sp gs:=by
 cases sp <;> cases gs <;> trivial
theorem lF {S:(Nat→Bool)→(Nat→Value)→World→Prop} {sp0:List Spec} {gs0:List (List Value→World→Prop)} {u:Nat→Value} {a:Act}:∀ {l:List Oper} {sp:List Spec} {gs:List (List Value→World→Prop)} {k:Nat} (i:Nat) {o:Oper},
  bJ P ops S sp0 gs0 u a k l sp gs→l[i]? = some o→∃ s g,sp[i]? = some s∧gs[i]? = some g∧kZ P ops S sp0 gs0 u a (k+i) o s g
 | [],_,_,_,_,_,_,h=>by simp at h
 | x :: l,[],_,_,_,_,h,_=>by simp [bJ] at h
 | x :: l,s :: sp,[],_,_,_,h,_=>by simp [bJ] at h
 | x :: l,s :: sp,g :: gs,k,0,o,h,hi=>by
  simp only [List.getElem?_cons_zero,Option.some.injEq] at hi
  subst hi
  exact ⟨s,g,rfl,rfl,h.1⟩
 | x :: l,s :: sp,g :: gs,k,i+1,o,h,hi=>by
  simp only [List.getElem?_cons_succ] at hi ⊢
  have:=lF i h.2 hi
  rwa [show k+1+i=k+(i+1) by omega] at this
section main
variable {l:List Oper} {n:Nat} {sp:List Spec} {gs:List (List Value→World→Prop)} {S:(Nat→Bool)→(Nat→Value)→World→Prop}
theorem rO {Q:Exit→Act→World→Prop} {a0:Act} (hB:iH l n sp=true) (hT:∀ g∈gs,∀ vs W W',Below W.heap.size W W'→g vs W→g vs W')
  (hO:∀ u,bJ P l.toArray S sp gs u (aC u 0 (l.take n) a0) 0 (l.take n) sp gs)
  (hE:∀ dn u W,(∀ k,k<n→dn k=true)→S dn u W→(∀ k,k<n→eP sp gs k u W)→wpList P l.toArray Q (l.drop n) (aC u 0 (l.take n) a0) W) :
  ∀ (f:Nat) (listed:Array Bool) (u:Nat→Value) (W:World),HeadInv .any l.toArray n listed→∀ dn:Nat→Bool,(∀ k,k<n→dn k=listed.getD k true)→(∀ k,n≤k→dn k=false)→S dn u W →
   (∀ k,k<n→listed.getD k true=true→eP sp gs k u W)→left listed n=f →
   wpAny P .any l.toArray Q (f+(l.length - n)) listed (aC u 0 (l.take n) a0) W:=by
 simp only [iH,Bool.and_eq_true,decide_eq_true_eq] at hB
 obtain ⟨⟨⟨⟨⟨hn,hsp⟩,hd⟩,hops⟩,htail⟩,hseq⟩:=hB
 have hat:∀ i,i<n→∃ o s,l[i]? = some o∧sp[i]? = some s∧(∀ e∈o.after,Region.binds .any e=true→e.on<i)∧(∀ k∈s.deps,k<n∧waits o k=true) ∧
   (∀ t∈s.supp,t=i∨waits o t=true):=fun i hi=>by
  have h1:=List.all_eq_true.1 hops i (List.mem_range.2 hi)
  split at h1
  ·rename_i o s ho hs
   simp only [Bool.and_eq_true,List.all_eq_true,decide_eq_true_eq,Bool.or_eq_true] at h1
   refine ⟨o,s,ho,hs,fun e he hb=>?_,fun k hk=>h1.1.2 k hk,fun t ht=>h1.2 t ht⟩
   rcases h1.1.1 e (by simpa using he) with h2 | h2
   ·simp [hb] at h2
   ·exact h2
  ·cases h1
 intro f
 induction f with
 | zero =>
  intro listed u W inv dn hdn hdm hS hF hl
  have hall:=qo hl
  have hcan:listed=Array.replicate n true ++ Array.replicate (l.length - n) false:=by
   apply Array.ext
   ·rw [inv.size];simp;omega
   ·intro i h1 h2
    rcases Nat.lt_or_ge i n with h | h
    ·have:=hall i h
     rw [Array.getElem_append_left (by simpa using h)]
     simpa [h1] using this
    ·have:=inv.tail i h (by have:=inv.size;omega)
     rw [Array.getElem_append_right (by simpa using h)]
     simpa [h1] using this
  rw [Nat.zero_add,← List.length_drop]
  refine wpAny_of_seq (l.drop n) n listed _ W (fun j=>by simp) ?_ (hE dn u W (fun k hk=>(hdn k hk).trans (hall k hk)) hS fun k hk=>hF k hk (hall k hk))
  rw [hcan,List.length_drop]
  exact hseq
 | succ f ih =>
  intro listed u W inv dn hdn hdm hS hF hl
  obtain ⟨i0,hi0,hu0,hm0⟩:=rX (listed:=listed) (n:=n) (by omega)
  have hready0:i0∈Region.ready .any l.toArray listed:=by
   obtain ⟨o,s,ho,_,hlex,_⟩:=hat i0 hi0
   refine mem_ready.2 ⟨hu0,o,by simpa using ho,fun e he hb=>?_⟩
   have h1:=hm0 e.on (hlex e he hb)
   have hlt:e.on<listed.size:=by rw [inv.size];have:=hlex e he hb;simp;omega
   simpa [hlt] using h1
  have hlow:∀ i∈Region.ready .any l.toArray listed,i<n:=fun i hi=>by
   rcases Nat.lt_or_ge i n with h | h
   ·exact h
   ·simp only [Bool.or_eq_true,decide_eq_true_eq,Bool.and_eq_true] at htail
    rcases htail with h2 | h2
    ·obtain ⟨_,o,ho,_⟩:=mem_ready.1 hi
     have:=(Array.getElem?_eq_some_iff.1 ho).1
     simp at this
     omega
    ·have hnn:n<l.toArray.size:=by
      obtain ⟨_,o,ho,_⟩:=mem_ready.1 hi
      have:=(Array.getElem?_eq_some_iff.1 ho).1
      omega
     exact absurd hi (tail_waits h2.1 h2.2 hnn inv _ i0 rfl hi0 hu0 i h)
  rw [show f+1+(l.length - n)=(f+(l.length - n))+1 by omega]
  refine ⟨fun h0=>(by rw [h0] at hready0;cases hready0),fun i hi=>?_⟩
  have hin:=hlow i hi
  obtain ⟨hun,o',ho',hdone⟩:=mem_ready.1 hi
  obtain ⟨o,s,ho,hs,hlex,hdeps,hsupp⟩:=hat i hin
  have hoo:o' = o:=by
   have:l.toArray[i]? = some o:=by simpa using ho
   exact Option.some.inj (ho'.symm.trans this)
  subst hoo
  have hot:(l.take n)[i]? = some o':=by rw [List.getElem?_take_of_lt hin];exact ho
  obtain ⟨s',g,hs',hg,hdebt⟩:=lF i (hO u) hot
  have hss:s' = s:=Option.some.inj (hs'.symm.trans hs)
  subst hss
  have hisz:i<listed.size:=by rw [inv.size];exact (Array.getElem?_eq_some_iff.1 ho').1
  have hfacts:gQ sp gs u W s'.deps:=nY fun k hk=>by
   obtain ⟨hkn,hw⟩:=hdeps k hk
   obtain ⟨e,he,hb,hon⟩:=nC hw
   have h1:=hdone e he hb
   rw [hon] at h1
   have hksz:k<listed.size:=by rw [inv.size];simp;omega
   refine hF k hkn ?_
   simpa [hksz] using h1
  rw [Nat.zero_add] at hdebt
  have hnext:∀ v W',owes sp gs S s' g dn u i W v W'→wpAny P .any l.toArray Q (f+(l.length - n)) (listed.setIfInBounds i true) ((aC u 0 (l.take n) a0).put o'.dst v) W':=fun v W' ⟨hBel,hS',hg'⟩=>by
   have hput:=vO u v (l.take n) 0 i o' a0 hd hot
   rw [Nat.zero_add] at hput
   have hleft:=rH hisz hun hin
   rw [hput]
   refine ih _ _ W' (inv.set hi hin) (more dn i) (fun k hk=>?_) (fun k hk=>?_) hS' (fun k hk hlk=>?_) (by omega)
   ·unfold more
    by_cases e:k=i
    ·subst e;simp [hisz]
    ·rw [getD_set_ne true (Ne.symm e),hdn k hk,beq_false_of_ne e,Bool.or_false]
   ·unfold more
    rw [hdm k hk,beq_false_of_ne (by omega)];rfl
   by_cases hki:k=i
   ·subst hki
    unfold eP
    rw [hs',hg]
    exact hg'
   ·rw [getD_set_ne true (Ne.symm hki)] at hlk
    have hfk:=hF k hk hlk
    have hfk0:=hfk
    obtain ⟨ok,sk,hok,hsk,hlexk,_,hsuppk⟩:=hat k hk
    unfold eP at hfk ⊢
    rw [hsk] at hfk ⊢
    cases hgk:gs[k]? with
    | none=>trivial
    | some gk =>
     rw [hgk] at hfk
     simp only at hfk ⊢
     have hmap:sk.supp.map (fun k=>if k=i then v else u k)=sk.supp.map u:=List.map_congr_left fun t ht=>by
      rcases hsuppk t ht with h1 | h1
      ·rw [if_neg (by omega)]
      ·obtain ⟨e,he,hb,hon⟩:=nC h1
       have hksz:k<listed.size:=by rw [inv.size];simp;omega
       have h2:=inv.closed k ok (by simpa using hok) (by simpa [hksz] using hlk) e he hb
       have hti:t≠i:=fun e'=>by
        rw [hon,e'] at h2
        have:listed.getD i true=true:=by simpa [hisz] using h2
        rw [this] at hun
        cases hun
       rw [if_neg hti]
     rw [hmap]
     rcases hBel with hBel | hBel
     ·exact hT gk (List.mem_of_getElem? hgk) _ _ _ hBel hfk
     ·have h9:=hBel k hki hfk0
      unfold eP at h9
      rw [hsk,hgk] at h9
      exact h9
  have hd1:=hdebt dn W ((hdn i hin).trans hun) (fun k ok hok hw=>by
   rcases Nat.lt_or_ge k n with hkn | hkn
   ·obtain ⟨e,he,hb,hon⟩:=nC hw
    rcases hdk:dn k with _ | _
    ·rfl
    ·have hlk:listed.getD k true=true:=by rw [← hdn k hkn];exact hdk
     have hksz:k<listed.size:=by rw [inv.size];exact (Array.getElem?_eq_some_iff.1 hok).1
     have h2:=inv.closed k ok hok (by simpa [hksz] using hlk) e he hb
     rw [hon] at h2
     have:listed.getD i true=true:=by simpa [hisz] using h2
     rw [this] at hun
     cases hun
   ·exact hdm k hkn) hS hfacts
  unfold wpOp
  rw [ho']
  simp only
  split
  ·rename_i hw
   rw [if_pos hw] at hd1
   exact .inl (ug hd1 hnext)
  ·rename_i hw
   rw [if_neg hw] at hd1
   exact hnext undef W hd1
theorem Ku {Q:Exit→Act→World→Prop} {a0:Act} {w:World} (n:Nat) (sp:List Spec) (gs:List (List Value→World→Prop)) (S:(Nat→Bool)→(Nat→Value)→World→Prop) (hB:iH l n sp=true)
  (hT:∀ g∈gs,∀ vs W W',Below W.heap.size W W'→g vs W→g vs W') (h0:S (fun _=>false) (jU (l.take n) a0) w.drew)
  (hO:∀ u,bJ P l.toArray S sp gs u (aC u 0 (l.take n) a0) 0 (l.take n) sp gs)
  (hE:∀ dn u W,(∀ k,k<n→dn k=true)→S dn u W→gQ sp gs u W (List.range n)→wpList P l.toArray Q (l.drop n) (aC u 0 (l.take n) a0) W) :
  wpAny P .any l.toArray Q l.toArray.size (Array.replicate l.toArray.size false) a0 w.drew:=by
 have hn:n≤l.length:=by
  simp only [iH,Bool.and_eq_true,decide_eq_true_eq] at hB
  exact hB.1.1.1.1.1
 have hu:=yh (l.take n) a0
 have inv0:HeadInv .any l.toArray n (Array.replicate l.toArray.size false):=
  ⟨by simp,fun j oj _ hl=>(by rw [getD_replicate_false] at hl;cases hl),fun t _ ht=>getD_in (by simpa using ht) (getD_replicate_false _ _)⟩
 have hl0:left (Array.replicate l.toArray.size false) n=n:=by
  have:=qQ n (l.length - n) n (Nat.le_refl _)
  rwa [show n+(l.length - n)=l.toArray.size by simp;omega] at this
 have hfl:∀ k,k<n→(Array.replicate l.toArray.size false).getD k true=false:=fun k hk=>getD_in (by simp;omega) (getD_replicate_false _ _)
 have key:=rO (P:=P) (S:=S) (gs:=gs) (a0:=a0) (Q:=Q) hB hT hO (fun dn u W hd hS hF=>hE dn u W hd hS (nY fun k hk=>hF k (List.mem_range.1 hk))) n _ (jU (l.take n) a0) w.drew inv0 (fun _=>false) (fun k hk=>(hfl k hk).symm) (fun _ _=>rfl) h0 (fun k hk hlk=>by
  rw [hfl k hk] at hlk
  cases hlk) hl0
 rw [hu,show n+(l.length - n)=l.toArray.size by simp;omega] at key
 exact key
end main
end Dn
section
open Go.RowKit
theorem dI {f:Value→World→Prop} {W W':World} (h:∀ v,f v W→f v W'):∀ vs,one f vs W→one f vs W'
 | [v],hf=>h v hf
 | [],hf=>hf
 | _ :: _ :: _,hf=>hf
def two (f:Value→Value→World→Prop):List Value→World→Prop
 | [a,b],W=>f a b W
 | _,_=>False
theorem UR {f:Value→Value→World→Prop} (h:∀ a b W W',Below W.heap.size W W'→f a b W→f a b W'):∀ vs W W',Below W.heap.size W W'→two f vs W→two f vs W'
 | [a,b],W,W',hb,hf=>h a b W W' hb hf
 | [],_,_,_,hf=>hf
 | [_],_,_,_,hf=>hf
 | _ :: _ :: _ :: _,_,_,_,hf=>hf
def Am (W W':World) (i:Nat):Nat→List (List Value→World→Prop)→Prop
 | _,[]=>True
 | k,g :: r=>(k=i∨∀ vs,g vs W→g vs W')∧Am W W' i (k+1) r
theorem Ep {W W':World} {i:Nat}:∀ {gs:List (List Value→World→Prop)} (k j:Nat) {g:List Value→World→Prop},Am W W' i k gs→gs[j]? = some g→k+j≠i→∀ vs,g vs W→g vs W'
 | [],_,_,_,_,h,_=>by simp at h
 | x :: r,k,0,g,h,hg,hne=>by
  simp only [List.getElem?_cons_zero,Option.some.injEq] at hg
  subst hg
  exact h.1.resolve_left hne
 | x :: r,k,j+1,g,h,hg,hne=>Ep (k+1) j h.2 (by simpa using hg) (by omega)
theorem Es {sp:List Spec} {gs:List (List Value→World→Prop)} {u:Nat→Value} {i:Nat} {W W':World} (h:Am W W' i 0 gs):Kp.Kept sp gs u i W W':=
 .inr fun k hk hf=>by
  unfold eP at hf ⊢
  cases hs:sp[k]? with
  | none=>trivial
  | some s =>
   cases hg:gs[k]? with
   | none=>trivial
   | some g =>
    rw [hs,hg] at hf
    exact Ep 0 k h hg (by omega) _ hf
def M2V (n m:Nat) (v:Value) (W:World):Prop:=∃ x p l q x' p' l' q',v=.tuple #[.agg #[.int .u64 x,.slice p l q],.agg #[.int .u64 x',.slice p' l' q']]∧ah W (.int .u64 x) (.slice p l q) n∧ah W (.int .u64 x') (.slice p' l' q') m
theorem Ez {n m:Nat}:∀ v W W',Below W.heap.size W W'→M2V n m v W→M2V n m v W':=fun _ _ _ hb ⟨x,p,l,q,x',p',l',q',e,h,h'⟩=>⟨x,p,l,q,x',p',l',q',e,h.below hb,h'.below hb⟩
theorem M2V.elim {G:Prop} {n m:Nat} {v:Value} {W:World} (h:M2V n m v W) (k:∀ x p l q x' p' l' q',v=.tuple #[.agg #[.int .u64 x,.slice p l q],.agg #[.int .u64 x',.slice p' l' q']]→ah W (.int .u64 x) (.slice p l q) n→ah W (.int .u64 x') (.slice p' l' q') m→G):G:=by
 obtain ⟨x,p,l,q,x',p',l',q',e,h1,h2⟩:=h
 exact k _ _ _ _ _ _ _ _ e h1 h2
theorem aB.elim {G:Prop} {n:Nat} {v:Value} {W:World} (h:aB n v W) (k:∀ x p l q,v=.agg #[.int .u64 x,.slice p l q]→ah W (.int .u64 x) (.slice p l q) n→G):G:=by
 obtain ⟨x,p,l,q,e,h1⟩:=h
 exact k _ _ _ _ e h1
abbrev jg (W:World) (L:Nat) (x:Int) (p:Option Addr) (l q:Nat):World:=(W.setCell ⟨L,0,none⟩ (.int .u64 x)).setCell ⟨L,1,none⟩ (.slice p l q)
def gG (B:Nat) (T:TypeId) (v:Value) (W:World):Prop:=∃ L x p l q,v=.pointer (some ⟨L,0,none⟩)∧B≤L∧L<W.heap.size∧Bx W L T [.int .u64 x,.slice p l q]
theorem EJ {B:Nat} {T:TypeId}:∀ v W W',Below W.heap.size W W'→gG B T v W→gG B T v W':=
 fun _ _ _ hb ⟨L,x,p,l,q,e,h1,h2,h3⟩=>⟨L,x,p,l,q,e,h1,Nat.lt_of_lt_of_le h2 hb.size,h3.below hb⟩
theorem gG.elim {G:Prop} {B:Nat} {T:TypeId} {v:Value} {W:World} (h:gG B T v W) (k:∀ L x p l q,v=.pointer (some ⟨L,0,none⟩)→B≤L→L<W.heap.size→Bx W L T [.int .u64 x,.slice p l q]→G):G:=by
 obtain ⟨L,x,p,l,q,e,h1,h2,h3⟩:=h
 exact k _ _ _ _ _ e h1 h2 h3
def oM (T:TypeId) (a b:Value) (W:World):Prop:=∃ L x p l q,a=.pointer (some ⟨L,0,none⟩)∧b=.agg #[.int .u64 x,.slice p l q]∧Bx W L T [.int .u64 x,.slice p l q]
theorem KZ {T:TypeId}:∀ a b W W',Below W.heap.size W W'→oM T a b W→oM T a b W':=
 fun _ _ _ _ hb ⟨L,x,p,l,q,e,e',h⟩=>⟨L,x,p,l,q,e,e',h.below hb⟩
theorem oM.all {B:Nat} {T T':TypeId} {a b:Value} {n:Nat} {W:World} (h9:gG B T a W) (h:oM T' a b W) (hm:aB n b W):∃ L x p l q,a=.pointer (some ⟨L,0,none⟩)∧b=.agg #[.int .u64 x,.slice p l q]∧B≤L∧Bx W L T' [.int .u64 x,.slice p l q]∧ah W (.int .u64 x) (.slice p l q) n:=by
 obtain ⟨L,x,p,l,q,rfl,h1,-,-⟩:=h9
 obtain ⟨L',x',p',l',q',e,rfl,h2⟩:=h
 cases e
 obtain ⟨x1,p1,l1,q1,e1,h3⟩:=hm
 cases e1
 exact ⟨L,x',p',l',q',rfl,rfl,h1,h2,h3⟩
section store
variable {W:World} {L:Nat} {T:TypeId} {x x':Int} {p p':Option Addr} {l q l' q':Nat}
theorem ah.jg (hb:Bx W L T [.int .u64 x,.slice p l q]) {c d:Value} {n:Nat} (h:ah W c d n):ah (jg W L x' p' l' q') c d n:=(h.setBox hb rfl).setBox (hb.set 0 _) rfl
theorem Ap (hb:Bx W L T [.int .u64 x,.slice p l q]) {n:Nat}:∀ v,aB n v W→aB n v (jg W L x' p' l' q'):=fun _ ⟨x1,p1,l1,k1,e,h⟩=>⟨x1,p1,l1,k1,e,h.jg hb⟩
theorem ED (hb:Bx W L T [.int .u64 x,.slice p l q]) {n m:Nat}:∀ v,M2V n m v W→M2V n m v (jg W L x' p' l' q'):=fun _ ⟨x1,p1,l1,k1,x2,p2,l2,k2,e,h,h'⟩=>⟨x1,p1,l1,k1,x2,p2,l2,k2,e,h.jg hb,h'.jg hb⟩
theorem Bx.jg (hb:Bx W L T [.int .u64 x,.slice p l q]):Bx (jg W L x' p' l' q') L T [.int .u64 x',.slice p' l' q']:=(hb.set 0 _).set 1 _
theorem EL (hb:Bx W L T [.int .u64 x,.slice p l q]) {B:Nat} {T':TypeId}:∀ v,gG B T' v W→gG B T' v (jg W L x' p' l' q'):=fun _ ⟨L1,x1,p1,l1,k1,e,h1,h2,h3⟩=>by
 by_cases hl:L1=L
 ·subst hl
  have hT:T' = T:=by
   have h4:=hb
   unfold Bx at h3 h4
   rw [h3] at h4
   injection h4 with h5
   injection h5 with _ h6
  subst hT
  exact ⟨L1,x',p',l',q',e,h1,by simpa using h2,hb.jg⟩
 ·exact ⟨L1,x1,p1,l1,k1,e,h1,by simpa using h2,(h3.far hl _).far hl _⟩
end store
end
section
open Go.RowKit Go.Sort
theorem vK (n:Nat) (h:n<B64) (W:World):ah W (.int .u64 (n:Int)) (.slice none 0 0) n:=.inl ⟨h,rfl,rfl⟩
theorem OV (n d:Int) (h1:-9223372036854775808≤n) (h2:n<9223372036854775808) (h3:-9223372036854775808≤d) (h4:d<9223372036854775808) (d0:d≠0) (hn:n≠0) (w:World) (hT:Tab w) :
  Calls Tryz.prog 21 #[.int .i64 n,.int .i64 d] w (eU w (mkRat (zs (decide (n<0) != decide (d<0)) n.natAbs) d.natAbs) 0):=by
 have HIn:=hid (rF n h1 h2)
 have HId:=hid (rF d h3 h4)
 obtain ⟨sa,hsa⟩:∃ s,decide (n<0)=s:=⟨_,rfl⟩
 obtain ⟨sb,hsb⟩:∃ s,decide (d<0)=s:=⟨_,rfl⟩
 obtain ⟨na,hna⟩:∃ s,n.natAbs=s:=⟨_,rfl⟩
 obtain ⟨da,hda⟩:∃ s,d.natAbs=s:=⟨_,rfl⟩
 have ka:na<B64:=by unfold B64;omega
 have kb:da<B64:=by unfold B64;omega
 have kd:da≠0:=by omega
 have HR:=hid (fun (W:World) (hT:Tab W)=>sW (sa != sb) _ _ _ _ na da 1 W (vK na ka W) (vK da kb W) kd (by omega) (by rw [Nat.pow_one];exact ka) (by rw [Nat.pow_one];exact kb) hT)
 rw [hsa,hna] at HIn
 rw [hsb,hda] at HId
 rw [hsa,hsb,hna,hda]
 obtain ⟨R,hR⟩:∃ R,mkRat (zs (sa != sb) na) da=R:=⟨_,rfl⟩
 rw [hR] at HR ⊢
 have td:(d == 0)=false:=by rw [beq_eq_false_iff_ne];exact d0
 have tn:(n != 0)=true:=by rw [bne_iff_ne];exact hn
 have HT:=hid hT
 clear h1 h2 h3 h4 d0 hn hsa hsb hna hda ka kb kd hR hT
 go_enter Tryz.func21,Tryz.ntmps21
 go_wp2_with fail
 have hS0:=hid ((St.start w).alloc' (w.heap.size) (by simp) 31 z5)
 obtain ⟨W0,hW0⟩:=aP hS0
 rw [hW0] at hS0 ⊢
 clear hW0
 refine (HIn.out _).mono ?_
 rintro e w1 ⟨rfl,hB⟩
 have hS1:=hid (hS0.out.call hB)
 clear hB
 clear hS0
 go_wp2_with fail
 refine (HId.out _).mono ?_
 rintro e w2 ⟨rfl,hB⟩
 have hS2:=hid (hS1.out.call hB)
 clear hB
 clear hS1
 obtain ⟨ne1l,ne1,ne1'⟩:=hS2.out.ne 0 w.heap.size 31 z5 rfl
 go_wp2_with fail
 have hA:=hid (((hS2.out).alloc' (w2.heap.size) (by simp) 29 [.bool (sa != sb),.int .u64 (na:Int),.slice none 0 0]).alloc' (w2.heap.size+1) (by simp) 29 [.bool sb,.int .u64 (da:Int),.slice none 0 0])
 refine (HR.out _ (HT.out.below hA.out.bel (Nat.le_refl _))).mono ?_
 rintro e w3 ⟨v,rfl,hv,hB⟩
 have hS3:=hid (hA.out.call hB)
 clear hB
 clear hA
 obtain ⟨t1,x1,p1,l1,q1,y1,r1,s1,u1,rfl⟩:=hv.open
 have hS4:=hid (hS3.out.fq hv)
 clear hS3 hv
 obtain ⟨⟨cR0,cR1,cR2,cR3,cR4⟩,fR0,fR1,fR2,fR3,fR4⟩:=hS4.out.f5 2 w.heap.size 31 (.bool false) (.int .u64 0) (.slice none 0 0) (.int .u64 0) (.slice none 0 0) rfl
 have hS5:=hid (((((((hS4.out).store (b:=⟨w.heap.size,31,z5⟩) 2 0 (.bool t1) rfl rfl).store (b:=⟨w.heap.size,31,[.bool t1,.int .u64 0,.slice none 0 0,.int .u64 0,.slice none 0 0]⟩) 2 1 (.int .u64 x1) rfl rfl).store (b:=⟨w.heap.size,31,[.bool t1,.int .u64 x1,.slice none 0 0,.int .u64 0,.slice none 0 0]⟩) 2 2 (.slice p1 l1 q1) rfl rfl).store (b:=⟨w.heap.size,31,[.bool t1,.int .u64 x1,.slice p1 l1 q1,.int .u64 0,.slice none 0 0]⟩) 2 3 (.int .u64 y1) rfl rfl).store (b:=⟨w.heap.size,31,[.bool t1,.int .u64 x1,.slice p1 l1 q1,.int .u64 y1,.slice none 0 0]⟩) 2 4 (.slice r1 s1 u1) rfl rfl).as [⟨w2.heap.size+1,29,[.bool sb,.int .u64 (da:Int),.slice none 0 0]⟩,⟨w2.heap.size,29,[.bool (sa != sb),.int .u64 (na:Int),.slice none 0 0]⟩,⟨w.heap.size,31,(c5 t1 x1 p1 l1 q1 y1 r1 s1 u1)⟩] rfl)
 go_wp2_with fail
 clear cR0 cR1 cR2 cR3 cR4 fR0 fR1 fR2 fR3 fR4
 obtain ⟨⟨zR0,zR1,zR2,zR3,zR4⟩,-⟩:=hS5.out.f5 2 w.heap.size 31 (.bool t1) (.int .u64 x1) (.slice p1 l1 q1) (.int .u64 y1) (.slice r1 s1 u1) rfl
 exact bodyPost_ret (v:=.tuple #[.agg #[.bool t1,.int .u64 x1,.slice p1 l1 q1,.int .u64 y1,.slice r1 s1 u1],.int .i64 0]) (by simp [results,Tryz.results21,go_sem,zR0,zR1,zR2,zR3,zR4]) rfl ⟨_,rfl,(hS5.out.gq 0 rfl),hS5.out.bel⟩
theorem OX (n d:Int) (h1:-9223372036854775808≤n) (h2:n<9223372036854775808) (h3:-9223372036854775808≤d) (h4:d<9223372036854775808) (d0:d≠0) (hn:n=0) (w:World) (hT:Tab w) :
  Calls Tryz.prog 21 #[.int .i64 n,.int .i64 d] w (eU w (mkRat (zs (false) n.natAbs) d.natAbs) 0):=by
 have HIn:=hid (rF n h1 h2)
 have HId:=hid (rF d h3 h4)
 obtain ⟨sa,hsa⟩:∃ s,decide (n<0)=s:=⟨_,rfl⟩
 obtain ⟨sb,hsb⟩:∃ s,decide (d<0)=s:=⟨_,rfl⟩
 obtain ⟨na,hna⟩:∃ s,n.natAbs=s:=⟨_,rfl⟩
 obtain ⟨da,hda⟩:∃ s,d.natAbs=s:=⟨_,rfl⟩
 have ka:na<B64:=by unfold B64;omega
 have kb:da<B64:=by unfold B64;omega
 have kd:da≠0:=by omega
 have HR:=hid (fun (W:World) (hT:Tab W)=>sW (false) _ _ _ _ na da 1 W (vK na ka W) (vK da kb W) kd (by omega) (by rw [Nat.pow_one];exact ka) (by rw [Nat.pow_one];exact kb) hT)
 rw [hsa,hna] at HIn
 rw [hsb,hda] at HId
 rw [hna,hda]
 obtain ⟨R,hR⟩:∃ R,mkRat (zs (false) na) da=R:=⟨_,rfl⟩
 rw [hR] at HR ⊢
 have td:(d == 0)=false:=by rw [beq_eq_false_iff_ne];exact d0
 have tn:(n != 0)=false:=by rw [bne_eq_false_iff_eq];exact hn
 have HT:=hid hT
 clear h1 h2 h3 h4 d0 hn hsa hsb hna hda ka kb kd hR hT
 go_enter Tryz.func21,Tryz.ntmps21
 go_wp2_with fail
 have hS0:=hid ((St.start w).alloc' (w.heap.size) (by simp) 31 z5)
 obtain ⟨W0,hW0⟩:=aP hS0
 rw [hW0] at hS0 ⊢
 clear hW0
 refine (HIn.out _).mono ?_
 rintro e w1 ⟨rfl,hB⟩
 have hS1:=hid (hS0.out.call hB)
 clear hB
 clear hS0
 go_wp2_with fail
 refine (HId.out _).mono ?_
 rintro e w2 ⟨rfl,hB⟩
 have hS2:=hid (hS1.out.call hB)
 clear hB
 clear hS1
 obtain ⟨ne1l,ne1,ne1'⟩:=hS2.out.ne 0 w.heap.size 31 z5 rfl
 go_wp2_with fail
 have hA:=hid (((hS2.out).alloc' (w2.heap.size) (by simp) 29 [.bool (false),.int .u64 (na:Int),.slice none 0 0]).alloc' (w2.heap.size+1) (by simp) 29 [.bool sb,.int .u64 (da:Int),.slice none 0 0])
 refine (HR.out _ (HT.out.below hA.out.bel (Nat.le_refl _))).mono ?_
 rintro e w3 ⟨v,rfl,hv,hB⟩
 have hS3:=hid (hA.out.call hB)
 clear hB
 clear hA
 obtain ⟨t1,x1,p1,l1,q1,y1,r1,s1,u1,rfl⟩:=hv.open
 have hS4:=hid (hS3.out.fq hv)
 clear hS3 hv
 obtain ⟨⟨cR0,cR1,cR2,cR3,cR4⟩,fR0,fR1,fR2,fR3,fR4⟩:=hS4.out.f5 2 w.heap.size 31 (.bool false) (.int .u64 0) (.slice none 0 0) (.int .u64 0) (.slice none 0 0) rfl
 have hS5:=hid (((((((hS4.out).store (b:=⟨w.heap.size,31,z5⟩) 2 0 (.bool t1) rfl rfl).store (b:=⟨w.heap.size,31,[.bool t1,.int .u64 0,.slice none 0 0,.int .u64 0,.slice none 0 0]⟩) 2 1 (.int .u64 x1) rfl rfl).store (b:=⟨w.heap.size,31,[.bool t1,.int .u64 x1,.slice none 0 0,.int .u64 0,.slice none 0 0]⟩) 2 2 (.slice p1 l1 q1) rfl rfl).store (b:=⟨w.heap.size,31,[.bool t1,.int .u64 x1,.slice p1 l1 q1,.int .u64 0,.slice none 0 0]⟩) 2 3 (.int .u64 y1) rfl rfl).store (b:=⟨w.heap.size,31,[.bool t1,.int .u64 x1,.slice p1 l1 q1,.int .u64 y1,.slice none 0 0]⟩) 2 4 (.slice r1 s1 u1) rfl rfl).as [⟨w2.heap.size+1,29,[.bool sb,.int .u64 (da:Int),.slice none 0 0]⟩,⟨w2.heap.size,29,[.bool (false),.int .u64 (na:Int),.slice none 0 0]⟩,⟨w.heap.size,31,(c5 t1 x1 p1 l1 q1 y1 r1 s1 u1)⟩] rfl)
 go_wp2_with fail
 clear cR0 cR1 cR2 cR3 cR4 fR0 fR1 fR2 fR3 fR4
 obtain ⟨⟨zR0,zR1,zR2,zR3,zR4⟩,-⟩:=hS5.out.f5 2 w.heap.size 31 (.bool t1) (.int .u64 x1) (.slice p1 l1 q1) (.int .u64 y1) (.slice r1 s1 u1) rfl
 exact bodyPost_ret (v:=.tuple #[.agg #[.bool t1,.int .u64 x1,.slice p1 l1 q1,.int .u64 y1,.slice r1 s1 u1],.int .i64 0]) (by simp [results,Tryz.results21,go_sem,zR0,zR1,zR2,zR3,zR4]) rfl ⟨_,rfl,(hS5.out.gq 0 rfl),hS5.out.bel⟩
theorem wO (n d:Int) (h1:-9223372036854775808≤n) (h2:n<9223372036854775808) (h3:-9223372036854775808≤d) (h4:d<9223372036854775808) (d0:d≠0) (w:World) (hT:Tab w) :
  Calls Tryz.prog 21 #[.int .i64 n,.int .i64 d] w (eU w ((n:Rat) / (d:Rat)) 0):=by
 by_cases hn:n=0
 ·have:=OX n d h1 h2 h3 h4 d0 hn w hT
  subst hn
  simp only [Int.natAbs_zero,xK] at this
  rw [show (((0:Int):Rat) / (d:Rat))=mkRat 0 d.natAbs by rw [Rat.zero_mkRat];simp [Rat.div_def]]
  exact this
 ·have:=OV n d h1 h2 h3 h4 d0 hn w hT
  rw [show ((n:Rat) / (d:Rat))=mkRat (zs (decide (n<0) != decide (d<0)) n.natAbs) d.natAbs from ?_]
  ·exact this
  ·rw [← Rat.divInt_eq_div,← Rat.divInt_ofNat,Rat.divInt_eq_divInt_iff d0 (by omega)]
   unfold zs
   rcases Int.lt_or_le n 0 with hn0 | hn0 <;> rcases Int.lt_or_le d 0 with hd0 | hd0
   ·rw [decide_eq_true hn0,decide_eq_true hd0];simp only [bne_self_eq_false,Bool.false_eq_true,if_false];rw [show ((d.natAbs:Nat):Int) = -d by omega,show ((n.natAbs:Nat):Int) = -n by omega];grind
   ·rw [decide_eq_true hn0,decide_eq_false (by omega)];simp only [Bool.bne_false,if_true];rw [show ((d.natAbs:Nat):Int)=d by omega,show ((n.natAbs:Nat):Int) = -n by omega];grind
   ·rw [decide_eq_false (by omega),decide_eq_true hd0];simp only [Bool.false_bne,if_true];rw [show ((d.natAbs:Nat):Int) = -d by omega,show ((n.natAbs:Nat):Int)=n by omega];grind
   ·rw [decide_eq_false (by omega),decide_eq_false (by omega)];simp only [bne_self_eq_false,Bool.false_eq_true,if_false];rw [show ((d.natAbs:Nat):Int)=d by omega,show ((n.natAbs:Nat):Int)=n by omega]
end
end Go.Proofs.YtnmlkobogofadaaGreatDoor
