/- What the proof rests on, part 11. -/
import Derived.Test.YtmijlcldmefggaaGreatDoorZ10
import Derived.Test.YtmijlcldmefggaaGreatDoorZ00
import Derived.Laws.OwnMore
namespace Go.Proofs.YtmijlcldmefggaaGreatDoor
set_option maxRecDepth 100000
set_option maxHeartbeats 80000000
section
open Go.RowKit Go.Sort
def QSlot (W:World) (b:Nat):Prop:=
 (∃ t,W.cell? ⟨b,0,none⟩=some (.bool t))∧(∃ x,W.cell? ⟨b,1,none⟩=some (.int .u64 x))∧(∃ p l c,W.cell? ⟨b,2,none⟩=some (.slice p l c))∧(∃ x,W.cell? ⟨b,3,none⟩=some (.int .u64 x))∧(∃ p l c,W.cell? ⟨b,4,none⟩=some (.slice p l c)) ∧
 W.frozen? ⟨b,0,none⟩=false∧W.frozen? ⟨b,1,none⟩=false∧W.frozen? ⟨b,2,none⟩=false∧W.frozen? ⟨b,3,none⟩=false∧W.frozen? ⟨b,4,none⟩=false
theorem QSlot.below {W W':World} {b B:Nat} (h:QSlot W b) (hb:Below B W W') (hs:b<B):QSlot W' b:=by
 obtain ⟨⟨t,h0⟩,⟨x,h1⟩,⟨p,l,c,h2⟩,⟨y,h3⟩,⟨p',l',c',h4⟩,f0,f1,f2,f3,f4⟩:=h
 refine ⟨⟨t,?_⟩,⟨x,?_⟩,⟨p,l,c,?_⟩,⟨y,?_⟩,⟨p',l',c',?_⟩,?_,?_,?_,?_,?_⟩
 ·rw [hb.cell (p:=⟨b,0,none⟩) hs];exact h0
 ·rw [hb.cell (p:=⟨b,1,none⟩) hs];exact h1
 ·rw [hb.cell (p:=⟨b,2,none⟩) hs];exact h2
 ·rw [hb.cell (p:=⟨b,3,none⟩) hs];exact h3
 ·rw [hb.cell (p:=⟨b,4,none⟩) hs];exact h4
 ·rw [hb.frozen (p:=⟨b,0,none⟩) hs];exact f0
 ·rw [hb.frozen (p:=⟨b,1,none⟩) hs];exact f1
 ·rw [hb.frozen (p:=⟨b,2,none⟩) hs];exact f2
 ·rw [hb.frozen (p:=⟨b,3,none⟩) hs];exact f3
 ·rw [hb.frozen (p:=⟨b,4,none⟩) hs];exact f4
theorem QSlot.facts {W:World} {b:Nat} (h:QSlot W b):∃ r0 r1 r2 r3 r4,B5 W b r0 r1 r2 r3 r4:=by
 obtain ⟨⟨t,h0⟩,⟨x,h1⟩,⟨p,l,c,h2⟩,⟨y,h3⟩,⟨p',l',c',h4⟩,f0,f1,f2,f3,f4⟩:=h
 exact ⟨_,_,_,_,_,⟨h0,h1,h2,h3,h4⟩,f0,f1,f2,f3,f4⟩
theorem QSlot.mag {W:World} {b:Nat} {u0 u1 u2 u3 u4 c d:Value} {n:Nat} (h:QSlot W b) (hm:IsMag W c d n):IsMag (set5 W b u0 u1 u2 u3 u4) c d n:=by
 obtain ⟨⟨t,h0⟩,⟨x,h1⟩,⟨p,l,cc,h2⟩,⟨y,h3⟩,⟨p',l',c',h4⟩,_⟩:=h
 rcases hm with hm0 | ⟨b1,o,k,xs,k1,k2,k3,k4,k5,k6,k7,k8,k9⟩
 ·exact .inl hm0
 ·refine .inr ⟨b1,o,k,xs,k1,k2,by simpa using k3,k4,k5,k6,k7,k8,fun j hj=>?_⟩
  have hne:∀ i,i<5→(⟨b,i,none⟩:Addr)≠⟨b1,o+j,none⟩:=fun i hi e=>by
   have e1:b=b1:=congrArg Addr.block e
   have e2:i=o+j:=congrArg Addr.off e
   subst e1
   have d0:=k9 j hj
   rw [← e2] at d0
   have hd:∃ j',j' < xs.length∧(j' = j+1∨j=j' + 1):=by
    rcases Nat.lt_or_ge (j+1) xs.length with h | h
    ·exact ⟨j+1,h,.inl rfl⟩
    ·exact ⟨j - 1,by omega,.inr (by omega)⟩
   obtain ⟨j',hj',hjj⟩:=hd
   have d1:=k9 j' hj'
   have hc:i=0∨i=1∨i=2∨i=3∨i=4:=by omega
   rcases hc with rfl | rfl | rfl | rfl | rfl
   ·rw [h0] at d0;cases d0
   ·have:o+j' = 0∨o+j' = 2:=by omega
    rcases this with h | h
    ·rw [h,h0] at d1;cases d1
    ·rw [h,h2] at d1;cases d1
   ·rw [h2] at d0;cases d0
   ·have:o+j' = 2∨o+j' = 4:=by omega
    rcases this with h | h
    ·rw [h,h2] at d1;cases d1
    ·rw [h,h4] at d1;cases d1
   ·rw [h4] at d0;cases d0
  rw [World.cell?_setCell_other _ _ _ _ (hne 4 (by omega)),World.cell?_setCell_other _ _ _ _ (hne 3 (by omega)),World.cell?_setCell_other _ _ _ _ (hne 2 (by omega)),World.cell?_setCell_other _ _ _ _ (hne 1 (by omega)),World.cell?_setCell_other _ _ _ _ (hne 0 (by omega))]
  exact k9 j hj
theorem below_set5 {B:Nat} {w W:World} {b:Nat} (u0 u1 u2 u3 u4:Value) (h:Below B w W) (hb:B≤b):Below B w (set5 W b u0 u1 u2 u3 u4):=
 ((((h.setCell hb _).setCell hb _).setCell hb _).setCell hb _).setCell hb _
theorem QSlot.done {B:Nat} {w W:World} {b:Nat} {v0 c d e f:Value} {n m:Nat} (h:QSlot W b) (hB:Below B w W) (hb:B≤b) (h1:IsMag W c d n) (h2:IsMag W e f m) :
  C5 (set5 W b v0 c d e f) b v0 c d e f∧Hid (IsMag (set5 W b v0 c d e f) c d n∧IsMag (set5 W b v0 c d e f) e f m∧Below B w (set5 W b v0 c d e f)):=by
 obtain ⟨r0,r1,r2,r3,r4,hf⟩:=h.facts
 exact ⟨(hf.same _ _ _ _ _).1,hid ⟨h.mag h1,h.mag h2,below_set5 _ _ _ _ _ hB hb⟩⟩
def SSlot (W:World) (b:Nat):Prop:=
 (∃ t,W.cell? ⟨b,0,none⟩=some (.bool t))∧(∃ x,W.cell? ⟨b,1,none⟩=some (.int .u64 x))∧(∃ p l c,W.cell? ⟨b,2,none⟩=some (.slice p l c)) ∧
 W.frozen? ⟨b,0,none⟩=false∧W.frozen? ⟨b,1,none⟩=false∧W.frozen? ⟨b,2,none⟩=false
theorem SSlot.below {W W':World} {b B:Nat} (h:SSlot W b) (hb:Below B W W') (hs:b<B):SSlot W' b:=by
 obtain ⟨⟨t,h0⟩,⟨x,h1⟩,⟨p,l,c,h2⟩,f0,f1,f2⟩:=h
 refine ⟨⟨t,?_⟩,⟨x,?_⟩,⟨p,l,c,?_⟩,?_,?_,?_⟩
 ·rw [hb.cell (p:=⟨b,0,none⟩) hs];exact h0
 ·rw [hb.cell (p:=⟨b,1,none⟩) hs];exact h1
 ·rw [hb.cell (p:=⟨b,2,none⟩) hs];exact h2
 ·rw [hb.frozen (p:=⟨b,0,none⟩) hs];exact f0
 ·rw [hb.frozen (p:=⟨b,1,none⟩) hs];exact f1
 ·rw [hb.frozen (p:=⟨b,2,none⟩) hs];exact f2
abbrev C3 (w:World) (b:Nat) (v0 v1 v2:Value):Prop:=w.cell? ⟨b,0,none⟩=some v0∧w.cell? ⟨b,1,none⟩=some v1∧w.cell? ⟨b,2,none⟩=some v2
abbrev set3 (W:World) (b:Nat) (u0 u1 u2:Value):World:=((W.setCell ⟨b,0,none⟩ u0).setCell ⟨b,1,none⟩ u1).setCell ⟨b,2,none⟩ u2
theorem C3.below {w w':World} {b B:Nat} {v0 v1 v2:Value} (h:C3 w b v0 v1 v2) (hb:Below B w w') (hB:b<B):C3 w' b v0 v1 v2:=
 ⟨(hb.cell (p:=⟨b,0,none⟩) hB).trans h.1,(hb.cell (p:=⟨b,1,none⟩) hB).trans h.2.1,(hb.cell (p:=⟨b,2,none⟩) hB).trans h.2.2⟩
theorem SSlot.mag {W:World} {b:Nat} {u0 u1 u2 c d:Value} {n:Nat} (h:SSlot W b) (hm:IsMag W c d n):IsMag (set3 W b u0 u1 u2) c d n:=by
 obtain ⟨⟨t,h0⟩,⟨x,h1⟩,⟨p,l,cc,h2⟩,_⟩:=h
 rcases hm with hm0 | ⟨b1,o,k,xs,k1,k2,k3,k4,k5,k6,k7,k8,k9⟩
 ·exact .inl hm0
 ·refine .inr ⟨b1,o,k,xs,k1,k2,by simpa using k3,k4,k5,k6,k7,k8,fun j hj=>?_⟩
  have hne:∀ i,i<3→(⟨b,i,none⟩:Addr)≠⟨b1,o+j,none⟩:=fun i hi e=>by
   have e1:b=b1:=congrArg Addr.block e
   have e2:i=o+j:=congrArg Addr.off e
   subst e1
   have d0:=k9 j hj
   rw [← e2] at d0
   have hd:∃ j',j' < xs.length∧(j' = j+1∨j=j' + 1):=by
    rcases Nat.lt_or_ge (j+1) xs.length with h | h
    ·exact ⟨j+1,h,.inl rfl⟩
    ·exact ⟨j - 1,by omega,.inr (by omega)⟩
   obtain ⟨j',hj',hjj⟩:=hd
   have d1:=k9 j' hj'
   have hc:i=0∨i=1∨i=2:=by omega
   rcases hc with rfl | rfl | rfl
   ·rw [h0] at d0;cases d0
   ·have:o+j' = 0∨o+j' = 2:=by omega
    rcases this with h | h
    ·rw [h,h0] at d1;cases d1
    ·rw [h,h2] at d1;cases d1
   ·rw [h2] at d0;cases d0
  rw [World.cell?_setCell_other _ _ _ _ (hne 2 (by omega)),World.cell?_setCell_other _ _ _ _ (hne 1 (by omega)),World.cell?_setCell_other _ _ _ _ (hne 0 (by omega))]
  exact k9 j hj
theorem SSlot.done {B:Nat} {w W:World} {b:Nat} {v0 c d:Value} {n:Nat} (h:SSlot W b) (hB:Below B w W) (hb:B≤b) (h1:IsMag W c d n) :
  C3 (set3 W b v0 c d) b v0 c d∧Hid (IsMag (set3 W b v0 c d) c d n∧Below B w (set3 W b v0 c d)):=by
 refine ⟨?_,hid ⟨h.mag h1,((hB.setCell hb _).setCell hb _).setCell hb _⟩⟩
 obtain ⟨⟨t,h0⟩,⟨x,h1⟩,⟨p,l,cc,h2⟩,f0,f1,f2⟩:=h
 refine ⟨?_,?_,?_⟩
 ·rw [World.cell?_setCell_other _ _ _ _ (by simp),World.cell?_setCell_other _ _ _ _ (by simp)]
  exact World.cell?_setCell_same _ _ _ h0
 ·rw [World.cell?_setCell_other _ _ _ _ (by simp)]
  refine World.cell?_setCell_same (u:=.int .u64 x) _ _ _ ?_
  rw [World.cell?_setCell_other _ _ _ _ (by simp)];exact h1
 ·refine World.cell?_setCell_same (u:=.slice p l cc) _ _ _ ?_
  rw [World.cell?_setCell_other _ _ _ _ (by simp),World.cell?_setCell_other _ _ _ _ (by simp)];exact h2
theorem IsMag.shape {w:World} {c d:Value} {n:Nat} (h:IsMag w c d n):∃ (x:Int) (p:Option Addr) (l k:Nat),c=.int .u64 x∧d=.slice p l k:=by
 rcases h with ⟨_,rfl,rfl⟩ | ⟨b,o,k,xs,rfl,rfl,_⟩ <;> exact ⟨_,_,_,_,rfl,rfl⟩
theorem IsQ.shape {w:World} {v:Value} {r:Rat} (h:IsQ w v r):∃ (t:Bool) (x:Int) (p:Option Addr) (l k:Nat) (x':Int) (p':Option Addr) (l' k':Nat),
  v=.agg #[.bool t,.int .u64 x,.slice p l k,.int .u64 x',.slice p' l' k']∧IsMag w (.int .u64 x) (.slice p l k) r.num.natAbs∧IsMag w (.int .u64 x') (.slice p' l' k') (denOf r) ∧
  Hid (t=decide (r.num<0)):=by
 obtain ⟨c,d,e,f,rfl,h1,h2⟩:=h
 obtain ⟨x,p,l,k,rfl,rfl⟩:=h1.shape
 obtain ⟨x',p',l',k',rfl,rfl⟩:=h2.shape
 exact ⟨_,_,_,_,_,_,_,_,_,rfl,h1,h2,hid rfl⟩
theorem QSlot.doneQ {B:Nat} {w W:World} {b:Nat} {t:Bool} {c d e f:Value} {r:Rat} (h:QSlot W b) (hB:Below B w W) (hb:B≤b) (h1:IsMag W c d r.num.natAbs) (h2:IsMag W e f (denOf r)) (ht:Hid (t=decide (r.num<0))) :
  C5 (set5 W b (.bool t) c d e f) b (.bool t) c d e f∧Hid (IsQ (set5 W b (.bool t) c d e f) (.agg #[.bool t,c,d,e,f]) r∧Below B w (set5 W b (.bool t) c d e f)):=by
 obtain ⟨h3,h4⟩:=h.done (v0:=.bool t) hB hb h1 h2
 exact ⟨h3,hid ⟨⟨c,d,e,f,by rw [ht.out],h4.out.1,h4.out.2.1⟩,h4.out.2.2⟩⟩
end
namespace Z4
def B4:Nat:=10000
theorem B4_pos:0<B4:=by decide
theorem B4_eq:B4=10000:=rfl
def val:List Nat→Nat
 | []=>0
 | d :: ds=>d+B4*val ds
def Dig (xs:List Nat):Prop:=∀ d,d∈xs→d<B4
theorem val_nil:val []=0:=rfl
theorem val_cons (d:Nat) (ds:List Nat):val (d :: ds)=d+B4*val ds:=rfl
theorem val_append (xs ys:List Nat):val (xs ++ ys)=val xs+B4 ^ xs.length*val ys:=by
 induction xs with
 | nil=>simp [val]
 | cons x xs ih=>simp only [List.cons_append,val_cons,ih,List.length_cons,Nat.pow_succ,Nat.mul_add];rw [Nat.mul_comm (B4 ^ xs.length) B4,Nat.mul_assoc];omega
theorem val_snoc (xs:List Nat) (d:Nat):val (xs ++ [d])=val xs+B4 ^ xs.length*d:=by
 rw [val_append];simp [val]
theorem Dig.nil:Dig []:=fun _ h=>by simp at h
theorem Dig.append {xs ys:List Nat} (h:Dig xs) (k:Dig ys):Dig (xs ++ ys):=fun d hd=>by
 rcases List.mem_append.1 hd with h1 | h1
 ·exact h d h1
 ·exact k d h1
theorem Dig.left {xs ys:List Nat} (h:Dig (xs ++ ys)):Dig xs:=fun d hd=>h d (by simp [hd])
theorem Dig.right {xs ys:List Nat} (h:Dig (xs ++ ys)):Dig ys:=fun d hd=>h d (by simp [hd])
theorem Dig.take {xs:List Nat} (h:Dig xs) (k:Nat):Dig (xs.take k):=fun d hd=>h d (List.mem_of_mem_take hd)
theorem Dig.drop {xs:List Nat} (h:Dig xs) (k:Nat):Dig (xs.drop k):=fun d hd=>h d (List.mem_of_mem_drop hd)
theorem Dig.get {xs:List Nat} (h:Dig xs) (k:Nat) (hk:k<xs.length):xs[k]<B4:=h _ (List.getElem_mem hk)
theorem Dig.getD {xs:List Nat} (h:Dig xs) (k:Nat):xs[k]?.getD 0<B4:=by
 by_cases hk:k<xs.length
 ·rw [List.getElem?_eq_getElem hk];exact h.get k hk
 ·rw [List.getElem?_eq_none (by omega)];exact B4_pos
theorem val_lt {xs:List Nat} (h:Dig xs):val xs<B4 ^ xs.length:=by
 induction xs with
 | nil=>simp [val]
 | cons x xs ih =>
  have hx:=h x (by simp)
  have ht:=ih (fun d hd=>h d (by simp [hd]))
  rw [val_cons,List.length_cons,Nat.pow_succ,Nat.mul_comm _ B4]
  calc x+B4*val xs<B4+B4*val xs:=by omega
   _=B4*(val xs+1):=by rw [Nat.mul_add];omega
   _≤B4*B4 ^ xs.length:=Nat.mul_le_mul_left _ ht
theorem val_take_succ (xs:List Nat) (k:Nat) (hk:k<xs.length):val (xs.take (k+1))=val (xs.take k)+B4 ^ k*xs[k]:=by
 rw [List.take_succ_eq_append_getElem hk,val_snoc,List.length_take,Nat.min_eq_left (by omega)]
theorem val_split (xs:List Nat) (k:Nat) (hk:k≤xs.length):val xs=val (xs.take k)+B4 ^ k*val (xs.drop k):=by
 conv=>lhs;rw [← List.take_append_drop k xs]
 rw [val_append,List.length_take,Nat.min_eq_left hk]
theorem val_zeros (n:Nat):val (List.replicate n 0)=0:=by
 induction n with
 | zero=>rfl
 | succ n ih=>rw [List.replicate_succ,val_cons,ih];rfl
def Trimmed (xs:List Nat):Prop:=∀ h:xs≠[],xs.getLast h≠0
theorem val_ge_of_trimmed {xs:List Nat} (h:Trimmed xs) (hne:xs≠[]):B4 ^ (xs.length - 1)≤val xs:=by
 have hl:=h hne
 obtain ⟨ys,d,rfl⟩:∃ ys d,xs=ys ++ [d]:=⟨xs.dropLast,xs.getLast hne,(List.dropLast_concat_getLast hne).symm⟩
 rw [val_snoc]
 simp at hl ⊢
 calc B4 ^ ys.length=B4 ^ ys.length*1:=by omega
  _≤B4 ^ ys.length*d:=Nat.mul_le_mul_left _ (by omega)
  _≤_:=by omega
theorem val_pos_of_trimmed {xs:List Nat} (h:Trimmed xs) (hne:xs≠[]):0<val xs:=
 Nat.lt_of_lt_of_le (Nat.pow_pos B4_pos) (val_ge_of_trimmed h hne)
theorem val_lt_of_length {xs ys:List Nat} (hx:Dig xs) (hy:Trimmed ys) (hl:xs.length<ys.length):val xs<val ys:=by
 have h1:=val_lt hx
 have h2:=val_ge_of_trimmed hy (by intro e;simp [e] at hl)
 have h3:B4 ^ xs.length≤B4 ^ (ys.length - 1):=Nat.pow_le_pow_right B4_pos (by omega)
 omega
theorem val_drop (xs:List Nat) (k:Nat) (hk:k<xs.length):val (xs.drop k)=xs[k]?.getD 0+B4*val (xs.drop (k+1)):=by
 rw [List.drop_eq_getElem_cons hk,val_cons,List.getElem?_eq_getElem hk];rfl
def CmpAt (xs ys:List Nat) (k:Nat) (r:Int):Prop:=
 k≤xs.length∧(xs.length=ys.length∧r=cmpN (val (xs.drop k)) (val (ys.drop k))∨xs.length≠ys.length∧r=cmpN xs.length ys.length)
theorem CmpAt.bd {xs ys:List Nat} {k:Nat} {r:Int} (h:CmpAt xs ys k r):-1≤r∧r≤1:=by
 rcases h.2 with ⟨_,rfl⟩ | ⟨_,rfl⟩ <;> exact cmpN_bd _ _
theorem CmpAt.start (xs ys:List Nat):CmpAt xs ys xs.length (cmpN xs.length ys.length):=by
 refine ⟨Nat.le_refl _,?_⟩
 by_cases h:xs.length=ys.length
 ·exact .inl ⟨h,by rw [List.drop_of_length_le (Nat.le_refl _),List.drop_of_length_le (by omega),h,cmpN_eq,cmpN_eq]⟩
 ·exact .inr ⟨h,rfl⟩
theorem CmpAt.len {xs ys:List Nat} {k:Nat} (h:CmpAt xs ys k 0):xs.length=ys.length:=by
 rcases h.2 with ⟨e,_⟩ | ⟨e,h0⟩
 ·exact e
 ·exact cmpN_zero h0.symm
theorem CmpAt.step {xs ys:List Nat} {k:Nat} (h:CmpAt xs ys (k+1) 0):CmpAt xs ys k (cmpN (xs[k]?.getD 0) (ys[k]?.getD 0)):=by
 have hl:=h.len
 have hk:=h.1
 refine ⟨by omega,.inl ⟨hl,?_⟩⟩
 rcases h.2 with ⟨_,h0⟩ | ⟨e,_⟩
 ·have e:=cmpN_zero h0.symm
  rw [val_drop xs k (by omega),val_drop ys k (by omega),e,cmpN_add]
 ·omega
theorem CmpAt.done {xs ys:List Nat} {k:Nat} {r:Int} (h:CmpAt xs ys k r) (hd:k=0∨r≠0) (dx:Dig xs) (dy:Dig ys) (tx:Trimmed xs) (ty:Trimmed ys):r=cmpN (val xs) (val ys):=by
 obtain ⟨hk,⟨hl,rfl⟩ | ⟨hl,rfl⟩⟩:=h
 ·rcases hd with rfl | hd
  ·simp
  ·rw [val_split xs k hk,val_split ys k (by omega)]
   have a:=val_lt (dx.take k)
   have b:=val_lt (dy.take k)
   rw [List.length_take,Nat.min_eq_left hk] at a
   rw [List.length_take,Nat.min_eq_left (by omega)] at b
   rw [cmpN_add_mul _ _ _ _ _ a b hd]
 ·rcases Nat.lt_or_gt_of_ne hl with h1 | h1
  ·rw [cmpN_lt h1,cmpN_lt (val_lt_of_length dx ty h1)]
  ·rw [cmpN_gt h1,cmpN_gt (val_lt_of_length dy tx h1)]
def Tail0 (xs:List Nat) (n:Nat):Prop:=n≤xs.length∧(∀ j:Nat,n≤j→xs[j]?.getD 0=0)∧(n=0∨xs[n - 1]?.getD 0≠0)
theorem val_of_zeros (xs:List Nat) (h:∀ j:Nat,xs[j]?.getD 0=0):val xs=0:=by
 induction xs with
 | nil=>rfl
 | cons x xs ih =>
  have h0:x=0:=by simpa using h 0
  have ht:val xs=0:=ih (fun j=>by simpa using h (j+1))
  rw [val_cons,h0,ht];simp
theorem Tail0.val {xs:List Nat} {n:Nat} (h:Tail0 xs n):val (xs.take n)=val xs:=by
 rw [val_split xs n h.1,val_of_zeros (xs.drop n) (fun j=>by rw [List.getElem?_drop];exact h.2.1 _ (by omega))]
 simp
theorem Tail0.trimmed {xs:List Nat} {n:Nat} (h:Tail0 xs n):Trimmed (xs.take n):=by
 intro hne
 rcases h.2.2 with h0 | h0
 ·subst h0;simp at hne
 ·have hn:n≠0:=by intro e;subst e;simp at hne
  have hle:=h.1
  rw [List.getLast_eq_getElem]
  simp only [List.length_take,Nat.min_eq_left h.1,List.getElem_take]
  rw [List.getElem?_eq_getElem (by omega)] at h0
  exact h0
theorem Tail0.eq {xs:List Nat} {n m:Nat} (h:Tail0 xs n) (k:Tail0 xs m):n=m:=by
 rcases Nat.lt_trichotomy n m with h1 | h1 | h1
 ·rcases k.2.2 with h0 | h0
  ·omega
  ·exact absurd (h.2.1 (m - 1) (by omega)) h0
 ·exact h1
 ·rcases h.2.2 with h0 | h0
  ·omega
  ·exact absurd (k.2.1 (n - 1) (by omega)) h0
end Z4
namespace Z4
open Go.RowKit
def Ints (w:World) (b o:Nat) (xs:List Nat):Prop:=∀ j,j<xs.length→w.cell? ⟨b,o+j,none⟩=some (.int .i64 ((xs[j]?.getD 0:Nat):Int))
theorem Ints.below {B:Nat} {w w':World} {b o:Nat} {xs:List Nat} (h:Ints w b o xs) (hb:Below B w w') (hB:b<B):Ints w' b o xs:=
 fun j hj=>(hb.cell (p:=⟨b,o+j,none⟩) hB).trans (h j hj)
theorem Ints.take {w:World} {b o:Nat} {xs:List Nat} (h:Ints w b o xs) (k:Nat):Ints w b o (xs.take k):=fun j hj=>by
 rw [List.length_take] at hj
 rw [List.getElem?_take_of_lt (by omega)]
 exact h j (by omega)
def IsL (B:Nat) (w:World) (v:Value) (xs:List Nat):Prop:=
 (v=.slice none 0 0∧xs=[])∨∃ b o k,v=.slice (some ⟨b,o,none⟩) xs.length k∧B≤b∧b<w.heap.size∧xs.length≤k∧Ints w b o xs
theorem IsL.shape {B:Nat} {w:World} {v:Value} {xs:List Nat} (h:IsL B w v xs) :
  ∃ p b o k,v=.slice p xs.length k∧(xs.length≠0→p=some ⟨b,o,none⟩)∧(xs.length≠0→b<w.heap.size)∧xs.length≤k∧Ints w b o xs:=by
 rcases h with ⟨rfl,rfl⟩ | ⟨b,o,k,rfl,-,h2,h3,h4⟩
 ·exact ⟨none,0,0,0,rfl,fun h=>absurd rfl h,fun h=>absurd rfl h,Nat.le_refl _,fun j hj=>by simp at hj⟩
 ·exact ⟨_,b,o,k,rfl,fun _=>rfl,fun _=>h2,h3,h4⟩
theorem IsL.below {B:Nat} {w w':World} {v:Value} {xs:List Nat} (h:IsL B w v xs) (hb:Below w.heap.size w w'):IsL B w' v xs:=by
 rcases h with h | ⟨b,o,k,rfl,h1,h2,h3,h4⟩
 ·exact .inl h
 ·exact .inr ⟨b,o,k,rfl,h1,by have:=hb.size;omega,h3,h4.below hb h2⟩
theorem IsL.mono {B B':Nat} {w:World} {v:Value} {xs:List Nat} (h:IsL B w v xs) (hB:B'≤B):IsL B' w v xs:=by
 rcases h with h | ⟨b,o,k,rfl,h1,h2,h3,h4⟩
 ·exact .inl h
 ·exact .inr ⟨b,o,k,rfl,by omega,h2,h3,h4⟩
theorem IsL.nil (B:Nat) (w:World):IsL B w (.slice none 0 0) []:=.inl ⟨rfl,rfl⟩
theorem IsL.set {B:Nat} {w:World} {v:Value} {xs:List Nat} (h:IsL B w v xs) {a:Addr} (ha:a.block<B) (u:Value):IsL B (w.setCell a u) v xs:=by
 rcases h with h | ⟨b,o,k,rfl,h1,h2,h3,h4⟩
 ·exact .inl h
 ·refine .inr ⟨b,o,k,rfl,h1,by simpa using h2,h3,fun j hj=>?_⟩
  rw [World.cell?_setCell_other _ _ _ _ (fun e=>by have:=congrArg Addr.block e;simp only at this;omega)]
  exact h4 j hj
def lenOf:Value→Nat | .slice _ n _=>n | _=>0
theorem trim_calls (p:Option Addr) (b o k:Nat) (xs:List Nat) (w:World) (hp:xs.length≠0→p=some ⟨b,o,none⟩) (hx:Ints w b o xs) (hk:xs.length≤k) (hsz:xs.length≤1099511627776) :
  Calls Tryz.prog 151 #[.slice p xs.length k] w fun e w'=>∃ n,e=.returned (.slice p n k)∧Tail0 xs n∧w=w':=by
 have HP:=hid hp
 clear hp
 go_enter Tryz.func151,Tryz.ntmps151
 go_wp2
 go_loop [0] (fun v=>∃ n,v=.slice p n k∧n≤xs.length∧∀ j:Nat,n≤j→xs[j]?.getD 0=0) (fun v=>lenOf v)
 case atStart=>exact ⟨xs.length,rfl,Nat.le_refl _,fun j hj=>by rw [List.getElem?_eq_none hj];rfl⟩
 case round =>
  obtain ⟨n,rfl,hn,hz⟩:=hrel
  have HZ:=hid hz
  clear hz
  by_cases h0:n=0
  ·subst h0
   go_wp2
   go_ret
   exact ⟨0,rfl,⟨by omega,HZ.out,.inl rfl⟩,rfl⟩
  ·obtain ⟨m,rfl⟩:∃ m,n=m+1:=⟨n - 1,by omega⟩
   obtain ⟨x,hxm⟩:∃ x,xs[m]?.getD 0=x:=⟨_,rfl⟩
   have hpe:=HP.out (by omega)
   have cx:w.cell? ⟨b,o+m,none⟩=some (.int .i64 (x:Int)):=by rw [hx m (by omega),hxm]
   have HX:=hid hxm
   clear hxm hx h0
   by_cases hx0:x=0
   ·subst hx0
    go_wp2
    go_round
    case rel =>
     refine ⟨m,by simp [hpe],by omega,fun j hj=>?_⟩
     rcases Nat.lt_or_ge j (m+1) with h1 | h1
     ·rw [show j=m by omega];exact HX.out
     ·exact HZ.out j h1
    case measure=>simp [lenOf]
   ·have ht:((x:Int) == 0)=false:=by rw [beq_eq_false_iff_ne];omega
    go_wp2
    go_ret
    exact ⟨m+1,by simp,⟨hn,HZ.out,.inr (by rw [Nat.add_sub_cancel,HX.out];exact hx0)⟩,rfl⟩
end Z4
section
open Go.RowKit Go.Sort
def isU:Value→Bool
 | .int .u64 _=>true
 | _=>false
def isI:Value→Bool
 | .int .i64 _=>true
 | _=>false
def okVs:List Value→Bool
 | []=>true
 | [a]=>!isI a
 | a :: b :: r=>!(isU a && isU b) && !isI a && okVs (b :: r)
theorem okVs_tail {a:Value} {r:List Value} (h:okVs (a :: r)=true):okVs r=true:=by
 cases r with
 | nil=>rfl
 | cons b r=>simp only [okVs,Bool.and_eq_true] at h;exact h.2
theorem okVs_i:∀ {vs:List Value} {i:Nat} {x:Int},okVs vs=true→vs[i]? = some (.int .i64 x)→False
 | [],i,x,_,h=>by simp at h
 | a :: r,0,x,hk,h=>by
  simp only [List.getElem?_cons_zero,Option.some.injEq] at h
  subst h
  cases r <;> simp [okVs,isI] at hk
 | a :: r,i+1,x,hk,h=>okVs_i (okVs_tail hk) (by simpa using h)
theorem okVs_u:∀ {vs:List Value} {i:Nat} {x y:Int},okVs vs=true→vs[i]? = some (.int .u64 x)→vs[i+1]? = some (.int .u64 y)→False
 | [],i,x,y,_,h,_=>by simp at h
 | [a],0,x,y,hk,h,h2=>by simp at h2
 | a :: b :: r,0,x,y,hk,h,h2=>by
  simp only [List.getElem?_cons_zero,Option.some.injEq] at h
  simp only [Nat.zero_add,List.getElem?_cons_succ,List.getElem?_cons_zero,Option.some.injEq] at h2
  subst h h2
  simp [okVs,isU] at hk
 | a :: r,i+1,x,y,hk,h,h2=>okVs_u (okVs_tail hk) (by simpa using h) (by simpa using h2)
abbrev c5 (t:Bool) (x:Int) (p:Option Addr) (l q:Nat) (y:Int) (p':Option Addr) (l' q':Nat):List Value:=[.bool t,.int .u64 x,.slice p l q,.int .u64 y,.slice p' l' q']
abbrev z5:List Value:=[.bool false,.int .u64 0,.slice none 0 0,.int .u64 0,.slice none 0 0]
def Bx (W:World) (b:Nat) (T:TypeId) (vs:List Value):Prop:=W.heap[b]? = some (.cells vs.toArray T (0,0))
theorem Bx.lt {W:World} {b:Nat} {T:TypeId} {vs:List Value} (h:Bx W b T vs):b<W.heap.size:=by
 rcases Nat.lt_or_ge b W.heap.size with hlt | hge
 ·exact hlt
 ·unfold Bx at h;rw [Array.getElem?_eq_none hge] at h;cases h
theorem Bx.cell {W:World} {b:Nat} {T:TypeId} {vs:List Value} (h:Bx W b T vs) (i:Nat):W.cell? ⟨b,i,none⟩=vs[i]?:=by
 unfold Bx at h
 simp [World.cell?,h]
theorem Bx.frozen {W:World} {b:Nat} {T:TypeId} {vs:List Value} (h:Bx W b T vs) (i:Nat):W.frozen? ⟨b,i,none⟩=false:=by
 unfold Bx at h
 simp [World.frozen?,h]
theorem Bx.below {W W':World} {b:Nat} {T:TypeId} {vs:List Value} (h:Bx W b T vs) (hb:Below W.heap.size W W'):Bx W' b T vs:=(hb.block b h.lt).trans h
theorem Bx.new (W:World) (T:TypeId) (vs:List Value):Bx (W.alloc (.cells vs.toArray T)) W.heap.size T vs:=heap_alloc_new W _
theorem Bx.set {W:World} {b:Nat} {T:TypeId} {vs:List Value} (h:Bx W b T vs) (i:Nat) (u:Value):Bx (W.setCell ⟨b,i,none⟩ u) b T (vs.set i u):=by
 unfold Bx at h ⊢
 simp [World.setCell,Array.getElem?_modify,h]
theorem Bx.far {W:World} {b:Nat} {T:TypeId} {vs:List Value} (h:Bx W b T vs) {a:Addr} (ha:b≠a.block) (u:Value):Bx (W.setCell a u) b T vs:=(Below.heap_setCell W a u b ha).trans h
theorem IsMag.setBox {W:World} {c d:Value} {n b i:Nat} {T:TypeId} {vs:List Value} {u:Value} (h:IsMag W c d n) (hb:Bx W b T vs) (ok:okVs vs=true):IsMag (W.setCell ⟨b,i,none⟩ u) c d n:=by
 rcases h with h | ⟨b1,o,k,xs,k1,k2,k3,k4,k5,k6,k7,k8,k9⟩
 ·exact .inl h
 ·have hne:b1≠b:=fun e=>by
   subst e
   have h0:=k9 0 (by omega)
   have h1:=k9 1 (by omega)
   rw [Nat.add_zero,hb.cell] at h0
   rw [hb.cell] at h1
   exact okVs_u ok h0 h1
  refine .inr ⟨b1,o,k,xs,k1,k2,by simpa using k3,k4,k5,k6,k7,k8,fun j hj=>?_⟩
  rw [World.cell?_setCell_other _ _ _ _ (fun e=>hne (by have:=congrArg Addr.block e;simpa using this.symm))]
  exact k9 j hj
theorem IsQ.setBox {W:World} {v:Value} {r:Rat} {b i:Nat} {T:TypeId} {vs:List Value} {u:Value} (h:IsQ W v r) (hb:Bx W b T vs) (ok:okVs vs=true):IsQ (W.setCell ⟨b,i,none⟩ u) v r:=by
 obtain ⟨c,d,e,f,rfl,h1,h2⟩:=h
 exact ⟨c,d,e,f,rfl,h1.setBox hb ok,h2.setBox hb ok⟩
namespace Z4
theorem IsL.setBox {W:World} {B:Nat} {v:Value} {xs:List Nat} {b i:Nat} {T:TypeId} {vs:List Value} {u:Value} (h:IsL B W v xs) (hb:Bx W b T vs) (ok:okVs vs=true):IsL B (W.setCell ⟨b,i,none⟩ u) v xs:=by
 rcases h with h | ⟨b1,o,k,rfl,k1,k2,k3,k4⟩
 ·exact .inl h
 ·refine .inr ⟨b1,o,k,rfl,k1,by simpa using k2,k3,fun j hj=>?_⟩
  have hne:b1≠b:=fun e=>by
   subst e
   have h0:=k4 j hj
   rw [hb.cell] at h0
   exact okVs_i ok h0
  rw [World.cell?_setCell_other _ _ _ _ (fun e=>hne (by have:=congrArg Addr.block e;simpa using this.symm))]
  exact k4 j hj
end Z4
end
namespace Rx
open Go.RowKit
variable {P:Program}
def lexB:Nat→List Oper→Bool
 | _,[]=>true
 | i,o :: r=>(o.after.toList.all fun e=>!Region.binds .any e || decide (e.on<i)) && lexB (i+1) r
theorem lexB_get:∀ {l:List Oper} {k i:Nat} {o:Oper},lexB k l=true→l[i]? = some o→∀ e∈o.after,Region.binds .any e=true→e.on<k+i
 | [],_,_,_,_,h=>by simp at h
 | x :: r,k,0,o,hb,h=>by
  simp only [List.getElem?_cons_zero,Option.some.injEq] at h
  subst h
  simp only [lexB,Bool.and_eq_true,List.all_eq_true,Bool.or_eq_true,decide_eq_true_eq] at hb
  intro e he hbi
  rcases hb.1 e (by simpa using he) with h2 | h2
  ·simp [hbi] at h2
  ·omega
 | x :: r,k,i+1,o,hb,h=>by
  simp only [lexB,Bool.and_eq_true] at hb
  intro e he hbi
  have:=lexB_get hb.2 (by simpa using h) e he hbi
  omega
def more (dn:Nat→Bool) (i:Nat):Nat→Bool:=fun k=>dn k || k == i
def Closed (l:List Oper) (dn:Nat→Bool):Prop:=∀ j oj,l[j]? = some oj→dn j=true→∀ e∈oj.after,Region.binds .any e=true→dn e.on=true
def Step (P:Program) (l:List Oper) (J:(Nat→Bool)→Act→World→Prop):Prop:=
 ∀ (dn:Nat→Bool) a W i o,l[i]? = some o→dn i=false→(∀ e∈o.after,Region.binds .any e=true→dn e.on=true)→Closed l dn→J dn a W →
  if Region.wanted o (yielded l.toArray a.tmps) then takes P o a W (fun v W'=>J (more dn i) (a.put o.dst v) W') else J (more dn i) (a.put o.dst undef) W
theorem wpOp_of_step {l:List Oper} {J:(Nat→Bool)→Act→World→Prop} {Q:Exit→Act→World→Prop} (hs:Step P l J) {dn:Nat→Bool} {a:Act} {W:World} {i:Nat} {o:Oper} (ho:l[i]? = some o) (hd:dn i=false)
  (hw:∀ e∈o.after,Region.binds .any e=true→dn e.on=true) (hc:Closed l dn) (hJ:J dn a W) {K:Act→World→Prop} (hK:∀ a' W',J (more dn i) a' W'→K a' W'):wpOp P l.toArray Q i K a W:=by
 have h:=hs dn a W i o ho hd hw hc hJ
 unfold wpOp
 rw [show l.toArray[i]? = some o by simpa using ho]
 simp only
 split
 ·rename_i hh
  rw [if_pos hh] at h
  exact .inl (wp_of_takes h fun v w' h'=>hK _ _ h')
 ·rename_i hh
  rw [if_neg hh] at h
  exact hK _ _ h
theorem Closed.more {l:List Oper} {dn:Nat→Bool} (h:Closed l dn) {i:Nat} {o:Oper} (ho:l[i]? = some o) (hw:∀ e∈o.after,Region.binds .any e=true→dn e.on=true):Closed l (more dn i):=by
 intro j oj hj hd e he hb
 unfold Rx.more at hd ⊢
 by_cases hji:j=i
 ·subst hji
  have:oj=o:=Option.some.inj (hj.symm.trans ho)
  subst this
  simp [hw e he hb]
 ·have:dn j=true:=by simpa [hji] using hd
  simp [h j oj hj this e he hb]
theorem any_of {l:List Oper} {J:(Nat→Bool)→Act→World→Prop} {Q:Exit→Act→World→Prop} (hl:lexB 0 l=true) (hs:Step P l J) (hE:∀ dn a W,(∀ k,k<l.length→dn k=true)→J dn a W→Q .normal a W) :
  ∀ (f:Nat) (listed:Array Bool) (dn:Nat→Bool) (a:Act) (W:World),listed.size=l.length→(∀ k,k<l.length→dn k=listed.getD k true)→Closed l dn→J dn a W→left listed l.length=f →
   wpAny P .any l.toArray Q f listed a W:=by
 intro f
 induction f with
 | zero =>
  intro listed dn a W hsz hdn hc hJ hleft
  have hall:=left_zero hleft
  refine ⟨?_,hE dn a W (fun k hk=>by rw [hdn k hk];exact hall k hk) hJ⟩
  apply List.eq_nil_iff_forall_not_mem.2
  intro i hi
  obtain ⟨h1,o,ho,_⟩:=mem_ready.1 hi
  have hlt:i<l.length:=by have:=(Array.getElem?_eq_some_iff.1 ho).1;simpa using this
  rw [hall i hlt] at h1
  cases h1
 | succ f ih =>
  intro listed dn a W hsz hdn hc hJ hleft
  obtain ⟨i0,hi0,hu0,hm0⟩:=left_pos (listed:=listed) (n:=l.length) (by omega)
  have hready0:i0∈Region.ready .any l.toArray listed:=by
   have ho:l[i0]? = some l[i0]:=List.getElem?_eq_getElem hi0
   refine mem_ready.2 ⟨hu0,l[i0],by simp [hi0],fun e he hb=>?_⟩
   have hlx:=lexB_get hl ho e he hb
   have h1:=hm0 e.on (by omega)
   have hlt:e.on<listed.size:=by omega
   simpa [hlt] using h1
  refine ⟨fun h0=>(by rw [h0] at hready0;cases hready0),fun i hi=>?_⟩
  obtain ⟨hun,o,ho,hdone⟩:=mem_ready.1 hi
  have ho':l[i]? = some o:=by simpa using ho
  have hlt:i<l.length:=(List.getElem?_eq_some_iff.1 ho').1
  have hisz:i<listed.size:=by omega
  have hw:∀ e∈o.after,Region.binds .any e=true→dn e.on=true:=fun e he hb=>by
   have h1:=hdone e he hb
   have hlx:=lexB_get hl ho' e he hb
   have hk:e.on<l.length:=by omega
   have hk2:e.on<listed.size:=by omega
   rw [hdn e.on hk]
   simpa [hk2] using h1
  refine wpOp_of_step hs ho' (by rw [hdn i hlt];exact hun) hw hc hJ fun a' W' hJ'=>?_
  refine ih _ (more dn i) a' W' (by simp [hsz]) (fun k hk=>?_) (hc.more ho' hw) hJ' (by have:=left_set hisz hun hlt;omega)
  unfold more
  by_cases e:k=i
  ·subst e;simp [hisz]
  ·rw [getD_set_ne true (Ne.symm e),hdn k hk,beq_false_of_ne e,Bool.or_false]
theorem seq_of {l:List Oper} {J:(Nat→Bool)→Act→World→Prop} {Q:Exit→Act→World→Prop} (hl:lexB 0 l=true) (hs:Step P l J) (hE:∀ dn a W,(∀ k,k<l.length→dn k=true)→J dn a W→Q .normal a W) :
  ∀ (n i:Nat) (dn:Nat→Bool) (a:Act) (W:World),i+n=l.length→(∀ k,dn k=decide (k<i))→Closed l dn→J dn a W→wpOps P l.toArray Q (List.range' i n) a W:=by
 intro n
 induction n with
 | zero =>
  intro i dn a W hi hdn _ hJ
  exact hE dn a W (fun k hk=>by rw [hdn];simp;omega) hJ
 | succ n ih =>
  intro i dn a W hi hdn hc hJ
  rw [List.range'_succ,wpOps_cons]
  have hlt:i<l.length:=by omega
  have ho:l[i]? = some l[i]:=by simp [hlt]
  have hw:∀ e∈l[i].after,Region.binds .any e=true→dn e.on=true:=fun e he hb=>by
   have:=lexB_get hl ho e he hb
   rw [hdn];simp;omega
  refine wpOp_of_step hs ho (by rw [hdn];simp) hw hc hJ fun a' W' hJ'=>?_
  refine ih (i+1) (more dn i) a' W' (by omega) (fun k=>?_) (hc.more ho hw) hJ'
  unfold more
  rw [hdn,Bool.eq_iff_iff]
  simp
  omega
theorem region_of {id:Nat} {b:Bool} {l:List Oper} {a0:Act} {w:World} {J:(Nat→Bool)→Act→World→Prop} {Q:Exit→Act→World→Prop} (hm:P.follows .mixedOrders=true) (hl:lexB 0 l=true) (hs:Step P l J)
  (h0:J (fun _=>false) a0 w) (h1:J (fun _=>false) a0 w.drew) (hE:∀ dn a W,(∀ k,k<l.length→dn k=true)→J dn a W→Q .normal a W):(Code.region id l.toArray b).wp P Q a0 w:=by
 have hc:Closed l (fun _=>false):=fun _ _ _ h=>by cases h
 cases b with
 | false =>
  refine wp_region ?_
  rw [List.range_eq_range']
  exact seq_of hl hs hE _ 0 _ a0 w (by simp) (fun k=>by simp) hc h0
 | true =>
  refine wp_region_any hm ?_
  refine any_of hl hs hE _ _ (fun _=>false) a0 w.drew (by simp) (fun k hk=>?_) hc h1 ?_
  ·exact (getD_in (by simpa using hk) (getD_replicate_false _ _)).symm
  ·have:=left_all l.length 0 l.length (Nat.le_refl _)
   simpa using this
end Rx
end Go.Proofs.YtmijlcldmefggaaGreatDoor
