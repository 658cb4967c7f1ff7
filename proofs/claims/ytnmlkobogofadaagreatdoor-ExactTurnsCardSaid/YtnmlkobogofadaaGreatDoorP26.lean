/- What the proof rests on, part 26: Slots of a region's own that are filled within it. Numbers: the quotient of two integers. The greatest integer that is at most a number. -/
import Derived.Test.YtnmlkobogofadaaGreatDoorP20
import Derived.Test.YtnmlkobogofadaaGreatDoorP25
import Derived.Test.YtnmlkobogofadaaGreatDoorP06
import Derived.Test.YtnmlkobogofadaaGreatDoorP21
namespace Go.Proofs.YtnmlkobogofadaaGreatDoor
open Go.RowKit
theorem one_keep {f:Value→World→Prop} {W W':World} (h:∀ v,f v W→f v W'):∀ vs,one f vs W→one f vs W'
 | [v],hf=>h v hf
 | [],hf=>hf
 | _ :: _ :: _,hf=>hf
def two (f:Value→Value→World→Prop):List Value→World→Prop
 | [a,b],W=>f a b W
 | _,_=>False
theorem two_below {f:Value→Value→World→Prop} (h:∀ a b W W',Below W.heap.size W W'→f a b W→f a b W'):∀ vs W W',Below W.heap.size W W'→two f vs W→two f vs W'
 | [a,b],W,W',hb,hf=>h a b W W' hb hf
 | [],_,_,_,hf=>hf
 | [_],_,_,_,hf=>hf
 | _ :: _ :: _ :: _,_,_,_,hf=>hf
def keepL (W W':World) (i:Nat):Nat→List (List Value→World→Prop)→Prop
 | _,[]=>True
 | k,g :: r=>(k=i∨∀ vs,g vs W→g vs W')∧keepL W W' i (k+1) r
theorem keepL_get {W W':World} {i:Nat}:∀ {gs:List (List Value→World→Prop)} (k j:Nat) {g:List Value→World→Prop},keepL W W' i k gs→gs[j]? = some g→k+j≠i→∀ vs,g vs W→g vs W'
 | [],_,_,_,_,h,_=>by simp at h
 | x :: r,k,0,g,h,hg,hne=>by
  simp only [List.getElem?_cons_zero,Option.some.injEq] at hg
  subst hg
  exact h.1.resolve_left hne
 | x :: r,k,j+1,g,h,hg,hne=>keepL_get (k+1) j h.2 (by simpa using hg) (by omega)
theorem kept_of {sp:List Spec} {gs:List (List Value→World→Prop)} {u:Nat→Value} {i:Nat} {W W':World} (h:keepL W W' i 0 gs):Kp.Kept sp gs u i W W':=
 .inr fun k hk hf=>by
  unfold factOf at hf ⊢
  cases hs:sp[k]? with
  | none=>trivial
  | some s =>
   cases hg:gs[k]? with
   | none=>trivial
   | some g =>
    rw [hs,hg] at hf
    exact keepL_get 0 k h hg (by omega) _ hf
def M2V (n m:Nat) (v:Value) (W:World):Prop:=∃ x p l q x' p' l' q',v=.tuple #[.agg #[.int .u64 x,.slice p l q],.agg #[.int .u64 x',.slice p' l' q']]∧IsMag W (.int .u64 x) (.slice p l q) n∧IsMag W (.int .u64 x') (.slice p' l' q') m
theorem m2V_below {n m:Nat}:∀ v W W',Below W.heap.size W W'→M2V n m v W→M2V n m v W':=fun _ _ _ hb ⟨x,p,l,q,x',p',l',q',e,h,h'⟩=>⟨x,p,l,q,x',p',l',q',e,h.below hb,h'.below hb⟩
theorem M2V.elim {G:Prop} {n m:Nat} {v:Value} {W:World} (h:M2V n m v W) (k:∀ x p l q x' p' l' q',v=.tuple #[.agg #[.int .u64 x,.slice p l q],.agg #[.int .u64 x',.slice p' l' q']]→IsMag W (.int .u64 x) (.slice p l q) n→IsMag W (.int .u64 x') (.slice p' l' q') m→G):G:=by
 obtain ⟨x,p,l,q,x',p',l',q',e,h1,h2⟩:=h
 exact k _ _ _ _ _ _ _ _ e h1 h2
theorem MagV.elim {G:Prop} {n:Nat} {v:Value} {W:World} (h:MagV n v W) (k:∀ x p l q,v=.agg #[.int .u64 x,.slice p l q]→IsMag W (.int .u64 x) (.slice p l q) n→G):G:=by
 obtain ⟨x,p,l,q,e,h1⟩:=h
 exact k _ _ _ _ e h1
abbrev setM (W:World) (L:Nat) (x:Int) (p:Option Addr) (l q:Nat):World:=(W.setCell ⟨L,0,none⟩ (.int .u64 x)).setCell ⟨L,1,none⟩ (.slice p l q)
def NewM (B:Nat) (T:TypeId) (v:Value) (W:World):Prop:=∃ L x p l q,v=.pointer (some ⟨L,0,none⟩)∧B≤L∧L<W.heap.size∧Bx W L T [.int .u64 x,.slice p l q]
theorem newM_below {B:Nat} {T:TypeId}:∀ v W W',Below W.heap.size W W'→NewM B T v W→NewM B T v W':=
 fun _ _ _ hb ⟨L,x,p,l,q,e,h1,h2,h3⟩=>⟨L,x,p,l,q,e,h1,Nat.lt_of_lt_of_le h2 hb.size,h3.below hb⟩
theorem NewM.elim {G:Prop} {B:Nat} {T:TypeId} {v:Value} {W:World} (h:NewM B T v W) (k:∀ L x p l q,v=.pointer (some ⟨L,0,none⟩)→B≤L→L<W.heap.size→Bx W L T [.int .u64 x,.slice p l q]→G):G:=by
 obtain ⟨L,x,p,l,q,e,h1,h2,h3⟩:=h
 exact k _ _ _ _ _ e h1 h2 h3
def FulM (T:TypeId) (a b:Value) (W:World):Prop:=∃ L x p l q,a=.pointer (some ⟨L,0,none⟩)∧b=.agg #[.int .u64 x,.slice p l q]∧Bx W L T [.int .u64 x,.slice p l q]
theorem fulM_below {T:TypeId}:∀ a b W W',Below W.heap.size W W'→FulM T a b W→FulM T a b W':=
 fun _ _ _ _ hb ⟨L,x,p,l,q,e,e',h⟩=>⟨L,x,p,l,q,e,e',h.below hb⟩
theorem FulM.all {B:Nat} {T T':TypeId} {a b:Value} {n:Nat} {W:World} (h9:NewM B T a W) (h:FulM T' a b W) (hm:MagV n b W):∃ L x p l q,a=.pointer (some ⟨L,0,none⟩)∧b=.agg #[.int .u64 x,.slice p l q]∧B≤L∧Bx W L T' [.int .u64 x,.slice p l q]∧IsMag W (.int .u64 x) (.slice p l q) n:=by
 obtain ⟨L,x,p,l,q,rfl,h1,-,-⟩:=h9
 obtain ⟨L',x',p',l',q',e,rfl,h2⟩:=h
 cases e
 obtain ⟨x1,p1,l1,q1,e1,h3⟩:=hm
 cases e1
 exact ⟨L,x',p',l',q',rfl,rfl,h1,h2,h3⟩
section store
variable {W:World} {L:Nat} {T:TypeId} {x x':Int} {p p':Option Addr} {l q l' q':Nat}
theorem IsMag.setM (hb:Bx W L T [.int .u64 x,.slice p l q]) {c d:Value} {n:Nat} (h:IsMag W c d n):IsMag (setM W L x' p' l' q') c d n:=(h.setBox hb rfl).setBox (hb.set 0 _) rfl
theorem magV_setM (hb:Bx W L T [.int .u64 x,.slice p l q]) {n:Nat}:∀ v,MagV n v W→MagV n v (setM W L x' p' l' q'):=fun _ ⟨x1,p1,l1,k1,e,h⟩=>⟨x1,p1,l1,k1,e,h.setM hb⟩
theorem m2V_setM (hb:Bx W L T [.int .u64 x,.slice p l q]) {n m:Nat}:∀ v,M2V n m v W→M2V n m v (setM W L x' p' l' q'):=fun _ ⟨x1,p1,l1,k1,x2,p2,l2,k2,e,h,h'⟩=>⟨x1,p1,l1,k1,x2,p2,l2,k2,e,h.setM hb,h'.setM hb⟩
theorem Bx.setM (hb:Bx W L T [.int .u64 x,.slice p l q]):Bx (setM W L x' p' l' q') L T [.int .u64 x',.slice p' l' q']:=(hb.set 0 _).set 1 _
theorem newM_setM (hb:Bx W L T [.int .u64 x,.slice p l q]) {B:Nat} {T':TypeId}:∀ v,NewM B T' v W→NewM B T' v (setM W L x' p' l' q'):=fun _ ⟨L1,x1,p1,l1,k1,e,h1,h2,h3⟩=>by
 by_cases hl:L1=L
 ·subst hl
  have hT:T' = T:=by
   have h4:=hb
   unfold Bx at h3 h4
   rw [h3] at h4
   injection h4 with h5
   injection h5 with _ h6
  subst hT
  exact ⟨L1,x',p',l',q',e,h1,by simpa using h2,hb.setM⟩
 ·exact ⟨L1,x1,p1,l1,k1,e,h1,by simpa using h2,(h3.far hl _).far hl _⟩
end store
end Go.Proofs.YtnmlkobogofadaaGreatDoor
namespace Go.Proofs.YtnmlkobogofadaaGreatDoor
set_option maxRecDepth 100000
set_option maxHeartbeats 80000000
open Go.RowKit Go.Sort
theorem isMag_nat (n:Nat) (h:n<B64) (W:World):IsMag W (.int .u64 (n:Int)) (.slice none 0 0) n:=.inl ⟨h,rfl,rfl⟩
theorem of_main (n d:Int) (h1:-9223372036854775808≤n) (h2:n<9223372036854775808) (h3:-9223372036854775808≤d) (h4:d<9223372036854775808) (d0:d≠0) (hn:n≠0) (w:World) (hT:Tab w) :
  Calls Tryz.prog 21 #[.int .i64 n,.int .i64 d] w (RetQE w (mkRat (zs (decide (n<0) != decide (d<0)) n.natAbs) d.natAbs) 0):=by
 have HIn:=hid (integer_calls n h1 h2)
 have HId:=hid (integer_calls d h3 h4)
 obtain ⟨sa,hsa⟩:∃ s,decide (n<0)=s:=⟨_,rfl⟩
 obtain ⟨sb,hsb⟩:∃ s,decide (d<0)=s:=⟨_,rfl⟩
 obtain ⟨na,hna⟩:∃ s,n.natAbs=s:=⟨_,rfl⟩
 obtain ⟨da,hda⟩:∃ s,d.natAbs=s:=⟨_,rfl⟩
 have ka:na<B64:=by unfold B64;omega
 have kb:da<B64:=by unfold B64;omega
 have kd:da≠0:=by omega
 have HR:=hid (fun (W:World) (hT:Tab W)=>reduced_calls (sa != sb) _ _ _ _ na da 1 W (isMag_nat na ka W) (isMag_nat da kb W) kd (by omega) (by rw [Nat.pow_one];exact ka) (by rw [Nat.pow_one];exact kb) hT)
 rw [hsa,hna] at HIn
 rw [hsb,hda] at HId
 rw [hsa,hsb,hna,hda]
 obtain ⟨R,hR⟩:∃ R,mkRat (zs (sa != sb) na) da=R:=⟨_,rfl⟩
 rw [hR] at HR ⊢
 have td:(d == 0)=false:=by rw [beq_eq_false_iff_ne];exact d0
 have tn:(n != 0)=true:=by rw [bne_iff_ne];exact hn
 have HT:=hid hT
 clear h1 h2 h3 h4 d0 hn hsa hsb hna hda ka kb kd hR hT
 go_enter Tryz.func21,Tryz.ntmps21
 go_wp2_with fail
 have hS0:=hid ((St.start w).alloc' (w.heap.size) (by simp) 31 z5)
 obtain ⟨W0,hW0⟩:=nameW hS0
 rw [hW0] at hS0 ⊢
 clear hW0
 refine (HIn.out _).mono ?_
 rintro e w1 ⟨rfl,hB⟩
 have hS1:=hid (hS0.out.call hB)
 clear hB
 clear hS0
 go_wp2_with fail
 refine (HId.out _).mono ?_
 rintro e w2 ⟨rfl,hB⟩
 have hS2:=hid (hS1.out.call hB)
 clear hB
 clear hS1
 obtain ⟨ne1l,ne1,ne1'⟩:=hS2.out.ne 0 w.heap.size 31 z5 rfl
 go_wp2_with fail
 have hA:=hid (((hS2.out).alloc' (w2.heap.size) (by simp) 29 [.bool (sa != sb),.int .u64 (na:Int),.slice none 0 0]).alloc' (w2.heap.size+1) (by simp) 29 [.bool sb,.int .u64 (da:Int),.slice none 0 0])
 refine (HR.out _ (HT.out.below hA.out.bel (Nat.le_refl _))).mono ?_
 rintro e w3 ⟨v,rfl,hv,hB⟩
 have hS3:=hid (hA.out.call hB)
 clear hB
 clear hA
 obtain ⟨t1,x1,p1,l1,q1,y1,r1,s1,u1,rfl⟩:=hv.open
 have hS4:=hid (hS3.out.fq hv)
 clear hS3 hv
 obtain ⟨⟨cR0,cR1,cR2,cR3,cR4⟩,fR0,fR1,fR2,fR3,fR4⟩:=hS4.out.f5 2 w.heap.size 31 (.bool false) (.int .u64 0) (.slice none 0 0) (.int .u64 0) (.slice none 0 0) rfl
 have hS5:=hid (((((((hS4.out).store (b:=⟨w.heap.size,31,z5⟩) 2 0 (.bool t1) rfl rfl).store (b:=⟨w.heap.size,31,[.bool t1,.int .u64 0,.slice none 0 0,.int .u64 0,.slice none 0 0]⟩) 2 1 (.int .u64 x1) rfl rfl).store (b:=⟨w.heap.size,31,[.bool t1,.int .u64 x1,.slice none 0 0,.int .u64 0,.slice none 0 0]⟩) 2 2 (.slice p1 l1 q1) rfl rfl).store (b:=⟨w.heap.size,31,[.bool t1,.int .u64 x1,.slice p1 l1 q1,.int .u64 0,.slice none 0 0]⟩) 2 3 (.int .u64 y1) rfl rfl).store (b:=⟨w.heap.size,31,[.bool t1,.int .u64 x1,.slice p1 l1 q1,.int .u64 y1,.slice none 0 0]⟩) 2 4 (.slice r1 s1 u1) rfl rfl).as [⟨w2.heap.size+1,29,[.bool sb,.int .u64 (da:Int),.slice none 0 0]⟩,⟨w2.heap.size,29,[.bool (sa != sb),.int .u64 (na:Int),.slice none 0 0]⟩,⟨w.heap.size,31,(c5 t1 x1 p1 l1 q1 y1 r1 s1 u1)⟩] rfl)
 go_wp2_with fail
 clear cR0 cR1 cR2 cR3 cR4 fR0 fR1 fR2 fR3 fR4
 obtain ⟨⟨zR0,zR1,zR2,zR3,zR4⟩,-⟩:=hS5.out.f5 2 w.heap.size 31 (.bool t1) (.int .u64 x1) (.slice p1 l1 q1) (.int .u64 y1) (.slice r1 s1 u1) rfl
 exact bodyPost_ret (v:=.tuple #[.agg #[.bool t1,.int .u64 x1,.slice p1 l1 q1,.int .u64 y1,.slice r1 s1 u1],.int .i64 0]) (by simp [results,Tryz.results21,go_sem,zR0,zR1,zR2,zR3,zR4]) rfl ⟨_,rfl,(hS5.out.gq 0 rfl),hS5.out.bel⟩
theorem of_zero (n d:Int) (h1:-9223372036854775808≤n) (h2:n<9223372036854775808) (h3:-9223372036854775808≤d) (h4:d<9223372036854775808) (d0:d≠0) (hn:n=0) (w:World) (hT:Tab w) :
  Calls Tryz.prog 21 #[.int .i64 n,.int .i64 d] w (RetQE w (mkRat (zs (false) n.natAbs) d.natAbs) 0):=by
 have HIn:=hid (integer_calls n h1 h2)
 have HId:=hid (integer_calls d h3 h4)
 obtain ⟨sa,hsa⟩:∃ s,decide (n<0)=s:=⟨_,rfl⟩
 obtain ⟨sb,hsb⟩:∃ s,decide (d<0)=s:=⟨_,rfl⟩
 obtain ⟨na,hna⟩:∃ s,n.natAbs=s:=⟨_,rfl⟩
 obtain ⟨da,hda⟩:∃ s,d.natAbs=s:=⟨_,rfl⟩
 have ka:na<B64:=by unfold B64;omega
 have kb:da<B64:=by unfold B64;omega
 have kd:da≠0:=by omega
 have HR:=hid (fun (W:World) (hT:Tab W)=>reduced_calls (false) _ _ _ _ na da 1 W (isMag_nat na ka W) (isMag_nat da kb W) kd (by omega) (by rw [Nat.pow_one];exact ka) (by rw [Nat.pow_one];exact kb) hT)
 rw [hsa,hna] at HIn
 rw [hsb,hda] at HId
 rw [hna,hda]
 obtain ⟨R,hR⟩:∃ R,mkRat (zs (false) na) da=R:=⟨_,rfl⟩
 rw [hR] at HR ⊢
 have td:(d == 0)=false:=by rw [beq_eq_false_iff_ne];exact d0
 have tn:(n != 0)=false:=by rw [bne_eq_false_iff_eq];exact hn
 have HT:=hid hT
 clear h1 h2 h3 h4 d0 hn hsa hsb hna hda ka kb kd hR hT
 go_enter Tryz.func21,Tryz.ntmps21
 go_wp2_with fail
 have hS0:=hid ((St.start w).alloc' (w.heap.size) (by simp) 31 z5)
 obtain ⟨W0,hW0⟩:=nameW hS0
 rw [hW0] at hS0 ⊢
 clear hW0
 refine (HIn.out _).mono ?_
 rintro e w1 ⟨rfl,hB⟩
 have hS1:=hid (hS0.out.call hB)
 clear hB
 clear hS0
 go_wp2_with fail
 refine (HId.out _).mono ?_
 rintro e w2 ⟨rfl,hB⟩
 have hS2:=hid (hS1.out.call hB)
 clear hB
 clear hS1
 obtain ⟨ne1l,ne1,ne1'⟩:=hS2.out.ne 0 w.heap.size 31 z5 rfl
 go_wp2_with fail
 have hA:=hid (((hS2.out).alloc' (w2.heap.size) (by simp) 29 [.bool (false),.int .u64 (na:Int),.slice none 0 0]).alloc' (w2.heap.size+1) (by simp) 29 [.bool sb,.int .u64 (da:Int),.slice none 0 0])
 refine (HR.out _ (HT.out.below hA.out.bel (Nat.le_refl _))).mono ?_
 rintro e w3 ⟨v,rfl,hv,hB⟩
 have hS3:=hid (hA.out.call hB)
 clear hB
 clear hA
 obtain ⟨t1,x1,p1,l1,q1,y1,r1,s1,u1,rfl⟩:=hv.open
 have hS4:=hid (hS3.out.fq hv)
 clear hS3 hv
 obtain ⟨⟨cR0,cR1,cR2,cR3,cR4⟩,fR0,fR1,fR2,fR3,fR4⟩:=hS4.out.f5 2 w.heap.size 31 (.bool false) (.int .u64 0) (.slice none 0 0) (.int .u64 0) (.slice none 0 0) rfl
 have hS5:=hid (((((((hS4.out).store (b:=⟨w.heap.size,31,z5⟩) 2 0 (.bool t1) rfl rfl).store (b:=⟨w.heap.size,31,[.bool t1,.int .u64 0,.slice none 0 0,.int .u64 0,.slice none 0 0]⟩) 2 1 (.int .u64 x1) rfl rfl).store (b:=⟨w.heap.size,31,[.bool t1,.int .u64 x1,.slice none 0 0,.int .u64 0,.slice none 0 0]⟩) 2 2 (.slice p1 l1 q1) rfl rfl).store (b:=⟨w.heap.size,31,[.bool t1,.int .u64 x1,.slice p1 l1 q1,.int .u64 0,.slice none 0 0]⟩) 2 3 (.int .u64 y1) rfl rfl).store (b:=⟨w.heap.size,31,[.bool t1,.int .u64 x1,.slice p1 l1 q1,.int .u64 y1,.slice none 0 0]⟩) 2 4 (.slice r1 s1 u1) rfl rfl).as [⟨w2.heap.size+1,29,[.bool sb,.int .u64 (da:Int),.slice none 0 0]⟩,⟨w2.heap.size,29,[.bool (false),.int .u64 (na:Int),.slice none 0 0]⟩,⟨w.heap.size,31,(c5 t1 x1 p1 l1 q1 y1 r1 s1 u1)⟩] rfl)
 go_wp2_with fail
 clear cR0 cR1 cR2 cR3 cR4 fR0 fR1 fR2 fR3 fR4
 obtain ⟨⟨zR0,zR1,zR2,zR3,zR4⟩,-⟩:=hS5.out.f5 2 w.heap.size 31 (.bool t1) (.int .u64 x1) (.slice p1 l1 q1) (.int .u64 y1) (.slice r1 s1 u1) rfl
 exact bodyPost_ret (v:=.tuple #[.agg #[.bool t1,.int .u64 x1,.slice p1 l1 q1,.int .u64 y1,.slice r1 s1 u1],.int .i64 0]) (by simp [results,Tryz.results21,go_sem,zR0,zR1,zR2,zR3,zR4]) rfl ⟨_,rfl,(hS5.out.gq 0 rfl),hS5.out.bel⟩
theorem Of_calls (n d:Int) (h1:-9223372036854775808≤n) (h2:n<9223372036854775808) (h3:-9223372036854775808≤d) (h4:d<9223372036854775808) (d0:d≠0) (w:World) (hT:Tab w) :
  Calls Tryz.prog 21 #[.int .i64 n,.int .i64 d] w (RetQE w ((n:Rat) / (d:Rat)) 0):=by
 by_cases hn:n=0
 ·have:=of_zero n d h1 h2 h3 h4 d0 hn w hT
  subst hn
  simp only [Int.natAbs_zero,zs_zero] at this
  rw [show (((0:Int):Rat) / (d:Rat))=mkRat 0 d.natAbs by rw [Rat.zero_mkRat];simp [Rat.div_def]]
  exact this
 ·have:=of_main n d h1 h2 h3 h4 d0 hn w hT
  rw [show ((n:Rat) / (d:Rat))=mkRat (zs (decide (n<0) != decide (d<0)) n.natAbs) d.natAbs from ?_]
  ·exact this
  ·rw [← Rat.divInt_eq_div,← Rat.divInt_ofNat,Rat.divInt_eq_divInt_iff d0 (by omega)]
   unfold zs
   rcases Int.lt_or_le n 0 with hn0 | hn0 <;> rcases Int.lt_or_le d 0 with hd0 | hd0
   ·rw [decide_eq_true hn0,decide_eq_true hd0];simp only [bne_self_eq_false,Bool.false_eq_true,if_false];rw [show ((d.natAbs:Nat):Int) = -d by omega,show ((n.natAbs:Nat):Int) = -n by omega];grind
   ·rw [decide_eq_true hn0,decide_eq_false (by omega)];simp only [Bool.bne_false,if_true];rw [show ((d.natAbs:Nat):Int)=d by omega,show ((n.natAbs:Nat):Int) = -n by omega];grind
   ·rw [decide_eq_false (by omega),decide_eq_true hd0];simp only [Bool.false_bne,if_true];rw [show ((d.natAbs:Nat):Int) = -d by omega,show ((n.natAbs:Nat):Int)=n by omega];grind
   ·rw [decide_eq_false (by omega),decide_eq_false (by omega)];simp only [bne_self_eq_false,Bool.false_eq_true,if_false];rw [show ((d.natAbs:Nat):Int)=d by omega,show ((n.natAbs:Nat):Int)=n by omega]
end Go.Proofs.YtnmlkobogofadaaGreatDoor
namespace Go.Proofs.YtnmlkobogofadaaGreatDoor
set_option maxRecDepth 100000
set_option maxHeartbeats 80000000
open Go.RowKit Go.Sort
attribute [local go_sem] takes takesUpon_value takesUpon_skip takesUpon_enter
theorem floor_any (t1:Bool) (x1 y1:Int) (p1 r1:Option Addr) (l1 q1 s1 u1 n m k:Nat) (w:World) (i1:IsMag w (.int .u64 x1) (.slice p1 l1 q1) n) (j1:IsMag w (.int .u64 y1) (.slice r1 s1 u1) m) (hk:k≤17179869184) (kn:n<B64 ^ k) (F:Int) (hn0:t1=true→n≠0) (hF0:zs t1 (if t1 && !(n % undN m == 0) then n / undN m+1 else n / undN m)=F) :
  Calls Tryz.prog 49 #[.agg #[.bool t1,.int .u64 x1,.slice p1 l1 q1,.int .u64 y1,.slice r1 s1 u1]] w (RetQ w (F:Rat)):=by
 have hM0:0<undN m:=by unfold undN;split <;> omega
 have HU:=hid (fun (W:World) (h:IsMag W (.int .u64 y1) (.slice r1 s1 u1) m)=>under_calls (.bool t1) (.int .u64 x1) (.slice p1 l1 q1) _ _ m W h)
 obtain ⟨M,hM⟩:∃ M,undN m=M:=⟨_,rfl⟩
 rw [hM] at HU hM0 hF0
 have HD:=hid (fun (W:World) (c d e f:Value) (h1:IsMag W c d n) (h2:IsMag W e f M)=>mdiv_calls n M k c d e f W h1 h2 hM0 (by omega) kn)
 obtain ⟨A,hA⟩:∃ A,n / M=A:=⟨_,rfl⟩
 obtain ⟨R,hR⟩:∃ R,n % M=R:=⟨_,rfl⟩
 rw [hA,hR] at HD hF0
 have hAR:A=0→R=0→n=0:=fun ha hr=>by rw [← Nat.div_add_mod n M,hA,hR,hr,ha];simp
 have HAR:=hid (fun ht ha hr=>hn0 ht (hAR ha hr))
 have HKA:=hid (show A<B64 ^ (k+1) from Nat.lt_of_le_of_lt (hA ▸ Nat.div_le_self _ _) (Nat.lt_of_lt_of_le kn (Nat.pow_le_pow_right (by decide) (by omega))))
 have HK1:=hid (show 1<B64 ^ (k+1) from Nat.one_lt_pow (by omega) (by decide))
 have HF0:=hid hF0
 have HI:=hid (And.intro i1 j1)
 clear i1 j1 hM0 hM hA hR kn hAR hn0 hF0
 go_enter Tryz.func49,Tryz.ntmps49
 go_wp2_with fail
 have hS0:=hid (((St.start w).alloc' (w.heap.size) (by simp) 31 (c5 t1 x1 p1 l1 q1 y1 r1 s1 u1)).alloc' (w.heap.size+1) (by simp) 31 z5)
 obtain ⟨W0,hW0⟩:=nameW hS0
 rw [hW0] at hS0 ⊢
 clear hW0
 have hi1:=HI.out.1.below hS0.out.bel
 have hj1:=HI.out.2.below hS0.out.bel
 have hS1:=hid (hS0.out.fact (.m (.int .u64 x1) (.slice p1 l1 q1) n) hi1)
 clear hS0 hi1
 have hS2:=hid (hS1.out.fact (.m (.int .u64 y1) (.slice r1 s1 u1) m) hj1)
 clear hS1 hj1
 have LM0:=hid (fun (W:World) (h:Below W0.heap.size W0 W)=>((hS2.out.call h).f5 1 w.heap.size 31 (.bool t1) (.int .u64 x1) (.slice p1 l1 q1) (.int .u64 y1) (.slice r1 s1 u1) rfl).1)
 refine Kp.wp_region_keep 12 [⟨[],[0]⟩,⟨[0],[1]⟩,⟨[1],[2]⟩,⟨[],[3]⟩,⟨[3],[4]⟩,⟨[2,4],[5]⟩,⟨[5],[6]⟩,⟨[6],[7]⟩,⟨[6],[8]⟩,⟨[],[9]⟩,⟨[],[10]⟩,⟨[9,7],[9,7]⟩]
  [oE (.pointer (some ⟨w.heap.size,0,none⟩)),oE (.pointer (some ⟨w.heap.size,1,none⟩)),oE (.agg #[.int .u64 x1,.slice p1 l1 q1]),oE (.agg #[.bool t1,.int .u64 x1,.slice p1 l1 q1,.int .u64 y1,.slice r1 s1 u1]),one (MagV (M)),one (M2V (A) (R)),one (M2V A R),one (MagV A),one (MagV R),one (NewM W0.heap.size 27),one (NewM W0.heap.size 27),two (FulM 27)]
  (fun u W=>Below W0.heap.size W0 W∧(∀ L,u 9=.pointer (some ⟨L,0,none⟩)→L<W.heap.size)∧(∀ L,u 10=.pointer (some ⟨L,0,none⟩)→L<W.heap.size)∧(∀ L L',u 9=.pointer (some ⟨L,0,none⟩)→u 10=.pointer (some ⟨L',0,none⟩)→L≠L')) (by kernel_rfl) (by kernel_rfl) ?hTW1 ?hZW1 ?hOW1 ?hEW1
 case hZW1=>exact ⟨(Below.refl _ _).drew,fun L e=>(by cases e),fun L e=>(by cases e),fun L L' e=>(by cases e)⟩
 case hTW1 =>
  simp only [List.forall_mem_cons,List.not_mem_nil,false_imp_iff,implies_true,and_true]
  exact ⟨bE,bE,bE,bE,one_below magV_below,one_below m2V_below,one_below m2V_below,one_below magV_below,one_below magV_below,one_below newM_below,one_below newM_below,two_below fulM_below⟩
 case hOW1 =>
  intro u
  simp only [List.take_succ_cons,List.take_zero,putAll]
  repeat' (first | with_reducible exact Kp.debts_nil | with_reducible refine Kp.debts_cons ?_ ?_)
  ·intro W hS hF K hK
   go_simp
   exact hK _ _ (.inl (Below.refl _ _)) hS rfl
  ·intro W hS hF K hK
   have h0:u 0=.pointer (some ⟨w.heap.size,0,none⟩):=hF.1
   clear hF
   go_simp
   exact hK _ _ (.inl (Below.refl _ _)) hS rfl
  ·intro W hS hF K hK
   have h1:u 1=.pointer (some ⟨w.heap.size,1,none⟩):=hF.1
   have hcA:=LM0.out W hS.1
   clear hF
   go_simp
   exact hK _ _ (.inl (Below.refl _ _)) hS rfl
  ·intro W hS hF K hK
   have hcA:=LM0.out W hS.1
   go_simp
   exact hK _ _ (.inl (Below.refl _ _)) hS rfl
  ·intro W hS hF K hK
   have h3:u 3=.agg #[.bool t1,.int .u64 x1,.slice p1 l1 q1,.int .u64 y1,.slice r1 s1 u1]:=hF.1
   have sH:=hid (hS2.out.call hS.1)
   clear hF
   go_simp
   refine (HU.out _ (sH.out.get (f:=.m (.int .u64 y1) (.slice r1 s1 u1) m) 0 rfl)).mono ?_
   rintro e wA ⟨c,d,rfl,hm,hBA⟩
   obtain ⟨xx,pp,ll,qq,rfl,rfl⟩:=hm.shape
   exact ⟨_,rfl,hK _ _ (.inl hBA) ⟨hS.1.trans (hBA.mono hS.1.size),fun L e=>Nat.lt_of_lt_of_le (hS.2.1 L e) hBA.size,fun L e=>Nat.lt_of_lt_of_le (hS.2.2.1 L e) hBA.size,hS.2.2.2⟩ ⟨_,_,_,_,rfl,hm⟩⟩
  ·intro W hS hF K hK
   have h2:u 2=.agg #[.int .u64 x1,.slice p1 l1 q1]:=hF.1
   obtain ⟨x4,p4,l4,q4,h4,m4⟩:MagV (M) (u 4) W:=hF.2.1
   have sH:=hid (hS2.out.call hS.1)
   clear hF
   go_simp
   refine (HD.out _ _ _ _ _ (sH.out.get (f:=.m (.int .u64 x1) (.slice p1 l1 q1) n) 1 rfl) m4).mono ?_
   rintro e wA ⟨c,d,c',d',rfl,hm,hm',hBA⟩
   obtain ⟨xx,pp,ll,qq,rfl,rfl⟩:=hm.shape
   obtain ⟨xx',pp',ll',qq',rfl,rfl⟩:=hm'.shape
   exact ⟨_,rfl,hK _ _ (.inl hBA) ⟨hS.1.trans (hBA.mono hS.1.size),fun L e=>Nat.lt_of_lt_of_le (hS.2.1 L e) hBA.size,fun L e=>Nat.lt_of_lt_of_le (hS.2.2.1 L e) hBA.size,hS.2.2.2⟩ ⟨_,_,_,_,_,_,_,_,rfl,hm,hm'⟩⟩
  ·intro W hS hF K hK
   have hk5:M2V (A) (R) (u 5) W:=hF.1;with_reducible refine M2V.elim hk5 ?_;intro x5 p5 l5 q5 x5' p5' l5' q5' h5 m5 m5'
   clear hF
   go_simp
   refine hK _ _ (.inl (Below.refl _ _)) hS ?_
   exact (show (M2V A R) _ W from ⟨_,_,_,_,_,_,_,_,rfl,m5,m5'⟩)
  ·intro W hS hF K hK
   have hk6:M2V (A) (R) (u 6) W:=hF.1;with_reducible refine M2V.elim hk6 ?_;intro x6 p6 l6 q6 x6' p6' l6' q6' h6 m6 m6'
   clear hF
   go_simp
   refine hK _ _ (.inl (Below.refl _ _)) hS ?_
   exact (show (MagV A) _ W from ⟨_,_,_,_,rfl,m6⟩)
  ·intro W hS hF K hK
   have hk6:M2V (A) (R) (u 6) W:=hF.1;with_reducible refine M2V.elim hk6 ?_;intro x6 p6 l6 q6 x6' p6' l6' q6' h6 m6 m6'
   clear hF
   go_simp
   refine hK _ _ (.inl (Below.refl _ _)) hS ?_
   exact (show (MagV R) _ W from ⟨_,_,_,_,rfl,m6'⟩)
  ·intro W hS hF K hK
   go_simp
   refine hK _ _ (.inl ((Below.refl _ _).alloc (Nat.le_refl _) _)) ⟨hS.1.alloc hS.1.size _,fun L e=>(by cases e;simp),fun L e=>(by have:=hS.2.2.1 L e;simp;omega),fun L L' e1 e2=>(by cases e1;have:=hS.2.2.1 L' e2;omega)⟩ ?_
   exact (show (NewM W0.heap.size 27) _ _ from ⟨_,_,_,_,_,rfl,hS.1.size,by simp,Bx.new W 27 [.int .u64 0,.slice none 0 0]⟩)
  ·intro W hS hF K hK
   go_simp
   refine hK _ _ (.inl ((Below.refl _ _).alloc (Nat.le_refl _) _)) ⟨hS.1.alloc hS.1.size _,fun L e=>(by have:=hS.2.1 L e;simp;omega),fun L e=>(by cases e;simp),fun L L' e1 e2=>(by cases e2;have:=hS.2.1 L e1;omega)⟩ ?_
   exact (show (NewM W0.heap.size 27) _ _ from ⟨_,_,_,_,_,rfl,hS.1.size,by simp,Bx.new W 27 [.int .u64 0,.slice none 0 0]⟩)
  ·intro W hS hF K hK
   have hk9:NewM W0.heap.size 27 (u 9) W:=hF.1;with_reducible refine NewM.elim hk9 ?_;intro L9 x9 p9 l9 q9 h9 hl9 hm9 hb9
   have hk7:MagV (A) (u 7) W:=hF.2.1;with_reducible refine MagV.elim hk7 ?_;intro x7 p7 l7 q7 h7 m7
   clear hF
   go_simp
   obtain ⟨⟨c90,c91⟩,f90,f91⟩:=hb9.f2
   go_simp
   exact hK _ _ (kept_of ⟨.inr (one_keep fun _ h=>h),.inr (one_keep fun _ h=>h),.inr (one_keep fun _ h=>h),.inr (one_keep fun _ h=>h),.inr (one_keep (magV_setM hb9)),.inr (one_keep (m2V_setM hb9)),.inr (one_keep (m2V_setM hb9)),.inr (one_keep (magV_setM hb9)),.inr (one_keep (magV_setM hb9)),.inr (one_keep (newM_setM hb9)),.inr (one_keep (newM_setM hb9)),.inl rfl,trivial⟩) ⟨(hS.1.setCell hl9 _).setCell hl9 _,fun L e=>(by simpa using hS.2.1 L e),fun L e=>(by simpa using hS.2.2.1 L e),hS.2.2.2⟩ ⟨_,_,_,_,_,h9,h7,hb9.setM⟩
 case hEW1 =>
  intro u W1 hS hF
  have hS3:=hid (hS2.out.call hS.1)
  have hk9:NewM W0.heap.size 27 (u 9) W1:=hF.2.2.2.2.2.2.2.2.2.1
  have hk10:NewM W0.heap.size 27 (u 10) W1:=hF.2.2.2.2.2.2.2.2.2.2.1
  have hk11:FulM 27 (u 9) (u 7) W1:=hF.2.2.2.2.2.2.2.2.2.2.2.1
  have hk7:MagV A (u 7) W1:=hF.2.2.2.2.2.2.2.1
  have hk8:MagV R (u 8) W1:=hF.2.2.2.2.2.2.2.2.1
  clear hF
  obtain ⟨L9,x7,p7,l7,q7,e9,e7,hl9,b9,m7⟩:=hk11.all hk9 hk7
  obtain ⟨L10,x10,p10,l10,q10,e10,hl10,hm10,b10⟩:=hk10
  obtain ⟨x8,p8,l8,q8,e8,m8⟩:=hk8
  have hne:=hS.2.2.2 L9 L10 e9 e10
  clear hS hk9 hk11 hk7
  have hS20:=hid (hS3.out.add (Nat.le_trans hS2.out.bel.size hl9) b9 (hS2.out.old hl9))
  have hS21:=hid (hS20.out.add (Nat.le_trans hS2.out.bel.size hl10) b10 (List.forall_mem_cons.2 ⟨Ne.symm hne,hS2.out.old hl10⟩))
  clear b9 b10 hS20
  have hS4:=hid (hS21.out.fact (.m (.int .u64 x7) (.slice p7 l7 q7) (A)) m7)
  clear hS21 m7
  have hS5:=hid (hS4.out.fact (.m (.int .u64 x8) (.slice p8 l8 q8) (R)) m8)
  clear hS4 m8
  have nL9A:¬ L9=w.heap.size:=by have:=(hS2.out.bx (b:=⟨w.heap.size,31,(c5 t1 x1 p1 l1 q1 y1 r1 s1 u1)⟩) 1 rfl).lt;simp only at this;omega
  have nL9A':¬ w.heap.size=L9:=fun h=>nL9A h.symm
  have nL9R:¬ L9=w.heap.size+1:=by have:=(hS2.out.bx (b:=⟨w.heap.size+1,31,z5⟩) 0 rfl).lt;simp only at this;omega
  have nL9R':¬ w.heap.size+1=L9:=fun h=>nL9R h.symm
  have nL10A:¬ L10=w.heap.size:=by have:=(hS2.out.bx (b:=⟨w.heap.size,31,(c5 t1 x1 p1 l1 q1 y1 r1 s1 u1)⟩) 1 rfl).lt;simp only at this;omega
  have nL10A':¬ w.heap.size=L10:=fun h=>nL10A h.symm
  have nL10R:¬ L10=w.heap.size+1:=by have:=(hS2.out.bx (b:=⟨w.heap.size+1,31,z5⟩) 0 rfl).lt;simp only at this;omega
  have nL10R':¬ w.heap.size+1=L10:=fun h=>nL10R h.symm
  have hne':=Ne.symm hne
  cases t1
  ·have hFA:F=(A:Int):=by have:=HF0.out;simp [zs] at this;exact this.symm
   obtain ⟨⟨cA0,cA1,cA2,cA3,cA4⟩,fA0,fA1,fA2,fA3,fA4⟩:=hS5.out.f5 3 w.heap.size 31 (.bool false) (.int .u64 x1) (.slice p1 l1 q1) (.int .u64 y1) (.slice r1 s1 u1) rfl
   obtain ⟨⟨cq0,cq1⟩,fq0,fq1⟩:=hS5.out.f2 1 L9 27 (.int .u64 x7) (.slice p7 l7 q7) rfl
   obtain ⟨⟨cr0,cr1⟩,fr0,fr1⟩:=hS5.out.f2 0 L10 27 (.int .u64 x10) (.slice p10 l10 q10) rfl
   simp only [List.take_succ_cons,List.take_zero,putAll,List.drop_succ_cons,List.drop_zero]
   go_wp2_with fail
   clear cA0 cA1 cA2 cA3 cA4 fA0 fA1 fA2 fA3 fA4 cq0 cq1 fq0 fq1 cr0 cr1 fr0 fr1
   have hS6:=hid ((((hS5.out).store (b:=⟨L10,27,[.int .u64 x10,.slice p10 l10 q10]⟩) 0 0 (.int .u64 x8) rfl rfl).store (b:=⟨L10,27,[.int .u64 x8,.slice p10 l10 q10]⟩) 0 1 (.slice p8 l8 q8) rfl rfl).as [⟨L10,27,[.int .u64 x8,.slice p8 l8 q8]⟩,⟨L9,27,[.int .u64 x7,.slice p7 l7 q7]⟩,⟨w.heap.size+1,31,z5⟩,⟨w.heap.size,31,(c5 false x1 p1 l1 q1 y1 r1 s1 u1)⟩] rfl)
   obtain ⟨W2,hW2⟩:=nameW hS6
   rw [hW2] at hS6 ⊢
   clear hW2
   refine (whole_calls _ _ _ _ _ _).mono ?_
   rintro e w3 ⟨rfl,hB⟩
   have hS7:=hid (hS6.out.call hB)
   clear hB
   clear hS6
   obtain ⟨⟨cR0,cR1,cR2,cR3,cR4⟩,fR0,fR1,fR2,fR3,fR4⟩:=hS7.out.f5 2 (w.heap.size+1) 31 (.bool false) (.int .u64 0) (.slice none 0 0) (.int .u64 0) (.slice none 0 0) rfl
   have hS8:=hid (((((((hS7.out).store (b:=⟨w.heap.size+1,31,z5⟩) 2 0 (.bool false) rfl rfl).store (b:=⟨w.heap.size+1,31,z5⟩) 2 1 (.int .u64 x7) rfl rfl).store (b:=⟨w.heap.size+1,31,[.bool false,.int .u64 x7,.slice none 0 0,.int .u64 0,.slice none 0 0]⟩) 2 2 (.slice p7 l7 q7) rfl rfl).store (b:=⟨w.heap.size+1,31,[.bool false,.int .u64 x7,.slice p7 l7 q7,.int .u64 0,.slice none 0 0]⟩) 2 3 (.int .u64 0) rfl rfl).store (b:=⟨w.heap.size+1,31,[.bool false,.int .u64 x7,.slice p7 l7 q7,.int .u64 0,.slice none 0 0]⟩) 2 4 (.slice none 0 0) rfl rfl).as [⟨L10,27,[.int .u64 x8,.slice p8 l8 q8]⟩,⟨L9,27,[.int .u64 x7,.slice p7 l7 q7]⟩,⟨w.heap.size+1,31,[.bool false,.int .u64 x7,.slice p7 l7 q7,.int .u64 0,.slice none 0 0]⟩,⟨w.heap.size,31,(c5 false x1 p1 l1 q1 y1 r1 s1 u1)⟩] rfl)
   go_wp2_with fail
   clear cR0 cR1 cR2 cR3 cR4 fR0 fR1 fR2 fR3 fR4
   obtain ⟨⟨zR0,zR1,zR2,zR3,zR4⟩,-⟩:=hS8.out.f5 2 (w.heap.size+1) 31 (.bool false) (.int .u64 x7) (.slice p7 l7 q7) (.int .u64 0) (.slice none 0 0) rfl
   have hq:=isQ_int F (w:=(((((w3.setCell ⟨w.heap.size+1,0,none⟩ (.bool false)).setCell ⟨w.heap.size+1,1,none⟩ (.int .u64 x7)).setCell ⟨w.heap.size+1,2,none⟩ (.slice p7 l7 q7)).setCell ⟨w.heap.size+1,3,none⟩ (.int .u64 0)).setCell ⟨w.heap.size+1,4,none⟩ (.slice none 0 0))) (c:=.int .u64 x7) (d:=.slice p7 l7 q7) (by rw [show F.natAbs=A from by omega];exact (hS8.out.get (f:=.m (.int .u64 x7) (.slice p7 l7 q7) (A)) 1 rfl))
   rw [show decide (F<0)=false from decide_eq_false (by omega)] at hq
   exact bodyPost_ret (v:=.agg #[.bool false,.int .u64 x7,.slice p7 l7 q7,.int .u64 0,.slice none 0 0]) (by simp [results,Tryz.results49,go_sem,zR0,zR1,zR2,zR3,zR4]) rfl ⟨_,rfl,hq,hS8.out.bel⟩
  ·obtain ⟨⟨cA0,cA1,cA2,cA3,cA4⟩,fA0,fA1,fA2,fA3,fA4⟩:=hS5.out.f5 3 w.heap.size 31 (.bool true) (.int .u64 x1) (.slice p1 l1 q1) (.int .u64 y1) (.slice r1 s1 u1) rfl
   obtain ⟨⟨cq0,cq1⟩,fq0,fq1⟩:=hS5.out.f2 1 L9 27 (.int .u64 x7) (.slice p7 l7 q7) rfl
   obtain ⟨⟨cr0,cr1⟩,fr0,fr1⟩:=hS5.out.f2 0 L10 27 (.int .u64 x10) (.slice p10 l10 q10) rfl
   simp only [List.take_succ_cons,List.take_zero,putAll,List.drop_succ_cons,List.drop_zero]
   go_wp2_with fail
   clear cA0 cA1 cA2 cA3 cA4 fA0 fA1 fA2 fA3 fA4 cq0 cq1 fq0 fq1 cr0 cr1 fr0 fr1
   have hS6:=hid ((((hS5.out).store (b:=⟨L10,27,[.int .u64 x10,.slice p10 l10 q10]⟩) 0 0 (.int .u64 x8) rfl rfl).store (b:=⟨L10,27,[.int .u64 x8,.slice p10 l10 q10]⟩) 0 1 (.slice p8 l8 q8) rfl rfl).as [⟨L10,27,[.int .u64 x8,.slice p8 l8 q8]⟩,⟨L9,27,[.int .u64 x7,.slice p7 l7 q7]⟩,⟨w.heap.size+1,31,z5⟩,⟨w.heap.size,31,(c5 true x1 p1 l1 q1 y1 r1 s1 u1)⟩] rfl)
   obtain ⟨W2,hW2⟩:=nameW hS6
   rw [hW2] at hS6 ⊢
   clear hW2
   refine (isZero_calls _ _ R _ (hS6.out.get (f:=.m (.int .u64 x8) (.slice p8 l8 q8) (R)) 0 rfl)).mono ?_
   rintro e w3 ⟨rfl,hB⟩
   have hS7:=hid (hS6.out.call hB)
   clear hB
   clear hS6
   by_cases hr:R=0
   ·have hz:(R == 0)=true:=by rw [hr];rfl
    have hFA:F = -(A:Int):=by have:=HF0.out;rw [hz] at this;simp [zs] at this;exact this.symm
    have hA0:A≠0:=fun ha=>HAR.out (by simp) ha hr
    clear hr
    obtain ⟨⟨cA0,cA1,cA2,cA3,cA4⟩,fA0,fA1,fA2,fA3,fA4⟩:=hS7.out.f5 3 w.heap.size 31 (.bool true) (.int .u64 x1) (.slice p1 l1 q1) (.int .u64 y1) (.slice r1 s1 u1) rfl
    obtain ⟨⟨cq0,cq1⟩,fq0,fq1⟩:=hS7.out.f2 1 L9 27 (.int .u64 x7) (.slice p7 l7 q7) rfl
    go_wp2_with fail
    clear cA0 cA1 cA2 cA3 cA4 fA0 fA1 fA2 fA3 fA4 cq0 cq1 fq0 fq1
    refine (whole_calls _ _ _ _ _ _).mono ?_
    rintro e w4 ⟨rfl,hB⟩
    have hS8:=hid (hS7.out.call hB)
    clear hB
    clear hS7
    obtain ⟨⟨cR0,cR1,cR2,cR3,cR4⟩,fR0,fR1,fR2,fR3,fR4⟩:=hS8.out.f5 2 (w.heap.size+1) 31 (.bool false) (.int .u64 0) (.slice none 0 0) (.int .u64 0) (.slice none 0 0) rfl
    have hS9:=hid (((((((hS8.out).store (b:=⟨w.heap.size+1,31,z5⟩) 2 0 (.bool true) rfl rfl).store (b:=⟨w.heap.size+1,31,[.bool true,.int .u64 0,.slice none 0 0,.int .u64 0,.slice none 0 0]⟩) 2 1 (.int .u64 x7) rfl rfl).store (b:=⟨w.heap.size+1,31,[.bool true,.int .u64 x7,.slice none 0 0,.int .u64 0,.slice none 0 0]⟩) 2 2 (.slice p7 l7 q7) rfl rfl).store (b:=⟨w.heap.size+1,31,[.bool true,.int .u64 x7,.slice p7 l7 q7,.int .u64 0,.slice none 0 0]⟩) 2 3 (.int .u64 0) rfl rfl).store (b:=⟨w.heap.size+1,31,[.bool true,.int .u64 x7,.slice p7 l7 q7,.int .u64 0,.slice none 0 0]⟩) 2 4 (.slice none 0 0) rfl rfl).as [⟨L10,27,[.int .u64 x8,.slice p8 l8 q8]⟩,⟨L9,27,[.int .u64 x7,.slice p7 l7 q7]⟩,⟨w.heap.size+1,31,[.bool true,.int .u64 x7,.slice p7 l7 q7,.int .u64 0,.slice none 0 0]⟩,⟨w.heap.size,31,(c5 true x1 p1 l1 q1 y1 r1 s1 u1)⟩] rfl)
    go_wp2_with fail
    clear cR0 cR1 cR2 cR3 cR4 fR0 fR1 fR2 fR3 fR4
    obtain ⟨⟨zR0,zR1,zR2,zR3,zR4⟩,-⟩:=hS9.out.f5 2 (w.heap.size+1) 31 (.bool true) (.int .u64 x7) (.slice p7 l7 q7) (.int .u64 0) (.slice none 0 0) rfl
    have hq:=isQ_int F (w:=(((((w4.setCell ⟨w.heap.size+1,0,none⟩ (.bool true)).setCell ⟨w.heap.size+1,1,none⟩ (.int .u64 x7)).setCell ⟨w.heap.size+1,2,none⟩ (.slice p7 l7 q7)).setCell ⟨w.heap.size+1,3,none⟩ (.int .u64 0)).setCell ⟨w.heap.size+1,4,none⟩ (.slice none 0 0))) (c:=.int .u64 x7) (d:=.slice p7 l7 q7) (by rw [show F.natAbs=A from by omega];exact (hS9.out.get (f:=.m (.int .u64 x7) (.slice p7 l7 q7) (A)) 1 rfl))
    rw [show decide (F<0)=true from decide_eq_true (by omega)] at hq
    exact bodyPost_ret (v:=.agg #[.bool true,.int .u64 x7,.slice p7 l7 q7,.int .u64 0,.slice none 0 0]) (by simp [results,Tryz.results49,go_sem,zR0,zR1,zR2,zR3,zR4]) rfl ⟨_,rfl,hq,hS9.out.bel⟩
   ·have hz:(R == 0)=false:=by simpa using hr
    have hFA:F = -((A+1:Nat):Int):=by have:=HF0.out;rw [hz] at this;simp [zs] at this;omega
    clear hr
    obtain ⟨⟨cA0,cA1,cA2,cA3,cA4⟩,fA0,fA1,fA2,fA3,fA4⟩:=hS7.out.f5 3 w.heap.size 31 (.bool true) (.int .u64 x1) (.slice p1 l1 q1) (.int .u64 y1) (.slice r1 s1 u1) rfl
    obtain ⟨⟨cq0,cq1⟩,fq0,fq1⟩:=hS7.out.f2 1 L9 27 (.int .u64 x7) (.slice p7 l7 q7) rfl
    go_wp2_with fail
    clear cA0 cA1 cA2 cA3 cA4 fA0 fA1 fA2 fA3 fA4 cq0 cq1 fq0 fq1
    refine (mplus_calls A 1 (k+1) _ _ _ _ _ (hS7.out.get (f:=.m (.int .u64 x7) (.slice p7 l7 q7) (A)) 1 rfl) (isMag_lit _ 1 (by decide)) (by omega) HKA.out HK1.out).mono ?_
    rintro e w4 ⟨c,d,rfl,hm5,hB⟩
    have hS8:=hid (hS7.out.call hB)
    clear hB
    clear hS7
    obtain ⟨x5,p5,l5,q5,rfl,rfl⟩:=hm5.shape
    have hS9:=hid (hS8.out.fact (.m (.int .u64 x5) (.slice p5 l5 q5) (A+1)) hm5)
    clear hS8 hm5
    obtain ⟨⟨cA0,cA1,cA2,cA3,cA4⟩,fA0,fA1,fA2,fA3,fA4⟩:=hS9.out.f5 3 w.heap.size 31 (.bool true) (.int .u64 x1) (.slice p1 l1 q1) (.int .u64 y1) (.slice r1 s1 u1) rfl
    obtain ⟨⟨cq0,cq1⟩,fq0,fq1⟩:=hS9.out.f2 1 L9 27 (.int .u64 x7) (.slice p7 l7 q7) rfl
    go_wp2_with fail
    clear cA0 cA1 cA2 cA3 cA4 fA0 fA1 fA2 fA3 fA4 cq0 cq1 fq0 fq1
    have hS10:=hid ((((hS9.out).store (b:=⟨L9,27,[.int .u64 x7,.slice p7 l7 q7]⟩) 1 0 (.int .u64 x5) rfl rfl).store (b:=⟨L9,27,[.int .u64 x5,.slice p7 l7 q7]⟩) 1 1 (.slice p5 l5 q5) rfl rfl).as [⟨L10,27,[.int .u64 x8,.slice p8 l8 q8]⟩,⟨L9,27,[.int .u64 x5,.slice p5 l5 q5]⟩,⟨w.heap.size+1,31,z5⟩,⟨w.heap.size,31,(c5 true x1 p1 l1 q1 y1 r1 s1 u1)⟩] rfl)
    obtain ⟨W4,hW4⟩:=nameW hS10
    rw [hW4] at hS10 ⊢
    clear hW4
    refine (whole_calls _ _ _ _ _ _).mono ?_
    rintro e w5 ⟨rfl,hB⟩
    have hS11:=hid (hS10.out.call hB)
    clear hB
    clear hS10
    obtain ⟨⟨cR0,cR1,cR2,cR3,cR4⟩,fR0,fR1,fR2,fR3,fR4⟩:=hS11.out.f5 2 (w.heap.size+1) 31 (.bool false) (.int .u64 0) (.slice none 0 0) (.int .u64 0) (.slice none 0 0) rfl
    have hS12:=hid (((((((hS11.out).store (b:=⟨w.heap.size+1,31,z5⟩) 2 0 (.bool true) rfl rfl).store (b:=⟨w.heap.size+1,31,[.bool true,.int .u64 0,.slice none 0 0,.int .u64 0,.slice none 0 0]⟩) 2 1 (.int .u64 x5) rfl rfl).store (b:=⟨w.heap.size+1,31,[.bool true,.int .u64 x5,.slice none 0 0,.int .u64 0,.slice none 0 0]⟩) 2 2 (.slice p5 l5 q5) rfl rfl).store (b:=⟨w.heap.size+1,31,[.bool true,.int .u64 x5,.slice p5 l5 q5,.int .u64 0,.slice none 0 0]⟩) 2 3 (.int .u64 0) rfl rfl).store (b:=⟨w.heap.size+1,31,[.bool true,.int .u64 x5,.slice p5 l5 q5,.int .u64 0,.slice none 0 0]⟩) 2 4 (.slice none 0 0) rfl rfl).as [⟨L10,27,[.int .u64 x8,.slice p8 l8 q8]⟩,⟨L9,27,[.int .u64 x5,.slice p5 l5 q5]⟩,⟨w.heap.size+1,31,[.bool true,.int .u64 x5,.slice p5 l5 q5,.int .u64 0,.slice none 0 0]⟩,⟨w.heap.size,31,(c5 true x1 p1 l1 q1 y1 r1 s1 u1)⟩] rfl)
    go_wp2_with fail
    clear cR0 cR1 cR2 cR3 cR4 fR0 fR1 fR2 fR3 fR4
    obtain ⟨⟨zR0,zR1,zR2,zR3,zR4⟩,-⟩:=hS12.out.f5 2 (w.heap.size+1) 31 (.bool true) (.int .u64 x5) (.slice p5 l5 q5) (.int .u64 0) (.slice none 0 0) rfl
    have hq:=isQ_int F (w:=(((((w5.setCell ⟨w.heap.size+1,0,none⟩ (.bool true)).setCell ⟨w.heap.size+1,1,none⟩ (.int .u64 x5)).setCell ⟨w.heap.size+1,2,none⟩ (.slice p5 l5 q5)).setCell ⟨w.heap.size+1,3,none⟩ (.int .u64 0)).setCell ⟨w.heap.size+1,4,none⟩ (.slice none 0 0))) (c:=.int .u64 x5) (d:=.slice p5 l5 q5) (by rw [show F.natAbs=A+1 from by omega];exact (hS12.out.get (f:=.m (.int .u64 x5) (.slice p5 l5 q5) (A+1)) 0 rfl))
    rw [show decide (F<0)=true from decide_eq_true (by omega)] at hq
    exact bodyPost_ret (v:=.agg #[.bool true,.int .u64 x5,.slice p5 l5 q5,.int .u64 0,.slice none 0 0]) (by simp [results,Tryz.results49,go_sem,zR0,zR1,zR2,zR3,zR4]) rfl ⟨_,rfl,hq,hS12.out.bel⟩
theorem floor_rat (r:Rat):zs (decide (r.num<0)) (if decide (r.num<0) && !(r.num.natAbs % r.den == 0) then r.num.natAbs / r.den+1 else r.num.natAbs / r.den)=r.num / (r.den:Int):=by
 have hd:0<r.den:=r.den_pos
 obtain ⟨d,hde⟩:∃ d,r.den=d:=⟨_,rfl⟩
 obtain ⟨z,hz⟩:∃ z,r.num=z:=⟨_,rfl⟩
 rw [hde,hz]
 rw [hde] at hd
 rcases Int.lt_or_le z 0 with h | h
 ·obtain ⟨n,rfl⟩:∃ n:Nat,z = -(n:Int):=⟨z.natAbs,by omega⟩
  rw [decide_eq_true h,Int.natAbs_neg,Int.natAbs_natCast]
  have hq:=Nat.div_add_mod n d
  have hr:=Nat.mod_lt n hd
  by_cases h0:n % d=0
  ·simp only [h0,zs,Bool.true_and,beq_self_eq_true,Bool.not_true,if_true,Bool.false_eq_true,if_false]
   have:(-(n:Int))=(d:Int)*(-((n / d:Nat):Int)):=by rw [h0,Nat.add_zero] at hq;rw [Int.mul_neg,← Int.natCast_mul,hq]
   rw [this,Int.mul_ediv_cancel_left _ (by omega)]
  ·have hb:(!(n % d == 0))=true:=by simpa using h0
   simp only [hb,zs,Bool.true_and,if_true]
   symm
   refine Int.ediv_eq_iff_of_pos (by omega) |>.2 ⟨?_,?_⟩
   ·have h1:(((n / d+1:Nat)):Int)*(d:Int)=((n / d*d+d:Nat):Int):=by rw [← Int.natCast_mul,Nat.add_mul,Nat.one_mul]
    have h2:d*(n / d)=n / d*d:=Nat.mul_comm _ _
    grind
   ·have h2:d*(n / d)=n / d*d:=Nat.mul_comm _ _
    have h1:(((n / d+1:Nat)):Int)*(d:Int)=((n / d*d+d:Nat):Int):=by rw [← Int.natCast_mul,Nat.add_mul,Nat.one_mul]
    grind
 ·obtain ⟨n,rfl⟩:∃ n:Nat,z=(n:Int):=⟨z.natAbs,by omega⟩
  rw [decide_eq_false (by omega)]
  simp [zs]
theorem Floor_calls (r:Rat) (v:Value) (k:Nat) (w:World) (h:IsQ w v r) (hk:k≤17179869183) (f:Fits k r):Calls Tryz.prog 49 #[v] w (RetQ w ((r.num / (r.den:Int):Int):Rat)):=by
 obtain ⟨t,x,p,l,q,y,p',s,u,rfl,i,j,e⟩:=h.shape
 have e':=e.out
 subst e'
 refine floor_any _ _ _ _ _ _ _ _ _ _ _ k w i j (by omega) f.1 _ (fun h=>?_) ?_
 ·have:=of_decide_eq_true h
  omega
 ·rw [und_den]
  exact floor_rat r
end Go.Proofs.YtnmlkobogofadaaGreatDoor
