/- What the proof rests on, part 6. -/
import Derived.Test.YtmijlcldmefggaaGreatDoorZ05
import Derived.Test.YtmijlcldmefggaaGreatDoorZ01
namespace Go.Proofs.YtmijlcldmefggaaGreatDoor
set_option maxRecDepth 100000
set_option maxHeartbeats 80000000
section
open Go.RowKit Go.Sort
abbrev M2 (w w':World) (c1 d1 c2 d2:Value):Prop:=
 C2 w' w.heap.size c1 d1∧C2 w' (w.heap.size+1) c2 d2∧(Below w.heap.size w w'∧w.heap.size+1<w'.heap.size)
theorem M2.next {w W W':World} {c1 d1 c2 d2:Value} (h:M2 w W c1 d1 c2 d2) (hb:Below W.heap.size W W'):M2 w W' c1 d1 c2 d2:=by
 obtain ⟨h1,h2,h3,h4⟩:=h
 exact ⟨C2.below h1 hb (by omega),C2.below h2 hb (by omega),h3.trans (hb.mono h3.size),Nat.lt_of_lt_of_le h4 hb.size⟩
theorem M2.start0 (w:World) (c1 d1 c2 d2:Value) (t1 t2:TypeId):M2 w ((w.alloc (.cells #[c1,d1] t1)).alloc (.cells #[c2,d2] t2)) c1 d1 c2 d2:=by
 refine ⟨⟨?_,?_⟩,⟨?_,?_⟩,?_,?_⟩
 ·go_simp
 ·go_simp
 ·go_simp
 ·go_simp
 ·exact ((Below.refl _ _).alloc (Nat.le_refl _) _).alloc (by simp) _
 ·simp
theorem M2.drew {w W:World} {c1 d1 c2 d2:Value} (h:M2 w W c1 d1 c2 d2):M2 w W.drew c1 d1 c2 d2:=by
 obtain ⟨⟨h1,h1'⟩,⟨h2,h2'⟩,h3,h4⟩:=h
 exact ⟨⟨h1,h1'⟩,⟨h2,h2'⟩,h3.drew,h4⟩
theorem M2.start (w:World) (c1 d1 c2 d2:Value) (t1 t2:TypeId):M2 w ((w.alloc (.cells #[c1,d1] t1)).alloc (.cells #[c2,d2] t2)).drew c1 d1 c2 d2:=(M2.start0 _ _ _ _ _ _ _).drew
def RetI (w:World) (v:Value) (e:Ending) (w':World):Prop:=e=.returned v∧Below w.heap.size w w'
theorem cmp_callsB (nx ny b o cp b2 o2 cp2 m n:Nat) (xs ys:List Nat) (w:World) (hx:Digs w b o xs) (hy:Digs w b2 o2 ys) (dx:Dig xs) (dy:Dig ys) (tx:Trimmed xs) (ty:Trimmed ys) (hsx:xs.length≤1099511627776) (hnx:xs.length=nx) (hny:ys.length=ny) (hm:val xs=m) (hn:val ys=n) :
  Calls Tryz.prog 113 #[.slice (some ⟨b,o,none⟩) nx cp,.slice (some ⟨b2,o2,none⟩) ny cp2] w (RetI w (.int .i64 (cmpN m n))):=by
 refine (cmp_callsN nx ny b o cp b2 o2 cp2 xs ys w hx hy dx dy tx ty hsx hnx hny).mono ?_
 rintro e w' ⟨rfl,q,rfl⟩
 rw [hm,hn]
 exact ⟨rfl,below_drewN _ _⟩
theorem mcmp_long1 (p1 q1 l1 m1:Nat) (x2:Int) (p2:Option Addr) (l2 m2:Nat) (a b k:Nat) (w:World) (ha:IsMag w (.int .u64 0) (.slice (some ⟨p1,q1,none⟩) l1 m1) a) (hb:IsMag w (.int .u64 x2) (.slice p2 l2 m2) b) (hk:k≤274877906944) (ka:a<B64 ^ k) :
  Calls Tryz.prog 65 #[.agg #[.int .u64 0,.slice (some ⟨p1,q1,none⟩) l1 m1],.agg #[.int .u64 x2,.slice p2 l2 m2]] w (RetI w (.int .i64 (cmpN a b))):=by
 have hn:=someSlice_run
 go_enter Tryz.func65,Tryz.ntmps65
 go_wp2_with (go_big_skip)
 go_region_held3 (fun w'=>M2 w w' (.int .u64 0) (.slice (some ⟨p1,q1,none⟩) l1 m1) (.int .u64 x2) (.slice p2 l2 m2))
  ((first | assumption | exact M2.start _ _ _ _ _ _ _ | exact M2.next (by assumption) (by assumption) | exact M2.drew (by assumption)))
  (first
   | (go_at_call_of 108 (Value.agg #[.int .u64 0,.slice (some ⟨p1,q1,none⟩) l1 m1]);refine (digits_calls _ _ a _ ?_).mono ?_;exact ha.mono (‹M2 w _ (.int .u64 0) (.slice (some ⟨p1,q1,none⟩) l1 m1) (.int .u64 x2) (.slice p2 l2 m2)›).2.2.1 (Nat.le_refl _);rintro e wA ⟨b1,o1,cp1,xs,rfl,hb1,hl1,hd1,ht1,hv1,hD1,hBA⟩)
   | (go_at_call_of 108 (Value.agg #[.int .u64 x2,.slice p2 l2 m2]);refine (digits_calls _ _ b _ ?_).mono ?_;exact hb.mono (‹M2 w _ (.int .u64 0) (.slice (some ⟨p1,q1,none⟩) l1 m1) (.int .u64 x2) (.slice p2 l2 m2)›).2.2.1 (Nat.le_refl _);rintro e wB ⟨b2,o2,cp2,ys,rfl,hb2,hl2,hd2,ht2,hv2,hD2,hBB⟩)
   | (go_at_call 113;refine (cmp_callsB _ _ b1 o1 cp1 b2 o2 cp2 a b xs ys _ ?_ ?_ hd1 hd2 ht1 ht2 ?_ rfl rfl hv1 hv2).mono ?_;(first | exact hD1.below hBB hb1 | exact hD1);(first | exact hD2 | exact hD2.below hBA hb2);exact Nat.le_trans (len_le ht1 (by rw [hv1];exact ka)) (by omega);rintro e wC ⟨rfl,hBC⟩))
 all_goals go_wp2
 all_goals go_ret
 all_goals exact ⟨rfl,(‹M2 w _ (.int .u64 0) (.slice (some ⟨p1,q1,none⟩) l1 m1) (.int .u64 x2) (.slice p2 l2 m2)›).2.2.1⟩
theorem mcmp_long2 (x0 p2 q2 l2 m2:Nat) (a b k:Nat) (w:World) (ha:IsMag w (.int .u64 (x0:Int)) (.slice none 0 0) a) (hb:IsMag w (.int .u64 0) (.slice (some ⟨p2,q2,none⟩) l2 m2) b) (hk:k≤274877906944) (ka:a<B64 ^ k) :
  Calls Tryz.prog 65 #[.agg #[.int .u64 (x0:Int),.slice none 0 0],.agg #[.int .u64 0,.slice (some ⟨p2,q2,none⟩) l2 m2]] w (RetI w (.int .i64 (cmpN a b))):=by
 have hn:=someSlice_run
 go_enter Tryz.func65,Tryz.ntmps65
 go_wp2_with (go_big_skip)
 go_region_held3 (fun w'=>M2 w w' (.int .u64 (x0:Int)) (.slice none 0 0) (.int .u64 0) (.slice (some ⟨p2,q2,none⟩) l2 m2))
  ((first | assumption | exact M2.start _ _ _ _ _ _ _ | exact M2.next (by assumption) (by assumption) | exact M2.drew (by assumption)))
  (first
   | (go_at_call_of 108 (Value.agg #[.int .u64 (x0:Int),.slice none 0 0]);refine (digits_calls _ _ a _ ?_).mono ?_;exact ha.mono (‹M2 w _ (.int .u64 (x0:Int)) (.slice none 0 0) (.int .u64 0) (.slice (some ⟨p2,q2,none⟩) l2 m2)›).2.2.1 (Nat.le_refl _);rintro e wA ⟨b1,o1,cp1,xs,rfl,hb1,hl1,hd1,ht1,hv1,hD1,hBA⟩)
   | (go_at_call_of 108 (Value.agg #[.int .u64 0,.slice (some ⟨p2,q2,none⟩) l2 m2]);refine (digits_calls _ _ b _ ?_).mono ?_;exact hb.mono (‹M2 w _ (.int .u64 (x0:Int)) (.slice none 0 0) (.int .u64 0) (.slice (some ⟨p2,q2,none⟩) l2 m2)›).2.2.1 (Nat.le_refl _);rintro e wB ⟨b2,o2,cp2,ys,rfl,hb2,hl2,hd2,ht2,hv2,hD2,hBB⟩)
   | (go_at_call 113;refine (cmp_callsB _ _ b1 o1 cp1 b2 o2 cp2 a b xs ys _ ?_ ?_ hd1 hd2 ht1 ht2 ?_ rfl rfl hv1 hv2).mono ?_;(first | exact hD1.below hBB hb1 | exact hD1);(first | exact hD2 | exact hD2.below hBA hb2);exact Nat.le_trans (len_le ht1 (by rw [hv1];exact ka)) (by omega);rintro e wC ⟨rfl,hBC⟩))
 all_goals go_wp2
 all_goals go_ret
 all_goals exact ⟨rfl,(‹M2 w _ (.int .u64 (x0:Int)) (.slice none 0 0) (.int .u64 0) (.slice (some ⟨p2,q2,none⟩) l2 m2)›).2.2.1⟩
theorem mcmp_word0 (x0 y0:Nat) (w:World) :
  Calls Tryz.prog 65 #[.agg #[.int .u64 (x0:Int),.slice none 0 0],.agg #[.int .u64 (y0:Int),.slice none 0 0]] w (RetI w (.int .i64 (cmpN x0 y0))):=by
 have hn:=someSlice_run
 go_enter Tryz.func65,Tryz.ntmps65
 go_wp2_with fail
 refine (Compare64_calls _ _ _).mono ?_
 rintro e w' ⟨rfl,rfl⟩
 go_wp2
 go_ret
 exact ⟨rfl,((Below.refl _ _).alloc (Nat.le_refl _) _).alloc (by simp) _⟩
theorem mcmp_calls (a b k:Nat) (c1 d1 c2 d2:Value) (w:World) (ha:IsMag w c1 d1 a) (hb:IsMag w c2 d2 b) (hk:k≤274877906944) (ka:a<B64 ^ k) :
  Calls Tryz.prog 65 #[.agg #[c1,d1],.agg #[c2,d2]] w (RetI w (.int .i64 (cmpN a b))):=by
 rcases id ha with ⟨ha1,rfl,rfl⟩ | ⟨b1,o1,k1,xs,rfl,rfl,_⟩
 ·rcases id hb with ⟨hb1,rfl,rfl⟩ | ⟨b2,o2,k2,ys,rfl,rfl,_⟩
  ·exact mcmp_word0 a b w
  ·exact mcmp_long2 _ _ _ _ _ a b k w ha hb hk ka
 ·rcases id hb with ⟨hb1,rfl,rfl⟩ | ⟨b2,o2,k2,ys,rfl,rfl,_⟩
  ·exact mcmp_long1 _ _ _ _ _ _ _ _ a b k w ha hb hk ka
  ·exact mcmp_long1 _ _ _ _ _ _ _ _ a b k w ha hb hk ka
end
section
open Go.RowKit Go.Sort
def Slot (W:World) (b:Nat):Prop:=(∃ x,W.cell? ⟨b,0,none⟩=some x)∧(∃ p l c,W.cell? ⟨b,1,none⟩=some (.slice p l c))∧W.frozen? ⟨b,0,none⟩=false∧W.frozen? ⟨b,1,none⟩=false
abbrev set2 (W:World) (b:Nat) (u v:Value):World:=(W.setCell ⟨b,0,none⟩ u).setCell ⟨b,1,none⟩ v
theorem Slot.read {W:World} {b:Nat} (h:Slot W b) (u v:Value):(set2 W b u v).cell? ⟨b,0,none⟩=some u∧(set2 W b u v).cell? ⟨b,1,none⟩=some v:=by
 obtain ⟨⟨x,h1⟩,⟨p,l,c,h2⟩,h3,h4⟩:=h
 refine ⟨?_,?_⟩
 ·rw [World.cell?_setCell_other _ _ _ _ (by simp),World.cell?_setCell_same _ _ _ h1]
 ·refine World.cell?_setCell_same (u:=.slice p l c) _ _ _ ?_
  rw [World.cell?_setCell_other _ _ _ _ (by simp)];exact h2
theorem Slot.set {W:World} {b:Nat} (b':Nat) (h:Slot W b) (u:Value) (p:Option Addr) (l c:Nat):Slot (set2 W b' u (.slice p l c)) b:=by
 by_cases e:b' = b
 ·subst e
  obtain ⟨r1,r2⟩:=h.read u (.slice p l c)
  refine ⟨⟨_,r1⟩,⟨_,_,_,r2⟩,?_,?_⟩
  ·rw [World.frozen?_setCell,World.frozen?_setCell];exact h.2.2.1
  ·rw [World.frozen?_setCell,World.frozen?_setCell];exact h.2.2.2
 ·obtain ⟨⟨x,h1⟩,⟨p',l',c',h2⟩,h3,h4⟩:=h
  refine ⟨⟨x,?_⟩,⟨p',l',c',?_⟩,?_,?_⟩
  ·rw [World.cell?_setCell_far _ _ _ _ e,World.cell?_setCell_far _ _ _ _ e];exact h1
  ·rw [World.cell?_setCell_far _ _ _ _ e,World.cell?_setCell_far _ _ _ _ e];exact h2
  ·rw [World.frozen?_setCell,World.frozen?_setCell];exact h3
  ·rw [World.frozen?_setCell,World.frozen?_setCell];exact h4
theorem Slot.below {W W':World} {b:Nat} (h:Slot W b) (hb:Below W.heap.size W W') (hs:b<W.heap.size):Slot W' b:=by
 obtain ⟨⟨x,h1⟩,⟨p',l',c',h2⟩,h3,h4⟩:=h
 refine ⟨⟨x,?_⟩,⟨p',l',c',?_⟩,?_,?_⟩
 ·rw [hb.cell (p:=⟨b,0,none⟩) hs];exact h1
 ·rw [hb.cell (p:=⟨b,1,none⟩) hs];exact h2
 ·rw [hb.frozen (p:=⟨b,0,none⟩) hs];exact h3
 ·rw [hb.frozen (p:=⟨b,1,none⟩) hs];exact h4
theorem Slot.mag {W:World} {b:Nat} {u v c d:Value} {n:Nat} (h:Slot W b) (hm:IsMag W c d n):IsMag (set2 W b u v) c d n:=by
 obtain ⟨_,⟨p,l,c',hy⟩,_,_⟩:=h
 rcases hm with h0 | ⟨b1,o,k,xs,h1,h2,h3,h4,h5,h6,h7,h8,h9⟩
 ·exact .inl h0
 ·refine .inr ⟨b1,o,k,xs,h1,h2,by simpa using h3,h4,h5,h6,h7,h8,fun j hj=>?_⟩
  have n1:(⟨b,1,none⟩:Addr)≠⟨b1,o+j,none⟩:=fun e=>by
   have:=h9 j hj
   rw [← e,hy] at this
   cases this
  have n0:(⟨b,0,none⟩:Addr)≠⟨b1,o+j,none⟩:=fun e=>by
   have hj0:o=0∧j=0∧b1=b:=by
    simp only [Addr.mk.injEq] at e
    omega
   obtain ⟨rfl,rfl,rfl⟩:=hj0
   have:=h9 1 (by omega)
   rw [show 0+1=1 from rfl,hy] at this
   cases this
  rw [World.cell?_setCell_other _ _ _ _ n1,World.cell?_setCell_other _ _ _ _ n0]
  exact h9 j hj
abbrev S4 (w w':World) (c1 d1 c2 d2:Value):Prop:=
 C2 w' w.heap.size c1 d1∧C2 w' (w.heap.size+1) c2 d2∧(Below w.heap.size w w'∧w.heap.size+3<w'.heap.size∧Slot w' (w.heap.size+1+1)∧Slot w' (w.heap.size+1+1+1))
theorem S4.next {w W W':World} {c1 d1 c2 d2:Value} (h:S4 w W c1 d1 c2 d2) (hb:Below W.heap.size W W'):S4 w W' c1 d1 c2 d2:=by
 obtain ⟨h1,h2,h3,h4,h5,h6⟩:=h
 exact ⟨C2.below h1 hb (by omega),C2.below h2 hb (by omega),h3.trans (hb.mono h3.size),Nat.lt_of_lt_of_le h4 hb.size,h5.below hb (by omega),h6.below hb (by omega)⟩
theorem S4.drew {w W:World} {c1 d1 c2 d2:Value} (h:S4 w W c1 d1 c2 d2):S4 w W.drew c1 d1 c2 d2:=by
 obtain ⟨⟨h1,h1'⟩,⟨h2,h2'⟩,h3,h4,h5,h6⟩:=h
 exact ⟨⟨h1,h1'⟩,⟨h2,h2'⟩,h3.drew,h4,h5,h6⟩
theorem S4.start (w:World) (c1 d1 c2 d2 z1 z2:Value) (t1 t2 t3 t4:TypeId):S4 w ((((w.alloc (.cells #[c1,d1] t1)).alloc (.cells #[c2,d2] t2)).alloc (.cells #[z1,.slice none 0 0] t3)).alloc (.cells #[z2,.slice none 0 0] t4)) c1 d1 c2 d2:=by
 refine ⟨⟨?_,?_⟩,⟨?_,?_⟩,?_,?_,⟨⟨z1,?_⟩,⟨none,0,0,?_⟩,?_,?_⟩,⟨⟨z2,?_⟩,⟨none,0,0,?_⟩,?_,?_⟩⟩
 all_goals try go_simp
 exact ((((Below.refl _ _).alloc (Nat.le_refl _) _).alloc (by simp) _).alloc (by simp;omega) _).alloc (by simp;omega) _
theorem S4.store1 {w W:World} {c1 d1 c2 d2 u:Value} {p:Option Addr} {l c:Nat} (h:S4 w W c1 d1 c2 d2):S4 w (set2 W (w.heap.size+1+1) u (.slice p l c)) c1 d1 c2 d2:=by
 obtain ⟨⟨h1,h1'⟩,⟨h2,h2'⟩,h3,h4,h5,h6⟩:=h
 refine ⟨⟨?_,?_⟩,⟨?_,?_⟩,(h3.setCell (by simp;omega) _).setCell (by simp;omega) _,by simpa using h4,h5.set _ _ _ _ _,h6.set _ _ _ _ _⟩
 all_goals rw [World.cell?_setCell_far _ _ _ _ (by simp;try omega),World.cell?_setCell_far _ _ _ _ (by simp;try omega)];assumption
theorem S4.store2 {w W:World} {c1 d1 c2 d2 u:Value} {p:Option Addr} {l c:Nat} (h:S4 w W c1 d1 c2 d2):S4 w (set2 W (w.heap.size+1+1+1) u (.slice p l c)) c1 d1 c2 d2:=by
 obtain ⟨⟨h1,h1'⟩,⟨h2,h2'⟩,h3,h4,h5,h6⟩:=h
 refine ⟨⟨?_,?_⟩,⟨?_,?_⟩,(h3.setCell (by simp;omega) _).setCell (by simp;omega) _,by simpa using h4,h5.set _ _ _ _ _,h6.set _ _ _ _ _⟩
 all_goals rw [World.cell?_setCell_far _ _ _ _ (by simp;try omega),World.cell?_setCell_far _ _ _ _ (by simp;try omega)];assumption
theorem S4.done {w W:World} {c1 d1 c2 d2 c c':Value} {p p':Option Addr} {l cc l' cc' n n':Nat} (h:S4 w W c1 d1 c2 d2) (hm:IsMag W c (.slice p l cc) n) (hm':IsMag W c' (.slice p' l' cc') n') :
  (set2 (set2 W (w.heap.size+1+1) c (.slice p l cc)) (w.heap.size+1+1+1) c' (.slice p' l' cc')).cell? ⟨w.heap.size+1+1,0,none⟩=some c ∧
  (set2 (set2 W (w.heap.size+1+1) c (.slice p l cc)) (w.heap.size+1+1+1) c' (.slice p' l' cc')).cell? ⟨w.heap.size+1+1,1,none⟩=some (.slice p l cc) ∧
  (set2 (set2 W (w.heap.size+1+1) c (.slice p l cc)) (w.heap.size+1+1+1) c' (.slice p' l' cc')).cell? ⟨w.heap.size+1+1+1,0,none⟩=some c' ∧
  (set2 (set2 W (w.heap.size+1+1) c (.slice p l cc)) (w.heap.size+1+1+1) c' (.slice p' l' cc')).cell? ⟨w.heap.size+1+1+1,1,none⟩=some (.slice p' l' cc') ∧
  Hid (IsMag (set2 (set2 W (w.heap.size+1+1) c (.slice p l cc)) (w.heap.size+1+1+1) c' (.slice p' l' cc')) c (.slice p l cc) n∧IsMag (set2 (set2 W (w.heap.size+1+1) c (.slice p l cc)) (w.heap.size+1+1+1) c' (.slice p' l' cc')) c' (.slice p' l' cc') n' ∧
   Below w.heap.size w (set2 (set2 W (w.heap.size+1+1) c (.slice p l cc)) (w.heap.size+1+1+1) c' (.slice p' l' cc'))):=by
 have h1:=h.store1 (u:=c) (p:=p) (l:=l) (c:=cc)
 have h2:=h1.store2 (u:=c') (p:=p') (l:=l') (c:=cc')
 have r1:=h.2.2.2.2.1.read c (.slice p l cc)
 have r2:=h1.2.2.2.2.2.read c' (.slice p' l' cc')
 refine ⟨?_,?_,r2.1,r2.2,hid ⟨?_,?_,h2.2.2.1⟩⟩
 ·rw [World.cell?_setCell_far _ _ _ _ (by simp),World.cell?_setCell_far _ _ _ _ (by simp)];exact r1.1
 ·rw [World.cell?_setCell_far _ _ _ _ (by simp),World.cell?_setCell_far _ _ _ _ (by simp)];exact r1.2
 ·exact h1.2.2.2.2.2.mag (h.2.2.2.2.1.mag hm)
 ·exact h1.2.2.2.2.2.mag (h.2.2.2.2.1.mag hm')
def RetM2 (w:World) (n m:Nat) (e:Ending) (w':World):Prop:=∃ c d c' d',e=.returned (.tuple #[.agg #[c,d],.agg #[c',d']])∧IsMag w' c d n∧IsMag w' c' d' m∧Below w.heap.size w w'
theorem divide_calls (nx ny b o cp b2 o2 cp2 m n:Nat) (xs ys:List Nat) (w:World) (hx:Digs w b o xs) (hy:Digs w b2 o2 ys) (hb:b<w.heap.size) (hb2:b2<w.heap.size) (dx:Dig xs) (dy:Dig ys) (tx:Trimmed xs) (ty:Trimmed ys) (hcp:xs.length≤cp)
  (hsx:xs.length≤274877906944) (h2:2≤ys.length) (hnx:xs.length=nx) (hny:ys.length=ny) (hm:val xs=m) (hn:val ys=n) :
  Calls Tryz.prog 162 #[.slice (some ⟨b,o,none⟩) nx cp,.slice (some ⟨b2,o2,none⟩) ny cp2] w (RetDivide w (m / n) (m % n)):=by
 subst hm hn
 rcases Nat.lt_or_ge (val xs) (val ys) with h | h
 ·exact divide_small nx ny b o cp b2 o2 cp2 xs ys w hx hy hb dx dy tx ty hcp hsx h hnx hny
 ·subst hnx
  obtain ⟨k,rfl⟩:∃ k,ny=k+2:=⟨ny - 2,by omega⟩
  exact divide_great b o cp b2 o2 cp2 k xs ys w hx hy hb hb2 dx dy tx ty hsx h hny
theorem mdiv_long (x1:Int) (p1:Option Addr) (l1 m1 p2 q2 l2 m2:Nat) (a b k:Nat) (w:World) (ha:IsMag w (.int .u64 x1) (.slice p1 l1 m1) a) (hb:IsMag w (.int .u64 0) (.slice (some ⟨p2,q2,none⟩) l2 m2) b) (hk:k≤137438953472) (ka:a<B64 ^ k) :
  Calls Tryz.prog 106 #[.agg #[.int .u64 x1,.slice p1 l1 m1],.agg #[.int .u64 0,.slice (some ⟨p2,q2,none⟩) l2 m2]] w (RetM2 w (a / b) (a % b)):=by
 have hn:=someSlice_run
 have kq:a / b<B64 ^ k:=Nat.lt_of_le_of_lt (Nat.div_le_self _ _) ka
 have kr:a % b<B64 ^ k:=Nat.lt_of_le_of_lt (Nat.mod_le _ _) ka
 obtain ⟨q,hq⟩:∃ q,a / b=q:=⟨_,rfl⟩
 obtain ⟨r,hr⟩:∃ r,a % b=r:=⟨_,rfl⟩
 rw [hq] at kq ⊢
 rw [hr] at kr ⊢
 go_enter Tryz.func106,Tryz.ntmps106
 go_wp2_with fail
 refine (isOne_run _ _ _).mono ?_
 have s0:=S4.start w (.int .u64 x1) (.slice p1 l1 m1) (.int .u64 0) (.slice (some ⟨p2,q2,none⟩) l2 m2) (.int .u64 0) (.int .u64 0) 28 28 28 28
 rintro e w1 ⟨rfl,hB1⟩
 have s1:=s0.next hB1
 clear s0 hB1
 obtain ⟨e1,e2⟩:=s1.1
 obtain ⟨e3,e4⟩:=s1.2.1
 go_wp2_with fail
 clear e1 e2 e3 e4
 go_region_held3 (fun w'=>S4 w w' (.int .u64 x1) (.slice p1 l1 m1) (.int .u64 0) (.slice (some ⟨p2,q2,none⟩) l2 m2))
  ((first | assumption | exact S4.next (by assumption) (by assumption) | exact S4.drew (by assumption)))
  (first
   | (go_at_call_of 108 (Value.agg #[.int .u64 x1,.slice p1 l1 m1]);refine (digits_calls _ _ a _ ?_).mono ?_;exact ha.mono (‹S4 w _ (.int .u64 x1) (.slice p1 l1 m1) (.int .u64 0) (.slice (some ⟨p2,q2,none⟩) l2 m2)›).2.2.1 (Nat.le_refl _);rintro e wA ⟨b1,o1,cp1,xs,rfl,hb1,hl1,hd1,ht1,hv1,hD1,hBA⟩)
   | (go_at_call 162;obtain ⟨ys,hly,hlk,hl2',hb2,hd2,ht2,hv2,hD2⟩:=isMag_digits (hb.mono (‹S4 w _ (.int .u64 x1) (.slice p1 l1 m1) (.int .u64 0) (.slice (some ⟨p2,q2,none⟩) l2 m2)›).2.2.1 (Nat.le_refl _));refine (divide_calls _ _ b1 o1 cp1 p2 q2 m2 a b xs ys _ hD1 hD2 hb1 hb2 hd1 hd2 ht1 ht2 hl1 ?_ ?_ rfl hly hv1 hv2).mono ?_;exact Nat.le_trans (len_le ht1 (by rw [hv1];exact ka)) (by omega);omega;rw [hq,hr];rintro e wC ⟨qv,rv,rfl,hQ,hR,hBC⟩))
 go_wp2_with fail
 refine (shorten_calls qv q k _ hQ (by omega) kq).mono ?_
 rintro e wD hret
 obtain ⟨x,p,l,cc,rfl,hmq,hBD⟩:=hret.shape
 have sD:=S4.next ‹S4 w _ (.int .u64 x1) (.slice p1 l1 m1) (.int .u64 0) (.slice (some ⟨p2,q2,none⟩) l2 m2)› hBD
 replace hR:=hR.below hBD
 clear hret hQ
 go_wp2_with fail
 refine (shorten_calls rv r k _ hR (by omega) kr).mono ?_
 rintro e wE hret
 obtain ⟨x',p',l',cc',rfl,hmr,hBE⟩:=hret.shape
 have sE:=S4.next sD hBE
 replace hmq:=hmq.below hBE
 obtain ⟨⟨⟨y1,f1⟩,⟨u1,u2,u3,f2⟩,f3,f4⟩,⟨⟨y2,f5⟩,⟨v1,v2,v3,f6⟩,f7,f8⟩⟩:=sE.2.2.2.2
 obtain ⟨z1,z2,z3,z4,hZ⟩:=sE.done hmq hmr
 clear hret hR hmq hmr sD sE hBE hBD
 go_wp2_with fail
 simp only [set2] at z1 z2 z3 z4
 refine bodyPost_ret (v:=.tuple #[.agg #[.int .u64 x,.slice p l cc],.agg #[.int .u64 x',.slice p' l' cc']]) (by simp [results,Tryz.results106,go_sem,z1,z2,z3,z4]) rfl ⟨_,_,_,_,rfl,hZ.out.1,hZ.out.2.1,hZ.out.2.2⟩
theorem mdiv_one (x1:Int) (p1:Option Addr) (l1 m1 a:Nat) (w:World) (ha:IsMag w (.int .u64 x1) (.slice p1 l1 m1) a) :
  Calls Tryz.prog 106 #[.agg #[.int .u64 x1,.slice p1 l1 m1],.agg #[.int .u64 1,.slice none 0 0]] w (RetM2 w a 0):=by
 have hn:=someSlice_run
 go_enter Tryz.func106,Tryz.ntmps106
 go_wp2_with fail
 refine (isOne_run _ _ _).mono ?_
 have s0:=S4.start w (.int .u64 x1) (.slice p1 l1 m1) (.int .u64 1) (.slice none 0 0) (.int .u64 0) (.int .u64 0) 28 28 28 28
 rintro e w1 ⟨rfl,hB1⟩
 have s1:=s0.next hB1
 clear s0 hB1
 obtain ⟨e1,e2⟩:=s1.1
 obtain ⟨⟨⟨y1,f1⟩,⟨u1,u2,u3,f2⟩,f3,f4⟩,⟨⟨y2,f5⟩,⟨v1,v2,v3,f6⟩,f7,f8⟩⟩:=s1.2.2.2.2
 obtain ⟨z1,z2,z3,z4,hZ⟩:=s1.done (c':=.int .u64 0) (p':=none) (l':=0) (cc':=0) (n':=0) (ha.mono s1.2.2.1 (Nat.le_refl _)) (.inl ⟨B64_pos,rfl,rfl⟩)
 clear s1
 go_wp2_with fail
 simp only [set2] at z1 z2 z3 z4
 refine bodyPost_ret (v:=.tuple #[.agg #[.int .u64 x1,.slice p1 l1 m1],.agg #[.int .u64 0,.slice none 0 0]]) (by simp [results,Tryz.results106,go_sem,z1,z2,z3,z4]) rfl ⟨_,_,_,_,rfl,hZ.out.1,hZ.out.2.1,hZ.out.2.2⟩
theorem mdiv_word (x0 y0:Nat) (w:World) (hx:x0<B64) (hy:y0≠1) (hy0:0<y0) :
  Calls Tryz.prog 106 #[.agg #[.int .u64 (x0:Int),.slice none 0 0],.agg #[.int .u64 (y0:Int),.slice none 0 0]] w (RetM2 w (x0 / y0) (x0 % y0)):=by
 have hn:=someSlice_run
 have h1:((y0:Int) == 1)=false:=by rw [beq_eq_false_iff_ne];omega
 have h2:((y0:Int) == 0)=false:=by rw [beq_eq_false_iff_ne];omega
 have h3:¬ (y0:Int)=0:=by omega
 have hq:=wrap_div x0 y0 hx
 have hr:((x0:Int) % (y0:Int))=((x0 % y0:Nat):Int):=by push_cast;rfl
 have HQ:=hid (Nat.lt_of_le_of_lt (Nat.div_le_self x0 y0) hx)
 have HR:=hid (Nat.lt_of_le_of_lt (Nat.mod_le x0 y0) hx)
 clear hx hy hy0
 obtain ⟨q,hq'⟩:∃ q,x0 / y0=q:=⟨_,rfl⟩
 obtain ⟨r,hr'⟩:∃ r,x0 % y0=r:=⟨_,rfl⟩
 rw [hq'] at hq HQ ⊢
 rw [hr'] at hr HR ⊢
 clear hq' hr'
 go_enter Tryz.func106,Tryz.ntmps106
 go_wp2_with fail
 refine (isOne_run _ _ _).mono ?_
 have s0:=S4.start w (.int .u64 (x0:Int)) (.slice none 0 0) (.int .u64 (y0:Int)) (.slice none 0 0) (.int .u64 0) (.int .u64 0) 28 28 28 28
 rintro e w1 ⟨rfl,hB1⟩
 have s1:=s0.next hB1
 clear s0 hB1
 obtain ⟨e1,e2⟩:=s1.1
 obtain ⟨e3,e4⟩:=s1.2.1
 obtain ⟨⟨⟨y1,f1⟩,⟨u1,u2,u3,f2⟩,f3,f4⟩,⟨⟨y2,f5⟩,⟨v1,v2,v3,f6⟩,f7,f8⟩⟩:=s1.2.2.2.2
 obtain ⟨z1,z2,z3,z4,hZ⟩:=s1.done (c:=.int .u64 (q:Int)) (p:=none) (l:=0) (cc:=0) (n:=q) (c':=.int .u64 (r:Int)) (p':=none) (l':=0) (cc':=0) (n':=r) (.inl ⟨HQ.out,rfl,rfl⟩) (.inl ⟨HR.out,rfl,rfl⟩)
 clear s1
 go_wp2_with (go_big_skip)
 go_region
 go_wp2_with fail
 simp only [set2] at z1 z2 z3 z4
 obtain ⟨m1,m2,m3⟩:=hZ.out
 refine bodyPost_ret (v:=.tuple #[.agg #[.int .u64 (q:Int),.slice none 0 0],.agg #[.int .u64 (r:Int),.slice none 0 0]]) (by simp [results,Tryz.results106,go_sem,z1,z2,z3,z4]) rfl ⟨_,_,_,_,rfl,m1.below (Below.refl _ _).drew,m2.below (Below.refl _ _).drew,m3.drew⟩
theorem mdiv_longword (p1 q1 l1 m1 y0:Nat) (a k:Nat) (w:World) (ha:IsMag w (.int .u64 0) (.slice (some ⟨p1,q1,none⟩) l1 m1) a) (hy:y0<B64) (hy1:y0≠1) (hy0:0<y0) (hk:k≤137438953472) (ka:a<B64 ^ k) :
  Calls Tryz.prog 106 #[.agg #[.int .u64 0,.slice (some ⟨p1,q1,none⟩) l1 m1],.agg #[.int .u64 (y0:Int),.slice none 0 0]] w (RetM2 w (a / y0) (a % y0)):=by
 have hn:=someSlice_run
 have h1:((y0:Int) == 1)=false:=by rw [beq_eq_false_iff_ne];omega
 have kq:a / y0<B64 ^ k:=Nat.lt_of_le_of_lt (Nat.div_le_self _ _) ka
 have HR:=hid (Nat.lt_trans (Nat.mod_lt a hy0) hy)
 obtain ⟨q,hq⟩:∃ q,a / y0=q:=⟨_,rfl⟩
 obtain ⟨r,hr⟩:∃ r,a % y0=r:=⟨_,rfl⟩
 rw [hq] at kq ⊢
 rw [hr] at HR ⊢
 have HY:=hid (And.intro hy hy0)
 clear hy hy0 hy1
 go_enter Tryz.func106,Tryz.ntmps106
 go_wp2_with fail
 refine (isOne_run _ _ _).mono ?_
 have s0:=S4.start w (.int .u64 0) (.slice (some ⟨p1,q1,none⟩) l1 m1) (.int .u64 (y0:Int)) (.slice none 0 0) (.int .u64 0) (.int .u64 0) 28 28 28 28
 rintro e w1 ⟨rfl,hB1⟩
 have s1:=s0.next hB1
 clear s0 hB1
 obtain ⟨e1,e2⟩:=s1.1
 obtain ⟨e3,e4⟩:=s1.2.1
 go_wp2_with (go_big_skip)
 obtain ⟨xs,hlx,hlk,hl2',hb1,hd1,ht1,hv1,hD1⟩:=isMag_digits (ha.mono s1.2.2.1 (Nat.le_refl _))
 refine (divideWord_calls l1 y0 p1 q1 m1 xs _ HY.out.2 HY.out.1 hD1 hb1 hd1 ?_ hlx).mono ?_
 ·exact Nat.le_trans (len_le ht1 (by rw [hv1];exact ka)) (by omega)
 rw [hv1,hq,hr]
 rintro e wC ⟨b3,o3,cp3,zs,rfl,hb3,hl3,hd3,ht3,hv3,hD3,hBC⟩
 have sC:=S4.next s1 hBC
 clear e1 e2 e3 e4
 go_wp2_with (go_big_skip)
 refine (shorten_slice b3 o3 cp3 zs.length zs _ rfl hl3 ?_ hb3 hd3 ht3 hD3).mono ?_
 ·exact Nat.le_trans (len_le ht3 (by rw [hv3];exact kq)) (by omega)
 rintro e wD hret
 obtain ⟨x,p,l,cc,rfl,hm,hBD⟩:=hret.shape
 rw [hv3] at hm
 have sD:=sC.next hBD
 clear hret
 obtain ⟨⟨⟨y1,f1⟩,⟨u1,u2,u3,f2⟩,f3,f4⟩,⟨⟨y2,f5⟩,⟨v1,v2,v3,f6⟩,f7,f8⟩⟩:=sD.2.2.2.2
 obtain ⟨z1,z2,z3,z4,hZ⟩:=sD.done (c':=.int .u64 (r:Int)) (p':=none) (l':=0) (cc':=0) (n':=r) hm (.inl ⟨HR.out,rfl,rfl⟩)
 clear s1 sC sD hm hd3 ht3 hD3 hBC hBD
 go_wp2_with fail
 simp only [set2] at z1 z2 z3 z4
 refine bodyPost_ret (v:=.tuple #[.agg #[.int .u64 x,.slice p l cc],.agg #[.int .u64 (r:Int),.slice none 0 0]]) (by simp [results,Tryz.results106,go_sem,z1,z2,z3,z4]) rfl ⟨_,_,_,_,rfl,hZ.out.1,hZ.out.2.1,hZ.out.2.2⟩
theorem mdiv_calls (a b k:Nat) (c1 d1 c2 d2:Value) (w:World) (ha:IsMag w c1 d1 a) (hb:IsMag w c2 d2 b) (hb0:0<b) (hk:k≤137438953472) (ka:a<B64 ^ k) :
  Calls Tryz.prog 106 #[.agg #[c1,d1],.agg #[c2,d2]] w (RetM2 w (a / b) (a % b)):=by
 rcases id hb with ⟨hb1,rfl,rfl⟩ | ⟨b2,o2,k2,ys,rfl,rfl,_⟩
 ·by_cases h1:b=1
  ·subst h1
   rw [Nat.div_one,Nat.mod_one]
   rcases id ha with ⟨ha1,rfl,rfl⟩ | ⟨b1,o1,k1,xs,rfl,rfl,_⟩
   ·exact mdiv_one _ _ _ _ a w ha
   ·exact mdiv_one _ _ _ _ a w ha
  ·rcases id ha with ⟨ha1,rfl,rfl⟩ | ⟨b1,o1,k1,xs,rfl,rfl,_⟩
   ·exact mdiv_word a b w ha1 h1 hb0
   ·exact mdiv_longword _ _ _ _ b a k w ha hb1 h1 hb0 hk ka
 ·rcases id ha with ⟨ha1,rfl,rfl⟩ | ⟨b1,o1,k1,xs,rfl,rfl,_⟩
  ·exact mdiv_long _ _ _ _ _ _ _ _ a b k w ha hb hk ka
  ·exact mdiv_long _ _ _ _ _ _ _ _ a b k w ha hb hk ka
end
section
open Go.RowKit Go.Sort
theorem RetM2.shape {w w':World} {n m:Nat} {e:Ending} (h:RetM2 w n m e w'):∃ (x:Int) (p:Option Addr) (l c:Nat) (x':Int) (p':Option Addr) (l' c':Nat),e=.returned (.tuple #[.agg #[.int .u64 x,.slice p l c],.agg #[.int .u64 x',.slice p' l' c']])∧IsMag w' (.int .u64 x) (.slice p l c) n∧IsMag w' (.int .u64 x') (.slice p' l' c') m∧Below w.heap.size w w':=by
 obtain ⟨c,d,c',d',rfl,hm,hm',hb⟩:=h
 rcases id hm with ⟨_,rfl,rfl⟩ | ⟨b,o,k,xs,rfl,rfl,_⟩ <;> rcases id hm' with ⟨_,rfl,rfl⟩ | ⟨b',o',k',xs',rfl,rfl,_⟩ <;> exact ⟨_,_,_,_,_,_,_,_,rfl,hm,hm',hb⟩
theorem mover_calls (a b k:Nat) (c1 d1 c2 d2:Value) (w:World) (ha:IsMag w c1 d1 a) (hb:IsMag w c2 d2 b) (hb0:0<b) (hk:k≤137438953472) (ka:a<B64 ^ k) :
  Calls Tryz.prog 57 #[.agg #[c1,d1],.agg #[c2,d2]] w (RetM w (a / b)):=by
 go_enter Tryz.func57,Tryz.ntmps57
 have s0:=S2.start0 w c1 d1 c2 d2 (.int .u64 0) 28 28 28
 go_wp2_with fail
 refine (mdiv_calls a b k c1 d1 c2 d2 _ (ha.mono s0.2.2.1 (Nat.le_refl _)) (hb.mono s0.2.2.1 (Nat.le_refl _)) hb0 hk ka).mono ?_
 rintro e w1 hret
 obtain ⟨x,p,l,cc,x',p',l',cc',rfl,hm,hm',hB⟩:=hret.shape
 have s1:=s0.next hB
 have s2:=s1.next (((Below.refl w1.heap.size w1).alloc (Nat.le_refl _) (.cells #[.int .u64 x,.slice p l cc] 28)).alloc (by simp) (.cells #[.int .u64 x',.slice p' l' cc'] 28))
 have m2:=hm.below (((Below.refl w1.heap.size w1).alloc (Nat.le_refl _) (.cells #[.int .u64 x,.slice p l cc] 28)).alloc (by simp) (.cells #[.int .u64 x',.slice p' l' cc'] 28))
 have g1:¬ w1.heap.size=w.heap.size+1+1:=by have:=s1.2.2.2.1;omega
 have g2:¬ w1.heap.size+1=w.heap.size+1+1:=by have:=s1.2.2.2.1;omega
 have g3:¬ w.heap.size+1+1=w1.heap.size:=by have:=s1.2.2.2.1;omega
 have g4:¬ w.heap.size+1+1=w1.heap.size+1:=by have:=s1.2.2.2.1;omega
 obtain ⟨⟨y1,hy1⟩,⟨y2,hy2⟩,hf1,hf2⟩:=s2.slot
 obtain ⟨hz1,hz2,hHm⟩:=s2.done m2
 clear hret s0 hm' hB hm s1 s2 m2
 go_wp2_with fail
 refine bodyPost_ret (v:=.agg #[.int .u64 x,.slice p l cc]) (by simp [results,Tryz.results57,go_sem,hz1,hz2]) rfl ⟨_,_,rfl,hHm.out.1,hHm.out.2⟩
end
section
open Go.RowKit Go.Sort
theorem shift_val (q r:Nat) (xs:List Nat) (hr:r≤63) (hx:Dig xs) :
  Dig (List.replicate q 0 ++ (xs ++ [0]))∧(List.replicate q 0 ++ (xs ++ [0])).length=q+xs.length+1∧val (raised r 0 (List.replicate q 0 ++ (xs ++ [0])))=val xs*2 ^ (64*q+r):=by
 have hd:Dig (List.replicate q 0 ++ (xs ++ [0])):=by
  refine Dig.append (fun d hd=>?_) (Dig.append hx (fun d hd=>?_))
  ·rw [(List.mem_replicate.1 hd).2];exact B64_pos
  ·simp at hd;subst hd;exact B64_pos
 have hl:(List.replicate q 0 ++ (xs ++ [0])).length=q+xs.length+1:=by simp;omega
 refine ⟨hd,hl,?_⟩
 obtain ⟨k,hk⟩:=raised_val r 0 (List.replicate q 0 ++ (xs ++ [0])) (by omega) hd (Nat.two_pow_pos _)
 have hv:val (List.replicate q 0 ++ (xs ++ [0]))=B64 ^ q*val xs:=by
  rw [val_append,val_zeros,val_snoc,List.length_replicate,Nat.mul_zero,Nat.add_zero,Nat.zero_add]
 rw [hl,hv,Nat.add_zero] at hk
 have h1:=val_lt hx
 have h2:2 ^ r≤B64:=by
  rw [show B64=2 ^ 64 from by decide]
  exact Nat.pow_le_pow_right (by omega) (by omega)
 have h3:B64 ^ q*val xs*2 ^ r<B64 ^ (q+xs.length+1):=by
  rw [Nat.pow_succ,Nat.pow_add]
  exact Nat.lt_of_le_of_lt (Nat.mul_le_mul_left _ h2) (Nat.mul_lt_mul_of_pos_right (Nat.mul_lt_mul_of_pos_left h1 (Nat.pow_pos B64_pos)) B64_pos)
 have h4:k=0:=by
  rcases Nat.eq_zero_or_pos k with h | h
  ·exact h
  ·have:=Nat.mul_le_mul_left (B64 ^ (q+xs.length+1)) h
   rw [Nat.mul_one] at this
   omega
 rw [h4,Nat.mul_zero,Nat.add_zero,Nat.add_zero] at hk
 rw [hk,Nat.pow_add,Nat.pow_mul,show 2 ^ 64=B64 from by decide,Nat.mul_comm (B64 ^ q),Nat.mul_assoc]
theorem shift_calls (nx n b o cp:Nat) (xs:List Nat) (w:World) (hx:Digs w b o xs) (hb:b<w.heap.size) (dx:Dig xs) (hsz:xs.length≤549755813888) (hn:n≤17592186044416) (hnx:xs.length=nx) :
  Calls Tryz.prog 223 #[.slice (some ⟨b,o,none⟩) nx cp,.int .i64 (n:Int)] w (RetDigits w (val xs*2 ^ n)):=by
 subst hnx
 have hq:n=64*(n / 64)+n % 64:=(Nat.div_add_mod n 64).symm
 have hr:n % 64≤63:=by omega
 have e1:(n:Int).tdiv 64=((n / 64:Nat):Int):=by rw [Int.tdiv_eq_ediv_of_nonneg (by omega)];push_cast;rfl
 have e2:(n:Int).tmod 64=((n % 64:Nat):Int):=by rw [Int.tmod_eq_emod_of_nonneg (by omega)];push_cast;rfl
 have e3:(n:Int) / 64=((n / 64:Nat):Int):=by push_cast;rfl
 have e4:(n:Int) % 64=((n % 64:Nat):Int):=by push_cast;rfl
 obtain ⟨q,hq'⟩:∃ q,n / 64=q:=⟨_,rfl⟩
 obtain ⟨r,hr'⟩:∃ r,n % 64=r:=⟨_,rfl⟩
 rw [hq'] at hq e1 e3
 rw [hr'] at hq hr e2 e4
 have hqs:q≤274877906944:=by omega
 have HQ:Hid (n=64*q+r∧r≤63):=hid ⟨hq,hr⟩
 clear hq hr hq' hr' hn
 have hmk:=makeN_run (q+xs.length+1) (by omega)
 rw [show ((q+xs.length+1:Nat):Int)=(q:Int)+(xs.length:Int)+1 by push_cast;rfl] at hmk
 have hZ:=holdsL_allocZ w (q+xs.length+1)
 have hsl:=sliceLo_run w.heap.size 0 (q+xs.length+1) (q+xs.length+1) q (by omega) (by omega)
 have hcp:=copyN_run 3 (allocZ w (q+xs.length+1)) w.heap.size (0+q) (q+xs.length+1 - q) (q+xs.length+1 - q) b o cp _ xs (hZ.drop q) (hx.below (below_allocZ w _) hb) (by simp) (by omega)
 have e5:xs ++ ((List.replicate (q+xs.length+1) 0).drop q).drop xs.length=xs ++ [0]:=by
  rw [List.drop_replicate,List.drop_replicate,show q+xs.length+1 - q - xs.length=1 by omega];rfl
 have e6:putL (allocZ w (q+xs.length+1)) 0 w.heap.size (0+q) (xs ++ [0])=putL (allocZ w (q+xs.length+1)) 0 w.heap.size 0 (List.replicate q 0 ++ (xs ++ [0])):=by
  rw [putL_mid _ 0 w.heap.size 0 q _ (xs ++ [0]) hZ (by simp;omega),List.take_replicate,List.drop_replicate]
  congr 1
  have e7:q+xs.length+1 - (q+(xs ++ [0]).length)=0:=by rw [List.length_append,List.length_singleton];omega
  rw [show min q (q+xs.length+1)=q by omega,e7,List.replicate_zero,List.append_nil]
 rw [e5,e6] at hcp
 have HV:=hid (shift_val q r xs HQ.out.2 dx)
 have HH:Hid (HoldsL (putL (allocZ w (q+xs.length+1)) 0 w.heap.size 0 (List.replicate q 0 ++ (xs ++ [0]))) w.heap.size 0 (List.replicate q 0 ++ (xs ++ [0]))):=hid (holdsL_putL _ _ _ _ _ _ hZ (by rw [HV.out.2.1];simp))
 have HZ:=hid hZ
 rw [Nat.zero_add] at hsl hcp
 clear e5 e6 hZ hx dx
 go_enter Tryz.func223,Tryz.ntmps223
 go_wp2_with fail
 refine (raise_calls _ r w.heap.size 0 _ (List.replicate q 0 ++ (xs ++ [0])) _ HQ.out.2 HH.out HV.out.1 (by rw [HV.out.2.1];omega) (by rw [HV.out.2.1];omega) HV.out.2.1).mono ?_
 rintro e w' ⟨ds,q1,rfl,rfl,hl,hdg,hds⟩
 rw [putL_putL _ _ _ _ _ _ _ hl,Nat.zero_add]
 have hl2:ds.length=q+xs.length+1:=hl.trans HV.out.2.1
 have hv:Hid (val ds=val xs*2 ^ n):=by
  show val ds=_
  rw [hds,HV.out.2.2,← HQ.out.1]
 have HD:Hid (HoldsL (putL (allocZ w (q+xs.length+1)) q1 w.heap.size 0 ds) w.heap.size 0 ds):=holdsL_putL _ _ _ _ _ _ HZ.out (by rw [hl2];simp)
 have HL1:=hid hl2
 clear hl hl2 hds hcp hmk hsl
 go_wp2_with fail
 refine (trim_callsN _ w.heap.size 0 _ ds _ HD.out.digs (by rw [HL1.out];omega) (by rw [HL1.out];exact Nat.le_refl _) HL1.out).mono ?_
 rintro e w' ⟨k,rfl,ht,rfl⟩
 have HT:=hid ht
 clear ht
 go_wp2
 go_ret
 exact RetDigits.mk (by simp [size_allocZ]) hdg HT.out hv.out HD.out.digs ((below_allocZ w _).trans (below_putL _ _ _ _ _ (Nat.le_refl _)))
end
section
open Go.RowKit Go.Sort
abbrev S1 (w w':World) (c1 d1:Value):Prop:=
 C2 w' w.heap.size c1 d1∧(Below w.heap.size w w'∧w.heap.size+1<w'.heap.size∧Slot w' (w.heap.size+1))
theorem S1.next {w W W':World} {c1 d1:Value} (h:S1 w W c1 d1) (hb:Below W.heap.size W W'):S1 w W' c1 d1:=by
 obtain ⟨h1,h3,h4,h5⟩:=h
 exact ⟨C2.below h1 hb (by omega),h3.trans (hb.mono h3.size),Nat.lt_of_lt_of_le h4 hb.size,h5.below hb (by omega)⟩
theorem S1.drew {w W:World} {c1 d1:Value} (h:S1 w W c1 d1):S1 w W.drew c1 d1:=by
 obtain ⟨⟨h1,h1'⟩,h3,h4,h5⟩:=h
 exact ⟨⟨h1,h1'⟩,h3.drew,h4,h5⟩
theorem S1.start (w:World) (c1 d1 z1:Value) (t1 t3:TypeId):S1 w ((w.alloc (.cells #[c1,d1] t1)).alloc (.cells #[z1,.slice none 0 0] t3)) c1 d1:=by
 refine ⟨⟨?_,?_⟩,?_,?_,⟨⟨z1,?_⟩,⟨none,0,0,?_⟩,?_,?_⟩⟩
 all_goals try go_simp
 exact ((Below.refl _ _).alloc (Nat.le_refl _) _).alloc (by simp) _
theorem S1.store {w W:World} {c1 d1 u:Value} {p:Option Addr} {l c:Nat} (h:S1 w W c1 d1):S1 w (set2 W (w.heap.size+1) u (.slice p l c)) c1 d1:=by
 obtain ⟨⟨h1,h1'⟩,h3,h4,h5⟩:=h
 refine ⟨⟨?_,?_⟩,(h3.setCell (by simp) _).setCell (by simp) _,by simpa using h4,h5.set _ _ _ _ _⟩
 all_goals rw [World.cell?_setCell_far _ _ _ _ (by simp),World.cell?_setCell_far _ _ _ _ (by simp)];assumption
theorem S1.done {w W:World} {c1 d1 c:Value} {p:Option Addr} {l cc n:Nat} (h:S1 w W c1 d1) (hm:IsMag W c (.slice p l cc) n) :
  ((W.setCell ⟨w.heap.size+1,0,none⟩ c).setCell ⟨w.heap.size+1,1,none⟩ (.slice p l cc)).cell? ⟨w.heap.size+1,0,none⟩=some c ∧
  ((W.setCell ⟨w.heap.size+1,0,none⟩ c).setCell ⟨w.heap.size+1,1,none⟩ (.slice p l cc)).cell? ⟨w.heap.size+1,1,none⟩=some (.slice p l cc) ∧
  Hid (IsMag ((W.setCell ⟨w.heap.size+1,0,none⟩ c).setCell ⟨w.heap.size+1,1,none⟩ (.slice p l cc)) c (.slice p l cc) n∧Below w.heap.size w ((W.setCell ⟨w.heap.size+1,0,none⟩ c).setCell ⟨w.heap.size+1,1,none⟩ (.slice p l cc))):=
 ⟨(h.2.2.2.read _ _).1,(h.2.2.2.read _ _).2,hid ⟨h.2.2.2.mag hm,(h.store (u:=c) (p:=p) (l:=l) (c:=cc)).2.1⟩⟩
theorem S1.slot {w W:World} {c1 d1:Value} (h:S1 w W c1 d1):(∃ r1,W.cell? ⟨w.heap.size+1,0,none⟩=some r1)∧(∃ r2,W.cell? ⟨w.heap.size+1,1,none⟩=some r2)∧W.frozen? ⟨w.heap.size+1,0,none⟩=false∧W.frozen? ⟨w.heap.size+1,1,none⟩=false:=
 ⟨h.2.2.2.1,⟨_,h.2.2.2.2.1.choose_spec.choose_spec.choose_spec⟩,h.2.2.2.2.2.1,h.2.2.2.2.2.2⟩
theorem shift_lt_pow {a k n:Nat} (ha:a<B64 ^ k):a*2 ^ n<B64 ^ (k+(n / 64+1)):=by
 have h:2 ^ n≤B64 ^ (n / 64+1):=by
  rw [show B64=2 ^ 64 from by decide,← Nat.pow_mul]
  exact Nat.pow_le_pow_right (by omega) (by omega)
 rw [Nat.pow_add]
 exact Nat.lt_of_lt_of_le (Nat.mul_lt_mul_of_pos_right ha (Nat.two_pow_pos _)) (Nat.mul_le_mul_left _ h)
theorem mshift_calls (a n k:Nat) (c1 d1:Value) (w:World) (ha:IsMag w c1 d1 a) (hk:k≤137438953472) (hn:n≤8796093022208) (ka:a<B64 ^ k) :
  Calls Tryz.prog 169 #[.agg #[c1,d1],.int .i64 (n:Int)] w (RetM w (a*2 ^ n)):=by
 have hks:k+(n / 64+1)≤549755813888:=by omega
 have HN:=hid hn
 clear hn
 go_enter Tryz.func169,Tryz.ntmps169
 have s0:=S1.start w c1 d1 (.int .u64 0) 28 28
 go_wp2_with fail
 refine (digits_calls _ _ a _ (ha.mono s0.2.1 (Nat.le_refl _))).mono ?_
 rintro e wA ⟨b1,o1,cp1,xs,rfl,hb1,hl1,hd1,ht1,hv1,hD1,hBA⟩
 have s1:=s0.next hBA
 clear s0
 go_wp2_with fail
 refine (shift_calls _ n b1 o1 cp1 xs _ hD1 hb1 hd1 ?_ (by have:=HN.out;omega) rfl).mono ?_
 ·exact Nat.le_trans (len_le ht1 (by rw [hv1];exact ka)) (by omega)
 rw [hv1]
 rintro e wB ⟨b2,o2,cp2,ys,rfl,hb2,hl2,hd2,ht2,hv2,hD2,hBB⟩
 have s2:=s1.next hBB
 clear s1 hD1 hd1 ht1 hBA hBB
 go_wp2_with fail
 refine (shorten_slice b2 o2 cp2 ys.length ys _ rfl hl2 ?_ hb2 hd2 ht2 hD2).mono ?_
 ·exact Nat.le_trans (len_le ht2 (by rw [hv2];exact shift_lt_pow ka)) hks
 rintro e wC hret
 obtain ⟨x,p,l,cc,rfl,hm,hBC⟩:=hret.shape
 rw [hv2] at hm
 have s3:=s2.next hBC
 obtain ⟨⟨y1,hy1⟩,⟨y2,hy2⟩,hf1,hf2⟩:=s3.slot
 obtain ⟨hz1,hz2,hHm⟩:=s3.done hm
 clear hret s2 s3 hD2 hd2 ht2 hm hBC
 go_wp2_with fail
 refine bodyPost_ret (v:=.agg #[.int .u64 x,.slice p l cc]) (by simp [results,Tryz.results169,go_sem,hz1,hz2]) rfl ⟨_,_,rfl,hHm.out.1,hHm.out.2⟩
end
section
open Go.RowKit Go.Sort
theorem window_calls (nx n s b o cp:Nat) (xs:List Nat) (w:World) (hx:Digs w b o xs) (dx:Dig xs) (hs:s≤63) (hn:n≤1099511627776) (hnx:xs.length=nx) :
  Calls Tryz.prog 214 #[.slice (some ⟨b,o,none⟩) nx cp,.int .i64 ((n+2:Nat):Int),.int .u64 (s:Int)] w fun e w'=>e=.returned (.int .u64 ((shl2 s (xs[n+1]?.getD 0) (xs[n]?.getD 0):Nat):Int))∧w=w':=by
 have at_1:=hid (at_callsN nx b o cp (n+1) xs w hx hnx)
 have at_2:=hid (at_callsN nx b o cp n xs w hx hnx)
 have d1:=dx.getD (n+1)
 have d2:=dx.getD n
 obtain ⟨x,hx1⟩:∃ x,xs[n+1]?.getD 0=x:=⟨_,rfl⟩
 obtain ⟨y,hy1⟩:∃ x,xs[n]?.getD 0=x:=⟨_,rfl⟩
 rw [hx1] at at_1 d1 ⊢
 rw [hy1] at at_2 d2 ⊢
 rw [show ((n+1:Nat):Int)=(n:Int)+2 - 1 by omega] at at_1
 have e1:=shl2_bits s x y (by omega) d2
 clear d1 d2 hx dx hx1 hy1
 go_enter Tryz.func214,Tryz.ntmps214
 go_wp2_with (go_big_skip)
 refine (at_1.out).mono ?_
 rintro e w' ⟨rfl,rfl⟩
 go_wp2_with (go_big_skip)
 refine (at_2.out).mono ?_
 rintro e w' ⟨rfl,rfl⟩
 clear at_1 at_2
 go_wp2_with (go_big_skip)
 go_ret
 exact ⟨rfl,rfl⟩
end
section
theorem diff_digit (B x p y q c b mh ml low c1 h l under c2 s c3:Nat) (e1:ml+B*mh=x*p) (e2:low+B*c1=ml+c) (e3:l+B*h=y*q) (e4:under+B*c2=l+b) (e5:s+under=low+B*c3) :
  s+y*q+B*(mh+c1)+b=c+x*p+B*(h+c2+c3):=by
 grind
theorem diff_sum (P B V X Y x p y q c b c' b' s:Nat) (hv:V+Y*q+P*c=X*p+P*b) (e:s+y*q+B*c' + b=c+x*p+B*b') :
  (V+P*s)+(Y+P*y)*q+P*B*c' = (X+P*x)*p+P*B*b':=by
 have e2:P*(s+y*q+B*c' + b)=P*(c+x*p+B*b'):=by rw [e]
 grind
theorem diff_borrow (B y q b h l under c2 c3:Nat) (hq:q<B) (hy:y<B) (hb:b<B) (e3:l+B*h=y*q) (e4:under+B*c2=l+b) (h3:c3≤1) (h0:under=0→c3=0):h+c2+c3<B:=by
 obtain ⟨n,rfl⟩:∃ n,B=n+1:=⟨B - 1,by omega⟩
 have h1:y*q≤n*n:=Nat.mul_le_mul (by omega) (by omega)
 have h2:under+(n+1)*(h+c2)=y*q+b:=by grind
 have h4:under+(n+1)*(h+c2)≤(n+1)*n:=by
  have:(n+1)*n=n*n+n:=by grind
  omega
 have h5:h+c2≤n:=Nat.le_of_mul_le_mul_left (Nat.le_trans (Nat.le_add_left _ _) h4) (by omega)
 rcases Nat.lt_or_ge (h+c2) n with h6 | h6
 ·omega
 ·have h7:h+c2=n:=by omega
  rw [h7] at h4
  have:=h0 (by omega)
  omega
theorem diff_end (P V D c b:Nat) (hV:V<P) (hD:D<P) (h:V+P*c=D+P*b):V=D:=by
 rcases Nat.lt_trichotomy c b with h1 | h1 | h1
 ·have:=Nat.mul_le_mul_left P h1
  rw [Nat.mul_succ] at this
  omega
 ·subst h1;omega
 ·have:=Nat.mul_le_mul_left P h1
  rw [Nat.mul_succ] at this
  omega
def Diff (zs xs ys dk:List Nat) (p q k c b:Nat):Prop:=
 Part zs dk k∧c<B64∧b<B64∧val (dk.take k)+val (ys.take k)*q+B64 ^ k*c=val (xs.take k)*p+B64 ^ k*b
theorem Diff.start {zs:List Nat} (xs ys:List Nat) (p q:Nat) (h:Dig zs):Diff zs xs ys zs p q 0 0 0:=⟨Part.start h,B64_pos,B64_pos,by simp [val_nil]⟩
theorem Diff.step {zs xs ys dk:List Nat} {p q k c b c' b' s:Nat} (h:Diff zs xs ys dk p q k c b) (hk:k<zs.length) (hs:s<B64) (hc:c' < B64) (hb:b' < B64) (e:s+ys[k]?.getD 0*q+B64*c' + b=c+xs[k]?.getD 0*p+B64*b') :
  Diff zs xs ys (dk.set k s) p q (k+1) c' b':=by
 obtain ⟨hp,_,_,hv⟩:=h
 refine ⟨hp.step hs,hc,hb,?_⟩
 rw [val_set_take dk k s (by rw [hp.len];exact hk),val_take_getD xs k,val_take_getD ys k,Nat.pow_succ]
 exact diff_sum (B64 ^ k) B64 _ _ _ _ p _ q c b c' b' s hv e
theorem Diff.done {zs xs ys dk:List Nat} {p q k c b:Nat} (h:Diff zs xs ys dk p q k c b) (hk:zs.length=k) (hx:xs.length≤k) (hy:ys.length≤k) (hle:val ys*q≤val xs*p) (hlt:val xs*p - val ys*q<B64 ^ k):val dk=val xs*p - val ys*q:=by
 obtain ⟨hp,_,_,hv⟩:=h
 have hl:dk.length=k:=hp.len.trans hk
 have hd:=val_lt hp.dig
 rw [List.take_of_length_le (by omega),List.take_of_length_le hx,List.take_of_length_le hy] at hv
 rw [hl] at hd
 exact diff_end (B64 ^ k) _ _ c b hd hlt (by omega)
end
end Go.Proofs.YtmijlcldmefggaaGreatDoor
