/- What the proof rests on, part 5. -/
import Derived.Test.YtmijlcldmefggaaGreatDoorZ04
namespace Go.Proofs.YtmijlcldmefggaaGreatDoor
set_option maxRecDepth 100000
set_option maxHeartbeats 80000000
section
open Go.RowKit Go.Sort
def RetM (w:World) (n:Nat) (e:Ending) (w':World):Prop:=∃ c d,e=.returned (.agg #[c,d])∧IsMag w' c d n∧Below w.heap.size w w'
theorem nilSlice_run (w:World) (a:Option Addr) (n c:Nat):(binOp .eql 26 (.slice a n c) (.slice none 0 0)).run Tryz.prog w=.ok (.bool a.isNone) w:=
 Lib.run_eql_slice_nil w 26 24 a n c 0 0 Tryz.underlying26
theorem someSlice_run (w:World) (a:Option Addr) (n c:Nat):(binOp .neq 26 (.slice a n c) (.slice none 0 0)).run Tryz.prog w=.ok (.bool (!a.isNone)) w:=
 Go.run_neq_slice_nil_any w 26 24 a n c 0 0 Tryz.underlying26
theorem shorten_nil (w:World):Calls Tryz.prog 104 #[.slice none 0 0] w (RetM w 0):=by
 go_enter Tryz.func104,Tryz.ntmps104
 go_wp2
 refine bodyPost_ret (v:=.agg #[.int .u64 0,.slice none 0 0]) (by simp [results,Tryz.results104,go_sem]) rfl ⟨_,_,rfl,.inl ⟨B64_pos,rfl,rfl⟩,?_⟩
 exact (Below.refl _ _).alloc (Nat.le_refl _) _
theorem shorten_empty (b o cp:Nat) (w:World):Calls Tryz.prog 104 #[.slice (some ⟨b,o,none⟩) 0 cp] w (RetM w 0):=by
 go_enter Tryz.func104,Tryz.ntmps104
 go_wp2
 refine bodyPost_ret (v:=.agg #[.int .u64 0,.slice none 0 0]) (by simp [results,Tryz.results104,go_sem]) rfl ⟨_,_,rfl,.inl ⟨B64_pos,rfl,rfl⟩,?_⟩
 exact (Below.refl _ _).alloc (Nat.le_refl _) _
theorem shorten_one (b o cp x:Nat) (w:World) (hx:x<B64) (hb:b<w.heap.size) (cx:w.cell? ⟨b,o,none⟩=some (.int .u64 (x:Int))):Calls Tryz.prog 104 #[.slice (some ⟨b,o,none⟩) 1 cp] w (RetM w x):=by
 have hne:¬ w.heap.size=b:=by omega
 have HX:=hid hx
 clear hx
 go_enter Tryz.func104,Tryz.ntmps104
 go_wp2
 refine bodyPost_ret (v:=.agg #[.int .u64 (x:Int),.slice none 0 0]) (by simp [results,Tryz.results104,go_sem]) rfl ⟨_,_,rfl,.inl ⟨HX.out,rfl,rfl⟩,?_⟩
 exact (Below.refl _ _).alloc (Nat.le_refl _) _
theorem shorten_long (b o cp n:Nat) (xs:List Nat) (w:World) (hn:xs.length=n+2) (hcp:n+2≤cp) (hs:n≤549755813888) (hb:b<w.heap.size) (hx:Dig xs) (ht:Trimmed xs) (hd:Digs w b o xs):Calls Tryz.prog 104 #[.slice (some ⟨b,o,none⟩) (n+2) cp] w (RetM w (val xs)):=by
 have t1:((n:Int)+2 == 0)=false:=by rw [beq_eq_false_iff_ne];omega
 have t2:((n:Int)+2 == 1)=false:=by rw [beq_eq_false_iff_ne];omega
 have HN:=hid hn
 have HD:=hid hd
 clear hn hd
 go_enter Tryz.func104,Tryz.ntmps104
 go_wp2
 refine bodyPost_ret (v:=.agg #[.int .u64 0,.slice (some ⟨b,o,none⟩) (n+2) cp]) (by simp [results,Tryz.results104,go_sem]) rfl ⟨_,_,rfl,.inr ⟨b,o,cp,xs,rfl,by rw [HN.out],by simp;omega,by rw [HN.out];omega,by rw [HN.out];exact hcp,hx,ht,rfl,HD.out.below (B:=w.heap.size) ?_ hb⟩,?_⟩
 ·exact (Below.refl _ _).alloc (Nat.le_refl _) _
 ·exact (Below.refl _ _).alloc (Nat.le_refl _) _
theorem pow_lt_iff {a b:Nat} (h:B64 ^ a<B64 ^ b):a<b:=by
 rcases Nat.lt_or_ge a b with h1 | h1
 ·exact h1
 ·have:=Nat.pow_le_pow_right B64_pos h1
  omega
theorem len_le {xs:List Nat} {k:Nat} (ht:Trimmed xs) (h:val xs<B64 ^ k):xs.length≤k:=by
 rcases Nat.eq_zero_or_pos xs.length with h0 | h0
 ·omega
 ·have h1:=val_ge_of_trimmed ht (by intro e;subst e;simp at h0)
  have:=pow_lt_iff (Nat.lt_of_le_of_lt h1 h)
  omega
theorem shorten_slice (b o cp len:Nat) (xs:List Nat) (w:World) (hn:xs.length=len) (hcp:len≤cp) (hs:len≤549755813888) (hb:b<w.heap.size) (hx:Dig xs) (ht:Trimmed xs) (hd:Digs w b o xs):Calls Tryz.prog 104 #[.slice (some ⟨b,o,none⟩) len cp] w (RetM w (val xs)):=by
 match len,hn,hcp with
 | 0,hn,_ =>
  obtain rfl:xs=[]:=List.length_eq_zero_iff.1 hn
  exact shorten_empty b o cp w
 | 1,hn,_ =>
  obtain ⟨x,rfl⟩:∃ x,xs=[x]:=List.length_eq_one_iff.1 hn
  have:=hd 0 (by simp)
  rw [Nat.add_zero] at this
  have h2:=shorten_one b o cp x w (hx x (by simp)) hb this
  rw [show val [x]=x by simp [val]]
  exact h2
 | n+2,hn,hcp=>exact shorten_long b o cp n xs w hn hcp (by omega) hb hx ht hd
theorem shorten_calls (v:Value) (n k:Nat) (w:World) (h:NatV w v n) (hk:k≤549755813888) (hs:n<B64 ^ k):Calls Tryz.prog 104 #[v] w (RetM w n):=by
 rcases h with ⟨rfl,rfl⟩ | ⟨b,o,cp,ds,rfl,h2,h3,h4,h5,rfl,h7⟩
 ·exact shorten_nil w
 ·exact shorten_slice b o cp _ ds w rfl h3 (Nat.le_trans (len_le h5 hs) hk) h2 h4 h5 h7
theorem RetDigits.natV {w w':World} {n:Nat} {e:Ending} (h:RetDigits w n e w'):∃ v,e=.returned v∧NatV w' v n∧Below w.heap.size w w':=by
 obtain ⟨b,o,cp,ds,he,h2,h3,h4,h5,h6,h7,h8⟩:=h
 exact ⟨_,he,.inr ⟨b,o,cp,ds,rfl,h2,h3,h4,h5,h6,h7⟩,h8⟩
theorem digits_long (b o cp len:Nat) (w:World):Calls Tryz.prog 108 #[.agg #[.int .u64 0,.slice (some ⟨b,o,none⟩) len cp]] w fun e w'=>e=.returned (.slice (some ⟨b,o,none⟩) len cp)∧Below w.heap.size w w':=by
 have h1:=someSlice_run
 go_enter Tryz.func108,Tryz.ntmps108
 go_wp2
 go_ret
 exact ⟨rfl,(Below.refl _ _).alloc (Nat.le_refl _) _⟩
theorem digits_word (x:Nat) (hx:x<B64) (w:World):Calls Tryz.prog 108 #[.agg #[.int .u64 (x:Int),.slice none 0 0]] w (RetDigits w x):=by
 have h1:=someSlice_run
 have HX:=hid hx
 clear hx
 go_enter Tryz.func108,Tryz.ntmps108
 go_wp2_with fail
 have hd:Digs ((w.alloc (Obj.cells #[Value.int IntKind.u64 ↑x,Value.slice none 0 0] 28)).alloc (Obj.cells #[Value.int IntKind.u64 ↑x] 24)) (w.heap.size+1) 0 [x]:=fun j hj=>by
  obtain rfl:j=0:=by simpa using hj
  rw [Nat.add_zero,World.cell?_alloc_at _ _ _ _ (by simp)]
  rfl
 refine (trim_callsN 1 (w.heap.size+1) 0 1 [x] _ hd (by simp) (by simp) rfl).mono ?_
 rintro e w' ⟨k,rfl,ht,rfl⟩
 have HT:=hid ht
 clear ht
 go_wp2
 go_ret
 refine RetDigits.mk (by simp) (fun d hd=>by simp at hd;rw [hd];exact HX.out) HT.out (by simp [val]) hd ?_
 exact ((Below.refl _ _).alloc (Nat.le_refl _) _).alloc (by simp) _
theorem digits_calls (c d:Value) (n:Nat) (w:World) (h:IsMag w c d n):Calls Tryz.prog 108 #[.agg #[c,d]] w (RetDigits w n):=by
 rcases h with ⟨h0,rfl,rfl⟩ | ⟨b,o,k,xs,rfl,rfl,h3,_,h5,h6,h7,h8,h9⟩
 ·exact digits_word n h0 w
 ·refine (digits_long b o k xs.length w).mono ?_
  rintro e w' ⟨rfl,hb⟩
  exact ⟨b,o,k,xs,rfl,Nat.lt_of_lt_of_le h3 hb.size,h5,h6,h7,h8,h9.below hb h3,hb⟩
abbrev C2 (w:World) (b:Nat) (v0 v1:Value):Prop:=w.cell? ⟨b,0,none⟩=some v0∧w.cell? ⟨b,1,none⟩=some v1
abbrev S2 (w w':World) (c1 d1 c2 d2:Value):Prop:=
 C2 w' w.heap.size c1 d1∧C2 w' (w.heap.size+1) c2 d2∧(Below w.heap.size w w'∧w.heap.size+2<w'.heap.size∧(w'.cell? ⟨w.heap.size+2,0,none⟩).isSome=true∧(∃ p l c,w'.cell? ⟨w.heap.size+2,1,none⟩=some (.slice p l c))∧w'.frozen? ⟨w.heap.size+2,0,none⟩=false∧w'.frozen? ⟨w.heap.size+2,1,none⟩=false)
theorem C2.below {w w':World} {b B:Nat} {v0 v1:Value} (h:C2 w b v0 v1) (hb:Below B w w') (hB:b<B):C2 w' b v0 v1:=
 ⟨(hb.cell (p:=⟨b,0,none⟩) hB).trans h.1,(hb.cell (p:=⟨b,1,none⟩) hB).trans h.2⟩
theorem S2.next {w W W':World} {c1 d1 c2 d2:Value} (h:S2 w W c1 d1 c2 d2) (hb:Below W.heap.size W W'):S2 w W' c1 d1 c2 d2:=by
 obtain ⟨h1,h2,h3,h4,h5,h6,h7,h8⟩:=h
 refine ⟨C2.below h1 hb (by omega),C2.below h2 hb (by omega),h3.trans (hb.mono h3.size),Nat.lt_of_lt_of_le h4 hb.size,?_,?_,?_,?_⟩
 ·rw [hb.cell (p:=⟨w.heap.size+2,0,none⟩) h4];exact h5
 ·rw [hb.cell (p:=⟨w.heap.size+2,1,none⟩) h4];exact h6
 ·rw [hb.frozen (p:=⟨w.heap.size+2,0,none⟩) h4];exact h7
 ·rw [hb.frozen (p:=⟨w.heap.size+2,1,none⟩) h4];exact h8
theorem S2.start (w:World) (c1 d1 c2 d2 z1:Value) (t1 t2 t3:TypeId):S2 w (((w.alloc (.cells #[c1,d1] t1)).alloc (.cells #[c2,d2] t2)).alloc (.cells #[z1,.slice none 0 0] t3)).drew c1 d1 c2 d2:=by
 refine ⟨⟨?_,?_⟩,⟨?_,?_⟩,?_,?_,?_,?_,?_,?_⟩
 ·go_simp
 ·go_simp
 ·go_simp
 ·go_simp
 ·exact ((((Below.refl _ _).alloc (Nat.le_refl _) _).alloc (by simp) _).alloc (by simp;omega) _).drew
 ·simp [World.drew]
 ·go_simp
 ·exact ⟨none,0,0,by go_simp⟩
 ·go_simp
 ·go_simp
end
section
open Go.RowKit Go.Sort
theorem isSome_setCell (w:World) (p a:Addr) (v:Value) (h:(w.cell? a).isSome=true):((w.setCell p v).cell? a).isSome=true:=by
 by_cases e:p=a
 ·subst e
  obtain ⟨u,hu⟩:=Option.isSome_iff_exists.1 h
  rw [World.cell?_setCell_same _ _ _ hu]
  rfl
 ·rw [World.cell?_setCell_other _ _ _ _ e];exact h
theorem S2.read {w W:World} {c1 d1 c2 d2:Value} (u v:Value) (h:S2 w W c1 d1 c2 d2) :
  ((W.setCell ⟨w.heap.size+2,0,none⟩ u).setCell ⟨w.heap.size+2,1,none⟩ v).cell? ⟨w.heap.size+2,0,none⟩=some u ∧
  ((W.setCell ⟨w.heap.size+2,0,none⟩ u).setCell ⟨w.heap.size+2,1,none⟩ v).cell? ⟨w.heap.size+2,1,none⟩=some v:=by
 obtain ⟨y1,hy1⟩:=Option.isSome_iff_exists.1 h.2.2.2.2.1
 obtain ⟨p,l,c,hy2⟩:=h.2.2.2.2.2.1
 refine ⟨?_,?_⟩
 ·rw [World.cell?_setCell_other _ _ _ _ (by simp),World.cell?_setCell_same _ _ _ hy1]
 ·refine World.cell?_setCell_same (u:=.slice p l c) _ _ _ ?_
  rw [World.cell?_setCell_other _ _ _ _ (by simp)];exact hy2
theorem S2.store {w W:World} {c1 d1 c2 d2 u:Value} {p:Option Addr} {l c:Nat} (h:S2 w W c1 d1 c2 d2):S2 w ((W.setCell ⟨w.heap.size+2,0,none⟩ u).setCell ⟨w.heap.size+2,1,none⟩ (.slice p l c)) c1 d1 c2 d2:=by
 have hr:=h.read u (.slice p l c)
 obtain ⟨⟨h1,h1'⟩,⟨h2,h2'⟩,h3,h4,h5,h6,h7,h8⟩:=h
 refine ⟨⟨?_,?_⟩,⟨?_,?_⟩,?_,?_,?_,?_,?_,?_⟩
 ·rw [World.cell?_setCell_far _ _ _ _ (by simp),World.cell?_setCell_far _ _ _ _ (by simp)];exact h1
 ·rw [World.cell?_setCell_far _ _ _ _ (by simp),World.cell?_setCell_far _ _ _ _ (by simp)];exact h1'
 ·rw [World.cell?_setCell_far _ _ _ _ (by simp),World.cell?_setCell_far _ _ _ _ (by simp)];exact h2
 ·rw [World.cell?_setCell_far _ _ _ _ (by simp),World.cell?_setCell_far _ _ _ _ (by simp)];exact h2'
 ·exact (h3.setCell (by simp) _).setCell (by simp) _
 ·simpa using h4
 ·exact isSome_setCell _ _ _ _ (isSome_setCell _ _ _ _ h5)
 ·exact ⟨_,_,_,hr.2⟩
 ·rw [World.frozen?_setCell,World.frozen?_setCell];exact h7
 ·rw [World.frozen?_setCell,World.frozen?_setCell];exact h8
theorem S2.mag {w W:World} {c1 d1 c2 d2 u v c d:Value} {n:Nat} (h:S2 w W c1 d1 c2 d2) (hm:IsMag W c d n):IsMag ((W.setCell ⟨w.heap.size+2,0,none⟩ u).setCell ⟨w.heap.size+2,1,none⟩ v) c d n:=by
 obtain ⟨p,l,c',hy⟩:=h.2.2.2.2.2.1
 rcases hm with h0 | ⟨b,o,k,xs,h1,h2,h3,h4,h5,h6,h7,h8,h9⟩
 ·exact .inl h0
 ·refine .inr ⟨b,o,k,xs,h1,h2,by simpa using h3,h4,h5,h6,h7,h8,fun j hj=>?_⟩
  have n1:(⟨w.heap.size+2,1,none⟩:Addr)≠⟨b,o+j,none⟩:=fun e=>by
   have:=h9 j hj
   rw [← e,hy] at this
   cases this
  have n0:(⟨w.heap.size+2,0,none⟩:Addr)≠⟨b,o+j,none⟩:=fun e=>by
   have hj0:o=0∧j=0∧b=w.heap.size+2:=by
    simp only [Addr.mk.injEq] at e
    omega
   obtain ⟨rfl,rfl,rfl⟩:=hj0
   have:=h9 1 (by omega)
   rw [show 0+1=1 from rfl,hy] at this
   cases this
  rw [World.cell?_setCell_other _ _ _ _ n1,World.cell?_setCell_other _ _ _ _ n0]
  exact h9 j hj
theorem S2.slot {w W:World} {c1 d1 c2 d2:Value} (h:S2 w W c1 d1 c2 d2):(∃ r1,W.cell? ⟨w.heap.size+1+1,0,none⟩=some r1)∧(∃ r2,W.cell? ⟨w.heap.size+1+1,1,none⟩=some r2)∧W.frozen? ⟨w.heap.size+1+1,0,none⟩=false∧W.frozen? ⟨w.heap.size+1+1,1,none⟩=false:=
 ⟨Option.isSome_iff_exists.1 h.2.2.2.2.1,⟨_,h.2.2.2.2.2.1.choose_spec.choose_spec.choose_spec⟩,h.2.2.2.2.2.2.1,h.2.2.2.2.2.2.2⟩
theorem S2.done {w W:World} {c1 d1 c2 d2 c:Value} {p:Option Addr} {l cc n:Nat} (h:S2 w W c1 d1 c2 d2) (hm:IsMag W c (.slice p l cc) n) :
  ((W.setCell ⟨w.heap.size+1+1,0,none⟩ c).setCell ⟨w.heap.size+1+1,1,none⟩ (.slice p l cc)).cell? ⟨w.heap.size+1+1,0,none⟩=some c ∧
  ((W.setCell ⟨w.heap.size+1+1,0,none⟩ c).setCell ⟨w.heap.size+1+1,1,none⟩ (.slice p l cc)).cell? ⟨w.heap.size+1+1,1,none⟩=some (.slice p l cc) ∧
  Hid (IsMag ((W.setCell ⟨w.heap.size+1+1,0,none⟩ c).setCell ⟨w.heap.size+1+1,1,none⟩ (.slice p l cc)) c (.slice p l cc) n∧Below w.heap.size w ((W.setCell ⟨w.heap.size+1+1,0,none⟩ c).setCell ⟨w.heap.size+1+1,1,none⟩ (.slice p l cc))):=
 ⟨(h.read _ _).1,(h.read _ _).2,hid ⟨h.mag hm,(h.store (u:=c) (p:=p) (l:=l) (c:=cc)).2.2.1⟩⟩
theorem isMag_word {w:World} {c d:Value} {n:Nat} (h:IsMag w c d n) (hn:n<B64):c=.int .u64 (n:Int)∧d=.slice none 0 0:=by
 rcases h with ⟨_,h1,h2⟩ | ⟨b,o,k,xs,_,_,_,h2,_,_,h5,h6,_⟩
 ·exact ⟨h1,h2⟩
 ·have h7:=val_ge_of_trimmed h5 (by intro e;subst e;simp at h2)
  have h8:B64 ^ 1≤B64 ^ (xs.length - 1):=Nat.pow_le_pow_right B64_pos (by omega)
  rw [Nat.pow_one] at h8
  omega
theorem isMag_long {w:World} {c:Value} {b o l k n:Nat} (h:IsMag w c (.slice (some ⟨b,o,none⟩) l k) n):B64≤n:=by
 rcases Nat.lt_or_ge n B64 with h0 | h0
 ·have:=(isMag_word h h0).2
  cases this
 ·exact h0
theorem isOne_run (x:Int) (d:Value) (w:World):Calls Tryz.prog 101 #[.agg #[.int .u64 x,d]] w fun e w'=>e=.returned (.bool (x == 1))∧Below w.heap.size w w':=by
 go_enter Tryz.func101,Tryz.ntmps101
 go_wp2
 go_ret
 exact ⟨rfl,(Below.refl _ _).alloc (Nat.le_refl _) _⟩
theorem isOne_calls (c d:Value) (n:Nat) (w:World) (h:IsMag w c d n):Calls Tryz.prog 101 #[.agg #[c,d]] w fun e w'=>e=.returned (.bool (n == 1))∧Below w.heap.size w w':=by
 rcases Nat.lt_or_ge n B64 with h0 | h0
 ·obtain ⟨rfl,rfl⟩:=isMag_word h h0
  refine (isOne_run n _ w).mono ?_
  rintro e w' ⟨rfl,hb⟩
  refine ⟨?_,hb⟩
  congr 2
  rw [Bool.eq_iff_iff,beq_iff_eq,beq_iff_eq]
  omega
 ·rcases h with ⟨h1,_⟩ | ⟨b,o,k,xs,rfl,rfl,_⟩
  ·omega
  ·refine (isOne_run 0 _ w).mono ?_
   rintro e w' ⟨rfl,hb⟩
   refine ⟨?_,hb⟩
   have:(n == 1)=false:=by rw [beq_eq_false_iff_ne];unfold B64 at h0;omega
   rw [this]
   rfl
theorem isZero_word (x:Int) (w:World):Calls Tryz.prog 61 #[.agg #[.int .u64 x,.slice none 0 0]] w fun e w'=>e=.returned (.bool (x == 0))∧Below w.heap.size w w':=by
 have hn:=nilSlice_run
 go_enter Tryz.func61,Tryz.ntmps61
 by_cases hx:(x == 0)=true
 ·go_wp2
  go_ret
  exact ⟨by rw [hx];rfl,(Below.refl _ _).alloc (Nat.le_refl _) _⟩
 ·replace hx:(x == 0)=false:=by simpa using hx
  go_wp2
  go_ret
  exact ⟨by rw [hx];rfl,(Below.refl _ _).alloc (Nat.le_refl _) _⟩
theorem isZero_long (b o l k:Nat) (w:World):Calls Tryz.prog 61 #[.agg #[.int .u64 0,.slice (some ⟨b,o,none⟩) l k]] w fun e w'=>e=.returned (.bool false)∧Below w.heap.size w w':=by
 have hn:=nilSlice_run
 go_enter Tryz.func61,Tryz.ntmps61
 go_wp2
 go_ret
 exact ⟨rfl,(Below.refl _ _).alloc (Nat.le_refl _) _⟩
theorem isZero_calls (c d:Value) (n:Nat) (w:World) (h:IsMag w c d n):Calls Tryz.prog 61 #[.agg #[c,d]] w fun e w'=>e=.returned (.bool (n == 0))∧Below w.heap.size w w':=by
 rcases Nat.lt_or_ge n B64 with h0 | h0
 ·obtain ⟨rfl,rfl⟩:=isMag_word h h0
  refine (isZero_word n w).mono ?_
  rintro e w' ⟨rfl,hb⟩
  refine ⟨?_,hb⟩
  congr 2
  rw [Bool.eq_iff_iff,beq_iff_eq,beq_iff_eq]
  omega
 ·rcases h with ⟨h1,_⟩ | ⟨b,o,k,xs,rfl,rfl,_⟩
  ·omega
  ·refine (isZero_long b o _ k w).mono ?_
   rintro e w' ⟨rfl,hb⟩
   refine ⟨?_,hb⟩
   have:(n == 0)=false:=by rw [beq_eq_false_iff_ne];unfold B64 at h0;omega
   rw [this]
theorem RetM.shape {w w':World} {n:Nat} {e:Ending} (h:RetM w n e w'):∃ (x:Int) (p:Option Addr) (l c:Nat),e=.returned (.agg #[.int .u64 x,.slice p l c])∧IsMag w' (.int .u64 x) (.slice p l c) n∧Below w.heap.size w w':=by
 obtain ⟨c,d,rfl,hm,hb⟩:=h
 rcases id hm with ⟨_,rfl,rfl⟩ | ⟨b,o,k,xs,rfl,rfl,_⟩
 ·exact ⟨_,_,_,_,rfl,hm,hb⟩
 ·exact ⟨_,_,_,_,rfl,hm,hb⟩
theorem add_lt_pow {a b k:Nat} (ha:a<B64 ^ k) (hb:b<B64 ^ k):a+b<B64 ^ (k+1):=by
 rw [Nat.pow_succ]
 have h:B64 ^ k*2≤B64 ^ k*B64:=Nat.mul_le_mul_left _ (by decide)
 omega
theorem mplus_long1 (p1 q1 l1 m1:Nat) (c2 d2:Value) (a b k:Nat) (w:World) (ha:IsMag w (.int .u64 0) (.slice (some ⟨p1,q1,none⟩) l1 m1) a) (hb:IsMag w (c2) (d2) b) (hk:k≤137438953472) (ka:a<B64 ^ k) (kb:b<B64 ^ k) :
  Calls Tryz.prog 99 #[.agg #[.int .u64 0,.slice (some ⟨p1,q1,none⟩) l1 m1],.agg #[c2,d2]] w (RetM w (a+b)):=by
 have hn:=nilSlice_run
 go_enter Tryz.func99,Tryz.ntmps99
 go_wp2_with (go_big_skip)
 go_region_held3 (fun w'=>S2 w w' (.int .u64 0) (.slice (some ⟨p1,q1,none⟩) l1 m1) (c2) (d2))
  ((first | assumption | exact S2.start _ _ _ _ _ _ _ _ _ | exact S2.next (by assumption) (by assumption) | exact S2.store (by assumption)))
  (first
   | (go_at_call_of 108 (Value.agg #[.int .u64 0,.slice (some ⟨p1,q1,none⟩) l1 m1]);refine (digits_calls _ _ a _ ?_).mono ?_;exact ha.mono (‹S2 w _ (.int .u64 0) (.slice (some ⟨p1,q1,none⟩) l1 m1) (c2) (d2)›).2.2.1 (Nat.le_refl _);rintro e wA ⟨b1,o1,cp1,xs,rfl,hb1,hl1,hd1,ht1,hv1,hD1,hBA⟩)
   | (go_at_call_of 108 (Value.agg #[c2,d2]);refine (digits_calls _ _ b _ ?_).mono ?_;exact hb.mono (‹S2 w _ (.int .u64 0) (.slice (some ⟨p1,q1,none⟩) l1 m1) (c2) (d2)›).2.2.1 (Nat.le_refl _);rintro e wB ⟨b2,o2,cp2,ys,rfl,hb2,hl2,hd2,ht2,hv2,hD2,hBB⟩)
   | (go_at_call 154;refine (plus_calls _ _ b1 o1 cp1 b2 o2 cp2 xs ys _ ?_ ?_ ?_ ?_ hd1 hd2 ?_ ?_ rfl rfl).mono ?_;(first | exact hD1.below hBB hb1 | exact hD1);(first | exact hD2 | exact hD2.below hBA hb2);(first | exact Nat.lt_of_lt_of_le hb1 hBB.size | exact hb1);(first | exact hb2 | exact Nat.lt_of_lt_of_le hb2 hBA.size);exact Nat.le_trans (len_le ht1 (by rw [hv1];exact ka)) (by omega);exact Nat.le_trans (len_le ht2 (by rw [hv2];exact kb)) (by omega);rintro e wC ⟨b3,o3,cp3,zs,rfl,hb3,hl3,hd3,ht3,hv3,hD3,hBC⟩;rw [hv1,hv2] at hv3)
   | (go_at_call 104;refine (shorten_slice b3 o3 cp3 zs.length zs _ rfl hl3 ?_ hb3 hd3 ht3 hD3).mono ?_;exact Nat.le_trans (len_le ht3 (by rw [hv3];exact (add_lt_pow ka kb))) (by omega);rintro e wD hret;obtain ⟨x,p,l,cc,rfl,hm,hBD⟩:=hret.shape;rw [hv3] at hm;have hSS:=S2.next ‹S2 w _ (.int .u64 0) (.slice (some ⟨p1,q1,none⟩) l1 m1) (c2) (d2)› hBD;obtain ⟨⟨y1,hy1⟩,⟨y2,hy2⟩,hf1,hf2⟩:=hSS.slot;obtain ⟨hz1,hz2,hHm⟩:=hSS.done hm;clear hret hm))
 all_goals go_wp2
 all_goals
  refine bodyPost_ret (v:=.agg #[.int .u64 x,.slice p l cc]) (by simp [results,Tryz.results99,go_sem,hz1,hz2]) rfl ⟨_,_,rfl,hHm.out.1,hHm.out.2⟩
theorem mplus_long2 (x0 p1 q1 l1 m1:Nat) (a b k:Nat) (w:World) (ha:IsMag w (.int .u64 (x0:Int)) (.slice none 0 0) a) (hb:IsMag w (.int .u64 0) (.slice (some ⟨p1,q1,none⟩) l1 m1) b) (hk:k≤137438953472) (ka:a<B64 ^ k) (kb:b<B64 ^ k) :
  Calls Tryz.prog 99 #[.agg #[.int .u64 (x0:Int),.slice none 0 0],.agg #[.int .u64 0,.slice (some ⟨p1,q1,none⟩) l1 m1]] w (RetM w (a+b)):=by
 have hn:=nilSlice_run
 go_enter Tryz.func99,Tryz.ntmps99
 go_wp2_with (go_big_skip)
 go_region_held3 (fun w'=>S2 w w' (.int .u64 (x0:Int)) (.slice none 0 0) (.int .u64 0) (.slice (some ⟨p1,q1,none⟩) l1 m1))
  ((first | assumption | exact S2.start _ _ _ _ _ _ _ _ _ | exact S2.next (by assumption) (by assumption) | exact S2.store (by assumption)))
  (first
   | (go_at_call_of 108 (Value.agg #[.int .u64 (x0:Int),.slice none 0 0]);refine (digits_calls _ _ a _ ?_).mono ?_;exact ha.mono (‹S2 w _ (.int .u64 (x0:Int)) (.slice none 0 0) (.int .u64 0) (.slice (some ⟨p1,q1,none⟩) l1 m1)›).2.2.1 (Nat.le_refl _);rintro e wA ⟨b1,o1,cp1,xs,rfl,hb1,hl1,hd1,ht1,hv1,hD1,hBA⟩)
   | (go_at_call_of 108 (Value.agg #[.int .u64 0,.slice (some ⟨p1,q1,none⟩) l1 m1]);refine (digits_calls _ _ b _ ?_).mono ?_;exact hb.mono (‹S2 w _ (.int .u64 (x0:Int)) (.slice none 0 0) (.int .u64 0) (.slice (some ⟨p1,q1,none⟩) l1 m1)›).2.2.1 (Nat.le_refl _);rintro e wB ⟨b2,o2,cp2,ys,rfl,hb2,hl2,hd2,ht2,hv2,hD2,hBB⟩)
   | (go_at_call 154;refine (plus_calls _ _ b1 o1 cp1 b2 o2 cp2 xs ys _ ?_ ?_ ?_ ?_ hd1 hd2 ?_ ?_ rfl rfl).mono ?_;(first | exact hD1.below hBB hb1 | exact hD1);(first | exact hD2 | exact hD2.below hBA hb2);(first | exact Nat.lt_of_lt_of_le hb1 hBB.size | exact hb1);(first | exact hb2 | exact Nat.lt_of_lt_of_le hb2 hBA.size);exact Nat.le_trans (len_le ht1 (by rw [hv1];exact ka)) (by omega);exact Nat.le_trans (len_le ht2 (by rw [hv2];exact kb)) (by omega);rintro e wC ⟨b3,o3,cp3,zs,rfl,hb3,hl3,hd3,ht3,hv3,hD3,hBC⟩;rw [hv1,hv2] at hv3)
   | (go_at_call 104;refine (shorten_slice b3 o3 cp3 zs.length zs _ rfl hl3 ?_ hb3 hd3 ht3 hD3).mono ?_;exact Nat.le_trans (len_le ht3 (by rw [hv3];exact (add_lt_pow ka kb))) (by omega);rintro e wD hret;obtain ⟨x,p,l,cc,rfl,hm,hBD⟩:=hret.shape;rw [hv3] at hm;have hSS:=S2.next ‹S2 w _ (.int .u64 (x0:Int)) (.slice none 0 0) (.int .u64 0) (.slice (some ⟨p1,q1,none⟩) l1 m1)› hBD;obtain ⟨⟨y1,hy1⟩,⟨y2,hy2⟩,hf1,hf2⟩:=hSS.slot;obtain ⟨hz1,hz2,hHm⟩:=hSS.done hm;clear hret hm))
 all_goals go_wp2
 all_goals
  refine bodyPost_ret (v:=.agg #[.int .u64 x,.slice p l cc]) (by simp [results,Tryz.results99,go_sem,hz1,hz2]) rfl ⟨_,_,rfl,hHm.out.1,hHm.out.2⟩
theorem mplus_carry (x0 y0:Nat) (a b k:Nat) (w:World) (ha:IsMag w (.int .u64 (x0:Int)) (.slice none 0 0) a) (hb:IsMag w (.int .u64 (y0:Int)) (.slice none 0 0) b) (hk:k≤137438953472) (ka:a<B64 ^ k) (kb:b<B64 ^ k) (s0 c0:Nat) (hadd:∀ w:World,(callFunc 153 #[.int .u64 (x0:Int),.int .u64 (y0:Int),.int .u64 0]).run Tryz.prog w=.ok (.value (.tuple #[.int .u64 (s0:Int),.int .u64 (c0:Int)])) w) (hc0:((c0:Int) == 0)=false) :
  Calls Tryz.prog 99 #[.agg #[.int .u64 (x0:Int),.slice none 0 0],.agg #[.int .u64 (y0:Int),.slice none 0 0]] w (RetM w (a+b)):=by
 have hn:=nilSlice_run
 go_enter Tryz.func99,Tryz.ntmps99
 go_wp2_with (go_big_skip)
 go_region_held3 (fun w'=>S2 w w' (.int .u64 (x0:Int)) (.slice none 0 0) (.int .u64 (y0:Int)) (.slice none 0 0))
  ((first | assumption | exact S2.start _ _ _ _ _ _ _ _ _ | exact S2.next (by assumption) (by assumption) | exact S2.store (by assumption)))
  (first
   | (go_at_call_of 108 (Value.agg #[.int .u64 (x0:Int),.slice none 0 0]);refine (digits_calls _ _ a _ ?_).mono ?_;exact ha.mono (‹S2 w _ (.int .u64 (x0:Int)) (.slice none 0 0) (.int .u64 (y0:Int)) (.slice none 0 0)›).2.2.1 (Nat.le_refl _);rintro e wA ⟨b1,o1,cp1,xs,rfl,hb1,hl1,hd1,ht1,hv1,hD1,hBA⟩)
   | (go_at_call_of 108 (Value.agg #[.int .u64 (y0:Int),.slice none 0 0]);refine (digits_calls _ _ b _ ?_).mono ?_;exact hb.mono (‹S2 w _ (.int .u64 (x0:Int)) (.slice none 0 0) (.int .u64 (y0:Int)) (.slice none 0 0)›).2.2.1 (Nat.le_refl _);rintro e wB ⟨b2,o2,cp2,ys,rfl,hb2,hl2,hd2,ht2,hv2,hD2,hBB⟩)
   | (go_at_call 154;refine (plus_calls _ _ b1 o1 cp1 b2 o2 cp2 xs ys _ ?_ ?_ ?_ ?_ hd1 hd2 ?_ ?_ rfl rfl).mono ?_;(first | exact hD1.below hBB hb1 | exact hD1);(first | exact hD2 | exact hD2.below hBA hb2);(first | exact Nat.lt_of_lt_of_le hb1 hBB.size | exact hb1);(first | exact hb2 | exact Nat.lt_of_lt_of_le hb2 hBA.size);exact Nat.le_trans (len_le ht1 (by rw [hv1];exact ka)) (by omega);exact Nat.le_trans (len_le ht2 (by rw [hv2];exact kb)) (by omega);rintro e wC ⟨b3,o3,cp3,zs,rfl,hb3,hl3,hd3,ht3,hv3,hD3,hBC⟩;rw [hv1,hv2] at hv3)
   | (go_at_call 104;refine (shorten_slice b3 o3 cp3 zs.length zs _ rfl hl3 ?_ hb3 hd3 ht3 hD3).mono ?_;exact Nat.le_trans (len_le ht3 (by rw [hv3];exact (add_lt_pow ka kb))) (by omega);rintro e wD hret;obtain ⟨x,p,l,cc,rfl,hm,hBD⟩:=hret.shape;rw [hv3] at hm;have hSS:=S2.next ‹S2 w _ (.int .u64 (x0:Int)) (.slice none 0 0) (.int .u64 (y0:Int)) (.slice none 0 0)› hBD;obtain ⟨⟨y1,hy1⟩,⟨y2,hy2⟩,hf1,hf2⟩:=hSS.slot;obtain ⟨hz1,hz2,hHm⟩:=hSS.done hm;clear hret hm))
 all_goals go_wp2
 all_goals
  refine bodyPost_ret (v:=.agg #[.int .u64 x,.slice p l cc]) (by simp [results,Tryz.results99,go_sem,hz1,hz2]) rfl ⟨_,_,rfl,hHm.out.1,hHm.out.2⟩
theorem mplus_word (x0 y0:Nat) (w:World) (s0:Nat) (hs:s0<B64) (hadd:∀ w:World,(callFunc 153 #[.int .u64 (x0:Int),.int .u64 (y0:Int),.int .u64 0]).run Tryz.prog w=.ok (.value (.tuple #[.int .u64 (s0:Int),.int .u64 0])) w) :
  Calls Tryz.prog 99 #[.agg #[.int .u64 (x0:Int),.slice none 0 0],.agg #[.int .u64 (y0:Int),.slice none 0 0]] w (RetM w s0):=by
 have hn:=nilSlice_run
 have HS:=hid hs
 clear hs
 go_enter Tryz.func99,Tryz.ntmps99
 go_wp2_with (go_big_skip)
 refine bodyPost_ret (v:=.agg #[.int .u64 (s0:Int),.slice none 0 0]) (by simp [results,Tryz.results99,go_sem]) rfl ⟨_,_,rfl,.inl ⟨HS.out,rfl,rfl⟩,?_⟩
 exact (((Below.refl _ _).alloc (Nat.le_refl _) _).alloc (by simp) _).alloc (by simp;omega) _
theorem mplus_calls (a b k:Nat) (c1 d1 c2 d2:Value) (w:World) (ha:IsMag w c1 d1 a) (hb:IsMag w c2 d2 b) (hk:k≤137438953472) (ka:a<B64 ^ k) (kb:b<B64 ^ k) :
  Calls Tryz.prog 99 #[.agg #[c1,d1],.agg #[c2,d2]] w (RetM w (a+b)):=by
 rcases id ha with ⟨ha1,rfl,rfl⟩ | ⟨b1,o1,k1,xs,rfl,rfl,_⟩
 ·rcases id hb with ⟨hb1,rfl,rfl⟩ | ⟨b2,o2,k2,ys,rfl,rfl,_⟩
  ·by_cases hc:addC a b 0=0
   ·have hs:addS a b 0=a+b:=by
     have:=add_spec a b 0
     rw [hc] at this
     omega
    refine hs ▸ mplus_word a b w (addS a b 0) (addS_lt _ _ _) fun w=>?_
    have:=add64_run0 a b w
    rw [hc] at this
    exact this
   ·exact mplus_carry a b a b k w ha hb hk ka kb _ _ (add64_run0 a b) (by rw [beq_eq_false_iff_ne];omega)
  ·exact mplus_long2 _ _ _ _ _ a b k w ha hb hk ka kb
 ·exact mplus_long1 _ _ _ _ _ _ a b k w ha hb hk ka kb
end
section
open Go.RowKit Go.Sort
theorem isMag_digits {w:World} {c:Value} {b o l k n:Nat} (h:IsMag w c (.slice (some ⟨b,o,none⟩) l k) n):∃ xs,xs.length=l∧l≤k∧2≤l∧b<w.heap.size∧Dig xs∧Trimmed xs∧val xs=n∧Digs w b o xs:=by
 rcases h with ⟨_,_,h2⟩ | ⟨b',o',k',xs,h1,h2,h3,h4,h5,h6,h7,h8,h9⟩
 ·cases h2
 ·cases h2
  exact ⟨xs,rfl,h5,h4,h3,h6,h7,h8,h9⟩
theorem len_mono {xs ys:List Nat} (hy:Trimmed ys) (h:val ys≤val xs) (hd:Dig xs):ys.length≤xs.length:=by
 have h1:=val_lt hd
 exact len_le hy (Nat.lt_of_le_of_lt h h1)
theorem mminus_long (p1 q1 l1 m1:Nat) (c2 d2:Value) (a b k:Nat) (w:World) (ha:IsMag w (.int .u64 0) (.slice (some ⟨p1,q1,none⟩) l1 m1) a) (hb:IsMag w (c2) (d2) b) (hba:b≤a) (hk:k≤137438953472) (ka:a<B64 ^ k) :
  Calls Tryz.prog 100 #[.agg #[.int .u64 0,.slice (some ⟨p1,q1,none⟩) l1 m1],.agg #[c2,d2]] w (RetM w (a - b)):=by
 have hn:=nilSlice_run
 go_enter Tryz.func100,Tryz.ntmps100
 go_wp2_with (go_big_skip)
 go_region_held3 (fun w'=>S2 w w' (.int .u64 0) (.slice (some ⟨p1,q1,none⟩) l1 m1) (c2) (d2))
  ((first | assumption | exact S2.start _ _ _ _ _ _ _ _ _ | exact S2.next (by assumption) (by assumption) | exact S2.store (by assumption)))
  (first
   | (go_at_call_of 108 (Value.agg #[c2,d2]);refine (digits_calls _ _ b _ ?_).mono ?_;exact hb.mono (‹S2 w _ (.int .u64 0) (.slice (some ⟨p1,q1,none⟩) l1 m1) (c2) (d2)›).2.2.1 (Nat.le_refl _);rintro e wB ⟨b2,o2,cp2,ys,rfl,hb2,hl2,hd2,ht2,hv2,hD2,hBB⟩)
   | (go_at_call 155;obtain ⟨xs,hlx,hlk,hl2',hb1,hd1,ht1,hv1,hD1⟩:=isMag_digits (ha.mono (‹S2 w _ (.int .u64 0) (.slice (some ⟨p1,q1,none⟩) l1 m1) (c2) (d2)›).2.2.1 (Nat.le_refl _));refine (minus_calls _ _ p1 q1 m1 b2 o2 cp2 xs ys _ hD1 hD2 hb1 hb2 hd1 hd2 ?_ ?_ ?_ hlx rfl).mono ?_;exact Nat.le_trans (len_le ht1 (by rw [hv1];exact ka)) (by omega);exact len_mono ht2 (by rw [hv1,hv2];exact hba) hd1;rw [hv1,hv2];exact hba;rintro e wC ⟨b3,o3,cp3,zs,rfl,hb3,hl3,hd3,ht3,hv3,hD3,hBC⟩;rw [hv1,hv2] at hv3)
   | (go_at_call 104;refine (shorten_slice b3 o3 cp3 zs.length zs _ rfl hl3 ?_ hb3 hd3 ht3 hD3).mono ?_;exact Nat.le_trans (len_le ht3 (by rw [hv3];exact Nat.lt_of_le_of_lt (Nat.sub_le _ _) ka)) (by omega);rintro e wD hret;obtain ⟨x,p,l,cc,rfl,hm,hBD⟩:=hret.shape;rw [hv3] at hm;have hSS:=S2.next ‹S2 w _ (.int .u64 0) (.slice (some ⟨p1,q1,none⟩) l1 m1) (c2) (d2)› hBD;obtain ⟨⟨y1,hy1⟩,⟨y2,hy2⟩,hf1,hf2⟩:=hSS.slot;obtain ⟨hz1,hz2,hHm⟩:=hSS.done hm;clear hret hm))
 all_goals go_wp2
 all_goals
  refine bodyPost_ret (v:=.agg #[.int .u64 x,.slice p l cc]) (by simp [results,Tryz.results100,go_sem,hz1,hz2]) rfl ⟨_,_,rfl,hHm.out.1,hHm.out.2⟩
theorem mminus_word (x0 y0:Nat) (w:World) (hx:x0<B64) (hle:y0≤x0) :
  Calls Tryz.prog 100 #[.agg #[.int .u64 (x0:Int),.slice none 0 0],.agg #[.int .u64 (y0:Int),.slice none 0 0]] w (RetM w (x0 - y0)):=by
 have hn:=nilSlice_run
 have hwr:IntKind.u64.wrap ((x0:Int) - (y0:Int))=((x0 - y0:Nat):Int):=by
  unfold B64 at hx
  simp [IntKind.wrap,IntKind.bits,IntKind.signed]
  omega
 have HS:Hid (x0 - y0<B64):=hid (by omega)
 obtain ⟨z,hz⟩:∃ z,x0 - y0=z:=⟨_,rfl⟩
 rw [hz] at hwr HS ⊢
 clear hx hle hz
 go_enter Tryz.func100,Tryz.ntmps100
 go_wp2_with (go_big_skip)
 refine bodyPost_ret (v:=.agg #[.int .u64 (z:Int),.slice none 0 0]) (by simp [results,Tryz.results100,go_sem]) rfl ⟨_,_,rfl,.inl ⟨HS.out,rfl,rfl⟩,?_⟩
 exact (((Below.refl _ _).alloc (Nat.le_refl _) _).alloc (by simp) _).alloc (by simp;omega) _
theorem mminus_calls (a b k:Nat) (c1 d1 c2 d2:Value) (w:World) (ha:IsMag w c1 d1 a) (hb:IsMag w c2 d2 b) (hba:b≤a) (hk:k≤137438953472) (ka:a<B64 ^ k) :
  Calls Tryz.prog 100 #[.agg #[c1,d1],.agg #[c2,d2]] w (RetM w (a - b)):=by
 rcases id ha with ⟨ha1,rfl,rfl⟩ | ⟨b1,o1,k1,xs,rfl,rfl,_⟩
 ·obtain ⟨rfl,rfl⟩:=isMag_word hb (by omega)
  exact mminus_word a b w ha1 hba
 ·exact mminus_long _ _ _ _ _ _ a b k w ha hb hba hk ka
end
section
open Go.RowKit Go.Sort
theorem S2.start0 (w:World) (c1 d1 c2 d2 z1:Value) (t1 t2 t3:TypeId):S2 w (((w.alloc (.cells #[c1,d1] t1)).alloc (.cells #[c2,d2] t2)).alloc (.cells #[z1,.slice none 0 0] t3)) c1 d1 c2 d2:=by
 refine ⟨⟨?_,?_⟩,⟨?_,?_⟩,?_,?_,?_,?_,?_,?_⟩
 ·go_simp
 ·go_simp
 ·go_simp
 ·go_simp
 ·exact (((Below.refl _ _).alloc (Nat.le_refl _) _).alloc (by simp) _).alloc (by simp;omega) _
 ·simp
 ·go_simp
 ·exact ⟨none,0,0,by go_simp⟩
 ·go_simp
 ·go_simp
theorem S2.drew {w W:World} {c1 d1 c2 d2:Value} (h:S2 w W c1 d1 c2 d2):S2 w W.drew c1 d1 c2 d2:=by
 obtain ⟨⟨h1,h1'⟩,⟨h2,h2'⟩,h3,h4,h5,h6,h7,h8⟩:=h
 exact ⟨⟨h1,h1'⟩,⟨h2,h2'⟩,h3.drew,h4,h5,h6,h7,h8⟩
theorem mul_lt_pow {a b k:Nat} (ha:a<B64 ^ k) (hb:b<B64 ^ k):a*b<B64 ^ (k+k):=by
 rw [Nat.pow_add]
 exact Nat.mul_lt_mul'' ha hb
theorem mtimes_long1 (p1 q1 l1 m1:Nat) (x2:Int) (p2:Option Addr) (l2 m2:Nat) (a b k:Nat) (w:World) (ha:IsMag w (.int .u64 0) (.slice (some ⟨p1,q1,none⟩) l1 m1) a) (hb:IsMag w (.int .u64 x2) (.slice p2 l2 m2) b) (hk:k≤68719476736) (ka:a<B64 ^ k) (kb:b<B64 ^ k) :
  Calls Tryz.prog 58 #[.agg #[.int .u64 0,.slice (some ⟨p1,q1,none⟩) l1 m1],.agg #[.int .u64 x2,.slice p2 l2 m2]] w (RetM w (a*b)):=by
 have hn:=nilSlice_run
 go_enter Tryz.func58,Tryz.ntmps58
 go_wp2_with fail
 have s0:=S2.start0 w (.int .u64 0) (.slice (some ⟨p1,q1,none⟩) l1 m1) (.int .u64 x2) (.slice p2 l2 m2) (.int .u64 0) 28 28 28
 refine (isOne_calls _ _ a _ (ha.mono s0.2.2.1 (Nat.le_refl _))).mono ?_
 rintro e w1 ⟨rfl,hB1⟩
 have s1:=s0.next hB1
 clear s0 hB1
 obtain ⟨e1,e2⟩:=s1.1
 obtain ⟨e3,e4⟩:=s1.2.1
 obtain ⟨⟨y1,hy1⟩,⟨y2,hy2⟩,hf1,hf2⟩:=s1.slot
 by_cases h1:a=1
 ·have h1':(a == 1)=true:=by rw [beq_iff_eq];exact h1
  exact absurd (isMag_long ha) (by rw [h1];unfold B64;omega)
 have h1':(a == 1)=false:=by rw [beq_eq_false_iff_ne];exact h1
 clear h1
 go_wp2_with fail
 clear e1 e2 e3 e4 hy1 hy2 hf1 hf2 h1'
 refine (isOne_calls _ _ b _ (hb.mono s1.2.2.1 (Nat.le_refl _))).mono ?_
 rintro e w2 ⟨rfl,hB2⟩
 have s2:=s1.next hB2
 clear s1 hB2
 obtain ⟨e1,e2⟩:=s2.1
 obtain ⟨⟨y1,hy1⟩,⟨y2,hy2⟩,hf1,hf2⟩:=s2.slot
 by_cases h2:b=1
 ·have h2':(b == 1)=true:=by rw [beq_iff_eq];exact h2
  obtain ⟨hz1,hz2,hHm⟩:=s2.done (ha.mono s2.2.2.1 (Nat.le_refl _))
  clear s2
  go_wp2_with fail
  refine bodyPost_ret (v:=.agg #[.int .u64 0,.slice (some ⟨p1,q1,none⟩) l1 m1]) (by simp [results,Tryz.results58,go_sem,hz1,hz2]) rfl ?_
  subst h2
  rw [Nat.mul_one]
  exact ⟨_,_,rfl,hHm.out.1,hHm.out.2⟩
 have h2':(b == 1)=false:=by rw [beq_eq_false_iff_ne];exact h2
 clear h2
 clear e1 e2 hy1 hy2 hf1 hf2
 go_wp2_with (go_big_skip)
 go_region_held3 (fun w'=>S2 w w' (.int .u64 0) (.slice (some ⟨p1,q1,none⟩) l1 m1) (.int .u64 x2) (.slice p2 l2 m2))
  ((first | assumption | exact S2.start _ _ _ _ _ _ _ _ _ | exact S2.next (by assumption) (by assumption) | exact S2.store (by assumption) | exact S2.drew (by assumption)))
  (first
   | (go_at_call_of 108 (Value.agg #[.int .u64 0,.slice (some ⟨p1,q1,none⟩) l1 m1]);refine (digits_calls _ _ a _ ?_).mono ?_;exact ha.mono (‹S2 w _ (.int .u64 0) (.slice (some ⟨p1,q1,none⟩) l1 m1) (.int .u64 x2) (.slice p2 l2 m2)›).2.2.1 (Nat.le_refl _);rintro e wA ⟨b1,o1,cp1,xs,rfl,hb1,hl1,hd1,ht1,hv1,hD1,hBA⟩)
   | (go_at_call_of 108 (Value.agg #[.int .u64 x2,.slice p2 l2 m2]);refine (digits_calls _ _ b _ ?_).mono ?_;exact hb.mono (‹S2 w _ (.int .u64 0) (.slice (some ⟨p1,q1,none⟩) l1 m1) (.int .u64 x2) (.slice p2 l2 m2)›).2.2.1 (Nat.le_refl _);rintro e wB ⟨b2,o2,cp2,ys,rfl,hb2,hl2,hd2,ht2,hv2,hD2,hBB⟩)
   | (go_at_call 109;refine (times_calls _ _ b1 o1 cp1 b2 o2 cp2 xs ys _ ?_ ?_ ?_ ?_ hd1 hd2 ?_ ?_ rfl rfl).mono ?_;(first | exact hD1.below hBB hb1 | exact hD1);(first | exact hD2 | exact hD2.below hBA hb2);(first | exact Nat.lt_of_lt_of_le hb1 hBB.size | exact hb1);(first | exact hb2 | exact Nat.lt_of_lt_of_le hb2 hBA.size);exact Nat.le_trans (len_le ht1 (by rw [hv1];exact ka)) (by omega);exact Nat.le_trans (len_le ht2 (by rw [hv2];exact kb)) (by omega);rintro e wC ⟨b3,o3,cp3,zs,rfl,hb3,hl3,hd3,ht3,hv3,hD3,hBC⟩;rw [hv1,hv2] at hv3)
   | (go_at_call 104;refine (shorten_slice b3 o3 cp3 zs.length zs _ rfl hl3 ?_ hb3 hd3 ht3 hD3).mono ?_;exact Nat.le_trans (len_le ht3 (by rw [hv3];exact (mul_lt_pow ka kb))) (by omega);rintro e wD hret;obtain ⟨x,p,l,cc,rfl,hm,hBD⟩:=hret.shape;rw [hv3] at hm;have hSS:=S2.next ‹S2 w _ (.int .u64 0) (.slice (some ⟨p1,q1,none⟩) l1 m1) (.int .u64 x2) (.slice p2 l2 m2)› hBD;obtain ⟨⟨y1,hy1⟩,⟨y2,hy2⟩,hf1,hf2⟩:=hSS.slot;obtain ⟨hz1,hz2,hHm⟩:=hSS.done hm;clear hret hm))
 all_goals go_wp2
 all_goals
  refine bodyPost_ret (v:=.agg #[.int .u64 x,.slice p l cc]) (by simp [results,Tryz.results58,go_sem,hz1,hz2]) rfl ⟨_,_,rfl,hHm.out.1,hHm.out.2⟩
theorem mtimes_long2 (x0 p2 q2 l2 m2:Nat) (a b k:Nat) (w:World) (ha:IsMag w (.int .u64 (x0:Int)) (.slice none 0 0) a) (hb:IsMag w (.int .u64 0) (.slice (some ⟨p2,q2,none⟩) l2 m2) b) (hk:k≤68719476736) (ka:a<B64 ^ k) (kb:b<B64 ^ k) :
  Calls Tryz.prog 58 #[.agg #[.int .u64 (x0:Int),.slice none 0 0],.agg #[.int .u64 0,.slice (some ⟨p2,q2,none⟩) l2 m2]] w (RetM w (a*b)):=by
 have hn:=nilSlice_run
 go_enter Tryz.func58,Tryz.ntmps58
 go_wp2_with fail
 have s0:=S2.start0 w (.int .u64 (x0:Int)) (.slice none 0 0) (.int .u64 0) (.slice (some ⟨p2,q2,none⟩) l2 m2) (.int .u64 0) 28 28 28
 refine (isOne_calls _ _ a _ (ha.mono s0.2.2.1 (Nat.le_refl _))).mono ?_
 rintro e w1 ⟨rfl,hB1⟩
 have s1:=s0.next hB1
 clear s0 hB1
 obtain ⟨e1,e2⟩:=s1.1
 obtain ⟨e3,e4⟩:=s1.2.1
 obtain ⟨⟨y1,hy1⟩,⟨y2,hy2⟩,hf1,hf2⟩:=s1.slot
 by_cases h1:a=1
 ·have h1':(a == 1)=true:=by rw [beq_iff_eq];exact h1
  obtain ⟨hz1,hz2,hHm⟩:=s1.done (hb.mono s1.2.2.1 (Nat.le_refl _))
  clear s1
  go_wp2_with fail
  refine bodyPost_ret (v:=.agg #[.int .u64 0,.slice (some ⟨p2,q2,none⟩) l2 m2]) (by simp [results,Tryz.results58,go_sem,hz1,hz2]) rfl ?_
  subst h1
  rw [Nat.one_mul]
  exact ⟨_,_,rfl,hHm.out.1,hHm.out.2⟩
 have h1':(a == 1)=false:=by rw [beq_eq_false_iff_ne];exact h1
 clear h1
 go_wp2_with fail
 clear e1 e2 e3 e4 hy1 hy2 hf1 hf2 h1'
 refine (isOne_calls _ _ b _ (hb.mono s1.2.2.1 (Nat.le_refl _))).mono ?_
 rintro e w2 ⟨rfl,hB2⟩
 have s2:=s1.next hB2
 clear s1 hB2
 obtain ⟨e1,e2⟩:=s2.1
 obtain ⟨⟨y1,hy1⟩,⟨y2,hy2⟩,hf1,hf2⟩:=s2.slot
 by_cases h2:b=1
 ·have h2':(b == 1)=true:=by rw [beq_iff_eq];exact h2
  obtain ⟨hz1,hz2,hHm⟩:=s2.done (ha.mono s2.2.2.1 (Nat.le_refl _))
  clear s2
  go_wp2_with fail
  refine bodyPost_ret (v:=.agg #[.int .u64 (x0:Int),.slice none 0 0]) (by simp [results,Tryz.results58,go_sem,hz1,hz2]) rfl ?_
  subst h2
  rw [Nat.mul_one]
  exact ⟨_,_,rfl,hHm.out.1,hHm.out.2⟩
 have h2':(b == 1)=false:=by rw [beq_eq_false_iff_ne];exact h2
 clear h2
 clear e1 e2 hy1 hy2 hf1 hf2
 go_wp2_with (go_big_skip)
 go_region_held3 (fun w'=>S2 w w' (.int .u64 (x0:Int)) (.slice none 0 0) (.int .u64 0) (.slice (some ⟨p2,q2,none⟩) l2 m2))
  ((first | assumption | exact S2.start _ _ _ _ _ _ _ _ _ | exact S2.next (by assumption) (by assumption) | exact S2.store (by assumption) | exact S2.drew (by assumption)))
  (first
   | (go_at_call_of 108 (Value.agg #[.int .u64 (x0:Int),.slice none 0 0]);refine (digits_calls _ _ a _ ?_).mono ?_;exact ha.mono (‹S2 w _ (.int .u64 (x0:Int)) (.slice none 0 0) (.int .u64 0) (.slice (some ⟨p2,q2,none⟩) l2 m2)›).2.2.1 (Nat.le_refl _);rintro e wA ⟨b1,o1,cp1,xs,rfl,hb1,hl1,hd1,ht1,hv1,hD1,hBA⟩)
   | (go_at_call_of 108 (Value.agg #[.int .u64 0,.slice (some ⟨p2,q2,none⟩) l2 m2]);refine (digits_calls _ _ b _ ?_).mono ?_;exact hb.mono (‹S2 w _ (.int .u64 (x0:Int)) (.slice none 0 0) (.int .u64 0) (.slice (some ⟨p2,q2,none⟩) l2 m2)›).2.2.1 (Nat.le_refl _);rintro e wB ⟨b2,o2,cp2,ys,rfl,hb2,hl2,hd2,ht2,hv2,hD2,hBB⟩)
   | (go_at_call 109;refine (times_calls _ _ b1 o1 cp1 b2 o2 cp2 xs ys _ ?_ ?_ ?_ ?_ hd1 hd2 ?_ ?_ rfl rfl).mono ?_;(first | exact hD1.below hBB hb1 | exact hD1);(first | exact hD2 | exact hD2.below hBA hb2);(first | exact Nat.lt_of_lt_of_le hb1 hBB.size | exact hb1);(first | exact hb2 | exact Nat.lt_of_lt_of_le hb2 hBA.size);exact Nat.le_trans (len_le ht1 (by rw [hv1];exact ka)) (by omega);exact Nat.le_trans (len_le ht2 (by rw [hv2];exact kb)) (by omega);rintro e wC ⟨b3,o3,cp3,zs,rfl,hb3,hl3,hd3,ht3,hv3,hD3,hBC⟩;rw [hv1,hv2] at hv3)
   | (go_at_call 104;refine (shorten_slice b3 o3 cp3 zs.length zs _ rfl hl3 ?_ hb3 hd3 ht3 hD3).mono ?_;exact Nat.le_trans (len_le ht3 (by rw [hv3];exact (mul_lt_pow ka kb))) (by omega);rintro e wD hret;obtain ⟨x,p,l,cc,rfl,hm,hBD⟩:=hret.shape;rw [hv3] at hm;have hSS:=S2.next ‹S2 w _ (.int .u64 (x0:Int)) (.slice none 0 0) (.int .u64 0) (.slice (some ⟨p2,q2,none⟩) l2 m2)› hBD;obtain ⟨⟨y1,hy1⟩,⟨y2,hy2⟩,hf1,hf2⟩:=hSS.slot;obtain ⟨hz1,hz2,hHm⟩:=hSS.done hm;clear hret hm))
 all_goals go_wp2
 all_goals
  refine bodyPost_ret (v:=.agg #[.int .u64 x,.slice p l cc]) (by simp [results,Tryz.results58,go_sem,hz1,hz2]) rfl ⟨_,_,rfl,hHm.out.1,hHm.out.2⟩
theorem mtimes_great (x0 y0:Nat) (a b k:Nat) (w:World) (ha:IsMag w (.int .u64 (x0:Int)) (.slice none 0 0) a) (hb:IsMag w (.int .u64 (y0:Int)) (.slice none 0 0) b) (hk:k≤68719476736) (ka:a<B64 ^ k) (kb:b<B64 ^ k) (hx:x0<B64) (hy:y0<B64) (hh:mulH x0 y0≠0) :
  Calls Tryz.prog 58 #[.agg #[.int .u64 (x0:Int),.slice none 0 0],.agg #[.int .u64 (y0:Int),.slice none 0 0]] w (RetM w (a*b)):=by
 have hn:=nilSlice_run
 have hmul:=hid (Mul64_calls x0 y0 hx hy)
 have hh0:(((mulH x0 y0:Nat):Int) == 0)=false:=by rw [beq_eq_false_iff_ne];omega
 clear hx hy hh
 go_enter Tryz.func58,Tryz.ntmps58
 go_wp2_with fail
 refine (hmul.out _).mono ?_
 clear hmul
 obtain ⟨hi,hhi⟩:∃ x,mulH x0 y0=x:=⟨_,rfl⟩
 obtain ⟨lo,hlo⟩:∃ x,mulL x0 y0=x:=⟨_,rfl⟩
 rw [hhi] at hh0
 rw [hhi,hlo]
 clear hhi hlo
 rintro e wM ⟨rfl,rfl⟩
 go_wp2_with fail
 have s0:=S2.start0 w (.int .u64 (x0:Int)) (.slice none 0 0) (.int .u64 (y0:Int)) (.slice none 0 0) (.int .u64 0) 28 28 28
 refine (isOne_calls _ _ a _ (ha.mono s0.2.2.1 (Nat.le_refl _))).mono ?_
 rintro e w1 ⟨rfl,hB1⟩
 have s1:=s0.next hB1
 clear s0 hB1
 obtain ⟨e1,e2⟩:=s1.1
 obtain ⟨e3,e4⟩:=s1.2.1
 obtain ⟨⟨y1,hy1⟩,⟨y2,hy2⟩,hf1,hf2⟩:=s1.slot
 by_cases h1:a=1
 ·have h1':(a == 1)=true:=by rw [beq_iff_eq];exact h1
  obtain ⟨hz1,hz2,hHm⟩:=s1.done (hb.mono s1.2.2.1 (Nat.le_refl _))
  clear s1
  go_wp2_with fail
  refine bodyPost_ret (v:=.agg #[.int .u64 (y0:Int),.slice none 0 0]) (by simp [results,Tryz.results58,go_sem,hz1,hz2]) rfl ?_
  subst h1
  rw [Nat.one_mul]
  exact ⟨_,_,rfl,hHm.out.1,hHm.out.2⟩
 have h1':(a == 1)=false:=by rw [beq_eq_false_iff_ne];exact h1
 clear h1
 go_wp2_with fail
 clear e1 e2 e3 e4 hy1 hy2 hf1 hf2 h1'
 refine (isOne_calls _ _ b _ (hb.mono s1.2.2.1 (Nat.le_refl _))).mono ?_
 rintro e w2 ⟨rfl,hB2⟩
 have s2:=s1.next hB2
 clear s1 hB2
 obtain ⟨e1,e2⟩:=s2.1
 obtain ⟨⟨y1,hy1⟩,⟨y2,hy2⟩,hf1,hf2⟩:=s2.slot
 by_cases h2:b=1
 ·have h2':(b == 1)=true:=by rw [beq_iff_eq];exact h2
  obtain ⟨hz1,hz2,hHm⟩:=s2.done (ha.mono s2.2.2.1 (Nat.le_refl _))
  clear s2
  go_wp2_with fail
  refine bodyPost_ret (v:=.agg #[.int .u64 (x0:Int),.slice none 0 0]) (by simp [results,Tryz.results58,go_sem,hz1,hz2]) rfl ?_
  subst h2
  rw [Nat.mul_one]
  exact ⟨_,_,rfl,hHm.out.1,hHm.out.2⟩
 have h2':(b == 1)=false:=by rw [beq_eq_false_iff_ne];exact h2
 clear h2
 clear e1 e2 hy1 hy2 hf1 hf2
 go_wp2_with (go_big_skip)
 go_region_held3 (fun w'=>S2 w w' (.int .u64 (x0:Int)) (.slice none 0 0) (.int .u64 (y0:Int)) (.slice none 0 0))
  ((first | assumption | exact S2.start _ _ _ _ _ _ _ _ _ | exact S2.next (by assumption) (by assumption) | exact S2.store (by assumption) | exact S2.drew (by assumption)))
  (first
   | (go_at_call_of 108 (Value.agg #[.int .u64 (x0:Int),.slice none 0 0]);refine (digits_calls _ _ a _ ?_).mono ?_;exact ha.mono (‹S2 w _ (.int .u64 (x0:Int)) (.slice none 0 0) (.int .u64 (y0:Int)) (.slice none 0 0)›).2.2.1 (Nat.le_refl _);rintro e wA ⟨b1,o1,cp1,xs,rfl,hb1,hl1,hd1,ht1,hv1,hD1,hBA⟩)
   | (go_at_call_of 108 (Value.agg #[.int .u64 (y0:Int),.slice none 0 0]);refine (digits_calls _ _ b _ ?_).mono ?_;exact hb.mono (‹S2 w _ (.int .u64 (x0:Int)) (.slice none 0 0) (.int .u64 (y0:Int)) (.slice none 0 0)›).2.2.1 (Nat.le_refl _);rintro e wB ⟨b2,o2,cp2,ys,rfl,hb2,hl2,hd2,ht2,hv2,hD2,hBB⟩)
   | (go_at_call 109;refine (times_calls _ _ b1 o1 cp1 b2 o2 cp2 xs ys _ ?_ ?_ ?_ ?_ hd1 hd2 ?_ ?_ rfl rfl).mono ?_;(first | exact hD1.below hBB hb1 | exact hD1);(first | exact hD2 | exact hD2.below hBA hb2);(first | exact Nat.lt_of_lt_of_le hb1 hBB.size | exact hb1);(first | exact hb2 | exact Nat.lt_of_lt_of_le hb2 hBA.size);exact Nat.le_trans (len_le ht1 (by rw [hv1];exact ka)) (by omega);exact Nat.le_trans (len_le ht2 (by rw [hv2];exact kb)) (by omega);rintro e wC ⟨b3,o3,cp3,zs,rfl,hb3,hl3,hd3,ht3,hv3,hD3,hBC⟩;rw [hv1,hv2] at hv3)
   | (go_at_call 104;refine (shorten_slice b3 o3 cp3 zs.length zs _ rfl hl3 ?_ hb3 hd3 ht3 hD3).mono ?_;exact Nat.le_trans (len_le ht3 (by rw [hv3];exact (mul_lt_pow ka kb))) (by omega);rintro e wD hret;obtain ⟨x,p,l,cc,rfl,hm,hBD⟩:=hret.shape;rw [hv3] at hm;have hSS:=S2.next ‹S2 w _ (.int .u64 (x0:Int)) (.slice none 0 0) (.int .u64 (y0:Int)) (.slice none 0 0)› hBD;obtain ⟨⟨y1,hy1⟩,⟨y2,hy2⟩,hf1,hf2⟩:=hSS.slot;obtain ⟨hz1,hz2,hHm⟩:=hSS.done hm;clear hret hm))
 all_goals go_wp2
 all_goals
  refine bodyPost_ret (v:=.agg #[.int .u64 x,.slice p l cc]) (by simp [results,Tryz.results58,go_sem,hz1,hz2]) rfl ⟨_,_,rfl,hHm.out.1,hHm.out.2⟩
theorem mtimes_word (x0 y0:Nat) (w:World) (hx:x0<B64) (hy:y0<B64) (hh:mulH x0 y0=0) :
  Calls Tryz.prog 58 #[.agg #[.int .u64 (x0:Int),.slice none 0 0],.agg #[.int .u64 (y0:Int),.slice none 0 0]] w (RetM w (x0*y0)):=by
 have hn:=nilSlice_run
 have hmul:=hid (Mul64_calls x0 y0 hx hy)
 have hl:=mul_spec x0 y0
 rw [hh,Nat.mul_zero,Nat.add_zero] at hl
 have HS:=hid (mulL_lt x0 y0)
 rw [hh,hl] at hmul
 rw [hl] at HS
 clear hx hy hh hl
 obtain ⟨z,hz⟩:∃ x,x0*y0=x:=⟨_,rfl⟩
 rw [hz] at hmul HS ⊢
 clear hz
 go_enter Tryz.func58,Tryz.ntmps58
 go_wp2_with fail
 refine (hmul.out _).mono ?_
 clear hmul
 rintro e wM ⟨rfl,rfl⟩
 go_wp2_with fail
 refine bodyPost_ret (v:=.agg #[.int .u64 (z:Int),.slice none 0 0]) (by simp [results,Tryz.results58,go_sem]) rfl ⟨_,_,rfl,.inl ⟨HS.out,rfl,rfl⟩,?_⟩
 exact (((Below.refl _ _).alloc (Nat.le_refl _) _).alloc (by simp) _).alloc (by simp;omega) _
theorem mtimes_calls (a b k:Nat) (c1 d1 c2 d2:Value) (w:World) (ha:IsMag w c1 d1 a) (hb:IsMag w c2 d2 b) (hk:k≤68719476736) (ka:a<B64 ^ k) (kb:b<B64 ^ k) :
  Calls Tryz.prog 58 #[.agg #[c1,d1],.agg #[c2,d2]] w (RetM w (a*b)):=by
 rcases id ha with ⟨ha1,rfl,rfl⟩ | ⟨b1,o1,k1,xs,rfl,rfl,_⟩
 ·rcases id hb with ⟨hb1,rfl,rfl⟩ | ⟨b2,o2,k2,ys,rfl,rfl,_⟩
  ·by_cases hc:mulH a b=0
   ·exact mtimes_word a b w ha1 hb1 hc
   ·exact mtimes_great a b a b k w ha hb hk ka kb ha1 hb1 hc
  ·exact mtimes_long2 _ _ _ _ _ a b k w ha hb hk ka kb
 ·rcases id hb with ⟨hb1,rfl,rfl⟩ | ⟨b2,o2,k2,ys,rfl,rfl,_⟩
  ·exact mtimes_long1 _ _ _ _ _ _ _ _ a b k w ha hb hk ka kb
  ·exact mtimes_long1 _ _ _ _ _ _ _ _ a b k w ha hb hk ka kb
end
end Go.Proofs.YtmijlcldmefggaaGreatDoor
