/- What the proof rests on, part 5. -/
import Derived.Test.YtancpaiaoamjlaaGreatDoorZ04
namespace Go.Proofs.YtancpaiaoamjlaaGreatDoor
set_option maxRecDepth 100000
set_option maxHeartbeats 80000000
section
open Go.RowKit Go.Sort
theorem Kv (w:World) (p a:Addr) (v:Value) (h:(w.cell? a).isSome=true):((w.setCell p v).cell? a).isSome=true:=by
 by_cases e:p=a
 ·subst e
  obtain ⟨u,hu⟩:=Option.isSome_iff_exists.1 h
  rw [World.cell?_setCell_same _ _ _ hu]
  rfl
 ·rw [World.cell?_setCell_other _ _ _ _ e];exact h
theorem S2.read {w W:World} {c1 d1 c2 d2:Value} (u v:Value) (h:S2 w W c1 d1 c2 d2) :
  ((W.setCell ⟨w.heap.size+2,0,none⟩ u).setCell ⟨w.heap.size+2,1,none⟩ v).cell? ⟨w.heap.size+2,0,none⟩=some u ∧
  ((W.setCell ⟨w.heap.size+2,0,none⟩ u).setCell ⟨w.heap.size+2,1,none⟩ v).cell? ⟨w.heap.size+2,1,none⟩=some v:=by
 obtain ⟨y1,hy1⟩:=Option.isSome_iff_exists.1 h.2.2.2.2.1
 obtain ⟨p,l,c,hy2⟩:=h.2.2.2.2.2.1
 refine ⟨?_,?_⟩
 ·rw [World.cell?_setCell_other _ _ _ _ (by simp),World.cell?_setCell_same _ _ _ hy1]
 ·refine World.cell?_setCell_same (u:=.slice p l c) _ _ _ ?_
  rw [World.cell?_setCell_other _ _ _ _ (by simp)];exact hy2
theorem S2.store {w W:World} {c1 d1 c2 d2 u:Value} {p:Option Addr} {l c:Nat} (h:S2 w W c1 d1 c2 d2):S2 w ((W.setCell ⟨w.heap.size+2,0,none⟩ u).setCell ⟨w.heap.size+2,1,none⟩ (.slice p l c)) c1 d1 c2 d2:=by
 have hr:=h.read u (.slice p l c)
 obtain ⟨⟨h1,h1'⟩,⟨h2,h2'⟩,h3,h4,h5,h6,h7,h8⟩:=h
 refine ⟨⟨?_,?_⟩,⟨?_,?_⟩,?_,?_,?_,?_,?_,?_⟩
 ·rw [World.cell?_setCell_far _ _ _ _ (by simp),World.cell?_setCell_far _ _ _ _ (by simp)];exact h1
 ·rw [World.cell?_setCell_far _ _ _ _ (by simp),World.cell?_setCell_far _ _ _ _ (by simp)];exact h1'
 ·rw [World.cell?_setCell_far _ _ _ _ (by simp),World.cell?_setCell_far _ _ _ _ (by simp)];exact h2
 ·rw [World.cell?_setCell_far _ _ _ _ (by simp),World.cell?_setCell_far _ _ _ _ (by simp)];exact h2'
 ·exact (h3.setCell (by simp) _).setCell (by simp) _
 ·simpa using h4
 ·exact Kv _ _ _ _ (Kv _ _ _ _ h5)
 ·exact ⟨_,_,_,hr.2⟩
 ·rw [World.frozen?_setCell,World.frozen?_setCell];exact h7
 ·rw [World.frozen?_setCell,World.frozen?_setCell];exact h8
theorem S2.mag {w W:World} {c1 d1 c2 d2 u v c d:Value} {n:Nat} (h:S2 w W c1 d1 c2 d2) (hm:ah W c d n):ah ((W.setCell ⟨w.heap.size+2,0,none⟩ u).setCell ⟨w.heap.size+2,1,none⟩ v) c d n:=by
 obtain ⟨p,l,c',hy⟩:=h.2.2.2.2.2.1
 rcases hm with h0 | ⟨b,o,k,xs,h1,h2,h3,h4,h5,h6,h7,h8,h9⟩
 ·exact .inl h0
 ·refine .inr ⟨b,o,k,xs,h1,h2,by simpa using h3,h4,h5,h6,h7,h8,fun j hj=>?_⟩
  have n1:(⟨w.heap.size+2,1,none⟩:Addr)≠⟨b,o+j,none⟩:=fun e=>by
   have:=h9 j hj
   rw [← e,hy] at this
   cases this
  have n0:(⟨w.heap.size+2,0,none⟩:Addr)≠⟨b,o+j,none⟩:=fun e=>by
   have hj0:o=0∧j=0∧b=w.heap.size+2:=by
    simp only [Addr.mk.injEq] at e
    omega
   obtain ⟨rfl,rfl,rfl⟩:=hj0
   have:=h9 1 (by omega)
   rw [show 0+1=1 from rfl,hy] at this
   cases this
  rw [World.cell?_setCell_other _ _ _ _ n1,World.cell?_setCell_other _ _ _ _ n0]
  exact h9 j hj
theorem S2.slot {w W:World} {c1 d1 c2 d2:Value} (h:S2 w W c1 d1 c2 d2):(∃ r1,W.cell? ⟨w.heap.size+1+1,0,none⟩=some r1)∧(∃ r2,W.cell? ⟨w.heap.size+1+1,1,none⟩=some r2)∧W.frozen? ⟨w.heap.size+1+1,0,none⟩=false∧W.frozen? ⟨w.heap.size+1+1,1,none⟩=false:=
 ⟨Option.isSome_iff_exists.1 h.2.2.2.2.1,⟨_,h.2.2.2.2.2.1.choose_spec.choose_spec.choose_spec⟩,h.2.2.2.2.2.2.1,h.2.2.2.2.2.2.2⟩
theorem S2.done {w W:World} {c1 d1 c2 d2 c:Value} {p:Option Addr} {l cc n:Nat} (h:S2 w W c1 d1 c2 d2) (hm:ah W c (.slice p l cc) n) :
  ((W.setCell ⟨w.heap.size+1+1,0,none⟩ c).setCell ⟨w.heap.size+1+1,1,none⟩ (.slice p l cc)).cell? ⟨w.heap.size+1+1,0,none⟩=some c ∧
  ((W.setCell ⟨w.heap.size+1+1,0,none⟩ c).setCell ⟨w.heap.size+1+1,1,none⟩ (.slice p l cc)).cell? ⟨w.heap.size+1+1,1,none⟩=some (.slice p l cc) ∧
  Hid (ah ((W.setCell ⟨w.heap.size+1+1,0,none⟩ c).setCell ⟨w.heap.size+1+1,1,none⟩ (.slice p l cc)) c (.slice p l cc) n∧Below w.heap.size w ((W.setCell ⟨w.heap.size+1+1,0,none⟩ c).setCell ⟨w.heap.size+1+1,1,none⟩ (.slice p l cc))):=
 ⟨(h.read _ _).1,(h.read _ _).2,hid ⟨h.mag hm,(h.store (u:=c) (p:=p) (l:=l) (c:=cc)).2.2.1⟩⟩
theorem zk {w:World} {c d:Value} {n:Nat} (h:ah w c d n) (hn:n<B64):c=.int .u64 (n:Int)∧d=.slice none 0 0:=by
 rcases h with ⟨_,h1,h2⟩ | ⟨b,o,k,xs,_,_,_,h2,_,_,h5,h6,_⟩
 ·exact ⟨h1,h2⟩
 ·have h7:=lM h5 (by intro e;subst e;simp at h2)
  have h8:B64 ^ 1≤B64 ^ (xs.length - 1):=Nat.pow_le_pow_right aT (by omega)
  rw [Nat.pow_one] at h8
  omega
theorem U3 {w:World} {c:Value} {b o l k n:Nat} (h:ah w c (.slice (some ⟨b,o,none⟩) l k) n):B64≤n:=by
 rcases Nat.lt_or_ge n B64 with h0 | h0
 ·have:=(zk h h0).2
  cases this
 ·exact h0
theorem uf (x:Int) (d:Value) (w:World):Calls Tryz.prog 78 #[.agg #[.int .u64 x,d]] w fun e w'=>e=.returned (.bool (x == 1))∧Below w.heap.size w w':=by
 go_enter Tryz.func78,Tryz.ntmps78
 go_wp2
 go_ret
 exact ⟨rfl,(Below.refl _ _).alloc (Nat.le_refl _) _⟩
theorem eY (c d:Value) (n:Nat) (w:World) (h:ah w c d n):Calls Tryz.prog 78 #[.agg #[c,d]] w fun e w'=>e=.returned (.bool (n == 1))∧Below w.heap.size w w':=by
 rcases Nat.lt_or_ge n B64 with h0 | h0
 ·obtain ⟨rfl,rfl⟩:=zk h h0
  refine (uf n _ w).mono ?_
  rintro e w' ⟨rfl,hb⟩
  refine ⟨?_,hb⟩
  congr 2
  rw [Bool.eq_iff_iff,beq_iff_eq,beq_iff_eq]
  omega
 ·rcases h with ⟨h1,_⟩ | ⟨b,o,k,xs,rfl,rfl,_⟩
  ·omega
  ·refine (uf 0 _ w).mono ?_
   rintro e w' ⟨rfl,hb⟩
   refine ⟨?_,hb⟩
   have:(n == 1)=false:=by rw [beq_eq_false_iff_ne];unfold B64 at h0;omega
   rw [this]
   rfl
theorem Vj (x:Int) (w:World):Calls Tryz.prog 50 #[.agg #[.int .u64 x,.slice none 0 0]] w fun e w'=>e=.returned (.bool (x == 0))∧Below w.heap.size w w':=by
 have hn:=fP
 go_enter Tryz.func50,Tryz.ntmps50
 by_cases hx:(x == 0)=true
 ·go_wp2
  go_ret
  exact ⟨by rw [hx];rfl,(Below.refl _ _).alloc (Nat.le_refl _) _⟩
 ·replace hx:(x == 0)=false:=by simpa using hx
  go_wp2
  go_ret
  exact ⟨by rw [hx];rfl,(Below.refl _ _).alloc (Nat.le_refl _) _⟩
theorem Vh (b o l k:Nat) (w:World):Calls Tryz.prog 50 #[.agg #[.int .u64 0,.slice (some ⟨b,o,none⟩) l k]] w fun e w'=>e=.returned (.bool false)∧Below w.heap.size w w':=by
 have hn:=fP
 go_enter Tryz.func50,Tryz.ntmps50
 go_wp2
 go_ret
 exact ⟨rfl,(Below.refl _ _).alloc (Nat.le_refl _) _⟩
theorem dJ (c d:Value) (n:Nat) (w:World) (h:ah w c d n):Calls Tryz.prog 50 #[.agg #[c,d]] w fun e w'=>e=.returned (.bool (n == 0))∧Below w.heap.size w w':=by
 rcases Nat.lt_or_ge n B64 with h0 | h0
 ·obtain ⟨rfl,rfl⟩:=zk h h0
  refine (Vj n w).mono ?_
  rintro e w' ⟨rfl,hb⟩
  refine ⟨?_,hb⟩
  congr 2
  rw [Bool.eq_iff_iff,beq_iff_eq,beq_iff_eq]
  omega
 ·rcases h with ⟨h1,_⟩ | ⟨b,o,k,xs,rfl,rfl,_⟩
  ·omega
  ·refine (Vh b o _ k w).mono ?_
   rintro e w' ⟨rfl,hb⟩
   refine ⟨?_,hb⟩
   have:(n == 0)=false:=by rw [beq_eq_false_iff_ne];unfold B64 at h0;omega
   rw [this]
theorem aW.shape {w w':World} {n:Nat} {e:Ending} (h:aW w n e w'):∃ (x:Int) (p:Option Addr) (l c:Nat),e=.returned (.agg #[.int .u64 x,.slice p l c])∧ah w' (.int .u64 x) (.slice p l c) n∧Below w.heap.size w w':=by
 obtain ⟨c,d,rfl,hm,hb⟩:=h
 rcases id hm with ⟨_,rfl,rfl⟩ | ⟨b,o,k,xs,rfl,rfl,_⟩
 ·exact ⟨_,_,_,_,rfl,hm,hb⟩
 ·exact ⟨_,_,_,_,rfl,hm,hb⟩
theorem BH {a b k:Nat} (ha:a<B64 ^ k) (hb:b<B64 ^ k):a+b<B64 ^ (k+1):=by
 rw [Nat.pow_succ]
 have h:B64 ^ k*2≤B64 ^ k*B64:=Nat.mul_le_mul_left _ (by decide)
 omega
theorem V7 (p1 q1 l1 m1:Nat) (c2 d2:Value) (a b k:Nat) (w:World) (ha:ah w (.int .u64 0) (.slice (some ⟨p1,q1,none⟩) l1 m1) a) (hb:ah w (c2) (d2) b) (hk:k≤137438953472) (ka:a<B64 ^ k) (kb:b<B64 ^ k) :
  Calls Tryz.prog 76 #[.agg #[.int .u64 0,.slice (some ⟨p1,q1,none⟩) l1 m1],.agg #[c2,d2]] w (aW w (a+b)):=by
 have hn:=fP
 go_enter Tryz.func76,Tryz.ntmps76
 go_wp2_with (go_big_skip)
 go_region_held3 (fun w'=>S2 w w' (.int .u64 0) (.slice (some ⟨p1,q1,none⟩) l1 m1) (c2) (d2))
  ((first | assumption | exact S2.start _ _ _ _ _ _ _ _ _ | exact S2.next (by assumption) (by assumption) | exact S2.store (by assumption)))
  (first
   | (go_at_call_of 85 (Value.agg #[.int .u64 0,.slice (some ⟨p1,q1,none⟩) l1 m1]);refine (fZ _ _ a _ ?_).mono ?_;exact ha.mono (‹S2 w _ (.int .u64 0) (.slice (some ⟨p1,q1,none⟩) l1 m1) (c2) (d2)›).2.2.1 (Nat.le_refl _);rintro e wA ⟨b1,o1,cp1,xs,rfl,hb1,hl1,hd1,ht1,hv1,hD1,hBA⟩)
   | (go_at_call_of 85 (Value.agg #[c2,d2]);refine (fZ _ _ b _ ?_).mono ?_;exact hb.mono (‹S2 w _ (.int .u64 0) (.slice (some ⟨p1,q1,none⟩) l1 m1) (c2) (d2)›).2.2.1 (Nat.le_refl _);rintro e wB ⟨b2,o2,cp2,ys,rfl,hb2,hl2,hd2,ht2,hv2,hD2,hBB⟩)
   | (go_at_call 107;refine (FU _ _ b1 o1 cp1 b2 o2 cp2 xs ys _ ?_ ?_ ?_ ?_ hd1 hd2 ?_ ?_ rfl rfl).mono ?_;(first | exact hD1.below hBB hb1 | exact hD1);(first | exact hD2 | exact hD2.below hBA hb2);(first | exact Nat.lt_of_lt_of_le hb1 hBB.size | exact hb1);(first | exact hb2 | exact Nat.lt_of_lt_of_le hb2 hBA.size);exact Nat.le_trans (aZ ht1 (by rw [hv1];exact ka)) (by omega);exact Nat.le_trans (aZ ht2 (by rw [hv2];exact kb)) (by omega);rintro e wC ⟨b3,o3,cp3,zs,rfl,hb3,hl3,hd3,ht3,hv3,hD3,hBC⟩;rw [hv1,hv2] at hv3)
   | (go_at_call 81;refine (kQ b3 o3 cp3 zs.length zs _ rfl hl3 ?_ hb3 hd3 ht3 hD3).mono ?_;exact Nat.le_trans (aZ ht3 (by rw [hv3];exact (BH ka kb))) (by omega);rintro e wD hret;obtain ⟨x,p,l,cc,rfl,hm,hBD⟩:=hret.shape;rw [hv3] at hm;have hSS:=S2.next ‹S2 w _ (.int .u64 0) (.slice (some ⟨p1,q1,none⟩) l1 m1) (c2) (d2)› hBD;obtain ⟨⟨y1,hy1⟩,⟨y2,hy2⟩,hf1,hf2⟩:=hSS.slot;obtain ⟨hz1,hz2,hHm⟩:=hSS.done hm;clear hret hm))
 all_goals go_wp2
 all_goals
  refine bodyPost_ret (v:=.agg #[.int .u64 x,.slice p l cc]) (by simp [results,Tryz.results76,go_sem,hz1,hz2]) rfl ⟨_,_,rfl,hHm.out.1,hHm.out.2⟩
theorem V8 (x0 p1 q1 l1 m1:Nat) (a b k:Nat) (w:World) (ha:ah w (.int .u64 (x0:Int)) (.slice none 0 0) a) (hb:ah w (.int .u64 0) (.slice (some ⟨p1,q1,none⟩) l1 m1) b) (hk:k≤137438953472) (ka:a<B64 ^ k) (kb:b<B64 ^ k) :
  Calls Tryz.prog 76 #[.agg #[.int .u64 (x0:Int),.slice none 0 0],.agg #[.int .u64 0,.slice (some ⟨p1,q1,none⟩) l1 m1]] w (aW w (a+b)):=by
 have hn:=fP
 go_enter Tryz.func76,Tryz.ntmps76
 go_wp2_with (go_big_skip)
 go_region_held3 (fun w'=>S2 w w' (.int .u64 (x0:Int)) (.slice none 0 0) (.int .u64 0) (.slice (some ⟨p1,q1,none⟩) l1 m1))
  ((first | assumption | exact S2.start _ _ _ _ _ _ _ _ _ | exact S2.next (by assumption) (by assumption) | exact S2.store (by assumption)))
  (first
   | (go_at_call_of 85 (Value.agg #[.int .u64 (x0:Int),.slice none 0 0]);refine (fZ _ _ a _ ?_).mono ?_;exact ha.mono (‹S2 w _ (.int .u64 (x0:Int)) (.slice none 0 0) (.int .u64 0) (.slice (some ⟨p1,q1,none⟩) l1 m1)›).2.2.1 (Nat.le_refl _);rintro e wA ⟨b1,o1,cp1,xs,rfl,hb1,hl1,hd1,ht1,hv1,hD1,hBA⟩)
   | (go_at_call_of 85 (Value.agg #[.int .u64 0,.slice (some ⟨p1,q1,none⟩) l1 m1]);refine (fZ _ _ b _ ?_).mono ?_;exact hb.mono (‹S2 w _ (.int .u64 (x0:Int)) (.slice none 0 0) (.int .u64 0) (.slice (some ⟨p1,q1,none⟩) l1 m1)›).2.2.1 (Nat.le_refl _);rintro e wB ⟨b2,o2,cp2,ys,rfl,hb2,hl2,hd2,ht2,hv2,hD2,hBB⟩)
   | (go_at_call 107;refine (FU _ _ b1 o1 cp1 b2 o2 cp2 xs ys _ ?_ ?_ ?_ ?_ hd1 hd2 ?_ ?_ rfl rfl).mono ?_;(first | exact hD1.below hBB hb1 | exact hD1);(first | exact hD2 | exact hD2.below hBA hb2);(first | exact Nat.lt_of_lt_of_le hb1 hBB.size | exact hb1);(first | exact hb2 | exact Nat.lt_of_lt_of_le hb2 hBA.size);exact Nat.le_trans (aZ ht1 (by rw [hv1];exact ka)) (by omega);exact Nat.le_trans (aZ ht2 (by rw [hv2];exact kb)) (by omega);rintro e wC ⟨b3,o3,cp3,zs,rfl,hb3,hl3,hd3,ht3,hv3,hD3,hBC⟩;rw [hv1,hv2] at hv3)
   | (go_at_call 81;refine (kQ b3 o3 cp3 zs.length zs _ rfl hl3 ?_ hb3 hd3 ht3 hD3).mono ?_;exact Nat.le_trans (aZ ht3 (by rw [hv3];exact (BH ka kb))) (by omega);rintro e wD hret;obtain ⟨x,p,l,cc,rfl,hm,hBD⟩:=hret.shape;rw [hv3] at hm;have hSS:=S2.next ‹S2 w _ (.int .u64 (x0:Int)) (.slice none 0 0) (.int .u64 0) (.slice (some ⟨p1,q1,none⟩) l1 m1)› hBD;obtain ⟨⟨y1,hy1⟩,⟨y2,hy2⟩,hf1,hf2⟩:=hSS.slot;obtain ⟨hz1,hz2,hHm⟩:=hSS.done hm;clear hret hm))
 all_goals go_wp2
 all_goals
  refine bodyPost_ret (v:=.agg #[.int .u64 x,.slice p l cc]) (by simp [results,Tryz.results76,go_sem,hz1,hz2]) rfl ⟨_,_,rfl,hHm.out.1,hHm.out.2⟩
theorem V6 (x0 y0:Nat) (a b k:Nat) (w:World) (ha:ah w (.int .u64 (x0:Int)) (.slice none 0 0) a) (hb:ah w (.int .u64 (y0:Int)) (.slice none 0 0) b) (hk:k≤137438953472) (ka:a<B64 ^ k) (kb:b<B64 ^ k) (s0 c0:Nat) (hadd:∀ w:World,(callFunc 106 #[.int .u64 (x0:Int),.int .u64 (y0:Int),.int .u64 0]).run Tryz.prog w=.ok (.value (.tuple #[.int .u64 (s0:Int),.int .u64 (c0:Int)])) w) (hc0:((c0:Int) == 0)=false) :
  Calls Tryz.prog 76 #[.agg #[.int .u64 (x0:Int),.slice none 0 0],.agg #[.int .u64 (y0:Int),.slice none 0 0]] w (aW w (a+b)):=by
 have hn:=fP
 go_enter Tryz.func76,Tryz.ntmps76
 go_wp2_with (go_big_skip)
 go_region_held3 (fun w'=>S2 w w' (.int .u64 (x0:Int)) (.slice none 0 0) (.int .u64 (y0:Int)) (.slice none 0 0))
  ((first | assumption | exact S2.start _ _ _ _ _ _ _ _ _ | exact S2.next (by assumption) (by assumption) | exact S2.store (by assumption)))
  (first
   | (go_at_call_of 85 (Value.agg #[.int .u64 (x0:Int),.slice none 0 0]);refine (fZ _ _ a _ ?_).mono ?_;exact ha.mono (‹S2 w _ (.int .u64 (x0:Int)) (.slice none 0 0) (.int .u64 (y0:Int)) (.slice none 0 0)›).2.2.1 (Nat.le_refl _);rintro e wA ⟨b1,o1,cp1,xs,rfl,hb1,hl1,hd1,ht1,hv1,hD1,hBA⟩)
   | (go_at_call_of 85 (Value.agg #[.int .u64 (y0:Int),.slice none 0 0]);refine (fZ _ _ b _ ?_).mono ?_;exact hb.mono (‹S2 w _ (.int .u64 (x0:Int)) (.slice none 0 0) (.int .u64 (y0:Int)) (.slice none 0 0)›).2.2.1 (Nat.le_refl _);rintro e wB ⟨b2,o2,cp2,ys,rfl,hb2,hl2,hd2,ht2,hv2,hD2,hBB⟩)
   | (go_at_call 107;refine (FU _ _ b1 o1 cp1 b2 o2 cp2 xs ys _ ?_ ?_ ?_ ?_ hd1 hd2 ?_ ?_ rfl rfl).mono ?_;(first | exact hD1.below hBB hb1 | exact hD1);(first | exact hD2 | exact hD2.below hBA hb2);(first | exact Nat.lt_of_lt_of_le hb1 hBB.size | exact hb1);(first | exact hb2 | exact Nat.lt_of_lt_of_le hb2 hBA.size);exact Nat.le_trans (aZ ht1 (by rw [hv1];exact ka)) (by omega);exact Nat.le_trans (aZ ht2 (by rw [hv2];exact kb)) (by omega);rintro e wC ⟨b3,o3,cp3,zs,rfl,hb3,hl3,hd3,ht3,hv3,hD3,hBC⟩;rw [hv1,hv2] at hv3)
   | (go_at_call 81;refine (kQ b3 o3 cp3 zs.length zs _ rfl hl3 ?_ hb3 hd3 ht3 hD3).mono ?_;exact Nat.le_trans (aZ ht3 (by rw [hv3];exact (BH ka kb))) (by omega);rintro e wD hret;obtain ⟨x,p,l,cc,rfl,hm,hBD⟩:=hret.shape;rw [hv3] at hm;have hSS:=S2.next ‹S2 w _ (.int .u64 (x0:Int)) (.slice none 0 0) (.int .u64 (y0:Int)) (.slice none 0 0)› hBD;obtain ⟨⟨y1,hy1⟩,⟨y2,hy2⟩,hf1,hf2⟩:=hSS.slot;obtain ⟨hz1,hz2,hHm⟩:=hSS.done hm;clear hret hm))
 all_goals go_wp2
 all_goals
  refine bodyPost_ret (v:=.agg #[.int .u64 x,.slice p l cc]) (by simp [results,Tryz.results76,go_sem,hz1,hz2]) rfl ⟨_,_,rfl,hHm.out.1,hHm.out.2⟩
theorem V9 (x0 y0:Nat) (w:World) (s0:Nat) (hs:s0<B64) (hadd:∀ w:World,(callFunc 106 #[.int .u64 (x0:Int),.int .u64 (y0:Int),.int .u64 0]).run Tryz.prog w=.ok (.value (.tuple #[.int .u64 (s0:Int),.int .u64 0])) w) :
  Calls Tryz.prog 76 #[.agg #[.int .u64 (x0:Int),.slice none 0 0],.agg #[.int .u64 (y0:Int),.slice none 0 0]] w (aW w s0):=by
 have hn:=fP
 have HS:=hid hs
 clear hs
 go_enter Tryz.func76,Tryz.ntmps76
 go_wp2_with (go_big_skip)
 refine bodyPost_ret (v:=.agg #[.int .u64 (s0:Int),.slice none 0 0]) (by simp [results,Tryz.results76,go_sem]) rfl ⟨_,_,rfl,.inl ⟨HS.out,rfl,rfl⟩,?_⟩
 exact (((Below.refl _ _).alloc (Nat.le_refl _) _).alloc (by simp) _).alloc (by simp;omega) _
theorem EX (a b k:Nat) (c1 d1 c2 d2:Value) (w:World) (ha:ah w c1 d1 a) (hb:ah w c2 d2 b) (hk:k≤137438953472) (ka:a<B64 ^ k) (kb:b<B64 ^ k) :
  Calls Tryz.prog 76 #[.agg #[c1,d1],.agg #[c2,d2]] w (aW w (a+b)):=by
 rcases id ha with ⟨ha1,rfl,rfl⟩ | ⟨b1,o1,k1,xs,rfl,rfl,_⟩
 ·rcases id hb with ⟨hb1,rfl,rfl⟩ | ⟨b2,o2,k2,ys,rfl,rfl,_⟩
  ·by_cases hc:dX a b 0=0
   ·have hs:bF a b 0=a+b:=by
     have:=lV a b 0
     rw [hc] at this
     omega
    refine hs ▸ V9 a b w (bF a b 0) (nP _ _ _) fun w=>?_
    have:=rZ a b w
    rw [hc] at this
    exact this
   ·exact V6 a b a b k w ha hb hk ka kb _ _ (rZ a b) (by rw [beq_eq_false_iff_ne];omega)
  ·exact V8 _ _ _ _ _ a b k w ha hb hk ka kb
 ·exact V7 _ _ _ _ _ _ a b k w ha hb hk ka kb
end
section
open Go.RowKit Go.Sort
theorem EI {w:World} {c:Value} {b o l k n:Nat} (h:ah w c (.slice (some ⟨b,o,none⟩) l k) n):∃ xs,xs.length=l∧l≤k∧2≤l∧b<w.heap.size∧Dig xs∧aC xs∧val xs=n∧aF w b o xs:=by
 rcases h with ⟨_,_,h2⟩ | ⟨b',o',k',xs,h1,h2,h3,h4,h5,h6,h7,h8,h9⟩
 ·cases h2
 ·cases h2
  exact ⟨xs,rfl,h5,h4,h3,h6,h7,h8,h9⟩
theorem Vt {xs ys:List Nat} (hy:aC ys) (h:val ys≤val xs) (hd:Dig xs):ys.length≤xs.length:=by
 have h1:=aV hd
 exact aZ hy (Nat.lt_of_le_of_lt h h1)
theorem V4 (p1 q1 l1 m1:Nat) (c2 d2:Value) (a b k:Nat) (w:World) (ha:ah w (.int .u64 0) (.slice (some ⟨p1,q1,none⟩) l1 m1) a) (hb:ah w (c2) (d2) b) (hba:b≤a) (hk:k≤137438953472) (ka:a<B64 ^ k) :
  Calls Tryz.prog 77 #[.agg #[.int .u64 0,.slice (some ⟨p1,q1,none⟩) l1 m1],.agg #[c2,d2]] w (aW w (a - b)):=by
 have hn:=fP
 go_enter Tryz.func77,Tryz.ntmps77
 go_wp2_with (go_big_skip)
 go_region_held3 (fun w'=>S2 w w' (.int .u64 0) (.slice (some ⟨p1,q1,none⟩) l1 m1) (c2) (d2))
  ((first | assumption | exact S2.start _ _ _ _ _ _ _ _ _ | exact S2.next (by assumption) (by assumption) | exact S2.store (by assumption)))
  (first
   | (go_at_call_of 85 (Value.agg #[c2,d2]);refine (fZ _ _ b _ ?_).mono ?_;exact hb.mono (‹S2 w _ (.int .u64 0) (.slice (some ⟨p1,q1,none⟩) l1 m1) (c2) (d2)›).2.2.1 (Nat.le_refl _);rintro e wB ⟨b2,o2,cp2,ys,rfl,hb2,hl2,hd2,ht2,hv2,hD2,hBB⟩)
   | (go_at_call 108;obtain ⟨xs,hlx,hlk,hl2',hb1,hd1,ht1,hv1,hD1⟩:=EI (ha.mono (‹S2 w _ (.int .u64 0) (.slice (some ⟨p1,q1,none⟩) l1 m1) (c2) (d2)›).2.2.1 (Nat.le_refl _));refine (VU _ _ p1 q1 m1 b2 o2 cp2 xs ys _ hD1 hD2 hb1 hb2 hd1 hd2 ?_ ?_ ?_ hlx rfl).mono ?_;exact Nat.le_trans (aZ ht1 (by rw [hv1];exact ka)) (by omega);exact Vt ht2 (by rw [hv1,hv2];exact hba) hd1;rw [hv1,hv2];exact hba;rintro e wC ⟨b3,o3,cp3,zs,rfl,hb3,hl3,hd3,ht3,hv3,hD3,hBC⟩;rw [hv1,hv2] at hv3)
   | (go_at_call 81;refine (kQ b3 o3 cp3 zs.length zs _ rfl hl3 ?_ hb3 hd3 ht3 hD3).mono ?_;exact Nat.le_trans (aZ ht3 (by rw [hv3];exact Nat.lt_of_le_of_lt (Nat.sub_le _ _) ka)) (by omega);rintro e wD hret;obtain ⟨x,p,l,cc,rfl,hm,hBD⟩:=hret.shape;rw [hv3] at hm;have hSS:=S2.next ‹S2 w _ (.int .u64 0) (.slice (some ⟨p1,q1,none⟩) l1 m1) (c2) (d2)› hBD;obtain ⟨⟨y1,hy1⟩,⟨y2,hy2⟩,hf1,hf2⟩:=hSS.slot;obtain ⟨hz1,hz2,hHm⟩:=hSS.done hm;clear hret hm))
 all_goals go_wp2
 all_goals
  refine bodyPost_ret (v:=.agg #[.int .u64 x,.slice p l cc]) (by simp [results,Tryz.results77,go_sem,hz1,hz2]) rfl ⟨_,_,rfl,hHm.out.1,hHm.out.2⟩
theorem V5 (x0 y0:Nat) (w:World) (hx:x0<B64) (hle:y0≤x0) :
  Calls Tryz.prog 77 #[.agg #[.int .u64 (x0:Int),.slice none 0 0],.agg #[.int .u64 (y0:Int),.slice none 0 0]] w (aW w (x0 - y0)):=by
 have hn:=fP
 have hwr:IntKind.u64.wrap ((x0:Int) - (y0:Int))=((x0 - y0:Nat):Int):=by
  unfold B64 at hx
  simp [IntKind.wrap,IntKind.bits,IntKind.signed]
  omega
 have HS:Hid (x0 - y0<B64):=hid (by omega)
 obtain ⟨z,hz⟩:∃ z,x0 - y0=z:=⟨_,rfl⟩
 rw [hz] at hwr HS ⊢
 clear hx hle hz
 go_enter Tryz.func77,Tryz.ntmps77
 go_wp2_with (go_big_skip)
 refine bodyPost_ret (v:=.agg #[.int .u64 (z:Int),.slice none 0 0]) (by simp [results,Tryz.results77,go_sem]) rfl ⟨_,_,rfl,.inl ⟨HS.out,rfl,rfl⟩,?_⟩
 exact (((Below.refl _ _).alloc (Nat.le_refl _) _).alloc (by simp) _).alloc (by simp;omega) _
theorem V3 (a b k:Nat) (c1 d1 c2 d2:Value) (w:World) (ha:ah w c1 d1 a) (hb:ah w c2 d2 b) (hba:b≤a) (hk:k≤137438953472) (ka:a<B64 ^ k) :
  Calls Tryz.prog 77 #[.agg #[c1,d1],.agg #[c2,d2]] w (aW w (a - b)):=by
 rcases id ha with ⟨ha1,rfl,rfl⟩ | ⟨b1,o1,k1,xs,rfl,rfl,_⟩
 ·obtain ⟨rfl,rfl⟩:=zk hb (by omega)
  exact V5 a b w ha1 hba
 ·exact V4 _ _ _ _ _ _ a b k w ha hb hba hk ka
end
section
open Go.RowKit Go.Sort
theorem S2.start0 (w:World) (c1 d1 c2 d2 z1:Value) (t1 t2 t3:TypeId):S2 w (((w.alloc (.cells #[c1,d1] t1)).alloc (.cells #[c2,d2] t2)).alloc (.cells #[z1,.slice none 0 0] t3)) c1 d1 c2 d2:=by
 refine ⟨⟨?_,?_⟩,⟨?_,?_⟩,?_,?_,?_,?_,?_,?_⟩
 ·go_simp
 ·go_simp
 ·go_simp
 ·go_simp
 ·exact (((Below.refl _ _).alloc (Nat.le_refl _) _).alloc (by simp) _).alloc (by simp;omega) _
 ·simp
 ·go_simp
 ·exact ⟨none,0,0,by go_simp⟩
 ·go_simp
 ·go_simp
theorem S2.drew {w W:World} {c1 d1 c2 d2:Value} (h:S2 w W c1 d1 c2 d2):S2 w W.drew c1 d1 c2 d2:=by
 obtain ⟨⟨h1,h1'⟩,⟨h2,h2'⟩,h3,h4,h5,h6,h7,h8⟩:=h
 exact ⟨⟨h1,h1'⟩,⟨h2,h2'⟩,h3.drew,h4,h5,h6,h7,h8⟩
theorem um {a b k:Nat} (ha:a<B64 ^ k) (hb:b<B64 ^ k):a*b<B64 ^ (k+k):=by
 rw [Nat.pow_add]
 exact Nat.mul_lt_mul'' ha hb
theorem KZ (p1 q1 l1 m1:Nat) (x2:Int) (p2:Option Addr) (l2 m2:Nat) (a b k:Nat) (w:World) (ha:ah w (.int .u64 0) (.slice (some ⟨p1,q1,none⟩) l1 m1) a) (hb:ah w (.int .u64 x2) (.slice p2 l2 m2) b) (hk:k≤68719476736) (ka:a<B64 ^ k) (kb:b<B64 ^ k) :
  Calls Tryz.prog 47 #[.agg #[.int .u64 0,.slice (some ⟨p1,q1,none⟩) l1 m1],.agg #[.int .u64 x2,.slice p2 l2 m2]] w (aW w (a*b)):=by
 have hn:=fP
 go_enter Tryz.func47,Tryz.ntmps47
 go_wp2_with fail
 have s0:=S2.start0 w (.int .u64 0) (.slice (some ⟨p1,q1,none⟩) l1 m1) (.int .u64 x2) (.slice p2 l2 m2) (.int .u64 0) 28 28 28
 refine (eY _ _ a _ (ha.mono s0.2.2.1 (Nat.le_refl _))).mono ?_
 rintro e w1 ⟨rfl,hB1⟩
 have s1:=s0.next hB1
 clear s0 hB1
 obtain ⟨e1,e2⟩:=s1.1
 obtain ⟨e3,e4⟩:=s1.2.1
 obtain ⟨⟨y1,hy1⟩,⟨y2,hy2⟩,hf1,hf2⟩:=s1.slot
 by_cases h1:a=1
 ·have h1':(a == 1)=true:=by rw [beq_iff_eq];exact h1
  exact absurd (U3 ha) (by rw [h1];unfold B64;omega)
 have h1':(a == 1)=false:=by rw [beq_eq_false_iff_ne];exact h1
 clear h1
 go_wp2_with fail
 clear e1 e2 e3 e4 hy1 hy2 hf1 hf2 h1'
 refine (eY _ _ b _ (hb.mono s1.2.2.1 (Nat.le_refl _))).mono ?_
 rintro e w2 ⟨rfl,hB2⟩
 have s2:=s1.next hB2
 clear s1 hB2
 obtain ⟨e1,e2⟩:=s2.1
 obtain ⟨⟨y1,hy1⟩,⟨y2,hy2⟩,hf1,hf2⟩:=s2.slot
 by_cases h2:b=1
 ·have h2':(b == 1)=true:=by rw [beq_iff_eq];exact h2
  obtain ⟨hz1,hz2,hHm⟩:=s2.done (ha.mono s2.2.2.1 (Nat.le_refl _))
  clear s2
  go_wp2_with fail
  refine bodyPost_ret (v:=.agg #[.int .u64 0,.slice (some ⟨p1,q1,none⟩) l1 m1]) (by simp [results,Tryz.results47,go_sem,hz1,hz2]) rfl ?_
  subst h2
  rw [Nat.mul_one]
  exact ⟨_,_,rfl,hHm.out.1,hHm.out.2⟩
 have h2':(b == 1)=false:=by rw [beq_eq_false_iff_ne];exact h2
 clear h2
 clear e1 e2 hy1 hy2 hf1 hf2
 go_wp2_with (go_big_skip)
 go_region_held3 (fun w'=>S2 w w' (.int .u64 0) (.slice (some ⟨p1,q1,none⟩) l1 m1) (.int .u64 x2) (.slice p2 l2 m2))
  ((first | assumption | exact S2.start _ _ _ _ _ _ _ _ _ | exact S2.next (by assumption) (by assumption) | exact S2.store (by assumption) | exact S2.drew (by assumption)))
  (first
   | (go_at_call_of 85 (Value.agg #[.int .u64 0,.slice (some ⟨p1,q1,none⟩) l1 m1]);refine (fZ _ _ a _ ?_).mono ?_;exact ha.mono (‹S2 w _ (.int .u64 0) (.slice (some ⟨p1,q1,none⟩) l1 m1) (.int .u64 x2) (.slice p2 l2 m2)›).2.2.1 (Nat.le_refl _);rintro e wA ⟨b1,o1,cp1,xs,rfl,hb1,hl1,hd1,ht1,hv1,hD1,hBA⟩)
   | (go_at_call_of 85 (Value.agg #[.int .u64 x2,.slice p2 l2 m2]);refine (fZ _ _ b _ ?_).mono ?_;exact hb.mono (‹S2 w _ (.int .u64 0) (.slice (some ⟨p1,q1,none⟩) l1 m1) (.int .u64 x2) (.slice p2 l2 m2)›).2.2.1 (Nat.le_refl _);rintro e wB ⟨b2,o2,cp2,ys,rfl,hb2,hl2,hd2,ht2,hv2,hD2,hBB⟩)
   | (go_at_call 86;refine (GH _ _ b1 o1 cp1 b2 o2 cp2 xs ys _ ?_ ?_ ?_ ?_ hd1 hd2 ?_ ?_ rfl rfl).mono ?_;(first | exact hD1.below hBB hb1 | exact hD1);(first | exact hD2 | exact hD2.below hBA hb2);(first | exact Nat.lt_of_lt_of_le hb1 hBB.size | exact hb1);(first | exact hb2 | exact Nat.lt_of_lt_of_le hb2 hBA.size);exact Nat.le_trans (aZ ht1 (by rw [hv1];exact ka)) (by omega);exact Nat.le_trans (aZ ht2 (by rw [hv2];exact kb)) (by omega);rintro e wC ⟨b3,o3,cp3,zs,rfl,hb3,hl3,hd3,ht3,hv3,hD3,hBC⟩;rw [hv1,hv2] at hv3)
   | (go_at_call 81;refine (kQ b3 o3 cp3 zs.length zs _ rfl hl3 ?_ hb3 hd3 ht3 hD3).mono ?_;exact Nat.le_trans (aZ ht3 (by rw [hv3];exact (um ka kb))) (by omega);rintro e wD hret;obtain ⟨x,p,l,cc,rfl,hm,hBD⟩:=hret.shape;rw [hv3] at hm;have hSS:=S2.next ‹S2 w _ (.int .u64 0) (.slice (some ⟨p1,q1,none⟩) l1 m1) (.int .u64 x2) (.slice p2 l2 m2)› hBD;obtain ⟨⟨y1,hy1⟩,⟨y2,hy2⟩,hf1,hf2⟩:=hSS.slot;obtain ⟨hz1,hz2,hHm⟩:=hSS.done hm;clear hret hm))
 all_goals go_wp2
 all_goals
  refine bodyPost_ret (v:=.agg #[.int .u64 x,.slice p l cc]) (by simp [results,Tryz.results47,go_sem,hz1,hz2]) rfl ⟨_,_,rfl,hHm.out.1,hHm.out.2⟩
theorem Wn (x0 p2 q2 l2 m2:Nat) (a b k:Nat) (w:World) (ha:ah w (.int .u64 (x0:Int)) (.slice none 0 0) a) (hb:ah w (.int .u64 0) (.slice (some ⟨p2,q2,none⟩) l2 m2) b) (hk:k≤68719476736) (ka:a<B64 ^ k) (kb:b<B64 ^ k) :
  Calls Tryz.prog 47 #[.agg #[.int .u64 (x0:Int),.slice none 0 0],.agg #[.int .u64 0,.slice (some ⟨p2,q2,none⟩) l2 m2]] w (aW w (a*b)):=by
 have hn:=fP
 go_enter Tryz.func47,Tryz.ntmps47
 go_wp2_with fail
 have s0:=S2.start0 w (.int .u64 (x0:Int)) (.slice none 0 0) (.int .u64 0) (.slice (some ⟨p2,q2,none⟩) l2 m2) (.int .u64 0) 28 28 28
 refine (eY _ _ a _ (ha.mono s0.2.2.1 (Nat.le_refl _))).mono ?_
 rintro e w1 ⟨rfl,hB1⟩
 have s1:=s0.next hB1
 clear s0 hB1
 obtain ⟨e1,e2⟩:=s1.1
 obtain ⟨e3,e4⟩:=s1.2.1
 obtain ⟨⟨y1,hy1⟩,⟨y2,hy2⟩,hf1,hf2⟩:=s1.slot
 by_cases h1:a=1
 ·have h1':(a == 1)=true:=by rw [beq_iff_eq];exact h1
  obtain ⟨hz1,hz2,hHm⟩:=s1.done (hb.mono s1.2.2.1 (Nat.le_refl _))
  clear s1
  go_wp2_with fail
  refine bodyPost_ret (v:=.agg #[.int .u64 0,.slice (some ⟨p2,q2,none⟩) l2 m2]) (by simp [results,Tryz.results47,go_sem,hz1,hz2]) rfl ?_
  subst h1
  rw [Nat.one_mul]
  exact ⟨_,_,rfl,hHm.out.1,hHm.out.2⟩
 have h1':(a == 1)=false:=by rw [beq_eq_false_iff_ne];exact h1
 clear h1
 go_wp2_with fail
 clear e1 e2 e3 e4 hy1 hy2 hf1 hf2 h1'
 refine (eY _ _ b _ (hb.mono s1.2.2.1 (Nat.le_refl _))).mono ?_
 rintro e w2 ⟨rfl,hB2⟩
 have s2:=s1.next hB2
 clear s1 hB2
 obtain ⟨e1,e2⟩:=s2.1
 obtain ⟨⟨y1,hy1⟩,⟨y2,hy2⟩,hf1,hf2⟩:=s2.slot
 by_cases h2:b=1
 ·have h2':(b == 1)=true:=by rw [beq_iff_eq];exact h2
  obtain ⟨hz1,hz2,hHm⟩:=s2.done (ha.mono s2.2.2.1 (Nat.le_refl _))
  clear s2
  go_wp2_with fail
  refine bodyPost_ret (v:=.agg #[.int .u64 (x0:Int),.slice none 0 0]) (by simp [results,Tryz.results47,go_sem,hz1,hz2]) rfl ?_
  subst h2
  rw [Nat.mul_one]
  exact ⟨_,_,rfl,hHm.out.1,hHm.out.2⟩
 have h2':(b == 1)=false:=by rw [beq_eq_false_iff_ne];exact h2
 clear h2
 clear e1 e2 hy1 hy2 hf1 hf2
 go_wp2_with (go_big_skip)
 go_region_held3 (fun w'=>S2 w w' (.int .u64 (x0:Int)) (.slice none 0 0) (.int .u64 0) (.slice (some ⟨p2,q2,none⟩) l2 m2))
  ((first | assumption | exact S2.start _ _ _ _ _ _ _ _ _ | exact S2.next (by assumption) (by assumption) | exact S2.store (by assumption) | exact S2.drew (by assumption)))
  (first
   | (go_at_call_of 85 (Value.agg #[.int .u64 (x0:Int),.slice none 0 0]);refine (fZ _ _ a _ ?_).mono ?_;exact ha.mono (‹S2 w _ (.int .u64 (x0:Int)) (.slice none 0 0) (.int .u64 0) (.slice (some ⟨p2,q2,none⟩) l2 m2)›).2.2.1 (Nat.le_refl _);rintro e wA ⟨b1,o1,cp1,xs,rfl,hb1,hl1,hd1,ht1,hv1,hD1,hBA⟩)
   | (go_at_call_of 85 (Value.agg #[.int .u64 0,.slice (some ⟨p2,q2,none⟩) l2 m2]);refine (fZ _ _ b _ ?_).mono ?_;exact hb.mono (‹S2 w _ (.int .u64 (x0:Int)) (.slice none 0 0) (.int .u64 0) (.slice (some ⟨p2,q2,none⟩) l2 m2)›).2.2.1 (Nat.le_refl _);rintro e wB ⟨b2,o2,cp2,ys,rfl,hb2,hl2,hd2,ht2,hv2,hD2,hBB⟩)
   | (go_at_call 86;refine (GH _ _ b1 o1 cp1 b2 o2 cp2 xs ys _ ?_ ?_ ?_ ?_ hd1 hd2 ?_ ?_ rfl rfl).mono ?_;(first | exact hD1.below hBB hb1 | exact hD1);(first | exact hD2 | exact hD2.below hBA hb2);(first | exact Nat.lt_of_lt_of_le hb1 hBB.size | exact hb1);(first | exact hb2 | exact Nat.lt_of_lt_of_le hb2 hBA.size);exact Nat.le_trans (aZ ht1 (by rw [hv1];exact ka)) (by omega);exact Nat.le_trans (aZ ht2 (by rw [hv2];exact kb)) (by omega);rintro e wC ⟨b3,o3,cp3,zs,rfl,hb3,hl3,hd3,ht3,hv3,hD3,hBC⟩;rw [hv1,hv2] at hv3)
   | (go_at_call 81;refine (kQ b3 o3 cp3 zs.length zs _ rfl hl3 ?_ hb3 hd3 ht3 hD3).mono ?_;exact Nat.le_trans (aZ ht3 (by rw [hv3];exact (um ka kb))) (by omega);rintro e wD hret;obtain ⟨x,p,l,cc,rfl,hm,hBD⟩:=hret.shape;rw [hv3] at hm;have hSS:=S2.next ‹S2 w _ (.int .u64 (x0:Int)) (.slice none 0 0) (.int .u64 0) (.slice (some ⟨p2,q2,none⟩) l2 m2)› hBD;obtain ⟨⟨y1,hy1⟩,⟨y2,hy2⟩,hf1,hf2⟩:=hSS.slot;obtain ⟨hz1,hz2,hHm⟩:=hSS.done hm;clear hret hm))
 all_goals go_wp2
 all_goals
  refine bodyPost_ret (v:=.agg #[.int .u64 x,.slice p l cc]) (by simp [results,Tryz.results47,go_sem,hz1,hz2]) rfl ⟨_,_,rfl,hHm.out.1,hHm.out.2⟩
theorem Wj (x0 y0:Nat) (a b k:Nat) (w:World) (ha:ah w (.int .u64 (x0:Int)) (.slice none 0 0) a) (hb:ah w (.int .u64 (y0:Int)) (.slice none 0 0) b) (hk:k≤68719476736) (ka:a<B64 ^ k) (kb:b<B64 ^ k) (hx:x0<B64) (hy:y0<B64) (hh:iq x0 y0≠0) :
  Calls Tryz.prog 47 #[.agg #[.int .u64 (x0:Int),.slice none 0 0],.agg #[.int .u64 (y0:Int),.slice none 0 0]] w (aW w (a*b)):=by
 have hn:=fP
 have hmul:=hid (pJ x0 y0 hx hy)
 have hh0:(((iq x0 y0:Nat):Int) == 0)=false:=by rw [beq_eq_false_iff_ne];omega
 clear hx hy hh
 go_enter Tryz.func47,Tryz.ntmps47
 go_wp2_with fail
 refine (hmul.out _).mono ?_
 clear hmul
 obtain ⟨hi,hhi⟩:∃ x,iq x0 y0=x:=⟨_,rfl⟩
 obtain ⟨lo,hlo⟩:∃ x,mulL x0 y0=x:=⟨_,rfl⟩
 rw [hhi] at hh0
 rw [hhi,hlo]
 clear hhi hlo
 rintro e wM ⟨rfl,rfl⟩
 go_wp2_with fail
 have s0:=S2.start0 w (.int .u64 (x0:Int)) (.slice none 0 0) (.int .u64 (y0:Int)) (.slice none 0 0) (.int .u64 0) 28 28 28
 refine (eY _ _ a _ (ha.mono s0.2.2.1 (Nat.le_refl _))).mono ?_
 rintro e w1 ⟨rfl,hB1⟩
 have s1:=s0.next hB1
 clear s0 hB1
 obtain ⟨e1,e2⟩:=s1.1
 obtain ⟨e3,e4⟩:=s1.2.1
 obtain ⟨⟨y1,hy1⟩,⟨y2,hy2⟩,hf1,hf2⟩:=s1.slot
 by_cases h1:a=1
 ·have h1':(a == 1)=true:=by rw [beq_iff_eq];exact h1
  obtain ⟨hz1,hz2,hHm⟩:=s1.done (hb.mono s1.2.2.1 (Nat.le_refl _))
  clear s1
  go_wp2_with fail
  refine bodyPost_ret (v:=.agg #[.int .u64 (y0:Int),.slice none 0 0]) (by simp [results,Tryz.results47,go_sem,hz1,hz2]) rfl ?_
  subst h1
  rw [Nat.one_mul]
  exact ⟨_,_,rfl,hHm.out.1,hHm.out.2⟩
 have h1':(a == 1)=false:=by rw [beq_eq_false_iff_ne];exact h1
 clear h1
 go_wp2_with fail
 clear e1 e2 e3 e4 hy1 hy2 hf1 hf2 h1'
 refine (eY _ _ b _ (hb.mono s1.2.2.1 (Nat.le_refl _))).mono ?_
 rintro e w2 ⟨rfl,hB2⟩
 have s2:=s1.next hB2
 clear s1 hB2
 obtain ⟨e1,e2⟩:=s2.1
 obtain ⟨⟨y1,hy1⟩,⟨y2,hy2⟩,hf1,hf2⟩:=s2.slot
 by_cases h2:b=1
 ·have h2':(b == 1)=true:=by rw [beq_iff_eq];exact h2
  obtain ⟨hz1,hz2,hHm⟩:=s2.done (ha.mono s2.2.2.1 (Nat.le_refl _))
  clear s2
  go_wp2_with fail
  refine bodyPost_ret (v:=.agg #[.int .u64 (x0:Int),.slice none 0 0]) (by simp [results,Tryz.results47,go_sem,hz1,hz2]) rfl ?_
  subst h2
  rw [Nat.mul_one]
  exact ⟨_,_,rfl,hHm.out.1,hHm.out.2⟩
 have h2':(b == 1)=false:=by rw [beq_eq_false_iff_ne];exact h2
 clear h2
 clear e1 e2 hy1 hy2 hf1 hf2
 go_wp2_with (go_big_skip)
 go_region_held3 (fun w'=>S2 w w' (.int .u64 (x0:Int)) (.slice none 0 0) (.int .u64 (y0:Int)) (.slice none 0 0))
  ((first | assumption | exact S2.start _ _ _ _ _ _ _ _ _ | exact S2.next (by assumption) (by assumption) | exact S2.store (by assumption) | exact S2.drew (by assumption)))
  (first
   | (go_at_call_of 85 (Value.agg #[.int .u64 (x0:Int),.slice none 0 0]);refine (fZ _ _ a _ ?_).mono ?_;exact ha.mono (‹S2 w _ (.int .u64 (x0:Int)) (.slice none 0 0) (.int .u64 (y0:Int)) (.slice none 0 0)›).2.2.1 (Nat.le_refl _);rintro e wA ⟨b1,o1,cp1,xs,rfl,hb1,hl1,hd1,ht1,hv1,hD1,hBA⟩)
   | (go_at_call_of 85 (Value.agg #[.int .u64 (y0:Int),.slice none 0 0]);refine (fZ _ _ b _ ?_).mono ?_;exact hb.mono (‹S2 w _ (.int .u64 (x0:Int)) (.slice none 0 0) (.int .u64 (y0:Int)) (.slice none 0 0)›).2.2.1 (Nat.le_refl _);rintro e wB ⟨b2,o2,cp2,ys,rfl,hb2,hl2,hd2,ht2,hv2,hD2,hBB⟩)
   | (go_at_call 86;refine (GH _ _ b1 o1 cp1 b2 o2 cp2 xs ys _ ?_ ?_ ?_ ?_ hd1 hd2 ?_ ?_ rfl rfl).mono ?_;(first | exact hD1.below hBB hb1 | exact hD1);(first | exact hD2 | exact hD2.below hBA hb2);(first | exact Nat.lt_of_lt_of_le hb1 hBB.size | exact hb1);(first | exact hb2 | exact Nat.lt_of_lt_of_le hb2 hBA.size);exact Nat.le_trans (aZ ht1 (by rw [hv1];exact ka)) (by omega);exact Nat.le_trans (aZ ht2 (by rw [hv2];exact kb)) (by omega);rintro e wC ⟨b3,o3,cp3,zs,rfl,hb3,hl3,hd3,ht3,hv3,hD3,hBC⟩;rw [hv1,hv2] at hv3)
   | (go_at_call 81;refine (kQ b3 o3 cp3 zs.length zs _ rfl hl3 ?_ hb3 hd3 ht3 hD3).mono ?_;exact Nat.le_trans (aZ ht3 (by rw [hv3];exact (um ka kb))) (by omega);rintro e wD hret;obtain ⟨x,p,l,cc,rfl,hm,hBD⟩:=hret.shape;rw [hv3] at hm;have hSS:=S2.next ‹S2 w _ (.int .u64 (x0:Int)) (.slice none 0 0) (.int .u64 (y0:Int)) (.slice none 0 0)› hBD;obtain ⟨⟨y1,hy1⟩,⟨y2,hy2⟩,hf1,hf2⟩:=hSS.slot;obtain ⟨hz1,hz2,hHm⟩:=hSS.done hm;clear hret hm))
 all_goals go_wp2
 all_goals
  refine bodyPost_ret (v:=.agg #[.int .u64 x,.slice p l cc]) (by simp [results,Tryz.results47,go_sem,hz1,hz2]) rfl ⟨_,_,rfl,hHm.out.1,hHm.out.2⟩
theorem Wp (x0 y0:Nat) (w:World) (hx:x0<B64) (hy:y0<B64) (hh:iq x0 y0=0) :
  Calls Tryz.prog 47 #[.agg #[.int .u64 (x0:Int),.slice none 0 0],.agg #[.int .u64 (y0:Int),.slice none 0 0]] w (aW w (x0*y0)):=by
 have hn:=fP
 have hmul:=hid (pJ x0 y0 hx hy)
 have hl:=qQ x0 y0
 rw [hh,Nat.mul_zero,Nat.add_zero] at hl
 have HS:=hid (zT x0 y0)
 rw [hh,hl] at hmul
 rw [hl] at HS
 clear hx hy hh hl
 obtain ⟨z,hz⟩:∃ x,x0*y0=x:=⟨_,rfl⟩
 rw [hz] at hmul HS ⊢
 clear hz
 go_enter Tryz.func47,Tryz.ntmps47
 go_wp2_with fail
 refine (hmul.out _).mono ?_
 clear hmul
 rintro e wM ⟨rfl,rfl⟩
 go_wp2_with fail
 refine bodyPost_ret (v:=.agg #[.int .u64 (z:Int),.slice none 0 0]) (by simp [results,Tryz.results47,go_sem]) rfl ⟨_,_,rfl,.inl ⟨HS.out,rfl,rfl⟩,?_⟩
 exact (((Below.refl _ _).alloc (Nat.le_refl _) _).alloc (by simp) _).alloc (by simp;omega) _
theorem EY (a b k:Nat) (c1 d1 c2 d2:Value) (w:World) (ha:ah w c1 d1 a) (hb:ah w c2 d2 b) (hk:k≤68719476736) (ka:a<B64 ^ k) (kb:b<B64 ^ k) :
  Calls Tryz.prog 47 #[.agg #[c1,d1],.agg #[c2,d2]] w (aW w (a*b)):=by
 rcases id ha with ⟨ha1,rfl,rfl⟩ | ⟨b1,o1,k1,xs,rfl,rfl,_⟩
 ·rcases id hb with ⟨hb1,rfl,rfl⟩ | ⟨b2,o2,k2,ys,rfl,rfl,_⟩
  ·by_cases hc:iq a b=0
   ·exact Wp a b w ha1 hb1 hc
   ·exact Wj a b a b k w ha hb hk ka kb ha1 hb1 hc
  ·exact Wn _ _ _ _ _ a b k w ha hb hk ka kb
 ·rcases id hb with ⟨hb1,rfl,rfl⟩ | ⟨b2,o2,k2,ys,rfl,rfl,_⟩
  ·exact KZ _ _ _ _ _ _ _ _ a b k w ha hb hk ka kb
  ·exact KZ _ _ _ _ _ _ _ _ a b k w ha hb hk ka kb
end
section
open Go.RowKit Go.Sort
abbrev M2 (w w':World) (c1 d1 c2 d2:Value):Prop:=
 C2 w' w.heap.size c1 d1∧C2 w' (w.heap.size+1) c2 d2∧(Below w.heap.size w w'∧w.heap.size+1<w'.heap.size)
theorem M2.next {w W W':World} {c1 d1 c2 d2:Value} (h:M2 w W c1 d1 c2 d2) (hb:Below W.heap.size W W'):M2 w W' c1 d1 c2 d2:=by
 obtain ⟨h1,h2,h3,h4⟩:=h
 exact ⟨C2.below h1 hb (by omega),C2.below h2 hb (by omega),h3.trans (hb.mono h3.size),Nat.lt_of_lt_of_le h4 hb.size⟩
theorem M2.start0 (w:World) (c1 d1 c2 d2:Value) (t1 t2:TypeId):M2 w ((w.alloc (.cells #[c1,d1] t1)).alloc (.cells #[c2,d2] t2)) c1 d1 c2 d2:=by
 refine ⟨⟨?_,?_⟩,⟨?_,?_⟩,?_,?_⟩
 ·go_simp
 ·go_simp
 ·go_simp
 ·go_simp
 ·exact ((Below.refl _ _).alloc (Nat.le_refl _) _).alloc (by simp) _
 ·simp
theorem M2.drew {w W:World} {c1 d1 c2 d2:Value} (h:M2 w W c1 d1 c2 d2):M2 w W.drew c1 d1 c2 d2:=by
 obtain ⟨⟨h1,h1'⟩,⟨h2,h2'⟩,h3,h4⟩:=h
 exact ⟨⟨h1,h1'⟩,⟨h2,h2'⟩,h3.drew,h4⟩
theorem M2.start (w:World) (c1 d1 c2 d2:Value) (t1 t2:TypeId):M2 w ((w.alloc (.cells #[c1,d1] t1)).alloc (.cells #[c2,d2] t2)).drew c1 d1 c2 d2:=(M2.start0 _ _ _ _ _ _ _).drew
def aX (w:World) (v:Value) (e:Ending) (w':World):Prop:=e=.returned v∧Below w.heap.size w w'
theorem IQ (nx ny b o cp b2 o2 cp2 m n:Nat) (xs ys:List Nat) (w:World) (hx:aF w b o xs) (hy:aF w b2 o2 ys) (dx:Dig xs) (dy:Dig ys) (tx:aC xs) (ty:aC ys) (hsx:xs.length≤1099511627776) (hnx:xs.length=nx) (hny:ys.length=ny) (hm:val xs=m) (hn:val ys=n) :
  Calls Tryz.prog 90 #[.slice (some ⟨b,o,none⟩) nx cp,.slice (some ⟨b2,o2,none⟩) ny cp2] w (aX w (.int .i64 (aG m n))):=by
 refine (xU nx ny b o cp b2 o2 cp2 xs ys w hx hy dx dy tx ty hsx hnx hny).mono ?_
 rintro e w' ⟨rfl,q,rfl⟩
 rw [hm,hn]
 exact ⟨rfl,below_drewN _ _⟩
theorem KN (p1 q1 l1 m1:Nat) (x2:Int) (p2:Option Addr) (l2 m2:Nat) (a b k:Nat) (w:World) (ha:ah w (.int .u64 0) (.slice (some ⟨p1,q1,none⟩) l1 m1) a) (hb:ah w (.int .u64 x2) (.slice p2 l2 m2) b) (hk:k≤274877906944) (ka:a<B64 ^ k) :
  Calls Tryz.prog 54 #[.agg #[.int .u64 0,.slice (some ⟨p1,q1,none⟩) l1 m1],.agg #[.int .u64 x2,.slice p2 l2 m2]] w (aX w (.int .i64 (aG a b))):=by
 have hn:=lJ
 go_enter Tryz.func54,Tryz.ntmps54
 go_wp2_with (go_big_skip)
 go_region_held3 (fun w'=>M2 w w' (.int .u64 0) (.slice (some ⟨p1,q1,none⟩) l1 m1) (.int .u64 x2) (.slice p2 l2 m2))
  ((first | assumption | exact M2.start _ _ _ _ _ _ _ | exact M2.next (by assumption) (by assumption) | exact M2.drew (by assumption)))
  (first
   | (go_at_call_of 85 (Value.agg #[.int .u64 0,.slice (some ⟨p1,q1,none⟩) l1 m1]);refine (fZ _ _ a _ ?_).mono ?_;exact ha.mono (‹M2 w _ (.int .u64 0) (.slice (some ⟨p1,q1,none⟩) l1 m1) (.int .u64 x2) (.slice p2 l2 m2)›).2.2.1 (Nat.le_refl _);rintro e wA ⟨b1,o1,cp1,xs,rfl,hb1,hl1,hd1,ht1,hv1,hD1,hBA⟩)
   | (go_at_call_of 85 (Value.agg #[.int .u64 x2,.slice p2 l2 m2]);refine (fZ _ _ b _ ?_).mono ?_;exact hb.mono (‹M2 w _ (.int .u64 0) (.slice (some ⟨p1,q1,none⟩) l1 m1) (.int .u64 x2) (.slice p2 l2 m2)›).2.2.1 (Nat.le_refl _);rintro e wB ⟨b2,o2,cp2,ys,rfl,hb2,hl2,hd2,ht2,hv2,hD2,hBB⟩)
   | (go_at_call 90;refine (IQ _ _ b1 o1 cp1 b2 o2 cp2 a b xs ys _ ?_ ?_ hd1 hd2 ht1 ht2 ?_ rfl rfl hv1 hv2).mono ?_;(first | exact hD1.below hBB hb1 | exact hD1);(first | exact hD2 | exact hD2.below hBA hb2);exact Nat.le_trans (aZ ht1 (by rw [hv1];exact ka)) (by omega);rintro e wC ⟨rfl,hBC⟩))
 all_goals go_wp2
 all_goals go_ret
 all_goals exact ⟨rfl,(‹M2 w _ (.int .u64 0) (.slice (some ⟨p1,q1,none⟩) l1 m1) (.int .u64 x2) (.slice p2 l2 m2)›).2.2.1⟩
theorem VJ (x0 p2 q2 l2 m2:Nat) (a b k:Nat) (w:World) (ha:ah w (.int .u64 (x0:Int)) (.slice none 0 0) a) (hb:ah w (.int .u64 0) (.slice (some ⟨p2,q2,none⟩) l2 m2) b) (hk:k≤274877906944) (ka:a<B64 ^ k) :
  Calls Tryz.prog 54 #[.agg #[.int .u64 (x0:Int),.slice none 0 0],.agg #[.int .u64 0,.slice (some ⟨p2,q2,none⟩) l2 m2]] w (aX w (.int .i64 (aG a b))):=by
 have hn:=lJ
 go_enter Tryz.func54,Tryz.ntmps54
 go_wp2_with (go_big_skip)
 go_region_held3 (fun w'=>M2 w w' (.int .u64 (x0:Int)) (.slice none 0 0) (.int .u64 0) (.slice (some ⟨p2,q2,none⟩) l2 m2))
  ((first | assumption | exact M2.start _ _ _ _ _ _ _ | exact M2.next (by assumption) (by assumption) | exact M2.drew (by assumption)))
  (first
   | (go_at_call_of 85 (Value.agg #[.int .u64 (x0:Int),.slice none 0 0]);refine (fZ _ _ a _ ?_).mono ?_;exact ha.mono (‹M2 w _ (.int .u64 (x0:Int)) (.slice none 0 0) (.int .u64 0) (.slice (some ⟨p2,q2,none⟩) l2 m2)›).2.2.1 (Nat.le_refl _);rintro e wA ⟨b1,o1,cp1,xs,rfl,hb1,hl1,hd1,ht1,hv1,hD1,hBA⟩)
   | (go_at_call_of 85 (Value.agg #[.int .u64 0,.slice (some ⟨p2,q2,none⟩) l2 m2]);refine (fZ _ _ b _ ?_).mono ?_;exact hb.mono (‹M2 w _ (.int .u64 (x0:Int)) (.slice none 0 0) (.int .u64 0) (.slice (some ⟨p2,q2,none⟩) l2 m2)›).2.2.1 (Nat.le_refl _);rintro e wB ⟨b2,o2,cp2,ys,rfl,hb2,hl2,hd2,ht2,hv2,hD2,hBB⟩)
   | (go_at_call 90;refine (IQ _ _ b1 o1 cp1 b2 o2 cp2 a b xs ys _ ?_ ?_ hd1 hd2 ht1 ht2 ?_ rfl rfl hv1 hv2).mono ?_;(first | exact hD1.below hBB hb1 | exact hD1);(first | exact hD2 | exact hD2.below hBA hb2);exact Nat.le_trans (aZ ht1 (by rw [hv1];exact ka)) (by omega);rintro e wC ⟨rfl,hBC⟩))
 all_goals go_wp2
 all_goals go_ret
 all_goals exact ⟨rfl,(‹M2 w _ (.int .u64 (x0:Int)) (.slice none 0 0) (.int .u64 0) (.slice (some ⟨p2,q2,none⟩) l2 m2)›).2.2.1⟩
theorem VK (x0 y0:Nat) (w:World) :
  Calls Tryz.prog 54 #[.agg #[.int .u64 (x0:Int),.slice none 0 0],.agg #[.int .u64 (y0:Int),.slice none 0 0]] w (aX w (.int .i64 (aG x0 y0))):=by
 have hn:=lJ
 go_enter Tryz.func54,Tryz.ntmps54
 go_wp2_with fail
 refine (G8 _ _ _).mono ?_
 rintro e w' ⟨rfl,rfl⟩
 go_wp2
 go_ret
 exact ⟨rfl,((Below.refl _ _).alloc (Nat.le_refl _) _).alloc (by simp) _⟩
theorem KL (a b k:Nat) (c1 d1 c2 d2:Value) (w:World) (ha:ah w c1 d1 a) (hb:ah w c2 d2 b) (hk:k≤274877906944) (ka:a<B64 ^ k) :
  Calls Tryz.prog 54 #[.agg #[c1,d1],.agg #[c2,d2]] w (aX w (.int .i64 (aG a b))):=by
 rcases id ha with ⟨ha1,rfl,rfl⟩ | ⟨b1,o1,k1,xs,rfl,rfl,_⟩
 ·rcases id hb with ⟨hb1,rfl,rfl⟩ | ⟨b2,o2,k2,ys,rfl,rfl,_⟩
  ·exact VK a b w
  ·exact VJ _ _ _ _ _ a b k w ha hb hk ka
 ·rcases id hb with ⟨hb1,rfl,rfl⟩ | ⟨b2,o2,k2,ys,rfl,rfl,_⟩
  ·exact KN _ _ _ _ _ _ _ _ a b k w ha hb hk ka
  ·exact KN _ _ _ _ _ _ _ _ a b k w ha hb hk ka
end
end Go.Proofs.YtancpaiaoamjlaaGreatDoor
