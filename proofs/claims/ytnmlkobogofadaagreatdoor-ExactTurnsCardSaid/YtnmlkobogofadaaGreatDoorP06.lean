/- What the proof rests on, part 6: Magnitudes: products. Magnitudes: comparisons. Magnitudes: quotients. Magnitudes: quotients alone, odd numbers. -/
import Derived.Test.YtnmlkobogofadaaGreatDoorP05
namespace Go.Proofs.YtnmlkobogofadaaGreatDoor
set_option maxRecDepth 100000
set_option maxHeartbeats 80000000
open Go.RowKit Go.Sort
theorem S2.start0 (w:World) (c1 d1 c2 d2 z1:Value) (t1 t2 t3:TypeId):S2 w (((w.alloc (.cells #[c1,d1] t1)).alloc (.cells #[c2,d2] t2)).alloc (.cells #[z1,.slice none 0 0] t3)) c1 d1 c2 d2:=by
 refine ⟨⟨?_,?_⟩,⟨?_,?_⟩,?_,?_,?_,?_,?_,?_⟩
 ·go_simp
 ·go_simp
 ·go_simp
 ·go_simp
 ·exact (((Below.refl _ _).alloc (Nat.le_refl _) _).alloc (by simp) _).alloc (by simp;omega) _
 ·simp
 ·go_simp
 ·exact ⟨none,0,0,by go_simp⟩
 ·go_simp
 ·go_simp
theorem S2.drew {w W:World} {c1 d1 c2 d2:Value} (h:S2 w W c1 d1 c2 d2):S2 w W.drew c1 d1 c2 d2:=by
 obtain ⟨⟨h1,h1'⟩,⟨h2,h2'⟩,h3,h4,h5,h6,h7,h8⟩:=h
 exact ⟨⟨h1,h1'⟩,⟨h2,h2'⟩,h3.drew,h4,h5,h6,h7,h8⟩
theorem mul_lt_pow {a b k:Nat} (ha:a<B64 ^ k) (hb:b<B64 ^ k):a*b<B64 ^ (k+k):=by
 rw [Nat.pow_add]
 exact Nat.mul_lt_mul'' ha hb
theorem mtimes_long1 (p1 q1 l1 m1:Nat) (x2:Int) (p2:Option Addr) (l2 m2:Nat) (a b k:Nat) (w:World) (ha:IsMag w (.int .u64 0) (.slice (some ⟨p1,q1,none⟩) l1 m1) a) (hb:IsMag w (.int .u64 x2) (.slice p2 l2 m2) b) (hk:k≤68719476736) (ka:a<B64 ^ k) (kb:b<B64 ^ k) :
  Calls Tryz.prog 132 #[.agg #[.int .u64 0,.slice (some ⟨p1,q1,none⟩) l1 m1],.agg #[.int .u64 x2,.slice p2 l2 m2]] w (RetM w (a*b)):=by
 have hn:=nilSlice_run
 go_enter Tryz.func132,Tryz.ntmps132
 go_wp2_with fail
 have s0:=S2.start0 w (.int .u64 0) (.slice (some ⟨p1,q1,none⟩) l1 m1) (.int .u64 x2) (.slice p2 l2 m2) (.int .u64 0) 27 27 27
 refine (isOne_calls _ _ a _ (ha.mono s0.2.2.1 (Nat.le_refl _))).mono ?_
 rintro e w1 ⟨rfl,hB1⟩
 have s1:=s0.next hB1
 clear s0 hB1
 obtain ⟨e1,e2⟩:=s1.1
 obtain ⟨e3,e4⟩:=s1.2.1
 obtain ⟨⟨y1,hy1⟩,⟨y2,hy2⟩,hf1,hf2⟩:=s1.slot
 by_cases h1:a=1
 ·have h1':(a == 1)=true:=by rw [beq_iff_eq];exact h1
  exact absurd (isMag_long ha) (by rw [h1];unfold B64;omega)
 have h1':(a == 1)=false:=by rw [beq_eq_false_iff_ne];exact h1
 clear h1
 go_wp2_with fail
 clear e1 e2 e3 e4 hy1 hy2 hf1 hf2 h1'
 refine (isOne_calls _ _ b _ (hb.mono s1.2.2.1 (Nat.le_refl _))).mono ?_
 rintro e w2 ⟨rfl,hB2⟩
 have s2:=s1.next hB2
 clear s1 hB2
 obtain ⟨e1,e2⟩:=s2.1
 obtain ⟨⟨y1,hy1⟩,⟨y2,hy2⟩,hf1,hf2⟩:=s2.slot
 by_cases h2:b=1
 ·have h2':(b == 1)=true:=by rw [beq_iff_eq];exact h2
  obtain ⟨hz1,hz2,hHm⟩:=s2.done (ha.mono s2.2.2.1 (Nat.le_refl _))
  clear s2
  go_wp2_with fail
  refine bodyPost_ret (v:=.agg #[.int .u64 0,.slice (some ⟨p1,q1,none⟩) l1 m1]) (by simp [results,Tryz.results132,go_sem,hz1,hz2]) rfl ?_
  subst h2
  rw [Nat.mul_one]
  exact ⟨_,_,rfl,hHm.out.1,hHm.out.2⟩
 have h2':(b == 1)=false:=by rw [beq_eq_false_iff_ne];exact h2
 clear h2
 clear e1 e2 hy1 hy2 hf1 hf2
 go_wp2_with (go_big_skip)
 go_region_held3 (fun w'=>S2 w w' (.int .u64 0) (.slice (some ⟨p1,q1,none⟩) l1 m1) (.int .u64 x2) (.slice p2 l2 m2))
  ((first | assumption | exact S2.start _ _ _ _ _ _ _ _ _ | exact S2.next (by assumption) (by assumption) | exact S2.store (by assumption) | exact S2.drew (by assumption)))
  (first
   | (go_at_call_of 180 (Value.agg #[.int .u64 0,.slice (some ⟨p1,q1,none⟩) l1 m1]);refine (digits_calls _ _ a _ ?_).mono ?_;exact ha.mono (‹S2 w _ (.int .u64 0) (.slice (some ⟨p1,q1,none⟩) l1 m1) (.int .u64 x2) (.slice p2 l2 m2)›).2.2.1 (Nat.le_refl _);rintro e wA ⟨b1,o1,cp1,xs,rfl,hb1,hl1,hd1,ht1,hv1,hD1,hBA⟩)
   | (go_at_call_of 180 (Value.agg #[.int .u64 x2,.slice p2 l2 m2]);refine (digits_calls _ _ b _ ?_).mono ?_;exact hb.mono (‹S2 w _ (.int .u64 0) (.slice (some ⟨p1,q1,none⟩) l1 m1) (.int .u64 x2) (.slice p2 l2 m2)›).2.2.1 (Nat.le_refl _);rintro e wB ⟨b2,o2,cp2,ys,rfl,hb2,hl2,hd2,ht2,hv2,hD2,hBB⟩)
   | (go_at_call 181;refine (times_calls _ _ b1 o1 cp1 b2 o2 cp2 xs ys _ ?_ ?_ ?_ ?_ hd1 hd2 ?_ ?_ rfl rfl).mono ?_;(first | exact hD1.below hBB hb1 | exact hD1);(first | exact hD2 | exact hD2.below hBA hb2);(first | exact Nat.lt_of_lt_of_le hb1 hBB.size | exact hb1);(first | exact hb2 | exact Nat.lt_of_lt_of_le hb2 hBA.size);exact Nat.le_trans (len_le ht1 (by rw [hv1];exact ka)) (by omega);exact Nat.le_trans (len_le ht2 (by rw [hv2];exact kb)) (by omega);rintro e wC ⟨b3,o3,cp3,zs,rfl,hb3,hl3,hd3,ht3,hv3,hD3,hBC⟩;rw [hv1,hv2] at hv3)
   | (go_at_call 177;refine (shorten_slice b3 o3 cp3 zs.length zs _ rfl hl3 ?_ hb3 hd3 ht3 hD3).mono ?_;exact Nat.le_trans (len_le ht3 (by rw [hv3];exact (mul_lt_pow ka kb))) (by omega);rintro e wD hret;obtain ⟨x,p,l,cc,rfl,hm,hBD⟩:=hret.shape;rw [hv3] at hm;have hSS:=S2.next ‹S2 w _ (.int .u64 0) (.slice (some ⟨p1,q1,none⟩) l1 m1) (.int .u64 x2) (.slice p2 l2 m2)› hBD;obtain ⟨⟨y1,hy1⟩,⟨y2,hy2⟩,hf1,hf2⟩:=hSS.slot;obtain ⟨hz1,hz2,hHm⟩:=hSS.done hm;clear hret hm))
 all_goals go_wp2
 all_goals
  refine bodyPost_ret (v:=.agg #[.int .u64 x,.slice p l cc]) (by simp [results,Tryz.results132,go_sem,hz1,hz2]) rfl ⟨_,_,rfl,hHm.out.1,hHm.out.2⟩
theorem mtimes_long2 (x0 p2 q2 l2 m2:Nat) (a b k:Nat) (w:World) (ha:IsMag w (.int .u64 (x0:Int)) (.slice none 0 0) a) (hb:IsMag w (.int .u64 0) (.slice (some ⟨p2,q2,none⟩) l2 m2) b) (hk:k≤68719476736) (ka:a<B64 ^ k) (kb:b<B64 ^ k) :
  Calls Tryz.prog 132 #[.agg #[.int .u64 (x0:Int),.slice none 0 0],.agg #[.int .u64 0,.slice (some ⟨p2,q2,none⟩) l2 m2]] w (RetM w (a*b)):=by
 have hn:=nilSlice_run
 go_enter Tryz.func132,Tryz.ntmps132
 go_wp2_with fail
 have s0:=S2.start0 w (.int .u64 (x0:Int)) (.slice none 0 0) (.int .u64 0) (.slice (some ⟨p2,q2,none⟩) l2 m2) (.int .u64 0) 27 27 27
 refine (isOne_calls _ _ a _ (ha.mono s0.2.2.1 (Nat.le_refl _))).mono ?_
 rintro e w1 ⟨rfl,hB1⟩
 have s1:=s0.next hB1
 clear s0 hB1
 obtain ⟨e1,e2⟩:=s1.1
 obtain ⟨e3,e4⟩:=s1.2.1
 obtain ⟨⟨y1,hy1⟩,⟨y2,hy2⟩,hf1,hf2⟩:=s1.slot
 by_cases h1:a=1
 ·have h1':(a == 1)=true:=by rw [beq_iff_eq];exact h1
  obtain ⟨hz1,hz2,hHm⟩:=s1.done (hb.mono s1.2.2.1 (Nat.le_refl _))
  clear s1
  go_wp2_with fail
  refine bodyPost_ret (v:=.agg #[.int .u64 0,.slice (some ⟨p2,q2,none⟩) l2 m2]) (by simp [results,Tryz.results132,go_sem,hz1,hz2]) rfl ?_
  subst h1
  rw [Nat.one_mul]
  exact ⟨_,_,rfl,hHm.out.1,hHm.out.2⟩
 have h1':(a == 1)=false:=by rw [beq_eq_false_iff_ne];exact h1
 clear h1
 go_wp2_with fail
 clear e1 e2 e3 e4 hy1 hy2 hf1 hf2 h1'
 refine (isOne_calls _ _ b _ (hb.mono s1.2.2.1 (Nat.le_refl _))).mono ?_
 rintro e w2 ⟨rfl,hB2⟩
 have s2:=s1.next hB2
 clear s1 hB2
 obtain ⟨e1,e2⟩:=s2.1
 obtain ⟨⟨y1,hy1⟩,⟨y2,hy2⟩,hf1,hf2⟩:=s2.slot
 by_cases h2:b=1
 ·have h2':(b == 1)=true:=by rw [beq_iff_eq];exact h2
  obtain ⟨hz1,hz2,hHm⟩:=s2.done (ha.mono s2.2.2.1 (Nat.le_refl _))
  clear s2
  go_wp2_with fail
  refine bodyPost_ret (v:=.agg #[.int .u64 (x0:Int),.slice none 0 0]) (by simp [results,Tryz.results132,go_sem,hz1,hz2]) rfl ?_
  subst h2
  rw [Nat.mul_one]
  exact ⟨_,_,rfl,hHm.out.1,hHm.out.2⟩
 have h2':(b == 1)=false:=by rw [beq_eq_false_iff_ne];exact h2
 clear h2
 clear e1 e2 hy1 hy2 hf1 hf2
 go_wp2_with (go_big_skip)
 go_region_held3 (fun w'=>S2 w w' (.int .u64 (x0:Int)) (.slice none 0 0) (.int .u64 0) (.slice (some ⟨p2,q2,none⟩) l2 m2))
  ((first | assumption | exact S2.start _ _ _ _ _ _ _ _ _ | exact S2.next (by assumption) (by assumption) | exact S2.store (by assumption) | exact S2.drew (by assumption)))
  (first
   | (go_at_call_of 180 (Value.agg #[.int .u64 (x0:Int),.slice none 0 0]);refine (digits_calls _ _ a _ ?_).mono ?_;exact ha.mono (‹S2 w _ (.int .u64 (x0:Int)) (.slice none 0 0) (.int .u64 0) (.slice (some ⟨p2,q2,none⟩) l2 m2)›).2.2.1 (Nat.le_refl _);rintro e wA ⟨b1,o1,cp1,xs,rfl,hb1,hl1,hd1,ht1,hv1,hD1,hBA⟩)
   | (go_at_call_of 180 (Value.agg #[.int .u64 0,.slice (some ⟨p2,q2,none⟩) l2 m2]);refine (digits_calls _ _ b _ ?_).mono ?_;exact hb.mono (‹S2 w _ (.int .u64 (x0:Int)) (.slice none 0 0) (.int .u64 0) (.slice (some ⟨p2,q2,none⟩) l2 m2)›).2.2.1 (Nat.le_refl _);rintro e wB ⟨b2,o2,cp2,ys,rfl,hb2,hl2,hd2,ht2,hv2,hD2,hBB⟩)
   | (go_at_call 181;refine (times_calls _ _ b1 o1 cp1 b2 o2 cp2 xs ys _ ?_ ?_ ?_ ?_ hd1 hd2 ?_ ?_ rfl rfl).mono ?_;(first | exact hD1.below hBB hb1 | exact hD1);(first | exact hD2 | exact hD2.below hBA hb2);(first | exact Nat.lt_of_lt_of_le hb1 hBB.size | exact hb1);(first | exact hb2 | exact Nat.lt_of_lt_of_le hb2 hBA.size);exact Nat.le_trans (len_le ht1 (by rw [hv1];exact ka)) (by omega);exact Nat.le_trans (len_le ht2 (by rw [hv2];exact kb)) (by omega);rintro e wC ⟨b3,o3,cp3,zs,rfl,hb3,hl3,hd3,ht3,hv3,hD3,hBC⟩;rw [hv1,hv2] at hv3)
   | (go_at_call 177;refine (shorten_slice b3 o3 cp3 zs.length zs _ rfl hl3 ?_ hb3 hd3 ht3 hD3).mono ?_;exact Nat.le_trans (len_le ht3 (by rw [hv3];exact (mul_lt_pow ka kb))) (by omega);rintro e wD hret;obtain ⟨x,p,l,cc,rfl,hm,hBD⟩:=hret.shape;rw [hv3] at hm;have hSS:=S2.next ‹S2 w _ (.int .u64 (x0:Int)) (.slice none 0 0) (.int .u64 0) (.slice (some ⟨p2,q2,none⟩) l2 m2)› hBD;obtain ⟨⟨y1,hy1⟩,⟨y2,hy2⟩,hf1,hf2⟩:=hSS.slot;obtain ⟨hz1,hz2,hHm⟩:=hSS.done hm;clear hret hm))
 all_goals go_wp2
 all_goals
  refine bodyPost_ret (v:=.agg #[.int .u64 x,.slice p l cc]) (by simp [results,Tryz.results132,go_sem,hz1,hz2]) rfl ⟨_,_,rfl,hHm.out.1,hHm.out.2⟩
theorem mtimes_great (x0 y0:Nat) (a b k:Nat) (w:World) (ha:IsMag w (.int .u64 (x0:Int)) (.slice none 0 0) a) (hb:IsMag w (.int .u64 (y0:Int)) (.slice none 0 0) b) (hk:k≤68719476736) (ka:a<B64 ^ k) (kb:b<B64 ^ k) (hx:x0<B64) (hy:y0<B64) (hh:mulH x0 y0≠0) :
  Calls Tryz.prog 132 #[.agg #[.int .u64 (x0:Int),.slice none 0 0],.agg #[.int .u64 (y0:Int),.slice none 0 0]] w (RetM w (a*b)):=by
 have hn:=nilSlice_run
 have hmul:=hid (Mul64_calls x0 y0 hx hy)
 have hh0:(((mulH x0 y0:Nat):Int) == 0)=false:=by rw [beq_eq_false_iff_ne];omega
 clear hx hy hh
 go_enter Tryz.func132,Tryz.ntmps132
 go_wp2_with fail
 refine (hmul.out _).mono ?_
 clear hmul
 obtain ⟨hi,hhi⟩:∃ x,mulH x0 y0=x:=⟨_,rfl⟩
 obtain ⟨lo,hlo⟩:∃ x,mulL x0 y0=x:=⟨_,rfl⟩
 rw [hhi] at hh0
 rw [hhi,hlo]
 clear hhi hlo
 rintro e wM ⟨rfl,rfl⟩
 go_wp2_with fail
 have s0:=S2.start0 w (.int .u64 (x0:Int)) (.slice none 0 0) (.int .u64 (y0:Int)) (.slice none 0 0) (.int .u64 0) 27 27 27
 refine (isOne_calls _ _ a _ (ha.mono s0.2.2.1 (Nat.le_refl _))).mono ?_
 rintro e w1 ⟨rfl,hB1⟩
 have s1:=s0.next hB1
 clear s0 hB1
 obtain ⟨e1,e2⟩:=s1.1
 obtain ⟨e3,e4⟩:=s1.2.1
 obtain ⟨⟨y1,hy1⟩,⟨y2,hy2⟩,hf1,hf2⟩:=s1.slot
 by_cases h1:a=1
 ·have h1':(a == 1)=true:=by rw [beq_iff_eq];exact h1
  obtain ⟨hz1,hz2,hHm⟩:=s1.done (hb.mono s1.2.2.1 (Nat.le_refl _))
  clear s1
  go_wp2_with fail
  refine bodyPost_ret (v:=.agg #[.int .u64 (y0:Int),.slice none 0 0]) (by simp [results,Tryz.results132,go_sem,hz1,hz2]) rfl ?_
  subst h1
  rw [Nat.one_mul]
  exact ⟨_,_,rfl,hHm.out.1,hHm.out.2⟩
 have h1':(a == 1)=false:=by rw [beq_eq_false_iff_ne];exact h1
 clear h1
 go_wp2_with fail
 clear e1 e2 e3 e4 hy1 hy2 hf1 hf2 h1'
 refine (isOne_calls _ _ b _ (hb.mono s1.2.2.1 (Nat.le_refl _))).mono ?_
 rintro e w2 ⟨rfl,hB2⟩
 have s2:=s1.next hB2
 clear s1 hB2
 obtain ⟨e1,e2⟩:=s2.1
 obtain ⟨⟨y1,hy1⟩,⟨y2,hy2⟩,hf1,hf2⟩:=s2.slot
 by_cases h2:b=1
 ·have h2':(b == 1)=true:=by rw [beq_iff_eq];exact h2
  obtain ⟨hz1,hz2,hHm⟩:=s2.done (ha.mono s2.2.2.1 (Nat.le_refl _))
  clear s2
  go_wp2_with fail
  refine bodyPost_ret (v:=.agg #[.int .u64 (x0:Int),.slice none 0 0]) (by simp [results,Tryz.results132,go_sem,hz1,hz2]) rfl ?_
  subst h2
  rw [Nat.mul_one]
  exact ⟨_,_,rfl,hHm.out.1,hHm.out.2⟩
 have h2':(b == 1)=false:=by rw [beq_eq_false_iff_ne];exact h2
 clear h2
 clear e1 e2 hy1 hy2 hf1 hf2
 go_wp2_with (go_big_skip)
 go_region_held3 (fun w'=>S2 w w' (.int .u64 (x0:Int)) (.slice none 0 0) (.int .u64 (y0:Int)) (.slice none 0 0))
  ((first | assumption | exact S2.start _ _ _ _ _ _ _ _ _ | exact S2.next (by assumption) (by assumption) | exact S2.store (by assumption) | exact S2.drew (by assumption)))
  (first
   | (go_at_call_of 180 (Value.agg #[.int .u64 (x0:Int),.slice none 0 0]);refine (digits_calls _ _ a _ ?_).mono ?_;exact ha.mono (‹S2 w _ (.int .u64 (x0:Int)) (.slice none 0 0) (.int .u64 (y0:Int)) (.slice none 0 0)›).2.2.1 (Nat.le_refl _);rintro e wA ⟨b1,o1,cp1,xs,rfl,hb1,hl1,hd1,ht1,hv1,hD1,hBA⟩)
   | (go_at_call_of 180 (Value.agg #[.int .u64 (y0:Int),.slice none 0 0]);refine (digits_calls _ _ b _ ?_).mono ?_;exact hb.mono (‹S2 w _ (.int .u64 (x0:Int)) (.slice none 0 0) (.int .u64 (y0:Int)) (.slice none 0 0)›).2.2.1 (Nat.le_refl _);rintro e wB ⟨b2,o2,cp2,ys,rfl,hb2,hl2,hd2,ht2,hv2,hD2,hBB⟩)
   | (go_at_call 181;refine (times_calls _ _ b1 o1 cp1 b2 o2 cp2 xs ys _ ?_ ?_ ?_ ?_ hd1 hd2 ?_ ?_ rfl rfl).mono ?_;(first | exact hD1.below hBB hb1 | exact hD1);(first | exact hD2 | exact hD2.below hBA hb2);(first | exact Nat.lt_of_lt_of_le hb1 hBB.size | exact hb1);(first | exact hb2 | exact Nat.lt_of_lt_of_le hb2 hBA.size);exact Nat.le_trans (len_le ht1 (by rw [hv1];exact ka)) (by omega);exact Nat.le_trans (len_le ht2 (by rw [hv2];exact kb)) (by omega);rintro e wC ⟨b3,o3,cp3,zs,rfl,hb3,hl3,hd3,ht3,hv3,hD3,hBC⟩;rw [hv1,hv2] at hv3)
   | (go_at_call 177;refine (shorten_slice b3 o3 cp3 zs.length zs _ rfl hl3 ?_ hb3 hd3 ht3 hD3).mono ?_;exact Nat.le_trans (len_le ht3 (by rw [hv3];exact (mul_lt_pow ka kb))) (by omega);rintro e wD hret;obtain ⟨x,p,l,cc,rfl,hm,hBD⟩:=hret.shape;rw [hv3] at hm;have hSS:=S2.next ‹S2 w _ (.int .u64 (x0:Int)) (.slice none 0 0) (.int .u64 (y0:Int)) (.slice none 0 0)› hBD;obtain ⟨⟨y1,hy1⟩,⟨y2,hy2⟩,hf1,hf2⟩:=hSS.slot;obtain ⟨hz1,hz2,hHm⟩:=hSS.done hm;clear hret hm))
 all_goals go_wp2
 all_goals
  refine bodyPost_ret (v:=.agg #[.int .u64 x,.slice p l cc]) (by simp [results,Tryz.results132,go_sem,hz1,hz2]) rfl ⟨_,_,rfl,hHm.out.1,hHm.out.2⟩
theorem mtimes_word (x0 y0:Nat) (w:World) (hx:x0<B64) (hy:y0<B64) (hh:mulH x0 y0=0) :
  Calls Tryz.prog 132 #[.agg #[.int .u64 (x0:Int),.slice none 0 0],.agg #[.int .u64 (y0:Int),.slice none 0 0]] w (RetM w (x0*y0)):=by
 have hn:=nilSlice_run
 have hmul:=hid (Mul64_calls x0 y0 hx hy)
 have hl:=mul_spec x0 y0
 rw [hh,Nat.mul_zero,Nat.add_zero] at hl
 have HS:=hid (mulL_lt x0 y0)
 rw [hh,hl] at hmul
 rw [hl] at HS
 clear hx hy hh hl
 obtain ⟨z,hz⟩:∃ x,x0*y0=x:=⟨_,rfl⟩
 rw [hz] at hmul HS ⊢
 clear hz
 go_enter Tryz.func132,Tryz.ntmps132
 go_wp2_with fail
 refine (hmul.out _).mono ?_
 clear hmul
 rintro e wM ⟨rfl,rfl⟩
 go_wp2_with fail
 refine bodyPost_ret (v:=.agg #[.int .u64 (z:Int),.slice none 0 0]) (by simp [results,Tryz.results132,go_sem]) rfl ⟨_,_,rfl,.inl ⟨HS.out,rfl,rfl⟩,?_⟩
 exact (((Below.refl _ _).alloc (Nat.le_refl _) _).alloc (by simp) _).alloc (by simp;omega) _
theorem mtimes_calls (a b k:Nat) (c1 d1 c2 d2:Value) (w:World) (ha:IsMag w c1 d1 a) (hb:IsMag w c2 d2 b) (hk:k≤68719476736) (ka:a<B64 ^ k) (kb:b<B64 ^ k) :
  Calls Tryz.prog 132 #[.agg #[c1,d1],.agg #[c2,d2]] w (RetM w (a*b)):=by
 rcases id ha with ⟨ha1,rfl,rfl⟩ | ⟨b1,o1,k1,xs,rfl,rfl,_⟩
 ·rcases id hb with ⟨hb1,rfl,rfl⟩ | ⟨b2,o2,k2,ys,rfl,rfl,_⟩
  ·by_cases hc:mulH a b=0
   ·exact mtimes_word a b w ha1 hb1 hc
   ·exact mtimes_great a b a b k w ha hb hk ka kb ha1 hb1 hc
  ·exact mtimes_long2 _ _ _ _ _ a b k w ha hb hk ka kb
 ·rcases id hb with ⟨hb1,rfl,rfl⟩ | ⟨b2,o2,k2,ys,rfl,rfl,_⟩
  ·exact mtimes_long1 _ _ _ _ _ _ _ _ a b k w ha hb hk ka kb
  ·exact mtimes_long1 _ _ _ _ _ _ _ _ a b k w ha hb hk ka kb
end Go.Proofs.YtnmlkobogofadaaGreatDoor
namespace Go.Proofs.YtnmlkobogofadaaGreatDoor
set_option maxRecDepth 100000
set_option maxHeartbeats 80000000
open Go.RowKit Go.Sort
abbrev M2 (w w':World) (c1 d1 c2 d2:Value):Prop:=
 C2 w' w.heap.size c1 d1∧C2 w' (w.heap.size+1) c2 d2∧(Below w.heap.size w w'∧w.heap.size+1<w'.heap.size)
theorem M2.next {w W W':World} {c1 d1 c2 d2:Value} (h:M2 w W c1 d1 c2 d2) (hb:Below W.heap.size W W'):M2 w W' c1 d1 c2 d2:=by
 obtain ⟨h1,h2,h3,h4⟩:=h
 exact ⟨C2.below h1 hb (by omega),C2.below h2 hb (by omega),h3.trans (hb.mono h3.size),Nat.lt_of_lt_of_le h4 hb.size⟩
theorem M2.start0 (w:World) (c1 d1 c2 d2:Value) (t1 t2:TypeId):M2 w ((w.alloc (.cells #[c1,d1] t1)).alloc (.cells #[c2,d2] t2)) c1 d1 c2 d2:=by
 refine ⟨⟨?_,?_⟩,⟨?_,?_⟩,?_,?_⟩
 ·go_simp
 ·go_simp
 ·go_simp
 ·go_simp
 ·exact ((Below.refl _ _).alloc (Nat.le_refl _) _).alloc (by simp) _
 ·simp
theorem M2.drew {w W:World} {c1 d1 c2 d2:Value} (h:M2 w W c1 d1 c2 d2):M2 w W.drew c1 d1 c2 d2:=by
 obtain ⟨⟨h1,h1'⟩,⟨h2,h2'⟩,h3,h4⟩:=h
 exact ⟨⟨h1,h1'⟩,⟨h2,h2'⟩,h3.drew,h4⟩
theorem M2.start (w:World) (c1 d1 c2 d2:Value) (t1 t2:TypeId):M2 w ((w.alloc (.cells #[c1,d1] t1)).alloc (.cells #[c2,d2] t2)).drew c1 d1 c2 d2:=(M2.start0 _ _ _ _ _ _ _).drew
def RetI (w:World) (v:Value) (e:Ending) (w':World):Prop:=e=.returned v∧Below w.heap.size w w'
theorem cmp_callsB (nx ny b o cp b2 o2 cp2 m n:Nat) (xs ys:List Nat) (w:World) (hx:Digs w b o xs) (hy:Digs w b2 o2 ys) (dx:Dig xs) (dy:Dig ys) (tx:Trimmed xs) (ty:Trimmed ys) (hsx:xs.length≤1099511627776) (hnx:xs.length=nx) (hny:ys.length=ny) (hm:val xs=m) (hn:val ys=n) :
  Calls Tryz.prog 183 #[.slice (some ⟨b,o,none⟩) nx cp,.slice (some ⟨b2,o2,none⟩) ny cp2] w (RetI w (.int .i64 (cmpN m n))):=by
 refine (cmp_callsN nx ny b o cp b2 o2 cp2 xs ys w hx hy dx dy tx ty hsx hnx hny).mono ?_
 rintro e w' ⟨rfl,q,rfl⟩
 rw [hm,hn]
 exact ⟨rfl,below_drewN _ _⟩
theorem mcmp_long1 (p1 q1 l1 m1:Nat) (x2:Int) (p2:Option Addr) (l2 m2:Nat) (a b k:Nat) (w:World) (ha:IsMag w (.int .u64 0) (.slice (some ⟨p1,q1,none⟩) l1 m1) a) (hb:IsMag w (.int .u64 x2) (.slice p2 l2 m2) b) (hk:k≤274877906944) (ka:a<B64 ^ k) :
  Calls Tryz.prog 136 #[.agg #[.int .u64 0,.slice (some ⟨p1,q1,none⟩) l1 m1],.agg #[.int .u64 x2,.slice p2 l2 m2]] w (RetI w (.int .i64 (cmpN a b))):=by
 have hn:=someSlice_run
 go_enter Tryz.func136,Tryz.ntmps136
 go_wp2_with (go_big_skip)
 go_region_held3 (fun w'=>M2 w w' (.int .u64 0) (.slice (some ⟨p1,q1,none⟩) l1 m1) (.int .u64 x2) (.slice p2 l2 m2))
  ((first | assumption | exact M2.start _ _ _ _ _ _ _ | exact M2.next (by assumption) (by assumption) | exact M2.drew (by assumption)))
  (first
   | (go_at_call_of 180 (Value.agg #[.int .u64 0,.slice (some ⟨p1,q1,none⟩) l1 m1]);refine (digits_calls _ _ a _ ?_).mono ?_;exact ha.mono (‹M2 w _ (.int .u64 0) (.slice (some ⟨p1,q1,none⟩) l1 m1) (.int .u64 x2) (.slice p2 l2 m2)›).2.2.1 (Nat.le_refl _);rintro e wA ⟨b1,o1,cp1,xs,rfl,hb1,hl1,hd1,ht1,hv1,hD1,hBA⟩)
   | (go_at_call_of 180 (Value.agg #[.int .u64 x2,.slice p2 l2 m2]);refine (digits_calls _ _ b _ ?_).mono ?_;exact hb.mono (‹M2 w _ (.int .u64 0) (.slice (some ⟨p1,q1,none⟩) l1 m1) (.int .u64 x2) (.slice p2 l2 m2)›).2.2.1 (Nat.le_refl _);rintro e wB ⟨b2,o2,cp2,ys,rfl,hb2,hl2,hd2,ht2,hv2,hD2,hBB⟩)
   | (go_at_call 183;refine (cmp_callsB _ _ b1 o1 cp1 b2 o2 cp2 a b xs ys _ ?_ ?_ hd1 hd2 ht1 ht2 ?_ rfl rfl hv1 hv2).mono ?_;(first | exact hD1.below hBB hb1 | exact hD1);(first | exact hD2 | exact hD2.below hBA hb2);exact Nat.le_trans (len_le ht1 (by rw [hv1];exact ka)) (by omega);rintro e wC ⟨rfl,hBC⟩))
 all_goals go_wp2
 all_goals go_ret
 all_goals exact ⟨rfl,(‹M2 w _ (.int .u64 0) (.slice (some ⟨p1,q1,none⟩) l1 m1) (.int .u64 x2) (.slice p2 l2 m2)›).2.2.1⟩
theorem mcmp_long2 (x0 p2 q2 l2 m2:Nat) (a b k:Nat) (w:World) (ha:IsMag w (.int .u64 (x0:Int)) (.slice none 0 0) a) (hb:IsMag w (.int .u64 0) (.slice (some ⟨p2,q2,none⟩) l2 m2) b) (hk:k≤274877906944) (ka:a<B64 ^ k) :
  Calls Tryz.prog 136 #[.agg #[.int .u64 (x0:Int),.slice none 0 0],.agg #[.int .u64 0,.slice (some ⟨p2,q2,none⟩) l2 m2]] w (RetI w (.int .i64 (cmpN a b))):=by
 have hn:=someSlice_run
 go_enter Tryz.func136,Tryz.ntmps136
 go_wp2_with (go_big_skip)
 go_region_held3 (fun w'=>M2 w w' (.int .u64 (x0:Int)) (.slice none 0 0) (.int .u64 0) (.slice (some ⟨p2,q2,none⟩) l2 m2))
  ((first | assumption | exact M2.start _ _ _ _ _ _ _ | exact M2.next (by assumption) (by assumption) | exact M2.drew (by assumption)))
  (first
   | (go_at_call_of 180 (Value.agg #[.int .u64 (x0:Int),.slice none 0 0]);refine (digits_calls _ _ a _ ?_).mono ?_;exact ha.mono (‹M2 w _ (.int .u64 (x0:Int)) (.slice none 0 0) (.int .u64 0) (.slice (some ⟨p2,q2,none⟩) l2 m2)›).2.2.1 (Nat.le_refl _);rintro e wA ⟨b1,o1,cp1,xs,rfl,hb1,hl1,hd1,ht1,hv1,hD1,hBA⟩)
   | (go_at_call_of 180 (Value.agg #[.int .u64 0,.slice (some ⟨p2,q2,none⟩) l2 m2]);refine (digits_calls _ _ b _ ?_).mono ?_;exact hb.mono (‹M2 w _ (.int .u64 (x0:Int)) (.slice none 0 0) (.int .u64 0) (.slice (some ⟨p2,q2,none⟩) l2 m2)›).2.2.1 (Nat.le_refl _);rintro e wB ⟨b2,o2,cp2,ys,rfl,hb2,hl2,hd2,ht2,hv2,hD2,hBB⟩)
   | (go_at_call 183;refine (cmp_callsB _ _ b1 o1 cp1 b2 o2 cp2 a b xs ys _ ?_ ?_ hd1 hd2 ht1 ht2 ?_ rfl rfl hv1 hv2).mono ?_;(first | exact hD1.below hBB hb1 | exact hD1);(first | exact hD2 | exact hD2.below hBA hb2);exact Nat.le_trans (len_le ht1 (by rw [hv1];exact ka)) (by omega);rintro e wC ⟨rfl,hBC⟩))
 all_goals go_wp2
 all_goals go_ret
 all_goals exact ⟨rfl,(‹M2 w _ (.int .u64 (x0:Int)) (.slice none 0 0) (.int .u64 0) (.slice (some ⟨p2,q2,none⟩) l2 m2)›).2.2.1⟩
theorem mcmp_word0 (x0 y0:Nat) (w:World) :
  Calls Tryz.prog 136 #[.agg #[.int .u64 (x0:Int),.slice none 0 0],.agg #[.int .u64 (y0:Int),.slice none 0 0]] w (RetI w (.int .i64 (cmpN x0 y0))):=by
 have hn:=someSlice_run
 go_enter Tryz.func136,Tryz.ntmps136
 go_wp2_with fail
 refine (Compare64_calls _ _ _).mono ?_
 rintro e w' ⟨rfl,rfl⟩
 go_wp2
 go_ret
 exact ⟨rfl,((Below.refl _ _).alloc (Nat.le_refl _) _).alloc (by simp) _⟩
theorem mcmp_calls (a b k:Nat) (c1 d1 c2 d2:Value) (w:World) (ha:IsMag w c1 d1 a) (hb:IsMag w c2 d2 b) (hk:k≤274877906944) (ka:a<B64 ^ k) :
  Calls Tryz.prog 136 #[.agg #[c1,d1],.agg #[c2,d2]] w (RetI w (.int .i64 (cmpN a b))):=by
 rcases id ha with ⟨ha1,rfl,rfl⟩ | ⟨b1,o1,k1,xs,rfl,rfl,_⟩
 ·rcases id hb with ⟨hb1,rfl,rfl⟩ | ⟨b2,o2,k2,ys,rfl,rfl,_⟩
  ·exact mcmp_word0 a b w
  ·exact mcmp_long2 _ _ _ _ _ a b k w ha hb hk ka
 ·rcases id hb with ⟨hb1,rfl,rfl⟩ | ⟨b2,o2,k2,ys,rfl,rfl,_⟩
  ·exact mcmp_long1 _ _ _ _ _ _ _ _ a b k w ha hb hk ka
  ·exact mcmp_long1 _ _ _ _ _ _ _ _ a b k w ha hb hk ka
end Go.Proofs.YtnmlkobogofadaaGreatDoor
namespace Go.Proofs.YtnmlkobogofadaaGreatDoor
set_option maxRecDepth 100000
set_option maxHeartbeats 80000000
open Go.RowKit Go.Sort
def Slot (W:World) (b:Nat):Prop:=(∃ x,W.cell? ⟨b,0,none⟩=some x)∧(∃ p l c,W.cell? ⟨b,1,none⟩=some (.slice p l c))∧W.frozen? ⟨b,0,none⟩=false∧W.frozen? ⟨b,1,none⟩=false
abbrev set2 (W:World) (b:Nat) (u v:Value):World:=(W.setCell ⟨b,0,none⟩ u).setCell ⟨b,1,none⟩ v
theorem Slot.read {W:World} {b:Nat} (h:Slot W b) (u v:Value):(set2 W b u v).cell? ⟨b,0,none⟩=some u∧(set2 W b u v).cell? ⟨b,1,none⟩=some v:=by
 obtain ⟨⟨x,h1⟩,⟨p,l,c,h2⟩,h3,h4⟩:=h
 refine ⟨?_,?_⟩
 ·rw [World.cell?_setCell_other _ _ _ _ (by simp),World.cell?_setCell_same _ _ _ h1]
 ·refine World.cell?_setCell_same (u:=.slice p l c) _ _ _ ?_
  rw [World.cell?_setCell_other _ _ _ _ (by simp)];exact h2
theorem Slot.set {W:World} {b:Nat} (b':Nat) (h:Slot W b) (u:Value) (p:Option Addr) (l c:Nat):Slot (set2 W b' u (.slice p l c)) b:=by
 by_cases e:b' = b
 ·subst e
  obtain ⟨r1,r2⟩:=h.read u (.slice p l c)
  refine ⟨⟨_,r1⟩,⟨_,_,_,r2⟩,?_,?_⟩
  ·rw [World.frozen?_setCell,World.frozen?_setCell];exact h.2.2.1
  ·rw [World.frozen?_setCell,World.frozen?_setCell];exact h.2.2.2
 ·obtain ⟨⟨x,h1⟩,⟨p',l',c',h2⟩,h3,h4⟩:=h
  refine ⟨⟨x,?_⟩,⟨p',l',c',?_⟩,?_,?_⟩
  ·rw [World.cell?_setCell_far _ _ _ _ e,World.cell?_setCell_far _ _ _ _ e];exact h1
  ·rw [World.cell?_setCell_far _ _ _ _ e,World.cell?_setCell_far _ _ _ _ e];exact h2
  ·rw [World.frozen?_setCell,World.frozen?_setCell];exact h3
  ·rw [World.frozen?_setCell,World.frozen?_setCell];exact h4
theorem Slot.below {W W':World} {b:Nat} (h:Slot W b) (hb:Below W.heap.size W W') (hs:b<W.heap.size):Slot W' b:=by
 obtain ⟨⟨x,h1⟩,⟨p',l',c',h2⟩,h3,h4⟩:=h
 refine ⟨⟨x,?_⟩,⟨p',l',c',?_⟩,?_,?_⟩
 ·rw [hb.cell (p:=⟨b,0,none⟩) hs];exact h1
 ·rw [hb.cell (p:=⟨b,1,none⟩) hs];exact h2
 ·rw [hb.frozen (p:=⟨b,0,none⟩) hs];exact h3
 ·rw [hb.frozen (p:=⟨b,1,none⟩) hs];exact h4
theorem Slot.mag {W:World} {b:Nat} {u v c d:Value} {n:Nat} (h:Slot W b) (hm:IsMag W c d n):IsMag (set2 W b u v) c d n:=by
 obtain ⟨_,⟨p,l,c',hy⟩,_,_⟩:=h
 rcases hm with h0 | ⟨b1,o,k,xs,h1,h2,h3,h4,h5,h6,h7,h8,h9⟩
 ·exact .inl h0
 ·refine .inr ⟨b1,o,k,xs,h1,h2,by simpa using h3,h4,h5,h6,h7,h8,fun j hj=>?_⟩
  have n1:(⟨b,1,none⟩:Addr)≠⟨b1,o+j,none⟩:=fun e=>by
   have:=h9 j hj
   rw [← e,hy] at this
   cases this
  have n0:(⟨b,0,none⟩:Addr)≠⟨b1,o+j,none⟩:=fun e=>by
   have hj0:o=0∧j=0∧b1=b:=by
    simp only [Addr.mk.injEq] at e
    omega
   obtain ⟨rfl,rfl,rfl⟩:=hj0
   have:=h9 1 (by omega)
   rw [show 0+1=1 from rfl,hy] at this
   cases this
  rw [World.cell?_setCell_other _ _ _ _ n1,World.cell?_setCell_other _ _ _ _ n0]
  exact h9 j hj
abbrev S4 (w w':World) (c1 d1 c2 d2:Value):Prop:=
 C2 w' w.heap.size c1 d1∧C2 w' (w.heap.size+1) c2 d2∧(Below w.heap.size w w'∧w.heap.size+3<w'.heap.size∧Slot w' (w.heap.size+1+1)∧Slot w' (w.heap.size+1+1+1))
theorem S4.next {w W W':World} {c1 d1 c2 d2:Value} (h:S4 w W c1 d1 c2 d2) (hb:Below W.heap.size W W'):S4 w W' c1 d1 c2 d2:=by
 obtain ⟨h1,h2,h3,h4,h5,h6⟩:=h
 exact ⟨C2.below h1 hb (by omega),C2.below h2 hb (by omega),h3.trans (hb.mono h3.size),Nat.lt_of_lt_of_le h4 hb.size,h5.below hb (by omega),h6.below hb (by omega)⟩
theorem S4.drew {w W:World} {c1 d1 c2 d2:Value} (h:S4 w W c1 d1 c2 d2):S4 w W.drew c1 d1 c2 d2:=by
 obtain ⟨⟨h1,h1'⟩,⟨h2,h2'⟩,h3,h4,h5,h6⟩:=h
 exact ⟨⟨h1,h1'⟩,⟨h2,h2'⟩,h3.drew,h4,h5,h6⟩
theorem S4.start (w:World) (c1 d1 c2 d2 z1 z2:Value) (t1 t2 t3 t4:TypeId):S4 w ((((w.alloc (.cells #[c1,d1] t1)).alloc (.cells #[c2,d2] t2)).alloc (.cells #[z1,.slice none 0 0] t3)).alloc (.cells #[z2,.slice none 0 0] t4)) c1 d1 c2 d2:=by
 refine ⟨⟨?_,?_⟩,⟨?_,?_⟩,?_,?_,⟨⟨z1,?_⟩,⟨none,0,0,?_⟩,?_,?_⟩,⟨⟨z2,?_⟩,⟨none,0,0,?_⟩,?_,?_⟩⟩
 all_goals try go_simp
 exact ((((Below.refl _ _).alloc (Nat.le_refl _) _).alloc (by simp) _).alloc (by simp;omega) _).alloc (by simp;omega) _
theorem S4.store1 {w W:World} {c1 d1 c2 d2 u:Value} {p:Option Addr} {l c:Nat} (h:S4 w W c1 d1 c2 d2):S4 w (set2 W (w.heap.size+1+1) u (.slice p l c)) c1 d1 c2 d2:=by
 obtain ⟨⟨h1,h1'⟩,⟨h2,h2'⟩,h3,h4,h5,h6⟩:=h
 refine ⟨⟨?_,?_⟩,⟨?_,?_⟩,(h3.setCell (by simp;omega) _).setCell (by simp;omega) _,by simpa using h4,h5.set _ _ _ _ _,h6.set _ _ _ _ _⟩
 all_goals rw [World.cell?_setCell_far _ _ _ _ (by simp;try omega),World.cell?_setCell_far _ _ _ _ (by simp;try omega)];assumption
theorem S4.store2 {w W:World} {c1 d1 c2 d2 u:Value} {p:Option Addr} {l c:Nat} (h:S4 w W c1 d1 c2 d2):S4 w (set2 W (w.heap.size+1+1+1) u (.slice p l c)) c1 d1 c2 d2:=by
 obtain ⟨⟨h1,h1'⟩,⟨h2,h2'⟩,h3,h4,h5,h6⟩:=h
 refine ⟨⟨?_,?_⟩,⟨?_,?_⟩,(h3.setCell (by simp;omega) _).setCell (by simp;omega) _,by simpa using h4,h5.set _ _ _ _ _,h6.set _ _ _ _ _⟩
 all_goals rw [World.cell?_setCell_far _ _ _ _ (by simp;try omega),World.cell?_setCell_far _ _ _ _ (by simp;try omega)];assumption
theorem S4.done {w W:World} {c1 d1 c2 d2 c c':Value} {p p':Option Addr} {l cc l' cc' n n':Nat} (h:S4 w W c1 d1 c2 d2) (hm:IsMag W c (.slice p l cc) n) (hm':IsMag W c' (.slice p' l' cc') n') :
  (set2 (set2 W (w.heap.size+1+1) c (.slice p l cc)) (w.heap.size+1+1+1) c' (.slice p' l' cc')).cell? ⟨w.heap.size+1+1,0,none⟩=some c ∧
  (set2 (set2 W (w.heap.size+1+1) c (.slice p l cc)) (w.heap.size+1+1+1) c' (.slice p' l' cc')).cell? ⟨w.heap.size+1+1,1,none⟩=some (.slice p l cc) ∧
  (set2 (set2 W (w.heap.size+1+1) c (.slice p l cc)) (w.heap.size+1+1+1) c' (.slice p' l' cc')).cell? ⟨w.heap.size+1+1+1,0,none⟩=some c' ∧
  (set2 (set2 W (w.heap.size+1+1) c (.slice p l cc)) (w.heap.size+1+1+1) c' (.slice p' l' cc')).cell? ⟨w.heap.size+1+1+1,1,none⟩=some (.slice p' l' cc') ∧
  Hid (IsMag (set2 (set2 W (w.heap.size+1+1) c (.slice p l cc)) (w.heap.size+1+1+1) c' (.slice p' l' cc')) c (.slice p l cc) n∧IsMag (set2 (set2 W (w.heap.size+1+1) c (.slice p l cc)) (w.heap.size+1+1+1) c' (.slice p' l' cc')) c' (.slice p' l' cc') n' ∧
   Below w.heap.size w (set2 (set2 W (w.heap.size+1+1) c (.slice p l cc)) (w.heap.size+1+1+1) c' (.slice p' l' cc'))):=by
 have h1:=h.store1 (u:=c) (p:=p) (l:=l) (c:=cc)
 have h2:=h1.store2 (u:=c') (p:=p') (l:=l') (c:=cc')
 have r1:=h.2.2.2.2.1.read c (.slice p l cc)
 have r2:=h1.2.2.2.2.2.read c' (.slice p' l' cc')
 refine ⟨?_,?_,r2.1,r2.2,hid ⟨?_,?_,h2.2.2.1⟩⟩
 ·rw [World.cell?_setCell_far _ _ _ _ (by simp),World.cell?_setCell_far _ _ _ _ (by simp)];exact r1.1
 ·rw [World.cell?_setCell_far _ _ _ _ (by simp),World.cell?_setCell_far _ _ _ _ (by simp)];exact r1.2
 ·exact h1.2.2.2.2.2.mag (h.2.2.2.2.1.mag hm)
 ·exact h1.2.2.2.2.2.mag (h.2.2.2.2.1.mag hm')
def RetM2 (w:World) (n m:Nat) (e:Ending) (w':World):Prop:=∃ c d c' d',e=.returned (.tuple #[.agg #[c,d],.agg #[c',d']])∧IsMag w' c d n∧IsMag w' c' d' m∧Below w.heap.size w w'
theorem divide_calls (nx ny b o cp b2 o2 cp2 m n:Nat) (xs ys:List Nat) (w:World) (hx:Digs w b o xs) (hy:Digs w b2 o2 ys) (hb:b<w.heap.size) (hb2:b2<w.heap.size) (dx:Dig xs) (dy:Dig ys) (tx:Trimmed xs) (ty:Trimmed ys) (hcp:xs.length≤cp)
  (hsx:xs.length≤274877906944) (h2:2≤ys.length) (hnx:xs.length=nx) (hny:ys.length=ny) (hm:val xs=m) (hn:val ys=n) :
  Calls Tryz.prog 186 #[.slice (some ⟨b,o,none⟩) nx cp,.slice (some ⟨b2,o2,none⟩) ny cp2] w (RetDivide w (m / n) (m % n)):=by
 subst hm hn
 rcases Nat.lt_or_ge (val xs) (val ys) with h | h
 ·exact divide_small nx ny b o cp b2 o2 cp2 xs ys w hx hy hb dx dy tx ty hcp hsx h hnx hny
 ·subst hnx
  obtain ⟨k,rfl⟩:∃ k,ny=k+2:=⟨ny - 2,by omega⟩
  exact divide_great b o cp b2 o2 cp2 k xs ys w hx hy hb hb2 dx dy tx ty hsx h hny
theorem mdiv_long (x1:Int) (p1:Option Addr) (l1 m1 p2 q2 l2 m2:Nat) (a b k:Nat) (w:World) (ha:IsMag w (.int .u64 x1) (.slice p1 l1 m1) a) (hb:IsMag w (.int .u64 0) (.slice (some ⟨p2,q2,none⟩) l2 m2) b) (hk:k≤137438953472) (ka:a<B64 ^ k) :
  Calls Tryz.prog 139 #[.agg #[.int .u64 x1,.slice p1 l1 m1],.agg #[.int .u64 0,.slice (some ⟨p2,q2,none⟩) l2 m2]] w (RetM2 w (a / b) (a % b)):=by
 have hn:=someSlice_run
 have kq:a / b<B64 ^ k:=Nat.lt_of_le_of_lt (Nat.div_le_self _ _) ka
 have kr:a % b<B64 ^ k:=Nat.lt_of_le_of_lt (Nat.mod_le _ _) ka
 obtain ⟨q,hq⟩:∃ q,a / b=q:=⟨_,rfl⟩
 obtain ⟨r,hr⟩:∃ r,a % b=r:=⟨_,rfl⟩
 rw [hq] at kq ⊢
 rw [hr] at kr ⊢
 go_enter Tryz.func139,Tryz.ntmps139
 go_wp2_with fail
 refine (isOne_run _ _ _).mono ?_
 have s0:=S4.start w (.int .u64 x1) (.slice p1 l1 m1) (.int .u64 0) (.slice (some ⟨p2,q2,none⟩) l2 m2) (.int .u64 0) (.int .u64 0) 27 27 27 27
 rintro e w1 ⟨rfl,hB1⟩
 have s1:=s0.next hB1
 clear s0 hB1
 obtain ⟨e1,e2⟩:=s1.1
 obtain ⟨e3,e4⟩:=s1.2.1
 go_wp2_with fail
 clear e1 e2 e3 e4
 go_region_held3 (fun w'=>S4 w w' (.int .u64 x1) (.slice p1 l1 m1) (.int .u64 0) (.slice (some ⟨p2,q2,none⟩) l2 m2))
  ((first | assumption | exact S4.next (by assumption) (by assumption) | exact S4.drew (by assumption)))
  (first
   | (go_at_call_of 180 (Value.agg #[.int .u64 x1,.slice p1 l1 m1]);refine (digits_calls _ _ a _ ?_).mono ?_;exact ha.mono (‹S4 w _ (.int .u64 x1) (.slice p1 l1 m1) (.int .u64 0) (.slice (some ⟨p2,q2,none⟩) l2 m2)›).2.2.1 (Nat.le_refl _);rintro e wA ⟨b1,o1,cp1,xs,rfl,hb1,hl1,hd1,ht1,hv1,hD1,hBA⟩)
   | (go_at_call 186;obtain ⟨ys,hly,hlk,hl2',hb2,hd2,ht2,hv2,hD2⟩:=isMag_digits (hb.mono (‹S4 w _ (.int .u64 x1) (.slice p1 l1 m1) (.int .u64 0) (.slice (some ⟨p2,q2,none⟩) l2 m2)›).2.2.1 (Nat.le_refl _));refine (divide_calls _ _ b1 o1 cp1 p2 q2 m2 a b xs ys _ hD1 hD2 hb1 hb2 hd1 hd2 ht1 ht2 hl1 ?_ ?_ rfl hly hv1 hv2).mono ?_;exact Nat.le_trans (len_le ht1 (by rw [hv1];exact ka)) (by omega);omega;rw [hq,hr];rintro e wC ⟨qv,rv,rfl,hQ,hR,hBC⟩))
 go_wp2_with fail
 refine (shorten_calls qv q k _ hQ (by omega) kq).mono ?_
 rintro e wD hret
 obtain ⟨x,p,l,cc,rfl,hmq,hBD⟩:=hret.shape
 have sD:=S4.next ‹S4 w _ (.int .u64 x1) (.slice p1 l1 m1) (.int .u64 0) (.slice (some ⟨p2,q2,none⟩) l2 m2)› hBD
 replace hR:=hR.below hBD
 clear hret hQ
 go_wp2_with fail
 refine (shorten_calls rv r k _ hR (by omega) kr).mono ?_
 rintro e wE hret
 obtain ⟨x',p',l',cc',rfl,hmr,hBE⟩:=hret.shape
 have sE:=S4.next sD hBE
 replace hmq:=hmq.below hBE
 obtain ⟨⟨⟨y1,f1⟩,⟨u1,u2,u3,f2⟩,f3,f4⟩,⟨⟨y2,f5⟩,⟨v1,v2,v3,f6⟩,f7,f8⟩⟩:=sE.2.2.2.2
 obtain ⟨z1,z2,z3,z4,hZ⟩:=sE.done hmq hmr
 clear hret hR hmq hmr sD sE hBE hBD
 go_wp2_with fail
 simp only [set2] at z1 z2 z3 z4
 refine bodyPost_ret (v:=.tuple #[.agg #[.int .u64 x,.slice p l cc],.agg #[.int .u64 x',.slice p' l' cc']]) (by simp [results,Tryz.results139,go_sem,z1,z2,z3,z4]) rfl ⟨_,_,_,_,rfl,hZ.out.1,hZ.out.2.1,hZ.out.2.2⟩
theorem mdiv_one (x1:Int) (p1:Option Addr) (l1 m1 a:Nat) (w:World) (ha:IsMag w (.int .u64 x1) (.slice p1 l1 m1) a) :
  Calls Tryz.prog 139 #[.agg #[.int .u64 x1,.slice p1 l1 m1],.agg #[.int .u64 1,.slice none 0 0]] w (RetM2 w a 0):=by
 have hn:=someSlice_run
 go_enter Tryz.func139,Tryz.ntmps139
 go_wp2_with fail
 refine (isOne_run _ _ _).mono ?_
 have s0:=S4.start w (.int .u64 x1) (.slice p1 l1 m1) (.int .u64 1) (.slice none 0 0) (.int .u64 0) (.int .u64 0) 27 27 27 27
 rintro e w1 ⟨rfl,hB1⟩
 have s1:=s0.next hB1
 clear s0 hB1
 obtain ⟨e1,e2⟩:=s1.1
 obtain ⟨⟨⟨y1,f1⟩,⟨u1,u2,u3,f2⟩,f3,f4⟩,⟨⟨y2,f5⟩,⟨v1,v2,v3,f6⟩,f7,f8⟩⟩:=s1.2.2.2.2
 obtain ⟨z1,z2,z3,z4,hZ⟩:=s1.done (c':=.int .u64 0) (p':=none) (l':=0) (cc':=0) (n':=0) (ha.mono s1.2.2.1 (Nat.le_refl _)) (.inl ⟨B64_pos,rfl,rfl⟩)
 clear s1
 go_wp2_with fail
 simp only [set2] at z1 z2 z3 z4
 refine bodyPost_ret (v:=.tuple #[.agg #[.int .u64 x1,.slice p1 l1 m1],.agg #[.int .u64 0,.slice none 0 0]]) (by simp [results,Tryz.results139,go_sem,z1,z2,z3,z4]) rfl ⟨_,_,_,_,rfl,hZ.out.1,hZ.out.2.1,hZ.out.2.2⟩
theorem mdiv_word (x0 y0:Nat) (w:World) (hx:x0<B64) (hy:y0≠1) (hy0:0<y0) :
  Calls Tryz.prog 139 #[.agg #[.int .u64 (x0:Int),.slice none 0 0],.agg #[.int .u64 (y0:Int),.slice none 0 0]] w (RetM2 w (x0 / y0) (x0 % y0)):=by
 have hn:=someSlice_run
 have h1:((y0:Int) == 1)=false:=by rw [beq_eq_false_iff_ne];omega
 have h2:((y0:Int) == 0)=false:=by rw [beq_eq_false_iff_ne];omega
 have h3:¬ (y0:Int)=0:=by omega
 have hq:=wrap_div x0 y0 hx
 have hr:((x0:Int) % (y0:Int))=((x0 % y0:Nat):Int):=by push_cast;rfl
 have HQ:=hid (Nat.lt_of_le_of_lt (Nat.div_le_self x0 y0) hx)
 have HR:=hid (Nat.lt_of_le_of_lt (Nat.mod_le x0 y0) hx)
 clear hx hy hy0
 obtain ⟨q,hq'⟩:∃ q,x0 / y0=q:=⟨_,rfl⟩
 obtain ⟨r,hr'⟩:∃ r,x0 % y0=r:=⟨_,rfl⟩
 rw [hq'] at hq HQ ⊢
 rw [hr'] at hr HR ⊢
 clear hq' hr'
 go_enter Tryz.func139,Tryz.ntmps139
 go_wp2_with fail
 refine (isOne_run _ _ _).mono ?_
 have s0:=S4.start w (.int .u64 (x0:Int)) (.slice none 0 0) (.int .u64 (y0:Int)) (.slice none 0 0) (.int .u64 0) (.int .u64 0) 27 27 27 27
 rintro e w1 ⟨rfl,hB1⟩
 have s1:=s0.next hB1
 clear s0 hB1
 obtain ⟨e1,e2⟩:=s1.1
 obtain ⟨e3,e4⟩:=s1.2.1
 obtain ⟨⟨⟨y1,f1⟩,⟨u1,u2,u3,f2⟩,f3,f4⟩,⟨⟨y2,f5⟩,⟨v1,v2,v3,f6⟩,f7,f8⟩⟩:=s1.2.2.2.2
 obtain ⟨z1,z2,z3,z4,hZ⟩:=s1.done (c:=.int .u64 (q:Int)) (p:=none) (l:=0) (cc:=0) (n:=q) (c':=.int .u64 (r:Int)) (p':=none) (l':=0) (cc':=0) (n':=r) (.inl ⟨HQ.out,rfl,rfl⟩) (.inl ⟨HR.out,rfl,rfl⟩)
 clear s1
 go_wp2_with (go_big_skip)
 go_region
 go_wp2_with fail
 simp only [set2] at z1 z2 z3 z4
 obtain ⟨m1,m2,m3⟩:=hZ.out
 refine bodyPost_ret (v:=.tuple #[.agg #[.int .u64 (q:Int),.slice none 0 0],.agg #[.int .u64 (r:Int),.slice none 0 0]]) (by simp [results,Tryz.results139,go_sem,z1,z2,z3,z4]) rfl ⟨_,_,_,_,rfl,m1.below (Below.refl _ _).drew,m2.below (Below.refl _ _).drew,m3.drew⟩
theorem mdiv_longword (p1 q1 l1 m1 y0:Nat) (a k:Nat) (w:World) (ha:IsMag w (.int .u64 0) (.slice (some ⟨p1,q1,none⟩) l1 m1) a) (hy:y0<B64) (hy1:y0≠1) (hy0:0<y0) (hk:k≤137438953472) (ka:a<B64 ^ k) :
  Calls Tryz.prog 139 #[.agg #[.int .u64 0,.slice (some ⟨p1,q1,none⟩) l1 m1],.agg #[.int .u64 (y0:Int),.slice none 0 0]] w (RetM2 w (a / y0) (a % y0)):=by
 have hn:=someSlice_run
 have h1:((y0:Int) == 1)=false:=by rw [beq_eq_false_iff_ne];omega
 have kq:a / y0<B64 ^ k:=Nat.lt_of_le_of_lt (Nat.div_le_self _ _) ka
 have HR:=hid (Nat.lt_trans (Nat.mod_lt a hy0) hy)
 obtain ⟨q,hq⟩:∃ q,a / y0=q:=⟨_,rfl⟩
 obtain ⟨r,hr⟩:∃ r,a % y0=r:=⟨_,rfl⟩
 rw [hq] at kq ⊢
 rw [hr] at HR ⊢
 have HY:=hid (And.intro hy hy0)
 clear hy hy0 hy1
 go_enter Tryz.func139,Tryz.ntmps139
 go_wp2_with fail
 refine (isOne_run _ _ _).mono ?_
 have s0:=S4.start w (.int .u64 0) (.slice (some ⟨p1,q1,none⟩) l1 m1) (.int .u64 (y0:Int)) (.slice none 0 0) (.int .u64 0) (.int .u64 0) 27 27 27 27
 rintro e w1 ⟨rfl,hB1⟩
 have s1:=s0.next hB1
 clear s0 hB1
 obtain ⟨e1,e2⟩:=s1.1
 obtain ⟨e3,e4⟩:=s1.2.1
 go_wp2_with (go_big_skip)
 obtain ⟨xs,hlx,hlk,hl2',hb1,hd1,ht1,hv1,hD1⟩:=isMag_digits (ha.mono s1.2.2.1 (Nat.le_refl _))
 refine (divideWord_calls l1 y0 p1 q1 m1 xs _ HY.out.2 HY.out.1 hD1 hb1 hd1 ?_ hlx).mono ?_
 ·exact Nat.le_trans (len_le ht1 (by rw [hv1];exact ka)) (by omega)
 rw [hv1,hq,hr]
 rintro e wC ⟨b3,o3,cp3,zs,rfl,hb3,hl3,hd3,ht3,hv3,hD3,hBC⟩
 have sC:=S4.next s1 hBC
 clear e1 e2 e3 e4
 go_wp2_with (go_big_skip)
 refine (shorten_slice b3 o3 cp3 zs.length zs _ rfl hl3 ?_ hb3 hd3 ht3 hD3).mono ?_
 ·exact Nat.le_trans (len_le ht3 (by rw [hv3];exact kq)) (by omega)
 rintro e wD hret
 obtain ⟨x,p,l,cc,rfl,hm,hBD⟩:=hret.shape
 rw [hv3] at hm
 have sD:=sC.next hBD
 clear hret
 obtain ⟨⟨⟨y1,f1⟩,⟨u1,u2,u3,f2⟩,f3,f4⟩,⟨⟨y2,f5⟩,⟨v1,v2,v3,f6⟩,f7,f8⟩⟩:=sD.2.2.2.2
 obtain ⟨z1,z2,z3,z4,hZ⟩:=sD.done (c':=.int .u64 (r:Int)) (p':=none) (l':=0) (cc':=0) (n':=r) hm (.inl ⟨HR.out,rfl,rfl⟩)
 clear s1 sC sD hm hd3 ht3 hD3 hBC hBD
 go_wp2_with fail
 simp only [set2] at z1 z2 z3 z4
 refine bodyPost_ret (v:=.tuple #[.agg #[.int .u64 x,.slice p l cc],.agg #[.int .u64 (r:Int),.slice none 0 0]]) (by simp [results,Tryz.results139,go_sem,z1,z2,z3,z4]) rfl ⟨_,_,_,_,rfl,hZ.out.1,hZ.out.2.1,hZ.out.2.2⟩
theorem mdiv_calls (a b k:Nat) (c1 d1 c2 d2:Value) (w:World) (ha:IsMag w c1 d1 a) (hb:IsMag w c2 d2 b) (hb0:0<b) (hk:k≤137438953472) (ka:a<B64 ^ k) :
  Calls Tryz.prog 139 #[.agg #[c1,d1],.agg #[c2,d2]] w (RetM2 w (a / b) (a % b)):=by
 rcases id hb with ⟨hb1,rfl,rfl⟩ | ⟨b2,o2,k2,ys,rfl,rfl,_⟩
 ·by_cases h1:b=1
  ·subst h1
   rw [Nat.div_one,Nat.mod_one]
   rcases id ha with ⟨ha1,rfl,rfl⟩ | ⟨b1,o1,k1,xs,rfl,rfl,_⟩
   ·exact mdiv_one _ _ _ _ a w ha
   ·exact mdiv_one _ _ _ _ a w ha
  ·rcases id ha with ⟨ha1,rfl,rfl⟩ | ⟨b1,o1,k1,xs,rfl,rfl,_⟩
   ·exact mdiv_word a b w ha1 h1 hb0
   ·exact mdiv_longword _ _ _ _ b a k w ha hb1 h1 hb0 hk ka
 ·rcases id ha with ⟨ha1,rfl,rfl⟩ | ⟨b1,o1,k1,xs,rfl,rfl,_⟩
  ·exact mdiv_long _ _ _ _ _ _ _ _ a b k w ha hb hk ka
  ·exact mdiv_long _ _ _ _ _ _ _ _ a b k w ha hb hk ka
end Go.Proofs.YtnmlkobogofadaaGreatDoor
namespace Go.Proofs.YtnmlkobogofadaaGreatDoor
set_option maxRecDepth 100000
set_option maxHeartbeats 80000000
open Go.RowKit Go.Sort
theorem RetM2.shape {w w':World} {n m:Nat} {e:Ending} (h:RetM2 w n m e w'):∃ (x:Int) (p:Option Addr) (l c:Nat) (x':Int) (p':Option Addr) (l' c':Nat),e=.returned (.tuple #[.agg #[.int .u64 x,.slice p l c],.agg #[.int .u64 x',.slice p' l' c']])∧IsMag w' (.int .u64 x) (.slice p l c) n∧IsMag w' (.int .u64 x') (.slice p' l' c') m∧Below w.heap.size w w':=by
 obtain ⟨c,d,c',d',rfl,hm,hm',hb⟩:=h
 rcases id hm with ⟨_,rfl,rfl⟩ | ⟨b,o,k,xs,rfl,rfl,_⟩ <;> rcases id hm' with ⟨_,rfl,rfl⟩ | ⟨b',o',k',xs',rfl,rfl,_⟩ <;> exact ⟨_,_,_,_,_,_,_,_,rfl,hm,hm',hb⟩
theorem mover_calls (a b k:Nat) (c1 d1 c2 d2:Value) (w:World) (ha:IsMag w c1 d1 a) (hb:IsMag w c2 d2 b) (hb0:0<b) (hk:k≤137438953472) (ka:a<B64 ^ k) :
  Calls Tryz.prog 131 #[.agg #[c1,d1],.agg #[c2,d2]] w (RetM w (a / b)):=by
 go_enter Tryz.func131,Tryz.ntmps131
 have s0:=S2.start0 w c1 d1 c2 d2 (.int .u64 0) 27 27 27
 go_wp2_with fail
 refine (mdiv_calls a b k c1 d1 c2 d2 _ (ha.mono s0.2.2.1 (Nat.le_refl _)) (hb.mono s0.2.2.1 (Nat.le_refl _)) hb0 hk ka).mono ?_
 rintro e w1 hret
 obtain ⟨x,p,l,cc,x',p',l',cc',rfl,hm,hm',hB⟩:=hret.shape
 have s1:=s0.next hB
 have s2:=s1.next (((Below.refl w1.heap.size w1).alloc (Nat.le_refl _) (.cells #[.int .u64 x,.slice p l cc] 27)).alloc (by simp) (.cells #[.int .u64 x',.slice p' l' cc'] 27))
 have m2:=hm.below (((Below.refl w1.heap.size w1).alloc (Nat.le_refl _) (.cells #[.int .u64 x,.slice p l cc] 27)).alloc (by simp) (.cells #[.int .u64 x',.slice p' l' cc'] 27))
 have g1:¬ w1.heap.size=w.heap.size+1+1:=by have:=s1.2.2.2.1;omega
 have g2:¬ w1.heap.size+1=w.heap.size+1+1:=by have:=s1.2.2.2.1;omega
 have g3:¬ w.heap.size+1+1=w1.heap.size:=by have:=s1.2.2.2.1;omega
 have g4:¬ w.heap.size+1+1=w1.heap.size+1:=by have:=s1.2.2.2.1;omega
 obtain ⟨⟨y1,hy1⟩,⟨y2,hy2⟩,hf1,hf2⟩:=s2.slot
 obtain ⟨hz1,hz2,hHm⟩:=s2.done m2
 clear hret s0 hm' hB hm s1 s2 m2
 go_wp2_with fail
 refine bodyPost_ret (v:=.agg #[.int .u64 x,.slice p l cc]) (by simp [results,Tryz.results131,go_sem,hz1,hz2]) rfl ⟨_,_,rfl,hHm.out.1,hHm.out.2⟩
end Go.Proofs.YtnmlkobogofadaaGreatDoor
