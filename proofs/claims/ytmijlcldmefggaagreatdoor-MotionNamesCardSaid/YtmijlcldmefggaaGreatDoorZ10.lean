/- What the proof rests on, part 10. -/
import Derived.Test.YtmijlcldmefggaaGreatDoorZ07
import Derived.Test.YtmijlcldmefggaaGreatDoorZ09
import Derived.StillTail
import Derived.Below
import Derived.StillTactics
import Derived.WalkKit
namespace Go.Proofs.YtmijlcldmefggaaGreatDoor
set_option maxRecDepth 100000
set_option maxHeartbeats 80000000
section
open Go.RowKit Go.Sort
theorem mgcd_a1 (x1:Int) (p1:Option Addr) (l1 m1:Nat) (x2:Int) (p2:Option Addr) (l2 m2:Nat) (a b:Nat) (w:World) (ha:IsMag w (.int .u64 x1) (.slice p1 l1 m1) a) (_hb:IsMag w (.int .u64 x2) (.slice p2 l2 m2) b) (h1:a=1) :
  Calls Tryz.prog 56 #[.agg #[.int .u64 x1,.slice p1 l1 m1],.agg #[.int .u64 x2,.slice p2 l2 m2]] w (RetM w (Nat.gcd a b)):=by
 have hn:=nilSlice_run
 have t1:(a == 1)=true:=by rw [beq_iff_eq];exact h1
 go_enter Tryz.func56,Tryz.ntmps56
 go_wp2_with fail
 have s0:=S2.start0 w (.int .u64 x1) (.slice p1 l1 m1) (.int .u64 x2) (.slice p2 l2 m2) (.int .u64 0) 28 28 28
 refine (isOne_calls _ _ a _ (ha.mono s0.2.2.1 (Nat.le_refl _))).mono ?_
 rintro e w1 ⟨rfl,hB⟩
 have s1:=s0.next hB
 clear s0 hB
 obtain ⟨e1,e2⟩:=s1.1
 obtain ⟨e3,e4⟩:=s1.2.1
 obtain ⟨⟨y1,hy1⟩,⟨y2,hy2⟩,hf1,hf2⟩:=s1.slot
 obtain ⟨hz1,hz2,hHm⟩:=s1.done (ha.mono s1.2.2.1 (Nat.le_refl _))
 clear s1
 go_wp2_with fail
 refine bodyPost_ret (v:=.agg #[.int .u64 x1,.slice p1 l1 m1]) (by simp [results,Tryz.results56,go_sem,hz1,hz2]) rfl ?_
 rw [h1,Nat.gcd_one_left] at *
 exact ⟨_,_,rfl,hHm.out.1,hHm.out.2⟩
theorem mgcd_b0 (x1:Int) (p1:Option Addr) (l1 m1:Nat) (x2:Int) (p2:Option Addr) (l2 m2:Nat) (a b:Nat) (w:World) (ha:IsMag w (.int .u64 x1) (.slice p1 l1 m1) a) (hb:IsMag w (.int .u64 x2) (.slice p2 l2 m2) b) (h1:a≠1) (h2:b=0) :
  Calls Tryz.prog 56 #[.agg #[.int .u64 x1,.slice p1 l1 m1],.agg #[.int .u64 x2,.slice p2 l2 m2]] w (RetM w (Nat.gcd a b)):=by
 have hn:=nilSlice_run
 have t1:(a == 1)=false:=by rw [beq_eq_false_iff_ne];exact h1
 have t2:(b == 0)=true:=by rw [beq_iff_eq];exact h2
 clear h1
 go_enter Tryz.func56,Tryz.ntmps56
 go_wp2_with fail
 have s0:=S2.start0 w (.int .u64 x1) (.slice p1 l1 m1) (.int .u64 x2) (.slice p2 l2 m2) (.int .u64 0) 28 28 28
 refine (isOne_calls _ _ a _ (ha.mono s0.2.2.1 (Nat.le_refl _))).mono ?_
 rintro e w1 ⟨rfl,hB⟩
 have s1:=s0.next hB
 clear s0 hB
 obtain ⟨e1,e2⟩:=s1.1
 obtain ⟨e3,e4⟩:=s1.2.1
 go_wp2_with fail
 clear e1 e2 e3 e4
 refine (isZero_calls _ _ b _ (hb.mono s1.2.2.1 (Nat.le_refl _))).mono ?_
 rintro e w2 ⟨rfl,hB⟩
 have s2:=s1.next hB
 clear s1 hB
 obtain ⟨e1,e2⟩:=s2.1
 obtain ⟨e3,e4⟩:=s2.2.1
 obtain ⟨⟨y1,hy1⟩,⟨y2,hy2⟩,hf1,hf2⟩:=s2.slot
 obtain ⟨hz1,hz2,hHm⟩:=s2.done (ha.mono s2.2.2.1 (Nat.le_refl _))
 clear s2
 go_wp2_with fail
 refine bodyPost_ret (v:=.agg #[.int .u64 x1,.slice p1 l1 m1]) (by simp [results,Tryz.results56,go_sem,hz1,hz2]) rfl ?_
 rw [h2,Nat.gcd_zero_right]
 exact ⟨_,_,rfl,hHm.out.1,hHm.out.2⟩
theorem mgcd_b1 (x1:Int) (p1:Option Addr) (l1 m1:Nat) (x2:Int) (p2:Option Addr) (l2 m2:Nat) (a b:Nat) (w:World) (ha:IsMag w (.int .u64 x1) (.slice p1 l1 m1) a) (hb:IsMag w (.int .u64 x2) (.slice p2 l2 m2) b) (h1:a≠1) (h2:b≠0) (h3:b=1) :
  Calls Tryz.prog 56 #[.agg #[.int .u64 x1,.slice p1 l1 m1],.agg #[.int .u64 x2,.slice p2 l2 m2]] w (RetM w (Nat.gcd a b)):=by
 have hn:=nilSlice_run
 have t1:(a == 1)=false:=by rw [beq_eq_false_iff_ne];exact h1
 have t2:(b == 0)=false:=by rw [beq_eq_false_iff_ne];exact h2
 have t3:(b == 1)=true:=by rw [beq_iff_eq];exact h3
 clear h1 h2
 go_enter Tryz.func56,Tryz.ntmps56
 go_wp2_with fail
 have s0:=S2.start0 w (.int .u64 x1) (.slice p1 l1 m1) (.int .u64 x2) (.slice p2 l2 m2) (.int .u64 0) 28 28 28
 refine (isOne_calls _ _ a _ (ha.mono s0.2.2.1 (Nat.le_refl _))).mono ?_
 rintro e w1 ⟨rfl,hB⟩
 have s1:=s0.next hB
 clear s0 hB
 obtain ⟨e1,e2⟩:=s1.1
 obtain ⟨e3,e4⟩:=s1.2.1
 go_wp2_with fail
 clear e1 e2 e3 e4
 refine (isZero_calls _ _ b _ (hb.mono s1.2.2.1 (Nat.le_refl _))).mono ?_
 rintro e w2 ⟨rfl,hB⟩
 have s2:=s1.next hB
 clear s1 hB
 obtain ⟨e1,e2⟩:=s2.1
 obtain ⟨e3,e4⟩:=s2.2.1
 go_wp2_with fail
 clear e1 e2 e3 e4
 refine (isOne_calls _ _ b _ (hb.mono s2.2.2.1 (Nat.le_refl _))).mono ?_
 rintro e w3 ⟨rfl,hB⟩
 have s3:=s2.next hB
 clear s2 hB
 obtain ⟨e1,e2⟩:=s3.1
 obtain ⟨e3,e4⟩:=s3.2.1
 obtain ⟨⟨y1,hy1⟩,⟨y2,hy2⟩,hf1,hf2⟩:=s3.slot
 obtain ⟨hz1,hz2,hHm⟩:=s3.done (hb.mono s3.2.2.1 (Nat.le_refl _))
 clear s3
 go_wp2_with fail
 refine bodyPost_ret (v:=.agg #[.int .u64 x2,.slice p2 l2 m2]) (by simp [results,Tryz.results56,go_sem,hz1,hz2]) rfl ?_
 rw [h3,Nat.gcd_one_right] at *
 exact ⟨_,_,rfl,hHm.out.1,hHm.out.2⟩
theorem mgcd_a0 (x1:Int) (p1:Option Addr) (l1 m1:Nat) (x2:Int) (p2:Option Addr) (l2 m2:Nat) (a b:Nat) (w:World) (ha:IsMag w (.int .u64 x1) (.slice p1 l1 m1) a) (hb:IsMag w (.int .u64 x2) (.slice p2 l2 m2) b) (h1:a≠1) (h2:b≠0) (h3:b≠1) (h4:a=0) :
  Calls Tryz.prog 56 #[.agg #[.int .u64 x1,.slice p1 l1 m1],.agg #[.int .u64 x2,.slice p2 l2 m2]] w (RetM w (Nat.gcd a b)):=by
 have hn:=nilSlice_run
 have t1:(a == 1)=false:=by rw [beq_eq_false_iff_ne];exact h1
 have t2:(b == 0)=false:=by rw [beq_eq_false_iff_ne];exact h2
 have t3:(b == 1)=false:=by rw [beq_eq_false_iff_ne];exact h3
 have t4:(a == 0)=true:=by rw [beq_iff_eq];exact h4
 clear h1 h2 h3
 go_enter Tryz.func56,Tryz.ntmps56
 go_wp2_with fail
 have s0:=S2.start0 w (.int .u64 x1) (.slice p1 l1 m1) (.int .u64 x2) (.slice p2 l2 m2) (.int .u64 0) 28 28 28
 refine (isOne_calls _ _ a _ (ha.mono s0.2.2.1 (Nat.le_refl _))).mono ?_
 rintro e w1 ⟨rfl,hB⟩
 have s1:=s0.next hB
 clear s0 hB
 obtain ⟨e1,e2⟩:=s1.1
 obtain ⟨e3,e4⟩:=s1.2.1
 go_wp2_with fail
 clear e1 e2 e3 e4
 refine (isZero_calls _ _ b _ (hb.mono s1.2.2.1 (Nat.le_refl _))).mono ?_
 rintro e w2 ⟨rfl,hB⟩
 have s2:=s1.next hB
 clear s1 hB
 obtain ⟨e1,e2⟩:=s2.1
 obtain ⟨e3,e4⟩:=s2.2.1
 go_wp2_with fail
 clear e1 e2 e3 e4
 refine (isOne_calls _ _ b _ (hb.mono s2.2.2.1 (Nat.le_refl _))).mono ?_
 rintro e w3 ⟨rfl,hB⟩
 have s3:=s2.next hB
 clear s2 hB
 obtain ⟨e1,e2⟩:=s3.1
 obtain ⟨e3,e4⟩:=s3.2.1
 go_wp2_with fail
 clear e1 e2 e3 e4
 refine (isZero_calls _ _ a _ (ha.mono s3.2.2.1 (Nat.le_refl _))).mono ?_
 rintro e w4 ⟨rfl,hB⟩
 have s4:=s3.next hB
 clear s3 hB
 obtain ⟨e1,e2⟩:=s4.1
 obtain ⟨e3,e4⟩:=s4.2.1
 obtain ⟨⟨y1,hy1⟩,⟨y2,hy2⟩,hf1,hf2⟩:=s4.slot
 obtain ⟨hz1,hz2,hHm⟩:=s4.done (hb.mono s4.2.2.1 (Nat.le_refl _))
 clear s4
 go_wp2_with fail
 refine bodyPost_ret (v:=.agg #[.int .u64 x2,.slice p2 l2 m2]) (by simp [results,Tryz.results56,go_sem,hz1,hz2]) rfl ?_
 rw [h4,Nat.gcd_zero_left]
 exact ⟨_,_,rfl,hHm.out.1,hHm.out.2⟩
theorem mgcd_words (a b:Nat) (w:World) (la:a<B64) (lb:b<B64) (hT:Tab w) (h1:a≠1) (h2:b≠0) (h3:b≠1) (h4:a≠0) :
  Calls Tryz.prog 56 #[.agg #[.int .u64 (a:Int),.slice none 0 0],.agg #[.int .u64 (b:Int),.slice none 0 0]] w (RetM w (Nat.gcd a b)):=by
 have hn:=nilSlice_run
 have ha:IsMag w (.int .u64 (a:Int)) (.slice none 0 0) a:=.inl ⟨la,rfl,rfl⟩
 have hb:IsMag w (.int .u64 (b:Int)) (.slice none 0 0) b:=.inl ⟨lb,rfl,rfl⟩
 have hwg:=hid (fun (W:World) (hW:Tab W)=>wordGcd_calls a b W la lb h4 h2 hW)
 have t1:(a == 1)=false:=by rw [beq_eq_false_iff_ne];exact h1
 have t2:(b == 0)=false:=by rw [beq_eq_false_iff_ne];exact h2
 have t3:(b == 1)=false:=by rw [beq_eq_false_iff_ne];exact h3
 have t4:(a == 0)=false:=by rw [beq_eq_false_iff_ne];exact h4
 have hgl:=hid (Nat.lt_of_le_of_lt (Nat.gcd_le_left b (by omega)) la)
 have HT:=hid hT
 clear la lb h1 h2 h3 h4 hT
 go_enter Tryz.func56,Tryz.ntmps56
 go_wp2_with fail
 have s0:=S2.start0 w (.int .u64 (a:Int)) (.slice none 0 0) (.int .u64 (b:Int)) (.slice none 0 0) (.int .u64 0) 28 28 28
 refine (isOne_calls _ _ a _ (ha.mono s0.2.2.1 (Nat.le_refl _))).mono ?_
 rintro e w1 ⟨rfl,hB⟩
 have s1:=s0.next hB
 clear s0 hB
 obtain ⟨e1,e2⟩:=s1.1
 obtain ⟨e3,e4⟩:=s1.2.1
 go_wp2_with fail
 clear e1 e2 e3 e4
 refine (isZero_calls _ _ b _ (hb.mono s1.2.2.1 (Nat.le_refl _))).mono ?_
 rintro e w2 ⟨rfl,hB⟩
 have s2:=s1.next hB
 clear s1 hB
 obtain ⟨e1,e2⟩:=s2.1
 obtain ⟨e3,e4⟩:=s2.2.1
 go_wp2_with fail
 clear e1 e2 e3 e4
 refine (isOne_calls _ _ b _ (hb.mono s2.2.2.1 (Nat.le_refl _))).mono ?_
 rintro e w3 ⟨rfl,hB⟩
 have s3:=s2.next hB
 clear s2 hB
 obtain ⟨e1,e2⟩:=s3.1
 obtain ⟨e3,e4⟩:=s3.2.1
 go_wp2_with fail
 clear e1 e2 e3 e4
 refine (isZero_calls _ _ a _ (ha.mono s3.2.2.1 (Nat.le_refl _))).mono ?_
 rintro e w4 ⟨rfl,hB⟩
 have s4:=s3.next hB
 clear s3 hB
 obtain ⟨e1,e2⟩:=s4.1
 obtain ⟨e3,e4⟩:=s4.2.1
 obtain ⟨⟨y1,hy1⟩,⟨y2,hy2⟩,hf1,hf2⟩:=s4.slot
 go_wp2_with fail
 refine (hwg.out _ (HT.out.below s4.2.2.1 (Nat.le_refl _))).mono ?_
 rintro e w5 ⟨rfl,rfl⟩
 obtain ⟨hz1,hz2,hHm⟩:=s4.done (c:=.int .u64 ((Nat.gcd a b:Nat):Int)) (p:=none) (l:=0) (cc:=0) (.inl ⟨hgl.out,rfl,rfl⟩)
 clear s4 hwg
 go_wp2_with fail
 exact bodyPost_ret (v:=.agg #[.int .u64 ((Nat.gcd a b:Nat):Int),.slice none 0 0]) (by simp [results,Tryz.results56,go_sem,hz1,hz2]) rfl ⟨_,_,rfl,hHm.out.1,hHm.out.2⟩
theorem mgcd_ww (a b:Nat) (w:World) (la:a<B64) (lb:b<B64) (hT:Tab w) :
  Calls Tryz.prog 56 #[.agg #[.int .u64 (a:Int),.slice none 0 0],.agg #[.int .u64 (b:Int),.slice none 0 0]] w (RetM w (Nat.gcd a b)):=by
 have ha:IsMag w (.int .u64 (a:Int)) (.slice none 0 0) a:=.inl ⟨la,rfl,rfl⟩
 have hb:IsMag w (.int .u64 (b:Int)) (.slice none 0 0) b:=.inl ⟨lb,rfl,rfl⟩
 by_cases h1:a=1
 ·exact mgcd_a1 _ _ _ _ _ _ _ _ a b w ha hb h1
 by_cases h2:b=0
 ·exact mgcd_b0 _ _ _ _ _ _ _ _ a b w ha hb h1 h2
 by_cases h3:b=1
 ·exact mgcd_b1 _ _ _ _ _ _ _ _ a b w ha hb h1 h2 h3
 by_cases h4:a=0
 ·exact mgcd_a0 _ _ _ _ _ _ _ _ a b w ha hb h1 h2 h3 h4
 exact mgcd_words a b w la lb hT h1 h2 h3 h4
theorem mgcd_wl (x0:Nat) (q1 o1 l1 m1:Nat) (xs:List Nat) (a b:Nat) (w:World) (lx:x0<B64) (dq:q1<w.heap.size) (dl:xs.length=l1) (dx:Dig xs) (dv:Digs w q1 o1 xs) (hl:l1≤137438953472) (ha:IsMag w (.int .u64 (x0:Int)) (.slice none 0 0) a) (hb:IsMag w (.int .u64 0) (.slice (some ⟨q1,o1,none⟩) l1 m1) b) (va:x0=a) (vb:val xs=b) (hT:Tab w) (h1:a≠1) (h2:b≠0) (h3:b≠1) (h4:a≠0) :
  Calls Tryz.prog 56 #[.agg #[.int .u64 (x0:Int),.slice none 0 0],.agg #[.int .u64 0,.slice (some ⟨q1,o1,none⟩) l1 m1]] w (RetM w (Nat.gcd a b)):=by
 have hn:=nilSlice_run
 have t1:(a == 1)=false:=by rw [beq_eq_false_iff_ne];exact h1
 have t2:(b == 0)=false:=by rw [beq_eq_false_iff_ne];exact h2
 have t3:(b == 1)=false:=by rw [beq_eq_false_iff_ne];exact h3
 have t4:(a == 0)=false:=by rw [beq_eq_false_iff_ne];exact h4
 have hMW:=hid (fun (W:World) (hB:Below w.heap.size w W)=>modWord_calls l1 x0 q1 o1 m1 xs W (by omega) lx (dv.below hB dq) dx (by omega) dl)
 have hR:=hid (And.intro (Nat.lt_trans (Nat.mod_lt (val xs) (show 0<x0 by omega)) lx) lx)
 have HG:Hid (Nat.gcd a b=Nat.gcd (val xs % x0) x0):=by
  show _=_
  rw [vb,va];exact Nat.gcd_rec a b
 obtain ⟨r,hr⟩:∃ r,val xs % x0=r:=⟨_,rfl⟩
 rw [hr] at hMW hR HG
 have HT:=hid hT
 clear hT lx dq dl dx dv hl va vb hr h1 h2 h3 h4
 go_enter Tryz.func56,Tryz.ntmps56
 go_wp2_with fail
 have s0:=S2.start0 w (.int .u64 (x0:Int)) (.slice none 0 0) (.int .u64 0) (.slice (some ⟨q1,o1,none⟩) l1 m1) (.int .u64 0) 28 28 28
 refine (isOne_calls _ _ a _ (ha.mono s0.2.2.1 (Nat.le_refl _))).mono ?_
 rintro e w1 ⟨rfl,hB⟩
 have s1:=s0.next hB
 clear s0 hB
 obtain ⟨e1,e2⟩:=s1.1
 obtain ⟨e3,e4⟩:=s1.2.1
 go_wp2_with fail
 clear e1 e2 e3 e4
 refine (isZero_calls _ _ b _ (hb.mono s1.2.2.1 (Nat.le_refl _))).mono ?_
 rintro e w2 ⟨rfl,hB⟩
 have s2:=s1.next hB
 clear s1 hB
 obtain ⟨e1,e2⟩:=s2.1
 obtain ⟨e3,e4⟩:=s2.2.1
 go_wp2_with fail
 clear e1 e2 e3 e4
 refine (isOne_calls _ _ b _ (hb.mono s2.2.2.1 (Nat.le_refl _))).mono ?_
 rintro e w3 ⟨rfl,hB⟩
 have s3:=s2.next hB
 clear s2 hB
 obtain ⟨e1,e2⟩:=s3.1
 obtain ⟨e3,e4⟩:=s3.2.1
 go_wp2_with fail
 clear e1 e2 e3 e4
 refine (isZero_calls _ _ a _ (ha.mono s3.2.2.1 (Nat.le_refl _))).mono ?_
 rintro e w4 ⟨rfl,hB⟩
 have s4:=s3.next hB
 clear s3 hB
 obtain ⟨e1,e2⟩:=s4.1
 obtain ⟨e3,e4⟩:=s4.2.1
 go_wp2_with (go_big_skip)
 clear e1 e2 e3 e4
 go_region_held3 (fun w'=>S2 w w' (.int .u64 (x0:Int)) (.slice none 0 0) (.int .u64 0) (.slice (some ⟨q1,o1,none⟩) l1 m1))
  ((first | assumption | exact S2.next (by assumption) (by assumption) | exact S2.next (by assumption) (below_drewN _ _) | exact S2.store (by assumption) | exact S2.drew (by assumption)))
  (first
   | (go_at_call 103;refine (hMW.out _ (‹S2 w _ (.int .u64 (x0:Int)) (.slice none 0 0) (.int .u64 0) (.slice (some ⟨q1,o1,none⟩) l1 m1)›).2.2.1).mono ?_;rintro e wA ⟨rfl,q,rfl⟩)
   | (go_at_call 56;refine (mgcd_ww r x0 _ hR.out.1 hR.out.2 ?_).mono ?_;exact (HT.out.below (‹S2 w _ (.int .u64 (x0:Int)) (.slice none 0 0) (.int .u64 0) (.slice (some ⟨q1,o1,none⟩) l1 m1)›).2.2.1 (Nat.le_refl _));rintro e wB hret;obtain ⟨x,p,l,cc,rfl,hm,hBD⟩:=hret.shape;have hSS:=S2.next ‹S2 w _ (.int .u64 (x0:Int)) (.slice none 0 0) (.int .u64 0) (.slice (some ⟨q1,o1,none⟩) l1 m1)› hBD;obtain ⟨⟨y1,hy1⟩,⟨y2,hy2⟩,hf1,hf2⟩:=hSS.slot;obtain ⟨hz1,hz2,hHm⟩:=hSS.done hm;clear hret hm))
 all_goals go_wp2
 all_goals
  refine bodyPost_ret (v:=.agg #[.int .u64 x,.slice p l cc]) (by simp [results,Tryz.results56,go_sem,hz1,hz2]) rfl ?_
  rw [HG.out]
  exact ⟨_,_,rfl,hHm.out.1,hHm.out.2⟩
theorem mgcd_lw (x0:Nat) (q1 o1 l1 m1:Nat) (xs:List Nat) (a b:Nat) (w:World) (lx:x0<B64) (dq:q1<w.heap.size) (dl:xs.length=l1) (dx:Dig xs) (dv:Digs w q1 o1 xs) (hl:l1≤137438953472) (ha:IsMag w (.int .u64 0) (.slice (some ⟨q1,o1,none⟩) l1 m1) a) (hb:IsMag w (.int .u64 (x0:Int)) (.slice none 0 0) b) (va:val xs=a) (vb:x0=b) (hT:Tab w) (h1:a≠1) (h2:b≠0) (h3:b≠1) (h4:a≠0) :
  Calls Tryz.prog 56 #[.agg #[.int .u64 0,.slice (some ⟨q1,o1,none⟩) l1 m1],.agg #[.int .u64 (x0:Int),.slice none 0 0]] w (RetM w (Nat.gcd a b)):=by
 have hn:=nilSlice_run
 have t1:(a == 1)=false:=by rw [beq_eq_false_iff_ne];exact h1
 have t2:(b == 0)=false:=by rw [beq_eq_false_iff_ne];exact h2
 have t3:(b == 1)=false:=by rw [beq_eq_false_iff_ne];exact h3
 have t4:(a == 0)=false:=by rw [beq_eq_false_iff_ne];exact h4
 have hMW:=hid (fun (W:World) (hB:Below w.heap.size w W)=>modWord_calls l1 x0 q1 o1 m1 xs W (by omega) lx (dv.below hB dq) dx (by omega) dl)
 have hR:=hid (And.intro (Nat.lt_trans (Nat.mod_lt (val xs) (show 0<x0 by omega)) lx) lx)
 have HG:Hid (Nat.gcd a b=Nat.gcd (val xs % x0) x0):=by
  show _=_
  rw [vb,va,Nat.gcd_comm];exact Nat.gcd_rec b a
 obtain ⟨r,hr⟩:∃ r,val xs % x0=r:=⟨_,rfl⟩
 rw [hr] at hMW hR HG
 have HT:=hid hT
 clear hT lx dq dl dx dv hl va vb hr h1 h2 h3 h4
 go_enter Tryz.func56,Tryz.ntmps56
 go_wp2_with fail
 have s0:=S2.start0 w (.int .u64 0) (.slice (some ⟨q1,o1,none⟩) l1 m1) (.int .u64 (x0:Int)) (.slice none 0 0) (.int .u64 0) 28 28 28
 refine (isOne_calls _ _ a _ (ha.mono s0.2.2.1 (Nat.le_refl _))).mono ?_
 rintro e w1 ⟨rfl,hB⟩
 have s1:=s0.next hB
 clear s0 hB
 obtain ⟨e1,e2⟩:=s1.1
 obtain ⟨e3,e4⟩:=s1.2.1
 go_wp2_with fail
 clear e1 e2 e3 e4
 refine (isZero_calls _ _ b _ (hb.mono s1.2.2.1 (Nat.le_refl _))).mono ?_
 rintro e w2 ⟨rfl,hB⟩
 have s2:=s1.next hB
 clear s1 hB
 obtain ⟨e1,e2⟩:=s2.1
 obtain ⟨e3,e4⟩:=s2.2.1
 go_wp2_with fail
 clear e1 e2 e3 e4
 refine (isOne_calls _ _ b _ (hb.mono s2.2.2.1 (Nat.le_refl _))).mono ?_
 rintro e w3 ⟨rfl,hB⟩
 have s3:=s2.next hB
 clear s2 hB
 obtain ⟨e1,e2⟩:=s3.1
 obtain ⟨e3,e4⟩:=s3.2.1
 go_wp2_with fail
 clear e1 e2 e3 e4
 refine (isZero_calls _ _ a _ (ha.mono s3.2.2.1 (Nat.le_refl _))).mono ?_
 rintro e w4 ⟨rfl,hB⟩
 have s4:=s3.next hB
 clear s3 hB
 obtain ⟨e1,e2⟩:=s4.1
 obtain ⟨e3,e4⟩:=s4.2.1
 go_wp2_with (go_big_skip)
 clear e1 e2 e3 e4
 go_region_held3 (fun w'=>S2 w w' (.int .u64 0) (.slice (some ⟨q1,o1,none⟩) l1 m1) (.int .u64 (x0:Int)) (.slice none 0 0))
  ((first | assumption | exact S2.next (by assumption) (by assumption) | exact S2.next (by assumption) (below_drewN _ _) | exact S2.store (by assumption) | exact S2.drew (by assumption)))
  (first
   | (go_at_call 103;refine (hMW.out _ (‹S2 w _ (.int .u64 0) (.slice (some ⟨q1,o1,none⟩) l1 m1) (.int .u64 (x0:Int)) (.slice none 0 0)›).2.2.1).mono ?_;rintro e wA ⟨rfl,q,rfl⟩)
   | (go_at_call 56;refine (mgcd_ww r x0 _ hR.out.1 hR.out.2 ?_).mono ?_;exact (HT.out.below (‹S2 w _ (.int .u64 0) (.slice (some ⟨q1,o1,none⟩) l1 m1) (.int .u64 (x0:Int)) (.slice none 0 0)›).2.2.1 (Nat.le_refl _));rintro e wB hret;obtain ⟨x,p,l,cc,rfl,hm,hBD⟩:=hret.shape;have hSS:=S2.next ‹S2 w _ (.int .u64 0) (.slice (some ⟨q1,o1,none⟩) l1 m1) (.int .u64 (x0:Int)) (.slice none 0 0)› hBD;obtain ⟨⟨y1,hy1⟩,⟨y2,hy2⟩,hf1,hf2⟩:=hSS.slot;obtain ⟨hz1,hz2,hHm⟩:=hSS.done hm;clear hret hm))
 all_goals go_wp2
 all_goals
  refine bodyPost_ret (v:=.agg #[.int .u64 x,.slice p l cc]) (by simp [results,Tryz.results56,go_sem,hz1,hz2]) rfl ?_
  rw [HG.out]
  exact ⟨_,_,rfl,hHm.out.1,hHm.out.2⟩
theorem mgcd_ll (q1 o1 l1 m1 q2 o2 l2 m2:Nat) (xs ys:List Nat) (a b k:Nat) (w:World) (dq:q1<w.heap.size) (dl:xs.length=l1) (dx:Dig xs) (tx:Trimmed xs) (dv:Digs w q1 o1 xs) (hl:l1≤68719476736) (hl2:2≤l1) (eq:q2<w.heap.size) (el:ys.length=l2) (ex:Dig ys) (ty:Trimmed ys) (ev:Digs w q2 o2 ys) (kl:l2≤68719476736) (kl2:2≤l2) (ha:IsMag w (.int .u64 0) (.slice (some ⟨q1,o1,none⟩) l1 m1) a) (hb:IsMag w (.int .u64 0) (.slice (some ⟨q2,o2,none⟩) l2 m2) b) (va:val xs=a) (vb:val ys=b) (hT:Tab w) (hk:k≤68719476736) (ka:a<B64 ^ k) (h1:a≠1) (h2:b≠0) (h3:b≠1) (h4:a≠0) :
  Calls Tryz.prog 56 #[.agg #[.int .u64 0,.slice (some ⟨q1,o1,none⟩) l1 m1],.agg #[.int .u64 0,.slice (some ⟨q2,o2,none⟩) l2 m2]] w (RetM w (Nat.gcd a b)):=by
 have hn:=nilSlice_run
 have t1:(a == 1)=false:=by rw [beq_eq_false_iff_ne];exact h1
 have t2:(b == 0)=false:=by rw [beq_eq_false_iff_ne];exact h2
 have t3:(b == 1)=false:=by rw [beq_eq_false_iff_ne];exact h3
 have t4:(a == 0)=false:=by rw [beq_eq_false_iff_ne];exact h4
 have HGC:=hid (fun (W:World) (hB:Below w.heap.size w W)=>natGcd_calls q1 o1 m1 q2 o2 m2 l1 l2 xs ys W (dv.below hB dq) (ev.below hB eq) (Nat.lt_of_lt_of_le dq hB.size) (Nat.lt_of_lt_of_le eq hB.size) dx ex tx ty dl el hl kl hl2 kl2 (hT.below hB (Nat.le_refl _)))
 rw [va,vb] at HGC
 have HK:=hid (Nat.lt_of_le_of_lt (Nat.gcd_le_left b (by omega)) ka)
 clear hT dq dl dx dv hl hl2 eq el ex ev kl kl2 tx ty va vb h1 h2 h3 h4 ka
 go_enter Tryz.func56,Tryz.ntmps56
 go_wp2_with fail
 have s0:=S2.start0 w (.int .u64 0) (.slice (some ⟨q1,o1,none⟩) l1 m1) (.int .u64 0) (.slice (some ⟨q2,o2,none⟩) l2 m2) (.int .u64 0) 28 28 28
 refine (isOne_calls _ _ a _ (ha.mono s0.2.2.1 (Nat.le_refl _))).mono ?_
 rintro e w1 ⟨rfl,hB⟩
 have s1:=s0.next hB
 clear s0 hB
 obtain ⟨e1,e2⟩:=s1.1
 obtain ⟨e3,e4⟩:=s1.2.1
 go_wp2_with fail
 clear e1 e2 e3 e4
 refine (isZero_calls _ _ b _ (hb.mono s1.2.2.1 (Nat.le_refl _))).mono ?_
 rintro e w2 ⟨rfl,hB⟩
 have s2:=s1.next hB
 clear s1 hB
 obtain ⟨e1,e2⟩:=s2.1
 obtain ⟨e3,e4⟩:=s2.2.1
 go_wp2_with fail
 clear e1 e2 e3 e4
 refine (isOne_calls _ _ b _ (hb.mono s2.2.2.1 (Nat.le_refl _))).mono ?_
 rintro e w3 ⟨rfl,hB⟩
 have s3:=s2.next hB
 clear s2 hB
 obtain ⟨e1,e2⟩:=s3.1
 obtain ⟨e3,e4⟩:=s3.2.1
 go_wp2_with fail
 clear e1 e2 e3 e4
 refine (isZero_calls _ _ a _ (ha.mono s3.2.2.1 (Nat.le_refl _))).mono ?_
 rintro e w4 ⟨rfl,hB⟩
 have s4:=s3.next hB
 clear s3 hB
 obtain ⟨e1,e2⟩:=s4.1
 obtain ⟨e3,e4⟩:=s4.2.1
 go_wp2_with fail
 refine (HGC.out _ s4.2.2.1).mono ?_
 rintro e wA ⟨b3,o3,cp3,zs,rfl,hb3,hl3,hd3,ht3,hv3,hD3,hBA⟩
 have s5:=s4.next hBA
 clear s4 hBA e1 e2 e3 e4
 go_wp2_with fail
 refine (shorten_slice b3 o3 cp3 zs.length zs _ rfl hl3 ?_ hb3 hd3 ht3 hD3).mono ?_
 ·exact Nat.le_trans (len_le ht3 (by rw [hv3];exact HK.out)) (by omega)
 rintro e wC hret
 obtain ⟨x,p,l,cc,rfl,hm,hBC⟩:=hret.shape
 rw [hv3] at hm
 have s6:=s5.next hBC
 obtain ⟨⟨y1,hy1⟩,⟨y2,hy2⟩,hf1,hf2⟩:=s6.slot
 obtain ⟨hz1,hz2,hHm⟩:=s6.done hm
 clear hret s5 s6 hD3 hd3 ht3 hm hBC
 go_wp2_with fail
 exact bodyPost_ret (v:=.agg #[.int .u64 x,.slice p l cc]) (by simp [results,Tryz.results56,go_sem,hz1,hz2]) rfl ⟨_,_,rfl,hHm.out.1,hHm.out.2⟩
theorem mgcd_calls (a b k:Nat) (c1 d1 c2 d2:Value) (w:World) (ha:IsMag w c1 d1 a) (hb:IsMag w c2 d2 b) (hk:k≤68719476736) (ka:a<B64 ^ k) (kb:b<B64 ^ k) (hT:Tab w) :
  Calls Tryz.prog 56 #[.agg #[c1,d1],.agg #[c2,d2]] w (RetM w (Nat.gcd a b)):=by
 rcases id ha with ⟨ha1,rfl,rfl⟩ | ⟨b1,o1,k1,xs,rfl,rfl,p3,p4,p5,p6,p7,p8,p9⟩
 ·rcases id hb with ⟨hb1,rfl,rfl⟩ | ⟨b2,o2,k2,ys,rfl,rfl,q3,q4,q5,q6,q7,q8,q9⟩
  ·exact mgcd_ww a b w ha1 hb1 hT
  ·by_cases h1:a=1
   ·exact mgcd_a1 _ _ _ _ _ _ _ _ a b w ha hb h1
   by_cases h2:b=0
   ·exact mgcd_b0 _ _ _ _ _ _ _ _ a b w ha hb h1 h2
   by_cases h3:b=1
   ·exact mgcd_b1 _ _ _ _ _ _ _ _ a b w ha hb h1 h2 h3
   by_cases h4:a=0
   ·exact mgcd_a0 _ _ _ _ _ _ _ _ a b w ha hb h1 h2 h3 h4
   exact mgcd_wl a b2 o2 _ k2 ys a b w ha1 q3 rfl q6 q9 (Nat.le_trans (len_le q7 (by rw [q8];exact kb)) (by omega)) ha hb rfl q8 hT h1 h2 h3 h4
 ·rcases id hb with ⟨hb1,rfl,rfl⟩ | ⟨b2,o2,k2,ys,rfl,rfl,q3,q4,q5,q6,q7,q8,q9⟩
  ·by_cases h1:a=1
   ·exact mgcd_a1 _ _ _ _ _ _ _ _ a b w ha hb h1
   by_cases h2:b=0
   ·exact mgcd_b0 _ _ _ _ _ _ _ _ a b w ha hb h1 h2
   by_cases h3:b=1
   ·exact mgcd_b1 _ _ _ _ _ _ _ _ a b w ha hb h1 h2 h3
   by_cases h4:a=0
   ·exact mgcd_a0 _ _ _ _ _ _ _ _ a b w ha hb h1 h2 h3 h4
   exact mgcd_lw b b1 o1 _ k1 xs a b w hb1 p3 rfl p6 p9 (Nat.le_trans (len_le p7 (by rw [p8];exact ka)) (by omega)) ha hb p8 rfl hT h1 h2 h3 h4
  ·by_cases h1:a=1
   ·exact mgcd_a1 _ _ _ _ _ _ _ _ a b w ha hb h1
   by_cases h2:b=0
   ·exact mgcd_b0 _ _ _ _ _ _ _ _ a b w ha hb h1 h2
   by_cases h3:b=1
   ·exact mgcd_b1 _ _ _ _ _ _ _ _ a b w ha hb h1 h2 h3
   by_cases h4:a=0
   ·exact mgcd_a0 _ _ _ _ _ _ _ _ a b w ha hb h1 h2 h3 h4
   exact mgcd_ll b1 o1 _ k1 b2 o2 _ k2 xs ys a b k w p3 rfl p6 p7 p9 (Nat.le_trans (len_le p7 (by rw [p8];exact ka)) hk) p4 q3 rfl q6 q7 q9 (Nat.le_trans (len_le q7 (by rw [q8];exact kb)) hk) q4 ha hb p8 q8 hT hk ka h1 h2 h3 h4
end
section
open Go.RowKit
variable {P:Program} {ops:Array Oper}
def takesUpon (P:Program) (K:Value→World→Prop):Result Next→Prop
 | .ok (.value v) w'=>K v w'
 | .ok .skip w'=>K undef w'
 | .ok (.enter f args) w'=>Calls P f args w' (fun e w''=>∃ v,e=.returned v∧K v w'')
 | _=>False
def takes (P:Program) (o:Oper) (a:Act) (w:World) (K:Value→World→Prop):Prop:=takesUpon P K ((execOp a.eval o).run P w)
theorem takesUpon_value (K:Value→World→Prop) (v:Value) (w:World):takesUpon P K (.ok (.value v) w)=K v w:=rfl
theorem takesUpon_skip (K:Value→World→Prop) (w:World):takesUpon P K (.ok .skip w)=K undef w:=rfl
theorem takesUpon_enter (K:Value→World→Prop) (f:FuncId) (args:Array Value) (w:World):takesUpon P K (.ok (.enter f args) w)=Calls P f args w (fun e w''=>∃ v,e=.returned v∧K v w''):=rfl
theorem wp_of_takes {o:Oper} {a:Act} {w:World} {K:Value→World→Prop} {next:Act→World→Prop} {Q:Exit→Act→World→Prop} (h:takes P o a w K) (hK:∀ v w',K v w'→next (a.put o.dst v) w'):o.wp P a w next Q:=by
 unfold takes at h
 unfold Oper.wp
 generalize (execOp a.eval o).run P w=r at *
 cases r with
 | ok n w' =>
  cases n <;> simp only [takesUpon] at h <;> simp only [Oper.upon]
  case value v=>exact hK _ _ h
  case skip=>exact hK _ _ h
  case enter f args=>exact h.mono fun e w'' ⟨v,he,hk⟩=>by subst he;exact hK _ _ hk
 | halt x w'=>simp only [takesUpon] at h
def putAll (u:Nat→Value):Nat→List Oper→Act→Act
 | _,[],a=>a
 | i,o :: r,a=>putAll u (i+1) r (a.put o.dst (u i))
theorem put_put (a:Act) (d:Option Tmp) (v x:Value):(a.put d v).put d x=a.put d x:=by
 cases d <;> simp [Act.put]
theorem put_self (a:Act) (t:Tmp):a.put (some t) (a.tmps.getD t undef)=a:=by
 simp only [Act.put]
 have:a.tmps.setIfInBounds t (a.tmps.getD t undef)=a.tmps:=by
  apply Array.ext
  ·simp
  ·intro i h1 h2
   rw [Array.getElem_setIfInBounds]
   split
   ·rename_i h;subst h;simp [h2]
   ·rfl
 rw [this]
def dstsB:List Oper→Bool
 | []=>true
 | o :: r=>(o.dst.isNone || r.all fun x=>x.dst != o.dst) && dstsB r
theorem putAll_put (u:Nat→Value) (d:Option Tmp) (v:Value):∀ (l:List Oper) (i:Nat) (a:Act),(d=none∨∀ o∈l,o.dst≠d)→putAll u i l (a.put d v)=(putAll u i l a).put d v
 | [],_,_,_=>rfl
 | o :: r,i,a,h=>by
  simp only [putAll]
  have hc:(a.put d v).put o.dst (u i)=(a.put o.dst (u i)).put d v:=by
   rcases h with h | h
   ·subst h;rfl
   ·refine Act.put_comm a v (u i) fun e he=>?_
    have:=h o (by simp)
    intro h2
    exact this (h2.trans he.symm)
  rw [hc]
  exact putAll_put u d v r (i+1) _ (h.imp id fun h o ho=>h o (by simp [ho]))
theorem putAll_congr {u u':Nat→Value}:∀ (l:List Oper) (i:Nat) (a:Act),(∀ k,i≤k→k<i+l.length→u k=u' k)→putAll u i l a=putAll u' i l a
 | [],_,_,_=>rfl
 | o :: r,i,a,h=>by
  simp only [putAll]
  rw [h i (Nat.le_refl _) (by simp)]
  exact putAll_congr r (i+1) _ fun k h1 h2=>h k (by omega) (by simp;omega)
theorem putAll_set (u:Nat→Value) (v:Value):∀ (l:List Oper) (i j:Nat) (o:Oper) (a:Act),dstsB l=true→l[j]? = some o →
  (putAll u i l a).put o.dst v=putAll (fun k=>if k=i+j then v else u k) i l a
 | [],_,_,_,_,_,h=>by simp at h
 | x :: r,i,0,o,a,hB,h=>by
  simp only [List.getElem?_cons_zero,Option.some.injEq] at h
  subst h
  simp only [dstsB,Bool.and_eq_true,Bool.or_eq_true,List.all_eq_true] at hB
  simp only [putAll,Nat.add_zero,if_true]
  rw [putAll_congr (u:=fun k=>if k=i then v else u k) (u':=u) r (i+1) _ (fun k h1 _=>by simp;omega)]
  rw [← putAll_put u x.dst v r (i+1) _ (hB.1.imp (fun h=>by simpa using h) fun h o ho=>by simpa using h o ho),put_put]
 | x :: r,i,j+1,o,a,hB,h=>by
  simp only [List.getElem?_cons_succ] at h
  simp only [dstsB,Bool.and_eq_true] at hB
  simp only [putAll]
  rw [if_neg (by omega),putAll_set u v r (i+1) j o _ hB.2 h]
  exact putAll_congr r (i+1) _ fun k _ _=>by rw [show i+1+j=i+(j+1) by omega]
def slotOf (a:Act) (o:Oper):Value:=match o.dst with | some t=>a.tmps.getD t undef | none=>undef
def initU (l:List Oper) (a:Act):Nat→Value:=fun k=>match l[k]? with | some o=>slotOf a o | none=>undef
theorem putAll_id {u:Nat→Value} {a:Act}:∀ (l:List Oper) (i:Nat),(∀ k o,l[k]? = some o→u (i+k)=slotOf a o)→putAll u i l a=a
 | [],_,_=>rfl
 | o :: r,i,h=>by
  have h0:=h 0 o rfl
  rw [Nat.add_zero] at h0
  have h1:a.put o.dst (u i)=a:=by
   rw [h0]
   unfold slotOf
   cases hd:o.dst with
   | none=>rfl
   | some t=>exact put_self a t
  simp only [putAll]
  rw [h1]
  exact putAll_id r (i+1) fun k o' hk=>by
   have:=h (k+1) o' (by simpa using hk)
   rwa [show i+(k+1)=i+1+k by omega] at this
theorem putAll_start (l:List Oper) (a:Act):putAll (initU l a) 0 l a=a:=
 putAll_id l 0 fun k o h=>by simp [initU,h]
def upd (u:Nat→Value) (i:Nat) (v:Value):Nat→Value:=fun k=>if k=i then v else u k
structure Spec where
 deps:List Nat
 supp:List Nat
def waits (o:Oper) (k:Nat):Bool:=o.after.toList.any fun e=>Region.binds .any e && e.on == k
def invB (l:List Oper) (n:Nat) (sp:List Spec):Bool:=
 decide (n≤l.length) && decide (sp.length=n) && dstsB (l.take n) &&
 ((List.range n).all fun i=>match l[i]?,sp[i]? with
  | some o,some s =>
   (o.after.toList.all fun e=>!Region.binds .any e || decide (e.on<i)) && (s.deps.all fun k=>decide (k<n) && waits o k) &&
   (s.supp.all fun t=>decide (t=i) || waits o t)
  | _,_=>false) &&
 (decide (n=l.length) || (Region.sinkB .any l.toArray n && Region.chainB .any l.toArray n)) &&
 Region.seqB .any l.toArray (l.length - n) n (Array.replicate n true ++ Array.replicate (l.length - n) false)
def factOf (sp:List Spec) (gs:List (List Value→World→Prop)) (k:Nat) (u:Nat→Value) (W:World):Prop:=
 match sp[k]?,gs[k]? with
 | some s,some g=>g (s.supp.map u) W
 | _,_=>True
def factsOf (sp:List Spec) (gs:List (List Value→World→Prop)) (u:Nat→Value) (W:World):List Nat→Prop
 | []=>True
 | k :: r=>factOf sp gs k u W∧factsOf sp gs u W r
def owes (S:(Nat→Value)→World→Prop) (s:Spec) (g:List Value→World→Prop) (u:Nat→Value) (i:Nat) (W:World) (v:Value) (W':World):Prop:=
 Below W.heap.size W W'∧S (upd u i v) W'∧g (s.supp.map (upd u i v)) W'
def debt (P:Program) (ops:Array Oper) (S:(Nat→Value)→World→Prop) (sp:List Spec) (gs:List (List Value→World→Prop)) (u:Nat→Value) (a:Act) (i:Nat) (o:Oper) (s:Spec) (g:List Value→World→Prop):Prop:=
 ∀ W,S u W→factsOf sp gs u W s.deps→if Region.wanted o (yielded ops a.tmps) then takes P o a W (owes S s g u i W) else owes S s g u i W undef W
def debts (P:Program) (ops:Array Oper) (S:(Nat→Value)→World→Prop) (sp0:List Spec) (gs0:List (List Value→World→Prop)) (u:Nat→Value) (a:Act):Nat→List Oper→List Spec→List (List Value→World→Prop)→Prop
 | i,o :: l,s :: sp,g :: gs=>debt P ops S sp0 gs0 u a i o s g∧debts P ops S sp0 gs0 u a (i+1) l sp gs
 | _,[],_,_=>True
 | _,_,_,_=>False
theorem debts_cons {S:(Nat→Value)→World→Prop} {sp0:List Spec} {gs0:List (List Value→World→Prop)} {u:Nat→Value} {a:Act} {i:Nat} {o:Oper} {l:List Oper} {s:Spec} {sp:List Spec} {g:List Value→World→Prop} {gs:List (List Value→World→Prop)}
  (h:∀ W,S u W→factsOf sp0 gs0 u W s.deps→∀ K:Value→World→Prop,(∀ v W',Below W.heap.size W W'→S (upd u i v) W'→g (s.supp.map (upd u i v)) W'→K v W')→if Region.wanted o (yielded ops a.tmps) then takes P o a W K else K undef W)
  (hr:debts P ops S sp0 gs0 u a (i+1) l sp gs):debts P ops S sp0 gs0 u a i (o :: l) (s :: sp) (g :: gs):=
 ⟨fun W hS hF=>h W hS hF _ (fun _ _ h1 h2 h3=>⟨h1,h2,h3⟩),hr⟩
theorem debts_nil {S:(Nat→Value)→World→Prop} {sp0:List Spec} {gs0:List (List Value→World→Prop)} {u:Nat→Value} {a:Act} {i:Nat} {sp:List Spec} {gs:List (List Value→World→Prop)}:debts P ops S sp0 gs0 u a i [] sp gs:=by
 cases sp <;> cases gs <;> trivial
theorem debts_get {S:(Nat→Value)→World→Prop} {sp0:List Spec} {gs0:List (List Value→World→Prop)} {u:Nat→Value} {a:Act}:∀ {l:List Oper} {sp:List Spec} {gs:List (List Value→World→Prop)} {k:Nat} (i:Nat) {o:Oper},
  debts P ops S sp0 gs0 u a k l sp gs→l[i]? = some o→∃ s g,sp[i]? = some s∧gs[i]? = some g∧debt P ops S sp0 gs0 u a (k+i) o s g
 | [],_,_,_,_,_,_,h=>by simp at h
 | x :: l,[],_,_,_,_,h,_=>by simp [debts] at h
 | x :: l,s :: sp,[],_,_,_,h,_=>by simp [debts] at h
 | x :: l,s :: sp,g :: gs,k,0,o,h,hi=>by
  simp only [List.getElem?_cons_zero,Option.some.injEq] at hi
  subst hi
  exact ⟨s,g,rfl,rfl,h.1⟩
 | x :: l,s :: sp,g :: gs,k,i+1,o,h,hi=>by
  simp only [List.getElem?_cons_succ] at hi ⊢
  have:=debts_get i h.2 hi
  rwa [show k+1+i=k+(i+1) by omega] at this
theorem factsOf_mk {sp:List Spec} {gs:List (List Value→World→Prop)} {u:Nat→Value} {W:World}:∀ {ks:List Nat},(∀ k∈ks,factOf sp gs k u W)→factsOf sp gs u W ks
 | [],_=>trivial
 | k :: _,h=>⟨h k (by simp),factsOf_mk fun j hj=>h j (by simp [hj])⟩
def left (listed:Array Bool):Nat→Nat
 | 0=>0
 | n+1=>left listed n+if listed.getD n true then 0 else 1
theorem left_congr {l l':Array Bool}:∀ {n:Nat},(∀ k,k<n→l.getD k true=l'.getD k true)→left l n=left l' n
 | 0,_=>rfl
 | n+1,h=>by rw [left,left,left_congr fun k hk=>h k (by omega),h n (by omega)]
theorem left_set {listed:Array Bool} {i:Nat} (hi:i<listed.size) (hf:listed.getD i true=false):∀ {n:Nat},i<n→left (listed.setIfInBounds i true) n+1=left listed n
 | 0,h=>by omega
 | n+1,h=>by
  rw [left,left]
  by_cases e:i=n
  ·subst e
   rw [left_congr (l:=listed.setIfInBounds i true) (l':=listed) fun k hk=>getD_set_ne true (by omega),hf]
   simp [hi]
  ·have:=left_set hi hf (n:=n) (by omega)
   rw [getD_set_ne true e]
   omega
theorem left_zero {listed:Array Bool}:∀ {n:Nat},left listed n=0→∀ k,k<n→listed.getD k true=true
 | 0,_,k,hk=>by omega
 | n+1,h,k,hk=>by
  rw [left] at h
  by_cases e:k=n
  ·subst e
   by_cases hh:listed.getD k true=true
   ·exact hh
   ·simp [hh] at h
  ·exact left_zero (n:=n) (by omega) k (by omega)
theorem left_pos {listed:Array Bool}:∀ {n:Nat},0<left listed n→∃ k,k<n∧listed.getD k true=false∧∀ j,j<k→listed.getD j true=true
 | 0,h=>by simp [left] at h
 | n+1,h=>by
  by_cases h0:0<left listed n
  ·obtain ⟨k,h1,h2,h3⟩:=left_pos h0
   exact ⟨k,by omega,h2,h3⟩
  ·rw [left] at h
   refine ⟨n,by omega,?_,left_zero (by omega)⟩
   by_cases hh:listed.getD n true=true
   ·simp [hh] at h;omega
   ·simpa using hh
theorem left_all (n m:Nat):∀ k,k≤n→left (Array.replicate (n+m) false) k=k
 | 0,_=>rfl
 | k+1,h=>by
  have e:(Array.replicate (n+m) false).getD k true=false:=by
   have hk:k<n+m:=by omega
   simp [hk]
  rw [left,left_all n m k (by omega),e]
  rfl
section main
variable {l:List Oper} {n:Nat} {sp:List Spec} {gs:List (List Value→World→Prop)} {S:(Nat→Value)→World→Prop}
theorem waits_spec {o:Oper} {k:Nat} (h:waits o k=true):∃ e∈o.after,Region.binds .any e=true∧e.on=k:=by
 unfold waits at h
 obtain ⟨e,he,hb⟩:=List.any_eq_true.1 h
 simp only [Bool.and_eq_true,beq_iff_eq] at hb
 exact ⟨e,by simpa using he,hb.1,hb.2⟩
theorem inv_any {Q:Exit→Act→World→Prop} {a0:Act} (hB:invB l n sp=true) (hT:∀ g∈gs,∀ vs W W',Below W.heap.size W W'→g vs W→g vs W')
  (hO:∀ u,debts P l.toArray S sp gs u (putAll u 0 (l.take n) a0) 0 (l.take n) sp gs)
  (hE:∀ u W,S u W→(∀ k,k<n→factOf sp gs k u W)→wpList P l.toArray Q (l.drop n) (putAll u 0 (l.take n) a0) W) :
  ∀ (f:Nat) (listed:Array Bool) (u:Nat→Value) (W:World),HeadInv .any l.toArray n listed→S u W →
   (∀ k,k<n→listed.getD k true=true→factOf sp gs k u W)→left listed n=f →
   wpAny P .any l.toArray Q (f+(l.length - n)) listed (putAll u 0 (l.take n) a0) W:=by
 simp only [invB,Bool.and_eq_true,decide_eq_true_eq] at hB
 obtain ⟨⟨⟨⟨⟨hn,hsp⟩,hd⟩,hops⟩,htail⟩,hseq⟩:=hB
 have hat:∀ i,i<n→∃ o s,l[i]? = some o∧sp[i]? = some s∧(∀ e∈o.after,Region.binds .any e=true→e.on<i)∧(∀ k∈s.deps,k<n∧waits o k=true) ∧
   (∀ t∈s.supp,t=i∨waits o t=true):=fun i hi=>by
  have h1:=List.all_eq_true.1 hops i (List.mem_range.2 hi)
  split at h1
  ·rename_i o s ho hs
   simp only [Bool.and_eq_true,List.all_eq_true,decide_eq_true_eq,Bool.or_eq_true] at h1
   refine ⟨o,s,ho,hs,fun e he hb=>?_,fun k hk=>h1.1.2 k hk,fun t ht=>h1.2 t ht⟩
   rcases h1.1.1 e (by simpa using he) with h2 | h2
   ·simp [hb] at h2
   ·exact h2
  ·cases h1
 intro f
 induction f with
 | zero =>
  intro listed u W inv hS hF hl
  have hall:=left_zero hl
  have hcan:listed=Array.replicate n true ++ Array.replicate (l.length - n) false:=by
   apply Array.ext
   ·rw [inv.size];simp;omega
   ·intro i h1 h2
    rcases Nat.lt_or_ge i n with h | h
    ·have:=hall i h
     rw [Array.getElem_append_left (by simpa using h)]
     simpa [h1] using this
    ·have:=inv.tail i h (by have:=inv.size;omega)
     rw [Array.getElem_append_right (by simpa using h)]
     simpa [h1] using this
  rw [Nat.zero_add,← List.length_drop]
  refine wpAny_of_seq (l.drop n) n listed _ W (fun j=>by simp) ?_ (hE u W hS fun k hk=>hF k hk (hall k hk))
  rw [hcan,List.length_drop]
  exact hseq
 | succ f ih =>
  intro listed u W inv hS hF hl
  obtain ⟨i0,hi0,hu0,hm0⟩:=left_pos (listed:=listed) (n:=n) (by omega)
  have hready0:i0∈Region.ready .any l.toArray listed:=by
   obtain ⟨o,s,ho,_,hlex,_⟩:=hat i0 hi0
   refine mem_ready.2 ⟨hu0,o,by simpa using ho,fun e he hb=>?_⟩
   have h1:=hm0 e.on (hlex e he hb)
   have hlt:e.on<listed.size:=by rw [inv.size];have:=hlex e he hb;simp;omega
   simpa [hlt] using h1
  have hlow:∀ i∈Region.ready .any l.toArray listed,i<n:=fun i hi=>by
   rcases Nat.lt_or_ge i n with h | h
   ·exact h
   ·simp only [Bool.or_eq_true,decide_eq_true_eq,Bool.and_eq_true] at htail
    rcases htail with h2 | h2
    ·obtain ⟨_,o,ho,_⟩:=mem_ready.1 hi
     have:=(Array.getElem?_eq_some_iff.1 ho).1
     simp at this
     omega
    ·have hnn:n<l.toArray.size:=by
      obtain ⟨_,o,ho,_⟩:=mem_ready.1 hi
      have:=(Array.getElem?_eq_some_iff.1 ho).1
      omega
     exact absurd hi (tail_waits h2.1 h2.2 hnn inv _ i0 rfl hi0 hu0 i h)
  rw [show f+1+(l.length - n)=(f+(l.length - n))+1 by omega]
  refine ⟨fun h0=>(by rw [h0] at hready0;cases hready0),fun i hi=>?_⟩
  have hin:=hlow i hi
  obtain ⟨hun,o',ho',hdone⟩:=mem_ready.1 hi
  obtain ⟨o,s,ho,hs,hlex,hdeps,hsupp⟩:=hat i hin
  have hoo:o' = o:=by
   have:l.toArray[i]? = some o:=by simpa using ho
   exact Option.some.inj (ho'.symm.trans this)
  subst hoo
  have hot:(l.take n)[i]? = some o':=by rw [List.getElem?_take_of_lt hin];exact ho
  obtain ⟨s',g,hs',hg,hdebt⟩:=debts_get i (hO u) hot
  have hss:s' = s:=Option.some.inj (hs'.symm.trans hs)
  subst hss
  have hisz:i<listed.size:=by rw [inv.size];exact (Array.getElem?_eq_some_iff.1 ho').1
  have hfacts:factsOf sp gs u W s'.deps:=factsOf_mk fun k hk=>by
   obtain ⟨hkn,hw⟩:=hdeps k hk
   obtain ⟨e,he,hb,hon⟩:=waits_spec hw
   have h1:=hdone e he hb
   rw [hon] at h1
   have hksz:k<listed.size:=by rw [inv.size];simp;omega
   refine hF k hkn ?_
   simpa [hksz] using h1
  rw [Nat.zero_add] at hdebt
  have hnext:∀ v W',owes S s' g u i W v W'→wpAny P .any l.toArray Q (f+(l.length - n)) (listed.setIfInBounds i true) ((putAll u 0 (l.take n) a0).put o'.dst v) W':=fun v W' ⟨hBel,hS',hg'⟩=>by
   have hput:=putAll_set u v (l.take n) 0 i o' a0 hd hot
   rw [Nat.zero_add] at hput
   have hleft:=left_set hisz hun hin
   rw [hput]
   refine ih _ _ W' (inv.set hi hin) hS' (fun k hk hlk=>?_) (by omega)
   by_cases hki:k=i
   ·subst hki
    unfold factOf
    rw [hs',hg]
    exact hg'
   ·rw [getD_set_ne true (Ne.symm hki)] at hlk
    have hfk:=hF k hk hlk
    obtain ⟨ok,sk,hok,hsk,hlexk,_,hsuppk⟩:=hat k hk
    unfold factOf at hfk ⊢
    rw [hsk] at hfk ⊢
    cases hgk:gs[k]? with
    | none=>trivial
    | some gk =>
     rw [hgk] at hfk
     simp only at hfk ⊢
     have hmap:sk.supp.map (fun k=>if k=i then v else u k)=sk.supp.map u:=List.map_congr_left fun t ht=>by
      rcases hsuppk t ht with h1 | h1
      ·rw [if_neg (by omega)]
      ·obtain ⟨e,he,hb,hon⟩:=waits_spec h1
       have hksz:k<listed.size:=by rw [inv.size];simp;omega
       have h2:=inv.closed k ok (by simpa using hok) (by simpa [hksz] using hlk) e he hb
       have hti:t≠i:=fun e'=>by
        rw [hon,e'] at h2
        have:listed.getD i true=true:=by simpa [hisz] using h2
        rw [this] at hun
        cases hun
       rw [if_neg hti]
     rw [hmap]
     exact hT gk (List.mem_of_getElem? hgk) _ _ _ hBel hfk
  have hd1:=hdebt W hS hfacts
  unfold wpOp
  rw [ho']
  simp only
  split
  ·rename_i hw
   rw [if_pos hw] at hd1
   exact .inl (wp_of_takes hd1 hnext)
  ·rename_i hw
   rw [if_neg hw] at hd1
   exact hnext undef W hd1
theorem inv_all {Q:Exit→Act→World→Prop} {a0:Act} {w:World} (n:Nat) (sp:List Spec) (gs:List (List Value→World→Prop)) (S:(Nat→Value)→World→Prop) (hB:invB l n sp=true)
  (hT:∀ g∈gs,∀ vs W W',Below W.heap.size W W'→g vs W→g vs W') (h0:S (initU (l.take n) a0) w.drew)
  (hO:∀ u,debts P l.toArray S sp gs u (putAll u 0 (l.take n) a0) 0 (l.take n) sp gs)
  (hE:∀ u W,S u W→factsOf sp gs u W (List.range n)→wpList P l.toArray Q (l.drop n) (putAll u 0 (l.take n) a0) W) :
  wpAny P .any l.toArray Q l.toArray.size (Array.replicate l.toArray.size false) a0 w.drew:=by
 have hn:n≤l.length:=by
  simp only [invB,Bool.and_eq_true,decide_eq_true_eq] at hB
  exact hB.1.1.1.1.1
 have hu:=putAll_start (l.take n) a0
 have inv0:HeadInv .any l.toArray n (Array.replicate l.toArray.size false):=
  ⟨by simp,fun j oj _ hl=>(by rw [getD_replicate_false] at hl;cases hl),fun t _ ht=>getD_in (by simpa using ht) (getD_replicate_false _ _)⟩
 have hl0:left (Array.replicate l.toArray.size false) n=n:=by
  have:=left_all n (l.length - n) n (Nat.le_refl _)
  rwa [show n+(l.length - n)=l.toArray.size by simp;omega] at this
 have key:=inv_any (P:=P) (S:=S) (gs:=gs) (a0:=a0) (Q:=Q) hB hT hO (fun u W hS hF=>hE u W hS (factsOf_mk fun k hk=>hF k (List.mem_range.1 hk))) n _ (initU (l.take n) a0) w.drew inv0 h0 (fun k hk hlk=>by
  rw [show (Array.replicate l.toArray.size false).getD k true=false from getD_in (by simp;omega) (getD_replicate_false _ _)] at hlk
  cases hlk) hl0
 rw [hu,show n+(l.length - n)=l.toArray.size by simp;omega] at key
 exact key
theorem wp_region_inv {Q:Exit→Act→World→Prop} {a0:Act} {w:World} {id:Nat} (n:Nat) (sp:List Spec) (gs:List (List Value→World→Prop)) (S:(Nat→Value)→World→Prop) (hm:P.follows .mixedOrders=true) (hB:invB l n sp=true)
  (hT:∀ g∈gs,∀ vs W W',Below W.heap.size W W'→g vs W→g vs W') (h0:S (initU (l.take n) a0) w.drew)
  (hO:∀ u,debts P l.toArray S sp gs u (putAll u 0 (l.take n) a0) 0 (l.take n) sp gs)
  (hE:∀ u W,S u W→factsOf sp gs u W (List.range n)→wpList P l.toArray Q (l.drop n) (putAll u 0 (l.take n) a0) W) :
  (Code.region id l.toArray true).wp P Q a0 w:=
 wp_region_any hm (inv_all n sp gs S hB hT h0 hO hE)
end main
end
end Go.Proofs.YtmijlcldmefggaaGreatDoor
