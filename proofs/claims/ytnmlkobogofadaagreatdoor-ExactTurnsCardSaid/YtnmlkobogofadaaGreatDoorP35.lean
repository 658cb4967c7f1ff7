/- What the proof rests on, part 35: num, is, same: the statements' own words. The examples' numbers. The examples that each statement asks for. The one example of Near that the statements run. Straight code over the numbers: what is known of them, and callees' contracts. -/
import Derived.Test.YtnmlkobogofadaaGreatDoorP29
import Derived.Test.YtnmlkobogofadaaGreatDoorP30
import Derived.Test.YtnmlkobogofadaaGreatDoorP34
import Derived.Test.YtnmlkobogofadaaGreatDoorP28
import Derived.Test.YtnmlkobogofadaaGreatDoorP24
namespace Go.Proofs.YtnmlkobogofadaaGreatDoor
set_option maxRecDepth 100000
set_option maxHeartbeats 80000000
open Go.RowKit Go.Sort
attribute [local go_sem] takes takesUpon_value takesUpon_skip takesUpon_enter
theorem num_calls (l:List UInt8) (r:Rat) (c:Int) (w:World) (H:Hid (∀ W,Below w.heap.size w W→Calls Tryz.prog 16 #[.string ⟨l.toArray⟩] W (RetQE W r c))) :
  Calls Tryz.prog 93 #[.string ⟨l.toArray⟩] w (RetQ w r):=by
 go_enter Tryz.func93,Tryz.ntmps93
 go_wp2_with fail
 have hS0:=hid ((St.start w).alloc' (w.heap.size) (by simp) 31 z5)
 obtain ⟨W0,hW0⟩:=nameW hS0
 rw [hW0] at hS0 ⊢
 clear hW0
 refine (H.out _ hS0.out.bel).mono ?_
 rintro e w1 ⟨v1,rfl,hv1,hB⟩
 have hS1:=hid (hS0.out.call hB)
 clear hB
 clear hS0
 obtain ⟨t1,x1,p1,l1,q1,y1,r1,s1,u1,rfl⟩:=hv1.open
 have hS2:=hid (hS1.out.fq hv1)
 clear hS1 hv1
 obtain ⟨ne1l,ne1,ne1'⟩:=hS2.out.ne 0 w.heap.size 31 z5 rfl
 obtain ⟨⟨cR0,cR1,cR2,cR3,cR4⟩,fR0,fR1,fR2,fR3,fR4⟩:=hS2.out.f5 0 w.heap.size 31 (.bool false) (.int .u64 0) (.slice none 0 0) (.int .u64 0) (.slice none 0 0) rfl
 have hS3:=hid ((((((((hS2.out).store (b:=⟨w.heap.size,31,z5⟩) 0 0 (.bool t1) rfl rfl).store (b:=⟨w.heap.size,31,[.bool t1,.int .u64 0,.slice none 0 0,.int .u64 0,.slice none 0 0]⟩) 0 1 (.int .u64 x1) rfl rfl).store (b:=⟨w.heap.size,31,[.bool t1,.int .u64 x1,.slice none 0 0,.int .u64 0,.slice none 0 0]⟩) 0 2 (.slice p1 l1 q1) rfl rfl).store (b:=⟨w.heap.size,31,[.bool t1,.int .u64 x1,.slice p1 l1 q1,.int .u64 0,.slice none 0 0]⟩) 0 3 (.int .u64 y1) rfl rfl).store (b:=⟨w.heap.size,31,[.bool t1,.int .u64 x1,.slice p1 l1 q1,.int .u64 y1,.slice none 0 0]⟩) 0 4 (.slice r1 s1 u1) rfl rfl).alloc' (w1.heap.size) (by simp) 31 (c5 t1 x1 p1 l1 q1 y1 r1 s1 u1)).as [⟨w1.heap.size,31,(c5 t1 x1 p1 l1 q1 y1 r1 s1 u1)⟩,⟨w.heap.size,31,(c5 t1 x1 p1 l1 q1 y1 r1 s1 u1)⟩] rfl)
 go_wp2_with fail
 clear cR0 cR1 cR2 cR3 cR4 fR0 fR1 fR2 fR3 fR4
 obtain ⟨⟨zR0,zR1,zR2,zR3,zR4⟩,-⟩:=hS3.out.f5 1 w.heap.size 31 (.bool t1) (.int .u64 x1) (.slice p1 l1 q1) (.int .u64 y1) (.slice r1 s1 u1) rfl
 exact bodyPost_ret (v:=.agg #[.bool t1,.int .u64 x1,.slice p1 l1 q1,.int .u64 y1,.slice r1 s1 u1]) (by simp [results,Tryz.results93,go_sem,zR0,zR1,zR2,zR3,zR4]) rfl ⟨_,rfl,(hS3.out.gq 0 rfl),hS3.out.bel⟩
theorem is_calls (l:List UInt8) (r:Rat) (v:Value) (k:Nat) (w:World) (h:IsQ w v r) (hk:k≤1073741824) (f:Fits k r) (hE:Env w) :
  Calls Tryz.prog 92 #[v,.string ⟨l.toArray⟩] w (RetI w (.bool (qText r == l))):=by
 have HX:=hid (fun (W:World) (v:Value) (h:IsQ W v r) (hT:Tab10 W)=>Text_calls r v k W h hk f hT)
 obtain ⟨D,hD⟩:∃ D,qText r=D:=⟨_,rfl⟩
 rw [hD] at HX ⊢
 obtain ⟨t1,x1,p1,l1,q1,y1,r1,s1,u1,rfl⟩:=h.open
 have HI:=hid (And.intro h hE)
 clear h hE hD f
 go_enter Tryz.func92,Tryz.ntmps92
 go_wp2_with fail
 have hS0:=hid ((St.start w).alloc' (w.heap.size) (by simp) 31 (c5 t1 x1 p1 l1 q1 y1 r1 s1 u1))
 obtain ⟨W0,hW0⟩:=nameW hS0
 rw [hW0] at hS0 ⊢
 clear hW0
 have hi1:=HI.out.1.below hS0.out.bel
 have hS1:=hid (hS0.out.fq hi1)
 clear hS0 hi1
 refine (HX.out _ _ (hS1.out.gq 0 rfl) (HI.out.2.below hS1.out.bel (Nat.le_refl _)).ten).mono ?_
 rintro e w1 ⟨rfl,hB⟩
 have hS2:=hid (hS1.out.call hB)
 clear hB
 clear hS1
 go_wp2
 go_ret
 exact ⟨rfl,hS2.out.bel⟩
theorem same_calls (r:Rat) (v1 v2:Value) (k:Nat) (w:World) (h1:IsQ w v1 r) (h2:IsQ w v2 r) (hk:k≤1073741824) (f:Fits k r) (hE:Env w) :
  Calls Tryz.prog 96 #[v1,v2] w (RetI w (.bool true)):=by
 have HX:=hid (fun (W:World) (v:Value) (h:IsQ W v r) (hT:Tab10 W)=>Text_calls r v k W h hk f hT)
 have HC:=hid (fun (W:World) (v1 v2:Value) (i:IsQ W v1 r) (j:IsQ W v2 r)=>Cmp_calls r r v1 v2 k W i j (by omega) f f)
 have hc0:cmpQ r r=0:=by unfold cmpQ;simp
 rw [hc0] at HC
 obtain ⟨D,hD⟩:∃ D,qText r=D:=⟨_,rfl⟩
 rw [hD] at HX
 obtain ⟨t1,x1,p1,l1,q1,y1,r1,s1,u1,rfl⟩:=h1.open
 obtain ⟨t2,x2,p2,l2,q2,y2,r2,s2,u2,rfl⟩:=h2.open
 have HI:=hid (And.intro h1 (And.intro h2 hE))
 clear h1 h2 hE hD f hc0
 go_enter Tryz.func96,Tryz.ntmps96
 go_wp2_with fail
 have hS0:=hid (((St.start w).alloc' (w.heap.size) (by simp) 31 (c5 t1 x1 p1 l1 q1 y1 r1 s1 u1)).alloc' (w.heap.size+1) (by simp) 31 (c5 t2 x2 p2 l2 q2 y2 r2 s2 u2))
 obtain ⟨W0,hW0⟩:=nameW hS0
 rw [hW0] at hS0 ⊢
 clear hW0
 have hi1:=HI.out.1.below hS0.out.bel
 have hi2:=HI.out.2.1.below hS0.out.bel
 have hS1:=hid (hS0.out.fq hi1)
 clear hS0 hi1
 have hS2:=hid (hS1.out.fq hi2)
 clear hS1 hi2
 go_wp2_with fail
 have LM0:=hid (fun (W:World) (h:Below W0.heap.size W0 W)=>((hS2.out.call h).f5 1 w.heap.size 31 (.bool t1) (.int .u64 x1) (.slice p1 l1 q1) (.int .u64 y1) (.slice r1 s1 u1) rfl).1)
 have LM1:=hid (fun (W:World) (h:Below W0.heap.size W0 W)=>((hS2.out.call h).f5 0 (w.heap.size+1) 31 (.bool t2) (.int .u64 x2) (.slice p2 l2 q2) (.int .u64 y2) (.slice r2 s2 u2) rfl).1)
 refine wp_region_inv 11 [⟨[],[0]⟩,⟨[],[1]⟩,⟨[0,1],[2]⟩,⟨[2],[3]⟩,⟨[3],[4]⟩,⟨[4],[5]⟩,⟨[5,4],[6]⟩,⟨[4],[7]⟩,⟨[7,4],[8]⟩,⟨[6,8,4],[9]⟩,⟨[4,9],[10]⟩]
  [oE (.agg #[.bool t1,.int .u64 x1,.slice p1 l1 q1,.int .u64 y1,.slice r1 s1 u1]),oE (.agg #[.bool t2,.int .u64 x2,.slice p2 l2 q2,.int .u64 y2,.slice r2 s2 u2]),oE (.int .i64 0),oE (.bool true),oE (.bool true),oE (.agg #[.bool t1,.int .u64 x1,.slice p1 l1 q1,.int .u64 y1,.slice r1 s1 u1]),oE (.string ⟨D.toArray⟩),oE (.agg #[.bool t2,.int .u64 x2,.slice p2 l2 q2,.int .u64 y2,.slice r2 s2 u2]),oE (.string ⟨D.toArray⟩),oE (.bool true),oE (.bool true)]
  (fun _ W=>Below W0.heap.size W0 W) (by kernel_rfl) (by kernel_rfl) ?hTW1 ?hZW1 ?hOW1 ?hEW1
 case hZW1=>exact (Below.refl _ _).drew
 case hTW1 =>
  simp only [List.forall_mem_cons,List.not_mem_nil,false_imp_iff,implies_true,and_true]
  exact ⟨bE,bE,bE,bE,bE,bE,bE,bE,bE,bE,bE⟩
 case hOW1 =>
  intro u
  simp only [List.take_succ_cons,List.take_zero,putAll]
  repeat' (first | with_reducible exact debts_nil | with_reducible refine debts_cons ?_ ?_)
  ·intro W hS hF K hK
   have hcA:=LM0.out W hS
   go_simp
   exact hK _ _ (.refl _ _) hS rfl
  ·intro W hS hF K hK
   have hcB:=LM1.out W hS
   go_simp
   exact hK _ _ (.refl _ _) hS rfl
  ·intro W hS hF K hK
   have h0:u 0=.agg #[.bool t1,.int .u64 x1,.slice p1 l1 q1,.int .u64 y1,.slice r1 s1 u1]:=hF.1
   have h1:u 1=.agg #[.bool t2,.int .u64 x2,.slice p2 l2 q2,.int .u64 y2,.slice r2 s2 u2]:=hF.2.1
   have sH:=hid (hS2.out.call hS)
   clear hF
   go_simp
   refine (HC.out _ _ _ (sH.out.get (f:=.q (.agg #[.bool t1,.int .u64 x1,.slice p1 l1 q1,.int .u64 y1,.slice r1 s1 u1]) (r)) 1 rfl) (sH.out.get (f:=.q (.agg #[.bool t2,.int .u64 x2,.slice p2 l2 q2,.int .u64 y2,.slice r2 s2 u2]) (r)) 0 rfl)).mono ?_
   rintro e wA ⟨rfl,hBA⟩
   exact ⟨_,rfl,hK _ _ hBA (hS.trans (hBA.mono hS.size)) rfl⟩
  ·intro W hS hF K hK
   have h2:u 2=.int .i64 0:=hF.1
   clear hF
   go_simp
   exact hK _ _ (.refl _ _) hS rfl
  ·intro W hS hF K hK
   have h3:u 3=.bool true:=hF.1
   clear hF
   go_simp
   exact hK _ _ (.refl _ _) hS rfl
  ·intro W hS hF K hK
   have h4:u 4=.bool true:=hF.1
   have hcA:=LM0.out W hS
   clear hF
   go_simp
   exact hK _ _ (.refl _ _) hS rfl
  ·intro W hS hF K hK
   have h5:u 5=.agg #[.bool t1,.int .u64 x1,.slice p1 l1 q1,.int .u64 y1,.slice r1 s1 u1]:=hF.1
   have h4:u 4=.bool true:=hF.2.1
   have sH:=hid (hS2.out.call hS)
   clear hF
   go_simp
   refine (HX.out _ _ (sH.out.get (f:=.q (.agg #[.bool t1,.int .u64 x1,.slice p1 l1 q1,.int .u64 y1,.slice r1 s1 u1]) (r)) 1 rfl) (HI.out.2.2.below sH.out.bel (Nat.le_refl _)).ten).mono ?_
   rintro e wA ⟨rfl,hBA⟩
   exact ⟨_,rfl,hK _ _ hBA (hS.trans (hBA.mono hS.size)) rfl⟩
  ·intro W hS hF K hK
   have h4:u 4=.bool true:=hF.1
   have hcB:=LM1.out W hS
   clear hF
   go_simp
   exact hK _ _ (.refl _ _) hS rfl
  ·intro W hS hF K hK
   have h7:u 7=.agg #[.bool t2,.int .u64 x2,.slice p2 l2 q2,.int .u64 y2,.slice r2 s2 u2]:=hF.1
   have h4:u 4=.bool true:=hF.2.1
   have sH:=hid (hS2.out.call hS)
   clear hF
   go_simp
   refine (HX.out _ _ (sH.out.get (f:=.q (.agg #[.bool t2,.int .u64 x2,.slice p2 l2 q2,.int .u64 y2,.slice r2 s2 u2]) (r)) 0 rfl) (HI.out.2.2.below sH.out.bel (Nat.le_refl _)).ten).mono ?_
   rintro e wA ⟨rfl,hBA⟩
   exact ⟨_,rfl,hK _ _ hBA (hS.trans (hBA.mono hS.size)) rfl⟩
  ·intro W hS hF K hK
   have h6:u 6=.string ⟨D.toArray⟩:=hF.1
   have h8:u 8=.string ⟨D.toArray⟩:=hF.2.1
   have h4:u 4=.bool true:=hF.2.2.1
   clear hF
   go_simp
   exact hK _ _ (.refl _ _) hS rfl
  ·intro W hS hF K hK
   have h4:u 4=.bool true:=hF.1
   have h9:u 9=.bool true:=hF.2.1
   clear hF
   go_simp
   exact hK _ _ (.refl _ _) hS rfl
 case hEW1 =>
  intro u W1 hS hF
  have hS3:=hid (hS2.out.call hS)
  have h10:u 10=.bool true:=hF.2.2.2.2.2.2.2.2.2.2.1
  clear hF hS
  simp only [List.take_succ_cons,List.take_zero,putAll,List.drop_succ_cons,List.drop_zero]
  go_wp2
  go_ret
  exact ⟨rfl,hS3.out.bel⟩
end Go.Proofs.YtnmlkobogofadaaGreatDoor
namespace Go.Proofs.YtnmlkobogofadaaGreatDoor
open Go.RowKit Go.Sort
theorem fits_dec {k:Nat} {r:Rat} (h:decide (r.num.natAbs<B64 ^ k)=true) (h2:decide (r.den<B64 ^ k)=true):Fits k r:=⟨of_decide_eq_true h,of_decide_eq_true h2⟩
theorem p1250 (w:World) (hE:Env w):Calls Tryz.prog 16 #[.string ⟨#[45,49,46,50,53,48]⟩] w (RetQE w (mkRat (-5) 4) 0):=by
 have h:=parse_dec_true [45,49,46,50,53,48] [49,46,50,53,48] [49] [50,53,48] w (by decide) (by decide +kernel) (by decide +kernel) (by decide +kernel) (by decide +kernel) (by decide +kernel) (by decide +kernel) (by decide) (by decide) (by decide) hE
 rwa [show mkRat (zs (!(dv ([49] ++ [50,53,48]) == 0)) (dv ([49] ++ [50,53,48]))) (10 ^ ([50,53,48]:List UInt8).length)=mkRat (-5) 4 from by decide +kernel] at h
theorem p64 (w:World) (hE:Env w):Calls Tryz.prog 16 #[.string ⟨#[54,47,52]⟩] w (RetQE w (mkRat 3 2) 0):=by
 have h:=parse_frac_false [54,47,52] [54,47,52] [54] [52] w (by decide) (by decide +kernel) (by decide +kernel) (by decide +kernel) (by decide +kernel) (by decide +kernel) (by decide +kernel) (by decide) (by decide) (by decide) hE
 rwa [show mkRat (zs false (dv [54])) (dv [52])=mkRat 3 2 from by decide +kernel] at h
theorem p355 (w:World) (hE:Env w):Calls Tryz.prog 16 #[.string ⟨#[51,53,53,47,49,49,51]⟩] w (RetQE w (mkRat 355 113) 0):=by
 have h:=parse_frac_false [51,53,53,47,49,49,51] [51,53,53,47,49,49,51] [51,53,53] [49,49,51] w (by decide) (by decide +kernel) (by decide +kernel) (by decide +kernel) (by decide +kernel) (by decide +kernel) (by decide +kernel) (by decide) (by decide) (by decide) hE
 rwa [show mkRat (zs false (dv [51,53,53])) (dv [49,49,51])=mkRat 355 113 from by decide +kernel] at h
theorem p12 (w:World) (hE:Env w):Calls Tryz.prog 16 #[.string ⟨#[49,47,50]⟩] w (RetQE w (mkRat 1 2) 0):=by
 have h:=parse_frac_false [49,47,50] [49,47,50] [49] [50] w (by decide) (by decide +kernel) (by decide +kernel) (by decide +kernel) (by decide +kernel) (by decide +kernel) (by decide +kernel) (by decide) (by decide) (by decide) hE
 rwa [show mkRat (zs false (dv [49])) (dv [50])=mkRat 1 2 from by decide +kernel] at h
theorem root23 (v:Value) (w:World) (h:IsQ w v ((2:Int):Rat)) (hE:Env w):Calls Tryz.prog 56 #[v,.int .i64 3] w (RetQE w (mkRat 11 8) 0):=by
 have:=Root_calls ((2:Int):Rat) 128 3 (by decide) 8 (by decide +kernel) 128 (by decide +kernel) (by decide +kernel) (by decide +kernel) v 1 w h (by decide) (fits_dec (by decide +kernel) (by decide +kernel)) (fits_dec (by decide +kernel) (by decide +kernel)) (fits_dec (by decide +kernel) (by decide +kernel)) (fits_dec (by decide +kernel) (by decide +kernel)) hE
 refine this.mono ?_
 rintro e w' ⟨S,h1,h2,h3⟩
 have:S=11:=root_unique 128 S 11 h1 h2 (by decide) (by decide)
 subst this
 rwa [show (((11:Nat):Int):Rat) / 8=mkRat 11 8 from by decide +kernel] at h3
theorem turn12 (v:Value) (w:World) (h:IsQ w v (mkRat 1 2)) (hE:Env w):Calls Tryz.prog 83 #[v] w (RetRot w (mkRat 3 5) (mkRat 4 5)):=by
 have:=Turn_calls (mkRat 1 2) v 1 w h (by decide) (fits_dec (by decide +kernel) (by decide +kernel)) (fits_dec (by decide +kernel) (by decide +kernel)) (fits_dec (by decide +kernel) (by decide +kernel)) (fits_dec (by decide +kernel) (by decide +kernel)) (fits_dec (by decide +kernel) (by decide +kernel)) (fits_dec (by decide +kernel) (by decide +kernel)) (by decide +kernel) hE.tz
 rwa [show (1 - mkRat 1 2*mkRat 1 2) / (1+mkRat 1 2*mkRat 1 2)=mkRat 3 5 from by decide +kernel,show (mkRat 1 2+mkRat 1 2) / (1+mkRat 1 2*mkRat 1 2)=mkRat 4 5 from by decide +kernel] at this
theorem isT (l:List UInt8) (r:Rat) (hq:decide (qText r=l)=true) (hf:Fits 1 r) (v:Value) (w:World) (h:IsQ w v r) (hE:Env w):Calls Tryz.prog 92 #[v,.string ⟨l.toArray⟩] w (RetI w (.bool true)):=by
 have:=is_calls l r v 1 w h (by decide) hf hE
 rwa [of_decide_eq_true hq,beq_self_eq_true] at this
theorem t54:decide (qText (mkRat (-5) 4)=[45,53,47,52])=true:=by decide +kernel
end Go.Proofs.YtnmlkobogofadaaGreatDoor
namespace Go.Proofs.YtnmlkobogofadaaGreatDoor
set_option maxRecDepth 100000
set_option maxHeartbeats 80000000
open Go.RowKit Go.Sort
attribute [local go_sem] takes takesUpon_value takesUpon_skip takesUpon_enter
def NearOK:Prop:=∀ (v:Value) (w:World),IsQ w v (mkRat 355 113)→Env w→Calls Tryz.prog 55 #[v,.int .i64 7] w (RetQE w (mkRat 22 7) 0)
theorem awake_calls (hN:NearOK) (w:World) (hE:Env w):Calls Tryz.prog 15 #[] w (RetI w (.bool true)):=by
 have HN:=hid hN
 have HE:=hid hE
 have HI:=hid (fun (W:World)=>Int_calls 2 (by omega) (by omega) W)
 clear hN hE
 go_enter Tryz.func15,Tryz.ntmps15
 go_wp2_with fail
 have hS0':St w [] [] w:=St.start w
 have hS0:=hid hS0'
 clear hS0'
 refine (p1250 _ (HE.out.below hS0.out.bel (Nat.le_refl _))).mono ?_
 rintro e w1 ⟨v1,rfl,hv1,hB⟩
 have hS1:=hid (hS0.out.call hB)
 clear hB
 clear hS0
 obtain ⟨t1,x1,p1,l1,q1,y1,r1,s1,u1,rfl⟩:=hv1.open
 have hS2:=hid (hS1.out.fq hv1)
 clear hS1 hv1
 go_wp2_with fail
 have hS3:=hid ((hS2.out).alloc' (w1.heap.size) (by simp) 31 (c5 t1 x1 p1 l1 q1 y1 r1 s1 u1))
 obtain ⟨W1,hW1⟩:=nameW hS3
 rw [hW1] at hS3 ⊢
 clear hW1
 refine (p64 _ (HE.out.below hS3.out.bel (Nat.le_refl _))).mono ?_
 rintro e w2 ⟨v2,rfl,hv2,hB⟩
 have hS4:=hid (hS3.out.call hB)
 clear hB
 clear hS3
 obtain ⟨t2,x2,p2,l2,q2,y2,r2,s2,u2,rfl⟩:=hv2.open
 have hS5:=hid (hS4.out.fq hv2)
 clear hS4 hv2
 obtain ⟨ne1l,ne1,ne1'⟩:=hS5.out.ne 0 w1.heap.size 31 (c5 t1 x1 p1 l1 q1 y1 r1 s1 u1) rfl
 go_wp2_with fail
 have hS6:=hid ((hS5.out).alloc' (w2.heap.size) (by simp) 31 (c5 t2 x2 p2 l2 q2 y2 r2 s2 u2))
 obtain ⟨W2,hW2⟩:=nameW hS6
 rw [hW2] at hS6 ⊢
 clear hW2
 refine (num_calls [51,53,53,47,49,49,51] (mkRat 355 113) 0 _ (hid fun W hb=>p355 W (HE.out.below (hS6.out.bel.trans (hb.mono hS6.out.bel.size)) (Nat.le_refl _)))).mono ?_
 rintro e w3 ⟨v3,rfl,hv3,hB⟩
 have hS7:=hid (hS6.out.call hB)
 clear hB
 clear hS6
 obtain ⟨t3,x3,p3,l3,q3,y3,r3,s3,u3,rfl⟩:=hv3.open
 have hS8:=hid (hS7.out.fq hv3)
 clear hS7 hv3
 go_wp2_with fail
 refine (HN.out _ _ (hS8.out.gq 0 rfl) (HE.out.below hS8.out.bel (Nat.le_refl _))).mono ?_
 rintro e w4 ⟨v4,rfl,hv4,hB⟩
 have hS9:=hid (hS8.out.call hB)
 clear hB
 clear hS8
 obtain ⟨t4,x4,p4,l4,q4,y4,r4,s4,u4,rfl⟩:=hv4.open
 have hS10:=hid (hS9.out.fq hv4)
 clear hS9 hv4
 obtain ⟨ne2l,ne2,ne2'⟩:=hS10.out.ne 1 w1.heap.size 31 (c5 t1 x1 p1 l1 q1 y1 r1 s1 u1) rfl
 obtain ⟨ne3l,ne3,ne3'⟩:=hS10.out.ne 0 w2.heap.size 31 (c5 t2 x2 p2 l2 q2 y2 r2 s2 u2) rfl
 go_wp2_with fail
 have hS11:=hid ((hS10.out).alloc' (w4.heap.size) (by simp) 31 (c5 t4 x4 p4 l4 q4 y4 r4 s4 u4))
 obtain ⟨W4,hW4⟩:=nameW hS11
 rw [hW4] at hS11 ⊢
 clear hW4
 refine (HI.out _).mono ?_
 rintro e w5 ⟨v5,rfl,hv5,hB⟩
 have hS12:=hid (hS11.out.call hB)
 clear hB
 clear hS11
 obtain ⟨t5,x5,p5,l5,q5,y5,r5,s5,u5,rfl⟩:=hv5.open
 have hS13:=hid (hS12.out.fq hv5)
 clear hS12 hv5
 go_wp2_with fail
 refine (root23 _ _ (hS13.out.gq 0 rfl) (HE.out.below hS13.out.bel (Nat.le_refl _))).mono ?_
 rintro e w6 ⟨v6,rfl,hv6,hB⟩
 have hS14:=hid (hS13.out.call hB)
 clear hB
 clear hS13
 obtain ⟨t6,x6,p6,l6,q6,y6,r6,s6,u6,rfl⟩:=hv6.open
 have hS15:=hid (hS14.out.fq hv6)
 clear hS14 hv6
 obtain ⟨ne4l,ne4,ne4'⟩:=hS15.out.ne 2 w1.heap.size 31 (c5 t1 x1 p1 l1 q1 y1 r1 s1 u1) rfl
 obtain ⟨ne5l,ne5,ne5'⟩:=hS15.out.ne 1 w2.heap.size 31 (c5 t2 x2 p2 l2 q2 y2 r2 s2 u2) rfl
 obtain ⟨ne6l,ne6,ne6'⟩:=hS15.out.ne 0 w4.heap.size 31 (c5 t4 x4 p4 l4 q4 y4 r4 s4 u4) rfl
 go_wp2_with fail
 have hS16:=hid ((hS15.out).alloc' (w6.heap.size) (by simp) 31 (c5 t6 x6 p6 l6 q6 y6 r6 s6 u6))
 obtain ⟨W6,hW6⟩:=nameW hS16
 rw [hW6] at hS16 ⊢
 clear hW6
 refine (num_calls [49,47,50] (mkRat 1 2) 0 _ (hid fun W hb=>p12 W (HE.out.below (hS16.out.bel.trans (hb.mono hS16.out.bel.size)) (Nat.le_refl _)))).mono ?_
 rintro e w7 ⟨v7,rfl,hv7,hB⟩
 have hS17:=hid (hS16.out.call hB)
 clear hB
 clear hS16
 obtain ⟨t7,x7,p7,l7,q7,y7,r7,s7,u7,rfl⟩:=hv7.open
 have hS18:=hid (hS17.out.fq hv7)
 clear hS17 hv7
 go_wp2_with fail
 refine (turn12 _ _ (hS18.out.gq 0 rfl) (HE.out.below hS18.out.bel (Nat.le_refl _))).mono ?_
 rintro e w8 ⟨v8,rfl,hv8,hB⟩
 have hS19:=hid (hS18.out.call hB)
 clear hB
 clear hS18
 obtain ⟨t8,x8,p8,l8,q8,y8,r8,s8,u8,t9,x9,p9,l9,q9,y9,r9,s9,u9,rfl,hc8,hs8⟩:=hv8
 have hS20:=hid (hS19.out.fq hc8)
 clear hS19 hc8
 have hS21:=hid (hS20.out.fq hs8)
 clear hS20 hs8
 obtain ⟨ne7l,ne7,ne7'⟩:=hS21.out.ne 3 w1.heap.size 31 (c5 t1 x1 p1 l1 q1 y1 r1 s1 u1) rfl
 obtain ⟨ne8l,ne8,ne8'⟩:=hS21.out.ne 2 w2.heap.size 31 (c5 t2 x2 p2 l2 q2 y2 r2 s2 u2) rfl
 obtain ⟨ne9l,ne9,ne9'⟩:=hS21.out.ne 1 w4.heap.size 31 (c5 t4 x4 p4 l4 q4 y4 r4 s4 u4) rfl
 obtain ⟨ne10l,ne10,ne10'⟩:=hS21.out.ne 0 w6.heap.size 31 (c5 t6 x6 p6 l6 q6 y6 r6 s6 u6) rfl
 obtain ⟨⟨ca0,ca1,ca2,ca3,ca4⟩,fa0,fa1,fa2,fa3,fa4⟩:=hS21.out.f5 3 w1.heap.size 31 (.bool t1) (.int .u64 x1) (.slice p1 l1 q1) (.int .u64 y1) (.slice r1 s1 u1) rfl
 go_wp2_with fail
 clear ca0 ca1 ca2 ca3 ca4 fa0 fa1 fa2 fa3 fa4
 have hS22:=hid ((hS21.out).alloc' (w8.heap.size) (by simp) 89 [.bool t8,.int .u64 x8,.slice p8 l8 q8,.int .u64 y8,.slice r8 s8 u8,.bool t9,.int .u64 x9,.slice p9 l9 q9,.int .u64 y9,.slice r9 s9 u9])
 obtain ⟨W8,hW8⟩:=nameW hS22
 rw [hW8] at hS22 ⊢
 clear hW8
 refine (isT [45,53,47,52] (mkRat (-5) 4) (by decide +kernel) (fits_dec (by decide +kernel) (by decide +kernel)) _ _ (hS22.out.gq 8 rfl) (HE.out.below hS22.out.bel (Nat.le_refl _))).mono ?_
 rintro e wa ⟨rfl,hB⟩
 have hS23:=hid (hS22.out.call hB)
 clear hB
 clear hS22
 obtain ⟨⟨cb0,cb1,cb2,cb3,cb4⟩,fb0,fb1,fb2,fb3,fb4⟩:=hS23.out.f5 3 w2.heap.size 31 (.bool t2) (.int .u64 x2) (.slice p2 l2 q2) (.int .u64 y2) (.slice r2 s2 u2) rfl
 go_wp2_with fail
 clear cb0 cb1 cb2 cb3 cb4 fb0 fb1 fb2 fb3 fb4
 refine (isT [51,47,50] (mkRat 3 2) (by decide +kernel) (fits_dec (by decide +kernel) (by decide +kernel)) _ _ (hS23.out.gq 7 rfl) (HE.out.below hS23.out.bel (Nat.le_refl _))).mono ?_
 rintro e wb ⟨rfl,hB⟩
 have hS24:=hid (hS23.out.call hB)
 clear hB
 clear hS23
 obtain ⟨⟨cn0,cn1,cn2,cn3,cn4⟩,fn0,fn1,fn2,fn3,fn4⟩:=hS24.out.f5 2 w4.heap.size 31 (.bool t4) (.int .u64 x4) (.slice p4 l4 q4) (.int .u64 y4) (.slice r4 s4 u4) rfl
 go_wp2_with fail
 clear cn0 cn1 cn2 cn3 cn4 fn0 fn1 fn2 fn3 fn4
 refine (isT [50,50,47,55] (mkRat 22 7) (by decide +kernel) (fits_dec (by decide +kernel) (by decide +kernel)) _ _ (hS24.out.gq 5 rfl) (HE.out.below hS24.out.bel (Nat.le_refl _))).mono ?_
 rintro e wc ⟨rfl,hB⟩
 have hS25:=hid (hS24.out.call hB)
 clear hB
 clear hS24
 obtain ⟨⟨cr0,cr1,cr2,cr3,cr4⟩,fr0,fr1,fr2,fr3,fr4⟩:=hS25.out.f5 1 w6.heap.size 31 (.bool t6) (.int .u64 x6) (.slice p6 l6 q6) (.int .u64 y6) (.slice r6 s6 u6) rfl
 go_wp2_with fail
 clear cr0 cr1 cr2 cr3 cr4 fr0 fr1 fr2 fr3 fr4
 refine (isT [49,49,47,56] (mkRat 11 8) (by decide +kernel) (fits_dec (by decide +kernel) (by decide +kernel)) _ _ (hS25.out.gq 3 rfl) (HE.out.below hS25.out.bel (Nat.le_refl _))).mono ?_
 rintro e wd ⟨rfl,hB⟩
 have hS26:=hid (hS25.out.call hB)
 clear hB
 clear hS25
 obtain ⟨⟨ct0,ct1,ct2,ct3,ct4,ct5,ct6,ct7,ct8,ct9⟩,ft0,ft1,ft2,ft3,ft4,ft5,ft6,ft7,ft8,ft9⟩:=hS26.out.f10 0 w8.heap.size 89 (.bool t8) (.int .u64 x8) (.slice p8 l8 q8) (.int .u64 y8) (.slice r8 s8 u8) (.bool t9) (.int .u64 x9) (.slice p9 l9 q9) (.int .u64 y9) (.slice r9 s9 u9) rfl
 go_wp2_with fail
 clear ct0 ct1 ct2 ct3 ct4 ct5 ct6 ct7 ct8 ct9 ft0 ft1 ft2 ft3 ft4 ft5 ft6 ft7 ft8 ft9
 refine (isT [51,47,53] (mkRat 3 5) (by decide +kernel) (fits_dec (by decide +kernel) (by decide +kernel)) _ _ (hS26.out.gq 1 rfl) (HE.out.below hS26.out.bel (Nat.le_refl _))).mono ?_
 rintro e we ⟨rfl,hB⟩
 have hS27:=hid (hS26.out.call hB)
 clear hB
 clear hS26
 obtain ⟨⟨ct0,ct1,ct2,ct3,ct4,ct5,ct6,ct7,ct8,ct9⟩,ft0,ft1,ft2,ft3,ft4,ft5,ft6,ft7,ft8,ft9⟩:=hS27.out.f10 0 w8.heap.size 89 (.bool t8) (.int .u64 x8) (.slice p8 l8 q8) (.int .u64 y8) (.slice r8 s8 u8) (.bool t9) (.int .u64 x9) (.slice p9 l9 q9) (.int .u64 y9) (.slice r9 s9 u9) rfl
 go_wp2_with fail
 clear ct0 ct1 ct2 ct3 ct4 ct5 ct6 ct7 ct8 ct9 ft0 ft1 ft2 ft3 ft4 ft5 ft6 ft7 ft8 ft9
 refine (isT [52,47,53] (mkRat 4 5) (by decide +kernel) (fits_dec (by decide +kernel) (by decide +kernel)) _ _ (hS27.out.gq 0 rfl) (HE.out.below hS27.out.bel (Nat.le_refl _))).mono ?_
 rintro e wf ⟨rfl,hB⟩
 have hS28:=hid (hS27.out.call hB)
 clear hB
 clear hS27
 obtain ⟨⟨ca0,ca1,ca2,ca3,ca4⟩,fa0,fa1,fa2,fa3,fa4⟩:=hS28.out.f5 4 w1.heap.size 31 (.bool t1) (.int .u64 x1) (.slice p1 l1 q1) (.int .u64 y1) (.slice r1 s1 u1) rfl
 obtain ⟨⟨cb0,cb1,cb2,cb3,cb4⟩,fb0,fb1,fb2,fb3,fb4⟩:=hS28.out.f5 3 w2.heap.size 31 (.bool t2) (.int .u64 x2) (.slice p2 l2 q2) (.int .u64 y2) (.slice r2 s2 u2) rfl
 go_wp2_with fail
 clear ca0 ca1 ca2 ca3 ca4 fa0 fa1 fa2 fa3 fa4 cb0 cb1 cb2 cb3 cb4 fb0 fb1 fb2 fb3 fb4
 refine (Add_calls (mkRat (-5) 4) (mkRat 3 2) _ _ 1 _ (hS28.out.gq 8 rfl) (hS28.out.gq 7 rfl) (by decide) (fits_dec (by decide +kernel) (by decide +kernel)) (fits_dec (by decide +kernel) (by decide +kernel)) (HE.out.below hS28.out.bel (Nat.le_refl _)).tz).mono ?_
 rintro e wg ⟨v10,rfl,hv10,hB⟩
 have hS29:=hid (hS28.out.call hB)
 clear hB
 clear hS28
 rw [show mkRat (-5) 4+mkRat 3 2=mkRat 1 4 from by decide +kernel] at hv10
 obtain ⟨t10,x10,p10,l10,q10,y10,r10,s10,u10,rfl⟩:=hv10.open
 have hS30:=hid (hS29.out.fq hv10)
 clear hS29 hv10
 go_wp2_with fail
 refine (isT [49,47,52] (mkRat 1 4) (by decide +kernel) (fits_dec (by decide +kernel) (by decide +kernel)) _ _ (hS30.out.gq 0 rfl) (HE.out.below hS30.out.bel (Nat.le_refl _))).mono ?_
 rintro e wh ⟨rfl,hB⟩
 have hS31:=hid (hS30.out.call hB)
 clear hB
 clear hS30
 obtain ⟨⟨ca0,ca1,ca2,ca3,ca4⟩,fa0,fa1,fa2,fa3,fa4⟩:=hS31.out.f5 4 w1.heap.size 31 (.bool t1) (.int .u64 x1) (.slice p1 l1 q1) (.int .u64 y1) (.slice r1 s1 u1) rfl
 obtain ⟨⟨cb0,cb1,cb2,cb3,cb4⟩,fb0,fb1,fb2,fb3,fb4⟩:=hS31.out.f5 3 w2.heap.size 31 (.bool t2) (.int .u64 x2) (.slice p2 l2 q2) (.int .u64 y2) (.slice r2 s2 u2) rfl
 go_wp2_with fail
 clear ca0 ca1 ca2 ca3 ca4 fa0 fa1 fa2 fa3 fa4 cb0 cb1 cb2 cb3 cb4 fb0 fb1 fb2 fb3 fb4
 refine (Mul_calls (mkRat (-5) 4) (mkRat 3 2) _ _ 1 _ (hS31.out.gq 9 rfl) (hS31.out.gq 8 rfl) (by decide) (fits_dec (by decide +kernel) (by decide +kernel)) (fits_dec (by decide +kernel) (by decide +kernel)) (HE.out.below hS31.out.bel (Nat.le_refl _)).tz).mono ?_
 rintro e wi ⟨v11,rfl,hv11,hB⟩
 have hS32:=hid (hS31.out.call hB)
 clear hB
 clear hS31
 rw [show mkRat (-5) 4*mkRat 3 2=mkRat (-15) 8 from by decide +kernel] at hv11
 obtain ⟨t11,x11,p11,l11,q11,y11,r11,s11,u11,rfl⟩:=hv11.open
 have hS33:=hid (hS32.out.fq hv11)
 clear hS32 hv11
 go_wp2_with fail
 refine (isT [45,49,53,47,56] (mkRat (-15) 8) (by decide +kernel) (fits_dec (by decide +kernel) (by decide +kernel)) _ _ (hS33.out.gq 0 rfl) (HE.out.below hS33.out.bel (Nat.le_refl _))).mono ?_
 rintro e wj ⟨rfl,hB⟩
 have hS34:=hid (hS33.out.call hB)
 clear hB
 clear hS33
 go_wp2
 go_ret
 exact ⟨rfl,hS34.out.bel⟩
end Go.Proofs.YtnmlkobogofadaaGreatDoor
namespace Go.Proofs.YtnmlkobogofadaaGreatDoor
instance fitsDec (k:Nat) (r:Rat):Decidable (Fits k r):=inferInstanceAs (Decidable (_∧_))
theorem near_hyp:NearHyp (mkRat 355 113) 7 2 1 0 (mkRat 22 7) 3 where
 m1:=by decide
 m2:=by decide
 hk:=by decide
 den:=by decide +kernel
 fd:=by decide +kernel
 fm:=by decide +kernel
 fa:=by decide +kernel
 step:=fun i hi=>by
  rcases (show i=0∨i=1∨i=2 by omega) with rfl | rfl | rfl
  ·exact ⟨by decide +kernel,by decide +kernel,by decide +kernel,by decide +kernel,by decide +kernel,by decide +kernel,by decide +kernel,by decide +kernel,by decide +kernel,by decide +kernel,by decide +kernel,by decide +kernel,by decide +kernel⟩
  ·exact ⟨by decide +kernel,by decide +kernel,by decide +kernel,by decide +kernel,by decide +kernel,by decide +kernel,by decide +kernel,by decide +kernel,by decide +kernel,by decide +kernel,by decide +kernel,by decide +kernel,by decide +kernel⟩
  ·exact ⟨by decide +kernel,by decide +kernel,by decide +kernel,by decide +kernel,by decide +kernel,by decide +kernel,by decide +kernel,by decide +kernel,by decide +kernel,by decide +kernel,by decide +kernel,by decide +kernel,by decide +kernel⟩
 q0:=by decide +kernel
 d1:=by decide +kernel
 d2:=by decide +kernel
 hK:=by decide +kernel
 fK:=by decide +kernel
 kp:=by decide +kernel
 kq:=by decide +kernel
 sp:=by decide +kernel
 sq:=by decide +kernel
 s0:=by decide +kernel
 hX:=by decide +kernel
 hY:=by decide +kernel
 fX:=by decide +kernel
 fY:=by decide +kernel
 fXa:=by decide +kernel
 fYa:=by decide +kernel
 lt:=by decide +kernel
theorem nearOK:NearOK:=fun v w h hE=>near_walk (mkRat 355 113) 7 2 1 0 (mkRat 22 7) 3 v w h hE.tz near_hyp
end Go.Proofs.YtnmlkobogofadaaGreatDoor
namespace Go.Proofs.YtnmlkobogofadaaGreatDoor.Rx
open Go.RowKit
inductive RE
 | v (n:Nat)
 | c (n:Int)
 | add (a b:RE)
 | sub (a b:RE)
 | mul (a b:RE)
 | div (a b:RE)
 | neg (a:RE)
 | abs (a:RE)
 | flo (a:RE)
 | num (a:RE)
 | den (a:RE)
def RE.ev (β:Nat→Rat):RE→Rat
 | .v n=>β n
 | .c n=>(n:Rat)
 | .add a b=>a.ev β+b.ev β
 | .sub a b=>a.ev β - b.ev β
 | .mul a b=>a.ev β*b.ev β
 | .div a b=>a.ev β / b.ev β
 | .neg a=>-a.ev β
 | .abs a=>if (a.ev β).num<0 then -a.ev β else a.ev β
 | .flo a=>(((a.ev β).num / ((a.ev β).den:Int):Int):Rat)
 | .num a=>((a.ev β).num:Rat)
 | .den a=>((((a.ev β).den:Nat):Int):Rat)
def RE.beq:RE→RE→Bool
 | .v n,.v m=>n == m
 | .c n,.c m=>n == m
 | .add a b,.add x y | .sub a b,.sub x y | .mul a b,.mul x y | .div a b,.div x y=>a.beq x && b.beq y
 | .neg a,.neg b | .abs a,.abs b | .flo a,.flo b | .num a,.num b | .den a,.den b=>a.beq b
 | _,_=>false
theorem RE.beq_eq {a:RE}:∀ {b:RE},a.beq b=true→a=b:=by
 induction a with
 | v n=>intro b h;cases b <;> simp [RE.beq] at h;subst h;rfl
 | c n=>intro b h;cases b <;> simp [RE.beq] at h;subst h;rfl
 | add x y ih1 ih2=>intro b h;cases b <;> simp [RE.beq] at h;rw [ih1 h.1,ih2 h.2]
 | sub x y ih1 ih2=>intro b h;cases b <;> simp [RE.beq] at h;rw [ih1 h.1,ih2 h.2]
 | mul x y ih1 ih2=>intro b h;cases b <;> simp [RE.beq] at h;rw [ih1 h.1,ih2 h.2]
 | div x y ih1 ih2=>intro b h;cases b <;> simp [RE.beq] at h;rw [ih1 h.1,ih2 h.2]
 | neg x ih=>intro b h;cases b <;> simp [RE.beq] at h;rw [ih h]
 | abs x ih=>intro b h;cases b <;> simp [RE.beq] at h;rw [ih h]
 | flo x ih=>intro b h;cases b <;> simp [RE.beq] at h;rw [ih h]
 | num x ih=>intro b h;cases b <;> simp [RE.beq] at h;rw [ih h]
 | den x ih=>intro b h;cases b <;> simp [RE.beq] at h;rw [ih h]
inductive Fc
 | q (s:Nat) (e:RE) (k:Nat)
 | r (s:Nat) (e:RE)
 | x (s:Nat) (e:RE)
 | n (s:Nat) (e:RE)
def numC (s:Nat):List Cell:=[.ob s,.ou s,.os s,.ou (s+1),.os (s+1)]
def refC (s:Nat):List Cell:=[.ob s,.os s,.bl false,.os (s+1)]
def handC (s:Nat):List Cell:=[.oi s,.oi (s+1),.o8 (s+2)]
def Fc.nm:Fc→List Nat
 | .q s _ _ | .r s _=>[s,s+1]
 | .x s _=>[s]
 | .n s _=>[s,s+1,s+2]
def IsN (n d:Int) (b:Int) (r:Rat):Prop:=∃ pw:Nat,b=pw∧pw<256∧-9223372036854775808≤n∧n≤9223372036854775807∧-9223372036854775808≤d∧d≤9223372036854775807∧numOf n d pw=r
def Fc.on (β:Nat→Rat) (ρ:Env):Fc→World→Prop
 | .q s e k,W=>IsQ W (.agg ((numC s).map (Cell.den ρ)).toArray) (e.ev β)∧Fits k (e.ev β)
 | .r s e,W=>Z4.IsR W (.agg ((refC s).map (Cell.den ρ)).toArray) (e.ev β)
 | .x s e,_=>(ρ s).t=⟨(qText (e.ev β)).toArray⟩
 | .n s e,_=>IsN (ρ s).u (ρ (s+1)).u (ρ (s+2)).u (e.ev β)
def okC:List Cell→Bool
 | []=>true
 | .it .i64 _ :: _ | .oi _ :: _=>false
 | [_]=>true
 | a :: b :: r=>!((match a with | .it .u64 _ | .ou _=>true | _=>false) && (match b with | .it .u64 _ | .ou _=>true | _=>false)) && okC (b :: r)
theorem isI_den {ρ:Env} {c:Cell} (h:isI (c.den ρ)=true):(∃ n,c=.it .i64 n)∨∃ n,c=.oi n:=by
 cases c <;> simp [Cell.den,isI] at h ⊢
 rename_i k n
 cases k <;> simp at h ⊢
theorem isU_den {ρ:Env} {c:Cell}:isU (c.den ρ)=(match c with | .it .u64 _ | .ou _=>true | _=>false):=by
 cases c <;> simp [Cell.den,isU]
 rename_i k n
 cases k <;> rfl
theorem okC_okVs (ρ:Env):∀ {l:List Cell},okC l=true→okVs (l.map (Cell.den ρ))=true
 | [],_=>rfl
 | [c],h=>by
  simp only [List.map_cons,List.map_nil,okVs]
  cases hi:isI (c.den ρ) with
  | false=>rfl
  | true =>
   rcases isI_den hi with ⟨n,rfl⟩ | ⟨n,rfl⟩ <;> simp [okC] at h
 | c :: d :: r,h=>by
  have hi:isI (c.den ρ)=false:=by
   cases hi:isI (c.den ρ) with
   | false=>rfl
   | true=>rcases isI_den hi with ⟨n,rfl⟩ | ⟨n,rfl⟩ <;> simp [okC] at h
  have h2:(!(isU (c.den ρ) && isU (d.den ρ)) && okC (d :: r))=true:=by
   rw [isU_den,isU_den]
   unfold okC at h
   split at h <;> first | (cases h;done) | skip
   all_goals first | (simp_all;done) | (rename_i he;cases he;exact h)
  simp only [Bool.and_eq_true] at h2
  have ih:=okC_okVs ρ h2.2
  simp only [List.map_cons] at ih ⊢
  simp only [okVs,hi,ih,h2.1]
  rfl
def SQ (β:Nat→Rat):Sys where
 F:=Fc
 nm:=Fc.nm
 on:=Fc.on β
 okC:=okC
 cg:=fun {ρ ρ' f W} h hf=>by
  cases f with
  | q s e k =>
   simp only [Fc.nm,List.mem_cons,List.not_mem_nil,or_false] at h
   simp only [Fc.on] at hf ⊢
   rwa [cells_congr (ρ:=ρ') (ρ':=ρ) (l:=numC s) fun n hn=>(h n (by simpa [numC,Cell.nm] using hn)).symm]
  | r s e =>
   simp only [Fc.nm,List.mem_cons,List.not_mem_nil,or_false] at h
   simp only [Fc.on] at hf ⊢
   rwa [cells_congr (ρ:=ρ') (ρ':=ρ) (l:=refC s) fun n hn=>(h n (by simpa [refC,Cell.nm] using hn)).symm]
  | x s e=>simp only [Fc.on] at hf ⊢;rw [← h s (by simp [Fc.nm])];exact hf
  | n s e=>simp only [Fc.on] at hf ⊢;rw [← h s (by simp [Fc.nm]),← h (s+1) (by simp [Fc.nm]),← h (s+2) (by simp [Fc.nm])];exact hf
 bl:=fun {ρ f W W'} hb hf=>by
  cases f with
  | q s e k=>exact ⟨hf.1.below hb,hf.2⟩
  | r s e=>exact Z4.IsR.below hf hb
  | x s e=>exact hf
  | n s e=>exact hf
 st:=fun {ρ f W b T cs i u} hok hb hf=>by
  have hv:=okC_okVs ρ hok
  have hb':Go.Proofs.YtnmlkobogofadaaGreatDoor.Bx W b T (cs.map (Cell.den ρ)):=hb
  cases f with
  | q s e k=>exact ⟨hf.1.setBox hb' hv,hf.2⟩
  | r s e=>exact Z4.IsR.setBox hf hb' hv
  | x s e=>exact hf
  | n s e=>exact hf
structure Hint where
 eq:List (RE×RE):=[]
 ne:List (RE×RE):=[]
 nz:List RE:=[]
 sg:List (RE×Int):=[]
 cm:List (RE×RE×Int):=[]
def Hint.Ok (β:Nat→Rat) (h:Hint):Prop:=
 (∀ p∈h.eq,p.1.ev β=p.2.ev β)∧(∀ p∈h.ne,p.1.ev β≠p.2.ev β)∧(∀ p∈h.nz,p.ev β≠0)∧(∀ p∈h.sg,sgQ (p.1.ev β)=p.2)∧(∀ p∈h.cm,cmpQ (p.1.ev β) (p.2.1.ev β)=p.2.2)
def eqB (h:Hint) (a b:RE):Bool:=a.beq b || h.eq.any fun p=>p.1.beq a && p.2.beq b
theorem eqB_ok {β:Nat→Rat} {h:Hint} (ok:h.Ok β) {a b:RE} (hh:eqB h a b=true):a.ev β=b.ev β:=by
 unfold eqB at hh
 rw [Bool.or_eq_true] at hh
 rcases hh with hh | hh
 ·rw [RE.beq_eq hh]
 ·obtain ⟨p,hp,h1⟩:=List.any_eq_true.1 hh
  simp only [Bool.and_eq_true] at h1
  have:=ok.1 p hp
  rwa [RE.beq_eq h1.1,RE.beq_eq h1.2] at this
def findX:List Fc→Nat→Option RE
 | [],_=>none
 | .x s e :: r,n=>if s=n then some e else findX r n
 | _ :: r,n=>findX r n
theorem findX_ok {β:Nat→Rat} {ρ:Env} {W:World} {n:Nat} {e:RE}:∀ {db:List Fc},findX db n=some e→(∀ f∈db,Fc.on β ρ f W)→(ρ n).t=⟨(qText (e.ev β)).toArray⟩
 | [],h,_=>by simp [findX] at h
 | f :: r,h,hf=>by
  have ih:findX r n=some e→(ρ n).t=⟨(qText (e.ev β)).toArray⟩:=fun h=>findX_ok h fun f hf'=>hf f (by simp [hf'])
  cases f with
  | x s e' =>
   simp only [findX] at h
   split at h
   ·rename_i hs
    cases h
    subst hs
    exact hf (.x s e) (by simp)
   ·exact ih h
  | q _ _ _=>exact ih h
  | r _ _=>exact ih h
  | n _ _=>exact ih h
def HQ (β:Nat→Rat) (h:Hint) (ok:h.Ok β):Tests (SQ β) where
 eq:=fun db c d=>match c,d with
  | .ot a,.ot b=>match findX db a,findX db b with
   | some e,some e'=>if eqB h e e' then some true else none
   | _,_=>none
  | _,_=>none
 ok:=fun {fs c d x} hh ρ W hf=>by
  split at hh
  ·rename_i a b
   split at hh
   ·rename_i e e' h1 h2
    split at hh
    ·rename_i he
     cases hh
     refine ⟨_,_,rfl,rfl,?_⟩
     rw [findX_ok h1 hf,findX_ok h2 hf,eqB_ok ok he]
     simp
    ·cases hh
   ·cases hh
  ·cases hh
end Go.Proofs.YtnmlkobogofadaaGreatDoor.Rx
