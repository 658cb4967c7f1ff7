/- ExactPoints holds: for any four points and any number as they are handed in (any numerators, denominators and powers), the law returns true. Conditions: the three listed tables hold what the program's text lays. -/
import Derived.Test.YtnmlkobogofadaaGreatDoorP21
import Derived.Test.YtnmlkobogofadaaGreatDoorP34
import Derived.Test.YtnmlkobogofadaaGreatDoorP37
import Derived.Test.YtnmlkobogofadaaGreatDoorTie
import Derived.Test.YtnmlkobogofadaaGreatDoorCards
namespace Go.Proofs.YtnmlkobogofadaaGreatDoor
set_option maxRecDepth 100000
set_option maxHeartbeats 80000000
section
open Go.ChangeShapes Go.WideShapes Go.ChangeAt Go.RowKit Go.Joins
theorem OV (os:Os) (started:os.Started) (H:Type) (enc:TypeId×Value→H) :
  ReturnsInHanded {} Tryz.checked os 8 .any (fun w args=>(Rows.exactPointsSpec.pre enc Tryz.prog Tryz.f8 [] false w args∧laidMetH Tryz.prog rW w)∧sizedMet enc Tryz.prog Tryz.f8 (OpenSpec.ofChange Rows.exactPointsSpec) false w args)
   (Rows.exactPointsSpec.post enc Tryz.prog Tryz.f8 false true false false):=by
 refine MQ (C:=Tryz.checked) (X:=fun w=>laidMetH Tryz.prog rW w) (fun _ _ hh h=>h.of_heap hh) Qr started (by kernel_rfl) Tryz.func8
  (ChangeSpec.witness_shaped (enc:=enc) (C:=Tryz.checked) (os:=os) (X:=fun w _=>laidMetH Tryz.prog rW w) false (World.laidAll Tryz.prog os rW) #[.agg #[.int .i64 0,.int .i64 0,.int .u8 0,.int .i64 0,.int .i64 0,.int .u8 0],.agg #[.int .i64 0,.int .i64 0,.int .u8 0,.int .i64 0,.int .i64 0,.int .u8 0],.agg #[.int .i64 0,.int .i64 0,.int .u8 0,.int .i64 0,.int .i64 0,.int .u8 0],.agg #[.int .i64 0,.int .i64 0,.int .u8 0,.int .i64 0,.int .i64 0,.int .u8 0],.agg #[.int .i64 0,.int .i64 0,.int .u8 0]] 8 (World.laidAll_os _ _ _)
   (World.shaped_of_ZipB (by kernel_rfl) (by kernel_rfl)) (by kernel_rfl) (by kernel_rfl) (by kernel_rfl)
   (by rw [MakeChecks.laidMetH_plain _ _ _ (by kernel_rfl)];exact laidMet_laidAll _ (by kernel_rfl) (by kernel_rfl))) ?_
 intro W base args ds gs before hval0 hW hS hL
 have hval:∀ (j:Nat) t v,Tryz.f8.params[j]? = some t→args[j]? = some v→Value.okWide Tryz.prog W .any base t v:=hval0
 have hW':=hW
 obtain ⟨p,q,hA0,hV,rfl,_,_⟩:=hW
 have hA:DataW.TrodAll enc Tryz.prog W 0 (fun _=>true) true Tryz.f8.params.toList args.toList ds p:=hA0
 rw [Tryz.params8] at hA hval
 obtain ⟨v0,v1,v2,v3,v4,x0,x1,x2,x3,x4,p0,p1,p2,p3,p4,rfl,rfl,rfl,h0,h1,h2,h3,h4⟩:=Ud hA
 obtain ⟨rfl,rfl⟩:=trodVars_none hV
 obtain ⟨n1,d1,b1,n2,d2,b2,rfl,rfl,rfl,g1,g2⟩:=tX (hval 0 81 v0 rfl rfl) h0
 obtain ⟨n3,d3,b3,n4,d4,b4,rfl,rfl,rfl,g3,g4⟩:=tX (hval 1 81 v1 rfl rfl) h1
 obtain ⟨n5,d5,b5,n6,d6,b6,rfl,rfl,rfl,g5,g6⟩:=tX (hval 2 81 v2 rfl rfl) h2
 obtain ⟨n7,d7,b7,n8,d8,b8,rfl,rfl,rfl,g7,g8⟩:=tX (hval 3 81 v3 rfl rfl) h3
 obtain ⟨n9,d9,b9,rfl,rfl,rfl,g9⟩:=QE (hval 4 46 v4 rfl rfl) h4
 clear hA0 hval0
 simp only [List.append_nil] at hW'
 refine (Rx.O1 g1.is g2.is g3.is g4.is g5.is g6.is g7.is g8.is g9.is (O9 hL hS)).mono fun e W' ⟨he,hb⟩=>?_
 subst he
 exact ⟨_,rfl,_,_,_,[],[],[],hW',trodAll_mk1 (shut_bool Tryz.underlying4 _),JU (uI g1 g2) (uI g3 g4) (uI g5 g6) (uI g7 g8) (AV g9),rfl,hb.frame _,fun h=>by cases h⟩
theorem SY:joinedFacts Tryz.prog 8 Tryz.f8 Rows.exactPointsSpec Rows.exactPointsRow=true:=by kernel_rfl
theorem OX:Rows.ExactPointsSaid:=
 OpenClaim.holds_of_wide 8 Tryz.f8 rfl rfl rfl rfl rfl rfl rfl ⟨rfl,rfl,rfl,rfl,rfl⟩ rfl rfl rfl rfl rfl (by kernel_rfl) Tryz.func8 SY
  (of_decide_eq_true (by kernel_rfl)) (by unfold Func.isWrapper;first | (rw [if_pos (by decide +kernel)];kernel_rfl) | (rw [if_neg (by decide +kernel)];exact ⟨rfl,rfl⟩))
  (fun os started H enc _=>OV os started H enc)
theorem exactPoints_holds:Rows.ExactPointsCardSaid:=
 Claim7.holds_tied_plain_at .later [] [.data,.data,.data] true _ false
  OX (fun _ h=>by cases h) (by kernel_rfl) (fun _ h=>by cases h) exactPoints_row_tie rfl ⟨rfl,rfl⟩ (by kernel_rfl) rfl
  (fun f fn hf hfn=>by
   obtain rfl:f=8:=Option.some.inj ((show Tryz.prog.funcNamed "amble/amblelaw01.ExactPoints" = some 8 by kernel_rfl).symm.trans hf) |>.symm
   obtain rfl:fn=Tryz.f8:=(Option.some.inj (Tryz.func8.symm.trans hfn)).symm
   exact ⟨by kernel_rfl,fun j t ht=>by
    rw [Tryz.params8] at ht
    have hm:t∈[81,46]:=by simpa using Array.mem_of_getElem? ht
    have hall:([81,46].all fun u=>!Tryz.prog.wantsStandIn u)=true:=by kernel_rfl
    exact (show Tryz.prog.wantsStandIn t=false by simpa using List.all_eq_true.1 hall t hm)⟩)
  (by kernel_rfl)
#print axioms exactPoints_holds
end
end Go.Proofs.YtnmlkobogofadaaGreatDoor
