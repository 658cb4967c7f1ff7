/- PoseNames holds: the closed law returns true. Conditions: the three listed tables hold what the program's text lays. -/
import Derived.Test.YtioogdcgllajmaaGreatDoorZ20
import Derived.Test.YtioogdcgllajmaaGreatDoorZ43
import Derived.Test.YtioogdcgllajmaaGreatDoorTie
import Derived.Test.YtioogdcgllajmaaGreatDoorCards
namespace Go.Proofs.YtioogdcgllajmaaGreatDoor
set_option maxRecDepth 100000
set_option maxHeartbeats 80000000
section
open Go.ChangeShapes Go.WideShapes Go.ChangeAt Go.RowKit Go.Joins
theorem poseNames_lifted (os:Os) (started:os.Started) (H:Type) (enc:TypeId×Value→H) :
  ReturnsInHanded {} Tryz.checked os 4 .any (fun w args=>(Rows.poseNamesSpec.pre enc Tryz.prog Tryz.f4 [] false w args∧laidMetH Tryz.prog laidT w)∧sizedMet enc Tryz.prog Tryz.f4 (OpenSpec.ofChange Rows.poseNamesSpec) false w args)
   (Rows.poseNamesSpec.post enc Tryz.prog Tryz.f4 false true false false):=by
 refine handed_shaped (C:=Tryz.checked) (X:=fun w=>laidMetH Tryz.prog laidT w) (fun _ _ hh h=>h.of_heap hh) ownK started (by kernel_rfl) Tryz.func4
  (ChangeSpec.witness_shaped (enc:=enc) (C:=Tryz.checked) (os:=os) (X:=fun w _=>laidMetH Tryz.prog laidT w) false (World.laidAll Tryz.prog os laidT) #[] 8 (World.laidAll_os _ _ _)
   (World.shaped_of_ZipB (by kernel_rfl) (by kernel_rfl)) (by kernel_rfl) (by kernel_rfl) (by kernel_rfl)
   (by rw [MakeChecks.laidMetH_plain _ _ _ (by kernel_rfl)];exact laidMet_laidAll _ (by kernel_rfl) (by kernel_rfl))) ?_
 intro W base args ds gs before hval0 hW hS hL
 have hW':=hW
 obtain ⟨p,q,hA0,hV,rfl,_,_⟩:=hW
 have hA:DataW.TrodAll enc Tryz.prog W 0 (fun _=>true) true Tryz.f4.params.toList args.toList ds p:=hA0
 rw [Tryz.params4] at hA
 obtain ⟨hv,rfl,rfl⟩:=trodAll_nil hA
 obtain rfl:args=#[]:=Array.toList_inj.1 hv
 obtain ⟨rfl,rfl⟩:=trodVars_none hV
 clear hA0 hval0
 simp only [List.append_nil] at hW'
 refine (Rx.Ry.pose_run W (env_of hL hS)).mono fun e W' ⟨he,hb⟩=>?_
 subst he
 exact ⟨_,rfl,_,_,_,[],[],[],hW',trodAll_mk1 (shut_bool Tryz.underlying4 _),trodAll_mk0,rfl,hb.frame _,fun h=>by cases h⟩
theorem poseNames_facts:joinedFacts Tryz.prog 4 Tryz.f4 Rows.poseNamesSpec Rows.poseNamesRow=true:=by kernel_rfl
theorem poseNames_row:Rows.PoseNamesSaid:=
 OpenClaim.holds_of_wide 4 Tryz.f4 rfl rfl rfl rfl rfl rfl rfl ⟨rfl,rfl,rfl,rfl,rfl⟩ rfl rfl rfl rfl rfl (by kernel_rfl) Tryz.func4 poseNames_facts
  (of_decide_eq_true (by kernel_rfl)) (by unfold Func.isWrapper;first | (rw [if_pos (by decide +kernel)];kernel_rfl) | (rw [if_neg (by decide +kernel)];exact ⟨rfl,rfl⟩))
  (fun os started H enc _=>poseNames_lifted os started H enc)
theorem poseNames_holds:Rows.PoseNamesCardSaid:=
 Claim7.holds_tied_plain_at .later [] [.data,.data,.data] true _ false
  poseNames_row (fun _ h=>by cases h) (by kernel_rfl) (fun _ h=>by cases h) poseNames_row_tie rfl ⟨rfl,rfl⟩ (by kernel_rfl) rfl
  (fun f fn hf hfn=>by
   obtain rfl:f=4:=Option.some.inj ((show Tryz.prog.funcNamed "amble/amblelaw04.PoseNames" = some 4 by kernel_rfl).symm.trans hf) |>.symm
   obtain rfl:fn=Tryz.f4:=(Option.some.inj (Tryz.func4.symm.trans hfn)).symm
   exact ⟨by kernel_rfl,fun j t ht=>by
    rw [Tryz.params4] at ht
    simp at ht⟩)
  (by kernel_rfl)
#print axioms poseNames_holds
end
end Go.Proofs.YtioogdcgllajmaaGreatDoor
