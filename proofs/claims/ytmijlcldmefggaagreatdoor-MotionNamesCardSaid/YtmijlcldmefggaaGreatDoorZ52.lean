/- MotionNames holds: the closed law returns true. Conditions: the three listed tables hold what the program's text lays. -/
import Derived.Test.YtmijlcldmefggaaGreatDoorZ47
import Derived.Test.YtmijlcldmefggaaGreatDoorZ50
import Derived.Test.YtmijlcldmefggaaGreatDoorZ51
namespace Go.Proofs.YtmijlcldmefggaaGreatDoor
set_option maxRecDepth 100000
set_option maxHeartbeats 80000000
section
open Go.ChangeShapes Go.WideShapes Go.ChangeAt Go.RowKit Go.Joins
theorem motionNames_row:Rows.MotionNamesSaid:=
 OpenClaim.holds_of_wide 4 Tryz.f4 rfl rfl rfl rfl rfl rfl rfl ⟨rfl,rfl,rfl,rfl,rfl⟩ rfl rfl rfl rfl rfl (by kernel_rfl) Tryz.func4 motionNames_facts
  (of_decide_eq_true (by kernel_rfl)) (by unfold Func.isWrapper;first | (rw [if_pos (by decide +kernel)];kernel_rfl) | (rw [if_neg (by decide +kernel)];exact ⟨rfl,rfl⟩))
  (fun os started H enc _=>motionNames_lifted os started H enc)
theorem motionNames_holds:Rows.MotionNamesCardSaid:=
 Claim7.holds_tied_plain_at .later [] [.data,.data,.data] true _ false
  motionNames_row (fun _ h=>by cases h) mo_wf (fun _ h=>by cases h) motionNames_row_tie rfl ⟨rfl,rfl⟩ (by kernel_rfl) rfl
  (fun f fn hf hfn=>by
   obtain rfl:f=4:=Option.some.inj (mo_named.symm.trans hf) |>.symm
   obtain rfl:fn=Tryz.f4:=(Option.some.inj (Tryz.func4.symm.trans hfn)).symm
   exact ⟨mo_looks,fun j t ht=>by
    rw [Tryz.params4] at ht
    simp at ht⟩)
  mo_goes
#print axioms motionNames_holds
end
end Go.Proofs.YtmijlcldmefggaaGreatDoor
