/- ExactParts holds: for any number as it is handed in (any numerator, denominator and power), the law returns true. Conditions: the three listed tables hold what the program's text lays. -/
import Derived.Test.YtcglmmbgoonjnaaGreatDoorP22
import Derived.Test.YtcglmmbgoonjnaaGreatDoorP32
import Derived.Test.YtcglmmbgoonjnaaGreatDoorP37
import Derived.Test.YtcglmmbgoonjnaaGreatDoorTie
import Derived.Test.YtcglmmbgoonjnaaGreatDoorCards
namespace Go.Proofs.YtcglmmbgoonjnaaGreatDoor
set_option maxRecDepth 100000
set_option maxHeartbeats 80000000
section
open Go.ChangeShapes Go.WideShapes Go.ChangeAt Go.RowKit Go.Joins
theorem ML (os:Os) (started:os.Started) (H:Type) (enc:TypeId×Value→H) :
  ReturnsInHanded {} Tryz.checked os 5 .any (fun w args=>(Rows.exactPartsSpec.pre enc Tryz.prog Tryz.f5 [] false w args∧laidMetH Tryz.prog qN w)∧sizedMet enc Tryz.prog Tryz.f5 (OpenSpec.ofChange Rows.exactPartsSpec) false w args)
   (Rows.exactPartsSpec.post enc Tryz.prog Tryz.f5 false true false false):=by
 refine Oi (C:=Tryz.checked) (X:=fun w=>laidMetH Tryz.prog qN w) (fun _ _ hh h=>h.of_heap hh) RG started (by kernel_rfl) Tryz.func5
  (ChangeSpec.witness_shaped (enc:=enc) (C:=Tryz.checked) (os:=os) (X:=fun w _=>laidMetH Tryz.prog qN w) false (World.laidAll Tryz.prog os qN) #[.agg #[.int .i64 0,.int .i64 0,.int .u8 0]] 8 (World.laidAll_os _ _ _)
   (World.shaped_of_ZipB (by kernel_rfl) (by kernel_rfl)) (by kernel_rfl) (by kernel_rfl) (by kernel_rfl)
   (by rw [MakeChecks.laidMetH_plain _ _ _ (by kernel_rfl)];exact laidMet_laidAll _ (by kernel_rfl) (by kernel_rfl))) ?_
 intro W base args ds gs before hval0 hW hS hL
 have hval:∀ (j:Nat) t v,Tryz.f5.params[j]? = some t→args[j]? = some v→Value.okWide Tryz.prog W .any base t v:=hval0
 have hW':=hW
 obtain ⟨p,q,hA0,hV,rfl,_,_⟩:=hW
 have hA:DataW.TrodAll enc Tryz.prog W 0 (fun _=>true) true Tryz.f5.params.toList args.toList ds p:=hA0
 rw [Tryz.params5] at hA hval
 obtain ⟨v0,x0,rfl,rfl,h0⟩:=trodAll_one hA
 obtain ⟨rfl,rfl⟩:=trodVars_none hV
 obtain ⟨n1,d1,b1,rfl,rfl,rfl,g1⟩:=Rw (hval 0 46 v0 rfl rfl) h0
 clear hA0 hval0
 simp only [List.append_nil] at hW'
 refine (Rx.RN g1.is (MJ hL hS)).mono fun e W' ⟨he,hb⟩=>?_
 subst he
 exact ⟨_,rfl,_,_,_,[],[],[],hW',trodAll_mk1 (shut_bool Tryz.underlying4 _),trodAll_mk1 (Uj g1),rfl,hb.frame _,fun h=>by cases h⟩
theorem MK:joinedFacts Tryz.prog 5 Tryz.f5 Rows.exactPartsSpec Rows.exactPartsRow=true:=by kernel_rfl
theorem MN:Rows.ExactPartsSaid:=
 OpenClaim.holds_of_wide 5 Tryz.f5 rfl rfl rfl rfl rfl rfl rfl ⟨rfl,rfl,rfl,rfl,rfl⟩ rfl rfl rfl rfl rfl (by kernel_rfl) Tryz.func5 MK
  (of_decide_eq_true (by kernel_rfl)) (by unfold Func.isWrapper;first | (rw [if_pos (by decide +kernel)];kernel_rfl) | (rw [if_neg (by decide +kernel)];exact ⟨rfl,rfl⟩))
  (fun os started H enc _=>ML os started H enc)
theorem exactParts_holds:Rows.ExactPartsCardSaid:=
 Claim7.holds_tied_plain_at .later [] [.data,.data,.data] true _ false
  MN (fun _ h=>by cases h) (by kernel_rfl) (fun _ h=>by cases h) exactParts_row_tie rfl ⟨rfl,rfl⟩ (by kernel_rfl) rfl
  (fun f fn hf hfn=>by
   obtain rfl:f=5:=Option.some.inj ((show Tryz.prog.funcNamed "amble/amblelaw01.ExactParts" = some 5 by kernel_rfl).symm.trans hf) |>.symm
   obtain rfl:fn=Tryz.f5:=(Option.some.inj (Tryz.func5.symm.trans hfn)).symm
   exact ⟨by kernel_rfl,fun j t ht=>by
    rw [Tryz.params5] at ht
    have hm:t∈[46]:=by simpa using Array.mem_of_getElem? ht
    have hall:([46].all fun u=>!Tryz.prog.wantsStandIn u)=true:=by kernel_rfl
    exact (show Tryz.prog.wantsStandIn t=false by simpa using List.all_eq_true.1 hall t hm)⟩)
  (by kernel_rfl)
#print axioms exactParts_holds
end
end Go.Proofs.YtcglmmbgoonjnaaGreatDoor
