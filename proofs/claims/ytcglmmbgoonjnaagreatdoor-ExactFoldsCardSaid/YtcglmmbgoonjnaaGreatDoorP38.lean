/- ExactFolds holds: for any list of numbers as it is handed in (nil, empty, short, long; any numerators, denominators and powers), the law returns true. Conditions: the three listed tables hold what the program's text lays. -/
import Derived.Test.YtcglmmbgoonjnaaGreatDoorP22
import Derived.Test.YtcglmmbgoonjnaaGreatDoorP37
import Derived.Test.YtcglmmbgoonjnaaGreatDoorTie
import Derived.Test.YtcglmmbgoonjnaaGreatDoorCards
namespace Go.Proofs.YtcglmmbgoonjnaaGreatDoor
set_option maxRecDepth 100000
set_option maxHeartbeats 80000000
section
open Go.ChangeShapes Go.WideShapes Go.ChangeAt Go.RowKit Go.Joins
theorem Nj (os:Os) (started:os.Started) (H:Type) (enc:TypeId×Value→H) :
  ReturnsInHanded {} Tryz.checked os 7 .any (fun w args=>(Rows.exactFoldsSpec.pre enc Tryz.prog Tryz.f7 [] false w args∧laidMetH Tryz.prog qV w)∧sizedMet enc Tryz.prog Tryz.f7 (OpenSpec.ofChange Rows.exactFoldsSpec) false w args)
   (Rows.exactFoldsSpec.post enc Tryz.prog Tryz.f7 false true false false):=by
 refine OV (C:=Tryz.checked) (X:=fun w=>laidMetH Tryz.prog qV w) (fun _ _ hh h=>h.of_heap hh) RY started (by kernel_rfl) Tryz.func7
  (ChangeSpec.witness_shaped (enc:=enc) (C:=Tryz.checked) (os:=os) (X:=fun w _=>laidMetH Tryz.prog qV w) false (World.laidAll Tryz.prog os qV) #[.slice none 0 0] 8 (World.laidAll_os _ _ _)
   (World.shaped_of_ZipB (by kernel_rfl) (by kernel_rfl)) (by kernel_rfl) (by kernel_rfl) (by kernel_rfl)
   (by rw [MakeChecks.laidMetH_plain _ _ _ (by kernel_rfl)];exact laidMet_laidAll _ (by kernel_rfl) (by kernel_rfl))) ?_
 intro W base args ds gs before hval0 hW hS hL
 have hval:∀ (j:Nat) t v,Tryz.f7.params[j]? = some t→args[j]? = some v→Value.okWide Tryz.prog W .any base t v:=hval0
 have hW':=hW
 obtain ⟨p,q,hA0,hV,rfl,_,_⟩:=hW
 have hA:DataW.TrodAll enc Tryz.prog W 0 (fun _=>true) true Tryz.f7.params.toList args.toList ds p:=hA0
 rw [Tryz.params7] at hA hval
 obtain ⟨v0,x0,rfl,rfl,h0⟩:=trodAll_one hA
 obtain ⟨rfl,rfl⟩:=trodVars_none hV
 obtain ⟨a0,len,cap,rfl⟩:=okWide_slice (show Tryz.prog.underlying 72=some (.slice 46) by kernel_rfl) (hval 0 72 v0 rfl rfl)
 clear hA0 hval0
 simp only [List.append_nil] at hW'
 have hlt:∀ x∈p,x.block<W.heap.size:=fun x hx=>by simpa using hW'.lt x hx
 obtain ⟨L,hL2⟩:=RQ h0
 refine (Rx.NQ hL2 (Nc hL hS)).mono fun e W' ⟨he,hb⟩=>?_
 subst he
 exact ⟨_,rfl,_,_,_,[],p,[],hW',trodAll_mk1 (shut_bool Tryz.underlying4 _),trodAll_mk1 (Below.trod (by kernel_rfl) (by kernel_rfl) (of_decide_eq_true (by kernel_rfl)) h0 hb hlt),rfl,hb.frame _,fun h=>by cases h⟩
theorem Nh:joinedFacts Tryz.prog 7 Tryz.f7 Rows.exactFoldsSpec Rows.exactFoldsRow=true:=by kernel_rfl
theorem Nk:Rows.ExactFoldsSaid:=
 OpenClaim.holds_of_wide 7 Tryz.f7 rfl rfl rfl rfl rfl rfl rfl ⟨rfl,rfl,rfl,rfl,rfl⟩ rfl rfl rfl rfl rfl (by kernel_rfl) Tryz.func7 Nh
  (of_decide_eq_true (by kernel_rfl)) (by unfold Func.isWrapper;first | (rw [if_pos (by decide +kernel)];kernel_rfl) | (rw [if_neg (by decide +kernel)];exact ⟨rfl,rfl⟩))
  (fun os started H enc _=>Nj os started H enc)
theorem exactFolds_holds:Rows.ExactFoldsCardSaid:=
 Claim7.holds_tied_plain_at .later [] [.data,.data,.data] true _ false
  Nk (fun _ h=>by cases h) (by kernel_rfl) (fun _ h=>by cases h) exactFolds_row_tie rfl ⟨rfl,rfl⟩ (by kernel_rfl) rfl
  (fun f fn hf hfn=>by
   obtain rfl:f=7:=Option.some.inj ((show Tryz.prog.funcNamed "amble/amblelaw01.ExactFolds" = some 7 by kernel_rfl).symm.trans hf) |>.symm
   obtain rfl:fn=Tryz.f7:=(Option.some.inj (Tryz.func7.symm.trans hfn)).symm
   exact ⟨by kernel_rfl,fun j t ht=>by
    rw [Tryz.params7] at ht
    have hm:t∈[72]:=by simpa using Array.mem_of_getElem? ht
    have hall:([72].all fun u=>!Tryz.prog.wantsStandIn u)=true:=by kernel_rfl
    exact (show Tryz.prog.wantsStandIn t=false by simpa using List.all_eq_true.1 hall t hm)⟩)
  (by kernel_rfl)
#print axioms exactFolds_holds
end
end Go.Proofs.YtcglmmbgoonjnaaGreatDoor
