/- ExactNears holds: for any number as it is handed in (any numerator, denominator and power) and any two integers, the law returns true. Conditions: the three listed tables hold what the program's text lays. -/
import Derived.Test.YthalajpklaodkaaGreatDoorQ22
import Derived.Test.YthalajpklaodkaaGreatDoorQ34
import Derived.Test.YthalajpklaodkaaGreatDoorQ37
import Derived.Test.YthalajpklaodkaaGreatDoorTie
import Derived.Test.YthalajpklaodkaaGreatDoorCards
namespace Go.Proofs.YthalajpklaodkaaGreatDoor
set_option maxRecDepth 100000
set_option maxHeartbeats 80000000
section
open Go.ChangeShapes Go.WideShapes Go.ChangeAt Go.RowKit Go.Joins
theorem UA (os:Os) (started:os.Started) (H:Type) (enc:TypeId×Value→H) :
  ReturnsInHanded {} Tryz.checked os 5 .any (fun w args=>(Rows.exactNearsSpec.pre enc Tryz.prog Tryz.f5 [] false w args∧laidMetH Tryz.prog vW w)∧sizedMet enc Tryz.prog Tryz.f5 (OpenSpec.ofChange Rows.exactNearsSpec) false w args)
   (Rows.exactNearsSpec.post enc Tryz.prog Tryz.f5 false true false false):=by
 refine VW (C:=Tryz.checked) (X:=fun w=>laidMetH Tryz.prog vW w) (fun _ _ hh h=>h.of_heap hh) Y5 started (by kernel_rfl) Tryz.func5
  (ChangeSpec.witness_shaped (enc:=enc) (C:=Tryz.checked) (os:=os) (X:=fun w _=>laidMetH Tryz.prog vW w) false (World.laidAll Tryz.prog os vW) #[.agg #[.int .i64 0,.int .i64 0,.int .u8 0],.int .i64 0,.int .i64 0] 8 (World.laidAll_os _ _ _)
   (World.shaped_of_ZipB (by kernel_rfl) (by kernel_rfl)) (by kernel_rfl) (by kernel_rfl) (by kernel_rfl)
   (by rw [MakeChecks.laidMetH_plain _ _ _ (by kernel_rfl)];exact laidMet_laidAll _ (by kernel_rfl) (by kernel_rfl))) ?_
 intro W base args ds gs before hval0 hW hS hL
 have hval:∀ (j:Nat) t v,Tryz.f5.params[j]? = some t→args[j]? = some v→Value.okWide Tryz.prog W .any base t v:=hval0
 have hW':=hW
 obtain ⟨p,q,hA0,hV,rfl,_,_⟩:=hW
 have hA:DataW.TrodAll enc Tryz.prog W 0 (fun _=>true) true Tryz.f5.params.toList args.toList ds p:=hA0
 rw [Tryz.params5] at hA hval
 obtain ⟨v0,v1,v2,x0,x1,x2,p0,p1,p2,rfl,rfl,rfl,h0,h1,h2⟩:=trodAll_three hA
 obtain ⟨rfl,rfl⟩:=trodVars_none hV
 obtain ⟨n1,d1,b1,rfl,rfl,rfl,g1⟩:=YX (hval 0 23 v0 rfl rfl) h0
 obtain ⟨n2,rfl,rfl,rfl,g2⟩:=open_int Tryz.underlying2 (hval 1 2 v1 rfl rfl) h1
 obtain ⟨n3,rfl,rfl,rfl,g3⟩:=open_int Tryz.underlying3 (hval 2 3 v2 rfl rfl) h2
 clear hA0 hval0
 simp only [List.append_nil] at hW'
 refine (Rx.Yx g1.is (uf g2) (uf g3) (Uu hL hS)).mono fun e W' ⟨he,hb⟩=>?_
 subst he
 exact ⟨_,rfl,_,_,_,[],[],[],hW',trodAll_mk1 (shut_bool Tryz.underlying4 _),trodAll_mk3 (aaJ g1) (shut_int Tryz.underlying2 g2) (shut_int Tryz.underlying3 g3),rfl,hb.frame _,fun h=>by cases h⟩
theorem Uz:joinedFacts Tryz.prog 5 Tryz.f5 Rows.exactNearsSpec Rows.exactNearsRow=true:=by kernel_rfl
theorem UC:Rows.ExactNearsSaid:=
 OpenClaim.holds_of_wide 5 Tryz.f5 rfl rfl rfl rfl rfl rfl rfl ⟨rfl,rfl,rfl,rfl,rfl⟩ rfl rfl rfl rfl rfl (by kernel_rfl) Tryz.func5 Uz
  (of_decide_eq_true (by kernel_rfl)) (by unfold Func.isWrapper;first | (rw [if_pos (by decide +kernel)];kernel_rfl) | (rw [if_neg (by decide +kernel)];exact ⟨rfl,rfl⟩))
  (fun os started H enc _=>UA os started H enc)
theorem exactNears_holds:Rows.ExactNearsCardSaid:=
 Claim7.holds_tied_plain_at .later [] [.data,.data,.data] true _ false
  UC (fun _ h=>by cases h) (by kernel_rfl) (fun _ h=>by cases h) exactNears_row_tie rfl ⟨rfl,rfl⟩ (by kernel_rfl) rfl
  (fun f fn hf hfn=>by
   obtain rfl:f=5:=Option.some.inj ((show Tryz.prog.funcNamed "amble/amblelaw01.ExactNears" = some 5 by kernel_rfl).symm.trans hf) |>.symm
   obtain rfl:fn=Tryz.f5:=(Option.some.inj (Tryz.func5.symm.trans hfn)).symm
   exact ⟨by kernel_rfl,fun j t ht=>by
    rw [Tryz.params5] at ht
    have hm:t∈[23,2,3]:=by simpa using Array.mem_of_getElem? ht
    have hall:([23,2,3].all fun u=>!Tryz.prog.wantsStandIn u)=true:=by kernel_rfl
    exact (show Tryz.prog.wantsStandIn t=false by simpa using List.all_eq_true.1 hall t hm)⟩)
  (by kernel_rfl)
#print axioms exactNears_holds
end
end Go.Proofs.YthalajpklaodkaaGreatDoor
