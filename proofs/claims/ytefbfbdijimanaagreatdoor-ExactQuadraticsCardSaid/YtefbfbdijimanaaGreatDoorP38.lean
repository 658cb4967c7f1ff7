/- ExactQuadratics holds: for any three numbers as they are handed in (any numerators, denominators and powers), the law returns true. Conditions: the three listed tables hold what the program's text lays. -/
import Derived.Test.YtefbfbdijimanaaGreatDoorP22
import Derived.Test.YtefbfbdijimanaaGreatDoorP32
import Derived.Test.YtefbfbdijimanaaGreatDoorP37
import Derived.Test.YtefbfbdijimanaaGreatDoorTie
import Derived.Test.YtefbfbdijimanaaGreatDoorCards
namespace Go.Proofs.YtefbfbdijimanaaGreatDoor
set_option maxRecDepth 100000
set_option maxHeartbeats 80000000
section
open Go.ChangeShapes Go.WideShapes Go.ChangeAt Go.RowKit Go.Joins
theorem Tv (os:Os) (started:os.Started) (H:Type) (enc:TypeId×Value→H) :
  ReturnsInHanded {} Tryz.checked os 4 .any (fun w args=>(Rows.exactQuadraticsSpec.pre enc Tryz.prog Tryz.f4 [] false w args∧laidMetH Tryz.prog vI w)∧sizedMet enc Tryz.prog Tryz.f4 (OpenSpec.ofChange Rows.exactQuadraticsSpec) false w args)
   (Rows.exactQuadraticsSpec.post enc Tryz.prog Tryz.f4 false true false false):=by
 refine Vy (C:=Tryz.checked) (X:=fun w=>laidMetH Tryz.prog vI w) (fun _ _ hh h=>h.of_heap hh) Yf started (by kernel_rfl) Tryz.func4
  (ChangeSpec.witness_shaped (enc:=enc) (C:=Tryz.checked) (os:=os) (X:=fun w _=>laidMetH Tryz.prog vI w) false (World.laidAll Tryz.prog os vI) #[.agg #[.int .i64 0,.int .i64 0,.int .u8 0],.agg #[.int .i64 0,.int .i64 0,.int .u8 0],.agg #[.int .i64 0,.int .i64 0,.int .u8 0]] 8 (World.laidAll_os _ _ _)
   (World.shaped_of_ZipB (by kernel_rfl) (by kernel_rfl)) (by kernel_rfl) (by kernel_rfl) (by kernel_rfl)
   (by rw [MakeChecks.laidMetH_plain _ _ _ (by kernel_rfl)];exact laidMet_laidAll _ (by kernel_rfl) (by kernel_rfl))) ?_
 intro W base args ds gs before hval0 hW hS hL
 have hval:∀ (j:Nat) t v,Tryz.f4.params[j]? = some t→args[j]? = some v→Value.okWide Tryz.prog W .any base t v:=hval0
 have hW':=hW
 obtain ⟨p,q,hA0,hV,rfl,_,_⟩:=hW
 have hA:DataW.TrodAll enc Tryz.prog W 0 (fun _=>true) true Tryz.f4.params.toList args.toList ds p:=hA0
 rw [Tryz.params4] at hA hval
 obtain ⟨v0,v1,v2,x0,x1,x2,p0,p1,p2,rfl,rfl,rfl,h0,h1,h2⟩:=trodAll_three hA
 obtain ⟨rfl,rfl⟩:=trodVars_none hV
 obtain ⟨n1,d1,b1,rfl,rfl,rfl,g1⟩:=ES (hval 0 23 v0 rfl rfl) h0
 obtain ⟨n2,d2,b2,rfl,rfl,rfl,g2⟩:=ES (hval 1 23 v1 rfl rfl) h1
 obtain ⟨n3,d3,b3,rfl,rfl,rfl,g3⟩:=ES (hval 2 23 v2 rfl rfl) h2
 clear hA0 hval0
 simp only [List.append_nil] at hW'
 refine (Rx.YN g1.is g2.is g3.is (Tf hL hS)).mono fun e W' ⟨he,hb⟩=>?_
 subst he
 exact ⟨_,rfl,_,_,_,[],[],[],hW',trodAll_mk1 (shut_bool Tryz.underlying4 _),trodAll_mk3 (F7 g1) (F7 g2) (F7 g3),rfl,hb.frame _,fun h=>by cases h⟩
theorem Tt:joinedFacts Tryz.prog 4 Tryz.f4 Rows.exactQuadraticsSpec Rows.exactQuadraticsRow=true:=by kernel_rfl
theorem Tz:Rows.ExactQuadraticsSaid:=
 OpenClaim.holds_of_wide 4 Tryz.f4 rfl rfl rfl rfl rfl rfl rfl ⟨rfl,rfl,rfl,rfl,rfl⟩ rfl rfl rfl rfl rfl (by kernel_rfl) Tryz.func4 Tt
  (of_decide_eq_true (by kernel_rfl)) (by unfold Func.isWrapper;first | (rw [if_pos (by decide +kernel)];kernel_rfl) | (rw [if_neg (by decide +kernel)];exact ⟨rfl,rfl⟩))
  (fun os started H enc _=>Tv os started H enc)
theorem exactQuadratics_holds:Rows.ExactQuadraticsCardSaid:=
 Claim7.holds_tied_plain_at .later [] [.data,.data,.data] true _ false
  Tz (fun _ h=>by cases h) (by kernel_rfl) (fun _ h=>by cases h) exactQuadratics_row_tie rfl ⟨rfl,rfl⟩ (by kernel_rfl) rfl
  (fun f fn hf hfn=>by
   obtain rfl:f=4:=Option.some.inj ((show Tryz.prog.funcNamed "amble/amblelaw01.ExactQuadratics" = some 4 by kernel_rfl).symm.trans hf) |>.symm
   obtain rfl:fn=Tryz.f4:=(Option.some.inj (Tryz.func4.symm.trans hfn)).symm
   exact ⟨by kernel_rfl,fun j t ht=>by
    rw [Tryz.params4] at ht
    have hm:t∈[23]:=by simpa using Array.mem_of_getElem? ht
    have hall:([23].all fun u=>!Tryz.prog.wantsStandIn u)=true:=by kernel_rfl
    exact (show Tryz.prog.wantsStandIn t=false by simpa using List.all_eq_true.1 hall t hm)⟩)
  (by kernel_rfl)
#print axioms exactQuadratics_holds
end
end Go.Proofs.YtefbfbdijimanaaGreatDoor
