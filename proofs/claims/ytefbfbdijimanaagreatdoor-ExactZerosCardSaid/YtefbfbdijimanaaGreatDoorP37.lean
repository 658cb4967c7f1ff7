/- ExactZeros holds: for any three numbers and any number with a root as they are handed in (any numerators, denominators and powers), the law returns true. Conditions: the three listed tables hold what the program's text lays. -/
import Derived.Test.YtefbfbdijimanaaGreatDoorP22
import Derived.Test.YtefbfbdijimanaaGreatDoorP32
import Derived.Test.YtefbfbdijimanaaGreatDoorP36
import Derived.Test.YtefbfbdijimanaaGreatDoorTie
import Derived.Test.YtefbfbdijimanaaGreatDoorCards
namespace Go.Proofs.YtefbfbdijimanaaGreatDoor
set_option maxRecDepth 100000
set_option maxHeartbeats 80000000
section
open Go.ChangeShapes Go.WideShapes Go.ChangeAt Go.RowKit Go.Joins
theorem Ro (os:Os) (started:os.Started) (H:Type) (enc:TypeId×Value→H) :
  ReturnsInHanded {} Tryz.checked os 6 .any (fun w args=>(Rows.exactZerosSpec.pre enc Tryz.prog Tryz.f6 [] false w args∧laidMetH Tryz.prog uV w)∧sizedMet enc Tryz.prog Tryz.f6 (OpenSpec.ofChange Rows.exactZerosSpec) false w args)
   (Rows.exactZerosSpec.post enc Tryz.prog Tryz.f6 false true false false):=by
 refine Un (C:=Tryz.checked) (X:=fun w=>laidMetH Tryz.prog uV w) (fun _ _ hh h=>h.of_heap hh) WZ started (by kernel_rfl) Tryz.func6
  (ChangeSpec.witness_shaped (enc:=enc) (C:=Tryz.checked) (os:=os) (X:=fun w _=>laidMetH Tryz.prog uV w) false (World.laidAll Tryz.prog os uV) #[.agg #[.int .i64 0,.int .i64 0,.int .u8 0],.agg #[.int .i64 0,.int .i64 0,.int .u8 0],.agg #[.int .i64 0,.int .i64 0,.int .u8 0],.agg #[.int .i64 0,.int .i64 0,.int .u8 0,.int .i64 0,.int .i64 0,.int .u8 0,.int .i64 0,.int .i64 0,.int .u8 0]] 8 (World.laidAll_os _ _ _)
   (World.shaped_of_ZipB (by kernel_rfl) (by kernel_rfl)) (by kernel_rfl) (by kernel_rfl) (by kernel_rfl)
   (by rw [MakeChecks.laidMetH_plain _ _ _ (by kernel_rfl)];exact laidMet_laidAll _ (by kernel_rfl) (by kernel_rfl))) ?_
 intro W base args ds gs before hval0 hW hS hL
 have hval:∀ (j:Nat) t v,Tryz.f6.params[j]? = some t→args[j]? = some v→Value.okWide Tryz.prog W .any base t v:=hval0
 have hW':=hW
 obtain ⟨p,q,hA0,hV,rfl,_,_⟩:=hW
 have hA:DataW.TrodAll enc Tryz.prog W 0 (fun _=>true) true Tryz.f6.params.toList args.toList ds p:=hA0
 rw [Tryz.params6] at hA hval
 obtain ⟨v0,v1,v2,v3,x0,x1,x2,x3,p0,p1,p2,p3,rfl,rfl,rfl,h0,h1,h2,h3⟩:=trodAll_four hA
 obtain ⟨rfl,rfl⟩:=trodVars_none hV
 obtain ⟨n1,d1,b1,rfl,rfl,rfl,g1⟩:=D8 (hval 0 23 v0 rfl rfl) h0
 obtain ⟨n2,d2,b2,rfl,rfl,rfl,g2⟩:=D8 (hval 1 23 v1 rfl rfl) h1
 obtain ⟨n3,d3,b3,rfl,rfl,rfl,g3⟩:=D8 (hval 2 23 v2 rfl rfl) h2
 obtain ⟨n4,d4,b4,n5,d5,b5,n6,d6,b6,rfl,rfl,rfl,g4,g5,g6⟩:=WQ (hval 3 104 v3 rfl rfl) h3
 clear hA0 hval0
 simp only [List.append_nil] at hW'
 refine (Rx.aa1 g1.is g2.is g3.is g4.is g5.is g6.is (Q9 hL hS)).mono fun e W' ⟨he,hb⟩=>?_
 subst he
 exact ⟨_,rfl,_,_,_,[],[],[],hW',trodAll_mk1 (shut_bool Tryz.underlying4 _),trodAll_mk4 (tN g1) (tN g2) (tN g3) (YR g4 g5 g6),rfl,hb.frame _,fun h=>by cases h⟩
theorem Rn:joinedFacts Tryz.prog 6 Tryz.f6 Rows.exactZerosSpec Rows.exactZerosRow=true:=by kernel_rfl
theorem Rq:Rows.ExactZerosSaid:=
 OpenClaim.holds_of_wide 6 Tryz.f6 rfl rfl rfl rfl rfl rfl rfl ⟨rfl,rfl,rfl,rfl,rfl⟩ rfl rfl rfl rfl rfl (by kernel_rfl) Tryz.func6 Rn
  (of_decide_eq_true (by kernel_rfl)) (by unfold Func.isWrapper;first | (rw [if_pos (by decide +kernel)];kernel_rfl) | (rw [if_neg (by decide +kernel)];exact ⟨rfl,rfl⟩))
  (fun os started H enc _=>Ro os started H enc)
theorem exactZeros_holds:Rows.ExactZerosCardSaid:=
 Claim7.holds_tied_plain_at .later [] [.data,.data,.data] true _ false
  Rq (fun _ h=>by cases h) (by kernel_rfl) (fun _ h=>by cases h) exactZeros_row_tie rfl ⟨rfl,rfl⟩ (by kernel_rfl) rfl
  (fun f fn hf hfn=>by
   obtain rfl:f=6:=Option.some.inj ((show Tryz.prog.funcNamed "amble/amblelaw01.ExactZeros" = some 6 by kernel_rfl).symm.trans hf) |>.symm
   obtain rfl:fn=Tryz.f6:=(Option.some.inj (Tryz.func6.symm.trans hfn)).symm
   exact ⟨by kernel_rfl,fun j t ht=>by
    rw [Tryz.params6] at ht
    have hm:t∈[23,104]:=by simpa using Array.mem_of_getElem? ht
    have hall:([23,104].all fun u=>!Tryz.prog.wantsStandIn u)=true:=by kernel_rfl
    exact (show Tryz.prog.wantsStandIn t=false by simpa using List.all_eq_true.1 hall t hm)⟩)
  (by kernel_rfl)
#print axioms exactZeros_holds
end
end Go.Proofs.YtefbfbdijimanaaGreatDoor
