/- ExactTurns holds: for any two half tangents and any two points as they are handed in (any numerators, denominators and powers), the law returns true. Conditions: the three listed tables hold what the program's text lays. -/
import Derived.Test.YtnmlkobogofadaaGreatDoorP22
import Derived.Test.YtnmlkobogofadaaGreatDoorP37
import Derived.Test.YtnmlkobogofadaaGreatDoorP35
import Derived.Test.YtnmlkobogofadaaGreatDoorTie
import Derived.Test.YtnmlkobogofadaaGreatDoorCards
namespace Go.Proofs.YtnmlkobogofadaaGreatDoor
set_option maxRecDepth 100000
set_option maxHeartbeats 80000000
open Go.ChangeShapes Go.WideShapes Go.ChangeAt Go.RowKit Go.Joins
theorem exactTurns_lifted (os:Os) (started:os.Started) (H:Type) (enc:TypeId×Value→H) :
  ReturnsInHanded {} Tryz.checked os 14 .any (fun w args=>(Rows.exactTurnsSpec.pre enc Tryz.prog Tryz.f14 [] false w args∧laidMetH Tryz.prog laidT w)∧sizedMet enc Tryz.prog Tryz.f14 (OpenSpec.ofChange Rows.exactTurnsSpec) false w args)
   (Rows.exactTurnsSpec.post enc Tryz.prog Tryz.f14 false true false false):=by
 refine handed_shaped (C:=Tryz.checked) (X:=fun w=>laidMetH Tryz.prog laidT w) (fun _ _ hh h=>h.of_heap hh) ownK started (by kernel_rfl) Tryz.func14
  (ChangeSpec.witness_shaped (enc:=enc) (C:=Tryz.checked) (os:=os) (X:=fun w _=>laidMetH Tryz.prog laidT w) false (World.laidAll Tryz.prog os laidT) #[.agg #[.int .i64 0,.int .i64 0,.int .u8 0],.agg #[.int .i64 0,.int .i64 0,.int .u8 0],.agg #[.int .i64 0,.int .i64 0,.int .u8 0,.int .i64 0,.int .i64 0,.int .u8 0],.agg #[.int .i64 0,.int .i64 0,.int .u8 0,.int .i64 0,.int .i64 0,.int .u8 0]] 8 (World.laidAll_os _ _ _)
   (World.shaped_of_ZipB (by kernel_rfl) (by kernel_rfl)) (by kernel_rfl) (by kernel_rfl) (by kernel_rfl)
   (by rw [MakeChecks.laidMetH_plain _ _ _ (by kernel_rfl)];exact laidMet_laidAll _ (by kernel_rfl) (by kernel_rfl))) ?_
 intro W base args ds gs before hval0 hW hS hL
 have hval:∀ (j:Nat) t v,Tryz.f14.params[j]? = some t→args[j]? = some v→Value.okWide Tryz.prog W .any base t v:=hval0
 have hW':=hW
 obtain ⟨p,q,hA0,hV,rfl,_,_⟩:=hW
 have hA:DataW.TrodAll enc Tryz.prog W 0 (fun _=>true) true Tryz.f14.params.toList args.toList ds p:=hA0
 rw [Tryz.params14] at hA hval
 obtain ⟨v0,v1,v2,v3,x0,x1,x2,x3,p0,p1,p2,p3,rfl,rfl,rfl,h0,h1,h2,h3⟩:=trodAll_four hA
 obtain ⟨rfl,rfl⟩:=trodVars_none hV
 obtain ⟨n1,d1,b1,rfl,rfl,rfl,g1⟩:=open_num (hval 0 46 v0 rfl rfl) h0
 obtain ⟨n2,d2,b2,rfl,rfl,rfl,g2⟩:=open_num (hval 1 46 v1 rfl rfl) h1
 obtain ⟨n3,d3,b3,n4,d4,b4,rfl,rfl,rfl,g3,g4⟩:=open_spot (hval 2 81 v2 rfl rfl) h2
 obtain ⟨n5,d5,b5,n6,d6,b6,rfl,rfl,rfl,g5,g6⟩:=open_spot (hval 3 81 v3 rfl rfl) h3
 clear hA0 hval0
 simp only [List.append_nil] at hW'
 refine (Rx.turns_q g1.is g2.is g3.is g4.is g5.is g6.is (env_of hL hS)).mono fun e W' ⟨he,hb⟩=>?_
 subst he
 exact ⟨_,rfl,_,_,_,[],[],[],hW',trodAll_mk1 (shut_bool Tryz.underlying4 _),trodAll_mk4 (shut_num g1) (shut_num g2) (shut_spot g3 g4) (shut_spot g5 g6),rfl,hb.frame _,fun h=>by cases h⟩
theorem exactTurns_row:Rows.ExactTurnsSaid:=
 OpenClaim.holds_of_wide 14 Tryz.f14 rfl rfl rfl rfl rfl rfl rfl ⟨rfl,rfl,rfl,rfl,rfl⟩ rfl rfl rfl rfl rfl (by kernel_rfl) Tryz.func14 (by kernel_rfl)
  (of_decide_eq_true (by kernel_rfl)) (by unfold Func.isWrapper;first | (rw [if_pos (by decide +kernel)];kernel_rfl) | (rw [if_neg (by decide +kernel)];exact ⟨rfl,rfl⟩))
  (fun os started H enc _=>exactTurns_lifted os started H enc)
theorem exactTurns_holds:Rows.ExactTurnsCardSaid:=
 Claim7.holds_tied_plain_at .later [] [.data,.data,.data] true _ false
  exactTurns_row (fun _ h=>by cases h) (by kernel_rfl) (fun _ h=>by cases h) exactTurns_row_tie rfl ⟨rfl,rfl⟩ (by kernel_rfl) rfl
  (fun f fn hf hfn=>by
   obtain rfl:f=14:=Option.some.inj ((show Tryz.prog.funcNamed "amble/amblelaw01.ExactTurns" = some 14 by kernel_rfl).symm.trans hf) |>.symm
   obtain rfl:fn=Tryz.f14:=(Option.some.inj (Tryz.func14.symm.trans hfn)).symm
   exact ⟨by kernel_rfl,fun j t ht=>by
    rw [Tryz.params14] at ht
    have hm:t∈[46,81]:=by simpa using Array.mem_of_getElem? ht
    have hall:([46,81].all fun u=>!Tryz.prog.wantsStandIn u)=true:=by kernel_rfl
    exact (show Tryz.prog.wantsStandIn t=false by simpa using List.all_eq_true.1 hall t hm)⟩)
  (by kernel_rfl)
#print axioms exactTurns_holds
end Go.Proofs.YtnmlkobogofadaaGreatDoor
