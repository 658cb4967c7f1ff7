/- ExactTexts holds: for any two numbers as they are handed in (any numerators, denominators and powers), the law returns true. Conditions: the three listed tables hold what the program's text lays. -/
import Derived.Test.YtppjkikaaonbkaaGreatDoorP23
import Derived.Test.YtppjkikaaonbkaaGreatDoorT00
import Derived.Test.YtppjkikaaonbkaaGreatDoorP36
import Derived.Test.YtppjkikaaonbkaaGreatDoorTie
import Derived.Test.YtppjkikaaonbkaaGreatDoorCards
namespace Go.Proofs.YtppjkikaaonbkaaGreatDoor
set_option maxRecDepth 100000
set_option maxHeartbeats 80000000
open Go.ChangeShapes Go.WideShapes Go.ChangeAt Go.RowKit Go.Joins
theorem exactTexts_lifted (os : Os) (started : os.Started) (H : Type) (enc : TypeId × Value → H) :
  ReturnsInHanded {} Tryz.checked os 11 .any (fun w args => (Rows.exactTextsSpec.pre enc Tryz.prog Tryz.f11 [] false w args ∧ laidMetH Tryz.prog laidT w) ∧ sizedMet enc Tryz.prog Tryz.f11 (OpenSpec.ofChange Rows.exactTextsSpec) false w args)
   (Rows.exactTextsSpec.post enc Tryz.prog Tryz.f11 false true false false) := by
 refine handed_shaped (C := Tryz.checked) (X := fun w => laidMetH Tryz.prog laidT w) (fun _ _ hh h => h.of_heap hh) ownK started (by kernel_rfl) Tryz.func11
  (ChangeSpec.witness_shaped (enc := enc) (C := Tryz.checked) (os := os) (X := fun w _ => laidMetH Tryz.prog laidT w) false (World.laidAll Tryz.prog os laidT) #[.agg #[.int .i64 0, .int .i64 0, .int .u8 0], .agg #[.int .i64 0, .int .i64 0, .int .u8 0]] 8 (World.laidAll_os _ _ _)
   (World.shaped_of_ZipB (by kernel_rfl) (by kernel_rfl)) (by kernel_rfl) (by kernel_rfl) (by kernel_rfl)
   (by rw [MakeChecks.laidMetH_plain _ _ _ (by kernel_rfl)]; exact laidMet_laidAll _ (by kernel_rfl) (by kernel_rfl))) ?_
 intro W base args ds gs before hval0 hW hS hL
 have hval : ∀ (j : Nat) t v, Tryz.f11.params[j]? = some t → args[j]? = some v → Value.okWide Tryz.prog W .any base t v := hval0
 have hW' := hW
 obtain ⟨p, q, hA0, hV, rfl, _, _⟩ := hW
 have hA : DataW.TrodAll enc Tryz.prog W 0 (fun _ => true) true Tryz.f11.params.toList args.toList ds p := hA0
 rw [Tryz.params11] at hA hval
 obtain ⟨v0, v1, x0, x1, p0, p1, rfl, rfl, rfl, h0, h1⟩ := trodAll_two hA
 obtain ⟨rfl, rfl⟩ := trodVars_none hV
 obtain ⟨n1, d1, b1, rfl, rfl, rfl, g1⟩ := open_num (hval 0 46 v0 rfl rfl) h0
 obtain ⟨n2, d2, b2, rfl, rfl, rfl, g2⟩ := open_num (hval 1 46 v1 rfl rfl) h1
 clear hA0 hval0
 simp only [List.append_nil] at hW'
 refine (texts_walk n1 d1 n2 d2 b1 b2 (numOf n1 d1 b1) (numOf n2 d2 b2) (hid fun W hT => Both_calls n1 d1 b1 g1.b1 g1.n1 g1.n2 g1.d1 g1.d2 W hT) (hid fun W hT => Both_calls n2 d2 b2 g2.b1 g2.n1 g2.n2 g2.d1 g2.d2 W hT) (numOf_fits n1 d1 b1 g1.n1 g1.n2 g1.d1 g1.d2) (numOf_fits n2 d2 b2 g2.n1 g2.n2 g2.d1 g2.d2) nearOK W (env_of hL hS)).mono fun e W' ⟨he, hb⟩ => ?_
 subst he
 exact ⟨_, rfl, _, _, _, [], [], [], hW', trodAll_mk1 (shut_bool Tryz.underlying4 _), trodAll_mk2 (shut_num g1) (shut_num g2), rfl, hb.frame _, fun h => by cases h⟩
theorem exactTexts_row : Rows.ExactTextsSaid :=
 OpenClaim.holds_of_wide 11 Tryz.f11 rfl rfl rfl rfl rfl rfl rfl ⟨rfl, rfl, rfl, rfl, rfl⟩ rfl rfl rfl rfl rfl (by kernel_rfl) Tryz.func11 (by kernel_rfl)
  (of_decide_eq_true (by kernel_rfl)) (by unfold Func.isWrapper; first | (rw [if_pos (by decide +kernel)]; kernel_rfl) | (rw [if_neg (by decide +kernel)]; exact ⟨rfl, rfl⟩))
  (fun os started H enc _ => exactTexts_lifted os started H enc)
theorem exactTexts_holds : Rows.ExactTextsCardSaid :=
 Claim7.holds_tied_plain_at .later [] [.data, .data, .data] true _ false
  exactTexts_row (fun _ h => by cases h) (by kernel_rfl) (fun _ h => by cases h) exactTexts_row_tie rfl ⟨rfl, rfl⟩ (by kernel_rfl) rfl
  (fun f fn hf hfn => by
   obtain rfl : f = 11 := Option.some.inj ((show Tryz.prog.funcNamed "amble/amblelaw01.ExactTexts" = some 11 by kernel_rfl).symm.trans hf) |>.symm
   obtain rfl : fn = Tryz.f11 := (Option.some.inj (Tryz.func11.symm.trans hfn)).symm
   exact ⟨by kernel_rfl, fun j t ht => by
    rw [Tryz.params11] at ht
    have hm : t ∈ [46] := by simpa using Array.mem_of_getElem? ht
    have hall : ([46].all fun u => !Tryz.prog.wantsStandIn u) = true := by kernel_rfl
    exact (show Tryz.prog.wantsStandIn t = false by simpa using List.all_eq_true.1 hall t hm)⟩)
  (by kernel_rfl)
#print axioms exactTexts_holds
end Go.Proofs.YtppjkikaaonbkaaGreatDoor
