/- What the proof rests on, part 31: num, is, same: the statements' own words. The examples' numbers. The examples that each statement asks for. Regions within a round of a loop over an iterator, out of their walks anywhere; and the loop itself. No program. What a round of a loop over an iterator leaves as it was; the loop, by its roun -/
import Derived.Test.YtppjkikaaonbkaaGreatDoorP25
import Derived.Test.YtppjkikaaonbkaaGreatDoorP26
import Derived.Test.YtppjkikaaonbkaaGreatDoorP30
import Derived.Test.YtppjkikaaonbkaaGreatDoorP23
import Derived.RangeFuncOwn
import Derived.RangeFuncRecord
import Derived.OrdersIn
import Derived.Test.YtppjkikaaonbkaaGreatDoorP21
namespace Go.Proofs.YtppjkikaaonbkaaGreatDoor
set_option maxRecDepth 100000
set_option maxHeartbeats 80000000
open Go.RowKit Go.Sort
attribute [local go_sem] takes takesUpon_value takesUpon_skip takesUpon_enter
theorem num_calls (l : List UInt8) (r : Rat) (c : Int) (w : World) (H : Hid (∀ W, Below w.heap.size w W → Calls Tryz.prog 16 #[.string ⟨l.toArray⟩] W (RetQE W r c))) :
  Calls Tryz.prog 93 #[.string ⟨l.toArray⟩] w (RetQ w r) := by
 go_enter Tryz.func93, Tryz.ntmps93
 go_wp2_with fail
 have hS0 := hid ((St.start w).alloc' (w.heap.size) (by simp) 31 z5)
 obtain ⟨W0, hW0⟩ := nameW hS0
 rw [hW0] at hS0 ⊢
 clear hW0
 refine (H.out _ hS0.out.bel).mono ?_
 rintro e w1 ⟨v1, rfl, hv1, hB⟩
 have hS1 := hid (hS0.out.call hB)
 clear hB
 clear hS0
 obtain ⟨t1, x1, p1, l1, q1, y1, r1, s1, u1, rfl⟩ := hv1.open
 have hS2 := hid (hS1.out.fq hv1)
 clear hS1 hv1
 obtain ⟨ne1l, ne1, ne1'⟩ := hS2.out.ne 0 w.heap.size 31 z5 rfl
 obtain ⟨⟨cR0, cR1, cR2, cR3, cR4⟩, fR0, fR1, fR2, fR3, fR4⟩ := hS2.out.f5 0 w.heap.size 31 (.bool false) (.int .u64 0) (.slice none 0 0) (.int .u64 0) (.slice none 0 0) rfl
 have hS3 := hid ((((((((hS2.out).store (b := ⟨w.heap.size, 31, z5⟩) 0 0 (.bool t1) rfl rfl).store (b := ⟨w.heap.size, 31, [.bool t1, .int .u64 0, .slice none 0 0, .int .u64 0, .slice none 0 0]⟩) 0 1 (.int .u64 x1) rfl rfl).store (b := ⟨w.heap.size, 31, [.bool t1, .int .u64 x1, .slice none 0 0, .int .u64 0, .slice none 0 0]⟩) 0 2 (.slice p1 l1 q1) rfl rfl).store (b := ⟨w.heap.size, 31, [.bool t1, .int .u64 x1, .slice p1 l1 q1, .int .u64 0, .slice none 0 0]⟩) 0 3 (.int .u64 y1) rfl rfl).store (b := ⟨w.heap.size, 31, [.bool t1, .int .u64 x1, .slice p1 l1 q1, .int .u64 y1, .slice none 0 0]⟩) 0 4 (.slice r1 s1 u1) rfl rfl).alloc' (w1.heap.size) (by simp) 31 (c5 t1 x1 p1 l1 q1 y1 r1 s1 u1)).as [⟨w1.heap.size, 31, (c5 t1 x1 p1 l1 q1 y1 r1 s1 u1)⟩, ⟨w.heap.size, 31, (c5 t1 x1 p1 l1 q1 y1 r1 s1 u1)⟩] rfl)
 go_wp2_with fail
 clear cR0 cR1 cR2 cR3 cR4 fR0 fR1 fR2 fR3 fR4
 obtain ⟨⟨zR0, zR1, zR2, zR3, zR4⟩, -⟩ := hS3.out.f5 1 w.heap.size 31 (.bool t1) (.int .u64 x1) (.slice p1 l1 q1) (.int .u64 y1) (.slice r1 s1 u1) rfl
 exact bodyPost_ret (v := .agg #[.bool t1, .int .u64 x1, .slice p1 l1 q1, .int .u64 y1, .slice r1 s1 u1]) (by simp [results, Tryz.results93, go_sem, zR0, zR1, zR2, zR3, zR4]) rfl ⟨_, rfl, (hS3.out.gq 0 rfl), hS3.out.bel⟩
theorem is_calls (l : List UInt8) (r : Rat) (v : Value) (k : Nat) (w : World) (h : IsQ w v r) (hk : k ≤ 1073741824) (f : Fits k r) (hE : Env w) :
  Calls Tryz.prog 92 #[v, .string ⟨l.toArray⟩] w (RetI w (.bool (qText r == l))) := by
 have HX := hid (fun (W : World) (v : Value) (h : IsQ W v r) (hT : Tab10 W) => Text_calls r v k W h hk f hT)
 obtain ⟨D, hD⟩ : ∃ D, qText r = D := ⟨_, rfl⟩
 rw [hD] at HX ⊢
 obtain ⟨t1, x1, p1, l1, q1, y1, r1, s1, u1, rfl⟩ := h.open
 have HI := hid (And.intro h hE)
 clear h hE hD f
 go_enter Tryz.func92, Tryz.ntmps92
 go_wp2_with fail
 have hS0 := hid ((St.start w).alloc' (w.heap.size) (by simp) 31 (c5 t1 x1 p1 l1 q1 y1 r1 s1 u1))
 obtain ⟨W0, hW0⟩ := nameW hS0
 rw [hW0] at hS0 ⊢
 clear hW0
 have hi1 := HI.out.1.below hS0.out.bel
 have hS1 := hid (hS0.out.fq hi1)
 clear hS0 hi1
 refine (HX.out _ _ (hS1.out.gq 0 rfl) (HI.out.2.below hS1.out.bel (Nat.le_refl _)).ten).mono ?_
 rintro e w1 ⟨rfl, hB⟩
 have hS2 := hid (hS1.out.call hB)
 clear hB
 clear hS1
 go_wp2
 go_ret
 exact ⟨rfl, hS2.out.bel⟩
theorem same_calls (r : Rat) (v1 v2 : Value) (k : Nat) (w : World) (h1 : IsQ w v1 r) (h2 : IsQ w v2 r) (hk : k ≤ 1073741824) (f : Fits k r) (hE : Env w) :
  Calls Tryz.prog 96 #[v1, v2] w (RetI w (.bool true)) := by
 have HX := hid (fun (W : World) (v : Value) (h : IsQ W v r) (hT : Tab10 W) => Text_calls r v k W h hk f hT)
 have HC := hid (fun (W : World) (v1 v2 : Value) (i : IsQ W v1 r) (j : IsQ W v2 r) => Cmp_calls r r v1 v2 k W i j (by omega) f f)
 have hc0 : cmpQ r r = 0 := by unfold cmpQ; simp
 rw [hc0] at HC
 obtain ⟨D, hD⟩ : ∃ D, qText r = D := ⟨_, rfl⟩
 rw [hD] at HX
 obtain ⟨t1, x1, p1, l1, q1, y1, r1, s1, u1, rfl⟩ := h1.open
 obtain ⟨t2, x2, p2, l2, q2, y2, r2, s2, u2, rfl⟩ := h2.open
 have HI := hid (And.intro h1 (And.intro h2 hE))
 clear h1 h2 hE hD f hc0
 go_enter Tryz.func96, Tryz.ntmps96
 go_wp2_with fail
 have hS0 := hid (((St.start w).alloc' (w.heap.size) (by simp) 31 (c5 t1 x1 p1 l1 q1 y1 r1 s1 u1)).alloc' (w.heap.size + 1) (by simp) 31 (c5 t2 x2 p2 l2 q2 y2 r2 s2 u2))
 obtain ⟨W0, hW0⟩ := nameW hS0
 rw [hW0] at hS0 ⊢
 clear hW0
 have hi1 := HI.out.1.below hS0.out.bel
 have hi2 := HI.out.2.1.below hS0.out.bel
 have hS1 := hid (hS0.out.fq hi1)
 clear hS0 hi1
 have hS2 := hid (hS1.out.fq hi2)
 clear hS1 hi2
 go_wp2_with fail
 have LM0 := hid (fun (W : World) (h : Below W0.heap.size W0 W) => ((hS2.out.call h).f5 1 w.heap.size 31 (.bool t1) (.int .u64 x1) (.slice p1 l1 q1) (.int .u64 y1) (.slice r1 s1 u1) rfl).1)
 have LM1 := hid (fun (W : World) (h : Below W0.heap.size W0 W) => ((hS2.out.call h).f5 0 (w.heap.size + 1) 31 (.bool t2) (.int .u64 x2) (.slice p2 l2 q2) (.int .u64 y2) (.slice r2 s2 u2) rfl).1)
 refine wp_region_inv 11 [⟨[], [0]⟩, ⟨[], [1]⟩, ⟨[0, 1], [2]⟩, ⟨[2], [3]⟩, ⟨[3], [4]⟩, ⟨[4], [5]⟩, ⟨[5, 4], [6]⟩, ⟨[4], [7]⟩, ⟨[7, 4], [8]⟩, ⟨[6, 8, 4], [9]⟩, ⟨[4, 9], [10]⟩]
  [oE (.agg #[.bool t1, .int .u64 x1, .slice p1 l1 q1, .int .u64 y1, .slice r1 s1 u1]), oE (.agg #[.bool t2, .int .u64 x2, .slice p2 l2 q2, .int .u64 y2, .slice r2 s2 u2]), oE (.int .i64 0), oE (.bool true), oE (.bool true), oE (.agg #[.bool t1, .int .u64 x1, .slice p1 l1 q1, .int .u64 y1, .slice r1 s1 u1]), oE (.string ⟨D.toArray⟩), oE (.agg #[.bool t2, .int .u64 x2, .slice p2 l2 q2, .int .u64 y2, .slice r2 s2 u2]), oE (.string ⟨D.toArray⟩), oE (.bool true), oE (.bool true)]
  (fun _ W => Below W0.heap.size W0 W) (by kernel_rfl) (by kernel_rfl) ?hTW1 ?hZW1 ?hOW1 ?hEW1
 case hZW1 => exact (Below.refl _ _).drew
 case hTW1 =>
  simp only [List.forall_mem_cons, List.not_mem_nil, false_imp_iff, implies_true, and_true]
  exact ⟨bE, bE, bE, bE, bE, bE, bE, bE, bE, bE, bE⟩
 case hOW1 =>
  intro u
  simp only [List.take_succ_cons, List.take_zero, putAll]
  repeat' (first | with_reducible exact debts_nil | with_reducible refine debts_cons ?_ ?_)
  ·intro W hS hF K hK
   have hcA := LM0.out W hS
   go_simp
   exact hK _ _ (.refl _ _) hS rfl
  ·intro W hS hF K hK
   have hcB := LM1.out W hS
   go_simp
   exact hK _ _ (.refl _ _) hS rfl
  ·intro W hS hF K hK
   have h0 : u 0 = .agg #[.bool t1, .int .u64 x1, .slice p1 l1 q1, .int .u64 y1, .slice r1 s1 u1] := hF.1
   have h1 : u 1 = .agg #[.bool t2, .int .u64 x2, .slice p2 l2 q2, .int .u64 y2, .slice r2 s2 u2] := hF.2.1
   have sH := hid (hS2.out.call hS)
   clear hF
   go_simp
   refine (HC.out _ _ _ (sH.out.get (f := .q (.agg #[.bool t1, .int .u64 x1, .slice p1 l1 q1, .int .u64 y1, .slice r1 s1 u1]) (r)) 1 rfl) (sH.out.get (f := .q (.agg #[.bool t2, .int .u64 x2, .slice p2 l2 q2, .int .u64 y2, .slice r2 s2 u2]) (r)) 0 rfl)).mono ?_
   rintro e wA ⟨rfl, hBA⟩
   exact ⟨_, rfl, hK _ _ hBA (hS.trans (hBA.mono hS.size)) rfl⟩
  ·intro W hS hF K hK
   have h2 : u 2 = .int .i64 0 := hF.1
   clear hF
   go_simp
   exact hK _ _ (.refl _ _) hS rfl
  ·intro W hS hF K hK
   have h3 : u 3 = .bool true := hF.1
   clear hF
   go_simp
   exact hK _ _ (.refl _ _) hS rfl
  ·intro W hS hF K hK
   have h4 : u 4 = .bool true := hF.1
   have hcA := LM0.out W hS
   clear hF
   go_simp
   exact hK _ _ (.refl _ _) hS rfl
  ·intro W hS hF K hK
   have h5 : u 5 = .agg #[.bool t1, .int .u64 x1, .slice p1 l1 q1, .int .u64 y1, .slice r1 s1 u1] := hF.1
   have h4 : u 4 = .bool true := hF.2.1
   have sH := hid (hS2.out.call hS)
   clear hF
   go_simp
   refine (HX.out _ _ (sH.out.get (f := .q (.agg #[.bool t1, .int .u64 x1, .slice p1 l1 q1, .int .u64 y1, .slice r1 s1 u1]) (r)) 1 rfl) (HI.out.2.2.below sH.out.bel (Nat.le_refl _)).ten).mono ?_
   rintro e wA ⟨rfl, hBA⟩
   exact ⟨_, rfl, hK _ _ hBA (hS.trans (hBA.mono hS.size)) rfl⟩
  ·intro W hS hF K hK
   have h4 : u 4 = .bool true := hF.1
   have hcB := LM1.out W hS
   clear hF
   go_simp
   exact hK _ _ (.refl _ _) hS rfl
  ·intro W hS hF K hK
   have h7 : u 7 = .agg #[.bool t2, .int .u64 x2, .slice p2 l2 q2, .int .u64 y2, .slice r2 s2 u2] := hF.1
   have h4 : u 4 = .bool true := hF.2.1
   have sH := hid (hS2.out.call hS)
   clear hF
   go_simp
   refine (HX.out _ _ (sH.out.get (f := .q (.agg #[.bool t2, .int .u64 x2, .slice p2 l2 q2, .int .u64 y2, .slice r2 s2 u2]) (r)) 0 rfl) (HI.out.2.2.below sH.out.bel (Nat.le_refl _)).ten).mono ?_
   rintro e wA ⟨rfl, hBA⟩
   exact ⟨_, rfl, hK _ _ hBA (hS.trans (hBA.mono hS.size)) rfl⟩
  ·intro W hS hF K hK
   have h6 : u 6 = .string ⟨D.toArray⟩ := hF.1
   have h8 : u 8 = .string ⟨D.toArray⟩ := hF.2.1
   have h4 : u 4 = .bool true := hF.2.2.1
   clear hF
   go_simp
   exact hK _ _ (.refl _ _) hS rfl
  ·intro W hS hF K hK
   have h4 : u 4 = .bool true := hF.1
   have h9 : u 9 = .bool true := hF.2.1
   clear hF
   go_simp
   exact hK _ _ (.refl _ _) hS rfl
 case hEW1 =>
  intro u W1 hS hF
  have hS3 := hid (hS2.out.call hS)
  have h10 : u 10 = .bool true := hF.2.2.2.2.2.2.2.2.2.2.1
  clear hF hS
  simp only [List.take_succ_cons, List.take_zero, putAll, List.drop_succ_cons, List.drop_zero]
  go_wp2
  go_ret
  exact ⟨rfl, hS3.out.bel⟩
end Go.Proofs.YtppjkikaaonbkaaGreatDoor
namespace Go.Proofs.YtppjkikaaonbkaaGreatDoor
open Go.RowKit Go.Sort
theorem fits_dec {k : Nat} {r : Rat} (h : decide (r.num.natAbs < B64 ^ k) = true) (h2 : decide (r.den < B64 ^ k) = true) : Fits k r := ⟨of_decide_eq_true h, of_decide_eq_true h2⟩
theorem p1250 (w : World) (hE : Env w) : Calls Tryz.prog 16 #[.string ⟨#[45, 49, 46, 50, 53, 48]⟩] w (RetQE w (mkRat (-5) 4) 0) := by
 have h := parse_dec_true [45, 49, 46, 50, 53, 48] [49, 46, 50, 53, 48] [49] [50, 53, 48] w (by decide) (by decide +kernel) (by decide +kernel) (by decide +kernel) (by decide +kernel) (by decide +kernel) (by decide +kernel) (by decide) (by decide) (by decide) hE
 rwa [show mkRat (zs (!(dv ([49] ++ [50, 53, 48]) == 0)) (dv ([49] ++ [50, 53, 48]))) (10 ^ ([50, 53, 48] : List UInt8).length) = mkRat (-5) 4 from by decide +kernel] at h
theorem p64 (w : World) (hE : Env w) : Calls Tryz.prog 16 #[.string ⟨#[54, 47, 52]⟩] w (RetQE w (mkRat 3 2) 0) := by
 have h := parse_frac_false [54, 47, 52] [54, 47, 52] [54] [52] w (by decide) (by decide +kernel) (by decide +kernel) (by decide +kernel) (by decide +kernel) (by decide +kernel) (by decide +kernel) (by decide) (by decide) (by decide) hE
 rwa [show mkRat (zs false (dv [54])) (dv [52]) = mkRat 3 2 from by decide +kernel] at h
theorem p355 (w : World) (hE : Env w) : Calls Tryz.prog 16 #[.string ⟨#[51, 53, 53, 47, 49, 49, 51]⟩] w (RetQE w (mkRat 355 113) 0) := by
 have h := parse_frac_false [51, 53, 53, 47, 49, 49, 51] [51, 53, 53, 47, 49, 49, 51] [51, 53, 53] [49, 49, 51] w (by decide) (by decide +kernel) (by decide +kernel) (by decide +kernel) (by decide +kernel) (by decide +kernel) (by decide +kernel) (by decide) (by decide) (by decide) hE
 rwa [show mkRat (zs false (dv [51, 53, 53])) (dv [49, 49, 51]) = mkRat 355 113 from by decide +kernel] at h
theorem p12 (w : World) (hE : Env w) : Calls Tryz.prog 16 #[.string ⟨#[49, 47, 50]⟩] w (RetQE w (mkRat 1 2) 0) := by
 have h := parse_frac_false [49, 47, 50] [49, 47, 50] [49] [50] w (by decide) (by decide +kernel) (by decide +kernel) (by decide +kernel) (by decide +kernel) (by decide +kernel) (by decide +kernel) (by decide) (by decide) (by decide) hE
 rwa [show mkRat (zs false (dv [49])) (dv [50]) = mkRat 1 2 from by decide +kernel] at h
theorem root23 (v : Value) (w : World) (h : IsQ w v ((2 : Int) : Rat)) (hE : Env w) : Calls Tryz.prog 56 #[v, .int .i64 3] w (RetQE w (mkRat 11 8) 0) := by
 have := Root_calls ((2 : Int) : Rat) 128 3 (by decide) 8 (by decide +kernel) 128 (by decide +kernel) (by decide +kernel) (by decide +kernel) v 1 w h (by decide) (fits_dec (by decide +kernel) (by decide +kernel)) (fits_dec (by decide +kernel) (by decide +kernel)) (fits_dec (by decide +kernel) (by decide +kernel)) (fits_dec (by decide +kernel) (by decide +kernel)) hE
 refine this.mono ?_
 rintro e w' ⟨S, h1, h2, h3⟩
 have : S = 11 := root_unique 128 S 11 h1 h2 (by decide) (by decide)
 subst this
 rwa [show (((11 : Nat) : Int) : Rat) / 8 = mkRat 11 8 from by decide +kernel] at h3
theorem turn12 (v : Value) (w : World) (h : IsQ w v (mkRat 1 2)) (hE : Env w) : Calls Tryz.prog 83 #[v] w (RetRot w (mkRat 3 5) (mkRat 4 5)) := by
 have := Turn_calls (mkRat 1 2) v 1 w h (by decide) (fits_dec (by decide +kernel) (by decide +kernel)) (fits_dec (by decide +kernel) (by decide +kernel)) (fits_dec (by decide +kernel) (by decide +kernel)) (fits_dec (by decide +kernel) (by decide +kernel)) (fits_dec (by decide +kernel) (by decide +kernel)) (fits_dec (by decide +kernel) (by decide +kernel)) (by decide +kernel) hE.tz
 rwa [show (1 - mkRat 1 2 * mkRat 1 2) / (1 + mkRat 1 2 * mkRat 1 2) = mkRat 3 5 from by decide +kernel, show (mkRat 1 2 + mkRat 1 2) / (1 + mkRat 1 2 * mkRat 1 2) = mkRat 4 5 from by decide +kernel] at this
theorem isT (l : List UInt8) (r : Rat) (hq : decide (qText r = l) = true) (hf : Fits 1 r) (v : Value) (w : World) (h : IsQ w v r) (hE : Env w) : Calls Tryz.prog 92 #[v, .string ⟨l.toArray⟩] w (RetI w (.bool true)) := by
 have := is_calls l r v 1 w h (by decide) hf hE
 rwa [of_decide_eq_true hq, beq_self_eq_true] at this
theorem t54 : decide (qText (mkRat (-5) 4) = [45, 53, 47, 52]) = true := by decide +kernel
end Go.Proofs.YtppjkikaaonbkaaGreatDoor
namespace Go.Proofs.YtppjkikaaonbkaaGreatDoor
set_option maxRecDepth 100000
set_option maxHeartbeats 80000000
open Go.RowKit Go.Sort
attribute [local go_sem] takes takesUpon_value takesUpon_skip takesUpon_enter
def NearOK : Prop := ∀ (v : Value) (w : World), IsQ w v (mkRat 355 113) → Env w → Calls Tryz.prog 55 #[v, .int .i64 7] w (RetQE w (mkRat 22 7) 0)
theorem awake_calls (hN : NearOK) (w : World) (hE : Env w) : Calls Tryz.prog 15 #[] w (RetI w (.bool true)) := by
 have HN := hid hN
 have HE := hid hE
 have HI := hid (fun (W : World) => Int_calls 2 (by omega) (by omega) W)
 clear hN hE
 go_enter Tryz.func15, Tryz.ntmps15
 go_wp2_with fail
 have hS0' : St w [] [] w := St.start w
 have hS0 := hid hS0'
 clear hS0'
 refine (p1250 _ (HE.out.below hS0.out.bel (Nat.le_refl _))).mono ?_
 rintro e w1 ⟨v1, rfl, hv1, hB⟩
 have hS1 := hid (hS0.out.call hB)
 clear hB
 clear hS0
 obtain ⟨t1, x1, p1, l1, q1, y1, r1, s1, u1, rfl⟩ := hv1.open
 have hS2 := hid (hS1.out.fq hv1)
 clear hS1 hv1
 go_wp2_with fail
 have hS3 := hid ((hS2.out).alloc' (w1.heap.size) (by simp) 31 (c5 t1 x1 p1 l1 q1 y1 r1 s1 u1))
 obtain ⟨W1, hW1⟩ := nameW hS3
 rw [hW1] at hS3 ⊢
 clear hW1
 refine (p64 _ (HE.out.below hS3.out.bel (Nat.le_refl _))).mono ?_
 rintro e w2 ⟨v2, rfl, hv2, hB⟩
 have hS4 := hid (hS3.out.call hB)
 clear hB
 clear hS3
 obtain ⟨t2, x2, p2, l2, q2, y2, r2, s2, u2, rfl⟩ := hv2.open
 have hS5 := hid (hS4.out.fq hv2)
 clear hS4 hv2
 obtain ⟨ne1l, ne1, ne1'⟩ := hS5.out.ne 0 w1.heap.size 31 (c5 t1 x1 p1 l1 q1 y1 r1 s1 u1) rfl
 go_wp2_with fail
 have hS6 := hid ((hS5.out).alloc' (w2.heap.size) (by simp) 31 (c5 t2 x2 p2 l2 q2 y2 r2 s2 u2))
 obtain ⟨W2, hW2⟩ := nameW hS6
 rw [hW2] at hS6 ⊢
 clear hW2
 refine (num_calls [51, 53, 53, 47, 49, 49, 51] (mkRat 355 113) 0 _ (hid fun W hb => p355 W (HE.out.below (hS6.out.bel.trans (hb.mono hS6.out.bel.size)) (Nat.le_refl _)))).mono ?_
 rintro e w3 ⟨v3, rfl, hv3, hB⟩
 have hS7 := hid (hS6.out.call hB)
 clear hB
 clear hS6
 obtain ⟨t3, x3, p3, l3, q3, y3, r3, s3, u3, rfl⟩ := hv3.open
 have hS8 := hid (hS7.out.fq hv3)
 clear hS7 hv3
 go_wp2_with fail
 refine (HN.out _ _ (hS8.out.gq 0 rfl) (HE.out.below hS8.out.bel (Nat.le_refl _))).mono ?_
 rintro e w4 ⟨v4, rfl, hv4, hB⟩
 have hS9 := hid (hS8.out.call hB)
 clear hB
 clear hS8
 obtain ⟨t4, x4, p4, l4, q4, y4, r4, s4, u4, rfl⟩ := hv4.open
 have hS10 := hid (hS9.out.fq hv4)
 clear hS9 hv4
 obtain ⟨ne2l, ne2, ne2'⟩ := hS10.out.ne 1 w1.heap.size 31 (c5 t1 x1 p1 l1 q1 y1 r1 s1 u1) rfl
 obtain ⟨ne3l, ne3, ne3'⟩ := hS10.out.ne 0 w2.heap.size 31 (c5 t2 x2 p2 l2 q2 y2 r2 s2 u2) rfl
 go_wp2_with fail
 have hS11 := hid ((hS10.out).alloc' (w4.heap.size) (by simp) 31 (c5 t4 x4 p4 l4 q4 y4 r4 s4 u4))
 obtain ⟨W4, hW4⟩ := nameW hS11
 rw [hW4] at hS11 ⊢
 clear hW4
 refine (HI.out _).mono ?_
 rintro e w5 ⟨v5, rfl, hv5, hB⟩
 have hS12 := hid (hS11.out.call hB)
 clear hB
 clear hS11
 obtain ⟨t5, x5, p5, l5, q5, y5, r5, s5, u5, rfl⟩ := hv5.open
 have hS13 := hid (hS12.out.fq hv5)
 clear hS12 hv5
 go_wp2_with fail
 refine (root23 _ _ (hS13.out.gq 0 rfl) (HE.out.below hS13.out.bel (Nat.le_refl _))).mono ?_
 rintro e w6 ⟨v6, rfl, hv6, hB⟩
 have hS14 := hid (hS13.out.call hB)
 clear hB
 clear hS13
 obtain ⟨t6, x6, p6, l6, q6, y6, r6, s6, u6, rfl⟩ := hv6.open
 have hS15 := hid (hS14.out.fq hv6)
 clear hS14 hv6
 obtain ⟨ne4l, ne4, ne4'⟩ := hS15.out.ne 2 w1.heap.size 31 (c5 t1 x1 p1 l1 q1 y1 r1 s1 u1) rfl
 obtain ⟨ne5l, ne5, ne5'⟩ := hS15.out.ne 1 w2.heap.size 31 (c5 t2 x2 p2 l2 q2 y2 r2 s2 u2) rfl
 obtain ⟨ne6l, ne6, ne6'⟩ := hS15.out.ne 0 w4.heap.size 31 (c5 t4 x4 p4 l4 q4 y4 r4 s4 u4) rfl
 go_wp2_with fail
 have hS16 := hid ((hS15.out).alloc' (w6.heap.size) (by simp) 31 (c5 t6 x6 p6 l6 q6 y6 r6 s6 u6))
 obtain ⟨W6, hW6⟩ := nameW hS16
 rw [hW6] at hS16 ⊢
 clear hW6
 refine (num_calls [49, 47, 50] (mkRat 1 2) 0 _ (hid fun W hb => p12 W (HE.out.below (hS16.out.bel.trans (hb.mono hS16.out.bel.size)) (Nat.le_refl _)))).mono ?_
 rintro e w7 ⟨v7, rfl, hv7, hB⟩
 have hS17 := hid (hS16.out.call hB)
 clear hB
 clear hS16
 obtain ⟨t7, x7, p7, l7, q7, y7, r7, s7, u7, rfl⟩ := hv7.open
 have hS18 := hid (hS17.out.fq hv7)
 clear hS17 hv7
 go_wp2_with fail
 refine (turn12 _ _ (hS18.out.gq 0 rfl) (HE.out.below hS18.out.bel (Nat.le_refl _))).mono ?_
 rintro e w8 ⟨v8, rfl, hv8, hB⟩
 have hS19 := hid (hS18.out.call hB)
 clear hB
 clear hS18
 obtain ⟨t8, x8, p8, l8, q8, y8, r8, s8, u8, t9, x9, p9, l9, q9, y9, r9, s9, u9, rfl, hc8, hs8⟩ := hv8
 have hS20 := hid (hS19.out.fq hc8)
 clear hS19 hc8
 have hS21 := hid (hS20.out.fq hs8)
 clear hS20 hs8
 obtain ⟨ne7l, ne7, ne7'⟩ := hS21.out.ne 3 w1.heap.size 31 (c5 t1 x1 p1 l1 q1 y1 r1 s1 u1) rfl
 obtain ⟨ne8l, ne8, ne8'⟩ := hS21.out.ne 2 w2.heap.size 31 (c5 t2 x2 p2 l2 q2 y2 r2 s2 u2) rfl
 obtain ⟨ne9l, ne9, ne9'⟩ := hS21.out.ne 1 w4.heap.size 31 (c5 t4 x4 p4 l4 q4 y4 r4 s4 u4) rfl
 obtain ⟨ne10l, ne10, ne10'⟩ := hS21.out.ne 0 w6.heap.size 31 (c5 t6 x6 p6 l6 q6 y6 r6 s6 u6) rfl
 obtain ⟨⟨ca0, ca1, ca2, ca3, ca4⟩, fa0, fa1, fa2, fa3, fa4⟩ := hS21.out.f5 3 w1.heap.size 31 (.bool t1) (.int .u64 x1) (.slice p1 l1 q1) (.int .u64 y1) (.slice r1 s1 u1) rfl
 go_wp2_with fail
 clear ca0 ca1 ca2 ca3 ca4 fa0 fa1 fa2 fa3 fa4
 have hS22 := hid ((hS21.out).alloc' (w8.heap.size) (by simp) 89 [.bool t8, .int .u64 x8, .slice p8 l8 q8, .int .u64 y8, .slice r8 s8 u8, .bool t9, .int .u64 x9, .slice p9 l9 q9, .int .u64 y9, .slice r9 s9 u9])
 obtain ⟨W8, hW8⟩ := nameW hS22
 rw [hW8] at hS22 ⊢
 clear hW8
 refine (isT [45, 53, 47, 52] (mkRat (-5) 4) (by decide +kernel) (fits_dec (by decide +kernel) (by decide +kernel)) _ _ (hS22.out.gq 8 rfl) (HE.out.below hS22.out.bel (Nat.le_refl _))).mono ?_
 rintro e wa ⟨rfl, hB⟩
 have hS23 := hid (hS22.out.call hB)
 clear hB
 clear hS22
 obtain ⟨⟨cb0, cb1, cb2, cb3, cb4⟩, fb0, fb1, fb2, fb3, fb4⟩ := hS23.out.f5 3 w2.heap.size 31 (.bool t2) (.int .u64 x2) (.slice p2 l2 q2) (.int .u64 y2) (.slice r2 s2 u2) rfl
 go_wp2_with fail
 clear cb0 cb1 cb2 cb3 cb4 fb0 fb1 fb2 fb3 fb4
 refine (isT [51, 47, 50] (mkRat 3 2) (by decide +kernel) (fits_dec (by decide +kernel) (by decide +kernel)) _ _ (hS23.out.gq 7 rfl) (HE.out.below hS23.out.bel (Nat.le_refl _))).mono ?_
 rintro e wb ⟨rfl, hB⟩
 have hS24 := hid (hS23.out.call hB)
 clear hB
 clear hS23
 obtain ⟨⟨cn0, cn1, cn2, cn3, cn4⟩, fn0, fn1, fn2, fn3, fn4⟩ := hS24.out.f5 2 w4.heap.size 31 (.bool t4) (.int .u64 x4) (.slice p4 l4 q4) (.int .u64 y4) (.slice r4 s4 u4) rfl
 go_wp2_with fail
 clear cn0 cn1 cn2 cn3 cn4 fn0 fn1 fn2 fn3 fn4
 refine (isT [50, 50, 47, 55] (mkRat 22 7) (by decide +kernel) (fits_dec (by decide +kernel) (by decide +kernel)) _ _ (hS24.out.gq 5 rfl) (HE.out.below hS24.out.bel (Nat.le_refl _))).mono ?_
 rintro e wc ⟨rfl, hB⟩
 have hS25 := hid (hS24.out.call hB)
 clear hB
 clear hS24
 obtain ⟨⟨cr0, cr1, cr2, cr3, cr4⟩, fr0, fr1, fr2, fr3, fr4⟩ := hS25.out.f5 1 w6.heap.size 31 (.bool t6) (.int .u64 x6) (.slice p6 l6 q6) (.int .u64 y6) (.slice r6 s6 u6) rfl
 go_wp2_with fail
 clear cr0 cr1 cr2 cr3 cr4 fr0 fr1 fr2 fr3 fr4
 refine (isT [49, 49, 47, 56] (mkRat 11 8) (by decide +kernel) (fits_dec (by decide +kernel) (by decide +kernel)) _ _ (hS25.out.gq 3 rfl) (HE.out.below hS25.out.bel (Nat.le_refl _))).mono ?_
 rintro e wd ⟨rfl, hB⟩
 have hS26 := hid (hS25.out.call hB)
 clear hB
 clear hS25
 obtain ⟨⟨ct0, ct1, ct2, ct3, ct4, ct5, ct6, ct7, ct8, ct9⟩, ft0, ft1, ft2, ft3, ft4, ft5, ft6, ft7, ft8, ft9⟩ := hS26.out.f10 0 w8.heap.size 89 (.bool t8) (.int .u64 x8) (.slice p8 l8 q8) (.int .u64 y8) (.slice r8 s8 u8) (.bool t9) (.int .u64 x9) (.slice p9 l9 q9) (.int .u64 y9) (.slice r9 s9 u9) rfl
 go_wp2_with fail
 clear ct0 ct1 ct2 ct3 ct4 ct5 ct6 ct7 ct8 ct9 ft0 ft1 ft2 ft3 ft4 ft5 ft6 ft7 ft8 ft9
 refine (isT [51, 47, 53] (mkRat 3 5) (by decide +kernel) (fits_dec (by decide +kernel) (by decide +kernel)) _ _ (hS26.out.gq 1 rfl) (HE.out.below hS26.out.bel (Nat.le_refl _))).mono ?_
 rintro e we ⟨rfl, hB⟩
 have hS27 := hid (hS26.out.call hB)
 clear hB
 clear hS26
 obtain ⟨⟨ct0, ct1, ct2, ct3, ct4, ct5, ct6, ct7, ct8, ct9⟩, ft0, ft1, ft2, ft3, ft4, ft5, ft6, ft7, ft8, ft9⟩ := hS27.out.f10 0 w8.heap.size 89 (.bool t8) (.int .u64 x8) (.slice p8 l8 q8) (.int .u64 y8) (.slice r8 s8 u8) (.bool t9) (.int .u64 x9) (.slice p9 l9 q9) (.int .u64 y9) (.slice r9 s9 u9) rfl
 go_wp2_with fail
 clear ct0 ct1 ct2 ct3 ct4 ct5 ct6 ct7 ct8 ct9 ft0 ft1 ft2 ft3 ft4 ft5 ft6 ft7 ft8 ft9
 refine (isT [52, 47, 53] (mkRat 4 5) (by decide +kernel) (fits_dec (by decide +kernel) (by decide +kernel)) _ _ (hS27.out.gq 0 rfl) (HE.out.below hS27.out.bel (Nat.le_refl _))).mono ?_
 rintro e wf ⟨rfl, hB⟩
 have hS28 := hid (hS27.out.call hB)
 clear hB
 clear hS27
 obtain ⟨⟨ca0, ca1, ca2, ca3, ca4⟩, fa0, fa1, fa2, fa3, fa4⟩ := hS28.out.f5 4 w1.heap.size 31 (.bool t1) (.int .u64 x1) (.slice p1 l1 q1) (.int .u64 y1) (.slice r1 s1 u1) rfl
 obtain ⟨⟨cb0, cb1, cb2, cb3, cb4⟩, fb0, fb1, fb2, fb3, fb4⟩ := hS28.out.f5 3 w2.heap.size 31 (.bool t2) (.int .u64 x2) (.slice p2 l2 q2) (.int .u64 y2) (.slice r2 s2 u2) rfl
 go_wp2_with fail
 clear ca0 ca1 ca2 ca3 ca4 fa0 fa1 fa2 fa3 fa4 cb0 cb1 cb2 cb3 cb4 fb0 fb1 fb2 fb3 fb4
 refine (Add_calls (mkRat (-5) 4) (mkRat 3 2) _ _ 1 _ (hS28.out.gq 8 rfl) (hS28.out.gq 7 rfl) (by decide) (fits_dec (by decide +kernel) (by decide +kernel)) (fits_dec (by decide +kernel) (by decide +kernel)) (HE.out.below hS28.out.bel (Nat.le_refl _)).tz).mono ?_
 rintro e wg ⟨v10, rfl, hv10, hB⟩
 have hS29 := hid (hS28.out.call hB)
 clear hB
 clear hS28
 rw [show mkRat (-5) 4 + mkRat 3 2 = mkRat 1 4 from by decide +kernel] at hv10
 obtain ⟨t10, x10, p10, l10, q10, y10, r10, s10, u10, rfl⟩ := hv10.open
 have hS30 := hid (hS29.out.fq hv10)
 clear hS29 hv10
 go_wp2_with fail
 refine (isT [49, 47, 52] (mkRat 1 4) (by decide +kernel) (fits_dec (by decide +kernel) (by decide +kernel)) _ _ (hS30.out.gq 0 rfl) (HE.out.below hS30.out.bel (Nat.le_refl _))).mono ?_
 rintro e wh ⟨rfl, hB⟩
 have hS31 := hid (hS30.out.call hB)
 clear hB
 clear hS30
 obtain ⟨⟨ca0, ca1, ca2, ca3, ca4⟩, fa0, fa1, fa2, fa3, fa4⟩ := hS31.out.f5 4 w1.heap.size 31 (.bool t1) (.int .u64 x1) (.slice p1 l1 q1) (.int .u64 y1) (.slice r1 s1 u1) rfl
 obtain ⟨⟨cb0, cb1, cb2, cb3, cb4⟩, fb0, fb1, fb2, fb3, fb4⟩ := hS31.out.f5 3 w2.heap.size 31 (.bool t2) (.int .u64 x2) (.slice p2 l2 q2) (.int .u64 y2) (.slice r2 s2 u2) rfl
 go_wp2_with fail
 clear ca0 ca1 ca2 ca3 ca4 fa0 fa1 fa2 fa3 fa4 cb0 cb1 cb2 cb3 cb4 fb0 fb1 fb2 fb3 fb4
 refine (Mul_calls (mkRat (-5) 4) (mkRat 3 2) _ _ 1 _ (hS31.out.gq 9 rfl) (hS31.out.gq 8 rfl) (by decide) (fits_dec (by decide +kernel) (by decide +kernel)) (fits_dec (by decide +kernel) (by decide +kernel)) (HE.out.below hS31.out.bel (Nat.le_refl _)).tz).mono ?_
 rintro e wi ⟨v11, rfl, hv11, hB⟩
 have hS32 := hid (hS31.out.call hB)
 clear hB
 clear hS31
 rw [show mkRat (-5) 4 * mkRat 3 2 = mkRat (-15) 8 from by decide +kernel] at hv11
 obtain ⟨t11, x11, p11, l11, q11, y11, r11, s11, u11, rfl⟩ := hv11.open
 have hS33 := hid (hS32.out.fq hv11)
 clear hS32 hv11
 go_wp2_with fail
 refine (isT [45, 49, 53, 47, 56] (mkRat (-15) 8) (by decide +kernel) (fits_dec (by decide +kernel) (by decide +kernel)) _ _ (hS33.out.gq 0 rfl) (HE.out.below hS33.out.bel (Nat.le_refl _))).mono ?_
 rintro e wj ⟨rfl, hB⟩
 have hS34 := hid (hS33.out.call hB)
 clear hB
 clear hS33
 go_wp2
 go_ret
 exact ⟨rfl, hS34.out.bel⟩
end Go.Proofs.YtppjkikaaonbkaaGreatDoor
namespace Go.Proofs.YtppjkikaaonbkaaGreatDoor
open Go.RowKit
variable {P : Program} {ops : Array Oper} {Q : Exit → Act → World → Prop} {l n : Nat}
theorem rowsIn_of {row : String} {args : Array Value} {w : World} {R : Value → World → Prop} (h : Rows P row args w R) : RowsIn Fence.wide n P row args w R :=
 fun c cs _ => let ⟨v, w', r, s⟩ := h c cs; ⟨v, w', r, stepsIn_wide.2 s⟩
theorem wide_depth {m : Nat} : (Fence.wide.inRound l).depth.isSome = true → 1 ≤ m := fun h => by simp [Fence.wide] at h
theorem round_oper {o : Oper} {a : Act} {w : World} {K : Act → World → Prop} (hd : ∀ c, o.op ≠ .defer c) (h : o.wp P a w K Q) : o.wpIn (Fence.wide.inRound l) n P a w K Q := by
 refine ⟨fun _ _ => trivial, ?_⟩
 unfold Oper.wp at h
 rw [Oper.semAt_eq _ _ _ hd]
 generalize (execOp a.eval o).run P w = r at *
 cases r with
 | ok x w' =>
  cases x <;> simp only [Oper.upon] at h <;> simp only [Oper.uponIn]
  case value v => exact h
  case skip => exact h
  case defer d => exact h
  case enter f args => exact ⟨wide_depth, callsIn_wide.2 h⟩
  case row r args => exact ⟨wide_depth, rowsIn_of h⟩
 | halt x w' => cases x <;> simp only [Oper.upon] at h <;> exact h
def noDefer (ops : List Oper) : Bool := ops.all fun o => match o.op with | .defer _ => false | _ => true
theorem noDefer_spec {l : List Oper} (h : noDefer l = true) {i : Nat} {o : Oper} (hi : l.toArray[i]? = some o) (c : Call) : o.op ≠ .defer c := fun e => by
 have := List.all_eq_true.1 h o (List.mem_of_getElem? (by simpa using hi))
 rw [e] at this
 cases this
theorem round_op {l' : List Oper} (hd : noDefer l' = true) (hQ : ¬ LetsOut Q) {i : Nat} {K : Act → World → Prop} {a : Act} {w : World} (h : wpOp P l'.toArray Q i K a w) : wpOpIn (Fence.wide.inRound l) n P l'.toArray Q i K a w := by
 unfold wpOp at h
 unfold wpOpIn
 split
 ·rename_i ho
  rw [ho] at h
  exact h
 ·rename_i o ho
  rw [ho] at h
  simp only at h
  split
  ·rename_i hw
   rw [if_pos hw] at h
   rcases h with h | h
   ·exact round_oper (noDefer_spec hd ho) h
   ·exact absurd h.2 hQ
  ·rename_i hw
   rw [if_neg hw] at h
   exact ⟨fun _ _ => trivial, h⟩
theorem round_any {l' : List Oper} {md : Region.Mode} (hd : noDefer l' = true) (hQ : ¬ LetsOut Q) : ∀ (f : Nat) (listed : Array Bool) (a : Act) (w : World), wpAny P md l'.toArray Q f listed a w → wpAnyIn (Fence.wide.inRound l) n P md l'.toArray Q f listed a w
 | 0, _, _, _, h => h
 | f + 1, _, _, _, h => ⟨h.1, fun i hi => round_op hd hQ (wpOp_mono (fun a' w' h' => round_any hd hQ f _ a' w' h') (h.2 i hi))⟩
theorem round_ops {l' : List Oper} (hd : noDefer l' = true) (hQ : ¬ LetsOut Q) : ∀ (is : List Nat) (a : Act) (w : World), wpOps P l'.toArray Q is a w → wpOpsIn (Fence.wide.inRound l) n P l'.toArray Q is a w
 | [], _, _, h => h
 | i :: is, _, _, h => by
  rw [wpOpsIn_cons]
  rw [wpOps_cons] at h
  exact round_op hd hQ (wpOp_mono (fun a' w' h' => round_ops hd hQ is a' w' h') h)
theorem round_draw {l' : List Oper} {id : Nat} {a : Act} {w : World} (hm : P.follows .mixedOrders = true) (hd : noDefer l' = true) (hQ : ¬ LetsOut Q)
  (h : wpAny P .any l'.toArray Q l'.toArray.size (Array.replicate l'.toArray.size false) a w.drew) : (Code.region id l'.toArray true).wpIn (Fence.wide.inRound l) n P Q a w :=
 wpIn_region_any hm (round_any hd hQ _ _ _ _ h)
theorem round_list {l' : List Oper} {id : Nat} {a : Act} {w : World} (hd : noDefer l' = true) (hQ : ¬ LetsOut Q) (h : wpList P l'.toArray Q l' a w) : (Code.region id l'.toArray false).wpIn (Fence.wide.inRound l) n P Q a w := by
 refine wpIn_region (round_ops hd hQ _ _ _ ?_)
 rw [List.range_eq_range', show l'.toArray.size = l'.length by simp, wpOps_eq_wpList l' 0 (by simp)]
 exact h
theorem wide_yield {o : Oper} {a : Act} {w : World} {K : Act → World → Prop} {m : Nat} {args : Array Value} {R : Ending → World → Prop} (hd : ∀ c, o.op ≠ .defer c)
  (hs : ∀ r, (Instr.yield l args).run P w = r → (execOp a.eval o).run P w = r) (hy : YieldAt Fence.wide m P l args w R)
  (hR : ∀ e w', R e w' → ∃ v, e = .returned v ∧ K (a.put o.dst v) w') : o.wpIn Fence.wide (m + 1) P a w K Q := by
 obtain ⟨fn, tmps, assign, body, hy, hr⟩ := hy
 refine ⟨fun _ _ => trivial, ?_⟩
 rw [Oper.semAt_eq _ _ _ hd, hs _ hy]
 simp only [Oper.uponIn]
 refine ⟨fun h => by simp [Fence.wide] at h, hr.mono ?_⟩
 intro e w' h
 obtain ⟨v, rfl, hk⟩ := hR e w' h
 exact hk
end Go.Proofs.YtppjkikaaonbkaaGreatDoor
namespace Go.Proofs.YtppjkikaaonbkaaGreatDoor
open Go.RowKit
theorem IsMag.cells {W W' : World} {c d : Value} {n : Nat} (h : IsMag W c d n) (hs : W.heap.size ≤ W'.heap.size) (hc : ∀ (b o : Nat) (v : Value), W.cell? ⟨b, o, none⟩ = some v → W'.cell? ⟨b, o, none⟩ = some v) : IsMag W' c d n := by
 rcases h with h | ⟨b, o, k, xs, h1, h2, h3, h4, h5, h6, h7, h8, h9⟩
 ·exact .inl h
 ·exact .inr ⟨b, o, k, xs, h1, h2, by omega, h4, h5, h6, h7, h8, fun j hj => hc _ _ _ (h9 j hj)⟩
theorem isL_cells {B : Nat} {W W' : World} {v : Value} {xs : List Nat} (h : Z4.IsL B W v xs) (hs : W.heap.size ≤ W'.heap.size) (hc : ∀ (b o : Nat) (v : Value), W.cell? ⟨b, o, none⟩ = some v → W'.cell? ⟨b, o, none⟩ = some v) : Z4.IsL B W' v xs := by
 rcases h with h | ⟨b, o, k, rfl, h1, h2, h3, h4⟩
 ·exact .inl h
 ·exact .inr ⟨b, o, k, rfl, h1, by omega, h3, fun j hj => hc _ _ _ (h4 j hj)⟩
theorem Fc.cells {f : Fc} {W W' : World} (h : f.on W) (hs : W.heap.size ≤ W'.heap.size) (hc : ∀ (b o : Nat) (v : Value), W.cell? ⟨b, o, none⟩ = some v → W'.cell? ⟨b, o, none⟩ = some v) : f.on W' := by
 cases f with
 | q v r =>
  obtain ⟨c, d, e, f, rfl, h1, h2⟩ := h
  exact ⟨c, d, e, f, rfl, h1.cells hs hc, h2.cells hs hc⟩
 | m c d n => exact IsMag.cells h hs hc
 | l B v xs => exact isL_cells h hs hc
 | z v n =>
  obtain ⟨p, l, k, xs, h1, h2, h3⟩ := h
  exact ⟨p, l, k, xs, h1, isL_cells h2 hs hc, h3⟩
structure Off (S : Nat → Prop) (W W' : World) : Prop where
 os : W'.os = W.os
 tape : W'.tape = W.tape
 output : W'.output = W.output
 size : W.heap.size ≤ W'.heap.size
 block : ∀ k, k < W.heap.size → ¬ S k → W'.heap[k]? = W.heap[k]?
 fct : ∀ f : Fc, f.on W → f.on W'
theorem Off.of_below {S : Nat → Prop} {W W' : World} (h : Below W.heap.size W W') : Off S W W' := ⟨h.os, h.tape, h.output, h.size, fun k hk _ => h.block k hk, fun _ hf => Fc.below hf h⟩
theorem Off.refl {S : Nat → Prop} (W : World) : Off S W W := Off.of_below (Below.refl _ _)
theorem Off.trans {S : Nat → Prop} {A B C : World} (h : Off S A B) (k : Off S B C) : Off S A C :=
 ⟨k.os.trans h.os, k.tape.trans h.tape, k.output.trans h.output, Nat.le_trans h.size k.size, fun i hi hs => (k.block i (Nat.lt_of_lt_of_le hi h.size) hs).trans (h.block i hi hs), fun f hf => k.fct f (h.fct f hf)⟩
theorem Off.mono {S S' : Nat → Prop} {W W' : World} (h : Off S W W') (hs : ∀ k, k < W.heap.size → S k → S' k) : Off S' W W' := ⟨h.os, h.tape, h.output, h.size, fun k hk hn => h.block k hk fun e => hn (hs k hk e), h.fct⟩
theorem Off.setCell {S : Nat → Prop} {W : World} {b i : Nat} {T : TypeId} {vs : List Value} {u : Value} (hb : Bx W b T vs) (ok : okVs vs = true) (hS : S b) : Off S W (W.setCell ⟨b, i, none⟩ u) :=
 ⟨rfl, rfl, rfl, by simp, fun k _ hk => Below.heap_setCell _ _ _ _ fun e => hk (e ▸ hS), fun _ hf => Fc.setBox hf hb ok⟩
theorem Off.putObj {S : Nat → Prop} {W : World} {l : Nat} {o : Obj} (o' : Obj) (h : W.heap[l]? = some o) (ho : o.isCells = false) (hS : S l) : Off S W (W.putObj l o') := by
 refine ⟨rfl, rfl, rfl, by simp, fun k _ hk => World.putObj_heap_other fun e => hk (e ▸ hS), fun _ hf => Fc.cells hf (by simp) fun b i v hc => ?_⟩
 have hne : b ≠ l := fun e => by
  subst e
  unfold World.cell? at hc
  simp only [h] at hc
  cases o <;> simp [Obj.isCells] at ho hc
 unfold World.cell? at hc ⊢
 simp only [World.putObj_heap_other hne]
 exact hc
theorem Off.heap {S : Nat → Prop} {W W' : World} (h : Off S W W') {k : Nat} {o : Obj} (hk : W.heap[k]? = some o) (hS : ¬ S k) : W'.heap[k]? = some o :=
 (h.block k (Array.getElem?_eq_some_iff.1 hk).1 hS).trans hk
theorem Boxes.off {S : Nat → Prop} {w W W' : World} (h : Off S W W') : ∀ {bs : List Bk}, (∀ b ∈ bs, ¬ S b.pos) → Boxes w W bs → Boxes w W' bs
 | [], _, _ => trivial
 | b :: _, hn, hb => ⟨⟨hb.1.1, h.heap hb.1.2.1 (hn b (by simp)), hb.1.2.2⟩, hb.2.off h fun c hc => hn c (by simp [hc])⟩
theorem Facts.off {S : Nat → Prop} {W W' : World} (h : Off S W W') : ∀ {fs : List Fc}, Facts W fs → Facts W' fs
 | [], _ => trivial
 | _ :: _, hf => ⟨h.fct _ hf.1, hf.2.off h⟩
theorem St.off {S : Nat → Prop} {w W W' : World} {bs : List Bk} {fs : List Fc} (h : St w bs fs W) (ho : Off S W W') (hn : ∀ b ∈ bs, ¬ S b.pos) (hS : ∀ k, S k → w.heap.size ≤ k) : St w bs fs W' :=
 ⟨h.bel.trans ⟨ho.os, ho.tape, ho.output, ho.size, fun k hk => ho.block k (Nat.lt_of_lt_of_le hk h.bel.size) fun e => by have := hS k e; omega⟩, h.box.off ho hn, h.fct.off ho⟩
def roundEnd (S : Nat → Prop) (I : Nat → World → Prop) (Ix : Code → World → Prop) (N i : Nat) (W : World) : Exit → Act → World → Prop
 | .normal, _, W' => i < N ∧ Off S W W' ∧ I (i + 1) W'
 | .exit id, _, W' => i = N ∧ Off S W W' ∧ Ix (.exit id) W'
 | _, _, _ => False
def Iter (P : Program) (gf : Nat) (lb : Array Value) (Ba N : Nat) (G : Nat → Value → World → Prop) (B0 : Nat) (W0 : World) : Prop :=
 ∀ (l : Nat) (S : Nat → Prop) (J : Nat → World → Prop) (Jx : World → Prop) (W1 : World), Off (fun _ => False) W0 W1 → ¬ S Ba → (∀ k, S k → B0 ≤ k ∧ k < W1.heap.size) →
  (∀ i W W', Off (fun k => k = Ba ∨ W1.heap.size ≤ k) W W' → J i W → J i W') → (∀ W W', Off (fun k => k = Ba ∨ W1.heap.size ≤ k) W W' → Jx W → Jx W') →
  (∀ i W v, i ≤ N → J i W → G i v W → YieldAt Fence.wide 0 P l #[v] W fun e W' =>
   Off S W W' ∧ ((i < N ∧ e = .returned (.bool true) ∧ J (i + 1) W') ∨ (i = N ∧ e = .returned (.bool false) ∧ Jx W'))) →
  J 0 W1 → CallsIn Fence.wide 1 P gf (#[.func (.yield l) #[] #[]] ++ lb) W1 fun e W' => (∃ v, e = .returned v) ∧ Jx W'
theorem wp_iter {P : Program} {g : Operand} {ps : Array Tmp} {assign body : Code} {Q : Exit → Act → World → Prop} {a : Act} {W0 : World}
  {gf : Nat} {lb : Array Value} (hg : a.eval g = .func (.func gf) #[] lb) (eg : ∀ args w, (callFunc gf args).run P w = .ok (.enter gf args) w) {Ba N B0 : Nat} {G : Nat → Value → World → Prop} (hit : Iter P gf lb Ba N G B0 W0) (hps : ps.size = 1)
  (S : Nat → Prop) (hBa : ¬ S Ba) (hBl : Ba < W0.heap.size) (hB0 : B0 ≤ W0.heap.size) (hS : ∀ k, S k → B0 ≤ k ∧ k < W0.heap.size) (I : Nat → World → Prop) (Ix : Code → World → Prop)
  (hI : ∀ i W W', Off (fun k => k = Ba ∨ W0.heap.size ≤ k) W W' → I i W → I i W') (hIx : ∀ c W W', Off (fun k => k = Ba ∨ W0.heap.size ≤ k) W W' → Ix c W → Ix c W') (h0 : I 0 W0)
  (hround : ∀ (l i : Nat) (v : Value) (W : World), W0.heap.size ≤ l → l < W.heap.size → i ≤ N → I i W → G i v W →
   ∀ K : Act → World → Prop, (∀ a1 W1, Off S W W1 → (∀ W2, Off (fun k => k = l) W1 W2 → body.wpIn (Fence.wide.inRound l) 0 P (roundEnd S I Ix N i W2) a1 W2) → K a1 W1) →
   assign.wpIn (Fence.wide.inRound l) 0 P (Exit.then K (fun _ _ _ => False)) { tmps := (ps.zip #[v]).foldl (fun t (p, v) => t.setIfInBounds p v) a.tmps, defers := [] } W)
  (hstop : ∀ (D : Nat) (c : Code) (W : World), W0.heap.size ≤ D → Ix c W → W.heap[D]? = some (.deferred (some [])) → c.wpIn Fence.wide 2 P Q { a with defers := { target := .collected D, args := #[] } :: a.defers } W) :
  (Code.rangeFunc g ps assign body).wpIn Fence.wide 2 P Q a W0 := by
 refine wpIn_rangeFunc ?_
 intro fn hfn
 obtain ⟨rec, hrec⟩ : ∃ rec : LoopState → Option Code → Loop, rec = fun st pe => { state := st, pending := pe, fn, tmps := a.tmps, params := ps, assign, body, defers := W0.heap.size } := ⟨_, rfl⟩
 obtain ⟨W1, hW1⟩ : ∃ W1, (W0.alloc (.deferred (some []))).alloc (.loop (rec .ready none)) = W1 := ⟨_, rfl⟩
 have hL1 : W1.heap[W0.heap.size + 1]? = some (.loop (rec .ready none)) := by
  rw [← hW1]; have := World.alloc_heap_new (W0.alloc (.deferred (some []))) (.loop (rec .ready none)); rwa [World.size_alloc] at this
 have hK1 : W1.heap[W0.heap.size]? = some (.deferred (some [])) := by
  rw [← hW1]; exact (Below.heap_alloc _ _ _ (by simp)).trans (World.alloc_heap_new W0 _)
 have hb1 : Below W0.heap.size W0 W1 := by
  rw [← hW1]; exact ((Below.refl _ W0).alloc (Nat.le_refl _) _).alloc (by simp) _
 have hz1 : W1.heap.size = W0.heap.size + 2 := by rw [← hW1]; simp
 refine ⟨W0.heap.size + 1, [{ target := .collected W0.heap.size, args := #[] }], W1, { target := .fn (.func gf) lb, args := #[.func (.yield (W0.heap.size + 1)) #[] #[]] }, W1, gf,
  #[.func (.yield (W0.heap.size + 1)) #[] #[]] ++ lb, W1, ?_, ?_, ?_, ?_, fun h => by simp [Fence.wide] at h, ?_⟩
 ·rw [← hW1, hrec]; exact run_enterLoop_outer _ _ _ _ _
 ·simp only [resolve, hg]
  simp [go_sem]
 ·intro f' hf'; exact trivial
 ·simp [invoke, go_sem, eg]
 have hT : ∀ {k : Nat}, (k = Ba ∨ W1.heap.size ≤ k) → (k = Ba ∨ W0.heap.size ≤ k) := fun h => h.imp id fun h => by omega
 refine (hit (W0.heap.size + 1) (fun k => S k ∨ k = W0.heap.size + 1)
  (fun i W => I i W ∧ W.heap[W0.heap.size + 1]? = some (.loop (rec .ready none)) ∧ W.heap[W0.heap.size]? = some (.deferred (some [])))
  (fun W => ∃ c, Ix c W ∧ W.heap[W0.heap.size + 1]? = some (.loop (rec .done (some c))) ∧ W.heap[W0.heap.size]? = some (.deferred (some [])))
  W1 (Off.of_below hb1) (fun h => h.elim hBa fun h => by omega) (fun k hk => hk.elim (fun h => by have := hS k h; omega) fun h => by omega)
  (fun i W W' ho ⟨hi, hl, hk⟩ => ⟨hI i W W' (ho.mono fun k _ h => hT h) hi, ho.heap hl (by omega), ho.heap hk (by omega)⟩)
  (fun W W' ho ⟨c, hi, hl, hk⟩ => ⟨c, hIx c W W' (ho.mono fun k _ h => hT h) hi, ho.heap hl (by omega), ho.heap hk (by omega)⟩) ?_
  ⟨hI 0 W0 W1 (Off.of_below hb1) h0, hL1, hK1⟩).mono ?_
 ·rintro i W v hiN ⟨hi, hl, hk⟩ hG
  have hlt : W0.heap.size + 1 < W.heap.size := (Array.getElem?_eq_some_iff.1 hl).1
  have hy := run_yield (P := P) (args := #[v]) hl (by rw [hrec]; simp [hps])
  rw [hrec] at hy
  refine ⟨fn, _, assign, body, hy, roundIn_of_wpIn hfn (hround _ i v W (by omega) hlt hiN hi hG _ ?_)⟩
  clear hy
  intro a1 Wa hoA hbody
  have hla := hoA.heap hl fun h => by have := hS _ h; omega
  have hka := hoA.heap hk fun h => by have := hS _ h; omega
  refine ⟨_, run_beginRound hla (by rw [hrec]), ?_⟩
  have hlta : W0.heap.size + 1 < Wa.heap.size := (Array.getElem?_eq_some_iff.1 hla).1
  have hl2 : (Wa.putObj (W0.heap.size + 1) (.loop { rec .ready none with state := .busy })).heap[W0.heap.size + 1]? = some (.loop { rec .ready none with state := .busy }) := World.putObj_heap_same hlta
  have hk2 : (Wa.putObj (W0.heap.size + 1) (.loop { rec .ready none with state := .busy })).heap[W0.heap.size]? = some (.deferred (some [])) := (World.putObj_heap_other (by omega)).trans hka
  have ho2 : Off (fun k => k = W0.heap.size + 1) Wa (Wa.putObj (W0.heap.size + 1) (.loop { rec .ready none with state := .busy })) := Off.putObj _ hla rfl rfl
  have hup : ∀ {A B : World}, Off S A B → Off (fun k => S k ∨ k = W0.heap.size + 1) A B := fun h => h.mono fun _ _ h => .inl h
  have hur : ∀ {A B : World}, Off (fun k => k = W0.heap.size + 1) A B → Off (fun k => S k ∨ k = W0.heap.size + 1) A B := fun h => h.mono fun _ _ h => .inr h
  have hu0 : ∀ {A B : World}, Off (fun k => k = W0.heap.size + 1) A B → Off (fun k => k = Ba ∨ W0.heap.size ≤ k) A B := fun h => h.mono fun _ _ h => .inr (by omega)
  refine wpIn_mono (hbody _ ho2) ?_
  have fin : ∀ (jump : Option Code) (W3 : World), Off S (Wa.putObj (W0.heap.size + 1) (.loop { rec .ready none with state := .busy })) W3 →
    (Instr.endRound (W0.heap.size + 1) jump).run P W3 = .ok (.bool jump.isNone) (W3.putObj (W0.heap.size + 1) (.loop (rec (if jump.isNone then .ready else .done) jump))) ∧
    Off (fun k => k = W0.heap.size + 1) W3 (W3.putObj (W0.heap.size + 1) (.loop (rec (if jump.isNone then .ready else .done) jump))) ∧
    (W3.putObj (W0.heap.size + 1) (.loop (rec (if jump.isNone then .ready else .done) jump))).heap[W0.heap.size + 1]? = some (.loop (rec (if jump.isNone then .ready else .done) jump)) ∧
    (W3.putObj (W0.heap.size + 1) (.loop (rec (if jump.isNone then .ready else .done) jump))).heap[W0.heap.size]? = some (.deferred (some [])) := fun jump W3 hk3 => by
   have hl3 := hk3.heap hl2 fun h => by have := hS _ h; omega
   have := run_endRound (P := P) jump hl3
   rw [hrec] at this ⊢
   exact ⟨this, Off.putObj _ hl3 rfl rfl, World.putObj_heap_same (Array.getElem?_eq_some_iff.1 hl3).1, (World.putObj_heap_other (by omega)).trans (hk3.heap hk2 fun h => by have := hS _ h; omega)⟩
  rintro e a3 W3 hp
  cases e with
  | normal =>
   obtain ⟨hin, hk3, hi3⟩ := hp
   obtain ⟨hr, ho4, hl4, hk4⟩ := fin none W3 hk3
   exact ⟨_, _, hr, ((hup hoA).trans (hur ho2)).trans ((hup hk3).trans (hur ho4)), .inl ⟨hin, rfl, hI _ _ _ (hu0 ho4) hi3, hl4, hk4⟩⟩
  | exit id =>
   obtain ⟨hin, hk3, hi3⟩ := hp
   obtain ⟨hr, ho4, hl4, hk4⟩ := fin (some (.exit id)) W3 hk3
   exact ⟨_, _, hr, ((hup hoA).trans (hur ho2)).trans ((hup hk3).trans (hur ho4)), .inr ⟨hin, rfl, _, hIx _ _ _ (hu0 ho4) hi3, hl4, hk4⟩⟩
  | ret => exact hp.elim
  | goto t => exact hp.elim
  | panic ch => exact hp.elim
  | outgrown => exact hp.elim
 ·rintro e W2 ⟨⟨v, rfl⟩, c, hi, hl, hk⟩
  refine ⟨some c, _, by have := run_endLoop (P := P) hl (by rw [hrec]; simp); rw [hrec] at this; exact this, hstop _ c _ (Nat.le_refl _) ?_ ((World.putObj_heap_other (by omega)).trans hk)⟩
  exact hIx c _ _ ((Off.putObj (S := fun k => k = W0.heap.size + 1) _ hl rfl rfl).mono fun _ _ h => .inr (by omega)) hi
end Go.Proofs.YtppjkikaaonbkaaGreatDoor
