/- What the proof rests on, part 33: ExactField. -/
import Derived.Test.YtppjkikaaonbkaaGreatDoorP31
import Derived.Test.YtppjkikaaonbkaaGreatDoorP32
namespace Go.Proofs.YtppjkikaaonbkaaGreatDoor
set_option maxRecDepth 100000
set_option maxHeartbeats 80000000
open Go.RowKit Go.Sort
attribute [local go_sem] takes takesUpon_value takesUpon_skip takesUpon_enter
theorem add_mk (r s : Rat) : mkRat (r.num * s.den + s.num * r.den) (r.den * s.den) = r + s := by
 have := Rat.mkRat_add_mkRat r.num s.num r.den_nz s.den_nz
 rw [Rat.mkRat_self, Rat.mkRat_self] at this
 exact this.symm
theorem Fits.add {a b : Nat} {r s : Rat} (h : Fits a r) (k : Fits b s) : Fits (a + b + 1) (r + s) := by
 have h0 : r.den * s.den ≠ 0 := Nat.mul_ne_zero r.den_nz s.den_nz
 obtain ⟨h1, -, h3⟩ := Z4.q_parts (r.num * s.den + s.num * r.den) (r.den * s.den) _ h0 rfl
 rw [add_mk] at h1 h3
 have hp : B64 ^ (a + b) * 2 ≤ B64 ^ (a + b + 1) := by rw [Nat.pow_succ]; exact Nat.mul_le_mul_left _ (by decide)
 have e1 : r.num.natAbs * s.den < B64 ^ (a + b) := by rw [Nat.pow_add]; exact Nat.mul_lt_mul'' h.1 k.2
 have e2 : s.num.natAbs * r.den < B64 ^ (a + b) := by rw [Nat.pow_add, Nat.mul_comm (B64 ^ a)]; exact Nat.mul_lt_mul'' k.1 h.2
 have e3 : r.den * s.den < B64 ^ (a + b) := by rw [Nat.pow_add]; exact Nat.mul_lt_mul'' h.2 k.2
 have e4 : (r.num * (s.den : Int) + s.num * (r.den : Int)).natAbs ≤ r.num.natAbs * s.den + s.num.natAbs * r.den := by
  refine Nat.le_trans (Int.natAbs_add_le _ _) ?_
  rw [Int.natAbs_mul, Int.natAbs_mul, Int.natAbs_natCast, Int.natAbs_natCast]
  exact Nat.le_refl _
 refine ⟨?_, ?_⟩
 ·rw [h1]; have := Nat.div_le_self (r.num * (s.den : Int) + s.num * (r.den : Int)).natAbs (Nat.gcd (r.num * (s.den : Int) + s.num * (r.den : Int)).natAbs (r.den * s.den)); omega
 ·rw [h3]; have := Nat.div_le_self (r.den * s.den) (Nat.gcd (r.num * (s.den : Int) + s.num * (r.den : Int)).natAbs (r.den * s.den)); omega
theorem Fits.sub {a b : Nat} {r s : Rat} (h : Fits a r) (k : Fits b s) : Fits (a + b + 1) (r - s) := by
 rw [Rat.sub_eq_add_neg]
 exact h.add k.neg
theorem fits_quot {r s : Rat} (h : Fits 4 r) (k : Fits 4 s) : Fits 8 (r / s) := by
 rw [Rat.div_def]
 by_cases h0 : s = 0
 ·subst h0; rw [Rat.inv_zero, Rat.mul_zero]; exact fits_dec (by decide +kernel) (by decide +kernel)
 ·exact h.mul (k.inv h0)
theorem sgQ_ne {r : Rat} (h : r ≠ 0) : sgQ r ≠ 0 := by
 have h1 : r.num ≠ 0 := fun e => h (Rat.num_eq_zero.1 e)
 unfold sgQ sgn
 split
 ·decide
 ·rw [if_neg (by omega)]; decide
theorem cmpQ_add (r s t : Rat) : cmpQ (r + t) (s + t) = cmpQ r s := by
 unfold cmpQ
 have h1 : (r + t < s + t) ↔ r < s := by constructor <;> intro h <;> grind
 have h2 : (r + t = s + t) ↔ r = s := by constructor <;> intro h <;> grind
 simp only [h1, h2]
theorem wrap_small (M : Int) (h1 : -1 ≤ M) (h2 : M ≤ 1) : IntKind.i64.wrap M = M := by
 rcases (show M = -1 ∨ M = 0 ∨ M = 1 by omega) with h | h | h <;> subst h <;> decide
theorem cmpQ_swap (r s : Rat) : cmpQ s r = -cmpQ r s := by
 unfold cmpQ
 by_cases h : r < s
 ·rw [if_pos h, if_neg (by grind), if_neg (by grind)]; rfl
 ·by_cases h2 : r = s
  ·subst h2; rw [if_neg h, if_pos rfl]; rfl
  ·rw [if_pos (by grind), if_neg h, if_neg h2]
theorem cmpQ_bd (r s : Rat) : -1 ≤ cmpQ r s ∧ cmpQ r s ≤ 1 := by
 unfold cmpQ
 split
 ·decide
 ·split <;> decide
theorem sgQ_cmp (r : Rat) : sgQ r = cmpQ r 0 := by
 unfold sgQ sgn cmpQ
 have h1 : (r < 0) ↔ r.num < 0 := by rw [Rat.lt_iff]; simp
 have h2 : (r = 0) ↔ r.num.natAbs = 0 := by rw [Int.natAbs_eq_zero]; exact Rat.num_eq_zero.symm
 simp only [h1, h2, decide_eq_true_eq]
theorem sgQ_sub (r s : Rat) : sgQ (r - s) = cmpQ r s := by
 rw [sgQ_cmp, ← cmpQ_add r s (-s)]
 rw [show r + -s = r - s by grind, show s + -s = 0 by grind]
theorem sgQ_sq (r : Rat) : 0 ≤ sgQ (r * r) := by
 rw [sgQ_cmp]
 unfold cmpQ
 have h0 : 0 ≤ r * r := by
  by_cases h : 0 ≤ r
  ·exact Rat.mul_nonneg h h
  ·have h1 : 0 ≤ -r := by grind
   have h2 := Rat.mul_nonneg h1 h1
   rwa [show -r * -r = r * r by grind] at h2
 rw [if_neg (by grind)]
 split <;> decide
theorem wpList_frame {P : Program} {ops : Array Oper} {Q : Exit → Act → World → Prop} {r r' : List Oper} {a a' : Act} {W : World} (hr : r = r') (ha : a = a') (h : wpList P ops Q r' a' W) : wpList P ops Q r a W := by
 subst hr ha
 exact h
theorem field_walk (n1 d1 n2 d2 n3 d3 : Int) (b1 b2 b3 : Nat) (A B C : Rat) (HB1 : Hid (∀ W, Tab W → Calls Tryz.prog 20 #[.agg #[.int .i64 n1, .int .i64 d1, .int .u8 (b1 : Int)]] W (RetB W A))) (HB2 : Hid (∀ W, Tab W → Calls Tryz.prog 20 #[.agg #[.int .i64 n2, .int .i64 d2, .int .u8 (b2 : Int)]] W (RetB W B))) (HB3 : Hid (∀ W, Tab W → Calls Tryz.prog 20 #[.agg #[.int .i64 n3, .int .i64 d3, .int .u8 (b3 : Int)]] W (RetB W C)))
  (FA : Fits 4 A) (FB : Fits 4 B) (FC : Fits 4 C) (hN : NearOK) (w : World) (hE : Env w) :
  Calls Tryz.prog 10 #[.agg #[.int .i64 n1, .int .i64 d1, .int .u8 (b1 : Int)], .agg #[.int .i64 n2, .int .i64 d2, .int .u8 (b2 : Int)], .agg #[.int .i64 n3, .int .i64 d3, .int .u8 (b3 : Int)]] w (RetI w (.bool true)) := by
 have HE := hid hE
 have HN := hid hN
 have HF := hid (And.intro FA (And.intro FB FC))
 have HQ := hid (fits_quot FA FB)
 clear FA FB FC hN hE
 go_enter Tryz.func10, Tryz.ntmps10
 go_wp2_with fail
 have hS0 := hid ((((St.start w).alloc' (w.heap.size) (by simp) 46 [.int .i64 n1, .int .i64 d1, .int .u8 (b1 : Int)]).alloc' (w.heap.size + 1) (by simp) 46 [.int .i64 n2, .int .i64 d2, .int .u8 (b2 : Int)]).alloc' (w.heap.size + 1 + 1) (by simp) 46 [.int .i64 n3, .int .i64 d3, .int .u8 (b3 : Int)])
 obtain ⟨W0, hW0⟩ := nameW hS0
 rw [hW0] at hS0 ⊢
 clear hW0
 refine (HB1.out _ (HE.out.below hS0.out.bel (Nat.le_refl _)).tz).mono ?_
 rintro e w1 ⟨v1, v1', rfl, hv1, hr1, hB⟩
 have hS1 := hid (hS0.out.call hB)
 clear hB
 clear hS0
 obtain ⟨t1, x1, p1, l1, q1, y1, r1, s1, u1, rfl⟩ := hv1.open
 obtain ⟨t11, p11, l11, k11, r11, s11, u11, rfl⟩ := hr1.open
 clear hr1
 have hS2 := hid (hS1.out.fq hv1)
 clear hS1 hv1
 obtain ⟨ne1l, ne1, ne1'⟩ := hS2.out.ne 2 w.heap.size 46 [.int .i64 n1, .int .i64 d1, .int .u8 (b1 : Int)] rfl
 obtain ⟨ne2l, ne2, ne2'⟩ := hS2.out.ne 1 (w.heap.size + 1) 46 [.int .i64 n2, .int .i64 d2, .int .u8 (b2 : Int)] rfl
 obtain ⟨ne3l, ne3, ne3'⟩ := hS2.out.ne 0 (w.heap.size + 1 + 1) 46 [.int .i64 n3, .int .i64 d3, .int .u8 (b3 : Int)] rfl
 obtain ⟨⟨cN20, cN21, cN22⟩, fN20, fN21, fN22⟩ := hS2.out.f3 1 (w.heap.size + 1) 46 (.int .i64 n2) (.int .i64 d2) (.int .u8 (b2 : Int)) rfl
 go_wp2_with fail
 clear cN20 cN21 cN22 fN20 fN21 fN22
 have hS3 := hid (((hS2.out).alloc' (w1.heap.size) (by simp) 31 (c5 t1 x1 p1 l1 q1 y1 r1 s1 u1)).alloc' (w1.heap.size + 1) (by simp) 40 [.bool t11, .slice p11 l11 k11, .bool false, .slice r11 s11 u11])
 obtain ⟨W1, hW1⟩ := nameW hS3
 rw [hW1] at hS3 ⊢
 clear hW1
 refine (HB2.out _ (HE.out.below hS3.out.bel (Nat.le_refl _)).tz).mono ?_
 rintro e w2 ⟨v2, v2', rfl, hv2, hr2, hB⟩
 have hS4 := hid (hS3.out.call hB)
 clear hB
 clear hS3
 obtain ⟨t2, x2, p2, l2, q2, y2, r2, s2, u2, rfl⟩ := hv2.open
 obtain ⟨t12, p12, l12, k12, r12, s12, u12, rfl⟩ := hr2.open
 clear hr2
 have hS5 := hid (hS4.out.fq hv2)
 clear hS4 hv2
 obtain ⟨ne4l, ne4, ne4'⟩ := hS5.out.ne 4 w.heap.size 46 [.int .i64 n1, .int .i64 d1, .int .u8 (b1 : Int)] rfl
 obtain ⟨ne5l, ne5, ne5'⟩ := hS5.out.ne 3 (w.heap.size + 1) 46 [.int .i64 n2, .int .i64 d2, .int .u8 (b2 : Int)] rfl
 obtain ⟨ne6l, ne6, ne6'⟩ := hS5.out.ne 2 (w.heap.size + 1 + 1) 46 [.int .i64 n3, .int .i64 d3, .int .u8 (b3 : Int)] rfl
 obtain ⟨ne7l, ne7, ne7'⟩ := hS5.out.ne 1 w1.heap.size 31 (c5 t1 x1 p1 l1 q1 y1 r1 s1 u1) rfl
 obtain ⟨ne8l, ne8, ne8'⟩ := hS5.out.ne 0 (w1.heap.size + 1) 40 [.bool t11, .slice p11 l11 k11, .bool false, .slice r11 s11 u11] rfl
 obtain ⟨⟨cN30, cN31, cN32⟩, fN30, fN31, fN32⟩ := hS5.out.f3 2 (w.heap.size + 1 + 1) 46 (.int .i64 n3) (.int .i64 d3) (.int .u8 (b3 : Int)) rfl
 go_wp2_with fail
 clear cN30 cN31 cN32 fN30 fN31 fN32
 have hS6 := hid (((hS5.out).alloc' (w2.heap.size) (by simp) 31 (c5 t2 x2 p2 l2 q2 y2 r2 s2 u2)).alloc' (w2.heap.size + 1) (by simp) 40 [.bool t12, .slice p12 l12 k12, .bool false, .slice r12 s12 u12])
 obtain ⟨W2, hW2⟩ := nameW hS6
 rw [hW2] at hS6 ⊢
 clear hW2
 refine (HB3.out _ (HE.out.below hS6.out.bel (Nat.le_refl _)).tz).mono ?_
 rintro e w3 ⟨v3, v3', rfl, hv3, hr3, hB⟩
 have hS7 := hid (hS6.out.call hB)
 clear hB
 clear hS6
 obtain ⟨t3, x3, p3, l3, q3, y3, r3, s3, u3, rfl⟩ := hv3.open
 obtain ⟨t13, p13, l13, k13, r13, s13, u13, rfl⟩ := hr3.open
 clear hr3
 have hS8 := hid (hS7.out.fq hv3)
 clear hS7 hv3
 obtain ⟨ne9l, ne9, ne9'⟩ := hS8.out.ne 6 w.heap.size 46 [.int .i64 n1, .int .i64 d1, .int .u8 (b1 : Int)] rfl
 obtain ⟨ne10l, ne10, ne10'⟩ := hS8.out.ne 5 (w.heap.size + 1) 46 [.int .i64 n2, .int .i64 d2, .int .u8 (b2 : Int)] rfl
 obtain ⟨ne11l, ne11, ne11'⟩ := hS8.out.ne 4 (w.heap.size + 1 + 1) 46 [.int .i64 n3, .int .i64 d3, .int .u8 (b3 : Int)] rfl
 obtain ⟨ne12l, ne12, ne12'⟩ := hS8.out.ne 3 w1.heap.size 31 (c5 t1 x1 p1 l1 q1 y1 r1 s1 u1) rfl
 obtain ⟨ne13l, ne13, ne13'⟩ := hS8.out.ne 2 (w1.heap.size + 1) 40 [.bool t11, .slice p11 l11 k11, .bool false, .slice r11 s11 u11] rfl
 obtain ⟨ne14l, ne14, ne14'⟩ := hS8.out.ne 1 w2.heap.size 31 (c5 t2 x2 p2 l2 q2 y2 r2 s2 u2) rfl
 obtain ⟨ne15l, ne15, ne15'⟩ := hS8.out.ne 0 (w2.heap.size + 1) 40 [.bool t12, .slice p12 l12 k12, .bool false, .slice r12 s12 u12] rfl
 go_wp2_with fail
 have hS9 := hid (((hS8.out).alloc' (w3.heap.size) (by simp) 31 (c5 t3 x3 p3 l3 q3 y3 r3 s3 u3)).alloc' (w3.heap.size + 1) (by simp) 40 [.bool t13, .slice p13 l13 k13, .bool false, .slice r13 s13 u13])
 obtain ⟨W3, hW3⟩ := nameW hS9
 rw [hW3] at hS9 ⊢
 clear hW3
 have EQ1 := hid (show (A + B) = (B + A) by grind)
 have EQ2 := hid (show (A * B) = (B * A) by grind)
 have EQ3 := hid (show ((A + B) + C) = (A + (B + C)) by grind)
 have EQ4 := hid (show ((A * B) * C) = (A * (B * C)) by grind)
 have EQ5 := hid (show (A * (B + C)) = ((A * B) + (A * C)) by grind)
 have EQ6 := hid (show ((A - B) + B) = A by grind)
 have EQ7 := hid (show (A + (-A)) = 0 by grind)
 simp only [List.append_eq, List.cons_append, List.nil_append]
 have LM0 := hid (fun (W : World) (h : Below W3.heap.size W3 W) => (hS9.out.call h).q5 5 2 w1.heap.size 31 t1 x1 p1 l1 q1 y1 r1 s1 u1 A rfl rfl)
 have LM1 := hid (fun (W : World) (h : Below W3.heap.size W3 W) => (hS9.out.call h).q5 3 1 w2.heap.size 31 t2 x2 p2 l2 q2 y2 r2 s2 u2 B rfl rfl)
 have LM2 := hid (fun (W : World) (h : Below W3.heap.size W3 W) => HE.out.below (hS9.out.call h).bel (Nat.le_refl _))
 have LM3 := hid (fun (W : World) (h : Below W3.heap.size W3 W) => (hS9.out.call h).q5 1 0 w3.heap.size 31 t3 x3 p3 l3 q3 y3 r3 s3 u3 C rfl rfl)
 refine wp_region_inv 81 [⟨[], [0]⟩, ⟨[], [1]⟩, ⟨[0, 1], [2]⟩, ⟨[], [3]⟩, ⟨[], [4]⟩, ⟨[3, 4], [5]⟩, ⟨[2, 5], [6]⟩, ⟨[6], [7]⟩, ⟨[7], [8]⟩, ⟨[8], [9]⟩, ⟨[8], [10]⟩, ⟨[9, 10, 8], [11]⟩, ⟨[8], [12]⟩, ⟨[8], [13]⟩, ⟨[12, 13, 8], [14]⟩, ⟨[11, 14, 8], [15]⟩, ⟨[15, 8], [16]⟩, ⟨[8, 16], [17]⟩, ⟨[17], [18]⟩, ⟨[18], [19]⟩, ⟨[18], [20]⟩, ⟨[19, 20, 18], [21]⟩, ⟨[18], [22]⟩, ⟨[21, 22, 18], [23]⟩, ⟨[18], [24]⟩, ⟨[18], [25]⟩, ⟨[18], [26]⟩, ⟨[25, 26, 18], [27]⟩, ⟨[24, 27, 18], [28]⟩, ⟨[23, 28, 18], [29]⟩, ⟨[29, 18], [30]⟩, ⟨[18, 30], [31]⟩, ⟨[31], [32]⟩, ⟨[32], [33]⟩, ⟨[32], [34]⟩, ⟨[33, 34, 32], [35]⟩, ⟨[32], [36]⟩, ⟨[35, 36, 32], [37]⟩, ⟨[32], [38]⟩, ⟨[32], [39]⟩, ⟨[32], [40]⟩, ⟨[39, 40, 32], [41]⟩, ⟨[38, 41, 32], [42]⟩, ⟨[37, 42, 32], [43]⟩, ⟨[43, 32], [44]⟩, ⟨[32, 44], [45]⟩, ⟨[45], [46]⟩, ⟨[46], [47]⟩, ⟨[46], [48]⟩, ⟨[46], [49]⟩, ⟨[48, 49, 46], [50]⟩, ⟨[47, 50, 46], [51]⟩, ⟨[46], [52]⟩, ⟨[46], [53]⟩, ⟨[52, 53, 46], [54]⟩, ⟨[46], [55]⟩, ⟨[46], [56]⟩, ⟨[55, 56, 46], [57]⟩, ⟨[54, 57, 46], [58]⟩, ⟨[51, 58, 46], [59]⟩, ⟨[59, 46], [60]⟩, ⟨[46, 60], [61]⟩, ⟨[61], [62]⟩, ⟨[62], [63]⟩, ⟨[62], [64]⟩, ⟨[63, 64, 62], [65]⟩, ⟨[62], [66]⟩, ⟨[65, 66, 62], [67]⟩, ⟨[62], [68]⟩, ⟨[67, 68, 62], [69]⟩, ⟨[69, 62], [70]⟩, ⟨[62, 70], [71]⟩, ⟨[71], [72]⟩, ⟨[72], [73]⟩, ⟨[72], [74]⟩, ⟨[74, 72], [75]⟩, ⟨[73, 75, 72], [76]⟩, ⟨[72], [77]⟩, ⟨[76, 77, 72], [78]⟩, ⟨[78, 72], [79]⟩, ⟨[72, 79], [80]⟩]
  [oQ A, oQ B, oQ ((A + B)), oQ B, oQ A, oQ ((B + A)), oE (.bool true), oE (.bool false), oE (.bool false), oQ A, oQ B, oQ ((A * B)), oQ B, oQ A, oQ ((B * A)), oE (.bool true), oE (.bool false), oE (.bool false), oE (.bool false), oQ A, oQ B, oQ ((A + B)), oQ C, oQ (((A + B) + C)), oQ A, oQ B, oQ C, oQ ((B + C)), oQ ((A + (B + C))), oE (.bool true), oE (.bool false), oE (.bool false), oE (.bool false), oQ A, oQ B, oQ ((A * B)), oQ C, oQ (((A * B) * C)), oQ A, oQ B, oQ C, oQ ((B * C)), oQ ((A * (B * C))), oE (.bool true), oE (.bool false), oE (.bool false), oE (.bool false), oQ A, oQ B, oQ C, oQ ((B + C)), oQ ((A * (B + C))), oQ A, oQ B, oQ ((A * B)), oQ A, oQ C, oQ ((A * C)), oQ (((A * B) + (A * C))), oE (.bool true), oE (.bool false), oE (.bool false), oE (.bool false), oQ A, oQ B, oQ ((A - B)), oQ B, oQ (((A - B) + B)), oQ A, oE (.bool true), oE (.bool false), oE (.bool false), oE (.bool false), oQ A, oQ A, oQ ((-A)), oQ ((A + (-A))), oE (.agg #[.bool false, .int .u64 0, .slice none 0 0, .int .u64 0, .slice none 0 0]), oE (.bool true), oE (.bool false), oE (.bool false)]
  (fun _ W => Below W3.heap.size W3 W) (by kernel_rfl) (by kernel_rfl) ?hTWA ?hZWA ?hOWA ?hEWA
 case hZWA => exact (Below.refl _ _).drew
 case hTWA =>
  simp only [List.forall_mem_cons, List.not_mem_nil, false_imp_iff, implies_true, and_true]
  exact ⟨bQ, bQ, bQ, bQ, bQ, bQ, bE, bE, bE, bQ, bQ, bQ, bQ, bQ, bQ, bE, bE, bE, bE, bQ, bQ, bQ, bQ, bQ, bQ, bQ, bQ, bQ, bQ, bE, bE, bE, bE, bQ, bQ, bQ, bQ, bQ, bQ, bQ, bQ, bQ, bQ, bE, bE, bE, bE, bQ, bQ, bQ, bQ, bQ, bQ, bQ, bQ, bQ, bQ, bQ, bQ, bE, bE, bE, bE, bQ, bQ, bQ, bQ, bQ, bQ, bE, bE, bE, bE, bQ, bQ, bQ, bQ, bE, bE, bE, bE⟩
 case hOWA =>
  intro u
  simp only [List.take_succ_cons, List.take_zero, putAll]
  repeat' (first | with_reducible exact debts_nil | with_reducible refine debts_cons ?_ ?_)
  ·intro W hS hF K hK
   have hc := LM0.out W hS
   go_simp
   exact hK _ _ (.refl _ _) hS hc.2
  ·intro W hS hF K hK
   have hc := LM1.out W hS
   go_simp
   exact hK _ _ (.refl _ _) hS hc.2
  ·intro W hS hF K hK
   have hq0 : IsQ W (u 0) A := hF.1
   have hq1 : IsQ W (u 1) B := hF.2.1
   clear hF
   go_simp
   refine (Add_calls A B _ _ 64 _ hq0 hq1 (by decide) (HF.out.1.mono (by decide)) (HF.out.2.1.mono (by decide)) (LM2.out W hS).tz).mono ?_
   rintro e wA ⟨v, rfl, hv, hBA⟩
   exact ⟨_, rfl, hK _ _ hBA (hS.trans (hBA.mono hS.size)) hv⟩
  ·intro W hS hF K hK
   have hc := LM1.out W hS
   go_simp
   exact hK _ _ (.refl _ _) hS hc.2
  ·intro W hS hF K hK
   have hc := LM0.out W hS
   go_simp
   exact hK _ _ (.refl _ _) hS hc.2
  ·intro W hS hF K hK
   have hq3 : IsQ W (u 3) B := hF.1
   have hq4 : IsQ W (u 4) A := hF.2.1
   clear hF
   go_simp
   refine (Add_calls B A _ _ 64 _ hq3 hq4 (by decide) (HF.out.2.1.mono (by decide)) (HF.out.1.mono (by decide)) (LM2.out W hS).tz).mono ?_
   rintro e wA ⟨v, rfl, hv, hBA⟩
   exact ⟨_, rfl, hK _ _ hBA (hS.trans (hBA.mono hS.size)) hv⟩
  ·intro W hS hF K hK
   have hq2 : IsQ W (u 2) ((A + B)) := hF.1
   have hq5 : IsQ W (u 5) ((B + A)) := hF.2.1
   clear hF
   go_simp
   refine (same_calls (A + B) _ _ 64 _ hq2 (by rw [EQ1.out]; exact hq5) (by decide) ((HF.out.1.add HF.out.2.1).mono (by decide)) (LM2.out W hS)).mono ?_
   rintro e wA ⟨rfl, hBA⟩
   exact ⟨_, rfl, hK _ _ hBA (hS.trans (hBA.mono hS.size)) rfl⟩
  ·intro W hS hF K hK
   have h6 : u 6 = .bool true := hF.1
   clear hF
   go_simp
   exact hK _ _ (.refl _ _) hS rfl
  ·intro W hS hF K hK
   have h7 : u 7 = .bool false := hF.1
   clear hF
   go_simp
   exact hK _ _ (.refl _ _) hS rfl
  ·intro W hS hF K hK
   have h8 : u 8 = .bool false := hF.1
   have hc := LM0.out W hS
   clear hF
   go_simp
   exact hK _ _ (.refl _ _) hS hc.2
  ·intro W hS hF K hK
   have h8 : u 8 = .bool false := hF.1
   have hc := LM1.out W hS
   clear hF
   go_simp
   exact hK _ _ (.refl _ _) hS hc.2
  ·intro W hS hF K hK
   have hq9 : IsQ W (u 9) A := hF.1
   have hq10 : IsQ W (u 10) B := hF.2.1
   have h8 : u 8 = .bool false := hF.2.2.1
   clear hF
   go_simp
   refine (Mul_calls A B _ _ 64 _ hq9 hq10 (by decide) (HF.out.1.mono (by decide)) (HF.out.2.1.mono (by decide)) (LM2.out W hS).tz).mono ?_
   rintro e wA ⟨v, rfl, hv, hBA⟩
   exact ⟨_, rfl, hK _ _ hBA (hS.trans (hBA.mono hS.size)) hv⟩
  ·intro W hS hF K hK
   have h8 : u 8 = .bool false := hF.1
   have hc := LM1.out W hS
   clear hF
   go_simp
   exact hK _ _ (.refl _ _) hS hc.2
  ·intro W hS hF K hK
   have h8 : u 8 = .bool false := hF.1
   have hc := LM0.out W hS
   clear hF
   go_simp
   exact hK _ _ (.refl _ _) hS hc.2
  ·intro W hS hF K hK
   have hq12 : IsQ W (u 12) B := hF.1
   have hq13 : IsQ W (u 13) A := hF.2.1
   have h8 : u 8 = .bool false := hF.2.2.1
   clear hF
   go_simp
   refine (Mul_calls B A _ _ 64 _ hq12 hq13 (by decide) (HF.out.2.1.mono (by decide)) (HF.out.1.mono (by decide)) (LM2.out W hS).tz).mono ?_
   rintro e wA ⟨v, rfl, hv, hBA⟩
   exact ⟨_, rfl, hK _ _ hBA (hS.trans (hBA.mono hS.size)) hv⟩
  ·intro W hS hF K hK
   have hq11 : IsQ W (u 11) ((A * B)) := hF.1
   have hq14 : IsQ W (u 14) ((B * A)) := hF.2.1
   have h8 : u 8 = .bool false := hF.2.2.1
   clear hF
   go_simp
   refine (same_calls (A * B) _ _ 64 _ hq11 (by rw [EQ2.out]; exact hq14) (by decide) ((HF.out.1.mul HF.out.2.1).mono (by decide)) (LM2.out W hS)).mono ?_
   rintro e wA ⟨rfl, hBA⟩
   exact ⟨_, rfl, hK _ _ hBA (hS.trans (hBA.mono hS.size)) rfl⟩
  ·intro W hS hF K hK
   have h15 : u 15 = .bool true := hF.1
   have h8 : u 8 = .bool false := hF.2.1
   clear hF
   go_simp
   exact hK _ _ (.refl _ _) hS rfl
  ·intro W hS hF K hK
   have h8 : u 8 = .bool false := hF.1
   have h16 : u 16 = .bool false := hF.2.1
   clear hF
   go_simp
   exact hK _ _ (.refl _ _) hS rfl
  ·intro W hS hF K hK
   have h17 : u 17 = .bool false := hF.1
   clear hF
   go_simp
   exact hK _ _ (.refl _ _) hS rfl
  ·intro W hS hF K hK
   have h18 : u 18 = .bool false := hF.1
   have hc := LM0.out W hS
   clear hF
   go_simp
   exact hK _ _ (.refl _ _) hS hc.2
  ·intro W hS hF K hK
   have h18 : u 18 = .bool false := hF.1
   have hc := LM1.out W hS
   clear hF
   go_simp
   exact hK _ _ (.refl _ _) hS hc.2
  ·intro W hS hF K hK
   have hq19 : IsQ W (u 19) A := hF.1
   have hq20 : IsQ W (u 20) B := hF.2.1
   have h18 : u 18 = .bool false := hF.2.2.1
   clear hF
   go_simp
   refine (Add_calls A B _ _ 64 _ hq19 hq20 (by decide) (HF.out.1.mono (by decide)) (HF.out.2.1.mono (by decide)) (LM2.out W hS).tz).mono ?_
   rintro e wA ⟨v, rfl, hv, hBA⟩
   exact ⟨_, rfl, hK _ _ hBA (hS.trans (hBA.mono hS.size)) hv⟩
  ·intro W hS hF K hK
   have h18 : u 18 = .bool false := hF.1
   have hc := LM3.out W hS
   clear hF
   go_simp
   exact hK _ _ (.refl _ _) hS hc.2
  ·intro W hS hF K hK
   have hq21 : IsQ W (u 21) ((A + B)) := hF.1
   have hq22 : IsQ W (u 22) C := hF.2.1
   have h18 : u 18 = .bool false := hF.2.2.1
   clear hF
   go_simp
   refine (Add_calls (A + B) C _ _ 64 _ hq21 hq22 (by decide) ((HF.out.1.add HF.out.2.1).mono (by decide)) (HF.out.2.2.mono (by decide)) (LM2.out W hS).tz).mono ?_
   rintro e wA ⟨v, rfl, hv, hBA⟩
   exact ⟨_, rfl, hK _ _ hBA (hS.trans (hBA.mono hS.size)) hv⟩
  ·intro W hS hF K hK
   have h18 : u 18 = .bool false := hF.1
   have hc := LM0.out W hS
   clear hF
   go_simp
   exact hK _ _ (.refl _ _) hS hc.2
  ·intro W hS hF K hK
   have h18 : u 18 = .bool false := hF.1
   have hc := LM1.out W hS
   clear hF
   go_simp
   exact hK _ _ (.refl _ _) hS hc.2
  ·intro W hS hF K hK
   have h18 : u 18 = .bool false := hF.1
   have hc := LM3.out W hS
   clear hF
   go_simp
   exact hK _ _ (.refl _ _) hS hc.2
  ·intro W hS hF K hK
   have hq25 : IsQ W (u 25) B := hF.1
   have hq26 : IsQ W (u 26) C := hF.2.1
   have h18 : u 18 = .bool false := hF.2.2.1
   clear hF
   go_simp
   refine (Add_calls B C _ _ 64 _ hq25 hq26 (by decide) (HF.out.2.1.mono (by decide)) (HF.out.2.2.mono (by decide)) (LM2.out W hS).tz).mono ?_
   rintro e wA ⟨v, rfl, hv, hBA⟩
   exact ⟨_, rfl, hK _ _ hBA (hS.trans (hBA.mono hS.size)) hv⟩
  ·intro W hS hF K hK
   have hq24 : IsQ W (u 24) A := hF.1
   have hq27 : IsQ W (u 27) ((B + C)) := hF.2.1
   have h18 : u 18 = .bool false := hF.2.2.1
   clear hF
   go_simp
   refine (Add_calls A (B + C) _ _ 64 _ hq24 hq27 (by decide) (HF.out.1.mono (by decide)) ((HF.out.2.1.add HF.out.2.2).mono (by decide)) (LM2.out W hS).tz).mono ?_
   rintro e wA ⟨v, rfl, hv, hBA⟩
   exact ⟨_, rfl, hK _ _ hBA (hS.trans (hBA.mono hS.size)) hv⟩
  ·intro W hS hF K hK
   have hq23 : IsQ W (u 23) (((A + B) + C)) := hF.1
   have hq28 : IsQ W (u 28) ((A + (B + C))) := hF.2.1
   have h18 : u 18 = .bool false := hF.2.2.1
   clear hF
   go_simp
   refine (same_calls ((A + B) + C) _ _ 64 _ hq23 (by rw [EQ3.out]; exact hq28) (by decide) (((HF.out.1.add HF.out.2.1).add HF.out.2.2).mono (by decide)) (LM2.out W hS)).mono ?_
   rintro e wA ⟨rfl, hBA⟩
   exact ⟨_, rfl, hK _ _ hBA (hS.trans (hBA.mono hS.size)) rfl⟩
  ·intro W hS hF K hK
   have h29 : u 29 = .bool true := hF.1
   have h18 : u 18 = .bool false := hF.2.1
   clear hF
   go_simp
   exact hK _ _ (.refl _ _) hS rfl
  ·intro W hS hF K hK
   have h18 : u 18 = .bool false := hF.1
   have h30 : u 30 = .bool false := hF.2.1
   clear hF
   go_simp
   exact hK _ _ (.refl _ _) hS rfl
  ·intro W hS hF K hK
   have h31 : u 31 = .bool false := hF.1
   clear hF
   go_simp
   exact hK _ _ (.refl _ _) hS rfl
  ·intro W hS hF K hK
   have h32 : u 32 = .bool false := hF.1
   have hc := LM0.out W hS
   clear hF
   go_simp
   exact hK _ _ (.refl _ _) hS hc.2
  ·intro W hS hF K hK
   have h32 : u 32 = .bool false := hF.1
   have hc := LM1.out W hS
   clear hF
   go_simp
   exact hK _ _ (.refl _ _) hS hc.2
  ·intro W hS hF K hK
   have hq33 : IsQ W (u 33) A := hF.1
   have hq34 : IsQ W (u 34) B := hF.2.1
   have h32 : u 32 = .bool false := hF.2.2.1
   clear hF
   go_simp
   refine (Mul_calls A B _ _ 64 _ hq33 hq34 (by decide) (HF.out.1.mono (by decide)) (HF.out.2.1.mono (by decide)) (LM2.out W hS).tz).mono ?_
   rintro e wA ⟨v, rfl, hv, hBA⟩
   exact ⟨_, rfl, hK _ _ hBA (hS.trans (hBA.mono hS.size)) hv⟩
  ·intro W hS hF K hK
   have h32 : u 32 = .bool false := hF.1
   have hc := LM3.out W hS
   clear hF
   go_simp
   exact hK _ _ (.refl _ _) hS hc.2
  ·intro W hS hF K hK
   have hq35 : IsQ W (u 35) ((A * B)) := hF.1
   have hq36 : IsQ W (u 36) C := hF.2.1
   have h32 : u 32 = .bool false := hF.2.2.1
   clear hF
   go_simp
   refine (Mul_calls (A * B) C _ _ 64 _ hq35 hq36 (by decide) ((HF.out.1.mul HF.out.2.1).mono (by decide)) (HF.out.2.2.mono (by decide)) (LM2.out W hS).tz).mono ?_
   rintro e wA ⟨v, rfl, hv, hBA⟩
   exact ⟨_, rfl, hK _ _ hBA (hS.trans (hBA.mono hS.size)) hv⟩
  ·intro W hS hF K hK
   have h32 : u 32 = .bool false := hF.1
   have hc := LM0.out W hS
   clear hF
   go_simp
   exact hK _ _ (.refl _ _) hS hc.2
  ·intro W hS hF K hK
   have h32 : u 32 = .bool false := hF.1
   have hc := LM1.out W hS
   clear hF
   go_simp
   exact hK _ _ (.refl _ _) hS hc.2
  ·intro W hS hF K hK
   have h32 : u 32 = .bool false := hF.1
   have hc := LM3.out W hS
   clear hF
   go_simp
   exact hK _ _ (.refl _ _) hS hc.2
  ·intro W hS hF K hK
   have hq39 : IsQ W (u 39) B := hF.1
   have hq40 : IsQ W (u 40) C := hF.2.1
   have h32 : u 32 = .bool false := hF.2.2.1
   clear hF
   go_simp
   refine (Mul_calls B C _ _ 64 _ hq39 hq40 (by decide) (HF.out.2.1.mono (by decide)) (HF.out.2.2.mono (by decide)) (LM2.out W hS).tz).mono ?_
   rintro e wA ⟨v, rfl, hv, hBA⟩
   exact ⟨_, rfl, hK _ _ hBA (hS.trans (hBA.mono hS.size)) hv⟩
  ·intro W hS hF K hK
   have hq38 : IsQ W (u 38) A := hF.1
   have hq41 : IsQ W (u 41) ((B * C)) := hF.2.1
   have h32 : u 32 = .bool false := hF.2.2.1
   clear hF
   go_simp
   refine (Mul_calls A (B * C) _ _ 64 _ hq38 hq41 (by decide) (HF.out.1.mono (by decide)) ((HF.out.2.1.mul HF.out.2.2).mono (by decide)) (LM2.out W hS).tz).mono ?_
   rintro e wA ⟨v, rfl, hv, hBA⟩
   exact ⟨_, rfl, hK _ _ hBA (hS.trans (hBA.mono hS.size)) hv⟩
  ·intro W hS hF K hK
   have hq37 : IsQ W (u 37) (((A * B) * C)) := hF.1
   have hq42 : IsQ W (u 42) ((A * (B * C))) := hF.2.1
   have h32 : u 32 = .bool false := hF.2.2.1
   clear hF
   go_simp
   refine (same_calls ((A * B) * C) _ _ 64 _ hq37 (by rw [EQ4.out]; exact hq42) (by decide) (((HF.out.1.mul HF.out.2.1).mul HF.out.2.2).mono (by decide)) (LM2.out W hS)).mono ?_
   rintro e wA ⟨rfl, hBA⟩
   exact ⟨_, rfl, hK _ _ hBA (hS.trans (hBA.mono hS.size)) rfl⟩
  ·intro W hS hF K hK
   have h43 : u 43 = .bool true := hF.1
   have h32 : u 32 = .bool false := hF.2.1
   clear hF
   go_simp
   exact hK _ _ (.refl _ _) hS rfl
  ·intro W hS hF K hK
   have h32 : u 32 = .bool false := hF.1
   have h44 : u 44 = .bool false := hF.2.1
   clear hF
   go_simp
   exact hK _ _ (.refl _ _) hS rfl
  ·intro W hS hF K hK
   have h45 : u 45 = .bool false := hF.1
   clear hF
   go_simp
   exact hK _ _ (.refl _ _) hS rfl
  ·intro W hS hF K hK
   have h46 : u 46 = .bool false := hF.1
   have hc := LM0.out W hS
   clear hF
   go_simp
   exact hK _ _ (.refl _ _) hS hc.2
  ·intro W hS hF K hK
   have h46 : u 46 = .bool false := hF.1
   have hc := LM1.out W hS
   clear hF
   go_simp
   exact hK _ _ (.refl _ _) hS hc.2
  ·intro W hS hF K hK
   have h46 : u 46 = .bool false := hF.1
   have hc := LM3.out W hS
   clear hF
   go_simp
   exact hK _ _ (.refl _ _) hS hc.2
  ·intro W hS hF K hK
   have hq48 : IsQ W (u 48) B := hF.1
   have hq49 : IsQ W (u 49) C := hF.2.1
   have h46 : u 46 = .bool false := hF.2.2.1
   clear hF
   go_simp
   refine (Add_calls B C _ _ 64 _ hq48 hq49 (by decide) (HF.out.2.1.mono (by decide)) (HF.out.2.2.mono (by decide)) (LM2.out W hS).tz).mono ?_
   rintro e wA ⟨v, rfl, hv, hBA⟩
   exact ⟨_, rfl, hK _ _ hBA (hS.trans (hBA.mono hS.size)) hv⟩
  ·intro W hS hF K hK
   have hq47 : IsQ W (u 47) A := hF.1
   have hq50 : IsQ W (u 50) ((B + C)) := hF.2.1
   have h46 : u 46 = .bool false := hF.2.2.1
   clear hF
   go_simp
   refine (Mul_calls A (B + C) _ _ 64 _ hq47 hq50 (by decide) (HF.out.1.mono (by decide)) ((HF.out.2.1.add HF.out.2.2).mono (by decide)) (LM2.out W hS).tz).mono ?_
   rintro e wA ⟨v, rfl, hv, hBA⟩
   exact ⟨_, rfl, hK _ _ hBA (hS.trans (hBA.mono hS.size)) hv⟩
  ·intro W hS hF K hK
   have h46 : u 46 = .bool false := hF.1
   have hc := LM0.out W hS
   clear hF
   go_simp
   exact hK _ _ (.refl _ _) hS hc.2
  ·intro W hS hF K hK
   have h46 : u 46 = .bool false := hF.1
   have hc := LM1.out W hS
   clear hF
   go_simp
   exact hK _ _ (.refl _ _) hS hc.2
  ·intro W hS hF K hK
   have hq52 : IsQ W (u 52) A := hF.1
   have hq53 : IsQ W (u 53) B := hF.2.1
   have h46 : u 46 = .bool false := hF.2.2.1
   clear hF
   go_simp
   refine (Mul_calls A B _ _ 64 _ hq52 hq53 (by decide) (HF.out.1.mono (by decide)) (HF.out.2.1.mono (by decide)) (LM2.out W hS).tz).mono ?_
   rintro e wA ⟨v, rfl, hv, hBA⟩
   exact ⟨_, rfl, hK _ _ hBA (hS.trans (hBA.mono hS.size)) hv⟩
  ·intro W hS hF K hK
   have h46 : u 46 = .bool false := hF.1
   have hc := LM0.out W hS
   clear hF
   go_simp
   exact hK _ _ (.refl _ _) hS hc.2
  ·intro W hS hF K hK
   have h46 : u 46 = .bool false := hF.1
   have hc := LM3.out W hS
   clear hF
   go_simp
   exact hK _ _ (.refl _ _) hS hc.2
  ·intro W hS hF K hK
   have hq55 : IsQ W (u 55) A := hF.1
   have hq56 : IsQ W (u 56) C := hF.2.1
   have h46 : u 46 = .bool false := hF.2.2.1
   clear hF
   go_simp
   refine (Mul_calls A C _ _ 64 _ hq55 hq56 (by decide) (HF.out.1.mono (by decide)) (HF.out.2.2.mono (by decide)) (LM2.out W hS).tz).mono ?_
   rintro e wA ⟨v, rfl, hv, hBA⟩
   exact ⟨_, rfl, hK _ _ hBA (hS.trans (hBA.mono hS.size)) hv⟩
  ·intro W hS hF K hK
   have hq54 : IsQ W (u 54) ((A * B)) := hF.1
   have hq57 : IsQ W (u 57) ((A * C)) := hF.2.1
   have h46 : u 46 = .bool false := hF.2.2.1
   clear hF
   go_simp
   refine (Add_calls (A * B) (A * C) _ _ 64 _ hq54 hq57 (by decide) ((HF.out.1.mul HF.out.2.1).mono (by decide)) ((HF.out.1.mul HF.out.2.2).mono (by decide)) (LM2.out W hS).tz).mono ?_
   rintro e wA ⟨v, rfl, hv, hBA⟩
   exact ⟨_, rfl, hK _ _ hBA (hS.trans (hBA.mono hS.size)) hv⟩
  ·intro W hS hF K hK
   have hq51 : IsQ W (u 51) ((A * (B + C))) := hF.1
   have hq58 : IsQ W (u 58) (((A * B) + (A * C))) := hF.2.1
   have h46 : u 46 = .bool false := hF.2.2.1
   clear hF
   go_simp
   refine (same_calls (A * (B + C)) _ _ 64 _ hq51 (by rw [EQ5.out]; exact hq58) (by decide) ((HF.out.1.mul (HF.out.2.1.add HF.out.2.2)).mono (by decide)) (LM2.out W hS)).mono ?_
   rintro e wA ⟨rfl, hBA⟩
   exact ⟨_, rfl, hK _ _ hBA (hS.trans (hBA.mono hS.size)) rfl⟩
  ·intro W hS hF K hK
   have h59 : u 59 = .bool true := hF.1
   have h46 : u 46 = .bool false := hF.2.1
   clear hF
   go_simp
   exact hK _ _ (.refl _ _) hS rfl
  ·intro W hS hF K hK
   have h46 : u 46 = .bool false := hF.1
   have h60 : u 60 = .bool false := hF.2.1
   clear hF
   go_simp
   exact hK _ _ (.refl _ _) hS rfl
  ·intro W hS hF K hK
   have h61 : u 61 = .bool false := hF.1
   clear hF
   go_simp
   exact hK _ _ (.refl _ _) hS rfl
  ·intro W hS hF K hK
   have h62 : u 62 = .bool false := hF.1
   have hc := LM0.out W hS
   clear hF
   go_simp
   exact hK _ _ (.refl _ _) hS hc.2
  ·intro W hS hF K hK
   have h62 : u 62 = .bool false := hF.1
   have hc := LM1.out W hS
   clear hF
   go_simp
   exact hK _ _ (.refl _ _) hS hc.2
  ·intro W hS hF K hK
   have hq63 : IsQ W (u 63) A := hF.1
   have hq64 : IsQ W (u 64) B := hF.2.1
   have h62 : u 62 = .bool false := hF.2.2.1
   clear hF
   go_simp
   refine (Sub_calls A B _ _ 64 _ hq63 hq64 (by decide) (HF.out.1.mono (by decide)) (HF.out.2.1.mono (by decide)) (LM2.out W hS).tz).mono ?_
   rintro e wA ⟨v, rfl, hv, hBA⟩
   exact ⟨_, rfl, hK _ _ hBA (hS.trans (hBA.mono hS.size)) hv⟩
  ·intro W hS hF K hK
   have h62 : u 62 = .bool false := hF.1
   have hc := LM1.out W hS
   clear hF
   go_simp
   exact hK _ _ (.refl _ _) hS hc.2
  ·intro W hS hF K hK
   have hq65 : IsQ W (u 65) ((A - B)) := hF.1
   have hq66 : IsQ W (u 66) B := hF.2.1
   have h62 : u 62 = .bool false := hF.2.2.1
   clear hF
   go_simp
   refine (Add_calls (A - B) B _ _ 64 _ hq65 hq66 (by decide) ((HF.out.1.sub HF.out.2.1).mono (by decide)) (HF.out.2.1.mono (by decide)) (LM2.out W hS).tz).mono ?_
   rintro e wA ⟨v, rfl, hv, hBA⟩
   exact ⟨_, rfl, hK _ _ hBA (hS.trans (hBA.mono hS.size)) hv⟩
  ·intro W hS hF K hK
   have h62 : u 62 = .bool false := hF.1
   have hc := LM0.out W hS
   clear hF
   go_simp
   exact hK _ _ (.refl _ _) hS hc.2
  ·intro W hS hF K hK
   have hq67 : IsQ W (u 67) (((A - B) + B)) := hF.1
   have hq68 : IsQ W (u 68) A := hF.2.1
   have h62 : u 62 = .bool false := hF.2.2.1
   clear hF
   go_simp
   refine (same_calls ((A - B) + B) _ _ 64 _ hq67 (by rw [EQ6.out]; exact hq68) (by decide) (((HF.out.1.sub HF.out.2.1).add HF.out.2.1).mono (by decide)) (LM2.out W hS)).mono ?_
   rintro e wA ⟨rfl, hBA⟩
   exact ⟨_, rfl, hK _ _ hBA (hS.trans (hBA.mono hS.size)) rfl⟩
  ·intro W hS hF K hK
   have h69 : u 69 = .bool true := hF.1
   have h62 : u 62 = .bool false := hF.2.1
   clear hF
   go_simp
   exact hK _ _ (.refl _ _) hS rfl
  ·intro W hS hF K hK
   have h62 : u 62 = .bool false := hF.1
   have h70 : u 70 = .bool false := hF.2.1
   clear hF
   go_simp
   exact hK _ _ (.refl _ _) hS rfl
  ·intro W hS hF K hK
   have h71 : u 71 = .bool false := hF.1
   clear hF
   go_simp
   exact hK _ _ (.refl _ _) hS rfl
  ·intro W hS hF K hK
   have h72 : u 72 = .bool false := hF.1
   have hc := LM0.out W hS
   clear hF
   go_simp
   exact hK _ _ (.refl _ _) hS hc.2
  ·intro W hS hF K hK
   have h72 : u 72 = .bool false := hF.1
   have hc := LM0.out W hS
   clear hF
   go_simp
   exact hK _ _ (.refl _ _) hS hc.2
  ·intro W hS hF K hK
   have hq74 : IsQ W (u 74) A := hF.1
   have h72 : u 72 = .bool false := hF.2.1
   clear hF
   go_simp
   refine (Neg_calls A _ _ hq74).mono ?_
   rintro e wA ⟨v, rfl, hv, hBA⟩
   exact ⟨_, rfl, hK _ _ hBA (hS.trans (hBA.mono hS.size)) hv⟩
  ·intro W hS hF K hK
   have hq73 : IsQ W (u 73) A := hF.1
   have hq75 : IsQ W (u 75) ((-A)) := hF.2.1
   have h72 : u 72 = .bool false := hF.2.2.1
   clear hF
   go_simp
   refine (Add_calls A (-A) _ _ 64 _ hq73 hq75 (by decide) (HF.out.1.mono (by decide)) (HF.out.1.neg.mono (by decide)) (LM2.out W hS).tz).mono ?_
   rintro e wA ⟨v, rfl, hv, hBA⟩
   exact ⟨_, rfl, hK _ _ hBA (hS.trans (hBA.mono hS.size)) hv⟩
  ·intro W hS hF K hK
   have h72 : u 72 = .bool false := hF.1
   clear hF
   go_simp
   exact hK _ _ (.refl _ _) hS rfl
  ·intro W hS hF K hK
   have hq76 : IsQ W (u 76) ((A + (-A))) := hF.1
   have h77 : u 77 = .agg #[.bool false, .int .u64 0, .slice none 0 0, .int .u64 0, .slice none 0 0] := hF.2.1
   have h72 : u 72 = .bool false := hF.2.2.1
   clear hF
   go_simp
   refine (same_calls (A + (-A)) _ _ 64 _ hq76 (by rw [EQ7.out]; exact (isQ_zero _)) (by decide) ((HF.out.1.add HF.out.1.neg).mono (by decide)) (LM2.out W hS)).mono ?_
   rintro e wA ⟨rfl, hBA⟩
   exact ⟨_, rfl, hK _ _ hBA (hS.trans (hBA.mono hS.size)) rfl⟩
  ·intro W hS hF K hK
   have h78 : u 78 = .bool true := hF.1
   have h72 : u 72 = .bool false := hF.2.1
   clear hF
   go_simp
   exact hK _ _ (.refl _ _) hS rfl
  ·intro W hS hF K hK
   have h72 : u 72 = .bool false := hF.1
   have h79 : u 79 = .bool false := hF.2.1
   clear hF
   go_simp
   exact hK _ _ (.refl _ _) hS rfl
 case hEWA =>
  intro u WA hS hF
  have hS10 := hid (hS9.out.call hS)
  have h80 : u 80 = .bool false := hF.2.2.2.2.2.2.2.2.2.2.2.2.2.2.2.2.2.2.2.2.2.2.2.2.2.2.2.2.2.2.2.2.2.2.2.2.2.2.2.2.2.2.2.2.2.2.2.2.2.2.2.2.2.2.2.2.2.2.2.2.2.2.2.2.2.2.2.2.2.2.2.2.2.2.2.2.2.2.2.2.1
  clear hF hS
  refine wpList_frame (r' := []) (a' := { tmps := #[Value.agg #[Value.int IntKind.i64 n1, Value.int IntKind.i64 d1, Value.int IntKind.u8 ↑b1], Value.agg #[Value.int IntKind.i64 n2, Value.int IntKind.i64 d2, Value.int IntKind.u8 ↑b2], Value.agg #[Value.int IntKind.i64 n3, Value.int IntKind.i64 d3, Value.int IntKind.u8 ↑b3], Value.pointer (some { block := w.heap.size, off := 0 }), Value.pointer (some { block := w.heap.size + 1, off := 0 }), Value.pointer (some { block := w.heap.size + 1 + 1, off := 0 }), Value.bool false, Value.pointer (some { block := w1.heap.size, off := 0 }), Value.pointer (some { block := w1.heap.size + 1, off := 0 }), Value.pointer (some { block := w2.heap.size, off := 0 }), Value.pointer (some { block := w2.heap.size + 1, off := 0 }), Value.pointer (some { block := w3.heap.size, off := 0 }), Value.pointer (some { block := w3.heap.size + 1, off := 0 }), undef, undef, Value.tuple #[Value.agg #[Value.bool t1, Value.int IntKind.u64 x1, Value.slice p1 l1 q1, Value.int IntKind.u64 y1, Value.slice r1 s1 u1], Value.agg #[Value.bool t11, Value.slice p11 l11 k11, Value.bool false, Value.slice r11 s11 u11]], Value.agg #[Value.int IntKind.i64 n1, Value.int IntKind.i64 d1, Value.int IntKind.u8 ↑b1], Value.tuple #[Value.agg #[Value.bool t1, Value.int IntKind.u64 x1, Value.slice p1 l1 q1, Value.int IntKind.u64 y1, Value.slice r1 s1 u1], Value.agg #[Value.bool t11, Value.slice p11 l11 k11, Value.bool false, Value.slice r11 s11 u11]], Value.agg #[Value.bool t1, Value.int IntKind.u64 x1, Value.slice p1 l1 q1, Value.int IntKind.u64 y1, Value.slice r1 s1 u1], Value.agg #[Value.bool t11, Value.slice p11 l11 k11, Value.bool false, Value.slice r11 s11 u11], Value.tuple #[Value.agg #[Value.bool t2, Value.int IntKind.u64 x2, Value.slice p2 l2 q2, Value.int IntKind.u64 y2, Value.slice r2 s2 u2], Value.agg #[Value.bool t12, Value.slice p12 l12 k12, Value.bool false, Value.slice r12 s12 u12]], Value.agg #[Value.int IntKind.i64 n2, Value.int IntKind.i64 d2, Value.int IntKind.u8 ↑b2], Value.tuple #[Value.agg #[Value.bool t2, Value.int IntKind.u64 x2, Value.slice p2 l2 q2, Value.int IntKind.u64 y2, Value.slice r2 s2 u2], Value.agg #[Value.bool t12, Value.slice p12 l12 k12, Value.bool false, Value.slice r12 s12 u12]], Value.agg #[Value.bool t2, Value.int IntKind.u64 x2, Value.slice p2 l2 q2, Value.int IntKind.u64 y2, Value.slice r2 s2 u2], Value.agg #[Value.bool t12, Value.slice p12 l12 k12, Value.bool false, Value.slice r12 s12 u12], Value.tuple #[Value.agg #[Value.bool t3, Value.int IntKind.u64 x3, Value.slice p3 l3 q3, Value.int IntKind.u64 y3, Value.slice r3 s3 u3], Value.agg #[Value.bool t13, Value.slice p13 l13 k13, Value.bool false, Value.slice r13 s13 u13]], Value.agg #[Value.int IntKind.i64 n3, Value.int IntKind.i64 d3, Value.int IntKind.u8 ↑b3], Value.tuple #[Value.agg #[Value.bool t3, Value.int IntKind.u64 x3, Value.slice p3 l3 q3, Value.int IntKind.u64 y3, Value.slice r3 s3 u3], Value.agg #[Value.bool t13, Value.slice p13 l13 k13, Value.bool false, Value.slice r13 s13 u13]], Value.agg #[Value.bool t3, Value.int IntKind.u64 x3, Value.slice p3 l3 q3, Value.int IntKind.u64 y3, Value.slice r3 s3 u3], Value.agg #[Value.bool t13, Value.slice p13 l13 k13, Value.bool false, Value.slice r13 s13 u13], u 0, u 1, u 2, u 3, u 4, u 5, u 6, u 7, u 8, u 9, u 10, u 11, u 12, u 13, u 14, u 15, u 16, u 17, u 18, u 19, u 20, u 21, u 22, u 23, u 24, u 25, u 26, u 27, u 28, u 29, u 30, u 31, u 32, u 33, u 34, u 35, u 36, u 37, u 38, u 39, u 40, u 41, u 42, u 43, u 44, u 45, u 46, u 47, u 48, u 49, u 50, u 51, u 52, u 53, u 54, u 55, u 56, u 57, u 58, u 59, u 60, u 61, u 62, u 63, u 64, u 65, u 66, u 67, u 68, u 69, u 70, u 71, u 72, u 73, u 74, u 75, u 76, u 77, u 78, u 79, u 80, undef, undef, undef, undef, undef, undef, undef, undef, undef, undef, undef, undef, undef, undef, undef, undef, undef, undef, undef, undef, undef, undef, undef, undef, undef, undef, undef, undef, undef, undef, undef, undef, undef, undef, undef, undef, undef, undef, undef, undef, undef, undef, undef, undef, undef, undef, undef, undef, undef, undef, undef, undef, undef, undef, undef, undef, undef, undef, undef, undef, undef, undef], defers := [] }) (by kernel_rfl) (by kernel_rfl) ?_
  rw [h80]
  obtain ⟨⟨cx10, cx11, cx12, cx13, cx14⟩, fx10, fx11, fx12, fx13, fx14⟩ := hS10.out.f5 5 w1.heap.size 31 (.bool t1) (.int .u64 x1) (.slice p1 l1 q1) (.int .u64 y1) (.slice r1 s1 u1) rfl
  obtain ⟨⟨cx20, cx21, cx22, cx23, cx24⟩, fx20, fx21, fx22, fx23, fx24⟩ := hS10.out.f5 3 w2.heap.size 31 (.bool t2) (.int .u64 x2) (.slice p2 l2 q2) (.int .u64 y2) (.slice r2 s2 u2) rfl
  go_wp2_with fail
  clear cx10 cx11 cx12 cx13 cx14 fx10 fx11 fx12 fx13 fx14 cx20 cx21 cx22 cx23 cx24 fx20 fx21 fx22 fx23 fx24
  refine (Div_calls A B _ _ 4 _ (hS10.out.gq 2 rfl) (hS10.out.gq 1 rfl) (by decide) HF.out.1 HF.out.2.1 (HE.out.below hS10.out.bel (Nat.le_refl _)).tz).mono ?_
  rintro e w4 ⟨v4, rfl, hv4, hB⟩
  have hS11 := hid (hS10.out.call hB)
  clear hB
  clear hS10
  obtain ⟨t4, x4, p4, l4, q4, y4, r4, s4, u4, rfl⟩ := hv4.open
  have hS12 := hid (hS11.out.fq hv4)
  clear hS11 hv4
  obtain ⟨ec, hec⟩ : ∃ e : Int, (if B = 0 then 9 else 0) = e := ⟨_, rfl⟩
  rw [hec]
  obtain ⟨ne16l, ne16, ne16'⟩ := hS12.out.ne 8 w.heap.size 46 [.int .i64 n1, .int .i64 d1, .int .u8 (b1 : Int)] rfl
  obtain ⟨ne17l, ne17, ne17'⟩ := hS12.out.ne 7 (w.heap.size + 1) 46 [.int .i64 n2, .int .i64 d2, .int .u8 (b2 : Int)] rfl
  obtain ⟨ne18l, ne18, ne18'⟩ := hS12.out.ne 6 (w.heap.size + 1 + 1) 46 [.int .i64 n3, .int .i64 d3, .int .u8 (b3 : Int)] rfl
  obtain ⟨ne19l, ne19, ne19'⟩ := hS12.out.ne 5 w1.heap.size 31 (c5 t1 x1 p1 l1 q1 y1 r1 s1 u1) rfl
  obtain ⟨ne20l, ne20, ne20'⟩ := hS12.out.ne 4 (w1.heap.size + 1) 40 [.bool t11, .slice p11 l11 k11, .bool false, .slice r11 s11 u11] rfl
  obtain ⟨ne21l, ne21, ne21'⟩ := hS12.out.ne 3 w2.heap.size 31 (c5 t2 x2 p2 l2 q2 y2 r2 s2 u2) rfl
  obtain ⟨ne22l, ne22, ne22'⟩ := hS12.out.ne 2 (w2.heap.size + 1) 40 [.bool t12, .slice p12 l12 k12, .bool false, .slice r12 s12 u12] rfl
  obtain ⟨ne23l, ne23, ne23'⟩ := hS12.out.ne 1 w3.heap.size 31 (c5 t3 x3 p3 l3 q3 y3 r3 s3 u3) rfl
  obtain ⟨ne24l, ne24, ne24'⟩ := hS12.out.ne 0 (w3.heap.size + 1) 40 [.bool t13, .slice p13 l13 k13, .bool false, .slice r13 s13 u13] rfl
  go_wp2_with fail
  have hS13 := hid ((hS12.out).alloc' (w4.heap.size) (by simp) 31 (c5 t4 x4 p4 l4 q4 y4 r4 s4 u4))
  obtain ⟨W5, hW5⟩ := nameW hS13
  rw [hW5] at hS13 ⊢
  clear hW5
  have HD := hid (show B ≠ 0 → A / B * B = A from fun h => Rat.div_mul_cancel h)
  obtain ⟨S, hS⟩ : ∃ S : Int, sgQ B = S := ⟨_, rfl⟩
  have HSg := hid (fun (W : World) (v : Value) (h : IsQ W v B) => hS ▸ Sign_q B v W h)
  by_cases hB0 : B = 0
  ·have hS0 : S = 0 := by rw [← hS, hB0]; exact sgQ_zero
   subst hS0
   clear hS hec HD
   have LM0 := hid (fun (W : World) (h : Below W5.heap.size W5 W) => (hS13.out.call h).q5 4 2 w2.heap.size 31 t2 x2 p2 l2 q2 y2 r2 s2 u2 B rfl rfl)
   refine wp_region_inv 15 [⟨[], [0]⟩, ⟨[0], [1]⟩, ⟨[1], [2]⟩, ⟨[2], [3]⟩, ⟨[3], [4]⟩, ⟨[3], [5]⟩, ⟨[3], [6]⟩, ⟨[6], [7]⟩, ⟨[6], [8]⟩, ⟨[6], [9]⟩, ⟨[6], [10]⟩, ⟨[6], [11]⟩, ⟨[6], [12]⟩, ⟨[3], [13]⟩, ⟨[3, 13], [14]⟩]
    [oQ B, oE (.int .i64 0), oE (.bool false), oE (.bool false), oE undef, oE undef, oE undef, oE undef, oE undef, oE undef, oE undef, oE undef, oE undef, oE undef, oE (.bool false)]
    (fun _ W => Below W5.heap.size W5 W) (by kernel_rfl) (by kernel_rfl) ?hTWB ?hZWB ?hOWB ?hEWB
   case hZWB => exact (Below.refl _ _).drew
   case hTWB =>
    simp only [List.forall_mem_cons, List.not_mem_nil, false_imp_iff, implies_true, and_true]
    exact ⟨bQ, bE, bE, bE, bE, bE, bE, bE, bE, bE, bE, bE, bE, bE, bE⟩
   case hOWB =>
    intro u'
    simp only [List.take_succ_cons, List.take_zero, putAll]
    repeat' (first | with_reducible exact debts_nil | with_reducible refine debts_cons ?_ ?_)
    ·intro W hS hF K hK
     have hc := LM0.out W hS
     go_simp
     exact hK _ _ (.refl _ _) hS hc.2
    ·intro W hS hF K hK
     have hq0 : IsQ W (u' 0) B := hF.1
     clear hF
     go_simp
     refine (HSg.out _ _ hq0).mono ?_
     rintro e wA ⟨rfl, hBA⟩
     exact ⟨_, rfl, hK _ _ hBA (hS.trans (hBA.mono hS.size)) rfl⟩
    ·intro W hS hF K hK
     have h1 : u' 1 = .int .i64 0 := hF.1
     clear hF
     go_simp
     exact hK _ _ (.refl _ _) hS rfl
    ·intro W hS hF K hK
     have h2 : u' 2 = .bool false := hF.1
     clear hF
     go_simp
     exact hK _ _ (.refl _ _) hS rfl
    ·intro W hS hF K hK
     have h3 : u' 3 = .bool false := hF.1
     clear hF
     go_simp
     exact hK _ _ (.refl _ _) hS rfl
    ·intro W hS hF K hK
     have h3 : u' 3 = .bool false := hF.1
     clear hF
     go_simp
     exact hK _ _ (.refl _ _) hS rfl
    ·intro W hS hF K hK
     have h3 : u' 3 = .bool false := hF.1
     clear hF
     go_simp
     exact hK _ _ (.refl _ _) hS rfl
    ·intro W hS hF K hK
     have h6 : u' 6 = undef := hF.1
     clear hF
     go_simp
     exact hK _ _ (.refl _ _) hS rfl
    ·intro W hS hF K hK
     have h6 : u' 6 = undef := hF.1
     clear hF
     go_simp
     exact hK _ _ (.refl _ _) hS rfl
    ·intro W hS hF K hK
     have h6 : u' 6 = undef := hF.1
     clear hF
     go_simp
     exact hK _ _ (.refl _ _) hS rfl
    ·intro W hS hF K hK
     have h6 : u' 6 = undef := hF.1
     clear hF
     go_simp
     exact hK _ _ (.refl _ _) hS rfl
    ·intro W hS hF K hK
     have h6 : u' 6 = undef := hF.1
     clear hF
     go_simp
     exact hK _ _ (.refl _ _) hS rfl
    ·intro W hS hF K hK
     have h6 : u' 6 = undef := hF.1
     clear hF
     go_simp
     exact hK _ _ (.refl _ _) hS rfl
    ·intro W hS hF K hK
     have h3 : u' 3 = .bool false := hF.1
     clear hF
     go_simp
     exact hK _ _ (.refl _ _) hS rfl
    ·intro W hS hF K hK
     have h3 : u' 3 = .bool false := hF.1
     have h13 : u' 13 = undef := hF.2.1
     clear hF
     go_simp
     exact hK _ _ (.refl _ _) hS rfl
   case hEWB =>
    intro u' WB hS hF
    have hS14 := hid (hS13.out.call hS)
    have h14 : u' 14 = .bool false := hF.2.2.2.2.2.2.2.2.2.2.2.2.2.2.1
    clear hF hS
    refine wpList_frame (r' := []) (a' := { tmps := #[Value.agg #[Value.int IntKind.i64 n1, Value.int IntKind.i64 d1, Value.int IntKind.u8 ↑b1], Value.agg #[Value.int IntKind.i64 n2, Value.int IntKind.i64 d2, Value.int IntKind.u8 ↑b2], Value.agg #[Value.int IntKind.i64 n3, Value.int IntKind.i64 d3, Value.int IntKind.u8 ↑b3], Value.pointer (some { block := w.heap.size, off := 0 }), Value.pointer (some { block := w.heap.size + 1, off := 0 }), Value.pointer (some { block := w.heap.size + 1 + 1, off := 0 }), Value.bool false, Value.pointer (some { block := w1.heap.size, off := 0 }), Value.pointer (some { block := w1.heap.size + 1, off := 0 }), Value.pointer (some { block := w2.heap.size, off := 0 }), Value.pointer (some { block := w2.heap.size + 1, off := 0 }), Value.pointer (some { block := w3.heap.size, off := 0 }), Value.pointer (some { block := w3.heap.size + 1, off := 0 }), Value.pointer (some { block := w4.heap.size, off := 0 }), Value.int IntKind.i64 ec, Value.tuple #[Value.agg #[Value.bool t1, Value.int IntKind.u64 x1, Value.slice p1 l1 q1, Value.int IntKind.u64 y1, Value.slice r1 s1 u1], Value.agg #[Value.bool t11, Value.slice p11 l11 k11, Value.bool false, Value.slice r11 s11 u11]], Value.agg #[Value.int IntKind.i64 n1, Value.int IntKind.i64 d1, Value.int IntKind.u8 ↑b1], Value.tuple #[Value.agg #[Value.bool t1, Value.int IntKind.u64 x1, Value.slice p1 l1 q1, Value.int IntKind.u64 y1, Value.slice r1 s1 u1], Value.agg #[Value.bool t11, Value.slice p11 l11 k11, Value.bool false, Value.slice r11 s11 u11]], Value.agg #[Value.bool t1, Value.int IntKind.u64 x1, Value.slice p1 l1 q1, Value.int IntKind.u64 y1, Value.slice r1 s1 u1], Value.agg #[Value.bool t11, Value.slice p11 l11 k11, Value.bool false, Value.slice r11 s11 u11], Value.tuple #[Value.agg #[Value.bool t2, Value.int IntKind.u64 x2, Value.slice p2 l2 q2, Value.int IntKind.u64 y2, Value.slice r2 s2 u2], Value.agg #[Value.bool t12, Value.slice p12 l12 k12, Value.bool false, Value.slice r12 s12 u12]], Value.agg #[Value.int IntKind.i64 n2, Value.int IntKind.i64 d2, Value.int IntKind.u8 ↑b2], Value.tuple #[Value.agg #[Value.bool t2, Value.int IntKind.u64 x2, Value.slice p2 l2 q2, Value.int IntKind.u64 y2, Value.slice r2 s2 u2], Value.agg #[Value.bool t12, Value.slice p12 l12 k12, Value.bool false, Value.slice r12 s12 u12]], Value.agg #[Value.bool t2, Value.int IntKind.u64 x2, Value.slice p2 l2 q2, Value.int IntKind.u64 y2, Value.slice r2 s2 u2], Value.agg #[Value.bool t12, Value.slice p12 l12 k12, Value.bool false, Value.slice r12 s12 u12], Value.tuple #[Value.agg #[Value.bool t3, Value.int IntKind.u64 x3, Value.slice p3 l3 q3, Value.int IntKind.u64 y3, Value.slice r3 s3 u3], Value.agg #[Value.bool t13, Value.slice p13 l13 k13, Value.bool false, Value.slice r13 s13 u13]], Value.agg #[Value.int IntKind.i64 n3, Value.int IntKind.i64 d3, Value.int IntKind.u8 ↑b3], Value.tuple #[Value.agg #[Value.bool t3, Value.int IntKind.u64 x3, Value.slice p3 l3 q3, Value.int IntKind.u64 y3, Value.slice r3 s3 u3], Value.agg #[Value.bool t13, Value.slice p13 l13 k13, Value.bool false, Value.slice r13 s13 u13]], Value.agg #[Value.bool t3, Value.int IntKind.u64 x3, Value.slice p3 l3 q3, Value.int IntKind.u64 y3, Value.slice r3 s3 u3], Value.agg #[Value.bool t13, Value.slice p13 l13 k13, Value.bool false, Value.slice r13 s13 u13], u 0, u 1, u 2, u 3, u 4, u 5, u 6, u 7, u 8, u 9, u 10, u 11, u 12, u 13, u 14, u 15, u 16, u 17, u 18, u 19, u 20, u 21, u 22, u 23, u 24, u 25, u 26, u 27, u 28, u 29, u 30, u 31, u 32, u 33, u 34, u 35, u 36, u 37, u 38, u 39, u 40, u 41, u 42, u 43, u 44, u 45, u 46, u 47, u 48, u 49, u 50, u 51, u 52, u 53, u 54, u 55, u 56, u 57, u 58, u 59, u 60, u 61, u 62, u 63, u 64, u 65, u 66, u 67, u 68, u 69, u 70, u 71, u 72, u 73, u 74, u 75, u 76, u 77, u 78, u 79, Value.bool false, Value.tuple #[Value.agg #[Value.bool t4, Value.int IntKind.u64 x4, Value.slice p4 l4 q4, Value.int IntKind.u64 y4, Value.slice r4 s4 u4], Value.int IntKind.i64 ec], Value.agg #[Value.bool t1, Value.int IntKind.u64 x1, Value.slice p1 l1 q1, Value.int IntKind.u64 y1, Value.slice r1 s1 u1], Value.agg #[Value.bool t2, Value.int IntKind.u64 x2, Value.slice p2 l2 q2, Value.int IntKind.u64 y2, Value.slice r2 s2 u2], Value.tuple #[Value.agg #[Value.bool t4, Value.int IntKind.u64 x4, Value.slice p4 l4 q4, Value.int IntKind.u64 y4, Value.slice r4 s4 u4], Value.int IntKind.i64 ec], Value.agg #[Value.bool t4, Value.int IntKind.u64 x4, Value.slice p4 l4 q4, Value.int IntKind.u64 y4, Value.slice r4 s4 u4], Value.int IntKind.i64 ec, u' 0, u' 1, u' 2, u' 3, u' 4, u' 5, u' 6, u' 7, u' 8, u' 9, u' 10, u' 11, u' 12, u' 13, u' 14, undef, undef, undef, undef, undef, undef, undef, undef, undef, undef, undef, undef, undef, undef, undef, undef, undef, undef, undef, undef, undef, undef, undef, undef, undef, undef, undef, undef, undef, undef, undef, undef, undef, undef, undef, undef, undef, undef, undef, undef, undef], defers := [] }) (by kernel_rfl) (by kernel_rfl) ?_
    rw [h14]
    go_wp2_with fail
    obtain ⟨M, hM⟩ : ∃ M, cmpQ A B = M := ⟨_, rfl⟩
    obtain ⟨T, hT⟩ : ∃ T, sgQ (A * A) = T := ⟨_, rfl⟩
    have HC1 := hid (fun (W : World) (v1 v2 : Value) (i : IsQ W v1 A) (j : IsQ W v2 B) => hM ▸ Cmp_calls A B v1 v2 64 W i j (by decide) (HF.out.1.mono (by decide)) (HF.out.2.1.mono (by decide)))
    have HC2 := hid (fun (W : World) (v1 v2 : Value) (i : IsQ W v1 (A + C)) (j : IsQ W v2 (B + C)) => ((cmpQ_add A B C).trans hM) ▸ Cmp_calls (A + C) (B + C) v1 v2 64 W i j (by decide) ((HF.out.1.add HF.out.2.2).mono (by decide)) ((HF.out.2.1.add HF.out.2.2).mono (by decide)))
    have HC3 := hid (fun (W : World) (v : Value) (i : IsQ W v (A - B)) => ((sgQ_sub A B).trans hM) ▸ Sign_q (A - B) v W i)
    have HC4 := hid (fun (W : World) (v1 v2 : Value) (i : IsQ W v1 B) (j : IsQ W v2 A) => (show cmpQ B A = -M by rw [← hM]; exact cmpQ_swap A B) ▸ Cmp_calls B A v1 v2 64 W i j (by decide) (HF.out.2.1.mono (by decide)) (HF.out.1.mono (by decide)))
    have HC5 := hid (fun (W : World) (v : Value) (i : IsQ W v (A * A)) => hT ▸ Sign_q (A * A) v W i)
    have hT0 : 0 ≤ T := by rw [← hT]; exact sgQ_sq A
    have hMb : -1 ≤ M ∧ M ≤ 1 := by rw [← hM]; exact cmpQ_bd A B
    have HWM := hid (wrap_small M hMb.1 hMb.2)
    obtain ⟨hM1, hM2⟩ := hMb
    clear hM hT
    have LM0 := hid (fun (W : World) (h : Below WB.heap.size WB W) => (hS14.out.call h).q5 6 3 w1.heap.size 31 t1 x1 p1 l1 q1 y1 r1 s1 u1 A rfl rfl)
    have LM1 := hid (fun (W : World) (h : Below WB.heap.size WB W) => (hS14.out.call h).q5 4 2 w2.heap.size 31 t2 x2 p2 l2 q2 y2 r2 s2 u2 B rfl rfl)
    have LM2 := hid (fun (W : World) (h : Below WB.heap.size WB W) => (hS14.out.call h).q5 2 1 w3.heap.size 31 t3 x3 p3 l3 q3 y3 r3 s3 u3 C rfl rfl)
    have LM3 := hid (fun (W : World) (h : Below WB.heap.size WB W) => HE.out.below (hS14.out.call h).bel (Nat.le_refl _))
    refine wp_region_inv 41 [⟨[], [0]⟩, ⟨[], [1]⟩, ⟨[0, 1], [2]⟩, ⟨[], [3]⟩, ⟨[], [4]⟩, ⟨[3, 4], [5]⟩, ⟨[], [6]⟩, ⟨[], [7]⟩, ⟨[6, 7], [8]⟩, ⟨[5, 8], [9]⟩, ⟨[2, 9], [10]⟩, ⟨[10], [11]⟩, ⟨[11], [12]⟩, ⟨[11], [13]⟩, ⟨[12, 13, 11], [14]⟩, ⟨[11], [15]⟩, ⟨[11], [16]⟩, ⟨[15, 16, 11], [17]⟩, ⟨[17, 11], [18]⟩, ⟨[14, 18, 11], [19]⟩, ⟨[11, 19], [20]⟩, ⟨[20], [21]⟩, ⟨[21], [22]⟩, ⟨[21], [23]⟩, ⟨[22, 23, 21], [24]⟩, ⟨[21], [25]⟩, ⟨[21], [26]⟩, ⟨[25, 26, 21], [27]⟩, ⟨[27, 21], [28]⟩, ⟨[24, 28, 21], [29]⟩, ⟨[21, 29], [30]⟩, ⟨[30], [31]⟩, ⟨[31], [32]⟩, ⟨[31], [33]⟩, ⟨[32, 33, 31], [34]⟩, ⟨[34, 31], [35]⟩, ⟨[35, 31], [36]⟩, ⟨[31, 36], [37]⟩, ⟨[37], [38]⟩, ⟨[38], [39]⟩, ⟨[38, 39], [40]⟩]
     [oQ A, oQ B, oE (.int .i64 M), oQ A, oQ C, oQ (A + C), oQ B, oQ C, oQ (B + C), oE (.int .i64 M), oE (.bool true), oE (.bool true), oQ A, oQ B, oE (.int .i64 M), oQ A, oQ B, oQ (A - B), oE (.int .i64 M), oE (.bool true), oE (.bool true), oE (.bool true), oQ A, oQ B, oE (.int .i64 M), oQ B, oQ A, oE (.int .i64 (-M)), oE (.int .i64 M), oE (.bool true), oE (.bool true), oE (.bool true), oQ A, oQ A, oQ (A * A), oE (.int .i64 T), oE (.bool true), oE (.bool true), oE (.bool true), oE (.bool true), oE (.bool true)]
     (fun _ W => Below WB.heap.size WB W) (by kernel_rfl) (by kernel_rfl) ?hTWC ?hZWC ?hOWC ?hEWC
    case hZWC => exact (Below.refl _ _).drew
    case hTWC =>
     simp only [List.forall_mem_cons, List.not_mem_nil, false_imp_iff, implies_true, and_true]
     exact ⟨bQ, bQ, bE, bQ, bQ, bQ, bQ, bQ, bQ, bE, bE, bE, bQ, bQ, bE, bQ, bQ, bQ, bE, bE, bE, bE, bQ, bQ, bE, bQ, bQ, bE, bE, bE, bE, bE, bQ, bQ, bQ, bE, bE, bE, bE, bE, bE⟩
    case hOWC =>
     intro u''
     simp only [List.take_succ_cons, List.take_zero, putAll]
     repeat' (first | with_reducible exact debts_nil | with_reducible refine debts_cons ?_ ?_)
     ·intro W hS hF K hK
      have hc := LM0.out W hS
      go_simp
      exact hK _ _ (.refl _ _) hS hc.2
     ·intro W hS hF K hK
      have hc := LM1.out W hS
      go_simp
      exact hK _ _ (.refl _ _) hS hc.2
     ·intro W hS hF K hK
      have hq0 : IsQ W (u'' 0) A := hF.1
      have hq1 : IsQ W (u'' 1) B := hF.2.1
      clear hF
      go_simp
      refine (HC1.out _ _ _ hq0 hq1).mono ?_
      rintro e wA ⟨rfl, hBA⟩
      exact ⟨_, rfl, hK _ _ hBA (hS.trans (hBA.mono hS.size)) rfl⟩
     ·intro W hS hF K hK
      have hc := LM0.out W hS
      go_simp
      exact hK _ _ (.refl _ _) hS hc.2
     ·intro W hS hF K hK
      have hc := LM2.out W hS
      go_simp
      exact hK _ _ (.refl _ _) hS hc.2
     ·intro W hS hF K hK
      have hq3 : IsQ W (u'' 3) A := hF.1
      have hq4 : IsQ W (u'' 4) C := hF.2.1
      clear hF
      go_simp
      refine (Add_calls A C _ _ 64 _ hq3 hq4 (by decide) (HF.out.1.mono (by decide)) (HF.out.2.2.mono (by decide)) (LM3.out W hS).tz).mono ?_
      rintro e wA ⟨v, rfl, hv, hBA⟩
      exact ⟨_, rfl, hK _ _ hBA (hS.trans (hBA.mono hS.size)) hv⟩
     ·intro W hS hF K hK
      have hc := LM1.out W hS
      go_simp
      exact hK _ _ (.refl _ _) hS hc.2
     ·intro W hS hF K hK
      have hc := LM2.out W hS
      go_simp
      exact hK _ _ (.refl _ _) hS hc.2
     ·intro W hS hF K hK
      have hq6 : IsQ W (u'' 6) B := hF.1
      have hq7 : IsQ W (u'' 7) C := hF.2.1
      clear hF
      go_simp
      refine (Add_calls B C _ _ 64 _ hq6 hq7 (by decide) (HF.out.2.1.mono (by decide)) (HF.out.2.2.mono (by decide)) (LM3.out W hS).tz).mono ?_
      rintro e wA ⟨v, rfl, hv, hBA⟩
      exact ⟨_, rfl, hK _ _ hBA (hS.trans (hBA.mono hS.size)) hv⟩
     ·intro W hS hF K hK
      have hq5 : IsQ W (u'' 5) (A + C) := hF.1
      have hq8 : IsQ W (u'' 8) (B + C) := hF.2.1
      clear hF
      go_simp
      refine (HC2.out _ _ _ hq5 hq8).mono ?_
      rintro e wA ⟨rfl, hBA⟩
      exact ⟨_, rfl, hK _ _ hBA (hS.trans (hBA.mono hS.size)) rfl⟩
     ·intro W hS hF K hK
      have h2 : u'' 2 = .int .i64 M := hF.1
      have h9 : u'' 9 = .int .i64 M := hF.2.1
      clear hF
      go_simp
      exact hK _ _ (.refl _ _) hS rfl
     ·intro W hS hF K hK
      have h10 : u'' 10 = .bool true := hF.1
      clear hF
      go_simp
      exact hK _ _ (.refl _ _) hS rfl
     ·intro W hS hF K hK
      have h11 : u'' 11 = .bool true := hF.1
      have hc := LM0.out W hS
      clear hF
      go_simp
      exact hK _ _ (.refl _ _) hS hc.2
     ·intro W hS hF K hK
      have h11 : u'' 11 = .bool true := hF.1
      have hc := LM1.out W hS
      clear hF
      go_simp
      exact hK _ _ (.refl _ _) hS hc.2
     ·intro W hS hF K hK
      have hq12 : IsQ W (u'' 12) A := hF.1
      have hq13 : IsQ W (u'' 13) B := hF.2.1
      have h11 : u'' 11 = .bool true := hF.2.2.1
      clear hF
      go_simp
      refine (HC1.out _ _ _ hq12 hq13).mono ?_
      rintro e wA ⟨rfl, hBA⟩
      exact ⟨_, rfl, hK _ _ hBA (hS.trans (hBA.mono hS.size)) rfl⟩
     ·intro W hS hF K hK
      have h11 : u'' 11 = .bool true := hF.1
      have hc := LM0.out W hS
      clear hF
      go_simp
      exact hK _ _ (.refl _ _) hS hc.2
     ·intro W hS hF K hK
      have h11 : u'' 11 = .bool true := hF.1
      have hc := LM1.out W hS
      clear hF
      go_simp
      exact hK _ _ (.refl _ _) hS hc.2
     ·intro W hS hF K hK
      have hq15 : IsQ W (u'' 15) A := hF.1
      have hq16 : IsQ W (u'' 16) B := hF.2.1
      have h11 : u'' 11 = .bool true := hF.2.2.1
      clear hF
      go_simp
      refine (Sub_calls A B _ _ 64 _ hq15 hq16 (by decide) (HF.out.1.mono (by decide)) (HF.out.2.1.mono (by decide)) (LM3.out W hS).tz).mono ?_
      rintro e wA ⟨v, rfl, hv, hBA⟩
      exact ⟨_, rfl, hK _ _ hBA (hS.trans (hBA.mono hS.size)) hv⟩
     ·intro W hS hF K hK
      have hq17 : IsQ W (u'' 17) (A - B) := hF.1
      have h11 : u'' 11 = .bool true := hF.2.1
      clear hF
      go_simp
      refine (HC3.out _ _ hq17).mono ?_
      rintro e wA ⟨rfl, hBA⟩
      exact ⟨_, rfl, hK _ _ hBA (hS.trans (hBA.mono hS.size)) rfl⟩
     ·intro W hS hF K hK
      have h14 : u'' 14 = .int .i64 M := hF.1
      have h18 : u'' 18 = .int .i64 M := hF.2.1
      have h11 : u'' 11 = .bool true := hF.2.2.1
      clear hF
      go_simp
      exact hK _ _ (.refl _ _) hS rfl
     ·intro W hS hF K hK
      have h11 : u'' 11 = .bool true := hF.1
      have h19 : u'' 19 = .bool true := hF.2.1
      clear hF
      go_simp
      exact hK _ _ (.refl _ _) hS rfl
     ·intro W hS hF K hK
      have h20 : u'' 20 = .bool true := hF.1
      clear hF
      go_simp
      exact hK _ _ (.refl _ _) hS rfl
     ·intro W hS hF K hK
      have h21 : u'' 21 = .bool true := hF.1
      have hc := LM0.out W hS
      clear hF
      go_simp
      exact hK _ _ (.refl _ _) hS hc.2
     ·intro W hS hF K hK
      have h21 : u'' 21 = .bool true := hF.1
      have hc := LM1.out W hS
      clear hF
      go_simp
      exact hK _ _ (.refl _ _) hS hc.2
     ·intro W hS hF K hK
      have hq22 : IsQ W (u'' 22) A := hF.1
      have hq23 : IsQ W (u'' 23) B := hF.2.1
      have h21 : u'' 21 = .bool true := hF.2.2.1
      clear hF
      go_simp
      refine (HC1.out _ _ _ hq22 hq23).mono ?_
      rintro e wA ⟨rfl, hBA⟩
      exact ⟨_, rfl, hK _ _ hBA (hS.trans (hBA.mono hS.size)) rfl⟩
     ·intro W hS hF K hK
      have h21 : u'' 21 = .bool true := hF.1
      have hc := LM1.out W hS
      clear hF
      go_simp
      exact hK _ _ (.refl _ _) hS hc.2
     ·intro W hS hF K hK
      have h21 : u'' 21 = .bool true := hF.1
      have hc := LM0.out W hS
      clear hF
      go_simp
      exact hK _ _ (.refl _ _) hS hc.2
     ·intro W hS hF K hK
      have hq25 : IsQ W (u'' 25) B := hF.1
      have hq26 : IsQ W (u'' 26) A := hF.2.1
      have h21 : u'' 21 = .bool true := hF.2.2.1
      clear hF
      go_simp
      refine (HC4.out _ _ _ hq25 hq26).mono ?_
      rintro e wA ⟨rfl, hBA⟩
      exact ⟨_, rfl, hK _ _ hBA (hS.trans (hBA.mono hS.size)) rfl⟩
     ·intro W hS hF K hK
      have h27 : u'' 27 = .int .i64 (-M) := hF.1
      have h21 : u'' 21 = .bool true := hF.2.1
      clear hF
      go_simp
      rw [HWM.out]
      exact hK _ _ (.refl _ _) hS rfl
     ·intro W hS hF K hK
      have h24 : u'' 24 = .int .i64 M := hF.1
      have h28 : u'' 28 = .int .i64 M := hF.2.1
      have h21 : u'' 21 = .bool true := hF.2.2.1
      clear hF
      go_simp
      exact hK _ _ (.refl _ _) hS rfl
     ·intro W hS hF K hK
      have h21 : u'' 21 = .bool true := hF.1
      have h29 : u'' 29 = .bool true := hF.2.1
      clear hF
      go_simp
      exact hK _ _ (.refl _ _) hS rfl
     ·intro W hS hF K hK
      have h30 : u'' 30 = .bool true := hF.1
      clear hF
      go_simp
      exact hK _ _ (.refl _ _) hS rfl
     ·intro W hS hF K hK
      have h31 : u'' 31 = .bool true := hF.1
      have hc := LM0.out W hS
      clear hF
      go_simp
      exact hK _ _ (.refl _ _) hS hc.2
     ·intro W hS hF K hK
      have h31 : u'' 31 = .bool true := hF.1
      have hc := LM0.out W hS
      clear hF
      go_simp
      exact hK _ _ (.refl _ _) hS hc.2
     ·intro W hS hF K hK
      have hq32 : IsQ W (u'' 32) A := hF.1
      have hq33 : IsQ W (u'' 33) A := hF.2.1
      have h31 : u'' 31 = .bool true := hF.2.2.1
      clear hF
      go_simp
      refine (Mul_calls A A _ _ 64 _ hq32 hq33 (by decide) (HF.out.1.mono (by decide)) (HF.out.1.mono (by decide)) (LM3.out W hS).tz).mono ?_
      rintro e wA ⟨v, rfl, hv, hBA⟩
      exact ⟨_, rfl, hK _ _ hBA (hS.trans (hBA.mono hS.size)) hv⟩
     ·intro W hS hF K hK
      have hq34 : IsQ W (u'' 34) (A * A) := hF.1
      have h31 : u'' 31 = .bool true := hF.2.1
      clear hF
      go_simp
      refine (HC5.out _ _ hq34).mono ?_
      rintro e wA ⟨rfl, hBA⟩
      exact ⟨_, rfl, hK _ _ hBA (hS.trans (hBA.mono hS.size)) rfl⟩
     ·intro W hS hF K hK
      have h35 : u'' 35 = .int .i64 T := hF.1
      have h31 : u'' 31 = .bool true := hF.2.1
      clear hF
      go_simp
      exact hK _ _ (.refl _ _) hS rfl
     ·intro W hS hF K hK
      have h31 : u'' 31 = .bool true := hF.1
      have h36 : u'' 36 = .bool true := hF.2.1
      clear hF
      go_simp
      exact hK _ _ (.refl _ _) hS rfl
     ·intro W hS hF K hK
      have h37 : u'' 37 = .bool true := hF.1
      clear hF
      go_simp
      exact hK _ _ (.refl _ _) hS rfl
     ·intro W hS hF K hK
      have h38 : u'' 38 = .bool true := hF.1
      clear hF
      go_simp
      refine (awake_calls HN.out _ (LM3.out W hS)).mono ?_
      rintro e wA ⟨rfl, hBA⟩
      exact ⟨_, rfl, hK _ _ hBA (hS.trans (hBA.mono hS.size)) rfl⟩
     ·intro W hS hF K hK
      have h38 : u'' 38 = .bool true := hF.1
      have h39 : u'' 39 = .bool true := hF.2.1
      clear hF
      go_simp
      exact hK _ _ (.refl _ _) hS rfl
    case hEWC =>
     intro u'' WC hS hF
     have hS15 := hid (hS14.out.call hS)
     have h40 : u'' 40 = .bool true := hF.2.2.2.2.2.2.2.2.2.2.2.2.2.2.2.2.2.2.2.2.2.2.2.2.2.2.2.2.2.2.2.2.2.2.2.2.2.2.2.2.1
     clear hF hS
     refine wpList_frame rfl (a' := { tmps := #[Value.agg #[Value.int IntKind.i64 n1, Value.int IntKind.i64 d1, Value.int IntKind.u8 ↑b1], Value.agg #[Value.int IntKind.i64 n2, Value.int IntKind.i64 d2, Value.int IntKind.u8 ↑b2], Value.agg #[Value.int IntKind.i64 n3, Value.int IntKind.i64 d3, Value.int IntKind.u8 ↑b3], Value.pointer (some { block := w.heap.size, off := 0 }), Value.pointer (some { block := w.heap.size + 1, off := 0 }), Value.pointer (some { block := w.heap.size + 1 + 1, off := 0 }), Value.bool false, Value.pointer (some { block := w1.heap.size, off := 0 }), Value.pointer (some { block := w1.heap.size + 1, off := 0 }), Value.pointer (some { block := w2.heap.size, off := 0 }), Value.pointer (some { block := w2.heap.size + 1, off := 0 }), Value.pointer (some { block := w3.heap.size, off := 0 }), Value.pointer (some { block := w3.heap.size + 1, off := 0 }), Value.pointer (some { block := w4.heap.size, off := 0 }), Value.int IntKind.i64 ec, Value.tuple #[Value.agg #[Value.bool t1, Value.int IntKind.u64 x1, Value.slice p1 l1 q1, Value.int IntKind.u64 y1, Value.slice r1 s1 u1], Value.agg #[Value.bool t11, Value.slice p11 l11 k11, Value.bool false, Value.slice r11 s11 u11]], Value.agg #[Value.int IntKind.i64 n1, Value.int IntKind.i64 d1, Value.int IntKind.u8 ↑b1], Value.tuple #[Value.agg #[Value.bool t1, Value.int IntKind.u64 x1, Value.slice p1 l1 q1, Value.int IntKind.u64 y1, Value.slice r1 s1 u1], Value.agg #[Value.bool t11, Value.slice p11 l11 k11, Value.bool false, Value.slice r11 s11 u11]], Value.agg #[Value.bool t1, Value.int IntKind.u64 x1, Value.slice p1 l1 q1, Value.int IntKind.u64 y1, Value.slice r1 s1 u1], Value.agg #[Value.bool t11, Value.slice p11 l11 k11, Value.bool false, Value.slice r11 s11 u11], Value.tuple #[Value.agg #[Value.bool t2, Value.int IntKind.u64 x2, Value.slice p2 l2 q2, Value.int IntKind.u64 y2, Value.slice r2 s2 u2], Value.agg #[Value.bool t12, Value.slice p12 l12 k12, Value.bool false, Value.slice r12 s12 u12]], Value.agg #[Value.int IntKind.i64 n2, Value.int IntKind.i64 d2, Value.int IntKind.u8 ↑b2], Value.tuple #[Value.agg #[Value.bool t2, Value.int IntKind.u64 x2, Value.slice p2 l2 q2, Value.int IntKind.u64 y2, Value.slice r2 s2 u2], Value.agg #[Value.bool t12, Value.slice p12 l12 k12, Value.bool false, Value.slice r12 s12 u12]], Value.agg #[Value.bool t2, Value.int IntKind.u64 x2, Value.slice p2 l2 q2, Value.int IntKind.u64 y2, Value.slice r2 s2 u2], Value.agg #[Value.bool t12, Value.slice p12 l12 k12, Value.bool false, Value.slice r12 s12 u12], Value.tuple #[Value.agg #[Value.bool t3, Value.int IntKind.u64 x3, Value.slice p3 l3 q3, Value.int IntKind.u64 y3, Value.slice r3 s3 u3], Value.agg #[Value.bool t13, Value.slice p13 l13 k13, Value.bool false, Value.slice r13 s13 u13]], Value.agg #[Value.int IntKind.i64 n3, Value.int IntKind.i64 d3, Value.int IntKind.u8 ↑b3], Value.tuple #[Value.agg #[Value.bool t3, Value.int IntKind.u64 x3, Value.slice p3 l3 q3, Value.int IntKind.u64 y3, Value.slice r3 s3 u3], Value.agg #[Value.bool t13, Value.slice p13 l13 k13, Value.bool false, Value.slice r13 s13 u13]], Value.agg #[Value.bool t3, Value.int IntKind.u64 x3, Value.slice p3 l3 q3, Value.int IntKind.u64 y3, Value.slice r3 s3 u3], Value.agg #[Value.bool t13, Value.slice p13 l13 k13, Value.bool false, Value.slice r13 s13 u13], u 0, u 1, u 2, u 3, u 4, u 5, u 6, u 7, u 8, u 9, u 10, u 11, u 12, u 13, u 14, u 15, u 16, u 17, u 18, u 19, u 20, u 21, u 22, u 23, u 24, u 25, u 26, u 27, u 28, u 29, u 30, u 31, u 32, u 33, u 34, u 35, u 36, u 37, u 38, u 39, u 40, u 41, u 42, u 43, u 44, u 45, u 46, u 47, u 48, u 49, u 50, u 51, u 52, u 53, u 54, u 55, u 56, u 57, u 58, u 59, u 60, u 61, u 62, u 63, u 64, u 65, u 66, u 67, u 68, u 69, u 70, u 71, u 72, u 73, u 74, u 75, u 76, u 77, u 78, u 79, Value.bool false, Value.tuple #[Value.agg #[Value.bool t4, Value.int IntKind.u64 x4, Value.slice p4 l4 q4, Value.int IntKind.u64 y4, Value.slice r4 s4 u4], Value.int IntKind.i64 ec], Value.agg #[Value.bool t1, Value.int IntKind.u64 x1, Value.slice p1 l1 q1, Value.int IntKind.u64 y1, Value.slice r1 s1 u1], Value.agg #[Value.bool t2, Value.int IntKind.u64 x2, Value.slice p2 l2 q2, Value.int IntKind.u64 y2, Value.slice r2 s2 u2], Value.tuple #[Value.agg #[Value.bool t4, Value.int IntKind.u64 x4, Value.slice p4 l4 q4, Value.int IntKind.u64 y4, Value.slice r4 s4 u4], Value.int IntKind.i64 ec], Value.agg #[Value.bool t4, Value.int IntKind.u64 x4, Value.slice p4 l4 q4, Value.int IntKind.u64 y4, Value.slice r4 s4 u4], Value.int IntKind.i64 ec, u' 0, u' 1, u' 2, u' 3, u' 4, u' 5, u' 6, u' 7, u' 8, u' 9, u' 10, u' 11, u' 12, u' 13, .bool false, u'' 0, u'' 1, u'' 2, u'' 3, u'' 4, u'' 5, u'' 6, u'' 7, u'' 8, u'' 9, u'' 10, u'' 11, u'' 12, u'' 13, u'' 14, u'' 15, u'' 16, u'' 17, u'' 18, u'' 19, u'' 20, u'' 21, u'' 22, u'' 23, u'' 24, u'' 25, u'' 26, u'' 27, u'' 28, u'' 29, u'' 30, u'' 31, u'' 32, u'' 33, u'' 34, u'' 35, u'' 36, u'' 37, u'' 38, u'' 39, u'' 40], defers := [] }) (by kernel_rfl) ?_
     rw [h40]
     simp only [List.drop_succ_cons, List.drop_zero]
     go_wp2
     go_ret
     exact ⟨rfl, hS15.out.bel⟩
  ·have hec0 : ec = 0 := by rw [← hec, if_neg hB0]
   subst hec0
   have hS1 : (S != 0) = true := by rw [bne_iff_ne, ← hS]; exact sgQ_ne hB0
   have HD1 := hid (HD.out hB0)
   clear hS hec HD
   have LM0 := hid (fun (W : World) (h : Below W5.heap.size W5 W) => (hS13.out.call h).q5 4 2 w2.heap.size 31 t2 x2 p2 l2 q2 y2 r2 s2 u2 B rfl rfl)
   have LM1 := hid (fun (W : World) (h : Below W5.heap.size W5 W) => (hS13.out.call h).q5 0 0 w4.heap.size 31 t4 x4 p4 l4 q4 y4 r4 s4 u4 (A / B) rfl rfl)
   have LM2 := hid (fun (W : World) (h : Below W5.heap.size W5 W) => HE.out.below (hS13.out.call h).bel (Nat.le_refl _))
   have LM3 := hid (fun (W : World) (h : Below W5.heap.size W5 W) => (hS13.out.call h).q5 6 3 w1.heap.size 31 t1 x1 p1 l1 q1 y1 r1 s1 u1 A rfl rfl)
   refine wp_region_inv 15 [⟨[], [0]⟩, ⟨[0], [1]⟩, ⟨[1], [2]⟩, ⟨[2], [3]⟩, ⟨[3], [4]⟩, ⟨[4, 3], [5]⟩, ⟨[5, 3], [6]⟩, ⟨[6], [7]⟩, ⟨[6], [8]⟩, ⟨[7, 8, 6], [9]⟩, ⟨[6], [10]⟩, ⟨[9, 10, 6], [11]⟩, ⟨[11, 6], [12]⟩, ⟨[6, 12, 3], [13]⟩, ⟨[3, 13], [14]⟩]
    [oQ B, oE (.int .i64 S), oE (.bool true), oE (.bool true), oE (.int .i64 0), oE (.bool false), oE (.bool false), oQ (A / B), oQ B, oQ (A / B * B), oQ A, oE (.bool true), oE (.bool false), oE (.bool false), oE (.bool false)]
    (fun _ W => Below W5.heap.size W5 W) (by kernel_rfl) (by kernel_rfl) ?hTWB ?hZWB ?hOWB ?hEWB
   case hZWB => exact (Below.refl _ _).drew
   case hTWB =>
    simp only [List.forall_mem_cons, List.not_mem_nil, false_imp_iff, implies_true, and_true]
    exact ⟨bQ, bE, bE, bE, bE, bE, bE, bQ, bQ, bQ, bQ, bE, bE, bE, bE⟩
   case hOWB =>
    intro u'
    simp only [List.take_succ_cons, List.take_zero, putAll]
    repeat' (first | with_reducible exact debts_nil | with_reducible refine debts_cons ?_ ?_)
    ·intro W hS hF K hK
     have hc := LM0.out W hS
     go_simp
     exact hK _ _ (.refl _ _) hS hc.2
    ·intro W hS hF K hK
     have hq0 : IsQ W (u' 0) B := hF.1
     clear hF
     go_simp
     refine (HSg.out _ _ hq0).mono ?_
     rintro e wA ⟨rfl, hBA⟩
     exact ⟨_, rfl, hK _ _ hBA (hS.trans (hBA.mono hS.size)) rfl⟩
    ·intro W hS hF K hK
     have h1 : u' 1 = .int .i64 S := hF.1
     clear hF
     go_simp
     exact hK _ _ (.refl _ _) hS rfl
    ·intro W hS hF K hK
     have h2 : u' 2 = .bool true := hF.1
     clear hF
     go_simp
     exact hK _ _ (.refl _ _) hS rfl
    ·intro W hS hF K hK
     have h3 : u' 3 = .bool true := hF.1
     clear hF
     go_simp
     exact hK _ _ (.refl _ _) hS rfl
    ·intro W hS hF K hK
     have h4 : u' 4 = .int .i64 0 := hF.1
     have h3 : u' 3 = .bool true := hF.2.1
     clear hF
     go_simp
     exact hK _ _ (.refl _ _) hS rfl
    ·intro W hS hF K hK
     have h5 : u' 5 = .bool false := hF.1
     have h3 : u' 3 = .bool true := hF.2.1
     clear hF
     go_simp
     exact hK _ _ (.refl _ _) hS rfl
    ·intro W hS hF K hK
     have h6 : u' 6 = .bool false := hF.1
     have hc := LM1.out W hS
     clear hF
     go_simp
     exact hK _ _ (.refl _ _) hS hc.2
    ·intro W hS hF K hK
     have h6 : u' 6 = .bool false := hF.1
     have hc := LM0.out W hS
     clear hF
     go_simp
     exact hK _ _ (.refl _ _) hS hc.2
    ·intro W hS hF K hK
     have hq7 : IsQ W (u' 7) (A / B) := hF.1
     have hq8 : IsQ W (u' 8) B := hF.2.1
     have h6 : u' 6 = .bool false := hF.2.2.1
     clear hF
     go_simp
     refine (Mul_calls (A / B) B _ _ 64 _ hq7 hq8 (by decide) (HQ.out.mono (by decide)) (HF.out.2.1.mono (by decide)) (LM2.out W hS).tz).mono ?_
     rintro e wA ⟨v, rfl, hv, hBA⟩
     exact ⟨_, rfl, hK _ _ hBA (hS.trans (hBA.mono hS.size)) hv⟩
    ·intro W hS hF K hK
     have h6 : u' 6 = .bool false := hF.1
     have hc := LM3.out W hS
     clear hF
     go_simp
     exact hK _ _ (.refl _ _) hS hc.2
    ·intro W hS hF K hK
     have hq9 : IsQ W (u' 9) (A / B * B) := hF.1
     have hq10 : IsQ W (u' 10) A := hF.2.1
     have h6 : u' 6 = .bool false := hF.2.2.1
     clear hF
     go_simp
     refine (same_calls A _ _ 64 _ (by rw [HD1.out] at hq9; exact hq9) hq10 (by decide) (HF.out.1.mono (by decide)) (LM2.out W hS)).mono ?_
     rintro e wA ⟨rfl, hBA⟩
     exact ⟨_, rfl, hK _ _ hBA (hS.trans (hBA.mono hS.size)) rfl⟩
    ·intro W hS hF K hK
     have h11 : u' 11 = .bool true := hF.1
     have h6 : u' 6 = .bool false := hF.2.1
     clear hF
     go_simp
     exact hK _ _ (.refl _ _) hS rfl
    ·intro W hS hF K hK
     have h6 : u' 6 = .bool false := hF.1
     have h12 : u' 12 = .bool false := hF.2.1
     have h3 : u' 3 = .bool true := hF.2.2.1
     clear hF
     go_simp
     exact hK _ _ (.refl _ _) hS rfl
    ·intro W hS hF K hK
     have h3 : u' 3 = .bool true := hF.1
     have h13 : u' 13 = .bool false := hF.2.1
     clear hF
     go_simp
     exact hK _ _ (.refl _ _) hS rfl
   case hEWB =>
    intro u' WB hS hF
    have hS14 := hid (hS13.out.call hS)
    have h14 : u' 14 = .bool false := hF.2.2.2.2.2.2.2.2.2.2.2.2.2.2.1
    clear hF hS
    refine wpList_frame (r' := []) (a' := { tmps := #[Value.agg #[Value.int IntKind.i64 n1, Value.int IntKind.i64 d1, Value.int IntKind.u8 ↑b1], Value.agg #[Value.int IntKind.i64 n2, Value.int IntKind.i64 d2, Value.int IntKind.u8 ↑b2], Value.agg #[Value.int IntKind.i64 n3, Value.int IntKind.i64 d3, Value.int IntKind.u8 ↑b3], Value.pointer (some { block := w.heap.size, off := 0 }), Value.pointer (some { block := w.heap.size + 1, off := 0 }), Value.pointer (some { block := w.heap.size + 1 + 1, off := 0 }), Value.bool false, Value.pointer (some { block := w1.heap.size, off := 0 }), Value.pointer (some { block := w1.heap.size + 1, off := 0 }), Value.pointer (some { block := w2.heap.size, off := 0 }), Value.pointer (some { block := w2.heap.size + 1, off := 0 }), Value.pointer (some { block := w3.heap.size, off := 0 }), Value.pointer (some { block := w3.heap.size + 1, off := 0 }), Value.pointer (some { block := w4.heap.size, off := 0 }), Value.int IntKind.i64 0, Value.tuple #[Value.agg #[Value.bool t1, Value.int IntKind.u64 x1, Value.slice p1 l1 q1, Value.int IntKind.u64 y1, Value.slice r1 s1 u1], Value.agg #[Value.bool t11, Value.slice p11 l11 k11, Value.bool false, Value.slice r11 s11 u11]], Value.agg #[Value.int IntKind.i64 n1, Value.int IntKind.i64 d1, Value.int IntKind.u8 ↑b1], Value.tuple #[Value.agg #[Value.bool t1, Value.int IntKind.u64 x1, Value.slice p1 l1 q1, Value.int IntKind.u64 y1, Value.slice r1 s1 u1], Value.agg #[Value.bool t11, Value.slice p11 l11 k11, Value.bool false, Value.slice r11 s11 u11]], Value.agg #[Value.bool t1, Value.int IntKind.u64 x1, Value.slice p1 l1 q1, Value.int IntKind.u64 y1, Value.slice r1 s1 u1], Value.agg #[Value.bool t11, Value.slice p11 l11 k11, Value.bool false, Value.slice r11 s11 u11], Value.tuple #[Value.agg #[Value.bool t2, Value.int IntKind.u64 x2, Value.slice p2 l2 q2, Value.int IntKind.u64 y2, Value.slice r2 s2 u2], Value.agg #[Value.bool t12, Value.slice p12 l12 k12, Value.bool false, Value.slice r12 s12 u12]], Value.agg #[Value.int IntKind.i64 n2, Value.int IntKind.i64 d2, Value.int IntKind.u8 ↑b2], Value.tuple #[Value.agg #[Value.bool t2, Value.int IntKind.u64 x2, Value.slice p2 l2 q2, Value.int IntKind.u64 y2, Value.slice r2 s2 u2], Value.agg #[Value.bool t12, Value.slice p12 l12 k12, Value.bool false, Value.slice r12 s12 u12]], Value.agg #[Value.bool t2, Value.int IntKind.u64 x2, Value.slice p2 l2 q2, Value.int IntKind.u64 y2, Value.slice r2 s2 u2], Value.agg #[Value.bool t12, Value.slice p12 l12 k12, Value.bool false, Value.slice r12 s12 u12], Value.tuple #[Value.agg #[Value.bool t3, Value.int IntKind.u64 x3, Value.slice p3 l3 q3, Value.int IntKind.u64 y3, Value.slice r3 s3 u3], Value.agg #[Value.bool t13, Value.slice p13 l13 k13, Value.bool false, Value.slice r13 s13 u13]], Value.agg #[Value.int IntKind.i64 n3, Value.int IntKind.i64 d3, Value.int IntKind.u8 ↑b3], Value.tuple #[Value.agg #[Value.bool t3, Value.int IntKind.u64 x3, Value.slice p3 l3 q3, Value.int IntKind.u64 y3, Value.slice r3 s3 u3], Value.agg #[Value.bool t13, Value.slice p13 l13 k13, Value.bool false, Value.slice r13 s13 u13]], Value.agg #[Value.bool t3, Value.int IntKind.u64 x3, Value.slice p3 l3 q3, Value.int IntKind.u64 y3, Value.slice r3 s3 u3], Value.agg #[Value.bool t13, Value.slice p13 l13 k13, Value.bool false, Value.slice r13 s13 u13], u 0, u 1, u 2, u 3, u 4, u 5, u 6, u 7, u 8, u 9, u 10, u 11, u 12, u 13, u 14, u 15, u 16, u 17, u 18, u 19, u 20, u 21, u 22, u 23, u 24, u 25, u 26, u 27, u 28, u 29, u 30, u 31, u 32, u 33, u 34, u 35, u 36, u 37, u 38, u 39, u 40, u 41, u 42, u 43, u 44, u 45, u 46, u 47, u 48, u 49, u 50, u 51, u 52, u 53, u 54, u 55, u 56, u 57, u 58, u 59, u 60, u 61, u 62, u 63, u 64, u 65, u 66, u 67, u 68, u 69, u 70, u 71, u 72, u 73, u 74, u 75, u 76, u 77, u 78, u 79, Value.bool false, Value.tuple #[Value.agg #[Value.bool t4, Value.int IntKind.u64 x4, Value.slice p4 l4 q4, Value.int IntKind.u64 y4, Value.slice r4 s4 u4], Value.int IntKind.i64 0], Value.agg #[Value.bool t1, Value.int IntKind.u64 x1, Value.slice p1 l1 q1, Value.int IntKind.u64 y1, Value.slice r1 s1 u1], Value.agg #[Value.bool t2, Value.int IntKind.u64 x2, Value.slice p2 l2 q2, Value.int IntKind.u64 y2, Value.slice r2 s2 u2], Value.tuple #[Value.agg #[Value.bool t4, Value.int IntKind.u64 x4, Value.slice p4 l4 q4, Value.int IntKind.u64 y4, Value.slice r4 s4 u4], Value.int IntKind.i64 0], Value.agg #[Value.bool t4, Value.int IntKind.u64 x4, Value.slice p4 l4 q4, Value.int IntKind.u64 y4, Value.slice r4 s4 u4], Value.int IntKind.i64 0, u' 0, u' 1, u' 2, u' 3, u' 4, u' 5, u' 6, u' 7, u' 8, u' 9, u' 10, u' 11, u' 12, u' 13, u' 14, undef, undef, undef, undef, undef, undef, undef, undef, undef, undef, undef, undef, undef, undef, undef, undef, undef, undef, undef, undef, undef, undef, undef, undef, undef, undef, undef, undef, undef, undef, undef, undef, undef, undef, undef, undef, undef, undef, undef, undef, undef], defers := [] }) (by kernel_rfl) (by kernel_rfl) ?_
    rw [h14]
    go_wp2_with fail
    obtain ⟨M, hM⟩ : ∃ M, cmpQ A B = M := ⟨_, rfl⟩
    obtain ⟨T, hT⟩ : ∃ T, sgQ (A * A) = T := ⟨_, rfl⟩
    have HC1 := hid (fun (W : World) (v1 v2 : Value) (i : IsQ W v1 A) (j : IsQ W v2 B) => hM ▸ Cmp_calls A B v1 v2 64 W i j (by decide) (HF.out.1.mono (by decide)) (HF.out.2.1.mono (by decide)))
    have HC2 := hid (fun (W : World) (v1 v2 : Value) (i : IsQ W v1 (A + C)) (j : IsQ W v2 (B + C)) => ((cmpQ_add A B C).trans hM) ▸ Cmp_calls (A + C) (B + C) v1 v2 64 W i j (by decide) ((HF.out.1.add HF.out.2.2).mono (by decide)) ((HF.out.2.1.add HF.out.2.2).mono (by decide)))
    have HC3 := hid (fun (W : World) (v : Value) (i : IsQ W v (A - B)) => ((sgQ_sub A B).trans hM) ▸ Sign_q (A - B) v W i)
    have HC4 := hid (fun (W : World) (v1 v2 : Value) (i : IsQ W v1 B) (j : IsQ W v2 A) => (show cmpQ B A = -M by rw [← hM]; exact cmpQ_swap A B) ▸ Cmp_calls B A v1 v2 64 W i j (by decide) (HF.out.2.1.mono (by decide)) (HF.out.1.mono (by decide)))
    have HC5 := hid (fun (W : World) (v : Value) (i : IsQ W v (A * A)) => hT ▸ Sign_q (A * A) v W i)
    have hT0 : 0 ≤ T := by rw [← hT]; exact sgQ_sq A
    have hMb : -1 ≤ M ∧ M ≤ 1 := by rw [← hM]; exact cmpQ_bd A B
    have HWM := hid (wrap_small M hMb.1 hMb.2)
    obtain ⟨hM1, hM2⟩ := hMb
    clear hM hT
    have LM0 := hid (fun (W : World) (h : Below WB.heap.size WB W) => (hS14.out.call h).q5 6 3 w1.heap.size 31 t1 x1 p1 l1 q1 y1 r1 s1 u1 A rfl rfl)
    have LM1 := hid (fun (W : World) (h : Below WB.heap.size WB W) => (hS14.out.call h).q5 4 2 w2.heap.size 31 t2 x2 p2 l2 q2 y2 r2 s2 u2 B rfl rfl)
    have LM2 := hid (fun (W : World) (h : Below WB.heap.size WB W) => (hS14.out.call h).q5 2 1 w3.heap.size 31 t3 x3 p3 l3 q3 y3 r3 s3 u3 C rfl rfl)
    have LM3 := hid (fun (W : World) (h : Below WB.heap.size WB W) => HE.out.below (hS14.out.call h).bel (Nat.le_refl _))
    refine wp_region_inv 41 [⟨[], [0]⟩, ⟨[], [1]⟩, ⟨[0, 1], [2]⟩, ⟨[], [3]⟩, ⟨[], [4]⟩, ⟨[3, 4], [5]⟩, ⟨[], [6]⟩, ⟨[], [7]⟩, ⟨[6, 7], [8]⟩, ⟨[5, 8], [9]⟩, ⟨[2, 9], [10]⟩, ⟨[10], [11]⟩, ⟨[11], [12]⟩, ⟨[11], [13]⟩, ⟨[12, 13, 11], [14]⟩, ⟨[11], [15]⟩, ⟨[11], [16]⟩, ⟨[15, 16, 11], [17]⟩, ⟨[17, 11], [18]⟩, ⟨[14, 18, 11], [19]⟩, ⟨[11, 19], [20]⟩, ⟨[20], [21]⟩, ⟨[21], [22]⟩, ⟨[21], [23]⟩, ⟨[22, 23, 21], [24]⟩, ⟨[21], [25]⟩, ⟨[21], [26]⟩, ⟨[25, 26, 21], [27]⟩, ⟨[27, 21], [28]⟩, ⟨[24, 28, 21], [29]⟩, ⟨[21, 29], [30]⟩, ⟨[30], [31]⟩, ⟨[31], [32]⟩, ⟨[31], [33]⟩, ⟨[32, 33, 31], [34]⟩, ⟨[34, 31], [35]⟩, ⟨[35, 31], [36]⟩, ⟨[31, 36], [37]⟩, ⟨[37], [38]⟩, ⟨[38], [39]⟩, ⟨[38, 39], [40]⟩]
     [oQ A, oQ B, oE (.int .i64 M), oQ A, oQ C, oQ (A + C), oQ B, oQ C, oQ (B + C), oE (.int .i64 M), oE (.bool true), oE (.bool true), oQ A, oQ B, oE (.int .i64 M), oQ A, oQ B, oQ (A - B), oE (.int .i64 M), oE (.bool true), oE (.bool true), oE (.bool true), oQ A, oQ B, oE (.int .i64 M), oQ B, oQ A, oE (.int .i64 (-M)), oE (.int .i64 M), oE (.bool true), oE (.bool true), oE (.bool true), oQ A, oQ A, oQ (A * A), oE (.int .i64 T), oE (.bool true), oE (.bool true), oE (.bool true), oE (.bool true), oE (.bool true)]
     (fun _ W => Below WB.heap.size WB W) (by kernel_rfl) (by kernel_rfl) ?hTWC ?hZWC ?hOWC ?hEWC
    case hZWC => exact (Below.refl _ _).drew
    case hTWC =>
     simp only [List.forall_mem_cons, List.not_mem_nil, false_imp_iff, implies_true, and_true]
     exact ⟨bQ, bQ, bE, bQ, bQ, bQ, bQ, bQ, bQ, bE, bE, bE, bQ, bQ, bE, bQ, bQ, bQ, bE, bE, bE, bE, bQ, bQ, bE, bQ, bQ, bE, bE, bE, bE, bE, bQ, bQ, bQ, bE, bE, bE, bE, bE, bE⟩
    case hOWC =>
     intro u''
     simp only [List.take_succ_cons, List.take_zero, putAll]
     repeat' (first | with_reducible exact debts_nil | with_reducible refine debts_cons ?_ ?_)
     ·intro W hS hF K hK
      have hc := LM0.out W hS
      go_simp
      exact hK _ _ (.refl _ _) hS hc.2
     ·intro W hS hF K hK
      have hc := LM1.out W hS
      go_simp
      exact hK _ _ (.refl _ _) hS hc.2
     ·intro W hS hF K hK
      have hq0 : IsQ W (u'' 0) A := hF.1
      have hq1 : IsQ W (u'' 1) B := hF.2.1
      clear hF
      go_simp
      refine (HC1.out _ _ _ hq0 hq1).mono ?_
      rintro e wA ⟨rfl, hBA⟩
      exact ⟨_, rfl, hK _ _ hBA (hS.trans (hBA.mono hS.size)) rfl⟩
     ·intro W hS hF K hK
      have hc := LM0.out W hS
      go_simp
      exact hK _ _ (.refl _ _) hS hc.2
     ·intro W hS hF K hK
      have hc := LM2.out W hS
      go_simp
      exact hK _ _ (.refl _ _) hS hc.2
     ·intro W hS hF K hK
      have hq3 : IsQ W (u'' 3) A := hF.1
      have hq4 : IsQ W (u'' 4) C := hF.2.1
      clear hF
      go_simp
      refine (Add_calls A C _ _ 64 _ hq3 hq4 (by decide) (HF.out.1.mono (by decide)) (HF.out.2.2.mono (by decide)) (LM3.out W hS).tz).mono ?_
      rintro e wA ⟨v, rfl, hv, hBA⟩
      exact ⟨_, rfl, hK _ _ hBA (hS.trans (hBA.mono hS.size)) hv⟩
     ·intro W hS hF K hK
      have hc := LM1.out W hS
      go_simp
      exact hK _ _ (.refl _ _) hS hc.2
     ·intro W hS hF K hK
      have hc := LM2.out W hS
      go_simp
      exact hK _ _ (.refl _ _) hS hc.2
     ·intro W hS hF K hK
      have hq6 : IsQ W (u'' 6) B := hF.1
      have hq7 : IsQ W (u'' 7) C := hF.2.1
      clear hF
      go_simp
      refine (Add_calls B C _ _ 64 _ hq6 hq7 (by decide) (HF.out.2.1.mono (by decide)) (HF.out.2.2.mono (by decide)) (LM3.out W hS).tz).mono ?_
      rintro e wA ⟨v, rfl, hv, hBA⟩
      exact ⟨_, rfl, hK _ _ hBA (hS.trans (hBA.mono hS.size)) hv⟩
     ·intro W hS hF K hK
      have hq5 : IsQ W (u'' 5) (A + C) := hF.1
      have hq8 : IsQ W (u'' 8) (B + C) := hF.2.1
      clear hF
      go_simp
      refine (HC2.out _ _ _ hq5 hq8).mono ?_
      rintro e wA ⟨rfl, hBA⟩
      exact ⟨_, rfl, hK _ _ hBA (hS.trans (hBA.mono hS.size)) rfl⟩
     ·intro W hS hF K hK
      have h2 : u'' 2 = .int .i64 M := hF.1
      have h9 : u'' 9 = .int .i64 M := hF.2.1
      clear hF
      go_simp
      exact hK _ _ (.refl _ _) hS rfl
     ·intro W hS hF K hK
      have h10 : u'' 10 = .bool true := hF.1
      clear hF
      go_simp
      exact hK _ _ (.refl _ _) hS rfl
     ·intro W hS hF K hK
      have h11 : u'' 11 = .bool true := hF.1
      have hc := LM0.out W hS
      clear hF
      go_simp
      exact hK _ _ (.refl _ _) hS hc.2
     ·intro W hS hF K hK
      have h11 : u'' 11 = .bool true := hF.1
      have hc := LM1.out W hS
      clear hF
      go_simp
      exact hK _ _ (.refl _ _) hS hc.2
     ·intro W hS hF K hK
      have hq12 : IsQ W (u'' 12) A := hF.1
      have hq13 : IsQ W (u'' 13) B := hF.2.1
      have h11 : u'' 11 = .bool true := hF.2.2.1
      clear hF
      go_simp
      refine (HC1.out _ _ _ hq12 hq13).mono ?_
      rintro e wA ⟨rfl, hBA⟩
      exact ⟨_, rfl, hK _ _ hBA (hS.trans (hBA.mono hS.size)) rfl⟩
     ·intro W hS hF K hK
      have h11 : u'' 11 = .bool true := hF.1
      have hc := LM0.out W hS
      clear hF
      go_simp
      exact hK _ _ (.refl _ _) hS hc.2
     ·intro W hS hF K hK
      have h11 : u'' 11 = .bool true := hF.1
      have hc := LM1.out W hS
      clear hF
      go_simp
      exact hK _ _ (.refl _ _) hS hc.2
     ·intro W hS hF K hK
      have hq15 : IsQ W (u'' 15) A := hF.1
      have hq16 : IsQ W (u'' 16) B := hF.2.1
      have h11 : u'' 11 = .bool true := hF.2.2.1
      clear hF
      go_simp
      refine (Sub_calls A B _ _ 64 _ hq15 hq16 (by decide) (HF.out.1.mono (by decide)) (HF.out.2.1.mono (by decide)) (LM3.out W hS).tz).mono ?_
      rintro e wA ⟨v, rfl, hv, hBA⟩
      exact ⟨_, rfl, hK _ _ hBA (hS.trans (hBA.mono hS.size)) hv⟩
     ·intro W hS hF K hK
      have hq17 : IsQ W (u'' 17) (A - B) := hF.1
      have h11 : u'' 11 = .bool true := hF.2.1
      clear hF
      go_simp
      refine (HC3.out _ _ hq17).mono ?_
      rintro e wA ⟨rfl, hBA⟩
      exact ⟨_, rfl, hK _ _ hBA (hS.trans (hBA.mono hS.size)) rfl⟩
     ·intro W hS hF K hK
      have h14 : u'' 14 = .int .i64 M := hF.1
      have h18 : u'' 18 = .int .i64 M := hF.2.1
      have h11 : u'' 11 = .bool true := hF.2.2.1
      clear hF
      go_simp
      exact hK _ _ (.refl _ _) hS rfl
     ·intro W hS hF K hK
      have h11 : u'' 11 = .bool true := hF.1
      have h19 : u'' 19 = .bool true := hF.2.1
      clear hF
      go_simp
      exact hK _ _ (.refl _ _) hS rfl
     ·intro W hS hF K hK
      have h20 : u'' 20 = .bool true := hF.1
      clear hF
      go_simp
      exact hK _ _ (.refl _ _) hS rfl
     ·intro W hS hF K hK
      have h21 : u'' 21 = .bool true := hF.1
      have hc := LM0.out W hS
      clear hF
      go_simp
      exact hK _ _ (.refl _ _) hS hc.2
     ·intro W hS hF K hK
      have h21 : u'' 21 = .bool true := hF.1
      have hc := LM1.out W hS
      clear hF
      go_simp
      exact hK _ _ (.refl _ _) hS hc.2
     ·intro W hS hF K hK
      have hq22 : IsQ W (u'' 22) A := hF.1
      have hq23 : IsQ W (u'' 23) B := hF.2.1
      have h21 : u'' 21 = .bool true := hF.2.2.1
      clear hF
      go_simp
      refine (HC1.out _ _ _ hq22 hq23).mono ?_
      rintro e wA ⟨rfl, hBA⟩
      exact ⟨_, rfl, hK _ _ hBA (hS.trans (hBA.mono hS.size)) rfl⟩
     ·intro W hS hF K hK
      have h21 : u'' 21 = .bool true := hF.1
      have hc := LM1.out W hS
      clear hF
      go_simp
      exact hK _ _ (.refl _ _) hS hc.2
     ·intro W hS hF K hK
      have h21 : u'' 21 = .bool true := hF.1
      have hc := LM0.out W hS
      clear hF
      go_simp
      exact hK _ _ (.refl _ _) hS hc.2
     ·intro W hS hF K hK
      have hq25 : IsQ W (u'' 25) B := hF.1
      have hq26 : IsQ W (u'' 26) A := hF.2.1
      have h21 : u'' 21 = .bool true := hF.2.2.1
      clear hF
      go_simp
      refine (HC4.out _ _ _ hq25 hq26).mono ?_
      rintro e wA ⟨rfl, hBA⟩
      exact ⟨_, rfl, hK _ _ hBA (hS.trans (hBA.mono hS.size)) rfl⟩
     ·intro W hS hF K hK
      have h27 : u'' 27 = .int .i64 (-M) := hF.1
      have h21 : u'' 21 = .bool true := hF.2.1
      clear hF
      go_simp
      rw [HWM.out]
      exact hK _ _ (.refl _ _) hS rfl
     ·intro W hS hF K hK
      have h24 : u'' 24 = .int .i64 M := hF.1
      have h28 : u'' 28 = .int .i64 M := hF.2.1
      have h21 : u'' 21 = .bool true := hF.2.2.1
      clear hF
      go_simp
      exact hK _ _ (.refl _ _) hS rfl
     ·intro W hS hF K hK
      have h21 : u'' 21 = .bool true := hF.1
      have h29 : u'' 29 = .bool true := hF.2.1
      clear hF
      go_simp
      exact hK _ _ (.refl _ _) hS rfl
     ·intro W hS hF K hK
      have h30 : u'' 30 = .bool true := hF.1
      clear hF
      go_simp
      exact hK _ _ (.refl _ _) hS rfl
     ·intro W hS hF K hK
      have h31 : u'' 31 = .bool true := hF.1
      have hc := LM0.out W hS
      clear hF
      go_simp
      exact hK _ _ (.refl _ _) hS hc.2
     ·intro W hS hF K hK
      have h31 : u'' 31 = .bool true := hF.1
      have hc := LM0.out W hS
      clear hF
      go_simp
      exact hK _ _ (.refl _ _) hS hc.2
     ·intro W hS hF K hK
      have hq32 : IsQ W (u'' 32) A := hF.1
      have hq33 : IsQ W (u'' 33) A := hF.2.1
      have h31 : u'' 31 = .bool true := hF.2.2.1
      clear hF
      go_simp
      refine (Mul_calls A A _ _ 64 _ hq32 hq33 (by decide) (HF.out.1.mono (by decide)) (HF.out.1.mono (by decide)) (LM3.out W hS).tz).mono ?_
      rintro e wA ⟨v, rfl, hv, hBA⟩
      exact ⟨_, rfl, hK _ _ hBA (hS.trans (hBA.mono hS.size)) hv⟩
     ·intro W hS hF K hK
      have hq34 : IsQ W (u'' 34) (A * A) := hF.1
      have h31 : u'' 31 = .bool true := hF.2.1
      clear hF
      go_simp
      refine (HC5.out _ _ hq34).mono ?_
      rintro e wA ⟨rfl, hBA⟩
      exact ⟨_, rfl, hK _ _ hBA (hS.trans (hBA.mono hS.size)) rfl⟩
     ·intro W hS hF K hK
      have h35 : u'' 35 = .int .i64 T := hF.1
      have h31 : u'' 31 = .bool true := hF.2.1
      clear hF
      go_simp
      exact hK _ _ (.refl _ _) hS rfl
     ·intro W hS hF K hK
      have h31 : u'' 31 = .bool true := hF.1
      have h36 : u'' 36 = .bool true := hF.2.1
      clear hF
      go_simp
      exact hK _ _ (.refl _ _) hS rfl
     ·intro W hS hF K hK
      have h37 : u'' 37 = .bool true := hF.1
      clear hF
      go_simp
      exact hK _ _ (.refl _ _) hS rfl
     ·intro W hS hF K hK
      have h38 : u'' 38 = .bool true := hF.1
      clear hF
      go_simp
      refine (awake_calls HN.out _ (LM3.out W hS)).mono ?_
      rintro e wA ⟨rfl, hBA⟩
      exact ⟨_, rfl, hK _ _ hBA (hS.trans (hBA.mono hS.size)) rfl⟩
     ·intro W hS hF K hK
      have h38 : u'' 38 = .bool true := hF.1
      have h39 : u'' 39 = .bool true := hF.2.1
      clear hF
      go_simp
      exact hK _ _ (.refl _ _) hS rfl
    case hEWC =>
     intro u'' WC hS hF
     have hS15 := hid (hS14.out.call hS)
     have h40 : u'' 40 = .bool true := hF.2.2.2.2.2.2.2.2.2.2.2.2.2.2.2.2.2.2.2.2.2.2.2.2.2.2.2.2.2.2.2.2.2.2.2.2.2.2.2.2.1
     clear hF hS
     refine wpList_frame rfl (a' := { tmps := #[Value.agg #[Value.int IntKind.i64 n1, Value.int IntKind.i64 d1, Value.int IntKind.u8 ↑b1], Value.agg #[Value.int IntKind.i64 n2, Value.int IntKind.i64 d2, Value.int IntKind.u8 ↑b2], Value.agg #[Value.int IntKind.i64 n3, Value.int IntKind.i64 d3, Value.int IntKind.u8 ↑b3], Value.pointer (some { block := w.heap.size, off := 0 }), Value.pointer (some { block := w.heap.size + 1, off := 0 }), Value.pointer (some { block := w.heap.size + 1 + 1, off := 0 }), Value.bool false, Value.pointer (some { block := w1.heap.size, off := 0 }), Value.pointer (some { block := w1.heap.size + 1, off := 0 }), Value.pointer (some { block := w2.heap.size, off := 0 }), Value.pointer (some { block := w2.heap.size + 1, off := 0 }), Value.pointer (some { block := w3.heap.size, off := 0 }), Value.pointer (some { block := w3.heap.size + 1, off := 0 }), Value.pointer (some { block := w4.heap.size, off := 0 }), Value.int IntKind.i64 0, Value.tuple #[Value.agg #[Value.bool t1, Value.int IntKind.u64 x1, Value.slice p1 l1 q1, Value.int IntKind.u64 y1, Value.slice r1 s1 u1], Value.agg #[Value.bool t11, Value.slice p11 l11 k11, Value.bool false, Value.slice r11 s11 u11]], Value.agg #[Value.int IntKind.i64 n1, Value.int IntKind.i64 d1, Value.int IntKind.u8 ↑b1], Value.tuple #[Value.agg #[Value.bool t1, Value.int IntKind.u64 x1, Value.slice p1 l1 q1, Value.int IntKind.u64 y1, Value.slice r1 s1 u1], Value.agg #[Value.bool t11, Value.slice p11 l11 k11, Value.bool false, Value.slice r11 s11 u11]], Value.agg #[Value.bool t1, Value.int IntKind.u64 x1, Value.slice p1 l1 q1, Value.int IntKind.u64 y1, Value.slice r1 s1 u1], Value.agg #[Value.bool t11, Value.slice p11 l11 k11, Value.bool false, Value.slice r11 s11 u11], Value.tuple #[Value.agg #[Value.bool t2, Value.int IntKind.u64 x2, Value.slice p2 l2 q2, Value.int IntKind.u64 y2, Value.slice r2 s2 u2], Value.agg #[Value.bool t12, Value.slice p12 l12 k12, Value.bool false, Value.slice r12 s12 u12]], Value.agg #[Value.int IntKind.i64 n2, Value.int IntKind.i64 d2, Value.int IntKind.u8 ↑b2], Value.tuple #[Value.agg #[Value.bool t2, Value.int IntKind.u64 x2, Value.slice p2 l2 q2, Value.int IntKind.u64 y2, Value.slice r2 s2 u2], Value.agg #[Value.bool t12, Value.slice p12 l12 k12, Value.bool false, Value.slice r12 s12 u12]], Value.agg #[Value.bool t2, Value.int IntKind.u64 x2, Value.slice p2 l2 q2, Value.int IntKind.u64 y2, Value.slice r2 s2 u2], Value.agg #[Value.bool t12, Value.slice p12 l12 k12, Value.bool false, Value.slice r12 s12 u12], Value.tuple #[Value.agg #[Value.bool t3, Value.int IntKind.u64 x3, Value.slice p3 l3 q3, Value.int IntKind.u64 y3, Value.slice r3 s3 u3], Value.agg #[Value.bool t13, Value.slice p13 l13 k13, Value.bool false, Value.slice r13 s13 u13]], Value.agg #[Value.int IntKind.i64 n3, Value.int IntKind.i64 d3, Value.int IntKind.u8 ↑b3], Value.tuple #[Value.agg #[Value.bool t3, Value.int IntKind.u64 x3, Value.slice p3 l3 q3, Value.int IntKind.u64 y3, Value.slice r3 s3 u3], Value.agg #[Value.bool t13, Value.slice p13 l13 k13, Value.bool false, Value.slice r13 s13 u13]], Value.agg #[Value.bool t3, Value.int IntKind.u64 x3, Value.slice p3 l3 q3, Value.int IntKind.u64 y3, Value.slice r3 s3 u3], Value.agg #[Value.bool t13, Value.slice p13 l13 k13, Value.bool false, Value.slice r13 s13 u13], u 0, u 1, u 2, u 3, u 4, u 5, u 6, u 7, u 8, u 9, u 10, u 11, u 12, u 13, u 14, u 15, u 16, u 17, u 18, u 19, u 20, u 21, u 22, u 23, u 24, u 25, u 26, u 27, u 28, u 29, u 30, u 31, u 32, u 33, u 34, u 35, u 36, u 37, u 38, u 39, u 40, u 41, u 42, u 43, u 44, u 45, u 46, u 47, u 48, u 49, u 50, u 51, u 52, u 53, u 54, u 55, u 56, u 57, u 58, u 59, u 60, u 61, u 62, u 63, u 64, u 65, u 66, u 67, u 68, u 69, u 70, u 71, u 72, u 73, u 74, u 75, u 76, u 77, u 78, u 79, Value.bool false, Value.tuple #[Value.agg #[Value.bool t4, Value.int IntKind.u64 x4, Value.slice p4 l4 q4, Value.int IntKind.u64 y4, Value.slice r4 s4 u4], Value.int IntKind.i64 0], Value.agg #[Value.bool t1, Value.int IntKind.u64 x1, Value.slice p1 l1 q1, Value.int IntKind.u64 y1, Value.slice r1 s1 u1], Value.agg #[Value.bool t2, Value.int IntKind.u64 x2, Value.slice p2 l2 q2, Value.int IntKind.u64 y2, Value.slice r2 s2 u2], Value.tuple #[Value.agg #[Value.bool t4, Value.int IntKind.u64 x4, Value.slice p4 l4 q4, Value.int IntKind.u64 y4, Value.slice r4 s4 u4], Value.int IntKind.i64 0], Value.agg #[Value.bool t4, Value.int IntKind.u64 x4, Value.slice p4 l4 q4, Value.int IntKind.u64 y4, Value.slice r4 s4 u4], Value.int IntKind.i64 0, u' 0, u' 1, u' 2, u' 3, u' 4, u' 5, u' 6, u' 7, u' 8, u' 9, u' 10, u' 11, u' 12, u' 13, .bool false, u'' 0, u'' 1, u'' 2, u'' 3, u'' 4, u'' 5, u'' 6, u'' 7, u'' 8, u'' 9, u'' 10, u'' 11, u'' 12, u'' 13, u'' 14, u'' 15, u'' 16, u'' 17, u'' 18, u'' 19, u'' 20, u'' 21, u'' 22, u'' 23, u'' 24, u'' 25, u'' 26, u'' 27, u'' 28, u'' 29, u'' 30, u'' 31, u'' 32, u'' 33, u'' 34, u'' 35, u'' 36, u'' 37, u'' 38, u'' 39, u'' 40], defers := [] }) (by kernel_rfl) ?_
     rw [h40]
     simp only [List.drop_succ_cons, List.drop_zero]
     go_wp2
     go_ret
     exact ⟨rfl, hS15.out.bel⟩
end Go.Proofs.YtppjkikaaonbkaaGreatDoor
