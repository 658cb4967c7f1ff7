/- What the proof rests on, further part 0: The number of a text, with a minus. The number of a text: integers. The text of a number is read as this number; equal texts are of equal numbers. ExactTexts. -/
import Derived.Test.YtppjkikaaonbkaaGreatDoorP23
import Derived.Test.YtppjkikaaonbkaaGreatDoorP24
import Derived.Test.YtppjkikaaonbkaaGreatDoorP26
import Derived.Test.YtppjkikaaonbkaaGreatDoorP22
import Derived.Test.YtppjkikaaonbkaaGreatDoorP17
import Derived.Test.YtppjkikaaonbkaaGreatDoorP31
namespace Go.Proofs.YtppjkikaaonbkaaGreatDoor
set_option maxRecDepth 100000
set_option maxHeartbeats 80000000
open Go.RowKit Go.Sort
attribute [local go_sem] takes takesUpon_value takesUpon_skip takesUpon_enter
theorem parse_frac_true (l s top bottom : List UInt8) (w : World) (hl : l.length ≤ 1000) (hs : Lib.trimPrefix l [45] = s) (hneg : Lib.hasPrefix l [45] = true) (hc : Lib.cut s [47] = (top, bottom, true)) (h1 : intB top = true) (h2 : intB bottom = true) (h0 : dv bottom ≠ 0) (hsl : s.length ≤ 1000) (htl : top.length ≤ 1000) (hbl : bottom.length ≤ 1000) (hE : Env w) :
  Calls Tryz.prog 16 #[.string ⟨l.toArray⟩] w (RetQE w (mkRat (zs (!(dv top == 0)) (dv top)) (dv bottom)) 0) := by
 have HC := hid (fun (W : World) => cutp_calls l W)
 have HU := hid (fun (W : World) (hM : TabM W) => cut_calls s 47 W (by omega) hM)
 rw [hs, hneg] at HC
 rw [hc] at HU
 have HI1 := hid (fun (W : World) => isInteger_calls top W (by omega))
 have HI2 := hid (fun (W : World) => isInteger_calls bottom W (by omega))
 rw [h1] at HI1
 rw [h2] at HI2
 have a1 : top.all digB = true := by simp only [intB, Bool.and_eq_true] at h1; exact h1.1.2
 have a2 : bottom.all digB = true := by simp only [intB, Bool.and_eq_true] at h2; exact h2.1.2
 have HM1 := hid (fun (W : World) => magOf_calls top W a1 (by omega))
 have HM2 := hid (fun (W : World) => magOf_calls bottom W a2 (by omega))
 obtain ⟨K, hK⟩ : ∃ K, K = 1020 := ⟨_, rfl⟩
 have b1 : dv top < B64 ^ K := Nat.lt_trans (dv_lt top a1) (ten_lt (by omega))
 have b2 : dv bottom < B64 ^ K := Nat.lt_trans (dv_lt bottom a2) (ten_lt (by omega))
 obtain ⟨n, hn⟩ : ∃ n, dv top = n := ⟨_, rfl⟩
 obtain ⟨m, hm⟩ : ∃ m, dv bottom = m := ⟨_, rfl⟩
 rw [hn] at HM1 b1 ⊢
 rw [hm] at HM2 b2 h0 ⊢
 have HR := hid (fun (c d e f : Value) (W : World) (i1 : IsMag W c d n) (i2 : IsMag W e f m) (hT : Tab W) => reduced_calls (!(n == 0)) c d e f n m K W i1 i2 h0 (by omega) b1 b2 hT)
 have z1 : (m == 0) = false := by simpa using h0
 have HE := hid hE
 obtain ⟨z, hz⟩ : ∃ z, (n == 0) = z := ⟨_, rfl⟩
 have HZ := hid (fun (W : World) (c d : Value) (h : IsMag W c d n) => hz ▸ isZero_calls c d n W h)
 have HZ2 := hid (fun (W : World) (c d : Value) (h : IsMag W c d m) => z1 ▸ isZero_calls c d m W h)
 rw [hz] at HR ⊢
 obtain ⟨R, hR⟩ : ∃ R, mkRat (zs (!z) n) m = R := ⟨_, rfl⟩
 rw [hR] at HR ⊢
 clear hR hs hneg hc h1 h2 h0 hsl htl hbl hE a1 a2 hK b1 b2 hn hm hz z1
 go_enter Tryz.func16, Tryz.ntmps16
 go_wp2_with fail
 have hS0 := hid ((St.start w).alloc' (w.heap.size) (by simp) 31 z5)
 obtain ⟨W0, hW0⟩ := nameW hS0
 rw [hW0] at hS0 ⊢
 clear hW0
 refine (HC.out _).mono ?_
 rintro e w1 ⟨rfl, hB⟩
 have hS1 := hid (hS0.out.call hB)
 clear hB
 clear hS0
 go_wp2_with fail
 refine (HU.out _ (HE.out.below hS1.out.bel (Nat.le_refl _)).max).mono ?_
 rintro e w2 ⟨rfl, hB⟩
 have hS2 := hid (hS1.out.call hB)
 clear hB
 clear hS1
 go_wp2_with fail
 refine (HI1.out _).mono ?_
 rintro e w9 ⟨rfl, rfl⟩
 go_wp2_with fail
 refine (HI2.out _).mono ?_
 rintro e w9 ⟨rfl, rfl⟩
 go_wp2_with fail
 refine (HM1.out _).mono ?_
 rintro e w3 ⟨c1, d1, rfl, hm1, hB⟩
 have hS3 := hid (hS2.out.call hB)
 clear hB
 clear hS2
 obtain ⟨x1, p1, l1, q1, rfl, rfl⟩ := hm1.shape
 have hS4 := hid (hS3.out.fact (.m (.int .u64 x1) (.slice p1 l1 q1) (n)) hm1)
 clear hS3 hm1
 obtain ⟨ne1l, ne1, ne1'⟩ := hS4.out.ne 0 w.heap.size 31 z5 rfl
 go_wp2_with fail
 have hS5 := hid (((hS4.out).alloc' (w3.heap.size) (by simp) 27 [.int .u64 x1, .slice p1 l1 q1]).alloc' (w3.heap.size + 1) (by simp) 27 [.int .u64 1, .slice none 0 0])
 obtain ⟨W3, hW3⟩ := nameW hS5
 rw [hW3] at hS5 ⊢
 clear hW3
 refine (HM2.out _).mono ?_
 rintro e w4 ⟨c2, d2, rfl, hm2, hB⟩
 have hS6 := hid (hS5.out.call hB)
 clear hB
 clear hS5
 obtain ⟨x2, p2, l2, q2, rfl, rfl⟩ := hm2.shape
 have hS7 := hid (hS6.out.fact (.m (.int .u64 x2) (.slice p2 l2 q2) (m)) hm2)
 clear hS6 hm2
 obtain ⟨⟨cs0, cs1⟩, fs0, fs1⟩ := hS7.out.f2 1 w3.heap.size 27 (.int .u64 x1) (.slice p1 l1 q1) rfl
 obtain ⟨⟨cu0, cu1⟩, fu0, fu1⟩ := hS7.out.f2 0 (w3.heap.size + 1) 27 (.int .u64 1) (.slice none 0 0) rfl
 go_wp2_with fail
 clear cs0 cs1 fs0 fs1 cu0 cu1 fu0 fu1
 have hS8 := hid ((((hS7.out).store (b := ⟨w3.heap.size + 1, 27, [.int .u64 1, .slice none 0 0]⟩) 0 0 (.int .u64 x2) rfl rfl).store (b := ⟨w3.heap.size + 1, 27, [.int .u64 x2, .slice none 0 0]⟩) 0 1 (.slice p2 l2 q2) rfl rfl).as [⟨w3.heap.size + 1, 27, [.int .u64 x2, .slice p2 l2 q2]⟩, ⟨w3.heap.size, 27, [.int .u64 x1, .slice p1 l1 q1]⟩, ⟨w.heap.size, 31, z5⟩] rfl)
 obtain ⟨W4, hW4⟩ := nameW hS8
 rw [hW4] at hS8 ⊢
 clear hW4
 refine (HZ2.out _ _ _ (hS8.out.get (f := .m (.int .u64 x2) (.slice p2 l2 q2) (m)) 0 rfl)).mono ?_
 rintro e w5 ⟨rfl, hB⟩
 have hS9 := hid (hS8.out.call hB)
 clear hB
 clear hS8
 obtain ⟨⟨cs0, cs1⟩, fs0, fs1⟩ := hS9.out.f2 1 w3.heap.size 27 (.int .u64 x1) (.slice p1 l1 q1) rfl
 obtain ⟨⟨cu0, cu1⟩, fu0, fu1⟩ := hS9.out.f2 0 (w3.heap.size + 1) 27 (.int .u64 x2) (.slice p2 l2 q2) rfl
 go_wp2_with fail
 clear cs0 cs1 fs0 fs1 cu0 cu1 fu0 fu1
 have LM0 := hid (fun (W : World) (h : Below w5.heap.size w5 W) => ((hS9.out.call h).f2 1 w3.heap.size 27 (.int .u64 x1) (.slice p1 l1 q1) rfl).1)
 have LM1 := hid (fun (W : World) (h : Below w5.heap.size w5 W) => ((hS9.out.call h).f2 0 (w3.heap.size + 1) 27 (.int .u64 x2) (.slice p2 l2 q2) rfl).1)
 have LM2 := hid (fun (W : World) (h : Below w5.heap.size w5 W) => HE.out.below (hS9.out.call h).bel (Nat.le_refl _))
 refine wp_region_inv 10 [⟨[], [0]⟩, ⟨[0], [1]⟩, ⟨[1], [2]⟩, ⟨[2, 1], [3]⟩, ⟨[3, 1], [4]⟩, ⟨[1, 4], [5]⟩, ⟨[], [6]⟩, ⟨[5, 6], [7]⟩, ⟨[], [8]⟩, ⟨[7, 8], [9]⟩]
  [oE (.bool true), oE (.bool true), oE (.agg #[.int .u64 x1, .slice p1 l1 q1]), oE (.bool z), oE (.bool (!z)), oE (.bool (!z)), oE (.agg #[.int .u64 x1, .slice p1 l1 q1]), oE (.agg #[.bool (!z), .int .u64 x1, .slice p1 l1 q1]), oE (.agg #[.int .u64 x2, .slice p2 l2 q2]), oQ (R)]
  (fun _ W => Below w5.heap.size w5 W) (by kernel_rfl) (by kernel_rfl) ?hTW6 ?hZW6 ?hOW6 ?hEW6
 case hZW6 => exact (Below.refl _ _).drew
 case hTW6 =>
  simp only [List.forall_mem_cons, List.not_mem_nil, false_imp_iff, implies_true, and_true]
  exact ⟨bE, bE, bE, bE, bE, bE, bE, bE, bE, bQ⟩
 case hOW6 =>
  intro u
  simp only [List.take_succ_cons, List.take_zero, putAll]
  repeat' (first | with_reducible exact debts_nil | with_reducible refine debts_cons ?_ ?_)
  ·intro W hS hF K hK
   go_simp
   exact hK _ _ (.refl _ _) hS rfl
  ·intro W hS hF K hK
   have h0 : u 0 = .bool true := hF.1
   clear hF
   go_simp
   exact hK _ _ (.refl _ _) hS rfl
  ·intro W hS hF K hK
   have h1 : u 1 = .bool true := hF.1
   have hcs := LM0.out W hS
   clear hF
   go_simp
   exact hK _ _ (.refl _ _) hS rfl
  ·intro W hS hF K hK
   have h2 : u 2 = .agg #[.int .u64 x1, .slice p1 l1 q1] := hF.1
   have h1 : u 1 = .bool true := hF.2.1
   have sH := hid (hS9.out.call hS)
   clear hF
   go_simp
   refine (HZ.out _ _ _ (sH.out.get (f := .m (.int .u64 x1) (.slice p1 l1 q1) (n)) 1 rfl)).mono ?_
   rintro e wA ⟨rfl, hBA⟩
   exact ⟨_, rfl, hK _ _ hBA (hS.trans (hBA.mono hS.size)) rfl⟩
  ·intro W hS hF K hK
   have h3 : u 3 = .bool z := hF.1
   have h1 : u 1 = .bool true := hF.2.1
   clear hF
   go_simp
   exact hK _ _ (.refl _ _) hS rfl
  ·intro W hS hF K hK
   have h1 : u 1 = .bool true := hF.1
   have h4 : u 4 = .bool (!z) := hF.2.1
   clear hF
   go_simp
   exact hK _ _ (.refl _ _) hS rfl
  ·intro W hS hF K hK
   have hcs := LM0.out W hS
   go_simp
   exact hK _ _ (.refl _ _) hS rfl
  ·intro W hS hF K hK
   have h5 : u 5 = .bool (!z) := hF.1
   have h6 : u 6 = .agg #[.int .u64 x1, .slice p1 l1 q1] := hF.2.1
   clear hF
   go_simp
   exact hK _ _ (.refl _ _) hS rfl
  ·intro W hS hF K hK
   have hcu := LM1.out W hS
   go_simp
   exact hK _ _ (.refl _ _) hS rfl
  ·intro W hS hF K hK
   have h7 : u 7 = .agg #[.bool (!z), .int .u64 x1, .slice p1 l1 q1] := hF.1
   have h8 : u 8 = .agg #[.int .u64 x2, .slice p2 l2 q2] := hF.2.1
   have sH := hid (hS9.out.call hS)
   clear hF
   go_simp
   refine (HR.out _ _ _ _ _ (sH.out.get (f := .m (.int .u64 x1) (.slice p1 l1 q1) (n)) 1 rfl) (sH.out.get (f := .m (.int .u64 x2) (.slice p2 l2 q2) (m)) 0 rfl) (LM2.out W hS).tz).mono ?_
   rintro e wA ⟨v, rfl, hv, hBA⟩
   exact ⟨_, rfl, hK _ _ hBA (hS.trans (hBA.mono hS.size)) hv⟩
 case hEW6 =>
  intro u W6 hS hF
  have hS10 := hid (hS9.out.call hS)
  have hv0 : IsQ W6 (u 9) R := hF.2.2.2.2.2.2.2.2.2.1
  clear hF hS
  obtain ⟨t9, x9, p9, l9, q9, y9, r9, s9, u9, e9⟩ := hv0.open
  have hv9 : IsQ W6 (.agg #[.bool t9, .int .u64 x9, .slice p9 l9 q9, .int .u64 y9, .slice r9 s9 u9]) R := e9 ▸ hv0
  clear hv0
  have hS11 := hid (hS10.out.fq hv9)
  clear hS10 hv9
  obtain ⟨⟨cR0, cR1, cR2, cR3, cR4⟩, fR0, fR1, fR2, fR3, fR4⟩ := hS11.out.f5 2 w.heap.size 31 (.bool false) (.int .u64 0) (.slice none 0 0) (.int .u64 0) (.slice none 0 0) rfl
  simp only [List.take_succ_cons, List.take_zero, putAll, List.drop_succ_cons, List.drop_zero]
  have hS12 := hid (((((((hS11.out).store (b := ⟨w.heap.size, 31, z5⟩) 2 0 (.bool t9) rfl rfl).store (b := ⟨w.heap.size, 31, [.bool t9, .int .u64 0, .slice none 0 0, .int .u64 0, .slice none 0 0]⟩) 2 1 (.int .u64 x9) rfl rfl).store (b := ⟨w.heap.size, 31, [.bool t9, .int .u64 x9, .slice none 0 0, .int .u64 0, .slice none 0 0]⟩) 2 2 (.slice p9 l9 q9) rfl rfl).store (b := ⟨w.heap.size, 31, [.bool t9, .int .u64 x9, .slice p9 l9 q9, .int .u64 0, .slice none 0 0]⟩) 2 3 (.int .u64 y9) rfl rfl).store (b := ⟨w.heap.size, 31, [.bool t9, .int .u64 x9, .slice p9 l9 q9, .int .u64 y9, .slice none 0 0]⟩) 2 4 (.slice r9 s9 u9) rfl rfl).as [⟨w3.heap.size + 1, 27, [.int .u64 x2, .slice p2 l2 q2]⟩, ⟨w3.heap.size, 27, [.int .u64 x1, .slice p1 l1 q1]⟩, ⟨w.heap.size, 31, (c5 t9 x9 p9 l9 q9 y9 r9 s9 u9)⟩] rfl)
  go_wp2_with fail
  clear cR0 cR1 cR2 cR3 cR4 fR0 fR1 fR2 fR3 fR4
  obtain ⟨⟨zR0, zR1, zR2, zR3, zR4⟩, -⟩ := hS12.out.f5 2 w.heap.size 31 (.bool t9) (.int .u64 x9) (.slice p9 l9 q9) (.int .u64 y9) (.slice r9 s9 u9) rfl
  exact bodyPost_ret (v := .tuple #[.agg #[.bool t9, .int .u64 x9, .slice p9 l9 q9, .int .u64 y9, .slice r9 s9 u9], .int .i64 0]) (by simp [results, Tryz.results16, go_sem, zR0, zR1, zR2, zR3, zR4]) rfl ⟨_, rfl, (hS12.out.gq 0 rfl), hS12.out.bel⟩
end Go.Proofs.YtppjkikaaonbkaaGreatDoor
namespace Go.Proofs.YtppjkikaaonbkaaGreatDoor
set_option maxRecDepth 100000
set_option maxHeartbeats 80000000
open Go.RowKit Go.Sort
attribute [local go_sem] takes takesUpon_value takesUpon_skip takesUpon_enter
theorem parse_int_true (l s : List UInt8) (w : World) (hl : l.length ≤ 1000) (hs : Lib.trimPrefix l [45] = s) (hneg : Lib.hasPrefix l [45] = true) (hc : Lib.cut s [47] = (s, [], false)) (hc2 : Lib.cut s [46] = (s, [], false)) (h1 : intB s = true) (hsl : s.length ≤ 1000) (hE : Env w) :
  Calls Tryz.prog 16 #[.string ⟨l.toArray⟩] w (RetQE w (mkRat (zs (!(dv s == 0)) (dv s)) 1) 0) := by
 have HC := hid (fun (W : World) => cutp_calls l W)
 have HU := hid (fun (W : World) (hM : TabM W) => cut_calls s 47 W (by omega) hM)
 have HV := hid (fun (W : World) (hM : TabM W) => cut_calls s 46 W (by omega) hM)
 rw [hs, hneg] at HC
 rw [hc] at HU
 rw [hc2] at HV
 have HI1 := hid (fun (W : World) => isInteger_calls s W (by omega))
 rw [h1] at HI1
 have a1 : s.all digB = true := by simp only [intB, Bool.and_eq_true] at h1; exact h1.1.2
 have HM1 := hid (fun (W : World) => magOf_calls s W a1 (by omega))
 obtain ⟨K, hK⟩ : ∃ K, K = 1020 := ⟨_, rfl⟩
 have b1 : dv s < B64 ^ K := Nat.lt_trans (dv_lt s a1) (ten_lt (by omega))
 have b2 : 1 < B64 ^ K := Nat.one_lt_pow (by omega) (by decide)
 obtain ⟨n, hn⟩ : ∃ n, dv s = n := ⟨_, rfl⟩
 rw [hn] at HM1 b1 ⊢
 have HR := hid (fun (c d e f : Value) (W : World) (i1 : IsMag W c d n) (i2 : IsMag W e f 1) (hT : Tab W) => reduced_calls (!(n == 0)) c d e f n 1 K W i1 i2 (by decide) (by omega) b1 b2 hT)
 have HE := hid hE
 obtain ⟨z, hz⟩ : ∃ z, (n == 0) = z := ⟨_, rfl⟩
 have HZ := hid (fun (W : World) (c d : Value) (h : IsMag W c d n) => hz ▸ isZero_calls c d n W h)
 have HZ2 := hid (fun (W : World) => isZero_calls (.int .u64 1) (.slice none 0 0) 1 W (isMag_lit _ 1 (by decide)))
 rw [hz] at HR ⊢
 obtain ⟨R, hR⟩ : ∃ R, mkRat (zs (!z) n) 1 = R := ⟨_, rfl⟩
 rw [hR] at HR ⊢
 clear hR hs hneg hc hc2 h1 hsl hE a1 hK b1 b2 hn hz
 go_enter Tryz.func16, Tryz.ntmps16
 go_wp2_with fail
 have hS0 := hid ((St.start w).alloc' (w.heap.size) (by simp) 31 z5)
 obtain ⟨W0, hW0⟩ := nameW hS0
 rw [hW0] at hS0 ⊢
 clear hW0
 refine (HC.out _).mono ?_
 rintro e w1 ⟨rfl, hB⟩
 have hS1 := hid (hS0.out.call hB)
 clear hB
 clear hS0
 go_wp2_with fail
 refine (HU.out _ (HE.out.below hS1.out.bel (Nat.le_refl _)).max).mono ?_
 rintro e w2 ⟨rfl, hB⟩
 have hS2 := hid (hS1.out.call hB)
 clear hB
 clear hS1
 go_wp2_with fail
 refine (HV.out _ (HE.out.below hS2.out.bel (Nat.le_refl _)).max).mono ?_
 rintro e w2b ⟨rfl, hB⟩
 have hS3 := hid (hS2.out.call hB)
 clear hB
 clear hS2
 go_wp2_with fail
 refine (HI1.out _).mono ?_
 rintro e w9 ⟨rfl, rfl⟩
 go_wp2_with fail
 refine (HM1.out _).mono ?_
 rintro e w3 ⟨c1, d1, rfl, hm1, hB⟩
 have hS4 := hid (hS3.out.call hB)
 clear hB
 clear hS3
 obtain ⟨x1, p1, l1, q1, rfl, rfl⟩ := hm1.shape
 have hS5 := hid (hS4.out.fact (.m (.int .u64 x1) (.slice p1 l1 q1) (n)) hm1)
 clear hS4 hm1
 obtain ⟨ne1l, ne1, ne1'⟩ := hS5.out.ne 0 w.heap.size 31 z5 rfl
 go_wp2_with fail
 have hS6 := hid (((hS5.out).alloc' (w3.heap.size) (by simp) 27 [.int .u64 x1, .slice p1 l1 q1]).alloc' (w3.heap.size + 1) (by simp) 27 [.int .u64 1, .slice none 0 0])
 obtain ⟨W3, hW3⟩ := nameW hS6
 rw [hW3] at hS6 ⊢
 clear hW3
 obtain ⟨⟨cs0, cs1⟩, fs0, fs1⟩ := hS6.out.f2 1 w3.heap.size 27 (.int .u64 x1) (.slice p1 l1 q1) rfl
 obtain ⟨⟨cu0, cu1⟩, fu0, fu1⟩ := hS6.out.f2 0 (w3.heap.size + 1) 27 (.int .u64 1) (.slice none 0 0) rfl
 go_wp2_with fail
 clear cs0 cs1 fs0 fs1 cu0 cu1 fu0 fu1
 refine (HZ2.out _).mono ?_
 rintro e w5 ⟨rfl, hB⟩
 have hS7 := hid (hS6.out.call hB)
 clear hB
 clear hS6
 obtain ⟨⟨cs0, cs1⟩, fs0, fs1⟩ := hS7.out.f2 1 w3.heap.size 27 (.int .u64 x1) (.slice p1 l1 q1) rfl
 obtain ⟨⟨cu0, cu1⟩, fu0, fu1⟩ := hS7.out.f2 0 (w3.heap.size + 1) 27 (.int .u64 1) (.slice none 0 0) rfl
 go_wp2_with fail
 clear cs0 cs1 fs0 fs1 cu0 cu1 fu0 fu1
 have LM0 := hid (fun (W : World) (h : Below w5.heap.size w5 W) => ((hS7.out.call h).f2 1 w3.heap.size 27 (.int .u64 x1) (.slice p1 l1 q1) rfl).1)
 have LM1 := hid (fun (W : World) (h : Below w5.heap.size w5 W) => ((hS7.out.call h).f2 0 (w3.heap.size + 1) 27 (.int .u64 1) (.slice none 0 0) rfl).1)
 have LM2 := hid (fun (W : World) (h : Below w5.heap.size w5 W) => HE.out.below (hS7.out.call h).bel (Nat.le_refl _))
 refine wp_region_inv 10 [⟨[], [0]⟩, ⟨[0], [1]⟩, ⟨[1], [2]⟩, ⟨[2, 1], [3]⟩, ⟨[3, 1], [4]⟩, ⟨[1, 4], [5]⟩, ⟨[], [6]⟩, ⟨[5, 6], [7]⟩, ⟨[], [8]⟩, ⟨[7, 8], [9]⟩]
  [oE (.bool true), oE (.bool true), oE (.agg #[.int .u64 x1, .slice p1 l1 q1]), oE (.bool z), oE (.bool (!z)), oE (.bool (!z)), oE (.agg #[.int .u64 x1, .slice p1 l1 q1]), oE (.agg #[.bool (!z), .int .u64 x1, .slice p1 l1 q1]), oE (.agg #[.int .u64 1, .slice none 0 0]), oQ (R)]
  (fun _ W => Below w5.heap.size w5 W) (by kernel_rfl) (by kernel_rfl) ?hTW6 ?hZW6 ?hOW6 ?hEW6
 case hZW6 => exact (Below.refl _ _).drew
 case hTW6 =>
  simp only [List.forall_mem_cons, List.not_mem_nil, false_imp_iff, implies_true, and_true]
  exact ⟨bE, bE, bE, bE, bE, bE, bE, bE, bE, bQ⟩
 case hOW6 =>
  intro u
  simp only [List.take_succ_cons, List.take_zero, putAll]
  repeat' (first | with_reducible exact debts_nil | with_reducible refine debts_cons ?_ ?_)
  ·intro W hS hF K hK
   go_simp
   exact hK _ _ (.refl _ _) hS rfl
  ·intro W hS hF K hK
   have h0 : u 0 = .bool true := hF.1
   clear hF
   go_simp
   exact hK _ _ (.refl _ _) hS rfl
  ·intro W hS hF K hK
   have h1 : u 1 = .bool true := hF.1
   have hcs := LM0.out W hS
   clear hF
   go_simp
   exact hK _ _ (.refl _ _) hS rfl
  ·intro W hS hF K hK
   have h2 : u 2 = .agg #[.int .u64 x1, .slice p1 l1 q1] := hF.1
   have h1 : u 1 = .bool true := hF.2.1
   have sH := hid (hS7.out.call hS)
   clear hF
   go_simp
   refine (HZ.out _ _ _ (sH.out.get (f := .m (.int .u64 x1) (.slice p1 l1 q1) (n)) 0 rfl)).mono ?_
   rintro e wA ⟨rfl, hBA⟩
   exact ⟨_, rfl, hK _ _ hBA (hS.trans (hBA.mono hS.size)) rfl⟩
  ·intro W hS hF K hK
   have h3 : u 3 = .bool z := hF.1
   have h1 : u 1 = .bool true := hF.2.1
   clear hF
   go_simp
   exact hK _ _ (.refl _ _) hS rfl
  ·intro W hS hF K hK
   have h1 : u 1 = .bool true := hF.1
   have h4 : u 4 = .bool (!z) := hF.2.1
   clear hF
   go_simp
   exact hK _ _ (.refl _ _) hS rfl
  ·intro W hS hF K hK
   have hcs := LM0.out W hS
   go_simp
   exact hK _ _ (.refl _ _) hS rfl
  ·intro W hS hF K hK
   have h5 : u 5 = .bool (!z) := hF.1
   have h6 : u 6 = .agg #[.int .u64 x1, .slice p1 l1 q1] := hF.2.1
   clear hF
   go_simp
   exact hK _ _ (.refl _ _) hS rfl
  ·intro W hS hF K hK
   have hcu := LM1.out W hS
   go_simp
   exact hK _ _ (.refl _ _) hS rfl
  ·intro W hS hF K hK
   have h7 : u 7 = .agg #[.bool (!z), .int .u64 x1, .slice p1 l1 q1] := hF.1
   have h8 : u 8 = .agg #[.int .u64 1, .slice none 0 0] := hF.2.1
   have sH := hid (hS7.out.call hS)
   clear hF
   go_simp
   refine (HR.out _ _ _ _ _ (sH.out.get (f := .m (.int .u64 x1) (.slice p1 l1 q1) (n)) 0 rfl) (isMag_lit _ 1 (by decide)) (LM2.out W hS).tz).mono ?_
   rintro e wA ⟨v, rfl, hv, hBA⟩
   exact ⟨_, rfl, hK _ _ hBA (hS.trans (hBA.mono hS.size)) hv⟩
 case hEW6 =>
  intro u W6 hS hF
  have hS8 := hid (hS7.out.call hS)
  have hv0 : IsQ W6 (u 9) R := hF.2.2.2.2.2.2.2.2.2.1
  clear hF hS
  obtain ⟨t9, x9, p9, l9, q9, y9, r9, s9, u9, e9⟩ := hv0.open
  have hv9 : IsQ W6 (.agg #[.bool t9, .int .u64 x9, .slice p9 l9 q9, .int .u64 y9, .slice r9 s9 u9]) R := e9 ▸ hv0
  clear hv0
  have hS9 := hid (hS8.out.fq hv9)
  clear hS8 hv9
  obtain ⟨⟨cR0, cR1, cR2, cR3, cR4⟩, fR0, fR1, fR2, fR3, fR4⟩ := hS9.out.f5 2 w.heap.size 31 (.bool false) (.int .u64 0) (.slice none 0 0) (.int .u64 0) (.slice none 0 0) rfl
  simp only [List.take_succ_cons, List.take_zero, putAll, List.drop_succ_cons, List.drop_zero]
  have hS10 := hid (((((((hS9.out).store (b := ⟨w.heap.size, 31, z5⟩) 2 0 (.bool t9) rfl rfl).store (b := ⟨w.heap.size, 31, [.bool t9, .int .u64 0, .slice none 0 0, .int .u64 0, .slice none 0 0]⟩) 2 1 (.int .u64 x9) rfl rfl).store (b := ⟨w.heap.size, 31, [.bool t9, .int .u64 x9, .slice none 0 0, .int .u64 0, .slice none 0 0]⟩) 2 2 (.slice p9 l9 q9) rfl rfl).store (b := ⟨w.heap.size, 31, [.bool t9, .int .u64 x9, .slice p9 l9 q9, .int .u64 0, .slice none 0 0]⟩) 2 3 (.int .u64 y9) rfl rfl).store (b := ⟨w.heap.size, 31, [.bool t9, .int .u64 x9, .slice p9 l9 q9, .int .u64 y9, .slice none 0 0]⟩) 2 4 (.slice r9 s9 u9) rfl rfl).as [⟨w3.heap.size + 1, 27, [.int .u64 1, .slice none 0 0]⟩, ⟨w3.heap.size, 27, [.int .u64 x1, .slice p1 l1 q1]⟩, ⟨w.heap.size, 31, (c5 t9 x9 p9 l9 q9 y9 r9 s9 u9)⟩] rfl)
  go_wp2_with fail
  clear cR0 cR1 cR2 cR3 cR4 fR0 fR1 fR2 fR3 fR4
  obtain ⟨⟨zR0, zR1, zR2, zR3, zR4⟩, -⟩ := hS10.out.f5 2 w.heap.size 31 (.bool t9) (.int .u64 x9) (.slice p9 l9 q9) (.int .u64 y9) (.slice r9 s9 u9) rfl
  exact bodyPost_ret (v := .tuple #[.agg #[.bool t9, .int .u64 x9, .slice p9 l9 q9, .int .u64 y9, .slice r9 s9 u9], .int .i64 0]) (by simp [results, Tryz.results16, go_sem, zR0, zR1, zR2, zR3, zR4]) rfl ⟨_, rfl, (hS10.out.gq 0 rfl), hS10.out.bel⟩
theorem parse_int_false (l s : List UInt8) (w : World) (hl : l.length ≤ 1000) (hs : Lib.trimPrefix l [45] = s) (hneg : Lib.hasPrefix l [45] = false) (hc : Lib.cut s [47] = (s, [], false)) (hc2 : Lib.cut s [46] = (s, [], false)) (h1 : intB s = true) (hsl : s.length ≤ 1000) (hE : Env w) :
  Calls Tryz.prog 16 #[.string ⟨l.toArray⟩] w (RetQE w (mkRat (zs false (dv s)) 1) 0) := by
 have HC := hid (fun (W : World) => cutp_calls l W)
 have HU := hid (fun (W : World) (hM : TabM W) => cut_calls s 47 W (by omega) hM)
 have HV := hid (fun (W : World) (hM : TabM W) => cut_calls s 46 W (by omega) hM)
 rw [hs, hneg] at HC
 rw [hc] at HU
 rw [hc2] at HV
 have HI1 := hid (fun (W : World) => isInteger_calls s W (by omega))
 rw [h1] at HI1
 have a1 : s.all digB = true := by simp only [intB, Bool.and_eq_true] at h1; exact h1.1.2
 have HM1 := hid (fun (W : World) => magOf_calls s W a1 (by omega))
 obtain ⟨K, hK⟩ : ∃ K, K = 1020 := ⟨_, rfl⟩
 have b1 : dv s < B64 ^ K := Nat.lt_trans (dv_lt s a1) (ten_lt (by omega))
 have b2 : 1 < B64 ^ K := Nat.one_lt_pow (by omega) (by decide)
 obtain ⟨n, hn⟩ : ∃ n, dv s = n := ⟨_, rfl⟩
 rw [hn] at HM1 b1 ⊢
 have HR := hid (fun (c d e f : Value) (W : World) (i1 : IsMag W c d n) (i2 : IsMag W e f 1) (hT : Tab W) => reduced_calls false c d e f n 1 K W i1 i2 (by decide) (by omega) b1 b2 hT)
 have HE := hid hE
 obtain ⟨z, hz⟩ : ∃ z, (n == 0) = z := ⟨_, rfl⟩
 have HZ := hid (fun (W : World) (c d : Value) (h : IsMag W c d n) => hz ▸ isZero_calls c d n W h)
 have HZ2 := hid (fun (W : World) => isZero_calls (.int .u64 1) (.slice none 0 0) 1 W (isMag_lit _ 1 (by decide)))
 obtain ⟨R, hR⟩ : ∃ R, mkRat (zs false n) 1 = R := ⟨_, rfl⟩
 rw [hR] at HR ⊢
 clear hR hs hneg hc hc2 h1 hsl hE a1 hK b1 b2 hn hz
 go_enter Tryz.func16, Tryz.ntmps16
 go_wp2_with fail
 have hS0 := hid ((St.start w).alloc' (w.heap.size) (by simp) 31 z5)
 obtain ⟨W0, hW0⟩ := nameW hS0
 rw [hW0] at hS0 ⊢
 clear hW0
 refine (HC.out _).mono ?_
 rintro e w1 ⟨rfl, hB⟩
 have hS1 := hid (hS0.out.call hB)
 clear hB
 clear hS0
 go_wp2_with fail
 refine (HU.out _ (HE.out.below hS1.out.bel (Nat.le_refl _)).max).mono ?_
 rintro e w2 ⟨rfl, hB⟩
 have hS2 := hid (hS1.out.call hB)
 clear hB
 clear hS1
 go_wp2_with fail
 refine (HV.out _ (HE.out.below hS2.out.bel (Nat.le_refl _)).max).mono ?_
 rintro e w2b ⟨rfl, hB⟩
 have hS3 := hid (hS2.out.call hB)
 clear hB
 clear hS2
 go_wp2_with fail
 refine (HI1.out _).mono ?_
 rintro e w9 ⟨rfl, rfl⟩
 go_wp2_with fail
 refine (HM1.out _).mono ?_
 rintro e w3 ⟨c1, d1, rfl, hm1, hB⟩
 have hS4 := hid (hS3.out.call hB)
 clear hB
 clear hS3
 obtain ⟨x1, p1, l1, q1, rfl, rfl⟩ := hm1.shape
 have hS5 := hid (hS4.out.fact (.m (.int .u64 x1) (.slice p1 l1 q1) (n)) hm1)
 clear hS4 hm1
 obtain ⟨ne1l, ne1, ne1'⟩ := hS5.out.ne 0 w.heap.size 31 z5 rfl
 go_wp2_with fail
 have hS6 := hid (((hS5.out).alloc' (w3.heap.size) (by simp) 27 [.int .u64 x1, .slice p1 l1 q1]).alloc' (w3.heap.size + 1) (by simp) 27 [.int .u64 1, .slice none 0 0])
 obtain ⟨W3, hW3⟩ := nameW hS6
 rw [hW3] at hS6 ⊢
 clear hW3
 obtain ⟨⟨cs0, cs1⟩, fs0, fs1⟩ := hS6.out.f2 1 w3.heap.size 27 (.int .u64 x1) (.slice p1 l1 q1) rfl
 obtain ⟨⟨cu0, cu1⟩, fu0, fu1⟩ := hS6.out.f2 0 (w3.heap.size + 1) 27 (.int .u64 1) (.slice none 0 0) rfl
 go_wp2_with fail
 clear cs0 cs1 fs0 fs1 cu0 cu1 fu0 fu1
 refine (HZ2.out _).mono ?_
 rintro e w5 ⟨rfl, hB⟩
 have hS7 := hid (hS6.out.call hB)
 clear hB
 clear hS6
 obtain ⟨⟨cs0, cs1⟩, fs0, fs1⟩ := hS7.out.f2 1 w3.heap.size 27 (.int .u64 x1) (.slice p1 l1 q1) rfl
 obtain ⟨⟨cu0, cu1⟩, fu0, fu1⟩ := hS7.out.f2 0 (w3.heap.size + 1) 27 (.int .u64 1) (.slice none 0 0) rfl
 go_wp2_with fail
 clear cs0 cs1 fs0 fs1 cu0 cu1 fu0 fu1
 have LM0 := hid (fun (W : World) (h : Below w5.heap.size w5 W) => ((hS7.out.call h).f2 1 w3.heap.size 27 (.int .u64 x1) (.slice p1 l1 q1) rfl).1)
 have LM1 := hid (fun (W : World) (h : Below w5.heap.size w5 W) => ((hS7.out.call h).f2 0 (w3.heap.size + 1) 27 (.int .u64 1) (.slice none 0 0) rfl).1)
 have LM2 := hid (fun (W : World) (h : Below w5.heap.size w5 W) => HE.out.below (hS7.out.call h).bel (Nat.le_refl _))
 refine wp_region_inv 10 [⟨[], [0]⟩, ⟨[0], [1]⟩, ⟨[1], [2]⟩, ⟨[1], [3]⟩, ⟨[1], [4]⟩, ⟨[1], [5]⟩, ⟨[], [6]⟩, ⟨[5, 6], [7]⟩, ⟨[], [8]⟩, ⟨[7, 8], [9]⟩]
  [oE (.bool false), oE (.bool false), oE undef, oE undef, oE undef, oE (.bool false), oE (.agg #[.int .u64 x1, .slice p1 l1 q1]), oE (.agg #[.bool false, .int .u64 x1, .slice p1 l1 q1]), oE (.agg #[.int .u64 1, .slice none 0 0]), oQ (R)]
  (fun _ W => Below w5.heap.size w5 W) (by kernel_rfl) (by kernel_rfl) ?hTW6 ?hZW6 ?hOW6 ?hEW6
 case hZW6 => exact (Below.refl _ _).drew
 case hTW6 =>
  simp only [List.forall_mem_cons, List.not_mem_nil, false_imp_iff, implies_true, and_true]
  exact ⟨bE, bE, bE, bE, bE, bE, bE, bE, bE, bQ⟩
 case hOW6 =>
  intro u
  simp only [List.take_succ_cons, List.take_zero, putAll]
  repeat' (first | with_reducible exact debts_nil | with_reducible refine debts_cons ?_ ?_)
  ·intro W hS hF K hK
   go_simp
   exact hK _ _ (.refl _ _) hS rfl
  ·intro W hS hF K hK
   have h0 : u 0 = .bool false := hF.1
   clear hF
   go_simp
   exact hK _ _ (.refl _ _) hS rfl
  ·intro W hS hF K hK
   have h1 : u 1 = .bool false := hF.1
   clear hF
   go_simp
   exact hK _ _ (.refl _ _) hS rfl
  ·intro W hS hF K hK
   have h1 : u 1 = .bool false := hF.1
   clear hF
   go_simp
   exact hK _ _ (.refl _ _) hS rfl
  ·intro W hS hF K hK
   have h1 : u 1 = .bool false := hF.1
   clear hF
   go_simp
   exact hK _ _ (.refl _ _) hS rfl
  ·intro W hS hF K hK
   have h1 : u 1 = .bool false := hF.1
   clear hF
   go_simp
   exact hK _ _ (.refl _ _) hS rfl
  ·intro W hS hF K hK
   have hcs := LM0.out W hS
   go_simp
   exact hK _ _ (.refl _ _) hS rfl
  ·intro W hS hF K hK
   have h5 : u 5 = .bool false := hF.1
   have h6 : u 6 = .agg #[.int .u64 x1, .slice p1 l1 q1] := hF.2.1
   clear hF
   go_simp
   exact hK _ _ (.refl _ _) hS rfl
  ·intro W hS hF K hK
   have hcu := LM1.out W hS
   go_simp
   exact hK _ _ (.refl _ _) hS rfl
  ·intro W hS hF K hK
   have h7 : u 7 = .agg #[.bool false, .int .u64 x1, .slice p1 l1 q1] := hF.1
   have h8 : u 8 = .agg #[.int .u64 1, .slice none 0 0] := hF.2.1
   have sH := hid (hS7.out.call hS)
   clear hF
   go_simp
   refine (HR.out _ _ _ _ _ (sH.out.get (f := .m (.int .u64 x1) (.slice p1 l1 q1) (n)) 0 rfl) (isMag_lit _ 1 (by decide)) (LM2.out W hS).tz).mono ?_
   rintro e wA ⟨v, rfl, hv, hBA⟩
   exact ⟨_, rfl, hK _ _ hBA (hS.trans (hBA.mono hS.size)) hv⟩
 case hEW6 =>
  intro u W6 hS hF
  have hS8 := hid (hS7.out.call hS)
  have hv0 : IsQ W6 (u 9) R := hF.2.2.2.2.2.2.2.2.2.1
  clear hF hS
  obtain ⟨t9, x9, p9, l9, q9, y9, r9, s9, u9, e9⟩ := hv0.open
  have hv9 : IsQ W6 (.agg #[.bool t9, .int .u64 x9, .slice p9 l9 q9, .int .u64 y9, .slice r9 s9 u9]) R := e9 ▸ hv0
  clear hv0
  have hS9 := hid (hS8.out.fq hv9)
  clear hS8 hv9
  obtain ⟨⟨cR0, cR1, cR2, cR3, cR4⟩, fR0, fR1, fR2, fR3, fR4⟩ := hS9.out.f5 2 w.heap.size 31 (.bool false) (.int .u64 0) (.slice none 0 0) (.int .u64 0) (.slice none 0 0) rfl
  simp only [List.take_succ_cons, List.take_zero, putAll, List.drop_succ_cons, List.drop_zero]
  have hS10 := hid (((((((hS9.out).store (b := ⟨w.heap.size, 31, z5⟩) 2 0 (.bool t9) rfl rfl).store (b := ⟨w.heap.size, 31, [.bool t9, .int .u64 0, .slice none 0 0, .int .u64 0, .slice none 0 0]⟩) 2 1 (.int .u64 x9) rfl rfl).store (b := ⟨w.heap.size, 31, [.bool t9, .int .u64 x9, .slice none 0 0, .int .u64 0, .slice none 0 0]⟩) 2 2 (.slice p9 l9 q9) rfl rfl).store (b := ⟨w.heap.size, 31, [.bool t9, .int .u64 x9, .slice p9 l9 q9, .int .u64 0, .slice none 0 0]⟩) 2 3 (.int .u64 y9) rfl rfl).store (b := ⟨w.heap.size, 31, [.bool t9, .int .u64 x9, .slice p9 l9 q9, .int .u64 y9, .slice none 0 0]⟩) 2 4 (.slice r9 s9 u9) rfl rfl).as [⟨w3.heap.size + 1, 27, [.int .u64 1, .slice none 0 0]⟩, ⟨w3.heap.size, 27, [.int .u64 x1, .slice p1 l1 q1]⟩, ⟨w.heap.size, 31, (c5 t9 x9 p9 l9 q9 y9 r9 s9 u9)⟩] rfl)
  go_wp2_with fail
  clear cR0 cR1 cR2 cR3 cR4 fR0 fR1 fR2 fR3 fR4
  obtain ⟨⟨zR0, zR1, zR2, zR3, zR4⟩, -⟩ := hS10.out.f5 2 w.heap.size 31 (.bool t9) (.int .u64 x9) (.slice p9 l9 q9) (.int .u64 y9) (.slice r9 s9 u9) rfl
  exact bodyPost_ret (v := .tuple #[.agg #[.bool t9, .int .u64 x9, .slice p9 l9 q9, .int .u64 y9, .slice r9 s9 u9], .int .i64 0]) (by simp [results, Tryz.results16, go_sem, zR0, zR1, zR2, zR3, zR4]) rfl ⟨_, rfl, (hS10.out.gq 0 rfl), hS10.out.bel⟩
end Go.Proofs.YtppjkikaaonbkaaGreatDoor
namespace Go.Proofs.YtppjkikaaonbkaaGreatDoor
open Go.RowKit Go.Sort
theorem dg_byte {i : Nat} (h : i < 10) : digB (UInt8.ofNat (48 + i)) = true ∧ (UInt8.ofNat (48 + i)).toNat = 48 + i := by
 have h1 : (UInt8.ofNat (48 + i)).toNat = 48 + i := by rw [UInt8.toNat_ofNat']; omega
 exact ⟨by unfold digB; rw [h1]; exact decide_eq_true (by omega), h1⟩
theorem dd_step {u : Nat} (h : ¬ u < 10) : Lib.decDigits u = Lib.decDigits (u / 10) ++ [UInt8.ofNat (48 + u % 10)] := by rw [Lib.decDigits, dif_neg h]
theorem dd_all (u : Nat) : (Lib.decDigits u).all digB = true ∧ dv (Lib.decDigits u) = u ∧ ∃ x r, Lib.decDigits u = x :: r ∧ (u ≠ 0 → x.toNat ≠ 48) := by
 induction u using Nat.strongRecOn with
 | ind u ih =>
  by_cases h : u < 10
  ·rw [Lib.decDigits_one h]
   have hb := dg_byte h
   generalize UInt8.ofNat (48 + u) = x at hb ⊢
   refine ⟨by simp [hb.1], by simp [dv, hb.2], x, [], rfl, fun h0 => by rw [hb.2]; omega⟩
  ·obtain ⟨h1, h2, x, r, h3, h4⟩ := ih (u / 10) (by omega)
   have hb := dg_byte (i := u % 10) (by omega)
   rw [dd_step h]
   generalize UInt8.ofNat (48 + u % 10) = y at hb ⊢
   refine ⟨by rw [List.all_append, h1]; simp [hb.1], by rw [dv_snoc, h2, hb.2]; omega, x, r ++ [y], by rw [h3]; rfl, fun _ => h4 (by omega)⟩
theorem dd_int (u : Nat) : intB (Lib.decDigits u) = true := by
 obtain ⟨h1, h2, x, r, h3, h4⟩ := dd_all u
 unfold intB
 rw [h1, h3]
 by_cases h0 : u = 0
 ·subst h0
  rw [Lib.decDigits_one (by decide)] at h3
  obtain ⟨rfl, rfl⟩ := List.cons.inj h3
  decide
 ·have : x ≠ 48 := fun h => h4 h0 (by rw [h]; rfl)
  simp [this]
theorem index_dig (c : UInt8) (hc : digB c = false) : ∀ (a b : List UInt8), a.all digB = true → Lib.index (a ++ c :: b) [c] = a.length
 | [], b, _ => by unfold Lib.index; simp
 | x :: a, b, h => by
  have h2 : digB x = true ∧ a.all digB = true := by simpa using h
  have hx : c ≠ x := by rintro rfl; rw [hc] at h2; exact absurd h2.1 (by decide)
  have ih := index_dig c hc a b h2.2
  rw [List.cons_append]
  unfold Lib.index
  rw [ih, if_neg (by simpa using hx), if_neg (by simp)]
  simp
theorem index_out (c : UInt8) (hc : digB c = false) : ∀ (a : List UInt8), a.all digB = true → Lib.index a [c] = -1
 | [], _ => rfl
 | x :: a, h => by
  have h2 : digB x = true ∧ a.all digB = true := by simpa using h
  have hx : c ≠ x := by rintro rfl; rw [hc] at h2; exact absurd h2.1 (by decide)
  unfold Lib.index
  rw [index_out c hc a h2.2, if_neg (by simpa using hx), if_pos (by decide)]
theorem cut_dig (c : UInt8) (hc : digB c = false) (a b : List UInt8) (h : a.all digB = true) : Lib.cut (a ++ c :: b) [c] = (a, b, true) := by
 unfold Lib.cut
 rw [index_dig c hc a b h, if_pos (by omega)]
 simp
theorem cut_out (c : UInt8) (hc : digB c = false) (a : List UInt8) (h : a.all digB = true) : Lib.cut a [c] = (a, [], false) := by
 unfold Lib.cut
 rw [index_out c hc a h, if_neg (by decide)]
theorem sign_neg (s : List UInt8) : Lib.hasPrefix (45 :: s) [45] = true ∧ Lib.trimPrefix (45 :: s) [45] = s := by
 unfold Lib.trimPrefix Lib.hasPrefix; simp
theorem sign_pos (u : Nat) (s : List UInt8) : Lib.hasPrefix (Lib.decDigits u ++ s) [45] = false ∧ Lib.trimPrefix (Lib.decDigits u ++ s) [45] = Lib.decDigits u ++ s := by
 obtain ⟨h1, h2, x, r, h3, h4⟩ := dd_all u
 have : digB x = true := by rw [h3] at h1; simpa using (show digB x = true ∧ _ by simpa using h1).1
 have hx : (45 : UInt8) ≠ x := by rintro rfl; exact absurd this (by decide)
 have hp : Lib.hasPrefix (Lib.decDigits u ++ s) [45] = false := by rw [h3]; exact Bool.eq_false_iff.2 fun h => hx (by unfold Lib.hasPrefix at h; simpa using h)
 exact ⟨hp, by unfold Lib.trimPrefix; rw [hp]; rfl⟩
theorem dd_len (u k : Nat) (h : u < B64 ^ k) : (Lib.decDigits u).length ≤ 20 * k + 1 := by rw [Lib.decDigits_length]; exact nDigits_pow u k h
theorem parse_text (r : Rat) (w : World) (h1 : r.num.natAbs < B64 ^ 20) (h2 : r.den < B64 ^ 20) (hE : Env w) : Calls Tryz.prog 16 #[.string ⟨(qText r).toArray⟩] w (RetQE w r 0) := by
 have l1 := dd_len _ _ h1
 have l2 := dd_len _ _ h2
 obtain ⟨a1, a2, _⟩ := dd_all r.num.natAbs
 obtain ⟨b1, b2, _⟩ := dd_all r.den
 have hden : dv (Lib.decDigits r.den) ≠ 0 := by rw [b2]; exact r.den_nz
 unfold qText
 by_cases hn : r.num < 0
 ·have hz : r = mkRat (zs (!(dv (Lib.decDigits r.num.natAbs) == 0)) (dv (Lib.decDigits r.num.natAbs))) r.den := by
   rw [a2, (beq_eq_false_iff_ne (a := r.num.natAbs) (b := 0)).2 (by omega)]
   have : zs (!false) r.num.natAbs = r.num := by unfold zs; simp; omega
   rw [this, Rat.mkRat_self]
  rw [if_pos hn]
  by_cases hd : r.den = 1
  ·rw [if_pos hd]
   have h := parse_int_true (45 :: Lib.decDigits r.num.natAbs) (Lib.decDigits r.num.natAbs) w (by simp; omega) (sign_neg _).2 (sign_neg _).1 (cut_out 47 (by decide) _ a1) (cut_out 46 (by decide) _ a1) (dd_int _) (by omega) hE
   rw [hd] at hz
   rw [← hz] at h
   simpa using h
  ·rw [if_neg hd]
   have h := parse_frac_true (45 :: (Lib.decDigits r.num.natAbs ++ 47 :: Lib.decDigits r.den)) _ _ _ w (by simp; omega) (sign_neg _).2 (sign_neg _).1 (cut_dig 47 (by decide) _ _ a1) (dd_int _) (dd_int _) hden (by simp; omega) (by omega) (by omega) hE
   rw [b2, ← hz] at h
   simpa using h
 ·have hz : r = mkRat (zs false (dv (Lib.decDigits r.num.natAbs))) r.den := by
   rw [a2]
   have : zs false r.num.natAbs = r.num := by unfold zs; simp; omega
   rw [this, Rat.mkRat_self]
  rw [if_neg hn]
  by_cases hd : r.den = 1
  ·rw [if_pos hd]
   have hs := sign_pos r.num.natAbs []
   rw [List.append_nil] at hs
   have h := parse_int_false (Lib.decDigits r.num.natAbs) (Lib.decDigits r.num.natAbs) w (by omega) hs.2 hs.1 (cut_out 47 (by decide) _ a1) (cut_out 46 (by decide) _ a1) (dd_int _) (by omega) hE
   rw [hd] at hz
   rw [← hz] at h
   simpa using h
  ·rw [if_neg hd]
   have hs := sign_pos r.num.natAbs (47 :: Lib.decDigits r.den)
   have h := parse_frac_false (Lib.decDigits r.num.natAbs ++ 47 :: Lib.decDigits r.den) _ _ _ w (by simp; omega) hs.2 hs.1 (cut_dig 47 (by decide) _ _ a1) (dd_int _) (dd_int _) hden (by simp; omega) (by omega) (by omega) hE
   rw [b2, ← hz] at h
   simpa using h
theorem dd_inj {u v : Nat} (h : Lib.decDigits u = Lib.decDigits v) : u = v := by rw [← (dd_all u).2.1, h, (dd_all v).2.1]
theorem qText_inj {r s : Rat} (h : qText r = qText s) : r = s := by
 have key : ∀ (u v : Nat) (a b : List UInt8), (a = [] ∨ ∃ n, a = 47 :: Lib.decDigits n) → (b = [] ∨ ∃ n, b = 47 :: Lib.decDigits n) → Lib.decDigits u ++ a = Lib.decDigits v ++ b → u = v ∧ a = b := by
  intro u v a b ha hb e
  have hu := (dd_all u).1
  have hv := (dd_all v).1
  rcases ha with rfl | ⟨n, rfl⟩ <;> rcases hb with rfl | ⟨m, rfl⟩
  ·rw [List.append_nil, List.append_nil] at e
   exact ⟨dd_inj e, rfl⟩
  ·have h1 := cut_out 47 (by decide) _ hu
   rw [List.append_nil] at e
   rw [e, cut_dig 47 (by decide) _ _ hv] at h1
   cases congrArg (·.2.2) h1
  ·have h1 := cut_out 47 (by decide) _ hv
   rw [List.append_nil] at e
   rw [← e, cut_dig 47 (by decide) _ _ hu] at h1
   cases congrArg (·.2.2) h1
  ·have h1 := cut_dig 47 (by decide) _ (Lib.decDigits n) hu
   rw [e, cut_dig 47 (by decide) _ _ hv] at h1
   have h2 := congrArg (·.1) h1
   have h3 := congrArg (·.2.1) h1
   simp only at h2 h3
   exact ⟨(dd_inj h2).symm, by rw [h3]⟩
 have tl : ∀ q : Rat, (if q.den = 1 then ([] : List UInt8) else 47 :: Lib.decDigits q.den) = [] ∨ ∃ n, (if q.den = 1 then ([] : List UInt8) else 47 :: Lib.decDigits q.den) = 47 :: Lib.decDigits n := by
  intro q; split
  ·exact .inl rfl
  ·exact .inr ⟨_, rfl⟩
 have te : ∀ p q : Rat, (if p.den = 1 then ([] : List UInt8) else 47 :: Lib.decDigits p.den) = (if q.den = 1 then [] else 47 :: Lib.decDigits q.den) → p.den = q.den := by
  intro p q e
  split at e <;> split at e
  ·omega
  ·cases e
  ·cases e
  ·exact dd_inj (List.cons.inj e).2
 have nohead : ∀ (u : Nat) (a b : List UInt8), Lib.decDigits u ++ a ≠ 45 :: b := by
  intro u a b e
  have := (sign_pos u a).1
  rw [e, (sign_neg b).1] at this
  cases this
 unfold qText at h
 rw [List.append_assoc, List.append_assoc] at h
 by_cases hr : r.num < 0 <;> by_cases hs : s.num < 0
 ·rw [if_pos hr, if_pos hs] at h
  obtain ⟨e1, e2⟩ := key _ _ _ _ (tl r) (tl s) (List.cons.inj h).2
  exact Rat.ext (by omega) (te _ _ e2)
 ·rw [if_pos hr, if_neg hs] at h
  exact absurd h.symm (nohead _ _ _)
 ·rw [if_neg hr, if_pos hs] at h
  exact absurd h (nohead _ _ _)
 ·rw [if_neg hr, if_neg hs] at h
  obtain ⟨e1, e2⟩ := key _ _ _ _ (tl r) (tl s) h
  exact Rat.ext (by omega) (te _ _ e2)
theorem text_cmp (r s : Rat) : (qText r == qText s) = (cmpQ r s == 0) := by
 rw [Bool.eq_iff_iff, beq_iff_eq, beq_iff_eq]
 constructor
 ·intro h
  rw [qText_inj h]
  unfold cmpQ
  rw [if_neg (by grind), if_pos rfl]
 ·intro h
  have : r = s := by
   unfold cmpQ at h
   split at h
   ·cases h
   ·split at h
    ·assumption
    ·cases h
  rw [this]
end Go.Proofs.YtppjkikaaonbkaaGreatDoor
namespace Go.Proofs.YtppjkikaaonbkaaGreatDoor
set_option maxRecDepth 100000
set_option maxHeartbeats 80000000
open Go.RowKit Go.Sort
attribute [local go_sem] takes takesUpon_value takesUpon_skip takesUpon_enter
theorem wpList_same {P : Program} {ops : Array Oper} {Q : Exit → Act → World → Prop} {r r' : List Oper} {a a' : Act} {W : World} (hr : r = r') (ha : a = a') (h : wpList P ops Q r' a' W) : wpList P ops Q r a W := by
 subst hr ha
 exact h
theorem texts_walk (n1 d1 n2 d2 : Int) (b1 b2 : Nat) (A B : Rat) (HB1 : Hid (∀ W, Tab W → Calls Tryz.prog 20 #[.agg #[.int .i64 n1, .int .i64 d1, .int .u8 (b1 : Int)]] W (RetB W A))) (HB2 : Hid (∀ W, Tab W → Calls Tryz.prog 20 #[.agg #[.int .i64 n2, .int .i64 d2, .int .u8 (b2 : Int)]] W (RetB W B)))
  (FA : Fits 4 A) (FB : Fits 4 B) (hN : NearOK) (w : World) (hE : Env w) :
  Calls Tryz.prog 11 #[.agg #[.int .i64 n1, .int .i64 d1, .int .u8 (b1 : Int)], .agg #[.int .i64 n2, .int .i64 d2, .int .u8 (b2 : Int)]] w (RetI w (.bool true)) := by
 have HE := hid hE
 have HN := hid hN
 have HF := hid (And.intro FA FB)
 have HP := hid (fun (W : World) (hE : Env W) => parse_text A W (Nat.lt_of_lt_of_le FA.1 (Nat.pow_le_pow_right (by decide) (by decide))) (Nat.lt_of_lt_of_le FA.2 (Nat.pow_le_pow_right (by decide) (by decide))) hE)
 have HTA := hid (fun (W : World) (v : Value) (h : IsQ W v A) (hT : Tab10 W) => Text_calls A v 4 W h (by decide) FA hT)
 have HTB := hid (fun (W : World) (v : Value) (h : IsQ W v B) (hT : Tab10 W) => Text_calls B v 4 W h (by decide) FB hT)
 have HJ := hid (show (qText A == qText B) = (cmpQ A B == 0) from text_cmp A B)
 obtain ⟨DA, hDA⟩ : ∃ l, qText A = l := ⟨_, rfl⟩
 obtain ⟨DB, hDB⟩ : ∃ l, qText B = l := ⟨_, rfl⟩
 rw [hDA] at HP HTA HJ
 rw [hDB] at HTB HJ
 clear FA FB hN hE hDA hDB
 go_enter Tryz.func11, Tryz.ntmps11
 go_wp2_with fail
 have hS0 := hid (((St.start w).alloc' (w.heap.size) (by simp) 46 [.int .i64 n1, .int .i64 d1, .int .u8 (b1 : Int)]).alloc' (w.heap.size + 1) (by simp) 46 [.int .i64 n2, .int .i64 d2, .int .u8 (b2 : Int)])
 obtain ⟨W0, hW0⟩ := nameW hS0
 rw [hW0] at hS0 ⊢
 clear hW0
 refine (HB1.out _ (HE.out.below hS0.out.bel (Nat.le_refl _)).tz).mono ?_
 rintro e w1 ⟨v1, v1', rfl, hv1, hr1, hB⟩
 have hS1 := hid (hS0.out.call hB)
 clear hB
 clear hS0
 obtain ⟨t1, x1, p1, l1, q1, y1, r1, s1, u1, rfl⟩ := hv1.open
 obtain ⟨t11, p11, l11, k11, r11, s11, u11, rfl⟩ := hr1.open
 clear hr1
 have hS2 := hid (hS1.out.fq hv1)
 clear hS1 hv1
 obtain ⟨ne1l, ne1, ne1'⟩ := hS2.out.ne 1 w.heap.size 46 [.int .i64 n1, .int .i64 d1, .int .u8 (b1 : Int)] rfl
 obtain ⟨ne2l, ne2, ne2'⟩ := hS2.out.ne 0 (w.heap.size + 1) 46 [.int .i64 n2, .int .i64 d2, .int .u8 (b2 : Int)] rfl
 obtain ⟨⟨cN20, cN21, cN22⟩, fN20, fN21, fN22⟩ := hS2.out.f3 0 (w.heap.size + 1) 46 (.int .i64 n2) (.int .i64 d2) (.int .u8 (b2 : Int)) rfl
 go_wp2_with fail
 clear cN20 cN21 cN22 fN20 fN21 fN22
 have hS3 := hid (((hS2.out).alloc' (w1.heap.size) (by simp) 31 (c5 t1 x1 p1 l1 q1 y1 r1 s1 u1)).alloc' (w1.heap.size + 1) (by simp) 40 [.bool t11, .slice p11 l11 k11, .bool false, .slice r11 s11 u11])
 obtain ⟨W1, hW1⟩ := nameW hS3
 rw [hW1] at hS3 ⊢
 clear hW1
 refine (HB2.out _ (HE.out.below hS3.out.bel (Nat.le_refl _)).tz).mono ?_
 rintro e w2 ⟨v2, v2', rfl, hv2, hr2, hB⟩
 have hS4 := hid (hS3.out.call hB)
 clear hB
 clear hS3
 obtain ⟨t2, x2, p2, l2, q2, y2, r2, s2, u2, rfl⟩ := hv2.open
 obtain ⟨t12, p12, l12, k12, r12, s12, u12, rfl⟩ := hr2.open
 clear hr2
 have hS5 := hid (hS4.out.fq hv2)
 clear hS4 hv2
 obtain ⟨ne3l, ne3, ne3'⟩ := hS5.out.ne 3 w.heap.size 46 [.int .i64 n1, .int .i64 d1, .int .u8 (b1 : Int)] rfl
 obtain ⟨ne4l, ne4, ne4'⟩ := hS5.out.ne 2 (w.heap.size + 1) 46 [.int .i64 n2, .int .i64 d2, .int .u8 (b2 : Int)] rfl
 obtain ⟨ne5l, ne5, ne5'⟩ := hS5.out.ne 1 w1.heap.size 31 (c5 t1 x1 p1 l1 q1 y1 r1 s1 u1) rfl
 obtain ⟨ne6l, ne6, ne6'⟩ := hS5.out.ne 0 (w1.heap.size + 1) 40 [.bool t11, .slice p11 l11 k11, .bool false, .slice r11 s11 u11] rfl
 obtain ⟨⟨cx10, cx11, cx12, cx13, cx14⟩, fx10, fx11, fx12, fx13, fx14⟩ := hS5.out.f5 1 w1.heap.size 31 (.bool t1) (.int .u64 x1) (.slice p1 l1 q1) (.int .u64 y1) (.slice r1 s1 u1) rfl
 go_wp2_with fail
 clear cx10 cx11 cx12 cx13 cx14 fx10 fx11 fx12 fx13 fx14
 have hS6 := hid (((hS5.out).alloc' (w2.heap.size) (by simp) 31 (c5 t2 x2 p2 l2 q2 y2 r2 s2 u2)).alloc' (w2.heap.size + 1) (by simp) 40 [.bool t12, .slice p12 l12 k12, .bool false, .slice r12 s12 u12])
 obtain ⟨W2, hW2⟩ := nameW hS6
 rw [hW2] at hS6 ⊢
 clear hW2
 refine (HTA.out _ _ (hS6.out.gq 1 rfl) (HE.out.below hS6.out.bel (Nat.le_refl _)).ten).mono ?_
 rintro e w3 ⟨rfl, hB⟩
 have hS7 := hid (hS6.out.call hB)
 clear hB
 clear hS6
 skip
 go_wp2_with fail
 refine (HP.out _ (HE.out.below hS7.out.bel (Nat.le_refl _))).mono ?_
 rintro e w4 ⟨v4, rfl, hv4, hB⟩
 have hS8 := hid (hS7.out.call hB)
 clear hB
 clear hS7
 obtain ⟨t4, x4, p4, l4, q4, y4, r4, s4, u4, rfl⟩ := hv4.open
 have hS9 := hid (hS8.out.fq hv4)
 clear hS8 hv4
 obtain ⟨ne7l, ne7, ne7'⟩ := hS9.out.ne 5 w.heap.size 46 [.int .i64 n1, .int .i64 d1, .int .u8 (b1 : Int)] rfl
 obtain ⟨ne8l, ne8, ne8'⟩ := hS9.out.ne 4 (w.heap.size + 1) 46 [.int .i64 n2, .int .i64 d2, .int .u8 (b2 : Int)] rfl
 obtain ⟨ne9l, ne9, ne9'⟩ := hS9.out.ne 3 w1.heap.size 31 (c5 t1 x1 p1 l1 q1 y1 r1 s1 u1) rfl
 obtain ⟨ne10l, ne10, ne10'⟩ := hS9.out.ne 2 (w1.heap.size + 1) 40 [.bool t11, .slice p11 l11 k11, .bool false, .slice r11 s11 u11] rfl
 obtain ⟨ne11l, ne11, ne11'⟩ := hS9.out.ne 1 w2.heap.size 31 (c5 t2 x2 p2 l2 q2 y2 r2 s2 u2) rfl
 obtain ⟨ne12l, ne12, ne12'⟩ := hS9.out.ne 0 (w2.heap.size + 1) 40 [.bool t12, .slice p12 l12 k12, .bool false, .slice r12 s12 u12] rfl
 go_wp2_with fail
 have hS10 := hid ((hS9.out).alloc' (w4.heap.size) (by simp) 31 (c5 t4 x4 p4 l4 q4 y4 r4 s4 u4))
 obtain ⟨W5, hW5⟩ := nameW hS10
 rw [hW5] at hS10 ⊢
 clear hW5
 obtain ⟨M, hM⟩ : ∃ M, cmpQ A B = M := ⟨_, rfl⟩
 have HC := hid (fun (W : World) (v1 v2 : Value) (i : IsQ W v1 A) (j : IsQ W v2 B) => hM ▸ Cmp_calls A B v1 v2 4 W i j (by decide) HF.out.1 HF.out.2)
 have HJ' := HJ.out
 rw [hM] at HJ'
 replace HJ := hid HJ'
 clear HJ' hM
 have LM0 := hid (fun (W : World) (h : Below W5.heap.size W5 W) => (hS10.out.call h).q5 4 2 w1.heap.size 31 t1 x1 p1 l1 q1 y1 r1 s1 u1 A rfl rfl)
 have LM1 := hid (fun (W : World) (h : Below W5.heap.size W5 W) => (hS10.out.call h).q5 0 0 w4.heap.size 31 t4 x4 p4 l4 q4 y4 r4 s4 u4 A rfl rfl)
 have LM2 := hid (fun (W : World) (h : Below W5.heap.size W5 W) => HE.out.below (hS10.out.call h).bel (Nat.le_refl _))
 have LM3 := hid (fun (W : World) (h : Below W5.heap.size W5 W) => (hS10.out.call h).q5 2 1 w2.heap.size 31 t2 x2 p2 l2 q2 y2 r2 s2 u2 B rfl rfl)
 refine wp_region_inv 23 [⟨[], [0]⟩, ⟨[0], [1]⟩, ⟨[1], [2]⟩, ⟨[2], [3]⟩, ⟨[2], [4]⟩, ⟨[3, 4, 2], [5]⟩, ⟨[2, 5], [6]⟩, ⟨[6, 5], [7]⟩, ⟨[7], [8]⟩, ⟨[7], [9]⟩, ⟨[8, 9, 7], [10]⟩, ⟨[10, 7], [11]⟩, ⟨[7], [12]⟩, ⟨[12, 7], [13]⟩, ⟨[7], [14]⟩, ⟨[14, 7], [15]⟩, ⟨[13, 15, 7], [16]⟩, ⟨[11, 16, 7], [17]⟩, ⟨[7, 17], [18]⟩, ⟨[18, 15], [19]⟩, ⟨[19], [20]⟩, ⟨[19, 20], [21]⟩, ⟨[21], [22]⟩]
  [oE (.int .i64 0), oE (.bool true), oE (.bool true), oQ A, oQ A, oE (.bool true), oE (.bool true), oE (.bool true), oQ A, oQ B, oE (.int .i64 M), oE (.bool (M == 0)), oQ A, oE (.string ⟨DA.toArray⟩), oQ B, oE (.string ⟨DB.toArray⟩), oE (.bool (M == 0)), oE (.bool true), oE (.bool true), oE (.bool true), oE (.bool true), oE (.bool true), oE (.bool true)]
  (fun _ W => Below W5.heap.size W5 W) (by kernel_rfl) (by kernel_rfl) ?hTWA ?hZWA ?hOWA ?hEWA
 case hZWA => exact (Below.refl _ _).drew
 case hTWA =>
  simp only [List.forall_mem_cons, List.not_mem_nil, false_imp_iff, implies_true, and_true]
  exact ⟨bE, bE, bE, bQ, bQ, bE, bE, bE, bQ, bQ, bE, bE, bQ, bE, bQ, bE, bE, bE, bE, bE, bE, bE, bE⟩
 case hOWA =>
  intro u
  simp only [List.take_succ_cons, List.take_zero, putAll]
  repeat' (first | with_reducible exact debts_nil | with_reducible refine debts_cons ?_ ?_)
  ·intro W hS hF K hK
   go_simp
   exact hK _ _ (.refl _ _) hS rfl
  ·intro W hS hF K hK
   have h0 : u 0 = .int .i64 0 := hF.1
   clear hF
   go_simp
   exact hK _ _ (.refl _ _) hS rfl
  ·intro W hS hF K hK
   have h1 : u 1 = .bool true := hF.1
   clear hF
   go_simp
   exact hK _ _ (.refl _ _) hS rfl
  ·intro W hS hF K hK
   have h2 : u 2 = .bool true := hF.1
   have hc := LM0.out W hS
   clear hF
   go_simp
   exact hK _ _ (.refl _ _) hS hc.2
  ·intro W hS hF K hK
   have h2 : u 2 = .bool true := hF.1
   have hc := LM1.out W hS
   clear hF
   go_simp
   exact hK _ _ (.refl _ _) hS hc.2
  ·intro W hS hF K hK
   have hq3 : IsQ W (u 3) A := hF.1
   have hq4 : IsQ W (u 4) A := hF.2.1
   have h2 : u 2 = .bool true := hF.2.2.1
   clear hF
   go_simp
   refine (same_calls A _ _ 4 _ hq3 hq4 (by decide) HF.out.1 (LM2.out W hS)).mono ?_
   rintro e wA ⟨rfl, hBA⟩
   exact ⟨_, rfl, hK _ _ hBA (hS.trans (hBA.mono hS.size)) rfl⟩
  ·intro W hS hF K hK
   have h2 : u 2 = .bool true := hF.1
   have h5 : u 5 = .bool true := hF.2.1
   clear hF
   go_simp
   exact hK _ _ (.refl _ _) hS rfl
  ·intro W hS hF K hK
   have h6 : u 6 = .bool true := hF.1
   have h5 : u 5 = .bool true := hF.2.1
   clear hF
   go_simp
   exact hK _ _ (.refl _ _) hS rfl
  ·intro W hS hF K hK
   have h7 : u 7 = .bool true := hF.1
   have hc := LM0.out W hS
   clear hF
   go_simp
   exact hK _ _ (.refl _ _) hS hc.2
  ·intro W hS hF K hK
   have h7 : u 7 = .bool true := hF.1
   have hc := LM3.out W hS
   clear hF
   go_simp
   exact hK _ _ (.refl _ _) hS hc.2
  ·intro W hS hF K hK
   have hq8 : IsQ W (u 8) A := hF.1
   have hq9 : IsQ W (u 9) B := hF.2.1
   have h7 : u 7 = .bool true := hF.2.2.1
   clear hF
   go_simp
   refine (HC.out _ _ _ hq8 hq9).mono ?_
   rintro e wA ⟨rfl, hBA⟩
   exact ⟨_, rfl, hK _ _ hBA (hS.trans (hBA.mono hS.size)) rfl⟩
  ·intro W hS hF K hK
   have h10 : u 10 = .int .i64 M := hF.1
   have h7 : u 7 = .bool true := hF.2.1
   clear hF
   go_simp
   exact hK _ _ (.refl _ _) hS rfl
  ·intro W hS hF K hK
   have h7 : u 7 = .bool true := hF.1
   have hc := LM0.out W hS
   clear hF
   go_simp
   exact hK _ _ (.refl _ _) hS hc.2
  ·intro W hS hF K hK
   have hq12 : IsQ W (u 12) A := hF.1
   have h7 : u 7 = .bool true := hF.2.1
   clear hF
   go_simp
   refine (HTA.out _ _ hq12 (LM2.out W hS).ten).mono ?_
   rintro e wA ⟨rfl, hBA⟩
   exact ⟨_, rfl, hK _ _ hBA (hS.trans (hBA.mono hS.size)) rfl⟩
  ·intro W hS hF K hK
   have h7 : u 7 = .bool true := hF.1
   have hc := LM3.out W hS
   clear hF
   go_simp
   exact hK _ _ (.refl _ _) hS hc.2
  ·intro W hS hF K hK
   have hq14 : IsQ W (u 14) B := hF.1
   have h7 : u 7 = .bool true := hF.2.1
   clear hF
   go_simp
   refine (HTB.out _ _ hq14 (LM2.out W hS).ten).mono ?_
   rintro e wA ⟨rfl, hBA⟩
   exact ⟨_, rfl, hK _ _ hBA (hS.trans (hBA.mono hS.size)) rfl⟩
  ·intro W hS hF K hK
   have h13 : u 13 = .string ⟨DA.toArray⟩ := hF.1
   have h15 : u 15 = .string ⟨DB.toArray⟩ := hF.2.1
   have h7 : u 7 = .bool true := hF.2.2.1
   clear hF
   go_simp
   rw [HJ.out]
   exact hK _ _ (.refl _ _) hS rfl
  ·intro W hS hF K hK
   have h11 : u 11 = .bool (M == 0) := hF.1
   have h16 : u 16 = .bool (M == 0) := hF.2.1
   have h7 : u 7 = .bool true := hF.2.2.1
   clear hF
   go_simp
   exact hK _ _ (.refl _ _) hS rfl
  ·intro W hS hF K hK
   have h7 : u 7 = .bool true := hF.1
   have h17 : u 17 = .bool true := hF.2.1
   clear hF
   go_simp
   exact hK _ _ (.refl _ _) hS rfl
  ·intro W hS hF K hK
   have h18 : u 18 = .bool true := hF.1
   have h15 : u 15 = .string ⟨DB.toArray⟩ := hF.2.1
   clear hF
   go_simp
   exact hK _ _ (.refl _ _) hS rfl
  ·intro W hS hF K hK
   have h19 : u 19 = .bool true := hF.1
   clear hF
   go_simp
   refine (awake_calls HN.out _ (LM2.out W hS)).mono ?_
   rintro e wA ⟨rfl, hBA⟩
   exact ⟨_, rfl, hK _ _ hBA (hS.trans (hBA.mono hS.size)) rfl⟩
  ·intro W hS hF K hK
   have h19 : u 19 = .bool true := hF.1
   have h20 : u 20 = .bool true := hF.2.1
   clear hF
   go_simp
   exact hK _ _ (.refl _ _) hS rfl
  ·intro W hS hF K hK
   have h21 : u 21 = .bool true := hF.1
   clear hF
   go_simp
   exact hK _ _ (.refl _ _) hS rfl
 case hEWA =>
  intro u WA hS hF
  have hS11 := hid (hS10.out.call hS)
  have h22 : u 22 = .bool true := hF.2.2.2.2.2.2.2.2.2.2.2.2.2.2.2.2.2.2.2.2.2.2.1
  clear hF hS
  refine wpList_same rfl (a' := { tmps := #[Value.agg #[Value.int IntKind.i64 n1, Value.int IntKind.i64 d1, Value.int IntKind.u8 ↑b1], Value.agg #[Value.int IntKind.i64 n2, Value.int IntKind.i64 d2, Value.int IntKind.u8 ↑b2], Value.pointer (some { block := w.heap.size, off := 0 }), Value.pointer (some { block := w.heap.size + 1, off := 0 }), u 22, Value.pointer (some { block := w1.heap.size, off := 0 }), Value.pointer (some { block := w1.heap.size + 1, off := 0 }), Value.pointer (some { block := w2.heap.size, off := 0 }), Value.pointer (some { block := w2.heap.size + 1, off := 0 }), Value.pointer (some { block := w4.heap.size, off := 0 }), Value.int IntKind.i64 0, Value.tuple #[Value.agg #[Value.bool t1, Value.int IntKind.u64 x1, Value.slice p1 l1 q1, Value.int IntKind.u64 y1, Value.slice r1 s1 u1], Value.agg #[Value.bool t11, Value.slice p11 l11 k11, Value.bool false, Value.slice r11 s11 u11]], Value.agg #[Value.int IntKind.i64 n1, Value.int IntKind.i64 d1, Value.int IntKind.u8 ↑b1], Value.tuple #[Value.agg #[Value.bool t1, Value.int IntKind.u64 x1, Value.slice p1 l1 q1, Value.int IntKind.u64 y1, Value.slice r1 s1 u1], Value.agg #[Value.bool t11, Value.slice p11 l11 k11, Value.bool false, Value.slice r11 s11 u11]], Value.agg #[Value.bool t1, Value.int IntKind.u64 x1, Value.slice p1 l1 q1, Value.int IntKind.u64 y1, Value.slice r1 s1 u1], Value.agg #[Value.bool t11, Value.slice p11 l11 k11, Value.bool false, Value.slice r11 s11 u11], Value.tuple #[Value.agg #[Value.bool t2, Value.int IntKind.u64 x2, Value.slice p2 l2 q2, Value.int IntKind.u64 y2, Value.slice r2 s2 u2], Value.agg #[Value.bool t12, Value.slice p12 l12 k12, Value.bool false, Value.slice r12 s12 u12]], Value.agg #[Value.int IntKind.i64 n2, Value.int IntKind.i64 d2, Value.int IntKind.u8 ↑b2], Value.tuple #[Value.agg #[Value.bool t2, Value.int IntKind.u64 x2, Value.slice p2 l2 q2, Value.int IntKind.u64 y2, Value.slice r2 s2 u2], Value.agg #[Value.bool t12, Value.slice p12 l12 k12, Value.bool false, Value.slice r12 s12 u12]], Value.agg #[Value.bool t2, Value.int IntKind.u64 x2, Value.slice p2 l2 q2, Value.int IntKind.u64 y2, Value.slice r2 s2 u2], Value.agg #[Value.bool t12, Value.slice p12 l12 k12, Value.bool false, Value.slice r12 s12 u12], Value.tuple #[Value.agg #[Value.bool t4, Value.int IntKind.u64 x4, Value.slice p4 l4 q4, Value.int IntKind.u64 y4, Value.slice r4 s4 u4], Value.int IntKind.i64 0], Value.agg #[Value.bool t1, Value.int IntKind.u64 x1, Value.slice p1 l1 q1, Value.int IntKind.u64 y1, Value.slice r1 s1 u1], Value.string { data := DA.toArray }, Value.tuple #[Value.agg #[Value.bool t4, Value.int IntKind.u64 x4, Value.slice p4 l4 q4, Value.int IntKind.u64 y4, Value.slice r4 s4 u4], Value.int IntKind.i64 0], Value.agg #[Value.bool t4, Value.int IntKind.u64 x4, Value.slice p4 l4 q4, Value.int IntKind.u64 y4, Value.slice r4 s4 u4], Value.int IntKind.i64 0, u 0, u 1, u 2, u 3, u 4, u 5, u 6, u 7, u 8, u 9, u 10, u 11, u 12, u 13, u 14, u 15, u 16, u 17, u 18, u 19, u 20, u 21], defers := [] }) (by kernel_rfl) ?_
  rw [h22]
  simp only [List.drop_succ_cons, List.drop_zero]
  go_wp2
  go_ret
  exact ⟨rfl, hS11.out.bel⟩
end Go.Proofs.YtppjkikaaonbkaaGreatDoor
