/- What the proof rests on, part 23: Magnitudes of digits. What Parse calls, and where the library's globals lie. From a row's condition to what the walks ask of the world; numbers as they are handed in. Regions that draw their order, with operations that store: each operation once, in whatever order. No program. Slots of a region's ow -/
import Derived.Test.YtppjkikaaonbkaaGreatDoorP22
import Derived.Test.YtppjkikaaonbkaaGreatDoorP11
import Derived.Test.YtppjkikaaonbkaaGreatDoorP12
import Derived.Test.YtppjkikaaonbkaaGreatDoorP02
import Derived.Test.YtppjkikaaonbkaaGreatDoorRows
import Derived.ProofKit
import Derived.Handy
import Derived.Lay
import Derived.SevenTiedAt
import Derived.Lib.SmallJoins
import Derived.Stop.LaidErr
import Derived.Shelf.Vars
import Derived.Test.YtppjkikaaonbkaaGreatDoorP21
namespace Go.Proofs.YtppjkikaaonbkaaGreatDoor
set_option maxRecDepth 100000
set_option maxHeartbeats 80000000
open Go.RowKit Go.Sort
attribute [local go_sem] takes takesUpon_value takesUpon_skip takesUpon_enter
def dv (l : List UInt8) : Nat := l.foldl (fun a x => a * 10 + (x.toNat - 48)) 0
theorem dv_snoc (l : List UInt8) (x : UInt8) : dv (l ++ [x]) = dv l * 10 + (x.toNat - 48) := by simp [dv]
theorem foldl_dv (r : List UInt8) : ∀ a : Nat, r.foldl (fun a x => a * 10 + (x.toNat - 48)) a = a * 10 ^ r.length + dv r := by
 unfold dv
 induction r with
 | nil => intro a; simp
 | cons x r ih =>
  intro a
  rw [List.foldl_cons, ih, List.foldl_cons, ih (0 * 10 + (x.toNat - 48)), List.length_cons, Nat.pow_succ]
  grind
theorem dv_append (l r : List UInt8) : dv (l ++ r) = dv l * 10 ^ r.length + dv r := by
 conv => lhs; unfold dv
 rw [List.foldl_append]
 exact foldl_dv r (dv l)
theorem dv_lt (l : List UInt8) (h : l.all digB = true) : dv l < 10 ^ l.length := by
 induction l with
 | nil => decide
 | cons x l ih =>
  simp only [List.all_cons, Bool.and_eq_true] at h
  have h1 := ih h.2
  have h2 := h.1
  simp only [digB, decide_eq_true_eq] at h2
  have h3 : dv (x :: l) = (x.toNat - 48) * 10 ^ l.length + dv l := by
   have := dv_append [x] l
   rw [List.singleton_append] at this
   rw [this]
   show (0 * 10 + (x.toNat - 48)) * _ + _ = _
   rw [Nat.zero_mul, Nat.zero_add]
  have h4 : (x.toNat - 48) * 10 ^ l.length ≤ 9 * 10 ^ l.length := Nat.mul_le_mul_right _ (by omega)
  rw [h3, List.length_cons, Nat.pow_succ]
  omega
theorem dv_take (r : List UInt8) (j : Nat) (hj : j < r.length) (h : r.all digB = true) : dv (r.take (j + 1)) = dv (r.take j) * 10 + (r[j].toNat - 48) ∧ 48 ≤ r[j].toNat ∧ r[j].toNat ≤ 57 ∧ dv (r.take j) < 10 ^ j := by
 rw [List.take_succ_eq_append_getElem hj, dv_snoc]
 have h1 := List.all_eq_true.1 h _ (List.getElem_mem hj)
 simp only [digB, decide_eq_true_eq] at h1
 refine ⟨rfl, h1.1, h1.2, ?_⟩
 have := dv_lt (r.take j) (by rw [List.all_eq_true]; intro y hy; exact List.all_eq_true.1 h y (List.mem_of_mem_take hy))
 rwa [List.length_take, Nat.min_eq_left (by omega)] at this
theorem ten_lt {m K : Nat} (h : m < K) : 10 ^ m < B64 ^ K :=
 Nat.lt_of_lt_of_le (Nat.pow_lt_pow_right (by decide) h) (Nat.pow_le_pow_left (by unfold B64; decide) K)
theorem all_take {r : List UInt8} (h : r.all digB = true) (n : Nat) : (r.take n).all digB = true := by
 rw [List.all_eq_true]; intro y hy; exact List.all_eq_true.1 h y (List.mem_of_mem_take hy)
theorem all_drop {r : List UInt8} (h : r.all digB = true) (n : Nat) : (r.drop n).all digB = true := by
 rw [List.all_eq_true]; intro y hy; exact List.all_eq_true.1 h y (List.mem_of_mem_drop hy)
theorem extract_drop (r : List UInt8) (j : Nat) : (⟨r.toArray⟩ : ByteArray).extract j r.length = ⟨(r.drop j).toArray⟩ := by
 apply ByteArray.ext
 rw [ByteArray.data_extract]
 simp [List.take_of_length_le]
def strLen : Value → Nat
 | .string s => s.size
 | _ => 0
theorem magOf_calls (l : List UInt8) (w : World) (hd : l.all digB = true) (hl : l.length ≤ 1000000) : Calls Tryz.prog 108 #[.string ⟨l.toArray⟩] w (RetM w (dv l)) := by
 have HD := hid hd
 clear hd
 go_enter Tryz.func108, Tryz.ntmps108
 go_wp2_with fail
 have hS0 := hid (((St.start w).alloc' (w.heap.size) (by simp) 27 [.int .u64 0, .slice none 0 0]).alloc' (w.heap.size + 1) (by simp) 27 [.int .u64 0, .slice none 0 0])
 obtain ⟨W0, hW0⟩ := nameW hS0
 rw [hW0] at hS0 ⊢
 clear hW0
 go_wp2_with fail
 go_loopw [0] (fun sv wr => ∃ (t r : List UInt8) (x1 : Int) (p1 : Option Addr) (l1 q1 : Nat), sv = .string ⟨r.toArray⟩ ∧ l = t ++ r ∧ St w [⟨w.heap.size + 1, 27, [.int .u64 x1, .slice p1 l1 q1]⟩, ⟨w.heap.size, 27, [.int .u64 0, .slice none 0 0]⟩] [.m (.int .u64 x1) (.slice p1 l1 q1) (dv t)] wr) (fun sv _ => strLen sv)
 case atStart => exact ⟨[], l, 0, none, 0, 0, rfl, rfl, hS0.out.fact (.m (.int .u64 0) (.slice none 0 0) (dv [])) (isMag_lit _ 0 (by decide))⟩
 case round =>
  clear hS0
  obtain ⟨t, r, x1, p1, l1, q1, rfl, htr, hSt⟩ := hrel
  have HS := hid hSt
  have HTR := hid htr
  clear hSt
  have hrl : r.length ≤ 1000000 := by rw [htr, List.length_append] at hl; omega
  have HDr := hid (show r.all digB = true by have := HD.out; rw [htr, List.all_append, Bool.and_eq_true] at this; exact this.2)
  clear htr
  by_cases hlt : 0 < r.length
  ·go_wp2_with fail
   obtain ⟨n, hn, hn19, hnr, hn1⟩ : ∃ n : Nat, min (19 : Int) (r.length : Int) = (n : Int) ∧ n ≤ 19 ∧ n ≤ r.length ∧ 1 ≤ n := ⟨min 19 r.length, by omega, by omega, by omega, by omega⟩
   rw [hn]
   clear hn
   go_loop [5, 14] (fun pv iv => ∃ j : Nat, iv = .int .i64 (j : Int) ∧ j ≤ n ∧ pv = .int .u64 ((dv (r.take j) : Nat) : Int)) (fun _ iv => n - (intOf iv).toNat)
   case atStart => exact ⟨0, rfl, Nat.zero_le _, rfl⟩
   case round =>
    obtain ⟨j, rfl, hj, rfl⟩ := hrel
    by_cases hlt2 : j < n
    ·have hjr : j < r.length := by omega
     have ht := dv_take r j hjr HDr.out
     obtain ⟨V, hV⟩ : ∃ V, dv (r.take j) = V := ⟨_, rfl⟩
     obtain ⟨x, hx⟩ : ∃ x, r[j] = x := ⟨_, rfl⟩
     have hp : (10 : Nat) ^ j ≤ 10 ^ 18 := Nat.pow_le_pow_right (by decide) (by omega)
     have hi2 : ((⟨r.toArray⟩ : ByteArray)[j]'(by simpa [ByteArray.size] using hjr)).toNat = x.toNat := by rw [← hx]; rfl
     rw [hV, hx] at ht
     obtain ⟨ht1, ht2, ht3, ht4⟩ := ht
     have hV18 : V < 1000000000000000000 := by omega
     have HT1 := hid ht1
     rw [hV]
     clear ht1 ht4 hp hx hV
     obtain ⟨X, hX⟩ : ∃ X, x.toNat = X := ⟨_, rfl⟩
     rw [hX] at hi2 ht2 ht3 HT1
     clear hX
     have hcj : (j : Int) < (n : Int) := by omega
     go_wp2_with fail
     exact ⟨⟨j + 1, by simp, by omega, by rw [HT1.out]; congr 1; omega⟩, by simp [intOf]; omega⟩
    ·obtain rfl : j = n := by omega
     have hcj : ¬ ((j : Int) < (j : Int)) := by omega
     obtain ⟨KK, hKK⟩ : ∃ KK, KK = 1000020 := ⟨_, rfl⟩
     have hKKb : KK ≤ 17179869184 := by omega
     have hjl : t.length + r.length ≤ 1000000 := by have := congrArg List.length HTR.out; rw [List.length_append] at this; omega
     have hb1 : dv t < 10 ^ t.length := dv_lt t (by have := HD.out; rw [HTR.out, List.all_append, Bool.and_eq_true] at this; exact this.1)
     have hb2 : dv (r.take j) < 10 ^ j := by have := dv_lt (r.take j) (all_take HDr.out j); rwa [List.length_take, Nat.min_eq_left hnr] at this
     have HK1 := hid (Nat.lt_trans hb1 (ten_lt (K := KK) (by omega)))
     have HK2 := hid (ten_lt (m := j) (K := KK) (by omega))
     have HK3 := hid (show dv t * 10 ^ j < B64 ^ KK by have h1 := ten_lt (m := t.length + j) (K := KK) (by omega); rw [Nat.pow_add] at h1; exact Nat.lt_of_le_of_lt (Nat.mul_le_mul_right _ (Nat.le_of_lt hb1)) h1)
     have HV := hid (show dv (r.take j) < B64 by have h1 : (10 : Nat) ^ j ≤ 10 ^ 19 := Nat.pow_le_pow_right (by decide) hn19; exact Nat.lt_of_lt_of_le (Nat.lt_of_lt_of_le hb2 h1) (by decide))
     have HTT := hid (show dv t * 10 ^ j + dv (r.take j) = dv (t ++ r.take j) by rw [dv_append, List.length_take, Nat.min_eq_left hnr])
     have HVK := hid (show dv (r.take j) < B64 ^ KK from Nat.lt_trans hb2 (ten_lt (by omega)))
     clear hb1 hb2 hKK
     obtain ⟨V, hV⟩ : ∃ V, dv (r.take j) = V := ⟨_, rfl⟩
     rw [hV] at HV HVK HTT ⊢
     clear hV
     go_wp2_with fail
     have LM0 := hid (fun (W : World) (h : Below wr.heap.size wr W) => ((HS.out.call h).f2 0 (w.heap.size + 1) 27 (.int .u64 x1) (.slice p1 l1 q1) rfl).1)
     refine wp_region_inv 7 [⟨[], [0]⟩, ⟨[], [1]⟩, ⟨[1], [2]⟩, ⟨[0, 2], [3]⟩, ⟨[], [4]⟩, ⟨[4], [5]⟩, ⟨[3, 5], [6]⟩]
      [oE (.agg #[.int .u64 x1, .slice p1 l1 q1]), oE (.int .i64 (j : Int)), one (MagV (10 ^ j)), one (MagV (dv t * 10 ^ j)), oE (.int .u64 (V : Int)), oE (.agg #[.int .u64 (V : Int), .slice none 0 0]), one (MagV (dv t * 10 ^ j + V))]
      (fun _ W => Below wr.heap.size wr W) (by kernel_rfl) (by kernel_rfl) ?hTW1 ?hZW1 ?hOW1 ?hEW1
     case hZW1 => exact (Below.refl _ _).drew
     case hTW1 =>
      simp only [List.forall_mem_cons, List.not_mem_nil, false_imp_iff, implies_true, and_true]
      exact ⟨bE, bE, one_below magV_below, one_below magV_below, bE, bE, one_below magV_below⟩
     case hOW1 =>
      intro u
      simp only [List.take_succ_cons, List.take_zero, putAll]
      repeat' (first | with_reducible exact debts_nil | with_reducible refine debts_cons ?_ ?_)
      ·intro W hS hF K hK
       have hcS := LM0.out W hS
       go_simp
       exact hK _ _ (.refl _ _) hS rfl
      ·intro W hS hF K hK
       go_simp
       exact hK _ _ (.refl _ _) hS rfl
      ·intro W hS hF K hK
       have h1 : u 1 = .int .i64 (j : Int) := hF.1
       clear hF
       go_simp
       refine (pow10_calls j KK _ HK2.out (by omega)).mono ?_
       rintro e wA ⟨c, d, rfl, hm, hBA⟩
       obtain ⟨xx, pp, ll, qq, rfl, rfl⟩ := hm.shape
       exact ⟨_, rfl, hK _ _ hBA (hS.trans (hBA.mono hS.size)) ⟨_, _, _, _, rfl, hm⟩⟩
      ·intro W hS hF K hK
       have h0 : u 0 = .agg #[.int .u64 x1, .slice p1 l1 q1] := hF.1
       obtain ⟨x2, p2, l2, q2, h2, m2⟩ : MagV (10 ^ j) (u 2) W := hF.2.1
       have sH := hid (HS.out.call hS)
       clear hF
       go_simp
       refine (mtimes_calls (dv t) (10 ^ j) KK _ _ _ _ _ (sH.out.get (f := .m (.int .u64 x1) (.slice p1 l1 q1) (dv t)) 0 rfl) m2 (by omega) HK1.out HK2.out).mono ?_
       rintro e wA ⟨c, d, rfl, hm, hBA⟩
       obtain ⟨xx, pp, ll, qq, rfl, rfl⟩ := hm.shape
       exact ⟨_, rfl, hK _ _ hBA (hS.trans (hBA.mono hS.size)) ⟨_, _, _, _, rfl, hm⟩⟩
      ·intro W hS hF K hK
       go_simp
       exact hK _ _ (.refl _ _) hS rfl
      ·intro W hS hF K hK
       have h4 : u 4 = .int .u64 (V : Int) := hF.1
       clear hF
       go_simp
       exact hK _ _ (.refl _ _) hS rfl
      ·intro W hS hF K hK
       obtain ⟨x3, p3, l3, q3, h3, m3⟩ : MagV (dv t * 10 ^ j) (u 3) W := hF.1
       have h5 : u 5 = .agg #[.int .u64 (V : Int), .slice none 0 0] := hF.2.1
       clear hF
       go_simp
       refine (mplus_calls (dv t * 10 ^ j) V KK _ _ _ _ _ m3 (isMag_lit _ V HV.out) (by omega) HK3.out HVK.out).mono ?_
       rintro e wA ⟨c, d, rfl, hm, hBA⟩
       obtain ⟨xx, pp, ll, qq, rfl, rfl⟩ := hm.shape
       exact ⟨_, rfl, hK _ _ hBA (hS.trans (hBA.mono hS.size)) ⟨_, _, _, _, rfl, hm⟩⟩
     case hEW1 =>
      intro u W1 hS hF
      have hS1 := hid (HS.out.call hS)
      obtain ⟨x6, p6, l6, q6, e6, m6⟩ : MagV (dv t * 10 ^ j + V) (u 6) W1 := hF.2.2.2.2.2.2.1
      clear hF hS
      rw [HTT.out] at m6
      have hS2 := hid (hS1.out.fact (.m (.int .u64 x6) (.slice p6 l6 q6) (dv (t ++ r.take j))) m6)
      clear hS1 m6
      obtain ⟨⟨cS0, cS1⟩, fS0, fS1⟩ := hS2.out.f2 0 (w.heap.size + 1) 27 (.int .u64 x1) (.slice p1 l1 q1) rfl
      simp only [List.take_succ_cons, List.take_zero, putAll, List.drop_succ_cons, List.drop_zero]
      go_wp2_with fail
      clear cS0 cS1 fS0 fS1
      have hJ := hid ((((hS2.out).store (b := ⟨w.heap.size + 1, 27, [.int .u64 x1, .slice p1 l1 q1]⟩) 0 0 (.int .u64 x6) rfl rfl).store (b := ⟨w.heap.size + 1, 27, [.int .u64 x6, .slice p1 l1 q1]⟩) 0 1 (.slice p6 l6 q6) rfl rfl).as [⟨w.heap.size + 1, 27, [.int .u64 x6, .slice p6 l6 q6]⟩, ⟨w.heap.size, 27, [.int .u64 0, .slice none 0 0]⟩] rfl)
      rw [extract_drop]
      exact ⟨⟨t ++ r.take j, r.drop j, x6, p6, l6, q6, rfl, by rw [List.append_assoc, List.take_append_drop]; exact HTR.out, ⟨hJ.out.bel, hJ.out.box, (hJ.out.get (f := .m (.int .u64 x6) (.slice p6 l6 q6) (dv (t ++ r.take j))) 0 rfl), trivial⟩⟩, by simp only [strLen, ByteArray.size, List.size_toArray, List.length_drop]; omega⟩
  ·have h0 : r = [] := List.length_eq_zero_iff.1 (by omega)
   subst h0
   have hlt0 : t = l := by have := HTR.out; rw [List.append_nil] at this; exact this.symm
   rw [hlt0] at HS
   clear hlt0 HTR HDr hlt hrl
   obtain ⟨⟨cS0, cS1⟩, fS0, fS1⟩ := HS.out.f2 0 (w.heap.size + 1) 27 (.int .u64 x1) (.slice p1 l1 q1) rfl
   obtain ⟨⟨cR0, cR1⟩, fR0, fR1⟩ := HS.out.f2 1 w.heap.size 27 (.int .u64 0) (.slice none 0 0) rfl
   have hS1 := hid ((((HS.out).store (b := ⟨w.heap.size, 27, [.int .u64 0, .slice none 0 0]⟩) 1 0 (.int .u64 x1) rfl rfl).store (b := ⟨w.heap.size, 27, [.int .u64 x1, .slice none 0 0]⟩) 1 1 (.slice p1 l1 q1) rfl rfl).as [⟨w.heap.size + 1, 27, [.int .u64 x1, .slice p1 l1 q1]⟩, ⟨w.heap.size, 27, [.int .u64 x1, .slice p1 l1 q1]⟩] rfl)
   go_wp2_with fail
   clear cS0 cS1 fS0 fS1 cR0 cR1 fR0 fR1
   obtain ⟨⟨zR0, zR1⟩, -⟩ := hS1.out.f2 1 w.heap.size 27 (.int .u64 x1) (.slice p1 l1 q1) rfl
   exact bodyPost_ret (v := .agg #[.int .u64 x1, .slice p1 l1 q1]) (by simp [results, Tryz.results108, go_sem, zR0, zR1]) rfl ⟨_, _, rfl, (hS1.out.get (f := .m (.int .u64 x1) (.slice p1 l1 q1) (dv l)) 0 rfl), hS1.out.bel⟩
end Go.Proofs.YtppjkikaaonbkaaGreatDoor
namespace Go.Proofs.YtppjkikaaonbkaaGreatDoor
open Go.RowKit Go.Sort
def TabM (w : World) : Prop := 0 < w.heap.size ∧ ∃ m : Int, w.cell? ⟨0, 0, none⟩ = some (.int .i64 m)
theorem TabM.below {B : Nat} {w w' : World} (h : TabM w) (hb : Below B w w') (hB : w.heap.size ≤ B) : TabM w' := by
 obtain ⟨h1, m, h2⟩ := h
 exact ⟨Nat.lt_of_lt_of_le h1 hb.size, m, (hb.cell (p := ⟨0, 0, none⟩) (Nat.lt_of_lt_of_le h1 hB)).trans h2⟩
structure Env (w : World) : Prop where
 tz : Tab w
 ten : Tab10 w
 max : TabM w
theorem Env.below {B : Nat} {w w' : World} (h : Env w) (hb : Below B w w') (hB : w.heap.size ≤ B) : Env w' := ⟨h.tz.below hb hB, h.ten.below hb hB, h.max.below hb hB⟩
theorem cutp_calls (l : List UInt8) (w : World) : Calls Tryz.prog 104 #[.string ⟨l.toArray⟩, .string ⟨#[45]⟩] w
  fun e w' => e = .returned (.tuple #[.string ⟨(Lib.trimPrefix l [45]).toArray⟩, .bool (Lib.hasPrefix l [45])]) ∧ Below w.heap.size w w' := by
 refine (Tryz.strings_CutPrefix ⟨l.toArray⟩ ⟨#[45]⟩ w).mono ?_
 rintro e w' ⟨rfl, rfl⟩
 exact ⟨by simp, Below.refl _ _⟩
theorem cut_calls (l : List UInt8) (c : UInt8) (w : World) (hl : l.length ≤ 1000000) (hM : TabM w) : Calls Tryz.prog 105 #[.string ⟨l.toArray⟩, .string ⟨#[c]⟩] w
  fun e w' => e = .returned (.tuple #[.string ⟨(Lib.cut l [c]).1.toArray⟩, .string ⟨(Lib.cut l [c]).2.1.toArray⟩, .bool (Lib.cut l [c]).2.2]) ∧ Below w.heap.size w w' := by
 obtain ⟨-, m, hm⟩ := hM
 refine (Tryz.strings_Cut ⟨l.toArray⟩ ⟨#[c]⟩ m w (by simp [ByteArray.size]; omega) hm).mono ?_
 rintro e w' ⟨rfl, n, rfl⟩
 exact ⟨by simp, below_drewN _ _⟩
end Go.Proofs.YtppjkikaaonbkaaGreatDoor
namespace Go.Proofs.YtppjkikaaonbkaaGreatDoor
set_option maxRecDepth 100000
set_option maxHeartbeats 80000000
open Go.ChangeShapes Go.WideShapes Go.ChangeAt Go.RowKit Go.Joins
def laidT : List (String × DataW Unit) := [("math/bits.deBruijn32tab", Rows.laid_math_bits_deBruijn32tab), ("math/bits.deBruijn64tab", Rows.laid_math_bits_deBruijn64tab), ("internal/strconv.uint64pow10", Rows.laid_internal_strconv_uint64pow10)]
theorem ownK : ownKnob Tryz.prog.godebug = none := by kernel_rfl
theorem cell_lt {W : World} {b o : Nat} {v : Value} (h : W.cell? ⟨b, o, none⟩ = some v) : b < W.heap.size := by
 rcases Nat.lt_or_ge b W.heap.size with hlt | hge
 ·exact hlt
 ·unfold World.cell? at h; simp only [Array.getElem?_eq_none hge] at h; cases h
theorem env_of {W : World} (hL : laidMetH Tryz.prog laidT W) (hS : W.ShapedOpen Tryz.prog) : Env W := by
 rw [MakeChecks.laidMetH_plain _ _ _ (by kernel_rfl)] at hL
 have t64 : Lib.TabIs Tryz.prog W "math/bits.deBruijn64tab" .u8 (Lib.deBruijn64tab.map fun (n : Nat) => (n : Int)) :=
  Lib.tabIs_of_head (g := 1) (t := 257) (e := 5) (n := 64) (by kernel_rfl) (by kernel_rfl) Tryz.underlying257 Tryz.underlying5 (by kernel_rfl) (by kernel_rfl) (show laidMet Tryz.prog ((_, Lib.tabData .u8 _) :: _) W from Go.laidMet.tail hL)
 have t10 : Lib.TabIs Tryz.prog W "internal/strconv.uint64pow10" .u64 Lib.pow10Tab :=
  Lib.tabIs_of_head (g := 4) (t := 277) (e := 23) (n := 20) (by kernel_rfl) (by kernel_rfl) Tryz.underlying277 Tryz.underlying23 (by kernel_rfl) (by kernel_rfl) (show laidMet Tryz.prog ((_, Lib.tabData .u64 _) :: _) W from Go.laidMet.tail (Go.laidMet.tail hL))
 have c64 : TabAt 1 Lib.deBruijn64tab W := fun j hj => by
  have := t64.cell (g := 1) (by kernel_rfl) j (by simpa using hj)
  rw [this]
  simp [List.getD, hj]
 have c10 := t10.cell (g := 4) (by kernel_rfl) 0 (by decide)
 obtain ⟨m, hm⟩ := cell_of_shapedOpen_int (g := 0) (t := 3) (zero := #[.int .i64 0]) (k := .i64) hS (of_decide_eq_true (by kernel_rfl)) (by kernel_rfl) rfl (by kernel_rfl) (by kernel_rfl) Tryz.underlying3
 exact ⟨⟨cell_lt (c64 0 (by decide)), c64⟩, ⟨cell_lt c10, t10⟩, ⟨cell_lt hm, m, hm⟩⟩
section
variable {H : Type} {enc : TypeId × Value → H}
theorem handed_shaped {C : Checked} {os : Os} {f : FuncId} {fn : Func} {s : ChangeSpec} {X : World → Prop} (hX : ∀ w w' : World, w.heap = w'.heap → X w → X w')
  (own : ownKnob C.prog.godebug = none) (started : os.Started) (noInit : C.prog.inits.idxOf? f = none) (hfn : C.prog.funcs[f]? = some fn)
  (witness : ∃ (w : World) (tape : Tape) (i : Input), w.os = os ∧ (w.forCall tape i).Shaped C.prog ∧ i.vars = [] ∧ Input.okWide C.prog (w.forCall tape i) .any w.heap.size f i ∧
   ((s.pre enc C.prog fn [] false (w.forCall tape i).memory i.args ∧ X (w.forCall tape i).memory) ∧ sizedMet enc C.prog fn (OpenSpec.ofChange s) false (w.forCall tape i).memory i.args) ∧ ({} : Assume).holds C.prog (lone (Frame.enter C.prog f i.args .normal) [] (w.forCall tape i)))
  (contract : ∀ (W : World) (base : Nat) (args : Array Value) (ds gs : List (DataW H)) (before : List MemPlace),
   (∀ (j : Nat) t v, fn.params[j]? = some t → args[j]? = some v → Value.okWide C.prog W .any base t v) →
   DataW.Whole enc C.prog fn.params.toList s.vars false W args.toList ds gs before → W.ShapedOpen C.prog → X W →
   Calls C.prog f args W fun e W' => ∃ v, e = .returned v ∧ s.post enc C.prog fn false true false false W args v W') :
  ReturnsInHanded {} C os f .any (fun w args => (s.pre enc C.prog fn [] false w args ∧ X w) ∧ sizedMet enc C.prog fn (OpenSpec.ofChange s) false w args) (s.post enc C.prog fn false true false false) := by
 refine returnsInHanded_of_calls own started noInit witness ?_
 intro w tape i _ hsh _ hok hpre _
 obtain ⟨_, _, _, fn', hfn', _, _, _, _, hval⟩ := hok
 have e : fn' = fn := Option.some.inj (hfn'.symm.trans hfn)
 subst e
 obtain ⟨⟨⟨ds, gs, before, hw, hc⟩, hx⟩, hz⟩ := hpre
 have hw' := DataW.Whole.of_heap (w' := w.forCall tape i) (by rfl) hw
 refine (contract (w.forCall tape i) w.heap.size i.args ds gs before hval hw' hsh (hX _ _ (by rfl) hx)).mono fun e W' ⟨v, he, hp⟩ => ?_
 subst he
 exact ChangeSpec.post_blind hp
theorem i64_bounds {n : Int} (h : (Lit.int .i64 n).wf = true) : -9223372036854775808 ≤ n ∧ n ≤ 9223372036854775807 := by simpa [Lit.wf, IntKind.min, IntKind.max, IntKind.signed, IntKind.bits] using h
theorem u8_bounds {n : Int} (h : (Lit.int .u8 n).wf = true) : 0 ≤ n ∧ n ≤ 255 := by simpa [Lit.wf, IntKind.min, IntKind.max, IntKind.signed, IntKind.bits] using h
structure NumIn (n d : Int) (b : Nat) : Prop where
 wn : (Lit.int .i64 n).wf = true
 wd : (Lit.int .i64 d).wf = true
 wb : (Lit.int .u8 (b : Int)).wf = true
theorem NumIn.n1 {n d : Int} {b : Nat} (h : NumIn n d b) : -9223372036854775808 ≤ n := (i64_bounds h.wn).1
theorem NumIn.n2 {n d : Int} {b : Nat} (h : NumIn n d b) : n ≤ 9223372036854775807 := (i64_bounds h.wn).2
theorem NumIn.d1 {n d : Int} {b : Nat} (h : NumIn n d b) : -9223372036854775808 ≤ d := (i64_bounds h.wd).1
theorem NumIn.d2 {n d : Int} {b : Nat} (h : NumIn n d b) : d ≤ 9223372036854775807 := (i64_bounds h.wd).2
theorem NumIn.b1 {n d : Int} {b : Nat} (h : NumIn n d b) : b < 256 := by have := (u8_bounds h.wb).2; omega
theorem numCells : Tryz.prog.cellsOf 46 = 3 := by kernel_rfl
theorem open_num {W : World} {base : Nat} {v : Value} {x : DataW H} {p : List MemPlace} (hv : Value.okWide Tryz.prog W .any base 46 v) (h : DataW.Trod enc Tryz.prog W 0 (fun _ => true) true 46 v x p) :
  ∃ (n d : Int) (b : Nat), v = .agg #[.int .i64 n, .int .i64 d, .int .u8 (b : Int)] ∧ x = .agg [.lit (.int .i64 n), .lit (.int .i64 d), .lit (.int .u8 (b : Int))] ∧ p = [] ∧ NumIn n d b := by
 obtain ⟨c0, c1, c2, y0, y1, y2, m, rfl, rfl, rfl, hy0, hy1, hy2⟩ := open_agg3 Tryz.underlying46 (by kernel_rfl) numCells hv h
 obtain ⟨n, e0, rfl, wn⟩ := DataW.trod_int Tryz.underlying2 hy0
 obtain ⟨d, e1, rfl, wd⟩ := DataW.trod_int Tryz.underlying2 hy1
 obtain ⟨b, e2, rfl, wb⟩ := DataW.trod_int Tryz.underlying5 hy2
 simp at e0 e1 e2
 subst e0 e1 e2
 have := u8_bounds wb
 obtain ⟨k, rfl⟩ : ∃ k : Nat, b = (k : Int) := ⟨b.toNat, by omega⟩
 exact ⟨n, d, k, rfl, rfl, rfl, wn, wd, wb⟩
theorem shut_num {W : World} {base : Nat} {sp : Nat → Bool} {held : Bool} {n d : Int} {b : Nat} (h : NumIn n d b) : DataW.Trod enc Tryz.prog W base sp held 46 (.agg #[.int .i64 n, .int .i64 d, .int .u8 (b : Int)]) (.agg [.lit (.int .i64 n), .lit (.int .i64 d), .lit (.int .u8 (b : Int))]) [] := by
 have g0 : ∃ m, DataW.trod enc Tryz.prog W base sp held m 2 [.int .i64 n] = some (.lit (.int .i64 n), []) := ⟨1, by simp [DataW.trod, Tryz.underlying2, h.wn]⟩
 have g1 : ∃ m, DataW.trod enc Tryz.prog W base sp held m 2 [.int .i64 d] = some (.lit (.int .i64 d), []) := ⟨1, by simp [DataW.trod, Tryz.underlying2, h.wd]⟩
 have g2 : ∃ m, DataW.trod enc Tryz.prog W base sp held m 5 [.int .u8 (b : Int)] = some (.lit (.int .u8 (b : Int)), []) := ⟨1, by simp [DataW.trod, Tryz.underlying5, h.wb]⟩
 simpa using shut_agg3 (enc := enc) (w := W) (base := base) (spare := sp) (held := held) Tryz.underlying46 (by kernel_rfl) numCells g0 g1 g2
end
end Go.Proofs.YtppjkikaaonbkaaGreatDoor
namespace Go.Proofs.YtppjkikaaonbkaaGreatDoor.Kp
open Go.RowKit
variable {P : Program} {ops : Array Oper}
def Kept (sp : List Spec) (gs : List (List Value → World → Prop)) (u : Nat → Value) (i : Nat) (W W' : World) : Prop :=
 Below W.heap.size W W' ∨ ∀ k, k ≠ i → factOf sp gs k u W → factOf sp gs k u W'
def owes (sp : List Spec) (gs : List (List Value → World → Prop)) (S : (Nat → Value) → World → Prop) (s : Spec) (g : List Value → World → Prop) (u : Nat → Value) (i : Nat) (W : World) (v : Value) (W' : World) : Prop :=
 Kept sp gs u i W W' ∧ S (upd u i v) W' ∧ g (s.supp.map (upd u i v)) W'
def debt (P : Program) (ops : Array Oper) (S : (Nat → Value) → World → Prop) (sp : List Spec) (gs : List (List Value → World → Prop)) (u : Nat → Value) (a : Act) (i : Nat) (o : Oper) (s : Spec) (g : List Value → World → Prop) : Prop :=
 ∀ W, S u W → factsOf sp gs u W s.deps → if Region.wanted o (yielded ops a.tmps) then takes P o a W (owes sp gs S s g u i W) else owes sp gs S s g u i W undef W
def debts (P : Program) (ops : Array Oper) (S : (Nat → Value) → World → Prop) (sp0 : List Spec) (gs0 : List (List Value → World → Prop)) (u : Nat → Value) (a : Act) : Nat → List Oper → List Spec → List (List Value → World → Prop) → Prop
 | i, o :: l, s :: sp, g :: gs => debt P ops S sp0 gs0 u a i o s g ∧ debts P ops S sp0 gs0 u a (i + 1) l sp gs
 | _, [], _, _ => True
 | _, _, _, _ => False
theorem debts_cons {S : (Nat → Value) → World → Prop} {sp0 : List Spec} {gs0 : List (List Value → World → Prop)} {u : Nat → Value} {a : Act} {i : Nat} {o : Oper} {l : List Oper} {s : Spec} {sp : List Spec} {g : List Value → World → Prop} {gs : List (List Value → World → Prop)}
  (h : ∀ W, S u W → factsOf sp0 gs0 u W s.deps → ∀ K : Value → World → Prop, (∀ v W', Kept sp0 gs0 u i W W' → S (upd u i v) W' → g (s.supp.map (upd u i v)) W' → K v W') → if Region.wanted o (yielded ops a.tmps) then takes P o a W K else K undef W)
  (hr : debts P ops S sp0 gs0 u a (i + 1) l sp gs) : debts P ops S sp0 gs0 u a i (o :: l) (s :: sp) (g :: gs) :=
 ⟨fun W hS hF => h W hS hF _ (fun _ _ h1 h2 h3 => ⟨h1, h2, h3⟩), hr⟩
theorem debts_nil {S : (Nat → Value) → World → Prop} {sp0 : List Spec} {gs0 : List (List Value → World → Prop)} {u : Nat → Value} {a : Act} {i : Nat} {sp : List Spec} {gs : List (List Value → World → Prop)} : debts P ops S sp0 gs0 u a i [] sp gs := by
 cases sp <;> cases gs <;> trivial
theorem debts_get {S : (Nat → Value) → World → Prop} {sp0 : List Spec} {gs0 : List (List Value → World → Prop)} {u : Nat → Value} {a : Act} : ∀ {l : List Oper} {sp : List Spec} {gs : List (List Value → World → Prop)} {k : Nat} (i : Nat) {o : Oper},
  debts P ops S sp0 gs0 u a k l sp gs → l[i]? = some o → ∃ s g, sp[i]? = some s ∧ gs[i]? = some g ∧ debt P ops S sp0 gs0 u a (k + i) o s g
 | [], _, _, _, _, _, _, h => by simp at h
 | x :: l, [], _, _, _, _, h, _ => by simp [debts] at h
 | x :: l, s :: sp, [], _, _, _, h, _ => by simp [debts] at h
 | x :: l, s :: sp, g :: gs, k, 0, o, h, hi => by
  simp only [List.getElem?_cons_zero, Option.some.injEq] at hi
  subst hi
  exact ⟨s, g, rfl, rfl, h.1⟩
 | x :: l, s :: sp, g :: gs, k, i + 1, o, h, hi => by
  simp only [List.getElem?_cons_succ] at hi ⊢
  have := debts_get i h.2 hi
  rwa [show k + 1 + i = k + (i + 1) by omega] at this
section main
variable {l : List Oper} {n : Nat} {sp : List Spec} {gs : List (List Value → World → Prop)} {S : (Nat → Value) → World → Prop}
theorem inv_any {Q : Exit → Act → World → Prop} {a0 : Act} (hB : invB l n sp = true) (hT : ∀ g ∈ gs, ∀ vs W W', Below W.heap.size W W' → g vs W → g vs W')
  (hO : ∀ u, debts P l.toArray S sp gs u (putAll u 0 (l.take n) a0) 0 (l.take n) sp gs)
  (hE : ∀ u W, S u W → (∀ k, k < n → factOf sp gs k u W) → wpList P l.toArray Q (l.drop n) (putAll u 0 (l.take n) a0) W) :
  ∀ (f : Nat) (listed : Array Bool) (u : Nat → Value) (W : World), HeadInv .any l.toArray n listed → S u W →
   (∀ k, k < n → listed.getD k true = true → factOf sp gs k u W) → left listed n = f →
   wpAny P .any l.toArray Q (f + (l.length - n)) listed (putAll u 0 (l.take n) a0) W := by
 simp only [invB, Bool.and_eq_true, decide_eq_true_eq] at hB
 obtain ⟨⟨⟨⟨⟨hn, hsp⟩, hd⟩, hops⟩, htail⟩, hseq⟩ := hB
 have hat : ∀ i, i < n → ∃ o s, l[i]? = some o ∧ sp[i]? = some s ∧ (∀ e ∈ o.after, Region.binds .any e = true → e.on < i) ∧ (∀ k ∈ s.deps, k < n ∧ waits o k = true) ∧
   (∀ t ∈ s.supp, t = i ∨ waits o t = true) := fun i hi => by
  have h1 := List.all_eq_true.1 hops i (List.mem_range.2 hi)
  split at h1
  ·rename_i o s ho hs
   simp only [Bool.and_eq_true, List.all_eq_true, decide_eq_true_eq, Bool.or_eq_true] at h1
   refine ⟨o, s, ho, hs, fun e he hb => ?_, fun k hk => h1.1.2 k hk, fun t ht => h1.2 t ht⟩
   rcases h1.1.1 e (by simpa using he) with h2 | h2
   ·simp [hb] at h2
   ·exact h2
  ·cases h1
 intro f
 induction f with
 | zero =>
  intro listed u W inv hS hF hl
  have hall := left_zero hl
  have hcan : listed = Array.replicate n true ++ Array.replicate (l.length - n) false := by
   apply Array.ext
   ·rw [inv.size]; simp; omega
   ·intro i h1 h2
    rcases Nat.lt_or_ge i n with h | h
    ·have := hall i h
     rw [Array.getElem_append_left (by simpa using h)]
     simpa [h1] using this
    ·have := inv.tail i h (by have := inv.size; omega)
     rw [Array.getElem_append_right (by simpa using h)]
     simpa [h1] using this
  rw [Nat.zero_add, ← List.length_drop]
  refine wpAny_of_seq (l.drop n) n listed _ W (fun j => by simp) ?_ (hE u W hS fun k hk => hF k hk (hall k hk))
  rw [hcan, List.length_drop]
  exact hseq
 | succ f ih =>
  intro listed u W inv hS hF hl
  obtain ⟨i0, hi0, hu0, hm0⟩ := left_pos (listed := listed) (n := n) (by omega)
  have hready0 : i0 ∈ Region.ready .any l.toArray listed := by
   obtain ⟨o, s, ho, _, hlex, _⟩ := hat i0 hi0
   refine mem_ready.2 ⟨hu0, o, by simpa using ho, fun e he hb => ?_⟩
   have h1 := hm0 e.on (hlex e he hb)
   have hlt : e.on < listed.size := by rw [inv.size]; have := hlex e he hb; simp; omega
   simpa [hlt] using h1
  have hlow : ∀ i ∈ Region.ready .any l.toArray listed, i < n := fun i hi => by
   rcases Nat.lt_or_ge i n with h | h
   ·exact h
   ·simp only [Bool.or_eq_true, decide_eq_true_eq, Bool.and_eq_true] at htail
    rcases htail with h2 | h2
    ·obtain ⟨_, o, ho, _⟩ := mem_ready.1 hi
     have := (Array.getElem?_eq_some_iff.1 ho).1
     simp at this
     omega
    ·have hnn : n < l.toArray.size := by
      obtain ⟨_, o, ho, _⟩ := mem_ready.1 hi
      have := (Array.getElem?_eq_some_iff.1 ho).1
      omega
     exact absurd hi (tail_waits h2.1 h2.2 hnn inv _ i0 rfl hi0 hu0 i h)
  rw [show f + 1 + (l.length - n) = (f + (l.length - n)) + 1 by omega]
  refine ⟨fun h0 => (by rw [h0] at hready0; cases hready0), fun i hi => ?_⟩
  have hin := hlow i hi
  obtain ⟨hun, o', ho', hdone⟩ := mem_ready.1 hi
  obtain ⟨o, s, ho, hs, hlex, hdeps, hsupp⟩ := hat i hin
  have hoo : o' = o := by
   have : l.toArray[i]? = some o := by simpa using ho
   exact Option.some.inj (ho'.symm.trans this)
  subst hoo
  have hot : (l.take n)[i]? = some o' := by rw [List.getElem?_take_of_lt hin]; exact ho
  obtain ⟨s', g, hs', hg, hdebt⟩ := debts_get i (hO u) hot
  have hss : s' = s := Option.some.inj (hs'.symm.trans hs)
  subst hss
  have hisz : i < listed.size := by rw [inv.size]; exact (Array.getElem?_eq_some_iff.1 ho').1
  have hfacts : factsOf sp gs u W s'.deps := factsOf_mk fun k hk => by
   obtain ⟨hkn, hw⟩ := hdeps k hk
   obtain ⟨e, he, hb, hon⟩ := waits_spec hw
   have h1 := hdone e he hb
   rw [hon] at h1
   have hksz : k < listed.size := by rw [inv.size]; simp; omega
   refine hF k hkn ?_
   simpa [hksz] using h1
  rw [Nat.zero_add] at hdebt
  have hnext : ∀ v W', owes sp gs S s' g u i W v W' → wpAny P .any l.toArray Q (f + (l.length - n)) (listed.setIfInBounds i true) ((putAll u 0 (l.take n) a0).put o'.dst v) W' := fun v W' ⟨hBel, hS', hg'⟩ => by
   have hput := putAll_set u v (l.take n) 0 i o' a0 hd hot
   rw [Nat.zero_add] at hput
   have hleft := left_set hisz hun hin
   rw [hput]
   refine ih _ _ W' (inv.set hi hin) hS' (fun k hk hlk => ?_) (by omega)
   by_cases hki : k = i
   ·subst hki
    unfold factOf
    rw [hs', hg]
    exact hg'
   ·rw [getD_set_ne true (Ne.symm hki)] at hlk
    have hfk := hF k hk hlk
    have hfk0 := hfk
    obtain ⟨ok, sk, hok, hsk, hlexk, _, hsuppk⟩ := hat k hk
    unfold factOf at hfk ⊢
    rw [hsk] at hfk ⊢
    cases hgk : gs[k]? with
    | none => trivial
    | some gk =>
     rw [hgk] at hfk
     simp only at hfk ⊢
     have hmap : sk.supp.map (fun k => if k = i then v else u k) = sk.supp.map u := List.map_congr_left fun t ht => by
      rcases hsuppk t ht with h1 | h1
      ·rw [if_neg (by omega)]
      ·obtain ⟨e, he, hb, hon⟩ := waits_spec h1
       have hksz : k < listed.size := by rw [inv.size]; simp; omega
       have h2 := inv.closed k ok (by simpa using hok) (by simpa [hksz] using hlk) e he hb
       have hti : t ≠ i := fun e' => by
        rw [hon, e'] at h2
        have : listed.getD i true = true := by simpa [hisz] using h2
        rw [this] at hun
        cases hun
       rw [if_neg hti]
     rw [hmap]
     rcases hBel with hBel | hBel
     ·exact hT gk (List.mem_of_getElem? hgk) _ _ _ hBel hfk
     ·have h9 := hBel k hki hfk0
      unfold factOf at h9
      rw [hsk, hgk] at h9
      exact h9
  have hd1 := hdebt W hS hfacts
  unfold wpOp
  rw [ho']
  simp only
  split
  ·rename_i hw
   rw [if_pos hw] at hd1
   exact .inl (wp_of_takes hd1 hnext)
  ·rename_i hw
   rw [if_neg hw] at hd1
   exact hnext undef W hd1
theorem keep_all {Q : Exit → Act → World → Prop} {a0 : Act} {w : World} (n : Nat) (sp : List Spec) (gs : List (List Value → World → Prop)) (S : (Nat → Value) → World → Prop) (hB : invB l n sp = true)
  (hT : ∀ g ∈ gs, ∀ vs W W', Below W.heap.size W W' → g vs W → g vs W') (h0 : S (initU (l.take n) a0) w.drew)
  (hO : ∀ u, debts P l.toArray S sp gs u (putAll u 0 (l.take n) a0) 0 (l.take n) sp gs)
  (hE : ∀ u W, S u W → factsOf sp gs u W (List.range n) → wpList P l.toArray Q (l.drop n) (putAll u 0 (l.take n) a0) W) :
  wpAny P .any l.toArray Q l.toArray.size (Array.replicate l.toArray.size false) a0 w.drew := by
 have hn : n ≤ l.length := by
  simp only [invB, Bool.and_eq_true, decide_eq_true_eq] at hB
  exact hB.1.1.1.1.1
 have hu := putAll_start (l.take n) a0
 have inv0 : HeadInv .any l.toArray n (Array.replicate l.toArray.size false) :=
  ⟨by simp, fun j oj _ hl => (by rw [getD_replicate_false] at hl; cases hl), fun t _ ht => getD_in (by simpa using ht) (getD_replicate_false _ _)⟩
 have hl0 : left (Array.replicate l.toArray.size false) n = n := by
  have := left_all n (l.length - n) n (Nat.le_refl _)
  rwa [show n + (l.length - n) = l.toArray.size by simp; omega] at this
 have key := inv_any (P := P) (S := S) (gs := gs) (a0 := a0) (Q := Q) hB hT hO (fun u W hS hF => hE u W hS (factsOf_mk fun k hk => hF k (List.mem_range.1 hk))) n _ (initU (l.take n) a0) w.drew inv0 h0 (fun k hk hlk => by
  rw [show (Array.replicate l.toArray.size false).getD k true = false from getD_in (by simp; omega) (getD_replicate_false _ _)] at hlk
  cases hlk) hl0
 rw [hu, show n + (l.length - n) = l.toArray.size by simp; omega] at key
 exact key
theorem wp_region_keep {Q : Exit → Act → World → Prop} {a0 : Act} {w : World} {id : Nat} (n : Nat) (sp : List Spec) (gs : List (List Value → World → Prop)) (S : (Nat → Value) → World → Prop) (hm : P.follows .mixedOrders = true) (hB : invB l n sp = true)
  (hT : ∀ g ∈ gs, ∀ vs W W', Below W.heap.size W W' → g vs W → g vs W') (h0 : S (initU (l.take n) a0) w.drew)
  (hO : ∀ u, debts P l.toArray S sp gs u (putAll u 0 (l.take n) a0) 0 (l.take n) sp gs)
  (hE : ∀ u W, S u W → factsOf sp gs u W (List.range n) → wpList P l.toArray Q (l.drop n) (putAll u 0 (l.take n) a0) W) :
  (Code.region id l.toArray true).wp P Q a0 w :=
 wp_region_any hm (keep_all n sp gs S hB hT h0 hO hE)
end main
end Go.Proofs.YtppjkikaaonbkaaGreatDoor.Kp
namespace Go.Proofs.YtppjkikaaonbkaaGreatDoor
open Go.RowKit
theorem one_keep {f : Value → World → Prop} {W W' : World} (h : ∀ v, f v W → f v W') : ∀ vs, one f vs W → one f vs W'
 | [v], hf => h v hf
 | [], hf => hf
 | _ :: _ :: _, hf => hf
def two (f : Value → Value → World → Prop) : List Value → World → Prop
 | [a, b], W => f a b W
 | _, _ => False
theorem two_below {f : Value → Value → World → Prop} (h : ∀ a b W W', Below W.heap.size W W' → f a b W → f a b W') : ∀ vs W W', Below W.heap.size W W' → two f vs W → two f vs W'
 | [a, b], W, W', hb, hf => h a b W W' hb hf
 | [], _, _, _, hf => hf
 | [_], _, _, _, hf => hf
 | _ :: _ :: _ :: _, _, _, _, hf => hf
def keepL (W W' : World) (i : Nat) : Nat → List (List Value → World → Prop) → Prop
 | _, [] => True
 | k, g :: r => (k = i ∨ ∀ vs, g vs W → g vs W') ∧ keepL W W' i (k + 1) r
theorem keepL_get {W W' : World} {i : Nat} : ∀ {gs : List (List Value → World → Prop)} (k j : Nat) {g : List Value → World → Prop}, keepL W W' i k gs → gs[j]? = some g → k + j ≠ i → ∀ vs, g vs W → g vs W'
 | [], _, _, _, _, h, _ => by simp at h
 | x :: r, k, 0, g, h, hg, hne => by
  simp only [List.getElem?_cons_zero, Option.some.injEq] at hg
  subst hg
  exact h.1.resolve_left hne
 | x :: r, k, j + 1, g, h, hg, hne => keepL_get (k + 1) j h.2 (by simpa using hg) (by omega)
theorem kept_of {sp : List Spec} {gs : List (List Value → World → Prop)} {u : Nat → Value} {i : Nat} {W W' : World} (h : keepL W W' i 0 gs) : Kp.Kept sp gs u i W W' :=
 .inr fun k hk hf => by
  unfold factOf at hf ⊢
  cases hs : sp[k]? with
  | none => trivial
  | some s =>
   cases hg : gs[k]? with
   | none => trivial
   | some g =>
    rw [hs, hg] at hf
    exact keepL_get 0 k h hg (by omega) _ hf
def M2V (n m : Nat) (v : Value) (W : World) : Prop := ∃ x p l q x' p' l' q', v = .tuple #[.agg #[.int .u64 x, .slice p l q], .agg #[.int .u64 x', .slice p' l' q']] ∧ IsMag W (.int .u64 x) (.slice p l q) n ∧ IsMag W (.int .u64 x') (.slice p' l' q') m
theorem m2V_below {n m : Nat} : ∀ v W W', Below W.heap.size W W' → M2V n m v W → M2V n m v W' := fun _ _ _ hb ⟨x, p, l, q, x', p', l', q', e, h, h'⟩ => ⟨x, p, l, q, x', p', l', q', e, h.below hb, h'.below hb⟩
theorem M2V.elim {G : Prop} {n m : Nat} {v : Value} {W : World} (h : M2V n m v W) (k : ∀ x p l q x' p' l' q', v = .tuple #[.agg #[.int .u64 x, .slice p l q], .agg #[.int .u64 x', .slice p' l' q']] → IsMag W (.int .u64 x) (.slice p l q) n → IsMag W (.int .u64 x') (.slice p' l' q') m → G) : G := by
 obtain ⟨x, p, l, q, x', p', l', q', e, h1, h2⟩ := h
 exact k _ _ _ _ _ _ _ _ e h1 h2
theorem MagV.elim {G : Prop} {n : Nat} {v : Value} {W : World} (h : MagV n v W) (k : ∀ x p l q, v = .agg #[.int .u64 x, .slice p l q] → IsMag W (.int .u64 x) (.slice p l q) n → G) : G := by
 obtain ⟨x, p, l, q, e, h1⟩ := h
 exact k _ _ _ _ e h1
abbrev setM (W : World) (L : Nat) (x : Int) (p : Option Addr) (l q : Nat) : World := (W.setCell ⟨L, 0, none⟩ (.int .u64 x)).setCell ⟨L, 1, none⟩ (.slice p l q)
def NewM (B : Nat) (T : TypeId) (v : Value) (W : World) : Prop := ∃ L x p l q, v = .pointer (some ⟨L, 0, none⟩) ∧ B ≤ L ∧ L < W.heap.size ∧ Bx W L T [.int .u64 x, .slice p l q]
theorem newM_below {B : Nat} {T : TypeId} : ∀ v W W', Below W.heap.size W W' → NewM B T v W → NewM B T v W' :=
 fun _ _ _ hb ⟨L, x, p, l, q, e, h1, h2, h3⟩ => ⟨L, x, p, l, q, e, h1, Nat.lt_of_lt_of_le h2 hb.size, h3.below hb⟩
theorem NewM.elim {G : Prop} {B : Nat} {T : TypeId} {v : Value} {W : World} (h : NewM B T v W) (k : ∀ L x p l q, v = .pointer (some ⟨L, 0, none⟩) → B ≤ L → L < W.heap.size → Bx W L T [.int .u64 x, .slice p l q] → G) : G := by
 obtain ⟨L, x, p, l, q, e, h1, h2, h3⟩ := h
 exact k _ _ _ _ _ e h1 h2 h3
def FulM (T : TypeId) (a b : Value) (W : World) : Prop := ∃ L x p l q, a = .pointer (some ⟨L, 0, none⟩) ∧ b = .agg #[.int .u64 x, .slice p l q] ∧ Bx W L T [.int .u64 x, .slice p l q]
theorem fulM_below {T : TypeId} : ∀ a b W W', Below W.heap.size W W' → FulM T a b W → FulM T a b W' :=
 fun _ _ _ _ hb ⟨L, x, p, l, q, e, e', h⟩ => ⟨L, x, p, l, q, e, e', h.below hb⟩
theorem FulM.all {B : Nat} {T T' : TypeId} {a b : Value} {n : Nat} {W : World} (h9 : NewM B T a W) (h : FulM T' a b W) (hm : MagV n b W) : ∃ L x p l q, a = .pointer (some ⟨L, 0, none⟩) ∧ b = .agg #[.int .u64 x, .slice p l q] ∧ B ≤ L ∧ Bx W L T' [.int .u64 x, .slice p l q] ∧ IsMag W (.int .u64 x) (.slice p l q) n := by
 obtain ⟨L, x, p, l, q, rfl, h1, -, -⟩ := h9
 obtain ⟨L', x', p', l', q', e, rfl, h2⟩ := h
 cases e
 obtain ⟨x1, p1, l1, q1, e1, h3⟩ := hm
 cases e1
 exact ⟨L, x', p', l', q', rfl, rfl, h1, h2, h3⟩
section store
variable {W : World} {L : Nat} {T : TypeId} {x x' : Int} {p p' : Option Addr} {l q l' q' : Nat}
theorem IsMag.setM (hb : Bx W L T [.int .u64 x, .slice p l q]) {c d : Value} {n : Nat} (h : IsMag W c d n) : IsMag (setM W L x' p' l' q') c d n := (h.setBox hb rfl).setBox (hb.set 0 _) rfl
theorem magV_setM (hb : Bx W L T [.int .u64 x, .slice p l q]) {n : Nat} : ∀ v, MagV n v W → MagV n v (setM W L x' p' l' q') := fun _ ⟨x1, p1, l1, k1, e, h⟩ => ⟨x1, p1, l1, k1, e, h.setM hb⟩
theorem m2V_setM (hb : Bx W L T [.int .u64 x, .slice p l q]) {n m : Nat} : ∀ v, M2V n m v W → M2V n m v (setM W L x' p' l' q') := fun _ ⟨x1, p1, l1, k1, x2, p2, l2, k2, e, h, h'⟩ => ⟨x1, p1, l1, k1, x2, p2, l2, k2, e, h.setM hb, h'.setM hb⟩
theorem Bx.setM (hb : Bx W L T [.int .u64 x, .slice p l q]) : Bx (setM W L x' p' l' q') L T [.int .u64 x', .slice p' l' q'] := (hb.set 0 _).set 1 _
theorem newM_setM (hb : Bx W L T [.int .u64 x, .slice p l q]) {B : Nat} {T' : TypeId} : ∀ v, NewM B T' v W → NewM B T' v (setM W L x' p' l' q') := fun _ ⟨L1, x1, p1, l1, k1, e, h1, h2, h3⟩ => by
 by_cases hl : L1 = L
 ·subst hl
  have hT : T' = T := by
   have h4 := hb
   unfold Bx at h3 h4
   rw [h3] at h4
   injection h4 with h5
   injection h5 with _ h6
  subst hT
  exact ⟨L1, x', p', l', q', e, h1, by simpa using h2, hb.setM⟩
 ·exact ⟨L1, x1, p1, l1, k1, e, h1, by simpa using h2, (h3.far hl _).far hl _⟩
end store
end Go.Proofs.YtppjkikaaonbkaaGreatDoor
