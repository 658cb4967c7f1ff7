/- What the proof rests on, part 34: The iterator over the terms of a continued fraction. -/
import Derived.Test.YtppjkikaaonbkaaGreatDoorP32
import Derived.LoopNIn
namespace Go.Proofs.YtppjkikaaonbkaaGreatDoor
set_option maxRecDepth 100000
set_option maxHeartbeats 80000000
open Go.RowKit Go.Sort
attribute [local go_sem] takes takesUpon_value takesUpon_skip takesUpon_enter
def BQ (W : World) (b : Nat) (r : Rat) : Prop := ∃ (t : Bool) (x : Int) (p : Option Addr) (l q : Nat) (y : Int) (p' : Option Addr) (l' q' : Nat),
 Bx W b 31 (c5 t x p l q y p' l' q') ∧ IsQ W (.agg #[.bool t, .int .u64 x, .slice p l q, .int .u64 y, .slice p' l' q']) r
theorem BQ.off {S : Nat → Prop} {W W' : World} {b : Nat} {r : Rat} (h : BQ W b r) (ho : Off S W W') (hb : ¬ S b) : BQ W' b r := by
 obtain ⟨t, x, p, l, q, y, p', l', q', h1, h2⟩ := h
 exact ⟨t, x, p, l, q, y, p', l', q', ho.heap h1 hb, ho.fct (.q _ r) h2⟩
theorem Off.set5 {S : Nat → Prop} {W : World} {b : Nat} {t1 : Bool} {x1 : Int} {p1 : Option Addr} {l1 q1 : Nat} {y1 : Int} {r1 : Option Addr} {s1 u1 : Nat} (h : Bx W b 31 (c5 t1 x1 p1 l1 q1 y1 r1 s1 u1)) (hS : S b) (t2 : Bool) (x2 : Int) (p2 : Option Addr) (l2 q2 : Nat) (y2 : Int) (r2 : Option Addr) (s2 u2 : Nat) :
  Off S W (((((W.setCell ⟨b, 0, none⟩ (.bool t2)).setCell ⟨b, 1, none⟩ (.int .u64 x2)).setCell ⟨b, 2, none⟩ (.slice p2 l2 q2)).setCell ⟨b, 3, none⟩ (.int .u64 y2)).setCell ⟨b, 4, none⟩ (.slice r2 s2 u2)) ∧ Bx (((((W.setCell ⟨b, 0, none⟩ (.bool t2)).setCell ⟨b, 1, none⟩ (.int .u64 x2)).setCell ⟨b, 2, none⟩ (.slice p2 l2 q2)).setCell ⟨b, 3, none⟩ (.int .u64 y2)).setCell ⟨b, 4, none⟩ (.slice r2 s2 u2)) b 31 (c5 t2 x2 p2 l2 q2 y2 r2 s2 u2) :=
 ⟨((((Off.setCell h rfl hS).trans (Off.setCell (h.set 0 (.bool t2)) rfl hS)).trans (Off.setCell ((h.set 0 (.bool t2)).set 1 (.int .u64 x2)) rfl hS)).trans (Off.setCell (((h.set 0 (.bool t2)).set 1 (.int .u64 x2)).set 2 (.slice p2 l2 q2)) rfl hS)).trans
  (Off.setCell ((((h.set 0 (.bool t2)).set 1 (.int .u64 x2)).set 2 (.slice p2 l2 q2)).set 3 (.int .u64 y2)) rfl hS),
 ((((h.set 0 (.bool t2)).set 1 (.int .u64 x2)).set 2 (.slice p2 l2 q2)).set 3 (.int .u64 y2)).set 4 (.slice r2 s2 u2)⟩
def HoldsV (b : Nat) (T : TypeId) (v : Value) (W : World) : Prop := ∃ (t : Bool) (x : Int) (p : Option Addr) (l q : Nat) (y : Int) (p' : Option Addr) (l' q' : Nat),
 v = .agg #[.bool t, .int .u64 x, .slice p l q, .int .u64 y, .slice p' l' q'] ∧ Bx W b T (c5 t x p l q y p' l' q')
theorem holdsV_below {b : Nat} {T : TypeId} : ∀ v W W', Below W.heap.size W W' → HoldsV b T v W → HoldsV b T v W' :=
 fun _ _ _ hb ⟨t, x, p, l, q, y, p', l', q', e, h⟩ => ⟨t, x, p, l, q, y, p', l', q', e, h.below hb⟩
theorem IsQ.elim {G : Prop} {W : World} {v : Value} {r : Rat} (h : IsQ W v r) (k : ∀ (t : Bool) (x : Int) (p : Option Addr) (l q : Nat) (y : Int) (p' : Option Addr) (l' q' : Nat), v = .agg #[.bool t, .int .u64 x, .slice p l q, .int .u64 y, .slice p' l' q'] → G) : G := by
 obtain ⟨t, x, p, l, q, y, p', l', q', e⟩ := h.open
 exact k _ _ _ _ _ _ _ _ _ e
theorem more_false {dn : Nat → Bool} {i k : Nat} (h : Dn.more dn i k = false) : dn k = false := by
 unfold Dn.more at h
 simp only [Bool.or_eq_false_iff] at h
 exact h.1
theorem Tab.off {S : Nat → Prop} {W W' : World} (h : Tab W) (ho : Off S W W') (hS : ¬ S 1) : Tab W' :=
 ⟨Nat.lt_of_lt_of_le h.1 ho.size, fun j hj => (World.cell?_of_block (w := W) (a := ⟨1, j, none⟩) (ho.block _ h.1 hS)).trans (h.2 j hj)⟩
theorem wpIn_loop_ghost {F : Fence} {n : Nat} {P : Program} {c : Code} {Q : Exit → Act → World → Prop} {a : Act} {w : World} (Inv : Nat → Act → World → Prop) (N : Nat) (h0 : Inv 0 a w)
  (step : ∀ i a w, i ≤ N → Inv i a w → c.wpIn F n P (Exit.then (fun a' w' => i < N ∧ Inv (i + 1) a' w') Q) a w) : (Code.loop c).wpIn F n P Q a w := by
 have key : ∀ (m i : Nat) (a : Act) (w : World), i + m = N + 1 → i ≤ N → Inv i a w → Code.roundsIn F n P c Q m a w := by
  intro m
  induction m with
  | zero => intro i a w h1 h2 _; omega
  | succ m ih =>
   intro i a w h1 h2 h3
   refine wpIn_mono (step i a w h2 h3) ?_
   intro e a' w' h
   cases e <;> first | exact ih (i + 1) a' w' (by omega) (by have := h.1; omega) h.2 | exact h
 exact wpIn_loop_rounds (N + 1) (key (N + 1) 0 a w (by omega) (by omega) h0)
theorem steps_iter (a : Rat) (N k Ba B0 : Nat) (W0 : World) (hk : k ≤ 1000) (hf : ∀ i, i ≤ N → Fits k (cfr a i) ∧ Fits k (flQ (cfr a i))) (hc : ∀ i, i < N → sgQ (cfr a i - flQ (cfr a i)) ≠ 0) (hT : Tab W0) (hb : BQ W0 Ba a) (hg : 1 < B0) (hB : B0 ≤ Ba) :
  Iter Tryz.prog 190 #[.pointer (some ⟨Ba, 0, none⟩)] Ba N (fun i v W => IsQ W v (flQ (cfr a i))) B0 W0 := by
 intro l S J Jx W1 hO hSB hSl hJ hJx hY hJ0
 have hT1 : Tab W1 := hT.off hO (fun h => h)
 have hb1 : BQ W1 Ba a := hb.off hO (fun h => h)
 have hBa1 : Ba < W1.heap.size := by obtain ⟨_, _, _, _, _, _, _, _, _, h, _⟩ := hb1; exact h.lt
 clear hT hb hO
 refine callsIn_of_wp Tryz.func190 rfl trivial ?_
 simp only [Tryz.ntmps190, List.size_toArray, List.length_cons, List.length_nil, Nat.reduceAdd, Nat.reduceSub, Array.replicate_succ, Array.replicate_zero, List.push_toArray, List.append_toArray, List.nil_append, List.cons_append]
 refine wpIn_block (wpIn_loop_ghost (fun i b W => (∃ e2 e3 e4 e5 e6 e7 e8 e9 e10 e11 e12 e13 e14 e15 e16 e17 e18 e19 e20 : Value, b = { tmps := #[.func (.yield l) #[] #[], .pointer (some ⟨Ba, 0, none⟩), e2, e3, e4, e5, e6, e7, e8, e9, e10, e11, e12, e13, e14, e15, e16, e17, e18, e19, e20], defers := [] }) ∧ J i W ∧ BQ W Ba (cfr a i) ∧ Tab W ∧ W1.heap.size ≤ W.heap.size) N ?_ ?_)
 ·exact ⟨⟨_, _, _, _, _, _, _, _, _, _, _, _, _, _, _, _, _, _, _, rfl⟩, hJ0, hb1, hT1, Nat.le_refl _⟩
 rintro i b W hi ⟨⟨e2, e3, e4, e5, e6, e7, e8, e9, e10, e11, e12, e13, e14, e15, e16, e17, e18, e19, e20, rfl⟩, hJi, hBi, hTi, hsz⟩
 have HF := hid (hf i hi)
 obtain ⟨t1, x1, p1, l1, q1, y1, r1, s1, u1, hx, hq⟩ := hBi
 have hlt := hx.lt
 have HJ := hid (And.intro hJ (And.intro hJx (And.intro hY hJi)))
 have HC := hid (hc i)
 have HT := hid hTi
 clear hJ hJx hY hJi hc hTi hf hb1 hT1 hJ0
 obtain ⟨R, hR⟩ : ∃ R, cfr a i = R := ⟨_, rfl⟩
 have HR := hid hR
 rw [hR] at HF HC hq
 clear hR
 have HFl := hid (fun (W : World) (v : Value) (h : IsQ W v R) => floor_q R v k W h (by omega) HF.out.1)
 have HSb := hid (fun (W : World) (v1 v2 : Value) (i : IsQ W v1 R) (j : IsQ W v2 (flQ R)) (hT : Tab W) => Sub_calls R (flQ R) v1 v2 k W i j (by omega) HF.out.1 HF.out.2 hT)
 refine wpIn_block ?_
 refine wpIn_seq (wpIn_wide.2 ?_)
 have cx := hx.f5.1
 obtain ⟨c0, c1, c2, c3, c4⟩ := cx
 go_wp2_with fail
 refine (HFl.out _ _ hq).mono ?_
 rintro e wa ⟨v2, rfl, hv2, hBa⟩
 obtain ⟨t2, x2, p2, l2, q2, y2, r2, s2, u2, rfl⟩ := hv2.open
 clear c0 c1 c2 c3 c4 HFl
 go_wp2_with fail
 obtain ⟨wb, hwb⟩ : ∃ wb, wa.alloc (.cells #[.bool t2, .int .u64 x2, .slice p2 l2 q2, .int .u64 y2, .slice r2 s2 u2] 31) = wb := ⟨_, rfl⟩
 have hBb : Below W.heap.size W wb := by rw [← hwb]; exact hBa.alloc hBa.size _
 have hxb : Bx wb Ba 31 (c5 t1 x1 p1 l1 q1 y1 r1 s1 u1) := hx.below hBb
 have hyb : Bx wb wa.heap.size 31 (c5 t2 x2 p2 l2 q2 y2 r2 s2 u2) := by rw [← hwb]; exact Bx.new wa _ _
 have hqb : IsQ wb (.agg #[.bool t1, .int .u64 x1, .slice p1 l1 q1, .int .u64 y1, .slice r1 s1 u1]) R := hq.below hBb
 have hvb : IsQ wb (.agg #[.bool t2, .int .u64 x2, .slice p2 l2 q2, .int .u64 y2, .slice r2 s2 u2]) (flQ R) := by rw [← hwb]; exact hv2.below ((Below.refl _ _).alloc (Nat.le_refl _) _)
 have hza := hBa.size
 rw [hwb]
 clear hwb hv2 hBa hx
 obtain ⟨bt, hbt⟩ : ∃ bt, wa.heap.size = bt := ⟨_, rfl⟩
 rw [hbt] at hyb hza ⊢
 clear hbt
 refine wpIn_seq (wpIn_wide.2 ?_)
 obtain ⟨c0, c1, c2, c3, c4⟩ := hxb.f5.1
 obtain ⟨d0, d1, d2, d3, d4⟩ := hyb.f5.1
 go_wp2_with fail
 refine (HSb.out _ _ _ hqb hvb (HT.out.below hBb (Nat.le_refl _))).mono ?_
 rintro e wc ⟨v3, rfl, hv3, hBc⟩
 obtain ⟨t3, x3, p3, l3, q3, y3, r3, s3, u3, rfl⟩ := hv3.open
 clear c0 c1 c2 c3 c4 d0 d1 d2 d3 d4 HSb
 go_wp2_with fail
 obtain ⟨wd, hwd⟩ : ∃ wd, wc.alloc (.cells #[.bool t3, .int .u64 x3, .slice p3 l3 q3, .int .u64 y3, .slice r3 s3 u3] 31) = wd := ⟨_, rfl⟩
 have hBbd : Below wb.heap.size wb wd := by rw [← hwd]; exact hBc.alloc hBc.size _
 have hBd : Below W.heap.size W wd := hBb.trans (hBbd.mono hBb.size)
 have hxd : Bx wd Ba 31 (c5 t1 x1 p1 l1 q1 y1 r1 s1 u1) := hxb.below hBbd
 have hyd : Bx wd bt 31 (c5 t2 x2 p2 l2 q2 y2 r2 s2 u2) := hyb.below hBbd
 have hzd : Bx wd wc.heap.size 31 (c5 t3 x3 p3 l3 q3 y3 r3 s3 u3) := by rw [← hwd]; exact Bx.new wc _ _
 have hvd : IsQ wd (.agg #[.bool t2, .int .u64 x2, .slice p2 l2 q2, .int .u64 y2, .slice r2 s2 u2]) (flQ R) := hvb.below hBbd
 have hrd : IsQ wd (.agg #[.bool t3, .int .u64 x3, .slice p3 l3 q3, .int .u64 y3, .slice r3 s3 u3]) (R - flQ R) := by rw [← hwd]; exact hv3.below ((Below.refl _ _).alloc (Nat.le_refl _) _)
 have hzc : W.heap.size ≤ wc.heap.size := Nat.le_trans hBb.size hBc.size
 rw [hwd]
 clear hwd hv3 hBc hBb hxb hyb hqb hvb
 obtain ⟨br, hbr⟩ : ∃ br, wc.heap.size = br := ⟨_, rfl⟩
 rw [hbr] at hzd hzc ⊢
 clear hbr
 have hJd := HJ.out.1 i W wd (Off.of_below hBd) HJ.out.2.2.2
 obtain ⟨fn, tmps, assign, body, hy, hRd⟩ := HJ.out.2.2.1 i wd _ hi hJd (show IsQ wd (.agg #[.bool t2, .int .u64 x2, .slice p2 l2 q2, .int .u64 y2, .slice r2 s2 u2]) (flQ (cfr a i)) by rw [HR.out]; exact hvd)
 refine wpIn_seq (wpIn_seq ?_)
 obtain ⟨d0, d1, d2, d3, d4⟩ := hyd.f5.1
 gi_wp2
 refine hRd.mono ?_
 clear hRd hy d0 d1 d2 d3 d4
 rintro e we ⟨hoff, (⟨hin, rfl, hJe⟩ | ⟨hin, rfl, hJxe⟩)⟩
 ·have hbrS : ¬ S br := fun h => by have := hSl _ h; omega
  have hxe : Bx we Ba 31 (c5 t1 x1 p1 l1 q1 y1 r1 s1 u1) := hoff.heap hxd hSB
  have hze : Bx we br 31 (c5 t3 x3 p3 l3 q3 y3 r3 s3 u3) := hoff.heap hzd hbrS
  have hre : IsQ we (.agg #[.bool t3, .int .u64 x3, .slice p3 l3 q3, .int .u64 y3, .slice r3 s3 u3]) (R - flQ R) := hoff.fct (.q _ _) hrd
  have hTe : Tab we := (HT.out.below hBd (Nat.le_refl _)).off hoff (fun h => by have := hSl _ h; omega)
  have hze' : W1.heap.size ≤ we.heap.size := Nat.le_trans hsz (Nat.le_trans hBd.size hoff.size)
  clear hoff hxd hyd hzd hvd hrd hJd hBd HT
  obtain ⟨sg, hsg⟩ : ∃ sg, sgQ (R - flQ R) = sg := ⟨_, rfl⟩
  have hsg0 : (sg == 0) = false := by rw [beq_eq_false_iff_ne, ← hsg]; exact HC.out hin
  have HSg := hid (fun (W : World) (v : Value) (h : IsQ W v (R - flQ R)) => hsg ▸ Sign_q (R - flQ R) v W h)
  clear hsg
  have hr0 : R - flQ R ≠ 0 := fun h => HC.out hin (by rw [h]; exact sgQ_zero)
  have HIv := hid (fun (W : World) (v : Value) (h : IsQ W v (R - flQ R)) => Inv_calls (R - flQ R) v W h hr0)
  clear hr0
  obtain ⟨d0, d1, d2, d3, d4⟩ := hze.f5.1
  gi_wp2_with fail
  refine ⟨trivial, (callsIn_wide.2 (HSg.out _ _ hre)).mono ?_⟩
  rintro e wf ⟨rfl, hBf⟩
  have hxf := hxe.below hBf
  have hzf := hze.below hBf
  have hrf := hre.below hBf
  have hTf := hid (hTe.below hBf (Nat.le_refl _))
  have hJf := hid (HJ.out.1 (i + 1) we wf (Off.of_below hBf) hJe)
  have hzf' := Nat.le_trans hze' hBf.size
  clear hxe hze hre hTe hJe hBf hze' HSg d0 d1 d2 d3 d4
  obtain ⟨d0, d1, d2, d3, d4⟩ := hzf.f5.1
  gi_wp2_with fail
  refine ⟨trivial, (callsIn_wide.2 (HIv.out _ _ hrf)).mono ?_⟩
  rintro e wg ⟨v4, rfl, hv4, hBg⟩
  obtain ⟨t4, x4, p4, l4, q4, y4, r4, s4, u4, rfl⟩ := hv4.open
  have hxg := hxf.below hBg
  have hTg := hTf.out.below hBg (Nat.le_refl _)
  have hJg := HJ.out.1 (i + 1) wf wg (Off.of_below hBg) hJf.out
  have hzg := Nat.le_trans hzf' hBg.size
  have hres := Off.set5 (S := fun k => k = Ba ∨ W1.heap.size ≤ k) hxg (.inl rfl) t4 x4 p4 l4 q4 y4 r4 s4 u4
  have hfin := hid (show J (i + 1) _ ∧ BQ _ Ba (cfr a (i + 1)) ∧ Tab _ ∧ W1.heap.size ≤ _ from
   ⟨HJ.out.1 (i + 1) wg _ hres.1 hJg, ⟨_, _, _, _, _, _, _, _, _, hres.2, (show IsQ _ _ ((cfr a i - flQ (cfr a i))⁻¹) by rw [HR.out]; exact hres.1.fct (.q _ _) hv4)⟩, hTg.off hres.1 (fun h => by have h' : 1 = Ba ∨ W1.heap.size ≤ 1 := h; omega), Nat.le_trans hzg hres.1.size⟩)
  clear hres hJg hTg hzg hv4 hBg hxf hzf hrf hTf hJf hzf' d0 d1 d2 d3 d4 HIv
  obtain ⟨⟨c0, c1, c2, c3, c4⟩, f0, f1, f2, f3, f4⟩ := hxg.f5
  gi_wp2_with fail
  exact ⟨hin, ⟨_, _, _, _, _, _, _, _, _, _, _, _, _, _, _, _, _, _, _, rfl⟩, hfin.out⟩
 ·gi_wp2_with fail
  refine ⟨trivial, ?_⟩
  gi_wp2_with fail
  refine bodyPost_ret (results_none rfl _ _ _) rfl ?_
  exact ⟨⟨_, rfl⟩, hJxe⟩
end Go.Proofs.YtppjkikaaonbkaaGreatDoor
