/- What the proof rests on, part 32: Regions that draw their order, with operations that store into what others load: each operation once, in whatever order, told which have come up. No program. Near: what it is about in numbers; the nearer of two numbers. -/
import Derived.Test.YtppjkikaaonbkaaGreatDoorP23
import Derived.Test.YtppjkikaaonbkaaGreatDoorP31
import Derived.Test.YtppjkikaaonbkaaGreatDoorP16
import Derived.Test.YtppjkikaaonbkaaGreatDoorP24
namespace Go.Proofs.YtppjkikaaonbkaaGreatDoor.Dn
open Go.RowKit
open Kp (Kept)
variable {P : Program} {ops : Array Oper}
def more (dn : Nat → Bool) (i : Nat) : Nat → Bool := fun k => dn k || k == i
def owes (sp : List Spec) (gs : List (List Value → World → Prop)) (S : (Nat → Bool) → (Nat → Value) → World → Prop) (s : Spec) (g : List Value → World → Prop) (dn : Nat → Bool) (u : Nat → Value) (i : Nat) (W : World) (v : Value) (W' : World) : Prop :=
 Kept sp gs u i W W' ∧ S (more dn i) (upd u i v) W' ∧ g (s.supp.map (upd u i v)) W'
def debt (P : Program) (ops : Array Oper) (S : (Nat → Bool) → (Nat → Value) → World → Prop) (sp : List Spec) (gs : List (List Value → World → Prop)) (u : Nat → Value) (a : Act) (i : Nat) (o : Oper) (s : Spec) (g : List Value → World → Prop) : Prop :=
 ∀ (dn : Nat → Bool) W, dn i = false → (∀ k o', ops[k]? = some o' → waits o' i = true → dn k = false) → S dn u W → factsOf sp gs u W s.deps → if Region.wanted o (yielded ops a.tmps) then takes P o a W (owes sp gs S s g dn u i W) else owes sp gs S s g dn u i W undef W
def debts (P : Program) (ops : Array Oper) (S : (Nat → Bool) → (Nat → Value) → World → Prop) (sp0 : List Spec) (gs0 : List (List Value → World → Prop)) (u : Nat → Value) (a : Act) : Nat → List Oper → List Spec → List (List Value → World → Prop) → Prop
 | i, o :: l, s :: sp, g :: gs => debt P ops S sp0 gs0 u a i o s g ∧ debts P ops S sp0 gs0 u a (i + 1) l sp gs
 | _, [], _, _ => True
 | _, _, _, _ => False
theorem debts_cons {S : (Nat → Bool) → (Nat → Value) → World → Prop} {sp0 : List Spec} {gs0 : List (List Value → World → Prop)} {u : Nat → Value} {a : Act} {i : Nat} {o : Oper} {l : List Oper} {s : Spec} {sp : List Spec} {g : List Value → World → Prop} {gs : List (List Value → World → Prop)}
  (h : ∀ (dn : Nat → Bool) W, dn i = false → (∀ k o', ops[k]? = some o' → waits o' i = true → dn k = false) → S dn u W → factsOf sp0 gs0 u W s.deps → ∀ K : Value → World → Prop, (∀ v W', Kept sp0 gs0 u i W W' → S (more dn i) (upd u i v) W' → g (s.supp.map (upd u i v)) W' → K v W') → if Region.wanted o (yielded ops a.tmps) then takes P o a W K else K undef W)
  (hr : debts P ops S sp0 gs0 u a (i + 1) l sp gs) : debts P ops S sp0 gs0 u a i (o :: l) (s :: sp) (g :: gs) :=
 ⟨fun dn W h1 h2 hS hF => h dn W h1 h2 hS hF _ (fun _ _ h1 h2 h3 => ⟨h1, h2, h3⟩), hr⟩
theorem debts_nil {S : (Nat → Bool) → (Nat → Value) → World → Prop} {sp0 : List Spec} {gs0 : List (List Value → World → Prop)} {u : Nat → Value} {a : Act} {i : Nat} {sp : List Spec} {gs : List (List Value → World → Prop)} : debts P ops S sp0 gs0 u a i [] sp gs := by
 cases sp <;> cases gs <;> trivial
theorem debts_get {S : (Nat → Bool) → (Nat → Value) → World → Prop} {sp0 : List Spec} {gs0 : List (List Value → World → Prop)} {u : Nat → Value} {a : Act} : ∀ {l : List Oper} {sp : List Spec} {gs : List (List Value → World → Prop)} {k : Nat} (i : Nat) {o : Oper},
  debts P ops S sp0 gs0 u a k l sp gs → l[i]? = some o → ∃ s g, sp[i]? = some s ∧ gs[i]? = some g ∧ debt P ops S sp0 gs0 u a (k + i) o s g
 | [], _, _, _, _, _, _, h => by simp at h
 | x :: l, [], _, _, _, _, h, _ => by simp [debts] at h
 | x :: l, s :: sp, [], _, _, _, h, _ => by simp [debts] at h
 | x :: l, s :: sp, g :: gs, k, 0, o, h, hi => by
  simp only [List.getElem?_cons_zero, Option.some.injEq] at hi
  subst hi
  exact ⟨s, g, rfl, rfl, h.1⟩
 | x :: l, s :: sp, g :: gs, k, i + 1, o, h, hi => by
  simp only [List.getElem?_cons_succ] at hi ⊢
  have := debts_get i h.2 hi
  rwa [show k + 1 + i = k + (i + 1) by omega] at this
section main
variable {l : List Oper} {n : Nat} {sp : List Spec} {gs : List (List Value → World → Prop)} {S : (Nat → Bool) → (Nat → Value) → World → Prop}
theorem inv_any {Q : Exit → Act → World → Prop} {a0 : Act} (hB : invB l n sp = true) (hT : ∀ g ∈ gs, ∀ vs W W', Below W.heap.size W W' → g vs W → g vs W')
  (hO : ∀ u, debts P l.toArray S sp gs u (putAll u 0 (l.take n) a0) 0 (l.take n) sp gs)
  (hE : ∀ dn u W, (∀ k, k < n → dn k = true) → S dn u W → (∀ k, k < n → factOf sp gs k u W) → wpList P l.toArray Q (l.drop n) (putAll u 0 (l.take n) a0) W) :
  ∀ (f : Nat) (listed : Array Bool) (u : Nat → Value) (W : World), HeadInv .any l.toArray n listed → ∀ dn : Nat → Bool, (∀ k, k < n → dn k = listed.getD k true) → (∀ k, n ≤ k → dn k = false) → S dn u W →
   (∀ k, k < n → listed.getD k true = true → factOf sp gs k u W) → left listed n = f →
   wpAny P .any l.toArray Q (f + (l.length - n)) listed (putAll u 0 (l.take n) a0) W := by
 simp only [invB, Bool.and_eq_true, decide_eq_true_eq] at hB
 obtain ⟨⟨⟨⟨⟨hn, hsp⟩, hd⟩, hops⟩, htail⟩, hseq⟩ := hB
 have hat : ∀ i, i < n → ∃ o s, l[i]? = some o ∧ sp[i]? = some s ∧ (∀ e ∈ o.after, Region.binds .any e = true → e.on < i) ∧ (∀ k ∈ s.deps, k < n ∧ waits o k = true) ∧
   (∀ t ∈ s.supp, t = i ∨ waits o t = true) := fun i hi => by
  have h1 := List.all_eq_true.1 hops i (List.mem_range.2 hi)
  split at h1
  ·rename_i o s ho hs
   simp only [Bool.and_eq_true, List.all_eq_true, decide_eq_true_eq, Bool.or_eq_true] at h1
   refine ⟨o, s, ho, hs, fun e he hb => ?_, fun k hk => h1.1.2 k hk, fun t ht => h1.2 t ht⟩
   rcases h1.1.1 e (by simpa using he) with h2 | h2
   ·simp [hb] at h2
   ·exact h2
  ·cases h1
 intro f
 induction f with
 | zero =>
  intro listed u W inv dn hdn hdm hS hF hl
  have hall := left_zero hl
  have hcan : listed = Array.replicate n true ++ Array.replicate (l.length - n) false := by
   apply Array.ext
   ·rw [inv.size]; simp; omega
   ·intro i h1 h2
    rcases Nat.lt_or_ge i n with h | h
    ·have := hall i h
     rw [Array.getElem_append_left (by simpa using h)]
     simpa [h1] using this
    ·have := inv.tail i h (by have := inv.size; omega)
     rw [Array.getElem_append_right (by simpa using h)]
     simpa [h1] using this
  rw [Nat.zero_add, ← List.length_drop]
  refine wpAny_of_seq (l.drop n) n listed _ W (fun j => by simp) ?_ (hE dn u W (fun k hk => (hdn k hk).trans (hall k hk)) hS fun k hk => hF k hk (hall k hk))
  rw [hcan, List.length_drop]
  exact hseq
 | succ f ih =>
  intro listed u W inv dn hdn hdm hS hF hl
  obtain ⟨i0, hi0, hu0, hm0⟩ := left_pos (listed := listed) (n := n) (by omega)
  have hready0 : i0 ∈ Region.ready .any l.toArray listed := by
   obtain ⟨o, s, ho, _, hlex, _⟩ := hat i0 hi0
   refine mem_ready.2 ⟨hu0, o, by simpa using ho, fun e he hb => ?_⟩
   have h1 := hm0 e.on (hlex e he hb)
   have hlt : e.on < listed.size := by rw [inv.size]; have := hlex e he hb; simp; omega
   simpa [hlt] using h1
  have hlow : ∀ i ∈ Region.ready .any l.toArray listed, i < n := fun i hi => by
   rcases Nat.lt_or_ge i n with h | h
   ·exact h
   ·simp only [Bool.or_eq_true, decide_eq_true_eq, Bool.and_eq_true] at htail
    rcases htail with h2 | h2
    ·obtain ⟨_, o, ho, _⟩ := mem_ready.1 hi
     have := (Array.getElem?_eq_some_iff.1 ho).1
     simp at this
     omega
    ·have hnn : n < l.toArray.size := by
      obtain ⟨_, o, ho, _⟩ := mem_ready.1 hi
      have := (Array.getElem?_eq_some_iff.1 ho).1
      omega
     exact absurd hi (tail_waits h2.1 h2.2 hnn inv _ i0 rfl hi0 hu0 i h)
  rw [show f + 1 + (l.length - n) = (f + (l.length - n)) + 1 by omega]
  refine ⟨fun h0 => (by rw [h0] at hready0; cases hready0), fun i hi => ?_⟩
  have hin := hlow i hi
  obtain ⟨hun, o', ho', hdone⟩ := mem_ready.1 hi
  obtain ⟨o, s, ho, hs, hlex, hdeps, hsupp⟩ := hat i hin
  have hoo : o' = o := by
   have : l.toArray[i]? = some o := by simpa using ho
   exact Option.some.inj (ho'.symm.trans this)
  subst hoo
  have hot : (l.take n)[i]? = some o' := by rw [List.getElem?_take_of_lt hin]; exact ho
  obtain ⟨s', g, hs', hg, hdebt⟩ := debts_get i (hO u) hot
  have hss : s' = s := Option.some.inj (hs'.symm.trans hs)
  subst hss
  have hisz : i < listed.size := by rw [inv.size]; exact (Array.getElem?_eq_some_iff.1 ho').1
  have hfacts : factsOf sp gs u W s'.deps := factsOf_mk fun k hk => by
   obtain ⟨hkn, hw⟩ := hdeps k hk
   obtain ⟨e, he, hb, hon⟩ := waits_spec hw
   have h1 := hdone e he hb
   rw [hon] at h1
   have hksz : k < listed.size := by rw [inv.size]; simp; omega
   refine hF k hkn ?_
   simpa [hksz] using h1
  rw [Nat.zero_add] at hdebt
  have hnext : ∀ v W', owes sp gs S s' g dn u i W v W' → wpAny P .any l.toArray Q (f + (l.length - n)) (listed.setIfInBounds i true) ((putAll u 0 (l.take n) a0).put o'.dst v) W' := fun v W' ⟨hBel, hS', hg'⟩ => by
   have hput := putAll_set u v (l.take n) 0 i o' a0 hd hot
   rw [Nat.zero_add] at hput
   have hleft := left_set hisz hun hin
   rw [hput]
   refine ih _ _ W' (inv.set hi hin) (more dn i) (fun k hk => ?_) (fun k hk => ?_) hS' (fun k hk hlk => ?_) (by omega)
   ·unfold more
    by_cases e : k = i
    ·subst e; simp [hisz]
    ·rw [getD_set_ne true (Ne.symm e), hdn k hk, beq_false_of_ne e, Bool.or_false]
   ·unfold more
    rw [hdm k hk, beq_false_of_ne (by omega)]; rfl
   by_cases hki : k = i
   ·subst hki
    unfold factOf
    rw [hs', hg]
    exact hg'
   ·rw [getD_set_ne true (Ne.symm hki)] at hlk
    have hfk := hF k hk hlk
    have hfk0 := hfk
    obtain ⟨ok, sk, hok, hsk, hlexk, _, hsuppk⟩ := hat k hk
    unfold factOf at hfk ⊢
    rw [hsk] at hfk ⊢
    cases hgk : gs[k]? with
    | none => trivial
    | some gk =>
     rw [hgk] at hfk
     simp only at hfk ⊢
     have hmap : sk.supp.map (fun k => if k = i then v else u k) = sk.supp.map u := List.map_congr_left fun t ht => by
      rcases hsuppk t ht with h1 | h1
      ·rw [if_neg (by omega)]
      ·obtain ⟨e, he, hb, hon⟩ := waits_spec h1
       have hksz : k < listed.size := by rw [inv.size]; simp; omega
       have h2 := inv.closed k ok (by simpa using hok) (by simpa [hksz] using hlk) e he hb
       have hti : t ≠ i := fun e' => by
        rw [hon, e'] at h2
        have : listed.getD i true = true := by simpa [hisz] using h2
        rw [this] at hun
        cases hun
       rw [if_neg hti]
     rw [hmap]
     rcases hBel with hBel | hBel
     ·exact hT gk (List.mem_of_getElem? hgk) _ _ _ hBel hfk
     ·have h9 := hBel k hki hfk0
      unfold factOf at h9
      rw [hsk, hgk] at h9
      exact h9
  have hd1 := hdebt dn W ((hdn i hin).trans hun) (fun k ok hok hw => by
   rcases Nat.lt_or_ge k n with hkn | hkn
   ·obtain ⟨e, he, hb, hon⟩ := waits_spec hw
    rcases hdk : dn k with _ | _
    ·rfl
    ·have hlk : listed.getD k true = true := by rw [← hdn k hkn]; exact hdk
     have hksz : k < listed.size := by rw [inv.size]; exact (Array.getElem?_eq_some_iff.1 hok).1
     have h2 := inv.closed k ok hok (by simpa [hksz] using hlk) e he hb
     rw [hon] at h2
     have : listed.getD i true = true := by simpa [hisz] using h2
     rw [this] at hun
     cases hun
   ·exact hdm k hkn) hS hfacts
  unfold wpOp
  rw [ho']
  simp only
  split
  ·rename_i hw
   rw [if_pos hw] at hd1
   exact .inl (wp_of_takes hd1 hnext)
  ·rename_i hw
   rw [if_neg hw] at hd1
   exact hnext undef W hd1
theorem done_all {Q : Exit → Act → World → Prop} {a0 : Act} {w : World} (n : Nat) (sp : List Spec) (gs : List (List Value → World → Prop)) (S : (Nat → Bool) → (Nat → Value) → World → Prop) (hB : invB l n sp = true)
  (hT : ∀ g ∈ gs, ∀ vs W W', Below W.heap.size W W' → g vs W → g vs W') (h0 : S (fun _ => false) (initU (l.take n) a0) w.drew)
  (hO : ∀ u, debts P l.toArray S sp gs u (putAll u 0 (l.take n) a0) 0 (l.take n) sp gs)
  (hE : ∀ dn u W, (∀ k, k < n → dn k = true) → S dn u W → factsOf sp gs u W (List.range n) → wpList P l.toArray Q (l.drop n) (putAll u 0 (l.take n) a0) W) :
  wpAny P .any l.toArray Q l.toArray.size (Array.replicate l.toArray.size false) a0 w.drew := by
 have hn : n ≤ l.length := by
  simp only [invB, Bool.and_eq_true, decide_eq_true_eq] at hB
  exact hB.1.1.1.1.1
 have hu := putAll_start (l.take n) a0
 have inv0 : HeadInv .any l.toArray n (Array.replicate l.toArray.size false) :=
  ⟨by simp, fun j oj _ hl => (by rw [getD_replicate_false] at hl; cases hl), fun t _ ht => getD_in (by simpa using ht) (getD_replicate_false _ _)⟩
 have hl0 : left (Array.replicate l.toArray.size false) n = n := by
  have := left_all n (l.length - n) n (Nat.le_refl _)
  rwa [show n + (l.length - n) = l.toArray.size by simp; omega] at this
 have hfl : ∀ k, k < n → (Array.replicate l.toArray.size false).getD k true = false := fun k hk => getD_in (by simp; omega) (getD_replicate_false _ _)
 have key := inv_any (P := P) (S := S) (gs := gs) (a0 := a0) (Q := Q) hB hT hO (fun dn u W hd hS hF => hE dn u W hd hS (factsOf_mk fun k hk => hF k (List.mem_range.1 hk))) n _ (initU (l.take n) a0) w.drew inv0 (fun _ => false) (fun k hk => (hfl k hk).symm) (fun _ _ => rfl) h0 (fun k hk hlk => by
  rw [hfl k hk] at hlk
  cases hlk) hl0
 rw [hu, show n + (l.length - n) = l.toArray.size by simp; omega] at key
 exact key
end main
end Go.Proofs.YtppjkikaaonbkaaGreatDoor.Dn
namespace Go.Proofs.YtppjkikaaonbkaaGreatDoor
set_option maxRecDepth 100000
set_option maxHeartbeats 80000000
open Go.RowKit Go.Sort
attribute [local go_sem] takes takesUpon_value takesUpon_skip takesUpon_enter
def SameB (W : World) : List Bk → List Bk → Prop
 | [], [] => True
 | b :: r, c :: s => (b.pos = c.pos ∧ Bx W c.pos c.ty c.vs) ∧ SameB W r s
 | _, _ => False
theorem Boxes.same {w W W' : World} : ∀ {bs bs' : List Bk}, Boxes w W bs → SameB W' bs bs' → Boxes w W' bs' ∧ (∀ c' ∈ bs', ∃ c ∈ bs, c.pos = c'.pos)
 | [], [], _, _ => ⟨trivial, fun c' h => by cases h⟩
 | [], _ :: _, _, h => h.elim
 | _ :: _, [], _, h => h.elim
 | b :: r, c :: s, h, k => by
  obtain ⟨i1, i2⟩ := h.2.same k.2
  refine ⟨⟨⟨k.1.1 ▸ h.1.1, k.1.2, fun d hd => ?_⟩, i1⟩, fun d hd => ?_⟩
  ·obtain ⟨d', h1, h2⟩ := i2 d hd
   rw [← h2, ← k.1.1]
   exact h.1.2.2 d' h1
  ·rcases List.mem_cons.1 hd with rfl | hd
   ·exact ⟨b, by simp, k.1.1⟩
   ·obtain ⟨d', h1, h2⟩ := i2 d hd
    exact ⟨d', by simp [h1], h2⟩
theorem St.same {w W W' : World} {bs bs' : List Bk} {fs fs' : List Fc} (h : St w bs fs W) (hb : Below w.heap.size w W') (hs : SameB W' bs bs') (hf : Facts W' fs') : St w bs' fs' W' :=
 ⟨hb, (h.box.same hs).1, hf⟩
theorem St.lo {w W : World} {bs : List Bk} {fs : List Fc} (h : St w bs fs W) (k b : Nat) (T : TypeId) (vs : List Value) (hk : bs[k]? = some ⟨b, T, vs⟩) : w.heap.size ≤ b := (h.box.get hk).1
theorem Boxes.del {w W : World} : ∀ {bs : List Bk} (k : Nat), Boxes w W bs → Boxes w W (bs.eraseIdx k) ∧ (∀ c ∈ bs.eraseIdx k, c ∈ bs)
 | [], _, _ => ⟨trivial, fun _ h => h⟩
 | b :: r, 0, h => ⟨h.2, fun c hc => by simp at hc; simp [hc]⟩
 | b :: r, k + 1, h => by
  obtain ⟨i1, i2⟩ := h.2.del k
  exact ⟨⟨⟨h.1.1, h.1.2.1, fun c hc => h.1.2.2 c (i2 c hc)⟩, i1⟩, fun c hc => by
   rcases List.mem_cons.1 hc with rfl | hc
   ·simp
   ·simp [i2 c hc]⟩
theorem St.del {w W : World} {bs : List Bk} {fs : List Fc} (h : St w bs fs W) (k : Nat) : St w (bs.eraseIdx k) fs W := ⟨h.bel, (h.box.del k).1, h.fct⟩
theorem Boxes.del_ne {w W : World} : ∀ {bs : List Bk} {k : Nat} {b : Bk}, Boxes w W bs → bs[k]? = some b → ∀ c ∈ bs.eraseIdx k, b.pos ≠ c.pos
 | [], _, _, _, h => by simp at h
 | a :: r, 0, b, h, e => fun c hc => by simp at e hc; subst e; exact h.1.2.2 c hc
 | a :: r, k + 1, b, h, e => fun c hc => by
  have e' : r[k]? = some b := by simpa using e
  rcases List.mem_cons.1 hc with rfl | hc
  ·exact fun e2 => h.1.2.2 b (List.mem_of_getElem? e') e2.symm
  ·exact h.2.del_ne e' c hc
theorem St.del_ne {w W : World} {bs : List Bk} {fs : List Fc} (h : St w bs fs W) (k : Nat) {b : Bk} (hk : bs[k]? = some b) : ∀ c ∈ bs.eraseIdx k, b.pos ≠ c.pos := h.box.del_ne hk
def flQ (r : Rat) : Rat := ((r.num / (r.den : Int) : Int) : Rat)
theorem floor_q (r : Rat) (v : Value) (k : Nat) (w : World) (h : IsQ w v r) (hk : k ≤ 17179869183) (f : Fits k r) : Calls Tryz.prog 49 #[v] w (RetQ w (flQ r)) := Floor_calls r v k w h hk f
def cfr (a : Rat) : Nat → Rat
 | 0 => a
 | i + 1 => (cfr a i - flQ (cfr a i))⁻¹
structure Cv where
 p : Rat
 q : Rat
 lp : Rat
 lq : Rat
def cv (a : Rat) : Nat → Cv
 | 0 => ⟨1, 0, 0, 1⟩
 | i + 1 => ⟨(cv a i).lp + flQ (cfr a i) * (cv a i).p, (cv a i).lq + flQ (cfr a i) * (cv a i).q, (cv a i).p, (cv a i).q⟩
def absQ (r : Rat) : Rat := if r.num < 0 then -r else r
def sgQ (r : Rat) : Int := sgn (decide (r.num < 0)) r.num.natAbs
theorem Sign_q (r : Rat) (v : Value) (w : World) (h : IsQ w v r) : Calls Tryz.prog 17 #[v] w (RetI w (.int .i64 (sgQ r))) := by
 obtain ⟨t, x, p, l, q, y, p', s, u, rfl, i, j, e⟩ := h.shape
 have e' := e.out
 subst e'
 exact Sign_calls _ _ _ _ _ _ w i
theorem sgQ_zero : sgQ 0 = 0 := by decide
theorem absQ_num (r : Rat) : (absQ r).num.natAbs = r.num.natAbs ∧ (absQ r).den = r.den := by
 unfold absQ
 split
 ·exact ⟨by rw [Rat.neg_num, Int.natAbs_neg], Rat.neg_den r⟩
 ·exact ⟨rfl, rfl⟩
theorem Fits.abs {k : Nat} {r : Rat} (h : Fits k r) : Fits k (absQ r) := by
 obtain ⟨h1, h2⟩ := absQ_num r
 exact ⟨by rw [h1]; exact h.1, by rw [h2]; exact h.2⟩
theorem steps_calls (v : Value) (w : World) (t : Bool) (x : Int) (p : Option Addr) (l q : Nat) (y : Int) (r : Option Addr) (s u : Nat) (hv : v = .agg #[.bool t, .int .u64 x, .slice p l q, .int .u64 y, .slice r s u]) : Calls Tryz.prog 144 #[v] w fun e w' =>
  e = .returned (.func (.func 190) #[] #[.pointer (some ⟨w.heap.size, 0, none⟩)]) ∧ w' = w.alloc (.cells #[.bool t, .int .u64 x, .slice p l q, .int .u64 y, .slice r s u] 31) := by
 subst hv
 go_enter Tryz.func144, Tryz.ntmps144
 go_wp2
 go_ret
 exact ⟨rfl, rfl⟩
theorem nearer_lt (A X Y : Rat) (va vx vy : Value) (k : Nat) (w : World) (h0 : IsQ w va A) (h1 : IsQ w vx X) (h2 : IsQ w vy Y) (hk : k ≤ 17179869183) (f0 : Fits k A) (f1 : Fits k X) (f2 : Fits k Y) (f3 : Fits k (X - A)) (f4 : Fits k (Y - A)) (hlt : cmpQ (absQ (X - A)) (absQ (Y - A)) = -1) (hT : Tab w) :
  Calls Tryz.prog 145 #[va, vx, vy] w (RetQ w X) := by
 have HT := hid hT
 have HX := hid (fun (W : World) (v1 v2 : Value) (i : IsQ W v1 X) (j : IsQ W v2 A) (hT : Tab W) => Sub_calls X A v1 v2 k W i j (by omega) f1 f0 hT)
 have HY := hid (fun (W : World) (v1 v2 : Value) (i : IsQ W v1 Y) (j : IsQ W v2 A) (hT : Tab W) => Sub_calls Y A v1 v2 k W i j (by omega) f2 f0 hT)
 have HC := hid (fun (W : World) (v1 v2 : Value) (i : IsQ W v1 (absQ (X - A))) (j : IsQ W v2 (absQ (Y - A))) => hlt ▸ Cmp_calls _ _ v1 v2 k W i j (by omega) f3.abs f4.abs)
 have HAX := hid (fun (W : World) (v : Value) (i : IsQ W v (X - A)) => Abs_calls (X - A) v W i)
 have HAY := hid (fun (W : World) (v : Value) (i : IsQ W v (Y - A)) => Abs_calls (Y - A) v W i)
 obtain ⟨t1, x1, p1, l1, q1, y1, r1, s1, u1, rfl⟩ := h0.open
 obtain ⟨t2, x2, p2, l2, q2, y2, r2, s2, u2, rfl⟩ := h1.open
 obtain ⟨t3, x3, p3, l3, q3, y3, r3, s3, u3, rfl⟩ := h2.open
 have H := hid (And.intro h0 (And.intro h1 h2))
 clear h0 h1 h2 f0 f1 f2 f3 f4 hlt hT
 go_enter Tryz.func145, Tryz.ntmps145
 go_wp2_with fail
 have hS0 := hid (((((St.start w).alloc' (w.heap.size) (by simp) 31 (c5 t1 x1 p1 l1 q1 y1 r1 s1 u1)).alloc' (w.heap.size + 1) (by simp) 31 (c5 t2 x2 p2 l2 q2 y2 r2 s2 u2)).alloc' (w.heap.size + 1 + 1) (by simp) 31 (c5 t3 x3 p3 l3 q3 y3 r3 s3 u3)).alloc' (w.heap.size + 1 + 1 + 1) (by simp) 31 z5)
 obtain ⟨W0, hW0⟩ := nameW hS0
 rw [hW0] at hS0 ⊢
 clear hW0
 have g1 := H.out.1.below hS0.out.bel
 have g2 := H.out.2.1.below hS0.out.bel
 have g3 := H.out.2.2.below hS0.out.bel
 clear H
 have hS1 := hid (hS0.out.fq g1)
 clear hS0 g1
 have hS2 := hid (hS1.out.fq g2)
 clear hS1 g2
 have hS3 := hid (hS2.out.fq g3)
 clear hS2 g3
 have LM0 := hid (fun (W : World) (h : Below W0.heap.size W0 W) => (hS3.out.call h).q5 2 1 (w.heap.size + 1) 31 t2 x2 p2 l2 q2 y2 r2 s2 u2 X rfl rfl)
 have LM1 := hid (fun (W : World) (h : Below W0.heap.size W0 W) => (hS3.out.call h).q5 3 2 w.heap.size 31 t1 x1 p1 l1 q1 y1 r1 s1 u1 A rfl rfl)
 have LM2 := hid (fun (W : World) (h : Below W0.heap.size W0 W) => HT.out.below (hS3.out.call h).bel (Nat.le_refl _))
 have LM3 := hid (fun (W : World) (h : Below W0.heap.size W0 W) => (hS3.out.call h).q5 1 0 (w.heap.size + 1 + 1) 31 t3 x3 p3 l3 q3 y3 r3 s3 u3 Y rfl rfl)
 refine wp_region_inv 9 [⟨[], [0]⟩, ⟨[], [1]⟩, ⟨[0, 1], [2]⟩, ⟨[2], [3]⟩, ⟨[], [4]⟩, ⟨[], [5]⟩, ⟨[4, 5], [6]⟩, ⟨[6], [7]⟩, ⟨[3, 7], [8]⟩]
  [oQ X, oQ A, oQ (X - A), oQ (absQ (X - A)), oQ Y, oQ A, oQ (Y - A), oQ (absQ (Y - A)), oE (.int .i64 (-1))]
  (fun _ W => Below W0.heap.size W0 W) (by kernel_rfl) (by kernel_rfl) ?hTW1 ?hZW1 ?hOW1 ?hEW1
 case hZW1 => exact (Below.refl _ _).drew
 case hTW1 =>
  simp only [List.forall_mem_cons, List.not_mem_nil, false_imp_iff, implies_true, and_true]
  exact ⟨bQ, bQ, bQ, bQ, bQ, bQ, bQ, bQ, bE⟩
 case hOW1 =>
  intro u
  simp only [List.take_succ_cons, List.take_zero, putAll]
  repeat' (first | with_reducible exact debts_nil | with_reducible refine debts_cons ?_ ?_)
  ·intro W hS hF K hK
   have hc := LM0.out W hS
   go_simp
   exact hK _ _ (.refl _ _) hS hc.2
  ·intro W hS hF K hK
   have hc := LM1.out W hS
   go_simp
   exact hK _ _ (.refl _ _) hS hc.2
  ·intro W hS hF K hK
   have hq0 : IsQ W (u 0) X := hF.1
   have hq1 : IsQ W (u 1) A := hF.2.1
   clear hF
   go_simp
   refine (HX.out _ _ _ hq0 hq1 (LM2.out W hS)).mono ?_
   rintro e wA ⟨v, rfl, hv, hBA⟩
   exact ⟨_, rfl, hK _ _ hBA (hS.trans (hBA.mono hS.size)) hv⟩
  ·intro W hS hF K hK
   have hq2 : IsQ W (u 2) (X - A) := hF.1
   clear hF
   go_simp
   refine (HAX.out _ _ hq2).mono ?_
   rintro e wA ⟨v, rfl, hv, hBA⟩
   exact ⟨_, rfl, hK _ _ hBA (hS.trans (hBA.mono hS.size)) hv⟩
  ·intro W hS hF K hK
   have hc := LM3.out W hS
   go_simp
   exact hK _ _ (.refl _ _) hS hc.2
  ·intro W hS hF K hK
   have hc := LM1.out W hS
   go_simp
   exact hK _ _ (.refl _ _) hS hc.2
  ·intro W hS hF K hK
   have hq4 : IsQ W (u 4) Y := hF.1
   have hq5 : IsQ W (u 5) A := hF.2.1
   clear hF
   go_simp
   refine (HY.out _ _ _ hq4 hq5 (LM2.out W hS)).mono ?_
   rintro e wA ⟨v, rfl, hv, hBA⟩
   exact ⟨_, rfl, hK _ _ hBA (hS.trans (hBA.mono hS.size)) hv⟩
  ·intro W hS hF K hK
   have hq6 : IsQ W (u 6) (Y - A) := hF.1
   clear hF
   go_simp
   refine (HAY.out _ _ hq6).mono ?_
   rintro e wA ⟨v, rfl, hv, hBA⟩
   exact ⟨_, rfl, hK _ _ hBA (hS.trans (hBA.mono hS.size)) hv⟩
  ·intro W hS hF K hK
   have hq3 : IsQ W (u 3) (absQ (X - A)) := hF.1
   have hq7 : IsQ W (u 7) (absQ (Y - A)) := hF.2.1
   clear hF
   go_simp
   refine (HC.out _ _ _ hq3 hq7).mono ?_
   rintro e wA ⟨rfl, hBA⟩
   exact ⟨_, rfl, hK _ _ hBA (hS.trans (hBA.mono hS.size)) rfl⟩
 case hEW1 =>
  intro u W1 hS hF
  have hS4 := hid (hS3.out.call hS)
  have h8 : u 8 = .int .i64 (-1) := hF.2.2.2.2.2.2.2.2.1
  clear hF hS
  obtain ⟨⟨cX0, cX1, cX2, cX3, cX4⟩, fX0, fX1, fX2, fX3, fX4⟩ := hS4.out.f5 2 (w.heap.size + 1) 31 (.bool t2) (.int .u64 x2) (.slice p2 l2 q2) (.int .u64 y2) (.slice r2 s2 u2) rfl
  obtain ⟨⟨cR0, cR1, cR2, cR3, cR4⟩, fR0, fR1, fR2, fR3, fR4⟩ := hS4.out.f5 0 (w.heap.size + 1 + 1 + 1) 31 (.bool false) (.int .u64 0) (.slice none 0 0) (.int .u64 0) (.slice none 0 0) rfl
  simp only [List.take_succ_cons, List.take_zero, putAll, List.drop_succ_cons, List.drop_zero]
  have hS5 := hid (((((((hS4.out).store (b := ⟨w.heap.size + 1 + 1 + 1, 31, z5⟩) 0 0 (.bool t2) rfl rfl).store (b := ⟨w.heap.size + 1 + 1 + 1, 31, [.bool t2, .int .u64 0, .slice none 0 0, .int .u64 0, .slice none 0 0]⟩) 0 1 (.int .u64 x2) rfl rfl).store (b := ⟨w.heap.size + 1 + 1 + 1, 31, [.bool t2, .int .u64 x2, .slice none 0 0, .int .u64 0, .slice none 0 0]⟩) 0 2 (.slice p2 l2 q2) rfl rfl).store (b := ⟨w.heap.size + 1 + 1 + 1, 31, [.bool t2, .int .u64 x2, .slice p2 l2 q2, .int .u64 0, .slice none 0 0]⟩) 0 3 (.int .u64 y2) rfl rfl).store (b := ⟨w.heap.size + 1 + 1 + 1, 31, [.bool t2, .int .u64 x2, .slice p2 l2 q2, .int .u64 y2, .slice none 0 0]⟩) 0 4 (.slice r2 s2 u2) rfl rfl).as [⟨w.heap.size + 1 + 1 + 1, 31, (c5 t2 x2 p2 l2 q2 y2 r2 s2 u2)⟩, ⟨w.heap.size + 1 + 1, 31, (c5 t3 x3 p3 l3 q3 y3 r3 s3 u3)⟩, ⟨w.heap.size + 1, 31, (c5 t2 x2 p2 l2 q2 y2 r2 s2 u2)⟩, ⟨w.heap.size, 31, (c5 t1 x1 p1 l1 q1 y1 r1 s1 u1)⟩] rfl)
  go_wp2_with fail
  clear cX0 cX1 cX2 cX3 cX4 fX0 fX1 fX2 fX3 fX4 cR0 cR1 cR2 cR3 cR4 fR0 fR1 fR2 fR3 fR4
  obtain ⟨⟨zR0, zR1, zR2, zR3, zR4⟩, -⟩ := hS5.out.f5 0 (w.heap.size + 1 + 1 + 1) 31 (.bool t2) (.int .u64 x2) (.slice p2 l2 q2) (.int .u64 y2) (.slice r2 s2 u2) rfl
  exact bodyPost_ret (v := .agg #[.bool t2, .int .u64 x2, .slice p2 l2 q2, .int .u64 y2, .slice r2 s2 u2]) (by simp [results, Tryz.results145, go_sem, zR0, zR1, zR2, zR3, zR4]) rfl ⟨_, rfl, (hS5.out.gq 1 rfl), hS5.out.bel⟩
end Go.Proofs.YtppjkikaaonbkaaGreatDoor
