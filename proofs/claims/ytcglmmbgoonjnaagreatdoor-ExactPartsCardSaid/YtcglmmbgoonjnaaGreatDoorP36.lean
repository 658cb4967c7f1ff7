/- What the proof rests on, part 36. -/
import Derived.Test.YtcglmmbgoonjnaaGreatDoorP35
import Derived.Test.YtcglmmbgoonjnaaGreatDoorP21
import Derived.Test.YtcglmmbgoonjnaaGreatDoorP15
namespace Go.Proofs.YtcglmmbgoonjnaaGreatDoor
set_option maxRecDepth 100000
set_option maxHeartbeats 80000000
namespace Z4
open Go.RowKit Go.Sort Go.Lib
theorem S9 (n:Int) (h1:-9223372036854775808≤n) (h2:n≤9223372036854775807) (w:World):Calls Tryz.prog 27 #[.int .i64 n] w (dw w (n:Rat)):=by
 have HN:=hid (fun (W:World)=>jg n h1 h2 W)
 have HD:=hid (fun (W:World)=>jg 1 (by decide) (by decide) W)
 clear h1 h2
 go_enter Tryz.func27,Tryz.ntmps27
 go_wp2_with fail
 have hS0:=hid ((St.start w).alloc' (w.heap.size) (by simp) 40 [.bool false,.slice none 0 0,.bool false,.slice none 0 0])
 obtain ⟨W0,hW0⟩:=aK hS0
 rw [hW0] at hS0 ⊢
 clear hW0
 refine (HN.out _).mono ?_
 rintro e w1 hret
 obtain ⟨v1,rfl,hz1,hB⟩:=hret.z
 clear hret
 obtain ⟨t1,p1,l1,k1,rfl⟩:=hz1.open
 have hS1:=hid (hS0.out.call hB)
 clear hB
 clear hS0
 have hS2:=hid (hS1.out.fact (.z (.agg #[.bool t1,.slice p1 l1 k1]) n) hz1)
 clear hS1 hz1
 go_wp2_with fail
 refine (HD.out _).mono ?_
 rintro e w2 hret
 obtain ⟨v2,rfl,hz2,hB⟩:=hret.z
 clear hret
 obtain ⟨t2,p2,l2,k2,rfl⟩:=hz2.open
 obtain rfl:t2=false:=by
  obtain ⟨_,e,-⟩:=hz2.parts
  rw [e];rfl
 have hS3:=hid (hS2.out.call hB)
 clear hB
 clear hS2
 have hS4:=hid (hS3.out.fact (.z (.agg #[.bool false,.slice p2 l2 k2]) 1) hz2)
 clear hS3 hz2
 obtain ⟨⟨cR0,cR1,cR2,cR3⟩,fR0,fR1,fR2,fR3⟩:=hS4.out.f4 0 w.heap.size 40 (.bool false) (.slice none 0 0) (.bool false) (.slice none 0 0) rfl
 have hS8:=hid ((((((hS4.out).store (b:=⟨w.heap.size,40,[.bool false,.slice none 0 0,.bool false,.slice none 0 0]⟩) 0 0 (.bool t1) rfl rfl).store (b:=⟨w.heap.size,40,[.bool t1,.slice none 0 0,.bool false,.slice none 0 0]⟩) 0 1 (.slice p1 l1 k1) rfl rfl).store (b:=⟨w.heap.size,40,[.bool t1,.slice p1 l1 k1,.bool false,.slice none 0 0]⟩) 0 2 (.bool false) rfl rfl).store (b:=⟨w.heap.size,40,[.bool t1,.slice p1 l1 k1,.bool false,.slice none 0 0]⟩) 0 3 (.slice p2 l2 k2) rfl rfl).as [⟨w.heap.size,40,[.bool t1,.slice p1 l1 k1,.bool false,.slice p2 l2 k2]⟩] rfl)
 go_wp2_with fail
 clear cR0 cR1 cR2 cR3 fR0 fR1 fR2 fR3
 obtain ⟨⟨zR0,zR1,zR2,zR3⟩,-⟩:=hS8.out.f4 0 w.heap.size 40 (.bool t1) (.slice p1 l1 k1) (.bool false) (.slice p2 l2 k2) rfl
 exact bodyPost_ret (v:=.agg #[.bool t1,.slice p1 l1 k1,.bool false,.slice p2 l2 k2]) (by simp [results,Tryz.results27,go_sem,zR0,zR1,zR2,zR3]) rfl ⟨_,rfl,.mk2 (by rw [Rat.num_intCast];exact hS8.out.get (f:=.z (.agg #[.bool t1,.slice p1 l1 k1]) n) 1 rfl) (by rw [Rat.den_intCast];exact hS8.out.get (f:=.z (.agg #[.bool false,.slice p2 l2 k2]) 1) 0 rfl),hS8.out.bel⟩
end Z4
namespace Rx
open Go.RowKit
section
variable (β:Nat→Rat) (h:Hint)
end
section
variable {β:Nat→Rat} {h:Hint} {ρ:Env} {W:World} {db:List Fc}
end
end Rx
section
theorem Dc {n v v':Nat} (h:dh n v) (h':dh n v'):v=v':=by
 have key:∀ {a b:Nat},dh n a→dh n b→a≤b:=fun {a b} h h'=>by
  rcases Nat.eq_zero_or_pos n with h0 | h0
  ·rw [h.1 h0];omega
  ·obtain ⟨h1,h2,-⟩:=h.2 h0
   obtain ⟨-,-,h3⟩:=h'.2 h0
   have:=(Nat.pow_lt_pow_iff_right (show 1<2 by decide)).1 (Nat.lt_of_le_of_lt h2 h3)
   omega
 exact Nat.le_antisymm (key h h') (key h' h)
theorem kF {n v:Nat} (h:dh n v) (hn:n<B64 ^ 4):v≤256:=by
 rcases Nat.eq_zero_or_pos n with h0 | h0
 ·rw [h.1 h0];omega
 ·obtain ⟨h1,h2,-⟩:=h.2 h0
  have:2 ^ (v - 1)<2 ^ 256:=Nat.lt_of_le_of_lt h2 (by rw [show (2:Nat) ^ 256=B64 ^ 4 by decide +kernel];exact hn)
  have:=(Nat.pow_lt_pow_iff_right (show 1<2 by decide)).1 this
  omega
namespace Rx
open Go.RowKit
def tK (β:Nat→Rat):Con (SR β) where
 fn:=138
 app:=fun db b args=>match args with
  | [.e (.a x)]=>match asY db x with
   | some (.num (.v 0),k)=>if k≤4 then some (.e (.s (.oi b)),[.i b (.v 1)]) else none
   | some (.den (.v 0),k)=>if k≤4 then some (.e (.s (.oi b)),[.i b (.v 2)]) else none
   | _=>none
  | _=>none
section
variable {β:Nat→Rat} {f:FuncId} {vals:Array Value} {W:World} {ρ:Env} {b:Nat}
theorem CS {n:Int} {e:RE} (hc:Calls Tryz.prog f vals W (aI W (.int .i64 n))) (hn:(n:Rat)=e.ev β):Calls Tryz.prog f vals W (Anr β ρ b W (.e (.s (.oi b))) [.i b e]):=by
 refine hc.mono fun _ W' ⟨he,hb⟩=>?_
 refine ⟨aC ρ b [nu n],dS (by simp [M]),?_,hb,fun g hg=>?_⟩
 ·rw [he];simp [SV.den,El.den,Cell.den,aC,nu]
 ·rw [List.mem_singleton] at hg
  subst hg
  show (((aC ρ b _ b).u:Int):Rat)=_
  simp only [aC,Nat.le_refl,if_true,Nat.sub_self,List.getElem?_cons_zero,Option.getD_some,nu]
  exact hn
theorem KI {n m:Nat} (hn:dh (β 0).num.natAbs n) (hm:dh (β 0).den m) (h1:β 1=((n:Int):Rat)) (h2:β 2=((m:Int):Rat)):(tK β).Ok Tryz.prog (SR β) EV:=by
 intro db b args res new ha ρ W hf hE
 have key:∀ {z:Int} {v:Value} {x:Nat},Z4.IsZ W v z→z.natAbs<B64 ^ 4→dh z.natAbs x→Calls Tryz.prog 138 #[v] W (aI W (.int .i64 (x:Int))):=fun hz hk hx =>
  (Z4.U7 _ _ W hz hk hE).mono fun e W' ⟨y,he,hy,hb⟩=>⟨by rw [he,Dc hy hx],hb⟩
 simp only [tK] at ha
 split at ha
 ·split at ha
  ·rename_i k hx
   split at ha
   ·rename_i hk
    cases ha
    obtain ⟨z,g1,g2,g3⟩:=gy hx hf
    have hz:z=(β 0).num:=by exact_mod_cast (show (z:Rat)=((β 0).num:Rat) from g2)
    exact CS (e:=.v 1) (key g1 (Nat.lt_of_lt_of_le g3 (Nat.pow_le_pow_right (by decide) hk)) (by rw [hz];exact hn)) h1.symm
   ·cases ha
  ·rename_i k hx
   split at ha
   ·rename_i hk
    cases ha
    obtain ⟨z,g1,g2,g3⟩:=gy hx hf
    have hz:z=((β 0).den:Int):=by exact_mod_cast (show (z:Rat)=((((β 0).den:Nat):Int):Rat) from g2)
    exact CS (e:=.v 2) (key g1 (Nat.lt_of_lt_of_le g3 (Nat.pow_le_pow_right (by decide) hk)) (by rw [hz,Int.natAbs_natCast];exact hm)) h2.symm
   ·cases ha
  ·cases ha
 ·cases ha
end
def zu (e:RE):Option (SV×List Fd)→Bool
 | some (.e (.s (.oi a)),fs)=>match jv fs a with
  | some e'=>e'.beq e
  | none=>false
 | _=>false
theorem OY {e:RE} {o:Option (SV×List Fd)} (h:zu e o=true):∃ a fs,o=some (.e (.s (.oi a)),fs)∧jv fs a=some e:=by
 unfold zu at h
 split at h
 ·split at h
  ·rename_i a fs _ e' ha;exact ⟨a,fs,rfl,by rw [ha,RE.beq_eq h]⟩
  ·cases h
 ·cases h
def isT (x:Int) (y:Bool):Option (SV×List Fd)→Bool
 | some (.t [.s (.it .i64 a),.s (.bl b)],_)=>a == x && b == y
 | _=>false
theorem Pj {x:Int} {y:Bool} {o:Option (SV×List Fd)} (h:isT x y o=true):∃ fs,o=some (.t [.s (.it .i64 x),.s (.bl y)],fs):=by
 unfold isT at h
 split at h
 ·rename_i a b fs
  simp only [Bool.and_eq_true,beq_iff_eq] at h
  exact ⟨fs,by rw [h.1,h.2]⟩
 ·cases h
section
variable {W:World} {r:Rat} {v:Value}
theorem oK {a b:Rat} (h:a<b):aG a b = -1:=by unfold aG;rw [if_pos h]
theorem JL {a b:Rat} (h:b<a):aG a b=1:=by unfold aG;rw [if_neg (by grind),if_neg (by grind)]
theorem SA {n m:Nat} (h1:Z4.IsR W v r) (f1:Fits 4 r) (hn:dh r.num.natAbs n) (hm:dh r.den m) (hE:EV W):Calls Tryz.prog 43 #[v] W (aI W (.int .i64 ((n+m:Nat):Int))):=by
 have b1:=kF hn f1.1
 have b2:=kF hm f1.2
 obtain ⟨β,hβ⟩:∃ β,β=bet [r,((n:Int):Rat),((m:Int):Rat)]:=⟨_,rfl⟩
 have e0:β 0=r:=by rw [hβ];rfl
 have e1:β 1=((n:Int):Rat):=by rw [hβ];rfl
 have e2:β 2=((m:Int):Rat):=by rw [hβ];rfl
 clear hβ
 have hs:(RE.add (.v 1) (.v 2)).ev β=(((n+m:Nat):Int):Rat):=by show β 1+β 2=_;rw [e1,e2,← Rat.intCast_add];rfl
 have ok:Hint.Ok β { cm:=[(.add (.v 1) (.v 2),.c 4611686018427387904,-1),(.c (-1),.add (.v 1) (.v 2),-1)] }:=dO (fun p hp=>by
  simp only [List.mem_cons,List.not_mem_nil,or_false] at hp
  rcases hp with rfl | rfl
  ·show aG ((RE.add (.v 1) (.v 2)).ev β) ((4611686018427387904:Int):Rat) = -1
   rw [hs];exact oK (Rat.intCast_lt_intCast.2 (by omega))
  ·show aG ((-1:Int):Rat) ((RE.add (.v 1) (.v 2)).ev β) = -1
   rw [hs];exact oK (Rat.intCast_lt_intCast.2 (by omega))) (fun p h=>by cases h) (fun p h=>by cases h)
 obtain ⟨c,d,rfl⟩:=jc h1
 have hr:zu (.add (.v 1) (.v 2)) (runF Tryz.prog (SR β) (HL β _ ok) [tK β,oN β] 1 43 [rr 0] [.r 0 (.v 0) 4] 2)=true:=by kernel_rfl
 obtain ⟨a,fs,heq,ha⟩:=OY hr
 have hcons:∀ x∈[tK β,oN β],x.Ok Tryz.prog (SR β) EV:=by
  simp only [List.forall_mem_cons,List.not_mem_nil,false_imp_iff,implies_true,and_true]
  exact ⟨KI (by rw [e0];exact hn) (by rw [e0];exact hm) e1 e2,xM⟩
 refine (runF_ok (ρ:=ev [c,d]) mixed hcons heq (fM hE) (fun g hg=>by
  obtain rfl:=List.mem_singleton.1 hg
  show Z4.IsR W _ (β 0)∧Fits 4 (β 0)
  rw [e0]
  exact ⟨h1,f1⟩)).mono fun x W' ⟨ρ',_,hx,hb,hfs⟩=>⟨?_,hb⟩
 have h3:(((ρ' a).u:Int):Rat)=(RE.add (.v 1) (.v 2)).ev β:=hfs _ (jQ ha)
 rw [hs] at h3
 have h4:(ρ' a).u=((n+m:Nat):Int):=by exact_mod_cast h3
 rw [hx]
 simp [SV.den,El.den,Cell.den,h4]
def yj (β:Nat→Rat):Con (SR β) where
 fn:=27
 app:=fun _ b args=>match args with
  | [.e (.s (.it .i64 n))]=>if decide (-9223372036854775808≤n) && decide (n≤9223372036854775807) then some (.e (.a (aV b)),[.r b (.c n) 1]) else none
  | _=>none
theorem Kv {β:Nat→Rat}:(yj β).Ok Tryz.prog (SR β) EV:=by
 intro db b args res new ha ρ W hf hE
 simp only [yj] at ha
 split at ha
 ·split at ha
  ·rename_i hk
   simp only [Bool.and_eq_true,decide_eq_true_eq] at hk
   cases ha
   exact oG (e:=.c _) (Z4.S9 _ hk.1 hk.2 W) (fits_int hk.1 hk.2)
  ·cases ha
 ·cases ha
def ch (β:Nat→Rat) (h:Hint):List (Con (SR β)):=[yj β,sV β h,oN β]
theorem Di {β:Nat→Rat} {h:Hint} (ok:h.Ok β):∀ c∈ch β h,c.Ok Tryz.prog (SR β) EV:=by
 unfold ch
 simp only [List.forall_mem_cons,List.not_mem_nil,false_imp_iff,implies_true,and_true]
 exact ⟨Kv,DC ok,xM⟩
abbrev lo:RE:=.c (-9223372036854775808)
abbrev hi:RE:=.c 9223372036854775807
def iH (c1 c2 c3:Int) (ne:Bool) (eq:Bool):Hint where
 cm:=[(.v 0,lo,c1),(.v 0,hi,c2),(.den (.v 0),.c 10000,c3)]
 ne:=if ne then [(rem (.den (.v 0)) (.c 10000),.c 1)] else []
 eq:=if eq then [(rem (.den (.v 0)) (.c 10000),.c 1)] else []
theorem pG {β:Nat→Rat} {c1 c2 c3:Int} {ne eq:Bool} (h1:aG (β 0) ((-9223372036854775808:Int):Rat)=c1) (h2:aG (β 0) ((9223372036854775807:Int):Rat)=c2) (h3:aG ((((β 0).den:Nat):Int):Rat) ((10000:Int):Rat)=c3) (h4:ne=true→(rem (.den (.v 0)) (.c 10000)).ev β≠((1:Int):Rat)) (h5:eq=true→(rem (.den (.v 0)) (.c 10000)).ev β=((1:Int):Rat)):(iH c1 c2 c3 ne eq).Ok β:=by
 refine ⟨fun p hp=>?_,fun p hp=>?_,fun p h=>(by cases h),fun p h=>(by cases h),fun p hp=>?_⟩
 ·cases eq
  ·cases hp
  ·simp only [iH,if_true,List.mem_singleton] at hp;subst hp;exact h5 rfl
 ·cases ne
  ·cases hp
  ·simp only [iH,if_true,List.mem_singleton] at hp;subst hp;exact h4 rfl
 ·simp only [iH,List.mem_cons,List.not_mem_nil,or_false] at hp
  rcases hp with rfl | rfl | rfl
  ·exact h1
  ·exact h2
  ·exact h3
def iY (β:Nat→Rat) (h:Hint) (ok:h.Ok β):Prop:=isT 0 false (runF Tryz.prog (SR β) (HL β h ok) (ch β h) 1 41 [rr 0] [.r 0 (.v 0) 4] 2)=true
theorem QY (β:Nat→Rat) {c2 c3:Int} (ok:(iH (-1) c2 c3 false false).Ok β):iY β _ ok:=by unfold iY;kernel_rfl
theorem QZ (β:Nat→Rat) {c3:Int} (ok:(iH 0 1 c3 false false).Ok β):iY β _ ok:=by unfold iY;kernel_rfl
theorem Q5 (β:Nat→Rat) {c3:Int} (ok:(iH 1 1 c3 false false).Ok β):iY β _ ok:=by unfold iY;kernel_rfl
theorem Q7 (β:Nat→Rat) {c1 c2 c3:Int} (h1:c1=0∨c1=1) (h2:c2 = -1∨c2=0) (h3:c3=0∨c3=1) (ok:(iH c1 c2 c3 false false).Ok β):iY β _ ok:=by
 rcases h1 with rfl | rfl <;> rcases h2 with rfl | rfl <;> rcases h3 with rfl | rfl <;> (unfold iY;kernel_rfl)
theorem Q8 (β:Nat→Rat) {c1 c2:Int} (h1:c1=0∨c1=1) (h2:c2 = -1∨c2=0) (ok:(iH c1 c2 (-1) true false).Ok β):iY β _ ok:=by
 rcases h1 with rfl | rfl <;> rcases h2 with rfl | rfl <;> (unfold iY;kernel_rfl)
theorem F6 {β:Nat→Rat}:(rem (.den (.v 0)) (.c 10000)).ev β=((((β 0).den % 10000:Nat):Int):Rat):=
 (vG (β:=β) (n:=(β 0).den) (m:=10000) (e:=.den (.v 0)) (e':=.c 10000) (by decide) rfl rfl).symm
theorem vC {r:Rat} (hd:r.den=1):r=(r.num:Rat):=by
 have:=nO r
 rw [hd] at this
 rw [this]
 show r=r*((1:Int):Rat)
 rw [show ((1:Int):Rat)=1 from rfl,Rat.mul_one]
theorem SX (h1:Z4.IsR W v r) (f1:Fits 4 r) (hno:¬ ni r) (hE:EV W):Calls Tryz.prog 41 #[v] W (aI W (.tuple #[.int .i64 0,.bool false])):=by
 obtain ⟨c,d,rfl⟩:=jc h1
 have fin:∀ {h:Hint} {ok:h.Ok (bet [r])},iY (bet [r]) h ok→Calls Tryz.prog 41 #[.agg #[.bool c.b,.slice c.p c.l c.c,.bool false,.slice d.p d.l d.c]] W (aI W (.tuple #[.int .i64 0,.bool false])):=fun {h ok} hr=>by
  obtain ⟨fs,heq⟩:=Pj hr
  refine (runF_ok (ρ:=ev [c,d]) mixed (Di ok) heq (fM hE) (fun g hg=>by
   obtain rfl:=List.mem_singleton.1 hg
   exact ⟨h1,f1⟩)).mono fun x W' ⟨ρ',_,hx,hb,_⟩=>⟨hx,hb⟩
 have a3:=oJ r ((-9223372036854775808:Int):Rat)
 have b3:=oJ r ((9223372036854775807:Int):Rat)
 have d3:=oJ ((((r.den:Nat):Int):Rat)) ((10000:Int):Rat)
 obtain ⟨c1,hc1⟩:∃ c1,aG r ((-9223372036854775808:Int):Rat)=c1:=⟨_,rfl⟩
 obtain ⟨c2,hc2⟩:∃ c2,aG r ((9223372036854775807:Int):Rat)=c2:=⟨_,rfl⟩
 obtain ⟨c3,hc3⟩:∃ c3,aG ((((r.den:Nat):Int):Rat)) ((10000:Int):Rat)=c3:=⟨_,rfl⟩
 rw [hc1] at a3
 rw [hc2] at b3
 rw [hc3] at d3
 rcases a3 with h | a3
 ·subst h;exact fin (QY _ (pG hc1 hc2 hc3 (fun h=>by cases h) (fun h=>by cases h)))
 by_cases h:c2=1
 ·subst h
  rcases a3 with rfl | rfl
  ·exact fin (QZ _ (pG hc1 hc2 hc3 (fun h=>by cases h) (fun h=>by cases h)))
  ·exact fin (Q5 _ (pG hc1 hc2 hc3 (fun h=>by cases h) (fun h=>by cases h)))
 have b2:c2 = -1∨c2=0:=by omega
 rcases d3 with h3 | h3
 ·subst h3
  refine fin (Q8 _ a3 b2 (pG hc1 hc2 hc3 (fun _=>?_) (fun h=>by cases h)))
  rw [F6]
  intro h4
  have h5:((r.den % 10000:Nat):Int)=1:=Rat.intCast_inj.1 h4
  have h6:((r.den:Nat):Int)<10000:=Rat.intCast_lt_intCast.1 (qC hc3)
  have hd:r.den=1:=by omega
  apply hno
  have hr:=vC hd
  refine ⟨hd,?_,?_⟩
  ·have:¬ r<((-9223372036854775808:Int):Rat):=fun h=>by rw [oK h] at hc1;omega
   rw [hr] at this
   have h7:¬ r.num < -9223372036854775808:=fun h=>this (Rat.intCast_lt_intCast.2 h)
   omega
  ·have:¬ ((9223372036854775807:Int):Rat)<r:=fun h=>by rw [JL h] at hc2;omega
   rw [hr] at this
   have h7:¬ 9223372036854775807<r.num:=fun h=>this (Rat.intCast_lt_intCast.2 h)
   omega
 ·exact fin (Q7 _ a3 b2 h3 (pG hc1 hc2 hc3 (fun h=>by cases h) (fun h=>by cases h)))
end
end Rx
end
namespace Rx
open Go.RowKit
def Ai (P:Program) (S:Sys) (H:Tests S) (cons:List (Con S)) (fuel:Nat) (c0 c1:Code) (σ:State S):Option (State S):=match exec P S H cons fuel c0 σ with
 | some (.normal,σ1)=>match exec P S H cons fuel c1 σ1 with
  | some (.normal,σ2)=>some σ2
  | _=>none
 | _=>none
theorem RZ {P:Program} {S:Sys} {H:Tests S} {cons:List (Con S)} {E:World→Prop} (hm:P.follows .mixedOrders=true) (hcons:∀ c∈cons,c.Ok P S E) {fuel:Nat} {f:FuncId} {fn:Func} {c0 c1 rest:Code} {args:List SV} {fs:List S.F} {b:Nat} {σ2:State S}
  (hfn:P.funcs[f]? = some fn) (hc:fn.body=some (c0.seq (c1.seq rest))) (hok:okIn S args fs b=true) (h:Ai P S H cons fuel c0 c1 ⟨args ++ List.replicate (fn.ntmps - args.length) .und,[],fs,b⟩=some σ2)
  {ρ:Env} {w:World} (hE:∀ W,Below w.heap.size w W→E W) (hf:∀ f∈fs,S.on ρ f w) {Q:Ending→World→Prop}
  (go:∀ ρ' a' W',(∀ n,n<b→ρ' n=ρ n)→σ2.Says w ρ' a' W'→rest.wp P (bodyPost P fn Q) a' W'):Calls P f (args.map (SV.den ρ)).toArray w Q:=by
 have hwf:Wf (S:=S) ⟨args ++ List.replicate (fn.ntmps - args.length) .und,[],fs,b⟩:=by
  unfold okIn at hok
  simp only [Bool.and_eq_true,List.all_eq_true,decide_eq_true_eq] at hok
  refine ⟨fun t n hn=>?_,fun k T cs h=>by simp [lk] at h,fun f hf n hn=>hok.2 f hf n hn⟩
  simp only [List.getD] at hn
  rcases Nat.lt_or_ge t args.length with ht | ht
  ·rw [List.getElem?_append_left ht,List.getElem?_eq_getElem ht,Option.getD_some] at hn
   exact hok.1 _ (List.getElem_mem ht) n hn
  ·rw [List.getElem?_append_right ht] at hn
   cases hg:(List.replicate (fn.ntmps - args.length) SV.und)[t - args.length]? with
   | none=>rw [hg] at hn;simp [SV.nm] at hn
   | some x =>
    rw [hg,Option.getD_some] at hn
    have:=List.eq_of_mem_replicate (List.mem_of_getElem? hg)
    subst this
    simp [SV.nm] at hn
 have hsays:State.Says (S:=S) ⟨args ++ List.replicate (fn.ntmps - args.length) .und,[],fs,b⟩ w ρ { tmps:=(args.map (SV.den ρ)).toArray ++ Array.replicate (fn.ntmps - (args.map (SV.den ρ)).toArray.size) undef,defers:=[] } w:=by
  refine ⟨by simp,rfl,fun t=>?_,Below.refl _ _,fun k T cs h=>by simp [lk] at h,fun k k' x x' h=>by simp [lk] at h,hf⟩
  simp only [List.getD,Array.getD_eq_getD_getElem?,Array.getElem?_append,List.getElem?_toArray,List.getElem?_append,List.getElem?_map,List.size_toArray,List.length_map,Array.getElem?_replicate,List.getElem?_replicate]
  split
  ·rename_i ht
   simp [List.getElem?_eq_getElem ht]
  ·split <;> rfl
 unfold Ai at h
 split at h
 ·rename_i σ1 h1
  split at h
  ·rename_i σ2' h2
   cases h
   obtain ⟨wf1,le1,go1⟩:=exec_good (w0:=w) hm hcons hE c0 _ _ _ h1 hwf
   obtain ⟨-,-,go2⟩:=exec_good (w0:=w) hm hcons hE c1 _ _ _ h2 wf1
   refine calls_of_wp hfn hc (wp_seq (go1 ρ _ w _ hsays fun ρ1 a1 W1 l1 s1=>wp_seq (go2 ρ1 a1 W1 _ s1 fun ρ2 a2 W2 l2 s2=>?_)))
   exact go ρ2 a2 W2 (fun n hn=>(l2 n (Nat.lt_of_lt_of_le hn le1)).trans (l1 n hn)) s2
  ·cases h
 ·cases h
end Rx
namespace Rx
open Go.RowKit Go.Sort
def hdC:Code→Code
 | .seq a _=>a
 | c=>c
def tlC:Code→Code
 | .seq _ b=>b
 | c=>c
def zV {β:Nat→Rat}:Option (State (SR β))→Bool
 | some σ=>decide (σ.regs.length=62) && (match σ.regs.getD 1 .und with
  | .e (.s (.ptr k 0))=>match lk σ.bx k with
   | some (_,[.ob 0,.os 0,.bl false,.os 1])=>true
   | _=>false
  | _=>false)
 | none=>false
theorem Ro {β:Nat→Rat} {o:Option (State (SR β))} (h:zV o=true):∃ σ k T,o=some σ∧σ.regs.length=62∧σ.regs.getD 1 .und=.e (.s (.ptr k 0))∧lk σ.bx k=some (T,[.ob 0,.os 0,.bl false,.os 1]):=by
 unfold zV at h
 split at h
 ·rename_i σ
  simp only [Bool.and_eq_true,decide_eq_true_eq] at h
  obtain ⟨h1,h2⟩:=h
  split at h2
  ·rename_i k hk
   split at h2
   ·rename_i T hb
    exact ⟨σ,k,T,rfl,h1,hk,hb⟩
   ·cases h2
  ·cases h2
 ·cases h
theorem SG (tm:List Value) (u:Nat→Value) (hu:∀ i,tm.getD i undef=u i) (n:Nat) (h:tm.length=n):tm=(List.range n).map u:=by
 apply List.ext_getElem
 ·simp [h]
 ·intro i h1 h2
  rw [List.getElem_map,List.getElem_range,← hu i,List.getD_eq_getElem?_getD,List.getElem?_eq_getElem h1]
  rfl
theorem Bd:∀ (xs:List Nat) (j:Nat),Z4.val (xs.drop j)≤Z4.val xs
 | [],j=>by simp
 | x :: r,0=>Nat.le_refl _
 | x :: r,j+1=>by
  have h:=Bd r j
  show Z4.val (r.drop j)≤x+10000*Z4.val r
  omega
theorem SL (L b0 o k:Nat) (xs:List Nat) (w W:World) (u:Nat→Value) (hbel:Below w.heap.size w W) (c0:W.cell? ⟨L,0,none⟩=some (.bool false)) (c1:W.cell? ⟨L,1,none⟩=some (.slice (some ⟨b0,o,none⟩) xs.length k)) (hx:Z4.Ints W b0 o xs) (dx:Z4.Dig xs) (hlen:xs.length≤1048576) (N:Int) (hN:N=if false=true then -((Z4.val xs:Nat):Int) else (Z4.val xs:Nat)) (hlo:-9223372036854775808≤N) (hhi:N≤9223372036854775807) :
  (tlC (tlC (Tryz.f41.body.getD .skip))).wp Tryz.prog (bodyPost Tryz.prog Tryz.f41 (aI w (.tuple #[.int .i64 N,.bool true]))) { tmps:=#[u 0,.pointer (some ⟨L,0,none⟩),u 2,u 3,u 4,u 5,u 6,u 7,u 8,u 9,u 10,u 11,u 12,u 13,u 14,u 15,u 16,u 17,u 18,u 19,u 20,u 21,u 22,u 23,u 24,u 25,u 26,u 27,u 28,u 29,u 30,u 31,u 32,u 33,u 34,u 35,u 36,u 37,u 38,u 39,u 40,u 41,u 42,u 43,u 44,u 45,u 46,u 47,u 48,u 49,u 50,u 51,u 52,u 53,u 54,u 55,u 56,u 57,u 58,u 59,u 60,u 61],defers:=[] } W:=by
 have HB:=hid hbel
 have HX:=hid hx
 simp only [Bool.false_eq_true,if_false] at hN
 have hmx:Z4.val xs≤9223372036854775807:=by omega
 have HN:=hid hN
 clear hbel hx hlo hhi hN
 simp only [Tryz.f41,Option.getD_some,tlC]
 go_wp2
 go_loop [4,5] (fun nv iv=>∃ m:Nat,nv=.int .i64 (((Z4.val (xs.drop m):Nat):Int))∧iv=.int .i64 ((m:Int) - 1)∧m≤xs.length) (fun _ iv=>(intOf iv+1).toNat)
 case atStart=>exact ⟨xs.length,by rw [List.drop_of_length_le (Nat.le_refl _)];rfl,by go_num,Nat.le_refl _⟩
 case round =>
  obtain ⟨m,rfl,rfl,hm2⟩:=hrel
  rcases Nat.lt_or_ge 0 m with hlt | hge
  ·obtain ⟨j,rfl⟩:∃ j,m=j+1:=⟨m - 1,by omega⟩
   obtain ⟨x,hxj⟩:∃ x,xs[j]?.getD 0=x:=⟨_,rfl⟩
   have cx:W.cell? ⟨b0,o+j,none⟩=some (.int .i64 (x:Int)):=by rw [HX.out j (by omega),hxj]
   have hx1:x<10000:=hxj ▸ dx.getD j
   have hv:Z4.val (xs.drop j)=x+10000*Z4.val (xs.drop (j+1)):=by rw [Z4.cZ xs j (by omega),hxj,Z4.fJ]
   have hv2:Z4.val (xs.drop j)≤Z4.val xs:=Bd xs j
   obtain ⟨V,hV⟩:∃ V,Z4.val (xs.drop (j+1))=V:=⟨_,rfl⟩
   rw [hV] at hv ⊢
   have HV:=hid hv
   have b1:V*10000+x≤9223372036854775807:=by omega
   clear hv hV hxj hv2 hmx
   go_wp2
   go_round
   case rel=>exact ⟨j,by rw [HV.out];go_num,by go_num,by omega⟩
   case measure=>simp [intOf]
  ·obtain rfl:m=0:=by omega
   rw [show (((0:Nat):Int) - 1) = -1 from rfl]
   go_wp2
   go_ret2
   exact ⟨by first | rfl | (rw [HN.out];rfl),HB.out⟩
theorem SI (L b0 o k:Nat) (xs:List Nat) (w W:World) (u:Nat→Value) (hbel:Below w.heap.size w W) (c0:W.cell? ⟨L,0,none⟩=some (.bool true)) (c1:W.cell? ⟨L,1,none⟩=some (.slice (some ⟨b0,o,none⟩) xs.length k)) (hx:Z4.Ints W b0 o xs) (dx:Z4.Dig xs) (hlen:xs.length≤1048576) (N:Int) (hN:N=if true=true then -((Z4.val xs:Nat):Int) else (Z4.val xs:Nat)) (hlo:-9223372036854775808≤N) (hhi:N≤9223372036854775807) :
  (tlC (tlC (Tryz.f41.body.getD .skip))).wp Tryz.prog (bodyPost Tryz.prog Tryz.f41 (aI w (.tuple #[.int .i64 N,.bool true]))) { tmps:=#[u 0,.pointer (some ⟨L,0,none⟩),u 2,u 3,u 4,u 5,u 6,u 7,u 8,u 9,u 10,u 11,u 12,u 13,u 14,u 15,u 16,u 17,u 18,u 19,u 20,u 21,u 22,u 23,u 24,u 25,u 26,u 27,u 28,u 29,u 30,u 31,u 32,u 33,u 34,u 35,u 36,u 37,u 38,u 39,u 40,u 41,u 42,u 43,u 44,u 45,u 46,u 47,u 48,u 49,u 50,u 51,u 52,u 53,u 54,u 55,u 56,u 57,u 58,u 59,u 60,u 61],defers:=[] } W:=by
 have HB:=hid hbel
 have HX:=hid hx
 simp only [if_true] at hN
 have hmx:Z4.val xs≤9223372036854775808:=by omega
 have HN:=hid hN
 clear hbel hx hlo hhi hN
 simp only [Tryz.f41,Option.getD_some,tlC]
 go_wp2
 go_loop [4,5] (fun nv iv=>∃ m:Nat,nv=.int .i64 (-((Z4.val (xs.drop m):Nat):Int))∧iv=.int .i64 ((m:Int) - 1)∧m≤xs.length) (fun _ iv=>(intOf iv+1).toNat)
 case atStart=>exact ⟨xs.length,by rw [List.drop_of_length_le (Nat.le_refl _)];rfl,by go_num,Nat.le_refl _⟩
 case round =>
  obtain ⟨m,rfl,rfl,hm2⟩:=hrel
  rcases Nat.lt_or_ge 0 m with hlt | hge
  ·obtain ⟨j,rfl⟩:∃ j,m=j+1:=⟨m - 1,by omega⟩
   obtain ⟨x,hxj⟩:∃ x,xs[j]?.getD 0=x:=⟨_,rfl⟩
   have cx:W.cell? ⟨b0,o+j,none⟩=some (.int .i64 (x:Int)):=by rw [HX.out j (by omega),hxj]
   have hx1:x<10000:=hxj ▸ dx.getD j
   have hv:Z4.val (xs.drop j)=x+10000*Z4.val (xs.drop (j+1)):=by rw [Z4.cZ xs j (by omega),hxj,Z4.fJ]
   have hv2:Z4.val (xs.drop j)≤Z4.val xs:=Bd xs j
   obtain ⟨V,hV⟩:∃ V,Z4.val (xs.drop (j+1))=V:=⟨_,rfl⟩
   rw [hV] at hv ⊢
   have HV:=hid hv
   have b1:V*10000+x≤9223372036854775808:=by omega
   clear hv hV hxj hv2 hmx
   go_wp2
   go_round
   case rel=>exact ⟨j,by rw [HV.out];go_num,by go_num,by omega⟩
   case measure=>simp [intOf]
  ·obtain rfl:m=0:=by omega
   rw [show (((0:Nat):Int) - 1) = -1 from rfl]
   go_wp2
   go_ret2
   exact ⟨by first | rfl | (rw [HN.out];rfl),HB.out⟩
theorem SK (L k:Nat) (p:Option Addr) (w W:World) (u:Nat→Value) (hbel:Below w.heap.size w W) (c1:W.cell? ⟨L,1,none⟩=some (.slice p 0 k)) :
  (tlC (tlC (Tryz.f41.body.getD .skip))).wp Tryz.prog (bodyPost Tryz.prog Tryz.f41 (aI w (.tuple #[.int .i64 0,.bool true]))) { tmps:=#[u 0,.pointer (some ⟨L,0,none⟩),u 2,u 3,u 4,u 5,u 6,u 7,u 8,u 9,u 10,u 11,u 12,u 13,u 14,u 15,u 16,u 17,u 18,u 19,u 20,u 21,u 22,u 23,u 24,u 25,u 26,u 27,u 28,u 29,u 30,u 31,u 32,u 33,u 34,u 35,u 36,u 37,u 38,u 39,u 40,u 41,u 42,u 43,u 44,u 45,u 46,u 47,u 48,u 49,u 50,u 51,u 52,u 53,u 54,u 55,u 56,u 57,u 58,u 59,u 60,u 61],defers:=[] } W:=by
 have HB:=hid hbel
 clear hbel
 simp only [Tryz.f41,Option.getD_some,tlC]
 go_wp2
 refine wp_loop_rounds 1 ?_
 rw [rounds_succ]
 go_wp2
 go_ret2
 exact ⟨by first | rfl | (rw [HN.out];rfl),HB.out⟩
section
variable {W:World} {r:Rat} {v:Value}
theorem SY (h1:Z4.IsR W v r) (f1:Fits 4 r) (hi:ni r) (hE:EV W):Calls Tryz.prog 41 #[v] W (aI W (.tuple #[.int .i64 r.num,.bool true])):=by
 obtain ⟨c,d,rfl⟩:=jc h1
 obtain ⟨hd1,hlo,hhi⟩:=hi
 have hr:=vC hd1
 obtain ⟨c1,hc1⟩:∃ c1,aG r ((-9223372036854775808:Int):Rat)=c1:=⟨_,rfl⟩
 obtain ⟨c2,hc2⟩:∃ c2,aG r ((9223372036854775807:Int):Rat)=c2:=⟨_,rfl⟩
 have hc3:aG ((((r.den:Nat):Int):Rat)) ((10000:Int):Rat) = -1:=by rw [hd1];exact oK (Rat.intCast_lt_intCast.2 (by decide))
 have a3:c1=0∨c1=1:=by
  rw [hr,qB] at hc1
  rw [if_neg (by omega)] at hc1
  split at hc1 <;> omega
 have b3:c2 = -1∨c2=0:=by
  rw [hr,qB] at hc2
  split at hc2
  ·omega
  ·split at hc2 <;> omega
 have ok:(iH c1 c2 (-1) false true).Ok (bet [r]):=pG hc1 hc2 hc3 (fun h=>by cases h) (fun _=>by rw [F6];show ((((r.den % 10000:Nat):Int)):Rat)=_;rw [hd1];rfl)
 have hpre:zV (Ai Tryz.prog (SR (bet [r])) (HL (bet [r]) _ ok) (ch (bet [r]) (iH c1 c2 (-1) false true)) 1 (hdC (Tryz.f41.body.getD .skip)) (hdC (tlC (Tryz.f41.body.getD .skip))) ⟨[rr 0] ++ List.replicate (Tryz.f41.ntmps - [rr 0].length) .und,[],[.r 0 (.v 0) 4],2⟩)=true:=by
  clear hc1 hc2
  rcases a3 with rfl | rfl <;> rcases b3 with rfl | rfl <;> kernel_rfl
 obtain ⟨σ2,kk,T,hσ,hlen,hreg,hbx⟩:=Ro hpre
 refine RZ (ρ:=ev [c,d]) mixed (Di ok) Tryz.func41 (rest:=tlC (tlC (Tryz.f41.body.getD .skip))) (by kernel_rfl) (by kernel_rfl) hσ (fM hE) (fun g hg=>by
  obtain rfl:=List.mem_singleton.1 hg
  exact ⟨h1,f1⟩) ?_
 intro ρ' a' W' hl hs
 clear hpre hσ ok a3 b3 hc1 hc2 hc3 hr
 have hsz:=hs.sz
 rw [hlen] at hsz
 have hr1:=hs.rg 1
 simp only [hreg] at hr1
 obtain ⟨hL,hB⟩:=hs.bx kk _ _ hbx
 have hbel:=hs.bel
 have hdf:=hs.df
 have e0:ρ' 0=c:=hl 0 (by decide)
 have e1:ρ' 1=d:=hl 1 (by decide)
 clear hs hl hreg hbx
 obtain ⟨L,hLe⟩:∃ L,(ρ' kk).pos=L:=⟨_,rfl⟩
 simp only [SV.den,El.den,Cell.den,hLe] at hr1
 rw [hLe] at hB hL
 have c0:W'.cell? ⟨L,0,none⟩=some (.bool c.b):=by rw [hB.cell];simp [Cell.den,e0]
 have c1:W'.cell? ⟨L,1,none⟩=some (.slice c.p c.l c.c):=by rw [hB.cell];simp [Cell.den,e0]
 obtain ⟨⟨tm⟩,df⟩:=a'
 simp only at hdf
 subst hdf
 obtain ⟨u,hu⟩:∃ u:Nat→Value,∀ i,tm.getD i undef=u i:=⟨_,fun _=>rfl⟩
 have hu1:u 1=.pointer (some ⟨L,0,none⟩):=by rw [← hu 1,← hr1];simp [List.getD_eq_getElem?_getD,Array.getD_eq_getD_getElem?]
 have ht:=(SG tm u hu 62 (by simpa using hsz)).trans (show (List.range 62).map u=[u 0,u 1,u 2,u 3,u 4,u 5,u 6,u 7,u 8,u 9,u 10,u 11,u 12,u 13,u 14,u 15,u 16,u 17,u 18,u 19,u 20,u 21,u 22,u 23,u 24,u 25,u 26,u 27,u 28,u 29,u 30,u 31,u 32,u 33,u 34,u 35,u 36,u 37,u 38,u 39,u 40,u 41,u 42,u 43,u 44,u 45,u 46,u 47,u 48,u 49,u 50,u 51,u 52,u 53,u 54,u 55,u 56,u 57,u 58,u 59,u 60,u 61] by kernel_rfl)
 rw [hu1] at ht
 clear hr1 hu hsz hB e0 e1 hLe hL
 subst ht
 obtain ⟨p,l,k,xs,hv,hL0,dx,tx,hval⟩:=(Z4.IsR.num h1).below hbel
 have hv':=congrArg Array.toList (Value.agg.inj hv)
 simp only [List.cons.injEq,Value.slice.injEq,Value.bool.injEq,and_true] at hv'
 obtain ⟨hsg,hp,hl,hk⟩:=hv'
 rw [hsg] at c0
 rw [hp,hl,hk] at c1
 rcases hL0 with ⟨he,hxs⟩ | ⟨b0,o,k0,he,-,-,-,hI⟩
 ·obtain ⟨rfl,rfl,rfl⟩:=Value.slice.inj he
  have hn0:r.num=0:=by
   rw [hxs] at hval
   have:Z4.val []=0:=rfl
   omega
  rw [hn0]
  exact SK _ _ _ _ _ u hbel c1
 ·obtain ⟨rfl,rfl,rfl⟩:=Value.slice.inj he
  have hlen2:xs.length≤1048576:=Nat.le_trans (Z4.bG (k:=5) tx (by rw [hval];exact Nat.lt_of_le_of_lt (show r.num.natAbs≤9223372036854775808 by omega) (by decide +kernel))) (by decide)
  by_cases hneg:r.num<0
  ·rw [decide_eq_true hneg] at c0
   exact SI L b0 o _ xs _ _ u hbel c0 c1 hI dx hlen2 r.num (by rw [if_pos rfl,hval];omega) hlo hhi
  ·rw [decide_eq_false hneg] at c0
   exact SL L b0 o _ xs _ _ u hbel c0 c1 hI dx hlen2 r.num (by rw [if_neg (by decide),hval];omega) hlo hhi
end
end Rx
section
open Go.RowKit Go.Sort
theorem Oy (t:Bool) (x:Int) (p:Option Addr) (l q:Nat) (y:Int) (p':Option Addr) (s u m:Nat) (hm:(m == 0)=false) (w:World) (j:ah w (.int .u64 y) (.slice p' s u) m) :
  Calls Tryz.prog 40 #[.agg #[.bool t,.int .u64 x,.slice p l q,.int .u64 y,.slice p' s u]] w (aI w (.tuple #[.int .i64 0,.bool false])):=by
 have HW:=hid (fun (W:World) (h:ah W (.int .u64 y) (.slice p' s u) m)=>jB (.bool t) (.int .u64 x) (.slice p l q) _ _ m W h)
 rw [hm] at HW
 have HJ:=hid j
 clear j hm
 go_enter Tryz.func40,Tryz.ntmps40
 go_wp2_with fail
 have hS0:=hid ((St.start w).alloc' (w.heap.size) (by simp) 31 (c5 t x p l q y p' s u))
 obtain ⟨W0,hW0⟩:=aK hS0
 rw [hW0] at hS0 ⊢
 clear hW0
 refine (HW.out _ (HJ.out.below hS0.out.bel)).mono ?_
 rintro e w1 ⟨rfl,hB⟩
 have hS1:=hid (hS0.out.call hB)
 clear hB hS0
 obtain ⟨⟨c0,c1,c2,c3,c4⟩,f0,f1,f2,f3,f4⟩:=hS1.out.f5 0 w.heap.size 31 (.bool t) (.int .u64 x) (.slice p l q) (.int .u64 y) (.slice p' s u) rfl
 go_wp2
 go_ret2
 exact ⟨rfl,hS1.out.bel⟩
theorem Oz (t:Bool) (x:Int) (b o l q:Nat) (y:Int) (p':Option Addr) (s u:Nat) (w:World) (j:ah w (.int .u64 y) (.slice p' s u) 0) :
  Calls Tryz.prog 40 #[.agg #[.bool t,.int .u64 x,.slice (some ⟨b,o,none⟩) l q,.int .u64 y,.slice p' s u]] w (aI w (.tuple #[.int .i64 0,.bool false])):=by
 have hn:=fF
 have HW:=hid (fun (W:World) (h:ah W (.int .u64 y) (.slice p' s u) 0)=>jB (.bool t) (.int .u64 x) (.slice (some ⟨b,o,none⟩) l q) _ _ 0 W h)
 rw [beq_self_eq_true] at HW
 have HJ:=hid j
 clear j
 go_enter Tryz.func40,Tryz.ntmps40
 go_wp2_with fail
 have hS0:=hid ((St.start w).alloc' (w.heap.size) (by simp) 31 [.bool t,.int .u64 x,.slice (some ⟨b,o,none⟩) l q,.int .u64 y,.slice p' s u])
 obtain ⟨W0,hW0⟩:=aK hS0
 rw [hW0] at hS0 ⊢
 clear hW0
 refine (HW.out _ (HJ.out.below hS0.out.bel)).mono ?_
 rintro e w1 ⟨rfl,hB⟩
 have hS1:=hid (hS0.out.call hB)
 clear hB hS0
 obtain ⟨⟨c0,c1,c2,c3,c4⟩,f0,f1,f2,f3,f4⟩:=hS1.out.f5 0 w.heap.size 31 (.bool t) (.int .u64 x) (.slice (some ⟨b,o,none⟩) l q) (.int .u64 y) (.slice p' s u) rfl
 go_wp2
 go_ret2
 exact ⟨rfl,hS1.out.bel⟩
theorem Ov (x:Nat) (y:Int) (p':Option Addr) (s u:Nat) (w:World) (j:ah w (.int .u64 y) (.slice p' s u) 0) (a c:Int) (ha:IntKind.i64.wrap (x:Int)=a) (hc:a=c) (h0:c<0) :
  Calls Tryz.prog 40 #[.agg #[.bool false,.int .u64 (x:Int),.slice none 0 0,.int .u64 y,.slice p' s u]] w (aI w (.tuple #[.int .i64 0,.bool false])):=by
 subst hc
 have hn:=fF
 have HW:=hid (fun (W:World) (h:ah W (.int .u64 y) (.slice p' s u) 0)=>jB (.bool false) (.int .u64 (x:Int)) (.slice none 0 0) _ _ 0 W h)
 rw [beq_self_eq_true] at HW
 have HJ:=hid j
 clear j
 go_enter Tryz.func40,Tryz.ntmps40
 go_wp2_with fail
 have hS0:=hid ((St.start w).alloc' (w.heap.size) (by simp) 31 [.bool false,.int .u64 (x:Int),.slice none 0 0,.int .u64 y,.slice p' s u])
 obtain ⟨W0,hW0⟩:=aK hS0
 rw [hW0] at hS0 ⊢
 clear hW0
 refine (HW.out _ (HJ.out.below hS0.out.bel)).mono ?_
 rintro e w1 ⟨rfl,hB⟩
 have hS1:=hid (hS0.out.call hB)
 clear hB hS0
 obtain ⟨⟨c0,c1,c2,c3,c4⟩,f0,f1,f2,f3,f4⟩:=hS1.out.f5 0 w.heap.size 31 (.bool false) (.int .u64 (x:Int)) (.slice none 0 0) (.int .u64 y) (.slice p' s u) rfl
 go_wp2
 go_ret2
 exact ⟨rfl,hS1.out.bel⟩
theorem Ox (x:Nat) (y:Int) (p':Option Addr) (s u:Nat) (w:World) (j:ah w (.int .u64 y) (.slice p' s u) 0) (a c:Int) (ha:IntKind.i64.wrap (x:Int)=a) (hc:a=c) (h0:¬ c<0) :
  Calls Tryz.prog 40 #[.agg #[.bool false,.int .u64 (x:Int),.slice none 0 0,.int .u64 y,.slice p' s u]] w (aI w (.tuple #[.int .i64 c,.bool true])):=by
 subst hc
 have hn:=fF
 have HW:=hid (fun (W:World) (h:ah W (.int .u64 y) (.slice p' s u) 0)=>jB (.bool false) (.int .u64 (x:Int)) (.slice none 0 0) _ _ 0 W h)
 rw [beq_self_eq_true] at HW
 have HJ:=hid j
 clear j
 go_enter Tryz.func40,Tryz.ntmps40
 go_wp2_with fail
 have hS0:=hid ((St.start w).alloc' (w.heap.size) (by simp) 31 [.bool false,.int .u64 (x:Int),.slice none 0 0,.int .u64 y,.slice p' s u])
 obtain ⟨W0,hW0⟩:=aK hS0
 rw [hW0] at hS0 ⊢
 clear hW0
 refine (HW.out _ (HJ.out.below hS0.out.bel)).mono ?_
 rintro e w1 ⟨rfl,hB⟩
 have hS1:=hid (hS0.out.call hB)
 clear hB hS0
 obtain ⟨⟨c0,c1,c2,c3,c4⟩,f0,f1,f2,f3,f4⟩:=hS1.out.f5 0 w.heap.size 31 (.bool false) (.int .u64 (x:Int)) (.slice none 0 0) (.int .u64 y) (.slice p' s u) rfl
 go_wp2
 go_ret2
 exact ⟨rfl,hS1.out.bel⟩
theorem OB (x:Nat) (y:Int) (p':Option Addr) (s u:Nat) (w:World) (j:ah w (.int .u64 y) (.slice p' s u) 0) (a c:Int) (ha:IntKind.i64.wrap (x:Int)=a) (hc:IntKind.i64.wrap (-a)=c) (h0:c<0) :
  Calls Tryz.prog 40 #[.agg #[.bool true,.int .u64 (x:Int),.slice none 0 0,.int .u64 y,.slice p' s u]] w (aI w (.tuple #[.int .i64 c,.bool true])):=by
 have hn:=fF
 have HW:=hid (fun (W:World) (h:ah W (.int .u64 y) (.slice p' s u) 0)=>jB (.bool true) (.int .u64 (x:Int)) (.slice none 0 0) _ _ 0 W h)
 rw [beq_self_eq_true] at HW
 have HJ:=hid j
 clear j
 go_enter Tryz.func40,Tryz.ntmps40
 go_wp2_with fail
 have hS0:=hid ((St.start w).alloc' (w.heap.size) (by simp) 31 [.bool true,.int .u64 (x:Int),.slice none 0 0,.int .u64 y,.slice p' s u])
 obtain ⟨W0,hW0⟩:=aK hS0
 rw [hW0] at hS0 ⊢
 clear hW0
 refine (HW.out _ (HJ.out.below hS0.out.bel)).mono ?_
 rintro e w1 ⟨rfl,hB⟩
 have hS1:=hid (hS0.out.call hB)
 clear hB hS0
 obtain ⟨⟨c0,c1,c2,c3,c4⟩,f0,f1,f2,f3,f4⟩:=hS1.out.f5 0 w.heap.size 31 (.bool true) (.int .u64 (x:Int)) (.slice none 0 0) (.int .u64 y) (.slice p' s u) rfl
 go_wp2
 go_ret2
 exact ⟨rfl,hS1.out.bel⟩
theorem OC (x:Nat) (y:Int) (p':Option Addr) (s u:Nat) (w:World) (j:ah w (.int .u64 y) (.slice p' s u) 0) (a c:Int) (ha:IntKind.i64.wrap (x:Int)=a) (hc:IntKind.i64.wrap (-a)=c) (h0:¬ c<0) :
  Calls Tryz.prog 40 #[.agg #[.bool true,.int .u64 (x:Int),.slice none 0 0,.int .u64 y,.slice p' s u]] w (aI w (.tuple #[.int .i64 0,.bool false])):=by
 have hd:decide (c<0)=false:=decide_eq_false h0
 have hn:=fF
 have HW:=hid (fun (W:World) (h:ah W (.int .u64 y) (.slice p' s u) 0)=>jB (.bool true) (.int .u64 (x:Int)) (.slice none 0 0) _ _ 0 W h)
 rw [beq_self_eq_true] at HW
 have HJ:=hid j
 clear j
 go_enter Tryz.func40,Tryz.ntmps40
 go_wp2_with fail
 have hS0:=hid ((St.start w).alloc' (w.heap.size) (by simp) 31 [.bool true,.int .u64 (x:Int),.slice none 0 0,.int .u64 y,.slice p' s u])
 obtain ⟨W0,hW0⟩:=aK hS0
 rw [hW0] at hS0 ⊢
 clear hW0
 refine (HW.out _ (HJ.out.below hS0.out.bel)).mono ?_
 rintro e w1 ⟨rfl,hB⟩
 have hS1:=hid (hS0.out.call hB)
 clear hB hS0
 obtain ⟨⟨c0,c1,c2,c3,c4⟩,f0,f1,f2,f3,f4⟩:=hS1.out.f5 0 w.heap.size 31 (.bool true) (.int .u64 (x:Int)) (.slice none 0 0) (.int .u64 y) (.slice p' s u) rfl
 go_wp2
 go_ret2
 exact ⟨rfl,hS1.out.bel⟩
end
end Go.Proofs.YtcglmmbgoonjnaaGreatDoor
