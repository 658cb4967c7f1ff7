/- What the proof rests on, part 35. -/
import Derived.Test.YthalajpklaodkaaGreatDoorP34
import Derived.Test.YthalajpklaodkaaGreatDoorP33
import Derived.Test.YthalajpklaodkaaGreatDoorP23
import Derived.Test.YthalajpklaodkaaGreatDoorP06
import Derived.Test.YthalajpklaodkaaGreatDoorP32
import Derived.Test.YthalajpklaodkaaGreatDoorP21
import Derived.Test.YthalajpklaodkaaGreatDoorP15
namespace Go.Proofs.YthalajpklaodkaaGreatDoor
set_option maxRecDepth 100000
set_option maxHeartbeats 80000000
namespace Rx
open Go.RowKit
def asD (db:List Fd):List Cell→Option (RE×Nat)
 | [.ob a,.os b,.bl false,.os c]=>if a=b && a+1=c then findD db a else none
 | _=>none
section
variable (β:Nat→Rat) (h:Hint)
def Ns:Con (SR β) where
 fn:=31
 app:=fun db _ args=>match args with
  | [.e (.a x),.e (.a y)]=>match asD db x,asD db y with
   | some (e,k),some (e',k')=>if decide (k≤K2) && decide (k'≤K2) then (match cmB h e e' with
     | some n=>some (.e (.s (.it .i64 n)),[])
     | none=>none) else none
   | _,_=>none
  | _=>none
end
section
variable {β:Nat→Rat} {h:Hint} {f:FuncId} {vals:Array Value} {W:World} {ρ:Env} {b:Nat}
variable {a:Rat} {v1:Value}
theorem PD {r:Rat} {k:Nat} (h:Fits k r):(flo r).natAbs<B64 ^ k:=Nat.lt_of_le_of_lt (Vd _ _ r.den_pos) h.1
end
section
variable {W:World} {a:Rat} {v1:Value}
end
end Rx
namespace Rx
open Go.RowKit
theorem Bo {k:Nat} {r:Rat} (h:Fits k r):Fits k ((flo r:Int):Rat):=
 ⟨by rw [Rat.num_intCast];exact PD h,by rw [Rat.den_intCast];have:=h.2;have:=r.den_pos;omega⟩
abbrev Ar (β:Nat→Rat):Con (SQ β):=oC β 42 .flo id
theorem Fb {β:Nat→Rat}:(Ar β).Ok Tryz.prog (SQ β) EV:=
 tY fun e k v W hk h1 h2 _=>⟨yX _ v k W h1 (by simp only [K0] at hk;omega) h2,Bo h2⟩
def AB (β:Nat→Rat) (e0:RE) (x:Bool):Con (SQ β) where
 fn:=119
 app:=fun db _ args=>match args with
  | [.e (.a [.ou a,.os b])]=>if a=b then (match oK db a with
    | some (e,k)=>if e.beq e0 && decide (k≤K1) then some (.e (.s (.bl x)),[]) else none
    | none=>none) else none
  | _=>none
theorem NI {β:Nat→Rat} {e0:RE} {x:Bool} (hx:((e0.ev β).num.natAbs % 2 == 1)=x):(AB β e0 x).Ok Tryz.prog (SQ β) EV:=by
 refine Con.ok0 rfl ?_
 intro db b args res new ha ρ W hf hE
 simp only [AB] at ha
 split at ha
 ·rename_i a b
  split at ha
  ·rename_i hab
   subst hab
   split at ha
   ·rename_i e k hq
    split at ha
    ·rename_i hk
     simp only [Bool.and_eq_true,decide_eq_true_eq] at hk
     cases ha
     obtain ⟨h1,h2⟩:=hf _ (kG hq)
     rw [← RE.beq_eq hk.1] at hx
     obtain ⟨t,x1,p,l,q,y,p',s,u,hv,i,-,-⟩:=IsQ.shape h1
     have hv':=congrArg Array.toList (Value.agg.inj hv)
     simp only [aJ,List.map_cons,List.map_nil,Cell.den,List.cons.injEq,Value.slice.injEq,Value.int.injEq,true_and,and_true] at hv'
     obtain ⟨-,rfl,⟨rfl,rfl,rfl⟩,-⟩:=hv'
     have hc:=RJ _ _ _ k W i (by simp only [K1] at hk;omega) h2.1
     rw [hx] at hc
     exact sZ hc rfl
    ·cases ha
   ·cases ha
  ·cases ha
 ·cases ha
section
variable {a:Rat} {v:Value} {W:World}
theorem one_num {f:FuncId} {R:Ending→World→Prop} (h1:IsQ W v a) (f1:Fits 1024 a)
  (go:∀ ρ:Env,(∀ g∈[Fc.q 0 (.v 0) 1024],Fc.on (bet [a]) ρ g W)→Calls Tryz.prog f ([SV.e (.a (aJ 0))].map (SV.den ρ)).toArray W R):Calls Tryz.prog f #[v] W R:=by
 obtain ⟨c,d,rfl⟩:=kS h1
 refine go (ev [c,d]) fun g hg=>?_
 rw [List.mem_singleton] at hg
 subst hg
 exact ⟨h1,f1⟩
def ce (β:Nat→Rat) (h:Hint) (x:Bool):List (Con (SQ β)):=Ar β :: AB β (.flo (.v 0)) x :: cq β h
theorem tJ {β:Nat→Rat} {h:Hint} (ok:h.Ok β) {x:Bool} (hx:((flo (β 0)).natAbs % 2 == 1)=x):∀ c∈ce β h x,c.Ok Tryz.prog (SQ β) EV:=by
 unfold ce
 simp only [List.forall_mem_cons]
 exact ⟨Fb,NI (e0:=.flo (.v 0)) (by rw [← hx];show ((((flo (β 0):Int):Rat)).num.natAbs % 2 == 1)=_;rw [Rat.num_intCast]),qH ok⟩
theorem MJ (h1:IsQ W v a) (f1:Fits 1024 a) (hE:EV W):Calls Tryz.prog 44 #[v] W (aV W ((-(flo (-a)):Int):Rat)):=
 one_num h1 f1 fun ρ hg=>by
  rw [Rat.intCast_neg]
  exact su (ok:=kH _) (β:=bet [a]) (e:=.neg (.flo (.neg (.v 0)))) (fuel:=1) (b:=2) (cons:=ce (bet [a]) {} _) (tJ (kH _) rfl) (by kernel_rfl) hE hg
theorem VL (h1:IsQ W v a) (f1:Fits 1024 a) (hE:EV W):Calls Tryz.prog 46 #[v] W (aV W (rnd a:Rat)):=by
 obtain ⟨c,hc⟩:∃ c,aH (a - (flo a:Rat)+(a - (flo a:Rat))) 1=c:=⟨_,rfl⟩
 obtain ⟨x,hx⟩:∃ x,((flo a).natAbs % 2 == 1)=x:=⟨_,rfl⟩
 have hr:rnd a=if c=1∨(c=0∧x=true) then flo a+1 else flo a:=by
  unfold rnd
  rw [hc]
  have he:(flo a % 2=1)↔(x=true):=by rw [← hx,beq_iff_eq];omega
  by_cases h1:c=1∨(c=0∧flo a % 2=1)
  ·rw [if_pos h1,if_pos (by rwa [he] at h1)]
  ·rw [if_neg h1,if_neg (by rwa [he] at h1)]
 have ok:Hint.Ok (bet [a]) { cm:=[(.add (.sub (.v 0) (.flo (.v 0))) (.sub (.v 0) (.flo (.v 0))),.c 1,c)] }:=QL (fun p hp=>by rw [List.mem_singleton] at hp;subst hp;exact hc) (fun p h=>by cases h) (fun p h=>by cases h)
 have hx':((flo ((bet [a]) 0)).natAbs % 2 == 1)=x:=hx
 have c3:=tK (a - (flo a:Rat)+(a - (flo a:Rat))) 1
 rw [hc] at c3
 clear hc hx
 have up:(RE.add (.flo (.v 0)) (.c 1)).ev (bet [a])=((flo a+1:Int):Rat):=by rw [Rat.intCast_add];rfl
 rcases c3 with rfl | rfl | rfl
 ·rw [hr,if_neg (by omega)]
  cases x <;> exact one_num h1 f1 fun ρ hg=>su (ok:=ok) (e:=.flo (.v 0)) (fuel:=1) (b:=2) (tJ ok hx') (by kernel_rfl) hE hg
 ·cases x
  ·rw [hr,if_neg (by simp)]
   exact one_num h1 f1 fun ρ hg=>su (ok:=ok) (e:=.flo (.v 0)) (fuel:=1) (b:=2) (tJ ok hx') (by kernel_rfl) hE hg
  ·rw [hr,if_pos (by simp),← up]
   exact one_num h1 f1 fun ρ hg=>su (ok:=ok) (e:=.add (.flo (.v 0)) (.c 1)) (fuel:=1) (b:=2) (tJ ok hx') (by kernel_rfl) hE hg
 ·rw [hr,if_pos (by simp),← up]
  cases x <;> exact one_num h1 f1 fun ρ hg=>su (ok:=ok) (e:=.add (.flo (.v 0)) (.c 1)) (fuel:=1) (b:=2) (tJ ok hx') (by kernel_rfl) hE hg
end
end Rx
namespace Z4
open Go.RowKit Go.Sort
end Z4
section
namespace Rx
open Go.RowKit
section
variable {β:Nat→Rat} {f:FuncId} {vals:Array Value} {W:World} {ρ:Env} {b:Nat}
end
section
variable {W:World} {r:Rat} {v:Value}
def NM (β:Nat→Rat):Con (SR β) where
 fn:=19
 app:=fun _ b args=>match args with
  | [.e (.s (.it .i64 n))]=>if decide (-9223372036854775808≤n) && decide (n≤9223372036854775807) then some (.e (.a (bV b)),[.r b (.c n) 1]) else none
  | _=>none
def ch (β:Nat→Rat) (h:Hint):List (Con (SR β)):=[NM β,Ns β h,Nu β]
abbrev lo:RE:=.c (-9223372036854775808)
abbrev hi:RE:=.c 9223372036854775807
end
end Rx
end
section
open Go.RowKit Go.Sort
theorem Q7 (t:Bool) (x:Int) (p:Option Addr) (l q:Nat) (y:Int) (p':Option Addr) (s u m:Nat) (hm:(m == 0)=false) (w:World) (j:ah w (.int .u64 y) (.slice p' s u) m) :
  Calls Tryz.prog 33 #[.agg #[.bool t,.int .u64 x,.slice p l q,.int .u64 y,.slice p' s u]] w (aT w (.tuple #[.int .i64 0,.bool false])):=by
 have HW:=hid (fun (W:World) (h:ah W (.int .u64 y) (.slice p' s u) m)=>jS (.bool t) (.int .u64 x) (.slice p l q) _ _ m W h)
 rw [hm] at HW
 have HJ:=hid j
 clear j hm
 go_enter Tryz.func33,Tryz.ntmps33
 go_wp2_with fail
 have hS0:=hid ((St.start w).alloc' (w.heap.size) (by simp) 32 (c5 t x p l q y p' s u))
 obtain ⟨W0,hW0⟩:=aN hS0
 rw [hW0] at hS0 ⊢
 clear hW0
 refine (HW.out _ (HJ.out.below hS0.out.bel)).mono ?_
 rintro e w1 ⟨rfl,hB⟩
 have hS1:=hid (hS0.out.call hB)
 clear hB hS0
 obtain ⟨⟨c0,c1,c2,c3,c4⟩,f0,f1,f2,f3,f4⟩:=hS1.out.f5 0 w.heap.size 32 (.bool t) (.int .u64 x) (.slice p l q) (.int .u64 y) (.slice p' s u) rfl
 go_wp2
 go_ret2
 exact ⟨rfl,hS1.out.bel⟩
theorem Q8 (t:Bool) (x:Int) (b o l q:Nat) (y:Int) (p':Option Addr) (s u:Nat) (w:World) (j:ah w (.int .u64 y) (.slice p' s u) 0) :
  Calls Tryz.prog 33 #[.agg #[.bool t,.int .u64 x,.slice (some ⟨b,o,none⟩) l q,.int .u64 y,.slice p' s u]] w (aT w (.tuple #[.int .i64 0,.bool false])):=by
 have hn:=gJ
 have HW:=hid (fun (W:World) (h:ah W (.int .u64 y) (.slice p' s u) 0)=>jS (.bool t) (.int .u64 x) (.slice (some ⟨b,o,none⟩) l q) _ _ 0 W h)
 rw [beq_self_eq_true] at HW
 have HJ:=hid j
 clear j
 go_enter Tryz.func33,Tryz.ntmps33
 go_wp2_with fail
 have hS0:=hid ((St.start w).alloc' (w.heap.size) (by simp) 32 [.bool t,.int .u64 x,.slice (some ⟨b,o,none⟩) l q,.int .u64 y,.slice p' s u])
 obtain ⟨W0,hW0⟩:=aN hS0
 rw [hW0] at hS0 ⊢
 clear hW0
 refine (HW.out _ (HJ.out.below hS0.out.bel)).mono ?_
 rintro e w1 ⟨rfl,hB⟩
 have hS1:=hid (hS0.out.call hB)
 clear hB hS0
 obtain ⟨⟨c0,c1,c2,c3,c4⟩,f0,f1,f2,f3,f4⟩:=hS1.out.f5 0 w.heap.size 32 (.bool t) (.int .u64 x) (.slice (some ⟨b,o,none⟩) l q) (.int .u64 y) (.slice p' s u) rfl
 go_wp2
 go_ret2
 exact ⟨rfl,hS1.out.bel⟩
theorem QZ (x:Nat) (y:Int) (p':Option Addr) (s u:Nat) (w:World) (j:ah w (.int .u64 y) (.slice p' s u) 0) (a c:Int) (ha:IntKind.i64.wrap (x:Int)=a) (hc:a=c) (h0:c<0) :
  Calls Tryz.prog 33 #[.agg #[.bool false,.int .u64 (x:Int),.slice none 0 0,.int .u64 y,.slice p' s u]] w (aT w (.tuple #[.int .i64 0,.bool false])):=by
 subst hc
 have hn:=gJ
 have HW:=hid (fun (W:World) (h:ah W (.int .u64 y) (.slice p' s u) 0)=>jS (.bool false) (.int .u64 (x:Int)) (.slice none 0 0) _ _ 0 W h)
 rw [beq_self_eq_true] at HW
 have HJ:=hid j
 clear j
 go_enter Tryz.func33,Tryz.ntmps33
 go_wp2_with fail
 have hS0:=hid ((St.start w).alloc' (w.heap.size) (by simp) 32 [.bool false,.int .u64 (x:Int),.slice none 0 0,.int .u64 y,.slice p' s u])
 obtain ⟨W0,hW0⟩:=aN hS0
 rw [hW0] at hS0 ⊢
 clear hW0
 refine (HW.out _ (HJ.out.below hS0.out.bel)).mono ?_
 rintro e w1 ⟨rfl,hB⟩
 have hS1:=hid (hS0.out.call hB)
 clear hB hS0
 obtain ⟨⟨c0,c1,c2,c3,c4⟩,f0,f1,f2,f3,f4⟩:=hS1.out.f5 0 w.heap.size 32 (.bool false) (.int .u64 (x:Int)) (.slice none 0 0) (.int .u64 y) (.slice p' s u) rfl
 go_wp2
 go_ret2
 exact ⟨rfl,hS1.out.bel⟩
theorem Q5 (x:Nat) (y:Int) (p':Option Addr) (s u:Nat) (w:World) (j:ah w (.int .u64 y) (.slice p' s u) 0) (a c:Int) (ha:IntKind.i64.wrap (x:Int)=a) (hc:a=c) (h0:¬ c<0) :
  Calls Tryz.prog 33 #[.agg #[.bool false,.int .u64 (x:Int),.slice none 0 0,.int .u64 y,.slice p' s u]] w (aT w (.tuple #[.int .i64 c,.bool true])):=by
 subst hc
 have hn:=gJ
 have HW:=hid (fun (W:World) (h:ah W (.int .u64 y) (.slice p' s u) 0)=>jS (.bool false) (.int .u64 (x:Int)) (.slice none 0 0) _ _ 0 W h)
 rw [beq_self_eq_true] at HW
 have HJ:=hid j
 clear j
 go_enter Tryz.func33,Tryz.ntmps33
 go_wp2_with fail
 have hS0:=hid ((St.start w).alloc' (w.heap.size) (by simp) 32 [.bool false,.int .u64 (x:Int),.slice none 0 0,.int .u64 y,.slice p' s u])
 obtain ⟨W0,hW0⟩:=aN hS0
 rw [hW0] at hS0 ⊢
 clear hW0
 refine (HW.out _ (HJ.out.below hS0.out.bel)).mono ?_
 rintro e w1 ⟨rfl,hB⟩
 have hS1:=hid (hS0.out.call hB)
 clear hB hS0
 obtain ⟨⟨c0,c1,c2,c3,c4⟩,f0,f1,f2,f3,f4⟩:=hS1.out.f5 0 w.heap.size 32 (.bool false) (.int .u64 (x:Int)) (.slice none 0 0) (.int .u64 y) (.slice p' s u) rfl
 go_wp2
 go_ret2
 exact ⟨rfl,hS1.out.bel⟩
theorem Rf (x:Nat) (y:Int) (p':Option Addr) (s u:Nat) (w:World) (j:ah w (.int .u64 y) (.slice p' s u) 0) (a c:Int) (ha:IntKind.i64.wrap (x:Int)=a) (hc:IntKind.i64.wrap (-a)=c) (h0:c<0) :
  Calls Tryz.prog 33 #[.agg #[.bool true,.int .u64 (x:Int),.slice none 0 0,.int .u64 y,.slice p' s u]] w (aT w (.tuple #[.int .i64 c,.bool true])):=by
 have hn:=gJ
 have HW:=hid (fun (W:World) (h:ah W (.int .u64 y) (.slice p' s u) 0)=>jS (.bool true) (.int .u64 (x:Int)) (.slice none 0 0) _ _ 0 W h)
 rw [beq_self_eq_true] at HW
 have HJ:=hid j
 clear j
 go_enter Tryz.func33,Tryz.ntmps33
 go_wp2_with fail
 have hS0:=hid ((St.start w).alloc' (w.heap.size) (by simp) 32 [.bool true,.int .u64 (x:Int),.slice none 0 0,.int .u64 y,.slice p' s u])
 obtain ⟨W0,hW0⟩:=aN hS0
 rw [hW0] at hS0 ⊢
 clear hW0
 refine (HW.out _ (HJ.out.below hS0.out.bel)).mono ?_
 rintro e w1 ⟨rfl,hB⟩
 have hS1:=hid (hS0.out.call hB)
 clear hB hS0
 obtain ⟨⟨c0,c1,c2,c3,c4⟩,f0,f1,f2,f3,f4⟩:=hS1.out.f5 0 w.heap.size 32 (.bool true) (.int .u64 (x:Int)) (.slice none 0 0) (.int .u64 y) (.slice p' s u) rfl
 go_wp2
 go_ret2
 exact ⟨rfl,hS1.out.bel⟩
theorem Rh (x:Nat) (y:Int) (p':Option Addr) (s u:Nat) (w:World) (j:ah w (.int .u64 y) (.slice p' s u) 0) (a c:Int) (ha:IntKind.i64.wrap (x:Int)=a) (hc:IntKind.i64.wrap (-a)=c) (h0:¬ c<0) :
  Calls Tryz.prog 33 #[.agg #[.bool true,.int .u64 (x:Int),.slice none 0 0,.int .u64 y,.slice p' s u]] w (aT w (.tuple #[.int .i64 0,.bool false])):=by
 have hd:decide (c<0)=false:=decide_eq_false h0
 have hn:=gJ
 have HW:=hid (fun (W:World) (h:ah W (.int .u64 y) (.slice p' s u) 0)=>jS (.bool true) (.int .u64 (x:Int)) (.slice none 0 0) _ _ 0 W h)
 rw [beq_self_eq_true] at HW
 have HJ:=hid j
 clear j
 go_enter Tryz.func33,Tryz.ntmps33
 go_wp2_with fail
 have hS0:=hid ((St.start w).alloc' (w.heap.size) (by simp) 32 [.bool true,.int .u64 (x:Int),.slice none 0 0,.int .u64 y,.slice p' s u])
 obtain ⟨W0,hW0⟩:=aN hS0
 rw [hW0] at hS0 ⊢
 clear hW0
 refine (HW.out _ (HJ.out.below hS0.out.bel)).mono ?_
 rintro e w1 ⟨rfl,hB⟩
 have hS1:=hid (hS0.out.call hB)
 clear hB hS0
 obtain ⟨⟨c0,c1,c2,c3,c4⟩,f0,f1,f2,f3,f4⟩:=hS1.out.f5 0 w.heap.size 32 (.bool true) (.int .u64 (x:Int)) (.slice none 0 0) (.int .u64 y) (.slice p' s u) rfl
 go_wp2
 go_ret2
 exact ⟨rfl,hS1.out.bel⟩
end
namespace Rx
open Go.RowKit
def Ew (h:Hint) (db:List Fc) (a a' b:Nat):Option (List Fc):=match gy db a,gy db a' with
 | some e,some e'=>if cmB h (.add e e') (.c 4611686018427387904)=some (-1) && cmB h (.c (-1)) (.add e e')=some (-1) then some [.i b (.add e e')] else none
 | _,_=>none
def HA (β:Nat→Rat) (h:Hint) (ok:h.Ok β):Tests (SQ β) where
 eq:=fun _ _ _=>none
 ok:=fun h=>(by cases h)
 add:=Ew h
 addOk:=fun {db a a' b new} hh ρ W hf=>by
  unfold Ew at hh
  split at hh
  ·rename_i e e' h1 h2
   split at hh
   ·rename_i hc
    simp only [Bool.and_eq_true,decide_eq_true_eq] at hc
    cases hh
    obtain ⟨-,-,g1⟩:=(show Fc.on β ρ (.i a e) W from hf _ (fU h1))
    obtain ⟨-,-,g2⟩:=(show Fc.on β ρ (.i a' e') W from hf _ (fU h2))
    have hs:(((ρ a).u+(ρ a').u:Int):Rat)=(RE.add e e').ev β:=by rw [Rat.intCast_add,g1,g2];rfl
    have k1:=vY (oh ok hc.1)
    have k2:=vY (oh ok hc.2)
    rw [← hs] at k1 k2
    have l1:(ρ a).u+(ρ a').u<4611686018427387904:=Rat.intCast_lt_intCast.1 (show (((ρ a).u+(ρ a').u:Int):Rat)<((4611686018427387904:Int):Rat) from k1)
    have l2:-1<(ρ a).u+(ρ a').u:=Rat.intCast_lt_intCast.1 (show ((-1:Int):Rat)<(((ρ a).u+(ρ a').u:Int):Rat) from k2)
    refine ⟨by rw [IntKind.wrap_i64];omega,fun ρ' _ hu f hm=>?_⟩
    obtain rfl:=List.mem_singleton.1 hm
    show _≤(ρ' b).u∧(ρ' b).u≤_∧(((ρ' b).u:Int):Rat)=_
    rw [hu,hs]
    exact ⟨by omega,by omega,rfl⟩
   ·cases hh
  ·cases hh
section
variable {β:Nat→Rat} {f:FuncId} {vals:Array Value} {W:World} {ρ:Env} {b:Nat}
end
section
variable {W:World} {r:Rat} {v:Value}
theorem Fz {r:Rat} (h:r.den=1):aY r=0:=by unfold aY;rw [if_pos h]
theorem Ri (h1:IsQ W v r) (_f1:Fits 4 r) (hi:qY r):Calls Tryz.prog 33 #[v] W (aT W (.tuple #[.int .i64 r.num,.bool true])):=by
 obtain ⟨t,x,p,l,q,y,p',s,u,rfl,i,j,e⟩:=h1.shape
 have e':=e.out
 rw [Fz hi.1] at j
 obtain ⟨-,i2,i3⟩:=hi
 rcases i with ⟨h0,hx,hd⟩ | ⟨b,o,k,xs,-,hd,-,h4,-,-,h7,h8,-⟩
 ·cases hx;cases hd
  subst e'
  rcases Int.lt_or_le r.num 0 with hr | hr
  ·rw [decide_eq_true hr]
   have ha:IntKind.i64.wrap ((r.num.natAbs:Nat):Int)=(if r.num = -9223372036854775808 then -9223372036854775808 else -r.num):=by rw [IntKind.wrap_i64];split <;> omega
   have hc:IntKind.i64.wrap (-(if r.num = -9223372036854775808 then -9223372036854775808 else -r.num))=r.num:=by rw [IntKind.wrap_i64];split <;> omega
   exact Rf _ _ _ _ _ W j _ _ ha hc hr
  ·rw [decide_eq_false (by omega)]
   exact Q5 _ _ _ _ _ W j _ _ (show IntKind.i64.wrap ((r.num.natAbs:Nat):Int)=r.num by rw [IntKind.wrap_i64];omega) rfl (by omega)
 ·exfalso
  have g1:=jD h7 (by intro e;subst e;simp at h4)
  have g2:B64 ^ 1≤B64 ^ (xs.length - 1):=Nat.pow_le_pow_right (by decide) (by omega)
  rw [Nat.pow_one] at g2
  unfold B64 at g1 g2
  omega
theorem Q9 (h1:IsQ W v r) (_f1:Fits 4 r) (hno:¬ qY r):Calls Tryz.prog 33 #[v] W (aT W (.tuple #[.int .i64 0,.bool false])):=by
 obtain ⟨t,x,p,l,q,y,p',s,u,rfl,i,j,e⟩:=h1.shape
 have e':=e.out
 by_cases hd1:r.den=1
 ·rw [Fz hd1] at j
  rcases i with ⟨h0,hx,hd⟩ | ⟨b,o,k,xs,-,hd,-,h4,-,-,h7,h8,-⟩
  ·cases hx;cases hd
   subst e'
   have hout:r.num < -9223372036854775808∨9223372036854775807<r.num:=by
    by_cases h2:r.num < -9223372036854775808
    ·exact .inl h2
    ·by_cases h3:9223372036854775807<r.num
     ·exact .inr h3
     ·exact absurd ⟨hd1,by omega,by omega⟩ hno
   unfold B64 at h0
   rcases hout with hr | hr
   ·rw [decide_eq_true (by omega)]
    have ha:IntKind.i64.wrap ((r.num.natAbs:Nat):Int) = -r.num - 18446744073709551616:=by rw [IntKind.wrap_i64];omega
    have hc:IntKind.i64.wrap (-(-r.num - 18446744073709551616))=r.num+18446744073709551616:=by rw [IntKind.wrap_i64];omega
    exact Rh _ _ _ _ _ W j _ _ ha hc (by omega)
   ·rw [decide_eq_false (by omega)]
    exact QZ _ _ _ _ _ W j _ _ (show IntKind.i64.wrap ((r.num.natAbs:Nat):Int)=r.num - 18446744073709551616 by rw [IntKind.wrap_i64];omega) rfl (by omega)
  ·cases hd
   exact Q8 _ _ _ _ _ _ _ _ _ _ W j
 ·refine Q7 _ _ _ _ _ _ _ _ _ _ ?_ W j
  unfold aY
  rw [if_neg hd1,beq_eq_false_iff_ne]
  exact r.den_nz
end
end Rx
namespace Rx
open Go.RowKit
def cP (β:Nat→Rat) (h:Hint):List (Con (SQ β)):=wz β :: cq β h
theorem EP {β:Nat→Rat} {h:Hint} (ok:h.Ok β):∀ c∈cP β h,c.Ok Tryz.prog (SQ β) EV:=by
 unfold cP
 simp only [List.forall_mem_cons]
 exact ⟨NV,qH ok⟩
def Gm (β:Nat→Rat) (h:Hint):Con (SQ β):=aZ β h 80 [[.q],[.q]] K1 { eq:=[(y0,y1)] } (.bl true) K1
theorem Qv {β:Nat→Rat} {h:Hint} (ok:h.Ok β):(Gm β h).Ok Tryz.prog (SQ β) EV:=Ny ok (by decide) fun γ g=>⟨{ eq:=[(y0,y1)] },g,1,cP γ { eq:=[(y0,y1)] },EP g,by kernel_rfl⟩
end Rx
namespace Rx
open Go.RowKit
def Aw (β:Nat→Rat) (e0:RE) (x:Bool):Con (SQ β) where
 fn:=33
 app:=fun db b args=>match args with
  | [.e (.a c)]=>match bZ db c with
   | some (e,k)=>if decide (k≤4) && e0.beq e then (match x with
    | true=>some (.t [.s (.oi b),.s (.bl true)],[.i b e])
    | false=>some (.t [.s (.it .i64 0),.s (.bl false)],[])) else none
   | none=>none
  | _=>none
theorem NC {β:Nat→Rat} {e0:RE} {x:Bool} (hx:qY (e0.ev β)↔x=true):(Aw β e0 x).Ok Tryz.prog (SQ β) EV:=by
 refine Con.ok0 rfl ?_
 intro db b args res new ha ρ W hf hE
 simp only [Aw] at ha
 split at ha
 ·split at ha
  ·rename_i e k hc
   split at ha
   ·rename_i hk
    simp only [Bool.and_eq_true,decide_eq_true_eq] at hk
    obtain ⟨⟨h1,h2⟩,-⟩:=dJ hc hf
    rw [RE.beq_eq hk.2] at hx
    cases x
    ·cases ha
     exact (Q9 h1 (h2.mono hk.1) (fun h=>by have:=hx.1 h;cases this)).mono fun _ W' ⟨he,hb⟩=>⟨ρ,fun _ _=>rfl,by rw [he];rfl,hb,fun g hg=>by cases hg⟩
    ·cases ha
     have hi:=hx.2 rfl
     have hn:((e.ev β).num:Rat)=e.ev β:=by have:=Ih (e.ev β);rw [hi.1] at this;rw [this];exact Rat.mul_one _
     exact LJ (Ri h1 (h2.mono hk.1) hi) hi.2.1 hi.2.2 hn
   ·cases ha
  ·cases ha
 ·cases ha
def rnH:Hint:={ eq:=[(.den (.v 4),.c 1)],nz:=[.v 5] }
abbrev gC:RE:=.div (.v 2) (.v 5)
abbrev gG:RE:=.div (.add (.mul (.flo (.v 0)) (.v 5)) (.v 6)) (.v 5)
abbrev gF:RE:=.flo (.v 0)
abbrev dI (e:RE):RE:=.abs (.sub e (.v 0))
def rnL:List (RE×RE×RE):=[(gF,.v 0,.v 10),(.add gF (.c 1),.v 0,.v 11),(.abs (.sub (.v 0) (.v 4)),.v 21,.v 12),(.den (.v 7),.v 1,.v 14),
 (.den gC,.v 1,.v 15),(dI gC,dI (.v 7),.v 16),(.den gG,.v 1,.v 17),(dI gG,dI (.v 7),.v 18),(.den gF,.v 1,.v 19),(dI gF,dI (.v 7),.v 20)]
def Vz (is lt:Bool):List (RE×RE):=(if is then [(.den (.v 0),.v 0)] else []) ++ if lt then [] else [(.v 1,.v 7)]
def yt (β:Nat→Rat) (is lt:Bool):List (Con (SQ β)):=
 tZ β :: Au β 21 :: Am β rnL :: wu β 44 [(.v 0,.neg (.flo (.neg (.v 0))))] id :: wu β 46 [(.v 0,.v 4)] (· + 1) ::
 Ar β :: Aw β (.den (.v 0)) is :: AA β (.v 0) (Vz is lt) :: oC β 40 .den id :: Gm β rnH :: (ci β rnH ++ (cl1 β ++ cP β rnH))
abbrev rnA:List SV:=[.e (.a (Gq 0)),.e (.s (.oi 3)),.e (.s (.oi 4)),.e (.s (.oi 5))]
abbrev rnF:List Fc:=[.n 0 (.v 0),.i 3 (.v 1),.i 4 (.v 2),.i 5 (.v 3)]
theorem VD (β:Nat→Rat) (ok:yu.Ok β):([true,false].all fun is=>isB true (bG Tryz.prog (SQ β) (HAr β {} (kH β) yu ok) (yt β is true) 4 8 rnA rnF 6))=true:=by kernel_rfl
theorem VE (β:Nat→Rat) (c g:Bool) (ok:(rnT c g).Ok β):([true,false].all fun is=>isB true (bG Tryz.prog (SQ β) (HAr β {} (kH β) (rnT c g) ok) (yt β is false) 4 8 rnA rnF 6))=true:=by cases c <;> cases g <;> kernel_rfl
theorem Ji {β:Nat→Rat} {H:Tests (SQ β)} {cons:List (Con (SQ β))} {fuel:Nat} {f:FuncId} {args:List SV} {fs:List Fc} {b:Nat} {ρ:Env} {w:World} {y:Bool} (hc:∀ c∈cons,c.Ok Tryz.prog (SQ β) EV) (hr:isB y (bG Tryz.prog (SQ β) H cons fuel f args fs b)=true) (hE:EV w) (hf:∀ g∈fs,Fc.on β ρ g w):Calls Tryz.prog f (args.map (SV.den ρ)).toArray w (aT w (.bool y)):=by
 obtain ⟨fs',heq⟩:=BH hr
 exact (iI mixed hc heq (je hE) hf).mono fun x W' ⟨ρ',_,hx,hb,_⟩=>⟨hx,hb⟩
section
variable {a:Rat} {m n d:Int}
theorem Vx:0<rnD m d:=by
 have:=Int.tmod_nonneg m (Dq (d:=d)).1
 unfold rnD jA
 omega
theorem Dp:rnH.Ok (rnB a m n d):=by
 refine ⟨fun p hp=>?_,fun p h=>(by cases h),fun p hp=>?_,fun p h=>(by cases h),fun p h=>(by cases h)⟩
 ·obtain rfl:=List.mem_singleton.1 hp
  show ((((rnd a:Rat).den:Nat):Int):Rat)=((1:Int):Rat)
  rw [Rat.den_intCast];rfl
 ·obtain rfl:=List.mem_singleton.1 hp
  show (rnD m d:Rat)≠0
  intro h
  have h0:rnD m d=0:=intCast_inj h
  have:=Vx (m:=m) (d:=d)
  omega
theorem La (a:Rat):(rnd a).natAbs≤(flo a).natAbs+1:=by
 unfold rnd
 split <;> omega
theorem Pv {k:Nat} (hf:Fits k a):Fits (k+1) (rnd a:Rat):=by
 have h1:=(Bo hf).1
 rw [Rat.num_intCast] at h1
 have h2:=La a
 have h3:1≤B64 ^ k:=Nat.pow_pos (by decide)
 have h4:B64 ^ (k+1)=B64 ^ k*B64:=Nat.pow_succ ..
 have h5:B64 ^ k*2≤B64 ^ k*B64:=Nat.mul_le_mul_left _ (by decide)
 exact ⟨by rw [Rat.num_intCast];omega,by rw [Rat.den_intCast];omega⟩
theorem I8 {is lt:Bool} (his:qY (((a.den:Nat):Int):Rat)↔is=true) (hlt:lt=false→1≤m):∀ c∈yt (rnB a m n d) is lt,c.Ok Tryz.prog (SQ (rnB a m n d)) EV:=by
 unfold yt
 simp only [List.forall_mem_cons]
 refine ⟨Nk,Nz rfl,Nq ?_,Fg ?_,Fg ?_,Fb,NC his,NH ?_,tY fun e k v W _ h1 h2 _=>⟨vC _ v W h1,(wS h2).2⟩,Qv Dp,fun c hc=>?_⟩
 ·simp only [rnL,List.forall_mem_cons,List.not_mem_nil,false_imp_iff,implies_true,and_true]
  exact ⟨rfl,rfl,rfl,rfl,rfl,rfl,rfl,rfl,rfl,rfl⟩
 ·intro p hp k v W hk h1 h2 hE
  obtain rfl:=List.mem_singleton.1 hp
  have hc:=MJ h1 (h2.mono hk) hE
  rw [Rat.intCast_neg] at hc
  exact ⟨hc,(Bo h2.neg).neg⟩
 ·intro p hp k v W hk h1 h2 hE
  obtain rfl:=List.mem_singleton.1 hp
  exact ⟨VL h1 (h2.mono hk) hE,Pv h2⟩
 ·intro p hp m' hm'
  rcases List.mem_append.1 hp with hp | hp
  ·cases is
   ·cases hp
   ·obtain rfl:=List.mem_singleton.1 hp
    obtain rfl:m' = (a.den:Int):=intCast_inj hm'
    have h1:=a.den_pos
    exact ⟨by omega,(Nm.Ce (Nm.Ib (Int.le_refl _))).symm⟩
  ·cases lt
   ·obtain rfl:=List.mem_singleton.1 hp
    obtain rfl:m' = m:=intCast_inj hm'
    exact ⟨hlt rfl,rfl⟩
   ·cases hp
 ·rcases List.mem_append.1 hc with hc | hc
  ·exact MO Dp c hc
  ·rcases List.mem_append.1 hc with hc | hc
   ·exact MR c hc
   ·exact EP Dp c hc
end
theorem VN {n1 d1 b1 m n d:Int} {r:Rat} {W:World} (h1:IsN n1 d1 b1 r) (hm:-9223372036854775808≤m∧m≤9223372036854775807) (hn:-9223372036854775808≤n∧n≤9223372036854775807) (hd:-9223372036854775808≤d∧d≤9223372036854775807) (hE:EV W) :
  Calls Tryz.prog 8 #[.agg #[.int .i64 n1,.int .i64 d1,.int .u8 b1],.int .i64 m,.int .i64 n,.int .i64 d] W (aT W (.bool true)):=by
 obtain ⟨ρ,hρ⟩:∃ ρ,ρ=ev [nu n1,nu d1,nu b1,nu m,nu n,nu d]:=⟨_,rfl⟩
 have hg:∀ g∈rnF,Fc.on (rnB r m n d) ρ g W:=by
  rw [hρ]
  simp only [rnF,List.forall_mem_cons,List.not_mem_nil,false_imp_iff,implies_true,and_true]
  exact ⟨h1,⟨hm.1,hm.2,rfl⟩,⟨hn.1,hn.2,rfl⟩,⟨hd.1,hd.2,rfl⟩⟩
 have he:(List.map (SV.den ρ) rnA).toArray=#[.agg #[.int .i64 n1,.int .i64 d1,.int .u8 b1],.int .i64 m,.int .i64 n,.int .i64 d]:=by
  rw [hρ];kernel_rfl
 obtain ⟨is,his⟩:∃ is,(qY (((r.den:Nat):Int):Rat)↔is=true):=by
  by_cases h:qY (((r.den:Nat):Int):Rat)
  ·exact ⟨true,by simp [h]⟩
  ·exact ⟨false,by simp [h]⟩
 have mi:is∈[true,false]:=by cases is <;> simp
 rw [← he]
 by_cases hlt:m<1
 ·have ok:=VA (a:=r) (n:=n) (d:=d) hlt
  exact Ji (I8 his fun h=>by cases h) (List.all_eq_true.1 (VD _ ok) is mi) hE hg
 ·have ok:=VB (a:=r) (n:=n) (d:=d) (m:=m) h1.fits (by omega) hm.2 rfl rfl
  exact Ji (I8 his fun _=>by omega) (List.all_eq_true.1 (VE _ _ _ ok) is mi) hE hg
end Rx
end Go.Proofs.YthalajpklaodkaaGreatDoor
