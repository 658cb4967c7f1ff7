/- What the proof rests on, part 37. -/
import Derived.Test.YtnmlkobogofadaaGreatDoorP36
namespace Go.Proofs.YtnmlkobogofadaaGreatDoor
set_option maxRecDepth 100000
set_option maxHeartbeats 80000000
namespace Rx
open Go.RowKit
def lT (z:Bool) (s t c:Int):Hint where
 eq:=if t=0 then [(.v 1,.c 0)] else []
 nz:=(if z then [] else [.v 3]) ++ if t=0 then [] else [.v 1]
 sg:=(.v 0,s) :: (.v 1,t) :: (.c 0,0) :: if t=0 then [(.div (.v 0) (.v 1),0)] else []
 cm:=[(.v 0,.v 1,c)]
abbrev AU (z:Bool):List SV:=[.e (.a (handC 0)),.e (.a (handC 3)),.e (.s (.oi 6)),.e (.s (if z then .it .i64 0 else .oi 7))]
abbrev AX:List Fc:=[.n 0 (.v 0),.n 3 (.v 1),.i 6 (.v 2),.i 7 (.v 3)]
def c4 (β:Nat→Rat) (h:Hint):List (Con (SQ β)):=ci β h ++ (cl β h ++ c1 β h)
theorem I7 {β:Nat→Rat} {h:Hint} (ok:h.Ok β):∀ c∈c4 β h,c.Ok Tryz.prog (SQ β) EV:=fun c hc=>by
 rcases List.mem_append.1 hc with hc | hc
 ·exact Ja ok c hc
 ·rcases List.mem_append.1 hc with hc | hc
  ·exact Jc ok c hc
  ·exact I5 ok c hc
def opsL:List (Int×Int×Int):=[(-1,-1,-1),(-1,-1,0),(-1,-1,1),(-1,0,-1),(-1,1,-1),(0,-1,1),(0,0,0),(0,1,-1),(1,-1,1),(1,0,1),(1,1,-1),(1,1,0),(1,1,1)]
def bG (z:Bool) (p:Int×Int×Int):Prop:=∀ (β:Nat→Rat) (ok:(lT z p.1 p.2.1 p.2.2).Ok β),isB true (iZ Tryz.prog (SQ β) (HQ β (lT z p.1 p.2.1 p.2.2) ok) (c4 β (lT z p.1 p.2.1 p.2.2)) 1 4 (AU z) AX 8)=true
theorem O5:bG false ((-1),(-1),(-1)):=fun β ok=>by kernel_rfl
theorem O6:bG false ((-1),(-1),(0)):=fun β ok=>by kernel_rfl
theorem O8:bG false ((-1),(-1),(1)):=fun β ok=>by kernel_rfl
theorem Ph:bG false ((-1),(0),(-1)):=fun β ok=>by kernel_rfl
theorem Pj:bG false ((-1),(1),(-1)):=fun β ok=>by kernel_rfl
theorem Pm:bG false ((0),(-1),(1)):=fun β ok=>by kernel_rfl
theorem Pn:bG false ((0),(0),(0)):=fun β ok=>by kernel_rfl
theorem Pq:bG false ((0),(1),(-1)):=fun β ok=>by kernel_rfl
theorem Px:bG false ((1),(-1),(1)):=fun β ok=>by kernel_rfl
theorem Py:bG false ((1),(0),(1)):=fun β ok=>by kernel_rfl
theorem PG:bG false ((1),(1),(-1)):=fun β ok=>by kernel_rfl
theorem PK:bG false ((1),(1),(0)):=fun β ok=>by kernel_rfl
theorem PL:bG false ((1),(1),(1)):=fun β ok=>by kernel_rfl
theorem PW:bG true ((-1),(-1),(-1)):=fun β ok=>by kernel_rfl
theorem PX:bG true ((-1),(-1),(0)):=fun β ok=>by kernel_rfl
theorem P9:bG true ((-1),(-1),(1)):=fun β ok=>by kernel_rfl
theorem Qc:bG true ((-1),(0),(-1)):=fun β ok=>by kernel_rfl
theorem Qd:bG true ((-1),(1),(-1)):=fun β ok=>by kernel_rfl
theorem Qi:bG true ((0),(-1),(1)):=fun β ok=>by kernel_rfl
theorem Qj:bG true ((0),(0),(0)):=fun β ok=>by kernel_rfl
theorem Qk:bG true ((0),(1),(-1)):=fun β ok=>by kernel_rfl
theorem Ql:bG true ((1),(-1),(1)):=fun β ok=>by kernel_rfl
theorem Qm:bG true ((1),(0),(1)):=fun β ok=>by kernel_rfl
theorem Qp:bG true ((1),(1),(-1)):=fun β ok=>by kernel_rfl
theorem Qq:bG true ((1),(1),(0)):=fun β ok=>by kernel_rfl
theorem Qu:bG true ((1),(1),(1)):=fun β ok=>by kernel_rfl
theorem PV (z:Bool):∀ p∈opsL,bG z p:=by
 unfold opsL
 simp only [List.forall_mem_cons,List.not_mem_nil,false_imp_iff,implies_true,and_true]
 cases z
 ·exact ⟨O5,O6,O8,Ph,Pj,Pm,Pn,Pq,Px,Py,PG,PK,PL⟩
 ·exact ⟨PW,PX,P9,Qc,Qd,Qi,Qj,Qk,Ql,Qm,Qp,Qq,Qu⟩
theorem Gq {a b:Rat} (h:sgQ a<sgQ b):aY a b = -1:=by
 rw [← BK,← BK] at h
 have e0:((0:Int):Rat)=0:=rfl
 rw [← e0,qY,qY] at h
 unfold aY
 rw [if_pos]
 have ha:=lN a
 have hb:=lN b
 rw [Rat.lt_iff]
 have h1:=a.den_pos
 have h2:=b.den_pos
 rcases Int.lt_trichotomy a.num 0 with h3 | h3 | h3 <;> rcases Int.lt_trichotomy b.num 0 with h4 | h4 | h4
 all_goals first
  | (exfalso;simp only [h3,h4] at h;(repeat' split at h) <;> omega)
  | skip
 ·rw [h4,Int.zero_mul];exact Int.mul_neg_of_neg_of_pos h3 (by omega)
 ·exact Int.lt_trans (Int.mul_neg_of_neg_of_pos h3 (by omega)) (Int.mul_pos h4 (by omega))
 ·rw [h3,Int.zero_mul];exact Int.mul_pos h4 (by omega)
 ·rw [if_neg (by omega),if_neg (by omega),if_neg (by omega),if_neg (by omega)] at h
  exact absurd h (by decide)
theorem Ji {a b:Rat} (h:aY a b = -1):aY b a=1:=by
 unfold aY at h ⊢
 split at h
 ·rename_i hl
  rw [if_neg (Rat.not_lt.2 (Rat.le_of_lt hl)),if_neg (fun e=>by rw [e] at hl;exact Rat.lt_irrefl hl)]
 ·split at h <;> cases h
theorem sg0 {a:Rat} (h:sgQ a=0):a=0:=by
 rw [BM] at h
 split at h
 ·cases h
 ·split at h
  ·rename_i h0;exact Rat.num_eq_zero.1 h0
  ·cases h
theorem O4 (a b:Rat):(sgQ a,sgQ b,aY a b)∈opsL:=by
 have hlt:=fun h=>Gq (a:=a) (b:=b) h
 have hgt:=fun h=>Ji (Gq (a:=b) (b:=a) h)
 have hz:sgQ a=0→sgQ b=0→aY a b=0:=fun h1 h2=>by rw [sg0 h1,sg0 h2];rfl
 rcases sg3 a with h1 | h1 | h1 <;> rcases sg3 b with h2 | h2 | h2 <;> rw [h1,h2] at hlt hgt hz ⊢
 ·rcases yg a b with h | h | h <;> rw [h] <;> decide
 ·rw [hlt (by decide)];decide
 ·rw [hlt (by decide)];decide
 ·rw [hgt (by decide)];decide
 ·rw [hz rfl rfl];decide
 ·rw [hlt (by decide)];decide
 ·rw [hgt (by decide)];decide
 ·rw [hgt (by decide)];decide
 ·rcases yg a b with h | h | h <;> rw [h] <;> decide
theorem O1 (β:Nat→Rat):(lT (decide (β 3=0)) (sgQ (β 0)) (sgQ (β 1)) (aY (β 0) (β 1))).Ok β:=by
 refine ⟨fun p hp=>?_,fun p h=>(by cases h),fun p hp=>?_,fun p hp=>?_,fun p hp=>?_⟩
 ·simp only [lT] at hp
  split at hp
  ·rename_i h
   obtain rfl:=List.mem_singleton.1 hp
   exact sg0 h
  ·cases hp
 ·simp only [lT] at hp
  rcases List.mem_append.1 hp with hp | hp
  ·split at hp
   ·cases hp
   ·rename_i h
    obtain rfl:=List.mem_singleton.1 hp
    exact fun e=>h (decide_eq_true e)
  ·split at hp
   ·cases hp
   ·rename_i h
    obtain rfl:=List.mem_singleton.1 hp
    exact fun e=>h (by rw [show β 1=0 from e];rfl)
 ·simp only [lT,List.mem_cons] at hp
  rcases hp with rfl | rfl | rfl | hp
  ·rfl
  ·rfl
  ·rfl
  ·split at hp
   ·rename_i h
    obtain rfl:=List.mem_singleton.1 hp
    show sgQ (β 0 / β 1)=0
    rw [sg0 h,Rat.div_def,Rat.inv_zero,Rat.mul_zero];rfl
   ·cases hp
 ·simp only [lT,List.mem_singleton] at hp
  subst hp
  rfl
theorem PO {n1 d1 b1 n2 d2 b2 n d:Int} {r1 r2:Rat} {W:World} (h1:IsN n1 d1 b1 r1) (h2:IsN n2 d2 b2 r2) (hn:-9223372036854775808≤n∧n≤9223372036854775807) (hd:-9223372036854775808≤d∧d≤9223372036854775807) (hE:EV W) :
  Calls Tryz.prog 4 #[.agg #[.int .i64 n1,.int .i64 d1,.int .u8 b1],.agg #[.int .i64 n2,.int .i64 d2,.int .u8 b2],.int .i64 n,.int .i64 d] W (dh W (.bool true)):=by
 have ok:=O1 (bet [r1,r2,(n:Rat),(d:Rat)])
 have hr:=PV (decide ((d:Rat)=0)) _ (O4 r1 r2) _ ok
 obtain ⟨ρ,hρ⟩:∃ ρ,ρ=ev [nu n1,nu d1,nu b1,nu n2,nu d2,nu b2,nu n,nu d]:=⟨_,rfl⟩
 have hg:∀ g∈AX,Fc.on (bet [r1,r2,(n:Rat),(d:Rat)]) ρ g W:=by
  rw [hρ]
  simp only [AX,List.forall_mem_cons,List.not_mem_nil,false_imp_iff,implies_true,and_true]
  exact ⟨h1,h2,⟨hn.1,hn.2,rfl⟩,⟨hd.1,hd.2,rfl⟩⟩
 have hc:=FQ (ρ:=ρ) (I7 ok) hr hE hg
 by_cases h0:d=0
 ·subst h0
  have he:(List.map (SV.den ρ) (AU true)).toArray=#[.agg #[.int .i64 n1,.int .i64 d1,.int .u8 b1],.agg #[.int .i64 n2,.int .i64 d2,.int .u8 b2],.int .i64 n,.int .i64 0]:=by
   rw [hρ];kernel_rfl
  rw [show decide (((0:Int):Rat)=0)=true from decide_eq_true rfl,he] at hc
  exact hc
 ·have he:(List.map (SV.den ρ) (AU false)).toArray=#[.agg #[.int .i64 n1,.int .i64 d1,.int .u8 b1],.agg #[.int .i64 n2,.int .i64 d2,.int .u8 b2],.int .i64 n,.int .i64 d]:=by
   rw [hρ];kernel_rfl
  have hne:decide ((d:Rat)=0)=false:=decide_eq_false fun e=>h0 (by exact_mod_cast e)
  rw [hne,he] at hc
  exact hc
end Rx
end Go.Proofs.YtnmlkobogofadaaGreatDoor
