/- What the proof rests on, part 37. -/
import Derived.Test.YtnmlkobogofadaaGreatDoorP36
namespace Go.Proofs.YtnmlkobogofadaaGreatDoor
set_option maxRecDepth 100000
set_option maxHeartbeats 80000000
namespace Rx
open Go.RowKit
def lC (z v:Bool):Hint where
 eq:=(tS (.v 8),tR (.v 8)) :: if v then [(sqs (.v 4) (.v 5),.c 1)] else []
 ne:=if v then [] else [(sqs (.v 4) (.v 5),.c 1)]
 nz:=if z then [] else [gW (.v 4)]
 sg:=if z then [(gW (.v 4),0)] else []
abbrev GN:List SV:=[.e (.a (handC 0 ++ handC 3)),.e (.a (handC 6 ++ handC 9)),.e (.a (handC 12 ++ handC 15)),.e (.a (handC 18 ++ handC 21)),.e (.a (handC 24))]
abbrev zI:List Fc:=[.n 0 (.v 0),.n 3 (.v 1),.n 6 (.v 2),.n 9 (.v 3),.n 12 (.v 4),.n 15 (.v 5),.n 18 (.v 6),.n 21 (.v 7),.n 24 (.v 8)]
theorem UA (z v:Bool) (β:Nat→Rat) (ok:(lC z v).Ok β):isB true (jk Tryz.prog (SQ β) (HQ β (lC z v) ok) (c3 β (lC z v)) 1 8 GN zI 27)=true:=by
 cases z <;> cases v <;> kernel_rfl
theorem Jp (β:Nat→Rat):∃ z v,(lC z v).Ok β:=by
 refine ⟨decide (1+β 4=0),decide (β 4*β 4+β 5*β 5=1),fun p hp=>?_,fun p hp=>?_,fun p hp=>?_,fun p hp=>?_,fun p h=>(by cases h)⟩
 ·simp only [lC,List.mem_cons] at hp
  rcases hp with rfl | hp
  ·show (β 8+β 8) / (1+β 8*β 8)=((2:Int):Rat)*β 8 / (1+β 8*β 8)
   have h2:((2:Int):Rat)=((1:Int):Rat)+((1:Int):Rat):=by rw [← Rat.intCast_add];rfl
   have h1:((1:Int):Rat)=1:=rfl
   rw [show ((2:Int):Rat)*β 8=β 8+β 8 by rw [h2,h1];grind]
  ·split at hp
   ·rename_i h
    obtain rfl:=List.mem_singleton.1 hp
    exact of_decide_eq_true h
   ·cases hp
 ·simp only [lC] at hp
  split at hp
  ·cases hp
  ·rename_i h
   obtain rfl:=List.mem_singleton.1 hp
   exact fun e=>h (decide_eq_true e)
 ·simp only [lC] at hp
  split at hp
  ·cases hp
  ·rename_i h
   obtain rfl:=List.mem_singleton.1 hp
   exact fun e=>h (decide_eq_true e)
 ·simp only [lC] at hp
  split at hp
  ·rename_i h
   obtain rfl:=List.mem_singleton.1 hp
   have h0:(gW (.v 4)).ev β=0:=of_decide_eq_true h
   show sgQ ((gW (.v 4)).ev β)=0
   rw [h0];rfl
  ·cases hp
theorem O1 {n1 d1 b1 n2 d2 b2 n3 d3 b3 n4 d4 b4 n5 d5 b5 n6 d6 b6 n7 d7 b7 n8 d8 b8 n9 d9 b9:Int} {r1 r2 r3 r4 r5 r6 r7 r8 r9:Rat} {W:World} (h1:IsN n1 d1 b1 r1) (h2:IsN n2 d2 b2 r2) (h3:IsN n3 d3 b3 r3) (h4:IsN n4 d4 b4 r4) (h5:IsN n5 d5 b5 r5) (h6:IsN n6 d6 b6 r6) (h7:IsN n7 d7 b7 r7) (h8:IsN n8 d8 b8 r8) (h9:IsN n9 d9 b9 r9) (hE:EV W) :
  Calls Tryz.prog 8 #[.agg #[.int .i64 n1,.int .i64 d1,.int .u8 b1,.int .i64 n2,.int .i64 d2,.int .u8 b2],.agg #[.int .i64 n3,.int .i64 d3,.int .u8 b3,.int .i64 n4,.int .i64 d4,.int .u8 b4],.agg #[.int .i64 n5,.int .i64 d5,.int .u8 b5,.int .i64 n6,.int .i64 d6,.int .u8 b6],.agg #[.int .i64 n7,.int .i64 d7,.int .u8 b7,.int .i64 n8,.int .i64 d8,.int .u8 b8],.agg #[.int .i64 n9,.int .i64 d9,.int .u8 b9]] W (dh W (.bool true)):=by
 obtain ⟨z,v,ok⟩:=Jp (bet [r1,r2,r3,r4,r5,r6,r7,r8,r9])
 obtain ⟨ρ,hρ⟩:∃ ρ,ρ=ev [nu n1,nu d1,nu b1,nu n2,nu d2,nu b2,nu n3,nu d3,nu b3,nu n4,nu d4,nu b4,nu n5,nu d5,nu b5,nu n6,nu d6,nu b6,nu n7,nu d7,nu b7,nu n8,nu d8,nu b8,nu n9,nu d9,nu b9]:=⟨_,rfl⟩
 have he:(List.map (SV.den ρ) GN).toArray=#[.agg #[.int .i64 n1,.int .i64 d1,.int .u8 b1,.int .i64 n2,.int .i64 d2,.int .u8 b2],.agg #[.int .i64 n3,.int .i64 d3,.int .u8 b3,.int .i64 n4,.int .i64 d4,.int .u8 b4],.agg #[.int .i64 n5,.int .i64 d5,.int .u8 b5,.int .i64 n6,.int .i64 d6,.int .u8 b6],.agg #[.int .i64 n7,.int .i64 d7,.int .u8 b7,.int .i64 n8,.int .i64 d8,.int .u8 b8],.agg #[.int .i64 n9,.int .i64 d9,.int .u8 b9]]:=by
  rw [hρ];kernel_rfl
 have hg:∀ g∈zI,Fc.on (bet [r1,r2,r3,r4,r5,r6,r7,r8,r9]) ρ g W:=by
  rw [hρ]
  simp only [zI,List.forall_mem_cons,List.not_mem_nil,false_imp_iff,implies_true,and_true]
  exact ⟨h1,h2,h3,h4,h5,h6,h7,h8,h9⟩
 rw [← he]
 exact Ee (SG ok) (UA z v _ ok) hE hg
end Rx
end Go.Proofs.YtnmlkobogofadaaGreatDoor
