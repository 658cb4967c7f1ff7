/- What the proof rests on, part 38. -/
import Derived.Test.YtioogdcgllajmaaGreatDoorZ34
import Derived.Test.YtioogdcgllajmaaGreatDoorZ37
import Derived.Test.YtioogdcgllajmaaGreatDoorZ18
import Derived.Test.YtioogdcgllajmaaGreatDoorZ31
namespace Go.Proofs.YtioogdcgllajmaaGreatDoor
set_option maxRecDepth 100000
set_option maxHeartbeats 80000000
namespace Rx.Ry
open Go.RowKit
def okQ (b:Bool) (n m:Nat):Bool:=!(Nat.beq m 1) && (Nat.beq (Nat.gcd n (bif Nat.beq m 0 then 1 else m)) 1 && ((!b || !(Nat.beq n 0)) && (Nat.blt n Big && Nat.blt m Big)))
def mkQ (b:Bool) (n m:Nat):Rat:=mkRat (zs b n) (bif Nat.beq m 0 then 1 else m)
theorem okQ_is {b:Bool} {n m:Nat} (h:okQ b n m=true) {W:World} {c d e f:Value} (h1:IsMag W c d n) (h2:IsMag W e f m):IsQ W (.agg #[.bool b,c,d,e,f]) (mkQ b n m)∧Fits 200 (mkQ b n m):=by
 unfold okQ at h
 simp only [Bool.and_eq_true,Bool.or_eq_true,Bool.not_eq_true'] at h
 obtain ⟨a1,a2,a3,a4,a5⟩:=h
 have m1:m≠1:=Nat.ne_of_beq_eq_false a1
 have hu:(bif Nat.beq m 0 then 1 else m)≠0:=by
  cases hm:Nat.beq m 0 with
  | true=>simp
  | false=>exact Nat.ne_of_beq_eq_false hm
 have hc:Nat.Coprime (zs b n).natAbs (bif Nat.beq m 0 then 1 else m):=by rw [zs_natAbs];exact Nat.eq_of_beq_eq_true a2
 obtain ⟨p1,p2⟩:=mk_low hu hc
 have e1:decide ((mkQ b n m).num<0)=b:=by
  show decide ((mkRat _ _).num<0)=b
  rw [p1]
  by_cases hn:n=0
  ·subst hn
   rcases a3 with rfl | h3
   ·rfl
   ·cases h3
  ·exact zs_neg hn
 have e2:(mkQ b n m).num.natAbs=n:=by
  show (mkRat _ _).num.natAbs=n
  rw [p1,zs_natAbs]
 have e3:(mkQ b n m).den=bif Nat.beq m 0 then 1 else m:=p2
 have e4:denOf (mkQ b n m)=m:=by
  unfold denOf
  rw [e3]
  cases hm:Nat.beq m 0 with
  | true=>rw [cond_true,if_pos rfl];exact (Nat.eq_of_beq_eq_true hm).symm
  | false=>rw [cond_false,if_neg m1]
 refine ⟨⟨c,d,e,f,by rw [e1],by rw [e2];exact h1,by rw [e4];exact h2⟩,by rw [e2];exact blt_iff.1 a4,?_⟩
 rw [e3]
 cases hm:Nat.beq m 0 with
 | true=>rw [cond_true];exact Nat.one_lt_pow (by decide) (by decide)
 | false=>rw [cond_false];exact blt_iff.1 a5
def asQ (db:List Fm):List Cell→Option Rat
 | [.bl b,c,d,e,f]=>match asM db [c,d],asM db [e,f] with
  | some n,some m=>bif okQ b n m then some (mkQ b n m) else none
  | _,_=>none
 | _=>none
theorem asQ_ok {db:List Fm} {cs:List Cell} {r:Rat} {ρ:Env} {W:World} (h:asQ db cs=some r) (hf:∀ f∈db,onM ρ f W):IsQ W (.agg (cs.map (Cell.den ρ)).toArray) r∧Fits 200 r:=by
 unfold asQ at h
 split at h
 ·rename_i b c d e f
  split at h
  ·rename_i n m h1 h2
   obtain ⟨hg,h⟩:=guard_some h
   cases h
   obtain ⟨c',d',q1,q2⟩:=asM_ok h1 hf
   obtain ⟨e',f',q3,q4⟩:=asM_ok h2 hf
   simp only [List.map_cons,List.map_nil,List.cons.injEq,and_true] at q1 q3
   simp only [List.map_cons,List.map_nil,q1,q3]
   exact okQ_is hg q2 q4
  ·cases h
 ·cases h
def qC (b:Nat) (r:Rat):List Cell:=.bl (decide (r.num<0)) :: (mC b r.num.natAbs ++ mC (b+1) (denOf r))
def qF (b:Nat) (r:Rat):List Fm:=fC b r.num.natAbs ++ fC (b+1) (denOf r)
section
variable {f:FuncId} {vals:Array Value} {W:World} {ρ:Env} {b:Nat}
theorem qC_den {W':World} {v:Value} {r:Rat} (h:IsQ W' v r):∃ nv nv':Nv,(Value.agg ((qC b r).map (Cell.den (setN ρ b [nv,nv']))).toArray)=v∧∀ g∈qF b r,onM (setN ρ b [nv,nv']) g W':=by
 obtain ⟨c,d,e,f,rfl,hm,hm'⟩:=h
 obtain ⟨nv,hnv⟩:=mC_den hm
 obtain ⟨nv',hnv'⟩:=mC_den hm'
 obtain ⟨h1,h2⟩:=hnv (setN ρ b [nv,nv']) b (by simp [setN])
 obtain ⟨h3,h4⟩:=hnv' (setN ρ b [nv,nv']) (b+1) (by simp [setN])
 refine ⟨nv,nv',?_,fun g hg=>?_⟩
 ·unfold qC
  rw [List.map_cons,List.map_append,h1,h3]
  rfl
 ·rcases List.mem_append.1 hg with hg | hg
  ·exact h2 g hg
  ·exact h4 g hg
theorem ans_q {r:Rat} (hc:Calls Tryz.prog f vals W (RetQ W r)):Calls Tryz.prog f vals W (Ans ρ b W (.e (.a (qC b r))) (qF b r)):=by
 refine hc.mono fun e W' ⟨v,he,hq,hb⟩=>?_
 obtain ⟨nv,nv',h1,h2⟩:=qC_den (ρ:=ρ) (b:=b) hq
 exact ⟨_,setN_out (L:=[nv,nv']) (by simp [M]),by rw [he,← h1];rfl,hb,h2⟩
theorem ans_qe {r:Rat} {x:Int} (hc:Calls Tryz.prog f vals W (RetQE W r x)):Calls Tryz.prog f vals W (Ans ρ b W (.t [.a (qC b r),.s (.it .i64 x)]) (qF b r)):=by
 refine hc.mono fun e W' ⟨v,he,hq,hb⟩=>?_
 obtain ⟨nv,nv',h1,h2⟩:=qC_den (ρ:=ρ) (b:=b) hq
 exact ⟨_,setN_out (L:=[nv,nv']) (by simp [M]),by rw [he,← h1];rfl,hb,h2⟩
end
def con1q (fn:FuncId) (op:Nat→Rat→Option (SV×List Fm)):Con SM where
 fn:=fn
 app:=fun db b args=>match args with
  | [.e (.a x)]=>match asQ db x with
   | some r=>op b r
   | none=>none
  | _=>none
def con2q (fn:FuncId) (op:Nat→Rat→Rat→Option (SV×List Fm)):Con SM where
 fn:=fn
 app:=fun db b args=>match args with
  | [.e (.a x),.e (.a y)]=>match asQ db x,asQ db y with
   | some r,some s=>op b r s
   | _,_=>none
  | _=>none
theorem con1q_ok {fn:FuncId} {op:Nat→Rat→Option (SV×List Fm)} (h:∀ b r res new,op b r=some (res,new)→∀ v ρ W,IsQ W v r→Fits 200 r→EV W→Calls Tryz.prog fn #[v] W (Ans ρ b W res new)):(con1q fn op).Ok Tryz.prog SM EV:=by
 refine Con.ok0 rfl ?_
 intro db b args res new ha ρ W hf hE
 simp only [con1q] at ha
 split at ha
 ·rename_i x
  split at ha
  ·rename_i r hx
   obtain ⟨h1,h2⟩:=asQ_ok hx hf
   exact h b r res new ha _ ρ W h1 h2 hE
  ·cases ha
 ·cases ha
theorem con2q_ok {fn:FuncId} {op:Nat→Rat→Rat→Option (SV×List Fm)} (h:∀ b r s res new,op b r s=some (res,new)→∀ v v' ρ W,IsQ W v r→IsQ W v' s→Fits 200 r→Fits 200 s→EV W→Calls Tryz.prog fn #[v,v'] W (Ans ρ b W res new)):(con2q fn op).Ok Tryz.prog SM EV:=by
 refine Con.ok0 rfl ?_
 intro db b args res new ha ρ W hf hE
 simp only [con2q] at ha
 split at ha
 ·rename_i x y
  cases hx:asQ db x with
  | none=>rw [hx] at ha;cases ha
  | some r =>
   cases hy:asQ db y with
   | none=>rw [hx,hy] at ha;cases ha
   | some s =>
    rw [hx,hy] at ha
    obtain ⟨h1,h2⟩:=asQ_ok hx hf
    obtain ⟨h3,h4⟩:=asQ_ok hy hf
    exact h b r s res new ha _ _ ρ W h1 h3 h2 h4 hE
 ·cases ha
def qR (b:Nat) (r:Rat):Option (SV×List Fm):=some (.e (.a (qC b r)),qF b r)
theorem qR_some {b:Nat} {r:Rat} {res:SV} {new:List Fm} (h:qR b r=some (res,new)):.e (.a (qC b r))=res∧qF b r=new:=by
 simpa only [qR,Option.some.injEq,Prod.mk.injEq] using h
def qMul:Con SM:=con2q 19 fun b r s=>qR b (r*s)
def qAdd:Con SM:=con2q 15 fun b r s=>qR b (r+s)
def qSub:Con SM:=con2q 17 fun b r s=>qR b (r - s)
def qOver:Con SM:=con2q 47 fun b r s=>bif decide (s.num=0) then none else qR b (r / s)
def qDiv:Con SM:=con2q 10 fun b r s=>some (.t [.a (qC b (r / s)),.s (.it .i64 (if s=0 then 9 else 0))],qF b (r / s))
def qCmp:Con SM:=con2q 25 fun _ r s=>iR (cmpQ r s)
def qNeg:Con SM:=con1q 21 fun b r=>qR b (-r)
def qAbs:Con SM:=con1q 23 fun b r=>qR b (if r.num<0 then -r else r)
def qInv:Con SM:=con1q 100 fun b r=>bif decide (r.num=0) then none else qR b r⁻¹
def qNum:Con SM:=con1q 249 fun b r=>qR b (r.num:Rat)
def qDen:Con SM:=con1q 125 fun b r=>qR b (((r.den:Nat):Int):Rat)
def qFloor:Con SM:=con1q 127 fun b r=>qR b ((r.num / (r.den:Int):Int):Rat)
def qSign:Con SM:=con1q 7 fun _ r=>iR (sgn (decide (r.num<0)) r.num.natAbs)
def qInt:Con SM where
 fn:=13
 app:=fun _ b args=>match args with
  | [.e (.s (.it .i64 n))]=>bif decide (-9223372036854775808≤n) && decide (n<9223372036854775808) then qR b (n:Rat) else none
  | _=>none
def qM64:Con SM where
 fn:=111
 app:=fun _ _ args=>match args with
  | [.e (.s (.it .u64 (.ofNat x))),.e (.s (.it .u64 (.ofNat y)))]=>bif Nat.blt x 18446744073709551616 && Nat.blt y 18446744073709551616 then some (.t [.s (.it .u64 (.ofNat (mulH x y))),.s (.it .u64 (.ofNat (mulL x y)))],[]) else none
  | _=>none
def kq:List (Con SM):=qMul :: qAdd :: qSub :: qOver :: qDiv :: qCmp :: qNeg :: qAbs :: qInv :: qNum :: qDen :: qFloor :: qSign :: qInt :: qM64 :: km
theorem qMul_ok:qMul.Ok Tryz.prog SM EV:=con2q_ok fun b r s res new h v v' ρ W h1 h2 f1 f2 hE=>by
 obtain ⟨rfl,rfl⟩:=qR_some h
 exact ans_q (Mul_calls r s v v' 200 W h1 h2 (by decide) f1 f2 hE.tz)
theorem qAdd_ok:qAdd.Ok Tryz.prog SM EV:=con2q_ok fun b r s res new h v v' ρ W h1 h2 f1 f2 hE=>by
 obtain ⟨rfl,rfl⟩:=qR_some h
 exact ans_q (Add_calls r s v v' 200 W h1 h2 (by decide) f1 f2 hE.tz)
theorem qSub_ok:qSub.Ok Tryz.prog SM EV:=con2q_ok fun b r s res new h v v' ρ W h1 h2 f1 f2 hE=>by
 obtain ⟨rfl,rfl⟩:=qR_some h
 exact ans_q (Sub_calls r s v v' 200 W h1 h2 (by decide) f1 f2 hE.tz)
theorem not_some {α:Type} {g:Bool} {x:Option α} {y:α} (h:(bif g then none else x)=some y):g=false∧x=some y:=by
 cases g with
 | true=>cases h
 | false=>exact ⟨rfl,h⟩
theorem qOver_ok:qOver.Ok Tryz.prog SM EV:=con2q_ok fun b r s res new h v v' ρ W h1 h2 f1 f2 hE=>by
 obtain ⟨hg,h⟩:=not_some h
 obtain ⟨rfl,rfl⟩:=qR_some h
 exact ans_q (Over_calls r s v v' 200 W h1 h2 (by decide) (fun e=>of_decide_eq_false hg (by rw [e];rfl)) f1 f2 hE.tz)
theorem qDiv_ok:qDiv.Ok Tryz.prog SM EV:=con2q_ok fun b r s res new h v v' ρ W h1 h2 f1 f2 hE=>by
 simp only [Option.some.injEq,Prod.mk.injEq] at h
 obtain ⟨rfl,rfl⟩:=h
 exact ans_qe (Div_calls r s v v' 200 W h1 h2 (by decide) f1 f2 hE.tz)
theorem qCmp_ok:qCmp.Ok Tryz.prog SM EV:=con2q_ok fun b r s res new h v v' ρ W h1 h2 f1 f2 _=>by
 obtain ⟨rfl,rfl⟩:=iR_some h
 exact ans_v (Cmp_calls r s v v' 200 W h1 h2 (by decide) f1 f2) fun _=>rfl
theorem qNeg_ok:qNeg.Ok Tryz.prog SM EV:=con1q_ok fun b r res new h v ρ W h1 _ _=>by
 obtain ⟨rfl,rfl⟩:=qR_some h
 exact ans_q (Neg_calls r v W h1)
theorem qAbs_ok:qAbs.Ok Tryz.prog SM EV:=con1q_ok fun b r res new h v ρ W h1 _ _=>by
 obtain ⟨rfl,rfl⟩:=qR_some h
 exact ans_q (Abs_calls r v W h1)
theorem qInv_ok:qInv.Ok Tryz.prog SM EV:=con1q_ok fun b r res new h v ρ W h1 _ _=>by
 obtain ⟨hg,h⟩:=not_some h
 obtain ⟨rfl,rfl⟩:=qR_some h
 exact ans_q (Inv_calls r v W h1 fun e=>of_decide_eq_false hg (by rw [e];rfl))
theorem qNum_ok:qNum.Ok Tryz.prog SM EV:=con1q_ok fun b r res new h v ρ W h1 _ _=>by
 obtain ⟨rfl,rfl⟩:=qR_some h
 exact ans_q (Num_calls r v W h1)
theorem qDen_ok:qDen.Ok Tryz.prog SM EV:=con1q_ok fun b r res new h v ρ W h1 _ _=>by
 obtain ⟨rfl,rfl⟩:=qR_some h
 exact ans_q (Den_calls r v W h1)
theorem qFloor_ok:qFloor.Ok Tryz.prog SM EV:=con1q_ok fun b r res new h v ρ W h1 f1 _=>by
 obtain ⟨rfl,rfl⟩:=qR_some h
 exact ans_q (Floor_calls r v 200 W h1 (by decide) f1)
theorem qSign_ok:qSign.Ok Tryz.prog SM EV:=con1q_ok fun b r res new h v ρ W h1 _ _=>by
 obtain ⟨rfl,rfl⟩:=iR_some h
 obtain ⟨c,d,e,f,rfl,hm,-⟩:=h1
 exact ans_v (Sign_calls (decide (r.num<0)) c d e f r.num.natAbs W hm) fun _=>rfl
theorem qInt_ok:qInt.Ok Tryz.prog SM EV:=by
 refine Con.ok0 rfl ?_
 intro db b args res new ha ρ W hf _
 simp only [qInt] at ha
 split at ha
 ·rename_i n
  obtain ⟨hg,h⟩:=guard_some (α:=SV×List Fm) ha
  obtain ⟨rfl,rfl⟩:=qR_some h
  simp only [Bool.and_eq_true] at hg
  exact ans_q (ρ:=ρ) (b:=b) (Int_calls n (of_decide_eq_true hg.1) (of_decide_eq_true hg.2) W)
 ·cases ha
theorem qM64_ok:qM64.Ok Tryz.prog SM EV:=by
 refine Con.ok0 rfl ?_
 intro db b args res new ha ρ W hf _
 simp only [qM64] at ha
 split at ha
 ·rename_i x y
  obtain ⟨hg,h⟩:=guard_some (α:=SV×List Fm) ha
  cases h
  simp only [Bool.and_eq_true] at hg
  exact Calls.mono (Mul64_calls x y (Nat.le_of_ble_eq_true hg.1) (Nat.le_of_ble_eq_true hg.2) W) fun e W' ⟨he,hw⟩=>⟨ρ,fun _ _=>rfl,he,hw ▸ Below.refl _ _,fun f hf=>by cases hf⟩
 ·cases ha
theorem kq_ok:∀ c∈kq,c.Ok Tryz.prog SM EV:=cons_ok qMul_ok (cons_ok qAdd_ok (cons_ok qSub_ok (cons_ok qOver_ok (cons_ok qDiv_ok (cons_ok qCmp_ok (cons_ok qNeg_ok (cons_ok qAbs_ok (cons_ok qInv_ok (cons_ok qNum_ok (cons_ok qDen_ok (cons_ok qFloor_ok (cons_ok qSign_ok (cons_ok qInt_ok (cons_ok qM64_ok km_ok))))))))))))))
end Rx.Ry
section
open Go.RowKit
theorem wpList_frameW {P:Program} {ops:Array Oper} {Q:Exit→Act→World→Prop} {r r':List Oper} {a a':Act} {W:World} (hr:r=r') (ha:a=a') (h:wpList P ops Q r' a' W):wpList P ops Q r a W:=by
 subst hr ha
 exact h
theorem St.store0 {w W:World} {bs:List Bk} (h:St w bs [] W) (k i:Nat) (u:Value) {b:Bk} (hk:bs[k]? = some b):St w (setBk bs k i u) [] (W.setCell ⟨b.pos,i,none⟩ u):=by
 obtain ⟨h1,h2⟩:=h.box.get hk
 exact ⟨h.bel.setCell h1 u,h.box.set i u hk,trivial⟩
def cmpW (a b:Int):Int:=if a<b then -1 else if b<a then 1 else 0
theorem nanInt_calls (a:Int) (w:World):Calls Tryz.prog 326 #[.int .i64 a] w (RetI w (.bool false)):=by
 go_enter Tryz.func326,Tryz.ntmps326
 go_wp2_with fail
 go_ret
 exact ⟨by simp,Below.refl _ _⟩
theorem cmpInt_calls (a b:Int) (w:World):Calls Tryz.prog 310 #[.int .i64 a,.int .i64 b] w (RetI w (.int .i64 (cmpW a b))):=by
 go_enter Tryz.func310,Tryz.ntmps310
 go_wp2_with fail
 refine (nanInt_calls a _).mono ?_
 rintro e w1 ⟨rfl,hB1⟩
 go_wp2_with fail
 refine (nanInt_calls b _).mono ?_
 rintro e w2 ⟨rfl,hB2⟩
 have HB:=hid (hB1.trans (hB2.mono hB1.size))
 clear hB1 hB2
 go_wp2_with fail
 all_goals
  go_ret
  refine ⟨congrArg (fun x=>Ending.returned (Value.int .i64 x)) ?_,HB.out⟩
  unfold cmpW
  repeat' split
  all_goals omega
theorem wSign_calls (a:Int) (w:World):Calls Tryz.prog 271 #[.agg #[.int .i64 a,.pointer none]] w (RetI w (.int .i64 (cmpW a 0))):=by
 have hb:=(Below.refl w.heap.size w).alloc (Nat.le_refl _) (.cells #[.int .i64 a,.pointer none] 337)
 have HB:=hid hb
 clear hb
 go_enter Tryz.func271,Tryz.ntmps271
 go_wp2_with fail
 refine (cmpInt_calls a 0 _).mono ?_
 rintro e w1 ⟨rfl,hB1⟩
 go_wp2_with fail
 go_ret
 exact ⟨rfl,HB.out.trans (hB1.mono HB.out.size)⟩
theorem size_calls (a:Int) (ha:-9223372036854775808<a) (ha':a<9223372036854775808) (w:World):Calls Tryz.prog 327 #[.int .i64 a] w (RetI w (.int .u64 (a.natAbs:Int))):=by
 go_enter Tryz.func327,Tryz.ntmps327
 go_wp2_with fail
 all_goals
  go_ret
  refine ⟨congrArg (fun x=>Ending.returned (Value.int .u64 x)) ?_,Below.refl _ _⟩
  omega
theorem wMul_calls (a b:Int) (ha:-9223372036854775808<a) (ha':a<9223372036854775808) (hb:-9223372036854775808<b) (hb':b<9223372036854775808) (hc:-9223372036854775808<a*b) (hc':a*b<9223372036854775808) (w:World):Calls Tryz.prog 311 #[.agg #[.int .i64 a,.pointer none],.agg #[.int .i64 b,.pointer none]] w (RetI w (.agg #[.int .i64 (a*b),.pointer none])):=by
 have hM:mulH a.natAbs b.natAbs=0∧mulL a.natAbs b.natAbs=(a*b).natAbs:=by
  unfold mulH mulL B64
  rw [← Int.natAbs_mul]
  constructor <;> omega
 have HA:=hid (fun W=>size_calls a ha ha' W)
 have HC:=hid (fun W=>size_calls b hb hb' W)
 have HM:=hid (fun W=>Mul64_calls a.natAbs b.natAbs (by unfold B64;omega) (by unfold B64;omega) W)
 rw [hM.1,hM.2] at HM
 obtain ⟨c,hab⟩:∃ c,c=a*b:=⟨_,rfl⟩
 rw [← hab] at hc hc' HM ⊢
 replace hab:=hid hab
 clear hM ha ha' hb hb'
 go_enter Tryz.func311,Tryz.ntmps311
 go_wp2_with fail
 have hS0:=hid ((((St.start w).alloc' (w.heap.size) (by simp) 337 [.int .i64 a,.pointer none]).alloc' (w.heap.size+1) (by simp) 337 [.int .i64 b,.pointer none]).alloc' (w.heap.size+1+1) (by simp) 337 [.int .i64 0,.pointer none])
 obtain ⟨W0,hW0⟩:=nameW hS0
 rw [hW0] at hS0 ⊢
 clear hW0
 have LM0:=hid (fun (W:World) (h:Below W0.heap.size W0 W)=>((hS0.out.call h).f2 2 w.heap.size 337 (.int .i64 a) (.pointer none) rfl).1)
 have LM1:=hid (fun (W:World) (h:Below W0.heap.size W0 W)=>((hS0.out.call h).f2 1 (w.heap.size+1) 337 (.int .i64 b) (.pointer none) rfl).1)
 refine wp_region_inv 12 [⟨[],[0]⟩,⟨[0],[1]⟩,⟨[1],[2]⟩,⟨[],[3]⟩,⟨[3],[4]⟩,⟨[4],[5]⟩,⟨[2,5],[6]⟩,⟨[6],[7]⟩,⟨[7],[8]⟩,⟨[7],[9]⟩,⟨[8],[10]⟩,⟨[9],[11]⟩]
  [oE (.pointer (some ⟨w.heap.size,0,none⟩)),oE (.int .i64 a),oE (.int .u64 (a.natAbs:Int)),oE (.pointer (some ⟨w.heap.size+1,0,none⟩)),oE (.int .i64 b),oE (.int .u64 (b.natAbs:Int)),oE (.tuple #[.int .u64 0,.int .u64 (c.natAbs:Int)]),oE (.tuple #[.int .u64 0,.int .u64 (c.natAbs:Int)]),oE (.int .u64 0),oE (.int .u64 (c.natAbs:Int)),oE (.int .u64 0),oE (.int .u64 (c.natAbs:Int))]
  (fun _ W=>Below W0.heap.size W0 W) (by kernel_rfl) (by kernel_rfl) ?hT ?hZ ?hO ?hE
 case hZ=>exact (Below.refl _ _).drew
 case hT =>
  simp only [List.forall_mem_cons,List.not_mem_nil,false_imp_iff,implies_true,and_true]
  exact ⟨bE,bE,bE,bE,bE,bE,bE,bE,bE,bE,bE,bE⟩
 case hO =>
  intro u
  simp only [List.take_succ_cons,List.take_zero,putAll]
  repeat' (first | with_reducible exact debts_nil | with_reducible refine debts_cons ?_ ?_)
  ·intro W hS hF K hK
   unfold takes
   go_simp
   exact hK _ _ (.refl _ _) hS rfl
  ·intro W hS hF K hK
   have h0:u 0=.pointer (some ⟨w.heap.size,0,none⟩):=hF.1
   have hcA:=LM0.out W hS
   clear hF
   unfold takes
   go_simp
   exact hK _ _ (.refl _ _) hS rfl
  ·intro W hS hF K hK
   have h1:u 1=.int .i64 a:=hF.1
   clear hF
   unfold takes
   go_simp
   refine (HA.out _).mono ?_
   rintro e wA ⟨rfl,hBA⟩
   exact ⟨_,rfl,hK _ _ hBA (hS.trans (hBA.mono hS.size)) rfl⟩
  ·intro W hS hF K hK
   unfold takes
   go_simp
   exact hK _ _ (.refl _ _) hS rfl
  ·intro W hS hF K hK
   have h3:u 3=.pointer (some ⟨w.heap.size+1,0,none⟩):=hF.1
   have hcB:=LM1.out W hS
   clear hF
   unfold takes
   go_simp
   exact hK _ _ (.refl _ _) hS rfl
  ·intro W hS hF K hK
   have h4:u 4=.int .i64 b:=hF.1
   clear hF
   unfold takes
   go_simp
   refine (HC.out _).mono ?_
   rintro e wA ⟨rfl,hBA⟩
   exact ⟨_,rfl,hK _ _ hBA (hS.trans (hBA.mono hS.size)) rfl⟩
  ·intro W hS hF K hK
   have h2:u 2=.int .u64 (a.natAbs:Int):=hF.1
   have h5:u 5=.int .u64 (b.natAbs:Int):=hF.2.1
   clear hF
   unfold takes
   go_simp
   refine (HM.out _).mono ?_
   rintro e wA ⟨rfl,rfl⟩
   exact ⟨_,rfl,hK _ _ (.refl _ _) hS rfl⟩
  ·intro W hS hF K hK
   have h6:u 6=.tuple #[.int .u64 0,.int .u64 (c.natAbs:Int)]:=hF.1
   clear hF
   unfold takes
   go_simp
   exact hK _ _ (.refl _ _) hS rfl
  ·intro W hS hF K hK
   have h7:u 7=.tuple #[.int .u64 0,.int .u64 (c.natAbs:Int)]:=hF.1
   clear hF
   unfold takes
   go_simp
   exact hK _ _ (.refl _ _) hS rfl
  ·intro W hS hF K hK
   have h7:u 7=.tuple #[.int .u64 0,.int .u64 (c.natAbs:Int)]:=hF.1
   clear hF
   unfold takes
   go_simp
   exact hK _ _ (.refl _ _) hS rfl
  ·intro W hS hF K hK
   have h8:u 8=.int .u64 0:=hF.1
   clear hF
   unfold takes
   go_simp
   exact hK _ _ (.refl _ _) hS rfl
  ·intro W hS hF K hK
   have h9:u 9=.int .u64 (c.natAbs:Int):=hF.1
   clear hF
   unfold takes
   go_simp
   exact hK _ _ (.refl _ _) hS rfl
 case hE =>
  intro u W1 hS hF
  have h10:u 10=.int .u64 0:=hF.2.2.2.2.2.2.2.2.2.2.1
  have h11:u 11=.int .u64 (c.natAbs:Int):=hF.2.2.2.2.2.2.2.2.2.2.2.1
  have cA:=LM0.out W1 hS
  have cB:=LM1.out W1 hS
  have hS1:=hid (hS0.out.call hS)
  clear hF hS
  obtain ⟨⟨cR0,cR1⟩,fR0,fR1⟩:=hS1.out.f2 0 (w.heap.size+1+1) 337 (.int .i64 0) (.pointer none) rfl
  refine wpList_frameW (r':=[]) rfl (a':={ tmps:=#[.agg #[.int .i64 a,.pointer none],.agg #[.int .i64 b,.pointer none],.pointer (some ⟨w.heap.size,0,none⟩),.pointer (some ⟨w.heap.size+1,0,none⟩),.pointer (some ⟨w.heap.size+1+1,0,none⟩),u 10,u 11,.pointer (some ⟨w.heap.size,1,none⟩),.pointer none,.bool true,.bool true,.pointer (some ⟨w.heap.size+1,1,none⟩),.pointer none,.bool true,.bool true,u 7,u 0,u 1,u 2,u 3,u 4,u 5,u 6,u 8,u 9,undef,undef,undef,undef,undef,undef,undef,undef,undef,undef,undef,undef,undef,undef,undef,undef,undef,undef],defers:=[] }) (by kernel_rfl) ?_
  rw [h10,h11]
  clear h10 h11
  have hlo:(c.natAbs:Int)<9223372036854775808:=by omega
  generalize (c.natAbs:Int)=lo at *
  generalize u 0=u0
  generalize u 1=u1
  generalize u 2=u2
  generalize u 3=u3
  generalize u 4=u4
  generalize u 5=u5
  generalize u 6=u6
  generalize u 7=u7
  generalize u 8=u8
  generalize u 9=u9
  have hw:wrap64 (a*b)=c:=by
   rw [← hab.out]
   unfold wrap64
   omega
  have hS2:=hid ((hS1.out.store0 (b:=⟨w.heap.size+1+1,337,[.int .i64 0,.pointer none]⟩) 0 0 (.int .i64 c) rfl).store0 (b:=⟨w.heap.size+1+1,337,[.int .i64 c,.pointer none]⟩) 0 1 (.pointer none) rfl)
  clear hS1
  go_wp2_with fail
  clear cA cB cR0 cR1 fR0 fR1
  obtain ⟨⟨z0,z1⟩,-⟩:=hS2.out.f2 0 (w.heap.size+1+1) 337 (.int .i64 c) (.pointer none) rfl
  exact bodyPost_ret (v:=.agg #[.int .i64 c,.pointer none]) (by simp [results,Tryz.results311,go_sem,z0,z1]) rfl ⟨rfl,hS2.out.bel⟩
theorem wNeg_calls (a:Int) (ha:-9223372036854775808<a) (ha':a<9223372036854775808) (w:World):Calls Tryz.prog 307 #[.agg #[.int .i64 a,.pointer none]] w (RetI w (.agg #[.int .i64 (-a),.pointer none])):=by
 have hb:=(((Below.refl w.heap.size w).alloc (Nat.le_refl _) (.cells #[.int .i64 a,.pointer none] 337)).alloc (by simp) (.cells #[.int .i64 (-a),.pointer none] 337))
 have HB:=hid hb
 clear hb
 go_enter Tryz.func307,Tryz.ntmps307
 go_wp2_with fail
 exact bodyPost_ret (v:=.agg #[.int .i64 (-a),.pointer none]) (by simp [results,Tryz.results307,go_sem]) rfl ⟨rfl,HB.out⟩
theorem wCmp_calls (a b:Int) (w:World):Calls Tryz.prog 305 #[.agg #[.int .i64 a,.pointer none],.agg #[.int .i64 b,.pointer none]] w (RetI w (.int .i64 (cmpW a b))):=by
 have hb:=(((Below.refl w.heap.size w).alloc (Nat.le_refl _) (.cells #[.int .i64 a,.pointer none] 337)).alloc (by simp) (.cells #[.int .i64 b,.pointer none] 337))
 have HB:=hid hb
 clear hb
 go_enter Tryz.func305,Tryz.ntmps305
 go_wp2_with fail
 refine (cmpInt_calls a b _).mono ?_
 rintro e w1 ⟨rfl,hB1⟩
 go_wp2_with fail
 go_ret
 exact ⟨rfl,HB.out.trans (hB1.mono HB.out.size)⟩
theorem wAdd_calls (a b:Int) (_ha:-9223372036854775808<a) (_ha':a<9223372036854775808) (hb:-9223372036854775808<b) (hb':b<9223372036854775808) (hc:-9223372036854775808<a+b) (hc':a+b<9223372036854775808) (w:World):Calls Tryz.prog 262 #[.agg #[.int .i64 a,.pointer none],.agg #[.int .i64 b,.pointer none]] w (RetI w (.agg #[.int .i64 (a+b),.pointer none])):=by
 have hB:=((((Below.refl w.heap.size w).alloc (Nat.le_refl _) (.cells #[.int .i64 a,.pointer none] 337)).alloc (by simp) (.cells #[.int .i64 b,.pointer none] 337)).alloc (by simp;omega) (.cells #[.int .i64 (a+b),.pointer none] 337))
 have HB:=hid hB
 clear hB
 go_enter Tryz.func262,Tryz.ntmps262
 go_wp2_with fail
 all_goals
  exact bodyPost_ret (v:=.agg #[.int .i64 (a+b),.pointer none]) (by simp [results,Tryz.results262,go_sem]) rfl ⟨rfl,HB.out⟩
end
namespace Rx.Ry
open Go.RowKit
def smW (a:Int):Bool:=decide (-9223372036854775808<a) && decide (a<9223372036854775808)
def w1 (fn:FuncId) (op:Int→Option SV):Con SM where
 fn:=fn
 app:=fun _ _ args=>match args with
  | [.e (.a [.it .i64 a,.nilp])]=>bif smW a then (match op a with
   | some v=>some (v,[])
   | none=>none) else none
  | _=>none
def w2 (fn:FuncId) (op:Int→Int→Option SV):Con SM where
 fn:=fn
 app:=fun _ _ args=>match args with
  | [.e (.a [.it .i64 a,.nilp]),.e (.a [.it .i64 b,.nilp])]=>bif smW a && smW b then (match op a b with
   | some v=>some (v,[])
   | none=>none) else none
  | _=>none
def wR (c:Int):Option SV:=bif smW c then some (.e (.a [.it .i64 c,.nilp])) else none
def wI (c:Int):Option SV:=some (.e (.s (.it .i64 c)))
theorem smW_ok {a:Int} (h:smW a=true):-9223372036854775808<a∧a<9223372036854775808:=by
 simp only [smW,Bool.and_eq_true,decide_eq_true_eq] at h
 exact h
theorem wR_ok {c:Int} {v:SV} (h:wR c=some v):(-9223372036854775808<c∧c<9223372036854775808)∧v=.e (.a [.it .i64 c,.nilp]):=by
 unfold wR at h
 cases hs:smW c with
 | false=>rw [hs] at h;cases h
 | true=>rw [hs] at h;cases h;exact ⟨smW_ok hs,rfl⟩
theorem w1_ok {fn:FuncId} {op:Int→Option SV} (h:∀ a v,op a=some v→-9223372036854775808<a→a<9223372036854775808→∀ (ρ:Env) W,Calls Tryz.prog fn #[.agg #[.int .i64 a,.pointer none]] W (RetI W (v.den ρ))):(w1 fn op).Ok Tryz.prog SM EV:=by
 refine Con.ok0 rfl ?_
 intro db b args res new ha ρ W hf hE
 simp only [w1] at ha
 split at ha
 ·rename_i a
  obtain ⟨hg,ha⟩:=guard_some (α:=SV×List Fm) ha
  split at ha
  ·rename_i v hv
   cases ha
   exact (h a _ hv (smW_ok hg).1 (smW_ok hg).2 ρ W).mono fun e W' ⟨he,hb⟩=>⟨ρ,fun _ _=>rfl,he,hb,fun f hf=>by cases hf⟩
  ·cases ha
 ·cases ha
theorem w2_ok {fn:FuncId} {op:Int→Int→Option SV} (h:∀ a b v,op a b=some v→-9223372036854775808<a→a<9223372036854775808→-9223372036854775808<b→b<9223372036854775808→∀ (ρ:Env) W,Calls Tryz.prog fn #[.agg #[.int .i64 a,.pointer none],.agg #[.int .i64 b,.pointer none]] W (RetI W (v.den ρ))):(w2 fn op).Ok Tryz.prog SM EV:=by
 refine Con.ok0 rfl ?_
 intro db b args res new ha ρ W hf hE
 simp only [w2] at ha
 split at ha
 ·rename_i a c
  obtain ⟨hg,ha⟩:=guard_some (α:=SV×List Fm) ha
  simp only [Bool.and_eq_true] at hg
  split at ha
  ·rename_i v hv
   cases ha
   exact (h a c _ hv (smW_ok hg.1).1 (smW_ok hg.1).2 (smW_ok hg.2).1 (smW_ok hg.2).2 ρ W).mono fun e W' ⟨he,hb⟩=>⟨ρ,fun _ _=>rfl,he,hb,fun f hf=>by cases hf⟩
  ·cases ha
 ·cases ha
def wMul:Con SM:=w2 311 fun a b=>wR (a*b)
def wAdd:Con SM:=w2 262 fun a b=>wR (a+b)
def wNeg:Con SM:=w1 307 fun a=>wR (-a)
def wSign:Con SM:=w1 271 fun a=>wI (cmpW a 0)
def wCmp:Con SM:=w2 305 fun a b=>wI (cmpW a b)
theorem wMul_ok:wMul.Ok Tryz.prog SM EV:=w2_ok fun a b v h h1 h2 h3 h4 ρ W=>by
 obtain ⟨⟨h5,h6⟩,rfl⟩:=wR_ok h
 exact wMul_calls a b h1 h2 h3 h4 h5 h6 W
theorem wAdd_ok:wAdd.Ok Tryz.prog SM EV:=w2_ok fun a b v h h1 h2 h3 h4 ρ W=>by
 obtain ⟨⟨h5,h6⟩,rfl⟩:=wR_ok h
 exact wAdd_calls a b h1 h2 h3 h4 h5 h6 W
theorem wNeg_ok:wNeg.Ok Tryz.prog SM EV:=w1_ok fun a v h h1 h2 ρ W=>by
 obtain ⟨-,rfl⟩:=wR_ok h
 exact wNeg_calls a h1 h2 W
theorem wSign_ok:wSign.Ok Tryz.prog SM EV:=w1_ok fun a v h _ _ ρ W=>by
 obtain rfl:=Option.some.inj h
 exact wSign_calls a W
theorem wCmp_ok:wCmp.Ok Tryz.prog SM EV:=w2_ok fun a b v h _ _ _ _ ρ W=>by
 obtain rfl:=Option.some.inj h
 exact wCmp_calls a b W
def wq:List (Con SM):=wMul :: wAdd :: wSign :: wNeg :: wCmp :: kq
theorem wq_ok:∀ c∈wq,c.Ok Tryz.prog SM EV:=cons_ok wMul_ok (cons_ok wAdd_ok (cons_ok wSign_ok (cons_ok wNeg_ok (cons_ok wCmp_ok kq_ok))))
end Rx.Ry
end Go.Proofs.YtioogdcgllajmaaGreatDoor
