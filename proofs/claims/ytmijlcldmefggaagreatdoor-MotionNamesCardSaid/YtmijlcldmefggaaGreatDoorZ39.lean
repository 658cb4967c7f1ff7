/- What the proof rests on, part 39. -/
import Derived.Test.YtmijlcldmefggaaGreatDoorZ38
namespace Go.Proofs.YtmijlcldmefggaaGreatDoor
set_option maxRecDepth 100000
set_option maxHeartbeats 80000000
section
open Go.RowKit
theorem wpList_frameW {P:Program} {ops:Array Oper} {Q:Exit→Act→World→Prop} {r r':List Oper} {a a':Act} {W:World} (hr:r=r') (ha:a=a') (h:wpList P ops Q r' a' W):wpList P ops Q r a W:=by
 subst hr ha
 exact h
theorem St.store0 {w W:World} {bs:List Bk} (h:St w bs [] W) (k i:Nat) (u:Value) {b:Bk} (hk:bs[k]? = some b):St w (setBk bs k i u) [] (W.setCell ⟨b.pos,i,none⟩ u):=by
 obtain ⟨h1,h2⟩:=h.box.get hk
 exact ⟨h.bel.setCell h1 u,h.box.set i u hk,trivial⟩
def cmpW (a b:Int):Int:=if a<b then -1 else if b<a then 1 else 0
theorem nanInt_calls (a:Int) (w:World):Calls Tryz.prog 409 #[.int .i64 a] w (RetI w (.bool false)):=by
 go_enter Tryz.func409,Tryz.ntmps409
 go_wp2_with fail
 go_ret
 exact ⟨by simp,Below.refl _ _⟩
theorem cmpInt_calls (a b:Int) (w:World):Calls Tryz.prog 389 #[.int .i64 a,.int .i64 b] w (RetI w (.int .i64 (cmpW a b))):=by
 go_enter Tryz.func389,Tryz.ntmps389
 go_wp2_with fail
 refine (nanInt_calls a _).mono ?_
 rintro e w1 ⟨rfl,hB1⟩
 go_wp2_with fail
 refine (nanInt_calls b _).mono ?_
 rintro e w2 ⟨rfl,hB2⟩
 have HB:=hid (hB1.trans (hB2.mono hB1.size))
 clear hB1 hB2
 go_wp2_with fail
 all_goals
  go_ret
  refine ⟨congrArg (fun x=>Ending.returned (Value.int .i64 x)) ?_,HB.out⟩
  unfold cmpW
  repeat' split
  all_goals omega
theorem wSign_calls (a:Int) (w:World):Calls Tryz.prog 356 #[.agg #[.int .i64 a,.pointer none]] w (RetI w (.int .i64 (cmpW a 0))):=by
 have hb:=(Below.refl w.heap.size w).alloc (Nat.le_refl _) (.cells #[.int .i64 a,.pointer none] 436)
 have HB:=hid hb
 clear hb
 go_enter Tryz.func356,Tryz.ntmps356
 go_wp2_with fail
 refine (cmpInt_calls a 0 _).mono ?_
 rintro e w1 ⟨rfl,hB1⟩
 go_wp2_with fail
 go_ret
 exact ⟨rfl,HB.out.trans (hB1.mono HB.out.size)⟩
theorem size_calls (a:Int) (ha:-9223372036854775808<a) (ha':a<9223372036854775808) (w:World):Calls Tryz.prog 421 #[.int .i64 a] w (RetI w (.int .u64 (a.natAbs:Int))):=by
 go_enter Tryz.func421,Tryz.ntmps421
 go_wp2_with fail
 all_goals
  go_ret
  refine ⟨congrArg (fun x=>Ending.returned (Value.int .u64 x)) ?_,Below.refl _ _⟩
  omega
theorem wMul_calls (a b:Int) (ha:-9223372036854775808<a) (ha':a<9223372036854775808) (hb:-9223372036854775808<b) (hb':b<9223372036854775808) (hc:-9223372036854775808<a*b) (hc':a*b<9223372036854775808) (w:World):Calls Tryz.prog 419 #[.agg #[.int .i64 a,.pointer none],.agg #[.int .i64 b,.pointer none]] w (RetI w (.agg #[.int .i64 (a*b),.pointer none])):=by
 have hM:mulH a.natAbs b.natAbs=0∧mulL a.natAbs b.natAbs=(a*b).natAbs:=by
  unfold mulH mulL B64
  rw [← Int.natAbs_mul]
  constructor <;> omega
 have HA:=hid (fun W=>size_calls a ha ha' W)
 have HC:=hid (fun W=>size_calls b hb hb' W)
 have HM:=hid (fun W=>Mul64_calls a.natAbs b.natAbs (by unfold B64;omega) (by unfold B64;omega) W)
 rw [hM.1,hM.2] at HM
 obtain ⟨c,hab⟩:∃ c,c=a*b:=⟨_,rfl⟩
 rw [← hab] at hc hc' HM ⊢
 replace hab:=hid hab
 clear hM ha ha' hb hb'
 go_enter Tryz.func419,Tryz.ntmps419
 go_wp2_with fail
 have hS0:=hid ((((St.start w).alloc' (w.heap.size) (by simp) 436 [.int .i64 a,.pointer none]).alloc' (w.heap.size+1) (by simp) 436 [.int .i64 b,.pointer none]).alloc' (w.heap.size+1+1) (by simp) 436 [.int .i64 0,.pointer none])
 obtain ⟨W0,hW0⟩:=nameW hS0
 rw [hW0] at hS0 ⊢
 clear hW0
 have LM0:=hid (fun (W:World) (h:Below W0.heap.size W0 W)=>((hS0.out.call h).f2 2 w.heap.size 436 (.int .i64 a) (.pointer none) rfl).1)
 have LM1:=hid (fun (W:World) (h:Below W0.heap.size W0 W)=>((hS0.out.call h).f2 1 (w.heap.size+1) 436 (.int .i64 b) (.pointer none) rfl).1)
 refine wp_region_inv 12 [⟨[],[0]⟩,⟨[0],[1]⟩,⟨[1],[2]⟩,⟨[],[3]⟩,⟨[3],[4]⟩,⟨[4],[5]⟩,⟨[2,5],[6]⟩,⟨[6],[7]⟩,⟨[7],[8]⟩,⟨[7],[9]⟩,⟨[8],[10]⟩,⟨[9],[11]⟩]
  [oE (.pointer (some ⟨w.heap.size,0,none⟩)),oE (.int .i64 a),oE (.int .u64 (a.natAbs:Int)),oE (.pointer (some ⟨w.heap.size+1,0,none⟩)),oE (.int .i64 b),oE (.int .u64 (b.natAbs:Int)),oE (.tuple #[.int .u64 0,.int .u64 (c.natAbs:Int)]),oE (.tuple #[.int .u64 0,.int .u64 (c.natAbs:Int)]),oE (.int .u64 0),oE (.int .u64 (c.natAbs:Int)),oE (.int .u64 0),oE (.int .u64 (c.natAbs:Int))]
  (fun _ W=>Below W0.heap.size W0 W) (by kernel_rfl) (by kernel_rfl) ?hT ?hZ ?hO ?hE
 case hZ=>exact (Below.refl _ _).drew
 case hT =>
  simp only [List.forall_mem_cons,List.not_mem_nil,false_imp_iff,implies_true,and_true]
  exact ⟨bE,bE,bE,bE,bE,bE,bE,bE,bE,bE,bE,bE⟩
 case hO =>
  intro u
  simp only [List.take_succ_cons,List.take_zero,putAll]
  repeat' (first | with_reducible exact debts_nil | with_reducible refine debts_cons ?_ ?_)
  ·intro W hS hF K hK
   unfold takes
   go_simp
   exact hK _ _ (.refl _ _) hS rfl
  ·intro W hS hF K hK
   have h0:u 0=.pointer (some ⟨w.heap.size,0,none⟩):=hF.1
   have hcA:=LM0.out W hS
   clear hF
   unfold takes
   go_simp
   exact hK _ _ (.refl _ _) hS rfl
  ·intro W hS hF K hK
   have h1:u 1=.int .i64 a:=hF.1
   clear hF
   unfold takes
   go_simp
   refine (HA.out _).mono ?_
   rintro e wA ⟨rfl,hBA⟩
   exact ⟨_,rfl,hK _ _ hBA (hS.trans (hBA.mono hS.size)) rfl⟩
  ·intro W hS hF K hK
   unfold takes
   go_simp
   exact hK _ _ (.refl _ _) hS rfl
  ·intro W hS hF K hK
   have h3:u 3=.pointer (some ⟨w.heap.size+1,0,none⟩):=hF.1
   have hcB:=LM1.out W hS
   clear hF
   unfold takes
   go_simp
   exact hK _ _ (.refl _ _) hS rfl
  ·intro W hS hF K hK
   have h4:u 4=.int .i64 b:=hF.1
   clear hF
   unfold takes
   go_simp
   refine (HC.out _).mono ?_
   rintro e wA ⟨rfl,hBA⟩
   exact ⟨_,rfl,hK _ _ hBA (hS.trans (hBA.mono hS.size)) rfl⟩
  ·intro W hS hF K hK
   have h2:u 2=.int .u64 (a.natAbs:Int):=hF.1
   have h5:u 5=.int .u64 (b.natAbs:Int):=hF.2.1
   clear hF
   unfold takes
   go_simp
   refine (HM.out _).mono ?_
   rintro e wA ⟨rfl,rfl⟩
   exact ⟨_,rfl,hK _ _ (.refl _ _) hS rfl⟩
  ·intro W hS hF K hK
   have h6:u 6=.tuple #[.int .u64 0,.int .u64 (c.natAbs:Int)]:=hF.1
   clear hF
   unfold takes
   go_simp
   exact hK _ _ (.refl _ _) hS rfl
  ·intro W hS hF K hK
   have h7:u 7=.tuple #[.int .u64 0,.int .u64 (c.natAbs:Int)]:=hF.1
   clear hF
   unfold takes
   go_simp
   exact hK _ _ (.refl _ _) hS rfl
  ·intro W hS hF K hK
   have h7:u 7=.tuple #[.int .u64 0,.int .u64 (c.natAbs:Int)]:=hF.1
   clear hF
   unfold takes
   go_simp
   exact hK _ _ (.refl _ _) hS rfl
  ·intro W hS hF K hK
   have h8:u 8=.int .u64 0:=hF.1
   clear hF
   unfold takes
   go_simp
   exact hK _ _ (.refl _ _) hS rfl
  ·intro W hS hF K hK
   have h9:u 9=.int .u64 (c.natAbs:Int):=hF.1
   clear hF
   unfold takes
   go_simp
   exact hK _ _ (.refl _ _) hS rfl
 case hE =>
  intro u W1 hS hF
  have h10:u 10=.int .u64 0:=hF.2.2.2.2.2.2.2.2.2.2.1
  have h11:u 11=.int .u64 (c.natAbs:Int):=hF.2.2.2.2.2.2.2.2.2.2.2.1
  have cA:=LM0.out W1 hS
  have cB:=LM1.out W1 hS
  have hS1:=hid (hS0.out.call hS)
  clear hF hS
  obtain ⟨⟨cR0,cR1⟩,fR0,fR1⟩:=hS1.out.f2 0 (w.heap.size+1+1) 436 (.int .i64 0) (.pointer none) rfl
  refine wpList_frameW (r':=[]) rfl (a':={ tmps:=#[.agg #[.int .i64 a,.pointer none],.agg #[.int .i64 b,.pointer none],.pointer (some ⟨w.heap.size,0,none⟩),.pointer (some ⟨w.heap.size+1,0,none⟩),.pointer (some ⟨w.heap.size+1+1,0,none⟩),u 10,u 11,.pointer (some ⟨w.heap.size,1,none⟩),.pointer none,.bool true,.bool true,.pointer (some ⟨w.heap.size+1,1,none⟩),.pointer none,.bool true,.bool true,u 7,u 0,u 1,u 2,u 3,u 4,u 5,u 6,u 8,u 9,undef,undef,undef,undef,undef,undef,undef,undef,undef,undef,undef,undef,undef,undef,undef,undef,undef,undef],defers:=[] }) (by kernel_rfl) ?_
  rw [h10,h11]
  clear h10 h11
  have hlo:(c.natAbs:Int)<9223372036854775808:=by omega
  generalize (c.natAbs:Int)=lo at *
  generalize u 0=u0
  generalize u 1=u1
  generalize u 2=u2
  generalize u 3=u3
  generalize u 4=u4
  generalize u 5=u5
  generalize u 6=u6
  generalize u 7=u7
  generalize u 8=u8
  generalize u 9=u9
  have hw:wrap64 (a*b)=c:=by
   rw [← hab.out]
   unfold wrap64
   omega
  have hS2:=hid ((hS1.out.store0 (b:=⟨w.heap.size+1+1,436,[.int .i64 0,.pointer none]⟩) 0 0 (.int .i64 c) rfl).store0 (b:=⟨w.heap.size+1+1,436,[.int .i64 c,.pointer none]⟩) 0 1 (.pointer none) rfl)
  clear hS1
  go_wp2_with fail
  clear cA cB cR0 cR1 fR0 fR1
  obtain ⟨⟨z0,z1⟩,-⟩:=hS2.out.f2 0 (w.heap.size+1+1) 436 (.int .i64 c) (.pointer none) rfl
  exact bodyPost_ret (v:=.agg #[.int .i64 c,.pointer none]) (by simp [results,Tryz.results419,go_sem,z0,z1]) rfl ⟨rfl,hS2.out.bel⟩
theorem wNeg_calls (a:Int) (ha:-9223372036854775808<a) (ha':a<9223372036854775808) (w:World):Calls Tryz.prog 363 #[.agg #[.int .i64 a,.pointer none]] w (RetI w (.agg #[.int .i64 (-a),.pointer none])):=by
 have hb:=(((Below.refl w.heap.size w).alloc (Nat.le_refl _) (.cells #[.int .i64 a,.pointer none] 436)).alloc (by simp) (.cells #[.int .i64 (-a),.pointer none] 436))
 have HB:=hid hb
 clear hb
 go_enter Tryz.func363,Tryz.ntmps363
 go_wp2_with fail
 exact bodyPost_ret (v:=.agg #[.int .i64 (-a),.pointer none]) (by simp [results,Tryz.results363,go_sem]) rfl ⟨rfl,HB.out⟩
theorem wCmp_calls (a b:Int) (w:World):Calls Tryz.prog 408 #[.agg #[.int .i64 a,.pointer none],.agg #[.int .i64 b,.pointer none]] w (RetI w (.int .i64 (cmpW a b))):=by
 have hb:=(((Below.refl w.heap.size w).alloc (Nat.le_refl _) (.cells #[.int .i64 a,.pointer none] 436)).alloc (by simp) (.cells #[.int .i64 b,.pointer none] 436))
 have HB:=hid hb
 clear hb
 go_enter Tryz.func408,Tryz.ntmps408
 go_wp2_with fail
 refine (cmpInt_calls a b _).mono ?_
 rintro e w1 ⟨rfl,hB1⟩
 go_wp2_with fail
 go_ret
 exact ⟨rfl,HB.out.trans (hB1.mono HB.out.size)⟩
theorem wAdd_calls (a b:Int) (_ha:-9223372036854775808<a) (_ha':a<9223372036854775808) (hb:-9223372036854775808<b) (hb':b<9223372036854775808) (hc:-9223372036854775808<a+b) (hc':a+b<9223372036854775808) (w:World):Calls Tryz.prog 385 #[.agg #[.int .i64 a,.pointer none],.agg #[.int .i64 b,.pointer none]] w (RetI w (.agg #[.int .i64 (a+b),.pointer none])):=by
 have hB:=((((Below.refl w.heap.size w).alloc (Nat.le_refl _) (.cells #[.int .i64 a,.pointer none] 436)).alloc (by simp) (.cells #[.int .i64 b,.pointer none] 436)).alloc (by simp;omega) (.cells #[.int .i64 (a+b),.pointer none] 436))
 have HB:=hid hB
 clear hB
 go_enter Tryz.func385,Tryz.ntmps385
 go_wp2_with fail
 all_goals
  exact bodyPost_ret (v:=.agg #[.int .i64 (a+b),.pointer none]) (by simp [results,Tryz.results385,go_sem]) rfl ⟨rfl,HB.out⟩
end
namespace Rx.Ry
open Go.RowKit
def smW (a:Int):Bool:=decide (-9223372036854775808<a) && decide (a<9223372036854775808)
def w1 (fn:FuncId) (op:Int→Option SV):Con SM where
 fn:=fn
 app:=fun _ _ args=>match args with
  | [.e (.a [.it .i64 a,.nilp])]=>bif smW a then (match op a with
   | some v=>some (v,[])
   | none=>none) else none
  | _=>none
def w2 (fn:FuncId) (op:Int→Int→Option SV):Con SM where
 fn:=fn
 app:=fun _ _ args=>match args with
  | [.e (.a [.it .i64 a,.nilp]),.e (.a [.it .i64 b,.nilp])]=>bif smW a && smW b then (match op a b with
   | some v=>some (v,[])
   | none=>none) else none
  | _=>none
def wR (c:Int):Option SV:=bif smW c then some (.e (.a [.it .i64 c,.nilp])) else none
def wI (c:Int):Option SV:=some (.e (.s (.it .i64 c)))
theorem smW_ok {a:Int} (h:smW a=true):-9223372036854775808<a∧a<9223372036854775808:=by
 simp only [smW,Bool.and_eq_true,decide_eq_true_eq] at h
 exact h
theorem wR_ok {c:Int} {v:SV} (h:wR c=some v):(-9223372036854775808<c∧c<9223372036854775808)∧v=.e (.a [.it .i64 c,.nilp]):=by
 unfold wR at h
 cases hs:smW c with
 | false=>rw [hs] at h;cases h
 | true=>rw [hs] at h;cases h;exact ⟨smW_ok hs,rfl⟩
theorem w1_ok {fn:FuncId} {op:Int→Option SV} (h:∀ a v,op a=some v→-9223372036854775808<a→a<9223372036854775808→∀ (ρ:Env) W,Calls Tryz.prog fn #[.agg #[.int .i64 a,.pointer none]] W (RetI W (v.den ρ))):(w1 fn op).Ok Tryz.prog SM EV:=by
 refine Con.ok0 rfl ?_
 intro db b args res new ha ρ W hf hE
 simp only [w1] at ha
 split at ha
 ·rename_i a
  obtain ⟨hg,ha⟩:=guard_some (α:=SV×List Fm) ha
  split at ha
  ·rename_i v hv
   cases ha
   exact (h a _ hv (smW_ok hg).1 (smW_ok hg).2 ρ W).mono fun e W' ⟨he,hb⟩=>⟨ρ,fun _ _=>rfl,he,hb,fun f hf=>by cases hf⟩
  ·cases ha
 ·cases ha
theorem w2_ok {fn:FuncId} {op:Int→Int→Option SV} (h:∀ a b v,op a b=some v→-9223372036854775808<a→a<9223372036854775808→-9223372036854775808<b→b<9223372036854775808→∀ (ρ:Env) W,Calls Tryz.prog fn #[.agg #[.int .i64 a,.pointer none],.agg #[.int .i64 b,.pointer none]] W (RetI W (v.den ρ))):(w2 fn op).Ok Tryz.prog SM EV:=by
 refine Con.ok0 rfl ?_
 intro db b args res new ha ρ W hf hE
 simp only [w2] at ha
 split at ha
 ·rename_i a c
  obtain ⟨hg,ha⟩:=guard_some (α:=SV×List Fm) ha
  simp only [Bool.and_eq_true] at hg
  split at ha
  ·rename_i v hv
   cases ha
   exact (h a c _ hv (smW_ok hg.1).1 (smW_ok hg.1).2 (smW_ok hg.2).1 (smW_ok hg.2).2 ρ W).mono fun e W' ⟨he,hb⟩=>⟨ρ,fun _ _=>rfl,he,hb,fun f hf=>by cases hf⟩
  ·cases ha
 ·cases ha
def wMul:Con SM:=w2 419 fun a b=>wR (a*b)
def wAdd:Con SM:=w2 385 fun a b=>wR (a+b)
def wNeg:Con SM:=w1 363 fun a=>wR (-a)
def wSign:Con SM:=w1 356 fun a=>wI (cmpW a 0)
def wCmp:Con SM:=w2 408 fun a b=>wI (cmpW a b)
theorem wMul_ok:wMul.Ok Tryz.prog SM EV:=w2_ok fun a b v h h1 h2 h3 h4 ρ W=>by
 obtain ⟨⟨h5,h6⟩,rfl⟩:=wR_ok h
 exact wMul_calls a b h1 h2 h3 h4 h5 h6 W
theorem wAdd_ok:wAdd.Ok Tryz.prog SM EV:=w2_ok fun a b v h h1 h2 h3 h4 ρ W=>by
 obtain ⟨⟨h5,h6⟩,rfl⟩:=wR_ok h
 exact wAdd_calls a b h1 h2 h3 h4 h5 h6 W
theorem wNeg_ok:wNeg.Ok Tryz.prog SM EV:=w1_ok fun a v h h1 h2 ρ W=>by
 obtain ⟨-,rfl⟩:=wR_ok h
 exact wNeg_calls a h1 h2 W
theorem wSign_ok:wSign.Ok Tryz.prog SM EV:=w1_ok fun a v h _ _ ρ W=>by
 obtain rfl:=Option.some.inj h
 exact wSign_calls a W
theorem wCmp_ok:wCmp.Ok Tryz.prog SM EV:=w2_ok fun a b v h _ _ _ _ ρ W=>by
 obtain rfl:=Option.some.inj h
 exact wCmp_calls a b W
def wq:List (Con SM):=wMul :: wAdd :: wSign :: wNeg :: wCmp :: kq
theorem wq_ok:∀ c∈wq,c.Ok Tryz.prog SM EV:=cons_ok wMul_ok (cons_ok wAdd_ok (cons_ok wSign_ok (cons_ok wNeg_ok (cons_ok wCmp_ok kq_ok))))
end Rx.Ry
namespace Rx.Ry
open Go.RowKit
def nn (n d:Nat):List Cell:=[.bl false,.it .u64 (.ofNat n),.nils,.it .u64 (.ofNat d),.nils]
def nm (n d:Nat):List Cell:=[.bl true,.it .u64 (.ofNat n),.nils,.it .u64 (.ofNat d),.nils]
def p3:List Nat:=[0,0,0]
def p5:List Nat:=[0,1,0,1,0]
def p10:List Nat:=[0,1,0,1,0,0,1,0,1,0]
end Rx.Ry
end Go.Proofs.YtmijlcldmefggaaGreatDoor
